import Derived.StillTailTactics
import Derived.Test.YtghogbngmcolmaaGreatSbd
namespace Go.Proofs.YtghogbngmcolmaaGreat
open Go.RowKit
open Tr (Fo Nd)
open Mo (Wh Mt)
open Mv (Me Bk)
open Kn (Pr Kp St us KB KJ VI EI)
namespace Kn
def bornA (s : St) (n mb bb : Nat) (x : Pr) : St := { s with A := fun i => if i = 9 + n then mb else if i = 29 + n then bb else s.A i, k := s.k.put n x }
theorem bornA_m (s : St) (n mb bb : Nat) (x : Pr) : (bornA s n mb bb x).A (9 + n) = mb := if_pos rfl
theorem bornA_b (s : St) (n mb bb : Nat) (x : Pr) : (bornA s n mb bb x).A (29 + n) = bb := (if_neg (by omega)).trans (if_pos rfl)
theorem bornA_o (s : St) (n mb bb : Nat) (x : Pr) {i : Nat} (h1 : i ≠ 9 + n) (h2 : i ≠ 29 + n) : (bornA s n mb bb x).A i = s.A i := (if_neg h1).trans (if_neg h2)
theorem us_born {s : St} {n mb bb : Nat} {x : Pr} {i : Nat} (hi : us (bornA s n mb bb x) i) : i = 9 + n ∨ i = 29 + n ∨ (us s i ∧ i ≠ 9 + n ∧ i ≠ 29 + n) := by
  by_cases c1 : i = 9 + n
  · exact .inl c1
  · by_cases c2 : i = 29 + n
    · exact .inr (.inl c2)
    · refine .inr (.inr ⟨?_, c1, c2⟩)
      rcases hi with hi | ⟨h1, h2, h3⟩ | ⟨h1, h2, h3⟩ | ⟨h1, h2, h3⟩ | ⟨h1, h2, h3, h4⟩
      · exact .inl hi
      · have h5 : ((s.k.put n x).p (i - 9)).has = true := h3
        rw [put_ne _ _ _ _ (by omega)] at h5
        exact .inr (.inl ⟨h1, h2, h5⟩)
      · have h5 : ((s.k.put n x).p (i - 29)).has = true := h3
        rw [put_ne _ _ _ _ (by omega)] at h5
        exact .inr (.inr (.inl ⟨h1, h2, h5⟩))
      · exact .inr (.inr (.inr (.inl ⟨h1, h2, h3⟩)))
      · exact .inr (.inr (.inr (.inr ⟨h1, h2, h3, h4⟩)))
theorem kc_born (s : St) (n mb bb : Nat) (x : Pr) (hn : n < 20) (o : Nat) (ho : o < 253) : kc (bornA s n mb bb x) o = if o < 240 ∧ o / 12 = n then pcx mb bb x (o % 12) else kc s o := by
  unfold kc
  by_cases c : o < 240
  · rw [if_pos c, if_pos c]
    unfold pc
    by_cases e : o / 12 = n
    · rw [if_pos ⟨c, e⟩, e, bornA_m, bornA_b]
      show pcx mb bb ((s.k.put n x).p n) _ = _
      rw [put_same]
    · rw [if_neg (fun q => e q.2), bornA_o _ _ _ _ _ (by omega) (by omega), bornA_o _ _ _ _ _ (by omega) (by omega)]
      show pcx _ _ ((s.k.put n x).p (o / 12)) _ = _
      rw [put_ne _ _ _ _ e]
  · have c' : ¬ (o < 240 ∧ o / 12 = n) := fun q => c q.1
    rw [if_neg c, if_neg c', if_neg c]
    by_cases c2 : o < 246
    · rw [if_pos c2, if_pos c2, bornA_o _ _ _ _ _ (by omega) (by omega)]; rfl
    · rw [if_neg c2, if_neg c2]
      by_cases c3 : o < 250
      · rw [if_pos c3, if_pos c3, bornA_o _ _ _ _ _ (by omega) (by omega)]
      · rw [if_neg c3, if_neg c3, bornA_o _ _ _ _ _ (by omega) (by omega)]
end Kn
section
variable {w w' : World} {base : Nat} {s : St}
theorem KKt.born (h : KKt w base s) {n mb bb : Nat} (hn : n < 20) {x : Pr} (um : UAt w mb (s.A 4) x.mem) (ub : CX w bb x.box) (am : ∀ i, us s i → s.A i ≠ mb) (ab : ∀ i, us s i → s.A i ≠ bb) (mn : mb ≠ bb) (lm : base ≤ mb) (lb : base ≤ bb) :
    KKt (w.setCells (s.A 0) (n * 12) (prA mb bb x).toList) base (Kn.bornA s n mb bb x) ∧ Frm (s.A 0) w (w.setCells (s.A 0) (n * 12) (prA mb bb x).toList) := by
  obtain ⟨C, e, sz⟩ := h.ker
  obtain ⟨C', e', sz'⟩ := heap_setCells_blk (s.A 0) (prA mb bb x).toList (n * 12) w C e
  have hl : (prA mb bb x).toList.length = 12 := by rw [Array.length_toList, prA_size]
  have f : Frm (s.A 0) w (w.setCells (s.A 0) (n * 12) (prA mb bb x).toList) := Frm.setCells _ _ (Frm.refl _ _)
  have cel : ∀ o, o < 253 → (w.setCells (s.A 0) (n * 12) (prA mb bb x).toList).cell? ⟨s.A 0, o, none⟩ = some (Kn.kc (Kn.bornA s n mb bb x) o) := fun o ho => by
    rw [Kn.kc_born s n mb bb x hn o ho]
    by_cases c : o < 240 ∧ o / 12 = n
    · rw [if_pos c]
      obtain ⟨j, rfl, hj⟩ : ∃ j, o = n * 12 + j ∧ j < 12 := ⟨o % 12, by omega, by omega⟩
      rw [World.cell?_setCells_in (s.A 0) (prA mb bb x).toList (n * 12) w (fun i hi => by rw [hl] at hi; rw [h.cP n i hn hi]; rfl) j (by omega), ← List.getElem?_eq_getElem (by omega), Array.getElem?_toList, prA_at mb bb x j hj, show (n * 12 + j) % 12 = j by omega]
    · rw [if_neg c, World.cell?_setCells_out (s.A 0) _ (n * 12) w ⟨s.A 0, o, none⟩ (fun _ _ => by rw [hl]; show o < _ ∨ _ ≤ o; omega)]
      exact h.cel o ho
  have o := h.others (us9 (by omega)) f
  have A9 : ∀ i, i < 9 → (Kn.bornA s n mb bb x).A i = s.A i := fun i hi => Kn.bornA_o _ _ _ _ _ (by omega) (by omega)
  have pj : ∀ j, j ≠ n → (Kn.bornA s n mb bb x).k.p j = s.k.p j := fun j c => Kn.put_ne _ _ _ _ c
  have pn : (Kn.bornA s n mb bb x).k.p n = x := Kn.put_same _ _ _
  have um' : UAt (w.setCells (s.A 0) (n * 12) (prA mb bb x).toList) mb (s.A 4) x.mem := um.same (f.block _ um.lt (am 0 (us9 (by omega))).symm)
  have ub' : CX (w.setCells (s.A 0) (n * 12) (prA mb bb x).toList) bb x.box := ub.same (f.block _ ub.lt (ab 0 (us9 (by omega))).symm)
  refine ⟨⟨⟨C', by rw [A9 0 (by omega)]; exact e', by omega⟩, fun i hi => by rw [A9 0 (by omega)]; exact cel i hi, by rw [A9 1 (by omega)]; exact h.sp.same (o 1 (us9 (by omega)) (by omega)), by rw [A9 2 (by omega)]; exact (o 2 (us9 (by omega)) (by omega)).trans h.gr, by rw [A9 3 (by omega)]; exact h.sc.same (o 3 (us9 (by omega)) (by omega)), by rw [A9 4 (by omega), A9 5 (by omega)]; exact h.bk.same (o 4 (us9 (by omega)) (by omega)) (o 5 (us9 (by omega)) (by omega)), by rw [A9 8 (by omega), A9 6 (by omega), A9 7 (by omega)]; exact h.fi.same (o 8 (us9 (by omega)) (by omega)), by rw [A9 6 (by omega)]; exact h.fo.same (o 6 (us9 (by omega)) (by omega)), by rw [A9 7 (by omega)]; exact h.pi.same (o 7 (us9 (by omega)) (by omega)),
    fun j hj jh => ?_, fun j hj jh => ?_, fun j hj hh => ?_, fun j hj hh g eg => ?_, fun i j hi hj eq => ?_, fun i hi => ?_⟩, f⟩
  · by_cases c : j = n
    · subst c
      rw [Kn.bornA_m, A9 4 (by omega), pn]; exact um'
    · rw [pj j c] at jh ⊢
      rw [Kn.bornA_o _ _ _ _ _ (by omega) (by omega), A9 4 (by omega)]
      exact (h.me j hj jh).same (o _ (Kn.us_m hj jh) (by omega))
  · by_cases c : j = n
    · subst c
      rw [Kn.bornA_b, pn]; exact ub'
    · rw [pj j c] at jh ⊢
      rw [Kn.bornA_o _ _ _ _ _ (by omega) (by omega)]
      exact (h.bx j hj jh).same (o _ (Kn.us_b hj jh) (by omega))
  · rw [Kn.bornA_o _ _ _ _ _ (by omega) (by omega), A9 6 (by omega)]
    exact (h.tb j hj hh).same (o _ (Kn.us_t hj hh) (by omega)) (fun g eg => by have := o _ (Kn.us_r hj hh eg) (by omega); rwa [h.ro j hj hh g eg] at this)
  · rw [Kn.bornA_o _ _ _ _ _ (by omega) (by omega)]
    exact h.ro j hj hh g eg
  · rcases Kn.us_born hi with rfl | rfl | ⟨ui, i1, i2⟩ <;> rcases Kn.us_born hj with rfl | rfl | ⟨uj, j1, j2⟩
    · rfl
    · rw [Kn.bornA_m, Kn.bornA_b] at eq; exact absurd eq mn
    · rw [Kn.bornA_m, Kn.bornA_o _ _ _ _ _ j1 j2] at eq; exact absurd eq.symm (am j uj)
    · rw [Kn.bornA_m, Kn.bornA_b] at eq; exact absurd eq.symm mn
    · rfl
    · rw [Kn.bornA_b, Kn.bornA_o _ _ _ _ _ j1 j2] at eq; exact absurd eq.symm (ab j uj)
    · rw [Kn.bornA_m, Kn.bornA_o _ _ _ _ _ i1 i2] at eq; exact absurd eq (am i ui)
    · rw [Kn.bornA_b, Kn.bornA_o _ _ _ _ _ i1 i2] at eq; exact absurd eq (ab i ui)
    · rw [Kn.bornA_o _ _ _ _ _ i1 i2, Kn.bornA_o _ _ _ _ _ j1 j2] at eq; exact h.inj i j ui uj eq
  · rcases Kn.us_born hi with rfl | rfl | ⟨ui, i1, i2⟩
    · rw [Kn.bornA_m]; exact lm
    · rw [Kn.bornA_b]; exact lb
    · rw [Kn.bornA_o _ _ _ _ _ i1 i2]; exact h.low i ui
end
end Go.Proofs.YtghogbngmcolmaaGreat
namespace Go.Proofs.YtghogbngmcolmaaGreat
open Go.RowKit
open Tr (Fo Nd)
open Mo (Wh Mt)
open Mv (Me Bk)
open Kn (Pr Kp St us KB KJ VI EI)
theorem wpStill_load_mid {P : Program} {ops : Array Oper} {rest : List Oper} {op : Oper} {a : Act} {w : World} {Q : Act → Prop} (hgd : op.guard = none) (ty : TypeId) (x : Operand) (ho : op.op = .load ty x)
    (b o : Nat) (hx : a.eval x = .pointer (some ⟨b, o, none⟩)) (cs : List Value) (d : TypeDesc) (hc : w.rangeAt b o cs)
    (hu : P.underlying ty = some d) (hd : d.isRow = true) (hi : (P.info? ty).map (·.size) = some cs.length)
    (h : wpStill P ops w Q rest (a.put op.dst (.agg cs.toArray))) : wpStill P ops w Q (op :: rest) a :=
  wpStill_step (fun K hK => by
    have hw : Region.wanted op (yielded ops a.tmps) = true := by simp [Region.wanted, hgd]
    rw [if_pos hw]
    unfold Oper.still execOp
    simp only [ho, hx, Instr.loadAt, Instr.sureAddr, Sem.run_bind, Sem.run_pure, Result.andThen_ok, run_loadVar_mid w b o ty cs d hc hu hd hi]
    rw [Oper.stillUpon_value]
    exact hK _ h)
section
variable {ops : Array Oper} {rest : List Oper} {x : Oper} {a : Act} {w : World} {Q : Exit → Act → World → Prop}
theorem wpList_box_p (hgd : x.guard = none) (y : Operand) (A : Array Value) (ho : x.op = .box 65 y) (hy : a.eval y = .agg A) (h : wpList Tryz.prog ops Q rest (a.put x.dst (.pointer (some ⟨w.heap.size, 0, none⟩))) (w.alloc (.cells A 65))) : wpList Tryz.prog ops Q (x :: rest) a w :=
  wpList_plain hgd fun _ hK => by
    unfold Oper.wp execOp
    simp only [ho, hy]
    simp [go_sem]
    exact hK _ _ h
end
def Kn.staK (k : Kp) (n : Nat) (x : Pr) (z : Int) (m : Fa.Fr.M) : Kp := { k.put n x with sp := Sp.entT k.sp z (n : Int), sc := m }
section
variable (base : Nat) (s : St) (w : World)
set_option maxRecDepth 100000 in
set_option maxHeartbeats 2000000 in
theorem kstart_any (n mb bb : Nat) (x : Pr) (z : Int) (d : Nat → Nat) (h : KKt w base s) (hn : n < 20) (hI : Sp.Inv s.k.sp d) (hF : Fa.Fr.Inv s.k.sc) (um : UAt w mb (s.A 4) x.mem) (ub : CX w bb x.box) (am : ∀ i, us s i → s.A i ≠ mb) (ab : ∀ i, us s i → s.A i ≠ bb) (mn : mb ≠ bb) (lm : base ≤ mb) (lb : base ≤ bb) :
    Calls Tryz.prog 34 #[.pointer (some ⟨s.A 0, 0, none⟩), .int .i64 n, .agg (prA mb bb x), .int .i64 z] w fun e w' => ∃ m', e = .returned (.tuple #[]) ∧ Fa.Fr.WakeTo (Fa.Fr.addTaskM s.k.sc (n : Int) x.grp 100) (n : Int) true m' ∧ KKt w' base { Kn.bornA s n mb bb x with k := Kn.staK s.k n x z m' } ∧ Onl (KB s) w w' := by
  have hnI : (n : Int) < 20 := by omega
  obtain ⟨kb, hkb⟩ : ∃ kb, s.A 0 = kb := ⟨_, rfl⟩
  have HK := Hid.intro hkb
  have b0 : Below w.heap.size w (w.alloc (.cells (prA mb bb x) 65)) := (Below.refl _ _).alloc (Nat.le_refl _) _
  have N0 : Hid ((w.alloc (.cells (prA mb bb x) 65)).heap[w.heap.size]? = some (.cells (prA mb bb x) 65 (0, 0))) := Hid.intro (heap_alloc_new w _)
  have BN := Hid.intro ((h.below b0).drew.born hn (x := x) (um.below b0).drew (ub.below b0 ub.lt).drew am ab mn lm lb)
  have B0 := Hid.intro b0
  have H := Hid.intro (And.intro h (And.intro hI hF))
  have RG : Hid ((w.alloc (.cells (prA mb bb x) 65)).rangeAt w.heap.size 0 (prA mb bb x).toList) := Hid.intro (fun j hj => by
    rw [Nat.zero_add, cell_blk N0.out]
    simp)
  have TH : Hid ((w.alloc (.cells (prA mb bb x) 65)).there kb (n * 12) (prA mb bb x).size) := Hid.intro (by rw [prA_size, ← hkb]; exact (h.below b0).there hn)
  have SZ : Hid ((Tryz.prog.info? 65).map (·.size) = some (prA mb bb x).size) := Hid.intro (by rw [prA_size]; kernel_rfl)
  have SL : Hid ((Tryz.prog.info? 65).map (·.size) = some (prA mb bb x).toList.length) := Hid.intro (by rw [Array.length_toList, prA_size]; kernel_rfl)
  have H1 : Hid ((prA mb bb x).all (·.oneCell') = true) := Hid.intro (prA_one mb bb x)
  have GR : Hid ((prA mb bb x)[2]? = some (.int .i64 x.grp)) := Hid.intro (by rw [prA_at mb bb x 2 (by omega)]; rfl)
  obtain ⟨PA, hPA⟩ : ∃ PA, prA mb bb x = PA := ⟨_, rfl⟩
  rw [hPA] at N0 BN B0 RG TH SZ SL H1 GR ⊢
  rw [hkb] at BN ⊢
  clear h hI hF um ub am ab mn lm lb b0 hkb hPA
  go_enter Tryz.func34, Tryz.ntmps34
  go_upto_region 1 with (refine wpList_box_p rfl _ PA rfl rfl ?_)
  refine wp_region_still_tail 6 (by kernel_rfl) (by kernel_rfl) ?_
  simp only [List.take_succ_cons, List.take_zero, List.drop_succ_cons, List.drop_zero]
  iterate 2 still_step
  refine wpStill_load_mid rfl 65 _ rfl w.heap.size 0 rfl PA.toList _ RG.out Tryz.underlying65 rfl SL.out ?_
  rw [Array.toArray_toList]
  iterate 3 still_step
  refine wpStill_nil ?_
  go_upto_region 2 with (refine wpList_store_mid rfl 65 _ _ rfl kb (n * 12) PA rfl rfl TH.out SZ.out H1.out ?_)
  have KL : Hid (∀ i, us s i → s.A i < w.heap.size) := Hid.intro (fun i hi => H.out.1.lt hi)
  have FIN0 : Hid (KKt ((w.alloc (.cells PA 65)).drew.setCells kb (n * 12) PA.toList) base (Kn.bornA s n mb bb x) ∧ Onl (KB s) w ((w.alloc (.cells PA 65)).drew.setCells kb (n * 12) PA.toList) ∧ ((w.alloc (.cells PA 65)).drew.setCells kb (n * 12) PA.toList).cell? ⟨w.heap.size, 2, none⟩ = some (.int .i64 x.grp) ∧ w.heap.size < ((w.alloc (.cells PA 65)).drew.setCells kb (n * 12) PA.toList).heap.size) := Hid.intro (by
    have ls : w.heap.size < (w.alloc (.cells PA 65)).heap.size := by simp
    refine ⟨BN.out.1, (Onl.of_below B0.out).drew.trans (Onl.of_frm BN.out.2 (by rw [← HK.out]; exact ⟨0, us9 (by omega), rfl⟩)), ?_, Nat.lt_of_lt_of_le ls BN.out.2.size⟩
    rw [World.cell?_of_block (BN.out.2.block w.heap.size ls (by have := KL.out 0 (us9 (by omega)); rw [HK.out] at this; omega))]
    show (w.alloc (.cells PA 65)).cell? ⟨w.heap.size, 2, none⟩ = _
    rw [cell_blk N0.out]
    exact GR.out)
  refine wp_gen (fun W => KKt W base (Kn.bornA s n mb bb x) ∧ Onl (KB s) w W ∧ W.cell? ⟨w.heap.size, 2, none⟩ = some (.int .i64 x.grp) ∧ w.heap.size < W.heap.size) FIN0.out ?_
  intro W1 hW1
  have S1 := Hid.intro hW1
  clear hW1 FIN0 BN N0 RG TH SZ SL H1 GR B0
  obtain ⟨bx, hbx⟩ : ∃ bx, w.heap.size = bx := ⟨_, rfl⟩
  rw [hbx] at S1 KL ⊢
  obtain ⟨gz, hgz⟩ : ∃ gz, x.grp = gz := ⟨_, rfl⟩
  have HGZ := Hid.intro hgz
  have A0 : Hid ((Kn.bornA s n mb bb x).A 0 = kb ∧ (Kn.bornA s n mb bb x).A 1 = s.A 1 ∧ (Kn.bornA s n mb bb x).A 3 = s.A 3) := Hid.intro ⟨(Kn.bornA_o _ _ _ _ _ (by omega) (by omega)).trans HK.out, Kn.bornA_o _ _ _ _ _ (by omega) (by omega), Kn.bornA_o _ _ _ _ _ (by omega) (by omega)⟩
  obtain ⟨p1, hp1⟩ : ∃ p1, s.A 1 = p1 := ⟨_, rfl⟩
  obtain ⟨p3, hp3⟩ : ∃ p3, s.A 3 = p3 := ⟨_, rfl⟩
  have HP : Hid (s.A 1 = p1 ∧ s.A 3 = p3 ∧ p1 ≠ bx ∧ p3 ≠ bx) := Hid.intro ⟨hp1, hp3, by have := KL.out 1 (us9 (by omega)); omega, by have := KL.out 3 (us9 (by omega)); omega⟩
  rw [hp1, hp3] at A0
  have c6 := S1.out.1.cSp
  rw [A0.out.1, A0.out.2.1] at c6
  have EN := Hid.intro (enter_any p1 z (n : Int) s.k.sp d W1 (by have q := S1.out.1.sp; rw [A0.out.2.1] at q; exact q) H.out.2.1)
  clear hp1 hp3 hbx hgz
  go_wp2_with fail
  refine EN.out.mono ?_
  rintro e w5 ⟨rfl, t5, f5⟩
  generalize (Value.tuple #[.int .i64 (Sp.entN s.k.sp z (n : Int) : Int), errV (Sp.entE s.k.sp z (n : Int))]) = ev2
  have S2 : Hid (KKt w5 base { Kn.bornA s n mb bb x with k := { s.k.put n x with sp := Sp.entT s.k.sp z (n : Int) } } ∧ Onl (KB s) w w5 ∧ w5.cell? ⟨bx, 2, none⟩ = some (.int .i64 x.grp) ∧ bx < w5.heap.size) := Hid.intro (by
    have q := S1.out.1.setSp (by rw [A0.out.2.1]; exact t5) (by rw [A0.out.2.1]; exact f5)
    refine ⟨q.1, S1.out.2.1.trans (Onl.of_frm f5 (by rw [← HP.out.1]; exact ⟨1, us9 (by omega), rfl⟩)), ?_, Nat.lt_of_lt_of_le S1.out.2.2.2 f5.size⟩
    rw [World.cell?_of_block (f5.block bx S1.out.2.2.2 (Ne.symm HP.out.2.2.1))]
    exact S1.out.2.2.1)
  clear t5 f5 c6 S1
  go_upto_region 3 with fail
  have KC : Hid (∀ W k, KKt W base { Kn.bornA s n mb bb x with k := k } → W.cell? ⟨bx, 2, none⟩ = some (.int .i64 x.grp) → W.cell? ⟨kb, 248, none⟩ = some (.pointer (some ⟨p3, 0, none⟩)) ∧ W.cell? ⟨bx, 2, none⟩ = some (.int .i64 gz)) := Hid.intro (fun W k hW e => by
    have a := hW.cSc
    rw [show ({ Kn.bornA s n mb bb x with k := k } : St).A 0 = kb from A0.out.1, show ({ Kn.bornA s n mb bb x with k := k } : St).A 3 = p3 from A0.out.2.2] at a
    rw [HGZ.out] at e
    exact ⟨a, e⟩)
  have K0 := Hid.intro (KC.out w5 _ S2.out.1 S2.out.2.2.1)
  have AT := Hid.intro (Fa.addTask_any p3 (n : Int) gz 100 s.k.sc w5.drew (by have q := S2.out.1.drew.sc; rw [show ({ Kn.bornA s n mb bb x with k := { s.k.put n x with sp := Sp.entT s.k.sp z (n : Int) } } : St).A 3 = p3 from A0.out.2.2] at q; exact q) H.out.2.2)
  obtain ⟨y1, y2⟩ := K0.out
  go_region_held3 (fun w' => w'.cell? ⟨kb, 248, none⟩ = some (.pointer (some ⟨p3, 0, none⟩)) ∧ w'.cell? ⟨bx, 2, none⟩ = some (.int .i64 gz)) (first | exact K0.out | exact K4.out) (
    (go_at_call 70; refine AT.out.mono ?_; rintro e w6 ⟨rfl, t6, f6⟩; have S4 : Hid (KKt w6 base { Kn.bornA s n mb bb x with k := { s.k.put n x with sp := Sp.entT s.k.sp z (n : Int), sc := Fa.Fr.addTaskM s.k.sc (n : Int) gz 100 } } ∧ Onl (KB s) w w6 ∧ w6.cell? ⟨bx, 2, none⟩ = some (.int .i64 x.grp) ∧ bx < w6.heap.size) := Hid.intro (by
        have q := S2.out.1.drew.setSc (by rw [show ({ Kn.bornA s n mb bb x with k := { s.k.put n x with sp := Sp.entT s.k.sp z (n : Int) } } : St).A 3 = p3 from A0.out.2.2]; exact t6) (by rw [show ({ Kn.bornA s n mb bb x with k := { s.k.put n x with sp := Sp.entT s.k.sp z (n : Int) } } : St).A 3 = p3 from A0.out.2.2]; exact f6.std)
        refine ⟨q.1, S2.out.2.1.drew.trans (Onl.of_frm f6.std (by rw [← HP.out.2.1]; exact ⟨3, us9 (by omega), rfl⟩)), ?_, Nat.lt_of_lt_of_le S2.out.2.2.2 f6.size⟩
        rw [World.cell?_of_block (f6.std.block bx S2.out.2.2.2 (Ne.symm HP.out.2.2.2))]
        exact S2.out.2.2.1); have K4 := Hid.intro (KC.out w6 _ S4.out.1 S4.out.2.2.1); clear t6 f6))
  clear y1 y2 K0 AT S2
  generalize Fa.errV (Fa.Fr.addTaskE s.k.sc (n : Int) gz 100) = ev3
  have c8 := (KC.out w6 _ S4.out.1 S4.out.2.2.1).1
  have WK := Hid.intro (Fa.wake_any p3 (n : Int) true (Fa.Fr.addTaskM s.k.sc (n : Int) gz 100) w6 (by have q := S4.out.1.sc; rw [show ({ Kn.bornA s n mb bb x with k := { s.k.put n x with sp := Sp.entT s.k.sp z (n : Int), sc := Fa.Fr.addTaskM s.k.sc (n : Int) gz 100 } } : St).A 3 = p3 from A0.out.2.2] at q; exact q) (H.out.2.2.addTask _ _ _))
  go_wp2_with fail
  refine WK.out.mono ?_
  rintro e w7 ⟨rfl, m', wk, t7, f7⟩
  generalize Fa.errV (Fa.Fr.taskE (Fa.Fr.addTaskM s.k.sc (n : Int) gz 100) (n : Int)) = ev4
  have S5 : Hid (Fa.Fr.WakeTo (Fa.Fr.addTaskM s.k.sc (n : Int) x.grp 100) (n : Int) true m' ∧ KKt w7 base { Kn.bornA s n mb bb x with k := Kn.staK s.k n x z m' } ∧ Onl (KB s) w w7) := Hid.intro (by
    have q := S4.out.1.setSc (by rw [show ({ Kn.bornA s n mb bb x with k := { s.k.put n x with sp := Sp.entT s.k.sp z (n : Int), sc := Fa.Fr.addTaskM s.k.sc (n : Int) gz 100 } } : St).A 3 = p3 from A0.out.2.2]; exact t7) (by rw [show ({ Kn.bornA s n mb bb x with k := { s.k.put n x with sp := Sp.entT s.k.sp z (n : Int), sc := Fa.Fr.addTaskM s.k.sc (n : Int) gz 100 } } : St).A 3 = p3 from A0.out.2.2]; exact f7.std)
    exact ⟨by rw [HGZ.out]; exact wk, q.1, S4.out.2.1.trans (Onl.of_frm f7.std (by rw [← HP.out.2.1]; exact ⟨3, us9 (by omega), rfl⟩))⟩)
  clear wk t7 f7 c8
  go_wp2_with fail
  go_end0
  exact ⟨m', rfl, S5.out⟩
end
end Go.Proofs.YtghogbngmcolmaaGreat
namespace Go.Proofs.YtghogbngmcolmaaGreat
open Go.RowKit
open Tr (Fo Nd)
open Mo (Wh Mt)
open Mv (Me Bk)
open Kn (Pr Kp St us KB KJ VI EI)
structure Kn.LI (N : Nat) (d : Nat → Nat) (k : Kp) (n z q : Nat) : Prop where
  vi : VI (fun _ => False) N d k
  fi : ∀ m, m < 20 → m ≠ n → Kn.lv k m = true → Kn.hd k m ≠ m → Sg.FirTo (k.p m).box 0 0
  hn : n < 20
  lv : Kn.lv k n = true
  ho : k.sp.of n = z + 1
  pr : n ≠ 0 → q < 20 ∧ q ≠ n ∧ (k.p n).par = (q : Int)
theorem Kn.LI.has {N : Nat} {d : Nat → Nat} {k : Kp} {n z q : Nat} (h : Kn.LI N d k n z q) : (k.p n).has = true := h.vi.kj.lv n h.hn (fun x => x) (by have := h.lv; unfold Kn.lv at this; simpa using this)
def Kn.LooTo (k : Kp) (n z q : Nat) (k' : Kp) : Prop := ∃ m, Sg.FirTo (k.p n).box 0 m ∧ ((m = 0 ∧ k' = k) ∨ (m ≠ 0 ∧ Kn.EndTo k n (128 + (m : Int)) z q k'))
def Kn.LobTo (k : Kp) (n z q : Nat) (k' : Kp) : Prop := (Kn.hd k n = n ∧ k' = k) ∨ (Kn.hd k n ≠ n ∧ Kn.LooTo k n z q k')
section
variable (base N : Nat) (d : Nat → Nat) (s : St) (w : World)
set_option maxRecDepth 100000 in
set_option maxHeartbeats 1000000 in
theorem klook_any (hN : N ≤ 900) (n z q : Nat) (n0 : n ≠ 0) (h : KKt w base s) (hi : Kn.LI N d s.k n z q) :
    Calls Tryz.prog 94 #[.pointer (some ⟨s.A 0, 0, none⟩), .int .i64 n] w fun e w' => ∃ k', e = .returned (.tuple #[]) ∧ Kn.LooTo s.k n z q k' ∧ KKt w' base { s with k := k' } ∧ KF s w { s with k := k' } w' := by
  have hn := hi.hn
  have hnI : (n : Int) < 20 := by omega
  have c5 := h.cBox n hn hi.has
  have EN := Hid.intro (ends_any (s.A (29 + n)) (s.k.p n).box w (h.bx n hn hi.has))
  have H := Hid.intro (And.intro h (And.intro hi hN))
  obtain ⟨kb, hkb⟩ : ∃ kb, s.A 0 = kb := ⟨_, rfl⟩
  have HK := Hid.intro hkb
  rw [hkb] at c5 ⊢
  generalize s.A (29 + n) = bb at *
  clear h hi hkb hN
  go_enter Tryz.func94, Tryz.ntmps94
  go_wp2_with fail
  refine EN.out.mono ?_
  rintro e w1 ⟨m, rfl, hm, hb⟩
  have S1 : Hid (KKt w1 base s ∧ KF s w s w1 ∧ Sg.FirTo (s.k.p n).box 0 m) := Hid.intro ⟨H.out.1.below hb, KF.below hb, hm⟩
  have m8 := hm.le
  clear hm hb c5
  by_cases m0 : m = 0
  · subst m0
    rw [show Sg.isB 0 = false from rfl]
    go_wp2_with fail
    go_end0
    exact ⟨s.k, rfl, ⟨0, S1.out.2.2, .inl ⟨rfl, rfl⟩⟩, S1.out.1, S1.out.2.1⟩
  · rw [show Sg.isB m = true by unfold Sg.isB; simp; omega]
    have PR := H.out.2.1.pr n0
    have EE := Hid.intro (kend_any base N d H.out.2.2 s w1 n z q (128 + (m : Int)) S1.out.1 H.out.2.1.vi hn n0 H.out.2.1.lv H.out.2.1.ho PR.1 PR.2.1 PR.2.2 H.out.2.1.fi)
    rw [HK.out] at EE
    have hw : IntKind.i64.wrap (128 + (m : Int)) = 128 + (m : Int) := IntWalk.i64_in _ ⟨by omega, by omega⟩
    have M0 := Hid.intro m0
    clear PR m0
    go_wp2_with fail
    refine EE.out.mono ?_
    rintro e w2 ⟨k', rfl, et, ka, kf⟩
    have S2 : Hid (Kn.LooTo s.k n z q k' ∧ KKt w2 base { s with k := k' } ∧ KF s w { s with k := k' } w2) := Hid.intro ⟨⟨m, S1.out.2.2, .inr ⟨M0.out, et⟩⟩, ka, S1.out.2.1.trans kf⟩
    clear et ka kf
    go_wp2_with fail
    go_end0
    exact ⟨k', rfl, S2.out⟩
set_option maxRecDepth 100000 in
set_option maxHeartbeats 400000 in
theorem klookB_any (hN : N ≤ 900) (n z q : Nat) (n0 : n = 0 → Kn.hd s.k 0 = 0) (h : KKt w base s) (hi : Kn.LI N d s.k n z q) :
    Calls Tryz.prog 48 #[.pointer (some ⟨s.A 0, 0, none⟩), .int .i64 n] w fun e w' => ∃ k', e = .returned (.tuple #[]) ∧ Kn.LobTo s.k n z q k' ∧ KKt w' base { s with k := k' } ∧ KF s w { s with k := k' } w' := by
  obtain ⟨th, hth⟩ : ∃ th, decide (Kn.hd s.k n = n) = th := ⟨_, rfl⟩
  have IH := Hid.intro (kisHead_any base s w n h th hth)
  cases th
  · have hd := of_decide_eq_false hth
    have LK := Hid.intro (klook_any base N d s w hN n z q (fun e => by subst e; exact hd (n0 rfl)) h hi)
    have HD := Hid.intro hd
    clear h hi hth n0 hd
    generalize s.A 0 = kb at *
    go_enter Tryz.func48, Tryz.ntmps48
    go_wp2_with fail
    refine IH.out.mono ?_
    rintro e w1 ⟨rfl, hw⟩
    subst w1
    go_wp2_with fail
    refine LK.out.mono ?_
    rintro e w1 ⟨k', rfl, et, ka, kf⟩
    have S2 : Hid (Kn.LobTo s.k n z q k' ∧ KKt w1 base { s with k := k' } ∧ KF s w { s with k := k' } w1) := Hid.intro ⟨.inr ⟨HD.out, et⟩, ka, kf⟩
    clear et ka kf
    go_wp2_with fail
    go_end0
    exact ⟨k', rfl, S2.out⟩
  · have HD := Hid.intro (And.intro (of_decide_eq_true hth) h)
    clear h hi hth n0
    generalize s.A 0 = kb at *
    go_enter Tryz.func48, Tryz.ntmps48
    go_wp2_with fail
    refine IH.out.mono ?_
    rintro e w1 ⟨rfl, hw⟩
    subst w1
    go_wp2_with fail
    go_end0
    exact ⟨s.k, rfl, .inl ⟨HD.out.1, rfl⟩, HD.out.2, KF.refl _ _⟩
def Kn.TakTo (k : Kp) (z : Int) (m : Nat) (E : Int) (k' : Kp) : Prop := (Kn.actE k z ≠ 0 ∧ E = Kn.actE k z ∧ m = 0 ∧ k' = k) ∨ (Kn.actE k z = 0 ∧ ∃ n j : Nat, z = n ∧ n < 20 ∧ Sg.FirTo (k.p n).box 2 j ∧ k' = k.put n { k.p n with box := Sg.takF (k.p n).box j } ∧ m = j ∧ E = if j = 0 then 2 else 0)
set_option maxRecDepth 100000 in
set_option maxHeartbeats 1000000 in
theorem kntake_any (z : Int) (h : KKt w base s) (hl : ∀ n, n < 20 → Kn.lv s.k n = true → (s.k.p n).has = true) :
    Calls Tryz.prog 20 #[.pointer (some ⟨s.A 0, 0, none⟩), .int .i64 z] w fun e w' => ∃ (m : Nat) (E : Int) (k' : Kp), e = .returned (.tuple #[.int .i64 m, errV E]) ∧ Kn.TakTo s.k z m E k' ∧ KKt w' base { s with k := k' } ∧ KF s w { s with k := k' } w' := by
  have AC := Hid.intro (kacting_any base s w z h)
  have H := Hid.intro h
  by_cases a : Kn.actE s.k z = 0
  · obtain ⟨n, rfl, hn, hlv⟩ := Kn.actE_ok a
    have hh := hl n hn hlv
    have c5 := h.cBox n hn hh
    have TK := Hid.intro (take_any (s.A (29 + n)) (s.k.p n).box w (h.bx n hn hh))
    have HA := Hid.intro (And.intro a hh)
    rw [a, errV_zero, aptE_ok] at AC
    obtain ⟨kb, hkb⟩ : ∃ kb, s.A 0 = kb := ⟨_, rfl⟩
    obtain ⟨bb, hbb⟩ : ∃ bb, s.A (29 + n) = bb := ⟨_, rfl⟩
    have HB := Hid.intro hbb
    rw [hkb] at AC c5 ⊢
    rw [hbb] at c5 TK
    clear h hl hlv a hh hkb hbb
    go_enter Tryz.func20, Tryz.ntmps20
    go_wp2_with fail
    refine AC.out.mono ?_
    rintro e w1 ⟨rfl, hw⟩
    subst w1
    go_wp2_with fail
    refine TK.out.mono ?_
    rintro e w1 ⟨j, rfl, hj, u1, f1⟩
    have S1 : Hid (Sg.FirTo (s.k.p n).box 2 j ∧ KKt w1 base { s with k := s.k.put n { s.k.p n with box := Sg.takF (s.k.p n).box j } } ∧ KF s w { s with k := s.k.put n { s.k.p n with box := Sg.takF (s.k.p n).box j } } w1) := Hid.intro (by
      rw [← HB.out] at u1 f1
      exact ⟨hj, H.out.setBx hn HA.out.2 u1 f1⟩)
    clear u1 f1 hj c5
    by_cases j0 : j = 0
    · subst j0
      rw [show Sg.isB 0 = false from rfl]
      go_wp2_with fail
      go_ret2
      exact ⟨0, 2, _, rfl, .inr ⟨HA.out.1, n, 0, rfl, hn, S1.out.1, rfl, rfl, rfl⟩, S1.out.2⟩
    · rw [show Sg.isB j = true by unfold Sg.isB; simp; omega]
      have J0 := Hid.intro j0
      clear j0
      go_wp2_with fail
      go_ret2
      exact ⟨j, 0, _, by rw [errV_zero]; rfl, .inr ⟨HA.out.1, n, j, rfl, hn, S1.out.1, rfl, rfl, by rw [if_neg J0.out]⟩, S1.out.2⟩
  · have FIN : Hid (Kn.TakTo s.k z 0 (Kn.actE s.k z) s.k) := Hid.intro (.inl ⟨a, rfl, rfl, rfl⟩)
    have HE := Hid.intro (errV_ne a)
    rw [errV_ne a] at AC
    clear h hl a
    generalize aptE (s.A 0) z (Kn.actE s.k z) = ap at *
    generalize s.A 0 = kb at *
    go_enter Tryz.func20, Tryz.ntmps20
    go_wp2_with fail
    refine AC.out.mono ?_
    rintro e w1 ⟨rfl, hw⟩
    subst w1
    go_wp2_with fail
    go_ret2
    exact ⟨0, Kn.actE s.k z, s.k, by rw [HE.out]; rfl, FIN.out, H.out, KF.refl _ _⟩
end
end Go.Proofs.YtghogbngmcolmaaGreat
namespace Go.Proofs.YtghogbngmcolmaaGreat
open Go.RowKit
open Tr (Fo Nd)
open Mo (Wh Mt)
open Mv (Me Bk)
open Kn (Pr Kp St us KB KJ VI EI)
namespace Kn
def boxK (k : Kp) (n : Nat) (X : Nat → Sg.S1) : Kp := k.put n { k.p n with box := X }
theorem KI.has {N : Nat} {d : Nat → Nat} {k : Kp} (h : KI N d k) {n : Nat} (hn : n < 20) (l : lv k n = true) : (k.p n).has = true := h.vi.kj.lv n hn (fun x => x) (by unfold lv at l; simpa using l)
theorem KI.li {N : Nat} {d : Nat → Nat} {k : Kp} (h : KI N d k) {n : Nat} (hn : n < 20) (l : lv k n = true) (X : Nat → Sg.S1) : ∃ z q, LI N d (boxK k n X) n z q := by
  have s1 : (k.p n).st = 1 := by unfold lv at l; simpa using l
  have o := (h.vi.kj.of n hn).2 (by omega)
  have e : (boxK k n X).p n = { k.p n with box := X } := put_same _ _ _
  have vi : VI (fun _ => False) N d (boxK k n X) := ⟨h.vi.kj.putP rfl rfl rfl, h.vi.iv, h.vi.hs⟩
  have fi : ∀ m, m < 20 → m ≠ n → lv (boxK k n X) m = true → hd (boxK k n X) m ≠ m → Sg.FirTo ((boxK k n X).p m).box 0 0 := fun m hm mn lm hm2 => by
    have e2 : (boxK k n X).p m = k.p m := put_ne _ _ _ _ mn
    rw [e2]
    refine h.fi m hm ?_ hm2
    unfold lv at lm ⊢
    rw [e2] at lm; exact lm
  have lv1 : lv (boxK k n X) n = true := by unfold lv; rw [e]; exact l
  by_cases n0 : n = 0
  · exact ⟨k.sp.of n - 1, 0, vi, fi, hn, lv1, (by show k.sp.of n = _; omega), fun c => absurd n0 c⟩
  · obtain ⟨q, q20, qn, hp⟩ := h.pr n hn n0 (by omega)
    exact ⟨k.sp.of n - 1, q, vi, fi, hn, lv1, (by show k.sp.of n = _; omega), fun _ => ⟨q20, qn, by rw [e]; exact hp⟩⟩
end Kn
section
variable (base N : Nat) (d : Nat → Nat) (s : St) (w : World)
def Kn.HolTo (k : Kp) (z c : Int) (on : Bool) (E : Int) (k' : Kp) : Prop := (Kn.actE k z ≠ 0 ∧ E = Kn.actE k z ∧ k' = k) ∨ (Kn.actE k z = 0 ∧ ∃ n : Nat, z = n ∧ n < 20 ∧ E = Sg.holE c ∧ ((Sg.holE c ≠ 0 ∧ k' = Kn.boxK k n (Sg.holF (k.p n).box c on)) ∨ (Sg.holE c = 0 ∧ ∃ y q, Kn.LobTo (Kn.boxK k n (Sg.holF (k.p n).box c on)) n y q k')))
set_option maxRecDepth 100000 in
set_option maxHeartbeats 1000000 in
theorem knhold_any (hN : N ≤ 900) (z c : Int) (on : Bool) (h : KKt w base s) (hi : Kn.KI N d s.k) :
    Calls Tryz.prog 18 #[.pointer (some ⟨s.A 0, 0, none⟩), .int .i64 z, .int .i64 c, .bool on] w fun e w' => ∃ (E : Int) (k' : Kp), e = .returned (errV E) ∧ Kn.HolTo s.k z c on E k' ∧ KKt w' base { s with k := k' } ∧ KF s w { s with k := k' } w' := by
  have AC := Hid.intro (kacting_any base s w z h)
  have H := Hid.intro (And.intro h (And.intro hi hN))
  by_cases a : Kn.actE s.k z = 0
  · obtain ⟨n, rfl, hn, hlv⟩ := Kn.actE_ok a
    have hh := hi.has hn hlv
    have c5 := h.cBox n hn hh
    have TK := Hid.intro (sghold_any (s.A (29 + n)) c on (s.k.p n).box w (h.bx n hn hh))
    have HA := Hid.intro (And.intro a (And.intro hh hlv))
    rw [a, errV_zero, aptE_ok] at AC
    obtain ⟨kb, hkb⟩ : ∃ kb, s.A 0 = kb := ⟨_, rfl⟩
    have HK := Hid.intro hkb
    obtain ⟨bb, hbb⟩ : ∃ bb, s.A (29 + n) = bb := ⟨_, rfl⟩
    have HB := Hid.intro hbb
    rw [hkb] at AC c5 ⊢
    rw [hbb] at c5 TK
    clear h hi hlv a hh hkb hbb hN
    go_enter Tryz.func18, Tryz.ntmps18
    go_wp2_with fail
    refine AC.out.mono ?_
    rintro e w1 ⟨rfl, hw⟩
    subst w1
    go_wp2_with fail
    refine TK.out.mono ?_
    rintro e w1 ⟨rfl, u1, f1⟩
    have S1 : Hid (KKt w1 base { s with k := Kn.boxK s.k n (Sg.holF (s.k.p n).box c on) } ∧ KF s w { s with k := Kn.boxK s.k n (Sg.holF (s.k.p n).box c on) } w1) := Hid.intro (by
      rw [← HB.out] at u1 f1
      exact H.out.1.setBx hn HA.out.2.1 u1 f1)
    clear u1 f1 c5
    by_cases j0 : Sg.holE c = 0
    · have J0 := Hid.intro j0
      rw [j0, errV_zero]
      obtain ⟨y, q, li⟩ := H.out.2.1.li hn HA.out.2.2 (Sg.holF (s.k.p n).box c on)
      have LB := Hid.intro (klookB_any base N d { s with k := Kn.boxK s.k n (Sg.holF (s.k.p n).box c on) } w1 H.out.2.2 n y q (fun _ => H.out.2.1.h0) S1.out.1 li)
      rw [show ({ s with k := Kn.boxK s.k n (Sg.holF (s.k.p n).box c on) } : St).A 0 = kb from HK.out] at LB
      clear j0 li
      go_wp2_with fail
      refine LB.out.mono ?_
      rintro e w2 ⟨k', rfl, et, ka, kf⟩
      have S2 : Hid (Kn.HolTo s.k (n : Int) c on 0 k' ∧ KKt w2 base { s with k := k' } ∧ KF s w { s with k := k' } w2) := Hid.intro ⟨.inr ⟨HA.out.1, n, rfl, hn, J0.out.symm, .inr ⟨J0.out, y, q, et⟩⟩, ka, S1.out.2.trans kf⟩
      clear et ka kf
      go_wp2_with fail
      go_ret
      exact ⟨0, k', by rw [errV_zero]; rfl, S2.out⟩
    · have J0 := Hid.intro j0
      have HE := Hid.intro (errV_ne j0)
      rw [errV_ne j0]
      clear j0
      go_wp2_with fail
      go_ret
      exact ⟨Sg.holE c, _, by rw [HE.out]; rfl, .inr ⟨HA.out.1, n, rfl, hn, rfl, .inl ⟨J0.out, rfl⟩⟩, S1.out⟩
  · have FIN : Hid (Kn.HolTo s.k z c on (Kn.actE s.k z) s.k) := Hid.intro (.inl ⟨a, rfl, rfl⟩)
    have HE := Hid.intro (errV_ne a)
    rw [errV_ne a] at AC
    clear h hi a hN
    generalize aptE (s.A 0) z (Kn.actE s.k z) = ap at *
    generalize s.A 0 = kb at *
    go_enter Tryz.func18, Tryz.ntmps18
    go_wp2_with fail
    refine AC.out.mono ?_
    rintro e w1 ⟨rfl, hw⟩
    subst w1
    go_wp2_with fail
    go_ret
    exact ⟨Kn.actE s.k z, s.k, by rw [HE.out]; rfl, FIN.out, H.out.1, KF.refl _ _⟩
def Kn.HowTo (k : Kp) (z c : Int) (how : Int) (E : Int) (k' : Kp) : Prop := (Kn.actE k z ≠ 0 ∧ E = Kn.actE k z ∧ k' = k) ∨ (Kn.actE k z = 0 ∧ ∃ n : Nat, z = n ∧ n < 20 ∧ E = Sg.howE c how ∧ ((Sg.howE c how ≠ 0 ∧ k' = Kn.boxK k n (Sg.howF (k.p n).box c how)) ∨ (Sg.howE c how = 0 ∧ ∃ y q, Kn.LobTo (Kn.boxK k n (Sg.howF (k.p n).box c how)) n y q k')))
set_option maxRecDepth 100000 in
set_option maxHeartbeats 1000000 in
theorem knhow_any (hN : N ≤ 900) (z c : Int) (how : Int) (h : KKt w base s) (hi : Kn.KI N d s.k) :
    Calls Tryz.prog 17 #[.pointer (some ⟨s.A 0, 0, none⟩), .int .i64 z, .int .i64 c, .int .i64 how] w fun e w' => ∃ (E : Int) (k' : Kp), e = .returned (errV E) ∧ Kn.HowTo s.k z c how E k' ∧ KKt w' base { s with k := k' } ∧ KF s w { s with k := k' } w' := by
  have AC := Hid.intro (kacting_any base s w z h)
  have H := Hid.intro (And.intro h (And.intro hi hN))
  by_cases a : Kn.actE s.k z = 0
  · obtain ⟨n, rfl, hn, hlv⟩ := Kn.actE_ok a
    have hh := hi.has hn hlv
    have c5 := h.cBox n hn hh
    have TK := Hid.intro (how_any (s.A (29 + n)) c how (s.k.p n).box w (h.bx n hn hh))
    have HA := Hid.intro (And.intro a (And.intro hh hlv))
    rw [a, errV_zero, aptE_ok] at AC
    obtain ⟨kb, hkb⟩ : ∃ kb, s.A 0 = kb := ⟨_, rfl⟩
    have HK := Hid.intro hkb
    obtain ⟨bb, hbb⟩ : ∃ bb, s.A (29 + n) = bb := ⟨_, rfl⟩
    have HB := Hid.intro hbb
    rw [hkb] at AC c5 ⊢
    rw [hbb] at c5 TK
    clear h hi hlv a hh hkb hbb hN
    go_enter Tryz.func17, Tryz.ntmps17
    go_wp2_with fail
    refine AC.out.mono ?_
    rintro e w1 ⟨rfl, hw⟩
    subst w1
    go_wp2_with fail
    refine TK.out.mono ?_
    rintro e w1 ⟨rfl, u1, f1⟩
    have S1 : Hid (KKt w1 base { s with k := Kn.boxK s.k n (Sg.howF (s.k.p n).box c how) } ∧ KF s w { s with k := Kn.boxK s.k n (Sg.howF (s.k.p n).box c how) } w1) := Hid.intro (by
      rw [← HB.out] at u1 f1
      exact H.out.1.setBx hn HA.out.2.1 u1 f1)
    clear u1 f1 c5
    by_cases j0 : Sg.howE c how = 0
    · have J0 := Hid.intro j0
      rw [j0, errV_zero]
      obtain ⟨y, q, li⟩ := H.out.2.1.li hn HA.out.2.2 (Sg.howF (s.k.p n).box c how)
      have LB := Hid.intro (klookB_any base N d { s with k := Kn.boxK s.k n (Sg.howF (s.k.p n).box c how) } w1 H.out.2.2 n y q (fun _ => H.out.2.1.h0) S1.out.1 li)
      rw [show ({ s with k := Kn.boxK s.k n (Sg.howF (s.k.p n).box c how) } : St).A 0 = kb from HK.out] at LB
      clear j0 li
      go_wp2_with fail
      refine LB.out.mono ?_
      rintro e w2 ⟨k', rfl, et, ka, kf⟩
      have S2 : Hid (Kn.HowTo s.k (n : Int) c how 0 k' ∧ KKt w2 base { s with k := k' } ∧ KF s w { s with k := k' } w2) := Hid.intro ⟨.inr ⟨HA.out.1, n, rfl, hn, J0.out.symm, .inr ⟨J0.out, y, q, et⟩⟩, ka, S1.out.2.trans kf⟩
      clear et ka kf
      go_wp2_with fail
      go_ret
      exact ⟨0, k', by rw [errV_zero]; rfl, S2.out⟩
    · have J0 := Hid.intro j0
      have HE := Hid.intro (errV_ne j0)
      rw [errV_ne j0]
      clear j0
      go_wp2_with fail
      go_ret
      exact ⟨Sg.howE c how, _, by rw [HE.out]; rfl, .inr ⟨HA.out.1, n, rfl, hn, rfl, .inl ⟨J0.out, rfl⟩⟩, S1.out⟩
  · have FIN : Hid (Kn.HowTo s.k z c how (Kn.actE s.k z) s.k) := Hid.intro (.inl ⟨a, rfl, rfl⟩)
    have HE := Hid.intro (errV_ne a)
    rw [errV_ne a] at AC
    clear h hi a hN
    generalize aptE (s.A 0) z (Kn.actE s.k z) = ap at *
    generalize s.A 0 = kb at *
    go_enter Tryz.func17, Tryz.ntmps17
    go_wp2_with fail
    refine AC.out.mono ?_
    rintro e w1 ⟨rfl, hw⟩
    subst w1
    go_wp2_with fail
    go_ret
    exact ⟨Kn.actE s.k z, s.k, by rw [HE.out]; rfl, FIN.out, H.out.1, KF.refl _ _⟩
end
end Go.Proofs.YtghogbngmcolmaaGreat
namespace Go.Proofs.YtghogbngmcolmaaGreat
open Go.RowKit
open Tr (Fo Nd)
open Mo (Wh Mt)
open Mv (Me Bk)
open Kn (Pr Kp St us KB KJ VI EI)
namespace Kn
theorem VI.h0 {X : Nat → Prop} {N : Nat} {d : Nat → Nat} {k : Kp} (h : VI X N d k) : hd k 0 = 0 := (hd_eq h.iv h.hs (by omega) h.hs.r0.1).2 h.hs.r0.2
theorem KI.box {N : Nat} {d : Nat → Nat} {k : Kp} (h : KI N d k) (n : Nat) {X : Nat → Sg.S1} (hX : n < 20 → lv k n = true → hd k n ≠ n → Sg.FirTo X 0 0) : KI N d (boxK k n X) := by
  have e : ∀ m, ((boxK k n X).p m).st = (k.p m).st ∧ ((boxK k n X).p m).par = (k.p m).par := fun m => by
    by_cases c : m = n
    · subst c; unfold boxK; rw [put_same]; exact ⟨rfl, rfl⟩
    · unfold boxK; rw [put_ne _ _ _ _ c]; exact ⟨rfl, rfl⟩
  refine ⟨⟨h.vi.kj.putP rfl rfl rfl, h.vi.iv, h.vi.hs⟩, fun m hm l hd1 => ?_, fun m hm m0 s0 => ?_, h.h0⟩
  · have l2 : lv k m = true := by unfold lv at l ⊢; rw [(e m).1] at l; exact l
    by_cases c : m = n
    · subst c
      unfold boxK; rw [put_same]
      exact hX hm l2 hd1
    · unfold boxK; rw [put_ne _ _ _ _ c]
      exact h.fi m hm l2 hd1
  · rw [(e m).1] at s0
    rw [(e m).2]
    exact h.pr m hm m0 s0
end Kn
end Go.Proofs.YtghogbngmcolmaaGreat
namespace Go.Proofs.YtghogbngmcolmaaGreat
open Go.RowKit
open Tr (Fo Nd)
open Mo (Wh Mt)
open Mv (Me Bk)
open Kn (Pr Kp St us KB KJ VI EI)
namespace Kn
def openA (s : St) (y c : Nat) (v : Value) (T : Mo.Tb) : St :=
  ⟨fun i => if i = 49 + y then c else if i = 55 + y then v.ownBlock.getD 0 else s.A i, fun i => if i = y then v else s.V i, { s.k with ht := fun i => if i = y then true else s.k.ht i, tb := fun i => if i = y then T else s.k.tb i }⟩
section
variable (s : St) (y c : Nat) (v : Value) (T : Mo.Tb)
theorem openA_t : (openA s y c v T).A (49 + y) = c := if_pos rfl
theorem openA_r : (openA s y c v T).A (55 + y) = v.ownBlock.getD 0 := (if_neg (by omega)).trans (if_pos rfl)
theorem openA_o {i : Nat} (h1 : i ≠ 49 + y) (h2 : i ≠ 55 + y) : (openA s y c v T).A i = s.A i := (if_neg h1).trans (if_neg h2)
theorem openA_vs : (openA s y c v T).V y = v ∧ (openA s y c v T).k.ht y = true ∧ (openA s y c v T).k.tb y = T := ⟨if_pos rfl, if_pos rfl, if_pos rfl⟩
theorem openA_vo {i : Nat} (h : i ≠ y) : (openA s y c v T).V i = s.V i ∧ (openA s y c v T).k.ht i = s.k.ht i ∧ (openA s y c v T).k.tb i = s.k.tb i := ⟨if_neg h, if_neg h, if_neg h⟩
end
theorem us_open {s : St} {y c : Nat} {v : Value} {T : Mo.Tb} {i : Nat} (hi : us (openA s y c v T) i) : i = 49 + y ∨ (i = 55 + y ∧ v.ownBlock ≠ none) ∨ (us s i ∧ i ≠ 49 + y ∧ i ≠ 55 + y) := by
  by_cases c1 : i = 49 + y
  · exact .inl c1
  · by_cases c2 : i = 55 + y
    · refine .inr (.inl ⟨c2, ?_⟩)
      subst c2
      rcases hi with hi | ⟨h1, h2, h3⟩ | ⟨h1, h2, h3⟩ | ⟨h1, h2, h3⟩ | ⟨h1, h2, h3, h4⟩
      · omega
      · omega
      · omega
      · omega
      · rw [show 55 + y - 55 = y by omega, (openA_vs s y c v T).1] at h4; exact h4
    · refine .inr (.inr ⟨?_, c1, c2⟩)
      rcases hi with hi | ⟨h1, h2, h3⟩ | ⟨h1, h2, h3⟩ | ⟨h1, h2, h3⟩ | ⟨h1, h2, h3, h4⟩
      · exact .inl hi
      · exact .inr (.inl ⟨h1, h2, h3⟩)
      · exact .inr (.inr (.inl ⟨h1, h2, h3⟩))
      · rw [(openA_vo s y c v T (by omega)).2.1] at h3
        exact .inr (.inr (.inr (.inl ⟨h1, h2, h3⟩)))
      · rw [(openA_vo s y c v T (by omega)).2.1] at h3
        rw [(openA_vo s y c v T (by omega)).1] at h4
        exact .inr (.inr (.inr (.inr ⟨h1, h2, h3, h4⟩)))
theorem kc_open (s : St) (y c : Nat) (v : Value) (T : Mo.Tb) (hy : y < 6) (o : Nat) (ho : o < 253) : kc (openA s y c v T) o = if o = 240 + y then .pointer (some ⟨c, 0, none⟩) else kc s o := by
  unfold kc
  by_cases e : o < 240
  · rw [if_pos e, if_pos e, if_neg (by omega)]
    unfold pc
    rw [openA_o _ _ _ _ _ (by omega) (by omega), openA_o _ _ _ _ _ (by omega) (by omega)]
    rfl
  · rw [if_neg e, if_neg e]
    by_cases c2 : o < 246
    · rw [if_pos c2, if_pos c2]
      by_cases c3 : o = 240 + y
      · rw [if_pos c3, show o - 240 = y by omega, openA_t, (openA_vs s y c v T).2.1]; rfl
      · rw [if_neg c3, openA_o _ _ _ _ _ (by omega) (by omega), (openA_vo s y c v T (by omega)).2.1]
    · have c4 : ¬ o = 240 + y := by omega
      rw [if_neg c2, if_neg c2, if_neg c4]
      by_cases c3 : o < 250
      · rw [if_pos c3, if_pos c3, openA_o _ _ _ _ _ (by omega) (by omega)]
      · rw [if_neg c3, if_neg c3, openA_o _ _ _ _ _ (by omega) (by omega)]
end Kn
section
variable {w w' : World} {base : Nat} {s : St}
theorem KKt.openT (h : KKt w base s) {y c : Nat} (hy : y < 6) {v : Value} {T : Mo.Tb} (t : TAt w base c (s.A 6) T v) (ac : ∀ i, us s i → s.A i ≠ c) (ag : ∀ g, v.ownBlock = some g → ∀ i, us s i → s.A i ≠ g) (lc : base ≤ c) :
    KKt (w.setCell ⟨s.A 0, 240 + y, none⟩ (.pointer (some ⟨c, 0, none⟩))) base (Kn.openA s y c v T) ∧ Frm (s.A 0) w (w.setCell ⟨s.A 0, 240 + y, none⟩ (.pointer (some ⟨c, 0, none⟩))) := by
  obtain ⟨C, e, sz⟩ := h.ker
  have f : Frm (s.A 0) w (w.setCell ⟨s.A 0, 240 + y, none⟩ (.pointer (some ⟨c, 0, none⟩))) := (Frm.refl _ _).setCell _ _
  have o := h.others (us9 (by omega)) f
  have A9 : ∀ i, i < 49 → (Kn.openA s y c v T).A i = s.A i := fun i hi => Kn.openA_o _ _ _ _ _ (by omega) (by omega)
  have t' : TAt (w.setCell ⟨s.A 0, 240 + y, none⟩ (.pointer (some ⟨c, 0, none⟩))) base c (s.A 6) T v := t.same (f.block _ t.lt (ac 0 (us9 (by omega))).symm) (fun g eg => f.block _ (t.row.lt g eg).2 (ag g eg 0 (us9 (by omega))).symm)
  have rg : v.ownBlock ≠ none → ∃ g, v.ownBlock = some g ∧ v.ownBlock.getD 0 = g := fun q => by
    cases e : v.ownBlock with
    | none => exact absurd e q
    | some g => exact ⟨g, rfl, rfl⟩
  refine ⟨⟨⟨_, by rw [A9 0 (by omega)]; exact blk_set e _ _, by simpa using sz⟩, fun i hi => ?_, by rw [A9 1 (by omega)]; exact h.sp.same (o 1 (us9 (by omega)) (by omega)), by rw [A9 2 (by omega)]; exact (o 2 (us9 (by omega)) (by omega)).trans h.gr, by rw [A9 3 (by omega)]; exact h.sc.same (o 3 (us9 (by omega)) (by omega)), by rw [A9 4 (by omega), A9 5 (by omega)]; exact h.bk.same (o 4 (us9 (by omega)) (by omega)) (o 5 (us9 (by omega)) (by omega)), by rw [A9 8 (by omega), A9 6 (by omega), A9 7 (by omega)]; exact h.fi.same (o 8 (us9 (by omega)) (by omega)), by rw [A9 6 (by omega)]; exact h.fo.same (o 6 (us9 (by omega)) (by omega)), by rw [A9 7 (by omega)]; exact h.pi.same (o 7 (us9 (by omega)) (by omega)),
    fun j hj jh => ?_, fun j hj jh => ?_, fun j hj hh => ?_, fun j hj hh g eg => ?_, fun i j hi hj eq => ?_, fun i hi => ?_⟩, f⟩
  · rw [A9 0 (by omega), Kn.kc_open s y c v T hy i hi]
    by_cases q : i = 240 + y
    · subst q
      rw [if_pos rfl, cell_set_same e _ _ (by omega)]
    · rw [if_neg q, cell_set_ne e _ _ _ (Ne.symm q), h.cel i hi]
  · rw [A9 _ (by omega), A9 4 (by omega)]
    exact (h.me j hj jh).same (o _ (Kn.us_m hj jh) (by omega))
  · rw [A9 _ (by omega)]
    exact (h.bx j hj jh).same (o _ (Kn.us_b hj jh) (by omega))
  · by_cases q : j = y
    · subst q
      rw [Kn.openA_t, A9 6 (by omega), (Kn.openA_vs s j c v T).1, (Kn.openA_vs s j c v T).2.2]; exact t'
    · rw [(Kn.openA_vo s y c v T q).2.1] at hh
      rw [Kn.openA_o _ _ _ _ _ (by omega) (by omega), A9 6 (by omega), (Kn.openA_vo s y c v T q).1, (Kn.openA_vo s y c v T q).2.2]
      exact (h.tb j hj hh).same (o _ (Kn.us_t hj hh) (by omega)) (fun g eg => by have := o _ (Kn.us_r hj hh eg) (by omega); rwa [h.ro j hj hh g eg] at this)
  · by_cases q : j = y
    · subst q
      rw [(Kn.openA_vs s j c v T).1] at eg
      rw [Kn.openA_r, eg]; rfl
    · rw [(Kn.openA_vo s y c v T q).2.1] at hh
      rw [(Kn.openA_vo s y c v T q).1] at eg
      rw [Kn.openA_o _ _ _ _ _ (by omega) (by omega)]
      exact h.ro j hj hh g eg
  · rcases Kn.us_open hi with rfl | ⟨rfl, vi⟩ | ⟨ui, i1, i2⟩ <;> rcases Kn.us_open hj with rfl | ⟨rfl, vj⟩ | ⟨uj, j1, j2⟩
    · rfl
    · obtain ⟨g, g1, g2⟩ := rg vj
      rw [Kn.openA_t, Kn.openA_r, g2] at eq; exact absurd eq.symm (t.neb g g1)
    · rw [Kn.openA_t, Kn.openA_o _ _ _ _ _ j1 j2] at eq; exact absurd eq.symm (ac j uj)
    · obtain ⟨g, g1, g2⟩ := rg vi
      rw [Kn.openA_t, Kn.openA_r, g2] at eq; exact absurd eq (t.neb g g1)
    · rfl
    · obtain ⟨g, g1, g2⟩ := rg vi
      rw [Kn.openA_r, g2, Kn.openA_o _ _ _ _ _ j1 j2] at eq; exact absurd eq.symm (ag g g1 j uj)
    · rw [Kn.openA_t, Kn.openA_o _ _ _ _ _ i1 i2] at eq; exact absurd eq (ac i ui)
    · obtain ⟨g, g1, g2⟩ := rg vj
      rw [Kn.openA_r, g2, Kn.openA_o _ _ _ _ _ i1 i2] at eq; exact absurd eq (ag g g1 i ui)
    · rw [Kn.openA_o _ _ _ _ _ i1 i2, Kn.openA_o _ _ _ _ _ j1 j2] at eq; exact h.inj i j ui uj eq
  · rcases Kn.us_open hi with rfl | ⟨rfl, vi⟩ | ⟨ui, i1, i2⟩
    · rw [Kn.openA_t]; exact lc
    · obtain ⟨g, g1, g2⟩ := rg vi
      rw [Kn.openA_r, g2]; exact (t.row.lt g g1).1
    · rw [Kn.openA_o _ _ _ _ _ i1 i2]; exact h.low i ui
end
end Go.Proofs.YtghogbngmcolmaaGreat
namespace Go.Proofs.YtghogbngmcolmaaGreat
open Go.RowKit
open Tr (Fo Nd)
open Mo (Wh Mt)
open Mv (Me Bk)
open Kn (Pr Kp St us KB KJ VI EI)
theorem TAt.low {w : World} {B base b f : Nat} {T : Mo.Tb} {v : Value} (h : TAt w B b f T v) (hB : base ≤ B) : TAt w base b f T v := by
  refine ⟨h.blk, ⟨h.row.1, ?_⟩, h.six⟩
  rcases h.row.2 with q | ⟨g, cap, cur, e, hb, r⟩
  · exact .inl q
  · exact .inr ⟨g, cap, cur, e, Nat.le_trans hB hb, r⟩
def Kn.homE (k : Kp) (n : Nat) (own : Bool) : Int := if own = true then Sp.addE k.sp ((Sp.inN k.sp (n : Int) : Nat) : Int) else 0
def Kn.homN (k : Kp) (n : Nat) (own : Bool) : Nat := if own = true then Sp.addN k.sp ((Sp.inN k.sp (n : Int) : Nat) : Int) else Sp.inN k.sp (n : Int)
def Kn.homK (k : Kp) (n : Nat) (own : Bool) : Kp := if own = true ∧ Kn.homE k n own = 0 then { k with sp := Sp.addT k.sp ((Sp.inN k.sp (n : Int) : Nat) : Int), fo := Mo.hoA k.fo (k.tb (Sp.inN k.sp (n : Int))), ht := fun i => if i = Kn.homN k n own then true else k.ht i, tb := fun i => if i = Kn.homN k n own then k.tb (Sp.inN k.sp (n : Int)) else k.tb i } else k
section
variable (base N : Nat) (d : Nat → Nat) (s : St) (w : World)
set_option maxRecDepth 100000 in
set_option maxHeartbeats 2000000 in
theorem khome_any (n z : Nat) (own : Bool) (h : KKt w base s) (hb : base ≤ w.heap.size) (hv : VI (fun _ => False) N d s.k) (hn : n < 20) (ho : s.k.sp.of n = z + 1) :
    Calls Tryz.prog 32 #[.pointer (some ⟨s.A 0, 0, none⟩), .int .i64 n, .bool own] w fun e w' => ∃ s', e = .returned (.tuple #[.int .i64 (Kn.homN s.k n own : Int), errV (Kn.homE s.k n own)]) ∧ s'.k = Kn.homK s.k n own ∧ KKt w' base s' ∧ KF s w s' w' := by
  obtain ⟨_, z6, zh⟩ := hv.iv.mem_self hn ho
  have z6I : (z : Int) < 6 := by omega
  have SP := Hid.intro (kspace_any base s w (n : Int) h)
  have iz : Sp.inN s.k.sp (n : Int) = z := Sp.inN_of hn ho
  have hz : s.k.ht z = true := by rw [hv.kj.ht z z6]; exact zh
  have H := Hid.intro (And.intro h (And.intro hv (And.intro hz hb)))
  rw [iz] at SP
  cases own
  · have E : Hid (Kn.homE s.k n false = 0 ∧ Kn.homN s.k n false = z ∧ Kn.homK s.k n false = s.k) := Hid.intro ⟨rfl, iz, by unfold Kn.homK; rw [if_neg (fun q => by cases q.1)]⟩
    rw [E.out.1, E.out.2.1, errV_zero]
    clear h hv ho iz hz zh hb
    generalize s.A 0 = kb at *
    go_enter Tryz.func32, Tryz.ntmps32
    go_wp2_with fail
    refine SP.out.mono ?_
    rintro e w1 ⟨rfl, hw⟩
    subst w1
    go_wp2_with fail
    go_ret2
    exact ⟨s, rfl, E.out.2.2.symm, H.out.1, KF.refl _ _⟩
  · have E0 : Kn.homE s.k n true = Sp.addE s.k.sp (z : Int) := by unfold Kn.homE; rw [if_pos rfl, iz]
    have N0 : Kn.homN s.k n true = Sp.addN s.k.sp (z : Int) := by unfold Kn.homN; rw [if_pos rfl, iz]
    have AD := Hid.intro (add_any (s.A 1) (z : Int) s.k.sp d w h.sp hv.iv)
    have c6 := h.cSp
    obtain ⟨kb, hkb⟩ : ∃ kb, s.A 0 = kb := ⟨_, rfl⟩
    have HK := Hid.intro hkb
    obtain ⟨p1, hp1⟩ : ∃ p1, s.A 1 = p1 := ⟨_, rfl⟩
    have HP := Hid.intro hp1
    rw [hkb] at SP c6 ⊢
    rw [hp1] at AD c6
    by_cases c : Sp.addE s.k.sp (z : Int) = 0
    · obtain ⟨f6, fh⟩ : Sp.freeS s.k.sp < 6 ∧ s.k.sp.here (Sp.freeS s.k.sp) = false := by obtain ⟨n1, e1, a1, a2, a3, a4, a5, a6⟩ := Sp.addE_zero c; exact ⟨a4, a5⟩
      have an : Sp.addN s.k.sp (z : Int) = Sp.freeS s.k.sp := if_pos c
      obtain ⟨y, hy⟩ : ∃ y, Sp.freeS s.k.sp = y := ⟨_, rfl⟩
      rw [hy] at f6 fh an
      have EK : Hid (Kn.homK s.k n true = { s.k with sp := Sp.addT s.k.sp (z : Int), fo := Mo.hoA s.k.fo (s.k.tb z), ht := fun i => if i = y then true else s.k.ht i, tb := fun i => if i = y then s.k.tb z else s.k.tb i }) := Hid.intro (by
        unfold Kn.homK
        rw [if_pos ⟨rfl, by rw [E0]; exact c⟩, N0, an, iz])
      rw [E0, N0, an, c, errV_zero]
      rw [an, c, errV_zero] at AD
      have y6I : (y : Int) < 6 := by omega
      have YZ : y ≠ z := fun e => by rw [e, zh] at fh; cases fh
      clear h hv ho iz hz zh hb E0 N0 an c hy fh hkb hp1
      go_enter Tryz.func32, Tryz.ntmps32
      go_wp2_with fail
      refine SP.out.mono ?_
      rintro e w1 ⟨rfl, hw⟩
      subst w1
      go_wp2_with fail
      refine AD.out.mono ?_
      rintro e w1 ⟨rfl, t1, f1⟩
      have S1 : Hid (KKt w1 base { s with k := { s.k with sp := Sp.addT s.k.sp (z : Int) } } ∧ KF s w { s with k := { s.k with sp := Sp.addT s.k.sp (z : Int) } } w1 ∧ base ≤ w1.heap.size) := Hid.intro (by
        rw [← HP.out] at t1 f1
        have q := H.out.1.setSp t1 f1
        exact ⟨q.1, q.2, Nat.le_trans H.out.2.2.2 f1.size⟩)
      clear t1 f1 c6
      go_upto_region 7 with fail
      have KC : Hid (∀ W k, KKt W base { s with k := k } → k.ht z = true → W.cell? ⟨kb, 240 + z, none⟩ = some (.pointer (some ⟨s.A (49 + z), 0, none⟩))) := Hid.intro (fun W k hW e => by
        have q := hW.cTab z z6 e
        rw [show ({ s with k := k } : St).A 0 = kb from HK.out] at q
        exact q)
      have K0 := Hid.intro (KC.out w1 _ S1.out.1 H.out.2.2.1)
      have CP := Hid.intro (copy_any base (s.A (49 + z)) (s.A 6) 102 (s.k.tb z) (s.V z) s.k.fo w1.drew (S1.out.1.drew.tb z z6 H.out.2.2.1) S1.out.1.drew.fo H.out.2.1.kj.hb (by decide))
      obtain ⟨tz, htz⟩ : ∃ tz, s.A (49 + z) = tz := ⟨_, rfl⟩
      rw [htz] at CP K0
      clear htz
      have y1 := K0.out
      go_region_held3 (fun w' => w'.cell? ⟨kb, 240 + z, none⟩ = some (.pointer (some ⟨tz, 0, none⟩))) (first | exact K0.out | exact K4.out | exact K5.out) (
        (go_at_call 68; refine CP.out.mono ?_; rintro e w4 ⟨c, v', rfl, lc, t4, u4, f4⟩; have S4 : Hid (KKt w4 base { s with k := { s.k with sp := Sp.addT s.k.sp (z : Int), fo := Mo.hoA s.k.fo (s.k.tb z) } } ∧ KF s w { s with k := { s.k with sp := Sp.addT s.k.sp (z : Int), fo := Mo.hoA s.k.fo (s.k.tb z) } } w4 ∧ TAt w4 w1.heap.size c (s.A 6) (s.k.tb z) v' ∧ w1.heap.size ≤ c) := Hid.intro (by
            have q := S1.out.1.drew.setFo u4 f4
            exact ⟨q.1, S1.out.2.1.trans ((KF.drew _ _).trans q.2), t4, lc⟩); have K4 : Hid (w4.cell? ⟨kb, 240 + z, none⟩ = some (.pointer (some ⟨tz, 0, none⟩))) := Hid.intro (by
            rw [← K0.out]
            exact World.cell?_of_block (f4.block kb (by rw [← HK.out]; exact S1.out.1.lt (us9 (by omega))) (by rw [← HK.out]; exact S1.out.1.ne (us9 (by omega)) (us9 (by omega)) (by omega)))); have K5 : Hid ((w4.setCell ⟨kb, 240 + y, none⟩ (.pointer (some ⟨c, 0, none⟩))).cell? ⟨kb, 240 + z, none⟩ = some (.pointer (some ⟨tz, 0, none⟩))) := Hid.intro (by
            obtain ⟨C, e, _⟩ := S4.out.1.ker
            rw [show ({ s with k := { s.k with sp := Sp.addT s.k.sp (z : Int), fo := Mo.hoA s.k.fo (s.k.tb z) } } : St).A 0 = kb from HK.out] at e
            rw [cell_set_ne e _ _ _ (by omega)]; exact K4.out); have cy : ∃ vy, w4.cell? ⟨kb, 240 + y, none⟩ = some vy := (by rw [← HK.out]; exact ⟨_, S4.out.1.cel (240 + y) (by omega)⟩); obtain ⟨vy, cy⟩ := cy; have fz : ∀ o, w4.frozen? ⟨kb, o, none⟩ = false := (fun o => by rw [← HK.out]; exact S4.out.1.frozen o); clear t4 u4 f4 lc))
      have FIN : Hid (KKt (w4.setCell ⟨kb, 240 + y, none⟩ (.pointer (some ⟨c, 0, none⟩))) base (Kn.openA { s with k := { s.k with sp := Sp.addT s.k.sp (z : Int), fo := Mo.hoA s.k.fo (s.k.tb z) } } y c v' (s.k.tb z)) ∧ KF s w (Kn.openA { s with k := { s.k with sp := Sp.addT s.k.sp (z : Int), fo := Mo.hoA s.k.fo (s.k.tb z) } } y c v' (s.k.tb z)) (w4.setCell ⟨kb, 240 + y, none⟩ (.pointer (some ⟨c, 0, none⟩)))) := Hid.intro (by
        have lt1 : ∀ i, us s i → s.A i < w1.heap.size := fun i hi => Nat.lt_of_lt_of_le (H.out.1.lt hi) S1.out.2.1.onl.size
        have q := S4.out.1.openT f6 (S4.out.2.2.1.low S1.out.2.2) (fun i hi => by have := lt1 i hi; have := S4.out.2.2.2; show s.A i ≠ c; omega) (fun g eg i hi => by have := lt1 i hi; have := (S4.out.2.2.1.row.lt g eg).1; show s.A i ≠ g; omega) (Nat.le_trans S1.out.2.2 S4.out.2.2.2)
        rw [show ({ s with k := { s.k with sp := Sp.addT s.k.sp (z : Int), fo := Mo.hoA s.k.fo (s.k.tb z) } } : St).A 0 = kb from HK.out] at q
        refine ⟨q.1, S4.out.2.1.onl.trans (Onl.of_frm q.2 (by rw [← HK.out]; exact ⟨0, us9 (by omega), rfl⟩)), fun b ⟨i, hi, eb⟩ => ?_, Kn.openA_o _ _ _ _ _ (by omega) (by omega)⟩
        rcases Kn.us_open hi with rfl | ⟨rfl, vi⟩ | ⟨ui, i1, i2⟩
        · rw [Kn.openA_t] at eb
          exact .inr (by rw [eb]; exact Nat.le_trans S1.out.2.1.onl.size S4.out.2.2.2)
        · rw [Kn.openA_r] at eb
          cases e : v'.ownBlock with
          | none => exact absurd e vi
          | some g =>
            rw [e] at eb
            have := (S4.out.2.2.1.row.lt g e).1
            exact .inr (by rw [eb]; exact Nat.le_trans S1.out.2.1.onl.size this)
        · rw [Kn.openA_o _ _ _ _ _ i1 i2] at eb
          exact .inl ⟨i, ui, eb⟩)
      clear y1 K4 K5 cy fz
      go_wp2_with fail
      go_ret2
      exact ⟨rfl, _, EK.out.symm, FIN.out⟩
    · have E : Hid (Kn.homK s.k n true = s.k ∧ Sp.addT s.k.sp (z : Int) = s.k.sp) := Hid.intro ⟨by unfold Kn.homK; rw [if_neg (fun q => c (by rw [← E0]; exact q.2))], if_neg c⟩
      have an : Sp.addN s.k.sp (z : Int) = 0 := if_neg c
      rw [E0, N0, an, errV_ne c]
      rw [an, errV_ne c] at AD
      clear h hv ho iz hz zh hb E0 N0 an hkb hp1
      generalize Sp.addE s.k.sp (z : Int) = ae at *
      go_enter Tryz.func32, Tryz.ntmps32
      go_wp2_with fail
      refine SP.out.mono ?_
      rintro e w1 ⟨rfl, hw⟩
      subst w1
      go_wp2_with fail
      refine AD.out.mono ?_
      rintro e w1 ⟨rfl, t1, f1⟩
      have S1 : Hid (KKt w1 base s ∧ KF s w s w1) := Hid.intro (by
        rw [← HP.out] at t1 f1
        rw [E.out.2] at t1
        exact H.out.1.setSp t1 f1)
      clear t1 f1 c6
      go_wp2_with fail
      go_ret2
      exact ⟨s, rfl, E.out.1.symm, S1.out⟩
end
end Go.Proofs.YtghogbngmcolmaaGreat

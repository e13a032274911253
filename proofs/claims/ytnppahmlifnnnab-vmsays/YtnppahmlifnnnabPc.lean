/- The code's memory: Regions. -/
import Derived.Test.YtnppahmlifnnnabPb
import Derived.Test.YtnppahmlifnnnabShr
namespace Go.Proofs.Ytnppahmlifnnnab
open Go.RowKit Go.Shelf Go.Lib Go.Sort
open Mv (Me Rg)

theorem RO.lift {w w1 w2 : World} {L : List Rg} {v : Value} (h : RO w1 L v w2) (B : RowKit.Below w.heap.size w w1) : RO w L v w2 := ⟨B.trans (h.bel.mono B.size), h.own.mono B.size, h.nil⟩
theorem box1 (w : World) (v : Value) (T : TypeId) (o2 : Obj) : ((w.alloc (.cells #[v] T)).alloc o2).cell? ⟨w.heap.size, 0, none⟩ = some v := by
  have h := heap_alloc_new w (.cells #[v] T)
  rw [cell_blk ((heap_alloc_old (w.alloc (.cells #[v] T)) o2 (by simp)).trans h)]
  rfl
theorem box2 (w : World) (v : Value) (T : TypeId) (o1 : Obj) : ((w.alloc o1).alloc (.cells #[v] T)).cell? ⟨w.heap.size + 1, 0, none⟩ = some v := by
  have h := heap_alloc_new (w.alloc o1) (.cells #[v] T)
  rw [show (w.alloc o1).heap.size = w.heap.size + 1 by simp] at h
  rw [cell_blk h]
  rfl
theorem wpList_append_none {ops : Array Oper} {rest : List Oper} {o : Oper} {a : Act} {w : World} {Q : Exit → Act → World → Prop} (hgd : o.guard = none) (s x : Operand) (t : TypeId)
    (ho : o.op = .call { callee := .builtin .append, args := #[s, x], argTypes := #[t, t] }) (base : Nat) (e : TypeId) (i : TypeInfo) (size : Nat) (ht : Try.prog.underlying t = some (.slice e)) (hi : Try.prog.info? e = some i)
    (v : Value) (n : Nat) (xs : List Value) (hs : a.eval s = v) (hown : w.ownsRow base e size v n xs) (hx : a.eval x = .slice none 0 0) (h : wpList Try.prog ops Q rest (a.put o.dst v) w) : wpList Try.prog ops Q (o :: rest) a w :=
  wpList_plain hgd fun _ hK => by
    unfold Oper.wp execOp
    simp only [ho, resolve, invoke, builtin, Sem.run_bind, Sem.run_pure, Result.andThen_ok, List.map_toArray, List.map_cons, List.map_nil, hs, hx, run_append_owned_none (P := Try.prog) w base t o.type e i size ht hi v n xs hown]
    exact hK _ _ h
set_option maxRecDepth 100000 in
set_option maxHeartbeats 400000 in
theorem regions1_any (b r : Nat) (t : Bool) (m : Me) (w : World) (h : UAt w b r m) (hm : ∀ i, i < 16 → m.is i ≤ 2) :
    Calls Try.prog 120 #[.pointer (some ⟨b, 0, none⟩), .bool t] w fun e w' => ∃ v, e = .returned v ∧ RO w (Mv.spK m t 16) v w' := by
  have B1 : Hid (∀ o1 o2, RowKit.Below w.heap.size w ((w.alloc o1).alloc o2)) := Hid.intro (fun o1 o2 => ((RowKit.Below.refl _ _).alloc (Nat.le_refl _) _).alloc (by simp) _)
  have HF := Hid.intro h
  clear h
  go_enter Try.func120, Try.ntmps120
  go_wp2_with fail
  refine (spans_any w.heap.size (w.heap.size + 1) b r t m _ (HF.out.below (B1.out _ _)) (box1 _ _ _ _) (box2 _ _ _ _) hm).mono ?_
  rintro e w1 ⟨v, rfl, h1⟩
  have H1 := Hid.intro (h1.lift (B1.out _ _))
  clear h1
  go_wp2_with fail
  go_ret
  exact ⟨_, rfl, H1.out⟩
/-- A region as the sort sees it. -/
def encR (x : Rg) : List Value := [.int .i64 ((x.1 % 16 : Nat) : Int), .int .i64 (x.2.1 : Int), .bool x.2.2]
def cfR (x y : Rg) : Int := ((x.1 % 16 : Nat) : Int) - ((y.1 % 16 : Nat) : Int)
theorem encR_rgC {x : Rg} (h : x.1 < 16) : encR x = rgC x := by unfold encR rgC; rw [Nat.mod_eq_of_lt h]
theorem ltR (x y : Rg) : ltOf cfR x y = decide (x.1 % 16 < y.1 % 16) := by
  unfold ltOf cfR
  by_cases c : x.1 % 16 < y.1 % 16
  · simp [c]; omega
  · simp [c]; omega
theorem swoR : SWO (ltOf cfR) where
  irrefl x := by rw [ltR]; simp
  trans x y z h1 h2 := by rw [ltR] at *; simp at *; omega
  ntrans x y z h1 h2 := by rw [ltR] at *; simp at *; omega
set_option maxRecDepth 100000 in
set_option maxHeartbeats 400000 in
theorem cmpR_any (x y : Rg) (W : World) : Calls Try.prog 122 #[.agg (encR x).toArray, .agg (encR y).toArray] W fun e w' => e = .returned (.int .i64 (cfR x y)) ∧ ∃ q os', w' = grow (W.drewN q) os' := by
  obtain ⟨f, c, t⟩ := x
  obtain ⟨g, d, u⟩ := y
  have hf : f % 16 < 16 := Nat.mod_lt _ (by omega)
  have hg : g % 16 < 16 := Nat.mod_lt _ (by omega)
  unfold encR cfR
  simp only
  generalize f % 16 = f1 at *
  generalize g % 16 = g1 at *
  have hw : IntKind.i64.wrap ((f1 : Int) - (g1 : Int)) = (f1 : Int) - (g1 : Int) := IntWalk.i64_in _ ⟨by omega, by omega⟩
  go_enter Try.func122, Try.ntmps122
  go_wp2_with fail
  go_ret
  exact ⟨rfl, 0, _, by rw [alloc_eq_grow, alloc_eq_grow, grow_grow]; rfl⟩
theorem cmpLaysR (blk off size : Nat) (w : World) : CmpLays Try.prog 122 #[] encR 3 cfR blk off size w := fun _ _ _ _ x y => cmpR_any x y _
theorem rcs_flat (L : List Rg) (h : ∀ x ∈ L, x.1 < 16) (t : Nat) (ht : t < L.length * 3) : (rcs L)[t]? = some ((flatK encR 3 L.toArray)[t]!) := by
  have hd : t / 3 < L.length := by omega
  rw [get_flatK _ _ _ _ (by simpa using ht)]
  have e : (L.toArray)[t / 3]! = L[t / 3] := by simp [hd]
  rw [e, encR_rgC (h _ (List.getElem_mem hd))]
  have a := rcs_at L (t / 3) (t % 3) L[t / 3] (List.getElem?_eq_getElem hd) (Nat.mod_lt _ (by omega))
  rw [show t / 3 * 3 + t % 3 = t by omega] at a
  rw [a]
  have hm : t % 3 < (rgC L[t / 3]).length := Nat.mod_lt _ (by omega)
  rw [List.getElem?_eq_getElem hm]
  simp [hm]
/-- What the sort leaves of a slice of regions. -/
theorem sortR_any (w w1 : World) (L : List Rg) (v : Value) (h : RO w L v w1) (h16 : ∀ x ∈ L, x.1 < 16) (hl : L.length < 100) :
    Calls Try.prog 121 #[v, .func (.func 122) #[] #[]] w1 fun e w' => e = .returned (.tuple #[]) ∧ ∃ L', L'.Perm L ∧ L'.Pairwise (fun x y => x.1 ≤ y.1) ∧ RO w L' v w' := by
  by_cases h0 : L.length = 0
  · obtain rfl := List.eq_nil_of_length_eq_zero h0
    rw [h.nil rfl]
    have hS := AnyF.slices_SortFunc_none (P := Try.prog) (ρ := Try.sortR_ren) { Try.sortR with } none 0 (.func (.func 122) #[] #[]) w1
    change Calls Try.prog 121 _ _ _ at hS
    refine hS.mono ?_
    rintro e w' ⟨rfl, hw⟩
    subst w'
    exact ⟨rfl, [], List.Perm.refl _, List.Pairwise.nil, by rw [← h.nil rfl]; exact h⟩
  · obtain ⟨g, cap, hv, hb, hg⟩ := h.own.form (by omega)
    subst hv
    have hH : HoldsK encR 3 w1 g 0 L.toArray := fun j hj => by
      have hj' : j < L.length * 3 := by simpa using hj
      rw [Nat.zero_add]
      refine ⟨?_, h.own.frozenAt j⟩
      rw [h.own.cellAt j hj']
      exact rcs_flat L h16 j hj'
    have eg : ∀ args w, (callFunc 122 args).run Try.prog w = .ok (.enter 122 args) w := enters_of Try.func122 (by kernel_rfl) rfl
    have hS := AnyQ.slices_SortFunc Try.sortR 3 Try.isAgg191 Try.sizeOf191 encR (fun _ => rfl) (fun x v hv => by simp [encR] at hv; rcases hv with rfl | rfl | rfl <;> rfl) cfR swoR 122 #[] g 0 cap L.toArray w1 eg (cmpLaysR _ _ _ _) hH hg (by simp; omega)
    change Calls Try.prog 121 _ _ _ at hS
    rw [show L.toArray.size = L.length by simp] at hS
    refine hS.mono ?_
    rintro e w' ⟨rfl, d', n, os, hp, hs, rfl⟩
    have hs' : d'.size = L.length := by rw [hp.1]; simp
    have hperm : d'.toList.Perm L := by
      have h3 := hp.2.2
      have e1 : L.toArray.extract 0 L.length = L.toArray := by simp
      have e2 : d'.extract 0 L.length = d' := by rw [← hs']; exact Array.extract_size
      rw [e1, e2] at h3
      exact h3
    have h16' : ∀ x ∈ d'.toList, x.1 < 16 := fun x hx => h16 x (hperm.subset hx)
    refine ⟨rfl, d'.toList, hperm, ?_, ?_⟩
    · rw [List.pairwise_iff_getElem]
      intro i j hi hj hij
      have hj' : j < d'.size := by simpa using hj
      have hi' : i < d'.size := by simpa using hi
      have hlt := hs i j (Nat.zero_le _) hij (by omega)
      rw [ltR, getElem!_pos d' j hj', getElem!_pos d' i hi'] at hlt
      simp only [decide_eq_false_iff_not] at hlt
      have a := h16' _ (List.getElem_mem hi)
      have b := h16' _ (List.getElem_mem hj)
      simp only [Array.getElem_toList] at a b ⊢
      rw [Nat.mod_eq_of_lt a, Nat.mod_eq_of_lt b] at hlt
      omega
    · have hgr : w1.grownBy (sortWorldK encR 3 w1 g 0 n d' os) (some g) := by
        refine ⟨rfl, rfl, rfl, ?_, fun k hk hne => ?_⟩
        · unfold sortWorldK Sort.grow putRowK Sort.putRow Sort.mapBlock Sort.ahead
          simp
        · unfold sortWorldK Sort.grow putRowK Sort.putRow Sort.mapBlock Sort.ahead
          simp only
          rw [Array.getElem?_append_left (by simpa using hk), Array.getElem?_modify, if_neg (fun e => hne (by rw [e]))]
      have hbl : ∀ k, (some g : Option Nat) = some k → w.heap.size ≤ k := fun k e => by injection e with e; omega
      refine ⟨?_, ?_, fun e => by
        have : d'.size = 0 := by rw [← Array.length_toList, e]; rfl
        omega⟩
      · exact h.bel.grown hgr h.bel.size hbl
      · rcases h.own.2 with ⟨hv, _⟩ | ⟨g', cap', cur, hv, hb', hgg, hnc, hcm, hcs, htake⟩
        · cases hv
        · simp only [Value.slice.injEq, Option.some.injEq, Addr.mk.injEq, and_true, true_and] at hv
          obtain ⟨rfl, rfl⟩ := hv
          have hl3 : d'.toList.length = L.length := by rw [Array.length_toList, hs']
          have hheap : (sortWorldK encR 3 w1 g 0 n d' os).heap[g]? = some (.cells (putCells id 0 (flatK encR 3 d') cur) 191 (0, 0)) := by
            unfold sortWorldK
            rw [heap_grow_old _ _ (by simpa [putRowK] using hg)]
            simp [putRowK, putRow, mapBlock, Sort.ahead, Array.getElem?_modify, hgg, onCells]
          rw [hl3]
          refine ⟨by rw [rcs_len, hl3], .inr ⟨g, cap, _, rfl, hb, hheap, hnc, hcm, by simpa [putCells] using hcs, ?_⟩⟩
          apply List.ext_getElem?
          intro t
          by_cases ht : t < L.length * 3
          · have hc : t < cur.size := by rw [hcs]; exact Nat.lt_of_lt_of_le ht (Nat.mul_le_mul_right _ hnc)
            rw [List.getElem?_take_of_lt ht, rcs_flat d'.toList h16' t (by rw [hl3]; exact ht), Array.toArray_toList, Array.getElem?_toList]
            unfold putCells
            have hf : t < 0 + (flatK encR 3 d').size := by rw [size_flatK, hs']; omega
            simp only [Array.getElem?_mapIdx, Array.getElem?_eq_getElem hc, Option.map_some]
            rw [if_pos ⟨Nat.zero_le _, hf⟩]
            rfl
          · rw [List.getElem?_eq_none (by rw [List.length_take]; omega), List.getElem?_eq_none (by rw [rcs_len, hl3]; omega)]
set_option maxRecDepth 100000 in
set_option maxHeartbeats 1000000 in
theorem vregions_any (b r : Nat) (m : Me) (w : World) (h : UAt w b r m) (hm : ∀ i, i < 16 → m.is i ≤ 2) :
    Calls Try.prog 59 #[.pointer (some ⟨b, 0, none⟩)] w fun e w' => ∃ v, e = .returned v ∧ RO w (Mv.rgK m 16) v w' := by
  have HF := Hid.intro h
  have HI := Hid.intro (Mv.rgI m hm 16 (Nat.le_refl _))
  have l1 := Mv.spK_len m false 16
  have l2 := Mv.spK_len m true 16
  have HM := Hid.intro hm
  have H16 : Hid (∀ x ∈ Mv.spK m false 16 ++ Mv.spK m true 16, x.1 < 16) := Hid.intro (fun x hx => (HI.out.le x (HI.out.perm.subset hx)).1)
  clear h hm
  obtain ⟨i0, z0, hi0, hz0, hz1, hz2, hz3⟩ := infoRg
  generalize hA : Mv.spK m false 16 = A at *
  generalize hB : Mv.spK m true 16 = B at *
  have HA := Hid.intro (And.intro hA hB)
  clear hA hB
  go_enter Try.func59, Try.ntmps59
  go_wp2_with fail
  refine (regions1_any b r false m _ HF.out HM.out).mono ?_
  rintro e w1 ⟨v1, rfl, h1⟩
  rw [HA.out.1] at h1
  have R1 := Hid.intro h1
  clear h1
  go_wp2_with fail
  refine (regions1_any b r true m _ (HF.out.below R1.out.bel) HM.out).mono ?_
  rintro e w2 ⟨v2, rfl, h2⟩
  rw [HA.out.2] at h2
  have R2 := Hid.intro h2
  have R3 := Hid.intro (R1.out.below h2.bel)
  clear h2
  obtain ⟨va, vc, hv⟩ := R3.out.form
  subst hv
  obtain ⟨N, hN⟩ : ∃ N, A.length = N := ⟨_, rfl⟩
  obtain ⟨M, hM⟩ : ∃ M, B.length = M := ⟨_, rfl⟩
  have HNM := Hid.intro (And.intro hN hM)
  rw [hN] at R3 R1 l1 ⊢
  rw [hM] at l2
  clear hN hM
  by_cases b0 : M = 0
  · have hB0 : B = [] := List.eq_nil_of_length_eq_zero (by rw [HNM.out.2]; exact b0)
    have ev := R2.out.nil hB0
    subst ev
    have O3 : Hid (w2.ownsRow w.heap.size 191 3 (.slice va N vc) N (rcs A)) := Hid.intro (by have := R3.out.own; rw [HNM.out.1] at this; exact this)
    have R4 : Hid (RO w (A ++ B) (.slice va N vc) w2) := Hid.intro (by rw [hB0, List.append_nil]; exact R3.out)
    clear hB0 R3 R1 R2 b0
    go_wp2_with (at_builtin; refine wpList_append_none rfl _ _ 104 (by rfl) w.heap.size 191 i0 3 Try.underlying104 hi0 (.slice va N vc) N (rcs A) (by rfl) O3.out (by rfl) ?_)
    refine (sortR_any w _ (A ++ B) _ R4.out H16.out (by rw [List.length_append, HNM.out.1, HNM.out.2]; omega)).mono ?_
    rintro e w3 ⟨rfl, L', hp, hs, hr⟩
    have FIN : Hid (RO w (Mv.rgK m 16) (.slice va N vc) w3) := Hid.intro (by
      have := Mv.rg_sorted HI.out (L := L') (by rw [HA.out.1, HA.out.2]; exact hp) hs
      rw [← this]
      exact hr)
    clear hp hs hr
    go_wp2_with fail
    go_ret
    exact ⟨_, rfl, FIN.out⟩
  · obtain ⟨g2, c2, hv2, _, hg2⟩ := R2.out.own.form (by rw [HNM.out.2]; omega)
    subst hv2
    have RB : Hid (∀ j u, (rcs B)[j]? = some u → w2.cell? ((⟨g2, 0, none⟩ : Addr).add j) = some u) := Hid.intro (R2.out.own.cells (g := g2) rfl)
    have O1 : Hid (∀ u ∈ rcs B, u.oneCell' = true) := Hid.intro (fun u hu => by
      simp only [rcs, List.mem_flatMap] at hu
      obtain ⟨x, _, hx⟩ := hu
      simp [rgC] at hx
      rcases hx with rfl | rfl | rfl <;> rfl)
    have LB : Hid ((rcs B).length = M * 3) := Hid.intro (by rw [rcs_len, HNM.out.2])
    rw [HNM.out.2]
    go_wp2_with (at_builtin; refine wpList_append_lies _ rfl _ _ 104 (by rfl) w.heap.size 191 i0 z0 3 24 Try.underlying104 hi0 hz0 hz1 hz2 hz3 (by decide) (.slice va N vc) N (rcs A) (by rfl) (by have := R3.out.own; rw [HNM.out.1] at this; exact this) ⟨g2, 0, none⟩ M c2 (rcs B) (by rfl) LB.out RB.out O1.out (by omega) (by unfold maxLen; omega) (by omega) (by exact R3.out.bel.size) w2.heap.size rfl ?_; intro gg cap2 w3 hown hgrow hat hlt2; have R4 : Hid (RO w (A ++ B) (.slice (some ⟨gg, 0, none⟩) (N + M) cap2) w3) := Hid.intro ⟨R3.out.bel.grown hgrow R3.out.bel.size (fun k e => (R3.out.own.lt k e).1), by rw [List.length_append, HNM.out.1, HNM.out.2, rcs_app]; exact hown, fun e => by have := congrArg List.length e; rw [List.length_append, HNM.out.1, HNM.out.2] at this; simp at this; omega⟩; clear hown hgrow hat hlt2)
    refine (sortR_any w _ (A ++ B) _ R4.out H16.out (by rw [List.length_append, HNM.out.1, HNM.out.2]; omega)).mono ?_
    rintro e w4 ⟨rfl, L', hp, hs, hr⟩
    have FIN : Hid (RO w (Mv.rgK m 16) (.slice (some ⟨gg, 0, none⟩) (N + M) cap2) w4) := Hid.intro (by
      have := Mv.rg_sorted HI.out (L := L') (by rw [HA.out.1, HA.out.2]; exact hp) hs
      rw [← this]
      exact hr)
    clear hp hs hr
    go_wp2_with fail
    go_ret
    exact ⟨_, rfl, FIN.out⟩
end Go.Proofs.Ytnppahmlifnnnab

/- The code's memory: Fork. -/
import Derived.Test.YtnppahmlifnnnabNg
namespace Go.Proofs.Ytnppahmlifnnnab
open Go.RowKit
open Bd (P)
open Mv (Me Bk)

def memA (r : Nat) (m : Me) : Array Value := ((List.range 33).map (cellU r m)).toArray
theorem memA_at (r : Nat) (m : Me) (i : Nat) (h : i < 33) : (memA r m)[i]? = some (cellU r m i) := by simp [memA, h]
theorem memA_size (r : Nat) (m : Me) : (memA r m).size = 33 := by simp [memA]
theorem memA_len (r : Nat) (m : Me) : (memA r m).toList.length = 33 := by simp [memA]
theorem memA_one (r : Nat) (m : Me) : (memA r m).all (·.oneCell') = true := by
  rw [Array.all_eq_true_iff_forall_mem]
  intro v hv
  simp only [memA, List.mem_toArray, List.mem_map] at hv
  obtain ⟨o, _, rfl⟩ := hv
  unfold cellU
  split
  · rfl
  · split <;> rfl
theorem UAt.all {w : World} {b r : Nat} {m : Me} (h : UAt w b r m) : w.rangeAt b 0 (memA r m).toList := fun j v hv => by
  have hj : j < 33 := by have := (List.getElem?_eq_some_iff.1 hv).1; rwa [memA_len] at this
  rw [Array.getElem?_toList, memA_at r m j hj] at hv
  rw [Nat.zero_add, ← hv]; exact h.cell j hj
def uA0 : Array Value := ((List.range 33).map fun o => if o = 0 then Value.pointer none else .int .i64 0).toArray
section
variable {ops : Array Oper} {rest : List Oper} {x : Oper} {a : Act} {w : World} {Q : Exit → Act → World → Prop}
theorem wpList_alloc_u (hgd : x.guard = none) (ho : x.op = .alloc 116) (h : wpList Try.prog ops Q rest (a.put x.dst (.pointer (some ⟨w.heap.size, 0, none⟩))) (w.alloc (.cells uA0 116))) : wpList Try.prog ops Q (x :: rest) a w :=
  wpList_plain hgd fun _ hK => by
    unfold Oper.wp execOp
    simp only [ho]
    simp [go_sem]
    exact hK _ _ h
end
theorem uA0_size : uA0.size = 33 := by simp [uA0]
theorem u_copy {w : World} {c r : Nat} {m : Me} (h : w.heap[c]? = some (.cells uA0 116 (0, 0))) : UAt (w.setCells c 0 (memA r m).toList) c r m := by
  obtain ⟨C', k1, k2⟩ := heap_setCells_blk c (memA r m).toList 0 w uA0 h
  refine ⟨⟨C', k1, by rw [k2, uA0_size]⟩, fun o ho => ?_⟩
  have := World.cell?_setCells_in c (memA r m).toList 0 w (fun i hi => by
    rw [memA_len] at hi
    rw [cell_blk h]
    simp [uA0]; exact hi) o (by rw [memA_len]; exact ho)
  rw [Nat.zero_add] at this
  rw [this, ← List.getElem?_eq_getElem (by rw [memA_len]; exact ho), Array.getElem?_toList, memA_at r m o ho]

/-- So far j pages are held once more. -/
def Mv.foK (m : Me) (k : Bk) (j : Nat) : Bk := { k with refs := fun f => k.refs f + Mv.cntK m.fr f j }
theorem VAt.congr {w : World} {r q : Nat} {k k' : Bk} (h : VAt w r q k) (e1 : k'.pool = k.pool) (e2 : ∀ f, f < 64 → k'.refs f = k.refs f) (e3 : ∀ f j, f < 64 → k'.byt f j = k.byt f j) : VAt w r q k' := by
  refine ⟨h.blk, fun o ho => ?_, by rw [e1]; exact h.pool, h.ne⟩
  rw [h.cell o ho]
  unfold cellV
  by_cases c : o = 0
  · rw [if_pos c, if_pos c]
  · rw [if_neg c, if_neg c, e2 _ (by omega), e3 _ _ (by omega)]
theorem VAt.foStart {w : World} {r q : Nat} {m : Me} {k : Bk} (h : VAt w r q k) : VAt w r q (Mv.foK m k 0) := h.congr rfl (fun _ _ => rfl) (fun _ _ _ => rfl)
theorem VAt.foNo {w : World} {r q j : Nat} {m : Me} {k : Bk} (h : VAt w r q (Mv.foK m k j)) (c : m.fr j = 0) : VAt w r q (Mv.foK m k (j + 1)) := h.congr rfl (fun f _ => by
  show k.refs f + (Mv.cntK m.fr f j + if m.fr j = f + 1 then 1 else 0) = k.refs f + Mv.cntK m.fr f j
  rw [if_neg (by omega)]; rfl) (fun _ _ _ => rfl)
theorem VAt.foYes {w : World} {r q j v : Nat} {m : Me} {k : Bk} (h : VAt w r q (Mv.foK m k j)) (c : m.fr j = v + 1) (hv : v < 64) : VAt (w.setCell ⟨r, 1 + v * 9, none⟩ (.int .i64 (((Mv.foK m k j).refs v + 1 : Nat) : Int))) r q (Mv.foK m k (j + 1)) := (h.setRefs v _ hv).congr rfl (fun f _ => by
  show k.refs f + (Mv.cntK m.fr f j + if m.fr j = f + 1 then 1 else 0) = if f = v then k.refs v + Mv.cntK m.fr v j + 1 else k.refs f + Mv.cntK m.fr f j
  by_cases e : f = v
  · subst e; rw [if_pos c, if_pos rfl]; omega
  · rw [if_neg (by omega), if_neg e]; rfl) (fun _ _ _ => rfl)
theorem cntK_le (fr : Nat → Nat) (f n : Nat) : Mv.cntK fr f n ≤ n := by
  induction n with
  | zero => exact Nat.le_refl 0
  | succ n ih => show Mv.cntK fr f n + _ ≤ n + 1; split <;> omega
set_option maxRecDepth 100000 in
set_option maxHeartbeats 2000000 in
theorem vfork_any (b r q : Nat) (m : Me) (k : Bk) (w : World) (h : UB w b r q m k) (hl : ∀ i, i < 16 → m.fr i ≤ 64) (hr : ∀ f, f < 64 → k.refs f < 2 ^ 58) :
    Calls Try.prog 14 #[.pointer (some ⟨b, 0, none⟩)] w fun e w' => e = .returned (.pointer (some ⟨w.heap.size, 0, none⟩)) ∧ UAt w' w.heap.size r m ∧ UB w' b r q m (Mv.foK m k 16) ∧ Frm r w w' := by
  have HF := Hid.intro (And.intro h (And.intro hl hr))
  have HR := Hid.intro h.me.all
  have hs1 : Hid ((Try.prog.info? 116).map (·.size) = some (memA r m).toList.length) := Hid.intro (by rw [memA_len]; kernel_rfl)
  have hs2 : Hid ((Try.prog.info? 116).map (·.size) = some (memA r m).size) := Hid.intro (by rw [memA_size]; kernel_rfl)
  have h1c := Hid.intro (memA_one r m)
  have N0 : Hid ((w.alloc (.cells uA0 116)).heap[w.heap.size]? = some (.cells uA0 116 (0, 0))) := Hid.intro (heap_alloc_new w _)
  have TH : Hid ((w.alloc (.cells uA0 116)).there w.heap.size 0 (memA r m).size) := Hid.intro (fun j hj => by
    rw [memA_size] at hj
    refine ⟨?_, frozen_blk N0.out _⟩
    rw [cell_blk N0.out]
    simp [uA0]; exact hj)
  have FIN : Hid (UAt ((w.alloc (.cells uA0 116)).setCells w.heap.size 0 (memA r m).toList) w.heap.size r m ∧ UB ((w.alloc (.cells uA0 116)).setCells w.heap.size 0 (memA r m).toList) b r q m k ∧ Below w.heap.size w ((w.alloc (.cells uA0 116)).setCells w.heap.size 0 (memA r m).toList)) := Hid.intro (by
    have bb : Below w.heap.size w ((w.alloc (.cells uA0 116)).setCells w.heap.size 0 (memA r m).toList) := (Frm.setCells _ _ (Frm.refl w.heap.size _)).below ((Below.refl _ _).alloc (Nat.le_refl _) _) (Nat.le_refl _) (by simp)
    exact ⟨u_copy N0.out, HF.out.1.below bb, bb⟩)
  obtain ⟨A, hA⟩ : ∃ A, memA r m = A := ⟨_, rfl⟩
  rw [hA] at HR hs1 hs2 h1c TH FIN
  clear h hl hr hA N0
  go_enter Try.func14, Try.ntmps14
  go_upto_region 2 with (first | (refine wpList_load_mid rfl 116 _ rfl b 0 rfl A.toList _ HR.out Try.underlying116 rfl hs1.out ?_; rw [Array.toArray_toList]) | (refine wpList_alloc_u rfl rfl ?_) | (refine wpList_store_mid rfl 116 _ _ rfl w.heap.size 0 A rfl rfl TH.out hs2.out h1c.out ?_))
  refine wp_gen (fun W => UAt W w.heap.size r m ∧ UB W b r q m k ∧ Below w.heap.size w W) FIN.out ?_
  intro W1 hW1
  have S1 := Hid.intro hW1
  clear hW1 FIN TH HR hs1 hs2 h1c
  obtain ⟨c, hc⟩ : ∃ c, w.heap.size = c := ⟨_, rfl⟩
  have HC : Hid (w.heap.size = c ∧ c ≠ r ∧ c ≠ q ∧ b ≠ c) := Hid.intro ⟨hc, by have := HF.out.1.bk.lt; omega, by have := HF.out.1.bk.ltq; omega, by have := HF.out.1.me.lt; omega⟩
  rw [hc] at S1 ⊢
  clear hc
  have hsz := Hid.intro (rowP_size m)
  have HR := Hid.intro S1.out.1.range
  go_wp2_with (refine wpList_load_mid rfl 114 _ rfl c 1 rfl (rowP m) (.array 16 113) HR.out (by kernel_rfl) rfl hsz.out ?_)
  have S2 : Hid (UAt W1 c r m ∧ UB W1 b r q m (Mv.foK m k 0) ∧ Frm r w W1) := Hid.intro ⟨S1.out.1, ⟨S1.out.2.1.me, S1.out.2.1.bk.foStart, S1.out.2.1.br, S1.out.2.1.bq⟩, Frm.of_below (by have := S1.out.2.2; rw [← HC.out.1] at this; exact this)⟩
  clear S1 HR hsz
  go_loopw [11] (fun i wr => ∃ (j : Nat), i = .int .i64 j ∧ j ≤ 16 ∧ Hid (UAt wr c r m ∧ UB wr b r q m (Mv.foK m k j) ∧ Frm r w wr)) (fun i _ => 16 - (intOf i).toNat)
  case atStart => exact ⟨0, rfl, by omega, S2⟩
  case round =>
    clear S2
    obtain ⟨j, rfl, hj, S⟩ := hrel
    by_cases hlt : j < 16
    · have hltI : (j : Int) < 16 := by omega
      have hix := index_rowP m j hlt
      have AL : Hid (∀ o, UAt (wr.alloc o) c r m ∧ UB (wr.alloc o) b r q m (Mv.foK m k j) ∧ Frm r w (wr.alloc o)) := Hid.intro (fun o => by
        have bb : Below wr.heap.size wr (wr.alloc o) := (Below.refl _ _).alloc (Nat.le_refl _) o
        exact ⟨S.out.1.below bb, S.out.2.1.below bb, S.out.2.2.trans (Frm.of_below bb)⟩)
      generalize m.is j = u0 at *
      by_cases f0 : m.fr j = 0
      · have NX : Hid (∀ o, UAt (wr.alloc o) c r m ∧ UB (wr.alloc o) b r q m (Mv.foK m k (j + 1)) ∧ Frm r w (wr.alloc o)) := Hid.intro (fun o => ⟨(AL.out o).1, ⟨(AL.out o).2.1.me, (AL.out o).2.1.bk.foNo f0, (AL.out o).2.1.br, (AL.out o).2.1.bq⟩, (AL.out o).2.2⟩)
        rw [f0] at hix
        clear f0
        go_wp2_with fail
        go_roundw
        case rel => exact ⟨j + 1, by go_num, by omega, NX.out _⟩
        case measure => simp [intOf]; omega
      · obtain ⟨v, hv⟩ : ∃ v, m.fr j = v + 1 := ⟨m.fr j - 1, by omega⟩
        have v64 : v < 64 := by have := HF.out.2.1 j hlt; omega
        rw [hv, show ((v + 1 : Nat) : Int) - 1 = (v : Int) by omega] at hix
        have v1 : ((v : Int) == -1) = false := by simp
        have vI : (v : Int) < 64 := by omega
        have hcl := cntK_le m.fr v j
        have hrl := HF.out.2.2 v v64
        have rfl2 : Hid ((Mv.foK m k j).refs v < 2 ^ 59) := Hid.intro (by show k.refs v + Mv.cntK m.fr v j < _; omega)
        have NX : Hid (∀ W, UAt W c r m → UB W b r q m (Mv.foK m k j) → Frm r w W → UAt (W.setCell ⟨r, 1 + v * 9, none⟩ (.int .i64 (((Mv.foK m k j).refs v + 1 : Nat) : Int))) c r m ∧ UB (W.setCell ⟨r, 1 + v * 9, none⟩ (.int .i64 (((Mv.foK m k j).refs v + 1 : Nat) : Int))) b r q m (Mv.foK m k (j + 1)) ∧ Frm r w (W.setCell ⟨r, 1 + v * 9, none⟩ (.int .i64 (((Mv.foK m k j).refs v + 1 : Nat) : Int)))) := Hid.intro (fun W a1 a2 a3 =>
          ⟨a1.same (setBlk _ _ _ _ HC.out.2.1), ⟨a2.me.same (setBlk _ _ _ _ a2.br), a2.bk.foYes hv v64, a2.br, a2.bq⟩, a3.setCell _ _⟩)
        obtain ⟨rv, hrv⟩ : ∃ rv, (Mv.foK m k j).refs v = rv := ⟨_, rfl⟩
        rw [hrv] at NX rfl2
        have CR : Hid (∀ W, UB W b r q m (Mv.foK m k j) → W.cell? ⟨r, 1 + v * 9, none⟩ = some (.int .i64 (rv : Int))) := Hid.intro (fun W hW => by rw [← hrv]; exact hW.bk.cRefs v v64)
        have rl := rfl2.out
        have hw : IntKind.i64.wrap ((rv : Int) + 1) = (rv : Int) + 1 := IntWalk.i64_in _ ⟨by omega, by omega⟩
        clear f0 hv hrv hcl hrl
        go_upto_region 6 with fail
        refine wp_gen (fun W => (UAt W c r m ∧ UB W b r q m (Mv.foK m k j) ∧ Frm r w W) ∧ W.heap[wr.heap.size]? = some (.cells #[.int .i64 (u0 : Int), .int .i64 (v : Int)] 113 (0, 0))) ⟨AL.out _, heap_alloc_new wr _⟩ ?_
        rintro W2 ⟨h2, x2⟩
        have H2 := Hid.intro h2
        have d0 := h2.2.1.me.cBank
        have d1 := act_cells x2 1 _ rfl
        have d2 := CR.out _ h2.2.1
        have df := h2.2.1.bk.frozen
        generalize wr.heap.size = bp at *
        clear h2 x2 AL S hix
        go_region
        generalize hW : World.drew _ = W3
        have H3 : Hid (UAt W3 c r m ∧ UB W3 b r q m (Mv.foK m k (j + 1)) ∧ Frm r w W3) := Hid.intro (by
          rw [← hW]
          have a := NX.out W2 H2.out.1 H2.out.2.1 H2.out.2.2
          exact ⟨a.1.drew, a.2.1.drew, a.2.2.drew⟩)
        clear hW d0 d1 d2 df
        go_wp2_with fail
        go_roundw
        case rel => exact ⟨j + 1, by go_num, by omega, H3⟩
        case measure => simp [intOf]; omega
    · have hj16 : j = 16 := by omega
      subst hj16
      go_wp2_with fail
      go_ret
      rw [HC.out.1]
      exact ⟨rfl, S.out⟩
end Go.Proofs.Ytnppahmlifnnnab

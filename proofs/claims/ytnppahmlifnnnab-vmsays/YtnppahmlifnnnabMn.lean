/- The document's own memory: Fork. -/
import Derived.Test.YtnppahmlifnnnabMm
import Derived.Test.YtnppahmlifnnnabNh
namespace Go.Proofs.Ytnppahmlifnnnab
open Go.RowKit
open Bd (P)
open Mv (Me Bk)

def fal16 : Array Value := ((List.range 16).map fun _ => Value.bool false).toArray
theorem fal16_size : fal16.size = 16 := by simp [fal16]
theorem fal16_len : fal16.toList.length = 16 := by simp [fal16]
theorem fal16_at (i : Nat) (h : i < 16) : fal16[i]? = some (.bool false) := by simp [fal16, h]
theorem fal16_one : fal16.all (·.oneCell') = true := by
  rw [Array.all_eq_true_iff_forall_mem]
  intro v hv
  simp only [fal16, List.mem_toArray, List.mem_map] at hv
  obtain ⟨o, _, rfl⟩ := hv
  rfl
theorem setCells_hsize (b : Nat) : ∀ (vs : List Value) (o : Nat) (w : World), (w.setCells b o vs).heap.size = w.heap.size
  | [], _, _ => rfl
  | v :: r, o, w => by rw [World.setCells, setCells_hsize b r]; simp [World.setCell]
abbrev noOwn : Nat → Bool := fun _ => false
theorem MAt.clear {w : World} {b r : Nat} {m : Me} {own : Nat → Bool} (h : MAt w b r m own) : MAt (w.setCells b 33 fal16.toList) b r m noOwn := by
  obtain ⟨C, h1, h2⟩ := h.blk
  obtain ⟨C', k1, k2⟩ := heap_setCells_blk b fal16.toList 33 w C h1
  refine ⟨⟨C', k1, by omega⟩, fun x hx => ?_⟩
  by_cases c : 33 ≤ x
  · obtain ⟨j, rfl, hj⟩ : ∃ j, x = 33 + j ∧ j < 16 := ⟨x - 33, by omega, by omega⟩
    rw [World.cell?_setCells_in b fal16.toList 33 w (fun i hi => by rw [fal16_len] at hi; rw [h.cell _ (by omega)]; rfl) j (by rw [fal16_len]; exact hj), ← List.getElem?_eq_getElem (by rw [fal16_len]; exact hj), Array.getElem?_toList, fal16_at j hj]
    unfold cellM
    rw [if_neg (by omega), if_neg (by omega), if_neg (by omega)]
  · rw [World.cell?_setCells_out b _ 33 w ⟨b, x, none⟩ (fun _ _ => by rw [fal16_len]; show x < _ ∨ _ ≤ x; omega), h.cell x hx]
    unfold cellM
    by_cases c0 : x = 0
    · rw [if_pos c0, if_pos c0]
    · rw [if_neg c0, if_neg c0]
      by_cases c1 : x < 17
      · rw [if_pos c1, if_pos c1]
      · rw [if_neg c1, if_neg c1, if_pos (by omega), if_pos (by omega)]
def memM (r : Nat) (m : Me) (own : Nat → Bool) : Array Value := ((List.range 49).map (cellM r m own)).toArray
theorem memM_at (r : Nat) (m : Me) (own : Nat → Bool) (i : Nat) (h : i < 49) : (memM r m own)[i]? = some (cellM r m own i) := by simp [memM, h]
theorem memM_size (r : Nat) (m : Me) (own : Nat → Bool) : (memM r m own).size = 49 := by simp [memM]
theorem memM_len (r : Nat) (m : Me) (own : Nat → Bool) : (memM r m own).toList.length = 49 := by simp [memM]
theorem memM_one (r : Nat) (m : Me) (own : Nat → Bool) : (memM r m own).all (·.oneCell') = true := by
  rw [Array.all_eq_true_iff_forall_mem]
  intro v hv
  simp only [memM, List.mem_toArray, List.mem_map] at hv
  obtain ⟨o, _, rfl⟩ := hv
  unfold cellM
  split
  · rfl
  · split
    · rfl
    · split <;> rfl
theorem MAt.all {w : World} {b r : Nat} {m : Me} {own : Nat → Bool} (h : MAt w b r m own) : w.rangeAt b 0 (memM r m own).toList := fun j v hv => by
  have hj : j < 49 := by have := (List.getElem?_eq_some_iff.1 hv).1; rwa [memM_len] at this
  rw [Array.getElem?_toList, memM_at r m own j hj] at hv
  rw [Nat.zero_add, ← hv]; exact h.cell j hj
def mA0 : Array Value := ((List.range 49).map fun o => if o = 0 then Value.pointer none else if o < 33 then .int .i64 0 else .bool false).toArray
section
variable {ops : Array Oper} {rest : List Oper} {x : Oper} {a : Act} {w : World} {Q : Exit → Act → World → Prop}
theorem wpList_alloc_m (hgd : x.guard = none) (ho : x.op = .alloc 36) (h : wpList Try.prog ops Q rest (a.put x.dst (.pointer (some ⟨w.heap.size, 0, none⟩))) (w.alloc (.cells mA0 36))) : wpList Try.prog ops Q (x :: rest) a w :=
  wpList_plain hgd fun _ hK => by
    unfold Oper.wp execOp
    simp only [ho]
    simp [go_sem]
    exact hK _ _ h
theorem wpList_build_f16 (hgd : x.guard = none) (ho : x.op = .build 34 #[]) (h : wpList Try.prog ops Q rest (a.put x.dst (.agg fal16)) w) : wpList Try.prog ops Q (x :: rest) a w :=
  wpList_plain hgd fun _ hK => by
    unfold Oper.wp execOp
    simp only [ho]
    simp [go_sem]
    exact hK _ _ h
end
theorem mA0_size : mA0.size = 49 := by simp [mA0]
theorem m_copy {w : World} {c r : Nat} {m : Me} {own : Nat → Bool} (h : w.heap[c]? = some (.cells mA0 36 (0, 0))) : MAt (w.setCells c 0 (memM r m own).toList) c r m own := by
  obtain ⟨C', k1, k2⟩ := heap_setCells_blk c (memM r m own).toList 0 w mA0 h
  refine ⟨⟨C', k1, by rw [k2, mA0_size]⟩, fun o ho => ?_⟩
  have := World.cell?_setCells_in c (memM r m own).toList 0 w (fun i hi => by
    rw [memM_len] at hi
    rw [cell_blk h]
    simp [mA0]; exact hi) o (by rw [memM_len]; exact ho)
  rw [Nat.zero_add] at this
  rw [this, ← List.getElem?_eq_getElem (by rw [memM_len]; exact ho), Array.getElem?_toList, memM_at r m own o ho]
theorem NAt.congr {w : World} {r q : Nat} {k k' : Bk} (h : NAt w r q k) (e1 : k'.pool = k.pool) (e2 : ∀ f, f < 64 → k'.refs f = k.refs f) (e3 : ∀ f j, f < 64 → k'.byt f j = k.byt f j) : NAt w r q k' := by
  refine ⟨h.blk, fun o ho => ?_, by rw [e1]; exact h.pool, h.ne⟩
  rw [h.cell o ho]
  unfold cellNk
  by_cases c : o = 0
  · rw [if_pos c, if_pos c]
  · rw [if_neg c, if_neg c]
    by_cases d : o < 513
    · rw [if_pos d, if_pos d, e3 _ _ (by omega)]
    · rw [if_neg d, if_neg d, e2 _ (by omega)]
theorem NAt.foStart {w : World} {r q : Nat} {m : Me} {k : Bk} (h : NAt w r q k) : NAt w r q (Mv.foK m k 0) := h.congr rfl (fun _ _ => rfl) (fun _ _ _ => rfl)
theorem NAt.foNo {w : World} {r q j : Nat} {m : Me} {k : Bk} (h : NAt w r q (Mv.foK m k j)) (c : m.fr j = 0) : NAt w r q (Mv.foK m k (j + 1)) := h.congr rfl (fun f _ => by
  show k.refs f + (Mv.cntK m.fr f j + if m.fr j = f + 1 then 1 else 0) = k.refs f + Mv.cntK m.fr f j
  rw [if_neg (by omega)]; rfl) (fun _ _ _ => rfl)
theorem NAt.foYes {w : World} {r q j v : Nat} {m : Me} {k : Bk} (h : NAt w r q (Mv.foK m k j)) (c : m.fr j = v + 1) (hv : v < 64) : NAt (w.setCell ⟨r, 513 + v, none⟩ (.int .i64 (((Mv.foK m k j).refs v + 1 : Nat) : Int))) r q (Mv.foK m k (j + 1)) := (h.setRefs v _ hv).congr rfl (fun f _ => by
  show k.refs f + (Mv.cntK m.fr f j + if m.fr j = f + 1 then 1 else 0) = if f = v then k.refs v + Mv.cntK m.fr v j + 1 else k.refs f + Mv.cntK m.fr f j
  by_cases e : f = v
  · subst e; rw [if_pos c, if_pos rfl]; omega
  · rw [if_neg (by omega), if_neg e]; rfl) (fun _ _ _ => rfl)
/-- A fork as it stands: the child in block c, the parent in block b, the bank in r. -/
def FoM (w W : World) (b c r q : Nat) (m : Me) (k : Bk) (j : Nat) : Prop := MAt W c r m noOwn ∧ MB W b r q m noOwn (Mv.foK m k j) ∧ Two b r w W
set_option maxRecDepth 100000 in
set_option maxHeartbeats 2000000 in
theorem fork_any (b r q : Nat) (m : Me) (own : Nat → Bool) (k : Bk) (w : World) (h : MB w b r q m own k) (hl : ∀ i, i < 16 → m.fr i ≤ 64) (hr : ∀ f, f < 64 → k.refs f < 2 ^ 58) :
    Calls Try.prog 15 #[.pointer (some ⟨b, 0, none⟩)] w fun e w' => e = .returned (.pointer (some ⟨w.heap.size, 0, none⟩)) ∧ FoM w w' b w.heap.size r q m k 16 := by
  have HF := Hid.intro (And.intro hl hr)
  have hs0 : Hid ((Try.prog.info? 34).map (·.size) = some fal16.size) := Hid.intro (by rw [fal16_size]; kernel_rfl)
  have h0c := Hid.intro fal16_one
  have TH0 : Hid (w.there b 33 fal16.size) := Hid.intro (fun j hj => by
    rw [fal16_size] at hj
    exact ⟨by rw [h.me.cell _ (by omega)]; rfl, h.me.frozen _⟩)
  have FI0 : Hid (MB (w.setCells b 33 fal16.toList) b r q m noOwn k ∧ Frm b w (w.setCells b 33 fal16.toList)) := Hid.intro (by
    have f : Frm b w (w.setCells b 33 fal16.toList) := Frm.setCells _ _ (Frm.refl b _)
    exact ⟨⟨h.me.clear, h.bk.frm f h.br h.bq, h.br, h.bq⟩, f⟩)
  have HSZ : Hid ((w.setCells b 33 fal16.toList).heap.size = w.heap.size) := Hid.intro (setCells_hsize _ _ _ _)
  obtain ⟨F, hF⟩ : ∃ F, fal16 = F := ⟨_, rfl⟩
  rw [hF] at hs0 h0c TH0 FI0 HSZ
  clear h hl hr
  go_enter Try.func15, Try.ntmps15
  go_upto_region 2 with (first | (refine wpList_build_f16 rfl rfl ?_; rw [hF]) | (refine wpList_store_mid rfl 34 _ _ rfl b 33 F rfl rfl TH0.out hs0.out h0c.out ?_))
  refine wp_gen (fun W => (MB W b r q m noOwn k ∧ Frm b w W) ∧ W.heap.size = w.heap.size) ⟨FI0.out, HSZ.out⟩ ?_
  rintro W0 ⟨hW0, hz0⟩
  have S0 := Hid.intro hW0
  have Z0 := Hid.intro hz0
  clear hW0 hz0 hF FI0 TH0 hs0 h0c HSZ
  have HR := Hid.intro S0.out.1.me.all
  have hs1 : Hid ((Try.prog.info? 36).map (·.size) = some (memM r m noOwn).toList.length) := Hid.intro (by rw [memM_len]; kernel_rfl)
  have hs2 : Hid ((Try.prog.info? 36).map (·.size) = some (memM r m noOwn).size) := Hid.intro (by rw [memM_size]; kernel_rfl)
  have h1c := Hid.intro (memM_one r m noOwn)
  have N0 : Hid ((W0.alloc (.cells mA0 36)).heap[W0.heap.size]? = some (.cells mA0 36 (0, 0))) := Hid.intro (heap_alloc_new W0 _)
  have TH : Hid ((W0.alloc (.cells mA0 36)).there W0.heap.size 0 (memM r m noOwn).size) := Hid.intro (fun j hj => by
    rw [memM_size] at hj
    refine ⟨?_, frozen_blk N0.out _⟩
    rw [cell_blk N0.out]
    simp [mA0]; exact hj)
  have FIN : Hid (FoM w ((W0.alloc (.cells mA0 36)).setCells W0.heap.size 0 (memM r m noOwn).toList) b W0.heap.size r q m k 0) := Hid.intro (by
    have bb : Below W0.heap.size W0 ((W0.alloc (.cells mA0 36)).setCells W0.heap.size 0 (memM r m noOwn).toList) := (Frm.setCells _ _ (Frm.refl W0.heap.size _)).below ((Below.refl _ _).alloc (Nat.le_refl _) _) (Nat.le_refl _) (by simp)
    have s := S0.out
    exact ⟨m_copy N0.out, ⟨s.1.me.below bb, (s.1.bk.below bb).foStart, s.1.br, s.1.bq⟩, ((Two.refl b r w).left s.2).trans (Two.below bb)⟩)
  obtain ⟨A, hA⟩ : ∃ A, memM r m noOwn = A := ⟨_, rfl⟩
  rw [hA] at HR hs1 hs2 h1c TH FIN
  clear hA N0
  go_upto_region 3 with (first | (refine wpList_load_mid rfl 36 _ rfl b 0 rfl A.toList _ HR.out Try.underlying36 rfl hs1.out ?_; rw [Array.toArray_toList]) | (refine wpList_alloc_m rfl rfl ?_) | (refine wpList_store_mid rfl 36 _ _ rfl W0.heap.size 0 A rfl rfl TH.out hs2.out h1c.out ?_))
  refine wp_gen (fun W => FoM w W b W0.heap.size r q m k 0) FIN.out ?_
  intro W1 hW1
  have S1 := Hid.intro hW1
  have HC : Hid (W0.heap.size ≠ r ∧ W0.heap.size ≠ q ∧ b ≠ W0.heap.size) := Hid.intro ⟨by have := S0.out.1.bk.lt; omega, by have := S0.out.1.bk.ltq; omega, by have := S0.out.1.me.lt; omega⟩
  rw [Z0.out] at S1 HC
  simp only [Z0.out]
  clear hW1 FIN TH HR hs1 hs2 h1c S0 Z0
  obtain ⟨c, hc⟩ : ∃ c, w.heap.size = c := ⟨_, rfl⟩
  rw [hc] at S1 HC ⊢
  have HCC := Hid.intro hc
  clear hc
  go_wp2_with fail
  go_loopw [4] (fun i wr => ∃ (j : Nat), i = .int .i64 j ∧ j ≤ 16 ∧ Hid (FoM w wr b c r q m k j)) (fun i _ => 16 - (intOf i).toNat)
  case atStart => exact ⟨0, rfl, by omega, S1⟩
  case round =>
    clear S1
    obtain ⟨j, rfl, hj, S⟩ := hrel
    by_cases hlt : j < 16
    · have hltI : (j : Int) < 16 := by omega
      have d1 := S.out.2.1.me.cFr j hlt
      by_cases f0 : m.fr j = 0
      · have NX : Hid (FoM w wr b c r q m k (j + 1)) := Hid.intro ⟨S.out.1, ⟨S.out.2.1.me, S.out.2.1.bk.foNo f0, S.out.2.1.br, S.out.2.1.bq⟩, S.out.2.2⟩
        rw [f0] at d1
        have d1' : wr.cell? ⟨b, 17 + j, none⟩ = some (.int .i64 0) := d1
        clear f0 d1
        go_wp2_with fail
        go_roundw
        case rel => exact ⟨j + 1, by go_num, by omega, NX⟩
        case measure => simp [intOf]; omega
      · obtain ⟨v, hv⟩ : ∃ v, m.fr j = v + 1 := ⟨m.fr j - 1, by omega⟩
        have v64 : v < 64 := by have := HF.out.1 j hlt; omega
        rw [hv] at d1
        have d1' : wr.cell? ⟨b, 17 + j, none⟩ = some (.int .i64 ((v : Int) + 1)) := d1
        have vp : (0 : Int) < (v : Int) + 1 := by omega
        have vI : (v : Int) < 64 := by omega
        have hw0 : IntKind.i64.wrap ((v : Int) + 1 - 1) = (v : Int) := by rw [IntWalk.i64_in _ ⟨by omega, by omega⟩]; omega
        have hcl := cntK_le m.fr v j
        have hrl := HF.out.2 v v64
        have rfl2 : Hid ((Mv.foK m k j).refs v < 2 ^ 59) := Hid.intro (by show k.refs v + Mv.cntK m.fr v j < _; omega)
        have NX : Hid (FoM w (wr.setCell ⟨r, 513 + v, none⟩ (.int .i64 (((Mv.foK m k j).refs v + 1 : Nat) : Int))) b c r q m k (j + 1)) := Hid.intro (by
          have a2 := S.out.2.1
          exact ⟨S.out.1.same (setBlk _ _ _ _ HC.out.1), ⟨a2.me.same (setBlk _ _ _ _ a2.br), a2.bk.foYes hv v64, a2.br, a2.bq⟩, S.out.2.2.right ((Frm.refl r wr).setCell _ _)⟩)
        have d2 := S.out.2.1.bk.cRefs v v64
        obtain ⟨rv, hrv⟩ : ∃ rv, (Mv.foK m k j).refs v = rv := ⟨_, rfl⟩
        rw [hrv] at NX rfl2 d2
        have rl := rfl2.out
        have hw : IntKind.i64.wrap ((rv : Int) + 1) = (rv : Int) + 1 := IntWalk.i64_in _ ⟨by omega, by omega⟩
        have d0 := S.out.2.1.me.cBank
        have df := S.out.2.1.bk.frozen
        clear f0 hv hrv hcl hrl d1
        go_wp2_with fail
        go_region
        generalize hW : World.drew _ = W3
        have H3 : Hid (FoM w W3 b c r q m k (j + 1)) := Hid.intro (by
          rw [← hW]
          have a := NX.out
          exact ⟨a.1.drew, ⟨a.2.1.me.drew, a.2.1.bk.drew, a.2.1.br, a.2.1.bq⟩, a.2.2.drew⟩)
        clear hW d0 d1' d2 df
        go_wp2_with fail
        go_roundw
        case rel => exact ⟨j + 1, by go_num, by omega, H3⟩
        case measure => simp [intOf]; omega
    · have hj16 : j = 16 := by omega
      subst hj16
      go_wp2_with fail
      go_ret
      rw [HCC.out]
      exact ⟨rfl, S.out⟩
end Go.Proofs.Ytnppahmlifnnnab

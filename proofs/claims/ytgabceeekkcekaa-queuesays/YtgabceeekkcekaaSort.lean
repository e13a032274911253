/- What the library's sort leaves, under All's own closure. -/
import Derived.Test.YtgabceeekkcekaaAll
import Derived.Test.YtgabceeekkcekaaShelf
namespace Go.Proofs.Ytgabceeekkcekaa
open Go.RowKit Go.Shelf Go.Lib
open Hp (Q)

def encF (x : Fin 64) : Value := .int .i64 (x.val : Int)
def cfF (K : Nat → Nat) (x y : Fin 64) : Int := cfq K x.val y.val
theorem cfq_lt (K : Nat → Nat) (x y : Nat) : cfq K x y < 0 ↔ Hp.ah K x y := by
  unfold cfq orI cmpI Hp.ah
  by_cases h1 : K x < K y
  · simp [h1]
  · by_cases h2 : K y < K x
    · simp [h1, h2]; omega
    · have e : K x = K y := by omega
      by_cases h3 : x < y
      · simp [e, h3]
      · by_cases h4 : y < x <;> simp [e, h3, h4]
theorem ltF (K : Nat → Nat) (x y : Fin 64) : ltOf (cfF K) x y = true ↔ Hp.ah K x.val y.val := by
  unfold ltOf cfF
  rw [decide_eq_true_eq]; exact cfq_lt K x.val y.val
theorem ltF' (K : Nat → Nat) (x y : Fin 64) : ltOf (cfF K) x y = false ↔ ¬ Hp.ah K x.val y.val := by
  rw [← ltF, Bool.not_eq_true]
theorem swoF (K : Nat → Nat) : Sort.SWO (ltOf (cfF K)) where
  irrefl x := (ltF' K x x).2 Hp.ah_irrefl
  trans x y z h1 h2 := by
    rw [ltF] at *
    unfold Hp.ah at *; omega
  ntrans x y z h1 h2 := by
    rw [ltF'] at *
    exact Hp.nah_trans h1 h2

theorem sw_heap (w : World) (gg m : Nat) (dk : Array (Fin 64)) (os : Array Obj) (k : Nat) (hk : k < w.heap.size) (hne : k ≠ gg) : (sortWorld encF w gg 0 m dk os).heap[k]? = w.heap[k]? := by
  unfold sortWorld Sort.grow Sort.putRow Sort.mapBlock Sort.ahead
  simp only
  rw [Array.getElem?_append_left (by simpa using hk), Array.getElem?_modify, if_neg (by omega)]
theorem sw_grown (w : World) (gg m : Nat) (dk : Array (Fin 64)) (os : Array Obj) : w.grownBy (sortWorld encF w gg 0 m dk os) (some gg) := by
  refine ⟨rfl, rfl, rfl, ?_, fun k hk hne => sw_heap w gg m dk os k hk (fun e => hne (by rw [e]))⟩
  unfold sortWorld Sort.grow Sort.putRow Sort.mapBlock Sort.ahead
  simp

theorem sort_said : SortSaid := by
  intro b bx gg cap q d w hA hbx h1 h2 hd hn h64 hc hg
  by_cases h0 : d.length = 0
  · have hS := AnyF.slices_SortFunc_none (P := Try.prog) (ρ := Try.sortL_ren) { Try.sortL with } (some ⟨gg, 0, none⟩) cap (.func (.func 49) #[] #[.pointer (some ⟨bx, 0, none⟩)]) w
    change Calls Try.prog 48 _ _ _ at hS
    rw [h0]
    refine hS.mono ?_
    rintro e w' ⟨rfl, rfl⟩
    obtain rfl : d = [] := List.eq_nil_of_length_eq_zero h0
    exact ⟨rfl, ⟨rfl, rfl, rfl, Nat.le_refl _, fun _ _ _ => rfl⟩, [], List.Perm.refl _, List.Pairwise.nil, fun i hi => absurd hi (by simp)⟩
  · obtain ⟨da, hda⟩ : ∃ da : Array (Fin 64), da = (d.map (Fin.ofNat 64)).toArray := ⟨_, rfl⟩
    have hsz : da.size = d.length := by rw [hda]; simp
    have hval : da.toList.map Fin.val = d := by
      rw [hda]
      simp only [List.map_map]
      conv => rhs; rw [← List.map_id d]
      refine List.map_congr_left fun x hx => ?_
      exact Nat.mod_eq_of_lt (hd x hx)
    have hat : ∀ (X : Array (Fin 64)) (i : Nat), i < X.size → ((X.toList.map Fin.val).getD i 0) = (X[i]!).val := fun X i hi => by
      rw [getElem!_pos X i hi]
      simp [List.getD_eq_getElem?_getD, hi]
    have hH : Sort.Holds encF w gg 0 da := fun j hj => by
      have := hc j (by omega)
      rw [Nat.zero_add]
      refine ⟨?_, this.2⟩
      rw [this.1]
      have e := hat da j hj
      rw [hval] at e
      rw [e]; rfl
    have hb : b < w.heap.size := (Array.getElem?_eq_some_iff.1 hA).1
    have hbxl : bx < w.heap.size := World.block_lt_of_cell? _ _ hbx
    have hcmp : CmpLays1 Try.prog 49 #[.pointer (some ⟨bx, 0, none⟩)] encF (cfF q.keys) gg 0 da.size w := fun m os dk _ x y => by
      have C := closure_any bx b x.val y.val q (sortWorld encF w gg 0 m dk os) ((World.cell?_of_block (sw_heap w gg m dk os bx hbxl h1)).trans hbx) ((sw_heap w gg m dk os b hb h2).trans hA) x.isLt y.isLt
      refine Calls.mono C ?_
      rintro e w' ⟨rfl, n, o, rfl⟩
      exact ⟨rfl, n, #[o], by rw [Sort.alloc_eq_grow]; rfl⟩
    have eg : ∀ args w, (callFunc 49 args).run Try.prog w = .ok (.enter 49 args) w := enters_of Try.func49 (by kernel_rfl) rfl
    have hS := Any.slices_SortFunc Try.sortL encF (fun _ => rfl) (cfF q.keys) (swoF q.keys) 49 #[.pointer (some ⟨bx, 0, none⟩)] gg 0 cap da w eg hcmp hH hg (by omega)
    change Calls Try.prog 48 _ _ _ at hS
    rw [hsz] at hS
    refine hS.mono ?_
    rintro e w' ⟨rfl, d', n, os, hp, hs, rfl⟩
    have hs' : d'.size = d.length := hp.1.trans hsz
    have hperm : d'.toList.Perm da.toList := by
      have h3 := hp.2.2
      have e1 : da.extract 0 d.length = da := by rw [← hsz]; exact Array.extract_size
      have e2 : d'.extract 0 d.length = d' := by rw [← hs']; exact Array.extract_size
      rw [e1, e2] at h3
      exact h3
    have hpv : (d'.toList.map Fin.val).Perm d := by
      have := hperm.map Fin.val
      rw [hval] at this
      exact this
    have hnd : (d'.toList.map Fin.val).Nodup := hpv.nodup_iff.2 hn
    refine ⟨rfl, sw_grown w gg n d' os, d'.toList.map Fin.val, hpv, ?_, fun i hi => ?_⟩
    · rw [List.pairwise_iff_getElem]
      intro i j hi hj hij
      have hj' : j < d'.size := by simpa using hj
      have hi' : i < d'.size := by simpa using hi
      have hlt := hs i j (Nat.zero_le _) hij (by omega)
      rw [ltF'] at hlt
      rw [getElem!_pos d' j hj', getElem!_pos d' i hi'] at hlt
      have hne : (d'.toList.map Fin.val)[i] ≠ (d'.toList.map Fin.val)[j] := by
        have := (List.pairwise_iff_getElem.1 (List.nodup_iff_pairwise_ne.1 hnd)) i j hi hj hij
        exact this
      simp only [List.getElem_map, Array.getElem_toList] at hne ⊢
      exact Hp.ah_of_not hlt (fun e => hne e.symm)
    · have hi' : i < d'.size := by simpa using hi
      have := (holds_sortWorld encF w gg 0 n da d' os hg hH (by omega)) i hi'
      rw [Nat.zero_add] at this
      rw [this.1, hat d' i hi']
      rfl

#print axioms sort_said
end Go.Proofs.Ytgabceeekkcekaa

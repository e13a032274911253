/- The walk of the queue's All, the sort by its contract. -/
import Derived.Test.YtgabceeekkcekaaClos
import Derived.Test.YtgabceeekkcekaaSrt
import Derived.Test.YtgabceeekkcekaaRefAll
import Derived.Laws.CopyOwn
import Derived.OwnWalk
namespace Go.Proofs.Ytgabceeekkcekaa
open Go.RowKit
open Hp (Q)

/-- What the sort leaves, under All's own closure. -/
def SortSaid : Prop := ∀ (b bx gg cap : Nat) (q : Q) (d : List Nat) (w : World), At w b q → w.cell? ⟨bx, 0, none⟩ = some (.pointer (some ⟨b, 0, none⟩)) → bx ≠ gg → b ≠ gg → (∀ x ∈ d, x < 64) → d.Nodup → d.length ≤ 64 →
  (∀ i, i < d.length → w.cell? ⟨gg, i, none⟩ = some (.int .i64 (d.getD i 0 : Nat)) ∧ w.frozen? ⟨gg, i, none⟩ = false) → gg < w.heap.size →
  Calls Try.prog 48 #[.slice (some ⟨gg, 0, none⟩) d.length cap, .func (.func 49) #[] #[.pointer (some ⟨bx, 0, none⟩)]] w fun e w' => e = .returned (.tuple #[]) ∧ w.grownBy w' (some gg) ∧
    ∃ L : List Nat, L.Perm d ∧ L.Pairwise (Hp.ah q.keys) ∧ ∀ i, i < L.length → w'.cell? ⟨gg, i, none⟩ = some (.int .i64 (L.getD i 0 : Nat))

/-- The numbers of a queue as they stand. -/
def heapL (q : Q) : List Nat := (List.range q.many).map q.heap
theorem heapL_len (q : Q) : (heapL q).length = q.many := by simp [heapL]
theorem heapL_at (q : Q) (i : Nat) (h : i < q.many) : (heapL q).getD i 0 = q.heap i := by simp [heapL, List.getD_eq_getElem?_getD, h]
theorem heapL_lt {q : Q} (h : Hp.Okp q) : ∀ x ∈ heapL q, x < 64 := by
  intro x hx
  obtain ⟨i, hi, rfl⟩ := List.mem_map.1 hx
  exact (h.at_ i (by simpa using hi)).1
theorem heapL_nodup {q : Q} (h : Hp.Okp q) : (heapL q).Nodup := by
  unfold heapL
  rw [List.nodup_iff_pairwise_ne, List.pairwise_map]
  refine List.Pairwise.imp_of_mem ?_ (List.nodup_iff_pairwise_ne.1 List.nodup_range)
  intro a b ha hb hab e
  exact hab (h.inj (by simpa using ha) (by simpa using hb) e)
theorem heapL_mem {q : Q} (h : Hp.Okp q) (x : Nat) : x ∈ heapL q ↔ (x < 64 ∧ 0 < q.place x) := by
  constructor
  · intro hx
    obtain ⟨i, hi, rfl⟩ := List.mem_map.1 hx
    have := h.at_ i (by simpa using hi)
    exact ⟨this.1, by omega⟩
  · rintro ⟨h1, h2⟩
    have := h.of_ x h1
    exact List.mem_map.2 ⟨q.place x - 1, by simp; omega, this.2 h2⟩

/-- What All leaves. -/
structure AllSt (w w' : World) (q : Q) (gg : Nat) (L : List Nat) : Prop where
  bel : Below w.heap.size w w'
  len : L.length = q.many
  cells : ∀ i, i < L.length → w'.cell? ⟨gg, i, none⟩ = some (.int .i64 (L.getD i 0 : Nat))
  srt : L.Pairwise (Hp.ah q.keys)
  mem : ∀ x, x ∈ L ↔ (x < 64 ∧ 0 < q.place x)

theorem size3 : (Try.prog.info? 3).map (·.size) = some 1 := by kernel_rfl

/-- What lies when the copy begins. -/
structure C1 (w W : World) (b : Nat) (q : Q) (m : Nat) : Prop where
  bel : Below w.heap.size w W
  at_ : At W b q
  box : W.cell? ⟨w.heap.size, 0, none⟩ = some (.pointer (some ⟨b, 0, none⟩))
  row : ∃ cur : List Value, cur.length = m ∧ W.heap[w.heap.size + 1]? = some (.cells cur.toArray 3 (0, 0))

theorem C1.made {w W : World} {b : Nat} {q : Q} {m : Nat} {xs : List Value} (hb : b < w.heap.size) (h : At w b q) (hown : W.ownsRow w.heap.size 3 1 (.slice (some ⟨w.heap.size + 1, 0, none⟩) m m) m xs) (hg : (w.alloc (.cells #[.pointer (some ⟨b, 0, none⟩)] 25)).grownBy W none) : C1 w W b q m := by
  have hB : Below w.heap.size w W := ((Below.refl _ w).alloc (Nat.le_refl _) _).grown hg (by simp) (fun k e => by cases e)
  refine ⟨hB, (hB.block b hb).trans h, ?_, ?_⟩
  · rw [hg.cell_far ⟨w.heap.size, 0, none⟩ (by simp) (by simp)]
    have hh : (w.alloc (.cells #[.pointer (some ⟨b, 0, none⟩)] 25)).heap[w.heap.size]? = some (.cells #[.pointer (some ⟨b, 0, none⟩)] 25 (0, 0)) := heap_alloc_new w _
    rw [heap_cell hh]; rfl
  · rcases hown.2 with ⟨h', _⟩ | ⟨g', cap', cur, h', _, hgg, _, _, hcs, _⟩
    · simp at h'
    · simp only [Value.slice.injEq, Option.some.injEq, Addr.mk.injEq, and_true, true_and] at h'
      obtain ⟨rfl, rfl⟩ := h'
      exact ⟨cur.toList, by simpa using hcs, by simpa using hgg⟩

theorem splice_all {α : Type} (L cs : List α) (h : cs.length = L.length) : splice L 0 cs = cs := by
  unfold splice; simp [h]

theorem ret_slice {a : Option Addr} {n m : Nat} (h : n = m) : Ending.returned (.slice a n n) = .returned (.slice a m m) := by rw [h]

set_option maxHeartbeats 1000000 in
theorem all_any (hS : SortSaid) (b : Nat) (q : Q) (w : World) (h : Good w b q) :
    Calls Try.prog 16 #[.pointer (some ⟨b, 0, none⟩)] w fun e w' => ∃ gg L, e = .returned (.slice (some ⟨gg, 0, none⟩) L.length L.length) ∧ AllSt w w' q gg L := by
  have hb : b < w.heap.size := (Array.getElem?_eq_some_iff.1 h.at_).1
  have hle := h.ok.le
  have cm := h.at_.many
  obtain ⟨m, hm⟩ : ∃ m, q.many = m := ⟨_, rfl⟩
  rw [hm] at cm hle
  have HM : Hid (q.many = m) := hm
  have H : Hid (Good w b q) := h
  have HS : Hid SortSaid := hS
  obtain ⟨i0, hi, hz0, hz1, hz2⟩ := info_parts info3
  have ne1 := World.new_ne w _ cm
  have tok : True := trivial
  clear h hm hS
  go_enter Try.func16, Try.ntmps16
  go_wp2_with (at_make; have _t := tok; refine wpList_make_full _ rfl _ _ 47 (by rfl) w.heap.size 3 i0 (.int .i64 0) 1 Try.underlying47 hi hz0 hz1 .i64 .i64 m m m (by rfl) (by rfl) rfl rfl (by rw [hz2]; omega) (by unfold maxLen; omega) (by simp) ?_; intro W1 hown hgrow; clear tok)
  rw [World.size_alloc] at hown
  have K1 : Hid (C1 w W1 b q m) := C1.made hb H.out.at_ hown hgrow
  clear hown hgrow
  obtain ⟨cur, hcl, hrow⟩ := K1.out.row
  have HR : Hid (W1.heap[w.heap.size + 1]? = some (.cells cur.toArray 3 (0, 0))) := hrow
  have HC : Hid (cur.length = m) := hcl
  have d1 := K1.out.box
  have d2 : W1.cell? ⟨b, 0, none⟩ = some (.int .i64 m) := by rw [← HM.out]; exact K1.out.at_.many
  obtain ⟨cs, hcs⟩ : ∃ cs, cs = rowOf (heapL q) := ⟨_, rfl⟩
  have HCS : Hid (cs = rowOf (heapL q)) := hcs
  have hcsl : cs.length = m := by rw [hcs, rowOf_len, heapL_len, HM.out]
  have HCL : Hid (cs.length = m) := hcsl
  clear hrow hcl hcs hcsl cm ne1 hi hz0 hz1 hz2
  have mI : (m : Int) ≤ 64 := by omega
  have HSRC : Hid (∀ j v, cs[j]? = some v → W1.cell? ((⟨b, 1, none⟩ : Addr).add j) = some v) := fun j v hj => by
    have hjm : j < m := by rw [← HCL.out]; exact (List.getElem?_eq_some_iff.1 hj).1
    have e : cs[j]? = some (.int .i64 (q.heap j)) := by
      rw [HCS.out]
      exact rowOf_at _ _ _ (by simp [heapL, HM.out, hjm])
    have ha : (⟨b, 1, none⟩ : Addr).add j = ⟨b, 1 + j, none⟩ := by unfold Addr.add; split <;> simp_all
    rw [ha, K1.out.at_.heap j (by omega), ← e, hj]
  have HONE : Hid (∀ v ∈ cs, v.oneCell' = true) := fun v hv => by
    rw [HCS.out] at hv
    obtain ⟨x, _, rfl⟩ := List.mem_map.1 hv
    rfl
  go_region_held3 (fun w' => w'.cell? ⟨w.heap.size, 0, none⟩ = some (.pointer (some ⟨b, 0, none⟩)) ∧ w'.cell? ⟨b, 0, none⟩ = some (.int .i64 m)) (go_keep) ((refine step_copy_splice rfl _ _ 47 47 (by rfl) 3 Try.underlying47 size3 (some ⟨w.heap.size + 1, 0, none⟩) (some ⟨b, 1, none⟩) m m m 64 (by rfl) (by rfl) (w.heap.size + 1) 0 cur 3 (by exact HR.out) cs (by rw [HCL.out]; exact (Nat.min_self m).symm) (fun _ => ⟨rfl, ⟨b, 1, none⟩, rfl, HSRC.out⟩) (by rw [HCL.out, HC.out]; omega) HONE.out (w.heap.size + 1) W1 (by exact (Below.refl _ _).drew) (Nat.le_refl _) ?_; intro w2 HG2 hB2; have s1 : w2.cell? ⟨w.heap.size, 0, none⟩ = some (.pointer (some ⟨b, 0, none⟩)) := (hB2.cell (p := ⟨w.heap.size, 0, none⟩) (Nat.lt_succ_self _)).trans d1; have s2 : w2.cell? ⟨b, 0, none⟩ = some (.int .i64 m) := (hB2.cell (p := ⟨b, 0, none⟩) (Nat.lt_succ_of_lt hb)).trans d2; have HB2 : Hid (Below (w.heap.size + 1) W1 w2) := hB2; clear hB2))
  have G2 : Hid (w2.heap[w.heap.size + 1]? = some (.cells (rowOf (heapL q)).toArray 3 (0, 0))) := by
    have := HG2.out
    rw [splice_all cur cs (by rw [HCL.out, HC.out]), HCS.out] at this
    exact this
  have A2 : Hid (At w2 b q) := (HB2.out.block b (by omega)).trans K1.out.at_
  have B2 : Hid (Below w.heap.size w w2) := K1.out.bel.trans (HB2.out.mono (by omega))
  have lm : Hid ((heapL q).length = m) := by rw [heapL_len, HM.out]; rfl
  have hc : Hid (∀ i, i < (heapL q).length → w2.cell? ⟨w.heap.size + 1, i, none⟩ = some (.int .i64 ((heapL q).getD i 0 : Nat)) ∧ w2.frozen? ⟨w.heap.size + 1, i, none⟩ = false) := fun i hi => by
    refine ⟨?_, heap_frozen G2.out i⟩
    rw [heap_cell G2.out]
    have : (rowOf (heapL q))[i]? = some (.int .i64 ((heapL q).getD i 0 : Nat)) := rowOf_at _ _ _ (by rw [List.getD_eq_getElem?_getD, List.getElem?_eq_getElem hi]; rfl)
    simpa using this
  have hsz2 : Hid (w.heap.size + 1 < w2.heap.size) := (Array.getElem?_eq_some_iff.1 G2.out).1
  have S1 : Hid (w2.cell? ⟨w.heap.size, 0, none⟩ = some (.pointer (some ⟨b, 0, none⟩))) := s1
  clear d1 d2 s2 s1
  go_wp2_with fail
  have SC := HS.out b w.heap.size (w.heap.size + 1) m q (heapL q) w2 A2.out S1.out (by omega) (by omega) (heapL_lt H.out.ok) (heapL_nodup H.out.ok) (by rw [lm.out]; exact hle) hc.out hsz2.out
  rw [lm.out] at SC
  refine SC.mono ?_
  clear SC
  rintro e w3 ⟨rfl, g3, L, hp, hs, hcl⟩
  have HL : Hid (L.length = m) := hp.length_eq.trans lm.out
  have FIN : Hid (AllSt w w3 q (w.heap.size + 1) L) := by
    refine ⟨?_, by rw [HL.out, HM.out], hcl, hs, fun x => ?_⟩
    · exact B2.out.grown g3 B2.out.size (fun k e => by cases e; omega)
    · rw [hp.mem_iff, heapL_mem H.out.ok]
  clear g3 hp hs hcl
  go_wp2
  go_ret
  exact ⟨_, L, ret_slice HL.out.symm, FIN.out⟩
end Go.Proofs.Ytgabceeekkcekaa

/- The code's forest: Tree, Up, Root; a name's place; Find; which names may be; refuses, wanted. -/
import Derived.Test.YtfgnhldnmbfnkabTc
namespace Go.Proofs.Ytfgnhldnmbfnkab
open Go.RowKit
open Tr (Fo Nd)

def Tr.treeN (F : Fo) (z : Int) : Nat := if Tr.nodeE F z = 0 then (F.nd z.toNat).tree else 0
def Tr.upN (F : Fo) (z : Int) : Nat := if Tr.isE F z 2 = 0 then (F.nd z.toNat).up else 0
set_option maxRecDepth 100000 in
set_option maxHeartbeats 1000000 in
theorem ttree_any (b : Nat) (z : Int) (F : Fo) (w : World) (h : FAt w b F) :
    Calls Try.prog 103 #[.pointer (some ⟨b, 0, none⟩), .int .i64 z] w fun e w' => e = .returned (.tuple #[.int .i64 (Tr.treeN F z : Int), errV (Tr.nodeE F z)]) ∧ w' = w := by
  have HF := Hid.intro h
  by_cases c : Tr.nodeE F z = 0
  · obtain ⟨n, rfl, n40, _⟩ := Tr.nodeE_ok c
    have c0 := h.cTree n n40
    have EP : Hid (Tr.nodeE F (n : Int) = 0 ∧ ptrE b (n : Int) 0 = .pointer (some ⟨b, n * 62, none⟩) ∧ Tr.treeN F (n : Int) = (F.nd n).tree) := Hid.intro ⟨c, ptrE_ok b n, by unfold Tr.treeN; rw [if_pos c, Int.toNat_natCast]⟩
    generalize (F.nd n).tree = ff at *
    clear h c
    go_enter Try.func103, Try.ntmps103
    go_wp2_with fail
    refine (tnode_any b n F _ HF.out).mono ?_
    rintro e w1 ⟨rfl, hw1⟩
    subst w1
    rw [EP.out.1, EP.out.2.1, errV_zero]
    go_wp2_with fail
    go_ret2
    rw [EP.out.1, EP.out.2.2]
    exact ⟨rfl, rfl⟩
  · have E2 : Hid (ptrE b z (Tr.nodeE F z) = .pointer none ∧ errV (Tr.nodeE F z) = .iface 128 (.int .i64 (Tr.nodeE F z)) ∧ Tr.treeN F z = 0) := Hid.intro ⟨ptrE_no c, errV_ne c, if_neg c⟩
    clear h c
    go_enter Try.func103, Try.ntmps103
    go_wp2_with fail
    refine (tnode_any b z F _ HF.out).mono ?_
    rintro e w1 ⟨rfl, hw⟩
    subst w1
    rw [E2.out.1, E2.out.2.1]
    go_wp2_with fail
    go_ret2
    rw [E2.out.2.1, E2.out.2.2]
    exact ⟨rfl, rfl⟩
set_option maxRecDepth 100000 in
set_option maxHeartbeats 1000000 in
theorem tup_any (b : Nat) (z : Int) (F : Fo) (w : World) (h : FAt w b F) :
    Calls Try.prog 102 #[.pointer (some ⟨b, 0, none⟩), .int .i64 z] w fun e w' => e = .returned (.tuple #[.int .i64 (Tr.upN F z : Int), errV (Tr.isE F z 2)]) ∧ w' = w := by
  have HF := Hid.intro h
  by_cases c : Tr.isE F z 2 = 0
  · obtain ⟨n, rfl, n40, _⟩ := Tr.isE_ok c
    have c0 := h.cUp n n40
    have EP : Hid (Tr.isE F (n : Int) 2 = 0 ∧ ptrE b (n : Int) 0 = .pointer (some ⟨b, n * 62, none⟩) ∧ Tr.upN F (n : Int) = (F.nd n).up) := Hid.intro ⟨c, ptrE_ok b n, by unfold Tr.upN; rw [if_pos c, Int.toNat_natCast]⟩
    generalize (F.nd n).up = ff at *
    clear h c
    go_enter Try.func102, Try.ntmps102
    go_wp2_with fail
    refine (tdir_any b n F _ HF.out).mono ?_
    rintro e w1 ⟨rfl, hw1⟩
    subst w1
    rw [EP.out.1, EP.out.2.1, errV_zero]
    go_wp2_with fail
    go_ret2
    rw [EP.out.1, EP.out.2.2]
    exact ⟨rfl, rfl⟩
  · have E2 : Hid (ptrE b z (Tr.isE F z 2) = .pointer none ∧ errV (Tr.isE F z 2) = .iface 128 (.int .i64 (Tr.isE F z 2)) ∧ Tr.upN F z = 0) := Hid.intro ⟨ptrE_no c, errV_ne c, if_neg c⟩
    clear h c
    go_enter Try.func102, Try.ntmps102
    go_wp2_with fail
    refine (tdir_any b z F _ HF.out).mono ?_
    rintro e w1 ⟨rfl, hw⟩
    subst w1
    rw [E2.out.1, E2.out.2.1]
    go_wp2_with fail
    go_ret2
    rw [E2.out.2.1, E2.out.2.2]
    exact ⟨rfl, rfl⟩
def Tr.rootE (F : Fo) (z : Int) : Int := if z < 0 ∨ 3 < z then 1 else if F.trees ≤ z.toNat then 2 else 0
def Tr.rootN (F : Fo) (z : Int) : Nat := if Tr.rootE F z = 0 then F.root z.toNat else 0
set_option maxRecDepth 100000 in
set_option maxHeartbeats 1000000 in
theorem troot_any (b : Nat) (z : Int) (F : Fo) (w : World) (h : FAt w b F) :
    Calls Try.prog 87 #[.pointer (some ⟨b, 0, none⟩), .int .i64 z] w fun e w' => e = .returned (.tuple #[.int .i64 (Tr.rootN F z : Int), errV (Tr.rootE F z)]) ∧ w' = w := by
  by_cases c : z < 0 ∨ 3 < z
  · have E : Hid (Tr.rootE F z = 1 ∧ Tr.rootN F z = 0) := Hid.intro (by
      have e : Tr.rootE F z = 1 := if_pos c
      exact ⟨e, by unfold Tr.rootN; rw [e]; exact if_neg (by decide)⟩)
    by_cases c1 : z < 0
    · clear c
      go_enter Try.func87, Try.ntmps87
      go_wp2_with fail
      go_ret2
      rw [E.out.1, E.out.2]
      exact ⟨rfl, rfl⟩
    · have c2 : decide (4 ≤ z) = true := by simp; omega
      have c3 : decide (z < 0) = false := by simp; omega
      clear c
      go_enter Try.func87, Try.ntmps87
      go_wp2_with fail
      go_ret2
      rw [E.out.1, E.out.2]
      exact ⟨rfl, rfl⟩
  · obtain ⟨n, rfl⟩ := Int.eq_ofNat_of_zero_le (show 0 ≤ z by omega)
    have n4 : n < 4 := by omega
    have nI : (n : Int) < 4 := by omega
    have c2 : decide (4 ≤ (n : Int)) = false := by simp; omega
    have c0 := h.cRoot n n4
    have c1 := h.cTrees
    by_cases k0 : F.trees ≤ n
    · have E : Hid (Tr.rootE F (n : Int) = 2 ∧ Tr.rootN F (n : Int) = 0) := Hid.intro (by
        have e : Tr.rootE F (n : Int) = 2 := by unfold Tr.rootE; rw [if_neg c, Int.toNat_natCast, if_pos k0]
        exact ⟨e, by unfold Tr.rootN; rw [e]; exact if_neg (by decide)⟩)
      have k1 : (F.trees : Int) ≤ (n : Int) := by omega
      generalize F.trees = tt at *
      clear h c k0
      go_enter Try.func87, Try.ntmps87
      go_wp2_with fail
      go_ret2
      rw [E.out.1, E.out.2]
      exact ⟨rfl, rfl⟩
    · have E : Hid (Tr.rootE F (n : Int) = 0 ∧ Tr.rootN F (n : Int) = F.root n) := Hid.intro (by
        have e : Tr.rootE F (n : Int) = 0 := by unfold Tr.rootE; rw [if_neg c, Int.toNat_natCast, if_neg k0]
        exact ⟨e, by unfold Tr.rootN; rw [e, if_pos rfl, Int.toNat_natCast]⟩)
      have k1 : ¬ (F.trees : Int) ≤ (n : Int) := by omega
      generalize F.trees = tt at *
      generalize F.root n = rr at *
      clear h c k0
      go_enter Try.func87, Try.ntmps87
      go_wp2_with fail
      go_ret2
      rw [E.out.1, E.out.2]
      exact ⟨rfl, rfl⟩
/-- The place of a name. -/
def Tr.PlcTo (x : Nd) (s : ByteArray) (z : Int) : Prop := (∃ i : Nat, z = i ∧ i < x.size ∧ (x.nam i).toList = s.toList ∧ ∀ j, j < i → (x.nam j).toList ≠ s.toList) ∨ (z = -1 ∧ ∀ j, j < x.size → (x.nam j).toList ≠ s.toList)
theorem Tr.PlcTo.unique {x : Nd} {s : ByteArray} {y z : Int} (h : Tr.PlcTo x s y) (k : Tr.PlcTo x s z) : y = z := by
  rcases h with ⟨i, rfl, h1, h2, h3⟩ | ⟨rfl, h1⟩ <;> rcases k with ⟨j, rfl, k1, k2, k3⟩ | ⟨rfl, k1⟩
  · rcases Nat.lt_trichotomy i j with c | c | c
    · exact absurd h2 (k3 i c)
    · rw [c]
    · exact absurd k2 (h3 j c)
  · exact absurd h2 (k1 i h1)
  · exact absurd k2 (h1 j k1)
  · rfl
set_option maxRecDepth 100000 in
set_option maxHeartbeats 400000 in
theorem tplace1_any (bx k : Nat) (nm s : ByteArray) (w : World) (h : w.cell? ⟨bx, 0, none⟩ = some (.string s)) (hb : bx < w.heap.size) :
    Calls Try.prog 140 #[.agg #[.string nm, .int .i64 (k : Int)], .pointer (some ⟨bx, 0, none⟩)] w fun e w' => e = .returned (.bool (nm.toList == s.toList)) ∧ Below w.heap.size w w' := by
  have hne : bx ≠ w.heap.size := by omega
  go_enter Try.func140, Try.ntmps140
  go_wp2_with fail
  go_ret
  exact ⟨rfl, (Below.refl _ _).alloc (Nat.le_refl _) _⟩
set_option maxRecDepth 100000 in
set_option maxHeartbeats 1000000 in
theorem tindex_any (bx b n m c : Nat) (s : ByteArray) (F : Fo) (w : World) (h : FAt w b F) (hx : w.cell? ⟨bx, 0, none⟩ = some (.string s)) (hn : n < 40) (hm : (F.nd n).size = m) (hm8 : m ≤ 8) :
    Calls Try.prog 139 #[.slice (some ⟨b, n * 62 + 6, none⟩) m c, .func (.func 140) #[] #[.pointer (some ⟨bx, 0, none⟩)]] w fun e w' => ∃ z : Int, e = .returned (.int .i64 z) ∧ Tr.PlcTo (F.nd n) s z ∧ Below w.heap.size w w' := by
  have HF := Hid.intro (And.intro h (And.intro hx (World.block_lt_of_cell? _ _ hx)))
  have HM := Hid.intro hm
  clear h hx hm
  go_enter Try.func139, Try.ntmps139
  go_wp2_with fail
  go_loopw [5, 8] (fun x i wr => ∃ (j : Nat), i = .int .i64 j ∧ j ≤ m ∧ Hid (Below w.heap.size w wr ∧ ∀ y, y < j → ((F.nd n).nam y).toList ≠ s.toList)) (fun _ i _ => m - (intOf i).toNat)
  case atStart => exact ⟨0, rfl, by omega, Below.refl _ _, fun y hy => by omega⟩
  case round =>
    obtain ⟨j, rfl, hj, R⟩ := hrel
    by_cases hlt : j < m
    · have hltI : (j : Int) < (m : Int) := by omega
      have c0 := (HF.out.1.below R.out.1).cNam n j hn (by omega)
      have c1 := (HF.out.1.below R.out.1).cKid n j hn (by omega)
      obtain ⟨nm, hnm⟩ : ∃ nm, (F.nd n).nam j = nm := ⟨_, rfl⟩
      have HNM := Hid.intro hnm
      rw [hnm] at c0
      generalize (F.nd n).kid j = kk at *
      clear hnm
      go_wp2_with fail
      refine (tplace1_any bx kk nm s _ ((R.out.1.cell HF.out.2.2).trans HF.out.2.1) (Nat.lt_of_lt_of_le HF.out.2.2 R.out.1.size)).mono ?_
      rintro e w1 ⟨rfl, b1⟩
      have B1 := Hid.intro (R.out.1.trans (b1.mono R.out.1.size))
      clear b1 c0 c1
      by_cases e : nm.toList = s.toList
      · have e' : (nm.toList == s.toList) = true := by simpa using e
        have FIN : Hid (Tr.PlcTo (F.nd n) s (j : Int)) := Hid.intro (.inl ⟨j, rfl, by rw [HM.out]; exact hlt, by rw [HNM.out]; exact e, R.out.2⟩)
        rw [e']
        clear e e'
        go_wp2_with fail
        go_ret
        exact ⟨_, rfl, FIN.out, B1.out⟩
      · have e' : (nm.toList == s.toList) = false := by simpa using e
        have NX : Hid (∀ y, y < j + 1 → ((F.nd n).nam y).toList ≠ s.toList) := Hid.intro (fun y hy => by
          by_cases d : y = j
          · subst d; rw [HNM.out]; exact e
          · exact R.out.2 y (by omega))
        rw [e']
        clear e e'
        go_wp2_with fail
        go_roundw
        case rel => exact ⟨j + 1, by go_num, by omega, B1.out, NX.out⟩
        case measure => simp [intOf]; omega
    · have hltI : ¬ (j : Int) < (m : Int) := by omega
      have FIN : Hid (Tr.PlcTo (F.nd n) s (-1)) := Hid.intro (.inr ⟨rfl, fun y hy => R.out.2 y (by rw [HM.out] at hy; omega)⟩)
      go_wp2_with fail
      go_ret
      exact ⟨_, rfl, FIN.out, R.out.1⟩
set_option maxRecDepth 100000 in
set_option maxHeartbeats 400000 in
theorem tentries_any (b n : Nat) (F : Fo) (w : World) (h : FAt w b F) (hn : n < 40) (hm8 : (F.nd n).size ≤ 8) :
    Calls Try.prog 118 #[.pointer (some ⟨b, n * 62, none⟩)] w fun e w' => e = .returned (.slice (some ⟨b, n * 62 + 6, none⟩) (F.nd n).size 8) ∧ ∃ k, w' = w.drewN k := by
  have c0 := h.cSize n hn
  generalize (F.nd n).size = sz at *
  have h1 : (sz : Int) ≤ 8 := by omega
  clear h
  go_enter Try.func118, Try.ntmps118
  go_wp2_with fail
  go_quiet (fail)
  go_wp2_with fail
  go_ret
  exact ⟨rfl, _, rfl⟩
theorem tbox1 (w : World) (v : Value) (T : TypeId) : (w.alloc (.cells #[v] T)).cell? ⟨w.heap.size, 0, none⟩ = some v := by
  rw [cell_blk (heap_alloc_new w (.cells #[v] T))]
  rfl
set_option maxRecDepth 100000 in
set_option maxHeartbeats 400000 in
theorem tplace_any (b n : Nat) (s : ByteArray) (F : Fo) (w : World) (h : FAt w b F) (hn : n < 40) (hm8 : (F.nd n).size ≤ 8) :
    Calls Try.prog 117 #[.pointer (some ⟨b, n * 62, none⟩), .string s] w fun e w' => ∃ z : Int, e = .returned (.int .i64 z) ∧ Tr.PlcTo (F.nd n) s z ∧ Below w.heap.size w w' := by
  have S1 : Hid (∀ T, FAt (w.alloc (.cells #[.string s] T)) b F ∧ Below w.heap.size w (w.alloc (.cells #[.string s] T))) := Hid.intro (fun T => by
    have bb : Below w.heap.size w (w.alloc (.cells #[.string s] T)) := (Below.refl _ _).alloc (Nat.le_refl _) _
    exact ⟨h.below bb, bb⟩)
  clear h
  go_enter Try.func117, Try.ntmps117
  go_wp2_with fail
  refine (tentries_any b n F _ (S1.out _).1 hn hm8).mono ?_
  rintro e w1 ⟨rfl, k, hw⟩
  subst w1
  obtain ⟨sz, hsz⟩ : ∃ sz, (F.nd n).size = sz := ⟨_, rfl⟩
  have HSZ := Hid.intro hsz
  rw [hsz] at hm8 ⊢
  clear hsz
  go_wp2_with fail
  refine (tindex_any w.heap.size b n sz 8 s F _ ((S1.out _).1.drewN k) (tbox1 w _ _) hn HSZ.out hm8).mono ?_
  rintro e w2 ⟨z, rfl, hp, b2⟩
  have FIN : Hid (Tr.PlcTo (F.nd n) s z ∧ Below w.heap.size w w2) := Hid.intro ⟨hp, by
    have a := (S1.out 9).2
    have c : Below w.heap.size w ((w.alloc (.cells #[.string s] 9)).drewN k) := ⟨a.os, a.tape, a.output, a.size, a.block⟩
    exact c.trans (b2.mono c.size)⟩
  clear hp b2
  go_wp2_with fail
  go_ret
  exact ⟨z, rfl, FIN.out⟩
end Go.Proofs.Ytfgnhldnmbfnkab

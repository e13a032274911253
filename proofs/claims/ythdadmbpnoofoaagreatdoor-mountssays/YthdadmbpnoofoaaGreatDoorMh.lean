/- The code's table: rootOf, New; slices.Clone; Root, Mounts. -/
import Derived.Test.YthdadmbpnoofoaaGreatDoorMg
namespace Go.Proofs.YthdadmbpnoofoaaGreatDoor
open Go.RowKit
open Tr (Fo Nd)
open Mo (Wh Mt Tb)

/-- The place of a tree's root. -/
def Mo.rtP (F : Fo) (t : Int) : Wh := if Tr.rootE F t = 0 then (t, (Tr.rootN F t : Int)) else (0, 0)
set_option maxRecDepth 100000 in
set_option maxHeartbeats 1000000 in
theorem rootOf_any (f : Nat) (F : Fo) (t : Int) (w : World) (hF : FAt w f F) :
    Calls Tryz.prog 24 #[.pointer (some ⟨f, 0, none⟩), .int .i64 t] w fun e w' => e = .returned (.tuple #[.agg #[.int .i64 (Mo.rtP F t).1, .int .i64 (Mo.rtP F t).2], errV (Tr.rootE F t)]) ∧ Below w.heap.size w w' := by
  have HF := Hid.intro hF
  clear hF
  go_enter Tryz.func24, Tryz.ntmps24
  go_upto_region 1 with fail
  refine wp_gen (fun W' => WB W' w.heap.size (0, 0) ∧ Below w.heap.size w W') (box1 w) ?_
  rintro W1 h1
  have S1 := Hid.intro h1
  clear h1
  go_wp2_with fail
  refine (troot_any f t F _ (HF.out.below S1.out.2)).mono ?_
  rintro e W2 ⟨rfl, hW⟩
  subst W2
  obtain ⟨rx, hrx⟩ : ∃ rx, w.heap.size = rx := ⟨_, rfl⟩
  have HRX := Hid.intro hrx
  rw [hrx] at S1 ⊢
  clear hrx
  have y0 := S1.out.1.c0
  have y1 := S1.out.1.c1
  have yf := S1.out.1.fz
  by_cases e0 : Tr.rootE F t = 0
  · have P : Hid (Mo.rtP F t = (t, (Tr.rootN F t : Int))) := Hid.intro (if_pos e0)
    have E0 := Hid.intro e0
    rw [e0, errV_zero]
    obtain ⟨rn, hrn⟩ : ∃ rn : Int, (Tr.rootN F t : Int) = rn := ⟨_, rfl⟩
    rw [hrn] at P ⊢
    have R := Hid.intro (S1.out.1.fin S1.out.2 HRX.out (t, rn))
    clear e0 hrn
    go_wp2_with fail
    generalize hWF : (W1.setCell ⟨rx, 0, none⟩ (.int .i64 t)).setCell ⟨rx, 1, none⟩ (.int .i64 rn) = WF at R ⊢
    have z0 := R.out.1.c0
    have z1 := R.out.1.c1
    refine bodyPost_ret (v := .tuple #[.agg #[.int .i64 t, .int .i64 rn], .nilIface]) (by simp [results, Tryz.f24, go_sem, z0, z1]) rfl ?_
    rw [P.out, E0.out]
    refine ⟨rfl, by rw [HRX.out]; exact R.out.2⟩
  · have P : Hid (Mo.rtP F t = (0, 0)) := Hid.intro (if_neg e0)
    have E0 := Hid.intro (errV_ne e0)
    rw [E0.out]
    have R := Hid.intro (S1.out.1.fin S1.out.2 HRX.out (0, 0))
    clear e0
    go_wp2_with fail
    generalize hWF : (W1.setCell ⟨rx, 0, none⟩ (.int .i64 0)).setCell ⟨rx, 1, none⟩ (.int .i64 0) = WF at R ⊢
    have z0 := R.out.1.c0
    have z1 := R.out.1.c1
    refine bodyPost_ret (v := .tuple #[.agg #[.int .i64 0, .int .i64 0], .iface 83 (.int .i64 (Tr.rootE F t))]) (by simp [results, Tryz.f24, go_sem, z0, z1]) rfl ?_
    rw [P.out, E0.out]
    refine ⟨rfl, by rw [HRX.out]; exact R.out.2⟩
theorem TAt.made (w : World) (f base : Nat) (x : Wh) : TAt (w.alloc (.cells #[.pointer (some ⟨f, 0, none⟩), .int .i64 x.1, .int .i64 x.2, .slice none 0 0] 82)) base w.heap.size f ⟨x, []⟩ (.slice none 0 0) :=
  ⟨heap_alloc_new w _, World.ownsRow_nil _ _ _ _, by simp⟩
set_option maxRecDepth 100000 in
set_option maxHeartbeats 1000000 in
theorem new_no (f : Nat) (F : Fo) (t : Int) (w : World) (hF : FAt w f F) (e0 : Tr.rootE F t ≠ 0) :
    Calls Tryz.prog 8 #[.pointer (some ⟨f, 0, none⟩), .int .i64 t] w fun e w' => e = .returned (.tuple #[.pointer none, errV (Tr.rootE F t)]) ∧ Below w.heap.size w w' := by
  have HF := Hid.intro hF
  have E := Hid.intro (errV_ne e0)
  clear hF
  go_enter Tryz.func8, Tryz.ntmps8
  go_wp2_with fail
  refine (rootOf_any f F t _ HF.out).mono ?_
  rintro e W1 ⟨rfl, b1⟩
  have B1 := Hid.intro b1
  rw [E.out]
  clear b1 e0
  obtain ⟨y, hy⟩ : ∃ y, Mo.rtP F t = y := ⟨_, rfl⟩
  rw [hy]
  clear hy
  go_wp2_with fail
  go_ret2
  rw [E.out]
  exact ⟨rfl, B1.out.alloc B1.out.size _⟩
set_option maxRecDepth 100000 in
set_option maxHeartbeats 1000000 in
theorem new_yes (f K : Nat) (F : Fo) (t : Int) (w : World) (hF : FAt w f F) (e0 : Tr.rootE F t = 0) (hb : Tr.Hb F K) (hK : K < 800) :
    Calls Tryz.prog 8 #[.pointer (some ⟨f, 0, none⟩), .int .i64 t] w fun e w' => ∃ b, e = .returned (.tuple #[.pointer (some ⟨b, 0, none⟩), .nilIface]) ∧ w.heap.size ≤ b ∧ (∀ base, TAt w' base b f ⟨(t, (Tr.rootN F t : Int)), []⟩ (.slice none 0 0)) ∧ FAt w' f (Tr.hol F (Tr.rootN F t)) ∧ Frm f w w' := by
  have HF := Hid.intro hF
  have HB := Hid.intro hb
  have P : Hid (Mo.rtP F t = (t, (Tr.rootN F t : Int))) := Hid.intro (if_pos e0)
  have E0 := Hid.intro e0
  clear hF hb e0
  go_enter Tryz.func8, Tryz.ntmps8
  go_wp2_with fail
  refine (rootOf_any f F t _ HF.out).mono ?_
  rintro e W1 ⟨rfl, b1⟩
  rw [P.out, E0.out, errV_zero]
  obtain ⟨rn, hrn⟩ : ∃ rn : Int, (Tr.rootN F t : Int) = rn := ⟨_, rfl⟩
  rw [hrn]
  have S1 : Hid (∀ o o', FAt ((W1.alloc o).alloc o') f F ∧ Below w.heap.size w ((W1.alloc o).alloc o')) := Hid.intro (fun o o' => by
    have a : Below w.heap.size w ((W1.alloc o).alloc o') := (b1.alloc b1.size o).alloc (by have := b1.size; simp; omega) o'
    exact ⟨HF.out.below a, a⟩)
  have BZ := Hid.intro b1.size
  clear b1 E0 P
  go_upto_region 5 with fail
  refine wp_gen (fun W' => (∀ base, TAt W' base (W1.heap.size + 1) f ⟨(t, rn), []⟩ (.slice none 0 0)) ∧ FAt W' f F ∧ Below w.heap.size w W') ⟨fun base => ⟨by
    show ((W1.heap.push _).push _)[W1.heap.size + 1]? = _
    simp only [Array.getElem?_push, Array.size_push]
    rw [if_pos trivial], World.ownsRow_nil _ _ _ _, by simp⟩, S1.out _ _⟩ ?_
  rintro W2 ⟨t2, f2, b2⟩
  have S2 := Hid.intro (And.intro t2 (And.intro f2 b2))
  have LB : Hid (w.heap.size ≤ W1.heap.size + 1) := Hid.intro (by have := BZ.out; omega)
  clear t2 f2 b2 S1 BZ
  generalize W1.heap.size + 1 = b at *
  generalize W1.heap.size = b' at *
  go_wp2_with fail
  refine (hold_any 0 b f K ⟨(t, rn), []⟩ _ F _ (S2.out.1 0) S2.out.2.1 HB.out hK).mono ?_
  rintro e W3 ⟨rfl, f3, k3⟩
  have FIN : Hid ((∀ base, TAt W3 base b f ⟨(t, rn), []⟩ (.slice none 0 0)) ∧ FAt W3 f (Tr.hol F rn) ∧ Frm f w W3) := Hid.intro ⟨fun base => (S2.out.1 base).ofF S2.out.2.1 k3, f3, (Frm.of_below S2.out.2.2).trans k3⟩
  clear f3 k3
  go_wp2_with fail
  go_ret2
  subst hrn
  exact ⟨b, rfl, LB.out, FIN.out⟩
set_option maxRecDepth 100000 in
set_option maxHeartbeats 400000 in
theorem root_any (base b f : Nat) (T : Tb) (v : Value) (w : World) (h : TAt w base b f T v) :
    Calls Tryz.prog 18 #[.pointer (some ⟨b, 0, none⟩)] w fun e w' => e = .returned (.agg #[.int .i64 T.rt.1, .int .i64 T.rt.2]) ∧ Below w.heap.size w w' := by
  have HT := Hid.intro h
  clear h
  go_enter Tryz.func18, Tryz.ntmps18
  go_upto_region 1 with fail
  refine wp_gen (fun W' => WB W' w.heap.size (0, 0) ∧ Below w.heap.size w W') (box1 w) ?_
  rintro W1 h1
  have S1 := Hid.intro h1
  have T1 := HT.out.below h1.2
  have c1 := T1.c1
  have c2 := T1.c2
  clear h1 T1
  obtain ⟨rx, hrx⟩ : ∃ rx, w.heap.size = rx := ⟨_, rfl⟩
  have HRX := Hid.intro hrx
  rw [hrx] at S1 ⊢
  clear hrx
  have y0 := S1.out.1.c0
  have y1 := S1.out.1.c1
  have yf := S1.out.1.fz
  obtain ⟨y, hy⟩ : ∃ y, T.rt = y := ⟨_, rfl⟩
  have HY := Hid.intro hy
  rw [hy] at c1 c2
  clear hy
  have R := Hid.intro (S1.out.1.fin S1.out.2 HRX.out y)
  go_wp2_with fail
  generalize hWF : (W1.setCell ⟨rx, 0, none⟩ (.int .i64 y.1)).setCell ⟨rx, 1, none⟩ (.int .i64 y.2) = WF at R ⊢
  have z0 := R.out.1.c0
  have z1 := R.out.1.c1
  refine bodyPost_ret (v := .agg #[.int .i64 y.1, .int .i64 y.2]) (by simp [results, Tryz.f18, go_sem, z0, z1]) rfl ?_
  rw [HY.out]
  exact ⟨rfl, by rw [HRX.out]; exact R.out.2⟩
section
variable {ops : Array Oper} {rest : List Oper} {o : Oper} {a : Act} {w : World} {Q : Exit → Act → World → Prop}
/-- Nothing is put behind a row: a slice that is there, and has no cells. -/
theorem run_append_zero {P : Program} (t ty e : TypeId) (i : TypeInfo) (ht : P.underlying t = some (.slice e)) (hi : P.info? e = some i) (g : Nat) (ad : Addr) (n cap c : Nat) (hn : n ≤ cap) :
    (Builtin.append_ #[t, t] ty #[.slice (some ⟨g, 0, none⟩) n cap, .slice (some ad) 0 c]).run P w = .ok (.slice (some ⟨g, 0, none⟩) n cap) w := by
  simp [Builtin.append_, run_underlying ht, sizeOf, typeInfo, hi, Builtin.lenOf, Builtin.firstCells, hn, storeCells, loadCells, loadCellsFrom]
theorem wpList_append_zero (hgd : o.guard = none) (s x : Operand) (t : TypeId) (ho : o.op = .call { callee := .builtin .append, args := #[s, x], argTypes := #[t, t] }) (e : TypeId) (i : TypeInfo) (ht : Tryz.prog.underlying t = some (.slice e)) (hi : Tryz.prog.info? e = some i)
    (g : Nat) (ad : Addr) (n cap c : Nat) (hn : n ≤ cap) (hs : a.eval s = .slice (some ⟨g, 0, none⟩) n cap) (hx : a.eval x = .slice (some ad) 0 c) (h : wpList Tryz.prog ops Q rest (a.put o.dst (.slice (some ⟨g, 0, none⟩) n cap)) w) : wpList Tryz.prog ops Q (o :: rest) a w :=
  wpList_plain hgd fun _ hK => by
    unfold Oper.wp execOp
    simp only [ho, resolve, invoke, builtin, Sem.run_bind, Sem.run_pure, Result.andThen_ok, List.map_toArray, List.map_cons, List.map_nil, hs, hx, run_append_zero (P := Tryz.prog) (w := w) t o.type e i ht hi g ad n cap c hn]
    exact hK _ _ h
end
theorem Mo.mcs_one_cell : ∀ (L : List Mt), ∀ u ∈ Mo.mcs L, u.oneCell' = true := fun L u hu => by
  unfold Mo.mcs at hu
  obtain ⟨m, _, hm⟩ := List.mem_flatMap.1 hu
  simp only [Mo.mtC, List.mem_cons, List.not_mem_nil, or_false] at hm
  rcases hm with rfl | rfl | rfl | rfl <;> rfl
theorem MRow.news {w : World} {base g n cap : Nat} {L : List Mt} (h : MRow w base L (.slice (some ⟨g, 0, none⟩) n cap)) : ∀ j u, (Mo.mcs L)[j]? = some u → w.cell? ((⟨g, 0, none⟩ : Addr).add j) = some u := World.ownsRow.cells h rfl
theorem nil_nil (w : World) : Sem.run Tryz.prog (binOp BinOp.eql 58 (.slice none 0 0) (.slice none 0 0)) w = .ok (.bool true) w := by kernel_rfl
theorem nil_not (ad : Addr) (n c : Nat) (w : World) : Sem.run Tryz.prog (binOp BinOp.eql 58 (.slice (some ad) n c) (.slice none 0 0)) w = .ok (.bool false) w := by kernel_rfl
set_option maxRecDepth 100000 in
set_option maxHeartbeats 1000000 in
theorem mclone_any (base : Nat) (L : List Mt) (v : Value) (w : World) (h : MRow w base L v) (h6 : L.length ≤ 6) :
    Calls Tryz.prog 47 #[v] w fun e w' => ∃ v', e = .returned v' ∧ MRow w' w.heap.size L v' ∧ Below w.heap.size w w' := by
  obtain ⟨i0, z0, hi0, hz0, hz1, hz2, hz3⟩ := infoMt
  rcases h.form with ⟨rfl, rfl⟩ | ⟨g, cap, rfl, hb, hg, hc⟩
  · clear h
    have cm := nil_nil w
    go_enter Tryz.func47, Tryz.ntmps47
    go_wp2_with fail
    go_ret
    exact ⟨_, rfl, World.ownsRow_nil _ _ _ _, Below.refl _ _⟩
  · have HR := Hid.intro h
    obtain ⟨N, hN⟩ : ∃ N, L.length = N := ⟨_, rfl⟩
    have HN := Hid.intro hN
    rw [hN] at h6 HR hc ⊢
    have A1 : Hid ((w.alloc (.cells #[] 105)).ownsRow w.heap.size 105 4 (.slice (some ⟨w.heap.size, 0, none⟩) 0 0) 0 [] ∧ Below w.heap.size w (w.alloc (.cells #[] 105))) := Hid.intro ⟨⟨rfl, .inr ⟨w.heap.size, 0, #[], rfl, Nat.le_refl _, heap_alloc_new w _, Nat.le_refl _, by decide, rfl, rfl⟩⟩, (Below.refl _ _).alloc (Nat.le_refl _) _⟩
    by_cases n0 : N = 0
    · subst n0
      have L0 : Hid (L = []) := Hid.intro (List.eq_nil_of_length_eq_zero hN)
      clear h hN hb hg
      have cm := nil_not ⟨g, 0, none⟩ 0 cap w
      go_enter Tryz.func47, Tryz.ntmps47
      go_wp2_with (at_builtin; refine wpList_append_zero rfl _ _ 58 rfl 105 i0 Tryz.underlying58 hi0 w.heap.size ⟨g, 0, none⟩ 0 0 cap (Nat.le_refl _) (by rfl) (by rfl) ?_)
      go_ret
      refine ⟨_, rfl, ?_, A1.out.2⟩
      rw [L0.out]
      exact A1.out.1
    · have HG := Hid.intro hg
      clear h hN hb hg
      have MORE : Hid (∀ g2 cap2 W7, W7.ownsRow w.heap.size 105 4 (.slice (some ⟨g2, 0, none⟩) (0 + N) cap2) (0 + N) ([] ++ Mo.mcs L) → (w.alloc (.cells #[] 105)).grownBy W7 (some w.heap.size) → MRow W7 w.heap.size L (.slice (some ⟨g2, 0, none⟩) (0 + N) cap2) ∧ Below w.heap.size w W7) := Hid.intro (fun g2 cap2 W7 ho hgr => by
        refine ⟨?_, A1.out.2.trans ⟨hgr.os, hgr.tape, hgr.output, hgr.size, fun n hn => hgr.block n (by simp; omega) (fun e => by cases e; omega)⟩⟩
        unfold MRow
        rw [HN.out]
        rw [Nat.zero_add, List.nil_append] at ho
        rw [Nat.zero_add]
        exact ho)
      have cm := nil_not ⟨g, 0, none⟩ N cap w
      go_enter Tryz.func47, Tryz.ntmps47
      go_wp2_with (at_builtin; refine wpList_append_lies _ rfl _ _ 58 (by rfl) w.heap.size 105 i0 z0 4 32 Tryz.underlying58 hi0 hz0 hz1 hz2 hz3 (by decide) (.slice (some ⟨w.heap.size, 0, none⟩) 0 0) 0 [] (by rfl) A1.out.1 ⟨g, 0, none⟩ N cap (Mo.mcs L) (by rfl) (by rw [Mo.mcs_len, HN.out]) (HR.out.below A1.out.2).news (Mo.mcs_one_cell L) (by omega) (by unfold maxLen; omega) (by omega) (by simp) (w.heap.size + 1) (by simp) ?_; intro gg cap2 W7 hown hgrow hat hlt2; have Q1 := Hid.intro (MORE.out gg cap2 W7 hown hgrow); clear hown hgrow hat hlt2)
      go_ret
      have Q2 := Q1.out
      rw [Nat.zero_add] at Q2
      exact ⟨_, rfl, Q2⟩
set_option maxRecDepth 100000 in
set_option maxHeartbeats 400000 in
theorem mounts_any (base b f : Nat) (T : Tb) (v : Value) (w : World) (h : TAt w base b f T v) :
    Calls Tryz.prog 20 #[.pointer (some ⟨b, 0, none⟩)] w fun e w' => ∃ v', e = .returned v' ∧ MRow w' w.heap.size T.ms v' ∧ Below w.heap.size w w' := by
  have HT := Hid.intro h
  obtain ⟨va, vc, hv⟩ := h.row.sl
  have HV := Hid.intro hv
  have c3 := h.c3
  rw [hv] at c3
  clear h hv
  go_enter Tryz.func20, Tryz.ntmps20
  go_wp2_with fail
  rw [← HV.out]
  refine (mclone_any base T.ms v _ HT.out.row HT.out.six).mono ?_
  rintro e W1 ⟨v', rfl, r1, b1⟩
  have FIN := Hid.intro (And.intro r1 b1)
  clear r1 b1
  go_wp2_with fail
  go_ret
  exact ⟨_, rfl, FIN.out⟩
end Go.Proofs.YthdadmbpnoofoaaGreatDoor

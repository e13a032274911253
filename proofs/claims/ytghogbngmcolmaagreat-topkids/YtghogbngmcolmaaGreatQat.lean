import Derived.Deep.RegionLaw
import Derived.Test.YtghogbngmcolmaaGreatQas
namespace Go.Proofs.YtghogbngmcolmaaGreat
open Go.RowKit
open Tr (Fo Nd)
open Mo (Wh Mt Tb)
def Mo.rtP (F : Fo) (t : Int) : Wh := if Tr.rootE F t = 0 then (t, (Tr.rootN F t : Int)) else (0, 0)
set_option maxRecDepth 100000 in
set_option maxHeartbeats 1000000 in
theorem rootOf_any (f : Nat) (F : Fo) (t : Int) (w : World) (hF : FAt w f F) :
    Calls Tryz.prog 101 #[.pointer (some ⟨f, 0, none⟩), .int .i64 t] w fun e w' => e = .returned (.tuple #[.agg #[.int .i64 (Mo.rtP F t).1, .int .i64 (Mo.rtP F t).2], errV (Tr.rootE F t)]) ∧ Below w.heap.size w w' := by
  have HF := Hid.intro hF
  clear hF
  go_enter Tryz.func101, Tryz.ntmps101
  go_upto_region 1 with fail
  refine wp_gen (fun W' => WB W' w.heap.size (0, 0) ∧ Below w.heap.size w W') (box1 w) ?_
  rintro W1 h1
  have S1 := Hid.intro h1
  clear h1
  go_wp2_with fail
  refine (troot_any f t F _ (HF.out.below S1.out.2)).mono ?_
  rintro e W2 ⟨rfl, hW⟩
  subst W2
  obtain ⟨rx, hrx⟩ : ∃ rx, w.heap.size = rx := ⟨_, rfl⟩
  have HRX := Hid.intro hrx
  rw [hrx] at S1 ⊢
  clear hrx
  have y0 := S1.out.1.c0
  have y1 := S1.out.1.c1
  have yf := S1.out.1.fz
  by_cases e0 : Tr.rootE F t = 0
  · have P : Hid (Mo.rtP F t = (t, (Tr.rootN F t : Int))) := Hid.intro (if_pos e0)
    have E0 := Hid.intro e0
    rw [e0, errV_zero]
    obtain ⟨rn, hrn⟩ : ∃ rn : Int, (Tr.rootN F t : Int) = rn := ⟨_, rfl⟩
    rw [hrn] at P ⊢
    have R := Hid.intro (S1.out.1.fin S1.out.2 HRX.out (t, rn))
    clear e0 hrn
    go_wp2_with fail
    generalize hWF : (W1.setCell ⟨rx, 0, none⟩ (.int .i64 t)).setCell ⟨rx, 1, none⟩ (.int .i64 rn) = WF at R ⊢
    have z0 := R.out.1.c0
    have z1 := R.out.1.c1
    refine bodyPost_ret (v := .tuple #[.agg #[.int .i64 t, .int .i64 rn], .nilIface]) (by simp [results, Tryz.f101, go_sem, z0, z1]) rfl ?_
    rw [P.out, E0.out]
    refine ⟨rfl, by rw [HRX.out]; exact R.out.2⟩
  · have P : Hid (Mo.rtP F t = (0, 0)) := Hid.intro (if_neg e0)
    have E0 := Hid.intro (errV_ne e0)
    rw [E0.out]
    have R := Hid.intro (S1.out.1.fin S1.out.2 HRX.out (0, 0))
    clear e0
    go_wp2_with fail
    generalize hWF : (W1.setCell ⟨rx, 0, none⟩ (.int .i64 0)).setCell ⟨rx, 1, none⟩ (.int .i64 0) = WF at R ⊢
    have z0 := R.out.1.c0
    have z1 := R.out.1.c1
    refine bodyPost_ret (v := .tuple #[.agg #[.int .i64 0, .int .i64 0], .iface 60 (.int .i64 (Tr.rootE F t))]) (by simp [results, Tryz.f101, go_sem, z0, z1]) rfl ?_
    rw [P.out, E0.out]
    refine ⟨rfl, by rw [HRX.out]; exact R.out.2⟩
set_option maxRecDepth 100000 in
set_option maxHeartbeats 1000000 in
theorem new_yes (f K : Nat) (F : Fo) (t : Int) (w : World) (hF : FAt w f F) (e0 : Tr.rootE F t = 0) (hb : Tr.Hb F K) (hK : K < 800) :
    Calls Tryz.prog 59 #[.pointer (some ⟨f, 0, none⟩), .int .i64 t] w fun e w' => ∃ b, e = .returned (.tuple #[.pointer (some ⟨b, 0, none⟩), .nilIface]) ∧ w.heap.size ≤ b ∧ (∀ base, TAt w' base b f ⟨(t, (Tr.rootN F t : Int)), []⟩ (.slice none 0 0)) ∧ FAt w' f (Tr.hol F (Tr.rootN F t)) ∧ Frm f w w' := by
  have HF := Hid.intro hF
  have HB := Hid.intro hb
  have P : Hid (Mo.rtP F t = (t, (Tr.rootN F t : Int))) := Hid.intro (if_pos e0)
  have E0 := Hid.intro e0
  clear hF hb e0
  go_enter Tryz.func59, Tryz.ntmps59
  go_wp2_with fail
  refine (rootOf_any f F t _ HF.out).mono ?_
  rintro e W1 ⟨rfl, b1⟩
  rw [P.out, E0.out, errV_zero]
  obtain ⟨rn, hrn⟩ : ∃ rn : Int, (Tr.rootN F t : Int) = rn := ⟨_, rfl⟩
  rw [hrn]
  have S1 : Hid (∀ o o', FAt ((W1.alloc o).alloc o') f F ∧ Below w.heap.size w ((W1.alloc o).alloc o')) := Hid.intro (fun o o' => by
    have a : Below w.heap.size w ((W1.alloc o).alloc o') := (b1.alloc b1.size o).alloc (by have := b1.size; simp; omega) o'
    exact ⟨HF.out.below a, a⟩)
  have BZ := Hid.intro b1.size
  clear b1 E0 P
  go_upto_region 5 with fail
  refine wp_gen (fun W' => (∀ base, TAt W' base (W1.heap.size + 1) f ⟨(t, rn), []⟩ (.slice none 0 0)) ∧ FAt W' f F ∧ Below w.heap.size w W') ⟨fun base => ⟨by
    show ((W1.heap.push _).push _)[W1.heap.size + 1]? = _
    simp only [Array.getElem?_push, Array.size_push]
    rw [if_pos trivial], World.ownsRow_nil _ _ _ _, by simp⟩, S1.out _ _⟩ ?_
  rintro W2 ⟨t2, f2, b2⟩
  have S2 := Hid.intro (And.intro t2 (And.intro f2 b2))
  have LB : Hid (w.heap.size ≤ W1.heap.size + 1) := Hid.intro (by have := BZ.out; omega)
  clear t2 f2 b2 S1 BZ
  generalize W1.heap.size + 1 = b at *
  generalize W1.heap.size = b' at *
  go_wp2_with fail
  refine (hold_any 0 b f K ⟨(t, rn), []⟩ _ F _ (S2.out.1 0) S2.out.2.1 HB.out hK).mono ?_
  rintro e W3 ⟨rfl, f3, k3⟩
  have FIN : Hid ((∀ base, TAt W3 base b f ⟨(t, rn), []⟩ (.slice none 0 0)) ∧ FAt W3 f (Tr.hol F rn) ∧ Frm f w W3) := Hid.intro ⟨fun base => (S2.out.1 base).ofF S2.out.2.1 k3, f3, (Frm.of_below S2.out.2.2).trans k3⟩
  clear f3 k3
  go_wp2_with fail
  go_ret2
  subst hrn
  exact ⟨b, rfl, LB.out, FIN.out⟩
section
variable {ops : Array Oper} {rest : List Oper} {o : Oper} {a : Act} {w : World} {Q : Exit → Act → World → Prop}
theorem run_append_zero {P : Program} (t ty e : TypeId) (i : TypeInfo) (ht : P.underlying t = some (.slice e)) (hi : P.info? e = some i) (g : Nat) (ad : Addr) (n cap c : Nat) (hn : n ≤ cap) :
    (Builtin.append_ #[t, t] ty #[.slice (some ⟨g, 0, none⟩) n cap, .slice (some ad) 0 c]).run P w = .ok (.slice (some ⟨g, 0, none⟩) n cap) w := by
  simp [Builtin.append_, run_underlying ht, sizeOf, typeInfo, hi, Builtin.lenOf, Builtin.firstCells, hn, storeCells, loadCells, loadCellsFrom]
theorem wpList_append_zero (hgd : o.guard = none) (s x : Operand) (t : TypeId) (ho : o.op = .call { callee := .builtin .append, args := #[s, x], argTypes := #[t, t] }) (e : TypeId) (i : TypeInfo) (ht : Tryz.prog.underlying t = some (.slice e)) (hi : Tryz.prog.info? e = some i)
    (g : Nat) (ad : Addr) (n cap c : Nat) (hn : n ≤ cap) (hs : a.eval s = .slice (some ⟨g, 0, none⟩) n cap) (hx : a.eval x = .slice (some ad) 0 c) (h : wpList Tryz.prog ops Q rest (a.put o.dst (.slice (some ⟨g, 0, none⟩) n cap)) w) : wpList Tryz.prog ops Q (o :: rest) a w :=
  wpList_plain hgd fun _ hK => by
    unfold Oper.wp execOp
    simp only [ho, resolve, invoke, builtin, Sem.run_bind, Sem.run_pure, Result.andThen_ok, List.map_toArray, List.map_cons, List.map_nil, hs, hx, run_append_zero (P := Tryz.prog) (w := w) t o.type e i ht hi g ad n cap c hn]
    exact hK _ _ h
end
theorem Mo.mcs_one_cell : ∀ (L : List Mt), ∀ u ∈ Mo.mcs L, u.oneCell' = true := fun L u hu => by
  unfold Mo.mcs at hu
  obtain ⟨m, _, hm⟩ := List.mem_flatMap.1 hu
  simp only [Mo.mtC, List.mem_cons, List.not_mem_nil, or_false] at hm
  rcases hm with rfl | rfl | rfl | rfl <;> rfl
theorem MRow.news {w : World} {base g n cap : Nat} {L : List Mt} (h : MRow w base L (.slice (some ⟨g, 0, none⟩) n cap)) : ∀ j u, (Mo.mcs L)[j]? = some u → w.cell? ((⟨g, 0, none⟩ : Addr).add j) = some u := World.ownsRow.cells h rfl
theorem nil_nil (w : World) : Sem.run Tryz.prog (binOp BinOp.eql 199 (.slice none 0 0) (.slice none 0 0)) w = .ok (.bool true) w := by kernel_rfl
theorem nil_not (ad : Addr) (n c : Nat) (w : World) : Sem.run Tryz.prog (binOp BinOp.eql 199 (.slice (some ad) n c) (.slice none 0 0)) w = .ok (.bool false) w := by kernel_rfl
set_option maxRecDepth 100000 in
set_option maxHeartbeats 1000000 in
theorem mclone_any (base : Nat) (L : List Mt) (v : Value) (w : World) (h : MRow w base L v) (h6 : L.length ≤ 6) :
    Calls Tryz.prog 115 #[v] w fun e w' => ∃ v', e = .returned v' ∧ MRow w' w.heap.size L v' ∧ Below w.heap.size w w' := by
  obtain ⟨i0, z0, hi0, hz0, hz1, hz2, hz3⟩ := infoMt
  rcases h.form with ⟨rfl, rfl⟩ | ⟨g, cap, rfl, hb, hg, hc⟩
  · clear h
    have cm := nil_nil w
    go_enter Tryz.func115, Tryz.ntmps115
    go_wp2_with fail
    go_ret
    exact ⟨_, rfl, World.ownsRow_nil _ _ _ _, Below.refl _ _⟩
  · have HR := Hid.intro h
    obtain ⟨N, hN⟩ : ∃ N, L.length = N := ⟨_, rfl⟩
    have HN := Hid.intro hN
    rw [hN] at h6 HR hc ⊢
    have A1 : Hid ((w.alloc (.cells #[] 211)).ownsRow w.heap.size 211 4 (.slice (some ⟨w.heap.size, 0, none⟩) 0 0) 0 [] ∧ Below w.heap.size w (w.alloc (.cells #[] 211))) := Hid.intro ⟨⟨rfl, .inr ⟨w.heap.size, 0, #[], rfl, Nat.le_refl _, heap_alloc_new w _, Nat.le_refl _, by decide, rfl, rfl⟩⟩, (Below.refl _ _).alloc (Nat.le_refl _) _⟩
    by_cases n0 : N = 0
    · subst n0
      have L0 : Hid (L = []) := Hid.intro (List.eq_nil_of_length_eq_zero hN)
      clear h hN hb hg
      have cm := nil_not ⟨g, 0, none⟩ 0 cap w
      go_enter Tryz.func115, Tryz.ntmps115
      go_wp2_with (at_builtin; refine wpList_append_zero rfl _ _ 199 rfl 211 i0 Tryz.underlying199 hi0 w.heap.size ⟨g, 0, none⟩ 0 0 cap (Nat.le_refl _) (by rfl) (by rfl) ?_)
      go_ret
      refine ⟨_, rfl, ?_, A1.out.2⟩
      rw [L0.out]
      exact A1.out.1
    · have HG := Hid.intro hg
      clear h hN hb hg
      have MORE : Hid (∀ g2 cap2 W7, W7.ownsRow w.heap.size 211 4 (.slice (some ⟨g2, 0, none⟩) (0 + N) cap2) (0 + N) ([] ++ Mo.mcs L) → (w.alloc (.cells #[] 211)).grownBy W7 (some w.heap.size) → MRow W7 w.heap.size L (.slice (some ⟨g2, 0, none⟩) (0 + N) cap2) ∧ Below w.heap.size w W7) := Hid.intro (fun g2 cap2 W7 ho hgr => by
        refine ⟨?_, A1.out.2.trans ⟨hgr.os, hgr.tape, hgr.output, hgr.size, fun n hn => hgr.block n (by simp; omega) (fun e => by cases e; omega)⟩⟩
        unfold MRow
        rw [HN.out]
        rw [Nat.zero_add, List.nil_append] at ho
        rw [Nat.zero_add]
        exact ho)
      have cm := nil_not ⟨g, 0, none⟩ N cap w
      go_enter Tryz.func115, Tryz.ntmps115
      go_wp2_with (at_builtin; refine wpList_append_lies _ rfl _ _ 199 (by rfl) w.heap.size 211 i0 z0 4 32 Tryz.underlying199 hi0 hz0 hz1 hz2 hz3 (by decide) (.slice (some ⟨w.heap.size, 0, none⟩) 0 0) 0 [] (by rfl) A1.out.1 ⟨g, 0, none⟩ N cap (Mo.mcs L) (by rfl) (by rw [Mo.mcs_len, HN.out]) (HR.out.below A1.out.2).news (Mo.mcs_one_cell L) (by omega) (by unfold maxLen; omega) (by omega) (by simp) (w.heap.size + 1) (by simp) ?_; intro gg cap2 W7 hown hgrow hat hlt2; have Q1 := Hid.intro (MORE.out gg cap2 W7 hown hgrow); clear hown hgrow hat hlt2)
      go_ret
      have Q2 := Q1.out
      rw [Nat.zero_add] at Q2
      exact ⟨_, rfl, Q2⟩
end Go.Proofs.YtghogbngmcolmaaGreat
namespace Go.Proofs.YtghogbngmcolmaaGreat
open Go.RowKit
open Tr (Fo Nd)
open Mo (Wh Mt Tb)
set_option maxRecDepth 100000 in
set_option maxHeartbeats 2000000 in
theorem copy_any (base b f K : Nat) (T : Tb) (v : Value) (F : Fo) (w : World) (h : TAt w base b f T v) (hF : FAt w f F) (hb : Tr.Hb F K) (hK : K < 800) :
    Calls Tryz.prog 68 #[.pointer (some ⟨b, 0, none⟩)] w fun e w' => ∃ c v', e = .returned (.pointer (some ⟨c, 0, none⟩)) ∧ w.heap.size ≤ c ∧ TAt w' w.heap.size c f T v' ∧ FAt w' f (Mo.hoA F T) ∧ Frm f w w' := by
  have HT := Hid.intro (And.intro h hF)
  have HB := Hid.intro hb
  obtain ⟨va, vc, hv⟩ := h.row.sl
  have HV := Hid.intro hv
  have c0 := h.c0
  have c1 := h.c1
  have c2 := h.c2
  have c3 := h.c3
  rw [hv] at c3
  have KF : Hid (∀ w' : World, Below w.heap.size w w' → w'.cell? ⟨b, 0, none⟩ = some (.pointer (some ⟨f, 0, none⟩)) ∧ w'.cell? ⟨b, 1, none⟩ = some (.int .i64 T.rt.1) ∧ w'.cell? ⟨b, 2, none⟩ = some (.int .i64 T.rt.2) ∧ w'.cell? ⟨b, 3, none⟩ = some (.slice va T.ms.length vc)) := Hid.intro (fun w' k => ⟨(h.below k).c0, (h.below k).c1, (h.below k).c2, by rw [← hv]; exact (h.below k).c3⟩)
  have K0 := Hid.intro (KF.out w (Below.refl _ _))
  clear h hF hb hv c0 c1 c2 c3
  go_enter Tryz.func68, Tryz.ntmps68
  go_upto_region 1 with fail
  go_region_held3 (fun w' => w'.cell? ⟨b, 0, none⟩ = some (.pointer (some ⟨f, 0, none⟩)) ∧ w'.cell? ⟨b, 1, none⟩ = some (.int .i64 T.rt.1) ∧ w'.cell? ⟨b, 2, none⟩ = some (.int .i64 T.rt.2) ∧ w'.cell? ⟨b, 3, none⟩ = some (.slice va T.ms.length vc)) (first | exact K0.out | exact K4.out | exact (K5.out _)) ((go_at_call 115; rw [← HV.out]; refine (mclone_any base T.ms v _ HT.out.1.drew.row HT.out.1.six).mono ?_; rintro e w4 ⟨v', rfl, r4, b4⟩; have b5 : Below w.heap.size w w4 := ⟨b4.os, b4.tape, b4.output, b4.size, b4.block⟩; have K4 := Hid.intro (KF.out w4 b5); have K5 : Hid (∀ o, (w4.alloc o).cell? ⟨b, 0, none⟩ = some (.pointer (some ⟨f, 0, none⟩)) ∧ (w4.alloc o).cell? ⟨b, 1, none⟩ = some (.int .i64 T.rt.1) ∧ (w4.alloc o).cell? ⟨b, 2, none⟩ = some (.int .i64 T.rt.2) ∧ (w4.alloc o).cell? ⟨b, 3, none⟩ = some (.slice va T.ms.length vc)) := Hid.intro (fun o => KF.out _ (b5.alloc b5.size o)); have P4 : Hid (MRow w4 w.heap.size T.ms v' ∧ Below w.heap.size w w4) := Hid.intro ⟨r4, b5⟩; obtain ⟨va', vc', hv'⟩ := r4.sl; have HV' := Hid.intro hv'; subst hv'; clear r4 b4 b5))
  have S5 : Hid (TAt (w4.alloc (.cells #[.pointer (some ⟨f, 0, none⟩), .int .i64 T.rt.1, .int .i64 T.rt.2, .slice va' T.ms.length vc'] 201)) w.heap.size w4.heap.size f T (.slice va' T.ms.length vc') ∧ FAt (w4.alloc (.cells #[.pointer (some ⟨f, 0, none⟩), .int .i64 T.rt.1, .int .i64 T.rt.2, .slice va' T.ms.length vc'] 201)) f F ∧ Below w.heap.size w (w4.alloc (.cells #[.pointer (some ⟨f, 0, none⟩), .int .i64 T.rt.1, .int .i64 T.rt.2, .slice va' T.ms.length vc'] 201)) ∧ w.heap.size ≤ w4.heap.size) := Hid.intro (by
    have b5 := P4.out.2.alloc P4.out.2.size (.cells #[.pointer (some ⟨f, 0, none⟩), .int .i64 T.rt.1, .int .i64 T.rt.2, .slice va' T.ms.length vc'] 201)
    exact ⟨⟨heap_alloc_new w4 _, P4.out.1.below ((Below.refl _ _).alloc (Nat.le_refl _) _), HT.out.1.six⟩, HT.out.2.below b5, b5, P4.out.2.size⟩)
  generalize (w4.alloc (.cells #[.pointer (some ⟨f, 0, none⟩), .int .i64 T.rt.1, .int .i64 T.rt.2, .slice va' T.ms.length vc'] 201)) = W5 at *
  generalize w4.heap.size = c at *
  clear K0 K4 K5 KF P4
  go_wp2_with fail
  refine (hold_any w.heap.size c f K T _ F _ S5.out.1 S5.out.2.1 HB.out hK).mono ?_
  rintro e W6 ⟨rfl, f6, k6⟩
  have FIN : Hid (TAt W6 w.heap.size c f T (.slice va' T.ms.length vc') ∧ FAt W6 f (Mo.hoA F T) ∧ Frm f w W6) := Hid.intro ⟨S5.out.1.ofF S5.out.2.1 k6, f6, (Frm.of_below S5.out.2.2.1).trans k6⟩
  clear f6 k6
  go_wp2_with fail
  go_ret
  exact ⟨c, _, rfl, S5.out.2.2.2, FIN.out⟩
def BF (b f : Nat) : Nat → Prop := fun k => k = b ∨ k = f
set_option maxRecDepth 100000 in
set_option maxHeartbeats 1000000 in
theorem close_any (base b f K : Nat) (T : Tb) (v : Value) (F : Fo) (w : World) (h : TAt w base b f T v) (hF : FAt w f F) (hb : Tr.Hb F K) (hK : K < 800) :
    Calls Tryz.prog 84 #[.pointer (some ⟨b, 0, none⟩)] w fun e w' => e = .returned (.tuple #[]) ∧ FAt w' f (Mo.leA F T) ∧ Onl (BF b f) w w' := by
  have HT := Hid.intro (And.intro h hF)
  have HB := Hid.intro hb
  clear h hF hb
  go_enter Tryz.func84, Tryz.ntmps84
  go_wp2_with fail
  refine (let_any base b f K T v F _ HT.out.1 HT.out.2 HB.out hK).mono ?_
  rintro e W1 ⟨rfl, f1, k1⟩
  have T1 := HT.out.1.ofF HT.out.2 k1
  obtain ⟨va, vc, hv⟩ := T1.row.sl
  have c3 := T1.c3
  rw [hv] at c3
  have cf := T1.frozen
  have FIN : Hid (FAt (W1.setCell ⟨b, 3, none⟩ (.slice none 0 0)) f (Mo.leA F T) ∧ Onl (BF b f) w (W1.setCell ⟨b, 3, none⟩ (.slice none 0 0))) := Hid.intro ⟨f1.same (setBlk _ _ _ _ (Ne.symm (HT.out.1.ne HT.out.2).1)), (Onl.of_frm k1 (.inr rfl)).setCell (.inl rfl) _ _⟩
  clear f1 k1 T1 hv
  go_wp2_with fail
  go_end0
  exact ⟨rfl, FIN.out⟩
end Go.Proofs.YtghogbngmcolmaaGreat
namespace Go.Proofs.YtghogbngmcolmaaGreat
open Go.RowKit
open Tr (Fo Nd)
open Mo (Wh Mt Tb)
theorem TAt.neb {w : World} {base b f : Nat} {T : Tb} {v : Value} (h : TAt w base b f T v) : ∀ g, v.ownBlock = some g → g ≠ b := h.row.ne_of h.blk (by decide)
end Go.Proofs.YtghogbngmcolmaaGreat
namespace Go.Proofs.YtghogbngmcolmaaGreat
open Go.RowKit
open Tr (Fo Nd)
open Mo (Wh Mt Tb)
namespace Mo
def oneI (z : Int) (n : Nat) : Nat := if z = (n : Int) then 1 else 0
theorem oneI_same (n : Nat) : oneI (n : Int) n = 1 := if_pos rfl
theorem oneI_ne {z : Int} {n : Nat} (h : z ≠ (n : Int)) : oneI z n = 0 := if_neg h
theorem oneI_le (z : Int) (n : Nat) : oneI z n ≤ 1 := by unfold oneI; split <;> omega
def mc (L : List Mt) (n : Nat) : Nat := (L.map fun m => oneI m.1.2 n + oneI m.2.2 n).sum
def tc (T : Tb) (n : Nat) : Nat := oneI T.rt.2 n + mc T.ms n
theorem mc_nil (n : Nat) : mc [] n = 0 := rfl
theorem mc_cons (m : Mt) (L : List Mt) (n : Nat) : mc (m :: L) n = oneI m.1.2 n + oneI m.2.2 n + mc L n := by simp [mc]
theorem mc_le (L : List Mt) (n : Nat) : mc L n ≤ 2 * L.length := by
  induction L with
  | nil => simp [mc]
  | cons m L ih =>
    rw [mc_cons, List.length_cons]
    have := oneI_le m.1.2 n
    have := oneI_le m.2.2 n
    omega
structure HI (F : Fo) (f : Nat → Nat) : Prop where
  hd : ∀ n, n < 40 → (F.nd n).held = f n
  lv : ∀ n, n < 40 → 0 < f n → (F.nd n).kind ≠ 0
def isN (z : Int) : Prop := ∃ n : Nat, z = n ∧ n < 40
theorem HI.congr {F : Fo} {f g : Nat → Nat} (h : HI F f) (e : ∀ n, n < 40 → f n = g n) : HI F g := ⟨fun n hn => (h.hd n hn).trans (e n hn), fun n hn h0 => h.lv n hn (by rw [e n hn]; exact h0)⟩
theorem HI.hol {F : Fo} {f : Nat → Nat} (h : HI F f) {z : Int} (hz : Tr.nodeE F z = 0) : HI (Tr.hol F z) (fun n => f n + oneI z n) := by
  obtain ⟨k, rfl, k40, kk⟩ := Tr.nodeE_ok hz
  unfold Tr.hol
  rw [if_pos hz, Int.toNat_natCast]
  refine ⟨fun n hn => ?_, fun n hn h0 => ?_⟩
  · by_cases e : n = k
    · subst e
      rw [Tr.put_same, oneI_same]
      show (F.nd n).held + 1 = _
      rw [h.hd n hn]
    · rw [Tr.put_ne _ _ _ _ e, oneI_ne (by omega)]
      exact h.hd n hn
  · by_cases e : n = k
    · subst e
      rw [Tr.put_same]
      exact kk
    · rw [Tr.put_ne _ _ _ _ e]
      rw [oneI_ne (by omega)] at h0
      exact h.lv n hn h0
theorem swe_held (F : Fo) (k n : Nat) : ((Tr.swe F k).nd n).held = (F.nd n).held := by
  unfold Tr.swe
  split
  · rename_i c
    by_cases e : n = k
    · subst e
      rw [Tr.put_same]
      exact c.2.symm
    · rw [Tr.put_ne _ _ _ _ e]
  · rfl
theorem swe_kind (F : Fo) (k n : Nat) (h : 0 < (F.nd n).held) : ((Tr.swe F k).nd n).kind = (F.nd n).kind := by
  unfold Tr.swe
  split
  · rename_i c
    by_cases e : n = k
    · subst e; omega
    · rw [Tr.put_ne _ _ _ _ e]
  · rfl
theorem HI.letT {F : Fo} {f : Nat → Nat} {z : Int} (h : HI F (fun n => f n + oneI z n)) (hz : isN z) : HI (Tr.letT F z) f := by
  obtain ⟨k, rfl, k40⟩ := hz
  have hk := h.hd k k40
  rw [oneI_same] at hk
  have e0 : Tr.letE F (k : Int) = 0 := by
    unfold Tr.letE
    have : Tr.nodeE F (k : Int) = 0 := by
      unfold Tr.nodeE
      rw [if_neg (by omega), Int.toNat_natCast, if_neg (h.lv k k40 (by rw [oneI_same]; omega))]
    rw [if_pos this, Int.toNat_natCast, if_neg (by omega)]
  unfold Tr.letT
  rw [if_pos e0, Int.toNat_natCast]
  have hd : ∀ n, n < 40 → ((F.put k { F.nd k with held := (F.nd k).held - 1 }).nd n).held = f n := fun n hn => by
    by_cases e : n = k
    · subst e
      rw [Tr.put_same]
      show (F.nd n).held - 1 = f n
      omega
    · rw [Tr.put_ne _ _ _ _ e, h.hd n hn, oneI_ne (by omega)]
      rfl
  refine ⟨fun n hn => by rw [swe_held]; exact hd n hn, fun n hn h0 => ?_⟩
  rw [swe_kind _ _ _ (by rw [hd n hn]; exact h0)]
  by_cases e : n = k
  · subst e
    rw [Tr.put_same]
    exact h.lv n hn (by omega)
  · rw [Tr.put_ne _ _ _ _ e]
    exact h.lv n hn (by omega)
def Rg (T : Tb) : Prop := isN T.rt.2 ∧ ∀ m ∈ T.ms, isN m.1.2 ∧ isN m.2.2
theorem hoM_HI {F : Fo} {f : Nat → Nat} {m : Mt} (h : HI F f) (h1 : Tr.nodeE F m.1.2 = 0) (h2 : Tr.nodeE F m.2.2 = 0) : HI (hoM F m) (fun n => f n + oneI m.1.2 n + oneI m.2.2 n) := by
  have a := h.hol h1
  refine a.hol ?_
  obtain ⟨k, e, k40, kk⟩ := Tr.nodeE_ok h2
  rw [e]
  unfold Tr.nodeE
  rw [if_neg (by omega), Int.toNat_natCast, if_neg]
  unfold Tr.hol
  rw [if_pos h1]
  by_cases c : k = m.1.2.toNat
  · rw [c, Tr.put_same]
    rw [← c]
    exact kk
  · rw [Tr.put_ne _ _ _ _ c]
    exact kk
theorem leM_HI {F : Fo} {f : Nat → Nat} {m : Mt} (h : HI F (fun n => f n + oneI m.1.2 n + oneI m.2.2 n)) (h1 : isN m.1.2) (h2 : isN m.2.2) : HI (leM F m) f :=
  HI.letT (HI.letT (f := fun n => f n + oneI m.2.2 n) (h.congr (fun n _ => by omega)) h1) h2
theorem leA_HI {F : Fo} {f : Nat → Nat} {T : Tb} (h : HI F (fun n => f n + tc T n)) (hr : Rg T) : HI (leA F T) f := by
  have a : HI (Tr.letT F T.rt.2) (fun n => f n + mc T.ms n) := HI.letT (h.congr (fun n _ => by unfold tc; omega)) hr.1
  have b : ∀ (L : List Mt) (G : Fo), HI G (fun n => f n + mc L n) → (∀ m ∈ L, isN m.1.2 ∧ isN m.2.2) → HI (L.foldl leM G) f := fun L => by
    induction L with
    | nil => exact fun G hG _ => hG.congr (fun n _ => by rw [mc_nil]; omega)
    | cons m L ih =>
      intro G hG hm
      refine ih (leM G m) (leM_HI (hG.congr (fun n _ => by rw [mc_cons]; omega)) (hm m (by simp)).1 (hm m (by simp)).2) (fun x hx => hm x (by simp [hx]))
  exact b _ _ a hr.2
theorem hol_nodeE {F : Fo} {z y : Int} (h : Tr.nodeE F y = 0) : Tr.nodeE (Tr.hol F z) y = 0 := by
  obtain ⟨k, rfl, k40, kk⟩ := Tr.nodeE_ok h
  unfold Tr.nodeE
  rw [if_neg (by omega), Int.toNat_natCast, if_neg]
  unfold Tr.hol
  split
  · by_cases c : k = z.toNat
    · rw [c, Tr.put_same]
      rw [← c]
      exact kk
    · rw [Tr.put_ne _ _ _ _ c]
      exact kk
  · exact kk
theorem hoA_HI {F : Fo} {f : Nat → Nat} {T : Tb} (h : HI F f) (hr : Tr.nodeE F T.rt.2 = 0) (hm : ∀ m ∈ T.ms, Tr.nodeE F m.1.2 = 0 ∧ Tr.nodeE F m.2.2 = 0) : HI (hoA F T) (fun n => f n + tc T n) := by
  have b : ∀ (L : List Mt) (G : Fo) (g : Nat → Nat), HI G g → (∀ m ∈ L, Tr.nodeE G m.1.2 = 0 ∧ Tr.nodeE G m.2.2 = 0) → HI (L.foldl hoM G) (fun n => g n + mc L n) := fun L => by
    induction L with
    | nil => exact fun G g hG _ => hG.congr (fun n _ => by rw [mc_nil]; omega)
    | cons m L ih =>
      intro G g hG hm
      refine (ih (hoM G m) _ (hoM_HI hG (hm m (by simp)).1 (hm m (by simp)).2) (fun x hx => ?_)).congr (fun n _ => by rw [mc_cons]; omega)
      exact ⟨hol_nodeE (hol_nodeE (hm x (by simp [hx])).1), hol_nodeE (hol_nodeE (hm x (by simp [hx])).2)⟩
  exact (b T.ms _ _ (h.hol hr) (fun m hx => ⟨hol_nodeE (hm m hx).1, hol_nodeE (hm m hx).2⟩)).congr (fun n _ => by unfold tc; omega)
theorem tc_le (T : Tb) (h6 : T.ms.length ≤ 6) (n : Nat) : tc T n ≤ 13 := by
  have := oneI_le T.rt.2 n
  have := mc_le T.ms n
  unfold tc
  omega
theorem leA_ok {F : Fo} {T : Tb} (h : Tr.Ok F) : Tr.Ok (leA F T) := by
  have : ∀ (L : List Mt) (G : Fo), Tr.Ok G → Tr.Ok (L.foldl leM G) := fun L => by
    induction L with
    | nil => exact fun _ h => h
    | cons m L ih => exact fun G h => ih _ ((h.letT _).letT _)
  exact this _ _ (h.letT _)
end Mo
end Go.Proofs.YtghogbngmcolmaaGreat

/- The code's forest: New, Make. -/
import Derived.Test.YtfgnhldnmbfnkabTf
import Derived.StillTailTactics
import Derived.Outline
namespace Go.Proofs.Ytfgnhldnmbfnkab
open Go.RowKit
open Tr (Fo Nd)

def fA (F : Fo) : Array Value := ((List.range 2485).map (cellF F)).toArray
theorem fA_at (F : Fo) (i : Nat) (h : i < 2485) : (fA F)[i]? = some (cellF F i) := by simp [fA, h]
theorem fz_eq : Try.zeroCells156 = fA Tr.f0 := by kernel_rfl
set_option maxRecDepth 100000 in
set_option maxHeartbeats 1000000 in
theorem tnew_any (w : World) : Calls Try.prog 38 #[] w fun e w' => e = .returned (.pointer (some ⟨w.heap.size, 0, none⟩)) ∧ FAt w' w.heap.size Tr.f0 ∧ Below w.heap.size w w' := by
  have FIN : Hid (FAt (w.alloc (.cells Try.zeroCells156 156)) w.heap.size Tr.f0) := Hid.intro (by
    have h := heap_alloc_new w (.cells Try.zeroCells156 156)
    have h2 : (w.alloc (.cells Try.zeroCells156 156)).heap[w.heap.size]? = some (.cells (fA Tr.f0) 156 (0, 0)) := by rw [← fz_eq]; exact h
    exact ⟨⟨_, h2, by simp [fA]⟩, fun o ho => by rw [cell_blk h2, fA_at _ o ho]⟩)
  go_enter Try.func38, Try.ntmps38
  go_wp2_with fail
  go_ret
  exact ⟨rfl, FIN.out, (Below.refl _ _).alloc (Nat.le_refl _) _⟩
theorem Tr.WanTo.ok {F : Fo} {z : Int} {s : ByteArray} (h : Tr.WanTo F z s 0) : ∃ n : Nat, z = n ∧ n < 40 ∧ (F.nd n).kind = 2 ∧ Tr.nameB s = true ∧ Tr.PlcTo (F.nd n) s (-1) ∧ (F.nd n).size ≠ 8 := by
  rcases h with ⟨h1, h2⟩ | ⟨h1, h2⟩
  · exact absurd h2.symm h1
  · obtain ⟨n, rfl, h3, _, h5⟩ := Tr.isE_ok h1
    rw [Int.toNat_natCast] at h2
    rcases h2 with ⟨_, h6⟩ | ⟨h6, ⟨_, _, h7⟩ | ⟨h7, ⟨_, h8⟩ | ⟨h8, _⟩⟩⟩
    · omega
    · omega
    · omega
    · exact ⟨n, rfl, h3, h5, h6, h7, h8⟩
theorem Tr.nameB_size {s : ByteArray} (h : Tr.nameB s = true) : s.size ≤ 8 := by
  unfold Tr.nameB at h
  simp only [Bool.and_eq_true, decide_eq_true_eq] at h
  exact h.1.1.1.2
/-- A file or a directory is made. -/
def Tr.makF (F : Fo) (n : Nat) (s : ByteArray) (kd k : Nat) : Fo := Tr.leaF (F.put k (newN kd (F.nd n).tree 0)) n s k
def Tr.MakTo (F : Fo) (z : Int) (s : ByteArray) (kz : Int) (K : Nat) (E : Int) (G : Fo) : Prop :=
  (kz ≠ 1 ∧ kz ≠ 2 ∧ K = 0 ∧ E = 1 ∧ G = F) ∨ ((kz = 1 ∨ kz = 2) ∧ ∃ e, Tr.WanTo F z s e ∧ ((e ≠ 0 ∧ K = 0 ∧ E = e ∧ G = F) ∨ (e = 0 ∧ ∃ k e2, Tr.FreeTo F k e2 ∧ ((e2 ≠ 0 ∧ K = 0 ∧ E = e2 ∧ G = F) ∨ (e2 = 0 ∧ K = k ∧ E = 0 ∧ G = Tr.makF F z.toNat s kz.toNat k)))))
theorem build_nd2 (kd tr : Nat) (w : World) : (Instr.build 152 #[(0, .agg #[.int .i64 (kd : Int), .int .i64 1, .int .i64 0, .int .i64 0]), (1, .int .i64 (tr : Int))]).run Try.prog w = .ok (.agg (nodeA (newN kd tr 0))) w := by
  simp [go_sem]
  rfl
theorem still_build_nd2 {ops : Array Oper} {rest : List Oper} {x : Oper} {a : Act} {w : World} {Q : Act → Prop} (hgd : x.guard = none) (y0 y1 : Operand) (kd tr : Nat) (ho : x.op = .build 152 #[(0, y0), (1, y1)]) (h0 : a.eval y0 = .agg #[.int .i64 (kd : Int), .int .i64 1, .int .i64 0, .int .i64 0]) (h1 : a.eval y1 = .int .i64 (tr : Int))
    (h : wpStill Try.prog ops w Q rest (a.put x.dst (.agg (nodeA (newN kd tr 0))))) : wpStill Try.prog ops w Q (x :: rest) a := by
  refine wpStill_step (fun K hK => ?_)
  have hw : Region.wanted x (yielded ops a.tmps) = true := by simp [Region.wanted, hgd]
  rw [if_pos hw]
  have hb := build_nd2 kd tr w
  unfold Oper.still execOp
  simp only [ho, List.map_toArray, List.map_cons, List.map_nil, h0, h1, Sem.run_bind, hb, Result.andThen_ok, Sem.run_pure, Oper.stillUpon_value]
  exact hK _ h
theorem FAt.store {w : World} {b : Nat} {F : Fo} (h : FAt w b F) (n : Nat) (hn : n < 40) (x : Nd) : (storeCells ⟨b, n * 62, none⟩ (nodeA x).toList).run Try.prog w = .ok () (w.setCells b (n * 62) (nodeA x).toList) := by
  have ht := h.there n hn x
  have hl := nodeA_len x
  have hz := nodeA_size x
  have := run_storeCells_cells (P := Try.prog) b (n * 62) (nodeA x).toList 0 w
    (fun j hj => by simpa using (ht j (by omega)).1) (fun j hj => by simpa using (ht j (by omega)).2)
    (fun v hv => (Array.all_eq_true_iff_forall_mem.1 (nodeA_one x)) v (by simpa using hv))
  simp only [Nat.add_zero] at this
  exact this

set_option maxRecDepth 100000 in
set_option maxHeartbeats 2000000 in
theorem tmake_no (b : Nat) (z : Int) (s : ByteArray) (kz : Int) (F : Fo) (w : World) (h : FAt w b F) (k1 : ¬ kz = 1) (k2 : ¬ kz = 2) :
    Calls Try.prog 44 #[.pointer (some ⟨b, 0, none⟩), .int .i64 z, .string s, .int .i64 kz] w fun e w' => ∃ (K : Nat) (E : Int) (G : Fo), e = .returned (.tuple #[.int .i64 (K : Int), errV E]) ∧ Tr.MakTo F z s kz K E G ∧ FAt w' b G ∧ Frm b w w' := by
  have HF := Hid.intro h
  have FIN : Hid (Tr.MakTo F z s kz 0 1 F) := Hid.intro (.inl ⟨k1, k2, rfl, rfl, rfl⟩)
  have d1 : (kz == 1) = false := by simpa using k1
  have d3 : (kz != 1) = true := by simpa using k1
  have d4 : (kz != 2) = true := by simpa using k2
  clear h d1
  go_enter Try.func44, Try.ntmps44
  go_wp2_with fail
  go_ret2
  exact ⟨0, 1, F, rfl, FIN.out, HF.out, Frm.refl _ _⟩

set_option maxRecDepth 100000 in
set_option maxHeartbeats 2000000 in
theorem tmake_1 (b : Nat) (z : Int) (s : ByteArray) (F : Fo) (w : World) (h : FAt w b F) (hs : Tr.SzOk F) :
    Calls Try.prog 44 #[.pointer (some ⟨b, 0, none⟩), .int .i64 z, .string s, .int .i64 1] w fun e w' => ∃ (K : Nat) (E : Int) (G : Fo), e = .returned (.tuple #[.int .i64 (K : Int), errV E]) ∧ Tr.MakTo F z s 1 K E G ∧ FAt w' b G ∧ Frm b w w' := by
  have HF := Hid.intro (And.intro h hs)
  clear h hs
  go_enter Try.func44, Try.ntmps44
  go_wp2_with fail
  refine (twanted_any b z s F _ HF.out.1 HF.out.2).mono ?_
  rintro e w1 ⟨E, rfl, hw1, b1⟩
  have S1 : Hid (Tr.WanTo F z s E ∧ FAt w1 b F ∧ Frm b w w1) := Hid.intro ⟨hw1, HF.out.1.below b1, Frm.of_below b1⟩
  clear hw1 b1
  by_cases e0 : E = 0
  · subst e0
    obtain ⟨n, rfl, n40, k2, hnm, _, hsz⟩ := S1.out.1.ok
    have HN : Hid ((F.nd n).kind = 2 ∧ s.size ≤ 8 ∧ (F.nd n).size < 8) := Hid.intro ⟨k2, Tr.nameB_size hnm, by have := HF.out.2 n n40 k2; omega⟩
    rw [ptrE_ok, errV_zero]
    clear k2 hnm hsz
    go_wp2_with fail
    refine (tfree_any b F _ S1.out.2.1).mono ?_
    rintro e w2 ⟨k, E, rfl, hf, hw2⟩
    subst w2
    have HFR := Hid.intro hf
    by_cases f0 : E = 0
    · subst f0
      obtain ⟨k40, kk0⟩ : k < 40 ∧ (F.nd k).kind = 0 := by
        rcases hf with ⟨_, h1, h2, _⟩ | ⟨h1, _⟩
        · exact ⟨h1, h2⟩
        · omega
      have kI : (k : Int) < 40 := by omega
      have nk : n ≠ k := fun e => by rw [e] at HN; rw [kk0] at HN; exact absurd HN.out.1 (by decide)
      obtain ⟨tr, htr⟩ : ∃ tr, (F.nd n).tree = tr := ⟨_, rfl⟩
      have K0 : w1.cell? ⟨b, n * 62 + 4, none⟩ = some (.int .i64 (tr : Int)) := by rw [← htr]; exact S1.out.2.1.cTree n n40
      have K1 : w1.drew.cell? ⟨b, n * 62 + 4, none⟩ = some (.int .i64 (tr : Int)) := K0
      have S3 : Hid (FAt (w1.drew.setCells b (k * 62) (nodeA (newN 1 tr 0)).toList) b (F.put k (newN 1 tr 0)) ∧ Frm b w (w1.drew.setCells b (k * 62) (nodeA (newN 1 tr 0)).toList)) := Hid.intro ⟨S1.out.2.1.drew.setNode k k40 _, Frm.setCells _ _ S1.out.2.2.drew⟩
      have TH := Hid.intro (S1.out.2.1.drew.there k k40 (newN 1 tr 0))
      have HS := Hid.intro (info_node (newN 1 tr 0))
      have H1 := Hid.intro (nodeA_one (newN 1 tr 0))
      have HMK : Hid (Tr.makF F n s 1 k = Tr.leaF (F.put k (newN 1 tr 0)) n s k) := Hid.intro (by unfold Tr.makF; rw [htr])
      obtain ⟨A, hA⟩ : ∃ A, nodeA (newN 1 tr 0) = A := ⟨_, rfl⟩
      rw [hA] at S3 TH HS H1
      rw [errV_zero]
      clear hf kk0 htr
      go_upto_region 9 with fail
      refine wp_region_still_tail 12 (by kernel_rfl) (by kernel_rfl) ?_
      simp only [List.take_succ_cons, List.take_zero, List.drop_succ_cons, List.drop_zero]
      iterate 8 still_step
      refine still_build_nd2 rfl _ _ 1 tr rfl rfl rfl ?_
      rw [hA]
      iterate 3 still_step
      refine wpStill_nil ?_
      refine wpList_store_mid rfl 152 _ _ rfl b (k * 62) A rfl rfl TH.out HS.out H1.out ?_
      refine wpList_nil ?_
      have S4 := S3
      have TN : Hid ((F.put k (newN 1 tr 0)).nd n = F.nd n) := Hid.intro (Tr.put_ne _ _ _ _ nk)
      clear TH HS H1 hA K0 K1
      go_wp2_with fail
      refine (tlead_any b n k s _ _ S4.out.1 n40 k40 (by rw [TN.out]; exact HN.out.2.2) (Nat.le_trans HN.out.2.1 (by decide))).mono ?_
      rintro e W5 ⟨rfl, h5, f5⟩
      have S5 : Hid (FAt W5 b (Tr.makF F n s 1 k) ∧ Frm b w W5) := Hid.intro ⟨by rw [HMK.out]; exact h5, S4.out.2.trans f5⟩
      clear h5 f5
      go_wp2_with fail
      go_ret2
      exact ⟨k, 0, _, rfl, .inr ⟨by decide, 0, S1.out.1, .inr ⟨rfl, k, 0, HFR.out, .inr ⟨rfl, rfl, rfl, rfl⟩⟩⟩, S5.out⟩
    · have E2 : Hid (errV E = .iface 128 (.int .i64 E) ∧ E ≠ 0) := Hid.intro ⟨errV_ne f0, f0⟩
      rw [E2.out.1]
      clear hf f0
      go_wp2_with fail
      go_ret2
      exact ⟨0, E, F, by rw [E2.out.1]; rfl, .inr ⟨by decide, 0, S1.out.1, .inr ⟨rfl, k, E, HFR.out, .inl ⟨E2.out.2, rfl, rfl, rfl⟩⟩⟩, S1.out.2⟩
  · have E2 : Hid (errV E = .iface 128 (.int .i64 E) ∧ E ≠ 0) := Hid.intro ⟨errV_ne e0, e0⟩
    rw [E2.out.1]
    clear e0
    go_wp2_with fail
    go_ret2
    exact ⟨0, E, F, by rw [E2.out.1]; rfl, .inr ⟨by decide, E, S1.out.1, .inl ⟨E2.out.2, rfl, rfl, rfl⟩⟩, S1.out.2⟩

set_option maxRecDepth 100000 in
set_option maxHeartbeats 2000000 in
theorem tmake_2 (b : Nat) (z : Int) (s : ByteArray) (F : Fo) (w : World) (h : FAt w b F) (hs : Tr.SzOk F) :
    Calls Try.prog 44 #[.pointer (some ⟨b, 0, none⟩), .int .i64 z, .string s, .int .i64 2] w fun e w' => ∃ (K : Nat) (E : Int) (G : Fo), e = .returned (.tuple #[.int .i64 (K : Int), errV E]) ∧ Tr.MakTo F z s 2 K E G ∧ FAt w' b G ∧ Frm b w w' := by
  have HF := Hid.intro (And.intro h hs)
  clear h hs
  go_enter Try.func44, Try.ntmps44
  go_wp2_with fail
  refine (twanted_any b z s F _ HF.out.1 HF.out.2).mono ?_
  rintro e w1 ⟨E, rfl, hw1, b1⟩
  have S1 : Hid (Tr.WanTo F z s E ∧ FAt w1 b F ∧ Frm b w w1) := Hid.intro ⟨hw1, HF.out.1.below b1, Frm.of_below b1⟩
  clear hw1 b1
  by_cases e0 : E = 0
  · subst e0
    obtain ⟨n, rfl, n40, k2, hnm, _, hsz⟩ := S1.out.1.ok
    have HN : Hid ((F.nd n).kind = 2 ∧ s.size ≤ 8 ∧ (F.nd n).size < 8) := Hid.intro ⟨k2, Tr.nameB_size hnm, by have := HF.out.2 n n40 k2; omega⟩
    rw [ptrE_ok, errV_zero]
    clear k2 hnm hsz
    go_wp2_with fail
    refine (tfree_any b F _ S1.out.2.1).mono ?_
    rintro e w2 ⟨k, E, rfl, hf, hw2⟩
    subst w2
    have HFR := Hid.intro hf
    by_cases f0 : E = 0
    · subst f0
      obtain ⟨k40, kk0⟩ : k < 40 ∧ (F.nd k).kind = 0 := by
        rcases hf with ⟨_, h1, h2, _⟩ | ⟨h1, _⟩
        · exact ⟨h1, h2⟩
        · omega
      have kI : (k : Int) < 40 := by omega
      have nk : n ≠ k := fun e => by rw [e] at HN; rw [kk0] at HN; exact absurd HN.out.1 (by decide)
      obtain ⟨tr, htr⟩ : ∃ tr, (F.nd n).tree = tr := ⟨_, rfl⟩
      have K0 : w1.cell? ⟨b, n * 62 + 4, none⟩ = some (.int .i64 (tr : Int)) := by rw [← htr]; exact S1.out.2.1.cTree n n40
      have K1 : w1.drew.cell? ⟨b, n * 62 + 4, none⟩ = some (.int .i64 (tr : Int)) := K0
      have S3 : Hid (FAt (w1.drew.setCells b (k * 62) (nodeA (newN 2 tr 0)).toList) b (F.put k (newN 2 tr 0)) ∧ Frm b w (w1.drew.setCells b (k * 62) (nodeA (newN 2 tr 0)).toList)) := Hid.intro ⟨S1.out.2.1.drew.setNode k k40 _, Frm.setCells _ _ S1.out.2.2.drew⟩
      have TH := Hid.intro (S1.out.2.1.drew.there k k40 (newN 2 tr 0))
      have HS := Hid.intro (info_node (newN 2 tr 0))
      have H1 := Hid.intro (nodeA_one (newN 2 tr 0))
      have HMK : Hid (Tr.makF F n s 2 k = Tr.leaF (F.put k (newN 2 tr 0)) n s k) := Hid.intro (by unfold Tr.makF; rw [htr])
      obtain ⟨A, hA⟩ : ∃ A, nodeA (newN 2 tr 0) = A := ⟨_, rfl⟩
      rw [hA] at S3 TH HS H1
      rw [errV_zero]
      clear hf kk0 htr
      go_upto_region 9 with fail
      refine wp_region_still_tail 12 (by kernel_rfl) (by kernel_rfl) ?_
      simp only [List.take_succ_cons, List.take_zero, List.drop_succ_cons, List.drop_zero]
      iterate 8 still_step
      refine still_build_nd2 rfl _ _ 2 tr rfl rfl rfl ?_
      rw [hA]
      iterate 3 still_step
      refine wpStill_nil ?_
      refine wpList_store_mid rfl 152 _ _ rfl b (k * 62) A rfl rfl TH.out HS.out H1.out ?_
      refine wpList_nil ?_
      have S4 := S3
      have TN : Hid ((F.put k (newN 2 tr 0)).nd n = F.nd n) := Hid.intro (Tr.put_ne _ _ _ _ nk)
      clear TH HS H1 hA K0 K1
      go_wp2_with fail
      refine (tlead_any b n k s _ _ S4.out.1 n40 k40 (by rw [TN.out]; exact HN.out.2.2) (Nat.le_trans HN.out.2.1 (by decide))).mono ?_
      rintro e W5 ⟨rfl, h5, f5⟩
      have S5 : Hid (FAt W5 b (Tr.makF F n s 2 k) ∧ Frm b w W5) := Hid.intro ⟨by rw [HMK.out]; exact h5, S4.out.2.trans f5⟩
      clear h5 f5
      go_wp2_with fail
      go_ret2
      exact ⟨k, 0, _, rfl, .inr ⟨by decide, 0, S1.out.1, .inr ⟨rfl, k, 0, HFR.out, .inr ⟨rfl, rfl, rfl, rfl⟩⟩⟩, S5.out⟩
    · have E2 : Hid (errV E = .iface 128 (.int .i64 E) ∧ E ≠ 0) := Hid.intro ⟨errV_ne f0, f0⟩
      rw [E2.out.1]
      clear hf f0
      go_wp2_with fail
      go_ret2
      exact ⟨0, E, F, by rw [E2.out.1]; rfl, .inr ⟨by decide, 0, S1.out.1, .inr ⟨rfl, k, E, HFR.out, .inl ⟨E2.out.2, rfl, rfl, rfl⟩⟩⟩, S1.out.2⟩
  · have E2 : Hid (errV E = .iface 128 (.int .i64 E) ∧ E ≠ 0) := Hid.intro ⟨errV_ne e0, e0⟩
    rw [E2.out.1]
    clear e0
    go_wp2_with fail
    go_ret2
    exact ⟨0, E, F, by rw [E2.out.1]; rfl, .inr ⟨by decide, E, S1.out.1, .inl ⟨E2.out.2, rfl, rfl, rfl⟩⟩, S1.out.2⟩

theorem tmake_any (b : Nat) (z : Int) (s : ByteArray) (kz : Int) (F : Fo) (w : World) (h : FAt w b F) (hs : Tr.SzOk F) :
    Calls Try.prog 44 #[.pointer (some ⟨b, 0, none⟩), .int .i64 z, .string s, .int .i64 kz] w fun e w' => ∃ (K : Nat) (E : Int) (G : Fo), e = .returned (.tuple #[.int .i64 (K : Int), errV E]) ∧ Tr.MakTo F z s kz K E G ∧ FAt w' b G ∧ Frm b w w' := by
  by_cases k1 : kz = 1
  · subst k1; exact tmake_1 b z s F w h hs
  · by_cases k2 : kz = 2
    · subst k2; exact tmake_2 b z s F w h hs
    · exact tmake_no b z s kz F w h k1 k2
end Go.Proofs.Ytfgnhldnmbfnkab

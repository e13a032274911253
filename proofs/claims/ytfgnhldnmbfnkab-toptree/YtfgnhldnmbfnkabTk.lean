/- The code's forest: Move. -/
import Derived.Test.YtfgnhldnmbfnkabTj
namespace Go.Proofs.Ytfgnhldnmbfnkab
open Go.RowKit
open Tr (Fo Nd)

theorem FAt.range {w : World} {b : Nat} {F : Fo} (h : FAt w b F) (n : Nat) (hn : n < 40) : w.rangeAt b (n * 62) (nodeA (F.nd n)).toList := fun j v hv => by
  have hj : j < 62 := by have := (List.getElem?_eq_some_iff.1 hv).1; rwa [nodeA_len] at this
  rw [Array.getElem?_toList, nodeA_at _ j hj] at hv
  rw [← hv]; exact h.nd n j hn hj
section
variable {ops : Array Oper} {rest : List Oper} {x : Oper} {a : Act} {w : World} {Q : Exit → Act → World → Prop}
theorem wpList_alloc_nd (hgd : x.guard = none) (ho : x.op = .alloc 152) (h : wpList Try.prog ops Q rest (a.put x.dst (.pointer (some ⟨w.heap.size, 0, none⟩))) (w.alloc (.cells (nodeA Nd.no) 152))) : wpList Try.prog ops Q (x :: rest) a w :=
  wpList_plain hgd fun _ hK => by
    unfold Oper.wp execOp
    simp only [ho]
    simp [go_sem]
    exact hK _ _ h
end
theorem nd_there {w : World} {c : Nat} {A : Array Value} {T : TypeId} (x : Nd) (h : w.heap[c]? = some (.cells A T (0, 0))) (hA : A.size = 62) : w.there c 0 (nodeA x).size := fun j hj => by
  rw [nodeA_size] at hj
  exact ⟨by rw [cell_blk h]; simp [hA]; omega, frozen_blk h _⟩
theorem nd_copy {w : World} {c : Nat} {A : Array Value} {T : TypeId} (x : Nd) (h : w.heap[c]? = some (.cells A T (0, 0))) (hA : A.size = 62) : (w.setCells c 0 (nodeA x).toList).rangeAt c 0 (nodeA x).toList := fun j v hv => by
  have hj : j < 62 := by have := (List.getElem?_eq_some_iff.1 hv).1; rwa [nodeA_len] at this
  have := World.cell?_setCells_in c (nodeA x).toList 0 w (fun i hi => by
    rw [nodeA_len] at hi
    rw [cell_blk h]
    simp [hA]; exact hi) j (by rw [nodeA_len]; exact hj)
  rw [this, ← hv, List.getElem?_eq_getElem (by rw [nodeA_len]; exact hj)]
theorem rangeAt_same {w w' : World} {c : Nat} {L : List Value} (h : w.rangeAt c 0 L) (e : w'.heap[c]? = w.heap[c]?) : w'.rangeAt c 0 L := fun j v hv => (World.cell?_of_block e).trans (h j v hv)
theorem Tr.put_self (F : Fo) (n : Nat) : F.put n (F.nd n) = F := by
  unfold Fo.put
  have : (fun m => if m = n then F.nd n else F.nd m) = F.nd := by
    funext m
    by_cases c : m = n
    · rw [if_pos c, c]
    · rw [if_neg c]
  rw [this]
/-- The name of a node is moved. -/
def Tr.movF (F : Fo) (n i t k : Nat) (o : ByteArray) : Fo := Tr.leaF (F.put n (Tr.forN (F.nd n) i)) t o k
def Tr.MovTo (F : Fo) (z : Int) (s : ByteArray) (y : Int) (o : ByteArray) (E : Int) (G : Fo) : Prop :=
  ∃ K e, Tr.FndTo F z s K e ∧ ((e ≠ 0 ∧ E = e ∧ G = F) ∨ (e = 0 ∧ ((Tr.isE F y 2 ≠ 0 ∧ E = Tr.isE F y 2 ∧ G = F) ∨ (Tr.isE F y 2 = 0 ∧ (((F.nd z.toNat).tree ≠ (F.nd y.toNat).tree ∧ E = 11 ∧ G = F) ∨ ((F.nd z.toNat).tree = (F.nd y.toNat).tree ∧
    ((Tr.belB F K 40 y.toNat = true ∧ E = 5 ∧ G = F) ∨ (Tr.belB F K 40 y.toNat = false ∧ ∃ i : Nat, Tr.PlcTo (F.nd z.toNat) s (i : Int) ∧ ∃ e2, Tr.RefTo ((F.put z.toNat (Tr.forN (F.nd z.toNat) i)).nd y.toNat) o e2 ∧ ((e2 ≠ 0 ∧ E = e2 ∧ G = F) ∨ (e2 = 0 ∧ E = 0 ∧ G = Tr.movF F z.toNat i y.toNat K o))))))))))
theorem Tr.RefTo.ok {x : Nd} {s : ByteArray} (h : Tr.RefTo x s 0) : Tr.nameB s = true ∧ x.size ≠ 8 := by
  rcases h with ⟨_, h⟩ | ⟨h1, ⟨_, _, h⟩ | ⟨_, ⟨_, h⟩ | ⟨h2, _⟩⟩⟩
  · omega
  · omega
  · omega
  · exact ⟨h1, h2⟩
set_option maxRecDepth 100000 in
set_option maxHeartbeats 4000000 in
theorem tmove_any (b : Nat) (z : Int) (s : ByteArray) (y : Int) (o : ByteArray) (F : Fo) (w : World) (h : FAt w b F) (hs : Tr.SzOk F) (hK : Tr.KidOk F) (hE : ∀ n, n < 40 → (F.nd n).kind = 2 → Tr.EndsF F 40 n) :
    Calls Try.prog 47 #[.pointer (some ⟨b, 0, none⟩), .int .i64 z, .string s, .int .i64 y, .string o] w fun e w' => ∃ (E : Int) (G : Fo), e = .returned (errV E) ∧ Tr.MovTo F z s y o E G ∧ FAt w' b G ∧ Frm b w w' := by
  have HF := Hid.intro (And.intro h hs)
  have HH := Hid.intro (And.intro hE hK)
  clear h hs hE hK
  go_enter Try.func47, Try.ntmps47
  go_wp2_with fail
  refine (tfind_any b z s F _ HF.out.1 HF.out.2).mono ?_
  rintro e w1 ⟨k, E, rfl, hw1, b1⟩
  have S1 : Hid (Tr.FndTo F z s k E ∧ FAt w1 b F ∧ Frm b w w1) := Hid.intro ⟨hw1, HF.out.1.below b1, Frm.of_below b1⟩
  clear hw1 b1
  by_cases e0 : E = 0
  · subst e0
    obtain ⟨n, i, rfl, n40, k2, hp, hk⟩ := S1.out.1.ok
    have k40 : k < 40 := by rw [hk]; exact (HH.out.2 n n40 k2 i hp.lt).1
    have HN : Hid ((F.nd n).size ≤ 8 ∧ Tr.PlcTo (F.nd n) s (i : Int)) := Hid.intro ⟨HF.out.2 n n40 k2, hp⟩
    have nI : (n : Int) < 40 := by omega
    have kI : (k : Int) < 40 := by omega
    rw [errV_zero]
    clear k2 hp hk
    by_cases c : Tr.isE F y 2 = 0
    · obtain ⟨t, rfl, t40, _, t2⟩ := Tr.isE_ok c
      have EP : Hid (Tr.isE F (t : Int) 2 = 0 ∧ ptrE b (t : Int) 0 = .pointer (some ⟨b, t * 62, none⟩)) := Hid.intro ⟨c, ptrE_ok b t⟩
      have HEN : Hid (Tr.EndsF F 40 t ∧ (F.nd t).size ≤ 8) := Hid.intro ⟨HH.out.1 t t40 t2, HF.out.2 t t40 t2⟩
      clear c t2
      go_wp2_with fail
      refine (tdir_any b t F _ S1.out.2.1).mono ?_
      rintro e w0 ⟨rfl, hw0⟩
      subst w0
      rw [EP.out.1, EP.out.2, errV_zero]
      have c1 := S1.out.2.1.cTree n n40
      have c2 := S1.out.2.1.cTree t t40
      by_cases tt : (F.nd n).tree = (F.nd t).tree
      · have HT := Hid.intro tt
        rw [tt] at c1
        generalize (F.nd t).tree = tr at c1 c2
        clear tt
        go_wp2_with fail
        go_quiet (fail)
        go_upto_region 10 with fail
        refine wp_gen (fun W => FAt W b F ∧ Frm b w W) ⟨S1.out.2.1.drewN _, S1.out.2.2.drewN _⟩ ?_
        intro W2 h2
        have S2 := Hid.intro h2
        clear h2 c1 c2
        go_wp2_with fail
        refine (tbelow_any b t k 40 F _ S2.out.1 HEN.out.1).mono ?_
        rintro e w3 ⟨rfl, hw3⟩
        subst w3
        obtain ⟨bb, hbb⟩ : ∃ bb, Tr.belB F k 40 t = bb := ⟨_, rfl⟩
        have HBB := Hid.intro hbb
        rw [hbb]
        clear hbb
        cases bb
        · have N0 : Hid ((W2.alloc (.cells (nodeA Nd.no) 152)).heap[W2.heap.size]? = some (.cells (nodeA Nd.no) 152 (0, 0))) := Hid.intro (heap_alloc_new W2 _)
          have HR := Hid.intro (S2.out.1.range n n40)
          have TH := Hid.intro (nd_there (F.nd n) N0.out (nodeA_size _))
          have HS := Hid.intro (info_node (F.nd n))
          have H1 := Hid.intro (nodeA_one (F.nd n))
          have hlen : Hid ((Try.prog.info? 152).map (·.size) = some (nodeA (F.nd n)).toList.length) := Hid.intro (by rw [nodeA_len]; kernel_rfl)
          have S3 : Hid ((FAt ((W2.alloc (.cells (nodeA Nd.no) 152)).setCells W2.heap.size 0 (nodeA (F.nd n)).toList) b F ∧ Frm b w ((W2.alloc (.cells (nodeA Nd.no) 152)).setCells W2.heap.size 0 (nodeA (F.nd n)).toList)) ∧ ((W2.alloc (.cells (nodeA Nd.no) 152)).setCells W2.heap.size 0 (nodeA (F.nd n)).toList).rangeAt W2.heap.size 0 (nodeA (F.nd n)).toList ∧ W2.heap.size < ((W2.alloc (.cells (nodeA Nd.no) 152)).setCells W2.heap.size 0 (nodeA (F.nd n)).toList).heap.size ∧ W2.heap.size ≠ b) := Hid.intro (by
            have q : Below W2.heap.size W2 ((W2.alloc (.cells (nodeA Nd.no) 152)).setCells W2.heap.size 0 (nodeA (F.nd n)).toList) := (Frm.setCells _ _ (Frm.refl W2.heap.size _)).below ((Below.refl _ _).alloc (Nat.le_refl _) _) (Nat.le_refl _) (by simp)
            refine ⟨⟨S2.out.1.below q, S2.out.2.trans (Frm.of_below q)⟩, nd_copy _ N0.out (nodeA_size _), ?_, ?_⟩
            · have := (Frm.setCells (b := W2.heap.size) (nodeA (F.nd n)).toList 0 (Frm.refl W2.heap.size (W2.alloc (.cells (nodeA Nd.no) 152)))).size
              have e : (W2.alloc (.cells (nodeA Nd.no) 152)).heap.size = W2.heap.size + 1 := by simp
              omega
            · have := S2.out.1.lt; omega)
          obtain ⟨A, hA⟩ : ∃ A, nodeA (F.nd n) = A := ⟨_, rfl⟩
          have HA := Hid.intro hA
          rw [hA] at HR TH HS H1 S3 hlen
          clear hA
          go_upto_region 13 with (first | (refine wpList_load_mid rfl 152 _ rfl b (n * 62) rfl A.toList _ HR.out Try.underlying152 rfl hlen.out ?_; rw [Array.toArray_toList]) | (refine wpList_alloc_nd rfl rfl ?_) | (refine wpList_store_mid rfl 152 _ _ rfl W2.heap.size 0 A rfl rfl TH.out HS.out H1.out ?_))
          generalize hcc : W2.heap.size = cc at *
          refine wp_gen (fun W => (FAt W b F ∧ Frm b w W) ∧ W.rangeAt cc 0 A.toList ∧ cc < W.heap.size ∧ cc ≠ b) S3.out ?_
          intro W3 h3
          have S4 := Hid.intro h3
          clear h3 S3 N0 HR TH hcc
          go_wp2_with fail
          refine (tforget_any b n i s F _ S4.out.1.1 n40 HN.out.1 HN.out.2).mono ?_
          rintro e w4 ⟨rfl, h4, f4⟩
          obtain ⟨F1, hF1⟩ : ∃ F1, F.put n (Tr.forN (F.nd n) i) = F1 := ⟨_, rfl⟩
          have HF1 := Hid.intro hF1
          rw [hF1] at h4
          have z8 : Hid ((F1.nd t).size ≤ 8) := Hid.intro (by
            rw [← hF1]
            by_cases d : t = n
            · subst d; rw [Tr.put_same]; show (F.nd t).size - 1 ≤ 8; have := HEN.out.2; omega
            · rw [Tr.put_ne _ _ _ _ d]; exact HEN.out.2)
          have S5 : Hid ((FAt w4 b F1 ∧ Frm b w w4) ∧ w4.rangeAt cc 0 A.toList ∧ cc < w4.heap.size) := Hid.intro ⟨⟨h4, S4.out.1.2.trans f4⟩, rangeAt_same S4.out.2.1 (f4.block cc S4.out.2.2.1 S4.out.2.2.2), Nat.lt_of_lt_of_le S4.out.2.2.1 f4.size⟩
          clear h4 f4 hF1
          go_wp2_with fail
          refine (trefuses_any b t o F1 _ S5.out.1.1 t40 z8.out).mono ?_
          rintro e w5 ⟨E, rfl, hr, b5⟩
          have S6 : Hid ((FAt w5 b F1 ∧ Frm b w w5) ∧ w5.rangeAt cc 0 A.toList ∧ Tr.RefTo (F1.nd t) o E) := Hid.intro ⟨⟨S5.out.1.1.below b5, S5.out.1.2.trans (Frm.of_below b5)⟩, rangeAt_same S5.out.2.1 (b5.block cc S5.out.2.2), hr⟩
          clear hr b5
          by_cases f0 : E = 0
          · subst f0
            have HR2 := Hid.intro S6.out.2.2.ok
            have t8 : Hid ((F1.nd t).size < 8) := Hid.intro (by have := HR2.out.2; have := z8.out; omega)
            rw [errV_zero]
            go_wp2_with fail
            refine (tlead_any b t k o F1 _ S6.out.1.1 t40 k40 t8.out (Nat.le_trans (Tr.nameB_size HR2.out.1) (by decide))).mono ?_
            rintro e w6 ⟨rfl, h6, f6⟩
            have S7 : Hid (FAt w6 b (Tr.movF F n i t k o) ∧ Frm b w w6) := Hid.intro ⟨by unfold Tr.movF; rw [HF1.out]; exact h6, S6.out.1.2.trans f6⟩
            clear h6 f6
            go_wp2_with fail
            go_ret
            refine ⟨0, _, rfl, ⟨k, 0, S1.out.1, .inr ⟨rfl, .inr ⟨EP.out.1, .inr ?_⟩⟩⟩, S7.out⟩
            rw [Int.toNat_natCast, Int.toNat_natCast]
            exact ⟨HT.out, .inr ⟨HBB.out, i, HN.out.2, 0, by rw [HF1.out]; exact S6.out.2.2, .inr ⟨rfl, rfl, rfl⟩⟩⟩
          · have E2 : Hid (errV E = .iface 128 (.int .i64 E) ∧ E ≠ 0) := Hid.intro ⟨errV_ne f0, f0⟩
            have TH2 : Hid (w5.there b (n * 62) A.size) := Hid.intro (by rw [← HA.out]; exact S6.out.1.1.there n n40 (F.nd n))
            have S7 : Hid (FAt (w5.setCells b (n * 62) A.toList) b F ∧ Frm b w (w5.setCells b (n * 62) A.toList)) := Hid.intro (by
              have a := S6.out.1.1.setNode n n40 (F.nd n)
              rw [← HF1.out, Tr.put_put, Tr.put_self, HA.out] at a
              exact ⟨a, Frm.setCells _ _ S6.out.1.2⟩)
            rw [E2.out.1]
            clear f0
            go_wp2_with (first | (refine wpList_load_mid rfl 152 _ rfl cc 0 rfl A.toList _ S6.out.2.1 Try.underlying152 rfl hlen.out ?_; rw [Array.toArray_toList]) | (refine wpList_store_mid rfl 152 _ _ rfl b (n * 62) A rfl rfl TH2.out HS.out H1.out ?_))
            go_ret
            refine ⟨E, F, by rw [E2.out.1]; rfl, ⟨k, 0, S1.out.1, .inr ⟨rfl, .inr ⟨EP.out.1, .inr ?_⟩⟩⟩, S7.out⟩
            rw [Int.toNat_natCast, Int.toNat_natCast]
            exact ⟨HT.out, .inr ⟨HBB.out, i, HN.out.2, E, by rw [HF1.out]; exact S6.out.2.2, .inl ⟨E2.out.2, rfl, rfl⟩⟩⟩
        · go_wp2_with fail
          go_ret
          refine ⟨5, F, rfl, ⟨k, 0, S1.out.1, .inr ⟨rfl, .inr ⟨EP.out.1, .inr ?_⟩⟩⟩, S2.out⟩
          rw [Int.toNat_natCast, Int.toNat_natCast]
          exact ⟨HT.out, .inl ⟨HBB.out, rfl, rfl⟩⟩
      · have HT := Hid.intro tt
        generalize (F.nd n).tree = t1 at c1 tt
        generalize (F.nd t).tree = t2 at c2 tt
        have tI : ((t1 : Int) == (t2 : Int)) = false := by simp; omega
        have tI2 : ¬ (t1 : Int) = (t2 : Int) := by omega
        clear tt
        go_wp2_with fail
        go_quiet (fail)
        go_wp2_with fail
        go_ret
        refine ⟨11, F, rfl, ⟨k, 0, S1.out.1, .inr ⟨rfl, .inr ⟨EP.out.1, .inl ?_⟩⟩⟩, S1.out.2.1.drewN _, S1.out.2.2.drewN _⟩
        rw [Int.toNat_natCast, Int.toNat_natCast]
        exact ⟨HT.out, rfl, rfl⟩
    · have E2 : Hid (ptrE b y (Tr.isE F y 2) = .pointer none ∧ errV (Tr.isE F y 2) = .iface 128 (.int .i64 (Tr.isE F y 2)) ∧ Tr.isE F y 2 ≠ 0) := Hid.intro ⟨ptrE_no c, errV_ne c, c⟩
      clear c
      go_wp2_with fail
      refine (tdir_any b y F _ S1.out.2.1).mono ?_
      rintro e w0 ⟨rfl, hw0⟩
      subst w0
      rw [E2.out.1, E2.out.2.1]
      go_wp2_with fail
      go_ret
      exact ⟨_, F, by rw [E2.out.2.1]; rfl, ⟨k, 0, S1.out.1, .inr ⟨rfl, .inl ⟨E2.out.2.2, rfl, rfl⟩⟩⟩, S1.out.2⟩
  · have E2 : Hid (errV E = .iface 128 (.int .i64 E) ∧ E ≠ 0) := Hid.intro ⟨errV_ne e0, e0⟩
    rw [E2.out.1]
    clear e0
    go_wp2_with fail
    go_ret
    exact ⟨E, F, by rw [E2.out.1]; rfl, ⟨k, E, S1.out.1, .inl ⟨E2.out.2, rfl, rfl⟩⟩, S1.out.2⟩
end Go.Proofs.Ytfgnhldnmbfnkab

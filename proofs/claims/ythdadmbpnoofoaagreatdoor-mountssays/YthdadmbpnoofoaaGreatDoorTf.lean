/- The code's forest: a name leads to a node; New, Plant, Make, Link. -/
import Derived.Test.YthdadmbpnoofoaaGreatDoorTa
import Derived.Test.YthdadmbpnoofoaaGreatDoorShs
import Derived.Deep.CutRange
import Derived.Deep.CutBlock
import Derived.StillTailTactics
import Derived.Outline
namespace Go.Proofs.YthdadmbpnoofoaaGreatDoor
open Go.RowKit
open Tr (Fo Nd)

theorem tclone_any (s : ByteArray) (w : World) (hs : s.size ≤ 1000000) : Calls Tryz.prog 99 #[.string s] w fun e w' => e = .returned (.string s) ∧ Below w.heap.size w w' := by
  have HC := Hid.intro (Tryz.stringslite_Clone s w (by omega))
  go_enter Tryz.func99, Tryz.ntmps99
  go_wp2_with fail
  refine HC.out.mono ?_
  rintro e w1 ⟨rfl, b1⟩
  have B1 := Hid.intro b1
  clear b1
  go_wp2_with fail
  go_ret
  exact ⟨rfl, B1.out⟩
/-- One more name of a directory leads to a node. -/
def Tr.adN (x : Nd) (s : ByteArray) (k : Nat) : Nd := { x with nam := upA x.nam x.size s, kid := upA x.kid x.size k, size := x.size + 1 }
def Tr.leaF (F : Fo) (n : Nat) (s : ByteArray) (k : Nat) : Fo :=
  if ((F.put n (Tr.adN (F.nd n) s k)).nd k).kind = 2 then (F.put n (Tr.adN (F.nd n) s k)).put k { (F.put n (Tr.adN (F.nd n) s k)).nd k with up := n } else F.put n (Tr.adN (F.nd n) s k)
theorem FAt.ent {w : World} {b : Nat} {F : Fo} (h : FAt w b F) (n i k : Nat) (s : ByteArray) (hn : n < 40) (hi : i < 8) : FAt ((w.setCell ⟨b, n * 62 + 6 + i * 2, none⟩ (.string s)).setCell ⟨b, n * 62 + 6 + i * 2 + 1, none⟩ (.int .i64 (k : Int))) b (F.put n { F.nd n with nam := upA (F.nd n).nam i s, kid := upA (F.nd n).kid i k }) := by
  have a := (h.setNam n i s hn hi).setKid n i k hn hi
  rw [Tr.put_same] at a
  refine a.congr (fun o _ => ?_)
  unfold cellF
  by_cases c : o < 2480
  · rw [if_pos c, if_pos c]
    by_cases d : o / 62 = n
    · rw [d, Tr.put_same, Tr.put_same]
    · rw [Tr.put_ne _ _ _ _ d, Tr.put_ne _ _ _ _ d, Tr.put_ne _ _ _ _ d]
  · rw [if_neg c, if_neg c]; rfl
theorem Tr.put_put (F : Fo) (n : Nat) (x y : Nd) : (F.put n x).put n y = F.put n y := by
  unfold Fo.put
  congr 1
  funext m
  by_cases c : m = n
  · rw [if_pos c, if_pos c]
  · rw [if_neg c, if_neg c]; exact if_neg c
set_option maxRecDepth 100000 in
set_option maxHeartbeats 2000000 in
theorem tlead_any (b n k : Nat) (s : ByteArray) (F : Fo) (w : World) (h : FAt w b F) (hn : n < 40) (hk : k < 40) (hz : (F.nd n).size < 8) (hs : s.size ≤ 1000000) :
    Calls Tryz.prog 73 #[.pointer (some ⟨b, 0, none⟩), .int .i64 (n : Int), .string s, .int .i64 (k : Int)] w fun e w' => e = .returned (.tuple #[]) ∧ FAt w' b (Tr.leaF F n s k) ∧ Frm b w w' := by
  have HF := Hid.intro h
  have nI : (n : Int) < 40 := by omega
  have kI : (k : Int) < 40 := by omega
  obtain ⟨sz, hsz⟩ : ∃ sz, (F.nd n).size = sz := ⟨_, rfl⟩
  have HSZ := Hid.intro hsz
  rw [hsz] at hz
  have szI : (sz : Int) < 8 := by omega
  have hw : IntKind.i64.wrap ((sz : Int) + 1) = (sz : Int) + 1 := IntWalk.i64_in _ ⟨by omega, by omega⟩
  clear h hsz
  go_enter Tryz.func73, Tryz.ntmps73
  go_wp2_with fail
  go_quiet (fail)
  generalize hW : World.drewN w _ = W1
  have S1 : Hid (FAt W1 b F ∧ Frm b w W1) := Hid.intro (by rw [← hW]; exact ⟨HF.out.drewN _, (Frm.refl b w).drewN _⟩)
  clear hW
  have K0 : Hid (W1.cell? ⟨b, n * 62 + 3, none⟩ = some (.int .i64 (sz : Int))) := Hid.intro (by rw [← HSZ.out]; exact S1.out.1.cSize n hn)
  have KS : Hid (∀ W, FAt W b F → ((W.setCell ⟨b, n * 62 + 6 + sz * 2, none⟩ (.string s)).setCell ⟨b, n * 62 + 6 + sz * 2 + 1, none⟩ (.int .i64 (k : Int))).cell? ⟨b, n * 62 + 3, none⟩ = some (.int .i64 (sz : Int))) := Hid.intro (fun W hW => by
    have := (hW.ent n sz k s hn hz).cSize n hn
    rw [Tr.put_same] at this
    rw [this, ← HSZ.out])
  have c0 : ∀ W, FAt W b F → (∃ v, W.cell? ⟨b, n * 62 + 6 + sz * 2, none⟩ = some (.string v)) ∧ (∃ v : Nat, W.cell? ⟨b, n * 62 + 6 + sz * 2 + 1, none⟩ = some (.int .i64 (v : Int))) := fun W hW => ⟨⟨_, hW.cNam n sz hn hz⟩, ⟨_, hW.cKid n sz hn hz⟩⟩
  have HC0 := Hid.intro c0
  clear c0
  go_wp2_with fail
  go_region_held3 (fun w' => w'.cell? ⟨b, n * 62 + 3, none⟩ = some (.int .i64 (sz : Int))) (first | exact K0.out | exact K2.out | exact KS.out _ H2.out.1 | go_keep) ((go_at_call 99; refine (tclone_any s _ hs).mono ?_; rintro e w2 ⟨rfl, b2⟩; have H2 : Hid (FAt w2 b F ∧ Frm b w w2) := Hid.intro ⟨S1.out.1.drew.below b2, S1.out.2.drew.trans (Frm.of_below b2)⟩; have K2 : Hid (w2.cell? ⟨b, n * 62 + 3, none⟩ = some (.int .i64 (sz : Int))) := Hid.intro (by rw [← HSZ.out]; exact H2.out.1.cSize n hn); obtain ⟨⟨v1, q1⟩, ⟨v2, q2⟩⟩ := HC0.out w2 H2.out.1; have qf := H2.out.1.frozen; clear b2))
  generalize hW3 : (w2.setCell ⟨b, n * 62 + 6 + sz * 2, none⟩ (.string s)).setCell ⟨b, n * 62 + 6 + sz * 2 + 1, none⟩ (.int .i64 (k : Int)) = W3
  have S3 : Hid (FAt W3 b (F.put n { F.nd n with nam := upA (F.nd n).nam sz s, kid := upA (F.nd n).kid sz k }) ∧ Frm b w W3) := Hid.intro (by
    rw [← hW3]
    exact ⟨H2.out.1.ent n sz k s hn hz, (H2.out.2.setCell _ _).setCell _ _⟩)
  clear hW3 K0 K2 KS HC0 q1 q2 qf H2 S1
  have c3 : W3.cell? ⟨b, n * 62 + 3, none⟩ = some (.int .i64 (sz : Int)) := by
    have := S3.out.1.cSize n hn
    rw [Tr.put_same] at this
    rw [this, ← HSZ.out]
  have cf3 := S3.out.1.frozen
  have S4 : Hid (FAt (W3.setCell ⟨b, n * 62 + 3, none⟩ (.int .i64 ((sz : Int) + 1))) b (F.put n (Tr.adN (F.nd n) s k)) ∧ Frm b w (W3.setCell ⟨b, n * 62 + 3, none⟩ (.int .i64 ((sz : Int) + 1)))) := Hid.intro (by
    have a := S3.out.1.setSize n (sz + 1) hn
    rw [Tr.put_same, Tr.put_put] at a
    have e : Tr.adN (F.nd n) s k = { F.nd n with nam := upA (F.nd n).nam sz s, kid := upA (F.nd n).kid sz k, size := sz + 1 } := by unfold Tr.adN; rw [HSZ.out]
    rw [e]
    exact ⟨a, S3.out.2.setCell _ _⟩)
  go_upto_region 3 with fail
  refine wp_gen (fun W => FAt W b (F.put n (Tr.adN (F.nd n) s k)) ∧ Frm b w W) S4.out ?_
  intro W4 h4
  have S5 := Hid.intro h4
  clear h4 S4 S3 c3 cf3
  obtain ⟨F2, hF2⟩ : ∃ F2, F.put n (Tr.adN (F.nd n) s k) = F2 := ⟨_, rfl⟩
  have HL : Hid (Tr.leaF F n s k = if (F2.nd k).kind = 2 then F2.put k { F2.nd k with up := n } else F2) := Hid.intro (by unfold Tr.leaF; rw [hF2])
  rw [hF2] at S5
  clear hF2
  have c5 := S5.out.1.cKind k hk
  have cu := S5.out.1.cUp k hk
  have cf := S5.out.1.frozen
  by_cases k2 : (F2.nd k).kind = 2
  · have FIN : Hid (FAt (W4.setCell ⟨b, k * 62 + 5, none⟩ (.int .i64 (n : Int))) b (Tr.leaF F n s k) ∧ Frm b w (W4.setCell ⟨b, k * 62 + 5, none⟩ (.int .i64 (n : Int)))) := Hid.intro (by
      rw [HL.out, if_pos k2]
      exact ⟨S5.out.1.setUp k n hk, S5.out.2.setCell _ _⟩)
    rw [k2] at c5
    have c5' : W4.cell? ⟨b, k * 62, none⟩ = some (.int .i64 2) := c5
    generalize (F2.nd k).up = uu at *
    clear c5 k2
    go_wp2_with fail
    go_end0
    exact ⟨rfl, FIN.out⟩
  · have FIN : Hid (FAt W4 b (Tr.leaF F n s k)) := Hid.intro (by rw [HL.out, if_neg k2]; exact S5.out.1)
    have k2' : (((F2.nd k).kind : Int) == 2) = false := by simp; omega
    generalize (F2.nd k).kind = kk at *
    clear k2 cu
    go_wp2_with fail
    go_end0
    exact ⟨rfl, FIN.out, S5.out.2⟩
section
variable {ops : Array Oper} {rest : List Oper} {x : Oper} {a : Act} {w : World} {Q : Exit → Act → World → Prop}
/-- A new node, by value. -/
def newN (kd tr up : Nat) : Nd := { Nd.no with kind := kd, links := 1, tree := tr, up := up }
theorem wpList_build_nd3 (hgd : x.guard = none) (y0 y1 y2 : Operand) (kd tr up : Nat) (ho : x.op = .build 75 #[(0, y0), (1, y1), (2, y2)]) (h0 : a.eval y0 = .agg #[.int .i64 (kd : Int), .int .i64 1, .int .i64 0, .int .i64 0]) (h1 : a.eval y1 = .int .i64 (tr : Int)) (h2 : a.eval y2 = .int .i64 (up : Int)) (h : wpList Tryz.prog ops Q rest (a.put x.dst (.agg (nodeA (newN kd tr up)))) w) : wpList Tryz.prog ops Q (x :: rest) a w :=
  wpList_plain hgd fun _ hK => by
    unfold Oper.wp execOp
    simp only [ho, List.map_toArray, List.map_cons, List.map_nil, h0, h1, h2]
    simp [go_sem]
    exact hK _ _ h
end
/-- A tree is planted. -/
def Tr.plaF (F : Fo) (n : Nat) : Fo := { F.put n (newN 2 F.trees n) with root := upA F.root F.trees n, trees := F.trees + 1 }
def Tr.PlaTo (F : Fo) (T : Nat) (E : Int) (G : Fo) : Prop := (F.trees = 4 ∧ T = 0 ∧ E = 4 ∧ G = F) ∨ (F.trees ≠ 4 ∧ ∃ n e, Tr.FreeTo F n e ∧ ((e ≠ 0 ∧ T = 0 ∧ E = e ∧ G = F) ∨ (e = 0 ∧ T = F.trees ∧ E = 0 ∧ G = Tr.plaF F n)))
set_option maxRecDepth 100000 in
set_option maxHeartbeats 2000000 in
theorem tplant_any (b : Nat) (F : Fo) (w : World) (h : FAt w b F) (ht : F.trees ≤ 4) :
    Calls Tryz.prog 10 #[.pointer (some ⟨b, 0, none⟩)] w fun e w' => ∃ (T : Nat) (E : Int) (G : Fo), e = .returned (.tuple #[.int .i64 (T : Int), errV E]) ∧ Tr.PlaTo F T E G ∧ FAt w' b G ∧ Frm b w w' := by
  have HF := Hid.intro h
  have c0 := h.cTrees
  by_cases t4 : F.trees = 4
  · have FIN : Hid (Tr.PlaTo F 0 4 F) := Hid.intro (.inl ⟨t4, rfl, rfl, rfl⟩)
    rw [t4] at c0
    have c0' : w.cell? ⟨b, 2484, none⟩ = some (.int .i64 4) := c0
    clear h t4 c0 ht
    go_enter Tryz.func10, Tryz.ntmps10
    go_wp2_with fail
    go_ret2
    exact ⟨0, 4, F, rfl, FIN.out, HF.out, Frm.refl _ _⟩
  · have HT4 := Hid.intro t4
    obtain ⟨tt, htt⟩ : ∃ tt, F.trees = tt := ⟨_, rfl⟩
    have HTT := Hid.intro htt
    rw [htt] at c0
    have tI : (tt : Int) < 4 := by omega
    have t4' : ((tt : Int) == 4) = false := by simp; omega
    have hw : IntKind.i64.wrap ((tt : Int) + 1) = (tt : Int) + 1 := IntWalk.i64_in _ ⟨by omega, by omega⟩
    have tN : tt < 4 := by omega
    clear h t4 htt ht
    go_enter Tryz.func10, Tryz.ntmps10
    go_wp2_with fail
    refine (tfree_any b F _ HF.out).mono ?_
    rintro e w1 ⟨n, E, rfl, hf, hw1⟩
    subst w1
    have HFR := Hid.intro hf
    by_cases e0 : E = 0
    · subst e0
      have n40 : n < 40 := by
        rcases hf with ⟨_, h1, _⟩ | ⟨h1, _⟩
        · exact h1
        · omega
      have nI : (n : Int) < 40 := by omega
      have TH := Hid.intro (HF.out.there n n40 (newN 2 tt n))
      have HS := Hid.intro (info_node (newN 2 tt n))
      have H1 := Hid.intro (nodeA_one (newN 2 tt n))
      have S1 : Hid (FAt (w.setCells b (n * 62) (nodeA (newN 2 tt n)).toList) b (F.put n (newN 2 tt n)) ∧ Frm b w (w.setCells b (n * 62) (nodeA (newN 2 tt n)).toList)) := Hid.intro ⟨HF.out.setNode n n40 _, Frm.setCells _ _ (Frm.refl b w)⟩
      obtain ⟨A, hA⟩ : ∃ A, nodeA (newN 2 tt n) = A := ⟨_, rfl⟩
      rw [hA] at TH HS H1 S1
      rw [errV_zero]
      clear hf
      go_upto_region 8 with (first | (refine wpList_build_nd3 rfl _ _ _ 2 tt n rfl rfl rfl rfl ?_; rw [hA]) | (refine wpList_store_mid rfl 75 _ _ rfl b (n * 62) A rfl rfl TH.out HS.out H1.out ?_))
      refine wp_gen (fun W => FAt W b (F.put n (newN 2 tt n)) ∧ Frm b w W) S1.out ?_
      intro W2 h2
      have S2 := Hid.intro h2
      have c2 := h2.1.cTrees
      have c3 := h2.1.cRoot tt tN
      have cf := h2.1.frozen
      rw [show (F.put n (newN 2 tt n)).trees = tt from HTT.out] at c2
      generalize (F.put n (newN 2 tt n)).root tt = rr at *
      have S3 : Hid (FAt ((W2.setCell ⟨b, 2480 + tt, none⟩ (.int .i64 (n : Int))).setCell ⟨b, 2484, none⟩ (.int .i64 ((tt : Int) + 1))) b (Tr.plaF F n) ∧ Frm b w ((W2.setCell ⟨b, 2480 + tt, none⟩ (.int .i64 (n : Int))).setCell ⟨b, 2484, none⟩ (.int .i64 ((tt : Int) + 1)))) := Hid.intro (by
        have a := (h2.1.setRoot tt n tN).setTrees (tt + 1)
        refine ⟨?_, (h2.2.setCell _ _).setCell _ _⟩
        unfold Tr.plaF
        rw [HTT.out]
        exact a)
      clear h2 S1 TH HS H1 hA c0
      go_wp2_with fail
      go_ret2
      exact ⟨tt, 0, _, rfl, .inr ⟨HT4.out, n, 0, HFR.out, .inr ⟨rfl, HTT.out.symm, rfl, rfl⟩⟩, S3.out⟩
    · have E2 : Hid (errV E = .iface 83 (.int .i64 E) ∧ E ≠ 0) := Hid.intro ⟨errV_ne e0, e0⟩
      rw [E2.out.1]
      clear hf e0
      go_wp2_with fail
      go_ret2
      exact ⟨0, E, F, by rw [E2.out.1]; rfl, .inr ⟨HT4.out, n, E, HFR.out, .inl ⟨E2.out.2, rfl, rfl, rfl⟩⟩, HF.out, Frm.refl _ _⟩
end Go.Proofs.YthdadmbpnoofoaaGreatDoor
/- The code's forest: New, Make. -/
namespace Go.Proofs.YthdadmbpnoofoaaGreatDoor
open Go.RowKit
open Tr (Fo Nd)

def fA (F : Fo) : Array Value := ((List.range 2485).map (cellF F)).toArray
theorem fA_at (F : Fo) (i : Nat) (h : i < 2485) : (fA F)[i]? = some (cellF F i) := by simp [fA, h]
theorem fz_eq : Tryz.zeroCells79 = fA Tr.f0 := by kernel_rfl
set_option maxRecDepth 100000 in
set_option maxHeartbeats 1000000 in
theorem tnew_any (w : World) : Calls Tryz.prog 7 #[] w fun e w' => e = .returned (.pointer (some ⟨w.heap.size, 0, none⟩)) ∧ FAt w' w.heap.size Tr.f0 ∧ Below w.heap.size w w' := by
  have FIN : Hid (FAt (w.alloc (.cells Tryz.zeroCells79 79)) w.heap.size Tr.f0) := Hid.intro (by
    have h := heap_alloc_new w (.cells Tryz.zeroCells79 79)
    have h2 : (w.alloc (.cells Tryz.zeroCells79 79)).heap[w.heap.size]? = some (.cells (fA Tr.f0) 79 (0, 0)) := by rw [← fz_eq]; exact h
    exact ⟨⟨_, h2, by simp [fA]⟩, fun o ho => by rw [cell_blk h2, fA_at _ o ho]⟩)
  go_enter Tryz.func7, Tryz.ntmps7
  go_wp2_with fail
  go_ret
  exact ⟨rfl, FIN.out, (Below.refl _ _).alloc (Nat.le_refl _) _⟩
theorem Tr.WanTo.ok {F : Fo} {z : Int} {s : ByteArray} (h : Tr.WanTo F z s 0) : ∃ n : Nat, z = n ∧ n < 40 ∧ (F.nd n).kind = 2 ∧ Tr.nameB s = true ∧ Tr.PlcTo (F.nd n) s (-1) ∧ (F.nd n).size ≠ 8 := by
  rcases h with ⟨h1, h2⟩ | ⟨h1, h2⟩
  · exact absurd h2.symm h1
  · obtain ⟨n, rfl, h3, _, h5⟩ := Tr.isE_ok h1
    rw [Int.toNat_natCast] at h2
    rcases h2 with ⟨_, h6⟩ | ⟨h6, ⟨_, _, h7⟩ | ⟨h7, ⟨_, h8⟩ | ⟨h8, _⟩⟩⟩
    · omega
    · omega
    · omega
    · exact ⟨n, rfl, h3, h5, h6, h7, h8⟩
theorem Tr.nameB_size {s : ByteArray} (h : Tr.nameB s = true) : s.size ≤ 8 := by
  unfold Tr.nameB at h
  simp only [Bool.and_eq_true, decide_eq_true_eq] at h
  exact h.1.1.1.2
/-- A file or a directory is made. -/
def Tr.makF (F : Fo) (n : Nat) (s : ByteArray) (kd k : Nat) : Fo := Tr.leaF (F.put k (newN kd (F.nd n).tree 0)) n s k
def Tr.MakTo (F : Fo) (z : Int) (s : ByteArray) (kz : Int) (K : Nat) (E : Int) (G : Fo) : Prop :=
  (kz ≠ 1 ∧ kz ≠ 2 ∧ K = 0 ∧ E = 1 ∧ G = F) ∨ ((kz = 1 ∨ kz = 2) ∧ ∃ e, Tr.WanTo F z s e ∧ ((e ≠ 0 ∧ K = 0 ∧ E = e ∧ G = F) ∨ (e = 0 ∧ ∃ k e2, Tr.FreeTo F k e2 ∧ ((e2 ≠ 0 ∧ K = 0 ∧ E = e2 ∧ G = F) ∨ (e2 = 0 ∧ K = k ∧ E = 0 ∧ G = Tr.makF F z.toNat s kz.toNat k)))))
theorem build_nd2 (kd tr : Nat) (w : World) : (Instr.build 75 #[(0, .agg #[.int .i64 (kd : Int), .int .i64 1, .int .i64 0, .int .i64 0]), (1, .int .i64 (tr : Int))]).run Tryz.prog w = .ok (.agg (nodeA (newN kd tr 0))) w := by
  simp [go_sem]
  rfl
theorem still_build_nd2 {ops : Array Oper} {rest : List Oper} {x : Oper} {a : Act} {w : World} {Q : Act → Prop} (hgd : x.guard = none) (y0 y1 : Operand) (kd tr : Nat) (ho : x.op = .build 75 #[(0, y0), (1, y1)]) (h0 : a.eval y0 = .agg #[.int .i64 (kd : Int), .int .i64 1, .int .i64 0, .int .i64 0]) (h1 : a.eval y1 = .int .i64 (tr : Int))
    (h : wpStill Tryz.prog ops w Q rest (a.put x.dst (.agg (nodeA (newN kd tr 0))))) : wpStill Tryz.prog ops w Q (x :: rest) a := by
  refine wpStill_step (fun K hK => ?_)
  have hw : Region.wanted x (yielded ops a.tmps) = true := by simp [Region.wanted, hgd]
  rw [if_pos hw]
  have hb := build_nd2 kd tr w
  unfold Oper.still execOp
  simp only [ho, List.map_toArray, List.map_cons, List.map_nil, h0, h1, Sem.run_bind, hb, Result.andThen_ok, Sem.run_pure, Oper.stillUpon_value]
  exact hK _ h
theorem FAt.store {w : World} {b : Nat} {F : Fo} (h : FAt w b F) (n : Nat) (hn : n < 40) (x : Nd) : (storeCells ⟨b, n * 62, none⟩ (nodeA x).toList).run Tryz.prog w = .ok () (w.setCells b (n * 62) (nodeA x).toList) := by
  have ht := h.there n hn x
  have hl := nodeA_len x
  have hz := nodeA_size x
  have := run_storeCells_cells (P := Tryz.prog) b (n * 62) (nodeA x).toList 0 w
    (fun j hj => by simpa using (ht j (by omega)).1) (fun j hj => by simpa using (ht j (by omega)).2)
    (fun v hv => (Array.all_eq_true_iff_forall_mem.1 (nodeA_one x)) v (by simpa using hv))
  simp only [Nat.add_zero] at this
  exact this

set_option maxRecDepth 100000 in
set_option maxHeartbeats 2000000 in
theorem tmake_no (b : Nat) (z : Int) (s : ByteArray) (kz : Int) (F : Fo) (w : World) (h : FAt w b F) (k1 : ¬ kz = 1) (k2 : ¬ kz = 2) :
    Calls Tryz.prog 22 #[.pointer (some ⟨b, 0, none⟩), .int .i64 z, .string s, .int .i64 kz] w fun e w' => ∃ (K : Nat) (E : Int) (G : Fo), e = .returned (.tuple #[.int .i64 (K : Int), errV E]) ∧ Tr.MakTo F z s kz K E G ∧ FAt w' b G ∧ Frm b w w' := by
  have HF := Hid.intro h
  have FIN : Hid (Tr.MakTo F z s kz 0 1 F) := Hid.intro (.inl ⟨k1, k2, rfl, rfl, rfl⟩)
  have d1 : (kz == 1) = false := by simpa using k1
  have d3 : (kz != 1) = true := by simpa using k1
  have d4 : (kz != 2) = true := by simpa using k2
  clear h d1
  go_enter Tryz.func22, Tryz.ntmps22
  go_wp2_with fail
  go_ret2
  exact ⟨0, 1, F, rfl, FIN.out, HF.out, Frm.refl _ _⟩

set_option maxRecDepth 100000 in
set_option maxHeartbeats 2000000 in
theorem tmake_1 (b : Nat) (z : Int) (s : ByteArray) (F : Fo) (w : World) (h : FAt w b F) (hs : Tr.SzOk F) :
    Calls Tryz.prog 22 #[.pointer (some ⟨b, 0, none⟩), .int .i64 z, .string s, .int .i64 1] w fun e w' => ∃ (K : Nat) (E : Int) (G : Fo), e = .returned (.tuple #[.int .i64 (K : Int), errV E]) ∧ Tr.MakTo F z s 1 K E G ∧ FAt w' b G ∧ Frm b w w' := by
  have HF := Hid.intro (And.intro h hs)
  clear h hs
  go_enter Tryz.func22, Tryz.ntmps22
  go_wp2_with fail
  refine (twanted_any b z s F _ HF.out.1 HF.out.2).mono ?_
  rintro e w1 ⟨E, rfl, hw1, b1⟩
  have S1 : Hid (Tr.WanTo F z s E ∧ FAt w1 b F ∧ Frm b w w1) := Hid.intro ⟨hw1, HF.out.1.below b1, Frm.of_below b1⟩
  clear hw1 b1
  by_cases e0 : E = 0
  · subst e0
    obtain ⟨n, rfl, n40, k2, hnm, _, hsz⟩ := S1.out.1.ok
    have HN : Hid ((F.nd n).kind = 2 ∧ s.size ≤ 8 ∧ (F.nd n).size < 8) := Hid.intro ⟨k2, Tr.nameB_size hnm, by have := HF.out.2 n n40 k2; omega⟩
    rw [ptrE_ok, errV_zero]
    clear k2 hnm hsz
    go_wp2_with fail
    refine (tfree_any b F _ S1.out.2.1).mono ?_
    rintro e w2 ⟨k, E, rfl, hf, hw2⟩
    subst w2
    have HFR := Hid.intro hf
    by_cases f0 : E = 0
    · subst f0
      obtain ⟨k40, kk0⟩ : k < 40 ∧ (F.nd k).kind = 0 := by
        rcases hf with ⟨_, h1, h2, _⟩ | ⟨h1, _⟩
        · exact ⟨h1, h2⟩
        · omega
      have kI : (k : Int) < 40 := by omega
      have nk : n ≠ k := fun e => by rw [e] at HN; rw [kk0] at HN; exact absurd HN.out.1 (by decide)
      obtain ⟨tr, htr⟩ : ∃ tr, (F.nd n).tree = tr := ⟨_, rfl⟩
      have K0 : w1.cell? ⟨b, n * 62 + 4, none⟩ = some (.int .i64 (tr : Int)) := by rw [← htr]; exact S1.out.2.1.cTree n n40
      have K1 : w1.drew.cell? ⟨b, n * 62 + 4, none⟩ = some (.int .i64 (tr : Int)) := K0
      have S3 : Hid (FAt (w1.drew.setCells b (k * 62) (nodeA (newN 1 tr 0)).toList) b (F.put k (newN 1 tr 0)) ∧ Frm b w (w1.drew.setCells b (k * 62) (nodeA (newN 1 tr 0)).toList)) := Hid.intro ⟨S1.out.2.1.drew.setNode k k40 _, Frm.setCells _ _ S1.out.2.2.drew⟩
      have TH := Hid.intro (S1.out.2.1.drew.there k k40 (newN 1 tr 0))
      have HS := Hid.intro (info_node (newN 1 tr 0))
      have H1 := Hid.intro (nodeA_one (newN 1 tr 0))
      have HMK : Hid (Tr.makF F n s 1 k = Tr.leaF (F.put k (newN 1 tr 0)) n s k) := Hid.intro (by unfold Tr.makF; rw [htr])
      obtain ⟨A, hA⟩ : ∃ A, nodeA (newN 1 tr 0) = A := ⟨_, rfl⟩
      rw [hA] at S3 TH HS H1
      rw [errV_zero]
      clear hf kk0 htr
      go_upto_region 9 with fail
      refine wp_region_still_tail 12 (by kernel_rfl) (by kernel_rfl) ?_
      simp only [List.take_succ_cons, List.take_zero, List.drop_succ_cons, List.drop_zero]
      iterate 8 still_step
      refine still_build_nd2 rfl _ _ 1 tr rfl rfl rfl ?_
      rw [hA]
      iterate 3 still_step
      refine wpStill_nil ?_
      refine wpList_store_mid rfl 75 _ _ rfl b (k * 62) A rfl rfl TH.out HS.out H1.out ?_
      refine wpList_nil ?_
      have S4 := S3
      have TN : Hid ((F.put k (newN 1 tr 0)).nd n = F.nd n) := Hid.intro (Tr.put_ne _ _ _ _ nk)
      clear TH HS H1 hA K0 K1
      go_wp2_with fail
      refine (tlead_any b n k s _ _ S4.out.1 n40 k40 (by rw [TN.out]; exact HN.out.2.2) (Nat.le_trans HN.out.2.1 (by decide))).mono ?_
      rintro e W5 ⟨rfl, h5, f5⟩
      have S5 : Hid (FAt W5 b (Tr.makF F n s 1 k) ∧ Frm b w W5) := Hid.intro ⟨by rw [HMK.out]; exact h5, S4.out.2.trans f5⟩
      clear h5 f5
      go_wp2_with fail
      go_ret2
      exact ⟨k, 0, _, rfl, .inr ⟨by decide, 0, S1.out.1, .inr ⟨rfl, k, 0, HFR.out, .inr ⟨rfl, rfl, rfl, rfl⟩⟩⟩, S5.out⟩
    · have E2 : Hid (errV E = .iface 83 (.int .i64 E) ∧ E ≠ 0) := Hid.intro ⟨errV_ne f0, f0⟩
      rw [E2.out.1]
      clear hf f0
      go_wp2_with fail
      go_ret2
      exact ⟨0, E, F, by rw [E2.out.1]; rfl, .inr ⟨by decide, 0, S1.out.1, .inr ⟨rfl, k, E, HFR.out, .inl ⟨E2.out.2, rfl, rfl, rfl⟩⟩⟩, S1.out.2⟩
  · have E2 : Hid (errV E = .iface 83 (.int .i64 E) ∧ E ≠ 0) := Hid.intro ⟨errV_ne e0, e0⟩
    rw [E2.out.1]
    clear e0
    go_wp2_with fail
    go_ret2
    exact ⟨0, E, F, by rw [E2.out.1]; rfl, .inr ⟨by decide, E, S1.out.1, .inl ⟨E2.out.2, rfl, rfl, rfl⟩⟩, S1.out.2⟩

set_option maxRecDepth 100000 in
set_option maxHeartbeats 2000000 in
theorem tmake_2 (b : Nat) (z : Int) (s : ByteArray) (F : Fo) (w : World) (h : FAt w b F) (hs : Tr.SzOk F) :
    Calls Tryz.prog 22 #[.pointer (some ⟨b, 0, none⟩), .int .i64 z, .string s, .int .i64 2] w fun e w' => ∃ (K : Nat) (E : Int) (G : Fo), e = .returned (.tuple #[.int .i64 (K : Int), errV E]) ∧ Tr.MakTo F z s 2 K E G ∧ FAt w' b G ∧ Frm b w w' := by
  have HF := Hid.intro (And.intro h hs)
  clear h hs
  go_enter Tryz.func22, Tryz.ntmps22
  go_wp2_with fail
  refine (twanted_any b z s F _ HF.out.1 HF.out.2).mono ?_
  rintro e w1 ⟨E, rfl, hw1, b1⟩
  have S1 : Hid (Tr.WanTo F z s E ∧ FAt w1 b F ∧ Frm b w w1) := Hid.intro ⟨hw1, HF.out.1.below b1, Frm.of_below b1⟩
  clear hw1 b1
  by_cases e0 : E = 0
  · subst e0
    obtain ⟨n, rfl, n40, k2, hnm, _, hsz⟩ := S1.out.1.ok
    have HN : Hid ((F.nd n).kind = 2 ∧ s.size ≤ 8 ∧ (F.nd n).size < 8) := Hid.intro ⟨k2, Tr.nameB_size hnm, by have := HF.out.2 n n40 k2; omega⟩
    rw [ptrE_ok, errV_zero]
    clear k2 hnm hsz
    go_wp2_with fail
    refine (tfree_any b F _ S1.out.2.1).mono ?_
    rintro e w2 ⟨k, E, rfl, hf, hw2⟩
    subst w2
    have HFR := Hid.intro hf
    by_cases f0 : E = 0
    · subst f0
      obtain ⟨k40, kk0⟩ : k < 40 ∧ (F.nd k).kind = 0 := by
        rcases hf with ⟨_, h1, h2, _⟩ | ⟨h1, _⟩
        · exact ⟨h1, h2⟩
        · omega
      have kI : (k : Int) < 40 := by omega
      have nk : n ≠ k := fun e => by rw [e] at HN; rw [kk0] at HN; exact absurd HN.out.1 (by decide)
      obtain ⟨tr, htr⟩ : ∃ tr, (F.nd n).tree = tr := ⟨_, rfl⟩
      have K0 : w1.cell? ⟨b, n * 62 + 4, none⟩ = some (.int .i64 (tr : Int)) := by rw [← htr]; exact S1.out.2.1.cTree n n40
      have K1 : w1.drew.cell? ⟨b, n * 62 + 4, none⟩ = some (.int .i64 (tr : Int)) := K0
      have S3 : Hid (FAt (w1.drew.setCells b (k * 62) (nodeA (newN 2 tr 0)).toList) b (F.put k (newN 2 tr 0)) ∧ Frm b w (w1.drew.setCells b (k * 62) (nodeA (newN 2 tr 0)).toList)) := Hid.intro ⟨S1.out.2.1.drew.setNode k k40 _, Frm.setCells _ _ S1.out.2.2.drew⟩
      have TH := Hid.intro (S1.out.2.1.drew.there k k40 (newN 2 tr 0))
      have HS := Hid.intro (info_node (newN 2 tr 0))
      have H1 := Hid.intro (nodeA_one (newN 2 tr 0))
      have HMK : Hid (Tr.makF F n s 2 k = Tr.leaF (F.put k (newN 2 tr 0)) n s k) := Hid.intro (by unfold Tr.makF; rw [htr])
      obtain ⟨A, hA⟩ : ∃ A, nodeA (newN 2 tr 0) = A := ⟨_, rfl⟩
      rw [hA] at S3 TH HS H1
      rw [errV_zero]
      clear hf kk0 htr
      go_upto_region 9 with fail
      refine wp_region_still_tail 12 (by kernel_rfl) (by kernel_rfl) ?_
      simp only [List.take_succ_cons, List.take_zero, List.drop_succ_cons, List.drop_zero]
      iterate 8 still_step
      refine still_build_nd2 rfl _ _ 2 tr rfl rfl rfl ?_
      rw [hA]
      iterate 3 still_step
      refine wpStill_nil ?_
      refine wpList_store_mid rfl 75 _ _ rfl b (k * 62) A rfl rfl TH.out HS.out H1.out ?_
      refine wpList_nil ?_
      have S4 := S3
      have TN : Hid ((F.put k (newN 2 tr 0)).nd n = F.nd n) := Hid.intro (Tr.put_ne _ _ _ _ nk)
      clear TH HS H1 hA K0 K1
      go_wp2_with fail
      refine (tlead_any b n k s _ _ S4.out.1 n40 k40 (by rw [TN.out]; exact HN.out.2.2) (Nat.le_trans HN.out.2.1 (by decide))).mono ?_
      rintro e W5 ⟨rfl, h5, f5⟩
      have S5 : Hid (FAt W5 b (Tr.makF F n s 2 k) ∧ Frm b w W5) := Hid.intro ⟨by rw [HMK.out]; exact h5, S4.out.2.trans f5⟩
      clear h5 f5
      go_wp2_with fail
      go_ret2
      exact ⟨k, 0, _, rfl, .inr ⟨by decide, 0, S1.out.1, .inr ⟨rfl, k, 0, HFR.out, .inr ⟨rfl, rfl, rfl, rfl⟩⟩⟩, S5.out⟩
    · have E2 : Hid (errV E = .iface 83 (.int .i64 E) ∧ E ≠ 0) := Hid.intro ⟨errV_ne f0, f0⟩
      rw [E2.out.1]
      clear hf f0
      go_wp2_with fail
      go_ret2
      exact ⟨0, E, F, by rw [E2.out.1]; rfl, .inr ⟨by decide, 0, S1.out.1, .inr ⟨rfl, k, E, HFR.out, .inl ⟨E2.out.2, rfl, rfl, rfl⟩⟩⟩, S1.out.2⟩
  · have E2 : Hid (errV E = .iface 83 (.int .i64 E) ∧ E ≠ 0) := Hid.intro ⟨errV_ne e0, e0⟩
    rw [E2.out.1]
    clear e0
    go_wp2_with fail
    go_ret2
    exact ⟨0, E, F, by rw [E2.out.1]; rfl, .inr ⟨by decide, E, S1.out.1, .inl ⟨E2.out.2, rfl, rfl, rfl⟩⟩, S1.out.2⟩

theorem tmake_any (b : Nat) (z : Int) (s : ByteArray) (kz : Int) (F : Fo) (w : World) (h : FAt w b F) (hs : Tr.SzOk F) :
    Calls Tryz.prog 22 #[.pointer (some ⟨b, 0, none⟩), .int .i64 z, .string s, .int .i64 kz] w fun e w' => ∃ (K : Nat) (E : Int) (G : Fo), e = .returned (.tuple #[.int .i64 (K : Int), errV E]) ∧ Tr.MakTo F z s kz K E G ∧ FAt w' b G ∧ Frm b w w' := by
  by_cases k1 : kz = 1
  · subst k1; exact tmake_1 b z s F w h hs
  · by_cases k2 : kz = 2
    · subst k2; exact tmake_2 b z s F w h hs
    · exact tmake_no b z s kz F w h k1 k2
end Go.Proofs.YthdadmbpnoofoaaGreatDoor
/- The code's forest: forget, Link, below. -/
namespace Go.Proofs.YthdadmbpnoofoaaGreatDoor
open Go.RowKit
open Tr (Fo Nd)

/-- The name at place i of a directory is gone: the last one takes its place. -/
def Tr.forN (x : Nd) (i : Nat) : Nd := { x with nam := upA (upA x.nam i (x.nam (x.size - 1))) (x.size - 1) ByteArray.empty, kid := upA (upA x.kid i (x.kid (x.size - 1))) (x.size - 1) 0, size := x.size - 1 }
set_option maxRecDepth 100000 in
set_option maxHeartbeats 2000000 in
theorem tforget_any (b n i : Nat) (s : ByteArray) (F : Fo) (w : World) (h : FAt w b F) (hn : n < 40) (hm8 : (F.nd n).size ≤ 8) (hp : Tr.PlcTo (F.nd n) s (i : Int)) :
    Calls Tryz.prog 80 #[.pointer (some ⟨b, n * 62, none⟩), .string s] w fun e w' => e = .returned (.tuple #[]) ∧ FAt w' b (F.put n (Tr.forN (F.nd n) i)) ∧ Frm b w w' := by
  have HF := Hid.intro h
  have hi : i < (F.nd n).size := by
    rcases hp with ⟨j, e, h1, _⟩ | ⟨e, _⟩
    · omega
    · omega
  have HP := Hid.intro hp
  obtain ⟨sz, hsz⟩ : ∃ sz, (F.nd n).size = sz := ⟨_, rfl⟩
  obtain ⟨l, hl⟩ : ∃ l, sz - 1 = l := ⟨_, rfl⟩
  have HSZ : Hid ((F.nd n).size = sz ∧ (F.nd n).size - 1 = l) := Hid.intro ⟨hsz, by omega⟩
  have hm : Hid ((F.nd n).size ≤ 8) := Hid.intro hm8
  rw [hsz] at hi hm8
  have iI : (i : Int) < (sz : Int) := by omega
  have lI : (l : Int) < (sz : Int) := by omega
  have hw : IntKind.i64.wrap ((sz : Int) - 1) = (l : Int) := (IntWalk.i64_in _ ⟨by omega, by omega⟩).trans (by omega)
  have l8 : l < 8 := by omega
  have i8 : i < 8 := by omega
  obtain ⟨sl, hsl⟩ : ∃ sl, (F.nd n).nam l = sl := ⟨_, rfl⟩
  obtain ⟨kl, hkl⟩ : ∃ kl, (F.nd n).kid l = kl := ⟨_, rfl⟩
  have HL : Hid ((F.nd n).nam l = sl ∧ (F.nd n).kid l = kl) := Hid.intro ⟨hsl, hkl⟩
  clear h hp hsz hi hl hm8 hsl hkl
  go_enter Tryz.func80, Tryz.ntmps80
  go_wp2_with fail
  refine (tentries_any b n F _ HF.out hn hm.out).mono ?_
  rintro e W1 ⟨rfl, k, hW⟩
  rw [HSZ.out.1]
  have S1 : Hid (FAt W1 b F ∧ Frm b w W1) := Hid.intro (by rw [hW]; exact ⟨HF.out.drewN _, (Frm.refl b w).drewN _⟩)
  clear hW
  have K0 : Hid (∀ W, FAt W b F → W.cell? ⟨b, n * 62 + 6 + l * 2, none⟩ = some (.string sl) ∧ W.cell? ⟨b, n * 62 + 6 + l * 2 + 1, none⟩ = some (.int .i64 (kl : Int))) := Hid.intro (fun W hW => by
    rw [← HL.out.1, ← HL.out.2]
    exact ⟨hW.cNam n l hn l8, hW.cKid n l hn l8⟩)
  have KS : Hid (∀ W, FAt W b F → ((W.setCell ⟨b, n * 62 + 6 + i * 2, none⟩ (.string sl)).setCell ⟨b, n * 62 + 6 + i * 2 + 1, none⟩ (.int .i64 (kl : Int))).cell? ⟨b, n * 62 + 6 + l * 2, none⟩ = some (.string sl) ∧ ((W.setCell ⟨b, n * 62 + 6 + i * 2, none⟩ (.string sl)).setCell ⟨b, n * 62 + 6 + i * 2 + 1, none⟩ (.int .i64 (kl : Int))).cell? ⟨b, n * 62 + 6 + l * 2 + 1, none⟩ = some (.int .i64 (kl : Int))) := Hid.intro (fun W hW => by
    have a := hW.ent n i kl sl hn i8
    have c1 := a.cNam n l hn l8
    have c2 := a.cKid n l hn l8
    rw [Tr.put_same] at c1 c2
    rw [c1, c2]
    show some (Value.string (upA (F.nd n).nam i sl l)) = _ ∧ some (Value.int .i64 ((upA (F.nd n).kid i kl l : Nat) : Int)) = _
    unfold upA
    rw [HL.out.1, HL.out.2, ite_self, ite_self]
    exact ⟨rfl, rfl⟩)
  have HC0 : Hid (∀ W, FAt W b F → (∃ v, W.cell? ⟨b, n * 62 + 6 + i * 2, none⟩ = some (.string v)) ∧ (∃ v : Nat, W.cell? ⟨b, n * 62 + 6 + i * 2 + 1, none⟩ = some (.int .i64 (v : Int)))) := Hid.intro (fun W hW => ⟨⟨_, hW.cNam n i hn i8⟩, ⟨_, hW.cKid n i hn i8⟩⟩)
  have K1 : Hid (W1.cell? ⟨b, n * 62 + 6 + l * 2, none⟩ = some (.string sl) ∧ W1.cell? ⟨b, n * 62 + 6 + l * 2 + 1, none⟩ = some (.int .i64 (kl : Int))) := Hid.intro (K0.out W1 S1.out.1)
  go_wp2_with fail
  go_region_held3 (fun w' => w'.cell? ⟨b, n * 62 + 6 + l * 2, none⟩ = some (.string sl) ∧ w'.cell? ⟨b, n * 62 + 6 + l * 2 + 1, none⟩ = some (.int .i64 (kl : Int))) (first | exact K1.out | exact K2.out | exact KS.out _ H2.out.1 | go_keep) ((go_at_call 87; refine (tplace_any b n s F _ S1.out.1.drew hn hm.out).mono ?_; rintro e w2 ⟨y, rfl, hp2, b2⟩; have hy := hp2.unique HP.out; subst hy; have H2 : Hid (FAt w2 b F ∧ Frm b w w2) := Hid.intro ⟨S1.out.1.drew.below b2, S1.out.2.drew.trans (Frm.of_below b2)⟩; have K2 : Hid (w2.cell? ⟨b, n * 62 + 6 + l * 2, none⟩ = some (.string sl) ∧ w2.cell? ⟨b, n * 62 + 6 + l * 2 + 1, none⟩ = some (.int .i64 (kl : Int))) := Hid.intro (K0.out w2 H2.out.1); obtain ⟨⟨v1, q1⟩, ⟨v2, q2⟩⟩ := HC0.out w2 H2.out.1; have qf := H2.out.1.frozen; clear b2 hp2))
  generalize hW3 : (w2.setCell ⟨b, n * 62 + 6 + i * 2, none⟩ (.string sl)).setCell ⟨b, n * 62 + 6 + i * 2 + 1, none⟩ (.int .i64 (kl : Int)) = W3
  have S3 : Hid (FAt W3 b (F.put n { F.nd n with nam := upA (F.nd n).nam i sl, kid := upA (F.nd n).kid i kl }) ∧ Frm b w W3) := Hid.intro (by
    rw [← hW3]
    exact ⟨H2.out.1.ent n i kl sl hn i8, (H2.out.2.setCell _ _).setCell _ _⟩)
  clear hW3 K0 K1 K2 KS HC0 q1 q2 qf H2 S1
  obtain ⟨⟨v1, q1⟩, ⟨v2, q2⟩⟩ : (∃ v, W3.cell? ⟨b, n * 62 + 6 + l * 2, none⟩ = some (.string v)) ∧ (∃ v : Nat, W3.cell? ⟨b, n * 62 + 6 + l * 2 + 1, none⟩ = some (.int .i64 (v : Int))) := ⟨⟨_, S3.out.1.cNam n l hn l8⟩, ⟨_, S3.out.1.cKid n l hn l8⟩⟩
  have qf := S3.out.1.frozen
  have S4 : Hid (FAt ((W3.setCell ⟨b, n * 62 + 6 + l * 2, none⟩ (.string ByteArray.empty)).setCell ⟨b, n * 62 + 6 + l * 2 + 1, none⟩ (.int .i64 0)) b (F.put n { F.nd n with nam := upA (upA (F.nd n).nam i sl) l ByteArray.empty, kid := upA (upA (F.nd n).kid i kl) l 0 }) ∧ Frm b w ((W3.setCell ⟨b, n * 62 + 6 + l * 2, none⟩ (.string ByteArray.empty)).setCell ⟨b, n * 62 + 6 + l * 2 + 1, none⟩ (.int .i64 0))) := Hid.intro (by
    have a := S3.out.1.ent n l 0 ByteArray.empty hn l8
    rw [Tr.put_same, Tr.put_put] at a
    exact ⟨a, (S3.out.2.setCell _ _).setCell _ _⟩)
  go_upto_region 4 with fail
  refine wp_gen (fun W => FAt W b (F.put n { F.nd n with nam := upA (upA (F.nd n).nam i sl) l ByteArray.empty, kid := upA (upA (F.nd n).kid i kl) l 0 }) ∧ Frm b w W) S4.out ?_
  intro W4 h4
  have S5 := Hid.intro h4
  clear h4 S4 S3 q1 q2 qf
  have c3 := S5.out.1.cSize n hn
  rw [Tr.put_same] at c3
  have c3' : W4.cell? ⟨b, n * 62 + 3, none⟩ = some (.int .i64 (sz : Int)) := by rw [c3]; show some (Value.int .i64 (((F.nd n).size : Nat) : Int)) = _; rw [HSZ.out.1]
  have cf := S5.out.1.frozen
  have FIN : Hid (FAt (W4.setCell ⟨b, n * 62 + 3, none⟩ (.int .i64 (l : Int))) b (F.put n (Tr.forN (F.nd n) i)) ∧ Frm b w (W4.setCell ⟨b, n * 62 + 3, none⟩ (.int .i64 (l : Int)))) := Hid.intro (by
    have a := S5.out.1.setSize n l hn
    rw [Tr.put_same, Tr.put_put] at a
    unfold Tr.forN
    rw [HSZ.out.2, HL.out.1, HL.out.2]
    exact ⟨a, S5.out.2.setCell _ _⟩)
  clear c3
  go_wp2_with fail
  go_end0
  exact ⟨rfl, FIN.out⟩
/-- One more name of a file. -/
def Tr.linF (F : Fo) (k n : Nat) (s : ByteArray) : Fo := Tr.leaF (F.put k { F.nd k with links := (F.nd k).links + 1 }) n s k
def Tr.LinTo (F : Fo) (y z : Int) (s : ByteArray) (E : Int) (G : Fo) : Prop :=
  (Tr.isE F y 1 ≠ 0 ∧ E = Tr.isE F y 1 ∧ G = F) ∨ (Tr.isE F y 1 = 0 ∧ ∃ e, Tr.WanTo F z s e ∧ ((e ≠ 0 ∧ E = e ∧ G = F) ∨ (e = 0 ∧ (((F.nd y.toNat).tree ≠ (F.nd z.toNat).tree ∧ E = 11 ∧ G = F) ∨ ((F.nd y.toNat).tree = (F.nd z.toNat).tree ∧ E = 0 ∧ G = Tr.linF F y.toNat z.toNat s)))))
set_option maxRecDepth 100000 in
set_option maxHeartbeats 2000000 in
theorem tlink_any (b : Nat) (y z : Int) (s : ByteArray) (F : Fo) (w : World) (h : FAt w b F) (hs : Tr.SzOk F) (hL : ∀ n, n < 40 → (F.nd n).kind ≠ 0 → (F.nd n).links < 2 ^ 60) :
    Calls Tryz.prog 31 #[.pointer (some ⟨b, 0, none⟩), .int .i64 y, .int .i64 z, .string s] w fun e w' => ∃ (E : Int) (G : Fo), e = .returned (errV E) ∧ Tr.LinTo F y z s E G ∧ FAt w' b G ∧ Frm b w w' := by
  have HF := Hid.intro (And.intro h hs)
  by_cases c : Tr.isE F y 1 = 0
  · obtain ⟨k, rfl, k40, kk0, kk1⟩ := Tr.isE_ok c
    have EP : Hid (Tr.isE F (k : Int) 1 = 0 ∧ ptrE b (k : Int) 0 = .pointer (some ⟨b, k * 62, none⟩)) := Hid.intro ⟨c, ptrE_ok b k⟩
    have HK1 := Hid.intro (And.intro kk1 (hL k k40 kk0))
    clear h hs c hL kk1 kk0
    go_enter Tryz.func31, Tryz.ntmps31
    go_wp2_with fail
    refine (tfile_any b k F _ HF.out.1).mono ?_
    rintro e w0 ⟨rfl, hw0⟩
    subst w0
    rw [EP.out.1, EP.out.2, errV_zero]
    go_wp2_with fail
    refine (twanted_any b z s F _ HF.out.1 HF.out.2).mono ?_
    rintro e w1 ⟨E, rfl, hw1, b1⟩
    have S1 : Hid (Tr.WanTo F z s E ∧ FAt w1 b F ∧ Frm b w w1) := Hid.intro ⟨hw1, HF.out.1.below b1, Frm.of_below b1⟩
    clear hw1 b1
    by_cases e0 : E = 0
    · subst e0
      obtain ⟨n, rfl, n40, k2, hnm, _, hsz⟩ := S1.out.1.ok
      have HN : Hid ((F.nd n).kind = 2 ∧ s.size ≤ 8 ∧ (F.nd n).size < 8) := Hid.intro ⟨k2, Tr.nameB_size hnm, by have := HF.out.2 n n40 k2; omega⟩
      have nk : n ≠ k := fun e => by have := HK1.out.1; rw [← e, k2] at this; exact absurd this (by decide)
      rw [ptrE_ok, errV_zero]
      clear k2 hnm hsz
      have c1 := S1.out.2.1.cTree k k40
      have c2 := S1.out.2.1.cTree n n40
      by_cases tt : (F.nd k).tree = (F.nd n).tree
      · have HT := Hid.intro tt
        rw [tt] at c1
        obtain ⟨tr, htr⟩ : ∃ tr, (F.nd n).tree = tr := ⟨_, rfl⟩
        rw [htr] at c1 c2
        obtain ⟨lk, hlk⟩ : ∃ lk, (F.nd k).links = lk := ⟨_, rfl⟩
        have c3 := S1.out.2.1.drew.cLinks k k40
        rw [hlk] at c3
        have c4 : w1.cell? ⟨b, k * 62 + 1, none⟩ = some (.int .i64 (lk : Int)) := c3
        have hb := HK1.out.2
        rw [hlk] at hb
        have hw : IntKind.i64.wrap ((lk : Int) + 1) = (lk : Int) + 1 := IntWalk.i64_in _ ⟨by omega, by omega⟩
        have cf := S1.out.2.1.frozen
        have S3 : Hid (∀ nq, FAt ((w1.drewN nq).setCell ⟨b, k * 62 + 1, none⟩ (.int .i64 ((lk : Int) + 1))) b (F.put k { F.nd k with links := lk + 1 }) ∧ Frm b w ((w1.drewN nq).setCell ⟨b, k * 62 + 1, none⟩ (.int .i64 ((lk : Int) + 1)))) := Hid.intro (fun nq => ⟨(S1.out.2.1.drewN nq).setLinks k (lk + 1) k40, (S1.out.2.2.drewN nq).setCell _ _⟩)
        have HMK : Hid (Tr.linF F k n s = Tr.leaF (F.put k { F.nd k with links := lk + 1 }) n s k) := Hid.intro (by unfold Tr.linF; rw [hlk])
        have TN : Hid ((F.put k { F.nd k with links := lk + 1 }).nd n = F.nd n) := Hid.intro (Tr.put_ne _ _ _ _ nk)
        clear htr hlk tt hb
        go_wp2_with fail
        go_quiet (fail)
        go_upto_region 10 with fail
        refine wp_gen (fun W => FAt W b (F.put k { F.nd k with links := lk + 1 }) ∧ Frm b w W) (S3.out _) ?_
        intro W4 h4
        have S4 := Hid.intro h4
        clear h4 S3 c1 c2 c3 c4 cf
        go_wp2_with fail
        refine (tlead_any b n k s _ _ S4.out.1 n40 k40 (by rw [TN.out]; exact HN.out.2.2) (Nat.le_trans HN.out.2.1 (by decide))).mono ?_
        rintro e W5 ⟨rfl, h5, f5⟩
        have S5 : Hid (FAt W5 b (Tr.linF F k n s) ∧ Frm b w W5) := Hid.intro ⟨by rw [HMK.out]; exact h5, S4.out.2.trans f5⟩
        clear h5 f5
        go_wp2_with fail
        go_ret
        exact ⟨0, _, rfl, .inr ⟨EP.out.1, 0, S1.out.1, .inr ⟨rfl, .inr ⟨HT.out, rfl, rfl⟩⟩⟩, S5.out⟩
      · have HT := Hid.intro tt
        generalize (F.nd k).tree = t1 at c1 tt
        generalize (F.nd n).tree = t2 at c2 tt
        have tI : ((t1 : Int) == (t2 : Int)) = false := by simp; omega
        have tI2 : ¬ (t1 : Int) = (t2 : Int) := by omega
        clear tt
        go_wp2_with fail
        go_quiet (fail)
        go_wp2_with fail
        go_ret
        exact ⟨11, F, rfl, .inr ⟨EP.out.1, 0, S1.out.1, .inr ⟨rfl, .inl ⟨HT.out, rfl, rfl⟩⟩⟩, S1.out.2.1.drewN _, S1.out.2.2.drewN _⟩
    · have E2 : Hid (errV E = .iface 83 (.int .i64 E) ∧ E ≠ 0) := Hid.intro ⟨errV_ne e0, e0⟩
      rw [E2.out.1]
      clear e0
      go_wp2_with fail
      go_ret
      exact ⟨E, F, by rw [E2.out.1]; rfl, .inr ⟨EP.out.1, E, S1.out.1, .inl ⟨E2.out.2, rfl, rfl⟩⟩, S1.out.2⟩
  · have E2 : Hid (ptrE b y (Tr.isE F y 1) = .pointer none ∧ errV (Tr.isE F y 1) = .iface 83 (.int .i64 (Tr.isE F y 1)) ∧ Tr.LinTo F y z s (Tr.isE F y 1) F) := Hid.intro ⟨ptrE_no c, errV_ne c, .inl ⟨c, rfl, rfl⟩⟩
    clear h c hs hL
    go_enter Tryz.func31, Tryz.ntmps31
    go_wp2_with fail
    refine (tfile_any b y F _ HF.out.1).mono ?_
    rintro e w1 ⟨rfl, hw⟩
    subst w1
    rw [E2.out.1, E2.out.2.1]
    go_wp2_with fail
    go_ret
    exact ⟨_, F, by rw [E2.out.2.1]; rfl, E2.out.2.2, HF.out.1, Frm.refl _ _⟩
end Go.Proofs.YthdadmbpnoofoaaGreatDoor

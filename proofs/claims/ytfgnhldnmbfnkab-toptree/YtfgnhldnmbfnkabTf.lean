/- The code's forest: a name leads to a node; New, Plant, Make, Link. -/
import Derived.Test.YtfgnhldnmbfnkabTe
import Derived.Test.YtfgnhldnmbfnkabShs
import Derived.Deep.CutRange
import Derived.Deep.CutBlock
namespace Go.Proofs.Ytfgnhldnmbfnkab
open Go.RowKit
open Tr (Fo Nd)

theorem tclone_any (s : ByteArray) (w : World) (hs : s.size ≤ 1000000) : Calls Try.prog 137 #[.string s] w fun e w' => e = .returned (.string s) ∧ Below w.heap.size w w' := by
  have HC := Hid.intro (Try.stringslite_Clone s w (by omega))
  go_enter Try.func137, Try.ntmps137
  go_wp2_with fail
  refine HC.out.mono ?_
  rintro e w1 ⟨rfl, b1⟩
  have B1 := Hid.intro b1
  clear b1
  go_wp2_with fail
  go_ret
  exact ⟨rfl, B1.out⟩
/-- One more name of a directory leads to a node. -/
def Tr.adN (x : Nd) (s : ByteArray) (k : Nat) : Nd := { x with nam := upA x.nam x.size s, kid := upA x.kid x.size k, size := x.size + 1 }
def Tr.leaF (F : Fo) (n : Nat) (s : ByteArray) (k : Nat) : Fo :=
  if ((F.put n (Tr.adN (F.nd n) s k)).nd k).kind = 2 then (F.put n (Tr.adN (F.nd n) s k)).put k { (F.put n (Tr.adN (F.nd n) s k)).nd k with up := n } else F.put n (Tr.adN (F.nd n) s k)
theorem FAt.ent {w : World} {b : Nat} {F : Fo} (h : FAt w b F) (n i k : Nat) (s : ByteArray) (hn : n < 40) (hi : i < 8) : FAt ((w.setCell ⟨b, n * 62 + 6 + i * 2, none⟩ (.string s)).setCell ⟨b, n * 62 + 6 + i * 2 + 1, none⟩ (.int .i64 (k : Int))) b (F.put n { F.nd n with nam := upA (F.nd n).nam i s, kid := upA (F.nd n).kid i k }) := by
  have a := (h.setNam n i s hn hi).setKid n i k hn hi
  rw [Tr.put_same] at a
  refine a.congr (fun o _ => ?_)
  unfold cellF
  by_cases c : o < 2480
  · rw [if_pos c, if_pos c]
    by_cases d : o / 62 = n
    · rw [d, Tr.put_same, Tr.put_same]
    · rw [Tr.put_ne _ _ _ _ d, Tr.put_ne _ _ _ _ d, Tr.put_ne _ _ _ _ d]
  · rw [if_neg c, if_neg c]; rfl
theorem Tr.put_put (F : Fo) (n : Nat) (x y : Nd) : (F.put n x).put n y = F.put n y := by
  unfold Fo.put
  congr 1
  funext m
  by_cases c : m = n
  · rw [if_pos c, if_pos c]
  · rw [if_neg c, if_neg c]; exact if_neg c
set_option maxRecDepth 100000 in
set_option maxHeartbeats 2000000 in
theorem tlead_any (b n k : Nat) (s : ByteArray) (F : Fo) (w : World) (h : FAt w b F) (hn : n < 40) (hk : k < 40) (hz : (F.nd n).size < 8) (hs : s.size ≤ 1000000) :
    Calls Try.prog 109 #[.pointer (some ⟨b, 0, none⟩), .int .i64 (n : Int), .string s, .int .i64 (k : Int)] w fun e w' => e = .returned (.tuple #[]) ∧ FAt w' b (Tr.leaF F n s k) ∧ Frm b w w' := by
  have HF := Hid.intro h
  have nI : (n : Int) < 40 := by omega
  have kI : (k : Int) < 40 := by omega
  obtain ⟨sz, hsz⟩ : ∃ sz, (F.nd n).size = sz := ⟨_, rfl⟩
  have HSZ := Hid.intro hsz
  rw [hsz] at hz
  have szI : (sz : Int) < 8 := by omega
  have hw : IntKind.i64.wrap ((sz : Int) + 1) = (sz : Int) + 1 := IntWalk.i64_in _ ⟨by omega, by omega⟩
  clear h hsz
  go_enter Try.func109, Try.ntmps109
  go_wp2_with fail
  go_quiet (fail)
  generalize hW : World.drewN w _ = W1
  have S1 : Hid (FAt W1 b F ∧ Frm b w W1) := Hid.intro (by rw [← hW]; exact ⟨HF.out.drewN _, (Frm.refl b w).drewN _⟩)
  clear hW
  have K0 : Hid (W1.cell? ⟨b, n * 62 + 3, none⟩ = some (.int .i64 (sz : Int))) := Hid.intro (by rw [← HSZ.out]; exact S1.out.1.cSize n hn)
  have KS : Hid (∀ W, FAt W b F → ((W.setCell ⟨b, n * 62 + 6 + sz * 2, none⟩ (.string s)).setCell ⟨b, n * 62 + 6 + sz * 2 + 1, none⟩ (.int .i64 (k : Int))).cell? ⟨b, n * 62 + 3, none⟩ = some (.int .i64 (sz : Int))) := Hid.intro (fun W hW => by
    have := (hW.ent n sz k s hn hz).cSize n hn
    rw [Tr.put_same] at this
    rw [this, ← HSZ.out])
  have c0 : ∀ W, FAt W b F → (∃ v, W.cell? ⟨b, n * 62 + 6 + sz * 2, none⟩ = some (.string v)) ∧ (∃ v : Nat, W.cell? ⟨b, n * 62 + 6 + sz * 2 + 1, none⟩ = some (.int .i64 (v : Int))) := fun W hW => ⟨⟨_, hW.cNam n sz hn hz⟩, ⟨_, hW.cKid n sz hn hz⟩⟩
  have HC0 := Hid.intro c0
  clear c0
  go_wp2_with fail
  go_region_held3 (fun w' => w'.cell? ⟨b, n * 62 + 3, none⟩ = some (.int .i64 (sz : Int))) (first | exact K0.out | exact K2.out | exact KS.out _ H2.out.1 | go_keep) ((go_at_call 137; refine (tclone_any s _ hs).mono ?_; rintro e w2 ⟨rfl, b2⟩; have H2 : Hid (FAt w2 b F ∧ Frm b w w2) := Hid.intro ⟨S1.out.1.drew.below b2, S1.out.2.drew.trans (Frm.of_below b2)⟩; have K2 : Hid (w2.cell? ⟨b, n * 62 + 3, none⟩ = some (.int .i64 (sz : Int))) := Hid.intro (by rw [← HSZ.out]; exact H2.out.1.cSize n hn); obtain ⟨⟨v1, q1⟩, ⟨v2, q2⟩⟩ := HC0.out w2 H2.out.1; have qf := H2.out.1.frozen; clear b2))
  generalize hW3 : (w2.setCell ⟨b, n * 62 + 6 + sz * 2, none⟩ (.string s)).setCell ⟨b, n * 62 + 6 + sz * 2 + 1, none⟩ (.int .i64 (k : Int)) = W3
  have S3 : Hid (FAt W3 b (F.put n { F.nd n with nam := upA (F.nd n).nam sz s, kid := upA (F.nd n).kid sz k }) ∧ Frm b w W3) := Hid.intro (by
    rw [← hW3]
    exact ⟨H2.out.1.ent n sz k s hn hz, (H2.out.2.setCell _ _).setCell _ _⟩)
  clear hW3 K0 K2 KS HC0 q1 q2 qf H2 S1
  have c3 : W3.cell? ⟨b, n * 62 + 3, none⟩ = some (.int .i64 (sz : Int)) := by
    have := S3.out.1.cSize n hn
    rw [Tr.put_same] at this
    rw [this, ← HSZ.out]
  have cf3 := S3.out.1.frozen
  have S4 : Hid (FAt (W3.setCell ⟨b, n * 62 + 3, none⟩ (.int .i64 ((sz : Int) + 1))) b (F.put n (Tr.adN (F.nd n) s k)) ∧ Frm b w (W3.setCell ⟨b, n * 62 + 3, none⟩ (.int .i64 ((sz : Int) + 1)))) := Hid.intro (by
    have a := S3.out.1.setSize n (sz + 1) hn
    rw [Tr.put_same, Tr.put_put] at a
    have e : Tr.adN (F.nd n) s k = { F.nd n with nam := upA (F.nd n).nam sz s, kid := upA (F.nd n).kid sz k, size := sz + 1 } := by unfold Tr.adN; rw [HSZ.out]
    rw [e]
    exact ⟨a, S3.out.2.setCell _ _⟩)
  go_upto_region 3 with fail
  refine wp_gen (fun W => FAt W b (F.put n (Tr.adN (F.nd n) s k)) ∧ Frm b w W) S4.out ?_
  intro W4 h4
  have S5 := Hid.intro h4
  clear h4 S4 S3 c3 cf3
  obtain ⟨F2, hF2⟩ : ∃ F2, F.put n (Tr.adN (F.nd n) s k) = F2 := ⟨_, rfl⟩
  have HL : Hid (Tr.leaF F n s k = if (F2.nd k).kind = 2 then F2.put k { F2.nd k with up := n } else F2) := Hid.intro (by unfold Tr.leaF; rw [hF2])
  rw [hF2] at S5
  clear hF2
  have c5 := S5.out.1.cKind k hk
  have cu := S5.out.1.cUp k hk
  have cf := S5.out.1.frozen
  by_cases k2 : (F2.nd k).kind = 2
  · have FIN : Hid (FAt (W4.setCell ⟨b, k * 62 + 5, none⟩ (.int .i64 (n : Int))) b (Tr.leaF F n s k) ∧ Frm b w (W4.setCell ⟨b, k * 62 + 5, none⟩ (.int .i64 (n : Int)))) := Hid.intro (by
      rw [HL.out, if_pos k2]
      exact ⟨S5.out.1.setUp k n hk, S5.out.2.setCell _ _⟩)
    rw [k2] at c5
    have c5' : W4.cell? ⟨b, k * 62, none⟩ = some (.int .i64 2) := c5
    generalize (F2.nd k).up = uu at *
    clear c5 k2
    go_wp2_with fail
    go_end0
    exact ⟨rfl, FIN.out⟩
  · have FIN : Hid (FAt W4 b (Tr.leaF F n s k)) := Hid.intro (by rw [HL.out, if_neg k2]; exact S5.out.1)
    have k2' : (((F2.nd k).kind : Int) == 2) = false := by simp; omega
    generalize (F2.nd k).kind = kk at *
    clear k2 cu
    go_wp2_with fail
    go_end0
    exact ⟨rfl, FIN.out, S5.out.2⟩
section
variable {ops : Array Oper} {rest : List Oper} {x : Oper} {a : Act} {w : World} {Q : Exit → Act → World → Prop}
/-- A new node, by value. -/
def newN (kd tr up : Nat) : Nd := { Nd.no with kind := kd, links := 1, tree := tr, up := up }
theorem wpList_build_nd3 (hgd : x.guard = none) (y0 y1 y2 : Operand) (kd tr up : Nat) (ho : x.op = .build 152 #[(0, y0), (1, y1), (2, y2)]) (h0 : a.eval y0 = .agg #[.int .i64 (kd : Int), .int .i64 1, .int .i64 0, .int .i64 0]) (h1 : a.eval y1 = .int .i64 (tr : Int)) (h2 : a.eval y2 = .int .i64 (up : Int)) (h : wpList Try.prog ops Q rest (a.put x.dst (.agg (nodeA (newN kd tr up)))) w) : wpList Try.prog ops Q (x :: rest) a w :=
  wpList_plain hgd fun _ hK => by
    unfold Oper.wp execOp
    simp only [ho, List.map_toArray, List.map_cons, List.map_nil, h0, h1, h2]
    simp [go_sem]
    exact hK _ _ h
end
/-- A tree is planted. -/
def Tr.plaF (F : Fo) (n : Nat) : Fo := { F.put n (newN 2 F.trees n) with root := upA F.root F.trees n, trees := F.trees + 1 }
def Tr.PlaTo (F : Fo) (T : Nat) (E : Int) (G : Fo) : Prop := (F.trees = 4 ∧ T = 0 ∧ E = 4 ∧ G = F) ∨ (F.trees ≠ 4 ∧ ∃ n e, Tr.FreeTo F n e ∧ ((e ≠ 0 ∧ T = 0 ∧ E = e ∧ G = F) ∨ (e = 0 ∧ T = F.trees ∧ E = 0 ∧ G = Tr.plaF F n)))
set_option maxRecDepth 100000 in
set_option maxHeartbeats 2000000 in
theorem tplant_any (b : Nat) (F : Fo) (w : World) (h : FAt w b F) (ht : F.trees ≤ 4) :
    Calls Try.prog 43 #[.pointer (some ⟨b, 0, none⟩)] w fun e w' => ∃ (T : Nat) (E : Int) (G : Fo), e = .returned (.tuple #[.int .i64 (T : Int), errV E]) ∧ Tr.PlaTo F T E G ∧ FAt w' b G ∧ Frm b w w' := by
  have HF := Hid.intro h
  have c0 := h.cTrees
  by_cases t4 : F.trees = 4
  · have FIN : Hid (Tr.PlaTo F 0 4 F) := Hid.intro (.inl ⟨t4, rfl, rfl, rfl⟩)
    rw [t4] at c0
    have c0' : w.cell? ⟨b, 2484, none⟩ = some (.int .i64 4) := c0
    clear h t4 c0 ht
    go_enter Try.func43, Try.ntmps43
    go_wp2_with fail
    go_ret2
    exact ⟨0, 4, F, rfl, FIN.out, HF.out, Frm.refl _ _⟩
  · have HT4 := Hid.intro t4
    obtain ⟨tt, htt⟩ : ∃ tt, F.trees = tt := ⟨_, rfl⟩
    have HTT := Hid.intro htt
    rw [htt] at c0
    have tI : (tt : Int) < 4 := by omega
    have t4' : ((tt : Int) == 4) = false := by simp; omega
    have hw : IntKind.i64.wrap ((tt : Int) + 1) = (tt : Int) + 1 := IntWalk.i64_in _ ⟨by omega, by omega⟩
    have tN : tt < 4 := by omega
    clear h t4 htt ht
    go_enter Try.func43, Try.ntmps43
    go_wp2_with fail
    refine (tfree_any b F _ HF.out).mono ?_
    rintro e w1 ⟨n, E, rfl, hf, hw1⟩
    subst w1
    have HFR := Hid.intro hf
    by_cases e0 : E = 0
    · subst e0
      have n40 : n < 40 := by
        rcases hf with ⟨_, h1, _⟩ | ⟨h1, _⟩
        · exact h1
        · omega
      have nI : (n : Int) < 40 := by omega
      have TH := Hid.intro (HF.out.there n n40 (newN 2 tt n))
      have HS := Hid.intro (info_node (newN 2 tt n))
      have H1 := Hid.intro (nodeA_one (newN 2 tt n))
      have S1 : Hid (FAt (w.setCells b (n * 62) (nodeA (newN 2 tt n)).toList) b (F.put n (newN 2 tt n)) ∧ Frm b w (w.setCells b (n * 62) (nodeA (newN 2 tt n)).toList)) := Hid.intro ⟨HF.out.setNode n n40 _, Frm.setCells _ _ (Frm.refl b w)⟩
      obtain ⟨A, hA⟩ : ∃ A, nodeA (newN 2 tt n) = A := ⟨_, rfl⟩
      rw [hA] at TH HS H1 S1
      rw [errV_zero]
      clear hf
      go_upto_region 8 with (first | (refine wpList_build_nd3 rfl _ _ _ 2 tt n rfl rfl rfl rfl ?_; rw [hA]) | (refine wpList_store_mid rfl 152 _ _ rfl b (n * 62) A rfl rfl TH.out HS.out H1.out ?_))
      refine wp_gen (fun W => FAt W b (F.put n (newN 2 tt n)) ∧ Frm b w W) S1.out ?_
      intro W2 h2
      have S2 := Hid.intro h2
      have c2 := h2.1.cTrees
      have c3 := h2.1.cRoot tt tN
      have cf := h2.1.frozen
      rw [show (F.put n (newN 2 tt n)).trees = tt from HTT.out] at c2
      generalize (F.put n (newN 2 tt n)).root tt = rr at *
      have S3 : Hid (FAt ((W2.setCell ⟨b, 2480 + tt, none⟩ (.int .i64 (n : Int))).setCell ⟨b, 2484, none⟩ (.int .i64 ((tt : Int) + 1))) b (Tr.plaF F n) ∧ Frm b w ((W2.setCell ⟨b, 2480 + tt, none⟩ (.int .i64 (n : Int))).setCell ⟨b, 2484, none⟩ (.int .i64 ((tt : Int) + 1)))) := Hid.intro (by
        have a := (h2.1.setRoot tt n tN).setTrees (tt + 1)
        refine ⟨?_, (h2.2.setCell _ _).setCell _ _⟩
        unfold Tr.plaF
        rw [HTT.out]
        exact a)
      clear h2 S1 TH HS H1 hA c0
      go_wp2_with fail
      go_ret2
      exact ⟨tt, 0, _, rfl, .inr ⟨HT4.out, n, 0, HFR.out, .inr ⟨rfl, HTT.out.symm, rfl, rfl⟩⟩, S3.out⟩
    · have E2 : Hid (errV E = .iface 128 (.int .i64 E) ∧ E ≠ 0) := Hid.intro ⟨errV_ne e0, e0⟩
      rw [E2.out.1]
      clear hf e0
      go_wp2_with fail
      go_ret2
      exact ⟨0, E, F, by rw [E2.out.1]; rfl, .inr ⟨HT4.out, n, E, HFR.out, .inl ⟨E2.out.2, rfl, rfl, rfl⟩⟩, HF.out, Frm.refl _ _⟩
end Go.Proofs.Ytfgnhldnmbfnkab

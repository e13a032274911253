/- The code's forest: a whole node by value; sweep, Hold, Let, Of, Tree, Up, Root, Nodes, free. -/
import Derived.Test.YtfgnhldnmbfnkabTb
namespace Go.Proofs.Ytfgnhldnmbfnkab
open Go.RowKit
open Tr (Fo Nd)

def nodeA (x : Nd) : Array Value := ((List.range 62).map (cellN x)).toArray
theorem nodeA_at (x : Nd) (i : Nat) (h : i < 62) : (nodeA x)[i]? = some (cellN x i) := by simp [nodeA, h]
theorem nodeA_size (x : Nd) : (nodeA x).size = 62 := by simp [nodeA]
theorem nodeA_len (x : Nd) : (nodeA x).toList.length = 62 := by simp [nodeA]
theorem nodeA_one (x : Nd) : (nodeA x).all (·.oneCell') = true := by
  rw [Array.all_eq_true_iff_forall_mem]
  intro v hv
  simp only [nodeA, List.mem_toArray, List.mem_map] at hv
  obtain ⟨o, _, rfl⟩ := hv
  unfold cellN
  repeat' split
  all_goals rfl
section
variable {w : World} {b : Nat} {F : Fo}
theorem Frm.setCells {b : Nat} : ∀ (vs : List Value) (o : Nat) {u w : World}, Frm b u w → Frm b u (w.setCells b o vs)
  | [], _, _, _, h => h
  | v :: r, o, u, w, h => by rw [World.setCells]; exact Frm.setCells r (o + 1) (h.setCell o v)
theorem theap_setCells_blk (b : Nat) : ∀ (vs : List Value) (o : Nat) (w : World) (C : Array Value) {T : TypeId}, w.heap[b]? = some (.cells C T (0, 0)) → ∃ C', (w.setCells b o vs).heap[b]? = some (.cells C' T (0, 0)) ∧ C'.size = C.size
  | [], _, _, C, _, h => ⟨C, h, rfl⟩
  | v :: r, o, w, C, _, h => by
    rw [World.setCells]
    obtain ⟨C', h1, h2⟩ := theap_setCells_blk b r (o + 1) _ _ (blk_set h o v)
    exact ⟨C', h1, by simpa using h2⟩
theorem FAt.setNode (h : FAt w b F) (n : Nat) (hn : n < 40) (x : Nd) : FAt (w.setCells b (n * 62) (nodeA x).toList) b (F.put n x) := by
  obtain ⟨C, h1, h2⟩ := h.blk
  obtain ⟨C', k1, k2⟩ := theap_setCells_blk b (nodeA x).toList (n * 62) w C h1
  refine ⟨⟨C', k1, by omega⟩, fun o ho => ?_⟩
  by_cases c : n * 62 ≤ o ∧ o < n * 62 + 62
  · obtain ⟨j, rfl, hj⟩ : ∃ j, o = n * 62 + j ∧ j < 62 := ⟨o - n * 62, by omega, by omega⟩
    rw [World.cell?_setCells_in b (nodeA x).toList (n * 62) w (fun i hi => by rw [nodeA_len] at hi; rw [h.cell _ (by omega)]; rfl) j (by rw [nodeA_len]; exact hj), ← List.getElem?_eq_getElem (by rw [nodeA_len]; exact hj), Array.getElem?_toList, nodeA_at x j hj]
    unfold cellF
    rw [if_pos (by omega), show (n * 62 + j) / 62 = n by omega, show (n * 62 + j) % 62 = j by omega, Tr.put_same]
  · rw [World.cell?_setCells_out b _ (n * 62) w ⟨b, o, none⟩ (fun _ _ => by rw [nodeA_len]; show o < _ ∨ _ ≤ o; omega), h.cell o ho]
    unfold cellF
    by_cases d : o < 2480
    · rw [if_pos d, if_pos d, Tr.put_ne _ _ _ _ (by omega)]
    · rw [if_neg d, if_neg d]; rfl
theorem FAt.there (h : FAt w b F) (n : Nat) (hn : n < 40) (x : Nd) : w.there b (n * 62) (nodeA x).size := fun j hj => by
  rw [nodeA_size] at hj
  exact ⟨by rw [h.cell _ (by omega)]; rfl, h.frozen _⟩
theorem info_node (x : Nd) : (Try.prog.info? 152).map (·.size) = some (nodeA x).size := by rw [nodeA_size]; kernel_rfl
end
section
variable {ops : Array Oper} {rest : List Oper} {x : Oper} {a : Act} {w : World} {Q : Exit → Act → World → Prop}
theorem wpList_build_nd0 (hgd : x.guard = none) (ho : x.op = .build 152 #[]) (h : wpList Try.prog ops Q rest (a.put x.dst (.agg (nodeA Nd.no))) w) : wpList Try.prog ops Q (x :: rest) a w :=
  wpList_plain hgd fun _ hK => by
    unfold Oper.wp execOp
    simp only [ho]
    simp [go_sem]
    exact hK _ _ h
end
/-- A node that nobody names or holds is no more. -/
def Tr.swe (F : Fo) (n : Nat) : Fo := if (F.nd n).links = 0 ∧ (F.nd n).held = 0 then F.put n Nd.no else F
theorem Tr.swe_yes {F : Fo} {n : Nat} (h : (F.nd n).links = 0 ∧ (F.nd n).held = 0) : Tr.swe F n = F.put n Nd.no := if_pos h
theorem Tr.swe_no {F : Fo} {n : Nat} (h : ¬ ((F.nd n).links = 0 ∧ (F.nd n).held = 0)) : Tr.swe F n = F := if_neg h
set_option maxRecDepth 100000 in
set_option maxHeartbeats 1000000 in
theorem tsweep_any (b n : Nat) (F : Fo) (w : World) (h : FAt w b F) (hn : n < 40) :
    Calls Try.prog 112 #[.pointer (some ⟨b, 0, none⟩), .int .i64 (n : Int)] w fun e w' => e = .returned (.tuple #[]) ∧ FAt w' b (Tr.swe F n) ∧ Frm b w w' := by
  have nI : (n : Int) < 40 := by omega
  have c1 := h.cLinks n hn
  have c2 := h.cHeld n hn
  by_cases l0 : (F.nd n).links = 0
  · rw [l0] at c1
    have c1' : w.cell? ⟨b, n * 62 + 1, none⟩ = some (.int .i64 0) := c1
    by_cases h0 : (F.nd n).held = 0
    · rw [h0] at c2
      have c2' : w.cell? ⟨b, n * 62 + 2, none⟩ = some (.int .i64 0) := c2
      have FIN : Hid (FAt (w.setCells b (n * 62) (nodeA Nd.no).toList) b (Tr.swe F n) ∧ Frm b w (w.setCells b (n * 62) (nodeA Nd.no).toList)) := Hid.intro ⟨by rw [Tr.swe_yes ⟨l0, h0⟩]; exact h.setNode n hn _, Frm.setCells _ _ (Frm.refl b w)⟩
      have TH := Hid.intro (h.there n hn Nd.no)
      have HS := Hid.intro (info_node Nd.no)
      have H1 := Hid.intro (nodeA_one Nd.no)
      obtain ⟨A, hA⟩ : ∃ A, nodeA Nd.no = A := ⟨_, rfl⟩
      rw [hA] at FIN TH HS H1
      clear h l0 h0 c1 c2
      go_enter Try.func112, Try.ntmps112
      go_wp2_with (first | (refine wpList_build_nd0 rfl rfl ?_; rw [hA]) | (refine wpList_store_mid rfl 152 _ _ rfl b (n * 62) A rfl rfl TH.out HS.out H1.out ?_))
      go_end0
      exact ⟨rfl, FIN.out⟩
    · have h0' : (((F.nd n).held : Int) == 0) = false := by simp; omega
      have FIN : Hid (FAt w b (Tr.swe F n)) := Hid.intro (by rw [Tr.swe_no (fun c => h0 c.2)]; exact h)
      generalize (F.nd n).held = hh at *
      clear h l0 h0 c1
      go_enter Try.func112, Try.ntmps112
      go_wp2_with fail
      go_end0
      exact ⟨rfl, FIN.out, Frm.refl _ _⟩
  · have l0' : (((F.nd n).links : Int) == 0) = false := by simp; omega
    have FIN : Hid (FAt w b (Tr.swe F n)) := Hid.intro (by rw [Tr.swe_no (fun c => l0 c.1)]; exact h)
    generalize (F.nd n).links = ll at *
    clear h l0
    go_enter Try.func112, Try.ntmps112
    go_wp2_with fail
    go_end0
    exact ⟨rfl, FIN.out, Frm.refl _ _⟩
/-- Held once more. -/
def Tr.hol (F : Fo) (z : Int) : Fo := if Tr.nodeE F z = 0 then F.put z.toNat { F.nd z.toNat with held := (F.nd z.toNat).held + 1 } else F
set_option maxRecDepth 100000 in
set_option maxHeartbeats 1000000 in
theorem thold_any (b : Nat) (z : Int) (F : Fo) (w : World) (h : FAt w b F) (hb : ∀ n, n < 40 → (F.nd n).held < 2 ^ 60) :
    Calls Try.prog 48 #[.pointer (some ⟨b, 0, none⟩), .int .i64 z] w fun e w' => e = .returned (errV (Tr.nodeE F z)) ∧ FAt w' b (Tr.hol F z) ∧ Frm b w w' := by
  have HF := Hid.intro h
  by_cases c : Tr.nodeE F z = 0
  · obtain ⟨n, rfl, n40, _⟩ := Tr.nodeE_ok c
    have c0 := h.cHeld n n40
    have cf := h.frozen
    have hl := hb n n40
    have EP : Hid (Tr.nodeE F (n : Int) = 0 ∧ ptrE b (n : Int) 0 = .pointer (some ⟨b, n * 62, none⟩)) := Hid.intro ⟨c, ptrE_ok b n⟩
    have FIN : Hid (FAt (w.setCell ⟨b, n * 62 + 2, none⟩ (.int .i64 (((F.nd n).held + 1 : Nat) : Int))) b (Tr.hol F (n : Int))) := Hid.intro (by
      unfold Tr.hol
      rw [if_pos c, Int.toNat_natCast]
      exact h.setHeld n _ n40)
    generalize (F.nd n).held = hh at *
    have hw : IntKind.i64.wrap ((hh : Int) + 1) = (hh : Int) + 1 := IntWalk.i64_in _ ⟨by omega, by omega⟩
    clear h c hb
    go_enter Try.func48, Try.ntmps48
    go_wp2_with fail
    refine (tnode_any b n F _ HF.out).mono ?_
    rintro e w1 ⟨rfl, hw1⟩
    subst w1
    rw [EP.out.1, EP.out.2, errV_zero]
    go_wp2_with fail
    go_ret
    rw [EP.out.1]
    exact ⟨rfl, FIN.out, (Frm.refl b w).setCell _ _⟩
  · have E2 : Hid (ptrE b z (Tr.nodeE F z) = .pointer none ∧ errV (Tr.nodeE F z) = .iface 128 (.int .i64 (Tr.nodeE F z)) ∧ Tr.hol F z = F) := Hid.intro ⟨ptrE_no c, errV_ne c, if_neg c⟩
    clear h c hb
    go_enter Try.func48, Try.ntmps48
    go_wp2_with fail
    refine (tnode_any b z F _ HF.out).mono ?_
    rintro e w1 ⟨rfl, hw⟩
    subst w1
    rw [E2.out.1, E2.out.2.1]
    go_wp2_with fail
    go_ret
    rw [E2.out.2.1, E2.out.2.2]
    exact ⟨rfl, HF.out, Frm.refl _ _⟩
def Tr.letE (F : Fo) (z : Int) : Int := if Tr.nodeE F z = 0 then (if (F.nd z.toNat).held = 0 then 8 else 0) else Tr.nodeE F z
def Tr.letT (F : Fo) (z : Int) : Fo := if Tr.letE F z = 0 then Tr.swe (F.put z.toNat { F.nd z.toNat with held := (F.nd z.toNat).held - 1 }) z.toNat else F
set_option maxRecDepth 100000 in
set_option maxHeartbeats 1000000 in
theorem tlet_any (b : Nat) (z : Int) (F : Fo) (w : World) (h : FAt w b F) (hb : ∀ n, n < 40 → (F.nd n).held < 2 ^ 60) :
    Calls Try.prog 49 #[.pointer (some ⟨b, 0, none⟩), .int .i64 z] w fun e w' => e = .returned (errV (Tr.letE F z)) ∧ FAt w' b (Tr.letT F z) ∧ Frm b w w' := by
  have HF := Hid.intro h
  by_cases c : Tr.nodeE F z = 0
  · obtain ⟨n, rfl, n40, _⟩ := Tr.nodeE_ok c
    have c0 := h.cHeld n n40
    have cf := h.frozen
    have hl := hb n n40
    have EP : Hid (Tr.nodeE F (n : Int) = 0 ∧ ptrE b (n : Int) 0 = .pointer (some ⟨b, n * 62, none⟩)) := Hid.intro ⟨c, ptrE_ok b n⟩
    by_cases h0 : (F.nd n).held = 0
    · have E : Hid (Tr.letE F (n : Int) = 8 ∧ Tr.letT F (n : Int) = F) := Hid.intro (by
        have e : Tr.letE F (n : Int) = 8 := by unfold Tr.letE; rw [if_pos c, Int.toNat_natCast, if_pos h0]
        exact ⟨e, by unfold Tr.letT; rw [e]; exact if_neg (by decide)⟩)
      rw [h0] at c0
      have c0' : w.cell? ⟨b, n * 62 + 2, none⟩ = some (.int .i64 0) := c0
      clear h c hb c0 h0
      go_enter Try.func49, Try.ntmps49
      go_wp2_with fail
      refine (tnode_any b n F _ HF.out).mono ?_
      rintro e w1 ⟨rfl, hw1⟩
      subst w1
      rw [EP.out.1, EP.out.2, errV_zero]
      go_wp2_with fail
      go_ret
      rw [E.out.1, E.out.2]
      exact ⟨rfl, HF.out, Frm.refl _ _⟩
    · obtain ⟨hh, hhe⟩ : ∃ hh, (F.nd n).held = hh + 1 := ⟨(F.nd n).held - 1, by omega⟩
      have E : Hid (Tr.letE F (n : Int) = 0 ∧ Tr.letT F (n : Int) = Tr.swe (F.put n { F.nd n with held := hh }) n) := Hid.intro (by
        have e : Tr.letE F (n : Int) = 0 := by unfold Tr.letE; rw [if_pos c, Int.toNat_natCast, if_neg h0]
        exact ⟨e, by unfold Tr.letT; rw [e, if_pos rfl, Int.toNat_natCast, hhe]; rfl⟩)
      have S1 : Hid (FAt (w.setCell ⟨b, n * 62 + 2, none⟩ (.int .i64 (hh : Int))) b (F.put n { F.nd n with held := hh }) ∧ Frm b w (w.setCell ⟨b, n * 62 + 2, none⟩ (.int .i64 (hh : Int)))) := Hid.intro ⟨h.setHeld n _ n40, (Frm.refl b w).setCell _ _⟩
      rw [hhe] at c0 hl
      obtain ⟨zz, hzz⟩ : ∃ zz : Int, ((hh + 1 : Nat) : Int) = zz := ⟨_, rfl⟩
      have hw : IntKind.i64.wrap (zz - 1) = (hh : Int) := by rw [← hzz, IntWalk.i64_in _ ⟨by omega, by omega⟩]; omega
      have hz0 : (zz == 0) = false := by simp; omega
      rw [hzz] at c0
      clear h c hb h0 hhe hzz
      go_enter Try.func49, Try.ntmps49
      go_wp2_with fail
      refine (tnode_any b n F _ HF.out).mono ?_
      rintro e w1 ⟨rfl, hw1⟩
      subst w1
      rw [EP.out.1, EP.out.2, errV_zero]
      go_wp2_with fail
      refine (tsweep_any b n _ _ S1.out.1 n40).mono ?_
      rintro e w2 ⟨rfl, h2, f2⟩
      have S2 := Hid.intro (And.intro h2 (S1.out.2.trans f2))
      clear h2 f2 c0 cf
      go_wp2_with fail
      go_ret
      rw [E.out.1, E.out.2]
      exact ⟨rfl, S2.out⟩
  · have E2 : Hid (ptrE b z (Tr.nodeE F z) = .pointer none ∧ errV (Tr.nodeE F z) = .iface 128 (.int .i64 (Tr.nodeE F z)) ∧ Tr.letE F z = Tr.nodeE F z ∧ Tr.letT F z = F) := Hid.intro (by
      have e : Tr.letE F z = Tr.nodeE F z := if_neg c
      exact ⟨ptrE_no c, errV_ne c, e, by unfold Tr.letT; rw [e]; exact if_neg c⟩)
    clear h c hb
    go_enter Try.func49, Try.ntmps49
    go_wp2_with fail
    refine (tnode_any b z F _ HF.out).mono ?_
    rintro e w1 ⟨rfl, hw⟩
    subst w1
    rw [E2.out.1, E2.out.2.1]
    go_wp2_with fail
    go_ret
    rw [E2.out.2.2.1, E2.out.2.1, E2.out.2.2.2]
    exact ⟨rfl, HF.out, Frm.refl _ _⟩
/-- How many nodes there are among the first ones; the lowest free number. -/
def Tr.cntN (F : Fo) : Nat → Nat
  | 0 => 0
  | n + 1 => Tr.cntN F n + if (F.nd n).kind = 0 then 0 else 1
theorem Tr.cntN_le (F : Fo) (n : Nat) : Tr.cntN F n ≤ n := by
  induction n with
  | zero => exact Nat.le_refl 0
  | succ n ih => show Tr.cntN F n + _ ≤ n + 1; split <;> omega
set_option maxRecDepth 100000 in
set_option maxHeartbeats 1000000 in
theorem tnodes_any (b : Nat) (F : Fo) (w : World) (h : FAt w b F) :
    Calls Try.prog 52 #[.pointer (some ⟨b, 0, none⟩)] w fun e w' => e = .returned (.int .i64 (Tr.cntN F 40 : Int)) ∧ w' = w := by
  have HF := Hid.intro h
  clear h
  go_enter Try.func52, Try.ntmps52
  go_wp2_with fail
  go_loopw [3, 4, 5] (fun s x i wr => ∃ (n : Nat), i = .int .i64 n ∧ s = .int .i64 (Tr.cntN F n : Int) ∧ n ≤ 40 ∧ wr = w) (fun _ _ i _ => 40 - (intOf i).toNat)
  case atStart => exact ⟨0, rfl, rfl, by omega, rfl⟩
  case round =>
    obtain ⟨n, rfl, rfl, hn, hwr⟩ := hrel
    subst wr
    by_cases hlt : n < 40
    · have hltI : (n : Int) < 40 := by omega
      have c0 := HF.out.cKind n hlt
      have lc := Tr.cntN_le F n
      have LS : Hid (Tr.cntN F (n + 1) = Tr.cntN F n + if (F.nd n).kind = 0 then 0 else 1) := Hid.intro rfl
      by_cases k0 : (F.nd n).kind = 0
      · rw [if_pos k0] at LS
        rw [k0] at c0
        have c0' : w.cell? ⟨b, n * 62, none⟩ = some (.int .i64 0) := c0
        clear c0 k0
        go_wp2_with fail
        go_roundw
        case rel => exact ⟨n + 1, by go_num, by rw [LS.out]; rfl, by omega, by first | rfl | trivial⟩
        case measure => simp [intOf]; omega
      · rw [if_neg k0] at LS
        have k0' : (((F.nd n).kind : Int) == 0) = false := by simp; omega
        generalize (F.nd n).kind = kk at *
        generalize Tr.cntN F n = cn at *
        clear k0
        go_wp2_with fail
        go_roundw
        case rel => exact ⟨n + 1, by go_num, by rw [LS.out]; go_num, by omega, by first | rfl | trivial⟩
        case measure => simp [intOf]; omega
    · have hltI : ¬ (n : Int) < 40 := by omega
      obtain rfl : n = 40 := by omega
      go_wp2_with fail
      go_ret
      exact ⟨rfl, rfl⟩
/-- The lowest free number is n, or there is none. -/
def Tr.FreeTo (F : Fo) (n : Nat) (E : Int) : Prop := (E = 0 ∧ n < 40 ∧ (F.nd n).kind = 0 ∧ ∀ m, m < n → (F.nd m).kind ≠ 0) ∨ (E = 4 ∧ n = 0 ∧ ∀ m, m < 40 → (F.nd m).kind ≠ 0)
theorem Tr.FreeTo.unique {F : Fo} {n m : Nat} {E G : Int} (h : Tr.FreeTo F n E) (k : Tr.FreeTo F m G) : n = m ∧ E = G := by
  rcases h with ⟨e1, h1, h2, h3⟩ | ⟨e1, h1, h2⟩ <;> rcases k with ⟨e2, k1, k2, k3⟩ | ⟨e2, k1, k2'⟩
  · refine ⟨?_, by omega⟩
    rcases Nat.lt_trichotomy n m with c | c | c
    · exact absurd h2 (k3 n c)
    · exact c
    · exact absurd k2 (h3 m c)
  · exact absurd h2 (k2' n h1)
  · exact absurd k2 (h2 m k1)
  · exact ⟨by omega, by omega⟩
set_option maxRecDepth 100000 in
set_option maxHeartbeats 1000000 in
theorem tfree_any (b : Nat) (F : Fo) (w : World) (h : FAt w b F) :
    Calls Try.prog 107 #[.pointer (some ⟨b, 0, none⟩)] w fun e w' => ∃ (n : Nat) (E : Int), e = .returned (.tuple #[.int .i64 (n : Int), errV E]) ∧ Tr.FreeTo F n E ∧ w' = w := by
  have HF := Hid.intro h
  clear h
  go_enter Try.func107, Try.ntmps107
  go_wp2_with fail
  go_loopw [4, 5] (fun x i wr => ∃ (n : Nat), i = .int .i64 n ∧ n ≤ 40 ∧ Hid (∀ m, m < n → (F.nd m).kind ≠ 0) ∧ wr = w) (fun _ i _ => 40 - (intOf i).toNat)
  case atStart => exact ⟨0, rfl, by omega, fun m hm => by omega, rfl⟩
  case round =>
    obtain ⟨n, rfl, hn, HN, hwr⟩ := hrel
    subst wr
    by_cases hlt : n < 40
    · have hltI : (n : Int) < 40 := by omega
      have c0 := HF.out.cKind n hlt
      by_cases k0 : (F.nd n).kind = 0
      · have FIN : Hid (Tr.FreeTo F n 0) := Hid.intro (.inl ⟨rfl, hlt, k0, HN.out⟩)
        rw [k0] at c0
        have c0' : w.cell? ⟨b, n * 62, none⟩ = some (.int .i64 0) := c0
        clear c0 k0
        go_wp2_with fail
        go_ret2
        exact ⟨n, 0, rfl, FIN.out, rfl⟩
      · have NX : Hid (∀ m, m < n + 1 → (F.nd m).kind ≠ 0) := Hid.intro (fun m hm => by
          by_cases e : m = n
          · subst e; exact k0
          · exact HN.out m (by omega))
        have k0' : (((F.nd n).kind : Int) == 0) = false := by simp; omega
        generalize (F.nd n).kind = kk at *
        clear k0
        go_wp2_with fail
        go_roundw
        case rel => exact ⟨n + 1, by go_num, by omega, NX, by first | rfl | trivial⟩
        case measure => simp [intOf]; omega
    · have hltI : ¬ (n : Int) < 40 := by omega
      obtain rfl : n = 40 := by omega
      go_wp2_with fail
      go_ret2
      exact ⟨0, 4, rfl, .inr ⟨rfl, rfl, HN.out⟩, rfl⟩
end Go.Proofs.Ytfgnhldnmbfnkab

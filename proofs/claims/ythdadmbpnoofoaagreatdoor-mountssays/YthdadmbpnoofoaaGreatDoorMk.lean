/- The code's table: wrong, Unbind, Bind. -/
import Derived.Test.YthdadmbpnoofoaaGreatDoorMj
namespace Go.Proofs.YthdadmbpnoofoaaGreatDoor
open Go.RowKit
open Tr (Fo Nd)
open Mo (Wh Mt Tb)

namespace Mo
/-- Why a place can't be an end of a mount. -/
def wroE (F : Fo) (x : Wh) : Int := if Tr.nodeE F x.2 ≠ 0 then Tr.nodeE F x.2 else if (F.nd x.2.toNat).kind = 2 ∧ ((F.nd x.2.toNat).tree : Int) = x.1 then 0 else 11
theorem nodeE_nn (F : Fo) (z : Int) : 0 ≤ Tr.nodeE F z := by
  unfold Tr.nodeE
  repeat' split
  all_goals omega
theorem wroE_nn (F : Fo) (x : Wh) : 0 ≤ wroE F x := by
  have := nodeE_nn F x.2
  unfold wroE
  repeat' split
  all_goals omega
/-- What a Bind, an Unbind answers and leaves. -/
def binE (F : Fo) (T : Tb) (x y : Wh) : Int := if wroE F x ≠ 0 then wroE F x else if wroE F y ≠ 0 then wroE F y else if x = y then 8 else if (lk T.ms x).isSome = true then 3 else if T.ms.length = 6 then 4 else 0
def binT (F : Fo) (T : Tb) (x y : Wh) : Tb := if binE F T x y = 0 then ⟨T.rt, T.ms ++ [(x, y)]⟩ else T
def binF (F : Fo) (T : Tb) (x y : Wh) : Fo := if binE F T x y = 0 then hoM F (x, y) else F
def UnbTo (F : Fo) (T : Tb) (x : Wh) (E : Int) (T' : Tb) (F' : Fo) : Prop := (∃ i : Nat, MtdTo T.ms x i ∧ ∃ m, T.ms[i]? = some m ∧ E = 0 ∧ T' = ⟨T.rt, T.ms.eraseIdx i⟩ ∧ F' = leM F m) ∨ (MtdTo T.ms x (-1) ∧ E = 2 ∧ T' = T ∧ F' = F)
theorem ofA_ex (F : Fo) (z : Int) : ∃ o1 o2 o3 o4 : Int, ofA F z = #[.int .i64 o1, .int .i64 o2, .int .i64 o3, .int .i64 o4] ∧ (Tr.nodeE F z = 0 → o1 = ((F.nd z.toNat).kind : Int)) := by
  unfold ofA
  split
  · exact ⟨_, _, _, _, rfl, fun _ => rfl⟩
  · rename_i h
    exact ⟨0, 0, 0, 0, rfl, fun e => absurd e h⟩
theorem binE_nn (F : Fo) (T : Tb) (x y : Wh) : 0 ≤ binE F T x y := by
  have := wroE_nn F x
  have := wroE_nn F y
  unfold binE
  repeat' split
  all_goals omega
end Mo
set_option maxRecDepth 100000 in
set_option maxHeartbeats 2000000 in
theorem wrong_any (base b f : Nat) (T : Tb) (v : Value) (F : Fo) (x : Wh) (w : World) (h : TAt w base b f T v) (hF : FAt w f F) :
    Calls Tryz.prog 92 #[.pointer (some ⟨b, 0, none⟩), .agg #[.int .i64 x.1, .int .i64 x.2]] w fun e w' => e = .returned (errV (Mo.wroE F x)) ∧ Below w.heap.size w w' := by
  have HT := Hid.intro (And.intro h hF)
  obtain ⟨o1, o2, o3, o4, hO⟩ := Mo.ofA_ex F x.2
  have OE := Hid.intro hO
  clear h hF hO
  go_enter Tryz.func92, Tryz.ntmps92
  go_upto_region 1 with fail
  refine wp_gen (fun W' => WB W' w.heap.size x ∧ Below w.heap.size w W') ⟨heap_alloc_new w _, (Below.refl _ _).alloc (Nat.le_refl _) _⟩ ?_
  rintro W1 ⟨x1, b1⟩
  obtain ⟨bx, hbx⟩ : ∃ bx, w.heap.size = bx := ⟨_, rfl⟩
  have HBX := Hid.intro hbx
  rw [hbx] at x1
  have LE : Hid (∀ W, Below bx w W → bx ≤ W.heap.size ∧ TAt W base b f T v ∧ FAt W f F) := Hid.intro (fun W h => by
    have e := h.size
    subst hbx
    exact ⟨e, HT.out.1.below h, HT.out.2.below h⟩)
  have S1 : Hid (WB W1 bx x ∧ Below bx w W1) := Hid.intro ⟨x1, by rw [← hbx]; exact b1⟩
  rw [hbx]
  clear hbx x1 b1
  have c0 := (LE.out _ S1.out.2).2.1.c0
  have cx := S1.out.1.c1
  have l0 := (LE.out _ S1.out.2).2.1.lt
  have l1 := S1.out.1.lt
  have n0 : b ≠ W1.heap.size := by omega
  have n1 : bx ≠ W1.heap.size := by omega
  have LA : Hid (∀ o, FAt (W1.alloc o) f F ∧ Below W1.heap.size W1 (W1.alloc o)) := Hid.intro (fun o => by
    have bb : Below W1.heap.size W1 (W1.alloc o) := (Below.refl _ _).alloc (Nat.le_refl _) _
    exact ⟨(LE.out _ S1.out.2).2.2.below bb, bb⟩)
  have ZZ : Hid (∀ w4 : World, Below (W1.alloc (.cells #[.int .i64 0, .int .i64 0, .int .i64 0, .int .i64 0] 69)).drew.heap.size (W1.alloc (.cells #[.int .i64 0, .int .i64 0, .int .i64 0, .int .i64 0] 69)).drew w4 → w4.heap[W1.heap.size]? = some (.cells #[.int .i64 0, .int .i64 0, .int .i64 0, .int .i64 0] 69 (0, 0)) ∧ Below W1.heap.size W1 w4) := Hid.intro (fun w4 k => by
    have bb : Below W1.heap.size W1 (W1.alloc (.cells #[.int .i64 0, .int .i64 0, .int .i64 0, .int .i64 0] 69)) := (Below.refl _ _).alloc (Nat.le_refl _) _
    exact ⟨(k.block W1.heap.size (by show W1.heap.size < (W1.alloc _).heap.size; simp)).trans (heap_alloc_new W1 _), bb.drew.trans (k.mono (by show W1.heap.size ≤ (W1.alloc _).heap.size; simp))⟩)
  obtain ⟨ev, hev⟩ : ∃ ev, errV (Tr.nodeE F x.2) = ev := ⟨_, rfl⟩
  have HEV := Hid.intro hev
  clear hev
  go_upto_region 1 with fail
  go_cut [5, 6, 8] from 9 to 17 (fun s5 s6 _ wc => ∃ nb, s5 = .pointer (some ⟨nb, 0, none⟩) ∧ s6 = ev ∧ Hid (WB wc bx x ∧ Below bx w wc ∧ wc.cell? ⟨nb, 0, none⟩ = some (.int .i64 o1)))
  case first =>
    go_region_with (go_at_call 62; refine (tof_any f x.2 F _ (by first | exact (LE.out _ S1.out.2).2.2.drew | exact (LA.out _).1.drew)).mono ?_; rintro e w4 ⟨rfl, b4⟩; rw [OE.out.1, HEV.out]; try (have ZW := ZZ.out w4 b4; have z0 := act_cells ZW.1 0 (.int .i64 0) rfl; have z1 := act_cells ZW.1 1 (.int .i64 0) rfl; have z2 := act_cells ZW.1 2 (.int .i64 0) rfl; have z3 := act_cells ZW.1 3 (.int .i64 0) rfl; have zf := frozen_blk ZW.1))
    all_goals
      first
        | have F1 : Hid (WB (w4.alloc (.cells #[.int .i64 o1, .int .i64 o2, .int .i64 o3, .int .i64 o4] 69)) bx x ∧ Below bx w (w4.alloc (.cells #[.int .i64 o1, .int .i64 o2, .int .i64 o3, .int .i64 o4] 69)) ∧ (w4.alloc (.cells #[.int .i64 o1, .int .i64 o2, .int .i64 o3, .int .i64 o4] 69)).cell? ⟨w4.heap.size, 0, none⟩ = some (.int .i64 o1)) := Hid.intro (by
            have b5 : Below W1.heap.size W1 w4 := ⟨b4.os, b4.tape, b4.output, b4.size, b4.block⟩
            have b6 := b5.alloc b5.size (.cells #[.int .i64 o1, .int .i64 o2, .int .i64 o3, .int .i64 o4] 69)
            exact ⟨S1.out.1.below b6, S1.out.2.trans (b6.mono (LE.out _ S1.out.2).1), act_cells (heap_alloc_new w4 _) 0 _ rfl⟩)
          generalize w4.alloc (.cells #[.int .i64 o1, .int .i64 o2, .int .i64 o3, .int .i64 o4] 69) = W5 at *
          first | (go_wp2_with fail; go_meet) | go_meet
          case rel => exact ⟨_, rfl, rfl, F1⟩
        | have F1 : Hid (WB ((((w4.setCell ⟨W1.heap.size, 0, none⟩ (.int .i64 o1)).setCell ⟨W1.heap.size, 1, none⟩ (.int .i64 o2)).setCell ⟨W1.heap.size, 2, none⟩ (.int .i64 o3)).setCell ⟨W1.heap.size, 3, none⟩ (.int .i64 o4)) bx x ∧ Below bx w ((((w4.setCell ⟨W1.heap.size, 0, none⟩ (.int .i64 o1)).setCell ⟨W1.heap.size, 1, none⟩ (.int .i64 o2)).setCell ⟨W1.heap.size, 2, none⟩ (.int .i64 o3)).setCell ⟨W1.heap.size, 3, none⟩ (.int .i64 o4)) ∧ ((((w4.setCell ⟨W1.heap.size, 0, none⟩ (.int .i64 o1)).setCell ⟨W1.heap.size, 1, none⟩ (.int .i64 o2)).setCell ⟨W1.heap.size, 2, none⟩ (.int .i64 o3)).setCell ⟨W1.heap.size, 3, none⟩ (.int .i64 o4)).cell? ⟨W1.heap.size, 0, none⟩ = some (.int .i64 o1)) := Hid.intro (by
            have k := blk_set (blk_set (blk_set (blk_set ZW.1 0 (.int .i64 o1)) 1 (.int .i64 o2)) 2 (.int .i64 o3)) 3 (.int .i64 o4)
            have fr := ((((Frm.refl W1.heap.size w4).setCell 0 (.int .i64 o1)).setCell 1 (.int .i64 o2)).setCell 2 (.int .i64 o3)).setCell 3 (.int .i64 o4)
            have b6 := fr.below ZW.2 (Nat.le_refl _) ZW.2.size
            exact ⟨S1.out.1.below b6, S1.out.2.trans (b6.mono (LE.out _ S1.out.2).1), act_cells k 0 _ rfl⟩)
          generalize (((w4.setCell ⟨W1.heap.size, 0, none⟩ (.int .i64 o1)).setCell ⟨W1.heap.size, 1, none⟩ (.int .i64 o2)).setCell ⟨W1.heap.size, 2, none⟩ (.int .i64 o3)).setCell ⟨W1.heap.size, 3, none⟩ (.int .i64 o4) = W5 at *
          first | (go_wp2_with fail; go_meet) | go_meet
          case rel => exact ⟨_, rfl, rfl, F1⟩
  case rest =>
    obtain ⟨nb, rfl, rfl, S2⟩ := hcut
    clear c0 cx l0 l1 n0 n1 LA ZZ S1
    have PE : Hid (Mo.wroE F x = if Tr.nodeE F x.2 ≠ 0 then Tr.nodeE F x.2 else if (F.nd x.2.toNat).kind = 2 ∧ ((F.nd x.2.toNat).tree : Int) = x.1 then 0 else 11) := Hid.intro rfl
    by_cases e0 : Tr.nodeE F x.2 = 0
    · have HK := Hid.intro (OE.out.2 e0)
      have TN : Hid (Tr.treeN F x.2 = (F.nd x.2.toNat).tree) := Hid.intro (if_pos e0)
      rw [e0, if_neg (fun d => d rfl)] at PE
      have E0 := Hid.intro e0
      rw [← HEV.out, e0, errV_zero]
      clear e0
      have T2 := Hid.intro (LE.out _ S2.out.2.1).2
      have c0 := T2.out.1.c0
      have cx := S2.out.1.c1
      obtain ⟨tr, htr⟩ : ∃ tr, (F.nd x.2.toNat).tree = tr := ⟨_, rfl⟩
      obtain ⟨kd, hkd⟩ : ∃ kd, (F.nd x.2.toNat).kind = kd := ⟨_, rfl⟩
      rw [htr, hkd] at PE
      rw [hkd] at HK
      have TT : Hid (∀ nq, Calls Tryz.prog 67 #[.pointer (some ⟨f, 0, none⟩), .int .i64 x.2] (wc.drewN nq) fun e w' => e = .returned (.tuple #[.int .i64 (tr : Int), .nilIface]) ∧ w' = wc.drewN nq) := Hid.intro (fun nq => by
        have := ttree_any f x.2 F _ (T2.out.2.drewN nq)
        rw [TN.out, htr, E0.out, errV_zero] at this
        exact this)
      have SQ : Hid (∀ nq, WB (wc.drewN nq) bx x ∧ Below bx w (wc.drewN nq) ∧ (wc.drewN nq).cell? ⟨nb, 0, none⟩ = some (.int .i64 (kd : Int))) := Hid.intro (fun nq => ⟨S2.out.1, ⟨S2.out.2.1.os, S2.out.2.1.tape, S2.out.2.1.output, S2.out.2.1.size, S2.out.2.1.block⟩, by rw [← HK.out]; exact S2.out.2.2⟩)
      have d0 : wc.cell? ⟨nb, 0, none⟩ = some (.int .i64 (kd : Int)) := by rw [← HK.out]; exact S2.out.2.2
      have d1 := S2.out.1.c0
      clear htr hkd TN
      by_cases k2 : kd = 2
      · subst k2
        by_cases t2 : (tr : Int) = x.1
        · have FIN : Hid (Mo.wroE F x = 0) := Hid.intro (by rw [PE.out, if_pos ⟨rfl, t2⟩])
          have t2' : ((tr : Int) != x.1) = false := by simpa using t2
          have d0' : wc.cell? ⟨nb, 0, none⟩ = some (.int .i64 2) := d0
          have T2' := Hid.intro t2
          clear t2 d0
          go_wp2_with fail
          go_quiet ((go_at_call 67; exact Calls.quiet_of_same (TT.out _)))
          go_wp2_with fail
          go_ret
          rw [FIN.out, HBX.out]
          exact ⟨rfl, (SQ.out _).2.1⟩
        · have FIN : Hid (Mo.wroE F x = 11) := Hid.intro (by rw [PE.out, if_neg (fun h => t2 h.2)])
          have t2' : ((tr : Int) != x.1) = true := by simpa using t2
          have d0' : wc.cell? ⟨nb, 0, none⟩ = some (.int .i64 2) := d0
          clear d0
          go_wp2_with fail
          go_quiet ((go_at_call 67; exact Calls.quiet_of_same (TT.out _)))
          go_wp2_with fail
          go_ret
          rw [FIN.out, HBX.out]
          exact ⟨rfl, (SQ.out _).2.1⟩
      · have FIN : Hid (Mo.wroE F x = 11) := Hid.intro (by rw [PE.out, if_neg (fun h => k2 h.1)])
        have k2' : ((kd : Int) != 2) = true := by simp; omega
        have k2'' : ¬ (kd : Int) = 2 := by omega
        go_wp2_with fail
        go_quiet ((go_at_call 67; exact Calls.quiet_of_same (TT.out _)))
        go_wp2_with fail
        go_ret
        rw [FIN.out, HBX.out]
        exact ⟨rfl, (SQ.out _).2.1⟩
    · have FIN : Hid (Mo.wroE F x = Tr.nodeE F x.2 ∧ errV (Tr.nodeE F x.2) = .iface 83 (.int .i64 (Tr.nodeE F x.2))) := Hid.intro ⟨by rw [PE.out, if_pos e0], errV_ne e0⟩
      rw [← HEV.out, FIN.out.2]
      clear e0
      go_wp2_with fail
      go_ret
      rw [FIN.out.1, FIN.out.2, HBX.out]
      exact ⟨rfl, S2.out.2.1⟩
end Go.Proofs.YthdadmbpnoofoaaGreatDoor

/- The document's own memory: Unmap, whole. -/
import Derived.Test.YtnppahmlifnnnabMl
import Derived.Deep.CutRange
import Derived.Deep.CutBlock
namespace Go.Proofs.Ytnppahmlifnnnab
open Go.RowKit
open Bd (P)
open Mv (Me Bk)
set_option maxRecDepth 100000 in
set_option maxHeartbeats 1000000 in
theorem unmap_any (b r q : Nat) (a n : Int) (m : Me) (own : Nat → Bool) (k : Bk) (w : World) (h : MB w b r q m own k) (C : Mv.Cnt m k) :
    Calls Try.prog 62 #[.pointer (some ⟨b, 0, none⟩), .int .i64 a, .int .i64 n] w fun e w' => e = .returned (.tuple #[.int .i64 (Mv.unC m a n : Int), .int .i64 (Mv.unE a n)]) ∧ MB w' b r q (Mv.unM m a n) (Mv.unO own a n) (Mv.unK m k a n) ∧ Thr b r q w w' ∧ Mv.Cnt (Mv.unM m a n) (Mv.unK m k a n) := by
  have HF := Hid.intro (And.intro h C)
  cases hb : Mv.badB a n
  · obtain ⟨x, c, rfl, rfl, hx, hc, hxc⟩ := Mv.bad_no hb
    have HB := Hid.intro hb
    have S0 : Hid (UmAt b r q x m own k w 0 w) := Hid.intro (UmAt.start h C)
    have hw : IntKind.i64.wrap ((x : Int) + (c : Int)) = (x : Int) + (c : Int) := IntWalk.i64_in _ ⟨by omega, by omega⟩
    clear h hb C
    go_enter Try.func62, Try.ntmps62
    go_wp2_with fail
    refine (bad_any x c _).mono ?_
    rintro e w1 ⟨rfl, hw1⟩
    subst w1
    rw [HB.out]
    go_wp2_with fail
    go_loopw [8, 9] (fun s i wr => ∃ (j y : Nat), i = .int .i64 y ∧ Hid (y = x + j) ∧ s = .int .i64 (Mv.umC m x j : Int) ∧ j ≤ c ∧ Hid (UmAt b r q x m own k w j wr)) (fun _ i _ => x + c - (intOf i).toNat)
    case atStart => exact ⟨0, x, rfl, Hid.intro rfl, rfl, by omega, S0⟩
    case round =>
      clear S0
      obtain ⟨j, y, rfl, HY, rfl, hj, S⟩ := hrel
      have hy := HY.out
      by_cases hlt : j < c
      · have hltI : (y : Int) < (x : Int) + (c : Int) := by omega
        have hyI : (y : Int) < 16 := by omega
        have y16 : x + j < 16 := by omega
        have c1 := S.out.1.me.cIs y (by omega)
        have c2 := S.out.1.me.cFr y (by omega)
        have c3 := S.out.1.me.cOwn y (by omega)
        have c4 := S.out.1.me.cBank
        have cf := S.out.1.me.frozen
        have e0 : (Mv.umM m x (x + j)).fr y = m.fr y := if_neg (by omega)
        rw [e0] at c2
        have lc := Mv.umC_le m x j
        by_cases e : m.fr y = 0
        · have LE : Hid (Mv.umC m x (j + 1) = Mv.umC m x j) := Hid.intro (by show _ + (if m.fr (x + j) = 0 then 0 else 1) = _; rw [if_pos (by rw [← hy]; exact e)]; rfl)
          have S2 : Hid (UmAt b r q x m own k w (j + 1) ((wr.setCell ⟨b, 1 + y, none⟩ (.int .i64 0)).setCell ⟨b, 33 + y, none⟩ (.bool false))) := Hid.intro (by rw [hy]; exact S.out.no y16 (by rw [← hy]; exact e))
          rw [e] at c2
          have c2' : wr.cell? ⟨b, 17 + y, none⟩ = some (.int .i64 0) := c2
          clear c2 e e0 hy
          go_wp2_with fail
          go_roundw
          case rel => exact ⟨j + 1, y + 1, by go_num, Hid.intro (by have := HY.out; omega), by rw [LE.out], by omega, S2⟩
          case measure => simp [intOf]; omega
        · obtain ⟨v, hv⟩ : ∃ v, m.fr y = v + 1 := ⟨m.fr y - 1, by omega⟩
          have hv' : m.fr (x + j) = v + 1 := by rw [← hy]; exact hv
          have LE : Hid (Mv.umC m x (j + 1) = Mv.umC m x j + 1) := Hid.intro (by show _ + (if m.fr (x + j) = 0 then 0 else 1) = _; rw [if_neg (by omega)])
          have HV := Hid.intro hv'
          have v64 : v < 64 := by have := S.out.2.2.le y (by omega); rw [e0] at this; omega
          have hcn := S.out.2.2.cnt v v64
          have hcp : 1 ≤ (Mv.umK m k x j).refs v := Nat.le_trans (Mv.cntK_pos (fr := (Mv.umM m x (x + j)).fr) (i := y) (by omega) (by rw [e0]; exact hv)) hcn.1
          have HC : Hid (1 ≤ (Mv.umK m k x j).refs v ∧ (Mv.umK m k x j).refs v < 2 ^ 60) := Hid.intro ⟨hcp, by have := hcn.2; omega⟩
          rw [hv] at c2
          have hw1 : IntKind.i64.wrap (((v + 1 : Nat) : Int) - 1) = (v : Int) := by rw [IntWalk.i64_in _ ⟨by omega, by omega⟩]; omega
          have vp : (0 : Int) < ((v + 1 : Nat) : Int) := by omega
          have GEN : Hid (MAt (wr.setCell ⟨b, 1 + y, none⟩ (.int .i64 0)) b r { Mv.umM m x (x + j) with is := upn (Mv.umM m x (x + j)).is y 0 } (Mv.umO own x (x + j)) ∧ NAt (wr.setCell ⟨b, 1 + y, none⟩ (.int .i64 0)) r q (Mv.umK m k x j) ∧ (wr.setCell ⟨b, 1 + y, none⟩ (.int .i64 0)).cell? ⟨b, 17 + y, none⟩ = some (.int .i64 ((v : Int) + 1)) ∧ ∀ w2, NAt w2 r q (Mv.drp (Mv.umK m k x j) v) → Two r q (wr.setCell ⟨b, 1 + y, none⟩ (.int .i64 0)) w2 → UmAt b r q x m own k w (j + 1) ((w2.setCell ⟨b, 17 + y, none⟩ (.int .i64 0)).setCell ⟨b, 33 + y, none⟩ (.bool false))) := Hid.intro (by
            have mm := S.out.1.me.setIs y 0 (by omega)
            refine ⟨mm, S.out.1.bk.frm ((Frm.refl b wr).setCell _ _) S.out.1.br S.out.1.bq, ?_, fun w2 h2 t => ?_⟩
            · have q2 := mm.cFr y (by omega)
              rw [show (({ Mv.umM m x (x + j) with is := upn (Mv.umM m x (x + j)).is y 0 } : Me).fr y) = v + 1 from e0.trans hv] at q2
              exact q2
            · rw [hy] at t ⊢
              exact S.out.yes y16 (by rw [HV.out]; omega) rfl (by rw [HV.out]; exact h2) t)
          have HI : Hid (Bd.Inv (Mv.umK m k x j).pool ∧ b ≠ r ∧ b ≠ q) := Hid.intro ⟨S.out.2.2.inv, S.out.1.br, S.out.1.bq⟩
          clear e e0 hv hv' hcn hcp hy
          generalize Mv.umC m x j = lk at *
          have hlk : IntKind.i64.wrap ((lk : Int) + 1) = (lk : Int) + 1 := IntWalk.i64_in _ ⟨by omega, by omega⟩
          obtain ⟨z, hz⟩ : ∃ z : Int, (v : Int) + 1 = z := ⟨_, rfl⟩
          have hwz : IntKind.i64.wrap (z - 1) = (v : Int) := by rw [← hz, IntWalk.i64_in _ ⟨by omega, by omega⟩]; omega
          have hz0 : 0 < z := by omega
          rw [show ((v + 1 : Nat) : Int) = z from hz] at c2 hw1 vp
          rw [hz] at GEN
          clear hz hw1 vp
          go_upto_region 9 with fail
          refine wp_gen (fun W => MAt W b r { Mv.umM m x (x + j) with is := upn (Mv.umM m x (x + j)).is y 0 } (Mv.umO own x (x + j)) ∧ NAt W r q (Mv.umK m k x j) ∧ W.cell? ⟨b, 17 + y, none⟩ = some (.int .i64 z) ∧ ∀ w2, NAt w2 r q (Mv.drp (Mv.umK m k x j) v) → Two r q W w2 → UmAt b r q x m own k w (j + 1) ((w2.setCell ⟨b, 17 + y, none⟩ (.int .i64 0)).setCell ⟨b, 33 + y, none⟩ (.bool false))) GEN.out ?_
          intro W1 hW1
          have G1 := Hid.intro hW1
          have e0 := hW1.1.cBank
          have e1 := hW1.2.2.1
          clear hW1 GEN c1 c2 c3 c4 cf S
          have KP := Hid.intro (And.intro e0 e1)
          have KQ : Hid (∀ w2, Two r q W1 w2 → w2.cell? ⟨b, 0, none⟩ = some (.pointer (some ⟨r, 0, none⟩)) ∧ w2.cell? ⟨b, 17 + y, none⟩ = some (.int .i64 z)) := Hid.intro (fun w2 t => by
            have e := t.block b G1.out.1.lt HI.out.2.1 HI.out.2.2
            exact ⟨(World.cell?_of_block e).trans KP.out.1, (World.cell?_of_block e).trans KP.out.2⟩)
          go_region_held3 (fun w' => w'.cell? ⟨b, 0, none⟩ = some (.pointer (some ⟨r, 0, none⟩)) ∧ w'.cell? ⟨b, 17 + y, none⟩ = some (.int .i64 z)) (first | exact KP.out | exact K4.out) ((go_at_call 125; refine (ndrop_any r q v (Mv.umK m k x j) _ G1.out.2.1.drew v64 HI.out.1 HC.out.1 HC.out.2).mono ?_; rintro e w2 ⟨rfl, hk2, F2⟩; have H4 : Hid (NAt w2 r q (Mv.drp (Mv.umK m k x j) v) ∧ Two r q W1 w2) := Hid.intro ⟨hk2, ⟨F2.os, F2.tape, F2.output, F2.size, F2.block⟩⟩; have K4 : Hid (w2.cell? ⟨b, 0, none⟩ = some (.pointer (some ⟨r, 0, none⟩)) ∧ w2.cell? ⟨b, 17 + y, none⟩ = some (.int .i64 z)) := Hid.intro (KQ.out w2 H4.out.2); clear hk2 F2))
          clear KP K4 KQ
          all_goals
            have S2 : Hid (UmAt b r q x m own k w (j + 1) ((w2.setCell ⟨b, 17 + y, none⟩ (.int .i64 0)).setCell ⟨b, 33 + y, none⟩ (.bool false))) := Hid.intro (G1.out.2.2.2 w2 H4.out.1 H4.out.2)
            have MM : MAt w2 b r _ _ := G1.out.1.two H4.out.2 HI.out.2.1 HI.out.2.2
            have d2 := MM.cFr y (by omega)
            have d3 := MM.cOwn y (by omega)
            have df := MM.frozen
            clear H4 MM e0 e1 G1
            go_wp2_with fail
            go_roundw
            case rel => exact ⟨j + 1, y + 1, by go_num, Hid.intro (by have := HY.out; omega), by rw [LE.out]; go_num, by omega, S2⟩
            case measure => simp [intOf]; omega
      · have hltI : ¬ (y : Int) < (x : Int) + (c : Int) := by omega
        have hk : j = c := by omega
        subst hk
        clear hy
        have HE : Hid (Mv.unC m x j = Mv.umC m x j ∧ Mv.unE x j = 0 ∧ Mv.unM m x j = Mv.umM m x (x + j) ∧ Mv.unO own x j = Mv.umO own x (x + j) ∧ Mv.unK m k x j = Mv.umK m k x j) := Hid.intro (by
          unfold Mv.unC Mv.unE Mv.unM Mv.unO Mv.unK
          rw [HB.out, Int.toNat_natCast, Int.toNat_natCast]
          exact ⟨rfl, rfl, rfl, rfl, rfl⟩)
        go_wp2_with fail
        go_ret2
        exact ⟨by rw [HE.out.1, HE.out.2.1]; rfl, by rw [HE.out.2.2.1, HE.out.2.2.2.1, HE.out.2.2.2.2]; exact S.out⟩
  · have HE : Hid (Mv.badB a n = true ∧ Mv.unC m a n = 0 ∧ Mv.unE a n = 1 ∧ Mv.unM m a n = m ∧ Mv.unO own a n = own ∧ Mv.unK m k a n = k) := Hid.intro (by
      unfold Mv.unC Mv.unE Mv.unM Mv.unO Mv.unK
      rw [hb]
      exact ⟨rfl, rfl, rfl, rfl, rfl, rfl⟩)
    clear h hb C
    go_enter Try.func62, Try.ntmps62
    go_wp2_with fail
    refine (bad_any a n _).mono ?_
    rintro e w1 ⟨rfl, hw1⟩
    subst w1
    rw [HE.out.1]
    go_wp2_with fail
    go_ret2
    exact ⟨by rw [HE.out.2.1, HE.out.2.2.1]; rfl, by rw [HE.out.2.2.2.1, HE.out.2.2.2.2.1, HE.out.2.2.2.2.2]; exact HF.out.1, Thr.refl _ _ _ _, by rw [HE.out.2.2.2.1, HE.out.2.2.2.2.2]; exact HF.out.2⟩
end Go.Proofs.Ytnppahmlifnnnab

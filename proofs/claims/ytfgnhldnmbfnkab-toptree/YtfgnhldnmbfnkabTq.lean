/- The code's forest: List. -/
import Derived.Test.YtfgnhldnmbfnkabTp
namespace Go.Proofs.Ytfgnhldnmbfnkab
open Go.RowKit
open Tr (Fo Nd)

def Tr.lisL (F : Fo) (z : Int) : List ByteArray := if Tr.isE F z 2 = 0 then srtS (Tr.nmK (F.nd z.toNat) (F.nd z.toNat).size) else []
set_option maxRecDepth 100000 in
set_option maxHeartbeats 2000000 in
theorem tlist_any (b : Nat) (z : Int) (F : Fo) (w : World) (h : FAt w b F) (hs : Tr.SzOk F) :
    Calls Try.prog 54 #[.pointer (some ⟨b, 0, none⟩), .int .i64 z] w fun e w' => ∃ v, e = .returned (.tuple #[v, errV (Tr.isE F z 2)]) ∧ SO w (Tr.lisL F z) v w' := by
  have HF := Hid.intro h
  by_cases c : Tr.isE F z 2 = 0
  · obtain ⟨n, rfl, n40, _, k2⟩ := Tr.isE_ok c
    have hm8 := hs n n40 k2
    have EP : Hid (Tr.isE F (n : Int) 2 = 0 ∧ ptrE b (n : Int) 0 = .pointer (some ⟨b, n * 62, none⟩) ∧ Tr.lisL F (n : Int) = srtS (Tr.nmK (F.nd n) (F.nd n).size)) := Hid.intro ⟨c, ptrE_ok b n, by unfold Tr.lisL; rw [if_pos c, Int.toNat_natCast]⟩
    have HM8 := Hid.intro hm8
    obtain ⟨i0, hi0, hz0, hz1, hz2⟩ := infoSt
    clear h c hs k2
    go_enter Try.func54, Try.ntmps54
    go_wp2_with fail
    refine (tdir_any b n F _ HF.out).mono ?_
    rintro e w1 ⟨rfl, hw1⟩
    subst w1
    rw [EP.out.1, EP.out.2.1, errV_zero]
    go_wp2_with fail
    refine (tentries_any b n F _ HF.out n40 HM8.out).mono ?_
    rintro e w1 ⟨rfl, kd, hw1⟩
    have S0 : Hid (SO w [] (.slice none 0 0) w1) := Hid.intro (by
      have := Below.refl w.heap.size w
      rw [hw1]
      exact (SO.start w).below ⟨this.os, this.tape, this.output, this.size, this.block⟩)
    clear hw1
    obtain ⟨sz, hsz⟩ : ∃ sz, (F.nd n).size = sz := ⟨_, rfl⟩
    have HSZ := Hid.intro hsz
    rw [hsz] at hm8 ⊢
    clear hsz
    go_wp2_with fail
    go_loopw [8, 10, 23] (fun v x i wr => ∃ (j : Nat), i = .int .i64 j ∧ j ≤ sz ∧ Hid (SO w (Tr.nmK (F.nd n) j) v wr)) (fun _ _ i _ => sz - (intOf i).toNat)
    case atStart => exact ⟨0, rfl, by omega, S0⟩
    case round =>
      obtain ⟨j, rfl, hj, R⟩ := hrel
      by_cases hlt : j < sz
      · have hltI : (j : Int) < (sz : Int) := by omega
        have hb := HF.out.below R.out.bel
        have c0 := hb.cNam n j n40 (by omega)
        have c1 := hb.cKid n j n40 (by omega)
        have SE := Hid.intro (Tr.nmK_succ (F.nd n) j)
        obtain ⟨nm, hnm⟩ : ∃ nm, (F.nd n).nam j = nm := ⟨_, rfl⟩
        rw [hnm] at c0 SE
        generalize (F.nd n).kid j = kk at c1
        clear hb hnm
        go_upto_region 8 with fail
        refine wp_gen (fun W => SO w (Tr.nmK (F.nd n) j) u8 W ∧ W.cell? ⟨wr.heap.size, 0, none⟩ = some (.string nm)) ⟨R.out.below ((Below.refl _ _).alloc (Nat.le_refl _) _), by rw [cell_blk (heap_alloc_new wr _)]; rfl⟩ ?_
        intro W1 h1
        have S1 := Hid.intro h1.1
        have c2 := h1.2
        clear h1 R c0 c1
        obtain ⟨va, vc, hv⟩ := S1.out.form
        rw [Tr.nmK_len] at hv
        subst hv
        go_wp2_with (at_builtin; refine wpList_append_lies _ rfl _ _ 78 (by rfl) w.heap.size 9 i0 (.string ⟨#[]⟩) 1 16 Try.underlying78 hi0 hz0 hz1 hz2 rfl (by decide) (.slice va j vc) j (stC (Tr.nmK (F.nd n) j)) (by rfl) (by have := S1.out.own; rw [Tr.nmK_len] at this; exact this.alloc _) ⟨W1.heap.size, 0, none⟩ 1 1 [.string nm] (by rfl) rfl (World.news_of_block (heap_alloc_new W1 _)) (by simp [Value.oneCell']) (by decide) (by unfold maxLen; omega) (by omega) (by have := S1.out.bel.size; simp; omega) (W1.heap.size + 1) (by simp) ?_; intro gg cap2 w2 hown hgrow hat hlt2; have Q1 : Hid (SO w (Tr.nmK (F.nd n) j ++ [nm]) (.slice (some ⟨gg, 0, none⟩) (j + 1) cap2) w2) := Hid.intro (S1.out.more nm (Tr.nmK_len _ _) hown _ hgrow); clear hown hgrow hat hlt2)
        go_roundw
        case rel => exact ⟨j + 1, by go_num, by omega, by rw [SE.out]; exact Q1⟩
        case measure => simp [intOf]; omega
      · have hltI : ¬ (j : Int) < (sz : Int) := by omega
        obtain rfl : j = sz := by omega
        have hln := Tr.nmK_len (F.nd n) j
        go_wp2_with fail
        refine (sortS_any w _ _ _ R.out (by omega)).mono ?_
        rintro e w2 ⟨rfl, h2⟩
        have FIN : Hid (SO w (Tr.lisL F (n : Int)) u8 w2) := Hid.intro (by rw [EP.out.2.2, HSZ.out]; exact h2)
        clear h2
        go_wp2_with fail
        go_ret2
        rw [EP.out.1]
        exact ⟨_, rfl, FIN.out⟩
  · have E2 : Hid (ptrE b z (Tr.isE F z 2) = .pointer none ∧ errV (Tr.isE F z 2) = .iface 128 (.int .i64 (Tr.isE F z 2)) ∧ Tr.lisL F z = []) := Hid.intro ⟨ptrE_no c, errV_ne c, if_neg c⟩
    clear h c hs
    go_enter Try.func54, Try.ntmps54
    go_wp2_with fail
    refine (tdir_any b z F _ HF.out).mono ?_
    rintro e w1 ⟨rfl, hw⟩
    subst w1
    rw [E2.out.1, E2.out.2.1]
    go_wp2_with fail
    go_ret2
    rw [E2.out.2.1, E2.out.2.2]
    exact ⟨_, rfl, SO.start w⟩
end Go.Proofs.Ytfgnhldnmbfnkab

/- The walk of MoveTask. -/
import Derived.Test.YtgabfkaadflciaaGa
import Derived.Deep.RegionHeld3
namespace Go.Proofs.Ytgabfkaadflciaa
open Go.RowKit
open Hp (Q)
open Fr (Un M)

theorem toNat10 (n : Nat) : ((10 : Int) + (n : Int)).toNat = 10 + n := by omega
attribute [local go_sem] toNat10
theorem put4_w {w : World} {b : Nat} {m : M} (h : Fair w b m) (u g wt : Nat) (h0 : 0 < u) (hu : u < 30) : ((((w.setCell ⟨b, 1 + u * 4, none⟩ (.bool true)).setCell ⟨b, 1 + u * 4 + 1, none⟩ (.int .i64 (g : Int))).setCell ⟨b, 1 + u * 4 + 2, none⟩ (.int .u64 (wt : Int))).setCell ⟨b, 1 + u * 4 + 3, none⟩ (.int .u64 0)).cell? ⟨b, 1 + u * 4 + 2, none⟩ = some (.int .u64 (wt : Int)) := by
  obtain ⟨qs, hS, _⟩ := h
  have := (hS.put4 u g wt 0 h0 hu).cWeight u h0 hu
  rw [Fr.set_same] at this
  exact this

set_option maxRecDepth 100000 in
set_option maxHeartbeats 1000000 in
theorem moveTask_any (b : Nat) (z zg : Int) (m : M) (w : World) (h : Fair w b m) (hI : Fr.Inv m) (hS : Fr.Sync m) :
    Calls Try.prog 109 #[.pointer (some ⟨b, 0, none⟩), .int .i64 z, .int .i64 zg] w fun e w' => e = .returned (errV (Fr.moveE m z zg)) ∧ ∃ m', Fr.MoveTo m z zg m' ∧ Fair w' b m' ∧ Frm b w w' := by
  have HF := Hid.intro h
  have HI := Hid.intro hI
  have HS := Hid.intro hS
  have NO : Hid (∀ E, Fr.moveE m z zg = E → E ≠ 0 → ∃ m', Fr.MoveTo m z zg m' ∧ Fair w b m' ∧ Frm b w w) := Hid.intro (fun E e h0 => ⟨m, .inr ⟨by rw [e]; exact h0, rfl⟩, HF.out, Frm.refl b w⟩)
  clear h hI hS
  rcases taskE_cases m z with k | k
  · have HK := Hid.intro k
    rcases groupE_cases m zg with kg | kg
    · have HKG := Hid.intro kg
      have HE : Hid (Fr.moveE m z zg = 0) := Hid.intro (by unfold Fr.moveE; rw [if_pos k, kg])
      obtain ⟨n, rfl, hn, hh⟩ := Fr.taskE_zero k
      obtain ⟨G, rfl, hG, hGh⟩ := Fr.groupE_zero kg
      have HH := Hid.intro hh
      have HGH := Hid.intro hGh
      have hnI : (n : Int) < 20 := by omega
      have h30 : (10 : Int) + (n : Int) < 30 := by omega
      have h00 : (0 : Int) ≤ 10 + (n : Int) := by omega
      have hwr : IntKind.i64.wrap (10 + (n : Int)) = 10 + (n : Int) := IntWalk.i64_in _ ⟨by omega, by omega⟩
      have ca : w.cell? ⟨b, 2101 + n * 2, none⟩ = some (.bool (m.u (10 + n)).awake) := by obtain ⟨qs, hS, _⟩ := HF.out; exact hS.cAwake n hn
      obtain ⟨x, hx⟩ : ∃ x, m.u (10 + n) = x := ⟨_, rfl⟩
      have HX := Hid.intro hx
      rw [hx] at ca
      clear k kg hh hGh hx
      go_enter Try.func109, Try.ntmps109
      go_wp2_with fail
      refine (wrongTask_any b n m _ HF.out).mono ?_
      rintro e w1 ⟨rfl, hw⟩
      subst w1
      rw [HK.out, errV_zero]
      go_wp2_with fail
      refine (wrongGroup_any b G m _ HF.out).mono ?_
      rintro e w1 ⟨rfl, hw⟩
      subst w1
      rw [HKG.out, errV_zero]
      go_wp2_with fail
      refine (rouse_any b n false m _ HF.out HI.out hn HH.out).mono ?_
      rintro e w1 ⟨rfl, m1, k1, f1, r1⟩
      have K1 : Hid (Fr.Look (m.set (10 + n) { m.u (10 + n) with awake := false }) (10 + n) m1) := k1
      have AS := Hid.intro (Fr.asleep HI.out HS.out hn HH.out K1.out)
      have A1 := Hid.intro f1
      have R1 := Hid.intro r1
      have MI : Hid (Fr.Inv (m1.set (10 + n) (Fr.moved x G))) := Hid.intro (by rw [← HX.out]; exact (Fr.moved_inv HI.out HS.out hn HH.out hG HGH.out K1.out).1)
      have TE : Hid (Fr.taskE (m1.set (10 + n) (Fr.moved x G)) n = 0) := Hid.intro (Fr.taskE_nat hn (by rw [Fr.set_same]; rfl))
      have cw : w1.cell? ⟨b, 1 + (10 + n) * 4 + 2, none⟩ = some (.int .u64 (x.weight : Int)) := by
        obtain ⟨qs, hS, _⟩ := f1
        rw [← HX.out, ← AS.out.2.2.2.2.2.2.1]; exact hS.cWeight (10 + n) (by omega) (by omega)
      have HL : Hid (b < w1.heap.size) := f1.lt
      clear k1 r1 ca f1
      go_wp2_with fail
      go_region_held3 (fun w' => w'.cell? ⟨b, 1 + (10 + n) * 4 + 2, none⟩ = some (.int .u64 (x.weight : Int))) (first | go_keep | exact put4_w HF2.out (10 + n) G x.weight (by omega) (by omega)) ((go_at_call 154; refine (newUnit_any _ _ _).mono ?_; rintro e w2 ⟨rfl, hb2⟩; have F2 : Fair w2 b m1 := A1.out.drew.same (hb2.block b HL.out); have t0 := F2.cHere (10 + n) (by omega); have ts : ∃ v1 v3, w2.cell? ⟨b, 1 + (10 + n) * 4 + 1, none⟩ = some v1 ∧ w2.cell? ⟨b, 1 + (10 + n) * 4 + 2, none⟩ = some (.int .u64 (x.weight : Int)) ∧ w2.cell? ⟨b, 1 + (10 + n) * 4 + 3, none⟩ = some v3 := (by have ew := AS.out.2.2.2.2.2.2.1; rw [HX.out] at ew; obtain ⟨qs, hS, _⟩ := F2; exact ⟨_, _, hS.cIn (10 + n) (by omega), by rw [← ew]; exact hS.cWeight (10 + n) (by omega) (by omega), hS.cTime (10 + n) (by omega)⟩); obtain ⟨v1, v3, t1, t2, t3⟩ := ts; have cf := F2.frozen; have HF2 : Hid (Fair w2 b m1) := F2; have HB2 : Hid (Frm b w w2) := Hid.intro (R1.out.drew.trans (Frm.of_below hb2)); clear F2 hb2))
      clear t0 t1 t2 t3 cf
      have A2 : Hid (Fair ((((w2.setCell ⟨b, 1 + (10 + n) * 4, none⟩ (.bool true)).setCell ⟨b, 1 + (10 + n) * 4 + 1, none⟩ (.int .i64 (G : Int))).setCell ⟨b, 1 + (10 + n) * 4 + 2, none⟩ (.int .u64 (x.weight : Int))).setCell ⟨b, 1 + (10 + n) * 4 + 3, none⟩ (.int .u64 0)) b (m1.set (10 + n) (Fr.moved x G)) ∧ Frm b w ((((w2.setCell ⟨b, 1 + (10 + n) * 4, none⟩ (.bool true)).setCell ⟨b, 1 + (10 + n) * 4 + 1, none⟩ (.int .i64 (G : Int))).setCell ⟨b, 1 + (10 + n) * 4 + 2, none⟩ (.int .u64 (x.weight : Int))).setCell ⟨b, 1 + (10 + n) * 4 + 3, none⟩ (.int .u64 0))) := Hid.intro (by
        have asl := AS.out
        rw [HX.out] at asl
        obtain ⟨_, _, _, _, aw, aa, _, ar, _⟩ := asl
        obtain ⟨qs, hS, hC⟩ := HF2.out
        refine ⟨⟨qs, (hS.put4 (10 + n) G x.weight 0 (by omega) (by omega)).task_like (four rfl rfl rfl rfl) (two ?_ ?_), hC.fresh aw rfl⟩, (((HB2.out.setCell _ _).setCell _ _).setCell _ _).setCell _ _⟩
        · show Value.bool false = Value.bool (m1.u (10 + n)).awake; rw [aa]
        · show Value.int .i64 (x.ran : Int) = Value.int .i64 ((m1.u (10 + n)).ran : Int); rw [ar])
      go_wp2_with fail
      refine (rouse_any b n x.awake _ _ A2.out.1 MI.out hn (by rw [Fr.set_same]; rfl)).mono ?_
      rintro e w3 ⟨rfl, m3, k3, f3, r3⟩
      have FIN : Hid (∃ m', Fr.MoveTo m n G m' ∧ Fair w3 b m' ∧ Frm b w w3) := Hid.intro ⟨m3, .inl ⟨HE.out, m1, K1.out, by rw [Int.toNat_natCast, HX.out]; exact .inl ⟨TE.out, by rw [Int.toNat_natCast]; exact k3⟩⟩, f3, A2.out.2.trans r3⟩
      clear k3 f3 r3
      go_wp2_with fail
      go_ret
      rw [HE.out]; exact ⟨rfl, FIN.out⟩
    · obtain ⟨E, hE⟩ : ∃ E, Fr.groupE m zg = E := ⟨_, rfl⟩
      have HG := Hid.intro hE
      rw [hE] at kg
      have HE : Hid (Fr.moveE m z zg = E) := Hid.intro (by unfold Fr.moveE; rw [if_pos k, hE])
      have E0 : E ≠ 0 := by omega
      clear hE k
      go_enter Try.func109, Try.ntmps109
      go_wp2_with fail
      refine (wrongTask_any b z m _ HF.out).mono ?_
      rintro e w1 ⟨rfl, hw⟩
      subst w1
      rw [HK.out, errV_zero]
      go_wp2_with fail
      refine (wrongGroup_any b zg m _ HF.out).mono ?_
      rintro e w1 ⟨rfl, hw⟩
      subst w1
      rw [HG.out, errV_ne E0]
      go_wp2
      go_ret
      have := NO.out E HE.out E0
      exact ⟨by rw [HE.out, errV_ne E0]; rfl, this⟩
  · obtain ⟨E, hE⟩ : ∃ E, Fr.taskE m z = E := ⟨_, rfl⟩
    have HG := Hid.intro hE
    rw [hE] at k
    have HE : Hid (Fr.moveE m z zg = E) := Hid.intro (by unfold Fr.moveE; rw [hE, if_neg (by omega)])
    have E0 : E ≠ 0 := by omega
    clear hE
    go_enter Try.func109, Try.ntmps109
    go_wp2_with fail
    refine (wrongTask_any b z m _ HF.out).mono ?_
    rintro e w1 ⟨rfl, hw⟩
    subst w1
    rw [HG.out, errV_ne E0]
    go_wp2
    go_ret
    have := NO.out E HE.out E0
    exact ⟨by rw [HE.out, errV_ne E0]; rfl, this⟩

end Go.Proofs.Ytgabfkaadflciaa

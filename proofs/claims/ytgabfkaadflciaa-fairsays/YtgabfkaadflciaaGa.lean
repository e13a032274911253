/- The walks of DropTask, DropGroup, MoveTask. -/
import Derived.Test.YtgabfkaadflciaaFc
import Derived.Test.YtgabfkaadflciaaRi
namespace Go.Proofs.Ytgabfkaadflciaa
open Go.RowKit
open Hp (Q)
open Fr (Un M)

/-- What a task's cells do not say may be otherwise. -/
theorem SAt.task_like {w : World} {b : Nat} {m : M} {qs : Nat → Q} {n : Nat} {x y : Un} (h : SAt w b (m.set (10 + n) x) qs) (e1 : ∀ k, k < 4 → unitC (10 + n) y k = unitC (10 + n) x k) (e2 : ∀ k, k < 2 → taskC y k = taskC x k) : SAt w b (m.set (10 + n) y) qs := by
  refine ⟨h.blk, h.now, fun u f hu hf => ?_, h.que, fun g f hg hf => ?_, fun k f hk hf => ?_⟩
  · rw [h.unit u f hu hf]
    by_cases e : u = 10 + n
    · subst e; rw [Fr.set_same, Fr.set_same, e1 f hf]
    · rw [Fr.set_ne _ _ _ _ e, Fr.set_ne _ _ _ _ e]
  · rw [h.grp g f hg hf, Fr.set_ne _ _ _ _ (by omega), Fr.set_ne _ _ _ _ (by omega)]
  · rw [h.task k f hk hf]
    by_cases e : k = n
    · subst e; rw [Fr.set_same, Fr.set_same, e2 f hf]
    · rw [Fr.set_ne _ _ _ _ (by omega), Fr.set_ne _ _ _ _ (by omega)]
theorem SAt.noTask {w : World} {b : Nat} {m : M} {qs : Nat → Q} (h : SAt w b m qs) (n : Nat) (hn : n < 20) :
    SAt ((((((w.setCell ⟨b, 1 + (10 + n) * 4, none⟩ (.bool false)).setCell ⟨b, 1 + (10 + n) * 4 + 1, none⟩ (.int .i64 0)).setCell ⟨b, 1 + (10 + n) * 4 + 2, none⟩ (.int .u64 0)).setCell ⟨b, 1 + (10 + n) * 4 + 3, none⟩ (.int .u64 0)).setCell ⟨b, 2101 + n * 2, none⟩ (.bool false)).setCell ⟨b, 2101 + n * 2 + 1, none⟩ (.int .i64 0)) b (m.set (10 + n) Un.no) qs := by
  have := (((((h.setHere (10 + n) false (by omega)).setIn (10 + n) 0 (by omega)).setWeight (10 + n) 0 (by omega) (by omega)).setTime (10 + n) 0 (by omega)).setAwake n false hn).setRan n 0 hn
  simp only [Fr.set_same, Fr.set_set] at this
  exact this.task_like (four rfl rfl rfl rfl) (two rfl rfl)

set_option maxRecDepth 100000 in
set_option maxHeartbeats 1000000 in
theorem dropTask_any (b : Nat) (z : Int) (m : M) (w : World) (h : Fair w b m) (hI : Fr.Inv m) (hS : Fr.Sync m) :
    Calls Try.prog 107 #[.pointer (some ⟨b, 0, none⟩), .int .i64 z] w fun e w' => e = .returned (errV (Fr.taskE m z)) ∧ ∃ m', Fr.DropTo m z m' ∧ Fair w' b m' ∧ Frm b w w' := by
  have HF := Hid.intro h
  have HI := Hid.intro hI
  have HS := Hid.intro hS
  clear h hI hS
  rcases taskE_cases m z with k | k
  · have HK := Hid.intro k
    obtain ⟨n, rfl, hn, hh⟩ := Fr.taskE_zero k
    have HH := Hid.intro hh
    have hnI : (n : Int) < 20 := by omega
    clear k hh
    go_enter Try.func107, Try.ntmps107
    go_wp2_with fail
    refine (wrongTask_any b n m _ HF.out).mono ?_
    rintro e w1 ⟨rfl, hw⟩
    subst w1
    rw [HK.out, errV_zero]
    go_wp2_with fail
    refine (rouse_any b n false m _ HF.out HI.out hn HH.out).mono ?_
    rintro e w1 ⟨rfl, m1, k1, f1, r1⟩
    have A1 := Hid.intro f1
    have R1 := Hid.intro r1
    have K1 : Hid (Fr.Look (m.set (10 + n) { m.u (10 + n) with awake := false }) (10 + n) m1) := k1
    have WS : Hid ((m1.u (10 + n)).was = false) := (Fr.asleep HI.out HS.out hn HH.out K1.out).2.2.2.2.1
    obtain ⟨qs, hS, hC⟩ := f1
    have c0 := hS.cHere (10 + n) (by omega)
    have c1 := hS.cIn (10 + n) (by omega)
    have c2 := hS.cWeight (10 + n) (by omega) (by omega)
    have c3 := hS.cTime (10 + n) (by omega)
    have c4 := hS.cAwake n hn
    have c5 := hS.cRan n hn
    have cf := hS.frozen
    have HS1 := Hid.intro hS
    have HC1 := Hid.intro hC
    clear k1 r1 hS hC
    go_wp2_with fail
    go_region
    generalize hW2 : World.drew _ = W2
    have F2 : Hid (Fair W2 b (m1.set (10 + n) Un.no) ∧ Frm b w W2) := Hid.intro (by rw [← hW2]; exact ⟨⟨qs, (HS1.out.noTask n hn).drew, HC1.out.fresh WS.out rfl⟩, ((((((R1.out.setCell _ _).setCell _ _).setCell _ _).setCell _ _).setCell _ _).setCell _ _).drew⟩)
    clear hW2 c0 c1 c2 c3 c4 c5 cf
    go_wp2_with fail
    go_ret
    rw [HK.out]
    exact ⟨rfl, _, .inl ⟨HK.out, m1, by rw [Int.toNat_natCast]; exact K1.out, rfl⟩, by rw [Int.toNat_natCast]; exact F2.out⟩
  · obtain ⟨E, hE⟩ : ∃ E, Fr.taskE m z = E := ⟨_, rfl⟩
    have HE := Hid.intro hE
    rw [hE] at k
    have E0 : E ≠ 0 := by omega
    clear hE
    go_enter Try.func107, Try.ntmps107
    go_wp2_with fail
    refine (wrongTask_any b z m _ HF.out).mono ?_
    rintro e w1 ⟨rfl, hw⟩
    subst w1
    rw [HE.out, errV_ne E0]
    go_wp2
    go_ret
    rw [HE.out, errV_ne E0]
    exact ⟨rfl, m, .inr ⟨by rw [HE.out]; exact E0, rfl⟩, HF.out, Frm.refl b w⟩

end Go.Proofs.Ytgabfkaadflciaa

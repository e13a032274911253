/- The walks of settle and rouse. -/
import Derived.Test.YtgabfkaadflciaaLn
namespace Go.Proofs.Ytgabfkaadflciaa
open Go.RowKit
open Hp (Q)
open Fr (Un M)

theorem InG.of {m : M} (h : Fr.Inv m) {u : Nat} (h0 : 0 < u) (hu : u < 30) (hh : (m.u u).here = true) : InG m u (Fr.grp m u) :=
  ⟨h0, hu, hh, (h.grp h0 hu hh).1, (h.grp h0 hu hh).2.1⟩
theorem Fair.in_ {w : World} {b : Nat} {m : M} (h : Fair w b m) {u g : Nat} (hI : InG m u g) : w.cell? ⟨b, 1 + u * 4 + 1, none⟩ = some (.int .i64 (g : Int)) := by
  obtain ⟨qs, hS, _⟩ := h
  rw [hS.cIn u hI.lt, hI.inn]

/-- What settle has in its hands. -/
structure StI (w : World) (b : Nat) (m : M) (u : Nat) (rk : Nat → Nat) (R : Nat) (W : World) (v : Nat) (mi : M) : Prop where
  fair : Fair W b mi
  frm : Frm b w W
  inv : Fr.Inv mi
  lt : v < 30
  here : (mi.u v).here = true
  rank : Fr.Rank mi rk R
  look : ∀ m', Fr.Look mi v m' → Fr.Look m u m'

set_option maxRecDepth 100000 in
set_option maxHeartbeats 1000000 in
theorem settle_any (b u : Nat) (m : M) (w : World) (h : Fair w b m) (hI : Fr.Inv m) (hu : u < 30) (hh : (m.u u).here = true) :
    Calls Try.prog 122 #[.pointer (some ⟨b, 0, none⟩), .int .i64 u] w fun e w' => e = .returned (.tuple #[]) ∧ ∃ m', Fr.Look m u m' ∧ Fair w' b m' ∧ Frm b w w' := by
  obtain ⟨rk, R, hR⟩ := hI.tree
  have H0 : Hid (StI w b m u rk R w u m) := ⟨h, Frm.refl b w, hI, hu, hh, hR, fun _ k => k⟩
  clear h hI hh hR
  go_enter Try.func122, Try.ntmps122
  go_wp2
  go_loopw [1] (fun i wr => ∃ (v : Nat) (mi : M), i = .int .i64 v ∧ v < 30 ∧ Hid (StI w b m u rk R wr v mi)) (fun i _ => rk (intOf i).toNat)
  case atStart => exact ⟨u, m, rfl, hu, H0⟩
  case round =>
    clear H0
    obtain ⟨v, mi, rfl, hv, H⟩ := hrel
    by_cases h0 : v = 0
    · subst h0
      go_wp2
      go_end0
      exact ⟨rfl, mi, H.out.look mi (.root mi), H.out.fair, H.out.frm⟩
    · have k0 : ((v : Int) != 0) = true := by rw [bne_iff_ne]; omega
      have HG : Hid (InG mi v (Fr.grp mi v)) := InG.of H.out.inv (by omega) hv H.out.here
      have HG2 : Hid ((mi.u (Fr.grp mi v)).here = true ∧ rk (Fr.grp mi v) < rk v) := Hid.intro (by
        obtain ⟨g, h1, h2, h3, h4⟩ := H.out.rank.up v (by omega) hv H.out.here
        have e : Fr.grp mi v = g := by unfold Fr.grp; rw [h2]; rfl
        rw [e]; exact ⟨h3, h4⟩)
      go_wp2_with fail
      refine (line_any b v (Fr.grp mi v) mi _ H.out.fair HG.out).mono ?_
      rintro e w1 ⟨rfl, f1, r1⟩
      have H1 : Hid (StI w b m u rk R w1 (Fr.grp mi v) (Fr.line mi v)) := ⟨f1, H.out.frm.trans r1, H.out.inv.line HG.out.pos HG.out.lt HG.out.here, by have := HG.out.glt; omega, by rw [Fr.line_here]; exact HG2.out.1, H.out.rank.turn (Fr.line_here mi v) (Fr.line_inn mi v), fun m' k => H.out.look m' (.up h0 k)⟩
      have c1 : w1.cell? ⟨b, 1 + v * 4 + 1, none⟩ = some (.int .i64 (Fr.grp mi v : Int)) := f1.in_ ⟨HG.out.pos, HG.out.lt, by rw [Fr.line_here]; exact HG.out.here, HG.out.glt, by rw [Fr.line_inn]; exact HG.out.inn⟩
      have hvI : (v : Int) < 30 := by omega
      clear f1 r1
      go_wp2_with fail
      go_roundw
      case rel => exact ⟨_, _, rfl, by have := HG.out.glt; omega, H1⟩
      case measure => simp [intOf]; exact HG2.out.2

theorem settle_i (b u : Nat) (z : Int) (hz : z = u) (m : M) (w : World) (h : Fair w b m) (hI : Fr.Inv m) (hu : u < 30) (hh : (m.u u).here = true) :
    Calls Try.prog 122 #[.pointer (some ⟨b, 0, none⟩), .int .i64 z] w fun e w' => e = .returned (.tuple #[]) ∧ ∃ m', Fr.Look m u m' ∧ Fair w' b m' ∧ Frm b w w' := by
  subst hz; exact settle_any b u m w h hI hu hh

namespace Fr
/-- A task is awake, or asleep. -/
def wakeT (m : M) (u : Nat) (on : Bool) : M := m.set u { m.u u with awake := on }
theorem Inv.wakeT {m : M} (h : Inv m) {u : Nat} (hu : u < 30) (hh : (m.u u).here = true) (on : Bool) : Inv (wakeT m u on) :=
  h.turn hu hh (by have t := Turn.of h hu hh; exact ⟨t.here, t.inn, t.weight, t.floor, t.quo, t.per, t.fl, t.tm⟩)
theorem wakeT_here (m : M) (u v : Nat) (on : Bool) : ((wakeT m u on).u v).here = (m.u v).here := here_set (m := m) (x := { m.u u with awake := on }) rfl v
theorem wakeT_inn (m : M) (u v : Nat) (on : Bool) : ((wakeT m u on).u v).inn = (m.u v).inn := inn_set (m := m) (x := { m.u u with awake := on }) rfl v
end Fr

set_option maxRecDepth 100000 in
set_option maxHeartbeats 1000000 in
theorem rouse_any (b n : Nat) (on : Bool) (m : M) (w : World) (h : Fair w b m) (hI : Fr.Inv m) (hn : n < 20) (hh : (m.u (10 + n)).here = true) :
    Calls Try.prog 117 #[.pointer (some ⟨b, 0, none⟩), .int .i64 n, .bool on] w fun e w' => e = .returned (.tuple #[]) ∧ ∃ m', Fr.Look (Fr.wakeT m (10 + n) on) (10 + n) m' ∧ Fair w' b m' ∧ Frm b w w' := by
  obtain ⟨qs, hS, hC⟩ := h
  have c1 := hS.cAwake n hn
  have cf := hS.frozen
  have hnI : (n : Int) < 20 := by omega
  have HS : Hid (SAt w b m qs) := hS
  have HC : Hid (Cpl m qs) := hC
  have HI : Hid (Fr.Inv m) := hI
  have HH : Hid ((m.u (10 + n)).here = true) := hh
  clear hS hC hI hh
  go_enter Try.func117, Try.ntmps117
  go_wp2_with fail
  refine (settle_i b (10 + n) _ (by omega) (Fr.wakeT m (10 + n) on) _ ⟨qs, HS.out.setAwake n on hn, HC.out.set rfl rfl rfl (.inl rfl)⟩ (HI.out.wakeT (by omega) HH.out on) (by omega) (by rw [Fr.wakeT_here]; exact HH.out)).mono ?_
  rintro e w1 ⟨rfl, m', l1, f1, r1⟩
  have FIN : Hid (∃ m', Fr.Look (Fr.wakeT m (10 + n) on) (10 + n) m' ∧ Fair w1 b m' ∧ Frm b w w1) := Hid.intro ⟨m', l1, f1, ((Frm.refl b w).setCell _ _).trans r1⟩
  clear l1 f1 r1
  go_wp2_with fail
  go_end0
  exact ⟨rfl, FIN.out⟩

end Go.Proofs.Ytgabfkaadflciaa

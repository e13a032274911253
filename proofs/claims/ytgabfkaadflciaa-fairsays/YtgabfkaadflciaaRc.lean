/- The document's own sched: look. -/
import Derived.Test.YtgabfkaadflciaaRb
namespace Go.Proofs.Ytgabfkaadflciaa
open Go.RowKit
open Fr (Un M)
attribute [local go_sem] max_if

structure RlI (w : World) (b : Nat) (m : M) (u : Nat) (rk : Nat → Nat) (R : Nat) (W : World) (v : Nat) (mi : M) : Prop where
  at_ : RAt W b mi
  frm : Frm b w W
  inv : Fr.Inv mi
  lt : v < 30
  here : (mi.u v).here = true
  rank : Fr.Rank mi rk R
  look : ∀ m', Fr.Look mi v m' → Fr.Look m u m'
theorem setWas_line_in {m : M} {u : Nat} (hr : Fr.ready m u = true) (hw : (m.u u).was = false) {g : Nat} (hg : Fr.grp m u = g) : (m.set u { m.u u with time := max (m.u u).time (m.u g).floor }).set u { (m.set u { m.u u with time := max (m.u u).time (m.u g).floor }).u u with was := true } = Fr.line m u := by
  rw [Fr.line_in hr hw, hg]; rfl
theorem setWas_line_other {m : M} {u : Nat} {r : Bool} (hr : Fr.ready m u = r) (h : r = false ∨ (m.u u).was = true) : m.set u { m.u u with was := r } = Fr.line m u := by
  cases hrr : r
  · rw [Fr.line_out (hr.trans hrr)]; rfl
  · have hw := h.resolve_left (by rw [hrr]; decide)
    rw [Fr.line_same (by rw [hr, hrr, hw])]
    have : { m.u u with was := true } = m.u u := by
      cases hx : m.u u; rw [hx] at hw; simp only at hw; subst hw; rfl
    rw [this, Fr.set_self]

set_option maxRecDepth 100000 in
set_option maxHeartbeats 2000000 in
theorem rlook_any (b u : Nat) (m : M) (w : World) (h : RAt w b m) (hI : Fr.Inv m) (hu : u < 30) (hh : (m.u u).here = true) :
    Calls Try.prog 155 #[.pointer (some ⟨b, 0, none⟩), .int .i64 u] w fun e w' => e = .returned (.tuple #[]) ∧ ∃ m', Fr.Look m u m' ∧ RAt w' b m' ∧ Frm b w w' := by
  obtain ⟨rk, R, hR⟩ := hI.tree
  have H0 : Hid (RlI w b m u rk R w u m) := ⟨h, Frm.refl b w, hI, hu, hh, hR, fun _ k => k⟩
  clear h hI hh hR
  go_enter Try.func155, Try.ntmps155
  go_wp2
  go_loopw [1] (fun i wr => ∃ (v : Nat) (mi : M), i = .int .i64 v ∧ v < 30 ∧ Hid (RlI w b m u rk R wr v mi)) (fun i _ => rk (intOf i).toNat)
  case atStart => exact ⟨u, m, rfl, hu, H0⟩
  case round =>
    clear H0
    obtain ⟨v, mi, rfl, hv, H⟩ := hrel
    by_cases h0 : v = 0
    · subst h0
      go_wp2
      go_end0
      exact ⟨rfl, mi, H.out.look mi (.root mi), H.out.at_, H.out.frm⟩
    · have k0 : (0 : Int) < (v : Int) := by omega
      have HG : Hid (InG mi v (Fr.grp mi v)) := InG.of H.out.inv (by omega) hv H.out.here
      have HG2 : Hid ((mi.u (Fr.grp mi v)).here = true ∧ rk (Fr.grp mi v) < rk v) := Hid.intro (by
        obtain ⟨g, h1, h2, h3, h4⟩ := H.out.rank.up v (by omega) hv H.out.here
        have e : Fr.grp mi v = g := by unfold Fr.grp; rw [h2]; rfl
        rw [e]; exact ⟨h3, h4⟩)
      go_wp2_with fail
      refine (rready_any b v mi _ H.out.at_ hv).mono ?_
      rintro e w1 ⟨rfl, hb1⟩
      have A1 := Hid.intro (H.out.at_.below hb1)
      have R1 := Hid.intro (H.out.frm.trans (Frm.of_below hb1))
      clear hb1
      have hvI : (v : Int) < 30 := by omega
      have NXT : Hid (∀ w2, RAt w2 b (Fr.line mi v) → Frm b w1 w2 → RlI w b m u rk R w2 (Fr.grp mi v) (Fr.line mi v)) := Hid.intro (fun w2 a r => ⟨a, R1.out.trans r, H.out.inv.line HG.out.pos HG.out.lt HG.out.here, by have := HG.out.glt; omega, by rw [Fr.line_here]; exact HG2.out.1, H.out.rank.turn (Fr.line_here mi v) (Fr.line_inn mi v), fun m' k => H.out.look m' (.up h0 k)⟩)
      obtain ⟨g, hgg⟩ : ∃ g, Fr.grp mi v = g := ⟨_, rfl⟩
      have HGG := Hid.intro hgg
      have hg10 : g < 10 := by rw [← hgg]; exact HG.out.glt
      have hin : (mi.u v).inn = (g : Int) := by rw [← hgg]; exact HG.out.inn
      have cv := A1.out.cells v hv
      have cg := A1.out.cells g (by omega)
      have c3 := cv.c3
      have c4 := cv.c4
      have c7 := cv.c7
      have c8 := cg.c8
      have cf := A1.out.frozen
      rw [hin] at c4
      have hgI : (g : Int) < 30 := by omega
      clear cv cg hin hgg
      cases hr : Fr.ready mi v
      · have HL := Hid.intro (setWas_line_other hr (.inl rfl))
        clear hr
        go_wp2_with fail
        go_roundw
        case rel => exact ⟨g, _, rfl, by omega, by have := NXT.out _ (by have := A1.out.setWas v false hv; rw [HL.out] at this; exact this) ((Frm.refl b w1).setCell _ _); rw [HGG.out] at this; exact this⟩
        case measure => have := HG2.out.2; rw [HGG.out] at this; simp [intOf]; exact this
      · cases hw : (mi.u v).was
        · have HL := Hid.intro (setWas_line_in hr hw HGG.out)
          rw [hw] at c3
          clear hr hw
          obtain ⟨Tv, hTv⟩ : ∃ x, (mi.u v).time = x := ⟨_, rfl⟩
          obtain ⟨Lg, hLg⟩ : ∃ x, (mi.u g).floor = x := ⟨_, rfl⟩
          rw [hTv] at c7 HL
          rw [hLg] at c8 HL
          clear hTv hLg
          go_wp2_with fail
          go_region
          go_wp2_with fail
          go_roundw
          case rel => exact ⟨g, _, rfl, by omega, by have := NXT.out _ (by have := ((A1.out.setTime v (max Tv Lg) hv).setWas v true hv).drew; rw [HL.out] at this; exact this) ((((Frm.refl b w1).setCell _ _).setCell _ _).drew); rw [HGG.out] at this; exact this⟩
          case measure => have := HG2.out.2; rw [HGG.out] at this; simp [intOf]; exact this
        · have HL := Hid.intro (setWas_line_other hr (.inr hw))
          rw [hw] at c3
          clear hr hw
          go_wp2_with fail
          go_roundw
          case rel => exact ⟨g, _, rfl, by omega, by have := NXT.out _ (by have := A1.out.setWas v true hv; rw [HL.out] at this; exact this) ((Frm.refl b w1).setCell _ _); rw [HGG.out] at this; exact this⟩
          case measure => have := HG2.out.2; rw [HGG.out] at this; simp [intOf]; exact this

end Go.Proofs.Ytgabfkaadflciaa

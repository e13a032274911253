import Derived.BigRegion
import Derived.Test.YtghogbngmcolmaaGreatSau
import Derived.Test.YtghogbngmcolmaaGreatSav
namespace Go.Proofs.YtghogbngmcolmaaGreat.Fa
open Go.RowKit
open Hp (Q)
open Fr (Un M)
theorem max_if (T L : Nat) : (if T < L then (L : Int) else (T : Int)) = ((max T L : Nat) : Int) := by
  by_cases h : T < L
  · rw [if_pos h, Nat.max_eq_right (by omega)]
  · rw [if_neg h, Nat.max_eq_left (by omega)]
attribute [local go_sem] max_if
set_option maxRecDepth 100000 in
set_option maxHeartbeats 1000000 in
theorem line_keep (b u g : Nat) (m : M) (w : World) (h : Fair w b m) (hI : InG m u g) (hr : Fr.ready m u = (m.u u).was) :
    Calls Tryz.prog 152 #[.pointer (some ⟨b, 0, none⟩), .int .i64 u] w fun e w' => e = .returned (.tuple #[]) ∧ ∃ n, w' = w.drewN n := by
  obtain ⟨qs, hS, hC⟩ := h
  have c1 := hS.cIn u hI.lt
  rw [hI.inn] at c1
  have l1 : (u : Int) < 30 := by have := hI.lt; omega
  have l2 : (g : Int) < 10 := by have := hI.glt; omega
  have HS : Hid (SAt w b m qs) := hS
  have HC : Hid (Cpl m qs) := hC
  have HI : Hid (InG m u g) := hI
  have HF : Hid (Fair w b m) := Hid.intro ⟨qs, hS, hC⟩
  have HR : Hid (Fr.ready m u = (m.u u).was) := hr
  clear hS hC hI hr
  cases hw : (m.u u).was
  · have HW : Hid ((m.u u).was = false) := hw
    have HR2 : Hid (Fr.ready m u = false) := Hid.intro (HR.out.trans hw)
    clear hw
    go_enter Tryz.func152, Tryz.ntmps152
    go_wp2
    go_quiet (fail)
    go_wp2_with fail
    refine (key_not b u g m qs _ (HS.out.drewN _) HC.out HI.out HW.out).mono ?_
    rintro e w1 ⟨rfl, hw1⟩
    have HX : Hid (∃ k, w1 = w.drewN k) := Hid.intro ⟨_, hw1⟩
    have HF1 : Hid (Fair w1 b m) := Hid.intro (by rw [hw1]; exact HF.out.drewN _)
    have HS1 : Hid (SAt w1 b m qs) := Hid.intro (by rw [hw1]; exact HS.out.drewN _)
    clear hw1
    go_wp2_with fail
    go_quiet ((go_at_call 157; exact Calls.quiet_of (ready_any b u m _ (HF1.out.drewN _) HI.out.lt)))
    rw [HR2.out]
    go_wp2_with fail
    go_end0
    obtain ⟨k, hk⟩ := HX.out
    rw [hk, World.drewN_drewN]
    exact ⟨rfl, _, rfl⟩
  · have HW : Hid ((m.u u).was = true) := hw
    have HR2 : Hid (Fr.ready m u = true) := Hid.intro (HR.out.trans hw)
    clear hw
    go_enter Tryz.func152, Tryz.ntmps152
    go_wp2
    go_quiet (fail)
    go_wp2_with fail
    refine (key_is b u g m qs _ (HS.out.drewN _) HC.out HI.out HW.out).mono ?_
    rintro e w1 ⟨rfl, hw1⟩
    have HX : Hid (∃ k, w1 = w.drewN k) := Hid.intro ⟨_, hw1⟩
    have HF1 : Hid (Fair w1 b m) := Hid.intro (by rw [hw1]; exact HF.out.drewN _)
    have HS1 : Hid (SAt w1 b m qs) := Hid.intro (by rw [hw1]; exact HS.out.drewN _)
    clear hw1
    go_wp2_with fail
    go_quiet ((go_at_call 157; exact Calls.quiet_of (ready_any b u m _ (HF1.out.drewN _) HI.out.lt)))
    rw [HR2.out]
    go_wp2_with fail
    go_end0
    obtain ⟨k, hk⟩ := HX.out
    rw [hk, World.drewN_drewN]
    exact ⟨rfl, _, rfl⟩
set_option maxRecDepth 100000 in
set_option maxHeartbeats 1000000 in
theorem line_off (b u g : Nat) (m : M) (w : World) (h : Fair w b m) (hI : InG m u g) (hr : Fr.ready m u = false) (hw : (m.u u).was = true) :
    Calls Tryz.prog 152 #[.pointer (some ⟨b, 0, none⟩), .int .i64 u] w fun e w' => e = .returned (.tuple #[]) ∧ Fair w' b (Fr.setWas m u false) ∧ Frm b w w' := by
  obtain ⟨qs, hS, hC⟩ := h
  have c1 := hS.cIn u hI.lt
  rw [hI.inn] at c1
  have l1 : (u : Int) < 30 := by have := hI.lt; omega
  have l2 : (g : Int) < 10 := by have := hI.glt; omega
  have HS : Hid (SAt w b m qs) := hS
  have HC : Hid (Cpl m qs) := hC
  have HI : Hid (InG m u g) := hI
  have HF : Hid (Fair w b m) := Hid.intro ⟨qs, hS, hC⟩
  have HR : Hid (Fr.ready m u = false) := hr
  have HW : Hid ((m.u u).was = true) := hw
  clear hS hC hI hr hw
  go_enter Tryz.func152, Tryz.ntmps152
  go_wp2
  go_quiet (fail)
  go_wp2_with fail
  refine (key_is b u g m qs _ (HS.out.drewN _) HC.out HI.out HW.out).mono ?_
  rintro e w1 ⟨rfl, hw1⟩
  have HX : Hid (∃ k, w1 = w.drewN k) := Hid.intro ⟨_, hw1⟩
  have HF1 : Hid (Fair w1 b m) := Hid.intro (by rw [hw1]; exact HF.out.drewN _)
  have HS1 : Hid (SAt w1 b m qs) := Hid.intro (by rw [hw1]; exact HS.out.drewN _)
  clear hw1
  go_wp2_with fail
  go_quiet ((go_at_call 157; exact Calls.quiet_of (ready_any b u m _ (HF1.out.drewN _) HI.out.lt)))
  rw [HR.out]
  go_wp2_with fail
  refine (cut_has b (121 + g * 198) u (qs g) _ ⟨(HS1.out.drewN _).at_ g HI.out.glt, (HC.out.ok g HI.out.glt).1, (HC.out.ok g HI.out.glt).2⟩ (by omega) (place_yes HC.out HI.out HW.out)).mono ?_
  rintro e w2 ⟨rfl, o2, q2, g2, m2, k2, h2⟩
  have FIN : Hid (Fair w2 b (Fr.setWas m u false) ∧ Frm b w w2) := Hid.intro
    ⟨⟨_, (((HS1.out.drewN _).queue HI.out.glt o2 g2.at_).setWas u false), HC.out.cut HI.out.pos HI.out.glt HI.out.here HI.out.inn ⟨g2.ok, g2.full⟩ k2 h2⟩, (by obtain ⟨k, hk⟩ := HX.out; rw [hk] at o2; exact (((Frm.refl b w).drewN _).drewN _).trans o2.frm)⟩
  clear o2 g2 m2 k2 h2
  go_wp2_with fail
  go_end0
  exact ⟨rfl, FIN.out⟩
set_option maxRecDepth 100000 in
set_option maxHeartbeats 1000000 in
theorem line_on (b u g : Nat) (m : M) (w : World) (h : Fair w b m) (hI : InG m u g) (hr : Fr.ready m u = true) (hw : (m.u u).was = false) :
    Calls Tryz.prog 152 #[.pointer (some ⟨b, 0, none⟩), .int .i64 u] w fun e w' => e = .returned (.tuple #[]) ∧ Fair w' b (Fr.setWas (m.set u { m.u u with time := max (m.u u).time (m.u g).floor }) u true) ∧ Frm b w w' := by
  obtain ⟨qs, hS, hC⟩ := h
  have c1 := hS.cIn u hI.lt
  rw [hI.inn] at c1
  have l1 : (u : Int) < 30 := by have := hI.lt; omega
  have l2 : (g : Int) < 10 := by have := hI.glt; omega
  have HS : Hid (SAt w b m qs) := hS
  have HC : Hid (Cpl m qs) := hC
  have HI : Hid (InG m u g) := hI
  have HF : Hid (Fair w b m) := Hid.intro ⟨qs, hS, hC⟩
  have HR : Hid (Fr.ready m u = true) := hr
  have HW : Hid ((m.u u).was = false) := hw
  clear hS hC hI hr hw
  go_enter Tryz.func152, Tryz.ntmps152
  go_wp2
  go_quiet (fail)
  go_wp2_with fail
  refine (key_not b u g m qs _ (HS.out.drewN _) HC.out HI.out HW.out).mono ?_
  rintro e w1 ⟨rfl, hw1⟩
  have HX : Hid (∃ k, w1 = w.drewN k) := Hid.intro ⟨_, hw1⟩
  have HF1 : Hid (Fair w1 b m) := Hid.intro (by rw [hw1]; exact HF.out.drewN _)
  have HS1 : Hid (SAt w1 b m qs) := Hid.intro (by rw [hw1]; exact HS.out.drewN _)
  clear hw1
  go_wp2_with fail
  go_quiet ((go_at_call 157; exact Calls.quiet_of (ready_any b u m _ (HF1.out.drewN _) HI.out.lt)))
  rw [HR.out]
  go_wp2_with fail
  refine wp_gen (fun W => SAt W b m qs ∧ Frm b w W) ⟨HS1.out.drewN _, by obtain ⟨k, hk⟩ := HX.out; rw [hk]; exact ((Frm.refl b w).drewN _).drewN _⟩ ?_
  clear HX HF1 HS1 HS HF c1
  rintro W ⟨hS, hF⟩
  have c2 := hS.cTime u HI.out.lt
  have c3 := hS.cFloor g HI.out.glt
  have cf := hS.frozen
  have HS : Hid (SAt W b m qs) := hS
  have HF : Hid (Frm b w W) := hF
  clear hS hF
  obtain ⟨T, hT⟩ : ∃ T, (m.u u).time = T := ⟨_, rfl⟩
  obtain ⟨L, hL⟩ : ∃ L, (m.u g).floor = L := ⟨_, rfl⟩
  rw [hT] at c2
  rw [hL] at c3
  have HT : Hid ((m.u u).time = T ∧ (m.u g).floor = L) := Hid.intro ⟨hT, hL⟩
  clear hT hL
  go_region
  go_wp2_with fail
  refine wp_gen (fun W2 => SAt W2 b (m.set u { m.u u with time := max T L }) qs ∧ Frm b w W2) ⟨(HS.out.setTime u (max T L) HI.out.lt).drew, (HF.out.setCell _ _).drew⟩ ?_
  clear c2 c3 cf HS HF
  rintro W2 ⟨hS, hF⟩
  have c2 : W2.cell? ⟨b, 1 + u * 4 + 3, none⟩ = some (.int .u64 ((max T L : Nat) : Int)) := by have := hS.cTime u HI.out.lt; rw [Fr.set_same] at this; exact this
  have HS : Hid (SAt W2 b (m.set u { m.u u with time := max T L }) qs) := hS
  have HF : Hid (Frm b w W2) := hF
  have HC2 : Hid (Cpl (m.set u { m.u u with time := max T L }) qs) := HC.out.set rfl rfl rfl (.inr HW.out)
  have HI2 : Hid (InG (m.set u { m.u u with time := max T L }) u g) := ⟨HI.out.pos, HI.out.lt, by rw [Fr.set_same]; exact HI.out.here, HI.out.glt, by rw [Fr.set_same]; exact HI.out.inn⟩
  have HW2 : Hid (((m.set u { m.u u with time := max T L }).u u).was = false) := Hid.intro (by rw [Fr.set_same]; exact HW.out)
  have HT2 : Hid (((m.set u { m.u u with time := max T L }).u u).time = max T L) := Hid.intro (by rw [Fr.set_same])
  have HE : Hid (m.set u { m.u u with time := max (m.u u).time (m.u g).floor } = m.set u { m.u u with time := max T L }) := Hid.intro (by rw [HT.out.1, HT.out.2])
  clear hS hF HC HI HW HT
  generalize m.set u { m.u u with time := max T L } = m2 at *
  generalize max T L = TL at *
  go_region_held3 (fun w' => w'.cell? ⟨b, 1 + u * 4 + 3, none⟩ = some (.int .u64 (TL : Int))) (go_keep) ((go_at_call 158; refine (put_new b (121 + g * 198) u TL (qs g) _ ⟨HS.out.drew.at_ g HI2.out.glt, (HC2.out.ok g HI2.out.glt).1, (HC2.out.ok g HI2.out.glt).2⟩ (by omega) (place_no HC2.out HI2.out HW2.out)).mono ?_; rintro e w5 ⟨rfl, o5, q5, g5, m5, k5, h5⟩; have FIN : Hid (Fair w5 b (Fr.setWas m2 u true) ∧ Frm b w w5) := Hid.intro ⟨⟨_, ((HS.out.drew.queue HI2.out.glt o5 g5.at_).setWas u true), HC2.out.put HI2.out.pos HI2.out.lt HI2.out.glt HI2.out.here HI2.out.inn ⟨g5.ok, g5.full⟩ (by rw [HT2.out]; exact k5) h5⟩, HF.out.drew.trans o5.frm⟩; have c5 : w5.cell? ⟨b, 1 + u * 4 + 3, none⟩ = some (.int .u64 (TL : Int)) := (by have hx := HT2.out; obtain ⟨⟨q9, s9, _⟩, _⟩ := FIN.out; have := s9.cTime u HI2.out.lt; unfold Fr.setWas at this; rw [Fr.set_same] at this; rw [← hx]; exact this); clear o5 g5 m5 k5 h5))
  go_wp2_with fail
  go_end0
  rw [HE.out]
  exact ⟨rfl, FIN.out⟩
theorem line_any (b u g : Nat) (m : M) (w : World) (h : Fair w b m) (hI : InG m u g) :
    Calls Tryz.prog 152 #[.pointer (some ⟨b, 0, none⟩), .int .i64 u] w fun e w' => e = .returned (.tuple #[]) ∧ Fair w' b (Fr.line m u) ∧ Frm b w w' := by
  by_cases k : Fr.ready m u = (m.u u).was
  · rw [Fr.line_same k]
    exact (line_keep b u g m w h hI k).mono fun e w' ⟨h1, n, h2⟩ => ⟨h1, by rw [h2]; exact h.drewN n, by rw [h2]; exact (Frm.refl b w).drewN n⟩
  · cases hr : Fr.ready m u
    · have hw : (m.u u).was = true := by
        cases hw : (m.u u).was
        · rw [hr, hw] at k; exact absurd rfl k
        · rfl
      rw [Fr.line_out hr]
      exact line_off b u g m w h hI hr hw
    · have hw : (m.u u).was = false := by
        cases hw : (m.u u).was
        · rfl
        · rw [hr, hw] at k; exact absurd rfl k
      rw [Fr.line_in hr hw, hI.grp]
      exact line_on b u g m w h hI hr hw
end Go.Proofs.YtghogbngmcolmaaGreat.Fa
namespace Go.Proofs.YtghogbngmcolmaaGreat.Fa
open Go.RowKit
open Hp (Q)
open Fr (Un M)
theorem InG.of {m : M} (h : Fr.Inv m) {u : Nat} (h0 : 0 < u) (hu : u < 30) (hh : (m.u u).here = true) : InG m u (Fr.grp m u) :=
  ⟨h0, hu, hh, (h.grp h0 hu hh).1, (h.grp h0 hu hh).2.1⟩
theorem Fair.in_ {w : World} {b : Nat} {m : M} (h : Fair w b m) {u g : Nat} (hI : InG m u g) : w.cell? ⟨b, 1 + u * 4 + 1, none⟩ = some (.int .i64 (g : Int)) := by
  obtain ⟨qs, hS, _⟩ := h
  rw [hS.cIn u hI.lt, hI.inn]
structure StI (w : World) (b : Nat) (m : M) (u : Nat) (rk : Nat → Nat) (R : Nat) (W : World) (v : Nat) (mi : M) : Prop where
  fair : Fair W b mi
  frm : Frm b w W
  inv : Fr.Inv mi
  lt : v < 30
  here : (mi.u v).here = true
  rank : Fr.Rank mi rk R
  look : ∀ m', Fr.Look mi v m' → Fr.Look m u m'
set_option maxRecDepth 100000 in
set_option maxHeartbeats 1000000 in
theorem settle_any (b u : Nat) (m : M) (w : World) (h : Fair w b m) (hI : Fr.Inv m) (hu : u < 30) (hh : (m.u u).here = true) :
    Calls Tryz.prog 137 #[.pointer (some ⟨b, 0, none⟩), .int .i64 u] w fun e w' => e = .returned (.tuple #[]) ∧ ∃ m', Fr.Look m u m' ∧ Fair w' b m' ∧ Frm b w w' := by
  obtain ⟨rk, R, hR⟩ := hI.tree
  have H0 : Hid (StI w b m u rk R w u m) := ⟨h, Frm.refl b w, hI, hu, hh, hR, fun _ k => k⟩
  clear h hI hh hR
  go_enter Tryz.func137, Tryz.ntmps137
  go_wp2
  go_loopw [1] (fun i wr => ∃ (v : Nat) (mi : M), i = .int .i64 v ∧ v < 30 ∧ Hid (StI w b m u rk R wr v mi)) (fun i _ => rk (intOf i).toNat)
  case atStart => exact ⟨u, m, rfl, hu, H0⟩
  case round =>
    clear H0
    obtain ⟨v, mi, rfl, hv, H⟩ := hrel
    by_cases h0 : v = 0
    · subst h0
      go_wp2
      go_end0
      exact ⟨rfl, mi, H.out.look mi (.root mi), H.out.fair, H.out.frm⟩
    · have k0 : ((v : Int) != 0) = true := by rw [bne_iff_ne]; omega
      have HG : Hid (InG mi v (Fr.grp mi v)) := InG.of H.out.inv (by omega) hv H.out.here
      have HG2 : Hid ((mi.u (Fr.grp mi v)).here = true ∧ rk (Fr.grp mi v) < rk v) := Hid.intro (by
        obtain ⟨g, h1, h2, h3, h4⟩ := H.out.rank.up v (by omega) hv H.out.here
        have e : Fr.grp mi v = g := by unfold Fr.grp; rw [h2]; rfl
        rw [e]; exact ⟨h3, h4⟩)
      go_wp2_with fail
      refine (line_any b v (Fr.grp mi v) mi _ H.out.fair HG.out).mono ?_
      rintro e w1 ⟨rfl, f1, r1⟩
      have H1 : Hid (StI w b m u rk R w1 (Fr.grp mi v) (Fr.line mi v)) := ⟨f1, H.out.frm.trans r1, H.out.inv.line HG.out.pos HG.out.lt HG.out.here, by have := HG.out.glt; omega, by rw [Fr.line_here]; exact HG2.out.1, H.out.rank.turn (Fr.line_here mi v) (Fr.line_inn mi v), fun m' k => H.out.look m' (.up h0 k)⟩
      have c1 : w1.cell? ⟨b, 1 + v * 4 + 1, none⟩ = some (.int .i64 (Fr.grp mi v : Int)) := f1.in_ ⟨HG.out.pos, HG.out.lt, by rw [Fr.line_here]; exact HG.out.here, HG.out.glt, by rw [Fr.line_inn]; exact HG.out.inn⟩
      have hvI : (v : Int) < 30 := by omega
      clear f1 r1
      go_wp2_with fail
      go_roundw
      case rel => exact ⟨_, _, rfl, by have := HG.out.glt; omega, H1⟩
      case measure => simp [intOf]; exact HG2.out.2
theorem settle_i (b u : Nat) (z : Int) (hz : z = u) (m : M) (w : World) (h : Fair w b m) (hI : Fr.Inv m) (hu : u < 30) (hh : (m.u u).here = true) :
    Calls Tryz.prog 137 #[.pointer (some ⟨b, 0, none⟩), .int .i64 z] w fun e w' => e = .returned (.tuple #[]) ∧ ∃ m', Fr.Look m u m' ∧ Fair w' b m' ∧ Frm b w w' := by
  subst hz; exact settle_any b u m w h hI hu hh
namespace Fr
def wakeT (m : M) (u : Nat) (on : Bool) : M := m.set u { m.u u with awake := on }
theorem Inv.wakeT {m : M} (h : Inv m) {u : Nat} (hu : u < 30) (hh : (m.u u).here = true) (on : Bool) : Inv (wakeT m u on) :=
  h.turn hu hh (by have t := Turn.of h hu hh; exact ⟨t.here, t.inn, t.weight, t.floor, t.quo, t.per, t.fl, t.tm⟩)
theorem wakeT_here (m : M) (u v : Nat) (on : Bool) : ((wakeT m u on).u v).here = (m.u v).here := here_set (m := m) (x := { m.u u with awake := on }) rfl v
end Fr
set_option maxRecDepth 100000 in
set_option maxHeartbeats 1000000 in
theorem rouse_any (b n : Nat) (on : Bool) (m : M) (w : World) (h : Fair w b m) (hI : Fr.Inv m) (hn : n < 20) (hh : (m.u (10 + n)).here = true) :
    Calls Tryz.prog 121 #[.pointer (some ⟨b, 0, none⟩), .int .i64 n, .bool on] w fun e w' => e = .returned (.tuple #[]) ∧ ∃ m', Fr.Look (Fr.wakeT m (10 + n) on) (10 + n) m' ∧ Fair w' b m' ∧ Frm b w w' := by
  obtain ⟨qs, hS, hC⟩ := h
  have c1 := hS.cAwake n hn
  have cf := hS.frozen
  have hnI : (n : Int) < 20 := by omega
  have HS : Hid (SAt w b m qs) := hS
  have HC : Hid (Cpl m qs) := hC
  have HI : Hid (Fr.Inv m) := hI
  have HH : Hid ((m.u (10 + n)).here = true) := hh
  clear hS hC hI hh
  go_enter Tryz.func121, Tryz.ntmps121
  go_wp2_with fail
  refine (settle_i b (10 + n) _ (by omega) (Fr.wakeT m (10 + n) on) _ ⟨qs, HS.out.setAwake n on hn, HC.out.set rfl rfl rfl (.inl rfl)⟩ (HI.out.wakeT (by omega) HH.out on) (by omega) (by rw [Fr.wakeT_here]; exact HH.out)).mono ?_
  rintro e w1 ⟨rfl, m', l1, f1, r1⟩
  have FIN : Hid (∃ m', Fr.Look (Fr.wakeT m (10 + n) on) (10 + n) m' ∧ Fair w1 b m' ∧ Frm b w w1) := Hid.intro ⟨m', l1, f1, ((Frm.refl b w).setCell _ _).trans r1⟩
  clear l1 f1 r1
  go_wp2_with fail
  go_end0
  exact ⟨rfl, FIN.out⟩
end Go.Proofs.YtghogbngmcolmaaGreat.Fa
namespace Go.Proofs.YtghogbngmcolmaaGreat.Fa
open Go.RowKit
open Hp (Q)
open Fr (Un M)
attribute [local go_sem] max_if
theorem SAt.setRanG {w : World} {b : Nat} {m : M} {qs : Nat → Q} (h : SAt w b m qs) (g n : Nat) (hg : g < 10) : SAt w b (m.set g { m.u g with ran := n }) qs := by
  have e : ∀ v, (m.set g { m.u g with ran := n }).u v = m.u v ∨ (v = g ∧ (m.set g { m.u g with ran := n }).u v = { m.u g with ran := n }) := fun v => by
    by_cases e : v = g
    · subst e; rw [Fr.set_same]; exact .inr ⟨rfl, rfl⟩
    · rw [Fr.set_ne _ _ _ _ e]; exact .inl rfl
  refine ⟨h.blk, h.now, fun v f hv hf => ?_, h.que, fun v f hv hf => ?_, fun k f hk hf => ?_⟩
  · rw [h.unit v f hv hf]
    rcases e v with e | ⟨rfl, e⟩ <;> rw [e] <;> rfl
  · rw [h.grp v f hv hf]
    rcases e v with e | ⟨rfl, e⟩ <;> rw [e] <;> rfl
  · rw [h.task k f hk hf, Fr.set_ne _ _ _ _ (by omega)]
theorem wrap_pay (T wt : Nat) (h : T ≤ 1048576000000) : IntKind.u64.wrap ((T : Int) + 1048576 / (wt : Int)) = ((T + 1048576 / wt : Nat) : Int) := by
  have e : ((T : Int) + 1048576 / (wt : Int)) = ((T + 1048576 / wt : Nat) : Int) := rfl
  have hd : 1048576 / wt ≤ 1048576 := Nat.div_le_self _ _
  rw [e]
  generalize 1048576 / wt = d at *
  exact IntWalk.u64_in _ ⟨by omega, by omega⟩
theorem payT_task {m : M} {u g : Nat} (hI : InG m u g) (hne : g ≠ u) (h10 : 10 ≤ u) (hq : (m.u u).quota = 0) :
    Fr.payT m u = (m.set g { m.u g with floor := max (m.u g).floor (m.u u).time }).set u { m.u u with time := (m.u u).time + 1048576 / (m.u u).weight } := by
  rw [Fr.payT_eq (by rw [hI.grp]; exact hne)]
  unfold Fr.payF
  rw [hI.grp]
  congr 1
  unfold Fr.payU
  rw [if_neg (by omega), if_neg (by omega)]
theorem payT_group {m : M} {u g : Nat} (hI : InG m u g) (hne : g ≠ u) (h10 : u < 10) :
    Fr.payT m u = (m.set g { m.u g with floor := max (m.u g).floor (m.u u).time }).set u { m.u u with time := (m.u u).time + 1048576 / (m.u u).weight, used := if 0 < (m.u u).quota then (m.u u).used + 1 else (m.u u).used, ran := (m.u u).ran + 1 } := by
  rw [Fr.payT_eq (by rw [hI.grp]; exact hne)]
  unfold Fr.payF
  rw [hI.grp]
  congr 1
  unfold Fr.payU
  rw [if_pos h10]
theorem Cpl.pay {m m4 : M} {qs' : Nat → Q} {u : Nat} (h : Cpl (Fr.setWas m u false) qs') (hm : m4 = Fr.payT m u) : Cpl (Fr.setWas m4 u false) qs' := by
  subst hm
  have e : ∀ v, v ≠ u → (Fr.setWas (Fr.payT m u) u false).u v = (Fr.payF m u).u v := fun v hv => by
    unfold Fr.setWas Fr.payT; rw [Fr.set_ne _ _ _ _ hv, Fr.set_ne _ _ _ _ hv]
  have e' : ∀ v, v ≠ u → (Fr.setWas m u false).u v = m.u v := fun v hv => by unfold Fr.setWas; rw [Fr.set_ne _ _ _ _ hv]
  refine h.turn (fun g v _ _ => ?_) (fun g v _ _ hk => ?_)
  · by_cases hv : v = u
    · subst hv
      unfold Fr.kidB Fr.setWas
      rw [Fr.set_same, Fr.set_same]
      simp
    · unfold Fr.kidB
      rw [e v hv, e' v hv, Fr.payF_here, Fr.payF_inn, (Fr.payF_tw m u v).2.1]
  · have hv : v ≠ u := fun hv => by
      subst hv
      have := (Fr.kidB_iff.1 hk).2.2.2
      unfold Fr.setWas at this; rw [Fr.set_same] at this; cases this
    rw [e v hv, e' v hv, (Fr.payF_tw m u v).1]
theorem InG.payT {m : M} {u g : Nat} (h : InG m u g) (hg : Fr.grp m u ≠ u) : InG (Fr.setWas (Fr.payT m u) u false) u g := by
  have e : (Fr.setWas (Fr.payT m u) u false).u u = { Fr.payU u (m.u u) with was := false } := by
    unfold Fr.setWas; rw [Fr.set_same, Fr.payT_u hg]
  exact ⟨h.pos, h.lt, by rw [e]; exact h.here, h.glt, by rw [e]; exact h.inn⟩
set_option maxRecDepth 100000 in
set_option maxHeartbeats 2000000 in
theorem pay_task (b u g : Nat) (m : M) (w : World) (h : Fair w b m) (hI : Fr.Inv m) (hG : InG m u g) (h10 : 10 ≤ u) (hw : (m.u u).was = true) (hn : m.now ≤ 1000000) :
    Calls Tryz.prog 139 #[.pointer (some ⟨b, 0, none⟩), .int .i64 u] w fun e w' => e = .returned (.tuple #[]) ∧ Fair w' b (Fr.payC m u) ∧ Frm b w w' := by
  obtain ⟨qs, hS, hC⟩ := h
  have hgrp : Fr.grp m u = g := hG.grp
  have hgne : g ≠ u := by have := (hI.grp hG.pos hG.lt hG.here).2.2.2; rw [hgrp] at this; exact this
  have hfl := hI.fl u hG.pos hG.lt hG.here hw
  have hq : (m.u u).quota = 0 := by
    refine Nat.eq_zero_of_not_pos fun k => ?_
    have := hI.quo u hG.lt k; omega
  have hwt := hI.wt u hG.pos hG.lt hG.here
  have htm := hI.tm u hG.lt
  have c1 := hS.cIn u hG.lt
  rw [hG.inn] at c1
  have l1 : (u : Int) < 30 := by have := hG.lt; omega
  have l2 : (g : Int) < 10 := by have := hG.glt; omega
  have HE : Hid (Fr.line (Fr.setWas (Fr.payT m u) u false) u = Fr.payC m u) := Fr.line_pay (by rw [hgrp]; exact hgne) hfl
  have HT : Hid (Fr.payT m u = (m.set g { m.u g with floor := max (m.u g).floor (m.u u).time }).set u { m.u u with time := (m.u u).time + 1048576 / (m.u u).weight }) := payT_task hG hgne h10 hq
  have HN : Hid (Fr.grp m u ≠ u) := Hid.intro (by rw [hgrp]; exact hgne)
  have HW : Hid ((m.u u).was = true) := hw
  have HI : Hid (Fr.Inv m) := hI
  have HG : Hid (InG m u g) := hG
  have HC : Hid (Cpl m qs) := hC
  have HS : Hid (SAt w b m qs) := hS
  have hgne' : Hid (g ≠ u) := hgne
  have h10' : ¬ (u : Int) < 10 := by omega
  clear hS hC hG hI hw hq hfl hgrp hgne
  obtain ⟨T, hT⟩ : ∃ T, (m.u u).time = T := ⟨_, rfl⟩
  obtain ⟨L, hL⟩ : ∃ L, (m.u g).floor = L := ⟨_, rfl⟩
  obtain ⟨wt, hWt⟩ : ∃ x, (m.u u).weight = x := ⟨_, rfl⟩
  rw [hT, hL, hWt] at HT
  rw [hWt] at hwt
  rw [hT] at htm
  have htb : T ≤ 1048576000000 := by have := htm.1; omega
  have HTL : Hid ((m.u u).time = T ∧ (m.u g).floor = L ∧ (m.u u).weight = wt) := Hid.intro ⟨hT, hL, hWt⟩
  clear hT hL hWt htm
  go_enter Tryz.func139, Tryz.ntmps139
  go_wp2
  go_quiet (fail)
  go_wp2_with fail
  refine wp_gen (fun W => SAt W b m qs ∧ Frm b w W) ⟨HS.out.drewN _, (Frm.refl b w).drewN _⟩ ?_
  clear HS c1
  rintro W ⟨hS, hF⟩
  have c2 : W.cell? ⟨b, 1 + u * 4 + 3, none⟩ = some (.int .u64 (T : Int)) := by rw [← HTL.out.1]; exact hS.cTime u HG.out.lt
  have c3 : W.cell? ⟨b, 121 + g * 198 + 193, none⟩ = some (.int .u64 (L : Int)) := by rw [← HTL.out.2.1]; exact hS.cFloor g HG.out.glt
  have cf := hS.frozen
  have HS : Hid (SAt W b m qs) := hS
  have HF : Hid (Frm b w W) := hF
  clear hS hF
  go_region
  go_wp2_with fail
  refine wp_gen (fun W => SAt W b (m.set g { m.u g with floor := max L T }) qs ∧ Frm b w W) ⟨(HS.out.setFloor g (max L T) HG.out.glt).drew, (HF.out.setCell _ _).drew⟩ ?_
  clear HS HF c2 c3 cf
  clear W
  rintro W ⟨hS, hF⟩
  have e1 : (m.set g { m.u g with floor := max L T }).u u = m.u u := Fr.set_ne _ _ _ _ (Ne.symm hgne'.out)
  have c2 : W.cell? ⟨b, 1 + u * 4 + 3, none⟩ = some (.int .u64 (T : Int)) := by rw [← HTL.out.1, ← e1]; exact hS.cTime u HG.out.lt
  have c3 : W.cell? ⟨b, 1 + u * 4 + 2, none⟩ = some (.int .u64 (wt : Int)) := by rw [← HTL.out.2.2, ← e1]; exact hS.cWeight u HG.out.pos HG.out.lt
  have cf := hS.frozen
  have HS : Hid (SAt W b (m.set g { m.u g with floor := max L T }) qs) := hS
  have HF : Hid (Frm b w W) := hF
  have HE1 : Hid ((m.set g { m.u g with floor := max L T }).u u = m.u u) := e1
  have z1 : ((wt : Int) == 0) = false := by simp; omega
  clear hS hF e1
  go_region
  go_wp2_with fail
  have HS2 : Hid (SAt (W.setCell ⟨b, 1 + u * 4 + 3, none⟩ (.int .u64 (IntKind.u64.wrap ((T : Int) + 1048576 / (wt : Int))))).drew b (Fr.payT m u) qs) := Hid.intro (by
    rw [wrap_pay T wt htb, HT.out]
    have := (HS.out.setTime u (T + 1048576 / wt) HG.out.lt).drew
    rw [HE1.out] at this
    exact this)
  refine (cut_has b (121 + g * 198) u (qs g) _ ⟨HS2.out.at_ g HG.out.glt, (HC.out.ok g HG.out.glt).1, (HC.out.ok g HG.out.glt).2⟩ (by omega) (place_yes HC.out HG.out HW.out)).mono ?_
  rintro e w2 ⟨rfl, o2, q2, g2, m2, k2, h2⟩
  have HF2 : Hid (Fair w2 b (Fr.setWas (Fr.payT m u) u false)) := Hid.intro
    ⟨_, (HS2.out.queue HG.out.glt o2 g2.at_).setWas u false, (HC.out.cut HG.out.pos HG.out.glt HG.out.here HG.out.inn ⟨g2.ok, g2.full⟩ k2 h2).pay rfl⟩
  have HR2 : Hid (Frm b w w2) := Hid.intro ((HF.out.setCell _ _).drew.trans o2.frm)
  clear o2 g2 m2 k2 h2 HS2 c2 c3 cf HS HF
  go_wp2_with fail
  refine (line_any b u g _ _ HF2.out (HG.out.payT HN.out)).mono ?_
  rintro e w3 ⟨rfl, f3, r3⟩
  have FIN : Hid (Fair w3 b (Fr.payC m u) ∧ Frm b w w3) := Hid.intro ⟨by rw [← HE.out]; exact f3, HR2.out.trans r3⟩
  clear f3 r3
  go_wp2_with fail
  go_end0
  exact ⟨rfl, FIN.out⟩
set_option maxRecDepth 100000 in
set_option maxHeartbeats 2000000 in
theorem pay_group (b u g : Nat) (m : M) (w : World) (h : Fair w b m) (hI : Fr.Inv m) (hG : InG m u g) (h10 : u < 10) (hw : (m.u u).was = true) (hn : m.now ≤ 1000000) :
    Calls Tryz.prog 139 #[.pointer (some ⟨b, 0, none⟩), .int .i64 u] w fun e w' => e = .returned (.tuple #[]) ∧ Fair w' b (Fr.payC m u) ∧ Frm b w w' := by
  obtain ⟨qs, hS, hC⟩ := h
  have hgrp : Fr.grp m u = g := hG.grp
  have hgne : g ≠ u := by have := (hI.grp hG.pos hG.lt hG.here).2.2.2; rw [hgrp] at this; exact this
  have hfl := hI.fl u hG.pos hG.lt hG.here hw
  have hwt := hI.wt u hG.pos hG.lt hG.here
  have htm := hI.tm u hG.lt
  have c1 := hS.cIn u hG.lt
  rw [hG.inn] at c1
  have l1 : (u : Int) < 30 := by have := hG.lt; omega
  have l2 : (g : Int) < 10 := by have := hG.glt; omega
  have HE : Hid (Fr.line (Fr.setWas (Fr.payT m u) u false) u = Fr.payC m u) := Fr.line_pay (by rw [hgrp]; exact hgne) hfl
  have HT : Hid (Fr.payT m u = (m.set g { m.u g with floor := max (m.u g).floor (m.u u).time }).set u { m.u u with time := (m.u u).time + 1048576 / (m.u u).weight, used := if 0 < (m.u u).quota then (m.u u).used + 1 else (m.u u).used, ran := (m.u u).ran + 1 }) := payT_group hG hgne h10
  have HN : Hid (Fr.grp m u ≠ u) := Hid.intro (by rw [hgrp]; exact hgne)
  have HW : Hid ((m.u u).was = true) := hw
  have HI : Hid (Fr.Inv m) := hI
  have HG : Hid (InG m u g) := hG
  have HC : Hid (Cpl m qs) := hC
  have HS : Hid (SAt w b m qs) := hS
  have hgne' : Hid (g ≠ u) := hgne
  have h10' : (u : Int) < 10 := by omega
  clear hS hC hG hI hw hfl hgrp hgne
  obtain ⟨T, hT⟩ : ∃ T, (m.u u).time = T := ⟨_, rfl⟩
  obtain ⟨L, hL⟩ : ∃ L, (m.u g).floor = L := ⟨_, rfl⟩
  obtain ⟨wt, hWt⟩ : ∃ x, (m.u u).weight = x := ⟨_, rfl⟩
  rw [hT, hL, hWt] at HT
  rw [hWt] at hwt
  rw [hT] at htm
  obtain ⟨qu, hQu⟩ : ∃ x, (m.u u).quota = x := ⟨_, rfl⟩
  obtain ⟨us, hUs⟩ : ∃ x, (m.u u).used = x := ⟨_, rfl⟩
  rw [hUs] at htm
  have hub : us ≤ 1000000 := by have := htm.2.2.1; omega
  have htb : T ≤ 1048576000000 := by have := htm.1; omega
  have HTL : Hid ((m.u u).time = T ∧ (m.u g).floor = L ∧ (m.u u).weight = wt ∧ (m.u u).quota = qu ∧ (m.u u).used = us) := Hid.intro ⟨hT, hL, hWt, hQu, hUs⟩
  clear hT hL hWt htm hQu hUs
  go_enter Tryz.func139, Tryz.ntmps139
  go_wp2
  go_quiet (fail)
  go_wp2_with fail
  refine wp_gen (fun W => SAt W b m qs ∧ Frm b w W) ⟨HS.out.drewN _, (Frm.refl b w).drewN _⟩ ?_
  clear HS c1
  rintro W ⟨hS, hF⟩
  have c2 : W.cell? ⟨b, 1 + u * 4 + 3, none⟩ = some (.int .u64 (T : Int)) := by rw [← HTL.out.1]; exact hS.cTime u HG.out.lt
  have c3 : W.cell? ⟨b, 121 + g * 198 + 193, none⟩ = some (.int .u64 (L : Int)) := by rw [← HTL.out.2.1]; exact hS.cFloor g HG.out.glt
  have cf := hS.frozen
  have HS : Hid (SAt W b m qs) := hS
  have HF : Hid (Frm b w W) := hF
  clear hS hF
  go_region
  go_wp2_with fail
  refine wp_gen (fun W => SAt W b (m.set g { m.u g with floor := max L T }) qs ∧ Frm b w W) ⟨(HS.out.setFloor g (max L T) HG.out.glt).drew, (HF.out.setCell _ _).drew⟩ ?_
  clear HS HF c2 c3 cf
  clear W
  rintro W ⟨hS, hF⟩
  have e1 : (m.set g { m.u g with floor := max L T }).u u = m.u u := Fr.set_ne _ _ _ _ (Ne.symm hgne'.out)
  have c2 : W.cell? ⟨b, 1 + u * 4 + 3, none⟩ = some (.int .u64 (T : Int)) := by rw [← HTL.out.1, ← e1]; exact hS.cTime u HG.out.lt
  have c3 : W.cell? ⟨b, 1 + u * 4 + 2, none⟩ = some (.int .u64 (wt : Int)) := by rw [← HTL.out.2.2.1, ← e1]; exact hS.cWeight u HG.out.pos HG.out.lt
  have cf := hS.frozen
  have HS : Hid (SAt W b (m.set g { m.u g with floor := max L T }) qs) := hS
  have HF : Hid (Frm b w W) := hF
  have HE1 : Hid ((m.set g { m.u g with floor := max L T }).u u = m.u u) := e1
  have z1 : ((wt : Int) == 0) = false := by simp; omega
  have c4 : W.cell? ⟨b, 121 + u * 198 + 195, none⟩ = some (.int .i64 (qu : Int)) := by rw [← HTL.out.2.2.2.1, ← e1]; exact hS.cQuota u h10
  have c5 : W.cell? ⟨b, 121 + u * 198 + 197, none⟩ = some (.int .i64 (us : Int)) := by rw [← HTL.out.2.2.2.2, ← e1]; exact hS.cUsed u h10
  clear hS hF e1
  by_cases hq : 0 < qu
  · have q1 : (0 : Int) < (qu : Int) := by omega
    go_region
    go_wp2_with fail
    go_region
    go_wp2_with fail
    have HS2 : Hid (SAt ((W.setCell ⟨b, 1 + u * 4 + 3, none⟩ (.int .u64 (IntKind.u64.wrap ((T : Int) + 1048576 / (wt : Int))))).setCell ⟨b, 121 + u * 198 + 197, none⟩ (.int .i64 ((us : Int) + 1))).drew.drew b (Fr.payT m u) qs) := Hid.intro (by
      rw [wrap_pay T wt htb, HT.out]
      have := ((((HS.out.setTime u (T + 1048576 / wt) HG.out.lt).setUsed u (us + 1) h10).setRanG u ((m.u u).ran + 1) h10).drew).drew
      rw [HE1.out] at this
      simp only [Fr.set_same, Fr.set_set] at this
      rw [if_pos (show 0 < (m.u u).quota by rw [HTL.out.2.2.2.1]; exact hq), HTL.out.2.2.2.2]
      exact this)
    refine (cut_has b (121 + g * 198) u (qs g) _ ⟨HS2.out.at_ g HG.out.glt, (HC.out.ok g HG.out.glt).1, (HC.out.ok g HG.out.glt).2⟩ (by omega) (place_yes HC.out HG.out HW.out)).mono ?_
    rintro e w2 ⟨rfl, o2, q2, g2, m2, k2, h2⟩
    have HF2 : Hid (Fair w2 b (Fr.setWas (Fr.payT m u) u false)) := Hid.intro
      ⟨_, (HS2.out.queue HG.out.glt o2 g2.at_).setWas u false, (HC.out.cut HG.out.pos HG.out.glt HG.out.here HG.out.inn ⟨g2.ok, g2.full⟩ k2 h2).pay rfl⟩
    have HR2 : Hid (Frm b w w2) := Hid.intro (((HF.out.setCell _ _).setCell _ _).drew.drew.trans o2.frm)
    clear o2 g2 m2 k2 h2 HS2 c2 c3 cf HS HF c4 c5
    go_wp2_with fail
    refine (line_any b u g _ _ HF2.out (HG.out.payT HN.out)).mono ?_
    rintro e w3 ⟨rfl, f3, r3⟩
    have FIN : Hid (Fair w3 b (Fr.payC m u) ∧ Frm b w w3) := Hid.intro ⟨by rw [← HE.out]; exact f3, HR2.out.trans r3⟩
    clear f3 r3
    go_wp2_with fail
    go_end0
    exact ⟨rfl, FIN.out⟩
  · have q1 : ¬ (0 : Int) < (qu : Int) := by omega
    go_region
    go_wp2_with fail
    have HS2 : Hid (SAt (W.setCell ⟨b, 1 + u * 4 + 3, none⟩ (.int .u64 (IntKind.u64.wrap ((T : Int) + 1048576 / (wt : Int))))).drew b (Fr.payT m u) qs) := Hid.intro (by
      rw [wrap_pay T wt htb, HT.out]
      have := ((HS.out.setTime u (T + 1048576 / wt) HG.out.lt).setRanG u ((m.u u).ran + 1) h10).drew
      rw [HE1.out] at this
      simp only [Fr.set_same, Fr.set_set] at this
      rw [if_neg (show ¬ 0 < (m.u u).quota by rw [HTL.out.2.2.2.1]; exact hq)]
      exact this)
    refine (cut_has b (121 + g * 198) u (qs g) _ ⟨HS2.out.at_ g HG.out.glt, (HC.out.ok g HG.out.glt).1, (HC.out.ok g HG.out.glt).2⟩ (by omega) (place_yes HC.out HG.out HW.out)).mono ?_
    rintro e w2 ⟨rfl, o2, q2, g2, m2, k2, h2⟩
    have HF2 : Hid (Fair w2 b (Fr.setWas (Fr.payT m u) u false)) := Hid.intro
      ⟨_, (HS2.out.queue HG.out.glt o2 g2.at_).setWas u false, (HC.out.cut HG.out.pos HG.out.glt HG.out.here HG.out.inn ⟨g2.ok, g2.full⟩ k2 h2).pay rfl⟩
    have HR2 : Hid (Frm b w w2) := Hid.intro ((HF.out.setCell _ _).drew.trans o2.frm)
    clear o2 g2 m2 k2 h2 HS2 c2 c3 cf HS HF c4 c5
    go_wp2_with fail
    refine (line_any b u g _ _ HF2.out (HG.out.payT HN.out)).mono ?_
    rintro e w3 ⟨rfl, f3, r3⟩
    have FIN : Hid (Fair w3 b (Fr.payC m u) ∧ Frm b w w3) := Hid.intro ⟨by rw [← HE.out]; exact f3, HR2.out.trans r3⟩
    clear f3 r3
    go_wp2_with fail
    go_end0
    exact ⟨rfl, FIN.out⟩
theorem pay_any (b u g : Nat) (m : M) (w : World) (h : Fair w b m) (hI : Fr.Inv m) (hG : InG m u g) (hw : (m.u u).was = true) (hn : m.now ≤ 1000000) :
    Calls Tryz.prog 139 #[.pointer (some ⟨b, 0, none⟩), .int .i64 u] w fun e w' => e = .returned (.tuple #[]) ∧ Fair w' b (Fr.payC m u) ∧ Frm b w w' := by
  by_cases k : 10 ≤ u
  · exact pay_task b u g m w h hI hG k hw hn
  · exact pay_group b u g m w h hI hG (by omega) hw hn
end Go.Proofs.YtghogbngmcolmaaGreat.Fa
namespace Go.Proofs.YtghogbngmcolmaaGreat.Fa
open Go.RowKit
open Hp (Q)
open Fr (Un M)
theorem Fair.ran {w : World} {b : Nat} {m : M} (h : Fair w b m) {n : Nat} (hn : n < 20) : w.cell? ⟨b, 2101 + n * 2 + 1, none⟩ = some (.int .i64 ((m.u (10 + n)).ran : Int)) := by
  obtain ⟨qs, hS, _⟩ := h; exact hS.cRan n hn
theorem Fair.frozen {w : World} {b : Nat} {m : M} (h : Fair w b m) (o : Nat) : w.frozen? ⟨b, o, none⟩ = false := by
  obtain ⟨qs, hS, _⟩ := h; exact hS.frozen o
theorem Fair.setRan {w : World} {b : Nat} {m : M} (h : Fair w b m) (n k : Nat) (hn : n < 20) : Fair (w.setCell ⟨b, 2101 + n * 2 + 1, none⟩ (.int .i64 (k : Int))) b (m.set (10 + n) { m.u (10 + n) with ran := k }) := by
  obtain ⟨qs, hS, hC⟩ := h; exact ⟨qs, hS.setRan n k hn, hC.set rfl rfl rfl (.inl rfl)⟩
theorem Fair.drew {w : World} {b : Nat} {m : M} (h : Fair w b m) : Fair w.drew b m := by obtain ⟨qs, h1, h2⟩ := h; exact ⟨qs, h1.drew, h2⟩
theorem InG.ranUp {m : M} {u g : Nat} (h : InG m u g) (v : Nat) : InG (Fr.ranUp m v) u g :=
  ⟨h.pos, h.lt, by rw [(Fr.ranUp_here m v u).1]; exact h.here, h.glt, by rw [(Fr.ranUp_here m v u).2.1]; exact h.inn⟩
structure RunI (w : World) (b : Nat) (m : M) (t : Nat) (rk : Nat → Nat) (R : Nat) (W : World) (v : Nat) (mi : M) : Prop where
  fair : Fair W b (Fr.ranUp mi v)
  frm : Frm b w W
  going : Fr.Going mi rk R v
  now : mi.now = m.now
  pays : ∀ m', Fr.Pays mi v m' → Fr.Pays m t m'
set_option maxRecDepth 100000 in
set_option maxHeartbeats 1000000 in
theorem run_any (b n : Nat) (m : M) (w : World) (h : Fair w b m) (rk : Nat → Nat) (R : Nat) (hG : Fr.Going m rk R (10 + n)) (hn : n < 20) (hnow : m.now ≤ 1000000) :
    Calls Tryz.prog 106 #[.pointer (some ⟨b, 0, none⟩), .int .i64 n] w fun e w' => e = .returned (.tuple #[]) ∧ ∃ m', Fr.Pays m (10 + n) m' ∧ Fair w' b m' ∧ Frm b w w' := by
  have c1 := h.ran hn
  have cf := h.frozen
  have hnI : (n : Int) < 20 := by omega
  have hr := (hG.inv.tm (10 + n) (by omega)).2.2.2
  obtain ⟨r, hr'⟩ : ∃ r, (m.u (10 + n)).ran = r := ⟨_, rfl⟩
  rw [hr'] at c1 hr
  have hrb : r ≤ 1000000 := by omega
  have HRn : Hid ((m.u (10 + n)).ran = r) := hr'
  have HF : Hid (Fair w b m) := h
  have HG : Hid (Fr.Going m rk R (10 + n)) := hG
  have HN : Hid (m.now ≤ 1000000) := hnow
  clear h hG hr hr'
  go_enter Tryz.func106, Tryz.ntmps106
  go_wp2
  go_region
  go_wp2_with fail
  have H0 : Hid (RunI w b m (10 + n) rk R (w.setCell ⟨b, 2101 + n * 2 + 1, none⟩ (.int .i64 ((r : Int) + 1))).drew (10 + n) m) := Hid.intro
    ⟨by
      have := (HF.out.setRan n (r + 1) hn).drew
      unfold Fr.ranUp
      rw [if_pos (by omega), HRn.out]
      exact this, ((Frm.refl b w).setCell _ _).drew, HG.out, rfl, fun _ k => k⟩
  clear c1 cf
  generalize (w.setCell ⟨b, 2101 + n * 2 + 1, none⟩ (.int .i64 ((r : Int) + 1))).drew = W0 at *
  go_loopw [4] (fun i wr => ∃ (v : Nat) (mi : M), i = .int .i64 v ∧ v < 30 ∧ Hid (RunI w b m (10 + n) rk R wr v mi)) (fun i _ => rk (intOf i).toNat)
  case atStart => exact ⟨10 + n, m, by go_num, by omega, H0⟩
  case round =>
    clear H0
    obtain ⟨v, mi, rfl, hv, H⟩ := hrel
    by_cases h0 : v = 0
    · subst h0
      go_wp2
      go_end0
      exact ⟨rfl, mi, H.out.pays mi (.root mi), H.out.fair, H.out.frm⟩
    · have k0 : ((v : Int) != 0) = true := by rw [bne_iff_ne]; omega
      have HX : Hid (InG mi v (Fr.grp mi v)) := InG.of H.out.going.inv (by omega) hv (H.out.going.facts (by omega)).1
      go_wp2_with fail
      refine (pay_any b v (Fr.grp mi v) (Fr.ranUp mi v) _ H.out.fair (H.out.going.ranUp (by omega)) (HX.out.ranUp v) (by rw [(Fr.ranUp_here mi v v).2.2.1]; exact (H.out.going.facts (by omega)).2.1) (by rw [Fr.ranUp_now, H.out.now]; exact HN.out)).mono ?_
      rintro e w1 ⟨rfl, f1, r1⟩
      have H1 : Hid (RunI w b m (10 + n) rk R w1 (Fr.grp mi v) (Fr.payR mi v)) := Hid.intro
        ⟨by
          have e : Fr.ranUp (Fr.payR mi v) (Fr.grp mi v) = Fr.payR mi v := by unfold Fr.ranUp; rw [if_neg (by have := HX.out.glt; omega)]
          rw [e]; exact f1, H.out.frm.trans r1, H.out.going.next (by omega), by rw [Fr.payR_now]; exact H.out.now, fun m' k => H.out.pays m' (.up h0 k)⟩
      have c1 : w1.cell? ⟨b, 1 + v * 4 + 1, none⟩ = some (.int .i64 (Fr.grp mi v : Int)) := f1.in_ ⟨HX.out.pos, HX.out.lt, by rw [Fr.payC_here, (Fr.ranUp_here mi v v).1]; exact HX.out.here, HX.out.glt, by rw [Fr.payC_inn, (Fr.ranUp_here mi v v).2.1]; exact HX.out.inn⟩
      have hvI : (v : Int) < 30 := by omega
      have HM : Hid (rk (Fr.grp mi v) < rk v) := (H.out.going.facts (by omega)).2.2.2.2.1
      clear f1 r1
      go_wp2_with fail
      go_roundw
      case rel => exact ⟨_, _, rfl, by have := HX.out.glt; omega, H1⟩
      case measure => simp [intOf]; exact HM.out
theorem first_any (b g : Nat) (m : M) (qs : Nat → Q) (w : World) (hS : SAt w b m qs) (hC : Cpl m qs) (hg : g < 10) (hk : Fr.hasKid m g = true) :
    Calls Tryz.prog 138 #[.pointer (some ⟨b, 121 + g * 198, none⟩)] w fun e w' => ∃ (j : Nat) (k : Int), e = .returned (.tuple #[.int .i64 j, .int .u64 k, .bool true]) ∧ (∃ n, w' = w.drewN n) ∧ Fr.Best m g j := by
  have hm := hC.many g hg
  rw [hk, decide_eq_true_eq] at hm
  refine (first_some b _ (qs g) w ⟨hS.at_ g hg, (hC.ok g hg).1, (hC.ok g hg).2⟩ hm).mono ?_
  rintro e w' ⟨j, rfl, hw, hj, hp, hl⟩
  have kj := (hC.has g j hg hj).1 hp
  refine ⟨j, _, rfl, hw, kj.1, kj.2, fun i hi ki => ?_⟩
  have := hl i (by omega) ((hC.has g i hg (by omega)).2 ⟨hi, ki⟩)
  unfold Hp.ah at this
  rw [hC.key g i hg hi ki, hC.key g j hg kj.1 kj.2] at this
  omega
end Go.Proofs.YtghogbngmcolmaaGreat.Fa
namespace Go.Proofs.YtghogbngmcolmaaGreat.Fa
open Go.RowKit
open Hp (Q)
open Fr (Un M)
def pickI : Option Nat → Int
  | none => -1
  | some t => (t : Int) - 10
structure NextI (w : World) (m : M) (W : World) (v : Nat) : Prop where
  world : ∃ n, W = w.drewN n
  lt : v < 30
  pick : ∀ r, Fr.Pick m v r → Fr.Pick m 0 r
set_option maxRecDepth 100000 in
set_option maxHeartbeats 1000000 in
theorem next_any (b : Nat) (m : M) (w : World) (h : Fair w b m) (hI : Fr.Inv m) :
    Calls Tryz.prog 105 #[.pointer (some ⟨b, 0, none⟩)] w fun e w' => ∃ r, e = .returned (.int .i64 (pickI r)) ∧ Fr.Pick m 0 r ∧ ∃ n, w' = w.drewN n := by
  obtain ⟨rk, R, hR⟩ := hI.tree
  obtain ⟨qs, hS, hC⟩ := h
  have H0 : Hid (NextI w m w 0) := ⟨⟨0, rfl⟩, by omega, fun _ k => k⟩
  have HS : Hid (SAt w b m qs) := hS
  have HC : Hid (Cpl m qs) := hC
  have HI : Hid (Fr.Inv m) := hI
  have HR : Hid (Fr.Rank m rk R) := hR
  clear hS hC hI hR
  go_enter Tryz.func105, Tryz.ntmps105
  go_wp2_with fail
  go_loopw [3] (fun i wr => ∃ (v : Nat), i = .int .i64 v ∧ v < 30 ∧ Hid (NextI w m wr v)) (fun i _ => R - rk (intOf i).toNat)
  case atStart => exact ⟨0, rfl, by omega, H0⟩
  case round =>
    clear H0
    obtain ⟨v, rfl, hv, H⟩ := hrel
    by_cases h10 : v < 10
    · have k0 : (v : Int) < 10 := by omega
      have HS2 : Hid (SAt wr b m qs) := Hid.intro (by obtain ⟨n, hn⟩ := H.out.world; rw [hn]; exact HS.out.drewN n)
      cases hk : Fr.hasKid m v
      · have HK : Hid (Fr.hasKid m v = false) := hk
        have hm : Hid ((qs v).many = 0) := Hid.intro (by
          have := HC.out.many v h10
          rw [hk, decide_eq_false_iff_not] at this
          omega)
        clear hk
        go_wp2_with fail
        refine (first_none b _ (qs v) _ (HS2.out.at_ v h10) hm.out).mono ?_
        rintro e w1 ⟨rfl, rfl⟩
        go_wp2_with fail
        go_ret
        exact ⟨none, rfl, H.out.pick _ (.none h10 HK.out), H.out.world⟩
      · have HK : Hid (Fr.hasKid m v = true) := hk
        clear hk
        go_wp2_with fail
        refine (first_any b v m qs _ HS2.out HC.out h10 HK.out).mono ?_
        rintro e w1 ⟨j, k, rfl, hw1, hB⟩
        have HX : Hid (NextI w m w1 j ∧ rk v < rk j ∧ rk j ≤ R ∧ rk v ≤ R) := Hid.intro (by
          obtain ⟨n, hn⟩ := H.out.world
          obtain ⟨n1, hn1⟩ := hw1
          have kb := Fr.kidB_iff.1 hB.kid
          obtain ⟨g, h1, h2, h3, h4⟩ := HR.out.up j kb.1 hB.lt kb.2.1
          have e : g = v := by have := kb.2.2.1; omega
          subst e
          exact ⟨⟨⟨n + n1, by rw [hn1, hn, World.drewN_drewN]⟩, hB.lt, fun r p => H.out.pick r (.down h10 hB p)⟩, h4, HR.out.le j hB.lt, HR.out.le g (by omega)⟩)
        have hj : j < 30 := hB.lt
        clear hw1 hB
        go_wp2_with fail
        go_roundw
        case rel => exact ⟨j, rfl, hj, HX.out.1⟩
        case measure => have := HX.out.2; simp [intOf]; omega
    · have k0 : ¬ (v : Int) < 10 := by omega
      go_wp2_with fail
      go_ret
      exact ⟨some v, rfl, H.out.pick _ (.task (by omega)), H.out.world⟩
structure RenI (w : World) (b : Nat) (m : M) (W : World) (k : Nat) (mi : M) : Prop where
  fair : Fair W b mi
  frm : Frm b w W
  inv : Fr.Inv mi
  now : mi.now = m.now
  ren : ∀ m', Fr.Renew mi k m' → Fr.Renew m 0 m'
theorem Fair.cNow {w : World} {b : Nat} {m : M} (h : Fair w b m) : w.cell? ⟨b, 0, none⟩ = some (.int .i64 (m.now : Int)) := by obtain ⟨qs, hS, _⟩ := h; exact hS.now
theorem Fair.cQuota {w : World} {b : Nat} {m : M} (h : Fair w b m) (g : Nat) (hg : g < 10) : w.cell? ⟨b, 121 + g * 198 + 195, none⟩ = some (.int .i64 ((m.u g).quota : Int)) := by obtain ⟨qs, hS, _⟩ := h; exact hS.cQuota g hg
theorem Fair.cPeriod {w : World} {b : Nat} {m : M} (h : Fair w b m) (g : Nat) (hg : g < 10) : w.cell? ⟨b, 121 + g * 198 + 196, none⟩ = some (.int .i64 ((m.u g).period : Int)) := by obtain ⟨qs, hS, _⟩ := h; exact hS.cPeriod g hg
theorem Fair.cUsed {w : World} {b : Nat} {m : M} (h : Fair w b m) (g : Nat) (hg : g < 10) : w.cell? ⟨b, 121 + g * 198 + 197, none⟩ = some (.int .i64 ((m.u g).used : Int)) := by obtain ⟨qs, hS, _⟩ := h; exact hS.cUsed g hg
theorem Fair.setUsed {w : World} {b : Nat} {m : M} (h : Fair w b m) (g n : Nat) (hg : g < 10) : Fair (w.setCell ⟨b, 121 + g * 198 + 197, none⟩ (.int .i64 (n : Int))) b (m.set g { m.u g with used := n }) := by
  obtain ⟨qs, hS, hC⟩ := h; exact ⟨qs, hS.setUsed g n hg, hC.set rfl rfl rfl (.inl rfl)⟩
theorem Fair.setNow {w : World} {b : Nat} {m : M} (h : Fair w b m) (n : Nat) : Fair (w.setCell ⟨b, 0, none⟩ (.int .i64 (n : Int))) b { m with now := n } := by
  obtain ⟨qs, hS, hC⟩ := h; exact ⟨qs, hS.setNow n, hC.turn (fun _ _ _ _ => rfl) (fun _ _ _ _ _ => rfl)⟩
set_option maxRecDepth 100000 in
set_option maxHeartbeats 1000000 in
theorem renew_any (b : Nat) (m : M) (w : World) (h : Fair w b m) (hI : Fr.Inv m) (hn : m.now ≤ 1000000) :
    Calls Tryz.prog 104 #[.pointer (some ⟨b, 0, none⟩)] w fun e w' => e = .returned (.tuple #[]) ∧ ∃ m', Fr.Renew m 0 m' ∧ Fair w' b m' ∧ Frm b w w' := by
  have H0 : Hid (RenI w b m w 0 m) := ⟨h, Frm.refl b w, hI, rfl, fun _ k => k⟩
  obtain ⟨N, hN⟩ : ∃ N, m.now = N := ⟨_, rfl⟩
  rw [hN] at hn
  have HN : Hid (m.now = N) := hN
  clear h hI hN
  go_enter Tryz.func104, Tryz.ntmps104
  go_wp2_with fail
  go_loopw [4] (fun i wr => ∃ (k : Nat) (mi : M), i = .int .i64 k ∧ k ≤ 10 ∧ Hid (RenI w b m wr k mi)) (fun i _ => 10 - (intOf i).toNat)
  case atStart => exact ⟨0, m, rfl, by omega, H0⟩
  case round =>
    clear H0
    obtain ⟨k, mi, rfl, hk, H⟩ := hrel
    by_cases h10 : k < 10
    · have k0 : (k : Int) < 10 := by omega
      have c0 : wr.cell? ⟨b, 0, none⟩ = some (.int .i64 (N : Int)) := by rw [← HN.out, ← H.out.now]; exact H.out.fair.cNow
      have c1 := H.out.fair.cQuota k h10
      have c2 := H.out.fair.cPeriod k h10
      have c3 := H.out.fair.cUsed k h10
      have cf := H.out.fair.frozen
      have hq := H.out.inv.quo k (by omega)
      have hp := H.out.inv.per k (by omega)
      obtain ⟨qu, hQu⟩ : ∃ x, (mi.u k).quota = x := ⟨_, rfl⟩
      obtain ⟨pe, hPe⟩ : ∃ x, (mi.u k).period = x := ⟨_, rfl⟩
      obtain ⟨us, hUs⟩ : ∃ x, (mi.u k).used = x := ⟨_, rfl⟩
      rw [hQu] at c1 hq hp
      rw [hPe] at c2 hq hp
      rw [hUs] at c3
      have HQ : Hid ((mi.u k).quota = qu ∧ (mi.u k).period = pe ∧ mi.now = N) := Hid.intro ⟨hQu, hPe, H.out.now.trans HN.out⟩
      clear hQu hPe hUs
      by_cases q0 : 0 < qu
      · have q1 : decide ((0 : Int) < (qu : Int)) = true := by simp; omega
        have p0 := (hq q0).2.2
        have p1 : ((pe : Int) == 0) = false := by simp; omega
        by_cases hz : N % pe = 0
        · have z1 : (((N : Int).tmod (pe : Int)) == 0) = true := by
            rw [Int.tmod_eq_emod_of_nonneg (by omega)]; simp; omega
          have HH : Hid ((mi.u k).here = true) := Fr.here_of_quota H.out.inv (by omega) (by rw [HQ.out.1]; exact q0)
          go_wp2_with fail
          go_quiet (fail)
          go_wp2_with fail
          refine (settle_any b k (Fr.zeroU mi k) _ ((H.out.fair.drewN nq).setUsed k 0 h10) (H.out.inv.zeroU (by omega) HH.out) (by omega) (by rw [Fr.zeroU_here]; exact HH.out)).mono ?_
          rintro e w1 ⟨rfl, m1, l1, f1, r1⟩
          have H1 : Hid (RenI w b m w1 (k + 1) m1) := Hid.intro (by
            have rs : Fr.RStep mi k m1 := .inl ⟨by rw [HQ.out.1]; exact q0, by rw [HQ.out.2.1, HQ.out.2.2]; exact hz, l1⟩
            exact ⟨f1, ((H.out.frm.drewN nq).setCell _ _).trans r1, H.out.inv.rstep h10 rs, (Fr.look_here l1).1.trans H.out.now, fun m' r => H.out.ren m' (.step h10 rs r)⟩)
          clear l1 f1 r1 c0 c1 c2 c3 cf
          go_wp2_with fail
          go_roundw
          case rel => exact ⟨k + 1, m1, by go_num, by omega, H1⟩
          case measure => simp [intOf]; omega
        · have z1 : (((N : Int).tmod (pe : Int)) == 0) = false := by
            rw [Int.tmod_eq_emod_of_nonneg (by omega)]; simp; omega
          go_wp2_with fail
          go_quiet (fail)
          go_wp2_with fail
          go_roundw
          case rel => exact ⟨k + 1, mi, by go_num, by omega, ⟨H.out.fair.drewN _, H.out.frm.drewN _, H.out.inv, H.out.now, fun m' r => H.out.ren m' (.step h10 (.inr ⟨fun c => hz (by have := c.2; rw [HQ.out.2.1, HQ.out.2.2] at this; exact this), rfl⟩) r)⟩⟩
          case measure => simp [intOf]; omega
      · have q1 : decide ((0 : Int) < (qu : Int)) = false := by simp; omega
        go_wp2_with fail
        go_quiet (fail)
        go_wp2_with fail
        go_roundw
        case rel => exact ⟨k + 1, mi, by go_num, by omega, ⟨H.out.fair.drewN _, H.out.frm.drewN _, H.out.inv, H.out.now, fun m' r => H.out.ren m' (.step h10 (.inr ⟨fun c => q0 (by have := c.1; rw [HQ.out.1] at this; exact this), rfl⟩) r)⟩⟩
        case measure => simp [intOf]; omega
    · have k0 : ¬ (k : Int) < 10 := by omega
      obtain rfl : k = 10 := by omega
      go_wp2_with fail
      go_end0
      exact ⟨rfl, mi, H.out.ren mi (.done mi), H.out.fair, H.out.frm⟩
set_option maxRecDepth 100000 in
set_option maxHeartbeats 1000000 in
theorem tick_any (b : Nat) (m : M) (w : World) (h : Fair w b m) (hI : Fr.Inv m) (hn : m.now < 1000000) :
    Calls Tryz.prog 61 #[.pointer (some ⟨b, 0, none⟩)] w fun e w' => ∃ (r : Int) (m' : M), e = .returned (.int .i64 r) ∧ Fr.Tick m r m' ∧ Fair w' b m' ∧ Frm b w w' := by
  have HF : Hid (Fair w b m) := h
  have HI : Hid (Fr.Inv m) := hI
  have HN : Hid (m.now < 1000000) := hn
  clear h hI hn
  go_enter Tryz.func61, Tryz.ntmps61
  go_wp2_with fail
  refine (renew_any b m _ HF.out HI.out (by have := HN.out; omega)).mono ?_
  rintro e w1 ⟨rfl, m1, k1, f1, r1⟩
  have K1 : Hid (Fr.Renew m 0 m1) := k1
  have F1 : Hid (Fair w1 b m1) := f1
  have R1 : Hid (Frm b w w1) := r1
  have I1 : Hid (Fr.Inv m1) := Fr.Inv.renew k1 HI.out
  have c0 := f1.cNow
  have cf := f1.frozen
  have hN : m1.now < 1000000 := by rw [Fr.renew_now k1]; exact HN.out
  clear k1 f1 r1
  obtain ⟨N, hN'⟩ : ∃ N, m1.now = N := ⟨_, rfl⟩
  rw [hN'] at c0 hN
  have HN1 : Hid (m1.now = N) := hN'
  clear hN'
  go_wp2_with fail
  have FX : Hid (Fair (w1.setCell ⟨b, 0, none⟩ (.int .i64 ((N : Int) + 1))) b (Fr.up1 m1)) := Hid.intro (by have := F1.out.setNow (N + 1); unfold Fr.up1; rw [HN1.out]; exact this)
  refine (next_any b (Fr.up1 m1) _ FX.out I1.out.up1).mono ?_
  rintro e w2 ⟨r, rfl, p2, n2, hw2⟩
  have F2 : Hid (Fair w2 b (Fr.up1 m1)) := Hid.intro (by rw [hw2]; exact FX.out.drewN _)
  have R2 : Hid (Frm b w w2) := Hid.intro (by rw [hw2]; exact (R1.out.setCell _ _).drewN _)
  have P2 : Hid (Fr.Pick (Fr.up1 m1) 0 r) := p2
  clear hw2 p2 FX c0 cf
  cases r with
  | none =>
    rw [show pickI none = -1 from rfl]
    go_wp2_with fail
    go_ret
    exact ⟨-1, _, rfl, ⟨m1, K1.out, .inl ⟨P2.out, rfl, rfl⟩⟩, F2.out, R2.out⟩
  | some t =>
    obtain ⟨rk, R, hg, ht⟩ := Fr.going_of I1.out P2.out
    obtain ⟨n, rfl⟩ : ∃ n, t = 10 + n := ⟨t - 10, by omega⟩
    have hlt : n < 20 := by have := hg.lt; omega
    have HG : Hid (Fr.Going (Fr.up1 m1) rk R (10 + n)) := hg
    rw [show pickI (some (10 + n)) = (n : Int) by show ((10 + n : Nat) : Int) - 10 = n; omega]
    have z : ((n : Int) != -1) = true := by rw [bne_iff_ne]; omega
    clear hg ht
    go_wp2_with fail
    refine (run_any b n (Fr.up1 m1) _ F2.out rk R HG.out hlt (by show m1.now + 1 ≤ _; rw [HN1.out]; omega)).mono ?_
    rintro e w3 ⟨rfl, m3, k3, f3, r3⟩
    have FIN : Hid (Fr.Tick m n m3 ∧ Fair w3 b m3 ∧ Frm b w w3) := Hid.intro ⟨⟨m1, K1.out, .inr ⟨10 + n, P2.out, by omega, k3⟩⟩, f3, R2.out.trans r3⟩
    clear k3 f3 r3
    go_wp2_with fail
    go_ret
    exact ⟨n, m3, rfl, FIN.out⟩
end Go.Proofs.YtghogbngmcolmaaGreat.Fa
namespace Go.Proofs.YtghogbngmcolmaaGreat.Fa
open Go.RowKit
open Hp (Q)
open Fr (Un M)
def errV (k : Int) : Value := if k = 0 then .nilIface else .iface 60 (.int .i64 k)
theorem errV_zero : errV 0 = .nilIface := rfl
theorem errV_ne {k : Int} (h : k ≠ 0) : errV k = .iface 60 (.int .i64 k) := if_neg h
theorem Fair.cHere {w : World} {b : Nat} {m : M} (h : Fair w b m) (u : Nat) (hu : u < 30) : w.cell? ⟨b, 1 + u * 4, none⟩ = some (.bool (m.u u).here) := by obtain ⟨qs, hS, _⟩ := h; exact hS.cHere u hu
set_option maxRecDepth 100000 in
set_option maxHeartbeats 400000 in
theorem wrongGroup_any (b : Nat) (z : Int) (m : M) (w : World) (h : Fair w b m) : Calls Tryz.prog 143 #[.pointer (some ⟨b, 0, none⟩), .int .i64 z] w fun e w' => e = .returned (errV (Fr.groupE m z)) ∧ w' = w := by
  by_cases k : z < 0 ∨ 10 ≤ z
  · have e : Hid (Fr.groupE m z = 1) := Hid.intro (if_pos k)
    by_cases h0 : z < 0
    · clear h k
      go_enter Tryz.func143, Tryz.ntmps143
      go_wp2
      go_ret
      rw [e.out]; exact ⟨rfl, rfl⟩
    · have h1 : decide (z < 0) = false := by simp; omega
      have h2 : 10 ≤ z := by omega
      clear h k h0
      go_enter Tryz.func143, Tryz.ntmps143
      go_wp2
      go_ret
      rw [e.out]; exact ⟨rfl, rfl⟩
  · obtain ⟨g, rfl⟩ := Int.eq_ofNat_of_zero_le (show 0 ≤ z by omega)
    have c := h.cHere g (by omega)
    have h1 : (g : Int) < 10 := by omega
    have h2 : ¬ (10 : Int) ≤ (g : Int) := by omega
    cases hh : (m.u g).here
    · have e : Hid (Fr.groupE m g = 2) := Hid.intro (by unfold Fr.groupE; rw [if_neg k, Int.toNat_natCast, hh]; rfl)
      rw [hh] at c
      clear h k hh
      go_enter Tryz.func143, Tryz.ntmps143
      go_wp2
      go_ret
      rw [e.out]; exact ⟨rfl, rfl⟩
    · have e : Hid (Fr.groupE m g = 0) := Hid.intro (Fr.groupE_nat (by omega) hh)
      rw [hh] at c
      clear h k hh
      go_enter Tryz.func143, Tryz.ntmps143
      go_wp2
      go_ret
      rw [e.out]; exact ⟨rfl, rfl⟩
set_option maxRecDepth 100000 in
set_option maxHeartbeats 400000 in
theorem wrongTask_any (b : Nat) (z : Int) (m : M) (w : World) (h : Fair w b m) : Calls Tryz.prog 120 #[.pointer (some ⟨b, 0, none⟩), .int .i64 z] w fun e w' => e = .returned (errV (Fr.taskE m z)) ∧ w' = w := by
  by_cases k : z < 0 ∨ 20 ≤ z
  · have e : Hid (Fr.taskE m z = 1) := Hid.intro (if_pos k)
    by_cases h0 : z < 0
    · clear h k
      go_enter Tryz.func120, Tryz.ntmps120
      go_wp2
      go_ret
      rw [e.out]; exact ⟨rfl, rfl⟩
    · have h1 : decide (z < 0) = false := by simp; omega
      have h2 : 20 ≤ z := by omega
      clear h k h0
      go_enter Tryz.func120, Tryz.ntmps120
      go_wp2
      go_ret
      rw [e.out]; exact ⟨rfl, rfl⟩
  · obtain ⟨g, rfl⟩ := Int.eq_ofNat_of_zero_le (show 0 ≤ z by omega)
    have c := h.cHere (10 + g) (by omega)
    have h1 : (g : Int) < 20 := by omega
    have h2 : ¬ (20 : Int) ≤ (g : Int) := by omega
    cases hh : (m.u (10 + g)).here
    · have e : Hid (Fr.taskE m g = 2) := Hid.intro (by unfold Fr.taskE; rw [if_neg k, Int.toNat_natCast, hh]; rfl)
      rw [hh] at c
      clear h k hh
      go_enter Tryz.func120, Tryz.ntmps120
      go_wp2
      go_ret
      rw [e.out]; exact ⟨rfl, rfl⟩
    · have e : Hid (Fr.taskE m g = 0) := Hid.intro (Fr.taskE_nat (by omega) hh)
      rw [hh] at c
      clear h k hh
      go_enter Tryz.func120, Tryz.ntmps120
      go_wp2
      go_ret
      rw [e.out]; exact ⟨rfl, rfl⟩
set_option maxRecDepth 100000 in
set_option maxHeartbeats 400000 in
theorem wake_any (b : Nat) (z : Int) (on : Bool) (m : M) (w : World) (h : Fair w b m) (hI : Fr.Inv m) :
    Calls Tryz.prog 71 #[.pointer (some ⟨b, 0, none⟩), .int .i64 z, .bool on] w fun e w' => e = .returned (errV (Fr.taskE m z)) ∧ ∃ m', Fr.WakeTo m z on m' ∧ Fair w' b m' ∧ Frm b w w' := by
  have HF : Hid (Fair w b m) := h
  have HI : Hid (Fr.Inv m) := hI
  clear h hI
  by_cases k : Fr.taskE m z = 0
  · have HK : Hid (Fr.taskE m z = 0) := k
    obtain ⟨n, rfl, hn, hh⟩ := Fr.taskE_zero k
    have HH : Hid ((m.u (10 + n)).here = true) := hh
    clear k hh
    go_enter Tryz.func71, Tryz.ntmps71
    go_wp2_with fail
    refine (wrongTask_any b n m _ HF.out).mono ?_
    rintro e w1 ⟨rfl, hw⟩
    subst w1
    rw [HK.out, errV_zero]
    go_wp2_with fail
    refine (rouse_any b n on m _ HF.out HI.out hn HH.out).mono ?_
    rintro e w1 ⟨rfl, m', l1, f1, r1⟩
    have FIN : Hid (∃ m', Fr.WakeTo m n on m' ∧ Fair w1 b m' ∧ Frm b w w1) := Hid.intro ⟨m', .inl ⟨HK.out, l1⟩, f1, r1⟩
    clear l1 f1 r1
    go_wp2_with fail
    go_ret
    rw [HK.out]; exact ⟨rfl, FIN.out⟩
  · have HW := Hid.intro (errV_ne k)
    have HK : Hid (Fr.taskE m z ≠ 0) := k
    clear k
    go_enter Tryz.func71, Tryz.ntmps71
    go_wp2_with fail
    refine (wrongTask_any b z m _ HF.out).mono ?_
    rintro e w1 ⟨rfl, hw⟩
    subst w1
    rw [HW.out]
    go_wp2
    go_ret
    rw [HW.out]; exact ⟨rfl, m, .inr ⟨HK.out, rfl⟩, HF.out, Frm.refl b w⟩
end Go.Proofs.YtghogbngmcolmaaGreat.Fa

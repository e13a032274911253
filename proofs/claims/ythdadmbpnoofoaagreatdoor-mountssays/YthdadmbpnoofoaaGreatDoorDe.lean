/- The document's own mounts: hold (letting go). -/
import Derived.Test.YthdadmbpnoofoaaGreatDoorDd
import Derived.Test.YthdadmbpnoofoaaGreatDoorMm
import Derived.Deep.RegionHeld3
namespace Go.Proofs.YthdadmbpnoofoaaGreatDoor
open Go.RowKit
open Tr (Fo Nd)
open Mo (Wh Mt Tb)

namespace Mo
/-- One node, let go once. -/
def ltN (x : Nd) : Nd := if x.links = 0 ∧ x.held - 1 = 0 then Nd.no else { x with held := x.held - 1 }
theorem put_put (F : Fo) (n : Nat) (x y : Nd) : (F.put n x).put n y = F.put n y := by
  unfold Tr.Fo.put
  congr 1
  funext m
  simp only
  split <;> rfl
theorem put_comm (F : Fo) {n m : Nat} (h : n ≠ m) (x y : Nd) : (F.put n x).put m y = (F.put m y).put n x := by
  unfold Tr.Fo.put
  congr 1
  funext k
  simp only
  by_cases a : k = m
  · by_cases b : k = n
    · omega
    · rw [if_pos a, if_neg b, if_pos a]
  · by_cases b : k = n
    · rw [if_neg a, if_pos b, if_pos b]
    · rw [if_neg a, if_neg b, if_neg b, if_neg a]
theorem letT_put {F : Fo} {z : Int} (h : Tr.letE F z = 0) : Tr.letT F z = F.put z.toNat (ltN (F.nd z.toNat)) := by
  unfold Tr.letT
  rw [if_pos h]
  unfold Tr.swe ltN
  rw [Tr.put_same]
  split
  · rename_i c
    rw [put_put]
  · rfl
theorem letE_at {F G : Fo} {z : Int} (h : G.nd z.toNat = F.nd z.toNat) : Tr.letE G z = Tr.letE F z := by
  unfold Tr.letE Tr.nodeE
  rw [h]
theorem letT_ne (F : Fo) (z : Int) {m : Nat} (h : m ≠ z.toNat) : (Tr.letT F z).nd m = F.nd m := by
  by_cases c : Tr.letE F z = 0
  · rw [letT_put c, Tr.put_ne _ _ _ _ h]
  · unfold Tr.letT; rw [if_neg c]
theorem letE_neg {F : Fo} {z : Int} (h : z < 0) : Tr.letE F z ≠ 0 := by
  have n1 : Tr.nodeE F z = 1 := if_pos (.inl h)
  unfold Tr.letE
  rw [n1, if_neg (by decide)]
  decide
theorem letT_no {F : Fo} {z : Int} (h : Tr.letE F z ≠ 0) : Tr.letT F z = F := if_neg h
theorem letT_comm (F : Fo) (y z : Int) : Tr.letT (Tr.letT F y) z = Tr.letT (Tr.letT F z) y := by
  by_cases e : y = z
  · rw [e]
  by_cases hy : y < 0
  · have n1 : ∀ G, Tr.letT G y = G := fun G => by unfold Tr.letT; rw [if_neg (letE_neg hy)]
    rw [n1, n1]
  by_cases hz : z < 0
  · have n1 : ∀ G, Tr.letT G z = G := fun G => by unfold Tr.letT; rw [if_neg (letE_neg hz)]
    rw [n1, n1]
  have ne : y.toNat ≠ z.toNat := by omega
  have e1 := letE_at (F := F) (G := Tr.letT F y) (z := z) (letT_ne F y (Ne.symm ne))
  have e2 := letE_at (F := F) (G := Tr.letT F z) (z := y) (letT_ne F z ne)
  by_cases cy : Tr.letE F y = 0
  · by_cases cz : Tr.letE F z = 0
    · rw [letT_put (e1.trans cz), letT_put (e2.trans cy), letT_ne F y (Ne.symm ne), letT_ne F z ne, letT_put cy, letT_put cz, put_comm F ne]
    · have k1 : Tr.letT (Tr.letT F y) z = Tr.letT F y := letT_no (by rw [e1]; exact cz)
      have k2 : Tr.letT F z = F := by unfold Tr.letT; rw [if_neg cz]
      rw [k1, k2]
  · have k2 : Tr.letT F y = F := by unfold Tr.letT; rw [if_neg cy]
    have k1 : Tr.letT (Tr.letT F z) y = Tr.letT F z := letT_no (by rw [e2]; exact cy)
    rw [k1, k2]
theorem leM_comm (F : Fo) (m : Mt) (z : Int) : Tr.letT (leM F m) z = leM (Tr.letT F z) m := by
  unfold leM
  rw [letT_comm, letT_comm F]
theorem leA_last (T : Tb) (F : Fo) : Tr.letT (T.ms.foldl leM F) T.rt.2 = leA F T := by
  have : ∀ (L : List Mt) (F : Fo) (z : Int), Tr.letT (L.foldl leM F) z = L.foldl leM (Tr.letT F z) := fun L => by
    induction L with
    | nil => exact fun _ _ => rfl
    | cons m L ih =>
      intro F z
      rw [List.foldl_cons, List.foldl_cons, ih, leM_comm]
  exact this T.ms F T.rt.2
end Mo
section
variable {w w' : World} {base b f : Nat} {T : Tb} {v : Value} {B : Bs} {F : Fo} {R : Nat → Tr.RN} {rv : Value}
theorem RT.frm (h : RT w base b f T v) (hF : FR B w f F R rv) (k : Frm f w w') : RT w' base b f T v := by
  obtain ⟨C, hC, _⟩ := hF.rb.blk
  exact h.same (k.block b h.lt (blk_ne h.blk hC (by decide))) (fun g e => k.block g (h.row.lt g e).2 (h.row.ne_of hC (by decide) g e))
end
set_option maxRecDepth 100000 in
set_option maxHeartbeats 4000000 in
theorem rlets_any (base b f K : Nat) (T : Tb) (v : Value) (B : Bs) (F : Fo) (R : Nat → Tr.RN) (rv : Value) (w : World) (h : RT w base b f T v) (hF : FR B w f F R rv) (ho : Tr.Ok F) (hb : Tr.Hb F K) (hK : K < 800) :
    Calls Tryz.prog 111 #[.pointer (some ⟨b, 0, none⟩), .bool true] w fun e w' => e = .returned (.tuple #[]) ∧ (∃ R', FR B w' f (Mo.leA F T) R' rv) ∧ Frm f w w' := by
  have HT : Hid (∀ W, Frm f w W → RT W base b f T v) := Hid.intro (fun W k => h.frm hF k)
  have PG : Hid (∀ L : List Mt, Tr.Ok (L.foldl Mo.leM F) ∧ Tr.Hb (L.foldl Mo.leM F) K) := Hid.intro (fun L => by
    have : ∀ (L : List Mt) (G : Fo), Tr.Ok G → Tr.Hb G K → Tr.Ok (L.foldl Mo.leM G) ∧ Tr.Hb (L.foldl Mo.leM G) K := fun L => by
      induction L with
      | nil => exact fun _ h k => ⟨h, k⟩
      | cons m L ih => exact fun G h k => ih _ ((h.letT _).letT _) ((k.letT _).letT _)
    exact this L F ho hb)
  have BD : Hid (∀ G, Tr.Ok G → Tr.Hb G K → (∀ n, n < 40 → (G.nd n).held < 2 ^ 60) ∧ ∀ n, n < 40 → (G.nd n).kind ≠ 0 → (G.nd n).links < 2 ^ 60) := Hid.intro (fun G hg hh => ⟨fun n hn => by have := hh n hn; omega, fun n hn k0 => by have := hg.links_lt n hn k0; omega⟩)
  obtain ⟨va, vc, hv⟩ := h.row.sl
  have HV := Hid.intro hv
  obtain ⟨N, hN⟩ : ∃ N, T.ms.length = N := ⟨_, rfl⟩
  have HN := Hid.intro hN
  have N6 : N ≤ 6 := by rw [← hN]; exact h.six
  rw [hN] at hv HV
  have S0 : Hid ((∃ R', FR B w f F R' rv) ∧ Frm f w w) := Hid.intro ⟨⟨R, hF⟩, Frm.refl _ _⟩
  clear h hF ho hb hN
  go_enter Tryz.func111, Tryz.ntmps111
  go_wp2_with fail
  go_loopw [4] (fun i wr => ∃ (j : Nat), i = .int .i64 j ∧ j ≤ N ∧ Hid ((∃ R', FR B wr f ((T.ms.take j).foldl Mo.leM F) R' rv) ∧ Frm f w wr)) (fun i _ => N - (intOf i).toNat)
  case atStart => exact ⟨0, rfl, by omega, S0⟩
  case round =>
    clear S0
    obtain ⟨j, rfl, hj, S⟩ := hrel
    have T1 := Hid.intro (HT.out _ S.out.2)
    have c3 := T1.out.c3
    rw [HV.out] at c3
    by_cases hlt : j < N
    · have hltI : (j : Int) < (N : Int) := by omega
      obtain ⟨m, hm⟩ : ∃ m, T.ms[j]? = some m := ⟨T.ms[j]'(by rw [HN.out]; exact hlt), List.getElem?_eq_getElem _⟩
      have TK : Hid ((T.ms.take (j + 1)).foldl Mo.leM F = Tr.letT (Tr.letT ((T.ms.take j).foldl Mo.leM F) m.1.2) m.2.2) := Hid.intro (by
        obtain ⟨h1, h2⟩ := List.getElem?_eq_some_iff.1 hm
        rw [List.take_succ_eq_append_getElem h1, List.foldl_append, h2]
        rfl)
      obtain ⟨g, cap, hvg⟩ : ∃ g cap, Value.slice va N vc = .slice (some ⟨g, 0, none⟩) N cap := by
        rcases T1.out.row.form with ⟨_, h⟩ | ⟨g, cap, h, _⟩
        · have := HN.out; rw [h] at this; simp at this; omega
        · rw [HN.out, HV.out] at h; exact ⟨g, cap, h⟩
      cases hvg
      have KF : Hid (∀ W, Frm f w W → W.cell? ⟨b, 0, none⟩ = some (.pointer (some ⟨f, 0, none⟩)) ∧ W.cell? ⟨b, 3, none⟩ = some (.slice (some ⟨g, 0, none⟩) N vc) ∧ W.cell? ⟨g, j * 4 + 1, none⟩ = some (.int .i64 m.1.2) ∧ W.cell? ⟨g, j * 4 + 3, none⟩ = some (.int .i64 m.2.2)) := Hid.intro (fun W k => by
        have t := HT.out W k
        have r := t.row
        have c := t.c3
        rw [HV.out] at r c
        exact ⟨t.c0, c, r.cell j 1 m hm (by omega), r.cell j 3 m hm (by omega)⟩)
      have P1 := Hid.intro (PG.out (T.ms.take j))
      generalize (T.ms.take j).foldl Mo.leM F = G at *
      have B1 := Hid.intro (BD.out G P1.out.1 P1.out.2)
      have B2 := Hid.intro (BD.out (Tr.letT G m.1.2) (P1.out.1.letT _) (P1.out.2.letT _))
      obtain ⟨R3, hr3⟩ := S.out.1
      have R3' := Hid.intro hr3
      have K0 := Hid.intro (KF.out _ S.out.2)
      have HJ := Hid.intro hm
      clear hr3 hm
      go_wp2_with fail
      go_region_held3 (fun w' => w'.cell? ⟨b, 0, none⟩ = some (.pointer (some ⟨f, 0, none⟩)) ∧ w'.cell? ⟨b, 3, none⟩ = some (.slice (some ⟨g, 0, none⟩) N vc) ∧ w'.cell? ⟨g, j * 4 + 1, none⟩ = some (.int .i64 m.1.2) ∧ w'.cell? ⟨g, j * 4 + 3, none⟩ = some (.int .i64 m.2.2)) (first | exact K0.out | exact K4.out) ((first | (go_at_call 29; refine (rlet_any B f G R3 rv _ m.1.2 (show FR B wr.drew f G R3 rv from R3'.out.below ⟨rfl, rfl, rfl, Nat.le_refl _, fun _ _ => rfl⟩) B1.out.1 B1.out.2).mono ?_; rintro e w4 ⟨rfl, u4, f4⟩; have f4' : Frm f wr w4 := ⟨f4.os, f4.tape, f4.output, f4.size, f4.block⟩; have C4 := Hid.intro u4; have D4 := Hid.intro (S.out.2.trans f4'); have K4 := Hid.intro (KF.out _ D4.out); clear u4 f4 f4')))
      obtain ⟨R5, hr5⟩ := C4.out
      have R5' := Hid.intro hr5
      clear hr5 C4 K0
      go_wp2_with fail
      go_region_held3 (fun w' => w'.cell? ⟨b, 0, none⟩ = some (.pointer (some ⟨f, 0, none⟩)) ∧ w'.cell? ⟨b, 3, none⟩ = some (.slice (some ⟨g, 0, none⟩) N vc) ∧ w'.cell? ⟨g, j * 4 + 1, none⟩ = some (.int .i64 m.1.2) ∧ w'.cell? ⟨g, j * 4 + 3, none⟩ = some (.int .i64 m.2.2)) (first | exact K4.out | exact K6.out) ((first | (go_at_call 29; refine (rlet_any B f (Tr.letT G m.1.2) R5 rv _ m.2.2 (show FR B w4.drew f (Tr.letT G m.1.2) R5 rv from R5'.out.below ⟨rfl, rfl, rfl, Nat.le_refl _, fun _ _ => rfl⟩) B2.out.1 B2.out.2).mono ?_; rintro e w6 ⟨rfl, u6, f6⟩; have f6' : Frm f w4 w6 := ⟨f6.os, f6.tape, f6.output, f6.size, f6.block⟩; have C6 := Hid.intro u6; have D6 := Hid.intro (D4.out.trans f6'); have K6 := Hid.intro (KF.out _ D6.out); clear u6 f6 f6')))
      go_wp2_with fail
      go_roundw
      case rel => exact ⟨j + 1, by go_num, by omega, Hid.intro ⟨by rw [TK.out]; exact C6.out, D6.out⟩⟩
      case measure => simp [intOf]; omega
    · have hltI : ¬ (j : Int) < (N : Int) := by omega
      have FA : Hid ((T.ms.take j).foldl Mo.leM F = T.ms.foldl Mo.leM F) := Hid.intro (by rw [List.take_of_length_le (by rw [HN.out]; omega)])
      have P1 := Hid.intro (PG.out T.ms)
      rw [FA.out] at S
      have LA := Hid.intro (Mo.leA_last T F)
      generalize T.ms.foldl Mo.leM F = G at *
      have B1 := Hid.intro (BD.out G P1.out.1 P1.out.2)
      obtain ⟨R3, hr3⟩ := S.out.1
      have R3' := Hid.intro hr3
      have KF : Hid (∀ W, Frm f w W → W.cell? ⟨b, 0, none⟩ = some (.pointer (some ⟨f, 0, none⟩)) ∧ W.cell? ⟨b, 2, none⟩ = some (.int .i64 T.rt.2)) := Hid.intro (fun W k => ⟨(HT.out W k).c0, (HT.out W k).c2⟩)
      have K0 := Hid.intro (KF.out _ S.out.2)
      clear hr3 FA
      go_wp2_with fail
      go_region_held3 (fun w' => w'.cell? ⟨b, 0, none⟩ = some (.pointer (some ⟨f, 0, none⟩)) ∧ w'.cell? ⟨b, 2, none⟩ = some (.int .i64 T.rt.2)) (first | exact K0.out | exact K4.out) ((first | (go_at_call 29; refine (rlet_any B f G R3 rv _ T.rt.2 (show FR B wr.drew f G R3 rv from R3'.out.below ⟨rfl, rfl, rfl, Nat.le_refl _, fun _ _ => rfl⟩) B1.out.1 B1.out.2).mono ?_; rintro e w4 ⟨rfl, u4, f4⟩; have f4' : Frm f wr w4 := ⟨f4.os, f4.tape, f4.output, f4.size, f4.block⟩; have C4 := Hid.intro u4; have D4 := Hid.intro (S.out.2.trans f4'); have K4 := Hid.intro (KF.out _ D4.out); clear u4 f4 f4')))
      go_wp2_with fail
      go_end0
      rw [← LA.out]
      exact ⟨rfl, C4.out, D4.out⟩
end Go.Proofs.YthdadmbpnoofoaaGreatDoor

/- MountsSays: what a move keeps; sameMounts. -/
import Derived.Test.YthdadmbpnoofoaaGreatDoorDk
import Derived.BigQuiet
import Derived.Test.YthdadmbpnoofoaaGreatDoorNa
import Derived.Test.YthdadmbpnoofoaaGreatDoorBt
namespace Go.Proofs.YthdadmbpnoofoaaGreatDoor
open Go.RowKit
open Tr (Fo Nd)
open Mo (Wh Mt Tb)

theorem Mo.HI.mov {F G : Fo} {f : Nat → Nat} {z y E : Int} {s o : ByteArray} (h : Mo.HI F f) (hm : Tr.MovTo F z s y o E G) : Mo.HI G f := by
  have same : G = F → Mo.HI G f := fun e => by rw [e]; exact h
  obtain ⟨K, e, _, ⟨_, _, g⟩ | ⟨_, ⟨_, _, g⟩ | ⟨_, ⟨_, _, g⟩ | ⟨_, ⟨_, _, g⟩ | ⟨_, i, _, e2, _, ⟨_, _, g⟩ | ⟨_, _, rfl⟩⟩⟩⟩⟩⟩ := hm
  · exact same g
  · exact same g
  · exact same g
  · exact same g
  · exact same g
  · have a : ∀ m, ((F.put z.toNat (Tr.forN (F.nd z.toNat) i)).nd m).held = (F.nd m).held ∧ ((F.put z.toNat (Tr.forN (F.nd z.toNat) i)).nd m).kind = (F.nd m).kind := fun m => by
      by_cases e : m = z.toNat
      · subst e
        rw [Tr.put_same]
        exact ⟨rfl, rfl⟩
      · rw [Tr.put_ne _ _ _ _ e]
        exact ⟨rfl, rfl⟩
    unfold Tr.movF
    exact ⟨fun n hn => by rw [(Mo.leaF_held n).1, (a n).1]; exact h.hd n hn, fun n hn h0 => by rw [(Mo.leaF_held n).2, (a n).2]; exact h.lv n hn h0⟩
set_option maxRecDepth 100000 in
set_option maxHeartbeats 1000000 in
theorem sameM_any (base1 base2 : Nat) (L : List Mt) (v1 v2 : Value) (w : World) (h1 : MRow w base1 L v1) (h2 : MRow w base2 L v2) (h6 : L.length ≤ 6) :
    Calls Tryz.prog 19 #[v1, v2] w fun e w' => e = .returned (.bool true) ∧ ∃ k, w' = w.drewN k := by
  obtain ⟨a1, c1, e1⟩ := h1.sl
  obtain ⟨a2, c2, e2⟩ := h2.sl
  obtain ⟨N, hN⟩ : ∃ N, L.length = N := ⟨_, rfl⟩
  have HN := Hid.intro hN
  rw [hN] at e1 e2 h6
  subst e1 e2
  have HR := Hid.intro (And.intro h1 h2)
  have GG : Hid (0 < N → ∃ g1 g2, a1 = some ⟨g1, 0, none⟩ ∧ a2 = some ⟨g2, 0, none⟩) := Hid.intro (fun h0 => by
    rcases h1.form with ⟨_, h⟩ | ⟨g1, k1, e1, _⟩
    · rw [h] at hN; simp at hN; omega
    · rcases h2.form with ⟨_, h⟩ | ⟨g2, k2, e2, _⟩
      · rw [h] at hN; simp at hN; omega
      · cases e1
        cases e2
        exact ⟨g1, g2, rfl, rfl⟩)
  clear h1 h2 hN
  go_enter Tryz.func19, Tryz.ntmps19
  go_wp2_with fail
  go_loopw [5] (fun i wr => ∃ (j k : Nat), i = .int .i64 j ∧ j ≤ N ∧ wr = w.drewN k) (fun i _ => N - (intOf i).toNat)
  case atStart => exact ⟨0, 0, rfl, by omega, rfl⟩
  case round =>
    obtain ⟨j, k, rfl, hj, rfl⟩ := hrel
    by_cases hlt : j < N
    · have hltI : (j : Int) < (N : Int) := by omega
      obtain ⟨g1, g2, e1, e2⟩ := GG.out (by omega)
      subst e1 e2
      obtain ⟨m, hm⟩ : ∃ m, L[j]? = some m := ⟨L[j]'(by rw [HN.out]; exact hlt), List.getElem?_eq_getElem _⟩
      have d0 : w.cell? ⟨g1, j * 4, none⟩ = some (.int .i64 m.1.1) := HR.out.1.cell j 0 m hm (by omega)
      have d1 : w.cell? ⟨g1, j * 4 + 1, none⟩ = some (.int .i64 m.1.2) := HR.out.1.cell j 1 m hm (by omega)
      have d2 : w.cell? ⟨g1, j * 4 + 2, none⟩ = some (.int .i64 m.2.1) := HR.out.1.cell j 2 m hm (by omega)
      have d3 : w.cell? ⟨g1, j * 4 + 3, none⟩ = some (.int .i64 m.2.2) := HR.out.1.cell j 3 m hm (by omega)
      have f0 : w.cell? ⟨g2, j * 4, none⟩ = some (.int .i64 m.1.1) := HR.out.2.cell j 0 m hm (by omega)
      have f1 : w.cell? ⟨g2, j * 4 + 1, none⟩ = some (.int .i64 m.1.2) := HR.out.2.cell j 1 m hm (by omega)
      have f2 : w.cell? ⟨g2, j * 4 + 2, none⟩ = some (.int .i64 m.2.1) := HR.out.2.cell j 2 m hm (by omega)
      have f3 : w.cell? ⟨g2, j * 4 + 3, none⟩ = some (.int .i64 m.2.2) := HR.out.2.cell j 3 m hm (by omega)
      clear hm
      go_wp2_with fail
      go_quiet (fail)
      go_wp2_with fail
      go_roundw
      case rel => exact ⟨j + 1, _, by go_num, by omega, rfl⟩
      case measure => simp [intOf]; omega
    · have hltI : ¬ (j : Int) < (N : Int) := by omega
      go_wp2_with fail
      go_ret
      exact ⟨rfl, _, rfl⟩
end Go.Proofs.YthdadmbpnoofoaaGreatDoor

/- TopMounts: the walk. -/
namespace Go.Proofs.YthdadmbpnoofoaaGreatDoor
open Go.RowKit
open Tr (Fo Nd)
open Mo (Wh Mt Tb)

/-- What the law has in its hands: a forest, a table of which nothing is done, and another one. -/
structure TX (w W : World) (f bt bc : Nat) (T : Tb) (v : Value) (F : Fo) : Prop where
  bel : Below w.heap.size w W
  lf : w.heap.size ≤ f
  lt : w.heap.size ≤ bt
  lc : w.heap.size ≤ bc
  ne : bt ≠ bc
  fo : FAt W f F
  t0 : TAt W w.heap.size bt f Mo.T0 (.slice none 0 0)
  tc : TAt W w.heap.size bc f T v
section
variable {w W W' : World} {f bt bc : Nat} {T T' : Tb} {v v' : Value} {F F' : Fo}
theorem TX.below (h : TX w W f bt bc T v F) (k : Below W.heap.size W W') : TX w W' f bt bc T v F := ⟨h.bel.trans (k.mono h.bel.size), h.lf, h.lt, h.lc, h.ne, h.fo.below k, h.t0.below k, h.tc.below k⟩
theorem TX.forest (h : TX w W f bt bc T v F) (k : FAt W' f F') (kf : Frm f W W') : TX w W' f bt bc T v F' := ⟨kf.below h.bel h.lf h.bel.size, h.lf, h.lt, h.lc, h.ne, k, h.t0.ofF h.fo kf, h.tc.ofF h.fo kf⟩
theorem TX.tab (h : TX w W f bt bc T v F) (k : FAt W' f F') (kt : TAt W' w.heap.size bc f T' v') (ko : Onl (BV bc f v) W W') : TX w W' f bt bc T' v' F' := by
  have nt : ¬ BV bc f v bt := fun c => by
    rcases c with c | c | c
    · exact h.ne c
    · exact (h.t0.ne h.fo).1 c
    · exact h.tc.row.ne_of h.t0.blk (by decide) bt c rfl
  exact ⟨ko.behind h.bel (fun n c => by
    rcases c with c | c | c
    · rw [c]; exact h.lc
    · rw [c]; exact h.lf
    · exact (h.tc.row.lt n c).1) h.bel.size, h.lf, h.lt, h.lc, h.ne, k, h.t0.same (ko.block bt h.t0.lt nt) (fun g e => by cases e), kt⟩
theorem BF_BV {b f : Nat} {v : Value} (h : Onl (BF b f) W W') : Onl (BV b f v) W W' := h.mono (fun n _ c => by
  rcases c with c | c
  · exact .inl c
  · exact .inr (.inl c))
end
theorem Mo.hi_g2 : Mo.HI Tr.g2 (fun _ => 0) := ⟨fun n _ => by
  show (if n = 1 then _ else if n = 0 then _ else Nd.no : Nd).held = 0
  split
  · rfl
  · split <;> rfl, fun n _ h => by omega⟩
theorem Mo.ok_g2 : Tr.Ok Tr.g2 := by
  have h1 : Tr.Ok Tr.g1 := Tr.ok0.pla (T := 0) (E := 0) (.inr ⟨by decide, 0, 0, .inl ⟨rfl, by omega, rfl, fun m hm => absurd hm (Nat.not_lt_zero m)⟩, .inr ⟨rfl, rfl, rfl, rfl⟩⟩)
  exact h1.pla (T := 1) (E := 0) (.inr ⟨by decide, 1, 0, .inl ⟨rfl, by omega, rfl, fun m hm => by
    obtain rfl : m = 0 := by omega
    decide⟩, .inr ⟨rfl, rfl, rfl, rfl⟩⟩)
theorem Mo.g2_root : Tr.rootE Tr.g2 0 = 0 ∧ Tr.rootN Tr.g2 0 = 0 ∧ Tr.nodeE Tr.g2 0 = 0 := ⟨rfl, rfl, rfl⟩
theorem Mo.mi_start : Mo.MI (Mo.hoA (Tr.hol Tr.g2 (0 : Nat)) Mo.T0) Mo.T0 := by
  have a : Mo.HI (Tr.hol Tr.g2 (0 : Nat)) (Mo.tc Mo.T0) := (Mo.hi_g2.hol Mo.g2_root.2.2).congr (fun n _ => by
    show 0 + Mo.oneI 0 n = Mo.oneI 0 n + Mo.mc [] n
    rw [Mo.mc_nil]; omega)
  have b := Mo.hoA_HI (T := Mo.T0) a (Mo.hol_nodeE Mo.g2_root.2.2) (fun m hm => by cases hm)
  have o : Tr.Ok (Mo.hoA (Tr.hol Tr.g2 (0 : Nat)) Mo.T0) := (Mo.ok_g2.hol (0 : Nat)).hol 0
  exact ⟨o, b, Mo.rg0, by decide⟩
end Go.Proofs.YthdadmbpnoofoaaGreatDoor

/- MountsSays: a closed fact: a path leads. -/
namespace Go.Proofs.YthdadmbpnoofoaaGreatDoor
open Go.RowKit
open Tr (Fo Nd)
open Mo (Wh Mt Tb)

namespace Mo
def l2 : Fo := Tr.makF Tr.g1 0 ⟨#[97]⟩ 2 1
theorem l2_mak : Tr.MakTo Tr.g1 0 ⟨#[97]⟩ 2 1 0 l2 :=
  .inr ⟨.inr rfl, 0, .inr ⟨rfl, .inr ⟨by decide +kernel, .inr ⟨.inr ⟨rfl, fun j hj => absurd hj (Nat.not_lt_zero j)⟩, .inr ⟨by show (0 : Nat) ≠ 8; decide, rfl⟩⟩⟩⟩, .inr ⟨rfl, 1, 0, Tr.free_g1, .inr ⟨rfl, rfl, rfl, rfl⟩⟩⟩
theorem l2_root : Tr.rootE l2 0 = 0 ∧ Tr.rootN l2 0 = 0 := ⟨rfl, rfl⟩
theorem l2_hb : Tr.Hb l2 0 := ((show Tr.Hb Tr.f0 0 from fun n _ => Nat.le_refl _).pla (T := 0) (E := 0) (.inr ⟨by decide, 0, 0, .inl ⟨rfl, by omega, rfl, fun m hm => by omega⟩, .inr ⟨rfl, rfl, rfl, rfl⟩⟩)).mak l2_mak
def l3 : Fo := Tr.hol l2 (0 : Nat)
def lp : ByteArray := ⟨#[47, 97]⟩
theorem lp_spl : splE lp = 0 ∧ splN lp = [⟨#[97]⟩] := by
  have e1 : pcs lp = [⟨#[97]⟩] := by
    unfold pcs
    rw [show lp.data.toList.drop 1 = [97] from rfl, cutL_no _ (by decide)]
    rfl
  have ok : (pcs lp).all okN = true := by
    rw [e1, List.all_cons, List.all_nil, okN]
    have : Tr.nameB ⟨#[97]⟩ = true := by decide +kernel
    rw [this]
    simp
  have e2 : splE lp = 0 := by
    unfold splE
    rw [if_neg (fun c => by
      rcases c with c | c
      · exact absurd c (by decide)
      · exact c rfl), if_neg (by decide), if_pos ok]
  refine ⟨e2, ?_⟩
  unfold splN
  rw [if_pos ⟨e2, by decide⟩, e1]
theorem l3_fnd : Tr.FndTo l3 0 ⟨#[97]⟩ 1 0 := .inr ⟨rfl, .inl ⟨0, .inl ⟨0, rfl, by decide, rfl, fun j hj => absurd hj (Nat.not_lt_zero j)⟩, rfl, rfl⟩⟩
theorem l_walk {x : Wh} {E : Int} (h : WalTo l3 T0 lp x E) : x = (0, 1) ∧ E = 0 := by
  rcases h with ⟨c, _⟩ | ⟨_, W, hw, rfl⟩
  · exact absurd lp_spl.1 c
  · rw [lp_spl.2] at hw
    have nb : isBk ⟨#[97]⟩ = false := by
      unfold isBk
      rw [ByteArray.toList_eq]
      rfl
    rcases hw with ⟨c, _⟩ | ⟨_, K, e, hf, h⟩
    · rw [nb] at c; cases c
    · obtain ⟨rfl, rfl⟩ := Tr.FndTo.unique hf l3_fnd
      rcases h with ⟨c, _⟩ | ⟨_, h1, h2⟩
      · exact absurd rfl c
      · rw [h1, h2]
        exact ⟨rfl, rfl⟩
end Mo
set_option maxRecDepth 100000 in
set_option maxHeartbeats 2000000 in
theorem leads_any (w : World) : Calls Tryz.prog 4 #[] w fun e w' => e = .returned (.bool true) ∧ Below w.heap.size w w' := by
  have OK2 : Hid (Tr.Ok Mo.l3) := Hid.intro ((Tr.ok_g1.mak Mo.l2_mak).hol _)
  go_enter Tryz.func4, Tryz.ntmps4
  go_wp2_with fail
  refine (tnew_any _).mono ?_
  rintro e W1 ⟨rfl, f1, b1⟩
  have F1 := Hid.intro f1
  have B1 := Hid.intro b1
  clear f1 b1
  go_wp2_with fail
  refine (tplant_any w.heap.size Tr.f0 _ F1.out (by decide)).mono ?_
  rintro e W2 ⟨T, E, G, rfl, hp, h2, f2⟩
  obtain ⟨rfl, rfl, rfl⟩ := Tr.pla_first hp
  have F2 := Hid.intro h2
  have B2 := Hid.intro (f2.below B1.out (Nat.le_refl _) B1.out.size)
  clear hp h2 f2 F1 B1
  rw [errV_zero]
  go_wp2_with fail
  refine (tmake_any w.heap.size 0 ⟨#[97]⟩ 2 Tr.g1 _ F2.out Tr.ok_g1.sz).mono ?_
  rintro e W4 ⟨K, E, G, rfl, hm, h3, f3⟩
  obtain ⟨rfl, rfl, rfl⟩ := hm.unique Mo.l2_mak
  have F4 := Hid.intro h3
  have B4 := Hid.intro (f3.below B2.out (Nat.le_refl _) B2.out.size)
  clear h3 f3 F2 B2 hm
  rw [errV_zero]
  go_wp2_with fail
  refine (new_yes w.heap.size 0 Mo.l2 0 _ F4.out Mo.l2_root.1 Mo.l2_hb (by decide)).mono ?_
  rintro e W5 ⟨b, rfl, lb, t5, f5, k5⟩
  have S5 : Hid (Below w.heap.size w W5 ∧ FAt W5 w.heap.size Mo.l3 ∧ TAt W5 0 b w.heap.size Mo.T0 (.slice none 0 0)) := Hid.intro ⟨k5.below B4.out (Nat.le_refl _) B4.out.size, f5, t5 0⟩
  clear t5 f5 k5 lb F4 B4
  go_wp2_with fail
  refine (walk_any 0 b w.heap.size Mo.T0 _ Mo.l3 _ _ S5.out.2.2 S5.out.2.1 OK2.out.sz).mono ?_
  rintro e W6 ⟨x, E, rfl, hw, b6⟩
  obtain ⟨hx, hE⟩ := Mo.l_walk hw
  subst hx hE
  rw [errV_zero]
  have B6 : Hid (Below w.heap.size w W6) := Hid.intro (S5.out.1.trans (b6.mono S5.out.1.size))
  clear b6 hw S5
  go_upto_region 10 with fail
  refine wp_gen (fun W' => WB W' W6.heap.size (0, 1) ∧ Below w.heap.size w W') ⟨heap_alloc_new W6 _, B6.out.alloc B6.out.size _⟩ ?_
  rintro W7 ⟨x7, b7⟩
  have q0 : W7.cell? ⟨W6.heap.size, 0, none⟩ = some (.int .i64 0) := x7.c0
  have q1 : W7.cell? ⟨W6.heap.size, 1, none⟩ = some (.int .i64 1) := x7.c1
  have B7 := Hid.intro b7
  clear x7 b7
  generalize W6.heap.size = px at *
  go_wp2_with fail
  refine (same_any 0 (by decide) _).mono ?_
  rintro e W8 ⟨rfl, hW⟩
  subst W8
  go_wp2_with fail
  go_ret
  exact ⟨rfl, B7.out⟩
end Go.Proofs.YthdadmbpnoofoaaGreatDoor

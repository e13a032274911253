/- MountsSays: acts on a table: unbind, pivot. -/
import Derived.Test.YthdadmbpnoofoaaGreatDoorDp
import Derived.Deep.RegionHeld3
namespace Go.Proofs.YthdadmbpnoofoaaGreatDoor
open Go.RowKit
open Tr (Fo Nd)
open Mo (Wh Mt Tb)

theorem Mo.QI.unb {F F' : Fo} {T T' : Tb} {x : Wh} {E : Int} (h : Mo.QI F T) (hu : Mo.UnbTo F T x E T' F') : Mo.QI F' T' := by
  refine ⟨h.pi.unb hu, ?_, ?_⟩
  · rcases hu with ⟨i, _, m, _, _, rfl, _⟩ | ⟨_, _, rfl, _⟩
    · exact Mo.uq_erase h.uq i
    · exact h.uq
  · rcases hu with ⟨i, _, m, _, _, _, rfl⟩ | ⟨_, _, _, rfl⟩
    · exact (h.zb.letT _).letT _
    · exact h.zb
theorem Mo.UnbTo.nn {F F' : Fo} {T T' : Tb} {x : Wh} {E : Int} (hu : Mo.UnbTo F T x E T' F') : 0 ≤ E := by
  rcases hu with ⟨_, _, _, _, e, _⟩ | ⟨_, e, _⟩ <;> omega
theorem Mo.leA_zb {F : Fo} {T : Tb} (h : Tr.Zb F) : Tr.Zb (Mo.leA F T) := by
  rw [Mo.leA_nds]
  have : ∀ (l : List Int) (G : Fo), Tr.Zb G → Tr.Zb (l.foldl Tr.letT G) := fun l => by
    induction l with
    | nil => exact fun _ h => h
    | cons z l ih => exact fun G h => ih _ (h.letT z)
  exact this _ _ h
theorem Mo.QI.piv {F : Fo} {T : Tb} {t : Int} (h : Mo.QI F T) (e0 : Tr.rootE F t = 0) : Mo.QI (Tr.hol (Mo.leA F T) (Tr.rootN F t)) ⟨(t, (Tr.rootN F t : Int)), []⟩ :=
  ⟨h.pi.piv e0, fun i j m m' hi _ _ => by simp at hi, (Mo.leA_zb h.zb).hol _⟩
theorem Mo.QI.swap {F : Fo} {T : Tb} {t : Int} (h : Mo.QI F T) (e0 : Tr.rootE F t = 0) : Mo.leA (Tr.hol F (Tr.rootN F t)) T = Tr.hol (Mo.leA F T) (Tr.rootN F t) := by
  have al := Mo.root_alive h.pi.ok e0
  obtain ⟨n, hn, n40, kk⟩ := Tr.nodeE_ok al
  have en : Tr.rootN F t = n := by omega
  refine Mo.leA_hol (g := fun _ => 0) (h.pi.hi.congr (fun k _ => by omega)) h.pi.rg al ?_
  have k2 : (F.nd (Tr.rootN F t)).kind = 2 := by
    have : t.toNat < F.trees ∧ Tr.rootN F t = F.root t.toNat := by
      have e1 := e0
      unfold Tr.rootE at e1
      by_cases c : t < 0 ∨ 3 < t
      · rw [if_pos c] at e1; omega
      · rw [if_neg c] at e1
        by_cases d : F.trees ≤ t.toNat
        · rw [if_pos d] at e1; omega
        · exact ⟨by omega, by unfold Tr.rootN; rw [if_pos e0]⟩
    rw [this.2]
    exact (h.pi.ok.rt t.toNat this.1).2.1
  rw [h.pi.ok.lk _ (by omega) (by omega), h.pi.ok.dr _ (by omega) k2]
  exact Nat.le_refl _
theorem MS.drew {w W : World} {f b g m : Nat} {B : Bs} {T T' : Tb} {v v' : Value} {F F' : Fo} (h : MS w W f b g m B T v F T' v' F') : MS w W.drew f b g m B T v F T' v' F' := h.below ⟨rfl, rfl, rfl, Nat.le_refl _, fun _ _ => rfl⟩
theorem WB.only {W W' : World} {c : Nat} {x : Wh} {S : Nat → Prop} (h : WB W c x) (k : Onl S W W') (n : ¬ S c) : WB W' c x := h.same (k.block c h.lt n)
theorem MS.noc {w W : World} {f b g m c : Nat} {x : Wh} {B : Bs} {T T' : Tb} {v v' : Value} {F F' : Fo} (h : MS w W f b g m B T v F T' v' F') (k : WB W c x) : ¬ BV b f v c ∧ ¬ BV m g v' c := by
  obtain ⟨R, rv, q⟩ := h.rm.fo
  obtain ⟨C, hC, _⟩ := q.rb.blk
  obtain ⟨D, hD, _⟩ := h.co.blk
  constructor
  · intro e
    rcases e with e | e | e
    · exact blk_ne k h.ct.blk (by decide) e
    · exact blk_ne k hD (by decide) e
    · exact h.ct.row.ne_of k (by decide) c e rfl
  · intro e
    rcases e with e | e | e
    · exact blk_ne k h.rm.tb.blk (by decide) e
    · exact blk_ne k hC (by decide) e
    · exact h.rm.tb.row.ne_of k (by decide) c e rfl
theorem MS.noa {w W : World} {f b g m c : Nat} {cs : Array Value} {B : Bs} {T T' : Tb} {v v' : Value} {F F' : Fo} (h : MS w W f b g m B T v F T' v' F') (k : ActAt W c cs) : ¬ BV b f v c ∧ ¬ BV m g v' c := by
  obtain ⟨R, rv, q⟩ := h.rm.fo
  obtain ⟨C, hC, _⟩ := q.rb.blk
  obtain ⟨D, hD, _⟩ := h.co.blk
  constructor
  · intro e
    rcases e with e | e | e
    · exact blk_ne k h.ct.blk (by decide) e
    · exact blk_ne k hD (by decide) e
    · exact h.ct.row.ne_of k (by decide) c e rfl
  · intro e
    rcases e with e | e | e
    · exact blk_ne k h.rm.tb.blk (by decide) e
    · exact blk_ne k hC (by decide) e
    · exact h.rm.tb.row.ne_of k (by decide) c e rfl
theorem ActAt.only {W W' : World} {c : Nat} {cs : Array Value} {S : Nat → Prop} (h : ActAt W c cs) (k : Onl S W W') (n : ¬ S c) : ActAt W' c cs := (k.block c (Array.getElem?_eq_some_iff.1 h).1 n).trans h
section
variable (w W : World) (f b g m : Nat) (B : Bs) (T : Tb) (v v' : Value) (F : Fo) (kd : ByteArray) (A B' C : Int) (K : Nat) (On : Bool) (S1 T1 : ByteArray)
set_option maxRecDepth 100000 in
set_option maxHeartbeats 4000000 in
theorem mounted_unbind (h : MS w W f b g m B T v F T v' F) (hp : Mo.QI F T) (k1 : (kd.toList == [98, 105, 110, 100]) = false) (k2 : (kd.toList == [117, 110, 98, 105, 110, 100]) = true) :
    Calls Tryz.prog 17 #[.pointer (some ⟨b, 0, none⟩), .pointer (some ⟨m, 0, none⟩), .agg (acA kd A B' C K On S1 T1)] W fun e w' => MP w f b g m e w' := by
  have HP := Hid.intro hp
  have S0 : Hid (MS w (W.alloc (.cells (acA kd A B' C K On S1 T1) 50)) f b g m B T v F T v' F ∧ ActAt (W.alloc (.cells (acA kd A B' C K On S1 T1) 50)) W.heap.size (acA kd A B' C K On S1 T1)) := Hid.intro ⟨h.below ((Below.refl _ _).alloc (Nat.le_refl _) _), heap_alloc_new W _⟩
  clear h hp
  go_enter Tryz.func17, Tryz.ntmps17
  go_upto_region 1 with fail
  refine wp_gen (fun W' => MS w W' f b g m B T v F T v' F ∧ ActAt W' W.heap.size (acA kd A B' C K On S1 T1)) S0.out ?_
  rintro W1 ⟨hS1, hbx⟩
  have G1 := Hid.intro hS1
  have A1 := Hid.intro hbx
  clear S0
  generalize W.heap.size = ba at *
  have x0 := act_cells hbx 0 (.string kd) rfl
  have x6 := act_cells hbx 6 (.string S1) rfl
  clear hS1 hbx
  obtain ⟨R1, rv1, hr1⟩ := G1.out.rm.fo
  go_wp2_with fail
  refine (rraw_any _ m g T v' B F R1 rv1 S1 _ G1.out.rm.tb hr1 HP.out.pi.ok).mono ?_
  rintro e V1 ⟨x, E1, rfl, _, b1⟩
  go_upto_region 14 with fail
  refine wp_gen (fun W' => WB W' V1.heap.size x ∧ Below W1.heap.size W1 W') ⟨heap_alloc_new V1 _, b1.alloc b1.size _⟩ ?_
  rintro U1 ⟨p1, q1⟩
  have G2 := Hid.intro (G1.out.below q1)
  have X2 := Hid.intro p1
  clear x0 x6 b1 p1 q1 G1 A1 hr1
  generalize V1.heap.size = P at *
  have K0 := Hid.intro (And.intro X2.out.c0 X2.out.c1)
  go_region_held3 (fun w' => w'.cell? ⟨P, 0, none⟩ = some (.int .i64 x.1) ∧ w'.cell? ⟨P, 1, none⟩ = some (.int .i64 x.2)) (first | exact K0.out | exact K4.out | exact K5.out | exact K6.out) ((first | (go_at_call 54; refine (unbind_any w.heap.size b f 13 T v F x _ G2.out.drew.ct G2.out.drew.co HP.out.pi.hb (by decide)).mono ?_; rintro e w4 ⟨E4, T4, F4, v4, rfl, u4, t4, f4, o4, n4⟩; obtain ⟨B4, _, m4⟩ := G2.out.drew.code f4 t4 o4 (.inl n4); have C4 := Hid.intro m4; have Y4 : Hid (WB w4 P x) := Hid.intro (WB.only (W := U1.drew) X2.out o4 (G2.out.drew.noc X2.out).1); have H4 := Hid.intro u4; have K4 := Hid.intro (And.intro Y4.out.c0 Y4.out.c1); clear u4 t4 f4 o4 n4 m4) | (go_at_call 55; refine (runbind_any w.heap.size m g 13 B4 T v' F x _ C4.out.rm HP.out.uq HP.out.pi.ok HP.out.pi.hb (by decide) C4.out.bel.size).mono ?_; rintro e w5 ⟨E5, T5, F5, v5, B5, rfl, u5, r5, g5, o5, n5⟩; obtain ⟨e1, e2, e3⟩ := H4.out.unique u5; subst e1 e2 e3; have C5 := Hid.intro (C4.out.ref r5 g5 (BF_BV o5) n5); have Y5 : Hid (WB w5 P x) := Hid.intro (Y4.out.only (BF_BV (v := v') o5) (C4.out.noc Y4.out).2); have K5 := Hid.intro (And.intro Y5.out.c0 Y5.out.c1); clear u5 r5 g5 o5 n5) | (go_at_call 9; refine (same_any _ H4.out.nn _).mono ?_; rintro e w6 ⟨rfl, hw6⟩; subst w6; have K6 := K5)))
  have FIN : Hid (MP w f b g m (.returned (.bool true)) w5) := Hid.intro ⟨rfl, B5, T4, v4, F4, v5, C5.out, HP.out.unb H4.out⟩
  go_wp2_with fail
  go_ret
  exact FIN.out
set_option maxRecDepth 100000 in
set_option maxHeartbeats 4000000 in
theorem mounted_pivot (h : MS w W f b g m B T v F T v' F) (hp : Mo.QI F T) (k1 : (kd.toList == [98, 105, 110, 100]) = false) (k2 : (kd.toList == [117, 110, 98, 105, 110, 100]) = false) (k3 : (kd.toList == [112, 105, 118, 111, 116]) = true) :
    Calls Tryz.prog 17 #[.pointer (some ⟨b, 0, none⟩), .pointer (some ⟨m, 0, none⟩), .agg (acA kd A B' C K On S1 T1)] W fun e w' => MP w f b g m e w' := by
  have HP := Hid.intro hp
  have S0 : Hid (MS w (W.alloc (.cells (acA kd A B' C K On S1 T1) 50)) f b g m B T v F T v' F ∧ ActAt (W.alloc (.cells (acA kd A B' C K On S1 T1) 50)) W.heap.size (acA kd A B' C K On S1 T1)) := Hid.intro ⟨h.below ((Below.refl _ _).alloc (Nat.le_refl _) _), heap_alloc_new W _⟩
  clear h hp
  go_enter Tryz.func17, Tryz.ntmps17
  go_upto_region 1 with fail
  refine wp_gen (fun W' => MS w W' f b g m B T v F T v' F ∧ ActAt W' W.heap.size (acA kd A B' C K On S1 T1)) S0.out ?_
  rintro W1 ⟨hS1, hbx⟩
  have G1 := Hid.intro hS1
  have A1 := Hid.intro hbx
  clear S0
  generalize W.heap.size = ba at *
  have x0 := act_cells hbx 0 (.string kd) rfl
  have x6 := act_cells hbx 6 (.string S1) rfl
  clear hS1 hbx
  have NN := Tr.rootE_nn F A
  have K0 := Hid.intro (act_cells A1.out 1 (.int .i64 A) rfl)
  clear x6
  by_cases e0 : Tr.rootE F A = 0
  · have SW := Hid.intro (HP.out.swap e0)
    have QP := Hid.intro (HP.out.piv e0)
    go_wp2_with fail
    go_region_held3 (fun w' => w'.cell? ⟨ba, 1, none⟩ = some (.int .i64 A)) (first | exact K0.out | exact K4.out | exact K5.out | exact K6.out) ((first | (go_at_call 15; refine (pivot_yes w.heap.size b f 13 T v F A _ G1.out.drew.ct G1.out.drew.co e0 HP.out.pi.hb (by decide)).mono ?_; rintro e w4 ⟨rfl, t4, f4, o4⟩; obtain ⟨B4, _, m4⟩ := G1.out.drew.code f4 t4 (BF_BV o4) (.inr (fun g' e => by cases e)); have C4 := Hid.intro m4; have Y4 : Hid (ActAt w4 ba (acA kd A B' C K On S1 T1)) := Hid.intro (ActAt.only (W := W1.drew) A1.out (BF_BV (v := v) o4) (G1.out.drew.noa A1.out).1); have K4 := Hid.intro (act_cells Y4.out 1 (.int .i64 A) rfl); clear t4 f4 o4 m4) | (go_at_call 56; refine (rpivot_yes w.heap.size m g 13 B4 T v' F A _ C4.out.rm e0 HP.out.pi.ok HP.out.pi.hb (by decide)).mono ?_; rintro e w5 ⟨rfl, r5, o5⟩; rw [SW.out] at r5; have C5 := Hid.intro (C4.out.ref r5 (BsG.refl _ _) (BF_BV o5) (.inr (fun g' e => by cases e))); have Y5 : Hid (ActAt w5 ba (acA kd A B' C K On S1 T1)) := Hid.intro (Y4.out.only (BF_BV (v := v') o5) (C4.out.noa Y4.out).2); have K5 := Hid.intro (act_cells Y5.out 1 (.int .i64 A) rfl); clear r5 o5) | (go_at_call 9; refine (same_any 0 (by decide) _).mono ?_; rintro e w6 ⟨rfl, hw6⟩; subst w6; have K6 := K5)))
    have FIN : Hid (MP w f b g m (.returned (.bool true)) w5) := Hid.intro ⟨rfl, B4, _, _, _, _, C5.out, QP.out⟩
    go_wp2_with fail
    go_ret
    exact FIN.out
  · go_wp2_with fail
    go_region_held3 (fun w' => w'.cell? ⟨ba, 1, none⟩ = some (.int .i64 A)) (first | exact K0.out | exact K4.out | exact K5.out | exact K6.out) ((first | (go_at_call 15; refine (pivot_no w.heap.size b f T v F A _ G1.out.drew.ct G1.out.drew.co e0).mono ?_; rintro e w4 ⟨rfl, b4⟩; have C4 := Hid.intro (G1.out.drew.below b4); have Y4 : Hid (ActAt w4 ba (acA kd A B' C K On S1 T1)) := Hid.intro (ActAt.below (W := W1.drew) A1.out b4); have K4 := Hid.intro (act_cells Y4.out 1 (.int .i64 A) rfl); clear b4) | (go_at_call 56; refine (rpivot_no w.heap.size m g B T v' F A _ C4.out.rm e0).mono ?_; rintro e w5 ⟨rfl, hw5⟩; subst w5; have K5 := K4) | (go_at_call 9; refine (same_any _ NN _).mono ?_; rintro e w6 ⟨rfl, hw6⟩; subst w6; have K6 := K4)))
    have FIN : Hid (MP w f b g m (.returned (.bool true)) w4) := Hid.intro ⟨rfl, B, T, v, F, v', C4.out, HP.out⟩
    go_wp2_with fail
    go_ret
    exact FIN.out
end
end Go.Proofs.YthdadmbpnoofoaaGreatDoor

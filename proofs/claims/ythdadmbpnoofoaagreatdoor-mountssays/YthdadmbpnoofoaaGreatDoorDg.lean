/- The document's own mounts: Close, Pivot, NewMounts. -/
import Derived.Test.YthdadmbpnoofoaaGreatDoorDe
namespace Go.Proofs.YthdadmbpnoofoaaGreatDoor
open Go.RowKit
open Tr (Fo Nd)
open Mo (Wh Mt Tb)

/-- The document's own table and its forest; none of the forest's lists lies where the table or its mounts do. -/
structure RM (W : World) (base b f : Nat) (B : Bs) (T : Tb) (v : Value) (F : Fo) : Prop where
  tb : RT W base b f T v
  fo : ∃ R rv, FR B W f F R rv
  ab : B.av b
  ar : ∀ g, v.ownBlock = some g → B.av g
section
variable {w W W' : World} {base b f : Nat} {B : Bs} {T T' : Tb} {v v' : Value} {F G : Fo}
theorem RM.ne (h : RM W base b f B T v F) : b ≠ f := by
  obtain ⟨R, rv, k⟩ := h.fo
  obtain ⟨C, hC, _⟩ := k.rb.blk
  exact blk_ne h.tb.blk hC (by decide)
theorem RM.below (h : RM W base b f B T v F) (k : Below W.heap.size W W') : RM W' base b f B T v F := ⟨h.tb.below k, by obtain ⟨R, rv, q⟩ := h.fo; exact ⟨R, rv, q.below k⟩, h.ab, h.ar⟩
theorem RM.forest (h : RM W base b f B T v F) (u : ∃ R rv, FR B W' f G R rv) (k : Frm f W W') : RM W' base b f B T v G := ⟨by obtain ⟨R, rv, q⟩ := h.fo; exact h.tb.frm q k, u, h.ab, h.ar⟩
theorem RM.tab (h : RM W base b f B T v F) (u : RT W' base b f T' v') (k : Frm b W W') (hv : ∀ g, v'.ownBlock = some g → B.av g) : RM W' base b f B T' v' F := ⟨u, by obtain ⟨R, rv, q⟩ := h.fo; exact ⟨R, rv, q.avoid k h.ab h.ne⟩, h.ab, hv⟩
theorem RT.nomounts (h : RT W base b f T v) : RT (W.setCell ⟨b, 3, none⟩ (.slice none 0 0)) base b f ⟨T.rt, []⟩ (.slice none 0 0) :=
  ⟨blk_set h.blk 3 _, World.ownsRow_nil _ _ _ _, by simp⟩
theorem RT.newroot (h : RT W base b f T v) (x : Wh) : RT ((W.setCell ⟨b, 1, none⟩ (.int .i64 x.1)).setCell ⟨b, 2, none⟩ (.int .i64 x.2)) base b f ⟨x, T.ms⟩ v := by
  have k : Frm b W ((W.setCell ⟨b, 1, none⟩ (.int .i64 x.1)).setCell ⟨b, 2, none⟩ (.int .i64 x.2)) := ((Frm.refl b W).setCell _ _).setCell _ _
  exact ⟨blk_set (blk_set h.blk 1 _) 2 _, h.row.same (fun g e => k.block g (h.row.lt g e).2 (h.row.ne_of h.blk (by decide) g e)), h.six⟩
end
set_option maxRecDepth 100000 in
set_option maxHeartbeats 1000000 in
theorem rclose_any (base b f K : Nat) (B : Bs) (T : Tb) (v : Value) (F : Fo) (w : World) (h : RM w base b f B T v F) (ho : Tr.Ok F) (hb : Tr.Hb F K) (hK : K < 800) :
    Calls Tryz.prog 96 #[.pointer (some ⟨b, 0, none⟩)] w fun e w' => e = .returned (.tuple #[]) ∧ RM w' base b f B ⟨T.rt, []⟩ (.slice none 0 0) (Mo.leA F T) ∧ Onl (BF b f) w w' := by
  have HT := Hid.intro h
  have HB := Hid.intro (And.intro ho hb)
  obtain ⟨R, rv, hr⟩ := h.fo
  have HR := Hid.intro hr
  clear h ho hb hr
  go_enter Tryz.func96, Tryz.ntmps96
  go_wp2_with fail
  refine (rlets_any base b f K T v B F R rv _ HT.out.tb HR.out HB.out.1 HB.out.2 hK).mono ?_
  rintro e W1 ⟨rfl, f1, k1⟩
  have M1 := Hid.intro (HT.out.forest (by obtain ⟨R', q⟩ := f1; exact ⟨R', rv, q⟩) k1)
  obtain ⟨va, vc, hv⟩ := M1.out.tb.row.sl
  have c3 := M1.out.tb.c3
  rw [hv] at c3
  have cf := M1.out.tb.frozen
  have FIN : Hid (RM (W1.setCell ⟨b, 3, none⟩ (.slice none 0 0)) base b f B ⟨T.rt, []⟩ (.slice none 0 0) (Mo.leA F T) ∧ Onl (BF b f) w (W1.setCell ⟨b, 3, none⟩ (.slice none 0 0))) := Hid.intro ⟨M1.out.tab M1.out.tb.nomounts ((Frm.refl b W1).setCell _ _) (fun g e => by cases e), (Onl.of_frm k1 (.inr rfl)).setCell (.inl rfl) _ _⟩
  clear f1 k1 hv
  go_wp2_with fail
  go_end0
  exact ⟨rfl, FIN.out⟩
theorem Tr.rootE_nn (F : Fo) (t : Int) : 0 ≤ Tr.rootE F t := by
  unfold Tr.rootE
  repeat' split
  all_goals omega
set_option maxRecDepth 100000 in
set_option maxHeartbeats 1000000 in
theorem rpivot_no (base b f : Nat) (B : Bs) (T : Tb) (v : Value) (F : Fo) (t : Int) (w : World) (h : RM w base b f B T v F) (e0 : Tr.rootE F t ≠ 0) :
    Calls Tryz.prog 56 #[.pointer (some ⟨b, 0, none⟩), .int .i64 t] w fun e w' => e = .returned (.int .i64 (Tr.rootE F t)) ∧ w' = w := by
  obtain ⟨R, rv, hr⟩ := h.fo
  have HR := Hid.intro hr
  have c0 := h.tb.c0
  have pos : 0 < Tr.rootE F t := by have := Tr.rootE_nn F t; omega
  clear h hr e0
  go_enter Tryz.func56, Tryz.ntmps56
  go_wp2_with fail
  refine (rroot_any B f F R rv _ t HR.out).mono ?_
  rintro e W1 ⟨rfl, hW⟩
  subst W1
  obtain ⟨E, hE⟩ : ∃ E, Tr.rootE F t = E := ⟨_, rfl⟩
  have HE := Hid.intro hE
  rw [hE] at pos ⊢
  generalize Tr.rootN F t = rn at *
  clear hE
  go_wp2_with fail
  go_ret
  rw [HE.out]
  exact ⟨rfl, rfl⟩
set_option maxRecDepth 100000 in
set_option maxHeartbeats 2000000 in
theorem rpivot_yes (base b f K : Nat) (B : Bs) (T : Tb) (v : Value) (F : Fo) (t : Int) (w : World) (h : RM w base b f B T v F) (e0 : Tr.rootE F t = 0) (ho : Tr.Ok F) (hb : Tr.Hb F K) (hK : K < 700) :
    Calls Tryz.prog 56 #[.pointer (some ⟨b, 0, none⟩), .int .i64 t] w fun e w' => e = .returned (.int .i64 0) ∧ RM w' base b f B ⟨(t, (Tr.rootN F t : Int)), []⟩ (.slice none 0 0) (Mo.leA (Tr.hol F (Tr.rootN F t)) T) ∧ Onl (BF b f) w w' := by
  have HT := Hid.intro h
  have HB := Hid.intro (And.intro ho hb)
  obtain ⟨R, rv, hr⟩ := h.fo
  have HR := Hid.intro hr
  have c0 := h.tb.c0
  clear h hr ho hb
  go_enter Tryz.func56, Tryz.ntmps56
  go_wp2_with fail
  refine (rroot_any B f F R rv _ t HR.out).mono ?_
  rintro e W1 ⟨rfl, hW⟩
  subst W1
  rw [e0]
  obtain ⟨rn, hrn⟩ : ∃ rn, Tr.rootN F t = rn := ⟨_, rfl⟩
  have HRN := Hid.intro hrn
  rw [hrn]
  clear hrn
  go_wp2_with fail
  refine (rhold_any B f F R rv _ rn HR.out (fun n hn => by have := HB.out.2 n hn; omega)).mono ?_
  rintro e W2 ⟨rfl, u2, k2⟩
  have M2 := Hid.intro (HT.out.forest (by obtain ⟨R', q⟩ := u2; exact ⟨R', rv, q⟩) k2)
  have O2 : Hid (Onl (BF b f) w W2) := Hid.intro (Onl.of_frm k2 (.inr rfl))
  clear u2 k2 c0
  go_wp2_with fail
  refine (rclose_any base b f (K + 1) B T v (Tr.hol F rn) _ M2.out (HB.out.1.hol _) (HB.out.2.hol _) (by omega)).mono ?_
  rintro e W3 ⟨rfl, m3, o3⟩
  have M3 := Hid.intro m3
  have O3 := Hid.intro (O2.out.trans o3)
  clear m3 o3 M2
  have c1 := M3.out.tb.c1
  have c2 := M3.out.tb.c2
  have cf := M3.out.tb.frozen
  have FIN : Hid (RM ((W3.setCell ⟨b, 1, none⟩ (.int .i64 t)).setCell ⟨b, 2, none⟩ (.int .i64 (rn : Int))) base b f B ⟨(t, (rn : Int)), []⟩ (.slice none 0 0) (Mo.leA (Tr.hol F rn) T) ∧ Onl (BF b f) w ((W3.setCell ⟨b, 1, none⟩ (.int .i64 t)).setCell ⟨b, 2, none⟩ (.int .i64 (rn : Int)))) := Hid.intro ⟨M3.out.tab (M3.out.tb.newroot (t, (rn : Int))) (((Frm.refl b W3).setCell _ _).setCell _ _) (fun g e => by cases e), (O3.out.setCell (.inl rfl) _ _).setCell (.inl rfl) _ _⟩
  go_wp2_with fail
  go_ret
  rw [HRN.out]
  exact ⟨rfl, FIN.out⟩
set_option maxRecDepth 100000 in
set_option maxHeartbeats 2000000 in
theorem rnewm_yes (f K : Nat) (B : Bs) (F : Fo) (R : Nat → Tr.RN) (rv : Value) (t : Int) (w : World) (h : FR B w f F R rv) (e0 : Tr.rootE F t = 0) (hb : Tr.Hb F K) (hK : K < 700) :
    Calls Tryz.prog 12 #[.pointer (some ⟨f, 0, none⟩), .int .i64 t] w fun e w' => ∃ b, e = .returned (.tuple #[.pointer (some ⟨b, 0, none⟩), .int .i64 0]) ∧ w.heap.size ≤ b ∧ (∀ base, RM w' base b f ⟨B.base, fun g => B.av g ∨ g = b⟩ ⟨(t, (Tr.rootN F t : Int)), []⟩ (.slice none 0 0) (Tr.hol F (Tr.rootN F t))) ∧ Frm f w w' := by
  have HR := Hid.intro h
  have HB := Hid.intro hb
  clear h hb
  go_enter Tryz.func12, Tryz.ntmps12
  go_wp2_with fail
  refine (rroot_any B f F R rv _ t HR.out).mono ?_
  rintro e W1 ⟨rfl, hW⟩
  subst W1
  rw [e0]
  obtain ⟨rn, hrn⟩ : ∃ rn, Tr.rootN F t = rn := ⟨_, rfl⟩
  have HRN := Hid.intro hrn
  rw [hrn]
  clear hrn
  go_wp2_with fail
  refine (rhold_any B f F R rv _ rn HR.out (fun n hn => by have := HB.out n hn; omega)).mono ?_
  rintro e W2 ⟨rfl, u2, k2⟩
  have FIN : Hid (∀ o, o = Obj.cells #[.pointer (some ⟨f, 0, none⟩), .int .i64 t, .int .i64 (rn : Int), .slice none 0 0] 60 (0, 0) → (∀ base, RM (W2.alloc o) base W2.heap.size f ⟨B.base, fun g => B.av g ∨ g = W2.heap.size⟩ ⟨(t, (rn : Int)), []⟩ (.slice none 0 0) (Tr.hol F rn)) ∧ w.heap.size ≤ W2.heap.size ∧ Frm f w (W2.alloc o)) := Hid.intro (fun o ho => by
    have bb : Below W2.heap.size W2 (W2.alloc o) := (Below.refl _ _).alloc (Nat.le_refl _) _
    obtain ⟨R', q⟩ := u2
    refine ⟨fun base => ⟨⟨by rw [ho]; exact heap_alloc_new W2 _, World.ownsRow_nil _ _ _ _, by simp⟩, ⟨R', rv, q.more bb (fun g => g = W2.heap.size) (fun g e => by subst e; simp)⟩, .inr rfl, fun g e => by cases e⟩, k2.size, k2.trans ⟨bb.os, bb.tape, bb.output, bb.size, fun n hn _ => bb.block n hn⟩⟩)
  clear u2 k2
  go_wp2_with fail
  go_ret2
  rw [HRN.out]
  exact ⟨_, rfl, (FIN.out _ rfl).2.1, (FIN.out _ rfl).1, (FIN.out _ rfl).2.2⟩
end Go.Proofs.YthdadmbpnoofoaaGreatDoor

/- The document's own mounts: dir. -/
namespace Go.Proofs.YthdadmbpnoofoaaGreatDoor
open Go.RowKit
open Tr (Fo Nd)
open Mo (Wh Mt Tb)

theorem FR.cTree {B : Bs} {b : Nat} {w : World} {F : Fo} {R : Nat → Tr.RN} {rv : Value} (h : FR B w b F R rv) (n : Nat) (hn : n < 40) (k0 : (F.nd n).kind ≠ 0) : w.cell? ⟨b, n * 8 + 1, none⟩ = some (.int .i64 ((F.nd n).tree : Int)) := by
  rw [h.rb.cTree n hn, ((h.nd n hn).nm k0).1]
set_option maxRecDepth 100000 in
set_option maxHeartbeats 2000000 in
theorem rdir_any (base b f : Nat) (B : Bs) (T : Tb) (v : Value) (F : Fo) (x : Wh) (w : World) (h : RM w base b f B T v F) :
    Calls Tryz.prog 94 #[.pointer (some ⟨b, 0, none⟩), .agg #[.int .i64 x.1, .int .i64 x.2]] w fun e w' => e = .returned (.int .i64 (Mo.wroE F x)) ∧ Below w.heap.size w w' := by
  have HT := Hid.intro h
  clear h
  go_enter Tryz.func94, Tryz.ntmps94
  go_upto_region 1 with fail
  refine wp_gen (fun W' => WB W' w.heap.size x ∧ Below w.heap.size w W') ⟨heap_alloc_new w _, (Below.refl _ _).alloc (Nat.le_refl _) _⟩ ?_
  rintro W1 ⟨x1, b1⟩
  have M1 := Hid.intro (HT.out.below b1)
  have B1 : Hid (∀ q, Below w.heap.size w (W1.drewN q)) := Hid.intro (fun q => ⟨b1.os, b1.tape, b1.output, b1.size, b1.block⟩)
  have B2 : Hid (∀ p q, Below w.heap.size w ((W1.drewN p).drewN q)) := Hid.intro (fun p q => ⟨b1.os, b1.tape, b1.output, b1.size, b1.block⟩)
  have q0 := x1.c0
  have q1 := x1.c1
  have t0 := M1.out.tb.c0
  obtain ⟨R, rv, hr⟩ := M1.out.fo
  have HR := Hid.intro hr
  have IS : Hid (∀ q, Calls Tryz.prog 68 #[.pointer (some ⟨f, 0, none⟩), .int .i64 x.2, .int .i64 0] (W1.drewN q) fun e w' => e = .returned (.int .i64 (Tr.nodeE F x.2)) ∧ w' = W1.drewN q) := Hid.intro (fun q => ris_any B f 0 x.2 F R rv _ (HR.out.drewN q))
  have nn := Mo.nodeE_nn F x.2
  clear x1 b1 hr HT
  obtain ⟨bx, hbx⟩ : ∃ bx, w.heap.size = bx := ⟨_, rfl⟩
  rw [hbx] at q0 q1 ⊢
  clear hbx
  by_cases e0 : Tr.nodeE F x.2 = 0
  · rw [e0] at IS
    obtain ⟨n, hn, n40, k0⟩ := Tr.nodeE_ok e0
    have E : Hid (Mo.wroE F x = if (F.nd n).kind = 2 ∧ ((F.nd n).tree : Int) = x.1 then 0 else 11) := Hid.intro (by unfold Mo.wroE; rw [if_neg (fun c => c e0), hn, Int.toNat_natCast])
    have ck := HR.out.cKind n n40
    have ct := HR.out.cTree n n40 k0
    have nI : (n : Int) < 40 := by omega
    rw [hn] at q1 IS
    clear hn nn e0
    by_cases k2 : (F.nd n).kind = 2
    · rw [k2] at ck
      have ck' : W1.cell? ⟨f, n * 8, none⟩ = some (.int .i64 2) := ck
      clear ck
      by_cases tr : ((F.nd n).tree : Int) = x.1
      · rw [tr] at ct
        rw [if_pos ⟨k2, tr⟩] at E
        clear k2 tr k0
        go_wp2_with fail
        go_quiet ((go_at_call 68; exact Calls.quiet_of_same (IS.out _)))
        go_wp2_with fail
        go_quiet (fail)
        go_wp2_with fail
        go_ret
        rw [E.out]
        exact ⟨rfl, B2.out _ _⟩
      · have tr' : (((F.nd n).tree : Int) == x.1) = false := by simpa using tr
        rw [if_neg (fun c => tr c.2)] at E
        clear k2 tr k0
        go_wp2_with fail
        go_quiet ((go_at_call 68; exact Calls.quiet_of_same (IS.out _)))
        go_wp2_with fail
        go_quiet (fail)
        go_wp2_with fail
        go_ret
        rw [E.out]
        exact ⟨rfl, B2.out _ _⟩
    · rw [if_neg (fun c => k2 c.1)] at E
      obtain ⟨kk, hkk⟩ : ∃ kk : Int, ((F.nd n).kind : Int) = kk := ⟨_, rfl⟩
      rw [hkk] at ck
      have k2' : (kk == 2) = false := by simp; omega
      have k3' : (kk != 2) = true := by simp; omega
      have k4' : ¬ kk = 2 := by omega
      clear k2 k0 hkk
      go_wp2_with fail
      go_quiet ((go_at_call 68; exact Calls.quiet_of_same (IS.out _)))
      go_wp2_with fail
      go_quiet (fail)
      go_wp2_with fail
      go_ret
      rw [E.out]
      exact ⟨rfl, B2.out _ _⟩
  · have E : Hid (Mo.wroE F x = Tr.nodeE F x.2) := Hid.intro (if_pos e0)
    have pos : 0 < Tr.nodeE F x.2 := by omega
    obtain ⟨D, hD⟩ : ∃ D, Tr.nodeE F x.2 = D := ⟨_, rfl⟩
    rw [hD] at E pos IS
    clear hD e0 nn
    go_wp2_with fail
    go_quiet ((go_at_call 68; exact Calls.quiet_of_same (IS.out _)))
    go_wp2_with fail
    go_ret
    rw [E.out]
    exact ⟨rfl, B1.out _⟩
end Go.Proofs.YthdadmbpnoofoaaGreatDoor

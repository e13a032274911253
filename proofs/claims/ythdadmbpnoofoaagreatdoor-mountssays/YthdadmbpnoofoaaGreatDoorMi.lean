/- The code's table: Copy, Close, Pivot. -/
import Derived.Test.YthdadmbpnoofoaaGreatDoorMh
namespace Go.Proofs.YthdadmbpnoofoaaGreatDoor
open Go.RowKit
open Tr (Fo Nd)
open Mo (Wh Mt Tb)

theorem info_row (v : Value) {w : World} {base : Nat} {L : List Mt} (h : MRow w base L v) : v.oneCell' = true := by
  obtain ⟨a, c, rfl⟩ := h.sl
  rfl
set_option maxRecDepth 100000 in
set_option maxHeartbeats 2000000 in
theorem copy_any (base b f K : Nat) (T : Tb) (v : Value) (F : Fo) (w : World) (h : TAt w base b f T v) (hF : FAt w f F) (hb : Tr.Hb F K) (hK : K < 800) :
    Calls Tryz.prog 14 #[.pointer (some ⟨b, 0, none⟩)] w fun e w' => ∃ c v', e = .returned (.pointer (some ⟨c, 0, none⟩)) ∧ w.heap.size ≤ c ∧ TAt w' w.heap.size c f T v' ∧ FAt w' f (Mo.hoA F T) ∧ Frm f w w' := by
  have HT := Hid.intro (And.intro h hF)
  have HB := Hid.intro hb
  obtain ⟨va, vc, hv⟩ := h.row.sl
  have HV := Hid.intro hv
  have c0 := h.c0
  have c1 := h.c1
  have c2 := h.c2
  have c3 := h.c3
  rw [hv] at c3
  have KF : Hid (∀ w' : World, Below w.heap.size w w' → w'.cell? ⟨b, 0, none⟩ = some (.pointer (some ⟨f, 0, none⟩)) ∧ w'.cell? ⟨b, 1, none⟩ = some (.int .i64 T.rt.1) ∧ w'.cell? ⟨b, 2, none⟩ = some (.int .i64 T.rt.2) ∧ w'.cell? ⟨b, 3, none⟩ = some (.slice va T.ms.length vc)) := Hid.intro (fun w' k => ⟨(h.below k).c0, (h.below k).c1, (h.below k).c2, by rw [← hv]; exact (h.below k).c3⟩)
  have K0 := Hid.intro (KF.out w (Below.refl _ _))
  clear h hF hb hv c0 c1 c2 c3
  go_enter Tryz.func14, Tryz.ntmps14
  go_upto_region 1 with fail
  go_region_held3 (fun w' => w'.cell? ⟨b, 0, none⟩ = some (.pointer (some ⟨f, 0, none⟩)) ∧ w'.cell? ⟨b, 1, none⟩ = some (.int .i64 T.rt.1) ∧ w'.cell? ⟨b, 2, none⟩ = some (.int .i64 T.rt.2) ∧ w'.cell? ⟨b, 3, none⟩ = some (.slice va T.ms.length vc)) (first | exact K0.out | exact K4.out | exact (K5.out _)) ((go_at_call 47; rw [← HV.out]; refine (mclone_any base T.ms v _ HT.out.1.drew.row HT.out.1.six).mono ?_; rintro e w4 ⟨v', rfl, r4, b4⟩; have b5 : Below w.heap.size w w4 := ⟨b4.os, b4.tape, b4.output, b4.size, b4.block⟩; have K4 := Hid.intro (KF.out w4 b5); have K5 : Hid (∀ o, (w4.alloc o).cell? ⟨b, 0, none⟩ = some (.pointer (some ⟨f, 0, none⟩)) ∧ (w4.alloc o).cell? ⟨b, 1, none⟩ = some (.int .i64 T.rt.1) ∧ (w4.alloc o).cell? ⟨b, 2, none⟩ = some (.int .i64 T.rt.2) ∧ (w4.alloc o).cell? ⟨b, 3, none⟩ = some (.slice va T.ms.length vc)) := Hid.intro (fun o => KF.out _ (b5.alloc b5.size o)); have P4 : Hid (MRow w4 w.heap.size T.ms v' ∧ Below w.heap.size w w4) := Hid.intro ⟨r4, b5⟩; obtain ⟨va', vc', hv'⟩ := r4.sl; have HV' := Hid.intro hv'; subst hv'; clear r4 b4 b5))
  have S5 : Hid (TAt (w4.alloc (.cells #[.pointer (some ⟨f, 0, none⟩), .int .i64 T.rt.1, .int .i64 T.rt.2, .slice va' T.ms.length vc'] 82)) w.heap.size w4.heap.size f T (.slice va' T.ms.length vc') ∧ FAt (w4.alloc (.cells #[.pointer (some ⟨f, 0, none⟩), .int .i64 T.rt.1, .int .i64 T.rt.2, .slice va' T.ms.length vc'] 82)) f F ∧ Below w.heap.size w (w4.alloc (.cells #[.pointer (some ⟨f, 0, none⟩), .int .i64 T.rt.1, .int .i64 T.rt.2, .slice va' T.ms.length vc'] 82)) ∧ w.heap.size ≤ w4.heap.size) := Hid.intro (by
    have b5 := P4.out.2.alloc P4.out.2.size (.cells #[.pointer (some ⟨f, 0, none⟩), .int .i64 T.rt.1, .int .i64 T.rt.2, .slice va' T.ms.length vc'] 82)
    exact ⟨⟨heap_alloc_new w4 _, P4.out.1.below ((Below.refl _ _).alloc (Nat.le_refl _) _), HT.out.1.six⟩, HT.out.2.below b5, b5, P4.out.2.size⟩)
  generalize (w4.alloc (.cells #[.pointer (some ⟨f, 0, none⟩), .int .i64 T.rt.1, .int .i64 T.rt.2, .slice va' T.ms.length vc'] 82)) = W5 at *
  generalize w4.heap.size = c at *
  clear K0 K4 K5 KF P4
  go_wp2_with fail
  refine (hold_any w.heap.size c f K T _ F _ S5.out.1 S5.out.2.1 HB.out hK).mono ?_
  rintro e W6 ⟨rfl, f6, k6⟩
  have FIN : Hid (TAt W6 w.heap.size c f T (.slice va' T.ms.length vc') ∧ FAt W6 f (Mo.hoA F T) ∧ Frm f w W6) := Hid.intro ⟨S5.out.1.ofF S5.out.2.1 k6, f6, (Frm.of_below S5.out.2.2.1).trans k6⟩
  clear f6 k6
  go_wp2_with fail
  go_ret
  exact ⟨c, _, rfl, S5.out.2.2.2, FIN.out⟩
/-- Only the blocks b and f have turned. -/
def BF (b f : Nat) : Nat → Prop := fun k => k = b ∨ k = f
theorem TAt.nomounts {w : World} {base b f : Nat} {T : Tb} {v : Value} (h : TAt w base b f T v) : TAt (w.setCell ⟨b, 3, none⟩ (.slice none 0 0)) base b f ⟨T.rt, []⟩ (.slice none 0 0) :=
  ⟨blk_set h.blk 3 _, World.ownsRow_nil _ _ _ _, by simp⟩
theorem TAt.newroot {w : World} {base b f : Nat} {T : Tb} {v : Value} (h : TAt w base b f T v) (x : Wh) : TAt (((w.setCell ⟨b, 1, none⟩ (.int .i64 x.1)).setCell ⟨b, 2, none⟩ (.int .i64 x.2)).setCell ⟨b, 3, none⟩ (.slice none 0 0)) base b f ⟨x, []⟩ (.slice none 0 0) :=
  ⟨blk_set (blk_set (blk_set h.blk 1 _) 2 _) 3 _, World.ownsRow_nil _ _ _ _, by simp⟩
set_option maxRecDepth 100000 in
set_option maxHeartbeats 1000000 in
theorem close_any (base b f K : Nat) (T : Tb) (v : Value) (F : Fo) (w : World) (h : TAt w base b f T v) (hF : FAt w f F) (hb : Tr.Hb F K) (hK : K < 800) :
    Calls Tryz.prog 16 #[.pointer (some ⟨b, 0, none⟩)] w fun e w' => e = .returned (.tuple #[]) ∧ FAt w' f (Mo.leA F T) ∧ Onl (BF b f) w w' := by
  have HT := Hid.intro (And.intro h hF)
  have HB := Hid.intro hb
  clear h hF hb
  go_enter Tryz.func16, Tryz.ntmps16
  go_wp2_with fail
  refine (let_any base b f K T v F _ HT.out.1 HT.out.2 HB.out hK).mono ?_
  rintro e W1 ⟨rfl, f1, k1⟩
  have T1 := HT.out.1.ofF HT.out.2 k1
  obtain ⟨va, vc, hv⟩ := T1.row.sl
  have c3 := T1.c3
  rw [hv] at c3
  have cf := T1.frozen
  have FIN : Hid (FAt (W1.setCell ⟨b, 3, none⟩ (.slice none 0 0)) f (Mo.leA F T) ∧ Onl (BF b f) w (W1.setCell ⟨b, 3, none⟩ (.slice none 0 0))) := Hid.intro ⟨f1.same (setBlk _ _ _ _ (Ne.symm (HT.out.1.ne HT.out.2).1)), (Onl.of_frm k1 (.inr rfl)).setCell (.inl rfl) _ _⟩
  clear f1 k1 T1 hv
  go_wp2_with fail
  go_end0
  exact ⟨rfl, FIN.out⟩
set_option maxRecDepth 100000 in
set_option maxHeartbeats 1000000 in
theorem pivot_no (base b f : Nat) (T : Tb) (v : Value) (F : Fo) (t : Int) (w : World) (h : TAt w base b f T v) (hF : FAt w f F) (e0 : Tr.rootE F t ≠ 0) :
    Calls Tryz.prog 15 #[.pointer (some ⟨b, 0, none⟩), .int .i64 t] w fun e w' => e = .returned (errV (Tr.rootE F t)) ∧ Below w.heap.size w w' := by
  have HT := Hid.intro (And.intro h hF)
  have E := Hid.intro (errV_ne e0)
  have c0 := h.c0
  clear h hF e0
  go_enter Tryz.func15, Tryz.ntmps15
  go_wp2_with fail
  refine (rootOf_any f F t _ HT.out.2).mono ?_
  rintro e W1 ⟨rfl, b1⟩
  have B1 := Hid.intro b1
  rw [E.out]
  clear b1
  obtain ⟨y, hy⟩ : ∃ y, Mo.rtP F t = y := ⟨_, rfl⟩
  rw [hy]
  clear hy c0
  go_wp2_with fail
  go_ret
  rw [E.out]
  exact ⟨rfl, B1.out.alloc B1.out.size _⟩
set_option maxRecDepth 100000 in
set_option maxHeartbeats 2000000 in
theorem pivot_yes (base b f K : Nat) (T : Tb) (v : Value) (F : Fo) (t : Int) (w : World) (h : TAt w base b f T v) (hF : FAt w f F) (e0 : Tr.rootE F t = 0) (hb : Tr.Hb F K) (hK : K < 800) :
    Calls Tryz.prog 15 #[.pointer (some ⟨b, 0, none⟩), .int .i64 t] w fun e w' => e = .returned .nilIface ∧ TAt w' base b f ⟨(t, (Tr.rootN F t : Int)), []⟩ (.slice none 0 0) ∧ FAt w' f (Tr.hol (Mo.leA F T) (Tr.rootN F t)) ∧ Onl (BF b f) w w' := by
  have HT := Hid.intro (And.intro h hF)
  have HB := Hid.intro hb
  have P : Hid (Mo.rtP F t = (t, (Tr.rootN F t : Int))) := Hid.intro (if_pos e0)
  have E0 := Hid.intro e0
  have c0 := h.c0
  clear h hF hb e0
  go_enter Tryz.func15, Tryz.ntmps15
  go_wp2_with fail
  refine (rootOf_any f F t _ HT.out.2).mono ?_
  rintro e W1 ⟨rfl, b1⟩
  rw [P.out, E0.out, errV_zero]
  obtain ⟨rn, hrn⟩ : ∃ rn : Int, (Tr.rootN F t : Int) = rn := ⟨_, rfl⟩
  have HRN := Hid.intro hrn
  rw [hrn]
  have B1 := Hid.intro b1
  clear b1 hrn P E0 c0
  go_upto_region 2 with fail
  refine wp_gen (fun W' => WB W' W1.heap.size (t, rn) ∧ Below w.heap.size w W') ⟨heap_alloc_new W1 _, B1.out.alloc B1.out.size _⟩ ?_
  rintro W2 ⟨x2, b2⟩
  have S2 : Hid (WB W2 W1.heap.size (t, rn) ∧ TAt W2 base b f T v ∧ FAt W2 f F ∧ Onl (BF b f) w W2) := Hid.intro ⟨x2, HT.out.1.below b2, HT.out.2.below b2, Onl.of_below b2⟩
  clear x2 b2 B1
  generalize W1.heap.size = bx at *
  go_wp2_with fail
  refine (let_any base b f K T v F _ S2.out.2.1 S2.out.2.2.1 HB.out hK).mono ?_
  rintro e W3 ⟨rfl, f3, k3⟩
  have S3 : Hid (WB W3 bx (t, rn) ∧ TAt W3 base b f T v ∧ FAt W3 f (Mo.leA F T) ∧ Onl (BF b f) w W3) := Hid.intro ⟨S2.out.1.same (k3.block bx S2.out.1.lt (by
    obtain ⟨C, hC, _⟩ := S2.out.2.2.1.blk
    exact blk_ne S2.out.1 hC (by decide))), S2.out.2.1.ofF S2.out.2.2.1 k3, f3, S2.out.2.2.2.trans (Onl.of_frm k3 (.inr rfl))⟩
  clear f3 k3 S2
  have x0 := S3.out.1.c0
  have x1 := S3.out.1.c1
  obtain ⟨va, vc, hv⟩ := S3.out.2.1.row.sl
  have c1 := S3.out.2.1.c1
  have c2 := S3.out.2.1.c2
  have c3 := S3.out.2.1.c3
  have cf := S3.out.2.1.frozen
  rw [hv] at c3
  clear hv
  have S4 : Hid (TAt (((W3.setCell ⟨b, 1, none⟩ (.int .i64 t)).setCell ⟨b, 2, none⟩ (.int .i64 rn)).setCell ⟨b, 3, none⟩ (.slice none 0 0)) base b f ⟨(t, rn), []⟩ (.slice none 0 0) ∧ FAt (((W3.setCell ⟨b, 1, none⟩ (.int .i64 t)).setCell ⟨b, 2, none⟩ (.int .i64 rn)).setCell ⟨b, 3, none⟩ (.slice none 0 0)) f (Mo.leA F T) ∧ Onl (BF b f) w (((W3.setCell ⟨b, 1, none⟩ (.int .i64 t)).setCell ⟨b, 2, none⟩ (.int .i64 rn)).setCell ⟨b, 3, none⟩ (.slice none 0 0))) := Hid.intro (by
    have ne := Ne.symm (S3.out.2.1.ne S3.out.2.2.1).1
    exact ⟨S3.out.2.1.newroot (t, rn), S3.out.2.2.1.same ((setBlk _ _ _ _ ne).trans ((setBlk _ _ _ _ ne).trans (setBlk _ _ _ _ ne))), ((S3.out.2.2.2.setCell (.inl rfl) _ _).setCell (.inl rfl) _ _).setCell (.inl rfl) _ _⟩)
  have HB2 : Hid (Tr.Hb (Mo.leA F T) K) := Hid.intro (Mo.hb_leA HB.out)
  go_upto_region 6 with fail
  refine wp_gen (fun W' => TAt W' base b f ⟨(t, rn), []⟩ (.slice none 0 0) ∧ FAt W' f (Mo.leA F T) ∧ Onl (BF b f) w W') S4.out ?_
  rintro W4 h4
  have S5 := Hid.intro h4
  clear h4 S4 x0 x1 c1 c2 c3 cf S3
  go_wp2_with fail
  refine (hold_any base b f K ⟨(t, rn), []⟩ _ _ _ S5.out.1 S5.out.2.1 HB2.out hK).mono ?_
  rintro e W6 ⟨rfl, f6, k6⟩
  have FIN : Hid (TAt W6 base b f ⟨(t, rn), []⟩ (.slice none 0 0) ∧ FAt W6 f (Tr.hol (Mo.leA F T) rn) ∧ Onl (BF b f) w W6) := Hid.intro ⟨S5.out.1.ofF S5.out.2.1 k6, f6, S5.out.2.2.trans (Onl.of_frm k6 (.inr rfl))⟩
  clear f6 k6
  go_wp2_with fail
  go_ret
  rw [HRN.out]
  exact ⟨rfl, FIN.out⟩
end Go.Proofs.YthdadmbpnoofoaaGreatDoor

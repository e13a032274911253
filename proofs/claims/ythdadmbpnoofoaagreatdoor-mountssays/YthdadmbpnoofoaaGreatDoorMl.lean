/- The code's table: Unbind, Bind. -/
import Derived.Test.YthdadmbpnoofoaaGreatDoorMk
namespace Go.Proofs.YthdadmbpnoofoaaGreatDoor
open Go.RowKit
open Tr (Fo Nd)
open Mo (Wh Mt Tb)

/-- The blocks of a table, and the forest's. -/
def BV (b f : Nat) (v : Value) : Nat → Prop := fun k => k = b ∨ k = f ∨ v.ownBlock = some k
theorem TAt.neb {w : World} {base b f : Nat} {T : Tb} {v : Value} (h : TAt w base b f T v) : ∀ g, v.ownBlock = some g → g ≠ b := h.row.ne_of h.blk (by decide)
theorem TAt.setM {w : World} {base b f : Nat} {T : Tb} {v v' : Value} {L : List Mt} (h : w.heap[b]? = some (.cells #[.pointer (some ⟨f, 0, none⟩), .int .i64 T.rt.1, .int .i64 T.rt.2, v] 82 (0, 0))) (r : MRow w base L v') (h6 : L.length ≤ 6) (hn : ∀ g, v'.ownBlock = some g → g ≠ b) : TAt (w.setCell ⟨b, 3, none⟩ v') base b f ⟨T.rt, L⟩ v' :=
  ⟨blk_set h 3 _, r.same (fun g e => setBlk _ _ _ _ (hn g e)), h6⟩
set_option maxRecDepth 100000 in
set_option maxHeartbeats 2000000 in
theorem unbind_any (base b f K : Nat) (T : Tb) (v : Value) (F : Fo) (x : Wh) (w : World) (h : TAt w base b f T v) (hF : FAt w f F) (hb : Tr.Hb F K) (hK : K < 800) :
    Calls Tryz.prog 54 #[.pointer (some ⟨b, 0, none⟩), .agg #[.int .i64 x.1, .int .i64 x.2]] w fun e w' => ∃ (E : Int) (T' : Tb) (F' : Fo) (v' : Value), e = .returned (errV E) ∧ Mo.UnbTo F T x E T' F' ∧ TAt w' base b f T' v' ∧ FAt w' f F' ∧ Onl (BV b f v) w w' ∧ v'.ownBlock = v.ownBlock := by
  have HT := Hid.intro (And.intro h hF)
  have HB := Hid.intro hb
  clear h hF hb
  go_enter Tryz.func54, Tryz.ntmps54
  go_upto_region 1 with fail
  refine wp_gen (fun W' => WB W' w.heap.size x ∧ Below w.heap.size w W') ⟨heap_alloc_new w _, (Below.refl _ _).alloc (Nat.le_refl _) _⟩ ?_
  rintro W1 ⟨x1, b1⟩
  have c0 := x1.c0
  have c1 := x1.c1
  have S1 : Hid (TAt W1 base b f T v ∧ FAt W1 f F ∧ Onl (BV b f v) w W1) := Hid.intro ⟨HT.out.1.below b1, HT.out.2.below b1, Onl.of_below b1⟩
  clear x1 b1 HT
  generalize w.heap.size = bx at *
  go_wp2_with fail
  refine (mounted_any base b f T v x _ S1.out.1).mono ?_
  rintro e W2 ⟨z, rfl, hz, b2⟩
  have S2 : Hid (TAt W2 base b f T v ∧ FAt W2 f F ∧ Onl (BV b f v) w W2) := Hid.intro ⟨S1.out.1.below b2, S1.out.2.1.below b2, S1.out.2.2.trans (Onl.of_below b2)⟩
  have HZ := Hid.intro hz
  clear b2 c0 c1 S1
  rcases hz.find with ⟨i, rfl, il, m, hm, hl⟩ | ⟨rfl, hl⟩
  · have i0 : ¬ (i : Int) < 0 := by omega
    obtain ⟨M, hM⟩ : ∃ M, T.ms.length = M + 1 := ⟨T.ms.length - 1, by omega⟩
    have HM := Hid.intro (And.intro hM hm)
    have M5 : M ≤ 5 := by have := S2.out.1.six; omega
    have iM : i ≤ M := by omega
    rcases S2.out.1.row.form with ⟨_, e⟩ | ⟨g, cap, hv, _, _, _⟩
    · rw [e] at il; simp at il
    · rw [hM] at hv
      have HV := Hid.intro hv
      have r := S2.out.1.row
      rw [hv] at r
      have c3 := S2.out.1.c3
      rw [hv] at c3
      have d0 : W2.cell? ⟨g, i * 4, none⟩ = some (.int .i64 m.1.1) := r.cell i 0 m hm (by omega)
      have d1 : W2.cell? ⟨g, i * 4 + 1, none⟩ = some (.int .i64 m.1.2) := r.cell i 1 m hm (by omega)
      have d2 : W2.cell? ⟨g, i * 4 + 2, none⟩ = some (.int .i64 m.2.1) := r.cell i 2 m hm (by omega)
      have d3 : W2.cell? ⟨g, i * 4 + 3, none⟩ = some (.int .i64 m.2.2) := r.cell i 3 m hm (by omega)
      have iI : (i : Int) < (M : Int) + 1 := by omega
      clear hz hl hm hM hv r il
      go_wp2_with fail
      refine (letMount_any base b f K T v F m _ S2.out.1 S2.out.2.1 HB.out (by omega)).mono ?_
      rintro e W3 ⟨rfl, f3, k3⟩
      have S3 : Hid (TAt W3 base b f T v ∧ FAt W3 f (Mo.leM F m) ∧ Onl (BV b f v) w W3) := Hid.intro ⟨S2.out.1.ofF S2.out.2.1 k3, f3, S2.out.2.2.trans (Onl.of_frm k3 (.inr (.inl rfl)))⟩
      clear f3 k3 c3 d0 d1 d2 d3 S2
      have c3 := S3.out.1.c3
      rw [HV.out] at c3
      have hw : IntKind.i64.wrap ((i : Int) + 1) = (i : Int) + 1 := IntWalk.i64_in _ ⟨by omega, by omega⟩
      go_wp2_with fail
      refine (mdelete_any base g cap i M T.ms _ (by have := S3.out.1.row; rw [HV.out] at this; exact this) HM.out.1 iM M5).mono ?_
      rintro e W4 ⟨rfl, r4, k4⟩
      have gb : g ≠ b := S3.out.1.neb g (by rw [HV.out]; rfl)
      have gf : g ≠ f := (S3.out.1.ne S3.out.2.1).2 g (by rw [HV.out]; rfl)
      have B4 : W4.heap[b]? = some (.cells #[.pointer (some ⟨f, 0, none⟩), .int .i64 T.rt.1, .int .i64 T.rt.2, v] 82 (0, 0)) := (k4.block b S3.out.1.lt (Ne.symm gb)).trans S3.out.1.blk
      have FIN : Hid (TAt (W4.setCell ⟨b, 3, none⟩ (.slice (some ⟨g, 0, none⟩) M cap)) base b f ⟨T.rt, T.ms.eraseIdx i⟩ (.slice (some ⟨g, 0, none⟩) M cap) ∧ FAt (W4.setCell ⟨b, 3, none⟩ (.slice (some ⟨g, 0, none⟩) M cap)) f (Mo.leM F m) ∧ Onl (BV b f v) w (W4.setCell ⟨b, 3, none⟩ (.slice (some ⟨g, 0, none⟩) M cap))) := Hid.intro ⟨TAt.setM B4 r4 (by rw [List.length_eraseIdx_of_lt (by have := HM.out.1; omega)]; have := HM.out.1; omega) (fun g' e => by cases e; exact gb),
        (S3.out.2.1.same (k4.block f S3.out.2.1.lt (Ne.symm gf))).same (setBlk _ _ _ _ (Ne.symm (S3.out.1.ne S3.out.2.1).1)),
        (S3.out.2.2.trans (Onl.of_frm k4 (.inr (.inr (by rw [HV.out]; rfl))))).setCell (.inl rfl) _ _⟩
      have U : Hid (Mo.UnbTo F T x 0 ⟨T.rt, T.ms.eraseIdx i⟩ (Mo.leM F m)) := Hid.intro (.inl ⟨i, HZ.out, m, HM.out.2, rfl, rfl, rfl⟩)
      have e3 : W4.cell? ⟨b, 3, none⟩ = some (.slice (some ⟨g, 0, none⟩) (M + 1) cap) := by rw [cell_blk B4, ← HV.out]; rfl
      have ef : W4.frozen? ⟨b, 3, none⟩ = false := frozen_blk B4 3
      clear r4 k4 B4 c3
      go_wp2_with fail
      go_ret
      exact ⟨0, _, _, _, rfl, U.out, FIN.out.1, FIN.out.2.1, FIN.out.2.2, by rw [HV.out]; rfl⟩
  · have FIN : Hid (Mo.UnbTo F T x 2 T F) := Hid.intro (.inr ⟨HZ.out, rfl, rfl, rfl⟩)
    clear hz hl
    go_wp2_with fail
    go_ret
    exact ⟨2, T, F, v, rfl, FIN.out, S2.out.1, S2.out.2.1, S2.out.2.2, rfl⟩
end Go.Proofs.YthdadmbpnoofoaaGreatDoor

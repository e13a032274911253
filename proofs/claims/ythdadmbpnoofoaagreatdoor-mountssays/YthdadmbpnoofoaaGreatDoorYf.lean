/- The document's own forest: gone, Hold. -/
import Derived.Test.YthdadmbpnoofoaaGreatDoorYa
namespace Go.Proofs.YthdadmbpnoofoaaGreatDoor
open Go.RowKit
open Tr (Fo Nd RN)

/-- One node is another one. -/
theorem FR.put {B : Bs} {b n : Nat} {w w' : World} {F : Fo} {R : Nat → RN} {rv : Value} (h : FR B w b F R rv) {x : Nd} {r : RN} (hr : RB w' b (putR R n r) rv) (f : Frm b w w') (hx : NR B b rv w' x r) : FR B w' b (F.put n x) (putR R n r) rv := by
  refine ⟨hr, h.le, h.own.kept (row := some b) ⟨f.os, f.tape, f.output, f.size, fun k hk hne => f.block k hk (fun e => hne (by rw [e]))⟩ (.inr h.ob), h.ob, fun m hm => ?_, fun g hg => Nat.lt_of_lt_of_le (h.bd g hg) f.size, h.ra⟩
  by_cases c : m = n
  · subst c
    rw [Tr.put_same, putR_same]; exact hx
  · rw [Tr.put_ne _ _ _ _ c, putR_ne _ _ _ _ c]
    exact (h.nd m hm).kept f.size (fun g hg hl => f.block g hl hg.2.1)
theorem NR.frm {B : Bs} {b : Nat} {rv : Value} {W W' : World} {x : Nd} {r : RN} (h : NR B b rv W x r) (f : Frm b W W') : NR B b rv W' x r := h.kept f.size (fun g hg hl => f.block g hl hg.2.1)
def RN.no : RN := ⟨0, 0, 0, 0, 0, ⟨#[]⟩, .slice none 0 0, .slice none 0 0⟩
theorem nr_no (B : Bs) (b : Nat) (rv : Value) (W : World) (x : Nd) (h : x.kind = 0) : NR B b rv W x RN.no := ⟨h.symm, fun k => absurd h k, fun k => by rw [h] at k; exact absurd k (by decide), fun k => by rw [h] at k; exact absurd k (by decide), fun k => by rw [h] at k; exact absurd k (by decide), fun k => by rw [h] at k; exact absurd k (by decide)⟩
/-- The eight cells of a node. -/
def nodeR (r : RN) : Array Value := #[.int .i64 (r.kind : Int), .int .i64 (r.tree : Int), .int .i64 (r.links : Int), .int .i64 (r.held : Int), .int .i64 (r.up : Int), .string r.data, r.ns, r.ks]
theorem RB.setNode {w : World} {b : Nat} {R : Nat → RN} {rv : Value} (h : RB w b R rv) (n : Nat) (r : RN) (hn : n < 40) (hl : isSl r.ns ∧ isSl r.ks) : RB (((((((((w.setCell ⟨b, n * 8, none⟩ (.int .i64 (r.kind : Int))).setCell ⟨b, n * 8 + 1, none⟩ (.int .i64 (r.tree : Int))).setCell ⟨b, n * 8 + 2, none⟩ (.int .i64 (r.links : Int))).setCell ⟨b, n * 8 + 3, none⟩ (.int .i64 (r.held : Int))).setCell ⟨b, n * 8 + 4, none⟩ (.int .i64 (r.up : Int))).setCell ⟨b, n * 8 + 5, none⟩ (.string r.data)).setCell ⟨b, n * 8 + 6, none⟩ r.ns).setCell ⟨b, n * 8 + 7, none⟩ r.ks)) b (putR R n r) rv := by
  have a0 : RB (w.setCell ⟨b, n * 8, none⟩ (.int .i64 (r.kind : Int))) b (putR R n { R n with kind := r.kind }) rv := h.setN n 0 hn (by omega) _ _ (fun i hi => by rcases below8 hi with rfl | rfl | rfl | rfl | rfl | rfl | rfl | rfl <;> rfl) (h.sl n hn)
  have a1 := a0.setN n 1 hn (by omega) (.int .i64 (r.tree : Int)) { R n with kind := r.kind, tree := r.tree } (fun i hi => by rw [putR_same]; rcases below8 hi with rfl | rfl | rfl | rfl | rfl | rfl | rfl | rfl <;> rfl) (h.sl n hn)
  have a2 := a1.setLinks n r.links hn
  have a3 := a2.setHeld n r.held hn
  have a4 := a3.setUp n r.up hn
  have a5 := a4.setData n r.data hn
  have a6 := a5.setNs n r.ns hn hl.1
  have a7 := a6.setKs n r.ks hn hl.2
  have e : ∀ (S : Nat → RN) (x : RN), putR (putR S n x) n = fun y => putR S n y := fun S x => by
    funext y m
    unfold putR
    by_cases c : m = n
    · rw [if_pos c, if_pos c]
    · rw [if_neg c, if_neg c, if_neg c]
  simp only [e, putR_same] at a7
  exact a7
section
variable (B : Bs) (b : Nat) (F : Fo) (R : Nat → RN) (rv : Value) (w : World)
set_option maxRecDepth 100000 in
set_option maxHeartbeats 1000000 in
theorem rgone_any (n : Nat) (h : FR B w b F R rv) (hn : n < 40) (k0 : (F.nd n).kind ≠ 0) (hl : (F.nd n).links < 2 ^ 60) (hh : (F.nd n).held < 2 ^ 60) :
    Calls Tryz.prog 76 #[.pointer (some ⟨b, 0, none⟩), .int .i64 (n : Int)] w fun e w' => e = .returned (.tuple #[]) ∧ (∃ R', FR B w' b (Tr.swe F n) R' rv) ∧ Frm b w w' := by
  have HF := Hid.intro h
  obtain ⟨_, e2, e3⟩ := (h.nd n hn).nm k0
  have c2 := h.rb.cLinks n hn
  have c3 := h.rb.cHeld n hn
  rw [e2] at c2
  rw [e3] at c3
  have n40I : (n : Int) < 40 := by omega
  by_cases c : (F.nd n).links = 0 ∧ (F.nd n).held = 0
  · have HS := Hid.intro (Tr.swe_yes c)
    rw [c.1] at c2
    rw [c.2] at c3
    have c2' : w.cell? ⟨b, n * 8 + 2, none⟩ = some (.int .i64 0) := c2
    have c3' : w.cell? ⟨b, n * 8 + 3, none⟩ = some (.int .i64 0) := c3
    clear h e2 e3 c2 c3 c hl hh k0
    go_enter Tryz.func76, Tryz.ntmps76
    go_upto_region 0 with fail
    go_quiet (fail)
    obtain ⟨W1, hW1⟩ : ∃ W1, w.drewN nq = W1 := ⟨_, rfl⟩
    have F1 : Hid (FR B W1 b F R rv ∧ Frm b w W1) := Hid.intro (by rw [← hW1]; exact ⟨HF.out.drewN nq, (Frm.refl b w).drewN nq⟩)
    rw [hW1]
    clear hW1 HF c2' c3'
    have q0 := F1.out.1.rb.cKind n hn
    have q1 := F1.out.1.rb.cTree n hn
    have q2 := F1.out.1.rb.cLinks n hn
    have q3 := F1.out.1.rb.cHeld n hn
    have q4 := F1.out.1.rb.cUp n hn
    have q5 := F1.out.1.rb.cData n hn
    have q6 := F1.out.1.rb.cNs n hn
    have q7 := F1.out.1.rb.cKs n hn
    have cf := F1.out.1.rb.frozen
    have FIN : Hid (∃ W', ((((((((W1.setCell ⟨b, n * 8, none⟩ (.int .i64 0)).setCell ⟨b, n * 8 + 1, none⟩ (.int .i64 0)).setCell ⟨b, n * 8 + 2, none⟩ (.int .i64 0)).setCell ⟨b, n * 8 + 3, none⟩ (.int .i64 0)).setCell ⟨b, n * 8 + 4, none⟩ (.int .i64 0)).setCell ⟨b, n * 8 + 5, none⟩ (.string ⟨#[]⟩)).setCell ⟨b, n * 8 + 6, none⟩ (.slice none 0 0)).setCell ⟨b, n * 8 + 7, none⟩ (.slice none 0 0)) = W' ∧ FR B W' b (F.put n Nd.no) (putR R n RN.no) rv ∧ Frm b w W') := Hid.intro ⟨_, rfl, by
      have fr : Frm b W1 ((((((((W1.setCell ⟨b, n * 8, none⟩ (.int .i64 0)).setCell ⟨b, n * 8 + 1, none⟩ (.int .i64 0)).setCell ⟨b, n * 8 + 2, none⟩ (.int .i64 0)).setCell ⟨b, n * 8 + 3, none⟩ (.int .i64 0)).setCell ⟨b, n * 8 + 4, none⟩ (.int .i64 0)).setCell ⟨b, n * 8 + 5, none⟩ (.string ⟨#[]⟩)).setCell ⟨b, n * 8 + 6, none⟩ (.slice none 0 0)).setCell ⟨b, n * 8 + 7, none⟩ (.slice none 0 0)) := ((((((((Frm.refl b W1).setCell _ _).setCell _ _).setCell _ _).setCell _ _).setCell _ _).setCell _ _).setCell _ _).setCell _ _
      exact ⟨F1.out.1.put (F1.out.1.rb.setNode n RN.no hn ⟨⟨_, _, _, rfl⟩, ⟨_, _, _, rfl⟩⟩) fr (nr_no _ _ _ _ _ rfl), F1.out.2.trans fr⟩⟩
    go_wp2_with fail
    go_end0
    obtain ⟨W', hW', f1, f2⟩ := FIN.out
    rw [HS.out, hW']
    exact ⟨rfl, ⟨_, f1⟩, f2⟩
  · have HS := Hid.intro (Tr.swe_no c)
    have nz : (((F.nd n).links : Int) + ((F.nd n).held : Int) == 0) = false := by simp; omega
    have nz2 : ¬ (((F.nd n).links : Int) + ((F.nd n).held : Int) = 0) := by omega
    have hw : IntKind.i64.wrap (((F.nd n).links : Int) + ((F.nd n).held : Int)) = ((F.nd n).links : Int) + ((F.nd n).held : Int) := IntWalk.i64_in _ ⟨by omega, by omega⟩
    generalize (F.nd n).links = x1 at *
    generalize (F.nd n).held = x2 at *
    clear h e2 e3 c hl hh k0
    go_enter Tryz.func76, Tryz.ntmps76
    go_upto_region 0 with fail
    go_quiet (fail)
    go_wp2_with fail
    go_end0
    rw [HS.out]
    exact ⟨rfl, ⟨_, HF.out.drewN _⟩, (Frm.refl b w).drewN _⟩
end
end Go.Proofs.YthdadmbpnoofoaaGreatDoor
/- The document's own forest: Hold, fresh. -/
namespace Go.Proofs.YthdadmbpnoofoaaGreatDoor
open Go.RowKit
open Tr (Fo Nd RN)

section
variable (B : Bs) (b : Nat) (F : Fo) (R : Nat → RN) (rv : Value) (w : World)
theorem FR.drew {B : Bs} {b : Nat} {w : World} {F : Fo} {R : Nat → RN} {rv : Value} (h : FR B w b F R rv) : FR B w.drew b F R rv := h.below ⟨rfl, rfl, rfl, Nat.le_refl _, fun _ _ => rfl⟩
theorem FR.held {B : Bs} {b n v : Nat} {w : World} {F : Fo} {R : Nat → RN} {rv : Value} (h : FR B w b F R rv) (hn : n < 40) : FR B (w.setCell ⟨b, n * 8 + 3, none⟩ (.int .i64 (v : Int))) b (F.put n { F.nd n with held := v }) (putR R n { R n with held := v }) rv := by
  have fr : Frm b w (w.setCell ⟨b, n * 8 + 3, none⟩ (.int .i64 (v : Int))) := (Frm.refl b w).setCell _ _
  have k := (h.nd n hn).frm fr
  exact h.put (h.rb.setHeld n v hn) fr ⟨k.kd, fun c => ⟨(k.nm c).1, (k.nm c).2.1, rfl⟩, k.up, k.ns, k.ks, k.fl⟩
theorem FR.links {B : Bs} {b n v : Nat} {w : World} {F : Fo} {R : Nat → RN} {rv : Value} (h : FR B w b F R rv) (hn : n < 40) : FR B (w.setCell ⟨b, n * 8 + 2, none⟩ (.int .i64 (v : Int))) b (F.put n { F.nd n with links := v }) (putR R n { R n with links := v }) rv := by
  have fr : Frm b w (w.setCell ⟨b, n * 8 + 2, none⟩ (.int .i64 (v : Int))) := (Frm.refl b w).setCell _ _
  have k := (h.nd n hn).frm fr
  exact h.put (h.rb.setLinks n v hn) fr ⟨k.kd, fun c => ⟨(k.nm c).1, rfl, (k.nm c).2.2⟩, k.up, k.ns, k.ks, k.fl⟩
set_option maxRecDepth 100000 in
set_option maxHeartbeats 1000000 in
theorem rhold_any (z : Int) (h : FR B w b F R rv) (hb : ∀ n, n < 40 → (F.nd n).held < 2 ^ 60) :
    Calls Tryz.prog 29 #[.pointer (some ⟨b, 0, none⟩), .int .i64 z, .bool false] w fun e w' => e = .returned (.int .i64 (Tr.nodeE F z)) ∧ (∃ R', FR B w' b (Tr.hol F z) R' rv) ∧ Frm b w w' := by
  have HF := Hid.intro h
  have ek : Tr.isK F z 0 = Tr.nodeE F z := rfl
  by_cases c : Tr.nodeE F z = 0
  · obtain ⟨n, rfl, n40, k0⟩ := Tr.nodeE_ok c
    have n40I : (n : Int) < 40 := by omega
    have EK := Hid.intro (And.intro (ek.trans c) c)
    have c3 := h.rb.cHeld n n40
    rw [((h.nd n n40).nm k0).2.2] at c3
    have cf := h.rb.frozen
    have hl := hb n n40
    have FIN : Hid (FR B (w.setCell ⟨b, n * 8 + 3, none⟩ (.int .i64 (((F.nd n).held + 1 : Nat) : Int))) b (Tr.hol F (n : Int)) (putR R n { R n with held := (F.nd n).held + 1 }) rv) := Hid.intro (by
      unfold Tr.hol
      rw [if_pos c, Int.toNat_natCast]
      exact h.held n40)
    generalize (F.nd n).held = hh at *
    have hw : IntKind.i64.wrap ((hh : Int) + 1) = (hh : Int) + 1 := IntWalk.i64_in _ ⟨by omega, by omega⟩
    clear h c hb k0 ek
    go_enter Tryz.func29, Tryz.ntmps29
    go_wp2_with fail
    refine (ris_any B b 0 (n : Int) F R rv _ HF.out).mono ?_
    rintro e w1 ⟨rfl, hw1⟩
    subst w1
    rw [EK.out.1]
    go_wp2_with fail
    go_region
    go_wp2_with fail
    go_ret
    rw [EK.out.2]
    first | exact ⟨rfl, ⟨_, FIN.out.drew⟩, ((Frm.refl b w).setCell _ _).drew⟩ | exact ⟨rfl, ⟨_, FIN.out⟩, (Frm.refl b w).setCell _ _⟩ | (trace_state; fail)
  · have EK := Hid.intro (And.intro ek (show Tr.hol F z = F from if_neg c))
    have pos : 0 < Tr.nodeE F z := by rcases Tr.nodeE_cases F z with e | e | e <;> omega
    clear h c ek
    go_enter Tryz.func29, Tryz.ntmps29
    go_wp2_with fail
    refine (ris_any B b 0 z F R rv _ HF.out).mono ?_
    rintro e w1 ⟨rfl, hw1⟩
    subst w1
    rw [EK.out.1]
    go_wp2_with fail
    go_ret
    rw [EK.out.2]
    exact ⟨rfl, ⟨_, HF.out⟩, Frm.refl _ _⟩
set_option maxRecDepth 100000 in
set_option maxHeartbeats 1000000 in
theorem rlet_any (z : Int) (h : FR B w b F R rv) (hb : ∀ n, n < 40 → (F.nd n).held < 2 ^ 60) (hl : ∀ n, n < 40 → (F.nd n).kind ≠ 0 → (F.nd n).links < 2 ^ 60) :
    Calls Tryz.prog 29 #[.pointer (some ⟨b, 0, none⟩), .int .i64 z, .bool true] w fun e w' => e = .returned (.int .i64 (Tr.letE F z)) ∧ (∃ R', FR B w' b (Tr.letT F z) R' rv) ∧ Frm b w w' := by
  have HF := Hid.intro h
  have ek : Tr.isK F z 0 = Tr.nodeE F z := rfl
  by_cases c : Tr.nodeE F z = 0
  · obtain ⟨n, rfl, n40, k0⟩ := Tr.nodeE_ok c
    have n40I : (n : Int) < 40 := by omega
    have EK := Hid.intro (ek.trans c)
    have c3 := h.rb.cHeld n n40
    rw [((h.nd n n40).nm k0).2.2] at c3
    have cf := h.rb.frozen
    by_cases h0 : (F.nd n).held = 0
    · have LE : Hid (Tr.letE F (n : Int) = 8 ∧ Tr.letT F (n : Int) = F) := Hid.intro (by
        have e : Tr.letE F (n : Int) = 8 := by unfold Tr.letE; rw [if_pos c, Int.toNat_natCast, if_pos h0]
        exact ⟨e, by unfold Tr.letT; rw [e, if_neg (by decide)]⟩)
      rw [h0] at c3
      have c3' : w.cell? ⟨b, n * 8 + 3, none⟩ = some (.int .i64 0) := c3
      clear h c hb k0 ek c3 h0
      go_enter Tryz.func29, Tryz.ntmps29
      go_wp2_with fail
      refine (ris_any B b 0 (n : Int) F R rv _ HF.out).mono ?_
      rintro e w1 ⟨rfl, hw1⟩
      subst w1
      rw [EK.out]
      go_wp2_with fail
      go_ret
      rw [LE.out.1, LE.out.2]
      exact ⟨rfl, ⟨_, HF.out⟩, Frm.refl _ _⟩
    · have LE : Hid (Tr.letE F (n : Int) = 0 ∧ Tr.letT F (n : Int) = Tr.swe (F.put n { F.nd n with held := (F.nd n).held - 1 }) n) := Hid.intro (by
        have e : Tr.letE F (n : Int) = 0 := by unfold Tr.letE; rw [if_pos c, Int.toNat_natCast, if_neg h0]
        exact ⟨e, by unfold Tr.letT; rw [e, if_pos rfl, Int.toNat_natCast]⟩)
      have hbn := hb n n40
      have FIN : Hid (FR B (w.setCell ⟨b, n * 8 + 3, none⟩ (.int .i64 (((F.nd n).held - 1 : Nat) : Int))) b (F.put n { F.nd n with held := (F.nd n).held - 1 }) (putR R n { R n with held := (F.nd n).held - 1 }) rv) := Hid.intro (h.held n40)
      have PR : Hid (((F.put n { F.nd n with held := (F.nd n).held - 1 }).nd n).kind ≠ 0 ∧ ((F.put n { F.nd n with held := (F.nd n).held - 1 }).nd n).links < 2 ^ 60 ∧ ((F.put n { F.nd n with held := (F.nd n).held - 1 }).nd n).held < 2 ^ 60) := Hid.intro (by
        rw [Tr.put_same]
        exact ⟨k0, hl n n40 k0, by show (F.nd n).held - 1 < 2 ^ 60; omega⟩)
      generalize F.put n { F.nd n with held := (F.nd n).held - 1 } = F2 at *
      have hhI : ((((F.nd n).held : Nat) : Int) == 0) = false := by simp; omega
      have hhJ : ¬ (((F.nd n).held : Nat) : Int) = 0 := by omega
      have hw : IntKind.i64.wrap (((F.nd n).held : Int) - 1) = (((F.nd n).held - 1 : Nat) : Int) := by
        rw [show ((F.nd n).held : Int) - 1 = (((F.nd n).held - 1 : Nat) : Int) by omega]
        exact IntWalk.i64_in _ ⟨by omega, by omega⟩
      generalize hm1 : (F.nd n).held - 1 = hm at *
      generalize (F.nd n).held = hh at *
      clear h c hb k0 ek h0 hl hm1 hbn
      go_enter Tryz.func29, Tryz.ntmps29
      go_wp2_with fail
      refine (ris_any B b 0 (n : Int) F R rv _ HF.out).mono ?_
      rintro e w1 ⟨rfl, hw1⟩
      subst w1
      rw [EK.out]
      go_wp2_with fail
      go_region
      go_wp2_with fail
      refine (rgone_any B b F2 _ rv _ n (by first | exact FIN.out.drew | exact FIN.out) n40 PR.out.1 PR.out.2.1 PR.out.2.2).mono ?_
      rintro e w2 ⟨rfl, hR2, f2⟩
      have H2 := Hid.intro (And.intro hR2 f2)
      clear hR2 f2
      go_wp2_with fail
      go_ret
      rw [LE.out.1, LE.out.2]
      refine ⟨rfl, H2.out.1, Frm.trans ?_ H2.out.2⟩
      first | exact ((Frm.refl b w).setCell _ _).drew | exact (Frm.refl b w).setCell _ _
  · have EK := Hid.intro (And.intro ek (show Tr.letE F z = Tr.nodeE F z ∧ Tr.letT F z = F from by
      have e : Tr.letE F z = Tr.nodeE F z := if_neg c
      exact ⟨e, by unfold Tr.letT; rw [e, if_neg c]⟩))
    have pos : 0 < Tr.nodeE F z := by rcases Tr.nodeE_cases F z with e | e | e <;> omega
    clear h c ek
    go_enter Tryz.func29, Tryz.ntmps29
    go_wp2_with fail
    refine (ris_any B b 0 z F R rv _ HF.out).mono ?_
    rintro e w1 ⟨rfl, hw1⟩
    subst w1
    rw [EK.out.1]
    go_wp2_with fail
    go_ret
    rw [EK.out.2.1, EK.out.2.2]
    exact ⟨rfl, ⟨_, HF.out⟩, Frm.refl _ _⟩
end
end Go.Proofs.YthdadmbpnoofoaaGreatDoor
/- The document's own forest: fresh. -/
namespace Go.Proofs.YthdadmbpnoofoaaGreatDoor
open Go.RowKit
open Tr (Fo Nd RN)

theorem RB.drew {w : World} {b : Nat} {R : Nat → RN} {rv : Value} (h : RB w b R rv) : RB w.drew b R rv := h.same rfl
section
variable (B : Bs) (b : Nat) (F : Fo) (R : Nat → RN) (rv : Value) (w : World)
set_option maxRecDepth 100000 in
set_option maxHeartbeats 1000000 in
theorem rfresh_any (kd tr lk up : Nat) (h : FR B w b F R rv) :
    Calls Tryz.prog 27 #[.pointer (some ⟨b, 0, none⟩), .agg #[.int .i64 (kd : Int), .int .i64 (tr : Int), .int .i64 (lk : Int), .int .i64 0, .int .i64 (up : Int), .string ⟨#[]⟩, .slice none 0 0, .slice none 0 0]] w fun e w' => ∃ (n : Nat) (E : Int), e = .returned (.tuple #[.int .i64 (n : Int), .int .i64 E]) ∧ Tr.FreeTo F n E ∧ (E = 0 → RB w' b (putR R n ⟨kd, tr, lk, 0, up, ⟨#[]⟩, .slice none 0 0, .slice none 0 0⟩) rv) ∧ (E ≠ 0 → RB w' b R rv) ∧ Frm b w w' := by
  have HF := Hid.intro h
  clear h
  go_enter Tryz.func27, Tryz.ntmps27
  go_upto_region 1 with fail
  refine wp_gen (fun W' => FR B W' b F R rv ∧ Frm b w W' ∧ W'.heap[w.heap.size]? = some (.cells #[.int .i64 (kd : Int), .int .i64 (tr : Int), .int .i64 (lk : Int), .int .i64 0, .int .i64 (up : Int), .string ⟨#[]⟩, .slice none 0 0, .slice none 0 0] 31 (0, 0)) ∧ b ≠ w.heap.size) (by
    have bb := (Below.refl w.heap.size w).alloc (Nat.le_refl _) (.cells #[.int .i64 (kd : Int), .int .i64 (tr : Int), .int .i64 (lk : Int), .int .i64 0, .int .i64 (up : Int), .string ⟨#[]⟩, .slice none 0 0, .slice none 0 0] 31)
    exact ⟨HF.out.below bb, Frm.of_below bb, heap_alloc_new w _, by have := HF.out.rb.lt; omega⟩) ?_
  rintro W0 ⟨h0, f0, x0, ne⟩
  have HW := Hid.intro (And.intro h0 (And.intro f0 ne))
  generalize w.heap.size = c1 at x0 ⊢
  have p0 : W0.cell? ⟨c1, 0, none⟩ = some (.int .i64 (kd : Int)) := by rw [cell_blk x0]; rfl
  have p1 : W0.cell? ⟨c1, 1, none⟩ = some (.int .i64 (tr : Int)) := by rw [cell_blk x0]; rfl
  have p2 : W0.cell? ⟨c1, 2, none⟩ = some (.int .i64 (lk : Int)) := by rw [cell_blk x0]; rfl
  have p3 : W0.cell? ⟨c1, 3, none⟩ = some (.int .i64 0) := by rw [cell_blk x0]; rfl
  have p4 : W0.cell? ⟨c1, 4, none⟩ = some (.int .i64 (up : Int)) := by rw [cell_blk x0]; rfl
  have p5 : W0.cell? ⟨c1, 5, none⟩ = some (.string ⟨#[]⟩) := by rw [cell_blk x0]; rfl
  have p6 : W0.cell? ⟨c1, 6, none⟩ = some (.slice none 0 0) := by rw [cell_blk x0]; rfl
  have p7 : W0.cell? ⟨c1, 7, none⟩ = some (.slice none 0 0) := by rw [cell_blk x0]; rfl
  clear HF h0 f0 x0 ne
  go_wp2_with fail
  go_loopw [6] (fun i wr => ∃ j : Nat, i = .int .i64 j ∧ j ≤ 40 ∧ Hid (∀ m, m < j → (F.nd m).kind ≠ 0) ∧ Hid (wr = W0)) (fun i _ => 40 - (intOf i).toNat)
  case atStart => exact ⟨0, rfl, by omega, Hid.intro (fun m hm => by omega), Hid.intro rfl⟩
  case round =>
    obtain ⟨j, rfl, hj, N, hwr⟩ := hrel
    have hwr2 := hwr.out
    subst hwr2
    clear hwr
    by_cases hlt : j < 40
    · have hltI : (j : Int) < 40 := by omega
      have q0 := HW.out.1.cKind j hlt
      by_cases k0 : (F.nd j).kind = 0
      · have K0 := Hid.intro k0
        rw [k0] at q0
        have q0' : wr.cell? ⟨b, j * 8, none⟩ = some (.int .i64 0) := q0
        have q1 := HW.out.1.rb.cTree j hlt
        have q2 := HW.out.1.rb.cLinks j hlt
        have q3 := HW.out.1.rb.cHeld j hlt
        have q4 := HW.out.1.rb.cUp j hlt
        have q5 := HW.out.1.rb.cData j hlt
        have q6 := HW.out.1.rb.cNs j hlt
        have q7 := HW.out.1.rb.cKs j hlt
        have cf := HW.out.1.rb.frozen
        have FIN : Hid (∀ X, RB X b R rv → RB ((((((((X.setCell ⟨b, j * 8, none⟩ (.int .i64 (kd : Int))).setCell ⟨b, j * 8 + 1, none⟩ (.int .i64 (tr : Int))).setCell ⟨b, j * 8 + 2, none⟩ (.int .i64 (lk : Int))).setCell ⟨b, j * 8 + 3, none⟩ (.int .i64 0)).setCell ⟨b, j * 8 + 4, none⟩ (.int .i64 (up : Int))).setCell ⟨b, j * 8 + 5, none⟩ (.string ⟨#[]⟩)).setCell ⟨b, j * 8 + 6, none⟩ (.slice none 0 0)).setCell ⟨b, j * 8 + 7, none⟩ (.slice none 0 0)) b (putR R j ⟨kd, tr, lk, 0, up, ⟨#[]⟩, .slice none 0 0, .slice none 0 0⟩) rv ∧ Frm b X ((((((((X.setCell ⟨b, j * 8, none⟩ (.int .i64 (kd : Int))).setCell ⟨b, j * 8 + 1, none⟩ (.int .i64 (tr : Int))).setCell ⟨b, j * 8 + 2, none⟩ (.int .i64 (lk : Int))).setCell ⟨b, j * 8 + 3, none⟩ (.int .i64 0)).setCell ⟨b, j * 8 + 4, none⟩ (.int .i64 (up : Int))).setCell ⟨b, j * 8 + 5, none⟩ (.string ⟨#[]⟩)).setCell ⟨b, j * 8 + 6, none⟩ (.slice none 0 0)).setCell ⟨b, j * 8 + 7, none⟩ (.slice none 0 0))) := Hid.intro (fun X hX => ⟨hX.setNode j ⟨kd, tr, lk, 0, up, ⟨#[]⟩, .slice none 0 0, .slice none 0 0⟩ hlt ⟨⟨_, _, _, rfl⟩, ⟨_, _, _, rfl⟩⟩, ((((((((Frm.refl b X).setCell _ _).setCell _ _).setCell _ _).setCell _ _).setCell _ _).setCell _ _).setCell _ _).setCell _ _⟩)
        clear q0 k0
        go_wp2_with fail
        go_region
        go_wp2_with fail
        go_ret2
        obtain ⟨F0, F1⟩ := FIN.out wr HW.out.1.rb
        generalize ((((((((wr.setCell ⟨b, j * 8, none⟩ (.int .i64 (kd : Int))).setCell ⟨b, j * 8 + 1, none⟩ (.int .i64 (tr : Int))).setCell ⟨b, j * 8 + 2, none⟩ (.int .i64 (lk : Int))).setCell ⟨b, j * 8 + 3, none⟩ (.int .i64 0)).setCell ⟨b, j * 8 + 4, none⟩ (.int .i64 (up : Int))).setCell ⟨b, j * 8 + 5, none⟩ (.string ⟨#[]⟩)).setCell ⟨b, j * 8 + 6, none⟩ (.slice none 0 0)).setCell ⟨b, j * 8 + 7, none⟩ (.slice none 0 0)) = WX at F0 F1 ⊢
        exact ⟨j, 0, rfl, .inl ⟨rfl, hlt, K0.out, N.out⟩, fun _ => F0.drew, fun c => absurd rfl c, (HW.out.2.1.trans F1).drew⟩
      · have N2 : Hid (∀ m, m < j + 1 → (F.nd m).kind ≠ 0) := Hid.intro (fun m hm => by
          by_cases d : m = j
          · subst d; exact k0
          · exact N.out m (by omega))
        have k0I : (((F.nd j).kind : Int) == 0) = false := by simp; omega
        have k0J : ¬ ((F.nd j).kind : Int) = 0 := by omega
        generalize (F.nd j).kind = kj at *
        clear k0
        go_wp2_with fail
        go_roundw
        case rel => exact ⟨j + 1, by go_num, by omega, N2, Hid.intro (by first | rfl | trivial)⟩
        case measure => simp [intOf]; omega
    · have hltI : ¬ (j : Int) < 40 := by omega
      go_wp2_with fail
      go_ret2
      exact ⟨0, 4, rfl, .inr ⟨rfl, rfl, fun m hm => N.out m (by omega)⟩, fun c => absurd c (by decide), fun _ => HW.out.1.rb, HW.out.2.1⟩
end
end Go.Proofs.YthdadmbpnoofoaaGreatDoor
/- The document's own forest: a name is cut. -/
namespace Go.Proofs.YthdadmbpnoofoaaGreatDoor
open Go.RowKit
open Tr (Fo Nd RN)

theorem LO.below {w wr w1 : World} {L : List Nat} {v : Value} (h : LO w L v wr) (b : RowKit.Below wr.heap.size wr w1) : LO w L v w1 :=
  ⟨h.bel.trans (b.mono h.bel.size), h.own.kept (row := none) ⟨b.os, b.tape, b.output, b.size, fun k hk _ => b.block k hk⟩ (Classical.em _)⟩
theorem own_ne {W : World} {b1 b2 : Nat} {e1 e2 : TypeId} {s1 s2 n1 n2 : Nat} {v1 v2 : Value} {x1 x2 : List Value} (h1 : W.ownsRow b1 e1 s1 v1 n1 x1) (h2 : W.ownsRow b2 e2 s2 v2 n2 x2) (ne : e1 ≠ e2) : v1.ownBlock = none ∨ v1.ownBlock ≠ v2.ownBlock := by
  rcases h1.2 with ⟨e, _⟩ | ⟨g, c, cur, e, _, hg, _⟩
  · exact .inl (by rw [e]; rfl)
  · rcases h2.2 with ⟨e', _⟩ | ⟨g', c', cur', e', _, hg', _⟩
    · exact .inr (by rw [e, e']; intro k; cases k)
    · refine .inr (fun k => ?_)
      rw [e, e'] at k
      have k' : g = g' := by simpa [Value.ownBlock] using k
      rw [k', hg'] at hg
      injection hg with hg
      injection hg with _ hg _
      exact ne hg.symm
/-- Two slices that the call owns: names, and kids. -/
structure NK (w : World) (L : List ByteArray) (K : List Nat) (v1 v2 : Value) (W : World) : Prop where
  s : SO w L v1 W
  k : LO w K v2 W
theorem NK.start (w : World) : NK w [] [] (.slice none 0 0) (.slice none 0 0) w := ⟨SO.start w, LO.nil w⟩
theorem NK.below {w W W' : World} {L : List ByteArray} {K : List Nat} {v1 v2 : Value} (h : NK w L K v1 v2 W) (b : RowKit.Below W.heap.size W W') : NK w L K v1 v2 W' := ⟨h.s.below b, h.k.below b⟩
theorem str_int : (9 : Nat) ≠ 3 := by decide
theorem NK.addS {w w1 wr : World} {L : List ByteArray} {K : List Nat} {gg cap N : Nat} {l v2 : Value} (h : NK w L K l v2 wr) (x : ByteArray) (hN : L.length = N) (hl : w1.ownsRow w.heap.size 9 1 (.slice (some ⟨gg, 0, none⟩) (N + 1) cap) (N + 1) (stC L ++ [.string x])) (o : Obj) (hg : (wr.alloc o).grownBy w1 l.ownBlock) :
    NK w (L ++ [x]) K (.slice (some ⟨gg, 0, none⟩) (N + 1) cap) v2 w1 := by
  have s := h.s.more x hN hl o hg
  refine ⟨s, s.bel, ?_⟩
  refine (h.k.own.alloc o).kept hg ?_
  exact own_ne h.k.own h.s.own str_int.symm
theorem NK.addK {w w1 wr : World} {L : List ByteArray} {K : List Nat} {gg cap N x : Nat} {v1 l : Value} (h : NK w L K v1 l wr) (hN : K.length = N) (hl : w1.ownsRow w.heap.size 3 1 (.slice (some ⟨gg, 0, none⟩) (N + 1) cap) (N + 1) (rowOf K ++ [.int .i64 x])) (o : Obj) (hg : (wr.alloc o).grownBy w1 l.ownBlock) :
    NK w L (K ++ [x]) v1 (.slice (some ⟨gg, 0, none⟩) (N + 1) cap) w1 := by
  have k := h.k.more hN hl o hg
  refine ⟨⟨k.bel, ?_, h.s.nil⟩, k⟩
  refine (h.s.own.alloc o).kept hg ?_
  exact own_ne h.s.own h.k.own str_int
theorem SO.lv {w W : World} {L : List ByteArray} {v : Value} (h : SO w L v W) {P : Nat → Prop} (hP : ∀ g, w.heap.size ≤ g → P g) : LV P (L.map Value.string) v W := by
  by_cases hl : 0 < L.length
  · have ho := h.own
    obtain ⟨gg, cap, hv, hgb, hg⟩ := ho.form hl
    refine ⟨_, cap, by rw [List.length_map]; exact hv, fun _ => ⟨gg, rfl, hP gg hgb, hg, fun i hi => ?_⟩⟩
    rw [List.length_map] at hi
    rw [hv] at ho
    rw [ho.cellAt i (by omega)]
    rfl
  · obtain ⟨a, c, e⟩ := h.form
    exact ⟨a, c, by rw [List.length_map]; exact e, fun k => absurd (by rw [List.length_map] at k; exact k) hl⟩
theorem LO.lv {w W : World} {L : List Nat} {v : Value} (h : LO w L v W) {P : Nat → Prop} (hP : ∀ g, w.heap.size ≤ g → P g) : LV P (rowOf L) v W := by
  by_cases hl : 0 < L.length
  · have ho := h.own
    obtain ⟨gg, cap, hv, hgb, hg⟩ := ho.form hl
    refine ⟨_, cap, by rw [rowOf_len]; exact hv, fun _ => ⟨gg, rfl, hP gg hgb, hg, fun i hi => ?_⟩⟩
    rw [rowOf_len] at hi
    rw [hv] at ho
    exact ho.cellAt i (by omega)
  · obtain ⟨a, c, e⟩ := own_form h.own
    exact ⟨a, c, by rw [rowOf_len]; exact e, fun k => absurd (by rw [rowOf_len] at k; exact k) hl⟩
/-- Both lists are stored in their node. -/
theorem FR.lists {B : Bs} {b n : Nat} {w W : World} {F : Fo} {R : Nat → RN} {rv : Value} (h : FR B w b F R rv) (hn : n < 40) (k2 : (F.nd n).kind = 2) {x : Nd} {v1 v2 : Value} (ek : x.kind = (F.nd n).kind) (et : x.tree = (F.nd n).tree) (el : x.links = (F.nd n).links) (eh : x.held = (F.nd n).held) (eu : x.up = (F.nd n).up) (nk : NK w (Tr.lsN x) (Tr.ksN x) v1 v2 W) :
    FR B ((W.setCell ⟨b, n * 8 + 6, none⟩ v1).setCell ⟨b, n * 8 + 7, none⟩ v2) b (F.put n x) (putR R n { R n with ns := v1, ks := v2 }) rv ∧ Frm b w ((W.setCell ⟨b, n * 8 + 6, none⟩ v1).setCell ⟨b, n * 8 + 7, none⟩ v2) := by
  have fw : Frm b w W := Frm.of_below nk.s.bel
  have fr : Frm b W ((W.setCell ⟨b, n * 8 + 6, none⟩ v1).setCell ⟨b, n * 8 + 7, none⟩ v2) := ((Frm.refl b W).setCell _ _).setCell _ _
  have hW := h.below nk.s.bel
  have bl := h.rb.lt
  have hP : ∀ g, w.heap.size ≤ g → Oth B b rv g := fun g hg => ⟨by have := h.le; omega, by omega, fun e => by have := (h.own.lt g e).2; omega, fun e => by have := h.bd g e; omega⟩
  have s1 : isSl v1 := by obtain ⟨a, c, e⟩ := nk.s.form; exact ⟨_, _, _, e⟩
  have s2 : isSl v2 := by obtain ⟨a, c, e⟩ := own_form nk.k.own; exact ⟨_, _, _, e⟩
  have r1 := (hW.rb.setNs n v1 hn s1).setKs n v2 hn s2
  have e : putR (putR R n { R n with ns := v1 }) n { putR R n { R n with ns := v1 } n with ks := v2 } = putR R n { R n with ns := v1, ks := v2 } := by
    rw [putR_same]
    funext m
    unfold putR
    by_cases c : m = n
    · rw [if_pos c, if_pos c]
    · rw [if_neg c, if_neg c, if_neg c]
  rw [e] at r1
  have k := hW.nd n hn
  refine ⟨hW.put r1 fr ⟨k.kd.trans ek.symm, fun c => ?_, fun _ => (k.up k2).trans eu.symm, fun _ => ?_, fun _ => ?_, fun c => ?_⟩, fw.trans fr⟩
  · have a := k.nm (by rw [← ek]; exact c)
    exact ⟨a.1.trans et.symm, a.2.1.trans el.symm, a.2.2.trans eh.symm⟩
  · exact (nk.s.lv hP).kept fr.size (fun g hg hl => fr.block g hl hg.2.1)
  · exact (nk.k.lv hP).kept fr.size (fun g hg hl => fr.block g hl hg.2.1)
  · rw [ek, k2] at c; exact absurd c (by decide)
/-- What is left of the first ones. -/
def cutK (L : List ByteArray) (s : ByteArray) (j : Nat) : List ByteArray := (L.take j).filter fun y => decide (y.toList ≠ s.toList)
theorem cutK_succ {L : List ByteArray} {s : ByteArray} {j : Nat} (hj : j < L.length) : cutK L s (j + 1) = if (L.getD j ⟨#[]⟩).toList = s.toList then cutK L s j else cutK L s j ++ [L.getD j ⟨#[]⟩] := by
  unfold cutK
  rw [List.take_succ_eq_append_getElem hj, List.filter_append, List.getD_eq_getElem?_getD, List.getElem?_eq_getElem hj, Option.getD_some]
  by_cases c : L[j].toList = s.toList
  · simp [c]
  · simp [c]
theorem cutK_len (L : List ByteArray) (s : ByteArray) (j : Nat) : (cutK L s j).length ≤ j := Nat.le_trans (List.length_filter_le _ _) (by rw [List.length_take]; omega)
theorem Tr.ksN_at {x : Nd} {j : Nat} (hj : j < (Tr.lsN x).length) : (Tr.ksN x).getD j 0 = Tr.fk x ((Tr.lsN x).getD j ⟨#[]⟩).toList := by
  unfold Tr.ksN
  rw [List.getD_eq_getElem?_getD, List.getElem?_map, List.getElem?_eq_getElem hj, List.getD_eq_getElem?_getD, List.getElem?_eq_getElem hj]; rfl
theorem Tr.ksN_for {x : Nd} {i : Nat} (hd : Tr.Nodup x) (hi : i < x.size) : Tr.ksN (Tr.forN x i) = (Tr.lsN (Tr.forN x i)).map fun y => Tr.fk x y.toList := by
  unfold Tr.ksN
  refine List.map_congr_left (fun y hy => ?_)
  obtain ⟨j, hj, e⟩ := Tr.lsN_mem.1 (List.mem_map_of_mem (f := fun s : ByteArray => s.toList) hy)
  rw [Tr.forN_size] at hj
  obtain ⟨q, hq, hqi, hn, _⟩ := Tr.forN_was hi hj
  rw [hn] at e
  exact Tr.fk_for hd hi hq hqi e
end Go.Proofs.YthdadmbpnoofoaaGreatDoor
/- The document's own forest: cut. -/
namespace Go.Proofs.YthdadmbpnoofoaaGreatDoor
open Go.RowKit
open Tr (Fo Nd RN)

theorem infoIn : ∃ i, Tryz.prog.info? 3 = some i ∧ i.zero = some (.int .i64 0) ∧ i.size = 1 ∧ i.bytes = 8 := ⟨(Tryz.prog.info? 3).get (by kernel_rfl), by kernel_rfl, by kernel_rfl, by kernel_rfl, by kernel_rfl⟩
theorem NK.forms {w W : World} {L : List ByteArray} {K : List Nat} {v1 v2 : Value} (h : NK w L K v1 v2 W) : (∃ a c, v1 = .slice a L.length c) ∧ ∃ a c, v2 = .slice a K.length c := ⟨h.s.form, own_form h.k.own⟩
section
variable (B : Bs) (b : Nat) (F : Fo) (R : Nat → RN) (rv : Value) (w : World)
set_option maxRecDepth 100000 in
set_option maxHeartbeats 2000000 in
theorem rcut_any (n i : Nat) (s : ByteArray) (h : FR B w b F R rv) (hn : n < 40) (k2 : (F.nd n).kind = 2) (hs : (F.nd n).size ≤ 8) (hd : Tr.Nodup (F.nd n)) (hp : Tr.PlcTo (F.nd n) s (i : Int)) :
    Calls Tryz.prog 82 #[.pointer (some ⟨b, 0, none⟩), .int .i64 (n : Int), .string s] w fun e w' => e = .returned (.tuple #[]) ∧ (∃ R', FR B w' b (F.put n (Tr.forN (F.nd n) i)) R' rv) ∧ Frm b w w' := by
  obtain ⟨i0, hi0, hz0, hz1, hz2⟩ := infoSt
  obtain ⟨i1, hi1, hy0, hy1, hy2⟩ := infoIn
  obtain ⟨a6, c6, e6, k6⟩ := ((h.nd n hn).ns k2).texts
  obtain ⟨a7, c7, e7, k7⟩ := ((h.nd n hn).ks k2).nums
  have hi := hp.lt
  have hl6 := Tr.lsN_len (F.nd n)
  have hl7 := Tr.ksN_len (F.nd n)
  rw [hl6] at e6 k6
  rw [hl7] at e7 k7
  obtain ⟨g6, rfl, _, lt6, cl6⟩ := k6 (by omega)
  obtain ⟨g7, rfl, _, lt7, cl7⟩ := k7 (by omega)
  obtain ⟨m, hm⟩ : ∃ m, (F.nd n).size = m := ⟨_, rfl⟩
  rw [hm] at e6 e7 cl6 cl7 hl6 hl7 hs
  have q6 := h.rb.cNs n hn
  have q7 := h.rb.cKs n hn
  rw [e6] at q6
  rw [e7] at q7
  have bl := h.rb.lt
  have CL : Hid (∀ W, Below w.heap.size w W → W.cell? ⟨b, n * 8 + 6, none⟩ = some (.slice (some ⟨g6, 0, none⟩) m c6) ∧ W.cell? ⟨b, n * 8 + 7, none⟩ = some (.slice (some ⟨g7, 0, none⟩) m c7) ∧ (∀ j, j < m → W.cell? ⟨g6, j, none⟩ = some (.string ((Tr.lsN (F.nd n)).getD j ⟨#[]⟩)) ∧ W.cell? ⟨g7, j, none⟩ = some (.int .i64 ((Tr.fk (F.nd n) ((Tr.lsN (F.nd n)).getD j ⟨#[]⟩).toList : Nat) : Int)))) := Hid.intro (fun W hW => ⟨(hW.cell (p := ⟨b, n * 8 + 6, none⟩) bl).trans q6, (hW.cell (p := ⟨b, n * 8 + 7, none⟩) bl).trans q7, fun j hj => ⟨(hW.cell (p := ⟨g6, j, none⟩) lt6).trans (cl6 j hj), by rw [← Tr.ksN_at (by rw [hl6]; exact hj)]; exact (hW.cell (p := ⟨g7, j, none⟩) lt7).trans (cl7 j hj)⟩⟩)
  have HF := Hid.intro h
  have LN : Hid ((Tr.lsN (F.nd n)).length = m) := Hid.intro hl6
  have en : (F.nd n).nam i = (F.nd n).nam i := rfl
  have hnm : ((F.nd n).nam i).toList = s.toList := by
    rcases hp with ⟨j, e, _, h2, _⟩ | ⟨e, _⟩
    · obtain rfl : i = j := by omega
      exact h2
    · omega
  have EN : Hid (cutK (Tr.lsN (F.nd n)) s m = Tr.lsN (Tr.forN (F.nd n) i) ∧ (cutK (Tr.lsN (F.nd n)) s m).map (fun y => Tr.fk (F.nd n) y.toList) = Tr.ksN (Tr.forN (F.nd n) i)) := Hid.intro (by
    have e1 : cutK (Tr.lsN (F.nd n)) s m = Tr.lsN (Tr.forN (F.nd n) i) := by
      rw [Tr.lsN_for hd hi hnm]
      unfold cutK
      rw [← hl6, List.take_length]
    exact ⟨e1, by rw [Tr.ksN_for hd hi, e1]⟩)
  have K2 := Hid.intro k2
  obtain ⟨L, hL⟩ : ∃ L, Tr.lsN (F.nd n) = L := ⟨_, rfl⟩
  rw [hL] at CL LN EN
  have nI : (n : Int) < 40 := by omega
  clear h hi hp hd hnm hl6 hl7 hm q6 q7 cl6 cl7 e6 e7 k6 k7 lt6 lt7 bl k2 hL en
  go_enter Tryz.func82, Tryz.ntmps82
  go_wp2_with fail
  go_loopw [7, 8, 9] (fun v1 v2 i wr => ∃ j : Nat, i = .int .i64 j ∧ j ≤ m ∧ Hid (NK w (cutK L s j) ((cutK L s j).map fun y => Tr.fk (F.nd n) y.toList) v1 v2 wr)) (fun _ _ i _ => m - (intOf i).toNat)
  case atStart => exact ⟨0, rfl, by omega, Hid.intro (NK.start w)⟩
  case round =>
    obtain ⟨j, rfl, hj, N⟩ := hrel
    obtain ⟨b6, b7, bc⟩ := CL.out wr N.out.s.bel
    by_cases hlt : j < m
    · have hltI : (j : Int) < (m : Int) := by omega
      obtain ⟨d6, d7⟩ := bc j hlt
      have SU := Hid.intro (cutK_succ (L := L) (s := s) (j := j) (by rw [LN.out]; exact hlt))
      obtain ⟨t, ht⟩ : ∃ t, L.getD j ⟨#[]⟩ = t := ⟨_, rfl⟩
      rw [ht] at d6 d7 SU
      clear bc
      by_cases e : (t.toList == s.toList) = true
      · have N2 : Hid (NK w (cutK L s (j + 1)) ((cutK L s (j + 1)).map fun y => Tr.fk (F.nd n) y.toList) u7 u8 wr) := Hid.intro (by rw [SU.out, if_pos (by simpa using e)]; exact N.out)
        clear ht
        go_wp2_with fail
        go_roundw
        case rel => exact ⟨j + 1, by go_num, by omega, N2⟩
        case measure => simp [intOf]; omega
      · have e' : (t.toList == s.toList) = false := by simpa using e
        have SU2 : Hid (cutK L s (j + 1) = cutK L s j ++ [t]) := Hid.intro (by rw [SU.out, if_neg (by simpa using e)])
        have HT := Hid.intro ht
        obtain ⟨nn, hnn⟩ : ∃ nn, (cutK L s j).length = nn := ⟨_, rfl⟩
        have nle : nn ≤ 8 := by have := cutK_len L s j; omega
        have LL := Hid.intro hnn
        have LK : Hid (((cutK L s j).map fun y => Tr.fk (F.nd n) y.toList).length = nn) := Hid.intro (by rw [List.length_map]; exact hnn)
        obtain ⟨⟨va, vc, hv1⟩, vb, vd, hv2⟩ := N.out.forms
        rw [LL.out] at hv1
        rw [LK.out] at hv2
        subst hv1
        subst hv2
        obtain ⟨fk, hfk⟩ : ∃ fk, Tr.fk (F.nd n) t.toList = fk := ⟨_, rfl⟩
        have FK := Hid.intro hfk
        clear e SU ht hnn hfk
        go_upto_region 7 with fail
        go_upto_region 8 with (at_builtin; refine wpList_append_lies _ rfl _ _ 28 (by rfl) w.heap.size 9 i0 (.string ⟨#[]⟩) 1 16 Tryz.underlying28 hi0 hz0 hz1 hz2 rfl (by decide) (.slice va nn vc) nn (stC (cutK L s j)) (by rfl) (by have := N.out.s.own; rw [LL.out] at this; exact this.alloc _) ⟨wr.heap.size, 0, none⟩ 1 1 [.string t] (by rfl) rfl (World.news_of_block (heap_alloc_new wr _)) (by simp [Value.oneCell']) (by decide) (by unfold maxLen; omega) (by omega) (by have := N.out.s.bel.size; simp; omega) (wr.heap.size + 1) (by simp) ?_; intro gg cap2 w2 hown hgrow hat hlt2; have Q1 := Hid.intro (N.out.addS t LL.out hown _ hgrow); clear hown hgrow hat hlt2)
        obtain ⟨b6', b7', bc'⟩ := CL.out w2 Q1.out.s.bel
        obtain ⟨d6', d7'⟩ := bc' j hlt
        rw [HT.out, FK.out] at d7'
        clear bc' b6 b7 d6 d7 d6'
        go_wp2_with (at_builtin; refine wpList_append_lies _ rfl _ _ 29 (by rfl) w.heap.size 3 i1 (.int .i64 0) 1 8 Tryz.underlying29 hi1 hy0 hy1 hy2 rfl (by decide) (.slice vb nn vd) nn (rowOf ((cutK L s j).map fun y => Tr.fk (F.nd n) y.toList)) (by rfl) (by have := Q1.out.k.own; rw [LK.out] at this; exact this.alloc _) ⟨w2.heap.size, 0, none⟩ 1 1 [.int .i64 (fk : Int)] (by rfl) rfl (World.news_of_block (heap_alloc_new w2 _)) (by simp [Value.oneCell']) (by decide) (by unfold maxLen; omega) (by omega) (by have := Q1.out.s.bel.size; simp; omega) (w2.heap.size + 1) (by simp) ?_; intro gg2 cap3 w3 hown hgrow hat hlt2; have Q2 := Hid.intro (Q1.out.addK LK.out hown _ hgrow); clear hown hgrow hat hlt2)
        go_roundw
        case rel => exact ⟨j + 1, by go_num, by omega, by rw [SU2.out, List.map_append, List.map_singleton, FK.out]; exact Q2⟩
        case measure => simp [intOf]; omega
    · have hltI : ¬ (j : Int) < (m : Int) := by omega
      obtain rfl : j = m := by omega
      have cf := (HF.out.below N.out.s.bel).rb.frozen
      have FIN : Hid (∀ v1 v2, u7 = v1 → u8 = v2 → (∃ R', FR B ((wr.setCell ⟨b, n * 8 + 6, none⟩ v1).setCell ⟨b, n * 8 + 7, none⟩ v2) b (F.put n (Tr.forN (F.nd n) i)) R' rv) ∧ Frm b w ((wr.setCell ⟨b, n * 8 + 6, none⟩ v1).setCell ⟨b, n * 8 + 7, none⟩ v2)) := Hid.intro (fun v1 v2 e1 e2 => by
        subst e1
        subst e2
        have := HF.out.lists hn K2.out (x := Tr.forN (F.nd n) i) rfl rfl rfl rfl rfl (by rw [← EN.out.1, ← EN.out.2]; exact N.out)
        exact ⟨⟨_, this.1⟩, this.2⟩)
      obtain ⟨⟨va, vc, hv1⟩, vb, vd, hv2⟩ := N.out.forms
      rw [List.length_map] at hv2
      have FIN2 := Hid.intro (FIN.out _ _ hv1 hv2)
      subst hv1
      subst hv2
      clear FIN N bc EN
      go_wp2_with fail
      go_end0
      exact ⟨rfl, FIN2.out⟩
end
end Go.Proofs.YthdadmbpnoofoaaGreatDoor
/- The document's own forest: put. -/
namespace Go.Proofs.YthdadmbpnoofoaaGreatDoor
open Go.RowKit
open Tr (Fo Nd RN)

theorem putK_len (L : List ByteArray) (s : ByteArray) : ∀ j, (putK L s j).1.length ≤ j + (if (putK L s j).2 = false then 0 else 1)
  | 0 => by simp [putK]
  | j + 1 => by
    have := putK_len L s j
    show (if _ then _ else _ : List ByteArray × Bool).1.length ≤ j + 1 + (if (if _ then _ else _ : List ByteArray × Bool).2 = false then 0 else 1)
    by_cases c : (putK L s j).2 = false ∧ s.toList < (L.getD j ⟨#[]⟩).toList
    · rw [if_pos c]
      rw [if_pos c.1] at this
      simp
      omega
    · rw [if_neg c]
      simp only [List.length_append, List.length_singleton]
      omega
section
variable (B : Bs) (b : Nat) (F : Fo) (R : Nat → RN) (rv : Value) (w : World)
set_option maxRecDepth 100000 in
set_option maxHeartbeats 4000000 in
theorem rput_any (n k : Nat) (s : ByteArray) (h : FR B w b F R rv) (hn : n < 40) (k2 : (F.nd n).kind = 2) (hs : (F.nd n).size ≤ 8) (hd : Tr.Nodup (F.nd n)) (hp : Tr.PlcTo (F.nd n) s (-1)) :
    Calls Tryz.prog 78 #[.pointer (some ⟨b, 0, none⟩), .int .i64 (n : Int), .string s, .int .i64 (k : Int)] w fun e w' => e = .returned (.tuple #[]) ∧ (∃ R', FR B w' b (F.put n (Tr.adN (F.nd n) s k)) R' rv) ∧ Frm b w w' := by
  obtain ⟨i0, hi0, hz0, hz1, hz2⟩ := infoSt
  obtain ⟨i1, hi1, hy0, hy1, hy2⟩ := infoIn
  obtain ⟨a6, c6, e6, k6⟩ := ((h.nd n hn).ns k2).texts
  obtain ⟨a7, c7, e7, k7⟩ := ((h.nd n hn).ks k2).nums
  have hl6 := Tr.lsN_len (F.nd n)
  have hl7 := Tr.ksN_len (F.nd n)
  rw [hl6] at e6 k6
  rw [hl7] at e7 k7
  obtain ⟨m, hm⟩ : ∃ m, (F.nd n).size = m := ⟨_, rfl⟩
  rw [hm] at e6 e7 k6 k7 hl6 hl7 hs
  have q6 := h.rb.cNs n hn
  have q7 := h.rb.cKs n hn
  rw [e6] at q6
  rw [e7] at q7
  have bl := h.rb.lt
  have AD : Hid (0 < m → ∃ g6 g7, a6 = some ⟨g6, 0, none⟩ ∧ a7 = some ⟨g7, 0, none⟩) := Hid.intro (fun hm0 => by
    obtain ⟨g6, e, _⟩ := k6 hm0
    obtain ⟨g7, e', _⟩ := k7 hm0
    exact ⟨g6, g7, e, e'⟩)
  have CL0 : Hid (∀ W, Below w.heap.size w W → W.cell? ⟨b, n * 8 + 6, none⟩ = some (.slice a6 m c6) ∧ W.cell? ⟨b, n * 8 + 7, none⟩ = some (.slice a7 m c7) ∧ (∀ g6 g7, a6 = some ⟨g6, 0, none⟩ → a7 = some ⟨g7, 0, none⟩ → ∀ j, j < m → W.cell? ⟨g6, j, none⟩ = some (.string ((Tr.lsN (F.nd n)).getD j ⟨#[]⟩)) ∧ W.cell? ⟨g7, j, none⟩ = some (.int .i64 ((Tr.fk (F.nd n) ((Tr.lsN (F.nd n)).getD j ⟨#[]⟩).toList : Nat) : Int)))) := Hid.intro (fun W hW => ⟨(hW.cell (p := ⟨b, n * 8 + 6, none⟩) bl).trans q6, (hW.cell (p := ⟨b, n * 8 + 7, none⟩) bl).trans q7, fun g6 g7 ea eb j hj => by
    obtain ⟨g6', e, _, lt6, cl6⟩ := k6 (by omega)
    obtain ⟨g7', e', _, lt7, cl7⟩ := k7 (by omega)
    rw [ea] at e
    rw [eb] at e'
    injection e with e
    injection e with e
    injection e' with e'
    injection e' with e'
    subst e
    subst e'
    exact ⟨(hW.cell (p := ⟨g6, j, none⟩) lt6).trans (cl6 j hj), by rw [← Tr.ksN_at (by rw [hl6]; exact hj)]; exact (hW.cell (p := ⟨g7, j, none⟩) lt7).trans (cl7 j hj)⟩⟩)
  have HF := Hid.intro h
  have LN : Hid ((Tr.lsN (F.nd n)).length = m) := Hid.intro hl6
  obtain ⟨g, hg⟩ : ∃ g : ByteArray → Nat, (fun y => Tr.fk (Tr.adN (F.nd n) s k) y.toList) = g := ⟨_, rfl⟩
  have GS : Hid (g s = k ∧ ∀ j, j < m → Tr.fk (F.nd n) ((Tr.lsN (F.nd n)).getD j ⟨#[]⟩).toList = g ((Tr.lsN (F.nd n)).getD j ⟨#[]⟩) ∧ ((Tr.lsN (F.nd n)).getD j ⟨#[]⟩).toList ≠ s.toList) := Hid.intro (by
    rw [← hg]
    refine ⟨Tr.fk_ad_same hd hp, fun j hj => ?_⟩
    obtain ⟨q, hq, e⟩ := Tr.lsN_mem.1 (Tr.getD_mem (x := F.nd n) (i := j) (by rw [hl6]; exact hj))
    exact ⟨(Tr.fk_ad_old hd hp hq e).symm, by rw [← e]; exact hp.no q hq⟩)
  have EN : Hid (putL (Tr.lsN (F.nd n)) s = Tr.lsN (Tr.adN (F.nd n) s k) ∧ List.map g (putL (Tr.lsN (F.nd n)) s) = Tr.ksN (Tr.adN (F.nd n) s k)) := Hid.intro (by
    have e1 := (Tr.lsN_ad (F.nd n) s k).symm
    refine ⟨e1, ?_⟩
    rw [e1, ← hg]
    rfl)
  have K2 := Hid.intro k2
  obtain ⟨L, hL⟩ : ∃ L, Tr.lsN (F.nd n) = L := ⟨_, rfl⟩
  rw [hL] at CL0 LN EN GS
  have nI : (n : Int) < 40 := by omega
  clear h hp hd hl6 hl7 hm q6 q7 e6 e7 k6 k7 bl k2 hL hg
  go_enter Tryz.func78, Tryz.ntmps78
  go_wp2_with fail
  go_loopw [9, 10, 11, 12] (fun v1 v2 ld i wr => ∃ j : Nat, i = .int .i64 j ∧ ld = .bool (putK L s j).2 ∧ j ≤ m ∧ Hid (NK w (putK L s j).1 (List.map g (putK L s j).1) v1 v2 wr)) (fun _ _ _ i _ => m - (intOf i).toNat)
  case atStart => exact ⟨0, rfl, rfl, by omega, Hid.intro (NK.start w)⟩
  case round =>
    obtain ⟨j, rfl, rfl, hj, N⟩ := hrel
    have plen := putK_len L s j
    by_cases hlt : j < m
    · have hltI : (j : Int) < (m : Int) := by omega
      obtain ⟨g6, g7, ea, eb⟩ := AD.out (by omega)
      subst ea
      subst eb
      have CL : Hid (∀ W, Below w.heap.size w W → W.cell? ⟨b, n * 8 + 6, none⟩ = some (.slice (some ⟨g6, 0, none⟩) m c6) ∧ W.cell? ⟨b, n * 8 + 7, none⟩ = some (.slice (some ⟨g7, 0, none⟩) m c7) ∧ (∀ j, j < m → W.cell? ⟨g6, j, none⟩ = some (.string (L.getD j ⟨#[]⟩)) ∧ W.cell? ⟨g7, j, none⟩ = some (.int .i64 ((Tr.fk (F.nd n) (L.getD j ⟨#[]⟩).toList : Nat) : Int)))) := Hid.intro (fun W hW => by
        obtain ⟨p1, p2, p3⟩ := CL0.out W hW
        exact ⟨p1, p2, p3 g6 g7 rfl rfl⟩)
      obtain ⟨b6, b7, bc⟩ := CL.out wr N.out.s.bel
      obtain ⟨d6, d7⟩ := bc j hlt
      obtain ⟨gt, tne⟩ := GS.out.2 j hlt
      obtain ⟨t, ht⟩ : ∃ t, L.getD j ⟨#[]⟩ = t := ⟨_, rfl⟩
      rw [ht] at d6 d7 gt tne
      have HT := Hid.intro ht
      obtain ⟨fk, hfk⟩ : ∃ fk, Tr.fk (F.nd n) t.toList = fk := ⟨_, rfl⟩
      rw [hfk] at d7 gt
      have FK := Hid.intro hfk
      have GT : Hid (g t = fk) := Hid.intro gt.symm
      have tne : (t.toList == s.toList) = false := by simpa using tne
      obtain ⟨nn, hnn⟩ : ∃ nn, (putK L s j).1.length = nn := ⟨_, rfl⟩
      have nle : nn ≤ 9 := by rw [hnn] at plen; split at plen <;> omega
      have LL := Hid.intro hnn
      have LK : Hid ((List.map g (putK L s j).1).length = nn) := Hid.intro (by rw [List.length_map]; exact hnn)
      obtain ⟨⟨va, vc, hv1⟩, vb, vd, hv2⟩ := N.out.forms
      rw [LL.out] at hv1
      rw [LK.out] at hv2
      subst hv1
      subst hv2
      clear bc ht hfk gt hnn plen
      cases hld : (putK L s j).2
      · have LD := Hid.intro hld
        clear hld
        by_cases st : s.toList < t.toList
        · have SU2 : Hid (putK L s (j + 1) = ((putK L s j).1 ++ [s] ++ [t], true)) := Hid.intro (by show (if _ then _ else _) = _; rw [HT.out, if_pos ⟨LD.out, st⟩])
          have e1 : Op.bytesLess t.toList s.toList = false := by rw [bytesLess_lt]; exact decide_eq_false (fun h => absurd (List.lt_trans h st) (List.lt_irrefl _))
          clear st
          go_upto_region 8 with fail
          go_upto_region 9 with (at_builtin; refine wpList_append_lies _ rfl _ _ 28 (by rfl) w.heap.size 9 i0 (.string ⟨#[]⟩) 1 16 Tryz.underlying28 hi0 hz0 hz1 hz2 rfl (by decide) (.slice va nn vc) (nn) (stC (putK L s j).1) (by rfl) (by have := N.out.s.own; rw [LL.out] at this; exact this.alloc _) ⟨wr.heap.size, 0, none⟩ 1 1 [.string s] (by rfl) rfl (World.news_of_block (heap_alloc_new wr _)) (by simp [Value.oneCell']) (by decide) (by unfold maxLen; omega) (by omega) (by have := N.out.s.bel.size; simp; omega) (wr.heap.size + 1) (by simp) ?_; intro g1 x1 w2 hown hgrow hat hlt2; have Q1 := Hid.intro (N.out.addS s LL.out hown _ hgrow); clear hown hgrow hat hlt2)
          clear b6 b7 d6 d7
          go_upto_region 10 with (at_builtin; refine wpList_append_lies _ rfl _ _ 29 (by rfl) w.heap.size 3 i1 (.int .i64 0) 1 8 Tryz.underlying29 hi1 hy0 hy1 hy2 rfl (by decide) (.slice vb nn vd) (nn) (rowOf (List.map g (putK L s j).1)) (by rfl) (by have := Q1.out.k.own; rw [LK.out] at this; exact this.alloc _) ⟨w2.heap.size, 0, none⟩ 1 1 [.int .i64 (k : Int)] (by rfl) rfl (World.news_of_block (heap_alloc_new w2 _)) (by simp [Value.oneCell']) (by decide) (by unfold maxLen; omega) (by omega) (by have := Q1.out.s.bel.size; simp; omega) (w2.heap.size + 1) (by simp) ?_; intro g2 x2 w3 hown hgrow hat hlt2; have Q2 := Hid.intro (Q1.out.addK LK.out hown _ hgrow); clear hown hgrow hat hlt2)
          have LL2 : Hid (((putK L s j).1 ++ [s]).length = nn + 1) := Hid.intro (by rw [List.length_append, LL.out]; rfl)
          have LK2 : Hid ((List.map g (putK L s j).1 ++ [k]).length = nn + 1) := Hid.intro (by rw [List.length_append, LK.out]; rfl)
          obtain ⟨b6a, b7a, bca⟩ := CL.out w3 Q2.out.s.bel
          obtain ⟨d6a, d7a⟩ := bca j hlt
          rw [HT.out] at d6a d7a
          rw [FK.out] at d7a
          clear bca
          go_upto_region 11 with fail
          go_upto_region 12 with (at_builtin; refine wpList_append_lies _ rfl _ _ 28 (by rfl) w.heap.size 9 i0 (.string ⟨#[]⟩) 1 16 Tryz.underlying28 hi0 hz0 hz1 hz2 rfl (by decide) (.slice (some ⟨g1, 0, none⟩) (nn + 1) x1) (nn + 1) (stC ((putK L s j).1 ++ [s])) (by rfl) (by have := Q2.out.s.own; rw [LL2.out] at this; exact this.alloc _) ⟨w3.heap.size, 0, none⟩ 1 1 [.string t] (by rfl) rfl (World.news_of_block (heap_alloc_new w3 _)) (by simp [Value.oneCell']) (by decide) (by unfold maxLen; omega) (by omega) (by have := Q2.out.s.bel.size; simp; omega) (w3.heap.size + 1) (by simp) ?_; intro g3 x3 w4 hown hgrow hat hlt2; have Q3 := Hid.intro (Q2.out.addS t LL2.out hown _ hgrow); clear hown hgrow hat hlt2)
          clear b6a b7a d6a d7a
          obtain ⟨b6c, b7c, bcc⟩ := CL.out w4 Q3.out.s.bel
          obtain ⟨d6c, d7c⟩ := bcc j hlt
          rw [HT.out] at d6c d7c
          rw [FK.out] at d7c
          clear bcc
          go_wp2_with (at_builtin; refine wpList_append_lies _ rfl _ _ 29 (by rfl) w.heap.size 3 i1 (.int .i64 0) 1 8 Tryz.underlying29 hi1 hy0 hy1 hy2 rfl (by decide) (.slice (some ⟨g2, 0, none⟩) (nn + 1) x2) (nn + 1) (rowOf (List.map g (putK L s j).1 ++ [k])) (by rfl) (by have := Q3.out.k.own; rw [LK2.out] at this; exact this.alloc _) ⟨w4.heap.size, 0, none⟩ 1 1 [.int .i64 (fk : Int)] (by rfl) rfl (World.news_of_block (heap_alloc_new w4 _)) (by simp [Value.oneCell']) (by decide) (by unfold maxLen; omega) (by omega) (by have := Q3.out.s.bel.size; simp; omega) (w4.heap.size + 1) (by simp) ?_; intro g4 x4 w5 hown hgrow hat hlt2; have Q4 := Hid.intro (Q3.out.addK LK2.out hown _ hgrow); clear hown hgrow hat hlt2)
          go_roundw
          case rel => exact ⟨j + 1, by go_num, by rw [SU2.out], by omega, by rw [SU2.out]; simp only [List.map_append, List.map_cons, List.map_nil]; rw [GS.out.1, GT.out]; exact Q4⟩
          case measure => simp [intOf]; omega
        · have SU2 : Hid (putK L s (j + 1) = ((putK L s j).1 ++ [t], false)) := Hid.intro (by show (if _ then _ else _) = _; rw [HT.out, if_neg (fun h => st h.2), LD.out])
          have e1 : Op.bytesLess t.toList s.toList = true := by rw [bytesLess_lt]; exact decide_eq_true (Std.lt_of_le_of_ne (List.not_lt.1 st) (fun e => by rw [e] at tne; simp at tne))
          clear st
          go_upto_region 11 with fail
          go_upto_region 12 with (at_builtin; refine wpList_append_lies _ rfl _ _ 28 (by rfl) w.heap.size 9 i0 (.string ⟨#[]⟩) 1 16 Tryz.underlying28 hi0 hz0 hz1 hz2 rfl (by decide) (.slice va nn vc) (nn) (stC (putK L s j).1) (by rfl) (by have := N.out.s.own; rw [LL.out] at this; exact this.alloc _) ⟨wr.heap.size, 0, none⟩ 1 1 [.string t] (by rfl) rfl (World.news_of_block (heap_alloc_new wr _)) (by simp [Value.oneCell']) (by decide) (by unfold maxLen; omega) (by omega) (by have := N.out.s.bel.size; simp; omega) (wr.heap.size + 1) (by simp) ?_; intro g1 x1 w2 hown hgrow hat hlt2; have Q1 := Hid.intro (N.out.addS t LL.out hown _ hgrow); clear hown hgrow hat hlt2)
          clear b6 b7 d6 d7
          obtain ⟨b6a, b7a, bca⟩ := CL.out w2 Q1.out.s.bel
          obtain ⟨d6a, d7a⟩ := bca j hlt
          rw [HT.out] at d6a d7a
          rw [FK.out] at d7a
          clear bca
          go_wp2_with (at_builtin; refine wpList_append_lies _ rfl _ _ 29 (by rfl) w.heap.size 3 i1 (.int .i64 0) 1 8 Tryz.underlying29 hi1 hy0 hy1 hy2 rfl (by decide) (.slice vb nn vd) (nn) (rowOf (List.map g (putK L s j).1)) (by rfl) (by have := Q1.out.k.own; rw [LK.out] at this; exact this.alloc _) ⟨w2.heap.size, 0, none⟩ 1 1 [.int .i64 (fk : Int)] (by rfl) rfl (World.news_of_block (heap_alloc_new w2 _)) (by simp [Value.oneCell']) (by decide) (by unfold maxLen; omega) (by omega) (by have := Q1.out.s.bel.size; simp; omega) (w2.heap.size + 1) (by simp) ?_; intro g2 x2 w3 hown hgrow hat hlt2; have Q2 := Hid.intro (Q1.out.addK LK.out hown _ hgrow); clear hown hgrow hat hlt2)
          go_roundw
          case rel => exact ⟨j + 1, by go_num, by rw [SU2.out], by omega, by rw [SU2.out]; simp only [List.map_append, List.map_cons, List.map_nil]; rw [GT.out]; exact Q2⟩
          case measure => simp [intOf]; omega
      · have LD := Hid.intro hld
        clear hld
        have SU2 : Hid (putK L s (j + 1) = ((putK L s j).1 ++ [t], true)) := Hid.intro (by show (if _ then _ else _) = _; rw [HT.out, if_neg (fun h => absurd (LD.out.symm.trans h.1) (by decide)), LD.out])
        skip
        go_upto_region 11 with fail
        go_upto_region 12 with (at_builtin; refine wpList_append_lies _ rfl _ _ 28 (by rfl) w.heap.size 9 i0 (.string ⟨#[]⟩) 1 16 Tryz.underlying28 hi0 hz0 hz1 hz2 rfl (by decide) (.slice va nn vc) (nn) (stC (putK L s j).1) (by rfl) (by have := N.out.s.own; rw [LL.out] at this; exact this.alloc _) ⟨wr.heap.size, 0, none⟩ 1 1 [.string t] (by rfl) rfl (World.news_of_block (heap_alloc_new wr _)) (by simp [Value.oneCell']) (by decide) (by unfold maxLen; omega) (by omega) (by have := N.out.s.bel.size; simp; omega) (wr.heap.size + 1) (by simp) ?_; intro g1 x1 w2 hown hgrow hat hlt2; have Q1 := Hid.intro (N.out.addS t LL.out hown _ hgrow); clear hown hgrow hat hlt2)
        clear b6 b7 d6 d7
        obtain ⟨b6a, b7a, bca⟩ := CL.out w2 Q1.out.s.bel
        obtain ⟨d6a, d7a⟩ := bca j hlt
        rw [HT.out] at d6a d7a
        rw [FK.out] at d7a
        clear bca
        go_wp2_with (at_builtin; refine wpList_append_lies _ rfl _ _ 29 (by rfl) w.heap.size 3 i1 (.int .i64 0) 1 8 Tryz.underlying29 hi1 hy0 hy1 hy2 rfl (by decide) (.slice vb nn vd) (nn) (rowOf (List.map g (putK L s j).1)) (by rfl) (by have := Q1.out.k.own; rw [LK.out] at this; exact this.alloc _) ⟨w2.heap.size, 0, none⟩ 1 1 [.int .i64 (fk : Int)] (by rfl) rfl (World.news_of_block (heap_alloc_new w2 _)) (by simp [Value.oneCell']) (by decide) (by unfold maxLen; omega) (by omega) (by have := Q1.out.s.bel.size; simp; omega) (w2.heap.size + 1) (by simp) ?_; intro g2 x2 w3 hown hgrow hat hlt2; have Q2 := Hid.intro (Q1.out.addK LK.out hown _ hgrow); clear hown hgrow hat hlt2)
        go_roundw
        case rel => exact ⟨j + 1, by go_num, by rw [SU2.out], by omega, by rw [SU2.out]; simp only [List.map_append, List.map_cons, List.map_nil]; rw [GT.out]; exact Q2⟩
        case measure => simp [intOf]; omega
    · have hltI : ¬ (j : Int) < (m : Int) := by omega
      obtain rfl : j = m := by omega
      obtain ⟨nn, hnn⟩ : ∃ nn, (putK L s j).1.length = nn := ⟨_, rfl⟩
      have nle : nn ≤ 9 := by rw [hnn] at plen; split at plen <;> omega
      have LL := Hid.intro hnn
      have LK : Hid ((List.map g (putK L s j).1).length = nn) := Hid.intro (by rw [List.length_map]; exact hnn)
      obtain ⟨⟨va, vc, hv1⟩, vb, vd, hv2⟩ := N.out.forms
      rw [LL.out] at hv1
      rw [LK.out] at hv2
      subst hv1
      subst hv2
      obtain ⟨b6, b7, _⟩ := CL0.out wr N.out.s.bel
      have FIN : Hid (∀ W v1 v2, NK w (putL L s) (List.map g (putL L s)) v1 v2 W → (∃ R', FR B ((W.setCell ⟨b, n * 8 + 6, none⟩ v1).setCell ⟨b, n * 8 + 7, none⟩ v2) b (F.put n (Tr.adN (F.nd n) s k)) R' rv) ∧ Frm b w ((W.setCell ⟨b, n * 8 + 6, none⟩ v1).setCell ⟨b, n * 8 + 7, none⟩ v2)) := Hid.intro (fun W v1 v2 hk => by
        have := HF.out.lists hn K2.out (x := Tr.adN (F.nd n) s k) rfl rfl rfl rfl rfl (by rw [← EN.out.1, ← EN.out.2]; exact hk)
        exact ⟨⟨_, this.1⟩, this.2⟩)
      clear hnn plen EN
      cases hld : (putK L s j).2
      · have PL : Hid (putL L s = (putK L s j).1 ++ [s]) := Hid.intro (by unfold putL; rw [LN.out, if_pos hld])
        clear hld
        go_upto_region 14 with fail
        go_upto_region 15 with (at_builtin; refine wpList_append_lies _ rfl _ _ 28 (by rfl) w.heap.size 9 i0 (.string ⟨#[]⟩) 1 16 Tryz.underlying28 hi0 hz0 hz1 hz2 rfl (by decide) (.slice va nn vc) (nn) (stC (putK L s j).1) (by rfl) (by have := N.out.s.own; rw [LL.out] at this; exact this.alloc _) ⟨wr.heap.size, 0, none⟩ 1 1 [.string s] (by rfl) rfl (World.news_of_block (heap_alloc_new wr _)) (by simp [Value.oneCell']) (by decide) (by unfold maxLen; omega) (by omega) (by have := N.out.s.bel.size; simp; omega) (wr.heap.size + 1) (by simp) ?_; intro g1 x1 w2 hown hgrow hat hlt2; have Q1 := Hid.intro (N.out.addS s LL.out hown _ hgrow); clear hown hgrow hat hlt2)
        clear b6 b7
        go_upto_region 16 with (at_builtin; refine wpList_append_lies _ rfl _ _ 29 (by rfl) w.heap.size 3 i1 (.int .i64 0) 1 8 Tryz.underlying29 hi1 hy0 hy1 hy2 rfl (by decide) (.slice vb nn vd) (nn) (rowOf (List.map g (putK L s j).1)) (by rfl) (by have := Q1.out.k.own; rw [LK.out] at this; exact this.alloc _) ⟨w2.heap.size, 0, none⟩ 1 1 [.int .i64 (k : Int)] (by rfl) rfl (World.news_of_block (heap_alloc_new w2 _)) (by simp [Value.oneCell']) (by decide) (by unfold maxLen; omega) (by omega) (by have := Q1.out.s.bel.size; simp; omega) (w2.heap.size + 1) (by simp) ?_; intro g2 x2 w3 hown hgrow hat hlt2; have Q2 := Hid.intro (Q1.out.addK LK.out hown _ hgrow); clear hown hgrow hat hlt2)
        obtain ⟨b6', b7', _⟩ := CL0.out w3 Q2.out.s.bel
        have cf := (HF.out.below Q2.out.s.bel).rb.frozen
        have FIN2 := Hid.intro (FIN.out w3 _ _ (by rw [PL.out, List.map_append, List.map_cons, List.map_nil, GS.out.1]; exact Q2.out))
        go_wp2_with fail
        go_end0
        exact ⟨rfl, FIN2.out⟩
      · have PL : Hid (putL L s = (putK L s j).1) := Hid.intro (by unfold putL; rw [LN.out, if_neg (by rw [hld]; decide)])
        have cf := (HF.out.below N.out.s.bel).rb.frozen
        have FIN2 := Hid.intro (FIN.out wr _ _ (by rw [PL.out]; exact N.out))
        clear hld
        go_wp2_with fail
        go_end0
        exact ⟨rfl, FIN2.out⟩
end
end Go.Proofs.YthdadmbpnoofoaaGreatDoor

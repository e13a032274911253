/- The code's forest: forget, Link, below. -/
import Derived.Test.YtfgnhldnmbfnkabTg
namespace Go.Proofs.Ytfgnhldnmbfnkab
open Go.RowKit
open Tr (Fo Nd)

/-- The name at place i of a directory is gone: the last one takes its place. -/
def Tr.forN (x : Nd) (i : Nat) : Nd := { x with nam := upA (upA x.nam i (x.nam (x.size - 1))) (x.size - 1) ByteArray.empty, kid := upA (upA x.kid i (x.kid (x.size - 1))) (x.size - 1) 0, size := x.size - 1 }
set_option maxRecDepth 100000 in
set_option maxHeartbeats 2000000 in
theorem tforget_any (b n i : Nat) (s : ByteArray) (F : Fo) (w : World) (h : FAt w b F) (hn : n < 40) (hm8 : (F.nd n).size ≤ 8) (hp : Tr.PlcTo (F.nd n) s (i : Int)) :
    Calls Try.prog 111 #[.pointer (some ⟨b, n * 62, none⟩), .string s] w fun e w' => e = .returned (.tuple #[]) ∧ FAt w' b (F.put n (Tr.forN (F.nd n) i)) ∧ Frm b w w' := by
  have HF := Hid.intro h
  have hi : i < (F.nd n).size := by
    rcases hp with ⟨j, e, h1, _⟩ | ⟨e, _⟩
    · omega
    · omega
  have HP := Hid.intro hp
  obtain ⟨sz, hsz⟩ : ∃ sz, (F.nd n).size = sz := ⟨_, rfl⟩
  obtain ⟨l, hl⟩ : ∃ l, sz - 1 = l := ⟨_, rfl⟩
  have HSZ : Hid ((F.nd n).size = sz ∧ (F.nd n).size - 1 = l) := Hid.intro ⟨hsz, by omega⟩
  have hm : Hid ((F.nd n).size ≤ 8) := Hid.intro hm8
  rw [hsz] at hi hm8
  have iI : (i : Int) < (sz : Int) := by omega
  have lI : (l : Int) < (sz : Int) := by omega
  have hw : IntKind.i64.wrap ((sz : Int) - 1) = (l : Int) := (IntWalk.i64_in _ ⟨by omega, by omega⟩).trans (by omega)
  have l8 : l < 8 := by omega
  have i8 : i < 8 := by omega
  obtain ⟨sl, hsl⟩ : ∃ sl, (F.nd n).nam l = sl := ⟨_, rfl⟩
  obtain ⟨kl, hkl⟩ : ∃ kl, (F.nd n).kid l = kl := ⟨_, rfl⟩
  have HL : Hid ((F.nd n).nam l = sl ∧ (F.nd n).kid l = kl) := Hid.intro ⟨hsl, hkl⟩
  clear h hp hsz hi hl hm8 hsl hkl
  go_enter Try.func111, Try.ntmps111
  go_wp2_with fail
  refine (tentries_any b n F _ HF.out hn hm.out).mono ?_
  rintro e W1 ⟨rfl, k, hW⟩
  rw [HSZ.out.1]
  have S1 : Hid (FAt W1 b F ∧ Frm b w W1) := Hid.intro (by rw [hW]; exact ⟨HF.out.drewN _, (Frm.refl b w).drewN _⟩)
  clear hW
  have K0 : Hid (∀ W, FAt W b F → W.cell? ⟨b, n * 62 + 6 + l * 2, none⟩ = some (.string sl) ∧ W.cell? ⟨b, n * 62 + 6 + l * 2 + 1, none⟩ = some (.int .i64 (kl : Int))) := Hid.intro (fun W hW => by
    rw [← HL.out.1, ← HL.out.2]
    exact ⟨hW.cNam n l hn l8, hW.cKid n l hn l8⟩)
  have KS : Hid (∀ W, FAt W b F → ((W.setCell ⟨b, n * 62 + 6 + i * 2, none⟩ (.string sl)).setCell ⟨b, n * 62 + 6 + i * 2 + 1, none⟩ (.int .i64 (kl : Int))).cell? ⟨b, n * 62 + 6 + l * 2, none⟩ = some (.string sl) ∧ ((W.setCell ⟨b, n * 62 + 6 + i * 2, none⟩ (.string sl)).setCell ⟨b, n * 62 + 6 + i * 2 + 1, none⟩ (.int .i64 (kl : Int))).cell? ⟨b, n * 62 + 6 + l * 2 + 1, none⟩ = some (.int .i64 (kl : Int))) := Hid.intro (fun W hW => by
    have a := hW.ent n i kl sl hn i8
    have c1 := a.cNam n l hn l8
    have c2 := a.cKid n l hn l8
    rw [Tr.put_same] at c1 c2
    rw [c1, c2]
    show some (Value.string (upA (F.nd n).nam i sl l)) = _ ∧ some (Value.int .i64 ((upA (F.nd n).kid i kl l : Nat) : Int)) = _
    unfold upA
    rw [HL.out.1, HL.out.2, ite_self, ite_self]
    exact ⟨rfl, rfl⟩)
  have HC0 : Hid (∀ W, FAt W b F → (∃ v, W.cell? ⟨b, n * 62 + 6 + i * 2, none⟩ = some (.string v)) ∧ (∃ v : Nat, W.cell? ⟨b, n * 62 + 6 + i * 2 + 1, none⟩ = some (.int .i64 (v : Int)))) := Hid.intro (fun W hW => ⟨⟨_, hW.cNam n i hn i8⟩, ⟨_, hW.cKid n i hn i8⟩⟩)
  have K1 : Hid (W1.cell? ⟨b, n * 62 + 6 + l * 2, none⟩ = some (.string sl) ∧ W1.cell? ⟨b, n * 62 + 6 + l * 2 + 1, none⟩ = some (.int .i64 (kl : Int))) := Hid.intro (K0.out W1 S1.out.1)
  go_wp2_with fail
  go_region_held3 (fun w' => w'.cell? ⟨b, n * 62 + 6 + l * 2, none⟩ = some (.string sl) ∧ w'.cell? ⟨b, n * 62 + 6 + l * 2 + 1, none⟩ = some (.int .i64 (kl : Int))) (first | exact K1.out | exact K2.out | exact KS.out _ H2.out.1 | go_keep) ((go_at_call 117; refine (tplace_any b n s F _ S1.out.1.drew hn hm.out).mono ?_; rintro e w2 ⟨y, rfl, hp2, b2⟩; have hy := hp2.unique HP.out; subst hy; have H2 : Hid (FAt w2 b F ∧ Frm b w w2) := Hid.intro ⟨S1.out.1.drew.below b2, S1.out.2.drew.trans (Frm.of_below b2)⟩; have K2 : Hid (w2.cell? ⟨b, n * 62 + 6 + l * 2, none⟩ = some (.string sl) ∧ w2.cell? ⟨b, n * 62 + 6 + l * 2 + 1, none⟩ = some (.int .i64 (kl : Int))) := Hid.intro (K0.out w2 H2.out.1); obtain ⟨⟨v1, q1⟩, ⟨v2, q2⟩⟩ := HC0.out w2 H2.out.1; have qf := H2.out.1.frozen; clear b2 hp2))
  generalize hW3 : (w2.setCell ⟨b, n * 62 + 6 + i * 2, none⟩ (.string sl)).setCell ⟨b, n * 62 + 6 + i * 2 + 1, none⟩ (.int .i64 (kl : Int)) = W3
  have S3 : Hid (FAt W3 b (F.put n { F.nd n with nam := upA (F.nd n).nam i sl, kid := upA (F.nd n).kid i kl }) ∧ Frm b w W3) := Hid.intro (by
    rw [← hW3]
    exact ⟨H2.out.1.ent n i kl sl hn i8, (H2.out.2.setCell _ _).setCell _ _⟩)
  clear hW3 K0 K1 K2 KS HC0 q1 q2 qf H2 S1
  obtain ⟨⟨v1, q1⟩, ⟨v2, q2⟩⟩ : (∃ v, W3.cell? ⟨b, n * 62 + 6 + l * 2, none⟩ = some (.string v)) ∧ (∃ v : Nat, W3.cell? ⟨b, n * 62 + 6 + l * 2 + 1, none⟩ = some (.int .i64 (v : Int))) := ⟨⟨_, S3.out.1.cNam n l hn l8⟩, ⟨_, S3.out.1.cKid n l hn l8⟩⟩
  have qf := S3.out.1.frozen
  have S4 : Hid (FAt ((W3.setCell ⟨b, n * 62 + 6 + l * 2, none⟩ (.string ByteArray.empty)).setCell ⟨b, n * 62 + 6 + l * 2 + 1, none⟩ (.int .i64 0)) b (F.put n { F.nd n with nam := upA (upA (F.nd n).nam i sl) l ByteArray.empty, kid := upA (upA (F.nd n).kid i kl) l 0 }) ∧ Frm b w ((W3.setCell ⟨b, n * 62 + 6 + l * 2, none⟩ (.string ByteArray.empty)).setCell ⟨b, n * 62 + 6 + l * 2 + 1, none⟩ (.int .i64 0))) := Hid.intro (by
    have a := S3.out.1.ent n l 0 ByteArray.empty hn l8
    rw [Tr.put_same, Tr.put_put] at a
    exact ⟨a, (S3.out.2.setCell _ _).setCell _ _⟩)
  go_upto_region 4 with fail
  refine wp_gen (fun W => FAt W b (F.put n { F.nd n with nam := upA (upA (F.nd n).nam i sl) l ByteArray.empty, kid := upA (upA (F.nd n).kid i kl) l 0 }) ∧ Frm b w W) S4.out ?_
  intro W4 h4
  have S5 := Hid.intro h4
  clear h4 S4 S3 q1 q2 qf
  have c3 := S5.out.1.cSize n hn
  rw [Tr.put_same] at c3
  have c3' : W4.cell? ⟨b, n * 62 + 3, none⟩ = some (.int .i64 (sz : Int)) := by rw [c3]; show some (Value.int .i64 (((F.nd n).size : Nat) : Int)) = _; rw [HSZ.out.1]
  have cf := S5.out.1.frozen
  have FIN : Hid (FAt (W4.setCell ⟨b, n * 62 + 3, none⟩ (.int .i64 (l : Int))) b (F.put n (Tr.forN (F.nd n) i)) ∧ Frm b w (W4.setCell ⟨b, n * 62 + 3, none⟩ (.int .i64 (l : Int)))) := Hid.intro (by
    have a := S5.out.1.setSize n l hn
    rw [Tr.put_same, Tr.put_put] at a
    unfold Tr.forN
    rw [HSZ.out.2, HL.out.1, HL.out.2]
    exact ⟨a, S5.out.2.setCell _ _⟩)
  clear c3
  go_wp2_with fail
  go_end0
  exact ⟨rfl, FIN.out⟩
/-- One more name of a file. -/
def Tr.linF (F : Fo) (k n : Nat) (s : ByteArray) : Fo := Tr.leaF (F.put k { F.nd k with links := (F.nd k).links + 1 }) n s k
def Tr.LinTo (F : Fo) (y z : Int) (s : ByteArray) (E : Int) (G : Fo) : Prop :=
  (Tr.isE F y 1 ≠ 0 ∧ E = Tr.isE F y 1 ∧ G = F) ∨ (Tr.isE F y 1 = 0 ∧ ∃ e, Tr.WanTo F z s e ∧ ((e ≠ 0 ∧ E = e ∧ G = F) ∨ (e = 0 ∧ (((F.nd y.toNat).tree ≠ (F.nd z.toNat).tree ∧ E = 11 ∧ G = F) ∨ ((F.nd y.toNat).tree = (F.nd z.toNat).tree ∧ E = 0 ∧ G = Tr.linF F y.toNat z.toNat s)))))
set_option maxRecDepth 100000 in
set_option maxHeartbeats 2000000 in
theorem tlink_any (b : Nat) (y z : Int) (s : ByteArray) (F : Fo) (w : World) (h : FAt w b F) (hs : Tr.SzOk F) (hL : ∀ n, n < 40 → (F.nd n).kind ≠ 0 → (F.nd n).links < 2 ^ 60) :
    Calls Try.prog 45 #[.pointer (some ⟨b, 0, none⟩), .int .i64 y, .int .i64 z, .string s] w fun e w' => ∃ (E : Int) (G : Fo), e = .returned (errV E) ∧ Tr.LinTo F y z s E G ∧ FAt w' b G ∧ Frm b w w' := by
  have HF := Hid.intro (And.intro h hs)
  by_cases c : Tr.isE F y 1 = 0
  · obtain ⟨k, rfl, k40, kk0, kk1⟩ := Tr.isE_ok c
    have EP : Hid (Tr.isE F (k : Int) 1 = 0 ∧ ptrE b (k : Int) 0 = .pointer (some ⟨b, k * 62, none⟩)) := Hid.intro ⟨c, ptrE_ok b k⟩
    have HK1 := Hid.intro (And.intro kk1 (hL k k40 kk0))
    clear h hs c hL kk1 kk0
    go_enter Try.func45, Try.ntmps45
    go_wp2_with fail
    refine (tfile_any b k F _ HF.out.1).mono ?_
    rintro e w0 ⟨rfl, hw0⟩
    subst w0
    rw [EP.out.1, EP.out.2, errV_zero]
    go_wp2_with fail
    refine (twanted_any b z s F _ HF.out.1 HF.out.2).mono ?_
    rintro e w1 ⟨E, rfl, hw1, b1⟩
    have S1 : Hid (Tr.WanTo F z s E ∧ FAt w1 b F ∧ Frm b w w1) := Hid.intro ⟨hw1, HF.out.1.below b1, Frm.of_below b1⟩
    clear hw1 b1
    by_cases e0 : E = 0
    · subst e0
      obtain ⟨n, rfl, n40, k2, hnm, _, hsz⟩ := S1.out.1.ok
      have HN : Hid ((F.nd n).kind = 2 ∧ s.size ≤ 8 ∧ (F.nd n).size < 8) := Hid.intro ⟨k2, Tr.nameB_size hnm, by have := HF.out.2 n n40 k2; omega⟩
      have nk : n ≠ k := fun e => by have := HK1.out.1; rw [← e, k2] at this; exact absurd this (by decide)
      rw [ptrE_ok, errV_zero]
      clear k2 hnm hsz
      have c1 := S1.out.2.1.cTree k k40
      have c2 := S1.out.2.1.cTree n n40
      by_cases tt : (F.nd k).tree = (F.nd n).tree
      · have HT := Hid.intro tt
        rw [tt] at c1
        obtain ⟨tr, htr⟩ : ∃ tr, (F.nd n).tree = tr := ⟨_, rfl⟩
        rw [htr] at c1 c2
        obtain ⟨lk, hlk⟩ : ∃ lk, (F.nd k).links = lk := ⟨_, rfl⟩
        have c3 := S1.out.2.1.drew.cLinks k k40
        rw [hlk] at c3
        have c4 : w1.cell? ⟨b, k * 62 + 1, none⟩ = some (.int .i64 (lk : Int)) := c3
        have hb := HK1.out.2
        rw [hlk] at hb
        have hw : IntKind.i64.wrap ((lk : Int) + 1) = (lk : Int) + 1 := IntWalk.i64_in _ ⟨by omega, by omega⟩
        have cf := S1.out.2.1.frozen
        have S3 : Hid (∀ nq, FAt ((w1.drewN nq).setCell ⟨b, k * 62 + 1, none⟩ (.int .i64 ((lk : Int) + 1))) b (F.put k { F.nd k with links := lk + 1 }) ∧ Frm b w ((w1.drewN nq).setCell ⟨b, k * 62 + 1, none⟩ (.int .i64 ((lk : Int) + 1)))) := Hid.intro (fun nq => ⟨(S1.out.2.1.drewN nq).setLinks k (lk + 1) k40, (S1.out.2.2.drewN nq).setCell _ _⟩)
        have HMK : Hid (Tr.linF F k n s = Tr.leaF (F.put k { F.nd k with links := lk + 1 }) n s k) := Hid.intro (by unfold Tr.linF; rw [hlk])
        have TN : Hid ((F.put k { F.nd k with links := lk + 1 }).nd n = F.nd n) := Hid.intro (Tr.put_ne _ _ _ _ nk)
        clear htr hlk tt hb
        go_wp2_with fail
        go_quiet (fail)
        go_upto_region 10 with fail
        refine wp_gen (fun W => FAt W b (F.put k { F.nd k with links := lk + 1 }) ∧ Frm b w W) (S3.out _) ?_
        intro W4 h4
        have S4 := Hid.intro h4
        clear h4 S3 c1 c2 c3 c4 cf
        go_wp2_with fail
        refine (tlead_any b n k s _ _ S4.out.1 n40 k40 (by rw [TN.out]; exact HN.out.2.2) (Nat.le_trans HN.out.2.1 (by decide))).mono ?_
        rintro e W5 ⟨rfl, h5, f5⟩
        have S5 : Hid (FAt W5 b (Tr.linF F k n s) ∧ Frm b w W5) := Hid.intro ⟨by rw [HMK.out]; exact h5, S4.out.2.trans f5⟩
        clear h5 f5
        go_wp2_with fail
        go_ret
        exact ⟨0, _, rfl, .inr ⟨EP.out.1, 0, S1.out.1, .inr ⟨rfl, .inr ⟨HT.out, rfl, rfl⟩⟩⟩, S5.out⟩
      · have HT := Hid.intro tt
        generalize (F.nd k).tree = t1 at c1 tt
        generalize (F.nd n).tree = t2 at c2 tt
        have tI : ((t1 : Int) == (t2 : Int)) = false := by simp; omega
        have tI2 : ¬ (t1 : Int) = (t2 : Int) := by omega
        clear tt
        go_wp2_with fail
        go_quiet (fail)
        go_wp2_with fail
        go_ret
        exact ⟨11, F, rfl, .inr ⟨EP.out.1, 0, S1.out.1, .inr ⟨rfl, .inl ⟨HT.out, rfl, rfl⟩⟩⟩, S1.out.2.1.drewN _, S1.out.2.2.drewN _⟩
    · have E2 : Hid (errV E = .iface 128 (.int .i64 E) ∧ E ≠ 0) := Hid.intro ⟨errV_ne e0, e0⟩
      rw [E2.out.1]
      clear e0
      go_wp2_with fail
      go_ret
      exact ⟨E, F, by rw [E2.out.1]; rfl, .inr ⟨EP.out.1, E, S1.out.1, .inl ⟨E2.out.2, rfl, rfl⟩⟩, S1.out.2⟩
  · have E2 : Hid (ptrE b y (Tr.isE F y 1) = .pointer none ∧ errV (Tr.isE F y 1) = .iface 128 (.int .i64 (Tr.isE F y 1)) ∧ Tr.LinTo F y z s (Tr.isE F y 1) F) := Hid.intro ⟨ptrE_no c, errV_ne c, .inl ⟨c, rfl, rfl⟩⟩
    clear h c hs hL
    go_enter Try.func45, Try.ntmps45
    go_wp2_with fail
    refine (tfile_any b y F _ HF.out.1).mono ?_
    rintro e w1 ⟨rfl, hw⟩
    subst w1
    rw [E2.out.1, E2.out.2.1]
    go_wp2_with fail
    go_ret
    exact ⟨_, F, by rw [E2.out.2.1]; rfl, E2.out.2.2, HF.out.1, Frm.refl _ _⟩
end Go.Proofs.Ytfgnhldnmbfnkab

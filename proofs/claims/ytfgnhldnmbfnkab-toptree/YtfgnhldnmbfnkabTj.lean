/- The code's forest: Remove. -/
import Derived.Test.YtfgnhldnmbfnkabTi
namespace Go.Proofs.Ytfgnhldnmbfnkab
open Go.RowKit
open Tr (Fo Nd)

/-- The names of directories lead to nodes that count them. -/
def Tr.KidOk (F : Fo) : Prop := ∀ n, n < 40 → (F.nd n).kind = 2 → ∀ i, i < (F.nd n).size → (F.nd n).kid i < 40 ∧ 1 ≤ (F.nd ((F.nd n).kid i)).links ∧ (F.nd ((F.nd n).kid i)).links < 2 ^ 60
def Tr.remF (F : Fo) (n i k : Nat) : Fo :=
  Tr.swe ((F.put n (Tr.forN (F.nd n) i)).put k { (F.put n (Tr.forN (F.nd n) i)).nd k with links := (F.nd k).links - 1 }) k
def Tr.RemTo (F : Fo) (z : Int) (s : ByteArray) (E : Int) (G : Fo) : Prop :=
  ∃ K e, Tr.FndTo F z s K e ∧ ((e ≠ 0 ∧ E = e ∧ G = F) ∨ (e = 0 ∧ (((F.nd K).kind = 2 ∧ (0 < (F.nd K).size ∨ 0 < (F.nd K).held) ∧ E = 5 ∧ G = F) ∨ (¬ ((F.nd K).kind = 2 ∧ (0 < (F.nd K).size ∨ 0 < (F.nd K).held)) ∧ E = 0 ∧ ∃ i : Nat, Tr.PlcTo (F.nd z.toNat) s (i : Int) ∧ G = Tr.remF F z.toNat i K))))
theorem Tr.PlcTo.lt {x : Nd} {s : ByteArray} {i : Nat} (h : Tr.PlcTo x s (i : Int)) : i < x.size := by
  rcases h with ⟨j, e, h1, _⟩ | ⟨e, _⟩
  · omega
  · omega
theorem Tr.FndTo.ok {F : Fo} {z : Int} {s : ByteArray} {K : Nat} (h : Tr.FndTo F z s K 0) : ∃ n i : Nat, z = n ∧ n < 40 ∧ (F.nd n).kind = 2 ∧ Tr.PlcTo (F.nd n) s (i : Int) ∧ K = (F.nd n).kid i := by
  rcases h with ⟨h1, _, h2⟩ | ⟨h1, h2⟩
  · exact absurd h2.symm h1
  · obtain ⟨n, rfl, h3, _, h5⟩ := Tr.isE_ok h1
    rw [Int.toNat_natCast] at h2
    rcases h2 with ⟨i, h6, h7, _⟩ | ⟨_, _, h7⟩
    · exact ⟨n, i, rfl, h3, h5, h6, h7⟩
    · exact absurd h7 (by decide)
theorem Tr.for_links (F : Fo) (n i k : Nat) : ((F.put n (Tr.forN (F.nd n) i)).nd k).links = (F.nd k).links := by
  by_cases c : k = n
  · subst c; rw [Tr.put_same]; rfl
  · rw [Tr.put_ne _ _ _ _ c]
set_option maxRecDepth 100000 in
set_option maxHeartbeats 4000000 in
theorem tremove_any (b : Nat) (z : Int) (s : ByteArray) (F : Fo) (w : World) (h : FAt w b F) (hs : Tr.SzOk F) (hK : Tr.KidOk F) :
    Calls Try.prog 46 #[.pointer (some ⟨b, 0, none⟩), .int .i64 z, .string s] w fun e w' => ∃ (E : Int) (G : Fo), e = .returned (errV E) ∧ Tr.RemTo F z s E G ∧ FAt w' b G ∧ Frm b w w' := by
  have HF := Hid.intro (And.intro h hs)
  have HH := Hid.intro (And.intro True.intro hK)
  clear h hs hK
  go_enter Try.func46, Try.ntmps46
  go_wp2_with fail
  refine (tfind_any b z s F _ HF.out.1 HF.out.2).mono ?_
  rintro e w1 ⟨k, E, rfl, hw1, b1⟩
  have S1 : Hid (Tr.FndTo F z s k E ∧ FAt w1 b F ∧ Frm b w w1) := Hid.intro ⟨hw1, HF.out.1.below b1, Frm.of_below b1⟩
  clear hw1 b1
  by_cases e0 : E = 0
  · subst e0
    obtain ⟨n, i, rfl, n40, k2, hp, hk⟩ := S1.out.1.ok
    have k40 : k < 40 := by rw [hk]; exact (HH.out.2 n n40 k2 i hp.lt).1
    have l1 : 1 ≤ (F.nd k).links := by rw [hk]; exact (HH.out.2 n n40 k2 i hp.lt).2.1
    have l2 : (F.nd k).links < 2 ^ 60 := by rw [hk]; exact (HH.out.2 n n40 k2 i hp.lt).2.2
    have HN : Hid ((F.nd n).size ≤ 8 ∧ Tr.PlcTo (F.nd n) s (i : Int)) := Hid.intro ⟨HF.out.2 n n40 k2, hp⟩
    have nI : (n : Int) < 40 := by omega
    have kI : (k : Int) < 40 := by omega
    obtain ⟨lk, hlk⟩ : ∃ lk, (F.nd k).links = lk := ⟨_, rfl⟩
    have HLK := Hid.intro hlk
    rw [hlk] at l1 l2
    have hw : IntKind.i64.wrap ((lk : Int) - 1) = ((lk - 1 : Nat) : Int) := (IntWalk.i64_in _ ⟨by omega, by omega⟩).trans (by omega)
    rw [errV_zero]
    clear k2 hp hk hlk l1 l2
    have c0 := S1.out.2.1.cKind k k40
    have cs := S1.out.2.1.cSize k k40
    have ch := S1.out.2.1.cHeld k k40
    by_cases kk : (F.nd k).kind = 2
    · rw [kk] at c0
      have c0' : w1.cell? ⟨b, k * 62, none⟩ = some (.int .i64 2) := c0
      clear c0
      by_cases z0 : 0 < (F.nd k).size
      · have FIN : Hid (Tr.RemTo F (n : Int) s 5 F) := Hid.intro ⟨k, 0, S1.out.1, .inr ⟨rfl, .inl ⟨kk, .inl z0, rfl, rfl⟩⟩⟩
        generalize (F.nd k).size = zz at cs z0
        have zI : (0 : Int) < (zz : Int) := by omega
        clear kk ch
        go_wp2_with fail
        go_ret
        exact ⟨5, F, rfl, FIN.out, S1.out.2⟩
      · by_cases h0 : 0 < (F.nd k).held
        · have FIN : Hid (Tr.RemTo F (n : Int) s 5 F) := Hid.intro ⟨k, 0, S1.out.1, .inr ⟨rfl, .inl ⟨kk, .inr h0, rfl, rfl⟩⟩⟩
          rw [show (F.nd k).size = 0 by omega] at cs
          have cs' : w1.cell? ⟨b, k * 62 + 3, none⟩ = some (.int .i64 0) := cs
          generalize (F.nd k).held = zz at ch h0
          have zI : (0 : Int) < (zz : Int) := by omega
          clear kk cs z0
          go_wp2_with fail
          go_ret
          exact ⟨5, F, rfl, FIN.out, S1.out.2⟩
        · rw [show (F.nd k).size = 0 by omega] at cs
          have cs' : w1.cell? ⟨b, k * 62 + 3, none⟩ = some (.int .i64 0) := cs
          rw [show (F.nd k).held = 0 by omega] at ch
          have ch' : w1.cell? ⟨b, k * 62 + 2, none⟩ = some (.int .i64 0) := ch
          have NB : Hid (¬ ((F.nd k).kind = 2 ∧ (0 < (F.nd k).size ∨ 0 < (F.nd k).held))) := Hid.intro (by omega)
          clear kk cs ch z0 h0
          go_wp2_with fail
          refine (tforget_any b n i s F _ S1.out.2.1 n40 HN.out.1 HN.out.2).mono ?_
          rintro e w2 ⟨rfl, h2, f2⟩
          have S2 : Hid (FAt w2 b (F.put n (Tr.forN (F.nd n) i)) ∧ Frm b w w2) := Hid.intro ⟨h2, S1.out.2.2.trans f2⟩
          clear h2 f2 c0' cs' ch'
          have c5 := S2.out.1.cLinks k k40
          rw [Tr.for_links, HLK.out] at c5
          have cf := S2.out.1.frozen
          have S3 : Hid (FAt (w2.setCell ⟨b, k * 62 + 1, none⟩ (.int .i64 ((lk - 1 : Nat) : Int))) b ((F.put n (Tr.forN (F.nd n) i)).put k { (F.put n (Tr.forN (F.nd n) i)).nd k with links := lk - 1 }) ∧ Frm b w (w2.setCell ⟨b, k * 62 + 1, none⟩ (.int .i64 ((lk - 1 : Nat) : Int)))) := Hid.intro ⟨S2.out.1.setLinks k (lk - 1) k40, S2.out.2.setCell _ _⟩
          have HLZ : Hid ((F.nd k).links - 1 = lk - 1) := Hid.intro (by rw [HLK.out])
          generalize lk - 1 = lz at *
          go_wp2_with fail
          refine (tsweep_any b k _ _ S3.out.1 k40).mono ?_
          rintro e w4 ⟨rfl, h4, f4⟩
          have S4 : Hid (FAt w4 b (Tr.remF F n i k) ∧ Frm b w w4) := Hid.intro ⟨by unfold Tr.remF; rw [HLZ.out]; exact h4, S3.out.2.trans f4⟩
          clear h4 f4
          go_wp2_with fail
          go_ret
          exact ⟨0, _, rfl, ⟨k, 0, S1.out.1, .inr ⟨rfl, .inr ⟨NB.out, rfl, i, by rw [Int.toNat_natCast]; exact HN.out.2, by rw [Int.toNat_natCast]⟩⟩⟩, S4.out⟩
    · have NB : Hid (¬ ((F.nd k).kind = 2 ∧ (0 < (F.nd k).size ∨ 0 < (F.nd k).held))) := Hid.intro (by omega)
      generalize (F.nd k).kind = kz at c0 kk
      have kz1 : ((kz : Int) == 2) = false := by simp; omega
      have kz2 : ¬ (kz : Int) = 2 := by omega
      clear kk cs ch
      go_wp2_with fail
      refine (tforget_any b n i s F _ S1.out.2.1 n40 HN.out.1 HN.out.2).mono ?_
      rintro e w2 ⟨rfl, h2, f2⟩
      have S2 : Hid (FAt w2 b (F.put n (Tr.forN (F.nd n) i)) ∧ Frm b w w2) := Hid.intro ⟨h2, S1.out.2.2.trans f2⟩
      clear h2 f2 c0 kz1 kz2
      have c5 := S2.out.1.cLinks k k40
      rw [Tr.for_links, HLK.out] at c5
      have cf := S2.out.1.frozen
      have S3 : Hid (FAt (w2.setCell ⟨b, k * 62 + 1, none⟩ (.int .i64 ((lk - 1 : Nat) : Int))) b ((F.put n (Tr.forN (F.nd n) i)).put k { (F.put n (Tr.forN (F.nd n) i)).nd k with links := lk - 1 }) ∧ Frm b w (w2.setCell ⟨b, k * 62 + 1, none⟩ (.int .i64 ((lk - 1 : Nat) : Int)))) := Hid.intro ⟨S2.out.1.setLinks k (lk - 1) k40, S2.out.2.setCell _ _⟩
      have HLZ : Hid ((F.nd k).links - 1 = lk - 1) := Hid.intro (by rw [HLK.out])
      generalize lk - 1 = lz at *
      go_wp2_with fail
      refine (tsweep_any b k _ _ S3.out.1 k40).mono ?_
      rintro e w4 ⟨rfl, h4, f4⟩
      have S4 : Hid (FAt w4 b (Tr.remF F n i k) ∧ Frm b w w4) := Hid.intro ⟨by unfold Tr.remF; rw [HLZ.out]; exact h4, S3.out.2.trans f4⟩
      clear h4 f4
      go_wp2_with fail
      go_ret
      exact ⟨0, _, rfl, ⟨k, 0, S1.out.1, .inr ⟨rfl, .inr ⟨NB.out, rfl, i, by rw [Int.toNat_natCast]; exact HN.out.2, by rw [Int.toNat_natCast]⟩⟩⟩, S4.out⟩
  · have E2 : Hid (errV E = .iface 128 (.int .i64 E) ∧ E ≠ 0) := Hid.intro ⟨errV_ne e0, e0⟩
    rw [E2.out.1]
    clear e0
    go_wp2_with fail
    go_ret
    exact ⟨E, F, by rw [E2.out.1]; rfl, ⟨k, E, S1.out.1, .inl ⟨E2.out.2, rfl, rfl⟩⟩, S1.out.2⟩
end Go.Proofs.Ytfgnhldnmbfnkab

/- The code's forest: below. -/
import Derived.Test.YthdadmbpnoofoaaGreatDoorTf
namespace Go.Proofs.YthdadmbpnoofoaaGreatDoor
open Go.RowKit
open Tr (Fo Nd)

/-- Going up from a directory, m steps at most, one comes to its root. -/
def Tr.EndsF (F : Fo) : Nat → Nat → Prop
  | 0, n => n < 40 ∧ (F.nd n).up = n
  | m + 1, n => n < 40 ∧ ((F.nd n).up = n ∨ Tr.EndsF F m (F.nd n).up)
/-- Is o above n, or n itself? -/
def Tr.belB (F : Fo) (o : Nat) : Nat → Nat → Bool
  | 0, n => n == o
  | m + 1, n => n == o || (!((F.nd n).up == n) && Tr.belB F o m (F.nd n).up)
/-- How far the root is. -/
def Tr.farF (F : Fo) : Nat → Nat → Nat
  | 0, _ => 0
  | m + 1, n => if (F.nd n).up = n then 0 else 1 + Tr.farF F m (F.nd n).up
theorem Tr.EndsF.lt {F : Fo} {n m : Nat} (h : Tr.EndsF F m n) : n < 40 := by cases m <;> exact h.1
theorem Tr.EndsF.more {F : Fo} : ∀ {m n : Nat}, Tr.EndsF F m n → Tr.EndsF F (m + 1) n ∧ Tr.farF F (m + 1) n = Tr.farF F m n ∧ ∀ o, Tr.belB F o (m + 1) n = Tr.belB F o m n
  | 0, n, h => ⟨⟨h.1, .inl h.2⟩, if_pos h.2, fun o => by
      show (n == o || (!((F.nd n).up == n) && _)) = (n == o)
      rw [h.2]; simp⟩
  | m + 1, n, ⟨h1, h2⟩ => by
      by_cases c : (F.nd n).up = n
      · refine ⟨⟨h1, .inl c⟩, ?_, fun o => ?_⟩
        · unfold Tr.farF; rw [if_pos c, if_pos c]
        · unfold Tr.belB; simp [c]
      · rcases h2 with h2 | h2
        · exact absurd h2 c
        · obtain ⟨a1, a2, a3⟩ := Tr.EndsF.more h2
          refine ⟨⟨h1, .inr a1⟩, ?_, fun o => ?_⟩
          · show (if _ then 0 else 1 + Tr.farF F (m + 1) _) = (if _ then 0 else 1 + Tr.farF F m _)
            rw [a2]
          · show (n == o || (!((F.nd n).up == n) && Tr.belB F o (m + 1) (F.nd n).up)) = (n == o || (!((F.nd n).up == n) && Tr.belB F o m (F.nd n).up))
            rw [a3]
/-- One step up. -/
theorem Tr.EndsF.step {F : Fo} {m n : Nat} (h : Tr.EndsF F m n) (c : (F.nd n).up ≠ n) : Tr.EndsF F m (F.nd n).up ∧ Tr.farF F m (F.nd n).up < Tr.farF F m n ∧ ∀ o, n ≠ o → Tr.belB F o m n = Tr.belB F o m (F.nd n).up := by
  cases m with
  | zero => exact absurd h.2 c
  | succ m =>
    rcases h.2 with h2 | h2
    · exact absurd h2 c
    · obtain ⟨a1, a2, a3⟩ := h2.more
      refine ⟨a1, ?_, fun o ho => ?_⟩
      · rw [a2]
        show _ < (if _ then 0 else 1 + Tr.farF F m _)
        rw [if_neg c]; omega
      · rw [a3]
        show (n == o || (!((F.nd n).up == n) && Tr.belB F o m (F.nd n).up)) = _
        rw [show (n == o) = false from by simpa using ho, show ((F.nd n).up == n) = false from by simpa using c]
        rfl
theorem Tr.belB_same (F : Fo) (m n : Nat) : Tr.belB F n m n = true := by cases m <;> simp [Tr.belB]
theorem Tr.belB_root {F : Fo} (m : Nat) {n o : Nat} (c : (F.nd n).up = n) (h : n ≠ o) : Tr.belB F o m n = false := by cases m <;> simp [Tr.belB, c, h]
set_option maxRecDepth 100000 in
set_option maxHeartbeats 1000000 in
theorem tbelow_any (b n o m : Nat) (F : Fo) (w : World) (h : FAt w b F) (he : Tr.EndsF F m n) :
    Calls Tryz.prog 84 #[.pointer (some ⟨b, 0, none⟩), .int .i64 (n : Int), .int .i64 (o : Int)] w fun e w' => e = .returned (.bool (Tr.belB F o m n)) ∧ w' = w := by
  have HF := Hid.intro h
  have HE := Hid.intro he
  clear h he
  go_enter Tryz.func84, Tryz.ntmps84
  go_wp2_with fail
  go_loopw [1] (fun i wr => ∃ (y : Nat), i = .int .i64 y ∧ Hid (Tr.EndsF F m y ∧ Tr.belB F o m n = Tr.belB F o m y) ∧ wr = w) (fun i _ => Tr.farF F m (intOf i).toNat)
  case atStart => exact ⟨n, rfl, Hid.intro ⟨HE.out, rfl⟩, rfl⟩
  case round =>
    obtain ⟨y, rfl, R, hwr⟩ := hrel
    subst wr
    have y40 := R.out.1.lt
    have yI : (y : Int) < 40 := by omega
    by_cases c : y = o
    · subst c
      have FIN : Hid (Tr.belB F y m n = true) := Hid.intro (by rw [R.out.2]; exact Tr.belB_same F m y)
      go_wp2_with fail
      go_ret
      exact ⟨by rw [FIN.out]; simp, rfl⟩
    · have c1 : ((y : Int) == (o : Int)) = false := by simp; omega
      have c2 : ¬ (y : Int) = (o : Int) := by omega
      have c3 : ((y : Int) != (o : Int)) = true := by simp; omega
      have c0 := HF.out.cUp y y40
      by_cases d : (F.nd y).up = y
      · rw [d] at c0
        have FIN : Hid (Tr.belB F o m n = false) := Hid.intro (by rw [R.out.2]; exact Tr.belB_root m d c)
        clear d
        go_wp2_with fail
        go_ret
        exact ⟨by rw [FIN.out]; simp, rfl⟩
      · have NX := Hid.intro (R.out.1.step d)
        obtain ⟨u, hu⟩ : ∃ u, (F.nd y).up = u := ⟨_, rfl⟩
        rw [hu] at c0 NX d
        have d2 : ¬ (y : Int) = (u : Int) := by omega
        have d3 : ((y : Int) != (u : Int)) = true := by simp; omega
        clear hu d
        go_wp2_with fail
        go_roundw
        case rel => exact ⟨u, rfl, Hid.intro ⟨NX.out.1, R.out.2.trans (NX.out.2.2 o c)⟩, by first | rfl | trivial⟩
        case measure => simp [intOf]; exact NX.out.2.1
end Go.Proofs.YthdadmbpnoofoaaGreatDoor
/- The code's forest: Remove. -/
namespace Go.Proofs.YthdadmbpnoofoaaGreatDoor
open Go.RowKit
open Tr (Fo Nd)

/-- The names of directories lead to nodes that count them. -/
def Tr.KidOk (F : Fo) : Prop := ∀ n, n < 40 → (F.nd n).kind = 2 → ∀ i, i < (F.nd n).size → (F.nd n).kid i < 40 ∧ 1 ≤ (F.nd ((F.nd n).kid i)).links ∧ (F.nd ((F.nd n).kid i)).links < 2 ^ 60
def Tr.remF (F : Fo) (n i k : Nat) : Fo :=
  Tr.swe ((F.put n (Tr.forN (F.nd n) i)).put k { (F.put n (Tr.forN (F.nd n) i)).nd k with links := (F.nd k).links - 1 }) k
def Tr.RemTo (F : Fo) (z : Int) (s : ByteArray) (E : Int) (G : Fo) : Prop :=
  ∃ K e, Tr.FndTo F z s K e ∧ ((e ≠ 0 ∧ E = e ∧ G = F) ∨ (e = 0 ∧ (((F.nd K).kind = 2 ∧ (0 < (F.nd K).size ∨ 0 < (F.nd K).held) ∧ E = 5 ∧ G = F) ∨ (¬ ((F.nd K).kind = 2 ∧ (0 < (F.nd K).size ∨ 0 < (F.nd K).held)) ∧ E = 0 ∧ ∃ i : Nat, Tr.PlcTo (F.nd z.toNat) s (i : Int) ∧ G = Tr.remF F z.toNat i K))))
theorem Tr.PlcTo.lt {x : Nd} {s : ByteArray} {i : Nat} (h : Tr.PlcTo x s (i : Int)) : i < x.size := by
  rcases h with ⟨j, e, h1, _⟩ | ⟨e, _⟩
  · omega
  · omega
theorem Tr.FndTo.ok {F : Fo} {z : Int} {s : ByteArray} {K : Nat} (h : Tr.FndTo F z s K 0) : ∃ n i : Nat, z = n ∧ n < 40 ∧ (F.nd n).kind = 2 ∧ Tr.PlcTo (F.nd n) s (i : Int) ∧ K = (F.nd n).kid i := by
  rcases h with ⟨h1, _, h2⟩ | ⟨h1, h2⟩
  · exact absurd h2.symm h1
  · obtain ⟨n, rfl, h3, _, h5⟩ := Tr.isE_ok h1
    rw [Int.toNat_natCast] at h2
    rcases h2 with ⟨i, h6, h7, _⟩ | ⟨_, _, h7⟩
    · exact ⟨n, i, rfl, h3, h5, h6, h7⟩
    · exact absurd h7 (by decide)
theorem Tr.for_links (F : Fo) (n i k : Nat) : ((F.put n (Tr.forN (F.nd n) i)).nd k).links = (F.nd k).links := by
  by_cases c : k = n
  · subst c; rw [Tr.put_same]; rfl
  · rw [Tr.put_ne _ _ _ _ c]
set_option maxRecDepth 100000 in
set_option maxHeartbeats 4000000 in
theorem tremove_any (b : Nat) (z : Int) (s : ByteArray) (F : Fo) (w : World) (h : FAt w b F) (hs : Tr.SzOk F) (hK : Tr.KidOk F) :
    Calls Tryz.prog 33 #[.pointer (some ⟨b, 0, none⟩), .int .i64 z, .string s] w fun e w' => ∃ (E : Int) (G : Fo), e = .returned (errV E) ∧ Tr.RemTo F z s E G ∧ FAt w' b G ∧ Frm b w w' := by
  have HF := Hid.intro (And.intro h hs)
  have HH := Hid.intro (And.intro True.intro hK)
  clear h hs hK
  go_enter Tryz.func33, Tryz.ntmps33
  go_wp2_with fail
  refine (tfind_any b z s F _ HF.out.1 HF.out.2).mono ?_
  rintro e w1 ⟨k, E, rfl, hw1, b1⟩
  have S1 : Hid (Tr.FndTo F z s k E ∧ FAt w1 b F ∧ Frm b w w1) := Hid.intro ⟨hw1, HF.out.1.below b1, Frm.of_below b1⟩
  clear hw1 b1
  by_cases e0 : E = 0
  · subst e0
    obtain ⟨n, i, rfl, n40, k2, hp, hk⟩ := S1.out.1.ok
    have k40 : k < 40 := by rw [hk]; exact (HH.out.2 n n40 k2 i hp.lt).1
    have l1 : 1 ≤ (F.nd k).links := by rw [hk]; exact (HH.out.2 n n40 k2 i hp.lt).2.1
    have l2 : (F.nd k).links < 2 ^ 60 := by rw [hk]; exact (HH.out.2 n n40 k2 i hp.lt).2.2
    have HN : Hid ((F.nd n).size ≤ 8 ∧ Tr.PlcTo (F.nd n) s (i : Int)) := Hid.intro ⟨HF.out.2 n n40 k2, hp⟩
    have nI : (n : Int) < 40 := by omega
    have kI : (k : Int) < 40 := by omega
    obtain ⟨lk, hlk⟩ : ∃ lk, (F.nd k).links = lk := ⟨_, rfl⟩
    have HLK := Hid.intro hlk
    rw [hlk] at l1 l2
    have hw : IntKind.i64.wrap ((lk : Int) - 1) = ((lk - 1 : Nat) : Int) := (IntWalk.i64_in _ ⟨by omega, by omega⟩).trans (by omega)
    rw [errV_zero]
    clear k2 hp hk hlk l1 l2
    have c0 := S1.out.2.1.cKind k k40
    have cs := S1.out.2.1.cSize k k40
    have ch := S1.out.2.1.cHeld k k40
    by_cases kk : (F.nd k).kind = 2
    · rw [kk] at c0
      have c0' : w1.cell? ⟨b, k * 62, none⟩ = some (.int .i64 2) := c0
      clear c0
      by_cases z0 : 0 < (F.nd k).size
      · have FIN : Hid (Tr.RemTo F (n : Int) s 5 F) := Hid.intro ⟨k, 0, S1.out.1, .inr ⟨rfl, .inl ⟨kk, .inl z0, rfl, rfl⟩⟩⟩
        generalize (F.nd k).size = zz at cs z0
        have zI : (0 : Int) < (zz : Int) := by omega
        clear kk ch
        go_wp2_with fail
        go_ret
        exact ⟨5, F, rfl, FIN.out, S1.out.2⟩
      · by_cases h0 : 0 < (F.nd k).held
        · have FIN : Hid (Tr.RemTo F (n : Int) s 5 F) := Hid.intro ⟨k, 0, S1.out.1, .inr ⟨rfl, .inl ⟨kk, .inr h0, rfl, rfl⟩⟩⟩
          rw [show (F.nd k).size = 0 by omega] at cs
          have cs' : w1.cell? ⟨b, k * 62 + 3, none⟩ = some (.int .i64 0) := cs
          generalize (F.nd k).held = zz at ch h0
          have zI : (0 : Int) < (zz : Int) := by omega
          clear kk cs z0
          go_wp2_with fail
          go_ret
          exact ⟨5, F, rfl, FIN.out, S1.out.2⟩
        · rw [show (F.nd k).size = 0 by omega] at cs
          have cs' : w1.cell? ⟨b, k * 62 + 3, none⟩ = some (.int .i64 0) := cs
          rw [show (F.nd k).held = 0 by omega] at ch
          have ch' : w1.cell? ⟨b, k * 62 + 2, none⟩ = some (.int .i64 0) := ch
          have NB : Hid (¬ ((F.nd k).kind = 2 ∧ (0 < (F.nd k).size ∨ 0 < (F.nd k).held))) := Hid.intro (by omega)
          clear kk cs ch z0 h0
          go_wp2_with fail
          refine (tforget_any b n i s F _ S1.out.2.1 n40 HN.out.1 HN.out.2).mono ?_
          rintro e w2 ⟨rfl, h2, f2⟩
          have S2 : Hid (FAt w2 b (F.put n (Tr.forN (F.nd n) i)) ∧ Frm b w w2) := Hid.intro ⟨h2, S1.out.2.2.trans f2⟩
          clear h2 f2 c0' cs' ch'
          have c5 := S2.out.1.cLinks k k40
          rw [Tr.for_links, HLK.out] at c5
          have cf := S2.out.1.frozen
          have S3 : Hid (FAt (w2.setCell ⟨b, k * 62 + 1, none⟩ (.int .i64 ((lk - 1 : Nat) : Int))) b ((F.put n (Tr.forN (F.nd n) i)).put k { (F.put n (Tr.forN (F.nd n) i)).nd k with links := lk - 1 }) ∧ Frm b w (w2.setCell ⟨b, k * 62 + 1, none⟩ (.int .i64 ((lk - 1 : Nat) : Int)))) := Hid.intro ⟨S2.out.1.setLinks k (lk - 1) k40, S2.out.2.setCell _ _⟩
          have HLZ : Hid ((F.nd k).links - 1 = lk - 1) := Hid.intro (by rw [HLK.out])
          generalize lk - 1 = lz at *
          go_wp2_with fail
          refine (tsweep_any b k _ _ S3.out.1 k40).mono ?_
          rintro e w4 ⟨rfl, h4, f4⟩
          have S4 : Hid (FAt w4 b (Tr.remF F n i k) ∧ Frm b w w4) := Hid.intro ⟨by unfold Tr.remF; rw [HLZ.out]; exact h4, S3.out.2.trans f4⟩
          clear h4 f4
          go_wp2_with fail
          go_ret
          exact ⟨0, _, rfl, ⟨k, 0, S1.out.1, .inr ⟨rfl, .inr ⟨NB.out, rfl, i, by rw [Int.toNat_natCast]; exact HN.out.2, by rw [Int.toNat_natCast]⟩⟩⟩, S4.out⟩
    · have NB : Hid (¬ ((F.nd k).kind = 2 ∧ (0 < (F.nd k).size ∨ 0 < (F.nd k).held))) := Hid.intro (by omega)
      generalize (F.nd k).kind = kz at c0 kk
      have kz1 : ((kz : Int) == 2) = false := by simp; omega
      have kz2 : ¬ (kz : Int) = 2 := by omega
      clear kk cs ch
      go_wp2_with fail
      refine (tforget_any b n i s F _ S1.out.2.1 n40 HN.out.1 HN.out.2).mono ?_
      rintro e w2 ⟨rfl, h2, f2⟩
      have S2 : Hid (FAt w2 b (F.put n (Tr.forN (F.nd n) i)) ∧ Frm b w w2) := Hid.intro ⟨h2, S1.out.2.2.trans f2⟩
      clear h2 f2 c0 kz1 kz2
      have c5 := S2.out.1.cLinks k k40
      rw [Tr.for_links, HLK.out] at c5
      have cf := S2.out.1.frozen
      have S3 : Hid (FAt (w2.setCell ⟨b, k * 62 + 1, none⟩ (.int .i64 ((lk - 1 : Nat) : Int))) b ((F.put n (Tr.forN (F.nd n) i)).put k { (F.put n (Tr.forN (F.nd n) i)).nd k with links := lk - 1 }) ∧ Frm b w (w2.setCell ⟨b, k * 62 + 1, none⟩ (.int .i64 ((lk - 1 : Nat) : Int)))) := Hid.intro ⟨S2.out.1.setLinks k (lk - 1) k40, S2.out.2.setCell _ _⟩
      have HLZ : Hid ((F.nd k).links - 1 = lk - 1) := Hid.intro (by rw [HLK.out])
      generalize lk - 1 = lz at *
      go_wp2_with fail
      refine (tsweep_any b k _ _ S3.out.1 k40).mono ?_
      rintro e w4 ⟨rfl, h4, f4⟩
      have S4 : Hid (FAt w4 b (Tr.remF F n i k) ∧ Frm b w w4) := Hid.intro ⟨by unfold Tr.remF; rw [HLZ.out]; exact h4, S3.out.2.trans f4⟩
      clear h4 f4
      go_wp2_with fail
      go_ret
      exact ⟨0, _, rfl, ⟨k, 0, S1.out.1, .inr ⟨rfl, .inr ⟨NB.out, rfl, i, by rw [Int.toNat_natCast]; exact HN.out.2, by rw [Int.toNat_natCast]⟩⟩⟩, S4.out⟩
  · have E2 : Hid (errV E = .iface 83 (.int .i64 E) ∧ E ≠ 0) := Hid.intro ⟨errV_ne e0, e0⟩
    rw [E2.out.1]
    clear e0
    go_wp2_with fail
    go_ret
    exact ⟨E, F, by rw [E2.out.1]; rfl, ⟨k, E, S1.out.1, .inl ⟨E2.out.2, rfl, rfl⟩⟩, S1.out.2⟩
end Go.Proofs.YthdadmbpnoofoaaGreatDoor
/- The code's forest: Move. -/
namespace Go.Proofs.YthdadmbpnoofoaaGreatDoor
open Go.RowKit
open Tr (Fo Nd)

theorem FAt.range {w : World} {b : Nat} {F : Fo} (h : FAt w b F) (n : Nat) (hn : n < 40) : w.rangeAt b (n * 62) (nodeA (F.nd n)).toList := fun j v hv => by
  have hj : j < 62 := by have := (List.getElem?_eq_some_iff.1 hv).1; rwa [nodeA_len] at this
  rw [Array.getElem?_toList, nodeA_at _ j hj] at hv
  rw [← hv]; exact h.nd n j hn hj
section
variable {ops : Array Oper} {rest : List Oper} {x : Oper} {a : Act} {w : World} {Q : Exit → Act → World → Prop}
theorem wpList_alloc_nd (hgd : x.guard = none) (ho : x.op = .alloc 75) (h : wpList Tryz.prog ops Q rest (a.put x.dst (.pointer (some ⟨w.heap.size, 0, none⟩))) (w.alloc (.cells (nodeA Nd.no) 75))) : wpList Tryz.prog ops Q (x :: rest) a w :=
  wpList_plain hgd fun _ hK => by
    unfold Oper.wp execOp
    simp only [ho]
    simp [go_sem]
    exact hK _ _ h
end
theorem nd_there {w : World} {c : Nat} {A : Array Value} {T : TypeId} (x : Nd) (h : w.heap[c]? = some (.cells A T (0, 0))) (hA : A.size = 62) : w.there c 0 (nodeA x).size := fun j hj => by
  rw [nodeA_size] at hj
  exact ⟨by rw [cell_blk h]; simp [hA]; omega, frozen_blk h _⟩
theorem nd_copy {w : World} {c : Nat} {A : Array Value} {T : TypeId} (x : Nd) (h : w.heap[c]? = some (.cells A T (0, 0))) (hA : A.size = 62) : (w.setCells c 0 (nodeA x).toList).rangeAt c 0 (nodeA x).toList := fun j v hv => by
  have hj : j < 62 := by have := (List.getElem?_eq_some_iff.1 hv).1; rwa [nodeA_len] at this
  have := World.cell?_setCells_in c (nodeA x).toList 0 w (fun i hi => by
    rw [nodeA_len] at hi
    rw [cell_blk h]
    simp [hA]; exact hi) j (by rw [nodeA_len]; exact hj)
  rw [this, ← hv, List.getElem?_eq_getElem (by rw [nodeA_len]; exact hj)]
theorem rangeAt_same {w w' : World} {c : Nat} {L : List Value} (h : w.rangeAt c 0 L) (e : w'.heap[c]? = w.heap[c]?) : w'.rangeAt c 0 L := fun j v hv => (World.cell?_of_block e).trans (h j v hv)
theorem Tr.put_self (F : Fo) (n : Nat) : F.put n (F.nd n) = F := by
  unfold Fo.put
  have : (fun m => if m = n then F.nd n else F.nd m) = F.nd := by
    funext m
    by_cases c : m = n
    · rw [if_pos c, c]
    · rw [if_neg c]
  rw [this]
/-- The name of a node is moved. -/
def Tr.movF (F : Fo) (n i t k : Nat) (o : ByteArray) : Fo := Tr.leaF (F.put n (Tr.forN (F.nd n) i)) t o k
def Tr.MovTo (F : Fo) (z : Int) (s : ByteArray) (y : Int) (o : ByteArray) (E : Int) (G : Fo) : Prop :=
  ∃ K e, Tr.FndTo F z s K e ∧ ((e ≠ 0 ∧ E = e ∧ G = F) ∨ (e = 0 ∧ ((Tr.isE F y 2 ≠ 0 ∧ E = Tr.isE F y 2 ∧ G = F) ∨ (Tr.isE F y 2 = 0 ∧ (((F.nd z.toNat).tree ≠ (F.nd y.toNat).tree ∧ E = 11 ∧ G = F) ∨ ((F.nd z.toNat).tree = (F.nd y.toNat).tree ∧
    ((Tr.belB F K 40 y.toNat = true ∧ E = 5 ∧ G = F) ∨ (Tr.belB F K 40 y.toNat = false ∧ ∃ i : Nat, Tr.PlcTo (F.nd z.toNat) s (i : Int) ∧ ∃ e2, Tr.RefTo ((F.put z.toNat (Tr.forN (F.nd z.toNat) i)).nd y.toNat) o e2 ∧ ((e2 ≠ 0 ∧ E = e2 ∧ G = F) ∨ (e2 = 0 ∧ E = 0 ∧ G = Tr.movF F z.toNat i y.toNat K o))))))))))
theorem Tr.RefTo.ok {x : Nd} {s : ByteArray} (h : Tr.RefTo x s 0) : Tr.nameB s = true ∧ x.size ≠ 8 := by
  rcases h with ⟨_, h⟩ | ⟨h1, ⟨_, _, h⟩ | ⟨_, ⟨_, h⟩ | ⟨h2, _⟩⟩⟩
  · omega
  · omega
  · omega
  · exact ⟨h1, h2⟩
set_option maxRecDepth 100000 in
set_option maxHeartbeats 4000000 in
theorem tmove_any (b : Nat) (z : Int) (s : ByteArray) (y : Int) (o : ByteArray) (F : Fo) (w : World) (h : FAt w b F) (hs : Tr.SzOk F) (hK : Tr.KidOk F) (hE : ∀ n, n < 40 → (F.nd n).kind = 2 → Tr.EndsF F 40 n) :
    Calls Tryz.prog 35 #[.pointer (some ⟨b, 0, none⟩), .int .i64 z, .string s, .int .i64 y, .string o] w fun e w' => ∃ (E : Int) (G : Fo), e = .returned (errV E) ∧ Tr.MovTo F z s y o E G ∧ FAt w' b G ∧ Frm b w w' := by
  have HF := Hid.intro (And.intro h hs)
  have HH := Hid.intro (And.intro hE hK)
  clear h hs hE hK
  go_enter Tryz.func35, Tryz.ntmps35
  go_wp2_with fail
  refine (tfind_any b z s F _ HF.out.1 HF.out.2).mono ?_
  rintro e w1 ⟨k, E, rfl, hw1, b1⟩
  have S1 : Hid (Tr.FndTo F z s k E ∧ FAt w1 b F ∧ Frm b w w1) := Hid.intro ⟨hw1, HF.out.1.below b1, Frm.of_below b1⟩
  clear hw1 b1
  by_cases e0 : E = 0
  · subst e0
    obtain ⟨n, i, rfl, n40, k2, hp, hk⟩ := S1.out.1.ok
    have k40 : k < 40 := by rw [hk]; exact (HH.out.2 n n40 k2 i hp.lt).1
    have HN : Hid ((F.nd n).size ≤ 8 ∧ Tr.PlcTo (F.nd n) s (i : Int)) := Hid.intro ⟨HF.out.2 n n40 k2, hp⟩
    have nI : (n : Int) < 40 := by omega
    have kI : (k : Int) < 40 := by omega
    rw [errV_zero]
    clear k2 hp hk
    by_cases c : Tr.isE F y 2 = 0
    · obtain ⟨t, rfl, t40, _, t2⟩ := Tr.isE_ok c
      have EP : Hid (Tr.isE F (t : Int) 2 = 0 ∧ ptrE b (t : Int) 0 = .pointer (some ⟨b, t * 62, none⟩)) := Hid.intro ⟨c, ptrE_ok b t⟩
      have HEN : Hid (Tr.EndsF F 40 t ∧ (F.nd t).size ≤ 8) := Hid.intro ⟨HH.out.1 t t40 t2, HF.out.2 t t40 t2⟩
      clear c t2
      go_wp2_with fail
      refine (tdir_any b t F _ S1.out.2.1).mono ?_
      rintro e w0 ⟨rfl, hw0⟩
      subst w0
      rw [EP.out.1, EP.out.2, errV_zero]
      have c1 := S1.out.2.1.cTree n n40
      have c2 := S1.out.2.1.cTree t t40
      by_cases tt : (F.nd n).tree = (F.nd t).tree
      · have HT := Hid.intro tt
        rw [tt] at c1
        generalize (F.nd t).tree = tr at c1 c2
        clear tt
        go_wp2_with fail
        go_quiet (fail)
        go_upto_region 10 with fail
        refine wp_gen (fun W => FAt W b F ∧ Frm b w W) ⟨S1.out.2.1.drewN _, S1.out.2.2.drewN _⟩ ?_
        intro W2 h2
        have S2 := Hid.intro h2
        clear h2 c1 c2
        go_wp2_with fail
        refine (tbelow_any b t k 40 F _ S2.out.1 HEN.out.1).mono ?_
        rintro e w3 ⟨rfl, hw3⟩
        subst w3
        obtain ⟨bb, hbb⟩ : ∃ bb, Tr.belB F k 40 t = bb := ⟨_, rfl⟩
        have HBB := Hid.intro hbb
        rw [hbb]
        clear hbb
        cases bb
        · have N0 : Hid ((W2.alloc (.cells (nodeA Nd.no) 75)).heap[W2.heap.size]? = some (.cells (nodeA Nd.no) 75 (0, 0))) := Hid.intro (heap_alloc_new W2 _)
          have HR := Hid.intro (S2.out.1.range n n40)
          have TH := Hid.intro (nd_there (F.nd n) N0.out (nodeA_size _))
          have HS := Hid.intro (info_node (F.nd n))
          have H1 := Hid.intro (nodeA_one (F.nd n))
          have hlen : Hid ((Tryz.prog.info? 75).map (·.size) = some (nodeA (F.nd n)).toList.length) := Hid.intro (by rw [nodeA_len]; kernel_rfl)
          have S3 : Hid ((FAt ((W2.alloc (.cells (nodeA Nd.no) 75)).setCells W2.heap.size 0 (nodeA (F.nd n)).toList) b F ∧ Frm b w ((W2.alloc (.cells (nodeA Nd.no) 75)).setCells W2.heap.size 0 (nodeA (F.nd n)).toList)) ∧ ((W2.alloc (.cells (nodeA Nd.no) 75)).setCells W2.heap.size 0 (nodeA (F.nd n)).toList).rangeAt W2.heap.size 0 (nodeA (F.nd n)).toList ∧ W2.heap.size < ((W2.alloc (.cells (nodeA Nd.no) 75)).setCells W2.heap.size 0 (nodeA (F.nd n)).toList).heap.size ∧ W2.heap.size ≠ b) := Hid.intro (by
            have q : Below W2.heap.size W2 ((W2.alloc (.cells (nodeA Nd.no) 75)).setCells W2.heap.size 0 (nodeA (F.nd n)).toList) := (Frm.setCells _ _ (Frm.refl W2.heap.size _)).below ((Below.refl _ _).alloc (Nat.le_refl _) _) (Nat.le_refl _) (by simp)
            refine ⟨⟨S2.out.1.below q, S2.out.2.trans (Frm.of_below q)⟩, nd_copy _ N0.out (nodeA_size _), ?_, ?_⟩
            · have := (Frm.setCells (b := W2.heap.size) (nodeA (F.nd n)).toList 0 (Frm.refl W2.heap.size (W2.alloc (.cells (nodeA Nd.no) 75)))).size
              have e : (W2.alloc (.cells (nodeA Nd.no) 75)).heap.size = W2.heap.size + 1 := by simp
              omega
            · have := S2.out.1.lt; omega)
          obtain ⟨A, hA⟩ : ∃ A, nodeA (F.nd n) = A := ⟨_, rfl⟩
          have HA := Hid.intro hA
          rw [hA] at HR TH HS H1 S3 hlen
          clear hA
          go_upto_region 13 with (first | (refine wpList_load_mid rfl 75 _ rfl b (n * 62) rfl A.toList _ HR.out Tryz.underlying75 rfl hlen.out ?_; rw [Array.toArray_toList]) | (refine wpList_alloc_nd rfl rfl ?_) | (refine wpList_store_mid rfl 75 _ _ rfl W2.heap.size 0 A rfl rfl TH.out HS.out H1.out ?_))
          generalize hcc : W2.heap.size = cc at *
          refine wp_gen (fun W => (FAt W b F ∧ Frm b w W) ∧ W.rangeAt cc 0 A.toList ∧ cc < W.heap.size ∧ cc ≠ b) S3.out ?_
          intro W3 h3
          have S4 := Hid.intro h3
          clear h3 S3 N0 HR TH hcc
          go_wp2_with fail
          refine (tforget_any b n i s F _ S4.out.1.1 n40 HN.out.1 HN.out.2).mono ?_
          rintro e w4 ⟨rfl, h4, f4⟩
          obtain ⟨F1, hF1⟩ : ∃ F1, F.put n (Tr.forN (F.nd n) i) = F1 := ⟨_, rfl⟩
          have HF1 := Hid.intro hF1
          rw [hF1] at h4
          have z8 : Hid ((F1.nd t).size ≤ 8) := Hid.intro (by
            rw [← hF1]
            by_cases d : t = n
            · subst d; rw [Tr.put_same]; show (F.nd t).size - 1 ≤ 8; have := HEN.out.2; omega
            · rw [Tr.put_ne _ _ _ _ d]; exact HEN.out.2)
          have S5 : Hid ((FAt w4 b F1 ∧ Frm b w w4) ∧ w4.rangeAt cc 0 A.toList ∧ cc < w4.heap.size) := Hid.intro ⟨⟨h4, S4.out.1.2.trans f4⟩, rangeAt_same S4.out.2.1 (f4.block cc S4.out.2.2.1 S4.out.2.2.2), Nat.lt_of_lt_of_le S4.out.2.2.1 f4.size⟩
          clear h4 f4 hF1
          go_wp2_with fail
          refine (trefuses_any b t o F1 _ S5.out.1.1 t40 z8.out).mono ?_
          rintro e w5 ⟨E, rfl, hr, b5⟩
          have S6 : Hid ((FAt w5 b F1 ∧ Frm b w w5) ∧ w5.rangeAt cc 0 A.toList ∧ Tr.RefTo (F1.nd t) o E) := Hid.intro ⟨⟨S5.out.1.1.below b5, S5.out.1.2.trans (Frm.of_below b5)⟩, rangeAt_same S5.out.2.1 (b5.block cc S5.out.2.2), hr⟩
          clear hr b5
          by_cases f0 : E = 0
          · subst f0
            have HR2 := Hid.intro S6.out.2.2.ok
            have t8 : Hid ((F1.nd t).size < 8) := Hid.intro (by have := HR2.out.2; have := z8.out; omega)
            rw [errV_zero]
            go_wp2_with fail
            refine (tlead_any b t k o F1 _ S6.out.1.1 t40 k40 t8.out (Nat.le_trans (Tr.nameB_size HR2.out.1) (by decide))).mono ?_
            rintro e w6 ⟨rfl, h6, f6⟩
            have S7 : Hid (FAt w6 b (Tr.movF F n i t k o) ∧ Frm b w w6) := Hid.intro ⟨by unfold Tr.movF; rw [HF1.out]; exact h6, S6.out.1.2.trans f6⟩
            clear h6 f6
            go_wp2_with fail
            go_ret
            refine ⟨0, _, rfl, ⟨k, 0, S1.out.1, .inr ⟨rfl, .inr ⟨EP.out.1, .inr ?_⟩⟩⟩, S7.out⟩
            rw [Int.toNat_natCast, Int.toNat_natCast]
            exact ⟨HT.out, .inr ⟨HBB.out, i, HN.out.2, 0, by rw [HF1.out]; exact S6.out.2.2, .inr ⟨rfl, rfl, rfl⟩⟩⟩
          · have E2 : Hid (errV E = .iface 83 (.int .i64 E) ∧ E ≠ 0) := Hid.intro ⟨errV_ne f0, f0⟩
            have TH2 : Hid (w5.there b (n * 62) A.size) := Hid.intro (by rw [← HA.out]; exact S6.out.1.1.there n n40 (F.nd n))
            have S7 : Hid (FAt (w5.setCells b (n * 62) A.toList) b F ∧ Frm b w (w5.setCells b (n * 62) A.toList)) := Hid.intro (by
              have a := S6.out.1.1.setNode n n40 (F.nd n)
              rw [← HF1.out, Tr.put_put, Tr.put_self, HA.out] at a
              exact ⟨a, Frm.setCells _ _ S6.out.1.2⟩)
            rw [E2.out.1]
            clear f0
            go_wp2_with (first | (refine wpList_load_mid rfl 75 _ rfl cc 0 rfl A.toList _ S6.out.2.1 Tryz.underlying75 rfl hlen.out ?_; rw [Array.toArray_toList]) | (refine wpList_store_mid rfl 75 _ _ rfl b (n * 62) A rfl rfl TH2.out HS.out H1.out ?_))
            go_ret
            refine ⟨E, F, by rw [E2.out.1]; rfl, ⟨k, 0, S1.out.1, .inr ⟨rfl, .inr ⟨EP.out.1, .inr ?_⟩⟩⟩, S7.out⟩
            rw [Int.toNat_natCast, Int.toNat_natCast]
            exact ⟨HT.out, .inr ⟨HBB.out, i, HN.out.2, E, by rw [HF1.out]; exact S6.out.2.2, .inl ⟨E2.out.2, rfl, rfl⟩⟩⟩
        · go_wp2_with fail
          go_ret
          refine ⟨5, F, rfl, ⟨k, 0, S1.out.1, .inr ⟨rfl, .inr ⟨EP.out.1, .inr ?_⟩⟩⟩, S2.out⟩
          rw [Int.toNat_natCast, Int.toNat_natCast]
          exact ⟨HT.out, .inl ⟨HBB.out, rfl, rfl⟩⟩
      · have HT := Hid.intro tt
        generalize (F.nd n).tree = t1 at c1 tt
        generalize (F.nd t).tree = t2 at c2 tt
        have tI : ((t1 : Int) == (t2 : Int)) = false := by simp; omega
        have tI2 : ¬ (t1 : Int) = (t2 : Int) := by omega
        clear tt
        go_wp2_with fail
        go_quiet (fail)
        go_wp2_with fail
        go_ret
        refine ⟨11, F, rfl, ⟨k, 0, S1.out.1, .inr ⟨rfl, .inr ⟨EP.out.1, .inl ?_⟩⟩⟩, S1.out.2.1.drewN _, S1.out.2.2.drewN _⟩
        rw [Int.toNat_natCast, Int.toNat_natCast]
        exact ⟨HT.out, rfl, rfl⟩
    · have E2 : Hid (ptrE b y (Tr.isE F y 2) = .pointer none ∧ errV (Tr.isE F y 2) = .iface 83 (.int .i64 (Tr.isE F y 2)) ∧ Tr.isE F y 2 ≠ 0) := Hid.intro ⟨ptrE_no c, errV_ne c, c⟩
      clear c
      go_wp2_with fail
      refine (tdir_any b y F _ S1.out.2.1).mono ?_
      rintro e w0 ⟨rfl, hw0⟩
      subst w0
      rw [E2.out.1, E2.out.2.1]
      go_wp2_with fail
      go_ret
      exact ⟨_, F, by rw [E2.out.2.1]; rfl, ⟨k, 0, S1.out.1, .inr ⟨rfl, .inl ⟨E2.out.2.2, rfl, rfl⟩⟩⟩, S1.out.2⟩
  · have E2 : Hid (errV E = .iface 83 (.int .i64 E) ∧ E ≠ 0) := Hid.intro ⟨errV_ne e0, e0⟩
    rw [E2.out.1]
    clear e0
    go_wp2_with fail
    go_ret
    exact ⟨E, F, by rw [E2.out.1]; rfl, ⟨k, E, S1.out.1, .inl ⟨E2.out.2, rfl, rfl⟩⟩, S1.out.2⟩
end Go.Proofs.YthdadmbpnoofoaaGreatDoor
/- The code's forest: Of. -/
namespace Go.Proofs.YthdadmbpnoofoaaGreatDoor
open Go.RowKit
open Tr (Fo Nd)

/-- What is told of a node. -/
def ofA (F : Fo) (z : Int) : Array Value := if Tr.nodeE F z = 0 then #[.int .i64 ((F.nd z.toNat).kind : Int), .int .i64 ((F.nd z.toNat).links : Int), .int .i64 ((F.nd z.toNat).held : Int), .int .i64 ((F.nd z.toNat).size : Int)] else #[.int .i64 0, .int .i64 0, .int .i64 0, .int .i64 0]
set_option maxRecDepth 100000 in
set_option maxHeartbeats 1000000 in
theorem tof_any (b : Nat) (z : Int) (F : Fo) (w : World) (h : FAt w b F) :
    Calls Tryz.prog 62 #[.pointer (some ⟨b, 0, none⟩), .int .i64 z] w fun e w' => e = .returned (.tuple #[.agg (ofA F z), errV (Tr.nodeE F z)]) ∧ Below w.heap.size w w' := by
  have hlt := h.lt
  have hne : w.heap.size ≠ b := by omega
  have hne2 : b ≠ w.heap.size := by omega
  have HF : Hid (∀ o, FAt (w.alloc o) b F ∧ Below w.heap.size w (w.alloc o)) := Hid.intro (fun o => by
    have bb : Below w.heap.size w (w.alloc o) := (Below.refl _ _).alloc (Nat.le_refl _) _
    exact ⟨h.below bb, bb⟩)
  have HB : Hid (∀ W W', Below w.heap.size w W → Frm w.heap.size W W' → w.heap.size ≤ W.heap.size → Below w.heap.size w W') := Hid.intro (fun W W' h1 h2 h3 => h2.below h1 (Nat.le_refl _) h3)
  by_cases c : Tr.nodeE F z = 0
  · obtain ⟨n, rfl, n40, kk⟩ := Tr.nodeE_ok c
    have E : Hid (Tr.nodeE F (n : Int) = 0 ∧ ofA F (n : Int) = #[.int .i64 ((F.nd n).kind : Int), .int .i64 ((F.nd n).links : Int), .int .i64 ((F.nd n).held : Int), .int .i64 ((F.nd n).size : Int)] ∧ ptrE b (n : Int) 0 = .pointer (some ⟨b, n * 62, none⟩)) := Hid.intro ⟨c, by unfold ofA; rw [if_pos c, Int.toNat_natCast], ptrE_ok b n⟩
    clear h c kk
    go_enter Tryz.func62, Tryz.ntmps62
    go_wp2_with fail
    refine (tnode_any b n F _ (HF.out _).1).mono ?_
    rintro e w1 ⟨rfl, hw1⟩
    have S1 : Hid (FAt w1 b F ∧ Below w.heap.size w w1) := Hid.intro (by rw [hw1]; exact HF.out _)
    have N1 : w1.heap[w.heap.size]? = some (.cells #[.int .i64 0, .int .i64 0, .int .i64 0, .int .i64 0] 69 (0, 0)) := by rw [hw1]; exact heap_alloc_new w _
    clear hw1
    rw [E.out.1, E.out.2.2, errV_zero]
    have c1 := S1.out.1.cKind n n40
    have c2 := S1.out.1.cLinks n n40
    have c3 := S1.out.1.cHeld n n40
    have c4 := S1.out.1.cSize n n40
    have EO : Hid (ofA F (n : Int) = #[.int .i64 ((F.nd n).kind : Int), .int .i64 ((F.nd n).links : Int), .int .i64 ((F.nd n).held : Int), .int .i64 ((F.nd n).size : Int)]) := Hid.intro E.out.2.1
    generalize (F.nd n).kind = v1 at c1 EO
    generalize (F.nd n).links = v2 at c2 EO
    generalize (F.nd n).held = v3 at c3 EO
    generalize (F.nd n).size = v4 at c4 EO
    have hlt2 : Hid (w.heap.size < w1.heap.size) := Hid.intro (Array.getElem?_eq_some_iff.1 N1).1
    generalize hcc : w.heap.size = cc at *
    have x1 : w1.cell? ⟨cc, 0, none⟩ = some (.int .i64 0) := by rw [cell_blk N1]; rfl
    have x2 : w1.cell? ⟨cc, 1, none⟩ = some (.int .i64 0) := by rw [cell_blk N1]; rfl
    have x3 : w1.cell? ⟨cc, 2, none⟩ = some (.int .i64 0) := by rw [cell_blk N1]; rfl
    have x4 : w1.cell? ⟨cc, 3, none⟩ = some (.int .i64 0) := by rw [cell_blk N1]; rfl
    have xf : ∀ o, w1.frozen? ⟨cc, o, none⟩ = false := fun o => frozen_blk N1 o
    have S2 : Hid (((((w1.setCell ⟨cc, 0, none⟩ (.int .i64 (v1 : Int))).setCell ⟨cc, 1, none⟩ (.int .i64 (v2 : Int))).setCell ⟨cc, 2, none⟩ (.int .i64 (v3 : Int))).setCell ⟨cc, 3, none⟩ (.int .i64 (v4 : Int))).heap[cc]? = some (.cells #[.int .i64 (v1 : Int), .int .i64 (v2 : Int), .int .i64 (v3 : Int), .int .i64 (v4 : Int)] 69 (0, 0)) ∧ Below cc w ((((w1.setCell ⟨cc, 0, none⟩ (.int .i64 (v1 : Int))).setCell ⟨cc, 1, none⟩ (.int .i64 (v2 : Int))).setCell ⟨cc, 2, none⟩ (.int .i64 (v3 : Int))).setCell ⟨cc, 3, none⟩ (.int .i64 (v4 : Int)))) := Hid.intro
      ⟨blk_set (blk_set (blk_set (blk_set N1 0 _) 1 _) 2 _) 3 _, HB.out w1 _ S1.out.2 ((((((Frm.refl cc w1).setCell _ _).setCell _ _).setCell _ _).setCell _ _)) (Nat.le_of_lt hlt2.out)⟩
    clear N1
    go_wp2_with fail
    generalize hWF : (((w1.setCell ⟨cc, 0, none⟩ (.int .i64 (v1 : Int))).setCell ⟨cc, 1, none⟩ (.int .i64 (v2 : Int))).setCell ⟨cc, 2, none⟩ (.int .i64 (v3 : Int))).setCell ⟨cc, 3, none⟩ (.int .i64 (v4 : Int)) = WF at S2 ⊢
    have y1 : WF.cell? ⟨cc, 0, none⟩ = some (.int .i64 (v1 : Int)) := by rw [cell_blk S2.out.1]; rfl
    have y2 : WF.cell? ⟨cc, 1, none⟩ = some (.int .i64 (v2 : Int)) := by rw [cell_blk S2.out.1]; rfl
    have y3 : WF.cell? ⟨cc, 2, none⟩ = some (.int .i64 (v3 : Int)) := by rw [cell_blk S2.out.1]; rfl
    have y4 : WF.cell? ⟨cc, 3, none⟩ = some (.int .i64 (v4 : Int)) := by rw [cell_blk S2.out.1]; rfl
    refine bodyPost_ret (v := .tuple #[.agg #[.int .i64 (v1 : Int), .int .i64 (v2 : Int), .int .i64 (v3 : Int), .int .i64 (v4 : Int)], .nilIface]) (by simp [results, Tryz.f62, go_sem, y1, y2, y3, y4]) rfl ?_
    rw [EO.out, E.out.1]
    subst hcc
    exact ⟨rfl, S2.out.2⟩
  · have E : Hid (ofA F z = #[.int .i64 0, .int .i64 0, .int .i64 0, .int .i64 0] ∧ ptrE b z (Tr.nodeE F z) = .pointer none ∧ errV (Tr.nodeE F z) = .iface 83 (.int .i64 (Tr.nodeE F z))) := Hid.intro ⟨by unfold ofA; rw [if_neg c], ptrE_no c, errV_ne c⟩
    clear h c
    go_enter Tryz.func62, Tryz.ntmps62
    go_wp2_with fail
    refine (tnode_any b z F _ (HF.out _).1).mono ?_
    rintro e w1 ⟨rfl, hw1⟩
    have S1 : Hid (FAt w1 b F ∧ Below w.heap.size w w1) := Hid.intro (by rw [hw1]; exact HF.out _)
    have N1 : w1.heap[w.heap.size]? = some (.cells #[.int .i64 0, .int .i64 0, .int .i64 0, .int .i64 0] 69 (0, 0)) := by rw [hw1]; exact heap_alloc_new w _
    clear hw1
    rw [E.out.2.1, E.out.2.2]
    have hlt2 : Hid (w.heap.size < w1.heap.size) := Hid.intro (Array.getElem?_eq_some_iff.1 N1).1
    generalize hcc : w.heap.size = cc at *
    have x1 : w1.cell? ⟨cc, 0, none⟩ = some (.int .i64 0) := by rw [cell_blk N1]; rfl
    have x2 : w1.cell? ⟨cc, 1, none⟩ = some (.int .i64 0) := by rw [cell_blk N1]; rfl
    have x3 : w1.cell? ⟨cc, 2, none⟩ = some (.int .i64 0) := by rw [cell_blk N1]; rfl
    have x4 : w1.cell? ⟨cc, 3, none⟩ = some (.int .i64 0) := by rw [cell_blk N1]; rfl
    have xf : ∀ o, w1.frozen? ⟨cc, o, none⟩ = false := fun o => frozen_blk N1 o
    have S2 : Hid (((((w1.setCell ⟨cc, 0, none⟩ (.int .i64 0)).setCell ⟨cc, 1, none⟩ (.int .i64 0)).setCell ⟨cc, 2, none⟩ (.int .i64 0)).setCell ⟨cc, 3, none⟩ (.int .i64 0)).heap[cc]? = some (.cells #[.int .i64 0, .int .i64 0, .int .i64 0, .int .i64 0] 69 (0, 0)) ∧ Below cc w ((((w1.setCell ⟨cc, 0, none⟩ (.int .i64 0)).setCell ⟨cc, 1, none⟩ (.int .i64 0)).setCell ⟨cc, 2, none⟩ (.int .i64 0)).setCell ⟨cc, 3, none⟩ (.int .i64 0))) := Hid.intro
      ⟨blk_set (blk_set (blk_set (blk_set N1 0 _) 1 _) 2 _) 3 _, HB.out w1 _ S1.out.2 ((((((Frm.refl cc w1).setCell _ _).setCell _ _).setCell _ _).setCell _ _)) (Nat.le_of_lt hlt2.out)⟩
    clear N1
    go_wp2_with fail
    generalize hWF : (((w1.setCell ⟨cc, 0, none⟩ (.int .i64 0)).setCell ⟨cc, 1, none⟩ (.int .i64 0)).setCell ⟨cc, 2, none⟩ (.int .i64 0)).setCell ⟨cc, 3, none⟩ (.int .i64 0) = WF at S2 ⊢
    have y1 : WF.cell? ⟨cc, 0, none⟩ = some (.int .i64 0) := by rw [cell_blk S2.out.1]; rfl
    have y2 : WF.cell? ⟨cc, 1, none⟩ = some (.int .i64 0) := by rw [cell_blk S2.out.1]; rfl
    have y3 : WF.cell? ⟨cc, 2, none⟩ = some (.int .i64 0) := by rw [cell_blk S2.out.1]; rfl
    have y4 : WF.cell? ⟨cc, 3, none⟩ = some (.int .i64 0) := by rw [cell_blk S2.out.1]; rfl
    refine bodyPost_ret (v := .tuple #[.agg #[.int .i64 0, .int .i64 0, .int .i64 0, .int .i64 0], .iface 83 (.int .i64 (Tr.nodeE F z))]) (by simp [results, Tryz.f62, go_sem, y1, y2, y3, y4]) rfl ?_
    rw [E.out.1, E.out.2.2]
    subst hcc
    exact ⟨rfl, S2.out.2⟩
end Go.Proofs.YthdadmbpnoofoaaGreatDoor

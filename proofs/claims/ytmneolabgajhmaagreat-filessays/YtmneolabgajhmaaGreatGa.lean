/- FilesSays: both sides, in step; what stays true. -/
import Derived.Test.YtmneolabgajhmaaGreatOb
import Derived.Test.YtmneolabgajhmaaGreatZa
import Derived.Test.YtmneolabgajhmaaGreatRi
namespace Go.Proofs.YtmneolabgajhmaaGreat
open Go.RowKit
open Fx (Fi)
open Tr (Fo Nd RN)
open Pp (Pi)

theorem FR.tri {t b p c : Nat} {B : Bs} {W W' : World} {F : Fo} {R : Nat → RN} {rv : Value} (h : FR B W c F R rv) (f : Tri t b p W W') (ht : B.av t) (hp : B.av p) (hb : b < B.base) (h1 : t ≠ c) (h2 : b ≠ c) (h3 : p ≠ c) : FR B W' c F R rv := by
  refine h.kept f.size (f.block c h.rb.lt (Ne.symm h1) (Ne.symm h2) (Ne.symm h3)) (fun g hg hl => f.block g hl (fun e => hg.2.2.2 (by rw [e]; exact ht)) (fun e => by have := hg.1; omega) (fun e => hg.2.2.2 (by rw [e]; exact hp))) ?_
  refine ⟨h.own.1, ?_⟩
  rcases h.own.2 with hn | ⟨g, cap, cur, e, hg, hgg, rest⟩
  · exact .inl hn
  · refine .inr ⟨g, cap, cur, e, hg, ?_, rest⟩
    have ob : rv.ownBlock = some g := by rw [e]; rfl
    rw [f.block g (Array.getElem?_eq_some_iff.1 hgg).1 (fun d => h.ra g ob (by rw [d]; exact ht)) (by omega) (fun d => h.ra g ob (by rw [d]; exact hp))]
    exact hgg
/-- Only these six blocks have turned, of those that were there. -/
structure Six (t b p m c q : Nat) (w w' : World) : Prop where
  os : w'.os = w.os
  tape : w'.tape = w.tape
  output : w'.output = w.output
  size : w.heap.size ≤ w'.heap.size
  block : ∀ k, k < w.heap.size → k ≠ t → k ≠ b → k ≠ p → k ≠ m → k ≠ c → k ≠ q → w'.heap[k]? = w.heap[k]?
section
variable {t b p m c q : Nat} {u v w : World}
theorem Six.refl (t b p m c q : Nat) (w : World) : Six t b p m c q w w := ⟨rfl, rfl, rfl, Nat.le_refl _, fun _ _ _ _ _ _ _ _ => rfl⟩
theorem Six.trans (h : Six t b p m c q u v) (k : Six t b p m c q v w) : Six t b p m c q u w := ⟨k.os.trans h.os, k.tape.trans h.tape, k.output.trans h.output, Nat.le_trans h.size k.size, fun j hj h1 h2 h3 h4 h5 h6 => (k.block j (Nat.lt_of_lt_of_le hj h.size) h1 h2 h3 h4 h5 h6).trans (h.block j hj h1 h2 h3 h4 h5 h6)⟩
theorem Six.code (h : Tri t b p v w) : Six t b p m c q v w := ⟨h.os, h.tape, h.output, h.size, fun j hj h1 h2 h3 _ _ _ => h.block j hj h1 h2 h3⟩
theorem Six.ref (h : Tri m c q v w) : Six t b p m c q v w := ⟨h.os, h.tape, h.output, h.size, fun j hj _ _ _ h1 h2 h3 => h.block j hj h1 h2 h3⟩
theorem Six.below (h : Below v.heap.size v w) : Six t b p m c q v w := ⟨h.os, h.tape, h.output, h.size, fun j hj _ _ _ _ _ _ => h.block j hj⟩
theorem Six.behind {s : World} {N : Nat} (h : Six t b p m c q u v) (k : Below N s u) (h1 : N ≤ t) (h2 : N ≤ b) (h3 : N ≤ p) (h4 : N ≤ m) (h5 : N ≤ c) (h6 : N ≤ q) (hs : N ≤ u.heap.size) : Below N s v := k.trans ⟨h.os, h.tape, h.output, h.size, fun j hj => h.block j (by omega) (by omega) (by omega) (by omega) (by omega) (by omega) (by omega)⟩
end
/-- Where all of it lies. -/
structure Lo (t b p m c q : Nat) (B : Bs) : Prop where
  at' : B.av t
  ap : B.av p
  bb : b < B.base
  tm : t ≠ m
  tc : t ≠ c
  tq : t ≠ q
  bm : b ≠ m
  bc : b ≠ c
  bq : b ≠ q
  pm : p ≠ m
  pc : p ≠ c
  pq : p ≠ q
def GY (w W : World) (t b p m c q : Nat) (B : Bs) (T : Nat → Fi) (F : Fo) (S : Nat → Pi) (T' : Nat → Fi) (F' : Fo) (S' : Nat → Pi) : Prop := Six t b p m c q w W ∧ FX W t b p T F S ∧ RX W m c q B T' F' S' ∧ Lo t b p m c q B
section
variable {w W W' : World} {t b p m c q : Nat} {B : Bs} {T T' T1 : Nat → Fi} {F F' F1 : Fo} {S S' S1 : Nat → Pi}
theorem GY.code (h : GY w W t b p m c q B T F S T' F' S') (k : FX W' t b p T1 F1 S1) (f : Tri t b p W W') : GY w W' t b p m c q B T1 F1 S1 T' F' S' := by
  have l := h.2.2.2
  obtain ⟨R, rv, hr⟩ := h.2.2.1.2.1
  refine ⟨h.1.trans (Six.code f), k, ⟨h.2.2.1.1.same (f.block m h.2.2.1.1.lt (Ne.symm l.tm) (Ne.symm l.bm) (Ne.symm l.pm)), ⟨R, rv, hr.tri f l.at' l.ap l.bb l.tc l.bc l.pc⟩, h.2.2.1.2.2.1.same (f.block q h.2.2.1.2.2.1.lt (Ne.symm l.tq) (Ne.symm l.bq) (Ne.symm l.pq)), h.2.2.1.2.2.2⟩, l⟩
theorem GY.ref (h : GY w W t b p m c q B T F S T' F' S') (k : RX W' m c q B T1 F1 S1) (f : Tri m c q W W') : GY w W' t b p m c q B T F S T1 F1 S1 := by
  have l := h.2.2.2
  exact ⟨h.1.trans (Six.ref f), ⟨h.2.1.1.same (f.block t h.2.1.1.lt l.tm l.tc l.tq), h.2.1.2.1.same (f.block b h.2.1.2.1.lt l.bm l.bc l.bq), h.2.1.2.2.1.same (f.block p h.2.1.2.2.1.lt l.pm l.pc l.pq), h.2.1.2.2.2⟩, k, l⟩
theorem GY.below (h : GY w W t b p m c q B T F S T' F' S') (f : Below W.heap.size W W') : GY w W' t b p m c q B T F S T' F' S' := ⟨h.1.trans (Six.below f), h.2.1.below f, h.2.2.1.below f, h.2.2.2⟩
theorem GY.size (h : GY w W t b p m c q B T F S T' F' S') : t < W.heap.size ∧ b < W.heap.size ∧ p < W.heap.size ∧ m < W.heap.size ∧ c < W.heap.size ∧ q < W.heap.size := by
  obtain ⟨R, rv, hr⟩ := h.2.2.1.2.1
  exact ⟨h.2.1.1.lt, h.2.1.2.1.lt, h.2.1.2.2.1.lt, h.2.2.1.1.lt, hr.rb.lt, h.2.2.1.2.2.1.lt⟩
end
/-- What stays true, k acts on. -/
structure WJ (k : Nat) (T : Nat → Fi) (F : Fo) (S : Nat → Pi) : Prop where
  wi : WI T F S
  ok : Tr.Ok F
  zb : Tr.Zb F
  pi : Pp.PI k S
  rf : ∀ n, n < 24 → (T n).refs ≤ k
section
variable {k : Nat} {T : Nat → Fi} {F : Fo} {S : Nat → Pi}
theorem WJ.hb (h : WJ k T F S) : Tr.Hb F 24 := fun n hn => by rw [h.wi.hl n hn]; exact Fx.cK_le T 1 n 24
theorem WJ.pf (h : WJ k T F S) : PF 24 F := ⟨h.ok, h.hb, h.zb⟩
theorem WJ.rr (h : WJ k T F S) (hk : k < 1000) : ∀ n, n < 24 → (T n).refs < 2 ^ 60 := fun n hn => by have := h.rf n hn; omega
theorem WJ.links (h : WJ k T F S) : ∀ n, n < 40 → (F.nd n).kind ≠ 0 → (F.nd n).links < 2 ^ 60 := fun n hn h0 => by have := h.ok.links_lt n hn h0; omega
theorem WJ.put (h : WJ k T F S) {n : Nat} {x : Fi} (hx : x.refs ≤ k + 1) : ∀ a, a < 24 → (Fx.put T n x a).refs ≤ k + 1 := fun a ha => by
  by_cases e : a = n
  · subst e; rw [Fx.put_same]; exact hx
  · rw [Fx.put_ne _ _ _ _ e]; have := h.rf a ha; omega
theorem WJ.up (h : WJ k T F S) : ∀ a, a < 24 → (T a).refs ≤ k + 1 := fun a ha => by have := h.rf a ha; omega
theorem WJ.node (h : WJ k T F S) {z E : Int} {wr : Bool} {K : Nat} {T' : Nat → Fi} {F' : Fo} (hm : Fx.NodTo T F z wr K E T' F') : WJ (k + 1) T' F' S := by
  rcases hm with ⟨_, _, _, rfl, rfl⟩ | ⟨_, _, _, _, rfl, rfl⟩ | ⟨a, _, d, _, rfl, rfl⟩
  · exact ⟨h.wi, h.ok, h.zb, h.pi.up, h.up⟩
  · exact ⟨h.wi, h.ok, h.zb, h.pi.up, h.up⟩
  · obtain ⟨n, rfl, _, _, _⟩ := Tr.isE_ok a
    rw [Int.toNat_natCast]
    exact ⟨h.wi.node d a, h.ok.hol _, h.zb.hol _, h.pi.up, h.put (by show 1 ≤ k + 1; omega)⟩
theorem WJ.pipe (h : WJ k T F S) {A C : Nat} {E : Int} {T' : Nat → Fi} {S' : Nat → Pi} (hm : Fx.PipTo T S A C E T' S') : WJ (k + 1) T' F S' := by
  rcases hm with ⟨_, _, _, _, rfl, rfl⟩ | ⟨_, n, e, hf, ⟨_, _, _, _, rfl, rfl⟩ | ⟨rfl, _, a, d, rfl, rfl⟩⟩
  · exact ⟨h.wi, h.ok, h.zb, h.pi.up, h.up⟩
  · exact ⟨h.wi, h.ok, h.zb, h.pi.up, h.up⟩
  · refine ⟨h.wi.pipe hf a d, h.ok, h.zb, h.pi.mak, fun x hx => ?_⟩
    by_cases e : x = C
    · subst e; rw [Fx.put_same]; show 1 ≤ k + 1; omega
    · rw [Fx.put_ne _ _ _ _ e]; exact h.put (by show 1 ≤ k + 1; omega) x hx
theorem WJ.sha (h : WJ k T F S) (z : Int) : WJ (k + 1) (Fx.shaT T z) F S := by
  unfold Fx.shaT
  split
  · rename_i d
    obtain ⟨n, rfl, n24, r0⟩ := Fx.filE_ok d
    rw [Int.toNat_natCast]
    have := h.rf n n24
    exact ⟨h.wi.turn n24 r0 _ (Nat.succ_ne_zero _) rfl rfl (h.wi.ps n n24), h.ok, h.zb, h.pi.up, h.put (by show (T n).refs + 1 ≤ k + 1; omega)⟩
  · exact ⟨h.wi, h.ok, h.zb, h.pi.up, h.up⟩
theorem WJ.clo (h : WJ k T F S) (z : Int) : WJ (k + 1) (Fx.cloT T z) (Fx.cloF T F z) (Fx.cloS T S z) := by
  by_cases d : Fx.filE T z = 0
  · obtain ⟨n, rfl, n24, r0⟩ := Fx.filE_ok d
    have := h.rf n n24
    unfold Fx.cloT Fx.cloF Fx.cloS
    rw [if_pos d, Int.toNat_natCast]
    by_cases r1 : (T n).refs = 1
    · rw [if_pos r1, if_pos ⟨d, r1⟩, if_pos ⟨d, r1⟩]
      refine ⟨h.wi.gone n24 r0, ?_, ?_, ?_, h.put (Nat.zero_le _)⟩
      · unfold Fx.leF; split
        · exact h.ok.letT _
        · exact h.ok
      · unfold Fx.leF; split
        · exact h.zb.letT _
        · exact h.zb
      · unfold Fx.leS; split
        · exact h.pi.up
        · exact h.pi.dro _ _
    · rw [if_neg r1, if_neg (fun e => r1 e.2), if_neg (fun e => r1 e.2)]
      exact ⟨h.wi.turn n24 r0 _ (by show (T n).refs - 1 ≠ 0; omega) rfl rfl (h.wi.ps n n24), h.ok, h.zb, h.pi.up, h.put (by show (T n).refs - 1 ≤ k + 1; omega)⟩
  · have e1 : Fx.cloT T z = T := if_neg d
    have e2 : Fx.cloF T F z = F := if_neg (fun e => d e.1)
    have e3 : Fx.cloS T S z = S := if_neg (fun e => d e.1)
    rw [e1, e2, e3]
    exact ⟨h.wi, h.ok, h.zb, h.pi.up, h.up⟩
theorem WJ.see (h : WJ k T F S) (z a : Int) : WJ (k + 1) (Fx.seeT T z a) F S := by
  unfold Fx.seeT
  split
  · rename_i e
    unfold Fx.seeE at e
    by_cases d : Fx.filE T z = 0
    · rw [if_neg (fun x => x d)] at e
      by_cases k1 : (T z.toNat).kind ≠ 1
      · rw [if_pos k1] at e; exact absurd e (by decide)
      · rw [if_neg k1] at e
        by_cases g : a < 0 ∨ 40 < a
        · rw [if_pos g] at e; exact absurd e (by decide)
        · obtain ⟨n, rfl, n24, r0⟩ := Fx.filE_ok d
          rw [Int.toNat_natCast]
          exact ⟨h.wi.turn n24 r0 _ r0 rfl rfl (by show a.toNat ≤ 40; omega), h.ok, h.zb, h.pi.up, h.put (h.up n n24)⟩
    · rw [if_pos d] at e; exact absurd e d
  · exact ⟨h.wi, h.ok, h.zb, h.pi.up, h.up⟩
theorem Tr.reaS_pos {F : Fo} (h : Tr.FzOk F) (z m : Int) (a : Nat) (ha : a ≤ 40) : a + (Tr.reaS F z (a : Int) m).size ≤ 40 := by
  unfold Tr.reaS
  split
  · rename_i d
    have i0 : Tr.isE F z 1 = 0 := by
      unfold Tr.reaE at d
      by_cases e : Tr.isE F z 1 ≠ 0
      · rw [if_pos e] at d; exact absurd d e
      · omega
    obtain ⟨n, rfl, n40, _, k1⟩ := Tr.isE_ok i0
    have z40 := h n n40 k1
    rw [Int.toNat_natCast, Int.toNat_natCast, Tr.rdS_size]
    omega
  · exact ha
theorem WJ.rea (h : WJ k T F S) (z m : Int) : WJ (k + 1) (Fx.reaT T F z m) F (Fx.reaP T S z m) := by
  have a : WI (Fx.reaT T F z m) F S ∧ ∀ a, a < 24 → (Fx.reaT T F z m a).refs ≤ k + 1 := by
    unfold Fx.reaT
    split
    · rename_i e
      obtain ⟨n, rfl, n24, r0⟩ := Fx.filE_ok e.1
      rw [Int.toNat_natCast]
      exact ⟨h.wi.turn n24 r0 _ r0 rfl rfl (Tr.reaS_pos h.ok.fz _ _ _ (h.wi.ps n n24)), h.put (h.up n n24)⟩
    · exact ⟨h.wi, h.up⟩
  unfold Fx.reaP
  split
  · exact ⟨a.1.rea _ _, h.ok, h.zb, h.pi.rea _ _, a.2⟩
  · exact ⟨a.1, h.ok, h.zb, h.pi.up, a.2⟩
theorem WJ.wri (h : WJ k T F S) (z : Int) (s : ByteArray) : WJ (k + 1) (Fx.wriT T F z s) (Fx.wriF T F z s) (Fx.wriP T S z s) := by
  have a : WI (Fx.wriT T F z s) F S ∧ ∀ a, a < 24 → (Fx.wriT T F z s a).refs ≤ k + 1 := by
    unfold Fx.wriT
    split
    · rename_i e
      obtain ⟨n, rfl, n24, r0⟩ := Fx.filE_ok e.1.1
      have e2 := e.2
      rw [Int.toNat_natCast] at e2 ⊢
      refine ⟨h.wi.turn n24 r0 _ r0 rfl rfl ?_, h.put (h.up n n24)⟩
      show (T n).pos + s.size ≤ 40
      unfold Tr.wriE at e2
      by_cases g : Tr.isE F ((T n).num : Int) 1 ≠ 0
      · rw [if_pos g] at e2; exact absurd e2 g
      · rw [if_neg g, if_neg (by omega)] at e2
        by_cases g2 : 40 - (s.size : Int) < ((T n).pos : Int)
        · rw [if_pos g2] at e2; exact absurd e2 (by decide)
        · omega
    · exact ⟨h.wi, h.up⟩
  have b : WI (Fx.wriT T F z s) (Fx.wriF T F z s) S ∧ Tr.Ok (Fx.wriF T F z s) ∧ Tr.Zb (Fx.wriF T F z s) := by
    unfold Fx.wriF
    split
    · exact ⟨a.1.wri _ _ _, h.ok.wri _ _ _, h.zb.wri _ _ _⟩
    · exact ⟨a.1, h.ok, h.zb⟩
  unfold Fx.wriP
  split
  · exact ⟨b.1.pwri _ _, b.2.1, b.2.2, h.pi.wri _ _, a.2⟩
  · exact ⟨b.1, b.2.1, b.2.2, h.pi.up, a.2⟩
end
/-- What an act on both answers and leaves. -/
def OP (w : World) (t b p m c q : Nat) (B : Bs) (k : Nat) (e : Ending) (W : World) : Prop := e = .returned (.bool true) ∧ ∃ T F S, GY w W t b p m c q B T F S T F S ∧ WJ (k + 1) T F S
end Go.Proofs.YtmneolabgajhmaaGreat

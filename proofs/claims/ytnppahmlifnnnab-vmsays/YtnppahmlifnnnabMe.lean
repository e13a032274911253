/- The document's own bank: take, drop. -/
import Derived.Test.YtnppahmlifnnnabMd
namespace Go.Proofs.Ytnppahmlifnnnab
open Go.RowKit
open Bd (P)
open Mv (Bk)

theorem TakeTo0_lt {p p' : P} {e : Int} {f : Nat} (h : Bd.TakeTo p 0 e f p') : f < 64 := by
  rcases h with ⟨_, _, rfl, _⟩ | ⟨_, _, _, rfl, _⟩ | ⟨_, h, _, _⟩
  · decide
  · decide
  · exact h.lt

set_option maxRecDepth 100000 in
set_option maxHeartbeats 1000000 in
theorem ntake_any (r q : Nat) (k : Bk) (w : World) (h : NAt w r q k) (hI : Bd.Inv k.pool) (hN : Bd.NB k.pool 64) :
    Calls Try.prog 147 #[.pointer (some ⟨r, 0, none⟩)] w fun e w' => ∃ (f : Nat) (E : Int) (k' : Bk), e = .returned (.tuple #[.int .i64 f, .int .i64 E]) ∧ Mv.TakK k E f k' ∧ NAt w' r q k' ∧ Two r q w w' := by
  have HF := Hid.intro h
  have HI := Hid.intro (And.intro hI hN)
  have c0 := h.cP
  clear h hI hN
  go_enter Try.func147, Try.ntmps147
  go_wp2_with fail
  refine (ktake_any q 0 k.pool _ HF.out.pool HI.out.1 HI.out.2).mono ?_
  rintro e w1 ⟨f, E, p', rfl, ht, kp, F⟩
  have hf := TakeTo0_lt ht
  have h1 : Hid (NAt w1 r q { k with pool := p' }) := Hid.intro (HF.out.withPool F kp)
  have HT := Hid.intro (And.intro ht F)
  by_cases e0 : E = 0
  · subst e0
    have fI : (f : Int) < 64 := by omega
    have c1 := h1.out.cRefs f hf
    have cf := h1.out.frozen
    have S1 : Hid (NAt (w1.setCell ⟨r, 513 + f, none⟩ (.int .i64 1)) r q { k with pool := p', refs := fun g => if g = f then 1 else k.refs g }) := Hid.intro (h1.out.setRefs f 1 hf)
    have hs0 : Hid ((Try.prog.info? 46).map (·.size) = some (by8 (fun _ => 0)).size) := Hid.intro (by kernel_rfl)
    have h1c : Hid ((by8 (fun _ => 0)).all (·.oneCell') = true) := Hid.intro (by8_one _)
    have TH : Hid ((w1.setCell ⟨r, 513 + f, none⟩ (.int .i64 1)).there r (1 + f * 8) (by8 (fun _ => 0)).size) := Hid.intro (fun j hj => S1.out.there f hf j hj)
    clear ht kp F
    go_wp2_with (first | (refine wpList_store_mid rfl 46 _ _ rfl r (1 + f * 8) (by8 (fun _ => 0)) rfl rfl TH.out hs0.out h1c.out ?_; generalize hW : World.setCells _ _ _ _ = W2; have S2 : Hid (NAt W2 r q (Mv.clr k p' f) ∧ Frm r w1 W2) := Hid.intro (by rw [← hW]; exact ⟨S1.out.setRow f hf (fun _ => 0), Frm.setCells _ _ ((Frm.refl r w1).setCell _ _)⟩); clear hW))
    go_ret2
    exact ⟨f, 0, _, rfl, ⟨p', HT.out.1, by rw [if_pos rfl]⟩, S2.out.1, ((Two.refl r q w).right HT.out.2).left S2.out.2⟩
  · have e0' : (E == 0) = false := by simpa using e0
    clear ht kp F
    go_wp2_with fail
    go_ret2
    exact ⟨f, E, _, rfl, ⟨p', HT.out.1, by rw [if_neg e0]⟩, h1.out, (Two.refl r q w).right HT.out.2⟩

set_option maxRecDepth 100000 in
set_option maxHeartbeats 1000000 in
theorem ndrop_any (r q f : Nat) (k : Bk) (w : World) (h : NAt w r q k) (hf : f < 64) (hI : Bd.Inv k.pool) (h1 : 1 ≤ k.refs f) (h2 : k.refs f < 2 ^ 60) :
    Calls Try.prog 125 #[.pointer (some ⟨r, 0, none⟩), .int .i64 f] w fun e w' => e = .returned (.tuple #[]) ∧ NAt w' r q (Mv.drp k f) ∧ Two r q w w' := by
  have HI := Hid.intro hI
  have c1 := h.cRefs f hf
  have cf := h.frozen
  have fI : (f : Int) < 64 := by omega
  obtain ⟨n, hn⟩ : ∃ n, k.refs f = n + 1 := ⟨k.refs f - 1, by omega⟩
  have S1 : Hid (NAt ((w.setCell ⟨r, 513 + f, none⟩ (.int .i64 (n : Int))).drew) r q { k with refs := fun g => if g = f then n else k.refs g } ∧ Two r q w ((w.setCell ⟨r, 513 + f, none⟩ (.int .i64 (n : Int))).drew)) := Hid.intro ⟨(h.setRefs f n hf).drew, ((Two.refl r q w).left ((Frm.refl r w).setCell _ _)).drew⟩
  have HD : Hid (Mv.drp k f = { k with refs := fun g => if g = f then n else k.refs g, pool := if n = 0 then Bd.giveT k.pool f else k.pool }) := Hid.intro (by
    unfold Mv.drp
    rw [hn, show n + 1 - 1 = n from rfl]
    cases n <;> rfl)
  rw [hn] at c1 h2
  have hw : IntKind.i64.wrap (((n + 1 : Nat) : Int) - 1) = (n : Int) := by rw [IntWalk.i64_in _ ⟨by omega, by omega⟩]; omega
  clear h hI h1 hn
  go_enter Try.func125, Try.ntmps125
  go_wp2_with fail
  go_region
  generalize hW1 : World.drew _ = W1
  have S2 : Hid (NAt W1 r q { k with refs := fun g => if g = f then n else k.refs g } ∧ Two r q w W1) := Hid.intro (by rw [← hW1]; exact S1.out)
  have d1 : W1.cell? ⟨r, 513 + f, none⟩ = some (.int .i64 (n : Int)) := by
    have := S2.out.1.cRefs f hf
    rw [this]
    show some (Value.int .i64 (((if f = f then n else k.refs f) : Nat) : Int)) = _
    rw [if_pos rfl]
  have d0 := S2.out.1.cP
  clear hW1 c1 cf S1
  by_cases e0 : n = 0
  · subst e0
    have d1' : W1.cell? ⟨r, 513 + f, none⟩ = some (.int .i64 0) := d1
    clear d1
    go_wp2_with fail
    refine (kgive_any q f k.pool _ S2.out.1.pool HI.out).mono ?_
    rintro e w2 ⟨rfl, kp, F⟩
    have S3 : Hid (NAt w2 r q (Mv.drp k f) ∧ Two r q w w2) := Hid.intro ⟨by rw [HD.out]; exact S2.out.1.withPool F kp, S2.out.2.right F⟩
    clear kp F
    go_wp2_with fail
    go_end0
    exact ⟨rfl, S3.out⟩
  · have e0' : ((n : Int) == 0) = false := by simp; omega
    have S3 : Hid (NAt W1 r q (Mv.drp k f) ∧ Two r q w W1) := Hid.intro ⟨by rw [HD.out, if_neg e0]; exact S2.out.1, S2.out.2⟩
    go_wp2_with fail
    go_end0
    exact ⟨rfl, S3.out⟩
end Go.Proofs.Ytnppahmlifnnnab

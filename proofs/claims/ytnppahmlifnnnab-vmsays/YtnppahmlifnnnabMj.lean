/- The document's own memory: Load, Store. -/
import Derived.Test.YtnppahmlifnnnabMi
namespace Go.Proofs.Ytnppahmlifnnnab
open Go.RowKit
open Bd (P)
open Mv (Me Bk)
theorem TouR_ends {m m' : Me} {own : Nat → Bool} {k k' : Bk} {z E : Int} {wr : Bool} {g : Nat} (G : Good m own k) (h : Mv.TouR m k z wr E g m' k') : g < 64 ∧ ((E = 0 ∧ ∃ x : Nat, z = x ∧ x < 128) ∨ E = 4 ∨ E = 10) := by
  rcases h with ⟨_, rfl, rfl, _⟩ | ⟨a, b, _, rfl, rfl, _⟩ | ⟨a, _, k1, ⟨p', t, _⟩, _⟩
  · exact ⟨by omega, .inr (.inr rfl)⟩
  · obtain ⟨x, rfl, hx⟩ := may_in a
    rw [Int.toNat_natCast] at b ⊢
    have := G.le (x / 8) (by omega)
    exact ⟨by omega, .inl ⟨rfl, x, rfl, hx⟩⟩
  · have g64 := TakeTo0_lt t
    rcases t with ⟨c, _⟩ | ⟨_, _, c, _⟩ | ⟨_, _, c, _⟩
    · omega
    · exact ⟨g64, .inr (.inl c)⟩
    · exact ⟨g64, .inl ⟨c, may_in a⟩⟩
def Mv.stB (k : Bk) (g j : Nat) (v : Int) : Bk := { k with byt := fun a i => if a = g ∧ i = j then v else k.byt a i }
/-- What of the pages is one's own behind a touch. -/
def OwnTo (z : Int) (wr : Bool) (E : Int) (m : Me) (own own' : Nat → Bool) : Prop := own' = own ∨ (own' = upo own (z.toNat / 8) true ∧ E = 0 ∧ (m.fr (z.toNat / 8) = 0 ∨ wr = true))
theorem mod8 (x : Nat) : ((x : Int) % 8).toNat = x % 8 := by omega
section
attribute [local go_sem] mod8
set_option maxRecDepth 100000 in
set_option maxHeartbeats 1000000 in
theorem load_any (b r q : Nat) (z : Int) (m : Me) (own : Nat → Bool) (k : Bk) (w : World) (h : MB w b r q m own k) (G : Good m own k) :
    Calls Try.prog 64 #[.pointer (some ⟨b, 0, none⟩), .int .i64 z] w fun e w' => ∃ (E : Int) (g : Nat) (m' : Me) (k' : Bk) (own' : Nat → Bool), e = .returned (.tuple #[.int .u8 (if E = 0 then k'.byt g (z.toNat % 8) else 0), .int .i64 E]) ∧ Mv.TouR m k z false E g m' k' ∧ MB w' b r q m' own' k' ∧ Thr b r q w w' ∧ OwnTo z false E m own own' := by
  have HF := Hid.intro (And.intro h G)
  clear h G
  go_enter Try.func64, Try.ntmps64
  go_wp2_with fail
  refine (touch_any b r q z false m own k _ HF.out.1 HF.out.2).mono ?_
  rintro e w1 ⟨E, g, m', k', own', rfl, ht, hm, F, ho⟩
  obtain ⟨g64, hE⟩ := TouR_ends HF.out.2 ht
  have HT := Hid.intro (And.intro ht (And.intro hm (And.intro F (show OwnTo z false E m own own' from ho))))
  clear ht F ho
  rcases hE with ⟨rfl, x, rfl, hx⟩ | rfl | rfl
  · have c1 := hm.me.cBank
    have c2 := hm.bk.cB g (x % 8) g64 (by omega)
    have h8 : (x : Int) % 8 < 8 := by omega
    have h80 : (0 : Int) ≤ (x : Int) % 8 := by omega
    have gI : (g : Int) < 64 := by omega
    clear hm hx
    go_wp2_with fail
    go_ret2
    refine ⟨0, g, m', k', own', ?_, HT.out⟩
    rw [if_pos rfl, Int.toNat_natCast]
    rfl
  · clear hm
    go_wp2_with fail
    go_ret2
    exact ⟨4, g, m', k', own', by rw [if_neg (by decide)]; rfl, HT.out⟩
  · clear hm
    go_wp2_with fail
    go_ret2
    exact ⟨10, g, m', k', own', by rw [if_neg (by decide)]; rfl, HT.out⟩
set_option maxRecDepth 100000 in
set_option maxHeartbeats 1000000 in
theorem store_any (b r q : Nat) (z u : Int) (m : Me) (own : Nat → Bool) (k : Bk) (w : World) (h : MB w b r q m own k) (G : Good m own k) :
    Calls Try.prog 65 #[.pointer (some ⟨b, 0, none⟩), .int .i64 z, .int .u8 u] w fun e w' => ∃ (E : Int) (g : Nat) (m' : Me) (k' : Bk) (own' : Nat → Bool), e = .returned (.int .i64 E) ∧ Mv.TouR m k z true E g m' k' ∧ MB w' b r q m' own' (if E = 0 then Mv.stB k' g (z.toNat % 8) u else k') ∧ Thr b r q w w' ∧ OwnTo z true E m own own' := by
  have HF := Hid.intro (And.intro h G)
  clear h G
  go_enter Try.func65, Try.ntmps65
  go_wp2_with fail
  refine (touch_any b r q z true m own k _ HF.out.1 HF.out.2).mono ?_
  rintro e w1 ⟨E, g, m', k', own', rfl, ht, hm, F, ho⟩
  obtain ⟨g64, hE⟩ := TouR_ends HF.out.2 ht
  have HT := Hid.intro (And.intro ht (And.intro hm (And.intro F (show OwnTo z true E m own own' from ho))))
  clear ht F ho
  rcases hE with ⟨rfl, x, rfl, hx⟩ | rfl | rfl
  · have c1 := hm.me.cBank
    have c2 := hm.bk.cB g (x % 8) g64 (by omega)
    have cf := hm.bk.frozen
    have h8 : (x : Int) % 8 < 8 := by omega
    have h80 : (0 : Int) ≤ (x : Int) % 8 := by omega
    have gI : (g : Int) < 64 := by omega
    have S1 : Hid (MB (w1.setCell ⟨r, 1 + g * 8 + x % 8, none⟩ (.int .u8 u)) b r q m' own' (Mv.stB k' g (x % 8) u) ∧ Thr b r q w (w1.setCell ⟨r, 1 + g * 8 + x % 8, none⟩ (.int .u8 u))) := Hid.intro (by
      have f : Frm r w1 (w1.setCell ⟨r, 1 + g * 8 + x % 8, none⟩ (.int .u8 u)) := (Frm.refl r w1).setCell _ _
      exact ⟨⟨hm.me.same (f.block b hm.me.lt hm.br), hm.bk.setB g (x % 8) u g64 (by omega), hm.br, hm.bq⟩, HT.out.2.2.1.trans ⟨f.os, f.tape, f.output, f.size, fun j hj _ h2 _ => f.block j hj h2⟩⟩)
    clear hm hx
    go_wp2_with fail
    go_ret
    refine ⟨0, g, m', k', own', rfl, HT.out.1, ?_, S1.out.2, HT.out.2.2.2⟩
    rw [if_pos rfl, Int.toNat_natCast]
    exact S1.out.1
  · clear hm
    go_wp2_with fail
    go_ret
    exact ⟨4, g, m', k', own', rfl, HT.out.1, by rw [if_neg (by decide)]; exact HT.out.2.1, HT.out.2.2⟩
  · clear hm
    go_wp2_with fail
    go_ret
    exact ⟨10, g, m', k', own', rfl, HT.out.1, by rw [if_neg (by decide)]; exact HT.out.2.1, HT.out.2.2⟩
end
end Go.Proofs.Ytnppahmlifnnnab

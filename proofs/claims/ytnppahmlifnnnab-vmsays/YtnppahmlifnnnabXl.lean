/- The document's own blocks: Left. -/
import Derived.Test.YtnppahmlifnnnabXe
import Derived.Test.YtnppahmlifnnnabXz
namespace Go.Proofs.Ytnppahmlifnnnab
open Go.RowKit
open Bd (P)

set_option maxRecDepth 100000 in
set_option maxHeartbeats 1000000 in
theorem kleft_any (b : Nat) (p : P) (w : World) (h : KAt w b p) (hl : ∀ i, i < 64 → p.ord i ≤ 7) :
    Calls Try.prog 18 #[.pointer (some ⟨b, 0, none⟩)] w fun e w' => e = .returned (.int .i64 (Bd.left p : Int)) ∧ w' = w := by
  have HF := Hid.intro h
  have HL := Hid.intro hl
  clear h hl
  go_enter Try.func18, Try.ntmps18
  go_wp2_with fail
  go_loopw [3, 4] (fun s i wr => ∃ (k : Nat), i = .int .i64 k ∧ s = .int .i64 (Bd.leftK p k : Int) ∧ k ≤ 64 ∧ wr = w) (fun _ i _ => 64 - (intOf i).toNat)
  case atStart => exact ⟨0, rfl, rfl, by omega, rfl⟩
  case round =>
    obtain ⟨k, rfl, rfl, hk, hw⟩ := hrel
    subst wr
    by_cases hlt : k < 64
    · have hltI : (k : Int) < 64 := by omega
      have c1 := HF.out.cOrd k hlt
      have c2 := HF.out.cTk k hlt
      have LS : Hid (Bd.leftK p (k + 1) = Bd.leftK p k + if 0 < p.ord k ∧ p.tk k = false then Bd.sz (p.ord k) else 0) := Hid.intro rfl
      have lb := leftK_le HL.out k (by omega)
      have o7 := HL.out k hlt
      have SZ := Hid.intro (size_any (p.ord k) o7)
      have sl := sz_le o7
      by_cases e : 0 < p.ord k
      · cases t : p.tk k
        · rw [t] at c2
          have LE : Hid (Bd.leftK p (k + 1) = Bd.leftK p k + Bd.sz (p.ord k)) := Hid.intro (by rw [LS.out, if_pos ⟨e, t⟩])
          generalize Bd.leftK p k = lk at *
          obtain ⟨s, hs⟩ : ∃ s, Bd.sz (p.ord k) = s := ⟨_, rfl⟩
          rw [hs] at sl LE SZ
          generalize p.ord k = u at *
          have eI : (0 : Int) < (u : Int) := by omega
          have hww : IntKind.i64.wrap ((lk : Int) + (s : Int)) = (lk : Int) + (s : Int) := IntWalk.i64_in _ ⟨by omega, by omega⟩
          clear t hs
          go_wp2_with fail
          refine (SZ.out _).mono ?_
          rintro e w2 ⟨rfl, hw2⟩
          subst w2
          go_wp2_with fail
          go_roundw
          case rel => exact ⟨k + 1, by go_num, by rw [LE.out]; go_num, by omega, by first | rfl | trivial⟩
          case measure => simp [intOf]; omega
        · rw [t] at c2
          have LE : Hid (Bd.leftK p (k + 1) = Bd.leftK p k) := Hid.intro (by rw [LS.out, if_neg (fun c => by rw [c.2] at t; cases t)]; rfl)
          generalize p.ord k = u at *
          have eI : (0 : Int) < (u : Int) := by omega
          clear t
          go_wp2_with fail
          go_roundw
          case rel => exact ⟨k + 1, by go_num, by rw [LE.out], by omega, by first | rfl | trivial⟩
          case measure => simp [intOf]; omega
      · have LE : Hid (Bd.leftK p (k + 1) = Bd.leftK p k) := Hid.intro (by rw [LS.out, if_neg (fun c => e c.1)]; rfl)
        have e0 : p.ord k = 0 := by omega
        rw [e0] at c1
        have c1' : w.cell? ⟨b, k, none⟩ = some (.int .i64 0) := c1
        clear e e0 c1
        go_wp2_with fail
        go_roundw
        case rel => exact ⟨k + 1, by go_num, by rw [LE.out], by omega, by first | rfl | trivial⟩
        case measure => simp [intOf]; omega
    · have hk64 : k = 64 := by omega
      subst hk64
      go_wp2_with fail
      go_ret
      exact ⟨rfl, rfl⟩
end Go.Proofs.Ytnppahmlifnnnab

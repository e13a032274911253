/- The document's own blocks: Take. -/
import Derived.Test.YtnppahmlifnnnabXc
namespace Go.Proofs.Ytnppahmlifnnnab
open Go.RowKit
open Bd (P)

/-- A free block that is great enough. -/
def candB (p : P) (o j : Nat) : Prop := o < p.ord j ∧ p.tk j = false
/-- The best of those from k on. -/
def BestFrom (p : P) (o k : Nat) (z : Int) : Prop := (z = -1 ∧ ∀ j, k ≤ j → j < 64 → ¬ candB p o j) ∨ ∃ x : Nat, z = x ∧ k ≤ x ∧ x < 64 ∧ candB p o x ∧ ∀ j, k ≤ j → j < 64 → candB p o j → p.ord x < p.ord j ∨ (p.ord x = p.ord j ∧ x ≤ j)
theorem BestFrom.skip {p : P} {o k : Nat} {z : Int} (h : BestFrom p o (k + 1) z) (c : ¬ candB p o k) : BestFrom p o k z := by
  rcases h with ⟨h1, h2⟩ | ⟨x, h1, h2, h3, h4, h5⟩
  · exact .inl ⟨h1, fun j a b => by
      by_cases e : j = k
      · rw [e]; exact c
      · exact h2 j (by omega) b⟩
  · exact .inr ⟨x, h1, by omega, h3, h4, fun j a b d => by
      by_cases e : j = k
      · rw [e] at d; exact absurd d c
      · exact h5 j (by omega) b d⟩
theorem BestFrom.take {p : P} {o k : Nat} {z : Int} (h : BestFrom p o (k + 1) z) (hk : k < 64) (c : candB p o k) (d : z = -1 ∨ ∃ x : Nat, z = x ∧ p.ord k ≤ p.ord x) : BestFrom p o k k := by
  refine .inr ⟨k, rfl, Nat.le_refl _, hk, c, fun j a b e => ?_⟩
  by_cases ej : j = k
  · subst ej; exact .inr ⟨rfl, Nat.le_refl _⟩
  · rcases h with ⟨h1, h2⟩ | ⟨x, h1, h2, h3, h4, h5⟩
    · exact absurd e (h2 j (by omega) b)
    · have := h5 j (by omega) b e
      rcases d with d | ⟨y, d1, d2⟩
      · omega
      · obtain rfl : y = x := by omega
        omega
theorem BestFrom.keep {p : P} {o k x : Nat} (h : BestFrom p o (k + 1) x) (d : p.ord x < p.ord k) : BestFrom p o k x := by
  rcases h with ⟨h1, _⟩ | ⟨y, h1, h2, h3, h4, h5⟩
  · omega
  · obtain rfl : y = x := by omega
    exact .inr ⟨y, rfl, by omega, h3, h4, fun j a b e => by
      by_cases ej : j = k
      · rw [ej]; exact .inl d
      · exact h5 j (by omega) b e⟩
theorem BestFrom.done {p : P} {o : Nat} {z : Int} (h : BestFrom p o 0 z) : (z = -1 ∧ ∀ j, j < 64 → o < p.ord j → p.tk j = true) ∨ ∃ x : Nat, z = x ∧ Bd.Best p o x := by
  rcases h with ⟨h1, h2⟩ | ⟨x, h1, _, h3, h4, h5⟩
  · refine .inl ⟨h1, fun j hj ho => ?_⟩
    cases c : p.tk j
    · exact absurd ⟨ho, c⟩ (h2 j (by omega) hj)
    · rfl
  · exact .inr ⟨x, h1, h3, h4.1, h4.2, fun j hj ho ht => h5 j (by omega) hj ⟨ho, ht⟩⟩

set_option maxRecDepth 100000 in
set_option maxHeartbeats 400000 in
theorem ktake_bound (b : Nat) (z : Int) (w : World) (k : z < 0 ∨ 6 < z) :
    Calls Try.prog 170 #[.pointer (some ⟨b, 0, none⟩), .int .i64 z] w fun e w' => e = .returned (.tuple #[.int .i64 0, .int .i64 1]) ∧ w' = w := by
  by_cases h0 : z < 0
  · clear k
    go_enter Try.func170, Try.ntmps170
    go_wp2
    go_ret2
    exact ⟨rfl, rfl⟩
  · have h1 : decide (z < 0) = false := by simp; omega
    have h2 : 6 < z := by omega
    clear k h0
    go_enter Try.func170, Try.ntmps170
    go_wp2
    go_ret2
    exact ⟨rfl, rfl⟩
/-- The number that a cell holds. -/
def cellN (w : World) (b o : Nat) : Nat := match w.cell? ⟨b, o, none⟩ with | some v => (intOf v).toNat | none => 0
theorem cellN_of {w : World} {b o n : Nat} (h : w.cell? ⟨b, o, none⟩ = some (.int .i64 (n : Int))) : cellN w b o = n := by unfold cellN; rw [h]; rfl
theorem parts_succ (p : P) (i n : Nat) : Bd.parts p i (n + 1) = Bd.half (Bd.parts p i n) i := by
  induction n generalizing p with
  | zero => rfl
  | succ n ih => show Bd.parts (Bd.half p i) i (n + 1) = _; rw [ih]; rfl
theorem toNat_sum (x s : Nat) : ((x : Int) + (s : Int)).toNat = x + s := by omega
section
attribute [local go_sem] toNat_sum
set_option maxRecDepth 100000 in
set_option maxHeartbeats 2000000 in
theorem ktake_near (b o : Nat) (p : P) (w : World) (h : KAt w b p) (hI : Bd.Inv p) (hN : Bd.NB p 64) (ho : o ≤ 6) :
    Calls Try.prog 170 #[.pointer (some ⟨b, 0, none⟩), .int .i64 o] w fun e w' => ∃ (r : Nat) (E : Int) (p' : P), e = .returned (.tuple #[.int .i64 r, .int .i64 E]) ∧ Bd.TakeTo p o E r p' ∧ KAt w' b p' ∧ Frm b w w' := by
  have S0 : Hid (KAt w b p ∧ Frm b w w ∧ BestFrom p o 64 (-1)) := Hid.intro ⟨h, Frm.refl b w, .inl ⟨rfl, fun j a c => by omega⟩⟩
  have HI := Hid.intro hI
  have NI := Hid.intro hN
  have o2 : decide (6 < (o : Int)) = false := by simp; omega
  clear h hI hN
  go_enter Try.func170, Try.ntmps170
  go_wp2_with fail
  go_loopw [6, 7] (fun s i wr => ∃ (k : Nat) (z : Int), i = .int .i64 ((k : Int) - 1) ∧ s = .int .i64 z ∧ k ≤ 64 ∧ Hid (KAt wr b p ∧ Frm b w wr ∧ BestFrom p o k z)) (fun _ i _ => (intOf i + 1).toNat)
  case atStart => exact ⟨64, -1, rfl, rfl, by omega, S0⟩
  case round =>
    clear S0
    obtain ⟨k, z, rfl, rfl, hk, S⟩ := hrel
    by_cases hk0 : k = 0
    · subst hk0
      rcases S.out.2.2.done with ⟨rfl, hno⟩ | ⟨x, rfl, hB⟩
      · have FIN : Hid (Bd.TakeTo p o 4 0 p) := Hid.intro (.inr (.inl ⟨by omega, by rw [Int.toNat_natCast]; exact hno, rfl, rfl, rfl⟩))
        clear hno
        go_wp2_with fail
        go_ret2
        exact ⟨0, 4, p, rfl, FIN.out, S.out.1, S.out.2.1⟩
      · have HB := Hid.intro hB
        have hx64 := hB.lt
        have hxI : (x : Int) < 64 := by omega
        have hx0 : decide ((x : Int) < 0) = false := by simp
        have S1 : Hid (KAt wr b (Bd.parts p x 0) ∧ Frm b w wr ∧ o + 1 + 0 ≤ p.ord x) := Hid.intro ⟨S.out.1, S.out.2.1, by have := hB.ord; omega⟩
        clear hB S
        go_wp2_with fail
        go_loopw [57] (fun _ wr => ∃ n : Nat, Hid (KAt wr b (Bd.parts p x n) ∧ Frm b w wr ∧ o + 1 + n ≤ p.ord x)) (fun _ wr => cellN wr b x)
        case atStart => exact ⟨0, S1⟩
        case round =>
          clear S1
          obtain ⟨n, S⟩ := hrel
          have PI := Hid.intro (Bd.parts_inv hx64 n (by have := S.out.2.2; have := HB.out.ord; omega) HI.out HB.out.tk ((NI.out).but HI.out x))
          have hw7 := HI.out.le x hx64
          obtain ⟨q, hq⟩ : ∃ q, Bd.parts p x n = q := ⟨_, rfl⟩
          have HQ := Hid.intro hq
          have c1 := S.out.1.cOrd x hx64
          have cf := S.out.1.frozen
          have T := Hid.intro S.out.1
          rw [hq] at c1 T PI
          have ho1 : IntKind.i64.wrap ((o : Int) + 1) = (o : Int) + 1 := IntWalk.i64_in _ ⟨by omega, by omega⟩
          obtain ⟨u, hu⟩ : ∃ u, q.ord x = u := ⟨_, rfl⟩
          rw [hu] at c1
          have eu : u + n = p.ord x := by have := PI.out.2.2.1; rw [hu] at this; have := S.out.2.2; omega
          have HU := Hid.intro hu
          have CC := Hid.intro c1
          clear hq hu
          by_cases hgt : o + 1 < u
          · obtain ⟨k, rfl⟩ : ∃ k, u = k + 1 := ⟨u - 1, by omega⟩
            have hgtI : (o : Int) + 1 < ((k + 1 : Nat) : Int) := by omega
            have al := (PI.out.1.al x hx64 (by rw [HU.out]; omega)).2
            rw [HU.out, Bd.sz_succ (by omega)] at al
            have sp := Bd.sz_pos k
            have EH : Hid (Bd.half q x = { ({ q with ord := Bd.up q.ord x k } : P) with ord := Bd.up (Bd.up q.ord x k) (x + Bd.sz k) k }) := Hid.intro (by unfold Bd.half; rw [HU.out, Nat.add_sub_cancel])
            have hk7 : k ≤ 7 := by omega
            have SZ := Hid.intro (size_any k hk7)
            have hk1 : IntKind.i64.wrap (((k + 1 : Nat) : Int) - 1) = (k : Int) := by rw [show ((k + 1 : Nat) : Int) - 1 = (k : Int) by omega]; exact IntWalk.i64_in _ ⟨by omega, by omega⟩
            generalize Bd.sz k = s at *
            have hs64 : (x : Int) + (s : Int) < 64 := by omega
            have hs0 : (0 : Int) ≤ (x : Int) + (s : Int) := by omega
            have hxs : IntKind.i64.wrap ((x : Int) + (s : Int)) = (x : Int) + (s : Int) := IntWalk.i64_in _ ⟨by omega, by omega⟩
            have hne : x ≠ x + s := by omega
            have hne' : x + s ≠ x := by omega
            have c2 := T.out.cOrd (x + s) (by omega)
            go_wp2_with fail
            go_region
            generalize hW1 : World.drew _ = W1
            have T1 : Hid (KAt W1 b { q with ord := Bd.up q.ord x k } ∧ Frm b w W1) := Hid.intro (by
              rw [← hW1]; exact ⟨(T.out.setOrd x k hx64).drew, (S.out.2.1.setCell _ _).drew⟩)
            have d1 : W1.cell? ⟨b, x, none⟩ = some (.int .i64 (k : Int)) := by
              have := T1.out.1.cOrd x hx64
              rw [this]
              show some (Value.int .i64 (((if x = x then k else q.ord x) : Nat) : Int)) = _
              rw [if_pos rfl]
            have d2 := T1.out.1.cOrd (x + s) (by omega)
            have df := T1.out.1.frozen
            have KEEP : Hid ((W1.setCell ⟨b, x + s, none⟩ (.int .i64 (k : Int))).drew.cell? ⟨b, x, none⟩ = some (.int .i64 (k : Int))) := Hid.intro (by
              have := (T1.out.1.setOrd (x + s) k (by omega)).drew.cOrd x hx64
              rw [this]
              show some (Value.int .i64 (((if x = x + s then k else if x = x then k else q.ord x) : Nat) : Int)) = _
              rw [if_neg hne, if_pos rfl])
            clear hW1 c1 c2 cf
            go_wp2_with fail
            go_region_held3 (fun w' => w'.cell? ⟨b, x, none⟩ = some (.int .i64 (k : Int))) (first | exact KEEP.out | go_keep) ((go_at_call 66; refine (SZ.out _).mono ?_; rintro e w2 ⟨rfl, hw2⟩; subst hw2))
            generalize hW2 : World.drew _ = W2
            have T2 : Hid (KAt W2 b (Bd.parts p x (n + 1)) ∧ Frm b w W2 ∧ o + 1 + (n + 1) ≤ p.ord x) := Hid.intro (by
              refine ⟨?_, by rw [← hW2]; exact (T1.out.2.setCell _ _).drew, by omega⟩
              rw [parts_succ, HQ.out, EH.out, ← hW2]
              exact (T1.out.1.setOrd (x + s) k (by omega)).drew)
            have CN : Hid (cellN W2 b x = k) := Hid.intro (cellN_of (by
              have := T2.out.1.cOrd x hx64
              rw [this, parts_succ, HQ.out, EH.out]
              show some (Value.int .i64 (((if x = x + s then k else if x = x then k else q.ord x) : Nat) : Int)) = _
              rw [if_neg hne, if_pos rfl]))
            clear hW2 d1 d2 df
            go_wp2_with fail
            go_roundw
            case rel => exact ⟨_, _, _, _, _, _, _, _, _, _, _, _, _, _, _, _, _, _, _, _, _, _, _, _, _, _, _, _, _, _, _, _, _, _, _, _, _, _, ⟨n + 1, T2⟩, rfl⟩
            case measure =>
              rw [CN.out, cellN_of CC.out]; omega
          · have hgtI : decide ((o : Int) + 1 < (u : Int)) = false := by simp; omega
            have EN : Hid (n = p.ord x - (o + 1)) := Hid.intro (by have := S.out.2.2; omega)
            have c3 := T.out.cTk x hx64
            have T3 : Hid (KAt (wr.setCell ⟨b, 64 + x, none⟩ (.bool true)) b (Bd.takeB p o x) ∧ Frm b w (wr.setCell ⟨b, 64 + x, none⟩ (.bool true))) := Hid.intro (by
              refine ⟨?_, S.out.2.1.setCell _ _⟩
              have := T.out.setTk x true hx64
              rw [← HQ.out, EN.out] at this
              exact this)
            go_wp2_with fail
            go_ret2
            exact ⟨x, 0, _, rfl, .inr (.inr ⟨by omega, by rw [Int.toNat_natCast]; exact HB.out, rfl, by rw [Int.toNat_natCast]⟩), T3.out.1, T3.out.2⟩
    · obtain ⟨m, rfl⟩ : ∃ m, k = m + 1 := ⟨k - 1, by omega⟩
      have em : ((m + 1 : Nat) : Int) - 1 = (m : Int) := by omega
      rw [em]
      have hm : m < 64 := by omega
      have hmI : (m : Int) < 64 := by omega
      have c1 := S.out.1.cOrd m hm
      have c2 := S.out.1.cTk m hm
      have hw1 : IntKind.i64.wrap ((m : Int) - 1) = (m : Int) - 1 := IntWalk.i64_in _ ⟨by omega, by omega⟩
      by_cases a1 : o < p.ord m
      · have a1' : (o : Int) < (p.ord m : Int) := by omega
        cases a2 : p.tk m
        · rw [a2] at c2
          have CD : Hid (candB p o m) := Hid.intro ⟨a1, a2⟩
          rcases S.out.2.2 with ⟨rfl, hno⟩ | ⟨x, rfl, h1, h2, h3, h4⟩
          · have NX := Hid.intro (S.out.2.2.take hm CD.out (.inl rfl))
            clear hno a2
            go_wp2_with fail
            go_region
            go_wp2_with fail
            go_roundw
            case rel => exact ⟨m, m, by go_num, by first | rfl | trivial, by omega, S.out.1.drew, S.out.2.1.drew, NX.out⟩
            case measure => simp [intOf]
          · have c3 := S.out.1.cOrd x h2
            have hx0 : decide ((x : Int) < 0) = false := by simp
            have hxI : (x : Int) < 64 := by omega
            clear h1 h3 h4 a2
            by_cases a3 : p.ord m ≤ p.ord x
            · have a3' : (p.ord m : Int) ≤ (p.ord x : Int) := by omega
              have NX := Hid.intro (S.out.2.2.take hm CD.out (.inr ⟨x, rfl, a3⟩))
              generalize p.ord m = um at *
              generalize p.ord x = ux at *
              go_wp2_with fail
              go_region
              go_wp2_with fail
              go_roundw
              case rel => exact ⟨m, m, by go_num, by first | rfl | trivial, by omega, S.out.1.drew, S.out.2.1.drew, NX.out⟩
              case measure => simp [intOf]
            · have a3' : decide ((p.ord m : Int) ≤ (p.ord x : Int)) = false := by simp; omega
              have NX := Hid.intro (S.out.2.2.keep (by omega))
              generalize p.ord m = um at *
              generalize p.ord x = ux at *
              go_wp2_with fail
              go_region
              go_wp2_with fail
              go_roundw
              case rel => exact ⟨m, x, by go_num, by first | rfl | trivial, by omega, S.out.1.drew, S.out.2.1.drew, NX.out⟩
              case measure => simp [intOf]
        · rw [a2] at c2
          have NX := Hid.intro (S.out.2.2.skip (fun c => by rw [c.2] at a2; cases a2))
          generalize p.ord m = um at *
          clear a2
          go_wp2_with fail
          go_region
          go_wp2_with fail
          go_roundw
          case rel => exact ⟨m, z, by go_num, by first | rfl | trivial, by omega, S.out.1.drew, S.out.2.1.drew, NX.out⟩
          case measure => simp [intOf]
      · have a1' : decide ((o : Int) < (p.ord m : Int)) = false := by simp; omega
        have NX := Hid.intro (S.out.2.2.skip (fun c => a1 c.1))
        generalize p.ord m = um at *
        go_wp2_with fail
        go_region
        go_wp2_with fail
        go_roundw
        case rel => exact ⟨m, z, by go_num, by first | rfl | trivial, by omega, S.out.1.drew, S.out.2.1.drew, NX.out⟩
        case measure => simp [intOf]
end
theorem ktake_any (b : Nat) (z : Int) (p : P) (w : World) (h : KAt w b p) (hI : Bd.Inv p) (hN : Bd.NB p 64) :
    Calls Try.prog 170 #[.pointer (some ⟨b, 0, none⟩), .int .i64 z] w fun e w' => ∃ (r : Nat) (E : Int) (p' : P), e = .returned (.tuple #[.int .i64 r, .int .i64 E]) ∧ Bd.TakeTo p z E r p' ∧ KAt w' b p' ∧ Frm b w w' := by
  by_cases k : z < 0 ∨ 6 < z
  · refine (ktake_bound b z w k).mono ?_
    rintro e w' ⟨rfl, rfl⟩
    exact ⟨0, 1, p, rfl, .inl ⟨k, rfl, rfl, rfl⟩, h, Frm.refl _ _⟩
  · obtain ⟨o, rfl⟩ := Int.eq_ofNat_of_zero_le (show 0 ≤ z by omega)
    exact ktake_near b o p w h hI hN (by omega)
end Go.Proofs.Ytnppahmlifnnnab

/- The code's forest: Find, Of; which names may be. -/
import Derived.Test.YtfgnhldnmbfnkabTd
namespace Go.Proofs.Ytfgnhldnmbfnkab
open Go.RowKit
open Tr (Fo Nd)

/-- Directories have eight names at most. -/
def Tr.SzOk (F : Fo) : Prop := ∀ n, n < 40 → (F.nd n).kind = 2 → (F.nd n).size ≤ 8
/-- Where a name leads. -/
def Tr.FndTo (F : Fo) (z : Int) (s : ByteArray) (K : Nat) (E : Int) : Prop :=
  (Tr.isE F z 2 ≠ 0 ∧ K = 0 ∧ E = Tr.isE F z 2) ∨ (Tr.isE F z 2 = 0 ∧ ((∃ i : Nat, Tr.PlcTo (F.nd z.toNat) s i ∧ K = (F.nd z.toNat).kid i ∧ E = 0) ∨ (Tr.PlcTo (F.nd z.toNat) s (-1) ∧ K = 0 ∧ E = 2)))
theorem Tr.PlcTo.cases {x : Nd} {s : ByteArray} {z : Int} (h : Tr.PlcTo x s z) : (∃ i : Nat, z = i ∧ i < x.size) ∨ z = -1 := by
  rcases h with ⟨i, rfl, h1, _⟩ | ⟨rfl, _⟩
  · exact .inl ⟨i, rfl, h1⟩
  · exact .inr rfl
set_option maxRecDepth 100000 in
set_option maxHeartbeats 1000000 in
theorem tfind_any (b : Nat) (z : Int) (s : ByteArray) (F : Fo) (w : World) (h : FAt w b F) (hs : Tr.SzOk F) :
    Calls Try.prog 53 #[.pointer (some ⟨b, 0, none⟩), .int .i64 z, .string s] w fun e w' => ∃ (K : Nat) (E : Int), e = .returned (.tuple #[.int .i64 (K : Int), errV E]) ∧ Tr.FndTo F z s K E ∧ Below w.heap.size w w' := by
  have HF := Hid.intro h
  by_cases c : Tr.isE F z 2 = 0
  · obtain ⟨n, rfl, n40, _, k2⟩ := Tr.isE_ok c
    have hm8 := hs n n40 k2
    have EP : Hid (Tr.isE F (n : Int) 2 = 0 ∧ ptrE b (n : Int) 0 = .pointer (some ⟨b, n * 62, none⟩)) := Hid.intro ⟨c, ptrE_ok b n⟩
    clear h c hs k2
    go_enter Try.func53, Try.ntmps53
    go_wp2_with fail
    refine (tdir_any b n F _ HF.out).mono ?_
    rintro e w1 ⟨rfl, hw1⟩
    subst w1
    rw [EP.out.1, EP.out.2, errV_zero]
    go_wp2_with fail
    refine (tplace_any b n s F _ HF.out n40 hm8).mono ?_
    rintro e w2 ⟨y, rfl, hp, b2⟩
    have HP := Hid.intro (And.intro hp b2)
    rcases hp.cases with ⟨i, rfl, hi⟩ | rfl
    · have c0 := (HF.out.below b2).cKid n i n40 (by omega)
      have iI : (i : Int) < 8 := by omega
      have FIN : Hid (Tr.FndTo F (n : Int) s ((F.nd n).kid i) 0) := Hid.intro (.inr ⟨EP.out.1, .inl ⟨i, by rw [Int.toNat_natCast]; exact hp, by rw [Int.toNat_natCast], rfl⟩⟩)
      generalize (F.nd n).kid i = kk at *
      clear hp b2
      go_wp2_with fail
      go_ret2
      exact ⟨kk, 0, rfl, FIN.out, HP.out.2⟩
    · have FIN : Hid (Tr.FndTo F (n : Int) s 0 2) := Hid.intro (.inr ⟨EP.out.1, .inr ⟨by rw [Int.toNat_natCast]; exact hp, rfl, rfl⟩⟩)
      clear hp b2
      go_wp2_with fail
      go_ret2
      exact ⟨0, 2, rfl, FIN.out, HP.out.2⟩
  · have E2 : Hid (ptrE b z (Tr.isE F z 2) = .pointer none ∧ errV (Tr.isE F z 2) = .iface 128 (.int .i64 (Tr.isE F z 2)) ∧ Tr.FndTo F z s 0 (Tr.isE F z 2)) := Hid.intro ⟨ptrE_no c, errV_ne c, .inl ⟨c, rfl, rfl⟩⟩
    clear h c hs
    go_enter Try.func53, Try.ntmps53
    go_wp2_with fail
    refine (tdir_any b z F _ HF.out).mono ?_
    rintro e w1 ⟨rfl, hw⟩
    subst w1
    rw [E2.out.1, E2.out.2.1]
    go_wp2_with fail
    go_ret2
    exact ⟨0, _, by rw [E2.out.2.1]; rfl, E2.out.2.2, Below.refl _ _⟩
/-- May a byte be in a name? -/
def Tr.okB (c : Nat) : Bool := (decide (97 ≤ c) && decide (c ≤ 122)) || (decide (48 ≤ c) && decide (c ≤ 57)) || decide (c = 46)
set_option maxRecDepth 100000 in
set_option maxHeartbeats 1000000 in
theorem tinName_any (c : Nat) (w : World) : Calls Try.prog 99 #[.int .u8 (c : Int)] w fun e w' => e = .returned (.bool (Tr.okB c)) ∧ w' = w := by
  have E1 : ∀ a : Nat, decide ((a : Int) ≤ (c : Int)) = decide (a ≤ c) := fun a => by simp
  by_cases c1 : 97 ≤ c
  · have d1 : (97 : Int) ≤ (c : Int) := by omega
    by_cases c2 : c ≤ 122
    · have d2 : (c : Int) ≤ 122 := by omega
      have HO : Hid (Tr.okB c = true) := Hid.intro (by unfold Tr.okB; simp [c1, c2])
      clear E1
      go_enter Try.func99, Try.ntmps99
      go_wp2_with fail
      go_ret
      exact ⟨ret_bool (by rw [HO.out]), rfl⟩
    · have d2 : decide ((c : Int) ≤ 122) = false := by simp; omega
      have d3 : (48 : Int) ≤ (c : Int) := by omega
      have d4 : decide ((c : Int) ≤ 57) = false := by simp; omega
      have HO : Hid (Tr.okB c = false) := Hid.intro (by unfold Tr.okB; simp; omega)
      have d5 : ((c : Int) == 46) = false := by simp; omega
      clear E1
      go_enter Try.func99, Try.ntmps99
      go_wp2_with fail
      go_ret
      exact ⟨ret_bool (by rw [HO.out]), rfl⟩
  · have d1 : decide ((97 : Int) ≤ (c : Int)) = false := by simp; omega
    by_cases c3 : 48 ≤ c ∧ c ≤ 57
    · have d3 : (48 : Int) ≤ (c : Int) := by omega
      have d4 : (c : Int) ≤ 57 := by omega
      have HO : Hid (Tr.okB c = true) := Hid.intro (by unfold Tr.okB; simp; omega)
      clear E1
      go_enter Try.func99, Try.ntmps99
      go_wp2_with fail
      go_ret
      exact ⟨ret_bool (by rw [HO.out]), rfl⟩
    · by_cases c5 : c = 46
      · subst c5
        have HO : Hid (Tr.okB 46 = true) := Hid.intro (by decide)
        go_enter Try.func99, Try.ntmps99
        go_wp2_with fail
        go_ret
        exact ⟨ret_bool (by rw [HO.out]), rfl⟩
      · have d5 : ((c : Int) == 46) = false := by simp; omega
        have HO : Hid (Tr.okB c = false) := Hid.intro (by unfold Tr.okB; simp; omega)
        clear E1
        by_cases c6 : 48 ≤ c
        · have d3 : (48 : Int) ≤ (c : Int) := by omega
          have d4 : decide ((c : Int) ≤ 57) = false := by simp; omega
          go_enter Try.func99, Try.ntmps99
          go_wp2_with fail
          go_ret
          exact ⟨ret_bool (by rw [HO.out]), rfl⟩
        · have d3 : decide ((48 : Int) ≤ (c : Int)) = false := by simp; omega
          go_enter Try.func99, Try.ntmps99
          go_wp2_with fail
          go_ret
          exact ⟨ret_bool (by rw [HO.out]), rfl⟩
/-- The first bytes may all be in a name. -/
def Tr.allOk (s : ByteArray) : Nat → Bool
  | 0 => true
  | n + 1 => Tr.allOk s n && Tr.okB (s[n]!).toNat
theorem Tr.allOk_false {s : ByteArray} {j : Nat} (h : Tr.okB (s[j]!).toNat = false) : ∀ n, j < n → Tr.allOk s n = false := by
  intro n
  induction n with
  | zero => intro hj; omega
  | succ n ih =>
    intro hj
    show (Tr.allOk s n && Tr.okB (s[n]!).toNat) = false
    by_cases c : j = n
    · subst c; rw [h]; simp
    · rw [ih (by omega)]; rfl
/-- May something be called so? -/
def Tr.nameB (s : ByteArray) : Bool := decide (1 ≤ s.size) && decide (s.size ≤ 8) && !(s.toList == [46]) && !(s.toList == [46, 46]) && Tr.allOk s s.size
set_option maxRecDepth 100000 in
set_option maxHeartbeats 1000000 in
theorem tName_any (s : ByteArray) (w : World) : Calls Try.prog 40 #[.string s] w fun e w' => e = .returned (.bool (Tr.nameB s)) ∧ w' = w := by
  by_cases c1 : s.size = 0
  · have HO : Hid (Tr.nameB s = false) := Hid.intro (by unfold Tr.nameB; simp [c1])
    have d1 : (s.size : Int) < 1 := by omega
    clear c1
    go_enter Try.func40, Try.ntmps40
    go_wp2_with fail
    go_ret
    exact ⟨ret_bool (by rw [HO.out]), rfl⟩
  · have d1 : decide ((s.size : Int) < 1) = false := by simp; omega
    by_cases c2 : 8 < s.size
    · have HO : Hid (Tr.nameB s = false) := Hid.intro (by unfold Tr.nameB; simp; omega)
      have d2 : (8 : Int) < (s.size : Int) := by omega
      clear c1 c2
      go_enter Try.func40, Try.ntmps40
      go_wp2_with fail
      go_ret
      exact ⟨ret_bool (by rw [HO.out]), rfl⟩
    · have d2 : decide ((8 : Int) < (s.size : Int)) = false := by simp; omega
      by_cases c3 : (s.toList == [46]) = true
      · have HO : Hid (Tr.nameB s = false) := Hid.intro (by unfold Tr.nameB; rw [c3]; simp)
        clear c1 c2
        go_enter Try.func40, Try.ntmps40
        go_wp2_with fail
        go_ret
        exact ⟨ret_bool (by rw [HO.out]), rfl⟩
      · have d3 : (s.toList == [46]) = false := by simpa using c3
        by_cases c4 : (s.toList == [46, 46]) = true
        · have HO : Hid (Tr.nameB s = false) := Hid.intro (by unfold Tr.nameB; rw [c4]; simp)
          clear c1 c2 c3
          go_enter Try.func40, Try.ntmps40
          go_wp2_with fail
          go_ret
          exact ⟨ret_bool (by rw [HO.out]), rfl⟩
        · have d4 : (s.toList == [46, 46]) = false := by simpa using c4
          have HO : Hid (Tr.nameB s = Tr.allOk s s.size) := Hid.intro (by unfold Tr.nameB; rw [d3, d4, decide_eq_true (show 1 ≤ s.size by omega), decide_eq_true (show s.size ≤ 8 by omega)]; simp)
          have hs8 : s.size ≤ 8 := by omega
          clear c1 c2 c3 c4
          go_enter Try.func40, Try.ntmps40
          go_wp2_with fail
          go_loopw [3, 22] (fun x i wr => ∃ (j : Nat), i = .int .i64 j ∧ j ≤ s.size ∧ Hid (Tr.allOk s j = true) ∧ wr = w) (fun _ i _ => s.size - (intOf i).toNat)
          case atStart => exact ⟨0, rfl, by omega, rfl, rfl⟩
          case round =>
            obtain ⟨j, rfl, hj, R, hwr⟩ := hrel
            subst wr
            by_cases hlt : j < s.size
            · have hltI : (j : Int) < (s.size : Int) := by omega
              have HB : Hid (Tr.okB (s[j]!).toNat = Tr.okB (s[j]'hlt).toNat) := Hid.intro (by rw [getElem!_pos s j hlt])
              go_wp2_with fail
              refine (tinName_any (s[j]'hlt).toNat _).mono ?_
              rintro e w1 ⟨rfl, hw1⟩
              subst w1
              cases ho : Tr.okB (s[j]'hlt).toNat
              · have NO := Hid.intro (Tr.allOk_false (s := s) (j := j) (by rw [HB.out]; exact ho) s.size hlt)
                clear ho
                go_wp2_with fail
                go_ret
                exact ⟨ret_bool (by rw [HO.out, NO.out]), rfl⟩
              · have NX : Hid (Tr.allOk s (j + 1) = true) := Hid.intro (by
                  show (Tr.allOk s j && Tr.okB (s[j]!).toNat) = true
                  rw [R.out, HB.out, ho]; rfl)
                clear ho
                go_wp2_with fail
                go_roundw
                case rel => exact ⟨j + 1, by go_num, by omega, NX, by first | rfl | trivial⟩
                case measure => simp [intOf]; omega
            · have hltI : ¬ (j : Int) < (s.size : Int) := by omega
              have hje : j = s.size := by omega
              have FIN : Hid (Tr.allOk s s.size = true) := Hid.intro (by rw [← hje]; exact R.out)
              clear hje
              go_wp2_with fail
              go_ret
              exact ⟨ret_bool (by rw [HO.out, FIN.out]), rfl⟩
/-- Why a directory can't have one more name. -/
def Tr.RefTo (x : Nd) (s : ByteArray) (E : Int) : Prop := (Tr.nameB s = false ∧ E = 9) ∨ (Tr.nameB s = true ∧ ((∃ i : Nat, Tr.PlcTo x s i ∧ E = 3) ∨ (Tr.PlcTo x s (-1) ∧ ((x.size = 8 ∧ E = 4) ∨ (x.size ≠ 8 ∧ E = 0)))))
set_option maxRecDepth 100000 in
set_option maxHeartbeats 1000000 in
theorem trefuses_any (b n : Nat) (s : ByteArray) (F : Fo) (w : World) (h : FAt w b F) (hn : n < 40) (hm8 : (F.nd n).size ≤ 8) :
    Calls Try.prog 115 #[.pointer (some ⟨b, n * 62, none⟩), .string s] w fun e w' => ∃ E, e = .returned (errV E) ∧ Tr.RefTo (F.nd n) s E ∧ Below w.heap.size w w' := by
  have HF := Hid.intro h
  clear h
  go_enter Try.func115, Try.ntmps115
  go_wp2_with fail
  refine (tName_any s _).mono ?_
  rintro e w1 ⟨rfl, hw1⟩
  subst w1
  cases hb : Tr.nameB s
  · have FIN : Hid (Tr.RefTo (F.nd n) s 9) := Hid.intro (.inl ⟨hb, rfl⟩)
    clear hb
    go_wp2_with fail
    go_ret
    exact ⟨9, rfl, FIN.out, Below.refl _ _⟩
  · have HB := Hid.intro hb
    clear hb
    go_wp2_with fail
    refine (tplace_any b n s F _ HF.out hn hm8).mono ?_
    rintro e w2 ⟨y, rfl, hp, b2⟩
    have B2 := Hid.intro b2
    rcases hp.cases with ⟨i, rfl, hi⟩ | rfl
    · have FIN : Hid (Tr.RefTo (F.nd n) s 3) := Hid.intro (.inr ⟨HB.out, .inl ⟨i, hp, rfl⟩⟩)
      clear hp b2
      go_wp2_with fail
      go_ret
      exact ⟨3, rfl, FIN.out, B2.out⟩
    · have c0 := (HF.out.below b2).cSize n hn
      by_cases s8 : (F.nd n).size = 8
      · have FIN : Hid (Tr.RefTo (F.nd n) s 4) := Hid.intro (.inr ⟨HB.out, .inr ⟨hp, .inl ⟨s8, rfl⟩⟩⟩)
        rw [s8] at c0
        have c0' : w2.cell? ⟨b, n * 62 + 3, none⟩ = some (.int .i64 8) := c0
        clear hp b2 s8 c0 hm8
        go_wp2_with fail
        go_ret
        exact ⟨4, rfl, FIN.out, B2.out⟩
      · have FIN : Hid (Tr.RefTo (F.nd n) s 0) := Hid.intro (.inr ⟨HB.out, .inr ⟨hp, .inr ⟨s8, rfl⟩⟩⟩)
        have s8' : (((F.nd n).size : Int) == 8) = false := by simp; omega
        generalize (F.nd n).size = sz at *
        clear hp b2 s8
        go_wp2_with fail
        go_ret
        exact ⟨0, rfl, FIN.out, B2.out⟩
/-- What is wrong with a name that is wanted in a directory. -/
def Tr.WanTo (F : Fo) (z : Int) (s : ByteArray) (E : Int) : Prop := (Tr.isE F z 2 ≠ 0 ∧ E = Tr.isE F z 2) ∨ (Tr.isE F z 2 = 0 ∧ Tr.RefTo (F.nd z.toNat) s E)
set_option maxRecDepth 100000 in
set_option maxHeartbeats 1000000 in
theorem twanted_any (b : Nat) (z : Int) (s : ByteArray) (F : Fo) (w : World) (h : FAt w b F) (hs : Tr.SzOk F) :
    Calls Try.prog 108 #[.pointer (some ⟨b, 0, none⟩), .int .i64 z, .string s] w fun e w' => ∃ E, e = .returned (.tuple #[ptrE b z E, errV E]) ∧ Tr.WanTo F z s E ∧ Below w.heap.size w w' := by
  have HF := Hid.intro h
  by_cases c : Tr.isE F z 2 = 0
  · obtain ⟨n, rfl, n40, _, k2⟩ := Tr.isE_ok c
    have hm8 := hs n n40 k2
    have EP : Hid (Tr.isE F (n : Int) 2 = 0 ∧ ptrE b (n : Int) 0 = .pointer (some ⟨b, n * 62, none⟩)) := Hid.intro ⟨c, ptrE_ok b n⟩
    clear h c hs k2
    go_enter Try.func108, Try.ntmps108
    go_wp2_with fail
    refine (tdir_any b n F _ HF.out).mono ?_
    rintro e w1 ⟨rfl, hw1⟩
    subst w1
    rw [EP.out.1, EP.out.2, errV_zero]
    go_wp2_with fail
    refine (trefuses_any b n s F _ HF.out n40 hm8).mono ?_
    rintro e w2 ⟨E, rfl, hr, b2⟩
    have FIN : Hid (Tr.WanTo F (n : Int) s E ∧ Below w.heap.size w w2) := Hid.intro ⟨.inr ⟨EP.out.1, by rw [Int.toNat_natCast]; exact hr⟩, b2⟩
    clear hr b2
    by_cases e0 : E = 0
    · subst e0
      rw [errV_zero]
      go_wp2_with fail
      go_ret2
      exact ⟨0, by rw [EP.out.2]; rfl, FIN.out⟩
    · have E2 : Hid (ptrE b (n : Int) E = .pointer none ∧ errV E = .iface 128 (.int .i64 E)) := Hid.intro ⟨ptrE_no e0, errV_ne e0⟩
      rw [E2.out.2]
      clear e0
      go_wp2_with fail
      go_ret2
      exact ⟨E, by rw [E2.out.1, E2.out.2]; rfl, FIN.out⟩
  · have E2 : Hid (ptrE b z (Tr.isE F z 2) = .pointer none ∧ errV (Tr.isE F z 2) = .iface 128 (.int .i64 (Tr.isE F z 2)) ∧ Tr.WanTo F z s (Tr.isE F z 2)) := Hid.intro ⟨ptrE_no c, errV_ne c, .inl ⟨c, rfl⟩⟩
    clear h c hs
    go_enter Try.func108, Try.ntmps108
    go_wp2_with fail
    refine (tdir_any b z F _ HF.out).mono ?_
    rintro e w1 ⟨rfl, hw⟩
    subst w1
    rw [E2.out.1, E2.out.2.1]
    go_wp2_with fail
    go_ret2
    exact ⟨_, by rw [E2.out.1, E2.out.2.1]; rfl, E2.out.2.2, Below.refl _ _⟩
end Go.Proofs.Ytfgnhldnmbfnkab

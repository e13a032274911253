/- The code's table: Split, Walk, Last, Raw. -/
import Derived.Test.YthdadmbpnoofoaaGreatDoorMd
namespace Go.Proofs.YthdadmbpnoofoaaGreatDoor
open Go.RowKit
open Tr (Fo Nd)
open Mo (Wh Mt Tb)

theorem Mo.pre47 (p : ByteArray) : Lib.hasPrefix p.data.toList [47] = decide (p.data.toList.head? = some 47) := by
  unfold Lib.hasPrefix
  cases h : p.data.toList with
  | nil => rfl
  | cons c r =>
    rw [Bool.eq_iff_iff]
    simp [List.isPrefixOf]
    exact ⟨fun e => e.symm, fun e => e.symm⟩
theorem Mo.one47 {p : ByteArray} (h : p.data.toList.head? = some 47) : (p.toList == [47]) = decide (p.size = 1) := by
  rw [ByteArray.toList_eq]
  have hl : p.data.toList.length = p.size := Array.length_toList
  cases e : p.data.toList with
  | nil => rw [e] at h; cases h
  | cons c r =>
    rw [e] at h hl
    simp only [List.head?_cons, Option.some.injEq] at h
    subst h
    rw [← hl, Bool.eq_iff_iff]
    simp
theorem Mo.all_ok {L : List ByteArray} (h : ∀ (i : Nat) (s : ByteArray), L[i]? = some s → Mo.okN s = true) : L.all Mo.okN = true := by
  rw [List.all_eq_true]
  intro x hx
  obtain ⟨i, hi, e⟩ := List.getElem_of_mem hx
  exact h i x (by rw [List.getElem?_eq_getElem hi, e])
theorem Mo.all_no {L : List ByteArray} {i : Nat} {s : ByteArray} (hi : L[i]? = some s) (h : Mo.okN s = false) : ¬ L.all Mo.okN = true := fun k => by
  rw [List.all_eq_true] at k
  have := k s (List.mem_of_getElem? hi)
  rw [h] at this
  cases this
theorem NS.nil (w : World) : NS w (.slice none 0 0) [] := ⟨none, 0, rfl, Nat.le_refl _, fun h => absurd rfl h⟩
theorem NS.made (w : World) (L : List ByteArray) : NS (w.alloc (.cells (L.map Value.string).toArray 9)) (.slice (some ⟨w.heap.size, 0, none⟩) L.length L.length) L :=
  ⟨_, _, rfl, Nat.le_refl _, fun _ => ⟨w.heap.size, 0, rfl, fun i s hi => by
    rw [cell_blk (heap_alloc_new w _), Nat.zero_add]
    simp [hi]⟩⟩
set_option maxRecDepth 100000 in
set_option maxHeartbeats 2000000 in
theorem split_any (p : ByteArray) (w : World) :
    Calls Tryz.prog 59 #[.string p] w fun e w' => ∃ vn, e = .returned (.tuple #[vn, errV (Mo.splE p)]) ∧ NS w' vn (Mo.splN p) ∧ Below w.heap.size w w' := by
  by_cases c1 : 60 < p.size
  · have E : Hid (Mo.splE p = 9 ∧ Mo.splN p = []) := Hid.intro (by
      have e : Mo.splE p = 9 := if_pos (.inl c1)
      exact ⟨e, if_neg (by rw [e]; simp)⟩)
    have c1i : 60 < (p.size : Int) := by omega
    go_enter Tryz.func59, Tryz.ntmps59
    go_wp2_with fail
    go_ret2
    rw [E.out.1, E.out.2]
    exact ⟨_, rfl, NS.nil _, Below.refl _ _⟩
  · have c1i : ¬ 60 < (p.size : Int) := by omega
    by_cases c2 : p.data.toList.head? = some 47
    · have P2 : Hid (Lib.hasPrefix p.data.toList [47] = true) := Hid.intro (by rw [Mo.pre47, decide_eq_true c2])
      have O2 := Hid.intro (Mo.one47 c2)
      have HP : Hid (Calls Tryz.prog 97 #[.string p, .string ⟨#[47]⟩] w fun e w' => e = .returned (.bool true) ∧ w' = w) := Hid.intro (by
        have := Tryz.strings_HasPrefix p ⟨#[47]⟩ w
        rw [show Lib.hasPrefix p.data.toList (ByteArray.mk #[47]).data.toList = true from P2.out] at this
        exact this)
      by_cases c3 : p.size = 1
      · have E : Hid (Mo.splE p = 0 ∧ Mo.splN p = []) := Hid.intro ⟨by unfold Mo.splE; rw [if_neg (fun h => h.elim c1 (fun k => k c2)), if_pos c3], if_neg (fun h => h.2 c3)⟩
        have q1 : (p.toList == [47]) = true := by rw [O2.out, decide_eq_true c3]
        clear c3 c2
        go_enter Tryz.func59, Tryz.ntmps59
        go_wp2_with (go_at_call 97; refine HP.out.mono ?_; rintro e w' ⟨rfl, hw'⟩; subst w')
        go_ret2
        rw [E.out.1, E.out.2]
        exact ⟨_, rfl, NS.nil _, Below.refl _ _⟩
      · have E : Hid (Mo.splE p = if (Mo.pcs p).all Mo.okN = true then 0 else 9) := Hid.intro (by unfold Mo.splE; rw [if_neg (fun h => h.elim c1 (fun k => k c2)), if_neg c3])
        have HC3 := Hid.intro c3
        have q1 : (p.toList == [47]) = false := by rw [O2.out, decide_eq_false c3]
        have q2 : 1 ≤ p.size := by
          have hl : p.data.toList.length = p.size := Array.length_toList
          cases e : p.data.toList with
          | nil => rw [e] at c2; cases c2
          | cons a r => rw [e] at hl; simp at hl; omega
        have q3 : (1 : Int) ≤ (p.size : Int) := by omega
        have X : Hid (∀ W : World, Calls Tryz.prog 98 #[.string (p.extract 1 p.size), .string ⟨#[47]⟩] W fun e w' => e = .returned (.slice (some ⟨W.heap.size, 0, none⟩) (Mo.pcs p).length (Mo.pcs p).length) ∧ w' = W.alloc (.cells ((Mo.pcs p).map Value.string).toArray 9)) := Hid.intro (fun W => by
          have h := lsplit_any (p.extract 1 p.size) W (by rw [ByteArray.size_extract]; omega)
          rw [Lib.extract_to_end] at h
          exact h)
        have CLN : Hid (∀ W : World, Calls Tryz.prog 99 #[.string (p.extract 1 p.size)] W fun e w' => e = .returned (.string (p.extract 1 p.size)) ∧ Below W.heap.size W w') := Hid.intro (fun W => tclone_any _ W (by rw [ByteArray.size_extract]; omega))
        have PL := Mo.pcs_len p
        obtain ⟨L, hL⟩ : ∃ L, Mo.pcs p = L := ⟨_, rfl⟩
        have HL := Hid.intro hL
        obtain ⟨q, hq⟩ : ∃ q, p.extract 1 p.size = q := ⟨_, rfl⟩
        have hq' := hq
        rw [hL] at X E PL
        rw [hq] at X CLN
        obtain ⟨N, hN⟩ : ∃ N, L.length = N := ⟨_, rfl⟩
        have HN := Hid.intro hN
        rw [hN] at X PL
        clear c3 c2 hL hN hq'
        have N60 : N ≤ 100 := by omega
        go_enter Tryz.func59, Tryz.ntmps59
        go_wp2_with (go_at_call 97; refine HP.out.mono ?_; rintro e w' ⟨rfl, hw'⟩; subst w')
        refine (CLN.out _).mono ?_
        rintro e W1 ⟨rfl, b1⟩
        have B1 := Hid.intro b1
        clear b1
        go_wp2_with fail
        refine (X.out _).mono ?_
        rintro e W2 ⟨rfl, hW2⟩
        have S2 : Hid (NS W2 (.slice (some ⟨W1.heap.size, 0, none⟩) N N) L ∧ Below w.heap.size w W2 ∧ ∀ (i : Nat) (s : ByteArray), L[i]? = some s → W2.cell? ⟨W1.heap.size, i, none⟩ = some (.string s)) := Hid.intro (by
          have hm := NS.made W1 L
          rw [hW2, ← HN.out]
          refine ⟨hm, B1.out.trans (((Below.refl W1.heap.size W1).alloc (Nat.le_refl _) _).mono B1.out.size), fun i s hi => ?_⟩
          rw [cell_blk (heap_alloc_new W1 _)]
          simp [hi])
        clear hW2 X CLN HP
        generalize W1.heap.size = g at *
        go_wp2_with fail
        go_loop [6, 24] (fun _ i => ∃ j : Nat, i = .int .i64 j ∧ j ≤ N ∧ Hid (∀ (i : Nat) (s : ByteArray), i < j → L[i]? = some s → Mo.okN s = true)) (fun _ i => (N - (intOf i).toNat))
        case atStart => exact ⟨0, rfl, by omega, Hid.intro (fun i s hi => absurd hi (Nat.not_lt_zero i))⟩
        case round =>
          obtain ⟨j, rfl, hj, R⟩ := hrel
          by_cases hlt : j < N
          · have hltI : (j : Int) < (N : Int) := by omega
            obtain ⟨s, hsj⟩ : ∃ s, L[j]? = some s := ⟨L[j]'(by rw [HN.out]; exact hlt), List.getElem?_eq_getElem _⟩
            have cs := S2.out.2.2 j s hsj
            have NX : Hid (Mo.okN s = true → ∀ (i : Nat) (s : ByteArray), i < j + 1 → L[i]? = some s → Mo.okN s = true) := Hid.intro (fun ok i t hi ht => by
              by_cases d : i = j
              · subst d
                rw [hsj] at ht
                cases ht
                exact ok
              · exact R.out i t (by omega) ht)
            have OK : Hid (Mo.okN s = ((s.toList == [46, 46]) || Tr.nameB s)) := Hid.intro rfl
            have HS := Hid.intro hsj
            clear hsj
            by_cases b1 : (s.toList == [46, 46]) = true
            · have b1' : (s.toList != [46, 46]) = false := by simpa using b1
              go_wp2_with fail
              go_round
              case rel => exact ⟨j + 1, by go_num, by omega, Hid.intro (NX.out (by rw [OK.out, b1]; rfl))⟩
              case measure => simp [intOf]; omega
            · have b1' : (s.toList == [46, 46]) = false := by simpa using b1
              have b1'' : (s.toList != [46, 46]) = true := by simpa using b1
              clear b1
              by_cases nb : Tr.nameB s = true
              · go_wp2_with (go_at_call 100; refine (tName_any s _).mono ?_; rintro e w' ⟨rfl, hw'⟩; subst w'; rw [nb])
                go_round
                case rel => exact ⟨j + 1, by go_num, by omega, Hid.intro (NX.out (by rw [OK.out, nb]; simp))⟩
                case measure => simp [intOf]; omega
              · have nb' : Tr.nameB s = false := by simpa using nb
                have FIN : Hid (Mo.splE p = 9 ∧ Mo.splN p = []) := Hid.intro (by
                  have e : Mo.splE p = 9 := by rw [E.out, if_neg (Mo.all_no HS.out (by rw [OK.out, b1', nb']; rfl))]
                  exact ⟨e, if_neg (by rw [e]; simp)⟩)
                go_wp2_with (go_at_call 100; refine (tName_any s _).mono ?_; rintro e w' ⟨rfl, hw'⟩; subst w'; rw [nb'])
                go_ret2
                rw [FIN.out.1, FIN.out.2]
                exact ⟨_, rfl, NS.nil _, S2.out.2.1⟩
          · have hltI : ¬ (j : Int) < (N : Int) := by omega
            have FIN : Hid (Mo.splE p = 0 ∧ Mo.splN p = L) := Hid.intro (by
              have e : Mo.splE p = 0 := by
                rw [E.out, if_pos (Mo.all_ok (fun i s hi => R.out i s (by have := (List.getElem?_eq_some_iff.1 hi).1; rw [HN.out] at this; omega) hi))]
              exact ⟨e, by unfold Mo.splN; rw [if_pos ⟨e, HC3.out⟩, HL.out]⟩)
            go_wp2_with fail
            go_ret2
            rw [FIN.out.1, FIN.out.2]
            exact ⟨_, rfl, S2.out.1, S2.out.2.1⟩
    · have P2 : Hid (Lib.hasPrefix p.data.toList [47] = false) := Hid.intro (by rw [Mo.pre47, decide_eq_false c2])
      have HP : Hid (Calls Tryz.prog 97 #[.string p, .string ⟨#[47]⟩] w fun e w' => e = .returned (.bool false) ∧ w' = w) := Hid.intro (by
        have := Tryz.strings_HasPrefix p ⟨#[47]⟩ w
        rw [show Lib.hasPrefix p.data.toList (ByteArray.mk #[47]).data.toList = false from P2.out] at this
        exact this)
      have E : Hid (Mo.splE p = 9 ∧ Mo.splN p = []) := Hid.intro (by
        have e : Mo.splE p = 9 := if_pos (.inr c2)
        exact ⟨e, if_neg (by rw [e]; simp)⟩)
      clear c2
      go_enter Tryz.func59, Tryz.ntmps59
      go_wp2_with (go_at_call 97; refine HP.out.mono ?_; rintro e w' ⟨rfl, hw'⟩; subst w')
      go_ret2
      rw [E.out.1, E.out.2]
      exact ⟨_, rfl, NS.nil _, Below.refl _ _⟩
end Go.Proofs.YthdadmbpnoofoaaGreatDoor

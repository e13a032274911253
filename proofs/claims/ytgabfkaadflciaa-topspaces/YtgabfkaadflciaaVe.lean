/- The code's table: members, Members, All, above. -/
import Derived.Test.YtgabfkaadflciaaVd
namespace Go.Proofs.Ytgabfkaadflciaa
open Go.RowKit
open Sp (T)

/-- A slice that the call owns: the numbers of L. -/
structure LO (w : World) (L : List Nat) (v : Value) (wr : World) : Prop where
  bel : Below w.heap.size w wr
  own : wr.ownsRow w.heap.size 3 1 v L.length (rowOf L)
theorem LO.nil (w : World) : LO w [] (.slice none 0 0) w := ⟨Below.refl _ _, World.ownsRow_nil _ _ _ _⟩
theorem LO.more {w w1 wr : World} {L : List Nat} {gg cap N x : Nat} {l : Value} (h : LO w L l wr) (hN : L.length = N) (hl : w1.ownsRow w.heap.size 3 1 (.slice (some ⟨gg, 0, none⟩) (N + 1) cap) (N + 1) (rowOf L ++ [.int .i64 x])) (o : Obj) (hg : (wr.alloc o).grownBy w1 l.ownBlock) :
    LO w (L ++ [x]) (.slice (some ⟨gg, 0, none⟩) (N + 1) cap) w1 := by
  have hs := h.bel.size
  refine ⟨(h.bel.alloc hs o).grown hg (by simp; omega) (fun k e => (h.own.lt k e).1), ?_⟩
  have e2 : rowOf (L ++ [x]) = rowOf L ++ [.int .i64 x] := by simp [rowOf]
  rw [e2, show (L ++ [x]).length = N + 1 by simp [hN]]
  exact hl

/-- Who has a number, up to the k-th. -/
def memK (t : T) (n k : Nat) : List Nat := ((List.range k).filter (Sp.memP t n)).map (fun p => t.who n p - 1)
theorem memK_all (t : T) (n : Nat) : memK t n 21 = Sp.memb t n := rfl
theorem memK_yes {t : T} {n k : Nat} (h : t.who n k ≠ 0) : memK t n (k + 1) = memK t n k ++ [t.who n k - 1] := by
  unfold memK
  rw [List.range_succ, List.filter_append, List.map_append]
  simp [Sp.memP, h]
theorem memK_no {t : T} {n k : Nat} (h : t.who n k = 0) : memK t n (k + 1) = memK t n k := by
  unfold memK
  rw [List.range_succ, List.filter_append, List.map_append]
  simp [Sp.memP, h]
theorem memK_len (t : T) (n k : Nat) : (memK t n k).length ≤ k := by
  have := List.length_filter_le (Sp.memP t n) (List.range k)
  simpa [memK] using this
/-- The row of a space's numbers. -/
def rowW (t : T) (n : Nat) : List Value := (List.range 21).map (fun p => Value.int .i64 ((t.who n p : Int) - 1))
theorem rowW_len (t : T) (n : Nat) : (rowW t n).length = 21 := by simp [rowW]
theorem Tb.rangeW {w : World} {b n : Nat} {t : T} (h : Tb true w b t) (hn : n < 6) (hh : t.here n = true) : w.rangeAt b (n * 23 + 2) (rowW t n) := fun j v hv => by
  have hj : j < 21 := by have := (List.getElem?_eq_some_iff.1 hv).1; rwa [rowW_len] at this
  rw [h.whoC n j hn hj hh]
  simp [rowW, hj] at hv
  rw [hv]
theorem index_rowW (t : T) (n k : Nat) (hk : k < 21) (w : World) : Sem.run Try.prog (Instr.index 155 (Value.agg (rowW t n).toArray) (Value.int IntKind.i64 k)) w = .ok (.int .i64 ((t.who n k : Int) - 1)) w := by
  have hu : Try.prog.underlying 155 = some (.array 21 3) := by kernel_rfl
  have h1 : (k : Int) < 21 := by omega
  have hx : (rowW t n)[k]? = some (.int .i64 ((t.who n k : Int) - 1)) := by simp [rowW, hk]
  simp [Instr.index, Sem.run_bind, run_underlying hu, go_sem, hx, hk]

set_option maxRecDepth 100000 in
set_option maxHeartbeats 1000000 in
theorem members_any (b n : Nat) (t : T) (w : World) (h : Tb true w b t) (hn : n < 6) (hh : t.here n = true) :
    Calls Try.prog 128 #[.pointer (some ⟨b, n * 23, none⟩)] w fun e w' => ∃ v, e = .returned v ∧ LO w (Sp.memb t n) v w' := by
  obtain ⟨i0, hi, hz0, hz1, hz2⟩ := info_parts info3
  have HR := Hid.intro (h.rangeW hn hh)
  have hsz : Hid ((Try.prog.info? 155).map (·.size) = some (rowW t n).length) := Hid.intro (by rw [rowW_len]; kernel_rfl)
  clear h hh
  go_enter Try.func128, Try.ntmps128
  go_wp2_with (refine wpList_load_mid rfl 155 _ rfl b (n * 23 + 2) rfl (rowW t n) (.array 21 3) HR.out (by kernel_rfl) rfl hsz.out ?_)
  go_loopw [3, 10] (fun l i wr => ∃ (k : Nat), i = .int .i64 k ∧ k ≤ 21 ∧ Hid (LO w (memK t n k) l wr)) (fun _ i _ => 21 - (intOf i).toNat)
  case atStart => exact ⟨0, rfl, by omega, LO.nil w⟩
  case round =>
    obtain ⟨k, rfl, hk, R⟩ := hrel
    by_cases hlt : k < 21
    · have hltI : (k : Int) < 21 := by omega
      have hix := index_rowW t n k hlt wr
      by_cases c : t.who n k = 0
      · have HM := Hid.intro (memK_no c)
        rw [c] at hix
        have hix' : Sem.run Try.prog (Instr.index 155 (Value.agg (rowW t n).toArray) (Value.int IntKind.i64 k)) wr = .ok (.int .i64 (-1)) wr := hix
        clear c hix
        go_wp2_with fail
        go_roundw
        case rel => exact ⟨k + 1, by go_num, by omega, by rw [HM.out]; exact R⟩
        case measure => simp [intOf]; omega
      · have HM := Hid.intro (memK_yes c)
        obtain ⟨x, hx⟩ : ∃ x, t.who n k - 1 = x := ⟨_, rfl⟩
        rw [hx] at HM
        rw [show (t.who n k : Int) - 1 = (x : Int) by omega] at hix
        have hne := neg1_ne x
        obtain ⟨a, cap, hv⟩ := own_form R.out.own
        rw [hv]
        have HV := Hid.intro hv
        have hlm := memK_len t n k
        generalize hN : (memK t n k).length = N at *
        have HN := Hid.intro hN
        clear hv hN c hx
        go_wp2_with (at_builtin; refine wpList_append_lies _ rfl _ _ 47 (by rfl) w.heap.size 3 i0 (.int .i64 0) 1 8 Try.underlying47 hi hz0 hz1 hz2 rfl (by decide) (.slice a N cap) N (rowOf (memK t n k)) (by rfl) (by rw [← HV.out, ← HN.out]; exact R.out.own.alloc _) ⟨wr.heap.size, 0, none⟩ 1 1 [.int .i64 x] (by rfl) rfl (cell_one_new _ _ _) (by simp [Value.oneCell']) (by decide) (by unfold maxLen; omega) (by omega) (by have := R.out.bel.size; simp; omega) (wr.heap.size + 1) (by simp) ?_; intro gg cap2 w1 hown hgrow hat hlt2; have Q1 : Hid (LO w (memK t n k ++ [x]) (.slice (some ⟨gg, 0, none⟩) (N + 1) cap2) w1) := R.out.more HN.out hown _ (by rw [HV.out]; exact hgrow); clear hown hgrow hat hlt2)
        go_roundw
        case rel => exact ⟨k + 1, by go_num, by omega, by rw [HM.out]; exact Q1⟩
        case measure => simp [intOf]; omega
    · have hk21 : k = 21 := by omega
      subst hk21
      go_wp2
      go_ret
      exact ⟨_, rfl, R.out⟩

/-- What Members answers. -/
def membL (t : T) (z : Int) : List Nat := if Sp.isE t z = 0 then Sp.memb t z.toNat else []
set_option maxRecDepth 100000 in
set_option maxHeartbeats 400000 in
theorem membersT_any (b : Nat) (z : Int) (t : T) (w : World) (h : Tb true w b t) :
    Calls Try.prog 137 #[.pointer (some ⟨b, 0, none⟩), .int .i64 z] w fun e w' => ∃ v, e = .returned (.tuple #[v, errV (Sp.isE t z)]) ∧ LO w (membL t z) v w' := by
  have HF := Hid.intro h
  by_cases k : Sp.isE t z = 0
  · have HK := Hid.intro k
    obtain ⟨n, rfl, hn, hh⟩ := Sp.isE_zero k
    have HH := Hid.intro hh
    have hnI : (n : Int) < 6 := by omega
    clear h k hh
    go_enter Try.func137, Try.ntmps137
    go_wp2_with fail
    refine (wrong_any b n t _ HF.out).mono ?_
    rintro e w1 ⟨rfl, hw⟩
    subst w1
    rw [HK.out, errV_zero]
    go_wp2_with fail
    refine (members_any b n t _ HF.out hn HH.out).mono ?_
    rintro e w1 ⟨v, rfl, hL⟩
    have HL := Hid.intro hL
    clear hL
    go_wp2_with fail
    go_ret2
    exact ⟨v, by rw [HK.out]; rfl, by unfold membL; rw [if_pos HK.out, Int.toNat_natCast]; exact HL.out⟩
  · have HW := Hid.intro k
    clear h k
    go_enter Try.func137, Try.ntmps137
    go_wp2_with fail
    refine (wrong_any b z t _ HF.out).mono ?_
    rintro e w1 ⟨rfl, hw⟩
    subst w1
    rw [errV_ne HW.out]
    go_wp2
    go_ret2
    exact ⟨_, by rw [errV_ne HW.out]; rfl, by unfold membL; rw [if_neg HW.out]; exact LO.nil w⟩

/-- The spaces that there are, up to the k-th. -/
def allK (t : T) (k : Nat) : List Nat := (List.range k).filter t.here
theorem allK_yes {t : T} {k : Nat} (h : t.here k = true) : allK t (k + 1) = allK t k ++ [k] := by
  unfold allK
  rw [List.range_succ, List.filter_append]
  simp [h]
theorem allK_no {t : T} {k : Nat} (h : t.here k = false) : allK t (k + 1) = allK t k := by
  unfold allK
  rw [List.range_succ, List.filter_append]
  simp [h]
theorem allK_len (t : T) (k : Nat) : (allK t k).length ≤ k := by
  have := List.length_filter_le t.here (List.range k)
  simpa [allK] using this
set_option maxRecDepth 100000 in
set_option maxHeartbeats 1000000 in
theorem all_any (b : Nat) (t : T) (w : World) (h : Tb true w b t) :
    Calls Try.prog 140 #[.pointer (some ⟨b, 0, none⟩)] w fun e w' => ∃ v, e = .returned v ∧ LO w (Sp.all t) v w' := by
  obtain ⟨i0, hi, hz0, hz1, hz2⟩ := info_parts info3
  have H := Hid.intro h
  clear h
  go_enter Try.func140, Try.ntmps140
  go_wp2_with fail
  go_loopw [3, 5] (fun l i wr => ∃ (k : Nat), i = .int .i64 k ∧ k ≤ 6 ∧ Hid (LO w (allK t k) l wr)) (fun _ i _ => 6 - (intOf i).toNat)
  case atStart => exact ⟨0, rfl, by omega, LO.nil w⟩
  case round =>
    obtain ⟨k, rfl, hk, R⟩ := hrel
    by_cases hlt : k < 6
    · have hltI : (k : Int) < 6 := by omega
      have c0 := (H.out.below R.out.bel).cHere k hlt
      cases hth : t.here k
      · have HM := Hid.intro (allK_no hth)
        rw [hth] at c0
        clear hth
        go_wp2_with fail
        go_roundw
        case rel => exact ⟨k + 1, by go_num, by omega, by rw [HM.out]; exact R⟩
        case measure => simp [intOf]; omega
      · have HM := Hid.intro (allK_yes hth)
        rw [hth] at c0
        obtain ⟨a, cap, hv⟩ := own_form R.out.own
        rw [hv]
        have HV := Hid.intro hv
        have hlm := allK_len t k
        generalize hN : (allK t k).length = N at *
        have HN := Hid.intro hN
        clear hv hN hth
        go_wp2_with (at_builtin; refine wpList_append_lies _ rfl _ _ 47 (by rfl) w.heap.size 3 i0 (.int .i64 0) 1 8 Try.underlying47 hi hz0 hz1 hz2 rfl (by decide) (.slice a N cap) N (rowOf (allK t k)) (by rfl) (by rw [← HV.out, ← HN.out]; exact R.out.own.alloc _) ⟨wr.heap.size, 0, none⟩ 1 1 [.int .i64 k] (by rfl) rfl (cell_one_new _ _ _) (by simp [Value.oneCell']) (by decide) (by unfold maxLen; omega) (by omega) (by have := R.out.bel.size; simp; omega) (wr.heap.size + 1) (by simp) ?_; intro gg cap2 w1 hown hgrow hat hlt2; have Q1 : Hid (LO w (allK t k ++ [k]) (.slice (some ⟨gg, 0, none⟩) (N + 1) cap2) w1) := R.out.more HN.out hown _ (by rw [HV.out]; exact hgrow); clear hown hgrow hat hlt2)
        go_roundw
        case rel => exact ⟨k + 1, by go_num, by omega, by rw [HM.out]; exact Q1⟩
        case measure => simp [intOf]; omega
    · have hk6 : k = 6 := by omega
      subst hk6
      go_wp2
      go_ret
      exact ⟨_, rfl, R.out⟩
end Go.Proofs.Ytgabfkaadflciaa

/- The document's own mounts: NamesOf. -/
import Derived.Test.YthdadmbpnoofoaaGreatDoorMd
import Derived.Test.YthdadmbpnoofoaaGreatDoorMe
import Derived.Test.YthdadmbpnoofoaaGreatDoorYf
namespace Go.Proofs.YthdadmbpnoofoaaGreatDoor
open Go.RowKit
open Tr (Fo Nd)
open Mo (Wh Mt Tb)

namespace Mo
/-- The pieces of a path up to i; the last one begins at fr. -/
def NI (p : ByteArray) (L : List ByteArray) (fr i : Nat) : Prop := L.all okN = true ∧ L.length ≤ i ∧ 1 ≤ fr ∧ fr ≤ i ∧ ((i ≤ p.size ∧ pcs p = L ++ (cutL (p.data.toList.drop fr)).map ba ∧ ∀ c ∈ (p.data.toList.drop fr).take (i - fr), c ≠ 47) ∨ (i = p.size + 1 ∧ pcs p = L))
theorem NI.start {p : ByteArray} (h : 1 ≤ p.size) : NI p [] 1 1 := ⟨rfl, by simp, by omega, by omega, .inl ⟨h, rfl, fun c hc => by simp at hc⟩⟩
theorem piece_data (p : ByteArray) (fr i : Nat) : (p.extract fr i).data.toList = (p.data.toList.drop fr).take (i - fr) := by rw [extract_toList, List.drop_take]
theorem NI.go {p : ByteArray} {L : List ByteArray} {fr i : Nat} (h : NI p L fr i) (hi : i < p.size) (hc : p[i]'hi ≠ 47) : NI p L fr (i + 1) := by
  obtain ⟨h1, h2, h3, h4, h5⟩ := h
  refine ⟨h1, by omega, h3, by omega, .inl ?_⟩
  rcases h5 with ⟨_, h6, h7⟩ | ⟨e, _⟩
  · refine ⟨by omega, h6, fun c hm => ?_⟩
    have hl : p.data.toList.length = p.size := Array.length_toList
    have hlt : i - fr < (p.data.toList.drop fr).length := by rw [List.length_drop]; omega
    rw [show i + 1 - fr = (i - fr) + 1 by omega, List.take_add_one, List.mem_append] at hm
    rcases hm with hm | hm
    · exact h7 c hm
    · rw [List.getElem?_eq_getElem hlt] at hm
      simp only [Option.toList_some, List.mem_singleton] at hm
      rw [hm, List.getElem_drop]
      have e : p.data.toList[fr + (i - fr)]'(by omega) = p[i]'hi := by
        have : fr + (i - fr) = i := by omega
        simp only [this]
        rfl
      rw [e]
      exact hc
  · omega
theorem NI.piece {p : ByteArray} {L : List ByteArray} {fr i : Nat} (h : NI p L fr i) (hi : i ≤ p.size) (hc : ∀ hi : i < p.size, p[i]'hi = 47) : (i < p.size ∧ pcs p = (L ++ [p.extract fr i]) ++ (cutL (p.data.toList.drop (i + 1))).map ba) ∨ (i = p.size ∧ pcs p = L ++ [p.extract fr i]) := by
  obtain ⟨h1, h2, h3, h4, h5⟩ := h
  have hl : p.data.toList.length = p.size := Array.length_toList
  rcases h5 with ⟨_, h6, h7⟩ | ⟨e, _⟩
  · have hb : ba ((p.data.toList.drop fr).take (i - fr)) = p.extract fr i := bytes_ext (by rw [ba_data, piece_data])
    by_cases c : i < p.size
    · refine .inl ⟨c, ?_⟩
      have e : p.data.toList.drop fr = (p.data.toList.drop fr).take (i - fr) ++ 47 :: p.data.toList.drop (i + 1) := by
        conv => lhs; rw [← List.take_append_drop (i - fr) (p.data.toList.drop fr)]
        rw [List.drop_drop, show fr + (i - fr) = i by omega, List.drop_eq_getElem_cons (show i < p.data.toList.length by omega)]
        congr 2
        exact hc c
      rw [h6]
      conv => lhs; rw [e]
      rw [cutL_app, cutL_no _ h7, List.map_append, List.map_singleton, hb, List.append_assoc]
    · refine .inr ⟨by omega, ?_⟩
      have e : (p.data.toList.drop fr).take (i - fr) = p.data.toList.drop fr := List.take_of_length_le (by rw [List.length_drop]; omega)
      rw [h6, ← hb, e, cutL_no _ (by rw [e] at h7; exact h7)]
      rfl
  · omega
theorem NI.cut {p : ByteArray} {L : List ByteArray} {fr i : Nat} (h : NI p L fr i) (hi : i ≤ p.size) (hc : ∀ hi : i < p.size, p[i]'hi = 47) (ok : okN (p.extract fr i) = true) : NI p (L ++ [p.extract fr i]) (i + 1) (i + 1) := by
  have hp := h.piece hi hc
  obtain ⟨h1, h2, h3, h4, h5⟩ := h
  refine ⟨by rw [List.all_append, h1, List.all_cons, List.all_nil, ok]; rfl, by rw [List.length_append, List.length_singleton]; omega, by omega, by omega, ?_⟩
  rcases hp with ⟨c, e⟩ | ⟨c, e⟩
  · exact .inl ⟨by omega, e, fun c hm => by simp at hm⟩
  · exact .inr ⟨by omega, e⟩
theorem NI.bad {p : ByteArray} {L : List ByteArray} {fr i : Nat} (h : NI p L fr i) (hi : i ≤ p.size) (hc : ∀ hi : i < p.size, p[i]'hi = 47) (no : okN (p.extract fr i) = false) : ¬ (pcs p).all okN = true := by
  rcases h.piece hi hc with ⟨_, e⟩ | ⟨_, e⟩
  · rw [e, List.all_append, List.all_append, List.all_cons, no]
    simp
  · rw [e, List.all_append, List.all_cons, no]
    simp
theorem NI.fin {p : ByteArray} {L : List ByteArray} {fr i : Nat} (h : NI p L fr i) (hi : ¬ i ≤ p.size) : pcs p = L ∧ L.all okN = true := by
  obtain ⟨h1, _, _, _, h5⟩ := h
  rcases h5 with ⟨c, _⟩ | ⟨_, e⟩
  · exact absurd c hi
  · exact ⟨e, h1⟩
theorem head47 {p : ByteArray} (h : 0 < p.size) : p.data.toList.head? = some 47 ↔ p[0]'h = 47 := by
  have hl : p.data.toList.length = p.size := Array.length_toList
  have e : p.data.toList.head? = some (p[0]'h) := by
    rw [List.head?_eq_getElem?, List.getElem?_eq_getElem (show 0 < p.data.toList.length by omega)]
    rfl
  rw [e]
  exact ⟨fun k => Option.some.inj k, fun k => by rw [k]⟩
theorem u8_eq (c : UInt8) : c = 47 ↔ ((c.toNat : Nat) : Int) = 47 := by
  constructor
  · rintro rfl; rfl
  · intro h
    have : c.toNat = 47 := by omega
    exact UInt8.toNat.inj this
end Mo
theorem SO.ns {w W : World} {L : List ByteArray} {v : Value} (h : SO w L v W) : NS W v L := by
  by_cases hl : 0 < L.length
  · have ho := h.own
    obtain ⟨gg, cap, hv, hgb, hg⟩ := ho.form hl
    rw [hv] at ho
    refine ⟨_, cap, hv, ?_, fun _ => ⟨gg, 0, rfl, fun i s hi => ?_⟩⟩
    · rcases ho.2 with ⟨e, _⟩ | ⟨g, c, cur, e, _, _, h1, _⟩
      · cases e
      · cases e; exact h1
    · have hi' := (List.getElem?_eq_some_iff.1 hi).1
      rw [Nat.zero_add, ho.cellAt i (by omega)]
      simp [stC, hi]
  · have e : L = [] := List.eq_nil_of_length_eq_zero (by omega)
    subst e
    rw [h.nil rfl]
    exact NS.nil _
set_option maxRecDepth 100000 in
set_option maxHeartbeats 2000000 in
theorem rnames_any (p : ByteArray) (w : World) :
    Calls Tryz.prog 60 #[.string p] w fun e w' => ∃ vn, e = .returned (.tuple #[vn, .int .i64 (Mo.splE p)]) ∧ NS w' vn (Mo.splN p) ∧ Below w.heap.size w w' := by
  by_cases c1 : 60 < p.size
  · have E : Hid (Mo.splE p = 9 ∧ Mo.splN p = []) := Hid.intro (by
      have e : Mo.splE p = 9 := if_pos (.inl c1)
      exact ⟨e, if_neg (by rw [e]; simp)⟩)
    have c1i : 60 < (p.size : Int) := by omega
    go_enter Tryz.func60, Tryz.ntmps60
    go_wp2_with fail
    go_ret2
    rw [E.out.1, E.out.2]
    exact ⟨_, rfl, NS.nil _, Below.refl _ _⟩
  have c1i : ¬ 60 < (p.size : Int) := by omega
  by_cases c0 : p.size = 0
  · have E : Hid (Mo.splE p = 9 ∧ Mo.splN p = []) := Hid.intro (by
      have hn : p.data.toList.head? ≠ some 47 := by
        have hl : p.data.toList.length = p.size := Array.length_toList
        rw [List.eq_nil_of_length_eq_zero (hl.trans c0)]
        simp
      have e : Mo.splE p = 9 := if_pos (.inr hn)
      exact ⟨e, if_neg (by rw [e]; simp)⟩)
    have c0i : ((p.size : Int) == 0) = true := by simp [c0]
    go_enter Tryz.func60, Tryz.ntmps60
    go_wp2_with fail
    go_ret2
    rw [E.out.1, E.out.2]
    exact ⟨_, rfl, NS.nil _, Below.refl _ _⟩
  have c0i : ((p.size : Int) == 0) = false := by simpa using c0
  have p0 : 0 < p.size := by omega
  have p0i : (0 : Int) < (p.size : Int) := by omega
  by_cases c2 : p[0]'p0 = 47
  case neg =>
    have E : Hid (Mo.splE p = 9 ∧ Mo.splN p = []) := Hid.intro (by
      have e : Mo.splE p = 9 := if_pos (.inr (fun h => c2 ((Mo.head47 p0).1 h)))
      exact ⟨e, if_neg (by rw [e]; simp)⟩)
    have c2i : (((p[0]'p0).toNat : Int) == 47) = false := by
      have := mt (Mo.u8_eq _).2 c2
      simpa using this
    go_enter Tryz.func60, Tryz.ntmps60
    go_wp2_with fail
    go_ret2
    rw [E.out.1, E.out.2]
    exact ⟨_, rfl, NS.nil _, Below.refl _ _⟩
  have c2i : (((p[0]'p0).toNat : Int) == 47) = true := by rw [(Mo.u8_eq _).1 c2]; rfl
  have H47 := Hid.intro ((Mo.head47 p0).2 c2)
  by_cases c3 : p.size = 1
  · have E : Hid (Mo.splE p = 0 ∧ Mo.splN p = []) := Hid.intro ⟨by unfold Mo.splE; rw [if_neg (fun h => h.elim c1 (fun k => k H47.out)), if_pos c3], if_neg (fun h => h.2 c3)⟩
    have c3i : ((p.size : Int) == 1) = true := by simp [c3]
    go_enter Tryz.func60, Tryz.ntmps60
    go_wp2_with fail
    go_ret2
    rw [E.out.1, E.out.2]
    exact ⟨_, rfl, NS.nil _, Below.refl _ _⟩
  have c3i : ((p.size : Int) == 1) = false := by simp; omega
  have EE : Hid (Mo.splE p = if (Mo.pcs p).all Mo.okN = true then 0 else 9) := Hid.intro (by unfold Mo.splE; rw [if_neg (fun h => h.elim c1 (fun k => k H47.out)), if_neg c3])
  have HC3 := Hid.intro c3
  obtain ⟨i0, hi0, hz0, hz1, hz2⟩ := infoSt
  have p60 : p.size ≤ 60 := by omega
  go_enter Tryz.func60, Tryz.ntmps60
  go_wp2_with fail
  clear c1i c0i p0i c2i c3i c2 c3 c0
  go_loopw [4, 5, 6, 7, 8] (fun vl vf vi _ _ wr => ∃ (fr i : Nat) (L : List ByteArray), vf = .int .i64 fr ∧ vi = .int .i64 i ∧ i ≤ p.size + 1 ∧ Hid (SO w L vl wr) ∧ Hid (Mo.NI p L fr i)) (fun _ _ i _ _ _ => p.size + 1 - (intOf i).toNat)
  case atStart => exact ⟨1, 1, [], rfl, rfl, by omega, Hid.intro (SO.start w), Hid.intro (Mo.NI.start p0)⟩
  case round =>
    obtain ⟨fr, i, L, rfl, rfl, hi, S, NI⟩ := hrel
    have fi : fr ≤ i := NI.out.2.2.2.1
    have f1 : 1 ≤ fr := NI.out.2.2.1
    have li : L.length ≤ i := NI.out.2.1
    by_cases hle : i ≤ p.size
    · have hleI : (i : Int) ≤ (p.size : Int) := by omega
      by_cases hA : ∃ h : i < p.size, p[i]'h ≠ 47
      · obtain ⟨hlt, hne⟩ := hA
        have hltI : (i : Int) < (p.size : Int) := by omega
        have cb : (((p[i]'hlt).toNat : Int) == 47) = false := by
          have := mt (Mo.u8_eq _).2 hne
          simpa using this
        have NX := Hid.intro (NI.out.go hlt hne)
        clear hne
        go_wp2_with fail
        go_roundw
        case rel => exact ⟨fr, i + 1, L, rfl, by go_num, by omega, S, NX⟩
        case measure => simp [intOf]; omega
      · have hc : ∀ h : i < p.size, p[i]'h = 47 := fun h => by
          by_cases c : p[i]'h = 47
          · exact c
          · exact absurd ⟨h, c⟩ hA
        have CUT := Hid.intro (fun ok => NI.out.cut hle hc ok)
        have BAD := Hid.intro (fun no => NI.out.bad hle hc no)
        have frI : (fr : Int) ≤ (i : Int) := by omega
        obtain ⟨va, vc, hv⟩ := S.out.form
        obtain ⟨N, hN⟩ : ∃ N, L.length = N := ⟨_, rfl⟩
        have LL := Hid.intro hN
        rw [hN] at hv li
        subst hv
        clear hA hN NI
        by_cases hB : i < p.size
        case' pos =>
          have hltI : (i : Int) < (p.size : Int) := by omega
          have cb : (((p[i]'hB).toNat : Int) == 47) = true := by rw [(Mo.u8_eq _).1 (hc hB)]; rfl
          clear hc
          go_wp2_with fail
        case' neg =>
          have hltI : ¬ (i : Int) < (p.size : Int) := by omega
          clear hc
          go_wp2_with fail
        all_goals
          refine (rname_any (p.extract fr i) _).mono ?_
          rintro e w1 ⟨rfl, hw1⟩
          subst w1
          generalize p.extract fr i = s at *
          cases hnb : Tr.nameB s
          · cases hbk : (s.toList == [46, 46])
            · have E : Hid (Mo.splE p = 9 ∧ Mo.splN p = []) := Hid.intro (by
                have e : Mo.splE p = 9 := by rw [EE.out, if_neg (BAD.out (by unfold Mo.okN Mo.isBk; rw [hbk, hnb]; rfl))]
                exact ⟨e, if_neg (by rw [e]; simp)⟩)
              go_wp2_with fail
              go_ret2
              rw [E.out.1, E.out.2]
              exact ⟨_, rfl, NS.nil _, S.out.bel⟩
            · as_aux_lemma =>
              have NX := Hid.intro (CUT.out (by unfold Mo.okN Mo.isBk; rw [hbk]; rfl))
              go_wp2_with (at_builtin; refine wpList_append_lies _ rfl _ _ 28 (by rfl) w.heap.size 9 i0 (.string ⟨#[]⟩) 1 16 Tryz.underlying28 hi0 hz0 hz1 hz2 rfl (by decide) (.slice va N vc) N (stC L) (by rfl) (by have := S.out.own; rw [LL.out] at this; exact this.alloc _) ⟨wr.heap.size, 0, none⟩ 1 1 [.string s] (by rfl) rfl (World.news_of_block (heap_alloc_new wr _)) (by simp [Value.oneCell']) (by decide) (by unfold maxLen; omega) (by omega) (by have := S.out.bel.size; simp; omega) (wr.heap.size + 1) (by simp) ?_; intro gg cap2 w2 hown hgrow hat hlt2; have Q1 := Hid.intro (S.out.more s LL.out hown _ hgrow); clear hown hgrow hat hlt2)
              go_roundw
              case rel => exact ⟨i + 1, i + 1, L ++ [s], by go_num, by go_num, by omega, Q1, NX⟩
              case measure => simp [intOf]; omega
          · as_aux_lemma =>
            have NX := Hid.intro (CUT.out (by unfold Mo.okN; rw [hnb]; exact Bool.or_true _))
            go_wp2_with (at_builtin; refine wpList_append_lies _ rfl _ _ 28 (by rfl) w.heap.size 9 i0 (.string ⟨#[]⟩) 1 16 Tryz.underlying28 hi0 hz0 hz1 hz2 rfl (by decide) (.slice va N vc) N (stC L) (by rfl) (by have := S.out.own; rw [LL.out] at this; exact this.alloc _) ⟨wr.heap.size, 0, none⟩ 1 1 [.string s] (by rfl) rfl (World.news_of_block (heap_alloc_new wr _)) (by simp [Value.oneCell']) (by decide) (by unfold maxLen; omega) (by omega) (by have := S.out.bel.size; simp; omega) (wr.heap.size + 1) (by simp) ?_; intro gg cap2 w2 hown hgrow hat hlt2; have Q1 := Hid.intro (S.out.more s LL.out hown _ hgrow); clear hown hgrow hat hlt2)
            go_roundw
            case rel => exact ⟨i + 1, i + 1, L ++ [s], by go_num, by go_num, by omega, Q1, NX⟩
            case measure => simp [intOf]; omega
    · have hleI : ¬ (i : Int) ≤ (p.size : Int) := by omega
      have E : Hid (Mo.splE p = 0 ∧ Mo.splN p = L) := Hid.intro (by
        obtain ⟨e1, e2⟩ := NI.out.fin hle
        have e : Mo.splE p = 0 := by rw [EE.out, e1, if_pos e2]
        exact ⟨e, by unfold Mo.splN; rw [if_pos ⟨e, HC3.out⟩, e1]⟩)
      obtain ⟨va, vc, hv⟩ := S.out.form
      subst hv
      go_wp2_with fail
      go_ret2
      rw [E.out.1, E.out.2]
      exact ⟨_, rfl, S.out.ns, S.out.bel⟩
end Go.Proofs.YthdadmbpnoofoaaGreatDoor

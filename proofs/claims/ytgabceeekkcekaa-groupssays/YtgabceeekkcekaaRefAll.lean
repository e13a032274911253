/- The walk of the document's own All: the numbers in the order of a queue. -/
import Derived.Test.YtgabceeekkcekaaRef
import Derived.Test.YtgabceeekkcekaaSrt
import Derived.Deep.AppendLies
namespace Go.Proofs.Ytgabceeekkcekaa
open Go.RowKit
open Hp (Q)

def rowOf (L : List Nat) : List Value := L.map fun (x : Nat) => Value.int .i64 x
theorem rowOf_len (L : List Nat) : (rowOf L).length = L.length := by simp [rowOf]
theorem rowOf_at (L : List Nat) (t x : Nat) (h : L[t]? = some x) : (rowOf L)[t]? = some (.int .i64 x) := by simp [rowOf, h]
theorem rowOf_set (L : List Nat) (t x : Nat) : (rowOf L).set t (.int .i64 x) = rowOf (L.set t x) := by simp [rowOf, List.map_set]
theorem info3 : (Try.prog.info? 3).map (fun i => (i.zero, i.size, i.bytes)) = some (some (.int .i64 0), 1, 8) := by kernel_rfl
theorem own_form {w : World} {base : Nat} {v : Value} {n : Nat} {xs : List Value} (h : w.ownsRow base 3 1 v n xs) : ∃ a cap, v = .slice a n cap := by
  rcases h.2 with ⟨rfl, rfl⟩ | ⟨g, cap, _, rfl, _⟩
  · exact ⟨none, 0, rfl⟩
  · exact ⟨_, cap, rfl⟩

/-- What the outer loop carries. -/
structure RI1 (w : World) (g : Nat → Bool) (f : Nat → Nat) (n : Nat) (L : List Nat) (l : Value) (wr : World) : Prop where
  bel : Below w.heap.size w wr
  own : wr.ownsRow w.heap.size 3 1 l L.length (rowOf L)
  srt : L.Pairwise (Hp.ah f)
  mem : ∀ x, x ∈ L ↔ (x < n ∧ g x = true)
/-- What the inner loop carries. -/
structure RI2 (w : World) (f : Nat → Nat) (n : Nat) (L : List Nat) (gg cap kn u : Nat) (wq : World) : Prop where
  bel : Below w.heap.size w wq
  own : wq.ownsRow w.heap.size 3 1 (.slice (some ⟨gg, 0, none⟩) (L.length + 1) cap) (L.length + 1) (rowOf (Hp.gap L kn u))
  hi : ∀ x ∈ L.drop kn, f n < f x

theorem RI2.start {w w1 wr : World} {g : Nat → Bool} {f : Nat → Nat} {n : Nat} {L : List Nat} {l : Value} {gg cap : Nat} (h : RI1 w g f n L l wr) (hl : w1.ownsRow w.heap.size 3 1 (.slice (some ⟨gg, 0, none⟩) (L.length + 1) cap) (L.length + 1) (rowOf L ++ [.int .i64 n])) (o : Obj) (hg : (wr.alloc o).grownBy w1 l.ownBlock) :
    RI2 w f n L gg cap L.length n w1 := by
  refine ⟨?_, ?_, by simp⟩
  · have hs := h.bel.size
    exact (h.bel.alloc hs o).grown hg (by simp; omega) (fun k e => (h.own.lt k e).1)
  · rw [Hp.gap_end]
    have e : rowOf (L ++ [n]) = rowOf L ++ [.int .i64 n] := by simp [rowOf]
    rw [e]; exact hl

theorem RI2.step {w wq : World} {f : Nat → Nat} {n : Nat} {L : List Nat} {gg cap m u : Nat} (h : RI2 w f n L gg cap (m + 1) u wq) (hm : m < L.length) (hk : f n < f (L.getD m 0)) :
    RI2 w f n L gg cap m (L.getD m 0) (wq.setCell ⟨gg, m + 1, none⟩ (.int .i64 (L.getD m 0 : Nat))) := by
  have st := h.own.stored (m + 1) (.int .i64 (L.getD m 0 : Nat))
  have hge : w.heap.size ≤ gg := (h.own.lt gg rfl).1
  refine ⟨h.bel.setCell (by exact hge) _, ?_, ?_⟩
  · have := st.1
    rw [rowOf_set, Hp.gap_step (by omega)] at this
    exact this
  · intro x hx
    rw [List.drop_eq_getElem_cons hm] at hx
    rcases List.mem_cons.1 hx with e | e
    · rw [e]
      simpa [List.getD_eq_getElem?_getD, List.getElem?_eq_getElem hm] using hk
    · exact h.hi x e

theorem RI2.fill {w wq wr : World} {g : Nat → Bool} {f : Nat → Nat} {n : Nat} {L : List Nat} {gg cap kn u : Nat} {l : Value} (h : RI2 w f n L gg cap kn u wq) (hk : kn ≤ L.length) (hlo : ∀ m, kn = m + 1 → f (L.getD m 0) ≤ f n) (h1 : RI1 w g f n L l wr) (hg : g n = true) :
    RI1 w g f (n + 1) (Hp.ins L kn n) (.slice (some ⟨gg, 0, none⟩) (L.length + 1) cap) (wq.setCell ⟨gg, kn, none⟩ (.int .i64 n)) := by
  have st := h.own.stored kn (.int .i64 n)
  have hge : w.heap.size ≤ gg := (h.own.lt gg rfl).1
  refine ⟨h.bel.setCell (by exact hge) _, ?_, Hp.ins_srt h1.srt (fun x hx => ((h1.mem x).1 hx).1) (fun x hx => ?_) h.hi, fun x => ?_⟩
  · have := st.1
    rw [rowOf_set, Hp.gap_fill hk] at this
    rw [Hp.len_ins _ _ _ hk]
    exact this
  · cases kn with
    | zero => simp at hx
    | succ m =>
      have hm := hlo m rfl
      rw [List.take_succ_eq_append_getElem (by omega)] at hx
      rcases List.mem_append.1 hx with e | e
      · have h0 : (L.take m ++ L.drop m).Pairwise (Hp.ah f) := by rw [List.take_append_drop]; exact h1.srt
        rw [List.pairwise_append] at h0
        have hmem : L.getD m 0 ∈ L.drop m := by
          have eD : L.getD m 0 = L[m] := by simp [List.getD_eq_getElem?_getD, List.getElem?_eq_getElem (show m < L.length by omega)]
          rw [eD, List.drop_eq_getElem_cons (by omega)]
          exact List.mem_cons_self
        have := h0.2.2 x e _ hmem
        unfold Hp.ah at this
        omega
      · have e' : x = L.getD m 0 := by
          simpa [List.getD_eq_getElem?_getD, List.getElem?_eq_getElem (show m < L.length by omega)] using e
        rw [e']; exact hm
  · rw [Hp.mem_ins, h1.mem]
    constructor
    · rintro (⟨a, b⟩ | e)
      · exact ⟨by omega, b⟩
      · subst e; exact ⟨by omega, hg⟩
    · rintro ⟨a, b⟩
      by_cases e : x = n
      · exact .inr e
      · exact .inl ⟨by omega, b⟩

theorem RI1.skip {w wr : World} {g : Nat → Bool} {f : Nat → Nat} {n : Nat} {L : List Nat} {l : Value} (h : RI1 w g f n L l wr) (hg : g n = false) : RI1 w g f (n + 1) L l wr :=
  ⟨h.bel, h.own, h.srt, fun x => by
    rw [h.mem]
    constructor
    · rintro ⟨a, b⟩; exact ⟨by omega, b⟩
    · rintro ⟨a, b⟩
      by_cases e : x = n
      · subst e; rw [hg] at b; cases b
      · exact ⟨by omega, b⟩⟩

theorem ownsRow_drewN {w : World} {base : Nat} {e : TypeId} {size : Nat} {v : Value} {n : Nat} {xs : List Value} (h : w.ownsRow base e size v n xs) (k : Nat) : (w.drewN k).ownsRow base e size v n xs := h
theorem RI1.drewN {w wr : World} {g : Nat → Bool} {f : Nat → Nat} {n : Nat} {L : List Nat} {l : Value} (h : RI1 w g f n L l wr) (k : Nat) : RI1 w g f n L l (wr.drewN k) := ⟨below_drewN h.bel k, h.own, h.srt, h.mem⟩
theorem RI2.drewN {w wq : World} {f : Nat → Nat} {n : Nat} {L : List Nat} {gg cap kn u : Nat} (h : RI2 w f n L gg cap kn u wq) (k : Nat) : RI2 w f n L gg cap kn u (wq.drewN k) := ⟨below_drewN h.bel k, h.own, h.hi⟩

set_option maxHeartbeats 1000000 in
theorem rall_any (b : Nat) (g : Nat → Bool) (f : Nat → Nat) (w : World) (h : RAt w b g f) :
    Calls Try.prog 17 #[.pointer (some ⟨b, 0, none⟩)] w fun e w' => ∃ v L, e = .returned v ∧ L.length ≤ 64 ∧ RI1 w g f 64 L v w' := by
  have hb : b < w.heap.size := (Array.getElem?_eq_some_iff.1 h).1
  obtain ⟨i0, hi, hz0, hz1, hz2⟩ := info_parts info3
  have H : Hid (RAt w b g f) := h
  clear h
  go_enter Try.func17, Try.ntmps17
  go_wp2
  go_loopw [3, 4] (fun l i wr => ∃ (n : Nat) (L : List Nat), i = .int .i64 n ∧ n ≤ 64 ∧ L.length ≤ n ∧ Hid (RI1 w g f n L l wr)) (fun _ i _ => 64 - (intOf i).toNat)
  case atStart => exact ⟨0, [], rfl, by omega, by simp, Below.refl _ _, World.ownsRow_nil _ _ _ _, List.Pairwise.nil, fun x => by simp⟩
  case round =>
    obtain ⟨n, L, rfl, hn, hL, R⟩ := hrel

    by_cases hlt : n < 64
    · have hltI : (n : Int) < 64 := by omega
      have A : Hid (RAt wr b g f) := (R.out.bel.block b hb).trans H.out
      have ci := A.out.ins n hlt
      by_cases hg : g n = true
      · rw [hg] at ci
        have HG : Hid (g n = true) := hg
        clear hg
        obtain ⟨a, cap, hv⟩ := own_form R.out.own
        rw [hv]
        have HV : Hid (u3 = .slice a L.length cap) := hv
        have hlm : L.length ≤ 64 := by omega
        clear hv
        go_wp2_with (at_builtin; refine wpList_append_lies _ rfl _ _ 47 (by rfl) w.heap.size 3 i0 (.int .i64 0) 1 8 Try.underlying47 hi hz0 hz1 hz2 rfl (by decide) (.slice a L.length cap) L.length (rowOf L) (by rfl) (by rw [← HV.out]; exact R.out.own.alloc _) ⟨wr.heap.size, 0, none⟩ 1 1 [.int .i64 n] (by rfl) rfl (cell_one_new _ _ _) (by simp [Value.oneCell']) (by decide) (by unfold maxLen; omega) (by omega) (by have := R.out.bel.size; simp; omega) (wr.heap.size + 1) (by simp) ?_; intro gg cap2 w1 hown hgrow hat hlt2; have Q1 : Hid (RI2 w f n L gg cap2 L.length n w1) := RI2.start R.out hown _ (by rw [HV.out]; exact hgrow); clear hown hgrow hat hlt2)
        generalize hLen : L.length = N at *
        have HN : Hid (L.length = N) := hLen
        clear hLen
        go_loopw [5] (fun k wq => ∃ (kn u : Nat), k = .int .i64 kn ∧ kn ≤ N ∧ Hid (RI2 w f n L gg cap2 kn u wq)) (fun k _ => (intOf k).toNat)
        case atStart => exact ⟨N, n, rfl, Nat.le_refl _, Q1⟩
        case round =>
          clear Q1
          obtain ⟨kn, u, rfl, hkn, Q2⟩ := hrel
          have hge : Hid (w.heap.size ≤ gg) := (Q2.out.own.lt gg rfl).1
          have ck : wr.cell? ⟨gg, kn, none⟩ = some (.int .i64 u) := by
            rw [Q2.out.own.cellAt kn (by rw [HN.out]; omega)]
            exact rowOf_at _ _ _ (Hp.gap_at (by rw [HN.out]; exact hkn))
          have cf : wr.frozen? ⟨gg, kn, none⟩ = false := Q2.out.own.frozenAt kn
          have hknI : (kn : Int) < (N : Int) + 1 := by omega
          by_cases hz : kn = 0
          · have KLO : Hid (∀ m, kn = m + 1 → f (L.getD m 0) ≤ f n) := fun m hm => by omega
            have KLE : kn ≤ L.length := by rw [HN.out]; exact hkn
            have FI := Q2.out.fill KLE KLO.out R.out HG.out
            rw [HN.out] at FI
            have FIN : Hid (RI1 w g f (n + 1) (Hp.ins L kn n) (.slice (some ⟨gg, 0, none⟩) (N + 1) cap2) (wr.setCell ⟨gg, kn, none⟩ (.int .i64 n)) ∧ (Hp.ins L kn n).length = N + 1) := ⟨FI, by rw [Hp.len_ins _ _ _ KLE, HN.out]⟩
            clear FI KLE
            subst hz
            go_wp2_with fail
            go_quiet (fail)
            go_wp2_with fail
            go_roundw
            case rel => exact ⟨n + 1, Hp.ins L 0 n, by go_num, by omega, by rw [FIN.out.2]; omega, FIN.out.1.drewN _⟩
            case measure => simp [intOf]; omega
          · obtain ⟨m, rfl⟩ : ∃ m, kn = m + 1 := ⟨kn - 1, by omega⟩
            obtain ⟨x, hx⟩ : ∃ x, L.getD m 0 = x := ⟨_, rfl⟩
            have hxm : L[m]? = some x := by
              rw [← hx, List.getD_eq_getElem?_getD, List.getElem?_eq_getElem (by rw [HN.out]; omega)]; rfl
            have hxn : x < n := ((R.out.mem x).1 (List.mem_of_getElem? hxm)).1
            have cm : wr.cell? ⟨gg, m, none⟩ = some (.int .i64 x) := by
              rw [Q2.out.own.cellAt m (by rw [HN.out]; omega)]
              exact rowOf_at _ _ _ ((Hp.gap_before (by rw [HN.out]; exact hkn) (by omega)).trans hxm)
            have A2 : Hid (RAt wr b g f) := (Q2.out.bel.block b hb).trans H.out
            have kx := A2.out.key x (by omega)
            have kn' := A2.out.key n hlt
            have hxI : (x : Int) < 64 := by omega
            have hmI : (m : Int) < (N : Int) + 1 := by omega
            have hm0 : (0 : Int) < (m : Int) + 1 := by omega
            have HX : Hid (L.getD m 0 = x) := hx
            clear hx hxm hz
            by_cases hk : f n < f x
            · have hkI : (f n : Int) < (f x : Int) := by omega
              go_wp2_with fail
              go_quiet (fail)
              go_wp2_with fail
              go_roundw
              case rel =>
                have st := Q2.out.step (by rw [HN.out]; omega) (by rw [HX.out]; exact hk)
                rw [HX.out] at st
                exact ⟨m, x, by go_num, by omega, st.drewN _⟩
              case measure => simp [intOf]
            · have hkI : ¬ (f n : Int) < (f x : Int) := by omega
              have KLO : Hid (∀ m', m + 1 = m' + 1 → f (L.getD m' 0) ≤ f n) := fun m' hm' => by
                obtain rfl : m = m' := by omega
                rw [HX.out]; omega
              have KLE : m + 1 ≤ L.length := by rw [HN.out]; exact hkn
              have FI := Q2.out.fill KLE KLO.out R.out HG.out
              rw [HN.out] at FI
              have FIN : Hid (RI1 w g f (n + 1) (Hp.ins L (m + 1) n) (.slice (some ⟨gg, 0, none⟩) (N + 1) cap2) (wr.setCell ⟨gg, m + 1, none⟩ (.int .i64 n)) ∧ (Hp.ins L (m + 1) n).length = N + 1) := ⟨FI, by rw [Hp.len_ins _ _ _ KLE, HN.out]⟩
              clear FI KLE
              go_wp2_with fail
              go_quiet (fail)
              go_wp2_with fail
              go_roundw
              case rel => exact ⟨n + 1, Hp.ins L (m + 1) n, by go_num, by omega, by rw [FIN.out.2]; omega, FIN.out.1.drewN _⟩
              case measure => simp [intOf]; omega
      · have hg' : g n = false := by simpa using hg
        rw [hg'] at ci
        have HG : Hid (g n = false) := hg'
        clear hg hg'
        go_wp2
        go_roundw
        case rel => exact ⟨n + 1, L, by go_num, by omega, by omega, R.out.skip HG.out⟩
        case measure => simp [intOf]; omega
    · have hn64 : n = 64 := by omega
      subst hn64
      go_wp2
      go_ret
      exact ⟨_, L, rfl, hL, R.out⟩

end Go.Proofs.Ytgabceeekkcekaa

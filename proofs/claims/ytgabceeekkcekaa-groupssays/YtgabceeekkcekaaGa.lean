/- above; Lacks. -/
import Derived.Test.YtgabceeekkcekaaGv
namespace Go.Proofs.Ytgabceeekkcekaa
open Go.RowKit Go.Shelf

theorem len94 {t : Nat → Gp} : (Try.prog.info? 94).map (·.size) = some (encT t).toList.length := by rw [Array.length_toList, encT_size]; kernel_rfl
theorem wpList_ld94 {ops : Array Oper} {rest : List Oper} {a : Act} {w : World} {Q : Exit → Act → World → Prop} {d : Option Tmp} {ty : TypeId} {ps : String} {af : Array Edge} {x : Operand} {b : Nat} {t : Nat → Gp}
    (hx : a.eval x = .pointer (some ⟨b, 0, none⟩)) (hc : TAt w b t) (h : wpList Try.prog ops Q rest (a.put d (.agg (encT t))) w) : wpList Try.prog ops Q (⟨d, .load 94 x, ty, ps, af, none⟩ :: rest) a w :=
  wpList_load_mid rfl 94 x rfl b 0 hx (encT t).toList _ (tat_range hc) Try.underlying94 rfl len94 h
theorem encT_part (t : Nat → Gp) (n : Nat) (hn : n < 10) : (encT t).extract (n * 6) (n * 6 + 6) = #[.bool (t n).there, .int .i64 (t n).par, .int .i64 (t n).lp, .int .i64 (t n).lq, .int .i64 (t n).op, .int .i64 (t n).oq] := by
  apply Array.ext_getElem?
  intro i
  rw [Array.getElem?_extract, encT_size]
  rcases Nat.lt_or_ge i 6 with hi | hi
  · rw [if_pos (by omega), encT_at t n i hn hi]
    match i, hi with
    | 0, _ => rfl
    | 1, _ => rfl
    | 2, _ => rfl
    | 3, _ => rfl
    | 4, _ => rfl
    | 5, _ => rfl
  · rw [if_neg (by omega), Array.getElem?_eq_none (by simpa using hi)]
/-- Is there a group right below this one? -/
def abvB (t : Nat → Gp) (n : Int) : Bool := (List.range 10).any fun k => (t k).there && decide ((t k).par = n)
theorem abvB_false {t : Nat → Gp} {n : Int} (h : ∀ k, k < 10 → ¬ ((t k).there = true ∧ (t k).par = n)) : abvB t n = false := by
  unfold abvB
  rw [List.any_eq_false]
  intro k hk
  have := h k (List.mem_range.1 hk)
  simpa using this
theorem abvB_true {t : Nat → Gp} {n : Int} {k : Nat} (hk : k < 10) (h1 : (t k).there = true) (h2 : (t k).par = n) : abvB t n = true := by
  unfold abvB
  rw [List.any_eq_true]
  exact ⟨k, List.mem_range.2 hk, by simp [h1, h2]⟩
theorem info93 : ∃ i, Try.prog.info? 93 = some i ∧ i.size = 6 := ⟨(Try.prog.info? 93).get (by kernel_rfl), by kernel_rfl, by kernel_rfl⟩
theorem run_index94 (w : World) (E A : Array Value) (k : Nat) (hk : k < 10) (hE : E.extract (k * 6) (k * 6 + 6) = A) : (Instr.index 94 (.agg E) (.int .i64 k)).run Try.prog w = .ok (.agg A) w := by
  obtain ⟨i, hi, hs⟩ := info93
  simp [Instr.index, asIntOf, run_underlying Try.underlying94, part, Sem.run_bind, sizeOf, typeInfo, hi, hs, hE]
  intro h
  omega
theorem wpList_ix94 {ops : Array Oper} {rest : List Oper} {a : Act} {w : World} {Q : Exit → Act → World → Prop} {d : Option Tmp} {ty : TypeId} {ps : String} {af : Array Edge} {x y : Operand} {E A : Array Value} {k : Nat}
    (hx : a.eval x = .agg E) (hy : a.eval y = .int .i64 k) (hk : k < 10) (hE : E.extract (k * 6) (k * 6 + 6) = A) (h : wpList Try.prog ops Q rest (a.put d (.agg A)) w) : wpList Try.prog ops Q (⟨d, .index 94 x y, ty, ps, af, none⟩ :: rest) a w :=
  wpList_plain rfl fun K hK => by
    unfold Oper.wp execOp
    simp only [hx, hy, Sem.run_bind, run_index94 w E A k hk hE]
    exact hK _ _ h

set_option maxRecDepth 100000 in
set_option maxHeartbeats 400000 in
theorem above_any (b : Nat) (n : Int) (t : Nat → Gp) (w : World) (h : TAt w b t) : Calls Try.prog 59 #[.pointer (some ⟨b, 0, none⟩), .int .i64 n] w fun e w' => e = .returned (.bool (abvB t n)) ∧ Below w.heap.size w w' := by
  have HT : Hid (TAt w b t) := h
  clear h
  have HX : Hid (∀ k, k < 10 → (encT t).extract (k * 6) (k * 6 + 6) = #[.bool (t k).there, .int .i64 (t k).par, .int .i64 (t k).lp, .int .i64 (t k).lq, .int .i64 (t k).op, .int .i64 (t k).oq]) := fun k hk => encT_part t k hk
  go_enter Try.func59, Try.ntmps59
  go_wp2_with (first | (refine wpList_ld94 (t := t) (b := b) rfl ?_ ?_; exact HT.out))
  have HB0 : Hid (Below w.heap.size w w) := Below.refl _ _
  generalize encT t = E at *
  go_loopw [11] (fun i wr => ∃ (k : Nat), i = .int .i64 k ∧ k ≤ 10 ∧ Hid ((∀ j, j < k → ¬ ((t j).there = true ∧ (t j).par = n)) ∧ Below w.heap.size w wr)) (fun i _ => 10 - (intOf i).toNat)
  case atStart => exact ⟨0, rfl, by omega, fun j hj => absurd hj (by omega), HB0.out⟩
  case round =>
    obtain ⟨k, rfl, hk, H⟩ := hrel
    by_cases hlt : k < 10
    · have hltI : (k : Int) < 10 := by omega
      have hx := Hid.intro (HX.out k hlt)
      have hw := Hid.intro H.out.2.size
      have HN := Hid.intro (fun (h1 : (t k).there = true) (h2 : (t k).par = n) => abvB_true hlt h1 h2)
      have HR := Hid.intro (fun (h1 : ¬ ((t k).there = true ∧ (t k).par = n)) => (fun j (hj : j < k + 1) => (by
        rcases Nat.lt_or_ge j k with e | e
        · exact H.out.1 j e
        · obtain rfl : j = k := by omega
          exact h1 : ¬ ((t j).there = true ∧ (t j).par = n))))
      generalize (t k).there = TH at *
      generalize (t k).par = PA at *
      cases TH
      · have HR2 := Hid.intro (HR.out (by simp))
        clear HN HR
        go_wp2_with (first | (refine wpList_ix94 rfl rfl hlt hx.out ?_))
        go_roundw
        case rel => exact ⟨k + 1, by go_num, by omega, HR2.out, H.out.2.alloc hw.out _⟩
        case measure => simp [intOf]; omega
      · by_cases hp : PA = n
        · have HN2 := Hid.intro (HN.out rfl hp)
          clear HN HR
          go_wp2_with (first | (refine wpList_ix94 rfl rfl hlt hx.out ?_))
          go_ret
          exact ⟨by rw [HN2.out]; rfl, H.out.2.alloc hw.out _⟩
        · have dp : (PA == n) = false := by simpa using hp
          have HR2 := Hid.intro (HR.out (by simp [hp]))
          clear HN HR
          go_wp2_with (first | (refine wpList_ix94 rfl rfl hlt hx.out ?_))
          go_roundw
          case rel => exact ⟨k + 1, by go_num, by omega, HR2.out, H.out.2.alloc hw.out _⟩
          case measure => simp [intOf]; omega
    · have hk10 : k = 10 := by omega
      subst hk10
      go_wp2
      go_ret
      refine ⟨?_, H.out.2⟩
      have e0 : abvB t n = false := abvB_false fun j hj => H.out.1 j hj
      rw [e0]; rfl

/-- What Lacks answers. -/
theorem lacks_ref (b : Nat) (g p q : Int) (t : Nat → Gp) (w : World) (h : TAt w b t) (hw : refE t g p q ≠ 0) : Calls Try.prog 33 #[.pointer (some ⟨b, 0, none⟩), .int .i64 g, .int .i64 p, .int .i64 q] w fun e w' => e = .returned (.tuple #[.int .i64 0, .bool false]) ∧ Below w.heap.size w w' := by
  have HT : Hid (TAt w b t) := h
  have HW : Hid (errV (refE t g p q) = .iface 81 (.int .i64 (refE t g p q))) := if_neg hw
  clear h hw
  go_enter Try.func33, Try.ntmps33
  go_wp2_with fail
  refine (refuses_any b g p q t _ (HT.out.below ((Below.refl _ _).alloc (Nat.le_refl _) _) HT.out.lt)).mono ?_
  rintro e w1 ⟨rfl, hb⟩
  have HB := Hid.intro (al1_of hb).1
  clear hb
  rw [HW.out]
  go_wp2
  go_ret2
  exact ⟨rfl, HB.out⟩

set_option maxRecDepth 100000 in
set_option maxHeartbeats 400000 in
theorem lacks_ok (b n : Nat) (p q : Int) (t : Nat → Gp) (Wy : Nat → List (Fin 10)) (w : World) (h : TAt w b t) (hW : Ways t Wy) (hS : Small t) (hn : n < 10) (hr : refE t n p q = 0) : Calls Try.prog 33 #[.pointer (some ⟨b, 0, none⟩), .int .i64 n, .int .i64 p, .int .i64 q] w fun e w' =>
    (((∀ y ∈ Wy n, lackB t Wy p q y = false) ∧ e = .returned (.tuple #[.int .i64 0, .bool false])) ∨
      (∃ pre x rest, Wy n = pre ++ x :: rest ∧ (∀ y ∈ pre, lackB t Wy p q y = false) ∧ lackB t Wy p q x = true ∧ e = .returned (.tuple #[.int .i64 (x.val : Int), .bool true]))) ∧ Below w.heap.size w w' := by
  have H : Hid (TAt w b t ∧ Ways t Wy ∧ Small t ∧ refE t n p q = 0) := ⟨h, hW, hS, hr⟩
  obtain ⟨hp, hq⟩ := refE_pq hr
  have HPQ : Hid ((0 ≤ p ∧ p ≤ 1000) ∧ (0 ≤ q ∧ q ≤ 1000)) := ⟨⟨hp.1, by omega⟩, hq.1, by omega⟩
  clear h hW hS hr hp hq
  go_enter Try.func33, Try.ntmps33
  go_wp2_with fail
  refine (refuses_any b n p q t _ (H.out.1.below ((Below.refl _ _).alloc (Nat.le_refl _) _) H.out.1.lt)).mono ?_
  rintro e w1 ⟨rfl, hb⟩
  rw [H.out.2.2.2, errV_zero]
  obtain ⟨hb1, hx⟩ := al1_of hb
  have HB := Hid.intro hb1
  have x0 : w1.cell? ⟨w.heap.size, 0, none⟩ = some (.int .i64 p) := heap_cell hx 0
  have x1 : w1.cell? ⟨w.heap.size, 1, none⟩ = some (.int .i64 q) := heap_cell hx 1
  clear hb hb1 hx
  go_wp2_with fail
  refine (lacking_any b n p q t Wy (Wy n) _ (H.out.1.below HB.out H.out.1.lt) H.out.2.1 H.out.2.2.1 (H.out.2.1 n hn) HPQ.out.1 HPQ.out.2).mono ?_
  rintro e w2 ⟨he, hb2⟩
  have HB2 : Hid (Below w.heap.size w w2) := HB.out.trans (hb2.mono HB.out.size)
  clear hb2
  rcases he with ⟨hno, rfl⟩ | ⟨pre, x, rest, h1, h2, h3, rfl⟩
  · have HN := Hid.intro hno
    clear hno
    go_wp2
    go_ret2
    exact ⟨.inl ⟨HN.out, rfl⟩, HB2.out⟩
  · have HN := Hid.intro (And.intro h1 (And.intro h2 h3))
    clear h1 h2 h3
    go_wp2
    go_ret2
    exact ⟨.inr ⟨pre, x, rest, HN.out.1, HN.out.2.1, HN.out.2.2, rfl⟩, HB2.out⟩
end Go.Proofs.Ytgabceeekkcekaa

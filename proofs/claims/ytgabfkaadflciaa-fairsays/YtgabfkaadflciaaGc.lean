/- A whole array out of the midst of a block; the walk of holds. -/
import Derived.Test.YtgabfkaadflciaaGb
import Derived.Laws.Rows
namespace Go.Proofs.Ytgabfkaadflciaa
open Go.RowKit
open Hp (Q)
open Fr (Un M)

section
variable {P : Program}
theorem add_off (b o j : Nat) : (⟨b, o, none⟩ : Addr).add j = ⟨b, o + j, none⟩ := by unfold Addr.add; split <;> simp_all
theorem loadVar_at (w : World) (b o n : Nat) (ty e : TypeId) (cs : Array Value) (hc : ∀ j, j < cs.size → w.cell? ⟨b, o + j, none⟩ = cs[j]?)
    (hu : P.underlying ty = some (.array n e)) (hi : (P.info? ty).map (·.size) = some cs.size) : (loadVar ty ⟨b, o, none⟩).run P w = .ok (.agg cs) w := by
  have hl := run_loadCells_list (P := P) w ⟨b, o, none⟩ cs.toList (fun j v hv => by
    rw [Array.getElem?_toList] at hv
    rw [add_off, hc j (Array.getElem?_eq_some_iff.1 hv).1, hv])
  rw [Array.length_toList, Array.toArray_toList] at hl
  obtain ⟨i, hq, hs⟩ := Option.map_eq_some_iff.1 hi
  have ha : (isAgg ty).run P w = .ok true w := by unfold isAgg; rw [Sem.run_bind, run_underlying hu w]; simp
  simp [loadVar, Sem.run_bind, ha, sizeOf, typeInfo, hq, hs, hl]
theorem wpList_load_at {ops : Array Oper} {rest : List Oper} {x : Oper} {a : Act} {w : World} {Q : Exit → Act → World → Prop} (hgd : x.guard = none) (ty : TypeId) (y : Operand) (ho : x.op = .load ty y)
    (b o : Nat) (hx : a.eval y = .pointer (some ⟨b, o, none⟩)) (cs : Array Value) (n : Nat) (e : TypeId) (hc : ∀ j, j < cs.size → w.cell? ⟨b, o + j, none⟩ = cs[j]?)
    (hu : P.underlying ty = some (.array n e)) (hi : (P.info? ty).map (·.size) = some cs.size)
    (h : wpList P ops Q rest (a.put x.dst (.agg cs)) w) : wpList P ops Q (x :: rest) a w :=
  wpList_plain hgd fun _ hK => by
    have := loadVar_at w b o n ty e cs hc hu hi
    unfold Oper.wp execOp
    simp only [ho, hx, Instr.loadAt, Instr.sureAddr, Sem.run_bind, Sem.run_pure, Result.andThen_ok, this]
    exact hK _ _ h
end
/-- The cells of all units. -/
def unitsF (m : M) (i : Nat) : Value := unitC (i / 4) (m.u (i / 4)) (i % 4)
def unitsA (m : M) : Array Value := ((List.range 120).map (unitsF m)).toArray
theorem unitsA_size (m : M) : (unitsA m).size = 120 := by simp [unitsA]
theorem unitsA_at (m : M) (i : Nat) (h : i < 120) : (unitsA m)[i]? = some (unitsF m i) := by simp [unitsA, h]
theorem unitsA_ex (m : M) (x : Nat) (h : x < 30) : (unitsA m).extract (x * 4) (x * 4 + 4) = #[.bool (m.u x).here, .int .i64 (m.u x).inn, .int .u64 ((if x = 0 then 0 else (m.u x).weight : Nat) : Int), .int .u64 ((m.u x).time : Int)] := by
  apply Array.ext_getElem?
  intro i
  rw [Array.getElem?_extract]
  by_cases hi : i < 4
  · rw [if_pos (by rw [unitsA_size]; omega), unitsA_at m _ (by omega)]
    unfold unitsF
    rw [show (x * 4 + i) / 4 = x by omega, show (x * 4 + i) % 4 = i by omega]
    revert i
    intro i hi
    exact four (P := fun i => some (unitC x (m.u x) i) = (#[Value.bool (m.u x).here, .int .i64 (m.u x).inn, .int .u64 ((if x = 0 then 0 else (m.u x).weight : Nat) : Int), .int .u64 ((m.u x).time : Int)] : Array Value)[i]?) rfl rfl rfl rfl i hi
  · rw [if_neg (by rw [unitsA_size]; omega), Array.getElem?_eq_none (by simp; omega)]
theorem SAt.units {w : World} {b : Nat} {m : M} {qs : Nat → Q} (h : SAt w b m qs) (j : Nat) (hj : j < (unitsA m).size) : w.cell? ⟨b, 1 + j, none⟩ = (unitsA m)[j]? := by
  rw [unitsA_size] at hj
  rw [unitsA_at m j hj]
  have := h.unit (j / 4) (j % 4) (by omega) (by omega)
  rw [show 1 + j / 4 * 4 + j % 4 = 1 + j by omega] at this
  exact this

theorem index_units (m : M) (x : Nat) (h : x < 30) (w : World) : Sem.run Try.prog (Instr.index 142 (Value.agg (unitsA m)) (Value.int IntKind.i64 x)) w = .ok (.agg #[.bool (m.u x).here, .int .i64 (m.u x).inn, .int .u64 ((if x = 0 then 0 else (m.u x).weight : Nat) : Int), .int .u64 ((m.u x).time : Int)]) w := by
  have hu : Try.prog.underlying 142 = some (.array 30 141) := by kernel_rfl
  have hx := unitsA_ex m x h
  have h1 : (x : Int) < 30 := by omega
  simp [Instr.index, Sem.run_bind, run_underlying hu, go_sem, hx]
  intro c; omega

set_option maxRecDepth 100000 in
set_option maxHeartbeats 1000000 in
theorem holds_any (b g : Nat) (m : M) (w : World) (h : Fair w b m) :
    Calls Try.prog 152 #[.pointer (some ⟨b, 0, none⟩), .int .i64 g] w fun e w' => e = .returned (.bool (Fr.hasUnit m g)) ∧ Below w.heap.size w w' := by
  obtain ⟨qs, hS, _⟩ := h
  have HS := Hid.intro hS
  clear hS
  have hsz : Hid ((Try.prog.info? 142).map (·.size) = some (unitsA m).size) := Hid.intro (by rw [unitsA_size]; kernel_rfl)
  go_enter Try.func152, Try.ntmps152
  go_wp2_with (refine wpList_load_at rfl 142 _ rfl b 1 rfl (unitsA m) 30 141 HS.out.units (by kernel_rfl) hsz.out ?_)
  go_loopw [11] (fun i wr => ∃ (x : Nat), i = .int .i64 x ∧ x ≤ 30 ∧ Hid (Below w.heap.size w wr ∧ ∀ j, j < x → Fr.unitB m g j = false)) (fun i _ => 30 - (intOf i).toNat)
  case atStart => exact ⟨0, rfl, by omega, Below.refl _ _, fun j h1 => by omega⟩
  case round =>
    obtain ⟨x, rfl, hx30, HN⟩ := hrel
    by_cases hx : x < 30
    · have hxI : (x : Int) < 30 := by omega
      have hix := index_units m x hx wr
      have HKB : Hid (Fr.unitB m g x = ((m.u x).here && decide ((m.u x).inn = (g : Int)))) := Hid.intro rfl
      have HHK : Hid (Fr.unitB m g x = true → Fr.hasUnit m g = true) := Hid.intro (fun k => by unfold Fr.hasUnit; exact List.any_eq_true.2 ⟨x, List.mem_range.2 hx, k⟩)
      generalize ((if x = 0 then 0 else (m.u x).weight : Nat) : Int) = wt at *
      generalize (m.u x).here = hh at *
      generalize (m.u x).inn = ii at *
      have BL : Hid (∀ o, Below w.heap.size w (wr.alloc o)) := Hid.intro (fun o => HN.out.1.alloc HN.out.1.size o)
      have NX : Hid (Fr.unitB m g x = false → ∀ j, j < x + 1 → Fr.unitB m g j = false) := Hid.intro (fun c j hj => by
        by_cases e : j = x
        · rw [e]; exact c
        · exact HN.out.2 j (by omega))
      cases hh
      · go_wp2_with fail
        go_roundw
        case rel => exact ⟨x + 1, by go_num, by omega, BL.out _, NX.out (by rw [HKB.out]; rfl)⟩
        case measure => simp [intOf]; omega
      · by_cases hi : ii = (g : Int)
        · subst hi
          go_wp2_with fail
          go_ret
          exact ⟨ret_bool (HHK.out (by rw [HKB.out]; simp)).symm, BL.out _⟩
        · have hi' : (ii == (g : Int)) = false := by simp; exact hi
          go_wp2_with fail
          go_roundw
          case rel => exact ⟨x + 1, by go_num, by omega, BL.out _, NX.out (by rw [HKB.out, decide_eq_false hi]; simp)⟩
          case measure => simp [intOf]; omega
    · have hxI : ¬ (x : Int) < 30 := by omega
      go_wp2_with fail
      go_ret
      refine ⟨ret_bool ?_, HN.out.1⟩
      cases hk : Fr.hasUnit m g
      · rfl
      · obtain ⟨j, hj, kj⟩ := List.any_eq_true.1 hk
        rw [HN.out.2 j (by have := List.mem_range.1 hj; omega)] at kj; cases kj

end Go.Proofs.Ytgabfkaadflciaa

/- The iterator over the way to the root; Under; depth. -/
import Derived.Test.YtgabceeekkcekaaGt
namespace Go.Proofs.Ytgabceeekkcekaa
open Go.RowKit Go.Shelf

attribute [local go_sem] Oper.semAt_some

/-- What a round keeps: the tree's block, and the box that leads to it. -/
def K2 (b bt : Nat) (W W' : World) : Prop := W'.heap[b]? = W.heap[b]? ∧ W'.heap[bt]? = W.heap[bt]?
theorem K2.t {b bt : Nat} {A B C : World} (h : K2 b bt A B) (k : K2 b bt B C) : K2 b bt A C := ⟨k.1.trans h.1, k.2.trans h.2⟩
theorem K2.b {b bt : Nat} {w : World} (h1 : b < w.heap.size) (h2 : bt < w.heap.size) (W : World) (l : Nat) (o o' : Obj) (hl : w.heap.size ≤ l) (_ : W.heap[l]? = some o) (_ : o.isCells = false) (_ : o.isWalk = false) : K2 b bt W (W.putObj l o') :=
  ⟨World.putObj_heap_other (by omega), World.putObj_heap_other (by omega)⟩

def vals (xs : List (Fin 10)) : List Nat := xs.map Fin.val
theorem way_fin {t : Nat → Gp} : ∀ {g : Int} {L : List Nat}, Way t g L → ∃ xs : List (Fin 10), vals xs = L
  | _, [], _ => ⟨[], rfl⟩
  | _, x :: L, ⟨_, hx, _, h⟩ => by
    obtain ⟨xs, rfl⟩ := way_fin h
    exact ⟨⟨x, hx⟩ :: xs, rfl⟩

/-- How many are still to come: for the loop's measure. -/
def wleft (t : Nat → Gp) (v : Value) : Nat → Nat
  | 0 => 0
  | f + 1 => match v with
    | .int _ g => if 0 ≤ g ∧ g < 10 ∧ (t g.toNat).there = true then 1 + wleft t (.int .i64 (t g.toNat).par) f else 0
    | _ => 0
theorem wleft_eq {t : Nat → Gp} : ∀ {g : Int} {L : List Nat} (f : Nat), Way t g L → L.length ≤ f → wleft t (.int .i64 g) f = L.length
  | _, [], 0, _, _ => rfl
  | g, [], f + 1, h, _ => by
    unfold wleft
    exact if_neg h
  | g, x :: L, 0, _, hl => by simp at hl
  | g, x :: L, f + 1, ⟨e, hx, hh, h⟩, hl => by
    have ih := wleft_eq f h (by simpa using hl)
    subst e
    unfold wleft
    have hv : (0 : Int) ≤ (x : Int) ∧ (x : Int) < 10 ∧ (t (x : Int).toNat).there = true := ⟨by omega, by omega, by rw [Int.toNat_natCast]; exact hh⟩
    show (if (0 : Int) ≤ (x : Int) ∧ (x : Int) < 10 ∧ (t (x : Int).toNat).there = true then 1 + wleft t (.int .i64 (t (x : Int).toNat).par) f else 0) = _
    rw [if_pos hv, Int.toNat_natCast, ih, List.length_cons]
    omega

set_option maxRecDepth 100000 in
set_option maxHeartbeats 1000000 in
theorem way1_in (n : Nat) (hn : 1 ≤ n) (l bn bt b : Nat) (g0 : Int) (t : Nat → Gp) (xs : List (Fin 10)) (J Jx : List (Fin 10) → World → Prop)
    (hY : ∀ pre x W, J pre W → pre.length < xs.length → YieldAt Fence.wide (n - 1) Try.prog l #[.int .i64 (x.val : Int)] W fun e W' =>
      (e = .returned (.bool true) ∧ J (pre ++ [x]) W' ∧ K2 b bt W W') ∨ (e = .returned (.bool false) ∧ Jx (pre ++ [x]) W'))
    (W : World) (hbn : W.cell? ⟨bn, 0, none⟩ = some (.int .i64 g0)) (hbt : W.heap[bt]? = some (.cells #[.pointer (some ⟨b, 0, none⟩)] 53 (0, 0))) (hT : TAt W b t) (hL : Way t g0 (vals xs)) (h0 : J [] W) :
    CallsIn Fence.wide n Try.prog 76 #[.func (.yield l) #[] #[], .pointer (some ⟨bn, 0, none⟩), .pointer (some ⟨bt, 0, none⟩)] W fun e W' => (∃ v, e = .returned v) ∧
      ((∃ ys, ys = xs ∧ J ys W') ∨ (∃ pre, pre <+: xs ∧ Jx pre W')) := by
  refine callsIn_of_wp Try.func76 rfl trivial ?_ rfl
  simp only [Try.ntmps76, List.size_toArray, List.length_cons, List.length_nil, Nat.reduceAdd, Nat.reduceSub, Array.replicate_succ, Array.replicate_zero, List.push_toArray, List.append_toArray, List.nil_append, List.cons_append]
  gi_wp2
  gi_loopw [4] (fun p wr => ∃ (pre rest : List (Fin 10)) (g : Int), p = .int .i64 g ∧ xs = pre ++ rest ∧ Hid (Way t g (vals rest) ∧ TAt wr b t ∧ wr.heap[bt]? = some (.cells #[.pointer (some ⟨b, 0, none⟩)] 53 (0, 0)) ∧ J pre wr))
    (fun p _ => wleft t p xs.length)
  case atStart =>
    exact ⟨[], xs, g0, rfl, rfl, hL, hT, hbt, h0⟩
  case round =>
    obtain ⟨pre, rest, g, rfl, hx, H⟩ := hrel
    have cb : wr.cell? ⟨bt, 0, none⟩ = some (.pointer (some ⟨b, 0, none⟩)) := by rw [heap_cell H.out.2.2.1]; rfl
    cases rest with
    | nil =>
      gi_wp2_with (refine ⟨trivial, ?_⟩; gi_at_call 54; refine (callsIn_wide.2 (wrong_not b g t _ H.out.2.1 H.out.1)).mono ?_; rintro e w' ⟨⟨m, rfl⟩, rfl⟩)
      go_end0
      exact ⟨⟨_, rfl⟩, .inl ⟨pre, by simp [hx], H.out.2.2.2⟩⟩
    | cons x rest =>
      obtain ⟨e, hx10, hth, hrest⟩ := H.out.1
      subst e
      have hlen : (x :: rest).length ≤ xs.length := by rw [hx]; simp
      obtain ⟨fn, tmps, assign, body, hy, hR⟩ := hY pre x wr H.out.2.2.2 (by rw [hx]; simp)
      have HT : Hid (TAt wr b t) := H.out.2.1
      have HB : Hid (wr.heap[bt]? = some (.cells #[.pointer (some ⟨b, 0, none⟩)] 53 (0, 0))) := H.out.2.2.1
      have HR : Hid (Way t (t x.val).par (vals rest)) := hrest
      have HTH : Hid ((t x.val).there = true) := hth
      have HX : Hid (xs = pre ++ x :: rest) := hx
      clear hrest hth hx
      gi_wp2_with (refine ⟨trivial, ?_⟩; gi_at_call 54; refine (callsIn_wide.2 (wrong_ok b x.val t _ HT.out hx10 HTH.out)).mono ?_; rintro e w' ⟨rfl, rfl⟩)
      refine hR.mono ?_
      rintro e W3 (⟨rfl, hJ3, hk3⟩ | ⟨rfl, hJx3⟩)
      · have T3 : Hid (TAt W3 b t) := hk3.1.trans HT.out
        have B3 : Hid (W3.heap[bt]? = some (.cells #[.pointer (some ⟨b, 0, none⟩)] 53 (0, 0))) := hk3.2.trans HB.out
        have c3 : W3.cell? ⟨bt, 0, none⟩ = some (.pointer (some ⟨b, 0, none⟩)) := by rw [heap_cell B3.out]; rfl
        have p3 : W3.cell? ⟨b, x.val * 6 + 1, none⟩ = some (.int .i64 (t x.val).par) := T3.out.cell x.val 1 hx10 (by omega)
        have hxI : (x.val : Int) < 10 := by omega
        have J3 : Hid (J (pre ++ [x]) W3) := hJ3
        clear hk3 hJ3
        gi_wp2
        go_roundw
        case rel => exact ⟨pre ++ [x], rest, _, rfl, by rw [HX.out]; simp, HR.out, T3.out, B3.out, J3.out⟩
        case measure =>
          rw [wleft_eq xs.length HR.out (by simp [vals] at hlen ⊢; omega), wleft_eq xs.length (L := vals (x :: rest)) ⟨rfl, hx10, HTH.out, HR.out⟩ (by simpa [vals] using hlen)]
          simp [vals]
      · gi_wp2
        refine bodyPost_ret (results_none rfl _ _ _) rfl ?_
        exact ⟨⟨_, rfl⟩, .inr ⟨pre ++ [x], ⟨rest, by rw [HX.out]; simp⟩, hJx3⟩⟩

theorem way_stops (n : Nat) (hn : 1 ≤ n) (bn bt b : Nat) (g0 : Int) (t : Nat → Gp) (xs : List (Fin 10)) (w : World) (hbnl : bn < w.heap.size) (hbn : w.cell? ⟨bn, 0, none⟩ = some (.int .i64 g0)) (hbt : w.heap[bt]? = some (.cells #[.pointer (some ⟨b, 0, none⟩)] 53 (0, 0))) (hT : TAt w b t) (hL : Way t g0 (vals xs)) :
    SeqStopsK Fence.wide n Try.prog 76 #[.pointer (some ⟨bn, 0, none⟩), .pointer (some ⟨bt, 0, none⟩)] (fun x : Fin 10 => #[Value.int .i64 (x.val : Int)]) (K2 b bt) (fun ys => ys = xs) (fun pre => pre <+: xs) xs.length w := fun l J Jx W hW _ _ hY h0 =>
  way1_in n hn l bn bt b g0 t xs J Jx hY W ((hW.cell (p := ⟨bn, 0, none⟩) hbnl).trans hbn) ((hW.block bt (Array.getElem?_eq_some_iff.1 hbt).1).trans hbt) ((hW.block b hT.lt).trans hT) hL h0
end Go.Proofs.Ytgabceeekkcekaa

/- depth and total. -/
import Derived.Test.YtgabceeekkcekaaGu
namespace Go.Proofs.Ytgabceeekkcekaa
open Go.RowKit Go.Shelf

theorem al3 (w : World) (o1 o2 o3 : Obj) : (((w.alloc o1).alloc o2).alloc o3).heap[w.heap.size]? = some o1 ∧ (((w.alloc o1).alloc o2).alloc o3).heap[w.heap.size + 1]? = some o2 ∧ (((w.alloc o1).alloc o2).alloc o3).heap[w.heap.size + 1 + 1]? = some o3 := by
  have e : (((w.alloc o1).alloc o2).alloc o3).heap = ((w.heap.push o1).push o2).push o3 := rfl
  rw [e]
  refine ⟨?_, ?_, ?_⟩
  · simp only [Array.getElem?_push, Array.size_push]; rw [if_neg (by omega), if_neg (by omega), if_pos trivial]
  · simp only [Array.getElem?_push, Array.size_push]; rw [if_neg (by omega), if_pos trivial]
  · simp only [Array.getElem?_push, Array.size_push]; rw [if_pos trivial]
theorem al3_below (w : World) (o1 o2 o3 : Obj) : Below w.heap.size w (((w.alloc o1).alloc o2).alloc o3) :=
  (((Below.refl _ w).alloc (Nat.le_refl _) _).alloc (by simp) _).alloc (by simp; omega) _
theorem al2 (w : World) (o1 o2 : Obj) : ((w.alloc o1).alloc o2).heap[w.heap.size]? = some o1 ∧ ((w.alloc o1).alloc o2).heap[w.heap.size + 1]? = some o2 := by
  have e : ((w.alloc o1).alloc o2).heap = (w.heap.push o1).push o2 := rfl
  rw [e]
  refine ⟨?_, ?_⟩
  · simp only [Array.getElem?_push, Array.size_push]; rw [if_neg (by omega), if_pos trivial]
  · simp only [Array.getElem?_push, Array.size_push]; rw [if_pos trivial]

section
attribute [local go_sem] Oper.semAt_some

set_option maxRecDepth 100000 in
set_option maxHeartbeats 2000000 in
theorem depth_any (b : Nat) (g : Int) (t : Nat → Gp) (xs : List (Fin 10)) (w : World) (hT : TAt w b t) (hL : Way t g (vals xs)) (hlen : xs.length < 1000) :
    Calls Try.prog 55 #[.pointer (some ⟨b, 0, none⟩), .int .i64 g] w fun e W' => e = .returned (.int .i64 (xs.length : Nat)) ∧ Below w.heap.size w W' := by
  refine (callsIn_wide (n := 4)).1 ?_
  refine callsIn_of_wp_marks Try.func55 rfl trivial ?_ rfl
  simp only [Try.ntmps55, List.size_toArray, List.length_cons, List.length_nil, Nat.reduceAdd, Nat.reduceSub, Array.replicate_succ, Array.replicate_zero, List.push_toArray, List.append_toArray, List.nil_append, List.cons_append]
  gi_wp2_with (refine ⟨trivial, ?_⟩; gi_at_call 66; refine (callsIn_wide.2 (way_any b g _)).mono ?_; rintro e w' ⟨rfl, rfl⟩)
  have hA := al3 w (.cells #[.int .i64 0] 3) (.cells #[.pointer (some ⟨b, 0, none⟩)] 53) (.cells #[.int .i64 g] 3)
  have hB0 := al3_below w (.cells #[.int .i64 0] 3) (.cells #[.pointer (some ⟨b, 0, none⟩)] 53) (.cells #[.int .i64 g] 3)
  have c0 := cell_box hA.1
  have c2 := cell_box hA.2.2
  have hbl := hT.lt
  refine wpIn_rangeFunc_ownF rfl (by omega) (gf := 76) (lb := #[.pointer (some ⟨w.heap.size + 1 + 1, 0, none⟩), .pointer (some ⟨w.heap.size + 1, 0, none⟩)]) rfl trivial (enters_of Try.func76 (by kernel_rfl) rfl)
    (way_stops 3 (by omega) (w.heap.size + 1 + 1) (w.heap.size + 1) b g t xs _ (by simp) c2.1 hA.2.1 (hT.below hB0 hbl) hL) K2.t (K2.b (by simp; omega) (by simp)) (Below.refl _ _) (fun _ => rfl)
    (fun pre W => (W.cell? ⟨w.heap.size, 0, none⟩ = some (.int .i64 (pre.length : Nat)) ∧ W.frozen? ⟨w.heap.size, 0, none⟩ = false) ∧ Below w.heap.size w W)
    (fun _ _ _ => False)
    (OwnFrom.and (Own.from (fun s A B row hs hg hr => ⟨cell_kept hs.1 hg hr, (frozen_kept hs.1 hg hr).trans hs.2⟩) _) (ownFrom_below (Nat.le_refl _) (by simp; omega)))
    (fun _ _ _ _ _ hs _ _ => hs)
    ⟨⟨c0.1, c0.2⟩, hB0⟩
    (fun x => { tmps := #[.pointer (some ⟨b, 0, none⟩), .int .i64 g, undef, undef, .int .i64 0, .pointer (some ⟨w.heap.size, 0, none⟩), .pointer (some ⟨b, 0, none⟩), .int .i64 g, .func (.func 76) #[] #[.pointer (some ⟨w.heap.size + 1 + 1, 0, none⟩), .pointer (some ⟨w.heap.size + 1, 0, none⟩)], .int .i64 (x.val : Int), undef, undef, undef], defers := [] }) ?assign ?body ?done ?stop
  case assign =>
    intro l x W K hK
    gi_wp2
    simpa using hK
  case body =>
    rintro l pre x W ⟨⟨hc, hf⟩, hB⟩ hlt
    have hpl : (pre.length : Int) < 1000 := by omega
    gi_wp2
    refine ⟨KeepsOthers.setCell _ _ _, ⟨setBlk _ _ _ _ (by omega), setBlk _ _ _ _ (by omega)⟩, ⟨?_, by rw [World.frozen?_setCell]; exact hf⟩, hB.setCell (p := ⟨w.heap.size, 0, none⟩) (Nat.le_refl _) _⟩
    rw [World.cell?_setCell_same' _ _ _ (by rw [hc]; rfl)]
    simp
  case done =>
    rintro D ys W hD rfl ⟨⟨hc, _⟩, hB⟩ hK
    gi_wp2
    refine ⟨by simp, .inl ⟨_, _, rfl, run_takeDeferred hK, ?_⟩⟩
    exact ⟨_, results_tmp rfl _ _ _, rfl, hB.trans (belowK_b (w := w) (Nat.le_refl _) W D _ _ (by simp at hD; omega) hK rfl rfl)⟩
  case stop =>
    rintro D c pre W _ _ h _
    exact h.elim
end

/-- Is n on the way of k? -/
def und (Wy : Nat → List (Fin 10)) (k : Nat) (n : Int) : Bool := decide (∃ x ∈ Wy k, (x.val : Int) = n)
/-- What is charged to those below n among the first k. -/
def totTo (t : Nat → Gp) (Wy : Nat → List (Fin 10)) (n : Int) (sel : Gp → Int) : Nat → Int
  | 0 => 0
  | k + 1 => totTo t Wy n sel k + if und Wy k n = true then sel (t k) else 0
def Ways (t : Nat → Gp) (Wy : Nat → List (Fin 10)) : Prop := ∀ k : Nat, k < 10 → Way t (k : Int) (vals (Wy k))
/-- What is charged to each is no great number. -/
def Small (t : Nat → Gp) : Prop := ∀ k, k < 10 → (0 ≤ (t k).op ∧ (t k).op ≤ 1000000) ∧ (0 ≤ (t k).oq ∧ (t k).oq ≤ 1000000)
theorem totTo_bd {t : Nat → Gp} (Wy : Nat → List (Fin 10)) (n : Int) {sel : Gp → Int} (h : ∀ k, k < 10 → 0 ≤ sel (t k) ∧ sel (t k) ≤ 1000000) : ∀ k, k ≤ 10 → 0 ≤ totTo t Wy n sel k ∧ totTo t Wy n sel k ≤ 1000000 * k
  | 0, _ => by simp [totTo]
  | k + 1, hk => by
    have ih := totTo_bd Wy n h k (by omega)
    have := h k (by omega)
    unfold totTo
    split <;> omega

/-- What the loop carries. -/
structure Ts (w W : World) (a c : Int) : Prop where
  bel : Below w.heap.size w W
  res : W.heap[w.heap.size]? = some (.cells #[.int .i64 0, .int .i64 0] 91 (0, 0))
  sum : W.heap[w.heap.size + 1]? = some (.cells #[.int .i64 a, .int .i64 c] 91 (0, 0))
theorem Ts.below {w W W' : World} {a c : Int} (h : Ts w W a c) (hb : Below W.heap.size W W') : Ts w W' a c := by
  have h1 := (Array.getElem?_eq_some_iff.1 h.sum).1
  exact ⟨h.bel.trans (hb.mono h.bel.size), (hb.block _ (by omega)).trans h.res, (hb.block _ h1).trans h.sum⟩
theorem Ts.drewN {w W : World} {a c : Int} (h : Ts w W a c) (n : Nat) : Ts w (W.drewN n) a c := ⟨below_drewN h.bel n, h.res, h.sum⟩
theorem Ts.drew {w W : World} {a c : Int} (h : Ts w W a c) : Ts w W.drew a c := h.drewN 1
theorem Ts.set0 {w W : World} {a c : Int} (h : Ts w W a c) (v : Int) : Ts w (W.setCell ⟨w.heap.size + 1, 0, none⟩ (.int .i64 v)) v c :=
  ⟨h.bel.setCell (by simp) _, (setBlk _ _ _ _ (by omega)).trans h.res, by rw [heap_set h.sum]; rfl⟩
theorem Ts.set1 {w W : World} {a c : Int} (h : Ts w W a c) (v : Int) : Ts w (W.setCell ⟨w.heap.size + 1, 1, none⟩ (.int .i64 v)) a v :=
  ⟨h.bel.setCell (by simp) _, (setBlk _ _ _ _ (by omega)).trans h.res, by rw [heap_set h.sum]; rfl⟩

set_option maxRecDepth 100000 in
set_option maxHeartbeats 2000000 in
theorem total_any (b : Nat) (n : Int) (t : Nat → Gp) (Wy : Nat → List (Fin 10)) (w : World) (hT : TAt w b t) (hW : Ways t Wy) (hS : Small t) :
    Calls Try.prog 58 #[.pointer (some ⟨b, 0, none⟩), .int .i64 n] w fun e W' => e = .returned (.agg #[.int .i64 (totTo t Wy n Gp.op 10), .int .i64 (totTo t Wy n Gp.oq 10)]) ∧ Below w.heap.size w W' := by
  have HT : Hid (TAt w b t) := hT
  have hbl := hT.lt
  have HW : Hid (Ways t Wy) := hW
  have HS : Hid (Small t) := hS
  clear hT hW hS
  go_enter Try.func58, Try.ntmps58
  go_wp2_with fail
  have A2 := al2 w (.cells #[.int .i64 0, .int .i64 0] 91) (.cells #[.int .i64 0, .int .i64 0] 91)
  refine wp_gen (fun W => Ts w W 0 0) ⟨((Below.refl _ w).alloc (Nat.le_refl _) _).alloc (by simp) _, A2.1, A2.2⟩ ?_
  intro W1 hT1
  clear A2
  go_loopw [7] (fun i wr => ∃ (k : Nat), i = .int .i64 k ∧ k ≤ 10 ∧ Hid (Ts w wr (totTo t Wy n Gp.op k) (totTo t Wy n Gp.oq k))) (fun i _ => 10 - (intOf i).toNat)
  case atStart => exact ⟨0, rfl, by omega, hT1⟩
  case round =>
    clear hT1
    obtain ⟨k, rfl, hk, H⟩ := hrel
    by_cases hlt : k < 10
    · have hltI : (k : Int) < 10 := by omega
      have T1 : Hid (TAt wr b t) := HT.out.below H.out.bel hbl
      go_wp2_with fail
      refine (under_any b k n t (Wy k) _ T1.out (HW.out k hlt)).mono ?_
      rintro e W2 ⟨rfl, hb2⟩
      have H2 : Hid (Ts w W2 (totTo t Wy n Gp.op k) (totTo t Wy n Gp.oq k)) := H.out.below hb2
      have T2 : Hid (TAt W2 b t) := T1.out.below hb2 T1.out.lt
      rw [show decide (∃ x ∈ Wy k, (x.val : Int) = n) = und Wy k n from rfl]
      have e1 : totTo t Wy n Gp.op (k + 1) = totTo t Wy n Gp.op k + if und Wy k n = true then (t k).op else 0 := rfl
      have e2 : totTo t Wy n Gp.oq (k + 1) = totTo t Wy n Gp.oq k + if und Wy k n = true then (t k).oq else 0 := rfl
      cases hu : und Wy k n
      · rw [hu] at e1 e2
        have E1 : Hid (totTo t Wy n Gp.op (k + 1) = totTo t Wy n Gp.op k) := by rw [e1]; simp [Hid]
        have E2 : Hid (totTo t Wy n Gp.oq (k + 1) = totTo t Wy n Gp.oq k) := by rw [e2]; simp [Hid]
        clear e1 e2 hu hb2
        go_wp2_with fail
        go_roundw
        case rel => exact ⟨k + 1, by go_num, by omega, by rw [E1.out, E2.out]; exact H2.out⟩
        case measure => simp [intOf]; omega
      · rw [hu, if_pos rfl] at e1 e2
        have E1 : Hid (totTo t Wy n Gp.op (k + 1) = totTo t Wy n Gp.op k + (t k).op) := e1
        have E2 : Hid (totTo t Wy n Gp.oq (k + 1) = totTo t Wy n Gp.oq k + (t k).oq) := e2
        have b1 := totTo_bd Wy n (fun k hk => (HS.out k hk).1) k hk
        have b2 := totTo_bd Wy n (fun k hk => (HS.out k hk).2) k hk
        have s1 := HS.out k hlt
        clear e1 e2 hu hb2
        generalize totTo t Wy n Gp.op k = X at *
        generalize totTo t Wy n Gp.oq k = Y at *
        have d0 : W2.cell? ⟨w.heap.size + 1, 0, none⟩ = some (.int .i64 X) := by rw [heap_cell H2.out.sum]; rfl
        have d1 : W2.cell? ⟨w.heap.size + 1, 1, none⟩ = some (.int .i64 Y) := by rw [heap_cell H2.out.sum]; rfl
        have f0 : ∀ o, W2.frozen? ⟨w.heap.size + 1, o, none⟩ = false := fun o => heap_frozen H2.out.sum o
        have g0 : W2.cell? ⟨b, k * 6 + 4, none⟩ = some (.int .i64 (t k).op) := T2.out.cell k 4 hlt (by omega)
        have g1 : W2.cell? ⟨b, k * 6 + 4 + 1, none⟩ = some (.int .i64 (t k).oq) := T2.out.cell k 5 hlt (by omega)
        have hne : b ≠ w.heap.size + 1 := by omega
        have hne' : w.heap.size + 1 ≠ b := by omega
        generalize (t k).op = P at *
        generalize (t k).oq = R at *
        go_wp2_with fail
        go_region
        go_wp2_with fail
        go_region
        go_wp2_with fail
        go_roundw
        case rel =>
          have Z := ((H2.out.set0 (X + P)).drew.set1 (Y + R)).drew
          refine ⟨k + 1, by go_num, by omega, ?_⟩
          rw [E1.out, E2.out]
          exact Z
        case measure => simp [intOf]; omega
    · have hk10 : k = 10 := by omega
      subst hk10
      have r0 : wr.cell? ⟨w.heap.size, 0, none⟩ = some (.int .i64 0) := by rw [heap_cell H.out.res]; rfl
      have r1 : wr.cell? ⟨w.heap.size, 1, none⟩ = some (.int .i64 0) := by rw [heap_cell H.out.res]; rfl
      have rf : ∀ o, wr.frozen? ⟨w.heap.size, o, none⟩ = false := fun o => heap_frozen H.out.res o
      have s0 : wr.cell? ⟨w.heap.size + 1, 0, none⟩ = some (.int .i64 (totTo t Wy n Gp.op 10)) := by rw [heap_cell H.out.sum]; rfl
      have s1 : wr.cell? ⟨w.heap.size + 1, 1, none⟩ = some (.int .i64 (totTo t Wy n Gp.oq 10)) := by rw [heap_cell H.out.sum]; rfl
      generalize hX : totTo t Wy n Gp.op 10 = X at s0
      generalize hY : totTo t Wy n Gp.oq 10 = Y at s1
      have HX : Hid (totTo t Wy n Gp.op 10 = X) := hX
      have HY : Hid (totTo t Wy n Gp.oq 10 = Y) := hY
      clear hX hY
      go_wp2_with fail
      refine bodyPost_ret (v := .agg #[.int .i64 X, .int .i64 Y]) (by simp [results, Try.results58, go_sem, r0, r1]) rfl ⟨by rw [HX.out, HY.out], ?_⟩
      exact (H.out.bel.setCell (p := ⟨w.heap.size, 0, none⟩) (Nat.le_refl _) _).setCell (p := ⟨w.heap.size, 1, none⟩) (Nat.le_refl _) _
end Go.Proofs.Ytgabceeekkcekaa

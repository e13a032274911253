/- The document's own open files as they lie; Is, Open, lay, Share, Seek. -/
import Derived.Test.YtmneolabgajhmaaGreatXj
namespace Go.Proofs.YtmneolabgajhmaaGreat
open Go.RowKit
open Fx (Fi)

def Fx.cer (x : Fi) : Nat → Value
  | 0 => .int .i64 (x.kind : Int)
  | 1 => .int .i64 (x.num : Int)
  | 2 => .int .i64 (x.pos : Int)
  | 3 => .int .i64 (x.refs : Int)
  | _ => .bool x.wr
def Fx.arr' (x : Fi) : Array Value := #[.int .i64 (x.kind : Int), .int .i64 (x.num : Int), .int .i64 (x.pos : Int), .int .i64 (x.refs : Int), .bool x.wr]
/-- The document's own: its forest in block c, its pipes in block q; twenty-four files of five cells each. -/
structure OAt (w : World) (m c q : Nat) (T : Nat → Fi) : Prop where
  blk : ∃ C Ty, w.heap[m]? = some (.cells C Ty (0, 0)) ∧ C.size = 122
  fo : w.cell? ⟨m, 0, none⟩ = some (.pointer (some ⟨c, 0, none⟩))
  pi : w.cell? ⟨m, 1, none⟩ = some (.pointer (some ⟨q, 0, none⟩))
  cell : ∀ n, n < 24 → ∀ i, i < 5 → w.cell? ⟨m, 2 + n * 5 + i, none⟩ = some (Fx.cer (T n) i)
section
variable {w w' : World} {m c q : Nat} {T : Nat → Fi}
theorem OAt.lt (h : OAt w m c q T) : m < w.heap.size := by
  obtain ⟨C, Ty, e, _⟩ := h.blk
  exact (Array.getElem?_eq_some_iff.1 e).1
theorem OAt.frozen (h : OAt w m c q T) (o : Nat) : w.frozen? ⟨m, o, none⟩ = false := by
  obtain ⟨C, Ty, e, _⟩ := h.blk
  exact frozen_blk e o
theorem OAt.same (h : OAt w m c q T) (e : w'.heap[m]? = w.heap[m]?) : OAt w' m c q T := by
  have hc : ∀ o, w'.cell? ⟨m, o, none⟩ = w.cell? ⟨m, o, none⟩ := fun o => World.cell?_of_block e
  exact ⟨by rw [e]; exact h.blk, (hc _).trans h.fo, (hc _).trans h.pi, fun n hn i hi => (hc _).trans (h.cell n hn i hi)⟩
theorem OAt.drew (h : OAt w m c q T) : OAt w.drew m c q T := h.same rfl
theorem OAt.drewN (h : OAt w m c q T) (n : Nat) : OAt (w.drewN n) m c q T := h.same rfl
theorem OAt.below {B : Nat} (h : OAt w m c q T) (k : Below B w w') (hb : m < B) : OAt w' m c q T := h.same (k.block m hb)
theorem OAt.frm {x : Nat} (h : OAt w m c q T) (k : Frm x w w') (hb : m ≠ x) : OAt w' m c q T := h.same (k.block m h.lt hb)
theorem OAt.kind (h : OAt w m c q T) (n : Nat) (hn : n < 24) : w.cell? ⟨m, 2 + n * 5, none⟩ = some (.int .i64 ((T n).kind : Int)) := h.cell n hn 0 (by omega)
theorem OAt.num (h : OAt w m c q T) (n : Nat) (hn : n < 24) : w.cell? ⟨m, 2 + n * 5 + 1, none⟩ = some (.int .i64 ((T n).num : Int)) := h.cell n hn 1 (by omega)
theorem OAt.pos (h : OAt w m c q T) (n : Nat) (hn : n < 24) : w.cell? ⟨m, 2 + n * 5 + 2, none⟩ = some (.int .i64 ((T n).pos : Int)) := h.cell n hn 2 (by omega)
theorem OAt.refs (h : OAt w m c q T) (n : Nat) (hn : n < 24) : w.cell? ⟨m, 2 + n * 5 + 3, none⟩ = some (.int .i64 ((T n).refs : Int)) := h.cell n hn 3 (by omega)
theorem OAt.wr (h : OAt w m c q T) (n : Nat) (hn : n < 24) : w.cell? ⟨m, 2 + n * 5 + 4, none⟩ = some (.bool (T n).wr) := h.cell n hn 4 (by omega)
theorem OAt.set (h : OAt w m c q T) (n : Nat) (hn : n < 24) (i : Nat) (hi : i < 5) (x : Fi) (hx : ∀ j, j < 5 → j ≠ i → Fx.cer x j = Fx.cer (T n) j) : OAt (w.setCell ⟨m, 2 + n * 5 + i, none⟩ (Fx.cer x i)) m c q (Fx.put T n x) := by
  obtain ⟨C, Ty, h1, h2⟩ := h.blk
  have ne : ∀ o, o ≠ 2 + n * 5 + i → (w.setCell ⟨m, 2 + n * 5 + i, none⟩ (Fx.cer x i)).cell? ⟨m, o, none⟩ = w.cell? ⟨m, o, none⟩ := fun o ho => cell_set_ne h1 _ _ _ (Ne.symm ho)
  refine ⟨⟨_, Ty, blk_set h1 _ _, by simpa using h2⟩, (ne _ (by omega)).trans h.fo, (ne _ (by omega)).trans h.pi, fun a ha j hj => ?_⟩
  by_cases e : a = n
  · subst e
    rw [Fx.put_same]
    by_cases d : j = i
    · subst d; exact cell_set_same h1 _ _ (by omega)
    · rw [ne _ (by omega), hx j hj d]; exact h.cell a ha j hj
  · rw [Fx.put_ne _ _ _ _ e, ne _ (by omega)]; exact h.cell a ha j hj
theorem OAt.setRefs (h : OAt w m c q T) (n : Nat) (hn : n < 24) (k : Nat) : OAt (w.setCell ⟨m, 2 + n * 5 + 3, none⟩ (.int .i64 (k : Int))) m c q (Fx.put T n { T n with refs := k }) :=
  h.set n hn 3 (by omega) { T n with refs := k } (fun j hj d => by
    match j, hj, d with
    | 0, _, _ => rfl
    | 1, _, _ => rfl
    | 2, _, _ => rfl
    | 3, _, d => exact absurd rfl d
    | 4, _, _ => rfl)
theorem OAt.setPos (h : OAt w m c q T) (n : Nat) (hn : n < 24) (k : Nat) : OAt (w.setCell ⟨m, 2 + n * 5 + 2, none⟩ (.int .i64 (k : Int))) m c q (Fx.put T n { T n with pos := k }) :=
  h.set n hn 2 (by omega) { T n with pos := k } (fun j hj d => by
    match j, hj, d with
    | 0, _, _ => rfl
    | 1, _, _ => rfl
    | 2, _, d => exact absurd rfl d
    | 3, _, _ => rfl
    | 4, _, _ => rfl)
theorem OAt.setAll (h : OAt w m c q T) (n : Nat) (hn : n < 24) (x : Fi) : OAt (w.setCells m (2 + n * 5) (Fx.arr' x).toList) m c q (Fx.put T n x) := by
  obtain ⟨C, Ty, h1, h2⟩ := h.blk
  obtain ⟨C', k1, k2⟩ := Pp.blk_setCells m (Fx.arr' x).toList (2 + n * 5) w C h1
  have out : ∀ o, o < 2 + n * 5 ∨ 2 + n * 5 + 5 ≤ o → (w.setCells m (2 + n * 5) (Fx.arr' x).toList).cell? ⟨m, o, none⟩ = w.cell? ⟨m, o, none⟩ := fun o ho => World.cell?_setCells_out m _ _ w ⟨m, o, none⟩ (fun _ _ => by show o < _ ∨ _ ≤ o; exact ho)
  refine ⟨⟨C', Ty, k1, by omega⟩, (out _ (by omega)).trans h.fo, (out _ (by omega)).trans h.pi, fun a ha j hj => ?_⟩
  by_cases e : a = n
  · subst e
    rw [Fx.put_same, World.cell?_setCells_in m (Fx.arr' x).toList (2 + a * 5) w (fun i hi => by have : i < 5 := hi; rw [h.cell a ha i this]; rfl) j hj]
    match j, hj with
    | 0, _ => rfl
    | 1, _ => rfl
    | 2, _ => rfl
    | 3, _ => rfl
    | 4, _ => rfl
  · rw [Fx.put_ne _ _ _ _ e, out _ (by omega)]; exact h.cell a ha j hj
end
set_option maxRecDepth 100000 in
set_option maxHeartbeats 400000 in
theorem ois_any (m c q : Nat) (z : Int) (T : Nat → Fi) (w : World) (h : OAt w m c q T) :
    Calls Tryz.prog 14 #[.pointer (some ⟨m, 0, none⟩), .int .i64 z] w fun e w' => e = .returned (.int .i64 (Fx.filE T z)) ∧ w' = w := by
  by_cases d : z < 0 ∨ 23 < z
  · have E : Hid (Fx.filE T z = 1) := Hid.intro (if_pos d)
    by_cases c1 : z < 0
    · clear d h
      go_enter Tryz.func14, Tryz.ntmps14
      go_wp2_with fail
      go_ret
      rw [E.out]
      exact ⟨rfl, rfl⟩
    · have c2 : 23 < z := by omega
      clear d h
      go_enter Tryz.func14, Tryz.ntmps14
      go_wp2_with fail
      go_ret
      rw [E.out]
      exact ⟨rfl, rfl⟩
  · obtain ⟨n, rfl⟩ : ∃ n : Nat, z = n := ⟨z.toNat, by omega⟩
    have n24 : n < 24 := by omega
    have n24i : (n : Int) < 24 := by omega
    have n23 : ¬ 23 < (n : Int) := by omega
    have E : Fx.filE T (n : Int) = if (T n).refs = 0 then 2 else 0 := by unfold Fx.filE; rw [if_neg d, Int.toNat_natCast]
    have c4 := h.refs n n24
    by_cases e : (T n).refs = 0
    · have E1 : Hid (Fx.filE T (n : Int) = 2) := Hid.intro (by rw [E, if_pos e])
      rw [e] at c4
      have c4' : w.cell? ⟨m, 2 + n * 5 + 3, none⟩ = some (.int .i64 0) := c4
      clear d h e E c4
      go_enter Tryz.func14, Tryz.ntmps14
      go_wp2_with fail
      go_ret
      rw [E1.out]
      exact ⟨rfl, rfl⟩
    · have E1 : Hid (Fx.filE T (n : Int) = 0) := Hid.intro (by rw [E, if_neg e])
      generalize (T n).refs = rr at *
      have d1 : ((rr : Int) == 0) = false := by simp; omega
      clear d h e E
      go_enter Tryz.func14, Tryz.ntmps14
      go_wp2_with fail
      go_ret
      rw [E1.out]
      exact ⟨rfl, rfl⟩
set_option maxRecDepth 100000 in
set_option maxHeartbeats 1000000 in
theorem oopen_any (m c q : Nat) (T : Nat → Fi) (w : World) (h : OAt w m c q T) :
    Calls Tryz.prog 17 #[.pointer (some ⟨m, 0, none⟩)] w fun e w' => e = .returned (.int .i64 (Fx.cnt T 24 : Int)) ∧ w' = w := by
  have HF := Hid.intro h
  clear h
  go_enter Tryz.func17, Tryz.ntmps17
  go_wp2_with fail
  go_loopw [3, 4] (fun x i wr => ∃ (n : Nat), i = .int .i64 n ∧ x = .int .i64 (Fx.cnt T n : Int) ∧ n ≤ 24 ∧ wr = w) (fun _ i _ => 24 - (intOf i).toNat)
  case atStart => exact ⟨0, rfl, rfl, by omega, rfl⟩
  case round =>
    obtain ⟨n, rfl, rfl, hn, hwr⟩ := hrel
    subst wr
    by_cases hlt : n < 24
    · have hltI : (n : Int) < 24 := by omega
      have lc := Fx.cnt_le T n
      have LS : Fx.cnt T (n + 1) = Fx.cnt T n + if (T n).refs = 0 then 0 else 1 := rfl
      have c4 := HF.out.refs n hlt
      generalize Fx.cnt T n = cn at *
      by_cases d : (T n).refs = 0
      · rw [if_pos d] at LS
        have LL := Hid.intro LS
        have d1 : ¬ (0 : Int) < ((T n).refs : Int) := by omega
        generalize (T n).refs = rr at *
        clear d LS
        go_wp2_with fail
        go_roundw
        case rel => exact ⟨n + 1, by go_num, by rw [LL.out]; rfl, by omega, by first | rfl | trivial⟩
        case measure => simp [intOf]; omega
      · rw [if_neg d] at LS
        have LL := Hid.intro LS
        have d1 : (0 : Int) < ((T n).refs : Int) := by omega
        generalize (T n).refs = rr at *
        clear d LS
        go_wp2_with fail
        go_roundw
        case rel => exact ⟨n + 1, by go_num, by rw [LL.out]; go_num, by omega, by first | rfl | trivial⟩
        case measure => simp [intOf]; omega
    · have hltI : ¬ (n : Int) < 24 := by omega
      obtain rfl : n = 24 := by omega
      go_wp2_with fail
      go_ret
      exact ⟨rfl, rfl⟩
set_option maxRecDepth 100000 in
set_option maxHeartbeats 1000000 in
theorem olay_any (m c q : Nat) (x : Fi) (n : Nat) (T : Nat → Fi) (w : World) (h : OAt w m c q T) (hl : Fx.Low T n) :
    Calls Tryz.prog 88 #[.pointer (some ⟨m, 0, none⟩), .agg #[.int .i64 (x.kind : Int), .int .i64 (x.num : Int), .int .i64 (x.pos : Int), .int .i64 (x.refs : Int), .bool x.wr]] w fun e w' => e = .returned (.int .i64 (n : Int)) ∧ OAt w' m c q (Fx.put T n { x with refs := 1 }) ∧ Frm m w w' := by
  have HF := Hid.intro h
  have HL := Hid.intro hl
  have hlt := h.lt
  have NE : Hid (w.heap.size ≠ m) := Hid.intro (by omega)
  clear h hl hlt
  obtain ⟨kd, nm, wb, ps, rf⟩ := x
  go_enter Tryz.func88, Tryz.ntmps88
  go_upto_region 1 with fail
  refine wp_gen (fun W' => OAt W' m c q T ∧ Frm m w W' ∧ W'.heap[w.heap.size]? = some (.cells #[.int .i64 (kd : Int), .int .i64 (nm : Int), .int .i64 (ps : Int), .int .i64 (rf : Int), .bool wb] 58 (0, 0))) (by
    have bb := (Below.refl w.heap.size w).alloc (Nat.le_refl _) (.cells #[.int .i64 (kd : Int), .int .i64 (nm : Int), .int .i64 (ps : Int), .int .i64 (rf : Int), .bool wb] 58)
    exact ⟨HF.out.below bb HF.out.lt, Frm.of_below bb, heap_alloc_new w _⟩) ?_
  rintro W1 ⟨h1, f1, x1⟩
  have H1 := Hid.intro h1
  have F1 := Hid.intro f1
  have X1 := Hid.intro x1
  clear h1 f1 x1 HF
  obtain ⟨bx, hbx⟩ : ∃ bx, w.heap.size = bx := ⟨_, rfl⟩
  have HB := Hid.intro hbx
  rw [hbx] at X1 NE ⊢
  clear hbx
  go_wp2_with fail
  go_loopw [5] (fun i wr => ∃ (k : Nat), i = .int .i64 k ∧ k ≤ n ∧ wr = W1) (fun i _ => n - (intOf i).toNat)
  case atStart => exact ⟨0, rfl, by omega, rfl⟩
  case round =>
    obtain ⟨k, rfl, hk, hwr⟩ := hrel
    subst wr
    have n24 : n < 24 := HL.out.1
    have k24i : (k : Int) < 24 := by omega
    have c4 := H1.out.refs k (by omega)
    by_cases e : k = n
    · subst e
      rw [HL.out.2.1] at c4
      have c4' : W1.cell? ⟨m, 2 + k * 5 + 3, none⟩ = some (.int .i64 0) := c4
      clear c4
      have cx := act_cells X1.out 3 (.int .i64 (rf : Int)) rfl
      have fx := frozen_blk X1.out
      have HS : OAt (W1.setCell ⟨bx, 3, none⟩ (.int .i64 1)) m c q T ∧ Frm m w (W1.setCell ⟨bx, 3, none⟩ (.int .i64 1)) ∧ (W1.setCell ⟨bx, 3, none⟩ (.int .i64 1)).heap[bx]? = some (.cells #[.int .i64 (kd : Int), .int .i64 (nm : Int), .int .i64 (ps : Int), .int .i64 1, .bool wb] 58 (0, 0)) := ⟨H1.out.same (setBlk _ _ _ _ (Ne.symm NE.out)), F1.out.fresh (Nat.le_of_eq HB.out) _ _, by rw [blk_set X1.out]; rfl⟩
      go_upto_region 5 with fail
      clear cx fx c4'
      generalize W1.setCell ⟨bx, 3, none⟩ (.int .i64 1) = W2 at HS ⊢
      obtain ⟨s1, s2, s3⟩ := HS
      have x0 := act_cells s3 0 (.int .i64 (kd : Int)) rfl
      have x1 := act_cells s3 1 (.int .i64 (nm : Int)) rfl
      have x2 := act_cells s3 2 (.int .i64 (ps : Int)) rfl
      have x3 := act_cells s3 3 (.int .i64 1) rfl
      have x4 := act_cells s3 4 (.bool wb) rfl
      have y0 := s1.kind k n24
      have y1 := s1.num k n24
      have y2 := s1.pos k n24
      have y3 := s1.refs k n24
      have y4 := s1.wr k n24
      have yf := s1.frozen
      have FIN : Hid (OAt (W2.setCells m (2 + k * 5) (Fx.arr' ⟨kd, nm, wb, ps, 1⟩).toList).drew m c q (Fx.put T k ⟨kd, nm, wb, ps, 1⟩) ∧ Frm m w (W2.setCells m (2 + k * 5) (Fx.arr' ⟨kd, nm, wb, ps, 1⟩).toList).drew) := Hid.intro ⟨(s1.setAll k n24 _).drew, (Pp.frm_setCells _ _ s2).drew⟩
      clear s1 s2 s3
      go_region
      go_wp2_with fail
      go_ret
      exact ⟨rfl, FIN.out⟩
    · have d := HL.out.2.2 k (by omega)
      generalize (T k).refs = rr at *
      have d1 : (0 : Int) < (rr : Int) := by omega
      clear d
      go_wp2_with fail
      go_roundw
      case rel => exact ⟨k + 1, by go_num, by omega, by first | rfl | trivial⟩
      case measure => simp [intOf]; omega
set_option maxRecDepth 100000 in
set_option maxHeartbeats 1000000 in
theorem oshare_any (m c q : Nat) (z : Int) (T : Nat → Fi) (w : World) (h : OAt w m c q T) (hr : ∀ n, n < 24 → (T n).refs < 2 ^ 60) :
    Calls Tryz.prog 49 #[.pointer (some ⟨m, 0, none⟩), .int .i64 z] w fun e w' => e = .returned (.int .i64 (Fx.filE T z)) ∧ OAt w' m c q (Fx.shaT T z) ∧ Frm m w w' := by
  have HF := Hid.intro h
  by_cases d : Fx.filE T z = 0
  · obtain ⟨n, rfl, n24, _⟩ := Fx.filE_ok d
    have n24i : (n : Int) < 24 := by omega
    have EP : Hid (Fx.filE T (n : Int) = 0) := Hid.intro d
    have c0 := h.refs n n24
    have hl := hr n n24
    have FIN : Hid (OAt (w.setCell ⟨m, 2 + n * 5 + 3, none⟩ (.int .i64 (((T n).refs + 1 : Nat) : Int))) m c q (Fx.shaT T (n : Int))) := Hid.intro (by
      unfold Fx.shaT
      rw [if_pos d, Int.toNat_natCast]
      exact h.setRefs n n24 _)
    have cf := h.frozen
    generalize (T n).refs = k at *
    have hw : IntKind.i64.wrap ((k : Int) + 1) = (k : Int) + 1 := IntWalk.i64_in _ ⟨by omega, by omega⟩
    clear h d hr
    go_enter Tryz.func49, Tryz.ntmps49
    go_wp2_with fail
    refine (ois_any m c q n T _ HF.out).mono ?_
    rintro e w1 ⟨rfl, hw1⟩
    subst w1
    rw [EP.out]
    go_upto_region 3 with fail
    go_region
    go_wp2_with fail
    go_ret
    rw [EP.out]
    exact ⟨rfl, FIN.out.drew, ((Frm.refl m w).setCell _ _).drew⟩
  · have E2 : Hid (Fx.shaT T z = T) := Hid.intro (if_neg d)
    have d1 : (Fx.filE T z == 0) = false := by simpa using d
    clear h hr d
    go_enter Tryz.func49, Tryz.ntmps49
    go_wp2_with fail
    refine (ois_any m c q z T _ HF.out).mono ?_
    rintro e w1 ⟨rfl, hw1⟩
    subst w1
    go_wp2_with fail
    go_ret
    rw [E2.out]
    exact ⟨rfl, HF.out, Frm.refl _ _⟩
set_option maxRecDepth 100000 in
set_option maxHeartbeats 1000000 in
theorem oseek_any (m c q : Nat) (z a : Int) (T : Nat → Fi) (w : World) (h : OAt w m c q T) :
    Calls Tryz.prog 56 #[.pointer (some ⟨m, 0, none⟩), .int .i64 z, .int .i64 a] w fun e w' => e = .returned (.int .i64 (Fx.seeE T z a)) ∧ OAt w' m c q (Fx.seeT T z a) ∧ Frm m w w' := by
  have HF := Hid.intro h
  by_cases d : Fx.filE T z = 0
  · obtain ⟨n, rfl, n24, _⟩ := Fx.filE_ok d
    have n24i : (n : Int) < 24 := by omega
    have EP : Hid (Fx.filE T (n : Int) = 0) := Hid.intro d
    have DE : Fx.seeE T (n : Int) a = if (T n).kind ≠ 1 then 11 else if a < 0 ∨ 40 < a then 1 else 0 := by unfold Fx.seeE; rw [if_neg (fun e => e d), Int.toNat_natCast]
    have c0 := h.kind n n24
    have c3 := h.pos n n24
    have cf := h.frozen
    have no : ∀ E, E ≠ 0 → Fx.seeE T (n : Int) a = E → Fx.seeT T (n : Int) a = T := fun E e0 e => by unfold Fx.seeT; rw [e, if_neg e0]
    by_cases k1 : (T n).kind = 1
    · rw [k1] at c0
      have c0' : w.cell? ⟨m, 2 + n * 5, none⟩ = some (.int .i64 1) := c0
      by_cases a0 : a < 0
      · have e : Fx.seeE T (n : Int) a = 1 := by rw [DE, if_neg (fun d => d k1), if_pos (.inl a0)]
        have FIN : Hid (Fx.seeE T (n : Int) a = 1 ∧ Fx.seeT T (n : Int) a = T) := Hid.intro ⟨e, no 1 (by decide) e⟩
        clear h d DE no k1 c0 e c3
        go_enter Tryz.func56, Tryz.ntmps56
        go_wp2_with fail
        refine (ois_any m c q n T _ HF.out).mono ?_
        rintro e w1 ⟨rfl, hw1⟩
        subst w1
        rw [EP.out]
        go_wp2_with fail
        go_ret
        rw [FIN.out.1, FIN.out.2]
        exact ⟨rfl, HF.out, Frm.refl _ _⟩
      · by_cases a4 : 40 < a
        · have e : Fx.seeE T (n : Int) a = 1 := by rw [DE, if_neg (fun d => d k1), if_pos (.inr a4)]
          have FIN : Hid (Fx.seeE T (n : Int) a = 1 ∧ Fx.seeT T (n : Int) a = T) := Hid.intro ⟨e, no 1 (by decide) e⟩
          clear h d DE no k1 c0 e c3
          go_enter Tryz.func56, Tryz.ntmps56
          go_wp2_with fail
          refine (ois_any m c q n T _ HF.out).mono ?_
          rintro e w1 ⟨rfl, hw1⟩
          subst w1
          rw [EP.out]
          go_wp2_with fail
          go_ret
          rw [FIN.out.1, FIN.out.2]
          exact ⟨rfl, HF.out, Frm.refl _ _⟩
        · have e : Fx.seeE T (n : Int) a = 0 := by rw [DE, if_neg (fun d => d k1), if_neg (by omega)]
          obtain ⟨p, rfl⟩ : ∃ p : Nat, a = p := ⟨a.toNat, by omega⟩
          have FIN : Hid (Fx.seeE T (n : Int) (p : Int) = 0 ∧ OAt (w.setCell ⟨m, 2 + n * 5 + 2, none⟩ (.int .i64 (p : Int))) m c q (Fx.seeT T (n : Int) (p : Int))) := Hid.intro ⟨e, by unfold Fx.seeT; rw [if_pos e, Int.toNat_natCast, Int.toNat_natCast]; exact h.setPos n n24 p⟩
          generalize (T n).pos = ps at *
          clear h d DE no k1 c0 e
          go_enter Tryz.func56, Tryz.ntmps56
          go_wp2_with fail
          refine (ois_any m c q n T _ HF.out).mono ?_
          rintro e w1 ⟨rfl, hw1⟩
          subst w1
          rw [EP.out]
          go_wp2_with fail
          go_ret
          rw [FIN.out.1]
          exact ⟨rfl, FIN.out.2, (Frm.refl m w).setCell _ _⟩
    · have e : Fx.seeE T (n : Int) a = 11 := by rw [DE, if_pos k1]
      have FIN : Hid (Fx.seeE T (n : Int) a = 11 ∧ Fx.seeT T (n : Int) a = T) := Hid.intro ⟨e, no 11 (by decide) e⟩
      have k1' : (((T n).kind : Int) != 1) = true := by simp; omega
      have k1'' : (((T n).kind : Int) == 1) = false := by simp; omega
      generalize (T n).kind = kd at *
      clear h d DE no k1 e c3
      go_enter Tryz.func56, Tryz.ntmps56
      go_wp2_with fail
      refine (ois_any m c q n T _ HF.out).mono ?_
      rintro e w1 ⟨rfl, hw1⟩
      subst w1
      rw [EP.out]
      go_wp2_with fail
      go_ret
      rw [FIN.out.1, FIN.out.2]
      exact ⟨rfl, HF.out, Frm.refl _ _⟩
  · have E2 : Hid (Fx.seeE T z a = Fx.filE T z ∧ Fx.seeT T z a = T) := Hid.intro (by
      have e : Fx.seeE T z a = Fx.filE T z := if_pos d
      exact ⟨e, by unfold Fx.seeT; rw [e, if_neg d]⟩)
    have p0 : 0 < Fx.filE T z := by have := Fx.filE_nn T z; omega
    clear h d
    go_enter Tryz.func56, Tryz.ntmps56
    go_wp2_with fail
    refine (ois_any m c q z T _ HF.out).mono ?_
    rintro e w1 ⟨rfl, hw1⟩
    subst w1
    go_wp2_with fail
    go_ret
    rw [E2.out.1, E2.out.2]
    exact ⟨rfl, HF.out, Frm.refl _ _⟩
end Go.Proofs.YtmneolabgajhmaaGreat

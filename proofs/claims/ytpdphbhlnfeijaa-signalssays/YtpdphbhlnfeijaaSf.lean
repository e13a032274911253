/- The law SignalsSays. -/
import Derived.Test.YtpdphbhlnfeijaaSe
namespace Go.Proofs.Ytpdphbhlnfeijaa
open Go.RowKit
open Sg (S1)

/-- A new box. -/
theorem box_new (w : World) : CX (w.alloc (.cells (boxA Sg.nul) 30)) w.heap.size Sg.nul ∧ Below w.heap.size w (w.alloc (.cells (boxA Sg.nul) 30)) :=
  ⟨CX.of_blk (heap_alloc_new w _), (Below.refl _ _).alloc (Nat.le_refl _) _⟩
/-- The document's own box, new. -/
def rboxA : Array Value := ((List.range 27).map fun o => if o < 18 then Value.bool false else Value.int .i64 0).toArray
theorem rboxA_at (o : Nat) (h : o < 27) : rboxA[o]? = some (if o < 18 then Value.bool false else Value.int .i64 0) := by simp [rboxA, h]
theorem rbox_zero : Try.prog.built 35 [] = some rboxA := by kernel_rfl
theorem RX.of_new {w : World} {b : Nat} {T : TypeId} (h : w.heap[b]? = some (.cells rboxA T (0, 0))) : RX w b Sg.nul := by
  refine ⟨⟨_, T, h, by simp [rboxA]⟩, fun n hn => ?_, fun n hn => ?_, fun n hn => ?_⟩
  · rw [cell_blk h, rboxA_at _ (by omega), if_pos (by omega)]; rfl
  · rw [cell_blk h, rboxA_at _ (by omega), if_pos (by omega)]; rfl
  · rw [cell_blk h, rboxA_at _ (by omega), if_neg (by omega)]; rfl
theorem rbox_new (w : World) : RX (w.alloc (.cells rboxA 35)) w.heap.size Sg.nul ∧ Below w.heap.size w (w.alloc (.cells rboxA 35)) :=
  ⟨RX.of_new (heap_alloc_new w _), (Below.refl _ _).alloc (Nat.le_refl _) _⟩
section
variable {ops : Array Oper} {rest : List Oper} {x : Oper} {a : Act} {w : World} {Q : Exit → Act → World → Prop}
theorem wp_buildRBox (hgd : x.guard = none) (ho : x.op = .build 35 #[]) (h : wpList Try.prog ops Q rest (a.put x.dst (.agg rboxA)) w) : wpList Try.prog ops Q (x :: rest) a w :=
  wpList_build hgd 35 #[] ho (by simp [rbox_zero]) (by simpa [rbox_zero] using h)
end
/-- Nine of the document's own, all at once. -/
def nineB : List Value := [.bool false, .bool false, .bool false, .bool false, .bool false, .bool false, .bool false, .bool false, .bool false]
theorem heapSetCells_ne (b : Nat) : ∀ (vs : List Value) (o : Nat) (w : World) (k : Nat), k ≠ b → (w.setCells b o vs).heap[k]? = w.heap[k]?
  | [], _, _, _, _ => rfl
  | v :: r, o, w, k, h => by
    rw [World.setCells, heapSetCells_ne b r (o + 1) _ k h]
    exact setBlk _ _ _ _ h
theorem FrmSetCells {b : Nat} : ∀ (vs : List Value) (o : Nat) {u w : World}, Frm b u w → Frm b u (w.setCells b o vs)
  | [], _, _, _, h => h
  | v :: r, o, u, w, h => by rw [World.setCells]; exact FrmSetCells r (o + 1) (h.setCell o v)
theorem blkSetCells (b : Nat) : ∀ (vs : List Value) (o : Nat) (w : World) (C : Array Value) {T : TypeId}, w.heap[b]? = some (.cells C T (0, 0)) → ∃ C', (w.setCells b o vs).heap[b]? = some (.cells C' T (0, 0)) ∧ C'.size = C.size
  | [], _, _, C, _, h => ⟨C, h, rfl⟩
  | v :: r, o, w, C, T, h => by
    rw [World.setCells]
    obtain ⟨C', h1, h2⟩ := blkSetCells b r (o + 1) _ _ (blk_set h o v)
    exact ⟨C', h1, by rw [h2]; simp⟩
theorem nineB_at (n : Nat) (h : n < 9) : nineB[n]'h = .bool false := by
  match n, h with
  | 0, _ => rfl
  | 1, _ => rfl
  | 2, _ => rfl
  | 3, _ => rfl
  | 4, _ => rfl
  | 5, _ => rfl
  | 6, _ => rfl
  | 7, _ => rfl
  | 8, _ => rfl
theorem RX.child {w : World} {b : Nat} {X : Nat → S1} (h : RX w b X) : RX (w.setCells b 0 nineB) b (Sg.chiF X) := by
  obtain ⟨C, T, e, hC⟩ := h.blk
  obtain ⟨C', h1, h2⟩ := blkSetCells b nineB 0 w C e
  refine ⟨⟨C', T, h1, by rw [h2, hC]⟩, fun n hn => ?_, fun n hn => ?_, fun n hn => ?_⟩
  · have := World.cell?_setCells_in b nineB 0 w (fun j hj => by rw [Nat.zero_add, h.wt j hj]; rfl) n hn
    rw [Nat.zero_add] at this
    rw [this, nineB_at n hn]
    rfl
  · rw [World.cell?_setCells_out b nineB 0 w ⟨b, 9 + n, none⟩ (fun _ _ => by show _ ∨ 0 + 9 ≤ 9 + n; omega)]
    exact h.hd n hn
  · rw [World.cell?_setCells_out b nineB 0 w ⟨b, 18 + n, none⟩ (fun _ _ => by show _ ∨ 0 + 9 ≤ 18 + n; omega)]
    exact h.hw n hn
theorem RX.there {w : World} {b : Nat} {X : Nat → S1} (h : RX w b X) : w.there b 0 nineB.toArray.size := fun j hj => by
  rw [Nat.zero_add]
  exact ⟨by rw [h.wt j hj]; rfl, h.frozen j⟩
theorem nine_size : (Try.prog.info? 32).map (·.size) = some nineB.toArray.size := by kernel_rfl
theorem nine_one : nineB.toArray.all (·.oneCell') = true := all_oneCell_toArray (fun v hv => by
  simp only [nineB, List.mem_cons, List.not_mem_nil, or_false] at hv
  rcases hv with rfl | rfl | rfl | rfl | rfl | rfl | rfl | rfl | rfl <;> rfl)

/-- A signal that is caught and sent is the first one. -/
theorem Sg.ring4 : Sg.FirTo (Sg.senF (Sg.howF Sg.nul 4 2) 4) 2 4 := .inr ⟨by omega, by omega, rfl, fun j h1 h2 => by
  match j, h1, h2 with
  | 1, _, _ => rfl
  | 2, _, _ => rfl
  | 3, _, _ => rfl⟩
set_option maxRecDepth 100000 in
set_option maxHeartbeats 1000000 in
theorem rings_any (w : World) : Calls Try.prog 5 #[] w fun e w' => e = .returned (.bool true) ∧ Below w.heap.size w w' := by
  go_enter Try.func5, Try.ntmps5
  go_upto_region 2 with (refine wp_buildBox0 rfl rfl ?_)
  refine wp_gen (fun W' => CX W' w.heap.size Sg.nul ∧ Below w.heap.size w W') (box_new w) ?_
  rintro W1 ⟨f1, b1⟩
  have F1 := Hid.intro f1
  have B1 := Hid.intro b1
  clear f1 b1
  go_wp2_with fail
  refine (how_any w.heap.size 4 2 _ _ F1.out).mono ?_
  rintro e W2 ⟨rfl, f2, k2⟩
  have F2 := Hid.intro f2
  have B2 := Hid.intro (k2.below B1.out (Nat.le_refl _) B1.out.size)
  clear f2 k2
  rw [show Sg.howE 4 2 = 0 from rfl, errV_zero]
  go_wp2_with fail
  refine (send_any w.heap.size 4 _ _ F2.out).mono ?_
  rintro e W3 ⟨rfl, f3, k3⟩
  have F3 := Hid.intro f3
  have B3 := Hid.intro (k3.below B2.out (Nat.le_refl _) B2.out.size)
  clear f3 k3
  rw [show Sg.isE 4 = 0 from rfl, errV_zero]
  go_wp2_with fail
  refine (take_any w.heap.size _ _ F3.out).mono ?_
  rintro e W4 ⟨n, rfl, hn, f4, k4⟩
  obtain rfl := hn.unique Sg.ring4
  have F4 := Hid.intro f4
  have B4 := Hid.intro (k4.below B3.out (Nat.le_refl _) B3.out.size)
  clear f4 k4 hn
  rw [show Sg.isB 4 = true from rfl]
  go_wp2_with (first | (go_at_call 7; refine (same_nil _).mono ?_; rintro e w' ⟨rfl, rfl⟩) | (go_at_call 19; refine (waits_any w.heap.size 4 _ _ F4.out).mono ?_; rintro e w' ⟨rfl, rfl⟩; rw [show Sg.waiB (Sg.takF (Sg.senF (Sg.howF Sg.nul 4 2) 4) 4) 4 = false from rfl]))
  go_ret
  exact ⟨rfl, B4.out⟩

/-- What the law has in its hands: both boxes are X. -/
structure SY (w W : World) (b r : Nat) (X : Nat → S1) : Prop where
  bel : Below w.heap.size w W
  le : w.heap.size ≤ b
  le' : w.heap.size ≤ r
  ne : b ≠ r
  code : CX W b X
  ref : RX W r X
  inv : Sg.Inv X
section
variable {w W W' W4 W5 : World} {b r : Nat} {X X' : Nat → S1}
theorem SY.below (h : SY w W b r X) (k : Below W.heap.size W W') : SY w W' b r X := ⟨h.bel.trans (k.mono h.bel.size), h.le, h.le', h.ne, h.code.below k h.code.lt, h.ref.below k h.ref.lt, h.inv⟩
theorem SY.drew (h : SY w W b r X) : SY w W.drew b r X := ⟨h.bel.drew, h.le, h.le', h.ne, h.code.drew, h.ref.drew, h.inv⟩
theorem SY.ref' (h : SY w W b r X) (k : Frm b W W') : RX W' r X := h.ref.frm k (Ne.symm h.ne)
theorem SY.step (h : SY w W b r X) (f4 : CX W4 b X') (k4 : Frm b W W4) (f5 : RX W5 r X') (k5 : Frm r W4 W5) (i : Sg.Inv X') : SY w W5 b r X' :=
  ⟨k5.below (k4.below h.bel h.le h.bel.size) h.le' (Nat.le_trans h.bel.size k4.size), h.le, h.le', h.ne, f4.frm k5 h.ne, f5, i⟩
end
set_option maxRecDepth 100000 in
set_option maxHeartbeats 400000 in
theorem sg_far (a0 : Option Addr) (n0 c0 : Nat) (w : World) (h : 120 < n0) :
    Calls Try.prog 3 #[.slice a0 n0 c0] w fun e w' => e = .returned (.bool true) ∧ Below w.heap.size w w' := by
  have d : decide ((n0 : Int) ≤ 120) = false := by simp; omega
  go_enter Try.func3, Try.ntmps3
  go_wp2_with fail
  refine (rings_any _).mono ?_
  rintro e W1 ⟨rfl, hb⟩
  have HB := Hid.intro hb
  clear hb
  go_wp2_with fail
  refine (light_any _ _ _ _ _).mono ?_
  rintro e W2 ⟨rfl, rfl⟩
  rw [d]
  go_wp2_with fail
  go_ret
  exact ⟨rfl, HB.out⟩
theorem Sg.max_min (n : Nat) (h : n < 9) : (max (0 : Int) (min (n : Int) 8)) = n := by omega
set_option maxRecDepth 100000 in
set_option maxHeartbeats 8000000 in
theorem sg_near (a0 : Option Addr) (n0 c0 : Nat) (w : World) (h0 : IsActs0 w a0 n0) (hn : n0 ≤ 120) :
    Calls Try.prog 3 #[.slice a0 n0 c0] w fun e w' => e = .returned (.bool true) ∧ Below w.heap.size w w' := by
  have d : decide ((n0 : Int) ≤ 120) = true := by simp; omega
  have H0 := Hid.intro h0
  clear h0
  go_enter Try.func3, Try.ntmps3
  go_wp2_with fail
  refine (rings_any _).mono ?_
  rintro e W1 ⟨rfl, hb1⟩
  have HB := Hid.intro hb1
  clear hb1
  go_wp2_with fail
  refine (light_any _ _ _ _ _).mono ?_
  rintro e W2 ⟨rfl, hW2⟩
  subst W2
  rw [d]
  go_upto_region 5 with (refine wp_buildBox0 rfl rfl ?_)
  refine wp_gen (fun W' => CX W' W1.heap.size Sg.nul ∧ Below W1.heap.size W1 W') (box_new W1) ?_
  rintro W2 ⟨f2, b2⟩
  have H2 := Hid.intro (And.intro f2 b2)
  clear f2 b2
  go_upto_region 6 with (refine wp_buildRBox rfl rfl ?_)
  refine wp_gen (fun W' => RX W' W2.heap.size Sg.nul ∧ Below W2.heap.size W2 W') (rbox_new W2) ?_
  rintro W3 ⟨f3, b3⟩
  have l2 := H2.out.1.lt
  have s1 := HB.out.size
  have S0 : Hid (SY w W3 W1.heap.size W2.heap.size Sg.nul) := Hid.intro ⟨(HB.out.trans (H2.out.2.mono HB.out.size)).trans (b3.mono (by omega)), HB.out.size, by omega, by omega, H2.out.1.below b3 l2, f3, Sg.inv0⟩
  clear f3 b3 H2 HB d l2 s1
  generalize W1.heap.size = bb at *
  generalize W2.heap.size = r at *
  go_wp2_with fail
  go_loopw [4, 6] (fun p i wr => ∃ (k b : Nat) (X : Nat → S1), i = .int .i64 k ∧ p = .pointer (some ⟨b, 0, none⟩) ∧ k ≤ n0 ∧ Hid (SY w wr b r X)) (fun _ i _ => n0 - (intOf i).toNat)
  case atStart => exact ⟨0, bb, Sg.nul, rfl, rfl, by omega, S0⟩
  case round =>
    clear S0
    obtain ⟨k, b, X, rfl, rfl, hk, S⟩ := hrel
    by_cases hlt : k < n0
    · have hltI : (k : Int) < (n0 : Int) := by omega
      obtain ⟨b0, o0, ax, ha, hc⟩ := H0.out.2 (by omega)
      subst ha
      obtain ⟨kd, P, Q, R, K, On, S1, T1, hax⟩ : ∃ kd A B C K On S1 T1, ax k = ⟨kd, A, B, C, K, On, S1, T1⟩ := ⟨_, _, _, _, _, _, _, _, rfl⟩
      have bl : b0 < w.heap.size := World.block_lt_of_cell? _ _ (hc k hlt 0 (by omega))
      have cl : ∀ j, j < 8 → wr.cell? ⟨b0, o0 + k * 8 + j, none⟩ = some ((⟨kd, P, Q, R, K, On, S1, T1⟩ : Act8).cell j) := fun j hj => by
        rw [← hax]; exact (S.out.bel.cell (p := ⟨b0, o0 + k * 8 + j, none⟩) bl).trans (hc k hlt j hj)
      have c0' : wr.cell? ⟨b0, o0 + k * 8, none⟩ = some (.string kd) := cl 0 (by omega)
      have c1 : wr.cell? ⟨b0, o0 + k * 8 + 1, none⟩ = some (.int .i64 P) := cl 1 (by omega)
      have c2 : wr.cell? ⟨b0, o0 + k * 8 + 2, none⟩ = some (.int .i64 Q) := cl 2 (by omega)
      have c3 : wr.cell? ⟨b0, o0 + k * 8 + 3, none⟩ = some (.int .i64 R) := cl 3 (by omega)
      have c4 : wr.cell? ⟨b0, o0 + k * 8 + 4, none⟩ = some (.int .u64 K) := cl 4 (by omega)
      have c5 : wr.cell? ⟨b0, o0 + k * 8 + 5, none⟩ = some (.bool On) := cl 5 (by omega)
      have c6 : wr.cell? ⟨b0, o0 + k * 8 + 6, none⟩ = some (.string S1) := cl 6 (by omega)
      have c7 : wr.cell? ⟨b0, o0 + k * 8 + 7, none⟩ = some (.string T1) := cl 7 (by omega)
      clear cl hax bl hc
      go_upto_region 10 with fail
      have hbw := Hid.intro S.out.code.lt
      have hrw := Hid.intro S.out.ref.lt
      refine wp_gen (fun W' => SY w W' b r X ∧ W'.heap[wr.heap.size]? = some (.cells #[.string kd, .int .i64 P, .int .i64 Q, .int .i64 R, .int .u64 K, .bool On, .string S1, .string T1] 38 (0, 0))) ⟨S.out.below ((Below.refl _ _).alloc (Nat.le_refl _) _), heap_alloc_new wr _⟩ ?_
      rintro W3 ⟨hS3, hbx⟩
      clear c0' c1 c2 c3 c4 c5 c6 c7 S
      have HBA : Hid (wr.heap.size < W3.heap.size ∧ wr.heap.size ≠ b ∧ wr.heap.size ≠ r) := ⟨(Array.getElem?_eq_some_iff.1 hbx).1, by have := hbw.out; omega, by have := hrw.out; omega⟩
      clear hbw hrw
      generalize wr.heap.size = ba at *
      have S3 := Hid.intro hS3
      have HI := Hid.intro hS3.inv
      have x0 := act_cells hbx 0 _ rfl
      have x1 := act_cells hbx 1 _ rfl
      have x2 := act_cells hbx 2 _ rfl
      have x5 := act_cells hbx 5 _ rfl
      clear hS3 hbx
      go_upto_block 2 with fail
      go_cut [4, 8, 9, 10, 11, 12, 13, 14, 15] from 40 to 131 (fun s4 s8 _ _ _ _ _ _ _ wc => s8 = .bool true ∧ ∃ b', s4 = .pointer (some ⟨b', 0, none⟩) ∧ ∃ X', Hid (SY w wc b' r X'))
      case first =>
        by_cases k1 : (kd.toList == [115, 101, 110, 100]) = true
        · skip
          as_aux_lemma =>
          have KF : Hid (∀ w' : World, w'.heap[ba]? = W3.heap[ba]? → w'.cell? ⟨ba, 1, none⟩ = some (.int .i64 P) ∧ w'.cell? ⟨ba, 1, none⟩ = some (.int .i64 P)) := Hid.intro (fun w' e => ⟨(World.cell?_of_block e).trans x1, (World.cell?_of_block e).trans x1⟩)
          have K0 := Hid.intro (KF.out W3 rfl)
          go_wp2_with fail
          go_region_held3 (fun w' => w'.cell? ⟨ba, 1, none⟩ = some (.int .i64 P) ∧ w'.cell? ⟨ba, 1, none⟩ = some (.int .i64 P)) (first | exact K0.out | exact K4.out | exact K5.out) ((first | (go_at_call 8; refine (send_any b P X _ S3.out.code.drew).mono ?_; rintro e w4 ⟨rfl, t4, f4⟩; have f4' : Frm b W3 w4 := ⟨f4.os, f4.tape, f4.output, f4.size, f4.block⟩; have K4 := Hid.intro (KF.out w4 (f4'.block ba HBA.out.1 HBA.out.2.1)); have P4 : Hid (CX w4 b (Sg.senF X P) ∧ Frm b W3 w4) := Hid.intro ⟨t4, f4'⟩; clear t4 f4 f4') | (go_at_call 9; refine (rsend_any r P X _ (S3.out.ref' P4.out.2) HI.out).mono ?_; rintro e w5 ⟨rfl, t5, f5⟩; have K5 := Hid.intro (KF.out w5 ((f5.block ba (Nat.lt_of_lt_of_le HBA.out.1 P4.out.2.size) HBA.out.2.2).trans (P4.out.2.block ba HBA.out.1 HBA.out.2.1))); have P5 : Hid (RX w5 r (Sg.senF X P) ∧ Frm r w4 w5) := Hid.intro ⟨t5, f5⟩; clear t5 f5) | (go_at_call 7; refine (same_any _ (Sg.isE_nn P) _).mono ?_; rintro e w6 ⟨rfl, hw6⟩; subst w6)))
          go_wp2_with fail
          go_meet
          case rel => exact ⟨rfl, b, rfl, _, S3.out.step P4.out.1 P4.out.2 P5.out.1 P5.out.2 (HI.out.sen P)⟩
        · have k1' : (kd.toList == [115, 101, 110, 100]) = false := by simpa using k1
          clear k1
          by_cases k2 : (kd.toList == [104, 111, 108, 100]) = true
          · skip
            as_aux_lemma =>
            have KF : Hid (∀ w' : World, w'.heap[ba]? = W3.heap[ba]? → w'.cell? ⟨ba, 1, none⟩ = some (.int .i64 P) ∧ w'.cell? ⟨ba, 5, none⟩ = some (.bool On)) := Hid.intro (fun w' e => ⟨(World.cell?_of_block e).trans x1, (World.cell?_of_block e).trans x5⟩)
            have K0 := Hid.intro (KF.out W3 rfl)
            go_wp2_with fail
            go_region_held3 (fun w' => w'.cell? ⟨ba, 1, none⟩ = some (.int .i64 P) ∧ w'.cell? ⟨ba, 5, none⟩ = some (.bool On)) (first | exact K0.out | exact K4.out | exact K5.out) ((first | (go_at_call 10; refine (hold_any b P On X _ S3.out.code.drew).mono ?_; rintro e w4 ⟨rfl, t4, f4⟩; have f4' : Frm b W3 w4 := ⟨f4.os, f4.tape, f4.output, f4.size, f4.block⟩; have K4 := Hid.intro (KF.out w4 (f4'.block ba HBA.out.1 HBA.out.2.1)); have P4 : Hid (CX w4 b (Sg.holF X P On) ∧ Frm b W3 w4) := Hid.intro ⟨t4, f4'⟩; clear t4 f4 f4') | (go_at_call 11; refine (rhold_any r P On X _ (S3.out.ref' P4.out.2)).mono ?_; rintro e w5 ⟨rfl, t5, f5⟩; have K5 := Hid.intro (KF.out w5 ((f5.block ba (Nat.lt_of_lt_of_le HBA.out.1 P4.out.2.size) HBA.out.2.2).trans (P4.out.2.block ba HBA.out.1 HBA.out.2.1))); have P5 : Hid (RX w5 r (Sg.holF X P On) ∧ Frm r w4 w5) := Hid.intro ⟨t5, f5⟩; clear t5 f5) | (go_at_call 7; refine (same_any _ (Sg.holE_nn P) _).mono ?_; rintro e w6 ⟨rfl, hw6⟩; subst w6)))
            go_wp2_with fail
            go_meet
            case rel => exact ⟨rfl, b, rfl, _, S3.out.step P4.out.1 P4.out.2 P5.out.1 P5.out.2 (HI.out.hol P On)⟩
          · have k2' : (kd.toList == [104, 111, 108, 100]) = false := by simpa using k2
            clear k2
            by_cases k3 : (kd.toList == [104, 111, 119]) = true
            · skip
              as_aux_lemma =>
              have KF : Hid (∀ w' : World, w'.heap[ba]? = W3.heap[ba]? → w'.cell? ⟨ba, 1, none⟩ = some (.int .i64 P) ∧ w'.cell? ⟨ba, 2, none⟩ = some (.int .i64 Q)) := Hid.intro (fun w' e => ⟨(World.cell?_of_block e).trans x1, (World.cell?_of_block e).trans x2⟩)
              have K0 := Hid.intro (KF.out W3 rfl)
              go_wp2_with fail
              go_region_held3 (fun w' => w'.cell? ⟨ba, 1, none⟩ = some (.int .i64 P) ∧ w'.cell? ⟨ba, 2, none⟩ = some (.int .i64 Q)) (first | exact K0.out | exact K4.out | exact K5.out) ((first | (go_at_call 12; refine (how_any b P Q X _ S3.out.code.drew).mono ?_; rintro e w4 ⟨rfl, t4, f4⟩; have f4' : Frm b W3 w4 := ⟨f4.os, f4.tape, f4.output, f4.size, f4.block⟩; have K4 := Hid.intro (KF.out w4 (f4'.block ba HBA.out.1 HBA.out.2.1)); have P4 : Hid (CX w4 b (Sg.howF X P Q) ∧ Frm b W3 w4) := Hid.intro ⟨t4, f4'⟩; clear t4 f4 f4') | (go_at_call 13; refine (rdoes_any r P Q X _ (S3.out.ref' P4.out.2)).mono ?_; rintro e w5 ⟨rfl, t5, f5⟩; have K5 := Hid.intro (KF.out w5 ((f5.block ba (Nat.lt_of_lt_of_le HBA.out.1 P4.out.2.size) HBA.out.2.2).trans (P4.out.2.block ba HBA.out.1 HBA.out.2.1))); have P5 : Hid (RX w5 r (Sg.howF X P Q) ∧ Frm r w4 w5) := Hid.intro ⟨t5, f5⟩; clear t5 f5) | (go_at_call 7; refine (same_any _ (Sg.howE_nn P Q) _).mono ?_; rintro e w6 ⟨rfl, hw6⟩; subst w6)))
              go_wp2_with fail
              go_meet
              case rel => exact ⟨rfl, b, rfl, _, S3.out.step P4.out.1 P4.out.2 P5.out.1 P5.out.2 (HI.out.how P Q)⟩
            · have k3' : (kd.toList == [104, 111, 119]) = false := by simpa using k3
              clear k3
              by_cases k4 : (kd.toList == [116, 97, 107, 101]) = true
              · as_aux_lemma =>
                go_wp2_with fail
                refine (take_any b X _ S3.out.code).mono ?_
                rintro e W4 ⟨n, rfl, hn, t4, f4⟩
                have P4 := Hid.intro (And.intro t4 f4)
                have HN := Hid.intro hn
                clear t4 f4 hn x0 x1 x2 x5
                go_wp2_with fail
                refine (rtake_any r X _ (S3.out.ref' P4.out.2) HI.out).mono ?_
                rintro e W5 ⟨m, rfl, hm, t5, f5⟩
                obtain rfl := HN.out.unique hm
                have P5 := Hid.intro (S3.out.step P4.out.1 P4.out.2 t5 f5 (HI.out.tak n))
                clear t5 f5 hm
                by_cases n0' : n = 0
                · subst n0'
                  rw [show Sg.isB 0 = false from rfl]
                  go_wp2_with fail
                  go_meet
                  case rel => exact ⟨rfl, b, rfl, _, P5.out⟩
                · rw [show Sg.isB n = true from decide_eq_true (by omega)]
                  have nI : 0 < (n : Int) := by omega
                  have nN : 0 < n := by omega
                  clear n0'
                  go_wp2_with fail
                  go_meet
                  case rel => exact ⟨rfl, b, rfl, _, P5.out⟩
              · have k4' : (kd.toList == [116, 97, 107, 101]) = false := by simpa using k4
                clear k4
                by_cases k5 : (kd.toList == [101, 110, 100, 115]) = true
                · as_aux_lemma =>
                  go_wp2_with fail
                  refine (ends_any b X _ S3.out.code).mono ?_
                  rintro e W4 ⟨n, rfl, hn, b4⟩
                  have S4 := Hid.intro (S3.out.below b4)
                  have HN := Hid.intro hn
                  clear b4 hn x0 x1 x2 x5
                  go_wp2_with fail
                  refine (rfirst_any r 0 X _ S4.out.ref).mono ?_
                  rintro e W5 ⟨m, rfl, hm, hW5⟩
                  subst W5
                  obtain rfl := HN.out.unique hm
                  clear hm
                  by_cases n0' : n = 0
                  · subst n0'
                    rw [show Sg.isB 0 = false from rfl]
                    go_wp2_with fail
                    go_meet
                    case rel => exact ⟨rfl, b, rfl, _, S4.out⟩
                  · rw [show Sg.isB n = true from decide_eq_true (by omega)]
                    have nI : 0 < (n : Int) := by omega
                    have nN : 0 < n := by omega
                    clear n0'
                    go_wp2_with fail
                    go_meet
                    case rel => exact ⟨rfl, b, rfl, _, S4.out⟩
                · have k5' : (kd.toList == [101, 110, 100, 115]) = false := by simpa using k5
                  clear k5
                  as_aux_lemma =>
                  go_wp2_with fail
                  refine (child_any b X _ S3.out.code).mono ?_
                  rintro e W4 ⟨rfl, t4, b4, l4⟩
                  have S4 := Hid.intro (S3.out.below b4)
                  have T4 := Hid.intro t4
                  have L4 : Hid (W3.heap.size ≠ b ∧ W3.heap.size ≠ r ∧ w.heap.size ≤ W3.heap.size) := Hid.intro ⟨by have := S3.out.code.lt; omega, by have := S3.out.ref.lt; omega, S3.out.bel.size⟩
                  clear t4 b4 l4 x0 x1 x2 x5
                  generalize W3.heap.size = cb at *
                  go_wp2_with fail
                  refine (send_any b 5 X _ S4.out.code).mono ?_
                  rintro e W5 ⟨rfl, t5, f5⟩
                  have P5 := Hid.intro (And.intro t5 f5)
                  clear t5 f5
                  go_wp2_with fail
                  refine (how_any b 6 2 _ _ P5.out.1).mono ?_
                  rintro e W6 ⟨rfl, t6, f6⟩
                  have F6 : Hid (Frm b W4 W6) := Hid.intro (P5.out.2.trans f6)
                  clear t6 f6 P5
                  have TC := Hid.intro (T4.out.frm F6.out L4.out.1)
                  have TR := Hid.intro (S4.out.ref' F6.out)
                  have BW := Hid.intro (F6.out.below S4.out.bel S4.out.le S4.out.bel.size)
                  have FIN : Hid (SY w (W6.setCells r 0 nineB) cb r (Sg.chiF X)) := Hid.intro ⟨(FrmSetCells nineB 0 (Frm.refl r W6)).below BW.out S4.out.le' BW.out.size, L4.out.2.2, S4.out.le', L4.out.2.1, TC.out.frm (FrmSetCells nineB 0 (Frm.refl r W6)) L4.out.2.1, TR.out.child, Sg.Inv.chi⟩
                  go_upto_region 18 with fail
                  go_wp2_with (first | (refine wpList_store_mid rfl 32 _ _ rfl r 0 nineB.toArray rfl rfl TR.out.there nine_size nine_one ?_))
                  go_meet
                  case rel => exact ⟨rfl, cb, rfl, _, FIN.out⟩
      case rest =>
        clear S3 HI HBA x0 x1 x2 x5
        as_aux_lemma =>
        obtain ⟨rfl, b', rfl, X', HC⟩ := hcut
        go_wp2_with fail
        go_loop [16] (fun i => ∃ z : Int, i = .int .i64 z ∧ -1 ≤ z ∧ z ≤ 10) (fun i => (10 - intOf i).toNat)
        case atStart => exact ⟨-1, rfl, by omega, by omega⟩
        case round =>
          obtain ⟨z, rfl, z1, z2⟩ := hrel
          by_cases hz : z < 10
          · by_cases zl : z < 1
            · have zl' : ¬ 0 < z := by omega
              go_wp2_with (go_at_call 19; refine (waits_any b' z X' _ HC.out.code).mono ?_; rintro e w' ⟨rfl, rfl⟩; rw [show Sg.waiB X' z = false from if_neg (by rw [Sg.isE_no (.inl zl)]; decide)])
              go_round
              case rel => exact ⟨z + 1, rfl, by omega, by omega⟩
              case measure => simp [intOf]; omega
            · by_cases zh : 8 < z
              · have zh' : ¬ z < 9 := by omega
                go_wp2_with (go_at_call 19; refine (waits_any b' z X' _ HC.out.code).mono ?_; rintro e w' ⟨rfl, rfl⟩; rw [show Sg.waiB X' z = false from if_neg (by rw [Sg.isE_no (.inr zh)]; decide)])
                go_round
                case rel => exact ⟨z + 1, rfl, by omega, by omega⟩
                case measure => simp [intOf]; omega
              · obtain ⟨n, rfl⟩ : ∃ n : Nat, z = n := ⟨z.toNat, by omega⟩
                have n9 : n < 9 := by omega
                have e0 : Hid (Sg.waiB X' n = (X' n).wt) := Hid.intro (by unfold Sg.waiB; rw [if_pos (Sg.isE_ok (by omega) (by omega)), Int.toNat_natCast])
                have c0 := HC.out.ref.wt n n9
                have p0 : 0 < (n : Int) := by omega
                have p9 : (n : Int) < 9 := by omega
                have m1 : ¬ (8 : Int) < (n : Int) := by omega
                have m2 : ¬ (n : Int) < 0 := by omega
                generalize (X' n).wt = v at *
                go_wp2_with (go_at_call 19; refine (waits_any b' n X' _ HC.out.code).mono ?_; rintro e w' ⟨rfl, rfl⟩; rw [e0.out])
                go_round
                case rel => exact ⟨(n : Int) + 1, rfl, by omega, by omega⟩
                case measure => simp [intOf]; omega
          · go_wp2_with fail
            go_roundw
            case rel => exact ⟨k + 1, b', X', by go_num, rfl, by omega, HC⟩
            case measure => simp [intOf]; omega
    · have hkn : k = n0 := by omega
      subst hkn
      go_wp2_with fail
      go_ret
      exact ⟨rfl, S.out.bel⟩
theorem sg_any (a : Option Addr) (len cap : Nat) (w : World) (h : IsActs0 w a len) :
    Calls Try.prog 3 #[.slice a len cap] w fun e w' => e = .returned (.bool true) ∧ Below w.heap.size w w' := by
  by_cases c : len ≤ 120
  · exact sg_near a len cap w h c
  · exact sg_far a len cap w (by omega)
end Go.Proofs.Ytpdphbhlnfeijaa

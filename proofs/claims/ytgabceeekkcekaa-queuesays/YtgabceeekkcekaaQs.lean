/- The walk of the law QueueSays. -/
import Derived.Test.YtgabceeekkcekaaLines
import Derived.Deep.CutRange
import Derived.Deep.CutBlock
import Derived.Deep.DeepCutAuto
namespace Go.Proofs.Ytgabceeekkcekaa
open Go.RowKit
open Hp (Q)

theorem zero34 : Try.zeroCells34 = encR (fun _ => false) (fun _ => 0) := by kernel_rfl

/-- What the law has in its hands: the queue at b, the document's own behind it. -/
structure Sq (w W : World) (b : Nat) (q : Q) (g : Nat → Bool) (f : Nat → Nat) : Prop where
  bel : Below w.heap.size w W
  le : w.heap.size ≤ b
  lt : b + 1 < W.heap.size
  good : Good W b q
  ref : RAt W (b + 1) g f
  has : ∀ j, j < 64 → g j = isin q j
  same : ∀ j, j < 64 → 0 < q.place j → f j = q.keys j

/-- An act, as it lies. -/
structure Act8 where
  kind : ByteArray
  a : Int
  b : Int
  c : Int
  key : Nat
  on : Bool
  s : ByteArray
  t : ByteArray
def Act8.cell (x : Act8) : Nat → Value
  | 0 => .string x.kind
  | 1 => .int .i64 x.a
  | 2 => .int .i64 x.b
  | 3 => .int .i64 x.c
  | 4 => .int .u64 x.key
  | 5 => .bool x.on
  | 6 => .string x.s
  | _ => .string x.t

theorem sq_start (w W : World) (hb : Below w.heap.size w W) : Sq w ((W.alloc (.cells Try.zeroCells30 30)).alloc (.cells Try.zeroCells34 34)) W.heap.size q0 (fun _ => false) (fun _ => 0) := by
  have hle := hb.size
  refine ⟨(hb.alloc hle _).alloc (by simp; omega) _, hle, by simp, ⟨?_, q0_ok, q0_full⟩, ?_, fun j _ => rfl, fun j _ h => absurd h (by show ¬ (0 : Nat) < 0; omega)⟩
  · unfold At
    rw [zero30]
    show ((W.heap.push _).push _)[W.heap.size]? = _
    simp only [Array.getElem?_push, Array.size_push]
    rw [if_neg (by omega), if_pos trivial]
  · unfold RAt
    rw [zero34]
    show ((W.heap.push _).push _)[W.heap.size + 1]? = _
    simp only [Array.getElem?_push, Array.size_push]
    rw [if_pos trivial]

theorem Sq.alloc {w W : World} {b : Nat} {q : Q} {g : Nat → Bool} {f : Nat → Nat} (h : Sq w W b q g f) (o : Obj) : Sq w (W.alloc o) b q g f := by
  have hlt := h.lt
  have hs := h.bel.size
  refine ⟨h.bel.alloc hs o, h.le, by simp; omega, ⟨?_, h.good.ok, h.good.full⟩, ?_, h.has, h.same⟩
  · exact (Below.heap_alloc W o b (by omega)).trans h.good.at_
  · exact (Below.heap_alloc W o (b + 1) hlt).trans h.ref
theorem Sq.drewN {w W : World} {b : Nat} {q : Q} {g : Nat → Bool} {f : Nat → Nat} (h : Sq w W b q g f) (n : Nat) : Sq w (W.drewN n) b q g f :=
  ⟨below_drewN h.bel n, h.le, h.lt, ⟨h.good.at_.drewN n, h.good.ok, h.good.full⟩, h.ref.drewN n, h.has, h.same⟩

theorem Sq.below {w W W' : World} {b : Nat} {q : Q} {g : Nat → Bool} {f : Nat → Nat} (h : Sq w W b q g f) (hb : Below W.heap.size W W') : Sq w W' b q g f := by
  have hlt := h.lt
  have hs := h.bel.size
  refine ⟨h.bel.trans (hb.mono hs), h.le, by have := hb.size; omega, ⟨?_, h.good.ok, h.good.full⟩, ?_, h.has, h.same⟩
  · exact (hb.block b (by omega)).trans h.good.at_
  · exact (hb.block (b + 1) hlt).trans h.ref

theorem srt_nodup {K : Nat → Nat} {L : List Nat} (h : L.Pairwise (Hp.ah K)) : L.Nodup := by
  rw [List.nodup_iff_pairwise_ne]
  exact h.imp fun hab e => by subst e; exact Hp.ah_irrefl hab

/-- The document's own list is the queue's. -/
structure LL (q : Q) (f : Nat → Nat) (L : List Nat) : Prop where
  mem : ∀ x, x ∈ L ↔ (x < 64 ∧ 0 < q.place x)
  srt : L.Pairwise (Hp.ah q.keys)
  len : L.length = q.many
theorem Sq.list {w W W' : World} {b : Nat} {q : Q} {g : Nat → Bool} {f : Nat → Nat} {L : List Nat} {v : Value} (h : Sq w W b q g f) (r : RI1 W' g f 64 L v W) : LL q f L := by
  have hm : ∀ x, x ∈ L ↔ (x < 64 ∧ 0 < q.place x) := fun x => by
    rw [r.mem]
    constructor
    · rintro ⟨a, c⟩
      rw [h.has x a] at c
      exact ⟨a, of_decide_eq_true c⟩
    · rintro ⟨a, c⟩
      exact ⟨a, by rw [h.has x a]; exact decide_eq_true c⟩
  refine ⟨hm, ?_, ?_⟩
  · refine List.Pairwise.imp_of_mem ?_ r.srt
    intro x y hx hy hxy
    have ex := h.same x ((hm x).1 hx).1 ((hm x).1 hx).2
    have ey := h.same y ((hm y).1 hy).1 ((hm y).1 hy).2
    unfold Hp.ah at *
    omega
  · have n1 := srt_nodup r.srt
    have n2 := heapL_nodup h.good.ok
    have l1 := Hp.len_le L (heapL q) n1 (fun x hx => (heapL_mem h.good.ok x).2 ((hm x).1 hx))
    have l2 := Hp.len_le (heapL q) L n2 (fun x hx => (hm x).2 ((heapL_mem h.good.ok x).1 hx))
    rw [heapL_len] at l1 l2
    omega
theorem LL.head {q : Q} {f : Nat → Nat} {L : List Nat} (h : LL q f L) {j : Nat} (hj : j < 64) (hp : 0 < q.place j) (hl : ∀ i, i < 64 → 0 < q.place i → ¬ Hp.ah q.keys i j) : ∃ M, L = j :: M := by
  have hm := (h.mem j).2 ⟨hj, hp⟩
  cases L with
  | nil => simp at hm
  | cons x M =>
    refine ⟨M, ?_⟩
    by_cases e : x = j
    · rw [e]
    · have hjM : j ∈ M := by
        rcases List.mem_cons.1 hm with h' | h'
        · exact absurd h'.symm e
        · exact h'
      have h1 := (List.pairwise_cons.1 h.srt).1 j hjM
      have h2 := (h.mem x).1 (by simp)
      exact absurd h1 (hl x h2.1 h2.2)

theorem Sq.put {w W W1 W2 : World} {b j k : Nat} {q q' : Q} {g : Nat → Bool} {f : Nat → Nat} (h : Sq w W b q g f) (o1 : Only b W W1) (hg : Good W1 b q') (hk : q'.keys = Hp.upd q.keys j k) (hh : ∀ i, 0 < q'.place i ↔ (0 < q.place i ∨ i = j)) (o2 : Only (b + 1) W1 W2) (hr : RAt W2 (b + 1) (updB g j true) (Hp.upd f j k)) :
    Sq w W2 b q' (updB g j true) (Hp.upd f j k) := by
  have hle := h.le
  have hlt := h.lt
  refine ⟨Only.below (Only.below h.bel o1 hle) o2 (by omega), hle, by rw [o2.size, o1.size]; exact hlt, ⟨(o2.block b (by omega)).trans hg.at_, hg.ok, hg.full⟩, hr, fun i hi => ?_, fun i hi hp => ?_⟩
  · have hi' := hh i
    unfold updB isin
    by_cases e : i = j
    · rw [if_pos e, eq_comm, decide_eq_true_eq]; exact hi'.2 (.inr e)
    · rw [if_neg e, h.has i hi]; unfold isin; rw [decide_eq_decide, hi']; simp [e]
  · rw [hk]
    by_cases e : i = j
    · rw [e, Hp.upd_same, Hp.upd_same]
    · rw [Hp.upd_ne _ _ _ _ e, Hp.upd_ne _ _ _ _ e]
      exact h.same i hi (((hh i).1 hp).resolve_right e)
theorem Sq.cut {w W W1 W2 : World} {b j : Nat} {q q' : Q} {g : Nat → Bool} {f : Nat → Nat} (h : Sq w W b q g f) (o1 : Only b W W1) (hg : Good W1 b q') (hk : q'.keys = Hp.upd q.keys j 0) (hh : ∀ i, 0 < q'.place i ↔ (0 < q.place i ∧ i ≠ j)) (o2 : Only (b + 1) W1 W2) (hr : RAt W2 (b + 1) (updB g j false) f) :
    Sq w W2 b q' (updB g j false) f := by
  have hle := h.le
  have hlt := h.lt
  refine ⟨Only.below (Only.below h.bel o1 hle) o2 (by omega), hle, by rw [o2.size, o1.size]; exact hlt, ⟨(o2.block b (by omega)).trans hg.at_, hg.ok, hg.full⟩, hr, fun i hi => ?_, fun i hi hp => ?_⟩
  · have hi' := hh i
    unfold updB isin
    by_cases e : i = j
    · rw [if_pos e, eq_comm, decide_eq_false_iff_not]; exact fun c => (hi'.1 c).2 e
    · rw [if_neg e, h.has i hi]; unfold isin; rw [decide_eq_decide, hi']; simp [e]
  · have := (hh i).1 hp
    rw [hk, Hp.upd_ne _ _ _ _ this.2]
    exact h.same i hi this.1
theorem Sq.gin {w W : World} {b j : Nat} {q : Q} {g : Nat → Bool} {f : Nat → Nat} (h : Sq w W b q g f) (hj : j < 64) (hp : 0 < q.place j) : g j = true := by
  rw [h.has j hj]; exact decide_eq_true hp
theorem Sq.gout {w W : World} {b j : Nat} {q : Q} {g : Nat → Bool} {f : Nat → Nat} (h : Sq w W b q g f) (hj : j < 64) (hp : q.place j = 0) : g j = false := by
  rw [h.has j hj]; exact decide_eq_false (by omega)

set_option maxRecDepth 100000 in
set_option maxHeartbeats 400000 in
theorem qs_far (a0 : Option Addr) (n0 c0 : Nat) (w : World) (h : 120 < n0) (hm : n0 ≤ 9223372036854775807) :
    Calls Try.prog 3 #[.slice a0 n0 c0] w fun e w' => e = .returned (.bool true) ∧ Below w.heap.size w w' := by
  have d : decide ((n0 : Int) ≤ 120) = false := by simp; omega
  go_enter Try.func3, Try.ntmps3
  go_wp2_with fail
  refine (lines_any _).mono ?_
  rintro e W1 ⟨rfl, hb⟩
  have HB : Hid (Below w.heap.size w W1) := hb
  clear hb
  go_wp2_with fail
  refine (light_any _ _ _ _ _).mono ?_
  rintro e W2 ⟨rfl, rfl⟩
  rw [d]
  go_wp2
  go_ret
  exact ⟨rfl, HB.out⟩

set_option maxRecDepth 100000 in
set_option maxHeartbeats 8000000 in
theorem qs_near (b0 o0 n0 c0 : Nat) (ax : Nat → Act8) (w : World) (h0 : ∀ i, i < n0 → ∀ j, j < 8 → w.cell? ⟨b0, o0 + i * 8 + j, none⟩ = some ((ax i).cell j)) (hn : n0 ≤ 120) :
    Calls Try.prog 3 #[.slice (some ⟨b0, o0, none⟩) n0 c0] w fun e w' => e = .returned (.bool true) ∧ Below w.heap.size w w' := by
  have d : decide ((n0 : Int) ≤ 120) = true := by simp; omega
  have H0 : Hid (∀ i, i < n0 → ∀ j, j < 8 → w.cell? ⟨b0, o0 + i * 8 + j, none⟩ = some ((ax i).cell j)) := h0
  clear h0
  go_enter Try.func3, Try.ntmps3
  go_wp2_with fail
  refine (lines_any _).mono ?_
  rintro e W1 ⟨rfl, hb⟩
  have HB : Hid (Below w.heap.size w W1) := hb
  clear hb
  go_wp2_with fail
  refine (light_any _ _ _ _ _).mono ?_
  rintro e W2 ⟨rfl, rfl⟩
  rw [d]
  go_wp2_with fail
  refine wp_gen (fun W => Sq w W W2.heap.size q0 (fun _ => false) (fun _ => 0)) (sq_start w W2 HB.out) ?_
  intro W hS
  clear HB d
  generalize W2.heap.size = b at *
  go_loopw [6] (fun i wr => ∃ (k : Nat) (q : Q) (g : Nat → Bool) (f : Nat → Nat), i = .int .i64 k ∧ k ≤ n0 ∧ Hid (Sq w wr b q g f)) (fun i _ => n0 - (intOf i).toNat)
  case atStart => exact ⟨0, q0, _, _, rfl, by omega, hS⟩
  case round =>
    clear hS
    obtain ⟨k, q, g, f, rfl, hk, S⟩ := hrel
    by_cases hlt : k < n0
    · have hltI : (k : Int) < (n0 : Int) := by omega
      obtain ⟨kd, A, B, C, K, On, S1, T1, hax⟩ : ∃ kd A B C K On S1 T1, ax k = ⟨kd, A, B, C, K, On, S1, T1⟩ := ⟨_, _, _, _, _, _, _, _, rfl⟩
      have bl : b0 < w.heap.size := World.block_lt_of_cell? _ _ (H0.out k hlt 0 (by omega))
      have cl : ∀ j, j < 8 → wr.cell? ⟨b0, o0 + k * 8 + j, none⟩ = some ((⟨kd, A, B, C, K, On, S1, T1⟩ : Act8).cell j) := fun j hj => by
        rw [← hax]; exact (S.out.bel.cell (p := ⟨b0, o0 + k * 8 + j, none⟩) bl).trans (H0.out k hlt j hj)
      have c0' : wr.cell? ⟨b0, o0 + k * 8, none⟩ = some (.string kd) := cl 0 (by omega)
      have c1 : wr.cell? ⟨b0, o0 + k * 8 + 1, none⟩ = some (.int .i64 A) := cl 1 (by omega)
      have c2 : wr.cell? ⟨b0, o0 + k * 8 + 2, none⟩ = some (.int .i64 B) := cl 2 (by omega)
      have c3 : wr.cell? ⟨b0, o0 + k * 8 + 3, none⟩ = some (.int .i64 C) := cl 3 (by omega)
      have c4 : wr.cell? ⟨b0, o0 + k * 8 + 4, none⟩ = some (.int .u64 K) := cl 4 (by omega)
      have c5 : wr.cell? ⟨b0, o0 + k * 8 + 5, none⟩ = some (.bool On) := cl 5 (by omega)
      have c6 : wr.cell? ⟨b0, o0 + k * 8 + 6, none⟩ = some (.string S1) := cl 6 (by omega)
      have c7 : wr.cell? ⟨b0, o0 + k * 8 + 7, none⟩ = some (.string T1) := cl 7 (by omega)
      clear cl hax
      go_upto_region 10 with fail
      have hba : Hid (b + 1 < wr.heap.size) := S.out.lt
      refine wp_gen (fun W' => Sq w W' b q g f ∧ W'.heap[wr.heap.size]? = some (.cells #[.string kd, .int .i64 A, .int .i64 B, .int .i64 C, .int .u64 K, .bool On, .string S1, .string T1] 36 (0, 0))) ⟨S.out.alloc _, heap_alloc_new wr _⟩ ?_
      rintro W3 ⟨hS3, hbx⟩
      clear c0' c1 c2 c3 c4 c5 c6 c7 S
      generalize wr.heap.size = ba at *
      have S3 : Hid (Sq w W3 b q g f) := hS3
      have BX : Hid (W3.heap[ba]? = some (.cells #[.string kd, .int .i64 A, .int .i64 B, .int .i64 C, .int .u64 K, .bool On, .string S1, .string T1] 36 (0, 0))) := hbx
      have x0 : W3.cell? ⟨ba, 0, none⟩ = some (.string kd) := by rw [heap_cell BX.out]; rfl
      have x1 : W3.cell? ⟨ba, 1, none⟩ = some (.int .i64 A) := by rw [heap_cell BX.out]; rfl
      have x4 : W3.cell? ⟨ba, 4, none⟩ = some (.int .u64 K) := by rw [heap_cell BX.out]; rfl
      clear hS3 hbx
      go_upto_block 2 with fail
      go_cut [8, 9, 10, 11, 12, 13, 14, 15, 16] from 34 to 169 (fun s8 _ _ _ _ _ _ _ _ wc => s8 = .bool true ∧ ∃ q g f, Hid (Sq w wc b q g f))
      case first =>
        have hbn : Hid (b ≠ ba ∧ b + 1 ≠ ba) := ⟨by have := hba.out; omega, by have := hba.out; omega⟩
        by_cases kp : (kd.toList == [112, 117, 116]) = true
        · by_cases hz : A < 0 ∨ 64 ≤ A
          · have HZ : Hid (A < 0 ∨ 64 ≤ A) := hz
            clear hz
            go_wp2_with fail
            go_region_held3 (fun w' => w'.cell? ⟨ba, 1, none⟩ = some (.int .i64 A) ∧ w'.cell? ⟨ba, 4, none⟩ = some (.int .u64 K)) (go_keep) ((first | (go_at_call 10; refine (put_bad b A K _ HZ.out).mono ?_; rintro e w' ⟨rfl, rfl⟩) | (go_at_call 11; refine (rput_bad (b + 1) A K _ HZ.out).mono ?_; rintro e w' ⟨rfl, rfl⟩) | (go_at_call 9; refine (same_err 1 (by decide) _).mono ?_; rintro e w' ⟨rfl, rfl⟩)))
            go_wp2_with fail
            go_meet
            case rel => exact ⟨rfl, q, g, f, S3.out.drewN 1⟩
          · obtain ⟨j, rfl⟩ : ∃ j : Nat, A = j := ⟨A.toNat, by omega⟩
            have hj : j < 64 := by omega
            clear hz
            by_cases hp : 0 < q.place j
            · have HP : Hid (0 < q.place j ∧ g j = true) := ⟨hp, S3.out.gin hj hp⟩
              clear hp
              go_wp2_with fail
              go_region_held3 (fun w' => w'.cell? ⟨ba, 1, none⟩ = some (.int .i64 j) ∧ w'.cell? ⟨ba, 4, none⟩ = some (.int .u64 K)) (go_keep) ((first | (go_at_call 10; refine (put_has b j K q _ S3.out.good.at_.drew hj HP.out.1).mono ?_; rintro e w' ⟨rfl, rfl⟩) | (go_at_call 11; refine (rput_has (b + 1) j K g f _ S3.out.ref.drew hj HP.out.2).mono ?_; rintro e w' ⟨rfl, rfl⟩) | (go_at_call 9; refine (same_err 3 (by decide) _).mono ?_; rintro e w' ⟨rfl, rfl⟩)))
              go_wp2_with fail
              go_meet
              case rel => exact ⟨rfl, q, g, f, S3.out.drewN 1⟩
            · have HP : Hid (q.place j = 0 ∧ g j = false) := ⟨by omega, S3.out.gout hj (by omega)⟩
              clear hp
              go_wp2_with fail
              go_region_held3 (fun w' => w'.cell? ⟨ba, 1, none⟩ = some (.int .i64 j) ∧ w'.cell? ⟨ba, 4, none⟩ = some (.int .u64 K)) (go_keep) ((first | (go_at_call 10; refine (put_new b j K q _ ⟨S3.out.good.at_.drew, S3.out.good.ok, S3.out.good.full⟩ hj HP.out.1).mono ?_; rintro e w4 ⟨rfl, o4, q', g4, m4, k4, h4⟩; have y1 : w4.cell? ⟨ba, 1, none⟩ = some (.int .i64 j) := (World.cell?_of_block (o4.block ba (Ne.symm hbn.out.1))).trans x1; have y4 : w4.cell? ⟨ba, 4, none⟩ = some (.int .u64 K) := (World.cell?_of_block (o4.block ba (Ne.symm hbn.out.1))).trans x4; have P4 : Hid (Only b W3 w4 ∧ Good w4 b q' ∧ q'.keys = Hp.upd q.keys j K ∧ ∀ i, 0 < q'.place i ↔ (0 < q.place i ∨ i = j)) := ⟨(Only.drew b W3).trans o4, g4, k4, h4⟩; clear o4 g4 m4 k4 h4) | (go_at_call 11; refine (rput_new (b + 1) j K g f _ (S3.out.ref.only P4.out.1 (by omega)) hj HP.out.2).mono ?_; rintro e w5 ⟨rfl, o5, r5⟩; have z1 : w5.cell? ⟨ba, 1, none⟩ = some (.int .i64 j) := (World.cell?_of_block (o5.block ba (Ne.symm hbn.out.2))).trans y1; have z4 : w5.cell? ⟨ba, 4, none⟩ = some (.int .u64 K) := (World.cell?_of_block (o5.block ba (Ne.symm hbn.out.2))).trans y4; have P5 : Hid (Only (b + 1) w4 w5 ∧ RAt w5 (b + 1) (updB g j true) (Hp.upd f j K)) := ⟨o5, r5⟩; clear o5 r5) | (go_at_call 9; refine (same_nil _).mono ?_; rintro e w' ⟨rfl, rfl⟩)))
              go_wp2_with fail
              go_meet
              case rel => exact ⟨rfl, q', _, _, S3.out.put P4.out.1 P4.out.2.1 P4.out.2.2.1 P4.out.2.2.2 P5.out.1 P5.out.2⟩
        · have kp' : (kd.toList == [112, 117, 116]) = false := by simpa using kp
          clear kp
          by_cases kc : (kd.toList == [99, 117, 116]) = true
          · by_cases hz : A < 0 ∨ 64 ≤ A
            · have HZ : Hid (A < 0 ∨ 64 ≤ A) := hz
              clear hz
              go_wp2_with fail
              refine (cut_bad b A _ HZ.out).mono ?_
              rintro e W3 ⟨rfl, rfl⟩
              go_wp2_with fail
              refine (rof_bad (b + 1) A true _ HZ.out).mono ?_
              rintro e W3 ⟨rfl, rfl⟩
              go_wp2_with fail
              refine (same_err 1 (by decide) _).mono ?_
              rintro e W3 ⟨rfl, rfl⟩
              go_wp2_with fail
              go_meet
              case rel => exact ⟨rfl, q, g, f, S3⟩
            · obtain ⟨j, rfl⟩ : ∃ j : Nat, A = j := ⟨A.toNat, by omega⟩
              have hj : j < 64 := by omega
              clear hz
              by_cases hp : 0 < q.place j
              · have HP : Hid (0 < q.place j ∧ g j = true) := ⟨hp, S3.out.gin hj hp⟩
                clear hp
                obtain ⟨kj, hkj⟩ : ∃ kj, q.keys j = kj := ⟨_, rfl⟩
                have HK : Hid (q.keys j = kj ∧ f j = kj) := ⟨hkj, (S3.out.same j hj HP.out.1).trans hkj⟩
                clear hkj
                go_wp2_with fail
                refine (cut_has b j q _ S3.out.good hj HP.out.1).mono ?_
                rintro e W4 ⟨rfl, o4, q4, g4, m4, k4, h4⟩
                have P4 : Hid (Only b W3 W4 ∧ Good W4 b q4 ∧ q4.keys = Hp.upd q.keys j 0 ∧ ∀ i, 0 < q4.place i ↔ (0 < q.place i ∧ i ≠ j)) := ⟨o4, g4, k4, h4⟩
                have y1 : W4.cell? ⟨ba, 1, none⟩ = some (.int .i64 j) := (World.cell?_of_block (o4.block ba (Ne.symm hbn.out.1))).trans x1
                rw [HK.out.1]
                clear o4 g4 m4 k4 h4 x0 x1 x4
                go_wp2_with fail
                refine (rof_cut (b + 1) j g f _ (S3.out.ref.only P4.out.1 (by omega)) hj HP.out.2).mono ?_
                rintro e W5 ⟨rfl, o5, r5⟩
                have P5 : Hid (Only (b + 1) W4 W5 ∧ RAt W5 (b + 1) (updB g j false) f) := ⟨o5, r5⟩
                rw [HK.out.2]
                clear o5 r5
                go_wp2_with fail
                refine (same_nil _).mono ?_
                rintro e W6 ⟨rfl, rfl⟩
                go_wp2_with fail
                go_meet
                case rel => exact ⟨rfl, q4, _, _, S3.out.cut P4.out.1 P4.out.2.1 P4.out.2.2.1 P4.out.2.2.2 P5.out.1 P5.out.2⟩
              · have HP : Hid (q.place j = 0 ∧ g j = false) := ⟨by omega, S3.out.gout hj (by omega)⟩
                clear hp
                go_wp2_with fail
                refine (cut_none b j q _ S3.out.good.at_ hj HP.out.1).mono ?_
                rintro e W3 ⟨rfl, rfl⟩
                go_wp2_with fail
                refine (rof_none (b + 1) j true g f _ S3.out.ref hj HP.out.2).mono ?_
                rintro e W3 ⟨rfl, rfl⟩
                go_wp2_with fail
                refine (same_err 2 (by decide) _).mono ?_
                rintro e W3 ⟨rfl, rfl⟩
                go_wp2_with fail
                go_meet
                case rel => exact ⟨rfl, q, g, f, S3⟩
          · have kc' : (kd.toList == [99, 117, 116]) = false := by simpa using kc
            clear kc
            by_cases kk : (kd.toList == [107, 101, 121]) = true
            · by_cases hz : A < 0 ∨ 64 ≤ A
              · have HZ : Hid (A < 0 ∨ 64 ≤ A) := hz
                clear hz
                go_wp2_with fail
                refine (key_bad b A _ HZ.out).mono ?_
                rintro e W3 ⟨rfl, rfl⟩
                go_wp2_with fail
                refine (rof_bad (b + 1) A false _ HZ.out).mono ?_
                rintro e W3 ⟨rfl, rfl⟩
                go_wp2_with fail
                refine (same_err 1 (by decide) _).mono ?_
                rintro e W3 ⟨rfl, rfl⟩
                go_wp2_with fail
                go_meet
                case rel => exact ⟨rfl, q, g, f, S3⟩
              · obtain ⟨j, rfl⟩ : ∃ j : Nat, A = j := ⟨A.toNat, by omega⟩
                have hj : j < 64 := by omega
                clear hz
                by_cases hp : 0 < q.place j
                · have HP : Hid (0 < q.place j ∧ g j = true) := ⟨hp, S3.out.gin hj hp⟩
                  clear hp
                  obtain ⟨kj, hkj⟩ : ∃ kj, q.keys j = kj := ⟨_, rfl⟩
                  have HK : Hid (q.keys j = kj ∧ f j = kj) := ⟨hkj, (S3.out.same j hj HP.out.1).trans hkj⟩
                  clear hkj
                  go_wp2_with fail
                  refine (key_has b j q _ S3.out.good.at_ hj HP.out.1).mono ?_
                  rintro e W4 ⟨rfl, rfl⟩
                  rw [HK.out.1]
                  go_wp2_with fail
                  refine (rof_key (b + 1) j g f _ S3.out.ref hj HP.out.2).mono ?_
                  rintro e W5 ⟨rfl, rfl⟩
                  rw [HK.out.2]
                  go_wp2_with fail
                  refine (same_nil _).mono ?_
                  rintro e W6 ⟨rfl, rfl⟩
                  go_wp2_with fail
                  go_meet
                  case rel => exact ⟨rfl, q, g, f, S3⟩
                · have HP : Hid (q.place j = 0 ∧ g j = false) := ⟨by omega, S3.out.gout hj (by omega)⟩
                  clear hp
                  go_wp2_with fail
                  refine (key_none b j q _ S3.out.good.at_ hj HP.out.1).mono ?_
                  rintro e W3 ⟨rfl, rfl⟩
                  go_wp2_with fail
                  refine (rof_none (b + 1) j false g f _ S3.out.ref hj HP.out.2).mono ?_
                  rintro e W3 ⟨rfl, rfl⟩
                  go_wp2_with fail
                  refine (same_err 2 (by decide) _).mono ?_
                  rintro e W3 ⟨rfl, rfl⟩
                  go_wp2_with fail
                  go_meet
                  case rel => exact ⟨rfl, q, g, f, S3⟩
            · have kk' : (kd.toList == [107, 101, 121]) = false := by simpa using kk
              clear kk
              go_wp2_with fail
              refine (all_any sort_said b q _ S3.out.good).mono ?_
              rintro e W4 ⟨gg, L, rfl, A4⟩
              have S4 : Hid (Sq w W4 b q g f) := S3.out.below A4.bel
              have A4' : Hid (AllSt W3 W4 q gg L) := A4
              clear A4
              go_wp2_with fail
              refine (rall_any (b + 1) g f _ S4.out.ref).mono ?_
              rintro e W5 ⟨v, L2, rfl, hL2, R⟩
              have S5 : Hid (Sq w W5 b q g f) := S4.out.below R.bel
              have LQ := S5.out.list R
              obtain rfl : L2 = L := Hp.srt_unique _ _ LQ.srt A4'.out.srt (fun x => (LQ.mem x).trans (A4'.out.mem x).symm)
              by_cases h0 : L2.length = 0
              · obtain ⟨av, cv, hv⟩ := own_form R.own
                rw [h0] at hv
                rw [hv, h0]
                clear R hv hL2 LQ
                go_wp2_with fail
                refine (sameNumbers_none _ _ _ _ _).mono ?_
                rintro e W6 ⟨rfl, nq, rfl⟩
                go_wp2_with fail
                go_meet
                case rel => exact ⟨rfl, q, g, f, S5.out.drewN nq⟩
              · obtain ⟨g2, cv, hv, _, _⟩ := R.own.form (by omega)
                have C2 : Hid (∀ i, i < L2.length → W5.cell? ⟨g2, 0 + i, none⟩ = some (.int .i64 (L2.getD i 0 : Nat))) := fun i hi => by
                  have ho := R.own
                  rw [hv] at ho
                  rw [Nat.zero_add, ho.cellAt i (by omega)]
                  exact rowOf_at _ _ _ (by rw [List.getD_eq_getElem?_getD, List.getElem?_eq_getElem hi]; rfl)
                have C1 : Hid (∀ i, i < L2.length → W5.cell? ⟨gg, 0 + i, none⟩ = some (.int .i64 (L2.getD i 0 : Nat))) := fun i hi => by
                  have hc := A4'.out.cells i hi
                  rw [Nat.zero_add, (R.bel.cell (p := ⟨gg, i, none⟩) (World.block_lt_of_cell? _ _ hc))]
                  exact hc
                rw [hv]
                clear R hv LQ
                go_wp2_with fail
                refine (sameNumbers_some gg g2 0 0 L2.length _ _ (fun i => (L2.getD i 0 : Nat)) (by omega) _ C1.out C2.out).mono ?_
                rintro e W6 ⟨rfl, nq, rfl⟩
                go_wp2_with fail
                go_meet
                case rel => exact ⟨rfl, q, g, f, S5.out.drewN nq⟩
      case rest =>
        clear S3 BX x0 x1 x4
        obtain ⟨rfl, q, g, f, S⟩ := hcut
        by_cases hz : q.many = 0
        · have HZ : Hid (q.many = 0) := hz
          clear hz
          go_wp2_with fail
          refine (first_none b q _ S.out.good.at_ HZ.out).mono ?_
          rintro e wc ⟨rfl, rfl⟩
          go_wp2_with fail
          refine (rall_any (b + 1) g f _ S.out.ref).mono ?_
          rintro e w4 ⟨v, L, rfl, hL, R⟩
          have S4 : Hid (Sq w w4 b q g f) := S.out.below R.bel
          have LQ : Hid (LL q f L) := S4.out.list R
          have hl0 : L.length = 0 := by rw [LQ.out.len, HZ.out]
          obtain ⟨av, cv, hv⟩ := own_form R.own
          rw [hl0] at hv
          rw [hv]
          clear R hv hL
          go_wp2_with fail
          refine (len_any b q _ S4.out.good.at_).mono ?_
          rintro e w4 ⟨rfl, rfl⟩
          rw [HZ.out]
          go_wp2_with fail
          go_roundw
          case rel => exact ⟨k + 1, q, g, f, by go_num, by omega, S4⟩
          case measure => simp [intOf]; omega
        · have HZ : Hid (0 < q.many) := by show 0 < q.many; omega
          clear hz
          go_wp2_with fail
          refine (first_some b q _ S.out.good HZ.out).mono ?_
          rintro e wd ⟨j, rfl, ⟨nq, rfl⟩, hj, hp, hlast⟩
          have SD : Hid (Sq w (wc.drewN nq) b q g f) := S.out.drewN nq
          have HJ : Hid (0 < q.place j ∧ ∀ i, i < 64 → 0 < q.place i → ¬ Hp.ah q.keys i j) := ⟨hp, hlast⟩
          generalize wc.drewN nq = wd at *
          clear hp hlast S
          go_wp2_with fail
          refine (rall_any (b + 1) g f _ SD.out.ref).mono ?_
          rintro e w4 ⟨v, L, rfl, hL, R⟩
          have S4 : Hid (Sq w w4 b q g f) := SD.out.below R.bel
          have LQ : Hid (LL q f L) := S4.out.list R
          obtain ⟨M, hM⟩ := LQ.out.head hj HJ.out.1 HJ.out.2
          have hlm : L.length = q.many := LQ.out.len
          have h1L : 0 < L.length := by rw [hM]; simp
          obtain ⟨gg, cv, hv, _, _⟩ := R.own.form h1L
          have call : w4.cell? ⟨gg, 0, none⟩ = some (.int .i64 j) := by
            have ho := R.own
            rw [hv] at ho
            rw [ho.cellAt 0 (by omega)]
            exact rowOf_at _ _ _ (by rw [hM]; rfl)
          have ckey : w4.cell? ⟨b + 1, 64 + j, none⟩ = some (.int .u64 (q.keys j)) := by
            rw [S4.out.ref.key j hj, S4.out.same j hj HJ.out.1]
          obtain ⟨N, hN⟩ : ∃ N, L.length = N := ⟨_, rfl⟩
          rw [hN] at hv hL hlm h1L
          have HMN : Hid (N = q.many) := hlm
          rw [hv]
          obtain ⟨kj, hkj⟩ : ∃ kj, q.keys j = kj := ⟨_, rfl⟩
          rw [hkj] at ckey
          rw [hkj]
          have hjI : (j : Int) < 64 := by omega
          have hN0 : ((N : Int) == 0) = false := by simp; omega
          have hN1 : (0 : Int) < (N : Int) := by omega
          clear R hv hL hM hN hlm hkj h1L
          go_wp2_with fail
          go_quiet (fail)
          go_wp2_with fail
          refine (len_any b q _ (S4.out.good.at_.drewN _)).mono ?_
          rintro e w5 ⟨rfl, rfl⟩
          rw [← HMN.out]
          go_wp2_with fail
          go_roundw
          case rel => exact ⟨k + 1, q, g, f, by go_num, by omega, S4.out.drewN _⟩
          case measure => simp [intOf]; omega
    · have hkn : k = n0 := by omega
      subst hkn
      have S0 : Hid (Sq w wr b q g f) := S
      go_wp2_with fail
      refine (all_any sort_said b q _ S0.out.good).mono ?_
      rintro e W4 ⟨gg, L, rfl, A4⟩
      have S4 : Hid (Sq w W4 b q g f) := S0.out.below A4.bel
      have A4' : Hid (AllSt wr W4 q gg L) := A4
      clear A4
      go_wp2_with fail
      refine (rall_any (b + 1) g f _ S4.out.ref).mono ?_
      rintro e W5 ⟨v, L2, rfl, hL2, R⟩
      have S5 : Hid (Sq w W5 b q g f) := S4.out.below R.bel
      have LQ := S5.out.list R
      obtain rfl : L2 = L := Hp.srt_unique _ _ LQ.srt A4'.out.srt (fun x => (LQ.mem x).trans (A4'.out.mem x).symm)
      by_cases h0 : L2.length = 0
      · obtain ⟨av, cv, hv⟩ := own_form R.own
        rw [h0] at hv
        rw [hv, h0]
        clear R hv hL2 LQ
        go_wp2_with fail
        refine (sameNumbers_none _ _ _ _ _).mono ?_
        rintro e W6 ⟨rfl, nq, rfl⟩
        go_wp2_with fail
        go_ret
        exact ⟨rfl, below_drewN S5.out.bel _⟩
      · obtain ⟨g2, cv, hv, _, _⟩ := R.own.form (by omega)
        have C2 : Hid (∀ i, i < L2.length → W5.cell? ⟨g2, 0 + i, none⟩ = some (.int .i64 (L2.getD i 0 : Nat))) := fun i hi => by
          have ho := R.own
          rw [hv] at ho
          rw [Nat.zero_add, ho.cellAt i (by omega)]
          exact rowOf_at _ _ _ (by rw [List.getD_eq_getElem?_getD, List.getElem?_eq_getElem hi]; rfl)
        have C1 : Hid (∀ i, i < L2.length → W5.cell? ⟨gg, 0 + i, none⟩ = some (.int .i64 (L2.getD i 0 : Nat))) := fun i hi => by
          have hc := A4'.out.cells i hi
          rw [Nat.zero_add, (R.bel.cell (p := ⟨gg, i, none⟩) (World.block_lt_of_cell? _ _ hc))]
          exact hc
        rw [hv]
        clear R hv LQ
        go_wp2_with fail
        refine (sameNumbers_some gg g2 0 0 L2.length _ _ (fun i => (L2.getD i 0 : Nat)) (by omega) _ C1.out C2.out).mono ?_
        rintro e W6 ⟨rfl, nq, rfl⟩
        go_wp2_with fail
        go_ret
        exact ⟨rfl, below_drewN S5.out.bel _⟩

end Go.Proofs.Ytgabceeekkcekaa

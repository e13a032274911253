/- The law PipesSays: what stays true; flows; what both begin with. -/
import Derived.Test.YtddjjfapbbeahaaPe
import Derived.Test.YtddjjfapbbeahaaPh
import Derived.Test.YtddjjfapbbeahaaQc
namespace Go.Proofs.Ytddjjfapbbeahaa
open Go.RowKit
open Pp (Pi)

/-- Open k times at most; what is no pipe has nothing. -/
def Pp.PI (k : Nat) (S : Nat → Pi) : Prop := (∀ n, n < 8 → (S n).reads ≤ k ∧ (S n).writes ≤ k) ∧ Pp.Zr S
theorem Pp.PI.sm {k : Nat} {S : Nat → Pi} (h : Pp.PI k S) (hk : k < 1000) : Pp.Sm S := fun n hn => by have := h.1 n hn; omega
theorem Pp.PI.tim {k : Nat} {S : Nat → Pi} (h : Pp.PI k S) (hk : k < 1000) (wr : Bool) : ∀ n, n < 8 → Pp.tim (S n) wr < 2 ^ 60 := fun n hn => by
  have := h.1 n hn
  unfold Pp.tim
  split <;> omega
theorem Pp.PI.put {k : Nat} {S : Nat → Pi} (h : Pp.PI k S) (n : Nat) (x : Pi) (h1 : x.reads ≤ k + 1 ∧ x.writes ≤ k + 1) (h2 : Pp.thr x = false → x = Pi.no) : Pp.PI (k + 1) (Pp.put S n x) := by
  refine ⟨fun m hm => ?_, fun m hm => ?_⟩
  · by_cases c : m = n
    · subst c; rw [Pp.put_same]; exact h1
    · rw [Pp.put_ne _ _ _ _ c]; have := h.1 m hm; omega
  · by_cases c : m = n
    · subst c; rw [Pp.put_same]; exact h2
    · rw [Pp.put_ne _ _ _ _ c]; exact h.2 m hm
theorem Pp.PI.up {k : Nat} {S : Nat → Pi} (h : Pp.PI k S) : Pp.PI (k + 1) S := ⟨fun n hn => by have := h.1 n hn; omega, h.2⟩
theorem Pp.PI.mak {k n : Nat} {E : Int} {S : Nat → Pi} (h : Pp.PI k S) : Pp.PI (k + 1) (Pp.makF S n E) := by
  unfold Pp.makF
  split
  · exact h.put n _ ⟨by show 1 ≤ k + 1; omega, by show 1 ≤ k + 1; omega⟩ (fun e => by cases e)
  · exact h.up
theorem Pp.PI.sha {k : Nat} {S : Nat → Pi} (h : Pp.PI k S) (z : Int) (wr : Bool) : Pp.PI (k + 1) (Pp.shaF S z wr) := by
  unfold Pp.shaF
  split
  · rename_i c
    obtain ⟨n, rfl, hn, ht, _⟩ := Pp.opE_ok c
    rw [Int.toNat_natCast]
    have hb := h.1 n hn
    refine h.put n _ ?_ (fun e => ?_)
    · unfold Pp.setT Pp.tim
      cases wr
      · exact ⟨by show (S n).reads + 1 ≤ k + 1; omega, by show (S n).writes ≤ k + 1; omega⟩
      · exact ⟨by show (S n).reads ≤ k + 1; omega, by show (S n).writes + 1 ≤ k + 1; omega⟩
    · exfalso
      unfold Pp.thr Pp.setT at e
      cases wr <;> simp at e
  · exact h.up
theorem Pp.PI.dro {k : Nat} {S : Nat → Pi} (h : Pp.PI k S) (z : Int) (wr : Bool) : Pp.PI (k + 1) (Pp.droF S z wr) := by
  unfold Pp.droF
  split
  · rename_i c
    obtain ⟨n, rfl, hn, ht, _⟩ := Pp.opE_ok c
    rw [Int.toNat_natCast]
    have hb := h.1 n hn
    unfold Pp.less
    split
    · rename_i c2
      refine h.put n _ ?_ (fun e => absurd c2 (by rw [e]; decide))
      unfold Pp.setT Pp.tim
      cases wr
      · exact ⟨by show (S n).reads - 1 ≤ k + 1; omega, by show (S n).writes ≤ k + 1; omega⟩
      · exact ⟨by show (S n).reads ≤ k + 1; omega, by show (S n).writes - 1 ≤ k + 1; omega⟩
    · exact h.put n _ ⟨Nat.zero_le _, Nat.zero_le _⟩ (fun _ => rfl)
  · exact h.up
theorem Pp.PI.tx {k : Nat} {S : Nat → Pi} (h : Pp.PI k S) (n : Nat) (hn : n < 8) (ht : Pp.thr (S n) = true) (t : ByteArray) : Pp.PI (k + 1) (Pp.put S n { S n with tx := t }) := by
  have hb := h.1 n hn
  refine h.put n _ ⟨by show (S n).reads ≤ k + 1; omega, by show (S n).writes ≤ k + 1; omega⟩ (fun e => ?_)
  have : Pp.thr (S n) = false := e
  rw [ht] at this
  cases this
theorem Pp.PI.rea {k : Nat} {S : Nat → Pi} (h : Pp.PI k S) (z m : Int) : Pp.PI (k + 1) (Pp.reaF S z m) := by
  unfold Pp.reaF
  split
  · rename_i c
    have o : Pp.opE S z false = 0 := by
      unfold Pp.reaE at c
      by_cases d : Pp.opE S z false ≠ 0
      · rw [if_pos d] at c; exact absurd c d
      · omega
    obtain ⟨n, rfl, hn, ht, _⟩ := Pp.opE_ok o
    rw [Int.toNat_natCast]
    exact h.tx n hn ht _
  · exact h.up
theorem Pp.PI.wri {k : Nat} {S : Nat → Pi} (h : Pp.PI k S) (z : Int) (s : ByteArray) : Pp.PI (k + 1) (Pp.wriF S z s) := by
  unfold Pp.wriF
  split
  · rename_i c
    have o : Pp.opE S z true = 0 := by
      unfold Pp.wriE at c
      by_cases d : Pp.opE S z true ≠ 0
      · rw [if_pos d] at c; exact absurd c d
      · omega
    obtain ⟨n, rfl, hn, ht, _⟩ := Pp.opE_ok o
    rw [Int.toNat_natCast]
    exact h.tx n hn ht _
  · exact h.up
theorem Pp.PI.nul : Pp.PI 0 Pp.nul := ⟨fun _ _ => ⟨Nat.le_refl _, Nat.le_refl _⟩, fun _ _ _ => rfl⟩
theorem Pp.reaE_nn (S : Nat → Pi) (z m : Int) : 0 ≤ Pp.reaE S z m := by
  have := Pp.opE_nn S z false
  unfold Pp.reaE
  repeat' split
  all_goals omega
theorem Pp.wriE_nn (S : Nat → Pi) (z : Int) (s : ByteArray) : 0 ≤ Pp.wriE S z s := by
  have := Pp.opE_nn S z true
  unfold Pp.wriE
  repeat' split
  all_goals omega
theorem Pp.FreeTo.nn {S : Nat → Pi} {n : Nat} {E : Int} (h : Pp.FreeTo S n E) : 0 ≤ E := by rcases h with ⟨e, _⟩ | ⟨e, _⟩ <;> omega
/-- The document's own pipes, none. -/
def Pp.zR : Array Value := ((List.range 24).map fun o => if o < 8 then Value.string ⟨#[]⟩ else Value.int .i64 0).toArray
theorem Pp.zR_at (o : Nat) (h : o < 24) : Pp.zR[o]? = some (if o < 8 then Value.string ⟨#[]⟩ else Value.int .i64 0) := by simp [Pp.zR, h]
theorem QAt.zero {w : World} {b : Nat} {T : TypeId} (h : w.heap[b]? = some (.cells Pp.zR T (0, 0))) : QAt w b Pp.nul := by
  refine ⟨⟨_, T, h, by simp [Pp.zR]⟩, fun n hn => ?_, fun n hn => ?_, fun n hn => ?_⟩
  · rw [cell_blk h, Pp.zR_at _ (by omega), if_pos (by omega)]; rfl
  · rw [cell_blk h, Pp.zR_at _ (by omega), if_neg (by omega)]; rfl
  · rw [cell_blk h, Pp.zR_at _ (by omega), if_neg (by omega)]; rfl
theorem Pp.zR_eq : Pp.zR = #[.string ⟨#[]⟩, .string ⟨#[]⟩, .string ⟨#[]⟩, .string ⟨#[]⟩, .string ⟨#[]⟩, .string ⟨#[]⟩, .string ⟨#[]⟩, .string ⟨#[]⟩, .int .i64 0, .int .i64 0, .int .i64 0, .int .i64 0, .int .i64 0, .int .i64 0, .int .i64 0, .int .i64 0, .int .i64 0, .int .i64 0, .int .i64 0, .int .i64 0, .int .i64 0, .int .i64 0, .int .i64 0, .int .i64 0] := rfl
/-- Both sets, in step. -/
def PS (w W : World) (b c : Nat) (S : Nat → Pi) : Prop := Below w.heap.size w W ∧ PAt W b S ∧ QAt W c S ∧ w.heap.size ≤ b ∧ w.heap.size ≤ c ∧ b ≠ c
/-- .. and while one side has acted. -/
def PX (w W : World) (b c : Nat) (S R : Nat → Pi) : Prop := Below w.heap.size w W ∧ PAt W b S ∧ QAt W c R ∧ w.heap.size ≤ b ∧ w.heap.size ≤ c ∧ b ≠ c
section
variable {w W W' : World} {b c : Nat} {S R S' : Nat → Pi}
theorem PX.size (h : PX w W b c S R) : b < W.heap.size ∧ c < W.heap.size := ⟨h.2.1.lt, h.2.2.1.lt⟩
theorem PX.below (h : PX w W b c S R) (k : Below W.heap.size W W') : PX w W' b c S R := ⟨h.1.trans (k.mono h.1.size), h.2.1.below k h.2.1.lt, h.2.2.1.below k h.2.2.1.lt, h.2.2.2⟩
theorem PX.code (h : PX w W b c S R) (h1 : PAt W' b S') (f : Frm b W W') : PX w W' b c S' R := ⟨f.below h.1 h.2.2.2.1 h.1.size, h1, h.2.2.1.frm f (Ne.symm h.2.2.2.2.2), h.2.2.2⟩
theorem PX.ref (h : PX w W b c S R) (h1 : QAt W' c S') (f : Frm c W W') : PX w W' b c S S' := ⟨f.below h.1 h.2.2.2.2.1 h.1.size, h.2.1.frm f h.2.2.2.2.2, h1, h.2.2.2⟩
end
set_option maxRecDepth 100000 in
set_option maxHeartbeats 1000000 in
theorem flows_any (w : World) : Calls Try.prog 5 #[] w fun e w' => e = .returned (.bool true) ∧ Below w.heap.size w w' := by
  have AB : Hid (∀ k : Nat, k ≤ 2 → (k = 0 → 2 = 0) → True) := Hid.intro (fun _ _ _ => trivial)
  clear AB
  go_enter Try.func5, Try.ntmps5
  go_upto_region 2 with (refine Pp.wp_buildS rfl rfl ?_)
  refine wp_gen (fun W' => PAt W' w.heap.size Pp.nul ∧ Below w.heap.size w W') (pzero_alloc w) ?_
  rintro W1 ⟨f1, b1⟩
  have F1 := Hid.intro f1
  have B1 := Hid.intro b1
  clear f1 b1
  go_wp2_with fail
  refine (pmake_first w.heap.size _ F1.out).mono ?_
  rintro e W2 ⟨rfl, h2, f2⟩
  have S2 : Hid (TP w W2 w.heap.size ⟨#[]⟩) := Hid.intro ⟨f2.below B1.out (Nat.le_refl _) B1.out.size, h2, Nat.le_refl _⟩
  clear h2 f2 F1 B1
  go_wp2_with fail
  refine (pwrite_any w.heap.size 0 ⟨#[97, 98]⟩ _ _ S2.out.2.1 (by decide)).mono ?_
  rintro e W3 ⟨rfl, h3, f3⟩
  have e1 : Pp.wriE (Pp.one ⟨#[]⟩) 0 ⟨#[97, 98]⟩ = 0 := by decide +kernel
  have e2 : Pp.wriK (Pp.one ⟨#[]⟩) 0 ⟨#[97, 98]⟩ = 2 := by decide +kernel
  have e3 : Pp.wriF (Pp.one ⟨#[]⟩) 0 ⟨#[97, 98]⟩ = Pp.one ⟨#[97, 98]⟩ := by
    unfold Pp.wriF
    rw [if_pos e1, e2, Pp.one_at, Pp.one_put]
    rfl
  rw [e3] at h3
  rw [e1, e2, errV_zero]
  have S3 := Hid.intro (S2.out.step h3 f3)
  clear h3 f3 e1 e2 e3
  go_wp2_with fail
  refine (pread_any w.heap.size 0 1 _ _ S3.out.2.1).mono ?_
  rintro e W4 ⟨rfl, h4, f4⟩
  have e1 : Pp.reaE (Pp.one ⟨#[97, 98]⟩) 0 1 = 0 := by decide +kernel
  have e2 : Pp.reaT (Pp.one ⟨#[97, 98]⟩) 0 1 = ⟨#[97]⟩ := by
    unfold Pp.reaT
    rw [if_pos e1, Pp.one_at]
    rfl
  have e3 : Pp.reaF (Pp.one ⟨#[97, 98]⟩) 0 1 = Pp.one ⟨#[98]⟩ := by
    unfold Pp.reaF
    rw [if_pos e1, Pp.one_at, Pp.one_put]
    rfl
  rw [e3] at h4
  rw [e1, e2, errV_zero]
  have S4 := Hid.intro (S3.out.step h4 f4)
  clear h4 f4 e1 e2 e3
  go_wp2_with (first | (go_at_call 9; refine (same_nil _).mono ?_; rintro e w6 ⟨rfl, hw6⟩; subst w6))
  refine (ppipes_any w.heap.size _ _ S4.out.2.1).mono ?_
  rintro e W5 ⟨rfl, hW⟩
  subst W5
  rw [Pp.one_cnt]
  go_wp2_with fail
  go_ret
  exact ⟨rfl, S4.out.1⟩
end Go.Proofs.Ytddjjfapbbeahaa

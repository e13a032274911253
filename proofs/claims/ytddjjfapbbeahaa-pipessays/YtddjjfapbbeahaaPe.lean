/- TopPipe. -/
import Derived.Test.YtddjjfapbbeahaaPd
import Derived.Test.YtddjjfapbbeahaaPg
import Derived.Test.YtddjjfapbbeahaaBt
namespace Go.Proofs.Ytddjjfapbbeahaa
open Go.RowKit
open Pp (Pi)

/-- No pipe; one pipe, open once either way. -/
def Pp.nul : Nat → Pi := fun _ => Pi.no
def Pp.one (T : ByteArray) : Nat → Pi := fun m => if m = 0 then ⟨T, 1, 1⟩ else Pi.no
def Pp.zA : Array Value := ((List.range 120).map fun o => if o % 15 < 12 then Value.int .u8 0 else Value.int .i64 0).toArray
theorem Pp.zA_at (o : Nat) (h : o < 120) : Pp.zA[o]? = some (if o % 15 < 12 then Value.int .u8 0 else Value.int .i64 0) := by simp [Pp.zA, h]
set_option maxRecDepth 100000 in
theorem Pp.zeroV (w : World) : (zeroValue 31).run Try.prog w = .ok (.agg Pp.zA) w := by kernel_rfl
section
variable {ops : Array Oper} {rest : List Oper} {x : Oper} {a : Act} {w : World} {Q : Exit → Act → World → Prop}
theorem Pp.wp_buildS (hgd : x.guard = none) (ho : x.op = .build 31 #[]) (h : wpList Try.prog ops Q rest (a.put x.dst (.agg Pp.zA)) w) : wpList Try.prog ops Q (x :: rest) a w :=
  wpList_plain hgd fun _ hK => by
    unfold Oper.wp execOp
    have hz := Pp.zeroV w
    simp only [ho]
    simp [go_sem, hz]
    exact hK _ _ h
end
theorem PAt.zero {w : World} {b : Nat} {T : TypeId} (h : w.heap[b]? = some (.cells Pp.zA T (0, 0))) : PAt w b Pp.nul := by
  refine ⟨⟨_, T, h, by simp [Pp.zA]⟩, fun n hn j v hv => ?_, fun n hn => ?_, fun n hn => ?_, fun n hn => ?_, fun n hn => Nat.zero_le _⟩
  · exact absurd (Pp.byt_lt hv) (by show ¬ j < 0; omega)
  · rw [cell_blk h, Pp.zA_at _ (by omega), if_neg (by omega)]; rfl
  · rw [cell_blk h, Pp.zA_at _ (by omega), if_neg (by omega)]; rfl
  · rw [cell_blk h, Pp.zA_at _ (by omega), if_neg (by omega)]; rfl
theorem Pp.FreeTo.first {n : Nat} {E : Int} (h : Pp.FreeTo Pp.nul n E) : n = 0 ∧ E = 0 :=
  h.unique (.inl ⟨rfl, by omega, rfl, fun m hm => absurd hm (Nat.not_lt_zero m)⟩)
theorem Pp.mak_first : Pp.makF Pp.nul 0 0 = Pp.one ⟨#[]⟩ := rfl
theorem pmake_first (b : Nat) (w : World) (h : PAt w b Pp.nul) :
    Calls Try.prog 7 #[.pointer (some ⟨b, 0, none⟩)] w fun e w' => e = .returned (.tuple #[.int .i64 0, .nilIface]) ∧ PAt w' b (Pp.one ⟨#[]⟩) ∧ Frm b w w' := by
  refine (pmake_any b _ w h).mono ?_
  rintro e w' ⟨n, E, rfl, hf, h1, h2⟩
  obtain ⟨rfl, rfl⟩ := hf.first
  exact ⟨rfl, h1, h2⟩
theorem Pp.one_cnt (T : ByteArray) : Pp.cnt (Pp.one T) 8 = 1 := rfl
theorem Pp.one_op (T : ByteArray) (wr : Bool) : Pp.opE (Pp.one T) 0 wr = 0 := by cases wr <;> rfl
theorem Pp.one_at (T : ByteArray) : Pp.one T (0 : Int).toNat = ⟨T, 1, 1⟩ := rfl
theorem Pp.one_put (T X : ByteArray) : Pp.put (Pp.one T) (0 : Int).toNat ⟨X, 1, 1⟩ = Pp.one X := by
  funext m
  unfold Pp.put Pp.one
  show (if m = 0 then _ else _) = _
  split <;> rfl
theorem Pp.one_wriE (T s : ByteArray) : Pp.wriE (Pp.one T) 0 s = if s.size ≠ 0 ∧ T.size = 12 then 13 else 0 := by
  unfold Pp.wriE
  rw [Pp.one_op, if_neg (fun h => h rfl), Pp.one_at, if_neg (Nat.succ_ne_zero 0)]
theorem Pp.one_reaE (T : ByteArray) (m : Int) : Pp.reaE (Pp.one T) 0 m = if m < 0 then 1 else if 0 < m ∧ T.size = 0 then 13 else 0 := by
  unfold Pp.reaE
  rw [Pp.one_op, if_neg (fun h => h rfl), Pp.one_at]
  simp
/-- A Write into one pipe: full; or k bytes more. -/
theorem pone_write (b : Nat) (T s : ByteArray) (w : World) (h : PAt w b (Pp.one T)) (hs : s.size < 2 ^ 60) :
    Calls Try.prog 15 #[.pointer (some ⟨b, 0, none⟩), .int .i64 0, .string s] w fun e w' =>
      (s.size ≠ 0 ∧ e = .returned (.tuple #[.int .i64 0, .iface 61 (.int .i64 13)]) ∧ PAt w' b (Pp.one T) ∧ Frm b w w')
      ∨ (∃ k : Nat, e = .returned (.tuple #[.int .i64 (k : Int), .nilIface]) ∧ k ≤ s.size ∧ (k = 0 → s.size = 0) ∧ PAt w' b (Pp.one (T ++ s.extract 0 k)) ∧ Frm b w w') := by
  refine (pwrite_any b 0 s _ w h hs).mono ?_
  rintro e w' ⟨rfl, h1, h2⟩
  have h12 : T.size ≤ 12 := h.small 0 (by omega)
  by_cases c : s.size ≠ 0 ∧ T.size = 12
  · have e : Pp.wriE (Pp.one T) 0 s = 13 := by rw [Pp.one_wriE, if_pos c]
    refine .inl ⟨c.1, ?_, ?_, h2⟩
    · unfold Pp.wriK
      rw [e, if_neg (by decide)]
      rfl
    · unfold Pp.wriF at h1
      rw [e, if_neg (by decide)] at h1
      exact h1
  · have e : Pp.wriE (Pp.one T) 0 s = 0 := by rw [Pp.one_wriE, if_neg c]
    have k : Pp.wriK (Pp.one T) 0 s = min s.size (12 - T.size) := by unfold Pp.wriK; rw [if_pos e, Pp.one_at]
    refine .inr ⟨min s.size (12 - T.size), ?_, by omega, fun k0 => by omega, ?_, h2⟩
    · rw [k, e]; rfl
    · unfold Pp.wriF at h1
      rw [if_pos e, k, Pp.one_at, Pp.one_put] at h1
      exact h1
/-- A Read from one pipe: what is wrong; or its first bytes. -/
theorem pone_read (b : Nat) (T : ByteArray) (m : Int) (w : World) (h : PAt w b (Pp.one T)) :
    Calls Try.prog 13 #[.pointer (some ⟨b, 0, none⟩), .int .i64 0, .int .i64 m] w fun e w' =>
      (∃ E, E ≠ 0 ∧ e = .returned (.tuple #[.string ⟨#[]⟩, .iface 61 (.int .i64 E)]) ∧ PAt w' b (Pp.one T) ∧ Frm b w w')
      ∨ (∃ k : Nat, 0 ≤ m ∧ e = .returned (.tuple #[.string (T.extract 0 k), .nilIface]) ∧ (k : Int) ≤ m ∧ k ≤ T.size ∧ PAt w' b (Pp.one (T.extract k T.size)) ∧ Frm b w w') := by
  refine (pread_any b 0 m _ w h).mono ?_
  rintro e w' ⟨rfl, h1, h2⟩
  by_cases c : Pp.reaE (Pp.one T) 0 m = 0
  · have m0 : 0 ≤ m := by
      rw [Pp.one_reaE] at c
      by_cases d : m < 0
      · rw [if_pos d] at c; omega
      · omega
    refine .inr ⟨min m.toNat T.size, m0, ?_, by omega, by omega, ?_, h2⟩
    · unfold Pp.reaT
      rw [if_pos c, c, Pp.one_at]
      rfl
    · unfold Pp.reaF at h1
      rw [if_pos c, Pp.one_at, Pp.one_put] at h1
      exact h1
  · refine .inl ⟨_, c, ?_, ?_, h2⟩
    · unfold Pp.reaT
      rw [if_neg c, errV_ne c]
    · unfold Pp.reaF at h1
      rw [if_neg c] at h1
      exact h1
/-- One pipe, open once to be read alone. -/
def Pp.en (T : ByteArray) : Nat → Pi := fun m => if m = 0 then ⟨T, 1, 0⟩ else Pi.no
theorem Pp.en_at (T : ByteArray) : Pp.en T (0 : Int).toNat = ⟨T, 1, 0⟩ := rfl
theorem Pp.dro_one (T : ByteArray) : Pp.droF (Pp.one T) 0 true = Pp.en T := by
  unfold Pp.droF
  rw [if_pos (Pp.one_op T true), Pp.one_at]
  funext m
  show (if m = 0 then _ else _) = Pp.en T m
  unfold Pp.one Pp.en
  split
  · rfl
  · rfl
theorem Pp.en_reaE (T : ByteArray) : Pp.reaE (Pp.en T) 0 99 = 0 := by
  unfold Pp.reaE
  rw [show Pp.opE (Pp.en T) 0 false = 0 from rfl, if_neg (fun h => h rfl), if_neg (by decide), if_neg (fun h => absurd h.2.2 (Nat.lt_irrefl 0))]
theorem Pp.en_reaT (T : ByteArray) (h : T.size ≤ 12) : Pp.reaT (Pp.en T) 0 99 = T := by
  unfold Pp.reaT
  rw [if_pos (Pp.en_reaE T), Pp.en_at]
  show T.extract 0 (min 99 T.size) = T
  rw [Nat.min_eq_right (by omega), ByteArray.extract_zero_size]
theorem Pp.en_reaF (T : ByteArray) (h : T.size ≤ 12) : Pp.reaF (Pp.en T) 0 99 = Pp.en ⟨#[]⟩ := by
  unfold Pp.reaF
  rw [if_pos (Pp.en_reaE T), Pp.en_at]
  show Pp.put (Pp.en T) (0 : Int).toNat ⟨T.extract (min 99 T.size) T.size, 1, 0⟩ = _
  rw [Nat.min_eq_right (by omega), ByteArray.extract_same]
  funext m
  unfold Pp.put Pp.en
  show (if m = 0 then _ else _) = _
  split <;> rfl
theorem Pp.dro_en : Pp.droF (Pp.en ⟨#[]⟩) 0 false = Pp.nul := by
  unfold Pp.droF
  rw [if_pos (show Pp.opE (Pp.en ⟨#[]⟩) 0 false = 0 from rfl), Pp.en_at]
  funext m
  show (if m = 0 then _ else _) = Pi.no
  unfold Pp.en
  split <;> rfl
theorem Pp.nul_cnt : Pp.cnt Pp.nul 8 = 0 := rfl
theorem Pp.tim_one (T : ByteArray) (wr : Bool) : ∀ n, n < 8 → Pp.tim (Pp.one T n) wr < 2 ^ 60 := fun n _ => by
  unfold Pp.one Pp.tim
  repeat' split
  all_goals simp [Pi.no]
theorem Pp.tim_en (T : ByteArray) (wr : Bool) : ∀ n, n < 8 → Pp.tim (Pp.en T n) wr < 2 ^ 60 := fun n _ => by
  unfold Pp.en Pp.tim
  repeat' split
  all_goals simp [Pi.no]
/-- The pipe, behind all that was there before. -/
def TP (w W : World) (b : Nat) (T : ByteArray) : Prop := Below w.heap.size w W ∧ PAt W b (Pp.one T) ∧ w.heap.size ≤ b
theorem TP.step {w W W' : World} {b : Nat} {T X : ByteArray} (h : TP w W b T) (h1 : PAt W' b (Pp.one X)) (h2 : Frm b W W') : TP w W' b X :=
  ⟨h2.below h.1 h.2.2 h.1.size, h1, h.2.2⟩
/-- What a law begins with: an empty set, one pipe made. -/
theorem pzero_alloc (w : World) : PAt (w.alloc (.cells Pp.zA 31)) w.heap.size Pp.nul ∧ Below w.heap.size w (w.alloc (.cells Pp.zA 31)) := by
  exact ⟨PAt.zero (heap_alloc_new w _), (Below.refl _ _).alloc (Nat.le_refl _) _⟩
set_option maxRecDepth 100000 in
set_option maxHeartbeats 400000 in
theorem tp_far (a0 : Option Addr) (n0 c0 : Nat) (w : World) (h : 150 < n0) :
    Calls Try.prog 4 #[.slice a0 n0 c0] w fun e w' => e = .returned (.bool true) ∧ Below w.heap.size w w' := by
  have d : decide ((n0 : Int) ≤ 150) = false := by simp; omega
  go_enter Try.func4, Try.ntmps4
  go_upto_region 2 with (refine Pp.wp_buildS rfl rfl ?_)
  refine wp_gen (fun W' => PAt W' w.heap.size Pp.nul ∧ Below w.heap.size w W') (pzero_alloc w) ?_
  rintro W1 ⟨f1, b1⟩
  have F1 := Hid.intro f1
  have B1 := Hid.intro b1
  clear f1 b1
  go_wp2_with fail
  refine (pmake_first w.heap.size _ F1.out).mono ?_
  rintro e W2 ⟨rfl, h2, f2⟩
  have S2 : Hid (TP w W2 w.heap.size ⟨#[]⟩) := Hid.intro ⟨f2.below B1.out (Nat.le_refl _) B1.out.size, h2, Nat.le_refl _⟩
  clear h2 f2 F1 B1
  go_wp2_with fail
  refine (ppipes_any w.heap.size _ _ S2.out.2.1).mono ?_
  rintro e W3 ⟨rfl, hW⟩
  subst W3
  rw [Pp.one_cnt]
  go_wp2_with fail
  refine (light_any _ _ _ _ _).mono ?_
  rintro e W4 ⟨rfl, hW⟩
  subst W4
  rw [d]
  go_wp2_with fail
  go_ret
  exact ⟨rfl, S2.out.1⟩
end Go.Proofs.Ytddjjfapbbeahaa

import Derived.Test.YtghogbngmcolmaaGreatSan
import Derived.Test.YtghogbngmcolmaaGreatSao
import Derived.Test.YtghogbngmcolmaaGreatSba
import Derived.Test.YtghogbngmcolmaaGreatSap
import Derived.Test.YtghogbngmcolmaaGreatSaz
namespace Go.Proofs.YtghogbngmcolmaaGreat
open Go.RowKit
open Pp (Pi)
def Pp.nul : Nat → Pi := fun _ => Pi.no
def Pp.zA : Array Value := ((List.range 120).map fun o => if o % 15 < 12 then Value.int .u8 0 else Value.int .i64 0).toArray
theorem Pp.zA_at (o : Nat) (h : o < 120) : Pp.zA[o]? = some (if o % 15 < 12 then Value.int .u8 0 else Value.int .i64 0) := by simp [Pp.zA, h]
set_option maxRecDepth 100000 in
theorem Pp.zeroV (w : World) : (zeroValue 108).run Tryz.prog w = .ok (.agg Pp.zA) w := by kernel_rfl
section
variable {ops : Array Oper} {rest : List Oper} {x : Oper} {a : Act} {w : World} {Q : Exit → Act → World → Prop}
theorem Pp.wp_buildS (hgd : x.guard = none) (ho : x.op = .build 108 #[]) (h : wpList Tryz.prog ops Q rest (a.put x.dst (.agg Pp.zA)) w) : wpList Tryz.prog ops Q (x :: rest) a w :=
  wpList_plain hgd fun _ hK => by
    unfold Oper.wp execOp
    have hz := Pp.zeroV w
    simp only [ho]
    simp [go_sem, hz]
    exact hK _ _ h
end
theorem PAt.zero {w : World} {b : Nat} {T : TypeId} (h : w.heap[b]? = some (.cells Pp.zA T (0, 0))) : PAt w b Pp.nul := by
  refine ⟨⟨_, T, h, by simp [Pp.zA]⟩, fun n hn j v hv => ?_, fun n hn => ?_, fun n hn => ?_, fun n hn => ?_, fun n hn => Nat.zero_le _⟩
  · exact absurd (Pp.byt_lt hv) (by show ¬ j < 0; omega)
  · rw [cell_blk h, Pp.zA_at _ (by omega), if_neg (by omega)]; rfl
  · rw [cell_blk h, Pp.zA_at _ (by omega), if_neg (by omega)]; rfl
  · rw [cell_blk h, Pp.zA_at _ (by omega), if_neg (by omega)]; rfl
theorem pzero_alloc (w : World) : PAt (w.alloc (.cells Pp.zA 108)) w.heap.size Pp.nul ∧ Below w.heap.size w (w.alloc (.cells Pp.zA 108)) := by
  exact ⟨PAt.zero (heap_alloc_new w _), (Below.refl _ _).alloc (Nat.le_refl _) _⟩
end Go.Proofs.YtghogbngmcolmaaGreat
namespace Go.Proofs.YtghogbngmcolmaaGreat
open Go.RowKit
open Fx (Fi)
open Tr (Fo Nd)
open Pp (Pi)
def Fx.hit (x : Fi) (k m : Nat) : Nat := if x.refs ≠ 0 ∧ x.kind = k ∧ x.num = m then 1 else 0
def Fx.cK (T : Nat → Fi) (k m : Nat) : Nat → Nat
  | 0 => 0
  | n + 1 => Fx.cK T k m n + Fx.hit (T n) k m
theorem Fx.cK_put (T : Nat → Fi) (n : Nat) (x : Fi) (k m : Nat) : ∀ N, Fx.cK (Fx.put T n x) k m N + (if n < N then Fx.hit (T n) k m else 0) = Fx.cK T k m N + (if n < N then Fx.hit x k m else 0)
  | 0 => by rw [if_neg (Nat.not_lt_zero n), if_neg (Nat.not_lt_zero n)]; rfl
  | N + 1 => by
    have ih := Fx.cK_put T n x k m N
    show Fx.cK (Fx.put T n x) k m N + Fx.hit (Fx.put T n x N) k m + _ = Fx.cK T k m N + Fx.hit (T N) k m + _
    by_cases c : N = n
    · subst c
      rw [Fx.put_same, if_pos (Nat.lt_succ_self N), if_pos (Nat.lt_succ_self N)]
      rw [if_neg (Nat.lt_irrefl N), if_neg (Nat.lt_irrefl N)] at ih
      omega
    · rw [Fx.put_ne _ _ _ _ c]
      by_cases d : n < N
      · rw [if_pos (by omega), if_pos (by omega)]
        rw [if_pos d, if_pos d] at ih
        omega
      · rw [if_neg (by omega), if_neg (by omega)]
        rw [if_neg d, if_neg d] at ih
        omega
theorem Fx.cK_at (T : Nat → Fi) {n : Nat} (x : Fi) (k m : Nat) (hn : n < 24) : Fx.cK (Fx.put T n x) k m 24 + Fx.hit (T n) k m = Fx.cK T k m 24 + Fx.hit x k m := by
  have := Fx.cK_put T n x k m 24
  rw [if_pos hn, if_pos hn] at this
  exact this
theorem Fx.hit_le (x : Fi) (k m : Nat) : Fx.hit x k m ≤ 1 := by unfold Fx.hit; split <;> omega
theorem Fx.hit_no (k m : Nat) : Fx.hit Fi.no k m = 0 := if_neg (fun d => d.1 rfl)
theorem Fx.hit_zero {x : Fi} (h : x.refs = 0) (k m : Nat) : Fx.hit x k m = 0 := if_neg (fun d => d.1 h)
theorem Fx.hit_one {x : Fi} (h : x.refs ≠ 0) : Fx.hit x x.kind x.num = 1 := if_pos ⟨h, rfl, rfl⟩
theorem Fx.hit_refs {x y : Fi} (h1 : x.refs ≠ 0) (h2 : y.refs ≠ 0) (hk : x.kind = y.kind) (hn : x.num = y.num) (k m : Nat) : Fx.hit x k m = Fx.hit y k m := by
  unfold Fx.hit
  rw [hk, hn]
  by_cases c : y.kind = k ∧ y.num = m
  · rw [if_pos ⟨h1, c⟩, if_pos ⟨h2, c⟩]
  · rw [if_neg (fun d => c d.2), if_neg (fun d => c d.2)]
theorem Fx.cK_ge {T : Nat → Fi} {k m : Nat} : ∀ {N n : Nat}, n < N → Fx.hit (T n) k m ≤ Fx.cK T k m N
  | 0, n, h => absurd h (Nat.not_lt_zero n)
  | N + 1, n, h => by
    show _ ≤ Fx.cK T k m N + Fx.hit (T N) k m
    by_cases c : n = N
    · subst c; omega
    · have := Fx.cK_ge (T := T) (k := k) (m := m) (N := N) (n := n) (by omega)
      omega
theorem Fx.cK_le (T : Nat → Fi) (k m : Nat) : ∀ N, Fx.cK T k m N ≤ N
  | 0 => Nat.le_refl 0
  | N + 1 => by
    have := Fx.cK_le T k m N
    have := Fx.hit_le (T N) k m
    show Fx.cK T k m N + Fx.hit (T N) k m ≤ N + 1
    omega
end Go.Proofs.YtghogbngmcolmaaGreat
namespace Go.Proofs.YtghogbngmcolmaaGreat
open Go.RowKit
open Fx (Fi)
open Tr (Fo Nd)
open Pp (Pi)
structure WX (xx : Nat → Nat) (T : Nat → Fi) (F : Fo) (S : Nat → Pi) : Prop where
  no : ∀ n, n < 24 → (T n).refs = 0 → T n = Fi.no
  kd : ∀ n, n < 24 → (T n).refs ≠ 0 → (T n).kind = 1 ∨ (T n).kind = 2 ∨ (T n).kind = 3
  nd : ∀ n, n < 24 → (T n).refs ≠ 0 → (T n).kind = 1 → (T n).num < 40 ∧ (F.nd (T n).num).kind = 1
  pn : ∀ n, n < 24 → (T n).refs ≠ 0 → (T n).kind ≠ 1 → (T n).num < 8
  ps : ∀ n, n < 24 → (T n).pos ≤ 40
  hl : ∀ m, m < 40 → (F.nd m).held = Fx.cK T 1 m 24 + xx m
  z0 : ∀ m, m < 40 → (F.nd m).kind = 0 → (F.nd m).held = 0
  rd : ∀ m, m < 8 → (S m).reads = Fx.cK T 2 m 24
  wt : ∀ m, m < 8 → (S m).writes = Fx.cK T 3 m 24
section
variable {xx : Nat → Nat} {T : Nat → Fi} {F G : Fo} {S : Nat → Pi}
theorem WX.sm (h : WX xx T F S) (hx : ∀ m, m < 40 → xx m ≤ 600) : Fx.Sm F S := by
  have p : 24 < 2 ^ 60 := by decide
  refine ⟨fun n hn => ?_, fun wr n hn => ?_⟩
  · rw [h.hl n hn]; have := Fx.cK_le T 1 n 24; have := hx n hn; omega
  · unfold Pp.tim
    cases wr
    · show (S n).reads < _; rw [h.rd n hn]; have := Fx.cK_le T 2 n 24; omega
    · show (S n).writes < _; rw [h.wt n hn]; have := Fx.cK_le T 3 n 24; omega
theorem WX.pz (h : WX xx T F S) : Fx.Pz T := fun n hn => by
  have p : 40 < 2 ^ 60 := by decide
  have := h.ps n hn
  omega
theorem WX.letE (h : WX xx T F S) {n : Nat} (hn : n < 24) (r : (T n).refs ≠ 0) (k : (T n).kind = 1) : Tr.letE F ((T n).num : Int) = 0 := by
  obtain ⟨a, b⟩ := h.nd n hn r k
  have c := h.hl _ a
  have d := Fx.cK_ge (T := T) (k := 1) (m := (T n).num) hn
  have e := Fx.hit_one r
  rw [k] at e
  have z : Tr.nodeE F ((T n).num : Int) = 0 := by
    unfold Tr.nodeE
    rw [Int.toNat_natCast, if_neg (by omega), if_neg (by omega)]
  unfold Tr.letE
  rw [if_pos z, Int.toNat_natCast, if_neg (by omega)]
theorem WX.opE (h : WX xx T F S) {n : Nat} (hn : n < 24) (r : (T n).refs ≠ 0) (k : (T n).kind ≠ 1) : Pp.opE S ((T n).num : Int) (decide ((T n).kind = 3)) = 0 := by
  have a := h.pn n hn r k
  have e := Fx.hit_one r
  have tm : Pp.tim (S (T n).num) (decide ((T n).kind = 3)) ≠ 0 := by
    unfold Pp.tim
    rcases h.kd n hn r with c | c | c
    · exact absurd c k
    · rw [c]
      show (S (T n).num).reads ≠ 0
      rw [h.rd _ a]
      have d := Fx.cK_ge (T := T) (k := 2) (m := (T n).num) hn
      rw [c] at e
      omega
    · rw [c]
      show (S (T n).num).writes ≠ 0
      rw [h.wt _ a]
      have d := Fx.cK_ge (T := T) (k := 3) (m := (T n).num) hn
      rw [c] at e
      omega
  have th : Pp.thr (S (T n).num) = true := by
    unfold Pp.thr
    apply decide_eq_true
    unfold Pp.tim at tm
    by_cases c : (S (T n).num).reads = 0
    · right
      by_cases d : decide ((T n).kind = 3) = true
      · rw [if_pos d] at tm; omega
      · rw [if_neg d] at tm; exact absurd c tm
    · left; omega
  have z : Pp.pipE S ((T n).num : Int) = 0 := by
    unfold Pp.pipE
    rw [Int.toNat_natCast, if_neg (by omega), if_pos th]
  unfold Pp.opE
  rw [z, if_neg (fun d => d rfl), Int.toNat_natCast, if_neg tm]
theorem WX.forest (h : WX xx T F S) (hh : ∀ m, m < 40 → (G.nd m).held = (F.nd m).held) (hk : ∀ m, m < 40 → (F.nd m).held ≠ 0 → (G.nd m).kind = (F.nd m).kind) (hz : ∀ m, m < 40 → (G.nd m).kind = 0 → (G.nd m).held = 0) : WX xx T G S := by
  refine ⟨h.no, h.kd, fun n hn r k => ?_, h.pn, h.ps, fun m hm => (hh m hm).trans (h.hl m hm), hz, h.rd, h.wt⟩
  obtain ⟨a, b⟩ := h.nd n hn r k
  refine ⟨a, ?_⟩
  rw [hk _ a ?_]
  · exact b
  · rw [h.hl _ a]
    have d := Fx.cK_ge (T := T) (k := 1) (m := (T n).num) hn
    have e := Fx.hit_one r
    rw [k] at e
    omega
theorem WX.pipes (h : WX xx T F S) {R : Nat → Pi} (h1 : ∀ m, m < 8 → (R m).reads = (S m).reads ∧ (R m).writes = (S m).writes) : WX xx T F R :=
  ⟨h.no, h.kd, h.nd, h.pn, h.ps, h.hl, h.z0, fun m hm => (h1 m hm).1.trans (h.rd m hm), fun m hm => (h1 m hm).2.trans (h.wt m hm)⟩
theorem WX.turn (h : WX xx T F S) {n : Nat} (hn : n < 24) (r : (T n).refs ≠ 0) (x : Fi) (h1 : x.refs ≠ 0) (h2 : x.kind = (T n).kind) (h3 : x.num = (T n).num) (h4 : x.pos ≤ 40) : WX xx (Fx.put T n x) F S := by
  have cc : ∀ k m, Fx.cK (Fx.put T n x) k m 24 = Fx.cK T k m 24 := fun k m => by
    have := Fx.cK_at T x k m hn
    rw [Fx.hit_refs h1 r h2 h3] at this
    omega
  refine ⟨fun m hm e => ?_, fun m hm e => ?_, fun m hm e k => ?_, fun m hm e k => ?_, fun m hm => ?_, fun m hm => by rw [cc 1 m]; exact h.hl m hm, h.z0, fun m hm => (h.rd m hm).trans (cc 2 m).symm, fun m hm => (h.wt m hm).trans (cc 3 m).symm⟩
  · by_cases c : m = n
    · subst c; rw [Fx.put_same] at e; exact absurd e h1
    · rw [Fx.put_ne _ _ _ _ c] at e ⊢; exact h.no m hm e
  · by_cases c : m = n
    · subst c; rw [Fx.put_same, h2]; exact h.kd m hm r
    · rw [Fx.put_ne _ _ _ _ c] at e ⊢; exact h.kd m hm e
  · by_cases c : m = n
    · subst c; rw [Fx.put_same] at k ⊢; rw [h3]; exact h.nd m hm r (by rw [← h2]; exact k)
    · rw [Fx.put_ne _ _ _ _ c] at e k ⊢; exact h.nd m hm e k
  · by_cases c : m = n
    · subst c; rw [Fx.put_same] at k ⊢; rw [h3]; exact h.pn m hm r (by rw [← h2]; exact k)
    · rw [Fx.put_ne _ _ _ _ c] at e k ⊢; exact h.pn m hm e k
  · by_cases c : m = n
    · subst c; rw [Fx.put_same]; exact h4
    · rw [Fx.put_ne _ _ _ _ c]; exact h.ps m hm
theorem WX.gone (h : WX xx T F S) {n : Nat} (hn : n < 24) (r : (T n).refs ≠ 0) : WX xx (Fx.put T n Fi.no) (Fx.leF F (T n)) (Fx.leS S (T n)) := by
  have cc : ∀ k m, Fx.cK (Fx.put T n Fi.no) k m 24 + Fx.hit (T n) k m = Fx.cK T k m 24 := fun k m => by
    have := Fx.cK_at T Fi.no k m hn
    rw [Fx.hit_no] at this
    omega
  have no : ∀ m, m < 24 → (Fx.put T n Fi.no m).refs = 0 → Fx.put T n Fi.no m = Fi.no := fun m hm e => by
    by_cases c : m = n
    · subst c; rw [Fx.put_same]
    · rw [Fx.put_ne _ _ _ _ c] at e ⊢; exact h.no m hm e
  have up : ∀ m, m < 24 → (Fx.put T n Fi.no m).refs ≠ 0 → m ≠ n ∧ Fx.put T n Fi.no m = T m := fun m hm e => by
    by_cases c : m = n
    · subst c; rw [Fx.put_same] at e; exact absurd rfl e
    · exact ⟨c, Fx.put_ne _ _ _ _ c⟩
  have ps : ∀ m, m < 24 → (Fx.put T n Fi.no m).pos ≤ 40 := fun m hm => by
    by_cases c : m = n
    · subst c; rw [Fx.put_same]; exact Nat.zero_le _
    · rw [Fx.put_ne _ _ _ _ c]; exact h.ps m hm
  by_cases k : (T n).kind = 1
  · obtain ⟨a, b⟩ := h.nd n hn r k
    have le := h.letE hn r k
    have h1 := Fx.hit_one r
    rw [k] at h1
    have oth : ∀ m q, q ≠ 1 ∨ m ≠ (T n).num → Fx.cK (Fx.put T n Fi.no) q m 24 = Fx.cK T q m 24 := fun m q d => by
      have := cc q m
      have e0 : Fx.hit (T n) q m = 0 := if_neg (fun e => by
        rcases d with d | d
        · exact d (by rw [← e.2.1, k])
        · exact d e.2.2.symm)
      omega
    have own := cc 1 (T n).num
    have e1 : Fx.leF F (T n) = Tr.letT F ((T n).num : Int) := if_pos k
    have e2 : Fx.leS S (T n) = S := if_pos k
    rw [e1, e2]
    generalize hm0 : (T n).num = m0 at *
    have hl0 := h.hl m0 a
    have eT : Tr.letT F (m0 : Int) = Tr.swe (F.put m0 { F.nd m0 with held := (F.nd m0).held - 1 }) m0 := by unfold Tr.letT; rw [if_pos le, Int.toNat_natCast]
    rw [eT]
    by_cases sw : (F.nd m0).links = 0 ∧ (F.nd m0).held - 1 = 0
    · rw [Tr.swe_yes (by rw [Tr.put_same]; exact sw)]
      have nd : ∀ q, q ≠ m0 → (((F.put m0 { F.nd m0 with held := (F.nd m0).held - 1 }).put m0 Nd.no).nd q) = F.nd q := fun q hq => by rw [Tr.put_ne _ _ _ _ hq, Tr.put_ne _ _ _ _ hq]
      refine ⟨no, fun m hm e => ?_, fun m hm e k2 => ?_, fun m hm e k2 => ?_, ps, fun m hm => ?_, fun m hm e => ?_, fun m hm => ?_, fun m hm => ?_⟩
      · have y := (up m hm e).2; rw [y] at e ⊢; exact h.kd m hm e
      · obtain ⟨x, y⟩ := up m hm e
        rw [y] at e k2 ⊢
        obtain ⟨p, q⟩ := h.nd m hm e k2
        refine ⟨p, ?_⟩
        by_cases c : (T m).num = m0
        · exfalso
          have g := Fx.cK_ge (T := Fx.put T n Fi.no) (k := 1) (m := m0) hm
          rw [y] at g
          have g2 := Fx.hit_one e
          rw [k2, c] at g2
          omega
        · rw [nd _ c]; exact q
      · have y := (up m hm e).2; rw [y] at e k2 ⊢; exact h.pn m hm e k2
      · by_cases c : m = m0
        · subst c; rw [Tr.put_same]; show 0 = _; omega
        · rw [nd _ c, oth m 1 (.inr c)]; exact h.hl m hm
      · by_cases c : m = m0
        · subst c; rw [Tr.put_same]; rfl
        · rw [nd _ c] at e ⊢; exact h.z0 m hm e
      · rw [oth m 2 (.inl (by decide))]; exact h.rd m hm
      · rw [oth m 3 (.inl (by decide))]; exact h.wt m hm
    · rw [Tr.swe_no (by rw [Tr.put_same]; exact sw)]
      refine ⟨no, fun m hm e => ?_, fun m hm e k2 => ?_, fun m hm e k2 => ?_, ps, fun m hm => ?_, fun m hm e => ?_, fun m hm => ?_, fun m hm => ?_⟩
      · have y := (up m hm e).2; rw [y] at e ⊢; exact h.kd m hm e
      · obtain ⟨x, y⟩ := up m hm e
        rw [y] at e k2 ⊢
        obtain ⟨p, q⟩ := h.nd m hm e k2
        refine ⟨p, ?_⟩
        by_cases c : (T m).num = m0
        · rw [c, Tr.put_same]; exact b
        · rw [Tr.put_ne _ _ _ _ c]; exact q
      · have y := (up m hm e).2; rw [y] at e k2 ⊢; exact h.pn m hm e k2
      · by_cases c : m = m0
        · subst c; rw [Tr.put_same]; show (F.nd m).held - 1 = _; omega
        · rw [Tr.put_ne _ _ _ _ c, oth m 1 (.inr c)]; exact h.hl m hm
      · by_cases c : m = m0
        · subst c
          rw [Tr.put_same] at e
          have : (F.nd m).kind = 0 := e
          omega
        · rw [Tr.put_ne _ _ _ _ c] at e ⊢; exact h.z0 m hm e
      · rw [oth m 2 (.inl (by decide))]; exact h.rd m hm
      · rw [oth m 3 (.inl (by decide))]; exact h.wt m hm
  · have a := h.pn n hn r k
    have oe := h.opE hn r k
    have h1 := Fx.hit_one r
    have oth : ∀ m q, q ≠ (T n).kind ∨ m ≠ (T n).num → Fx.cK (Fx.put T n Fi.no) q m 24 = Fx.cK T q m 24 := fun m q d => by
      have := cc q m
      have e0 : Fx.hit (T n) q m = 0 := if_neg (fun e => by
        rcases d with d | d
        · exact d e.2.1.symm
        · exact d e.2.2.symm)
      omega
    have own := cc (T n).kind (T n).num
    have e1 : Fx.leF F (T n) = F := if_neg k
    have e2 : Fx.leS S (T n) = Pp.droF S ((T n).num : Int) (decide ((T n).kind = 3)) := if_neg k
    have hk := h.kd n hn r
    rw [e1, e2]
    have eD : Pp.droF S ((T n).num : Int) (decide ((T n).kind = 3)) = Pp.put S (T n).num (Pp.less (S (T n).num) (decide ((T n).kind = 3))) := by unfold Pp.droF; rw [if_pos oe, Int.toNat_natCast]
    have rl := h.rd _ a
    have wl := h.wt _ a
    rw [eD]
    have less : ∀ x : Pi, ∀ wr, (Pp.less x wr).reads = (Pp.setT x wr (Pp.tim x wr - 1)).reads ∧ (Pp.less x wr).writes = (Pp.setT x wr (Pp.tim x wr - 1)).writes := fun x wr => by
      unfold Pp.less
      split
      · exact ⟨rfl, rfl⟩
      · rename_i c
        have : Pp.thr (Pp.setT x wr (Pp.tim x wr - 1)) = false := by simpa using c
        unfold Pp.thr at this
        have := of_decide_eq_false this
        exact ⟨by show 0 = _; omega, by show 0 = _; omega⟩
    refine ⟨no, fun m hm e => ?_, fun m hm e k2 => ?_, fun m hm e k2 => ?_, ps, fun m hm => ?_, h.z0, fun m hm => ?_, fun m hm => ?_⟩
    · have y := (up m hm e).2; rw [y] at e ⊢; exact h.kd m hm e
    · have y := (up m hm e).2; rw [y] at e k2 ⊢; exact h.nd m hm e k2
    · have y := (up m hm e).2; rw [y] at e k2 ⊢; exact h.pn m hm e k2
    · rw [oth m 1 (.inl (fun d => k d.symm))]; exact h.hl m hm
    · by_cases c : m = (T n).num
      · rw [c, Pp.put_same, (less _ _).1]
        rcases hk with d | d | d
        · exact absurd d k
        · rw [d] at own h1 ⊢
          show (S (T n).num).reads - 1 = _
          omega
        · rw [oth _ 2 (.inl (by omega))]
          rw [d]
          exact rl
      · rw [Pp.put_ne _ _ _ _ c, oth m 2 (.inr c)]; exact h.rd m hm
    · by_cases c : m = (T n).num
      · rw [c, Pp.put_same, (less _ _).2]
        rcases hk with d | d | d
        · exact absurd d k
        · rw [oth _ 3 (.inl (by omega))]
          rw [d]
          exact wl
        · rw [d] at own h1 ⊢
          show (S (T n).num).writes - 1 = _
          omega
      · rw [Pp.put_ne _ _ _ _ c, oth m 3 (.inr c)]; exact h.wt m hm
end
section
variable {xx : Nat → Nat} {T : Nat → Fi} {F G : Fo} {S : Nat → Pi}
theorem WX.entry (h : WX xx T F S) {K q n : Nat} {R : Nat → Pi} (hl : Fx.Low T K) (hq : q = 2 ∨ q = 3) (n8 : n < 8) (h2 : ∀ m, m < 8 → (R m).reads = (S m).reads + if q = 2 ∧ m = n then 1 else 0) (h3 : ∀ m, m < 8 → (R m).writes = (S m).writes + if q = 3 ∧ m = n then 1 else 0) : WX xx (Fx.put T K ⟨q, n, false, 0, 1⟩) F R := by
  have cc : ∀ k m, Fx.cK (Fx.put T K ⟨q, n, false, 0, 1⟩) k m 24 = Fx.cK T k m 24 + if k = q ∧ m = n then 1 else 0 := fun k m => by
    have := Fx.cK_at T ⟨q, n, false, 0, 1⟩ k m hl.1
    rw [Fx.hit_zero hl.2.1] at this
    have e2 : Fx.hit ⟨q, n, false, 0, 1⟩ k m = if k = q ∧ m = n then 1 else 0 := by
      unfold Fx.hit
      by_cases c : k = q ∧ m = n
      · rw [if_pos c, if_pos ⟨Nat.succ_ne_zero 0, c.1.symm, c.2.symm⟩]
      · rw [if_neg c, if_neg (fun d => c ⟨d.2.1.symm, d.2.2.symm⟩)]
    rw [e2] at this
    omega
  refine ⟨fun m hm e => ?_, fun m hm e => ?_, fun m hm e k => ?_, fun m hm e k => ?_, fun m hm => ?_, fun m hm => ?_, h.z0, fun m hm => ?_, fun m hm => ?_⟩
  · by_cases c : m = K
    · subst c; rw [Fx.put_same] at e; exact absurd e (Nat.succ_ne_zero 0)
    · rw [Fx.put_ne _ _ _ _ c] at e ⊢; exact h.no m hm e
  · by_cases c : m = K
    · subst c; rw [Fx.put_same]; exact .inr hq
    · rw [Fx.put_ne _ _ _ _ c] at e ⊢; exact h.kd m hm e
  · by_cases c : m = K
    · subst c; rw [Fx.put_same] at k; have : q = 1 := k; omega
    · rw [Fx.put_ne _ _ _ _ c] at e k ⊢; exact h.nd m hm e k
  · by_cases c : m = K
    · subst c; rw [Fx.put_same]; exact n8
    · rw [Fx.put_ne _ _ _ _ c] at e k ⊢; exact h.pn m hm e k
  · by_cases c : m = K
    · subst c; rw [Fx.put_same]; exact Nat.zero_le _
    · rw [Fx.put_ne _ _ _ _ c]; exact h.ps m hm
  · rw [cc, if_neg (by omega)]; exact h.hl m hm
  · rw [cc, h2 m hm, h.rd m hm]
    by_cases c : q = 2 ∧ m = n
    · rw [if_pos c, if_pos ⟨c.1.symm, c.2⟩]
    · rw [if_neg c, if_neg (fun d => c ⟨d.1.symm, d.2⟩)]
  · rw [cc, h3 m hm, h.wt m hm]
    by_cases c : q = 3 ∧ m = n
    · rw [if_pos c, if_pos ⟨c.1.symm, c.2⟩]
    · rw [if_neg c, if_neg (fun d => c ⟨d.1.symm, d.2⟩)]
theorem WX.pipe (h : WX xx T F S) {a c n : Nat} (hf : Pp.FreeTo S n 0) (h1 : Fx.Low T a) (h2 : Fx.Low (Fx.put T a ⟨2, n, false, 0, 1⟩) c) : WX xx (Fx.put (Fx.put T a ⟨2, n, false, 0, 1⟩) c ⟨3, n, false, 0, 1⟩) F (Pp.makF S n 0) := by
  have n8 : n < 8 ∧ Pp.thr (S n) = false := by
    rcases hf with ⟨_, x, y, _⟩ | ⟨x, _⟩
    · exact ⟨x, y⟩
    · exact absurd x (by decide)
  have z : (S n).reads = 0 ∧ (S n).writes = 0 := by
    have := n8.2
    unfold Pp.thr at this
    have := of_decide_eq_false this
    omega
  have eM : Pp.makF S n 0 = Pp.put S n ⟨⟨#[]⟩, 1, 1⟩ := if_pos rfl
  rw [eM]
  have s1 := h.entry (q := 2) (R := Pp.put S n ⟨⟨#[]⟩, 1, 0⟩) h1 (.inl rfl) n8.1 (fun m hm => by
    by_cases d : m = n
    · subst d; rw [Pp.put_same, if_pos ⟨rfl, rfl⟩, z.1]
    · rw [Pp.put_ne _ _ _ _ d, if_neg (fun e => d e.2)]; rfl) (fun m hm => by
    rw [if_neg (fun e => absurd e.1 (by decide))]
    by_cases d : m = n
    · subst d; rw [Pp.put_same, z.2]
    · rw [Pp.put_ne _ _ _ _ d]; rfl)
  refine s1.entry (q := 3) h2 (.inr rfl) n8.1 (fun m hm => ?_) (fun m hm => ?_)
  · rw [if_neg (fun e => absurd e.1 (by decide))]
    by_cases d : m = n
    · subst d; rw [Pp.put_same, Pp.put_same]
    · rw [Pp.put_ne _ _ _ _ d, Pp.put_ne _ _ _ _ d]; rfl
  · by_cases d : m = n
    · subst d; rw [Pp.put_same, Pp.put_same, if_pos ⟨rfl, rfl⟩]
    · rw [Pp.put_ne _ _ _ _ d, Pp.put_ne _ _ _ _ d, if_neg (fun e => d e.2)]; rfl
theorem WX.wri (h : WX xx T F S) (z a : Int) (s : ByteArray) : WX xx T (Tr.wriF F z a s) S := by
  unfold Tr.wriF
  split
  · have one : ∀ m, ((F.put z.toNat (Tr.wriN (F.nd z.toNat) a.toNat s)).nd m).held = (F.nd m).held ∧ ((F.put z.toNat (Tr.wriN (F.nd z.toNat) a.toNat s)).nd m).kind = (F.nd m).kind := fun m => by
      by_cases c : m = z.toNat
      · subst c; rw [Tr.put_same]; exact ⟨rfl, rfl⟩
      · rw [Tr.put_ne _ _ _ _ c]; exact ⟨rfl, rfl⟩
    refine h.forest (fun m hm => (one m).1) (fun m hm _ => (one m).2) (fun m hm e => ?_)
    rw [(one m).2] at e
    rw [(one m).1]
    exact h.z0 m hm e
  · exact h
theorem WX.pwri (h : WX xx T F S) (z : Int) (s : ByteArray) : WX xx T F (Pp.wriF S z s) := by
  unfold Pp.wriF
  split
  · refine h.pipes (fun q hq => ?_)
    by_cases c : q = z.toNat
    · subst c; rw [Pp.put_same]; exact ⟨rfl, rfl⟩
    · rw [Pp.put_ne _ _ _ _ c]; exact ⟨rfl, rfl⟩
  · exact h
end
end Go.Proofs.YtghogbngmcolmaaGreat
namespace Go.Proofs.YtghogbngmcolmaaGreat
open Go.RowKit
open Tr (Fo Nd)
open Mo (Wh Mt)
open Mv (Me Bk)
open Sg (S1)
open Fx (Fi)
open Pp (Pi)
open Kn (Pr Kp St us KB)
namespace Kn
def tabN (k : Kp) (m : Nat) : Nat → Nat
  | 0 => 0
  | s + 1 => tabN k m s + if k.ht s = true then Mo.tc (k.tb s) m else 0
def tabX (k : Kp) (m : Nat) : Nat := tabN k m 6
structure KJ (X : Nat → Prop) (N : Nat) (k : Kp) : Prop where
  sp : ∃ d, Sp.Inv k.sp d
  gr : ∃ Wy, Gr.Tree k.gr Wy N
  si : Fa.Fr.Inv k.sc
  sy : Fa.Fr.Sync k.sc
  nw : k.sc.now ≤ N
  me : Mv.Wld k.bk 20 (fun n => (k.p n).mem)
  wx : WX (tabX k) k.fi k.fo k.pi
  rf : ∀ n, n < 24 → (k.fi n).refs ≤ 8 * N
  ok : Tr.Ok k.fo
  tb : ∀ s, s < 6 → k.ht s = true → Mo.Rg (k.tb s) ∧ (k.tb s).ms.length ≤ 6
  st : ∀ n, n < 20 → (k.p n).st ≤ 2
  hs : ∀ n, n < 20 → (k.p n).has = true → (k.p n).st = 1
  lv : ∀ n, n < 20 → ¬ X n → (k.p n).st = 1 → (k.p n).has = true
  of : ∀ n, n < 20 → (k.sp.of n ≠ 0 ↔ (k.p n).st ≠ 0)
  ht : ∀ s, s < 6 → k.ht s = k.sp.here s
  nm : ∀ n, n < 20 → (k.p n).has = false → (k.p n).mem = Mv.me0
theorem tabN_le {k : Kp} (h : ∀ s, s < 6 → k.ht s = true → Mo.Rg (k.tb s) ∧ (k.tb s).ms.length ≤ 6) (m : Nat) : ∀ s, s ≤ 6 → tabN k m s ≤ 13 * s
  | 0, _ => Nat.le_refl 0
  | s + 1, hs => by
    have ih := tabN_le h m s (by omega)
    show tabN k m s + _ ≤ _
    by_cases c : k.ht s = true
    · rw [if_pos c]
      have := Mo.tc_le (k.tb s) (h s (by omega) c).2 m
      omega
    · rw [if_neg c]; omega
section
variable {X : Nat → Prop} {N : Nat} {k : Kp}
theorem KJ.tx (h : KJ X N k) (m : Nat) : tabX k m ≤ 78 := tabN_le h.tb m 6 (Nat.le_refl _)
theorem KJ.sm (h : KJ X N k) : Fx.Sm k.fo k.pi := h.wx.sm (fun m _ => by have := h.tx m; omega)
theorem KJ.hb (h : KJ X N k) : Tr.Hb k.fo 102 := fun n hn => by
  rw [h.wx.hl n hn]
  have := Fx.cK_le k.fi 1 n 24
  have := h.tx n
  omega
theorem KJ.mono (h : KJ X N k) {Y : Nat → Prop} {M : Nat} (hX : ∀ n, n < 20 → X n → Y n) (hM : N ≤ M) : KJ Y M k :=
  ⟨h.sp, (by obtain ⟨Wy, g⟩ := h.gr; exact ⟨Wy, g.mono hM⟩), h.si, h.sy, Nat.le_trans h.nw hM, h.me, h.wx, fun n hn => by have := h.rf n hn; omega, h.ok, h.tb, h.st, h.hs, fun n hn hx => h.lv n hn (fun c => hx (hX n hn c)), h.of, h.ht, h.nm⟩
theorem KJ.putP (h : KJ X N k) {n : Nat} {x : Pr} (h1 : x.st = (k.p n).st) (h2 : x.has = (k.p n).has) (h3 : x.mem = (k.p n).mem) : KJ X N (k.put n x) := by
  have e : ∀ m, ((k.put n x).p m).st = (k.p m).st ∧ ((k.put n x).p m).has = (k.p m).has ∧ ((k.put n x).p m).mem = (k.p m).mem := fun m => by
    by_cases c : m = n
    · subst c; rw [put_same]; exact ⟨h1, h2, h3⟩
    · rw [put_ne _ _ _ _ c]; exact ⟨rfl, rfl, rfl⟩
  exact ⟨h.sp, h.gr, h.si, h.sy, h.nw, by rw [show (fun m => ((k.put n x).p m).mem) = fun m => (k.p m).mem from funext fun m => (e m).2.2]; exact h.me, h.wx, h.rf, h.ok, h.tb, fun m hm => by rw [(e m).1]; exact h.st m hm, fun m hm => by rw [(e m).1, (e m).2.1]; exact h.hs m hm, fun m hm => by rw [(e m).1, (e m).2.1]; exact h.lv m hm, fun m hm => by rw [(e m).1]; exact h.of m hm, h.ht, fun m hm => by rw [(e m).2.1, (e m).2.2]; exact h.nm m hm⟩
def unmK (k : Kp) (n : Nat) (a m : Int) : Kp := if Mv.unE a m = 0 then { memK k n (Mv.unM (k.p n).mem a m) (Mv.unK (k.p n).mem k.bk a m) with gr := Gr.uncT k.gr (k.p n).grp 0 (Mv.unC (k.p n).mem a m : Int) } else k
def unmE (k : Kp) (n : Nat) (a m : Int) : Int := if Mv.unE a m = 0 then Gr.uncE k.gr (k.p n).grp 0 (Mv.unC (k.p n).mem a m : Int) else Mv.unE a m
theorem unc_tree {t : Nat → Gr.Gp} {Wy : Nat → List (Fin 10)} {c : Nat} (h : Gr.Tree t Wy c) (g p q : Int) : Gr.Tree (Gr.uncT t g p q) Wy c := by
  unfold Gr.uncT
  by_cases e : Gr.uncE t g p q = 0
  · rw [if_pos e]
    have hr : Gr.refE t g p q = 0 := by
      unfold Gr.uncE at e
      by_cases r : Gr.refE t g p q = 0
      · exact r
      · rw [if_neg r] at e; exact absurd e r
    obtain ⟨n, rfl, hn, hh, hp, hq⟩ := Gr.refE_zero hr
    rw [Int.toNat_natCast]
    unfold Gr.uncE at e
    rw [if_pos hr, Int.toNat_natCast] at e
    have o := h.own n hn
    obtain ⟨hp, hq⟩ := Gr.refE_pq hr
    by_cases l : p ≤ (t n).op ∧ q ≤ (t n).oq
    · exact h.addO (Nat.le_refl _) ⟨by omega, by omega⟩ ⟨by omega, by omega⟩
    · rw [if_neg l] at e; omega
  · rw [if_neg e]; exact h
theorem KJ.setGr (h : KJ X N k) {t : Nat → Gr.Gp} (g : ∃ Wy, Gr.Tree t Wy N) : KJ X N { k with gr := t } := ⟨h.sp, g, h.si, h.sy, h.nw, h.me, h.wx, h.rf, h.ok, h.tb, h.st, h.hs, h.lv, h.of, h.ht, h.nm⟩
theorem KJ.memK (h : KJ X N k) {n : Nat} {m : Me} {b : Bk} (hn : n < 20) (hh : (k.p n).has = true) (w : Mv.Wld b 20 (Mv.setP (fun n => (k.p n).mem) n m)) : KJ X N (memK k n m b) := by
  have e : ∀ j, ((Kn.memK k n m b).p j).st = (k.p j).st ∧ ((Kn.memK k n m b).p j).has = (k.p j).has := fun j => by
    by_cases c : j = n
    · subst c; rw [show (Kn.memK k j m b).p j = { k.p j with mem := m } from put_same _ _ _]; exact ⟨rfl, rfl⟩
    · rw [show (Kn.memK k n m b).p j = k.p j from put_ne _ _ _ _ c]; exact ⟨rfl, rfl⟩
  have e2 : (fun j => ((Kn.memK k n m b).p j).mem) = Mv.setP (fun n => (k.p n).mem) n m := funext fun j => by
    by_cases c : j = n
    · subst c; rw [show (Kn.memK k j m b).p j = { k.p j with mem := m } from put_same _ _ _, Mv.setP_same]
    · rw [show (Kn.memK k n m b).p j = k.p j from put_ne _ _ _ _ c, Mv.setP_ne _ _ _ _ c]
  exact ⟨h.sp, h.gr, h.si, h.sy, h.nw, by rw [e2]; exact w, h.wx, h.rf, h.ok, h.tb, fun m hm => by rw [(e m).1]; exact h.st m hm, fun m hm => by rw [(e m).1, (e m).2]; exact h.hs m hm, fun m hm => by rw [(e m).1, (e m).2]; exact h.lv m hm, fun m hm => by rw [(e m).1]; exact h.of m hm, h.ht, fun j hj => by
    by_cases c : j = n
    · subst c; intro q; rw [(e j).2, hh] at q; cases q
    · rw [show (Kn.memK k n m b).p j = k.p j from put_ne _ _ _ _ c]; exact h.nm j hj⟩
theorem KJ.unm (h : KJ X N k) {n : Nat} (hn : n < 20) (hh : (k.p n).has = true) (a m : Int) : KJ X N (unmK k n a m) := by
  unfold unmK
  by_cases c : Mv.unE a m = 0
  · rw [if_pos c]
    have w : Mv.Wld (Mv.unK (k.p n).mem k.bk a m) 20 (Mv.setP (fun n => (k.p n).mem) n (Mv.unM (k.p n).mem a m)) := by
      unfold Mv.unE at c
      unfold Mv.unK Mv.unM
      cases hb : Mv.badB a m
      · obtain ⟨x, j, rfl, rfl, hx, h1, h2⟩ := Mv.bad_no hb
        rw [if_neg (by decide), if_neg (by decide), Int.toNat_natCast, Int.toNat_natCast]
        exact h.me.unmap (i := n) hn j h2
      · rw [hb, if_pos rfl] at c; omega
    refine (h.memK hn hh w).setGr ?_
    obtain ⟨Wy, g⟩ := h.gr
    exact ⟨Wy, unc_tree g _ _ _⟩
  · rw [if_neg c]; exact h
def cloK (k : Kp) (z : Int) : Kp := { k with fi := Fx.cloT k.fi z, fo := Fx.cloF k.fi k.fo z, pi := Fx.cloS k.fi k.pi z }
theorem KJ.clo (h : KJ X N k) (z : Int) : KJ X N (cloK k z) := by
  have key : WX (tabX k) (Fx.cloT k.fi z) (Fx.cloF k.fi k.fo z) (Fx.cloS k.fi k.pi z) ∧ (∀ n, n < 24 → (Fx.cloT k.fi z n).refs ≤ (k.fi n).refs) ∧ Tr.Ok (Fx.cloF k.fi k.fo z) := by
    unfold Fx.cloT Fx.cloF Fx.cloS
    by_cases c : Fx.filE k.fi z = 0
    · obtain ⟨n, rfl, hn, r⟩ := Fx.filE_ok c
      rw [Int.toNat_natCast, if_pos c]
      by_cases d : (k.fi n).refs = 1
      · rw [if_pos d, if_pos ⟨c, d⟩, if_pos ⟨c, d⟩]
        refine ⟨h.wx.gone hn r, fun m _ => ?_, ?_⟩
        · by_cases e : m = n
          · subst e; rw [Fx.put_same]; exact Nat.zero_le _
          · rw [Fx.put_ne _ _ _ _ e]; exact Nat.le_refl _
        · unfold Fx.leF
          split
          · exact h.ok.letT _
          · exact h.ok
      · rw [if_neg d, if_neg (fun e => d e.2), if_neg (fun e => d e.2)]
        refine ⟨h.wx.turn hn r _ (by show (k.fi n).refs - 1 ≠ 0; omega) rfl rfl (h.wx.ps n hn), fun m _ => ?_, h.ok⟩
        by_cases e : m = n
        · subst e; rw [Fx.put_same]; show (k.fi m).refs - 1 ≤ _; omega
        · rw [Fx.put_ne _ _ _ _ e]; exact Nat.le_refl _
    · rw [if_neg c, if_neg (fun e => c e.1), if_neg (fun e => c e.1)]
      exact ⟨h.wx, fun _ _ => Nat.le_refl _, h.ok⟩
  exact ⟨h.sp, h.gr, h.si, h.sy, h.nw, h.me, key.1, fun n hn => Nat.le_trans (key.2.1 n hn) (h.rf n hn), key.2.2, h.tb, h.st, h.hs, h.lv, h.of, h.ht, h.nm⟩
def strF (k : Kp) (n : Nat) (fd : Nat → Int) : Nat → Kp
  | 0 => k
  | j + 1 => if fd j = -1 then strF k n fd j else fdK (cloK (strF k n fd j) (fd j)) n j (-1)
theorem KJ.strF (h : KJ X N k) (n : Nat) (fd : Nat → Int) : ∀ j, KJ X N (strF k n fd j)
  | 0 => h
  | j + 1 => by
    show KJ X N (if fd j = -1 then _ else _)
    split
    · exact h.strF n fd j
    · exact ((h.strF n fd j).clo _).putP rfl rfl rfl
theorem strF_p (k : Kp) (n : Nat) (fd : Nat → Int) : ∀ j m, ((strF k n fd j).p m).st = (k.p m).st ∧ ((strF k n fd j).p m).has = (k.p m).has ∧ ((strF k n fd j).p m).mem = (k.p m).mem ∧ ((strF k n fd j).p m).box = (k.p m).box ∧ ((strF k n fd j).p m).grp = (k.p m).grp ∧ ((strF k n fd j).p m).par = (k.p m).par ∧ ((strF k n fd j).p m).code = (k.p m).code
  | 0, _ => ⟨rfl, rfl, rfl, rfl, rfl, rfl, rfl⟩
  | j + 1, m => by
    have ih := strF_p k n fd j
    show (((if fd j = -1 then Kn.strF k n fd j else fdK (cloK (Kn.strF k n fd j) (fd j)) n j (-1)) : Kp).p m).st = _ ∧ _
    by_cases c : fd j = -1
    · have e : Kn.strF k n fd (j + 1) = Kn.strF k n fd j := if_pos c
      rw [if_pos c, e]; exact ih m
    · have e : Kn.strF k n fd (j + 1) = fdK (cloK (Kn.strF k n fd j) (fd j)) n j (-1) := if_neg c
      rw [if_neg c, e]
      unfold fdK
      by_cases d : m = n
      · subst d
        rw [put_same]
        exact ih m
      · rw [put_ne _ _ _ _ d]
        exact ih m
end
def strK (k : Kp) (n : Nat) (m' : Fa.Fr.M) : Kp :=
  let k1 := strF (unmK k n 0 16) n (k.p n).fd 6
  { k1 with sc := m' }.put n { k1.p n with has := false, mem := Mv.me0, box := Sg.nul }
def StrTo (k : Kp) (n : Nat) (k' : Kp) : Prop := ∃ m', Fa.Fr.DropTo k.sc n m' ∧ k' = strK k n m'
end Kn
end Go.Proofs.YtghogbngmcolmaaGreat
namespace Go.Proofs.YtghogbngmcolmaaGreat
open Go.RowKit
open Tr (Fo Nd)
open Mo (Wh Mt)
open Mv (Me Bk)
open Sg (S1)
open Fx (Fi)
open Pp (Pi)
open Kn (Pr Kp St us KB KJ)
theorem Kn.memK_p (k : Kp) (n : Nat) (m : Me) (b : Bk) : (Kn.memK k n m b).p n = { k.p n with mem := m } := Kn.put_same _ _ _
section
variable (base : Nat) (s : St) (w : World)
set_option maxRecDepth 100000 in
set_option maxHeartbeats 1000000 in
theorem kunmap_any (n : Nat) (a m : Int) (h : KKt w base s) (hn : n < 20) (hh : (s.k.p n).has = true) (C : Mv.Cnt (s.k.p n).mem s.k.bk) (hS : Gr.Small s.k.gr) :
    Calls Tryz.prog 123 #[.pointer (some ⟨s.A 0, 0, none⟩), .pointer (some ⟨s.A 0, n * 12, none⟩), .int .i64 a, .int .i64 m] w fun e w' => e = .returned (errV (Kn.unmE s.k n a m)) ∧ KKt w' base { s with k := Kn.unmK s.k n a m } ∧ KF s w { s with k := Kn.unmK s.k n a m } w' := by
  have c4 := h.cMem n hn hh
  have UM := Hid.intro (vunmap_any (s.A (9 + n)) (s.A 4) (s.A 5) a m (s.k.p n).mem s.k.bk w (h.ub hn hh) C)
  obtain ⟨kb, hkb⟩ : ∃ kb, s.A 0 = kb := ⟨_, rfl⟩
  have HK := Hid.intro hkb
  have H := Hid.intro h
  have HS := Hid.intro hS
  have HH := Hid.intro hh
  rw [hkb] at c4 ⊢
  clear h hS hh C
  by_cases c : Mv.unE a m = 0
  · have E : Hid (Kn.unmE s.k n a m = Gr.uncE s.k.gr (s.k.p n).grp 0 (Mv.unC (s.k.p n).mem a m : Int) ∧ Kn.unmK s.k n a m = { Kn.memK s.k n (Mv.unM (s.k.p n).mem a m) (Mv.unK (s.k.p n).mem s.k.bk a m) with gr := Gr.uncT s.k.gr (s.k.p n).grp 0 (Mv.unC (s.k.p n).mem a m : Int) }) := Hid.intro ⟨if_pos c, if_pos c⟩
    rw [c] at UM
    clear c
    go_enter Tryz.func123, Tryz.ntmps123
    go_wp2_with fail
    refine UM.out.mono ?_
    rintro e w1 ⟨rfl, u1, f1⟩
    have S1 := Hid.intro (H.out.setMB hn HH.out u1 f1)
    clear u1 f1 c4
    rw [errV_zero]
    go_upto_region 4 with fail
    have KF1 : Hid (∀ W, KKt W base { s with k := Kn.memK s.k n (Mv.unM (s.k.p n).mem a m) (Mv.unK (s.k.p n).mem s.k.bk a m) } → W.cell? ⟨kb, 247, none⟩ = some (.pointer (some ⟨s.A 2, 0, none⟩)) ∧ W.cell? ⟨kb, n * 12 + 2, none⟩ = some (.int .i64 (s.k.p n).grp)) := Hid.intro (fun W hW => by
      have e1 := hW.cGr
      have e2 := hW.cGrp n hn
      rw [Kn.memK_p] at e2
      rw [← HK.out]
      exact ⟨e1, e2⟩)
    have K0 := Hid.intro (KF1.out w1 S1.out.1)
    have UC := Hid.intro (Gr.uncharge_any (s.A 2) (s.k.p n).grp 0 (Mv.unC (s.k.p n).mem a m : Int) s.k.gr w1.drew S1.out.1.drew.gr HS.out)
    obtain ⟨gz, hgz⟩ : ∃ gz, (s.k.p n).grp = gz := ⟨_, rfl⟩
    obtain ⟨cz, hcz⟩ : ∃ cz : Int, (Mv.unC (s.k.p n).mem a m : Int) = cz := ⟨_, rfl⟩
    obtain ⟨g2, hg2⟩ : ∃ g2, s.A 2 = g2 := ⟨_, rfl⟩
    rw [hgz, hcz, hg2] at UC
    rw [hgz, hg2] at K0
    rw [hcz]
    have HG := Hid.intro (And.intro hgz (And.intro hcz hg2))
    clear hgz hcz hg2
    obtain ⟨y1, y2⟩ := K0.out
    go_region_held3 (fun w' => w'.cell? ⟨kb, 247, none⟩ = some (.pointer (some ⟨g2, 0, none⟩)) ∧ w'.cell? ⟨kb, n * 12 + 2, none⟩ = some (.int .i64 gz)) (first | exact K0.out | exact K4.out) (
      (go_at_call 33; refine UC.out.mono ?_; rintro e w4 ⟨rfl, t4, f4⟩; have S4 : Hid (KKt w4 base { s with k := Kn.unmK s.k n a m } ∧ KF s w { s with k := Kn.unmK s.k n a m } w4) := Hid.intro (by
          obtain ⟨e1, e2, e3⟩ := HG.out
          rw [← e1, ← e2] at t4
          rw [← e3] at t4 f4
          have q := S1.out.1.drew.setGr t4 f4.std
          rw [E.out.2]
          exact ⟨q.1, S1.out.2.trans ((KF.drew _ _).trans q.2)⟩); have K4 : Hid (w4.cell? ⟨kb, 247, none⟩ = some (.pointer (some ⟨g2, 0, none⟩)) ∧ w4.cell? ⟨kb, n * 12 + 2, none⟩ = some (.int .i64 gz)) := Hid.intro (by
          obtain ⟨e1, e2, e3⟩ := HG.out
          have q1 := S4.out.1.cGr
          have q2 := S4.out.1.cGrp n hn
          rw [E.out.2] at q2
          have q3 : w4.cell? ⟨s.A 0, n * 12 + 2, none⟩ = some (.int .i64 ((Kn.memK s.k n (Mv.unM (s.k.p n).mem a m) (Mv.unK (s.k.p n).mem s.k.bk a m)).p n).grp) := q2
          rw [Kn.memK_p] at q3
          rw [← HK.out, ← e1, ← e3]
          exact ⟨q1, q3⟩); clear t4 f4))
    go_wp2_with fail
    go_ret
    obtain ⟨e1, e2, e3⟩ := HG.out
    rw [E.out.1, e1, e2]
    exact ⟨rfl, S4.out⟩
  · have E : Hid (Kn.unmE s.k n a m = Mv.unE a m ∧ Kn.unmK s.k n a m = s.k) := Hid.intro ⟨if_neg c, if_neg c⟩
    have E2 := Hid.intro (errV_ne c)
    have M0 : Hid (Mv.unM (s.k.p n).mem a m = (s.k.p n).mem ∧ Mv.unK (s.k.p n).mem s.k.bk a m = s.k.bk) := Hid.intro (by
      unfold Mv.unE at c
      unfold Mv.unM Mv.unK
      cases hb : Mv.badB a m
      · rw [hb, if_neg (by decide)] at c; exact absurd rfl c
      · rw [if_pos rfl, if_pos rfl]; exact ⟨rfl, rfl⟩)
    clear c
    go_enter Tryz.func123, Tryz.ntmps123
    go_wp2_with fail
    refine UM.out.mono ?_
    rintro e w1 ⟨rfl, u1, f1⟩
    have S1 : Hid (KKt w1 base s ∧ KF s w s w1) := Hid.intro (by
      rw [M0.out.1, M0.out.2] at u1
      have q := H.out.setMB hn HH.out u1 f1
      have e : ({ s with k := Kn.memK s.k n (s.k.p n).mem s.k.bk } : St) = s := by
        have : Kn.memK s.k n (s.k.p n).mem s.k.bk = s.k := by
          unfold Kn.memK Kp.put
          have : (fun m => if m = n then { s.k.p n with mem := (s.k.p n).mem } else s.k.p m) = s.k.p := funext fun m => by
            by_cases c : m = n
            · rw [if_pos c, c]
            · rw [if_neg c]
          rw [this]
        rw [this]
      rw [e] at q
      exact q)
    clear u1 f1 c4
    rw [E2.out]
    generalize (Mv.unC (s.k.p n).mem a m : Int) = cz
    go_wp2_with fail
    go_ret
    rw [E.out.1, E.out.2, E2.out]
    exact ⟨rfl, S1.out⟩
end
end Go.Proofs.YtghogbngmcolmaaGreat
namespace Go.Proofs.YtghogbngmcolmaaGreat
open Go.RowKit
open Tr (Fo Nd)
open Mo (Wh Mt)
open Mv (Me Bk)
open Sg (S1)
open Fx (Fi)
open Pp (Pi)
open Kn (Pr Kp St us KB KJ)
def fdA (f : Nat → Int) : Array Value := ((List.range 6).map fun i => Value.int .i64 (f i)).toArray
theorem fdA_size (f : Nat → Int) : (fdA f).size = 6 := by simp [fdA]
theorem fdA_at (f : Nat → Int) (i : Nat) (h : i < 6) : (fdA f)[i]? = some (.int .i64 (f i)) := by simp [fdA, h]
theorem index_fd (f : Nat → Int) (x : Nat) (h : x < 6) (w : World) : Sem.run Tryz.prog (Instr.index 63 (Value.agg (fdA f)) (Value.int IntKind.i64 x)) w = .ok (.int .i64 (f x)) w := by
  have hu : Tryz.prog.underlying 63 = some (.array 6 3) := by kernel_rfl
  have h1 : (x : Int) < 6 := by omega
  simp [Instr.index, Sem.run_bind, run_underlying hu, go_sem]
  rw [if_pos h, fdA_at f x h]
  rfl
theorem KKt.fds {w : World} {base : Nat} {s : St} (h : KKt w base s) {n : Nat} (hn : n < 20) (j : Nat) (hj : j < (fdA (s.k.p n).fd).size) : w.cell? ⟨s.A 0, n * 12 + 6 + j, none⟩ = (fdA (s.k.p n).fd)[j]? := by
  rw [fdA_size] at hj
  rw [fdA_at _ j hj]
  exact h.cFd n j hn hj
namespace Kn
theorem unmK_p (k : Kp) (n : Nat) (a m : Int) (j : Nat) : ((unmK k n a m).p j).fd = (k.p j).fd ∧ ((unmK k n a m).p j).has = (k.p j).has ∧ ((unmK k n a m).p j).st = (k.p j).st ∧ ((unmK k n a m).p j).box = (k.p j).box ∧ ((unmK k n a m).p j).grp = (k.p j).grp ∧ ((unmK k n a m).p j).par = (k.p j).par ∧ ((unmK k n a m).p j).code = (k.p j).code := by
  have key : ∀ (x : Me) (b : Bk), ((memK k n x b).p j).fd = (k.p j).fd ∧ ((memK k n x b).p j).has = (k.p j).has ∧ ((memK k n x b).p j).st = (k.p j).st ∧ ((memK k n x b).p j).box = (k.p j).box ∧ ((memK k n x b).p j).grp = (k.p j).grp ∧ ((memK k n x b).p j).par = (k.p j).par ∧ ((memK k n x b).p j).code = (k.p j).code := fun x b => by
    by_cases c : j = n
    · subst c
      rw [memK_p]
      exact ⟨rfl, rfl, rfl, rfl, rfl, rfl, rfl⟩
    · rw [show (memK k n x b).p j = k.p j from put_ne _ _ _ _ c]
      exact ⟨rfl, rfl, rfl, rfl, rfl, rfl, rfl⟩
  unfold unmK
  split
  · exact key _ (Mv.unK (k.p n).mem k.bk a m)
  · exact ⟨rfl, rfl, rfl, rfl, rfl, rfl, rfl⟩
theorem unmK_sc (k : Kp) (n : Nat) (a m : Int) : (unmK k n a m).sc = k.sc := by unfold unmK; split <;> rfl
theorem strF_sc (k : Kp) (n : Nat) (fd : Nat → Int) : ∀ j, (strF k n fd j).sc = k.sc
  | 0 => rfl
  | j + 1 => by
    show (if fd j = -1 then _ else _ : Kp).sc = _
    split
    · exact strF_sc k n fd j
    · exact strF_sc k n fd j
end Kn
theorem KKt.bare {w : World} {base : Nat} {s : St} (h : KKt w base s) {n : Nat} (hn : n < 20) (m : Me) (X : Nat → S1) (hm : (s.k.p n).has = true) :
    KKt ((w.setCell ⟨s.A 0, n * 12 + 4, none⟩ (.pointer none)).setCell ⟨s.A 0, n * 12 + 5, none⟩ (.pointer none)) base { s with k := s.k.put n { s.k.p n with has := false, mem := m, box := X } } ∧
      KF s w { s with k := s.k.put n { s.k.p n with has := false, mem := m, box := X } } ((w.setCell ⟨s.A 0, n * 12 + 4, none⟩ (.pointer none)).setCell ⟨s.A 0, n * 12 + 5, none⟩ (.pointer none)) := by
  obtain ⟨C, e, sz⟩ := h.ker
  have f : Frm (s.A 0) w ((w.setCell ⟨s.A 0, n * 12 + 4, none⟩ (.pointer none)).setCell ⟨s.A 0, n * 12 + 5, none⟩ (.pointer none)) := ((Frm.refl _ _).setCell _ _).setCell _ _
  have e1 := blk_set e (n * 12 + 4) (.pointer none)
  have o := h.others (us9 (by omega)) f
  have hp : ∀ j, ((s.k.put n { s.k.p n with has := false, mem := m, box := X }).p j).has = true → j ≠ n ∧ (s.k.put n { s.k.p n with has := false, mem := m, box := X }).p j = s.k.p j := fun j hj => by
    by_cases c : j = n
    · subst c; rw [Kn.put_same] at hj; cases hj
    · exact ⟨c, Kn.put_ne _ _ _ _ c⟩
  have pu : ∀ i, us { s with k := s.k.put n { s.k.p n with has := false, mem := m, box := X } } i → us s i := fun i hi => by
    rcases hi with hi | ⟨h1, h2, h3⟩ | ⟨h1, h2, h3⟩ | hi | hi
    · exact .inl hi
    · have q := hp _ h3
      have h4 : ((s.k.put n { s.k.p n with has := false, mem := m, box := X }).p (i - 9)).has = true := h3
      rw [q.2] at h4
      exact .inr (.inl ⟨h1, h2, h4⟩)
    · have q := hp _ h3
      have h4 : ((s.k.put n { s.k.p n with has := false, mem := m, box := X }).p (i - 29)).has = true := h3
      rw [q.2] at h4
      exact .inr (.inr (.inl ⟨h1, h2, h4⟩))
    · exact .inr (.inr (.inr (.inl hi)))
    · exact .inr (.inr (.inr (.inr hi)))
  refine ⟨⟨⟨_, blk_set e1 _ _, by simpa using sz⟩, fun x hx => ?_, h.sp.same (o 1 (us9 (by omega)) (by omega)), (o 2 (us9 (by omega)) (by omega)).trans h.gr, h.sc.same (o 3 (us9 (by omega)) (by omega)), h.bk.same (o 4 (us9 (by omega)) (by omega)) (o 5 (us9 (by omega)) (by omega)), h.fi.same (o 8 (us9 (by omega)) (by omega)), h.fo.same (o 6 (us9 (by omega)) (by omega)), h.pi.same (o 7 (us9 (by omega)) (by omega)),
    fun j hj jh => ?_, fun j hj jh => ?_,
    fun n hn hh => (h.tb n hn hh).same (o _ (Kn.us_t hn hh) (by omega)) (fun g eg => by have := o _ (Kn.us_r hn hh eg) (by omega); rwa [h.ro n hn hh g eg] at this), h.ro, fun i j hi hj => h.inj i j (pu i hi) (pu j hj), fun i hi => h.low i (pu i hi)⟩, KF.one _ (us9 (by omega)) f rfl pu⟩
  · rw [Kn.kc_put]
    by_cases c5 : x = n * 12 + 5
    · subst c5
      rw [cell_set_same e1 _ _ (by simp; omega), if_pos ⟨by omega, by omega⟩, show (n * 12 + 5) % 12 = 5 by omega]; rfl
    · rw [cell_set_ne e1 _ _ _ (Ne.symm c5)]
      by_cases c4 : x = n * 12 + 4
      · subst c4
        rw [cell_set_same e _ _ (by omega), if_pos ⟨by omega, by omega⟩, show (n * 12 + 4) % 12 = 4 by omega]; rfl
      · rw [cell_set_ne e _ _ _ (Ne.symm c4), h.cel x hx]
        by_cases d : x < 240 ∧ x / 12 = n
        · rw [if_pos d]
          unfold Kn.kc Kn.pc Kn.pcx
          rw [if_pos d.1, d.2, if_neg (show ¬ x % 12 = 4 by omega), if_neg (show ¬ x % 12 = 5 by omega), if_neg (show ¬ x % 12 = 4 by omega), if_neg (show ¬ x % 12 = 5 by omega)]
        · rw [if_neg d]
  · have q := hp j jh
    rw [q.2] at jh ⊢
    exact (h.me j hj jh).same (o _ (Kn.us_m hj jh) (by omega))
  · have q := hp j jh
    rw [q.2] at jh ⊢
    exact (h.bx j hj jh).same (o _ (Kn.us_b hj jh) (by omega))
section
variable (base : Nat) (s : St) (w : World) (X : Nat → Prop) (N : Nat)
set_option maxRecDepth 100000 in
set_option maxHeartbeats 2000000 in
theorem kstrip_any (n : Nat) (h : KKt w base s) (hj : KJ X N s.k) (hN : N ≤ 900) (hn : n < 20) (hh : (s.k.p n).has = true) :
    Calls Tryz.prog 77 #[.pointer (some ⟨s.A 0, 0, none⟩), .int .i64 n] w fun e w' => ∃ k', e = .returned (.tuple #[]) ∧ Kn.StrTo s.k n k' ∧ KKt w' base { s with k := k' } ∧ KF s w { s with k := k' } w' := by
  have hnI : (n : Int) < 20 := by omega
  have UM := Hid.intro (kunmap_any base s w n 0 16 h hn hh (hj.me.cnt (i := n) hn) (by obtain ⟨Wy, g⟩ := hj.gr; exact g.small (by omega)))
  obtain ⟨kb, hkb⟩ : ∃ kb, s.A 0 = kb := ⟨_, rfl⟩
  have HK := Hid.intro hkb
  have HJ := Hid.intro (hj.unm hn hh 0 16)
  have HH := Hid.intro hh
  have HN := Hid.intro hN
  rw [hkb] at UM ⊢
  clear h hj hh
  go_enter Tryz.func77, Tryz.ntmps77
  go_wp2_with fail
  refine UM.out.mono ?_
  rintro e w1 ⟨rfl, k1, f1⟩
  generalize errV (Kn.unmE s.k n 0 16) = ev
  have S1 := Hid.intro (And.intro k1 f1)
  clear k1 f1 hN
  have FD : Hid (((Kn.unmK s.k n 0 16).p n).fd = (s.k.p n).fd) := Hid.intro (Kn.unmK_p s.k n 0 16 n).1
  obtain ⟨fd, hfd⟩ : ∃ fd, (s.k.p n).fd = fd := ⟨_, rfl⟩
  have HFD := Hid.intro hfd
  have LD : Hid (∀ j, j < (fdA fd).size → w1.cell? ⟨kb, n * 12 + 6 + j, none⟩ = (fdA fd)[j]?) := Hid.intro (fun j hj => by
    have q := S1.out.1.fds hn j (by rw [FD.out, hfd]; exact hj)
    rw [FD.out, hfd] at q
    rw [← HK.out]; exact q)
  have hsz : Hid ((Tryz.prog.info? 63).map (·.size) = some (fdA fd).size) := Hid.intro (by rw [fdA_size]; kernel_rfl)
  clear hfd
  go_wp2_with (refine wpList_load_at rfl 63 _ rfl kb (n * 12 + 6) rfl (fdA fd) 6 3 LD.out (by kernel_rfl) hsz.out ?_)
  go_loopw [5, 6, 19] (fun _ _ i wr => ∃ (j : Nat), i = .int .i64 j ∧ j ≤ 6 ∧ Hid (KKt wr base { s with k := Kn.strF (Kn.unmK s.k n 0 16) n fd j } ∧ KF s w { s with k := Kn.strF (Kn.unmK s.k n 0 16) n fd j } wr)) (fun _ _ i _ => 6 - (intOf i).toNat)
  case atStart => exact ⟨0, rfl, by omega, S1⟩
  case round =>
    clear S1 LD
    obtain ⟨j, rfl, hj6, S⟩ := hrel
    have JJ := Hid.intro (HJ.out.strF n fd j)
    by_cases hlt : j < 6
    · have hltI : (j : Int) < 6 := by omega
      have hix := index_fd fd j hlt wr
      have SU : Hid (Kn.strF (Kn.unmK s.k n 0 16) n fd (j + 1) = if fd j = -1 then Kn.strF (Kn.unmK s.k n 0 16) n fd j else Kn.fdK (Kn.cloK (Kn.strF (Kn.unmK s.k n 0 16) n fd j) (fd j)) n j (-1)) := Hid.intro rfl
      generalize Kn.strF (Kn.unmK s.k n 0 16) n fd j = kj at *
      obtain ⟨z, hz⟩ : ∃ z, fd j = z := ⟨_, rfl⟩
      rw [hz] at SU hix
      clear hz
      by_cases hz1 : z = -1
      · subst hz1
        rw [if_pos rfl] at SU
        go_wp2_with fail
        go_roundw
        case rel => exact ⟨j + 1, by go_num, by omega, by rw [SU.out]; exact S⟩
        case measure => simp [intOf]; omega
      · have z1 : (z == -1) = false := by simpa using hz1
        rw [if_neg hz1] at SU
        have cF := S.out.1.cFi
        rw [show ({ s with k := kj } : St).A 0 = kb from HK.out] at cF
        have CL := Hid.intro (xclose_any (s.A 8) (s.A 6) (s.A 7) z kj.fi kj.fo kj.pi wr S.out.1.fx JJ.out.sm (fun m hm => by have := JJ.out.rf m hm; have := HN.out; omega))
        obtain ⟨f8, hf8⟩ : ∃ f8, s.A 8 = f8 := ⟨_, rfl⟩
        have H8 := Hid.intro hf8
        rw [show ({ s with k := kj } : St).A 8 = f8 from hf8] at cF
        rw [hf8] at CL
        clear hf8
        clear hz1
        go_wp2_with fail
        refine CL.out.mono ?_
        rintro e w2 ⟨rfl, u2, f2⟩
        generalize errV (Fx.filE kj.fi z) = ev2
        have S2 : Hid (KKt w2 base { s with k := Kn.cloK kj z } ∧ KF s w { s with k := Kn.cloK kj z } w2) := Hid.intro (by
          rw [← H8.out] at u2 f2
          have q := S.out.1.setFX u2 f2
          exact ⟨q.1, S.out.2.trans q.2⟩)
        clear u2 f2 cF
        have c6 := S2.out.1.cFd n j hn hlt
        rw [show ({ s with k := Kn.cloK kj z } : St).A 0 = kb from HK.out] at c6
        have fz := S2.out.1.frozen
        rw [show ({ s with k := Kn.cloK kj z } : St).A 0 = kb from HK.out] at fz
        have S3 : Hid (KKt (w2.setCell ⟨kb, n * 12 + 6 + j, none⟩ (.int .i64 (-1))) base { s with k := Kn.strF (Kn.unmK s.k n 0 16) n fd (j + 1) } ∧ KF s w { s with k := Kn.strF (Kn.unmK s.k n 0 16) n fd (j + 1) } (w2.setCell ⟨kb, n * 12 + 6 + j, none⟩ (.int .i64 (-1)))) := Hid.intro (by
          have q := S2.out.1.setFd hn hlt (-1)
          rw [show ({ s with k := Kn.cloK kj z } : St).A 0 = kb from HK.out] at q
          rw [SU.out]
          exact ⟨q.1, S2.out.2.trans q.2⟩)
        generalize ((({ s with k := Kn.cloK kj z } : St).k.p n).fd j) = zz at *
        go_wp2_with fail
        go_roundw
        case rel => exact ⟨j + 1, by go_num, by omega, S3⟩
        case measure => simp [intOf]; omega
    · obtain rfl : j = 6 := by omega
      have hltI : ¬ ((6 : Nat) : Int) < 6 := by omega
      have SC : Hid ((Kn.strF (Kn.unmK s.k n 0 16) n fd 6).sc = s.k.sc) := Hid.intro (by rw [Kn.strF_sc, Kn.unmK_sc])
      have PH : Hid (((Kn.strF (Kn.unmK s.k n 0 16) n fd 6).p n).has = true) := Hid.intro (by rw [(Kn.strF_p _ n fd 6 n).2.1, (Kn.unmK_p s.k n 0 16 n).2.1]; exact HH.out)
      have SK : Hid (∀ m', Kn.strK s.k n m' = ({ Kn.strF (Kn.unmK s.k n 0 16) n fd 6 with sc := m' }).put n { (Kn.strF (Kn.unmK s.k n 0 16) n fd 6).p n with has := false, mem := Mv.me0, box := Sg.nul }) := Hid.intro (fun m' => by unfold Kn.strK; rw [HFD.out])
      generalize Kn.strF (Kn.unmK s.k n 0 16) n fd 6 = kj at *
      have cS := S.out.1.cSc
      rw [show ({ s with k := kj } : St).A 0 = kb from HK.out] at cS
      have DT := Hid.intro (Fa.dropTask_any (s.A 3) (n : Int) kj.sc wr S.out.1.sc JJ.out.si JJ.out.sy)
      obtain ⟨f3, hf3⟩ : ∃ f3, s.A 3 = f3 := ⟨_, rfl⟩
      have H3 := Hid.intro hf3
      rw [show ({ s with k := kj } : St).A 3 = f3 from hf3] at cS
      rw [hf3] at DT
      clear hf3
      go_wp2_with fail
      refine DT.out.mono ?_
      rintro e w2 ⟨rfl, m', d2, u2, f2⟩
      generalize Fa.errV (Fa.Fr.taskE kj.sc (n : Int)) = ev2
      have S2 : Hid (KKt w2 base { s with k := { kj with sc := m' } } ∧ KF s w { s with k := { kj with sc := m' } } w2) := Hid.intro (by
        rw [← H3.out] at u2 f2
        have q := S.out.1.setSc u2 f2.std
        exact ⟨q.1, S.out.2.trans q.2⟩)
      have D2 := Hid.intro d2
      clear u2 f2 d2 cS
      have c4 := S2.out.1.cMem n hn PH.out
      have c5 := S2.out.1.cBox n hn PH.out
      have fz := S2.out.1.frozen
      rw [show ({ s with k := { kj with sc := m' } } : St).A 0 = kb from HK.out] at c4 c5 fz
      have FIN : Hid (KKt ((w2.setCell ⟨kb, n * 12 + 4, none⟩ (.pointer none)).setCell ⟨kb, n * 12 + 5, none⟩ (.pointer none)) base { s with k := Kn.strK s.k n m' } ∧ KF s w { s with k := Kn.strK s.k n m' } ((w2.setCell ⟨kb, n * 12 + 4, none⟩ (.pointer none)).setCell ⟨kb, n * 12 + 5, none⟩ (.pointer none))) := Hid.intro (by
        have q := S2.out.1.bare hn Mv.me0 Sg.nul PH.out
        rw [show ({ s with k := { kj with sc := m' } } : St).A 0 = kb from HK.out] at q
        rw [SK.out m']
        exact ⟨q.1, S2.out.2.trans q.2⟩)
      go_wp2_with fail
      go_end0
      exact ⟨_, rfl, ⟨m', by rw [← SC.out]; exact D2.out, rfl⟩, FIN.out⟩
end
end Go.Proofs.YtghogbngmcolmaaGreat

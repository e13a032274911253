/- FilesSays, plain: what stays true of open files, their forest and their pipes. -/
import Derived.Test.YtmneolabgajhmaaGreatXe
import Derived.Test.YtmneolabgajhmaaGreatYa
import Derived.Test.YtmneolabgajhmaaGreatPn
namespace Go.Proofs.YtmneolabgajhmaaGreat
open Go.RowKit
open Fx (Fi)
open Tr (Fo Nd)
open Pp (Pi)

/-- How many open files are of a kind, of a number. -/
def Fx.hit (x : Fi) (k m : Nat) : Nat := if x.refs ≠ 0 ∧ x.kind = k ∧ x.num = m then 1 else 0
def Fx.cK (T : Nat → Fi) (k m : Nat) : Nat → Nat
  | 0 => 0
  | n + 1 => Fx.cK T k m n + Fx.hit (T n) k m
theorem Fx.cK_put (T : Nat → Fi) (n : Nat) (x : Fi) (k m : Nat) : ∀ N, Fx.cK (Fx.put T n x) k m N + (if n < N then Fx.hit (T n) k m else 0) = Fx.cK T k m N + (if n < N then Fx.hit x k m else 0)
  | 0 => by rw [if_neg (Nat.not_lt_zero n), if_neg (Nat.not_lt_zero n)]; rfl
  | N + 1 => by
    have ih := Fx.cK_put T n x k m N
    show Fx.cK (Fx.put T n x) k m N + Fx.hit (Fx.put T n x N) k m + _ = Fx.cK T k m N + Fx.hit (T N) k m + _
    by_cases c : N = n
    · subst c
      rw [Fx.put_same, if_pos (Nat.lt_succ_self N), if_pos (Nat.lt_succ_self N)]
      rw [if_neg (Nat.lt_irrefl N), if_neg (Nat.lt_irrefl N)] at ih
      omega
    · rw [Fx.put_ne _ _ _ _ c]
      by_cases d : n < N
      · rw [if_pos (by omega), if_pos (by omega)]
        rw [if_pos d, if_pos d] at ih
        omega
      · rw [if_neg (by omega), if_neg (by omega)]
        rw [if_neg d, if_neg d] at ih
        omega
theorem Fx.cK_at (T : Nat → Fi) {n : Nat} (x : Fi) (k m : Nat) (hn : n < 24) : Fx.cK (Fx.put T n x) k m 24 + Fx.hit (T n) k m = Fx.cK T k m 24 + Fx.hit x k m := by
  have := Fx.cK_put T n x k m 24
  rw [if_pos hn, if_pos hn] at this
  exact this
theorem Fx.hit_le (x : Fi) (k m : Nat) : Fx.hit x k m ≤ 1 := by unfold Fx.hit; split <;> omega
theorem Fx.hit_no (k m : Nat) : Fx.hit Fi.no k m = 0 := if_neg (fun d => d.1 rfl)
theorem Fx.hit_zero {x : Fi} (h : x.refs = 0) (k m : Nat) : Fx.hit x k m = 0 := if_neg (fun d => d.1 h)
theorem Fx.hit_one {x : Fi} (h : x.refs ≠ 0) : Fx.hit x x.kind x.num = 1 := if_pos ⟨h, rfl, rfl⟩
theorem Fx.hit_pos {x : Fi} {k m : Nat} (h : Fx.hit x k m ≠ 0) : x.refs ≠ 0 ∧ x.kind = k ∧ x.num = m := by
  unfold Fx.hit at h
  by_cases c : x.refs ≠ 0 ∧ x.kind = k ∧ x.num = m
  · exact c
  · rw [if_neg c] at h; exact absurd rfl h
theorem Fx.hit_refs {x y : Fi} (h1 : x.refs ≠ 0) (h2 : y.refs ≠ 0) (hk : x.kind = y.kind) (hn : x.num = y.num) (k m : Nat) : Fx.hit x k m = Fx.hit y k m := by
  unfold Fx.hit
  rw [hk, hn]
  by_cases c : y.kind = k ∧ y.num = m
  · rw [if_pos ⟨h1, c⟩, if_pos ⟨h2, c⟩]
  · rw [if_neg (fun d => c d.2), if_neg (fun d => c d.2)]
theorem Fx.cK_ge {T : Nat → Fi} {k m : Nat} : ∀ {N n : Nat}, n < N → Fx.hit (T n) k m ≤ Fx.cK T k m N
  | 0, n, h => absurd h (Nat.not_lt_zero n)
  | N + 1, n, h => by
    show _ ≤ Fx.cK T k m N + Fx.hit (T N) k m
    by_cases c : n = N
    · subst c; omega
    · have := Fx.cK_ge (T := T) (k := k) (m := m) (N := N) (n := n) (by omega)
      omega
theorem Fx.cK_le (T : Nat → Fi) (k m : Nat) : ∀ N, Fx.cK T k m N ≤ N
  | 0 => Nat.le_refl 0
  | N + 1 => by
    have := Fx.cK_le T k m N
    have := Fx.hit_le (T N) k m
    show Fx.cK T k m N + Fx.hit (T N) k m ≤ N + 1
    omega
/-- What stays true. -/
structure WI (T : Nat → Fi) (F : Fo) (S : Nat → Pi) : Prop where
  no : ∀ n, n < 24 → (T n).refs = 0 → T n = Fi.no
  kd : ∀ n, n < 24 → (T n).refs ≠ 0 → (T n).kind = 1 ∨ (T n).kind = 2 ∨ (T n).kind = 3
  nd : ∀ n, n < 24 → (T n).refs ≠ 0 → (T n).kind = 1 → (T n).num < 40 ∧ (F.nd (T n).num).kind = 1
  pn : ∀ n, n < 24 → (T n).refs ≠ 0 → (T n).kind ≠ 1 → (T n).num < 8
  ps : ∀ n, n < 24 → (T n).pos ≤ 40
  hl : ∀ m, m < 40 → (F.nd m).held = Fx.cK T 1 m 24
  z0 : ∀ m, m < 40 → (F.nd m).kind = 0 → (F.nd m).held = 0
  rd : ∀ m, m < 8 → (S m).reads = Fx.cK T 2 m 24
  wt : ∀ m, m < 8 → (S m).writes = Fx.cK T 3 m 24
section
variable {T : Nat → Fi} {F G : Fo} {S : Nat → Pi}
theorem WI.sm (h : WI T F S) : Fx.Sm F S := by
  have p : 24 < 2 ^ 60 := by decide
  refine ⟨fun n hn => ?_, fun wr n hn => ?_⟩
  · rw [h.hl n hn]; have := Fx.cK_le T 1 n 24; omega
  · unfold Pp.tim
    cases wr
    · show (S n).reads < _; rw [h.rd n hn]; have := Fx.cK_le T 2 n 24; omega
    · show (S n).writes < _; rw [h.wt n hn]; have := Fx.cK_le T 3 n 24; omega
theorem WI.pz (h : WI T F S) : Fx.Pz T := fun n hn => by
  have p : 40 < 2 ^ 60 := by decide
  have := h.ps n hn
  omega
/-- Nothing is refused where an open file is let go. -/
theorem WI.letE (h : WI T F S) {n : Nat} (hn : n < 24) (r : (T n).refs ≠ 0) (k : (T n).kind = 1) : Tr.letE F ((T n).num : Int) = 0 := by
  obtain ⟨a, b⟩ := h.nd n hn r k
  have c := h.hl _ a
  have d := Fx.cK_ge (T := T) (k := 1) (m := (T n).num) hn
  have e := Fx.hit_one r
  rw [k] at e
  have z : Tr.nodeE F ((T n).num : Int) = 0 := by
    unfold Tr.nodeE
    rw [Int.toNat_natCast, if_neg (by omega), if_neg (by omega)]
  unfold Tr.letE
  rw [if_pos z, Int.toNat_natCast, if_neg (by omega)]
theorem WI.opE (h : WI T F S) {n : Nat} (hn : n < 24) (r : (T n).refs ≠ 0) (k : (T n).kind ≠ 1) : Pp.opE S ((T n).num : Int) (decide ((T n).kind = 3)) = 0 := by
  have a := h.pn n hn r k
  have e := Fx.hit_one r
  have tm : Pp.tim (S (T n).num) (decide ((T n).kind = 3)) ≠ 0 := by
    unfold Pp.tim
    rcases h.kd n hn r with c | c | c
    · exact absurd c k
    · rw [c]
      show (S (T n).num).reads ≠ 0
      rw [h.rd _ a]
      have d := Fx.cK_ge (T := T) (k := 2) (m := (T n).num) hn
      rw [c] at e
      omega
    · rw [c]
      show (S (T n).num).writes ≠ 0
      rw [h.wt _ a]
      have d := Fx.cK_ge (T := T) (k := 3) (m := (T n).num) hn
      rw [c] at e
      omega
  have th : Pp.thr (S (T n).num) = true := by
    unfold Pp.thr
    apply decide_eq_true
    unfold Pp.tim at tm
    by_cases c : (S (T n).num).reads = 0
    · right
      by_cases d : decide ((T n).kind = 3) = true
      · rw [if_pos d] at tm; omega
      · rw [if_neg d] at tm; exact absurd c tm
    · left; omega
  have z : Pp.pipE S ((T n).num : Int) = 0 := by
    unfold Pp.pipE
    rw [Int.toNat_natCast, if_neg (by omega), if_pos th]
  unfold Pp.opE
  rw [z, if_neg (fun d => d rfl), Int.toNat_natCast, if_neg tm]
/-- The same of a forest that has the same holders, and the same files. -/
theorem WI.forest (h : WI T F S) (hh : ∀ m, m < 40 → (G.nd m).held = (F.nd m).held) (hk : ∀ m, m < 40 → (F.nd m).held ≠ 0 → (G.nd m).kind = (F.nd m).kind) (hz : ∀ m, m < 40 → (G.nd m).kind = 0 → (G.nd m).held = 0) : WI T G S := by
  refine ⟨h.no, h.kd, fun n hn r k => ?_, h.pn, h.ps, fun m hm => (hh m hm).trans (h.hl m hm), hz, h.rd, h.wt⟩
  obtain ⟨a, b⟩ := h.nd n hn r k
  refine ⟨a, ?_⟩
  rw [hk _ a ?_]
  · exact b
  · rw [h.hl _ a]
    have d := Fx.cK_ge (T := T) (k := 1) (m := (T n).num) hn
    have e := Fx.hit_one r
    rw [k] at e
    omega
theorem WI.pipes (h : WI T F S) {R : Nat → Pi} (h1 : ∀ m, m < 8 → (R m).reads = (S m).reads ∧ (R m).writes = (S m).writes) : WI T F R :=
  ⟨h.no, h.kd, h.nd, h.pn, h.ps, h.hl, h.z0, fun m hm => (h1 m hm).1.trans (h.rd m hm), fun m hm => (h1 m hm).2.trans (h.wt m hm)⟩
/-- An open file turns, and stays of what it is. -/
theorem WI.turn (h : WI T F S) {n : Nat} (hn : n < 24) (r : (T n).refs ≠ 0) (x : Fi) (h1 : x.refs ≠ 0) (h2 : x.kind = (T n).kind) (h3 : x.num = (T n).num) (h4 : x.pos ≤ 40) : WI (Fx.put T n x) F S := by
  have cc : ∀ k m, Fx.cK (Fx.put T n x) k m 24 = Fx.cK T k m 24 := fun k m => by
    have := Fx.cK_at T x k m hn
    rw [Fx.hit_refs h1 r h2 h3] at this
    omega
  refine ⟨fun m hm e => ?_, fun m hm e => ?_, fun m hm e k => ?_, fun m hm e k => ?_, fun m hm => ?_, fun m hm => (h.hl m hm).trans (cc 1 m).symm, h.z0, fun m hm => (h.rd m hm).trans (cc 2 m).symm, fun m hm => (h.wt m hm).trans (cc 3 m).symm⟩
  · by_cases c : m = n
    · subst c; rw [Fx.put_same] at e; exact absurd e h1
    · rw [Fx.put_ne _ _ _ _ c] at e ⊢; exact h.no m hm e
  · by_cases c : m = n
    · subst c; rw [Fx.put_same, h2]; exact h.kd m hm r
    · rw [Fx.put_ne _ _ _ _ c] at e ⊢; exact h.kd m hm e
  · by_cases c : m = n
    · subst c; rw [Fx.put_same] at k ⊢; rw [h3]; exact h.nd m hm r (by rw [← h2]; exact k)
    · rw [Fx.put_ne _ _ _ _ c] at e k ⊢; exact h.nd m hm e k
  · by_cases c : m = n
    · subst c; rw [Fx.put_same] at k ⊢; rw [h3]; exact h.pn m hm r (by rw [← h2]; exact k)
    · rw [Fx.put_ne _ _ _ _ c] at e k ⊢; exact h.pn m hm e k
  · by_cases c : m = n
    · subst c; rw [Fx.put_same]; exact h4
    · rw [Fx.put_ne _ _ _ _ c]; exact h.ps m hm
/-- A file is opened, of a node. -/
theorem WI.node (h : WI T F S) {K z : Nat} {wr : Bool} (hl : Fx.Low T K) (hz : Tr.isE F (z : Int) 1 = 0) : WI (Fx.put T K ⟨1, z, wr, 0, 1⟩) (Tr.hol F (z : Int)) S := by
  obtain ⟨n, e, n40, _, k1⟩ := Tr.isE_ok hz
  obtain rfl : z = n := by omega
  have ne : Tr.nodeE F (z : Int) = 0 := by
    unfold Tr.nodeE
    rw [Int.toNat_natCast, if_neg (by omega), if_neg (by omega)]
  have eh : Tr.hol F (z : Int) = F.put z { F.nd z with held := (F.nd z).held + 1 } := by unfold Tr.hol; rw [if_pos ne, Int.toNat_natCast]
  have cc : ∀ k m, Fx.cK (Fx.put T K ⟨1, z, wr, 0, 1⟩) k m 24 = Fx.cK T k m 24 + if k = 1 ∧ m = z then 1 else 0 := fun k m => by
    have := Fx.cK_at T ⟨1, z, wr, 0, 1⟩ k m hl.1
    rw [Fx.hit_zero hl.2.1] at this
    have e2 : Fx.hit ⟨1, z, wr, 0, 1⟩ k m = if k = 1 ∧ m = z then 1 else 0 := by
      unfold Fx.hit
      by_cases c : k = 1 ∧ m = z
      · rw [if_pos c, if_pos ⟨Nat.succ_ne_zero 0, c.1.symm, c.2.symm⟩]
      · rw [if_neg c, if_neg (fun d => c ⟨d.2.1.symm, d.2.2.symm⟩)]
    rw [e2] at this
    omega
  have kk : ∀ m, ((F.put z { F.nd z with held := (F.nd z).held + 1 }).nd m).kind = (F.nd m).kind := fun m => by
    by_cases c : m = z
    · subst c; rw [Tr.put_same]
    · rw [Tr.put_ne _ _ _ _ c]
  rw [eh]
  refine ⟨fun m hm e => ?_, fun m hm e => ?_, fun m hm e k => ?_, fun m hm e k => ?_, fun m hm => ?_, fun m hm => ?_, fun m hm e => ?_, fun m hm => ?_, fun m hm => ?_⟩
  · by_cases c : m = K
    · subst c; rw [Fx.put_same] at e; exact absurd e (Nat.succ_ne_zero 0)
    · rw [Fx.put_ne _ _ _ _ c] at e ⊢; exact h.no m hm e
  · by_cases c : m = K
    · subst c; rw [Fx.put_same]; exact .inl rfl
    · rw [Fx.put_ne _ _ _ _ c] at e ⊢; exact h.kd m hm e
  · rw [kk]
    by_cases c : m = K
    · subst c; rw [Fx.put_same]; exact ⟨n40, k1⟩
    · rw [Fx.put_ne _ _ _ _ c] at e k ⊢; exact h.nd m hm e k
  · by_cases c : m = K
    · subst c; rw [Fx.put_same] at k; exact absurd rfl k
    · rw [Fx.put_ne _ _ _ _ c] at e k ⊢; exact h.pn m hm e k
  · by_cases c : m = K
    · subst c; rw [Fx.put_same]; exact Nat.zero_le _
    · rw [Fx.put_ne _ _ _ _ c]; exact h.ps m hm
  · rw [cc]
    by_cases c : m = z
    · subst c; rw [Tr.put_same, if_pos ⟨rfl, rfl⟩]; show (F.nd m).held + 1 = _; rw [h.hl m hm]
    · rw [Tr.put_ne _ _ _ _ c, if_neg (fun d => c d.2)]; exact h.hl m hm
  · rw [kk] at e
    by_cases c : m = z
    · subst c; omega
    · rw [Tr.put_ne _ _ _ _ c]; exact h.z0 m hm e
  · rw [cc, if_neg (fun d => absurd d.1 (by decide))]; exact h.rd m hm
  · rw [cc, if_neg (fun d => absurd d.1 (by decide))]; exact h.wt m hm
/-- An open file is no more. -/
theorem WI.gone (h : WI T F S) {n : Nat} (hn : n < 24) (r : (T n).refs ≠ 0) : WI (Fx.put T n Fi.no) (Fx.leF F (T n)) (Fx.leS S (T n)) := by
  have cc : ∀ k m, Fx.cK (Fx.put T n Fi.no) k m 24 + Fx.hit (T n) k m = Fx.cK T k m 24 := fun k m => by
    have := Fx.cK_at T Fi.no k m hn
    rw [Fx.hit_no] at this
    omega
  have no : ∀ m, m < 24 → (Fx.put T n Fi.no m).refs = 0 → Fx.put T n Fi.no m = Fi.no := fun m hm e => by
    by_cases c : m = n
    · subst c; rw [Fx.put_same]
    · rw [Fx.put_ne _ _ _ _ c] at e ⊢; exact h.no m hm e
  have up : ∀ m, m < 24 → (Fx.put T n Fi.no m).refs ≠ 0 → m ≠ n ∧ Fx.put T n Fi.no m = T m := fun m hm e => by
    by_cases c : m = n
    · subst c; rw [Fx.put_same] at e; exact absurd rfl e
    · exact ⟨c, Fx.put_ne _ _ _ _ c⟩
  have ps : ∀ m, m < 24 → (Fx.put T n Fi.no m).pos ≤ 40 := fun m hm => by
    by_cases c : m = n
    · subst c; rw [Fx.put_same]; exact Nat.zero_le _
    · rw [Fx.put_ne _ _ _ _ c]; exact h.ps m hm
  by_cases k : (T n).kind = 1
  · obtain ⟨a, b⟩ := h.nd n hn r k
    have le := h.letE hn r k
    have h1 := Fx.hit_one r
    rw [k] at h1
    have oth : ∀ m q, q ≠ 1 ∨ m ≠ (T n).num → Fx.cK (Fx.put T n Fi.no) q m 24 = Fx.cK T q m 24 := fun m q d => by
      have := cc q m
      have e0 : Fx.hit (T n) q m = 0 := if_neg (fun e => by
        rcases d with d | d
        · exact d (by rw [← e.2.1, k])
        · exact d e.2.2.symm)
      omega
    have own := cc 1 (T n).num
    have e1 : Fx.leF F (T n) = Tr.letT F ((T n).num : Int) := if_pos k
    have e2 : Fx.leS S (T n) = S := if_pos k
    rw [e1, e2]
    generalize hm0 : (T n).num = m0 at *
    have hl0 := h.hl m0 a
    have eT : Tr.letT F (m0 : Int) = Tr.swe (F.put m0 { F.nd m0 with held := (F.nd m0).held - 1 }) m0 := by unfold Tr.letT; rw [if_pos le, Int.toNat_natCast]
    rw [eT]
    by_cases sw : (F.nd m0).links = 0 ∧ (F.nd m0).held - 1 = 0
    · rw [Tr.swe_yes (by rw [Tr.put_same]; exact sw)]
      have nd : ∀ q, q ≠ m0 → (((F.put m0 { F.nd m0 with held := (F.nd m0).held - 1 }).put m0 Nd.no).nd q) = F.nd q := fun q hq => by rw [Tr.put_ne _ _ _ _ hq, Tr.put_ne _ _ _ _ hq]
      refine ⟨no, fun m hm e => ?_, fun m hm e k2 => ?_, fun m hm e k2 => ?_, ps, fun m hm => ?_, fun m hm e => ?_, fun m hm => ?_, fun m hm => ?_⟩
      · have y := (up m hm e).2; rw [y] at e ⊢; exact h.kd m hm e
      · obtain ⟨x, y⟩ := up m hm e
        rw [y] at e k2 ⊢
        obtain ⟨p, q⟩ := h.nd m hm e k2
        refine ⟨p, ?_⟩
        by_cases c : (T m).num = m0
        · exfalso
          have g := Fx.cK_ge (T := Fx.put T n Fi.no) (k := 1) (m := m0) hm
          rw [y] at g
          have g2 := Fx.hit_one e
          rw [k2, c] at g2
          omega
        · rw [nd _ c]; exact q
      · have y := (up m hm e).2; rw [y] at e k2 ⊢; exact h.pn m hm e k2
      · by_cases c : m = m0
        · subst c; rw [Tr.put_same]; show 0 = _; omega
        · rw [nd _ c, oth m 1 (.inr c)]; exact h.hl m hm
      · by_cases c : m = m0
        · subst c; rw [Tr.put_same]; rfl
        · rw [nd _ c] at e ⊢; exact h.z0 m hm e
      · rw [oth m 2 (.inl (by decide))]; exact h.rd m hm
      · rw [oth m 3 (.inl (by decide))]; exact h.wt m hm
    · rw [Tr.swe_no (by rw [Tr.put_same]; exact sw)]
      refine ⟨no, fun m hm e => ?_, fun m hm e k2 => ?_, fun m hm e k2 => ?_, ps, fun m hm => ?_, fun m hm e => ?_, fun m hm => ?_, fun m hm => ?_⟩
      · have y := (up m hm e).2; rw [y] at e ⊢; exact h.kd m hm e
      · obtain ⟨x, y⟩ := up m hm e
        rw [y] at e k2 ⊢
        obtain ⟨p, q⟩ := h.nd m hm e k2
        refine ⟨p, ?_⟩
        by_cases c : (T m).num = m0
        · rw [c, Tr.put_same]; exact b
        · rw [Tr.put_ne _ _ _ _ c]; exact q
      · have y := (up m hm e).2; rw [y] at e k2 ⊢; exact h.pn m hm e k2
      · by_cases c : m = m0
        · subst c; rw [Tr.put_same]; show (F.nd m).held - 1 = _; omega
        · rw [Tr.put_ne _ _ _ _ c, oth m 1 (.inr c)]; exact h.hl m hm
      · by_cases c : m = m0
        · subst c
          rw [Tr.put_same] at e
          have : (F.nd m).kind = 0 := e
          omega
        · rw [Tr.put_ne _ _ _ _ c] at e ⊢; exact h.z0 m hm e
      · rw [oth m 2 (.inl (by decide))]; exact h.rd m hm
      · rw [oth m 3 (.inl (by decide))]; exact h.wt m hm
  · have a := h.pn n hn r k
    have oe := h.opE hn r k
    have h1 := Fx.hit_one r
    have oth : ∀ m q, q ≠ (T n).kind ∨ m ≠ (T n).num → Fx.cK (Fx.put T n Fi.no) q m 24 = Fx.cK T q m 24 := fun m q d => by
      have := cc q m
      have e0 : Fx.hit (T n) q m = 0 := if_neg (fun e => by
        rcases d with d | d
        · exact d e.2.1.symm
        · exact d e.2.2.symm)
      omega
    have own := cc (T n).kind (T n).num
    have e1 : Fx.leF F (T n) = F := if_neg k
    have e2 : Fx.leS S (T n) = Pp.droF S ((T n).num : Int) (decide ((T n).kind = 3)) := if_neg k
    have hk := h.kd n hn r
    rw [e1, e2]
    have eD : Pp.droF S ((T n).num : Int) (decide ((T n).kind = 3)) = Pp.put S (T n).num (Pp.less (S (T n).num) (decide ((T n).kind = 3))) := by unfold Pp.droF; rw [if_pos oe, Int.toNat_natCast]
    have rl := h.rd _ a
    have wl := h.wt _ a
    rw [eD]
    have less : ∀ x : Pi, ∀ wr, (Pp.less x wr).reads = (Pp.setT x wr (Pp.tim x wr - 1)).reads ∧ (Pp.less x wr).writes = (Pp.setT x wr (Pp.tim x wr - 1)).writes := fun x wr => by
      unfold Pp.less
      split
      · exact ⟨rfl, rfl⟩
      · rename_i c
        have : Pp.thr (Pp.setT x wr (Pp.tim x wr - 1)) = false := by simpa using c
        unfold Pp.thr at this
        have := of_decide_eq_false this
        exact ⟨by show 0 = _; omega, by show 0 = _; omega⟩
    refine ⟨no, fun m hm e => ?_, fun m hm e k2 => ?_, fun m hm e k2 => ?_, ps, fun m hm => ?_, h.z0, fun m hm => ?_, fun m hm => ?_⟩
    · have y := (up m hm e).2; rw [y] at e ⊢; exact h.kd m hm e
    · have y := (up m hm e).2; rw [y] at e k2 ⊢; exact h.nd m hm e k2
    · have y := (up m hm e).2; rw [y] at e k2 ⊢; exact h.pn m hm e k2
    · rw [oth m 1 (.inl (fun d => k d.symm))]; exact h.hl m hm
    · by_cases c : m = (T n).num
      · rw [c, Pp.put_same, (less _ _).1]
        rcases hk with d | d | d
        · exact absurd d k
        · rw [d] at own h1 ⊢
          show (S (T n).num).reads - 1 = _
          omega
        · rw [oth _ 2 (.inl (by omega))]
          rw [d]
          exact rl
      · rw [Pp.put_ne _ _ _ _ c, oth m 2 (.inr c)]; exact h.rd m hm
    · by_cases c : m = (T n).num
      · rw [c, Pp.put_same, (less _ _).2]
        rcases hk with d | d | d
        · exact absurd d k
        · rw [oth _ 3 (.inl (by omega))]
          rw [d]
          exact wl
        · rw [d] at own h1 ⊢
          show (S (T n).num).writes - 1 = _
          omega
      · rw [Pp.put_ne _ _ _ _ c, oth m 3 (.inr c)]; exact h.wt m hm
end
end Go.Proofs.YtmneolabgajhmaaGreat

import Derived.Deep.CutRange
import Derived.Deep.CutBlock
import Derived.Deep.DeepCutAuto
import Derived.Test.YtghogbngmcolmaaGreatSbl
namespace Go.Proofs.YtghogbngmcolmaaGreat
open Go.RowKit
open Fx (Fi)
open Tr (Fo Nd)
open Pp (Pi)
open Mo (Wh Mt)
open Mv (Me Bk)
open Kn (Pr Kp St us KB KJ VI EI KH TT BK)
structure BKS (w : World) (kb N : Nat) (d : Nat → Nat) (s : St) (L : Nat → Nat) (rd : Nat → Bool) (W : World) : Prop where
  bel : Below w.heap.size w W
  kk : KKt W w.heap.size s
  kh : KH N d s.k
  bk : BK s.k L rd
  a0 : s.A 0 = kb
section
variable {w W W' : World} {kb N N' : Nat} {d d' : Nat → Nat} {s s' : St} {L L' : Nat → Nat} {rd rd' : Nat → Bool}
theorem BKS.below (h : BKS w kb N d s L rd W) (k : Below W.heap.size W W') : BKS w kb N d s L rd W' := ⟨h.bel.trans (k.mono h.bel.size), h.kk.below k, h.kh, h.bk, h.a0⟩
theorem BKS.step (h : BKS w kb N d s L rd W) (k : KKt W' w.heap.size s') (f : KF s W s' W') (kh : KH N' d' s'.k) (bk : BK s'.k L' rd') : BKS w kb N' d' s' L' rd' W' :=
  ⟨f.behind h.kk h.bel (Nat.le_refl _) h.bel.size, k, kh, bk, f.a0.trans h.a0⟩
end
def Kn.LA (j : Nat) : Nat → Nat := fun m => if m < 2 + j then 1 else 0
def Kn.LE (R i : Nat) : Nat → Nat := fun m => if m < 2 then 1 else if m < i then 2 else if m < 2 + R then 1 else 0
theorem Kn.BK.last {N : Nat} {d : Nat → Nat} {k k' : Kp} {L : Nat → Nat} (h : BK k L (fun m => decide (2 ≤ m))) (kh : KH N d k) (l : L 1 = 1) (no : ∀ m, m < 20 → 2 ≤ m → L m ≠ 1) {how : Int} {held : Bool} (hw : 0 ≤ how ∧ how ≤ 2) (b : (k.p 1).box = Kn.bx how held) {s : ByteArray} {K : Nat} {E : Int} (w : Kn.WriTo k 1 1 s K E k') : E = 12 ∧ K = 0 ∧ KH N d k' ∧ ((how = 0 ∧ held = false ∧ BK k' (fun m => if m = 1 then 2 else L m) (fun m => decide (2 ≤ m)) ∧ (k'.p 1).code = 130) ∨ (¬ (how = 0 ∧ held = false) ∧ BK k' L (fun m => decide (2 ≤ m)) ∧ (k'.p 1).box = Sg.senF (Kn.bx how held) 2)) := by
  obtain ⟨e, ek, y, q, lt, oy, pq⟩ := h.wbad kh l (fun m hm lm => by
    apply decide_eq_false
    intro x
    exact no m hm x lm) w
  have es : Kn.senK k 1 2 = Kn.boxK k 1 (Sg.senF (Kn.bx how held) 2) := by unfold Kn.senK Kn.boxK; rw [b]
  rw [es] at lt
  refine ⟨e, ek, ?_⟩
  by_cases c : how = 0 ∧ held = false
  · obtain ⟨a1, a2, a3, _⟩ := h.die kh l lt (fun m fm => by rw [Kn.bx_sent hw fm, if_pos ⟨by omega, c.2, c.1⟩]) oy pq
    exact ⟨a1, .inl ⟨c.1, c.2, a2, a3⟩⟩
  · obtain ⟨a1, a2, a3⟩ := h.stay kh l lt (fun m fm => by
      rw [Kn.bx_sent hw fm, if_neg (fun x => c ⟨x.2.2, x.2.1⟩)])
    refine ⟨a2, .inr ⟨c, a3, ?_⟩⟩
    rw [a1]; unfold Kn.boxK; rw [Kn.put_same]
set_option maxRecDepth 100000 in
set_option maxHeartbeats 8000000 in
theorem tbr_any (how : Int) (held : Bool) (rdr : Int) (w : World) :
    Calls Tryz.prog 5 #[.int .i64 how, .bool held, .int .i64 rdr] w fun e w' => e = .returned (.bool true) ∧ Below w.heap.size w w' := by
  go_enter Tryz.func5, Tryz.ntmps5
  go_wp2_with fail
  refine (kbegun_any _).mono ?_
  rintro e w1 ⟨s, rfl, bg, kh, kk, b1⟩
  have S1 := Hid.intro (And.intro bg (And.intro kh (And.intro kk b1)))
  have PI1 := Hid.intro (knpipe_any w.heap.size s w1 0 kk)
  clear bg kh kk b1
  obtain ⟨kb, hkb⟩ : ∃ kb, s.A 0 = kb := ⟨_, rfl⟩
  have HK := Hid.intro hkb
  rw [hkb] at PI1 ⊢
  clear hkb
  go_wp2_with fail
  refine PI1.out.mono ?_
  rintro e w2 ⟨A, C, E, k', rfl, np, k2, f2⟩
  obtain ⟨rfl, rfl, rfl, bk, sp, bx, tx⟩ := BK.beg S1.out.1 S1.out.2.1 np
  have S2 : Hid (BKS w kb 3 (fun _ => 1) { s with k := k' } (fun m => if m < 1 then 1 else 0) (fun m => decide (m ≠ 1)) w2 ∧ k'.sp = Sp.entT Sp.t0 ((0 : Nat) : Int) ((0 : Nat) : Int) ∧ (k'.p 0).box = Sg.nul ∧ (k'.pi 0).tx.size = 0) := Hid.intro ⟨⟨f2.behind S1.out.2.2.1 S1.out.2.2.2 (Nat.le_refl _) S1.out.2.2.2.size, k2, S1.out.2.1.pip np, bk, HK.out⟩, sp, bx, tx⟩
  rw [errV_zero]
  have FK := Hid.intro (kfork_any w.heap.size 3 (fun _ => 1) { s with k := k' } w2 (by omega) 0 false S2.out.1.kk S2.out.1.bel.size S2.out.1.kh.ki.vi)
  rw [S2.out.1.a0] at FK
  clear np k2 f2 bk sp bx tx S1 PI1 HK
  go_wp2_with fail
  refine FK.out.mono ?_
  rintro e w3 ⟨p, E, s', rfl, ft, k3, f3⟩
  obtain ⟨d', kh'⟩ := S2.out.1.kh.fork ft
  obtain ⟨rfl, bk, bx, ot, sp, pi, pe⟩ := S2.out.1.bk.fork S2.out.1.kh (c0 := 1) (by omega) (if_neg (by omega)) (fun m hm => by show (if m < 1 then 1 else 0) ≠ 0; rw [if_pos hm]; decide) (fun _ => by rw [S2.out.2.1]; exact Kn.low_first) ft
  have p2 : p = 2 := by
    rw [pe, sp]
    show Sp.pidN (Sp.entT k'.sp _ _) _ _ = 2
    rw [S2.out.2.1]; exact Kn.pid_first
  subst p2
  have S3 : Hid (BKS w kb 5 d' s' (Kn.LA 0) (fun _ => true) w3 ∧ (s'.k.p 1).box = Sg.chiF Sg.nul ∧ (s'.k.pi 0).tx.size = 0) := Hid.intro ⟨S2.out.1.step k3 f3 kh' (bk.cong kh' (fun m hm => by
    show (if m = 1 then 1 else if m < 1 then 1 else 0) = if m < 2 + 0 then 1 else 0
    by_cases q : m = 1
    · rw [if_pos q, if_pos (by omega)]
    · rw [if_neg q]
      by_cases q2 : m < 1
      · rw [if_pos q2, if_pos (by omega)]
      · rw [if_neg q2, if_neg (by omega)]) (fun m hm _ => by
    show (if m = 1 then decide ((0 : Nat) ≠ 1) else decide (m ≠ 1)) = _
    by_cases q : m = 1
    · rw [if_pos q]; rfl
    · rw [if_neg q]; simp [q])), by rw [bx]; show Sg.chiF (k'.p 0).box = _; rw [S2.out.2.2.1], by rw [pi]; exact S2.out.2.2.2⟩
  rw [errV_zero]
  clear FK kh' bk bx ot sp pi pe ft k3 f3 S2
  by_cases r1 : rdr < 0
  · go_wp2_with fail
    go_ret
    exact ⟨rfl, S3.out.1.bel⟩
  by_cases r2 : 10 < rdr
  · go_wp2_with fail
    go_ret
    exact ⟨rfl, S3.out.1.bel⟩
  by_cases h1 : how < 0
  · go_wp2_with fail
    go_ret
    exact ⟨rfl, S3.out.1.bel⟩
  by_cases h2 : 2 < how
  · go_wp2_with fail
    go_ret
    exact ⟨rfl, S3.out.1.bel⟩
  have HW : Hid (0 ≤ how ∧ how ≤ 2) := Hid.intro (by omega)
  obtain ⟨R, rfl⟩ := Int.eq_ofNat_of_zero_le (show 0 ≤ rdr by omega)
  have R10 : Hid (R ≤ 10) := Hid.intro (by omega)
  have HO := Hid.intro (knhow_any w.heap.size 5 d' s' w3 (by omega) 1 2 how S3.out.1.kk S3.out.1.kh.ki)
  rw [S3.out.1.a0] at HO
  go_wp2_with fail
  refine HO.out.mono ?_
  rintro e w4 ⟨E, k4, rfl, ht, kk4, f4⟩
  obtain ⟨rfl, e4, kh4, bk4⟩ := S3.out.1.bk.how S3.out.1.kh rfl HW.out ht (fun m fm => by rw [S3.out.2.1, Kn.bx_how HW.out] at fm; exact Kn.bx_none fm)
  have S4 : Hid (BKS w kb 5 d' { s' with k := k4 } (Kn.LA 0) (fun _ => true) w4 ∧ (k4.p 1).box = Kn.bx how false ∧ (k4.pi 0).tx.size = 0) := Hid.intro ⟨S3.out.1.step (s' := { s' with k := k4 }) kk4 f4 kh4 bk4, by rw [e4]; unfold Kn.boxK; rw [Kn.put_same]; show Sg.howF (s'.k.p 1).box 2 how = _; rw [S3.out.2.1, Kn.bx_how HW.out], by rw [e4]; exact S3.out.2.2⟩
  rw [errV_zero]
  have HL := Hid.intro (knhold_any w.heap.size 5 d' { s' with k := k4 } w4 (by omega) 1 2 held S4.out.1.kk S4.out.1.kh.ki)
  rw [S4.out.1.a0] at HL
  clear HO ht kk4 f4 e4 kh4 bk4 S3
  go_wp2_with fail
  refine HL.out.mono ?_
  rintro e w5 ⟨E, k5, rfl, ht, kk5, f5⟩
  obtain ⟨rfl, e5, kh5, bk5⟩ := S4.out.1.bk.hold S4.out.1.kh rfl ht (fun m fm => by rw [S4.out.2.1, Kn.bx_hold] at fm; exact Kn.bx_none fm)
  have S5 : Hid (BKS w kb 5 d' { s' with k := k5 } (Kn.LA 0) (fun _ => true) w5 ∧ (k5.p 1).box = Kn.bx how held ∧ (k5.pi 0).tx.size = 0) := Hid.intro ⟨S4.out.1.step (s' := { s' with k := k5 }) kk5 f5 kh5 bk5, by rw [e5]; unfold Kn.boxK; rw [Kn.put_same]; show Sg.holF (k4.p 1).box 2 held = _; rw [S4.out.2.1, Kn.bx_hold], by rw [e5]; exact S4.out.2.2⟩
  rw [errV_zero]
  have CL := Hid.intro (knclose_any w.heap.size { s' with k := k5 } w5 5 1 0 S5.out.1.kk S5.out.1.kh.ki.vi.kj (by omega))
  rw [S5.out.1.a0] at CL
  clear HL ht kk5 f5 e5 kh5 bk5 S4
  go_wp2_with fail
  refine CL.out.mono ?_
  rintro e w6 ⟨rfl, kk6, f6⟩
  obtain ⟨e6, bk6, qf6, bx6⟩ := S5.out.1.bk.nclo S5.out.1.kh (n := 1) (by omega) rfl rfl
  have kh6 := S5.out.1.kh.nclo ((1 : Nat) : Int) 0
  have S6 : Hid (BKS w kb 5 d' { s' with k := Kn.ncloK k5 1 0 } (Kn.LA 0) (fun m => decide (m ≠ 1)) w6 ∧ ((Kn.ncloK k5 1 0).p 1).box = Kn.bx how held ∧ ((Kn.ncloK k5 1 0).pi 0).tx.size = 0) := Hid.intro ⟨S5.out.1.step (s' := { s' with k := Kn.ncloK k5 1 0 }) kk6 f6 kh6 (bk6.cong kh6 (fun _ _ => rfl) (fun m _ _ => by
    show (if m = 1 then false else true) = decide (m ≠ 1)
    by_cases q : m = 1
    · rw [if_pos q]; simp [q]
    · rw [if_neg q]; simp [q])), (bx6 1).trans S5.out.2.1, by
    have wr := bk6.wr kh6
    have t := qf6.pi 0 (by omega) (decide_eq_true (Or.inr (Nat.pos_of_ne_zero wr)))
    exact (congrArg ByteArray.size t.2).trans S5.out.2.2⟩
  rw [show Kn.ncloE ({ s' with k := k5 } : St).k 1 0 = 0 from e6, errV_zero]
  clear CL kk6 f6 e6 bk6 qf6 bx6 kh6 S5
  go_wp2_with fail
  go_loopw [13] (fun i wr => ∃ (j : Nat) (s : St) (N : Nat) (d : Nat → Nat), i = .int .i64 j ∧ j ≤ R ∧ N ≤ 5 + 2 * j ∧ Hid (BKS w kb N d s (Kn.LA j) (fun m => decide (m ≠ 1)) wr ∧ (s.k.p 1).box = Kn.bx how held ∧ (s.k.pi 0).tx.size = 0)) (fun i _ => R - (intOf i).toNat)
  case atStart => exact ⟨0, _, 5, _, rfl, by omega, by omega, S6⟩
  case round =>
    clear S6
    obtain ⟨j, s, N, d, rfl, hj, hN, S⟩ := hrel
    have HN := Hid.intro (And.intro hj hN)
    by_cases hlt : j < R
    · have hltI : (j : Int) < (R : Int) := by omega
      have FK := Hid.intro (kfork_any w.heap.size N d s wr (by have := HN.out; have := R10.out; omega) 0 false S.out.1.kk S.out.1.bel.size S.out.1.kh.ki.vi)
      rw [S.out.1.a0] at FK
      clear hN hj
      go_wp2_with fail
      refine FK.out.mono ?_
      rintro e w3 ⟨p, E, s2, rfl, ft, k3, f3⟩
      obtain ⟨d2, kh'⟩ := S.out.1.kh.fork ft
      obtain ⟨rfl, bk, bx, ot, sp, pi, pe⟩ := S.out.1.bk.fork S.out.1.kh (c0 := 2 + j) (by have := R10.out; omega) (if_neg (by omega)) (fun m hm => by show (if m < 2 + j then 1 else 0) ≠ 0; rw [if_pos hm]; decide) (fun q => by omega) ft
      have S7 : Hid (BKS w kb (N + 2) d2 s2 (Kn.LA (j + 1)) (fun m => decide (m ≠ 1)) w3 ∧ (s2.k.p 1).box = Kn.bx how held ∧ (s2.k.pi 0).tx.size = 0) := Hid.intro ⟨S.out.1.step k3 f3 kh' (bk.cong kh' (fun m hm => by
        show (if m = 2 + j then 1 else if m < 2 + j then 1 else 0) = if m < 2 + (j + 1) then 1 else 0
        by_cases q : m = 2 + j
        · rw [if_pos q, if_pos (by omega)]
        · rw [if_neg q]
          by_cases q2 : m < 2 + j
          · rw [if_pos q2, if_pos (by omega)]
          · rw [if_neg q2, if_neg (by omega)]) (fun m hm _ => by
        show (if m = 2 + j then decide ((0 : Nat) ≠ 1) else decide (m ≠ 1)) = _
        by_cases q : m = 2 + j
        · rw [if_pos q]; have : m ≠ 1 := by omega
          simp [this]
        · rw [if_neg q])), by rw [ot 1 (by omega)]; exact S.out.2.1, by rw [pi]; exact S.out.2.2⟩
      rw [errV_zero]
      clear FK kh' bk bx ot sp pi pe ft k3 f3 S
      go_wp2_with fail
      go_roundw
      case rel => exact ⟨j + 1, s2, N + 2, d2, by go_num, by omega, by have := HN.out; omega, S7⟩
      case measure => simp [intOf]; omega
    · obtain rfl : j = R := by omega
      have CL := Hid.intro (knclose_any w.heap.size s wr N 0 0 S.out.1.kk S.out.1.kh.ki.vi.kj (by have := HN.out; have := R10.out; omega))
      rw [S.out.1.a0] at CL
      clear hN hj
      go_wp2_with fail
      refine CL.out.mono ?_
      rintro e w6 ⟨rfl, kk6, f6⟩
      obtain ⟨e6, bk6, qf6, bx6⟩ := S.out.1.bk.nclo S.out.1.kh (n := 0) (by omega) (if_pos (by omega)) (by decide)
      have kh6 := S.out.1.kh.nclo ((0 : Nat) : Int) 0
      have S6 : Hid (BKS w kb N d { s with k := Kn.ncloK s.k 0 0 } (Kn.LA j) (fun m => decide (2 ≤ m)) w6 ∧ ((Kn.ncloK s.k 0 0).p 1).box = Kn.bx how held ∧ ((Kn.ncloK s.k 0 0).pi 0).tx.size = 0) := Hid.intro ⟨S.out.1.step (s' := { s with k := Kn.ncloK s.k 0 0 }) kk6 f6 kh6 (bk6.cong kh6 (fun _ _ => rfl) (fun m _ _ => by
        show (if m = 0 then false else decide (m ≠ 1)) = decide (2 ≤ m)
        by_cases q : m = 0
        · rw [if_pos q]; simp [q]
        · rw [if_neg q]
          by_cases q2 : m = 1
          · simp [q2]
          · have : 2 ≤ m := by omega
            simp [q2, this])), (bx6 1).trans S.out.2.1, by
        have wr := bk6.wr kh6
        have t := qf6.pi 0 (by omega) (decide_eq_true (Or.inr (Nat.pos_of_ne_zero wr)))
        exact (congrArg ByteArray.size t.2).trans S.out.2.2⟩
      rw [show Kn.ncloE s.k 0 0 = 0 from e6, errV_zero]
      clear CL kk6 f6 e6 bk6 qf6 bx6 kh6 S
      generalize Kn.ncloK s.k 0 0 = k6 at *
      have WR := Hid.intro (knwrite_any w.heap.size N d { s with k := k6 } w6 (by have := HN.out; have := R10.out; omega) 1 1 ⟨#[120]⟩ S6.out.1.kk (by decide) S6.out.1.kh.ki.vi.kj.wx.pz (fun _ => (S6.out.1.kh.wri _ _).ki))
      rw [S6.out.1.a0] at WR
      by_cases j0 : j = 0
      case' pos =>
        have jI : ¬ (0 : Int) < (j : Int) := by omega
        have jN : ¬ 0 < j := by omega
        go_wp2_with fail
        refine WR.out.mono ?_
        rintro e w7 ⟨M, E, k7, rfl, wt, kk7, f7⟩
        obtain ⟨rfl, rfl, kh7, fin⟩ := S6.out.1.bk.last S6.out.1.kh (show Kn.LA j 1 = 1 from if_pos (by omega)) (fun m hm m2 x => by
          have : (if m < 2 + j then 1 else 0) = 1 := x
          rw [if_neg (by omega)] at this; cases this) HW.out S6.out.2.1 wt
        have S9 : Hid ((how = 0 ∧ held = false ∧ BKS w kb N d { s with k := k7 } (fun m => if m < 1 then 1 else if m < j + 2 then 2 else 0) (fun m => decide (2 ≤ m)) w7 ∧ (k7.p 1).code = 130) ∨ (¬ (how = 0 ∧ held = false) ∧ ∃ Ly, Ly 1 = 1 ∧ BKS w kb N d { s with k := k7 } Ly (fun m => decide (2 ≤ m)) w7 ∧ (k7.p 1).box = Sg.senF (Kn.bx how held) 2)) := Hid.intro (by
          rcases fin with ⟨a, b, c, dd⟩ | ⟨a, b, c⟩
          · refine .inl ⟨a, b, S6.out.1.step (s' := { s with k := k7 }) kk7 f7 kh7 (c.cong kh7 (fun m hm => ?_) (fun _ _ _ => rfl)), dd⟩
            show (if m = 1 then 2 else if m < 2 + j then 1 else 0) = if m < 1 then 1 else if m < j + 2 then 2 else 0
            by_cases q : m = 1
            · rw [if_pos q, if_neg (by omega), if_pos (by omega)]
            · rw [if_neg q]
              by_cases q2 : m = 0
              · rw [if_pos (by omega), if_pos (by omega)]
              · rw [if_neg (by omega), if_neg (by omega), if_neg (by omega)]
          · exact .inr ⟨a, _, (show Kn.LA j 1 = 1 from if_pos (by omega)), S6.out.1.step (s' := { s with k := k7 }) kk7 f7 kh7 b, c⟩)
        rw [errV_ne (by decide)]
        clear WR wt kk7 f7 kh7 fin S6
        go_upto_region 30 with fail
      case' neg =>
        have jI : (0 : Int) < (j : Int) := by omega
        have jN : 0 < j := by omega
        have jD : decide (0 < j) = true := decide_eq_true jN
        go_wp2_with fail
        refine WR.out.mono ?_
        rintro e w7 ⟨M, E, k7, rfl, wt, kk7, f7⟩
        obtain ⟨rfl, rfl, kh7, bk7, pp7⟩ := S6.out.1.bk.wok S6.out.1.kh (show Kn.LA j 1 = 1 from if_pos (by omega)) (m := 2) (by omega) (if_pos (by omega)) (by decide) S6.out.2.2 (s := ⟨#[120]⟩) rfl wt
        have S7 : Hid (BKS w kb N d { s with k := k7 } (Kn.LE j 2) (fun m => decide (2 ≤ m)) w7 ∧ (k7.p 1).box = Kn.bx how held) := Hid.intro ⟨S6.out.1.step (s' := { s with k := k7 }) kk7 f7 kh7 (bk7.cong kh7 (fun m hm => by
          show (if m < 2 + j then 1 else 0) = if m < 2 then 1 else if m < 2 then 2 else if m < 2 + j then 1 else 0
          by_cases q : m < 2
          · rw [if_pos q, if_pos (by omega)]
          · rw [if_neg q, if_neg q]) (fun _ _ _ => rfl)), by rw [pp7 1]; exact S6.out.2.1⟩
        rw [errV_zero]
        clear WR wt kk7 f7 kh7 bk7 pp7 S6
        have ad : IntKind.i64.wrap (2 + (j : Int)) = 2 + (j : Int) := IntWalk.i64_in _ ⟨by omega, by have := R10.out; omega⟩
        go_wp2_with fail
        go_loopw [17] (fun i wr => ∃ (x : Nat) (s : St), i = .int .i64 x ∧ 2 ≤ x ∧ x ≤ 2 + j ∧ Hid (BKS w kb N d s (Kn.LE j x) (fun m => decide (2 ≤ m)) wr ∧ (s.k.p 1).box = Kn.bx how held)) (fun i _ => 2 + j - (intOf i).toNat)
        case atStart => exact ⟨2, _, rfl, by omega, by omega, S7⟩
        case' round =>
          clear S7
          obtain ⟨x, s, rfl, hx2, hxj, S⟩ := hrel
          by_cases hlt2 : x < 2 + j
          case pos =>
            have hltI : (x : Int) < 2 + (j : Int) := by omega
            have HX : Hid (2 ≤ x + 1 ∧ x + 1 ≤ 2 + j) := Hid.intro (by omega)
            have EX := Hid.intro (kexit_any w.heap.size N d s wr (by have := HN.out; have := R10.out; omega) (x : Int) 0 S.out.1.kk S.out.1.kh.ki)
            rw [S.out.1.a0] at EX
            go_wp2_with fail
            refine EX.out.mono ?_
            rintro e w8 ⟨k8, rfl, et, kk8, f8⟩
            obtain ⟨ex, kh8, qd8, en8, bk8⟩ := S.out.1.bk.exit S.out.1.kh (n := x) (by have := R10.out; omega) (by omega) (by show (if x < 2 then 1 else if x < x then 2 else if x < 2 + j then 1 else 0) = 1; rw [if_neg (by omega), if_neg (by omega), if_pos hlt2]) et
            have S8 : Hid (BKS w kb N d { s with k := k8 } (Kn.LE j (x + 1)) (fun m => decide (2 ≤ m)) w8 ∧ (k8.p 1).box = Kn.bx how held) := Hid.intro ⟨S.out.1.step (s' := { s with k := k8 }) kk8 f8 kh8 (bk8.cong kh8 (fun m hm => by
              show (if m = x then 2 else if m < 2 then 1 else if m < x then 2 else if m < 2 + j then 1 else 0) = if m < 2 then 1 else if m < x + 1 then 2 else if m < 2 + j then 1 else 0
              by_cases q : m = x
              · rw [if_pos q, if_neg (by omega), if_pos (by omega)]
              · rw [if_neg q]
                by_cases q2 : m < 2
                · rw [if_pos q2, if_pos q2]
                · rw [if_neg q2, if_neg q2]
                  by_cases q3 : m < x
                  · rw [if_pos q3, if_pos (by omega)]
                  · rw [if_neg q3, if_neg (show ¬ m < x + 1 by omega)]) (fun _ _ _ => rfl)), by rw [(en8.ot 1 (by omega)).2.2.2.2.1 (by omega)]; exact S.out.2⟩
            rw [ex, errV_zero]
            clear EX et kk8 f8 ex kh8 qd8 en8 bk8 S
            go_wp2_with fail
            go_roundw
            case rel => first | exact ⟨x + 1, _, by go_num, HX.out.1, HX.out.2, S8⟩ | ((repeat apply Exists.intro); refine ⟨⟨x + 1, _, ?_, HX.out.1, HX.out.2, S8⟩, rfl⟩; go_num)
            case measure => simp [intOf]; omega
          case' neg =>
            obtain rfl : x = 2 + j := by omega
            have hltI : ¬ ((2 + j : Nat) : Int) < 2 + (j : Int) := by omega
            have WR := Hid.intro (knwrite_any w.heap.size N d s wr (by have := HN.out; have := R10.out; omega) 1 1 ⟨#[120]⟩ S.out.1.kk (by decide) S.out.1.kh.ki.vi.kj.wx.pz (fun _ => (S.out.1.kh.wri _ _).ki))
            rw [S.out.1.a0] at WR
            go_wp2_with fail
            refine WR.out.mono ?_
            rintro e w7 ⟨M, E, k7, rfl, wt, kk7, f7⟩
            obtain ⟨rfl, rfl, kh7, fin⟩ := S.out.1.bk.last S.out.1.kh (show Kn.LE j (2 + j) 1 = 1 from if_pos (by omega)) (fun m hm m2 y => by
              have y' : (if m < 2 then 1 else if m < 2 + j then 2 else if m < 2 + j then 1 else 0) = 1 := y
              rw [if_neg (by omega)] at y'
              by_cases q : m < 2 + j
              · rw [if_pos q] at y'; omega
              · rw [if_neg q, if_neg q] at y'; omega) HW.out S.out.2 wt
            have S9 : Hid ((how = 0 ∧ held = false ∧ BKS w kb N d { s with k := k7 } (fun m => if m < 1 then 1 else if m < j + 2 then 2 else 0) (fun m => decide (2 ≤ m)) w7 ∧ (k7.p 1).code = 130) ∨ (¬ (how = 0 ∧ held = false) ∧ ∃ Ly, Ly 1 = 1 ∧ BKS w kb N d { s with k := k7 } Ly (fun m => decide (2 ≤ m)) w7 ∧ (k7.p 1).box = Sg.senF (Kn.bx how held) 2)) := Hid.intro (by
              rcases fin with ⟨a, b, c, dd⟩ | ⟨a, b, c⟩
              · refine .inl ⟨a, b, S.out.1.step (s' := { s with k := k7 }) kk7 f7 kh7 (c.cong kh7 (fun m hm => ?_) (fun _ _ _ => rfl)), dd⟩
                show (if m = 1 then 2 else if m < 2 then 1 else if m < 2 + j then 2 else if m < 2 + j then 1 else 0) = if m < 1 then 1 else if m < j + 2 then 2 else 0
                by_cases q : m = 1
                · rw [if_pos q, if_neg (by omega), if_pos (by omega)]
                · rw [if_neg q]
                  by_cases q2 : m = 0
                  · rw [if_pos (by omega), if_pos (by omega)]
                  · rw [if_neg (show ¬ m < 2 by omega), if_neg (show ¬ m < 1 by omega)]
                    by_cases q3 : m < 2 + j
                    · rw [if_pos q3, if_pos (by omega)]
                    · rw [if_neg q3, if_neg q3, if_neg (by omega)]
              · exact .inr ⟨a, _, (show Kn.LE j (2 + j) 1 = 1 from if_pos (by omega)), S.out.1.step (s' := { s with k := k7 }) kk7 f7 kh7 b, c⟩)
            rw [errV_ne (by decide)]
            clear WR wt kk7 f7 kh7 fin S
            go_upto_region 30 with fail
      all_goals
        have NB : Hid (∀ W, Calls Tryz.prog 16 #[.iface 60 (.int .i64 12)] W fun e w' => e = .returned (.int .i64 12) ∧ w' = W) := Hid.intro (fun W => by have q := knumber_any 12 W; rw [errV_ne (by decide)] at q; exact q)
        go_wp2_with fail
        refine (NB.out _).mono ?_
        rintro e w8 ⟨rfl, hw⟩
        subst w8
        by_cases D : how = 0 ∧ held = false
        · have S10 : Hid (BKS w kb N d { s with k := k7 } (fun m => if m < 1 then 1 else if m < j + 2 then 2 else 0) (fun m => decide (2 ≤ m)) w7 ∧ (k7.p 1).code = 130) := Hid.intro (by
            rcases S9.out with ⟨_, _, x, y⟩ | ⟨x, _⟩
            · exact ⟨x, y⟩
            · exact absurd D x)
          obtain ⟨rfl, rfl⟩ := D
          have SF := Hid.intro (kself_any w.heap.size { s with k := k7 } w7 1 S10.out.1.kk S10.out.1.kh.ki.vi.iv.who0)
          rw [S10.out.1.a0] at SF
          have ac : Kn.actE k7 1 = 2 := by
            unfold Kn.actE
            rw [if_neg (by omega)]
            refine if_neg (fun q => ?_)
            have y := Kn.lv1.1 q
            have z := S10.out.1.bk.st 1 (by omega)
            have z' : (k7.p 1).st = if (1 : Nat) < 1 then 1 else if 1 < j + 2 then 2 else 0 := z
            rw [if_neg (by omega), if_pos (by omega)] at z'
            have y' : (k7.p 1).st = 1 := y
            omega
          rw [show Kn.actE ({ s with k := k7 } : St).k 1 = 2 from ac, errV_ne (by decide)] at SF
          generalize Kn.selN ({ s with k := k7 } : St).k 1 = sn at SF
          clear ac S9
          go_wp2_with fail
          refine SF.out.mono ?_
          rintro e w8 ⟨rfl, hw⟩
          subst w8
          have S11 : Hid (∃ L, BKS w kb N d { s with k := k7 } L (fun m => decide (2 ≤ m)) w7 ∧ Kn.gN L 20 + 0 = j + 1 ∧ (L 1 ≠ 0 → (k7.p 1).code = 130)) := Hid.intro ⟨_, S10.out.1, by rw [Kn.gN_all]; have := R10.out; omega, fun _ => S10.out.2⟩
          have NC : Hid (∀ W, Calls Tryz.prog 16 #[.iface 60 (.int .i64 2)] W fun e w' => e = .returned (.int .i64 2) ∧ w' = W) := Hid.intro (fun W => by have q := knumber_any 2 W; rw [errV_ne (by decide)] at q; exact q)
          clear SF S10
          go_wp2_with fail
          go_loopw [22] (fun i wr => ∃ (x : Nat) (s : St), i = .int .i64 x ∧ x ≤ j + 1 ∧ Hid (∃ L, BKS w kb N d s L (fun m => decide (2 ≤ m)) wr ∧ Kn.gN L 20 + x = j + 1 ∧ (L 1 ≠ 0 → (s.k.p 1).code = 130))) (fun i _ => j + 1 - (intOf i).toNat)
          case atStart => exact ⟨0, _, rfl, by omega, S11⟩
          case round =>
            clear S11
            obtain ⟨x, s, rfl, hx, S⟩ := hrel
            by_cases hlx : x ≤ j
            · have hlxI : (x : Int) ≤ (j : Int) := by omega
              have HX : Hid (x + 1 ≤ j + 1) := Hid.intro (by omega)
              obtain ⟨L, B, gl, cd⟩ := S.out
              have SB := Hid.intro (And.intro B (And.intro gl cd))
              have WT := Hid.intro (kwait_any w.heap.size N d s wr (by have := HN.out; have := R10.out; omega) 0 B.kk B.kh.ki.vi B.kh.p0)
              rw [B.a0] at WT
              clear B gl cd S
              go_wp2_with fail
              refine WT.out.mono ?_
              rintro e w9 ⟨p, c, E, k9, rfl, wt, kk9, f9⟩
              obtain ⟨y, y20, y0, ly⟩ := Kn.gN_pos 20 (show Kn.gN L 20 ≠ 0 by have := SB.out.2.1; have := HX.out; omega)
              obtain ⟨rfl, m, m20, m0, lm, kh9, bk9, ec, p2, ot⟩ := SB.out.1.bk.wait SB.out.1.kh wt y20 y0 ly
              have S9' : Hid ((∃ L, BKS w kb N d { s with k := k9 } L (fun m => decide (2 ≤ m)) w9 ∧ Kn.gN L 20 + (x + 1) = j + 1 ∧ (L 1 ≠ 0 → (k9.p 1).code = 130)) ∧ (p = 2 → c = 130)) := Hid.intro ⟨⟨_, SB.out.1.step (s' := { s with k := k9 }) kk9 f9 kh9 bk9, by
                have q := Kn.gN_set m0 lm 20
                rw [if_pos m20] at q
                have := SB.out.2.1
                omega, fun q => by
                have q' : (if 1 = m then 0 else L 1) ≠ 0 := q
                by_cases z : 1 = m
                · rw [if_pos z] at q'; exact absurd rfl q'
                · rw [if_neg z] at q'
                  rw [ot 1 (by omega) z]; exact SB.out.2.2 q'⟩, fun q => by
                have := p2 q
                subst this
                rw [ec]; exact SB.out.2.2 (by omega)⟩
              rw [errV_zero]
              clear WT wt kk9 f9 kh9 bk9 ec p2 ot SB lm
              go_upto_region 40 with fail
              refine wp_gen (fun W => CB W w9.heap.size p c ∧ ∃ L, BKS w kb N d { s with k := k9 } L (fun m => decide (2 ≤ m)) W ∧ Kn.gN L 20 + (x + 1) = j + 1 ∧ (L 1 ≠ 0 → (k9.p 1).code = 130)) (by
                obtain ⟨L, B, gl, cd⟩ := S9'.out.1
                have b5 : Below w9.heap.size w9 (w9.alloc (.cells #[.int .i64 p, .int .i64 c] 38)) := (Below.refl _ _).alloc (Nat.le_refl _) _
                exact ⟨heap_alloc_new w9 _, L, B.below b5, gl, cd⟩) ?_
              rintro W6 ⟨cb, h6⟩
              have S12 := Hid.intro h6
              have z0 := cb.c0
              have z1 := cb.c1
              have PC := Hid.intro S9'.out.2
              clear h6 cb S9'
              generalize w9.heap.size = ca at *
              by_cases pp : p = 2
              · subst pp
                have := PC.out rfl
                subst this
                go_wp2_with fail
                go_roundw
                case rel => first | exact ⟨x + 1, _, by go_num, HX.out, S12⟩ | ((repeat apply Exists.intro); refine ⟨⟨x + 1, _, ?_, HX.out, S12⟩, rfl⟩; go_num)
                case measure => simp [intOf]; omega
              · have pb : ((p : Int) == 2) = false := by simp; omega
                go_wp2_with fail
                go_roundw
                case rel => first | exact ⟨x + 1, _, by go_num, HX.out, S12⟩ | ((repeat apply Exists.intro); refine ⟨⟨x + 1, _, ?_, HX.out, S12⟩, rfl⟩; go_num)
                case measure => simp [intOf]; omega
            · have hlxI : ¬ (x : Int) ≤ (j : Int) := by omega
              have BE : Hid (Below w.heap.size w wr) := Hid.intro (by obtain ⟨L, B, _⟩ := S.out; exact B.bel)
              clear S
              go_wp2_with fail
              refine (NC.out _).mono ?_
              rintro e w9 ⟨rfl, hw⟩
              subst w9
              go_wp2_with fail
              go_ret
              exact ⟨rfl, BE.out⟩
        · have S10 : Hid (∃ Ly, Ly 1 = 1 ∧ BKS w kb N d { s with k := k7 } Ly (fun m => decide (2 ≤ m)) w7 ∧ (k7.p 1).box = Sg.senF (Kn.bx how held) 2) := Hid.intro (by
            rcases S9.out with ⟨x, y, _⟩ | ⟨_, x⟩
            · exact absurd ⟨x, y⟩ D
            · exact x)
          obtain ⟨Ly, l1, B, bx⟩ := S10.out
          have SB := Hid.intro (And.intro B bx)
          have ac : Kn.actE k7 1 = 0 := Kn.actE_of (n := 1) (by omega) (Kn.lv1.2 (by have := B.bk.st 1 (by omega); exact this.trans l1))
          have SF := Hid.intro (kself_any w.heap.size { s with k := k7 } w7 1 B.kk B.kh.ki.vi.iv.who0)
          rw [B.a0, show Kn.actE ({ s with k := k7 } : St).k 1 = 0 from ac, errV_zero] at SF
          have TA := Hid.intro (kntake_any w.heap.size { s with k := k7 } w7 1 B.kk (fun n hn l => B.kh.ki.has hn l))
          rw [B.a0] at TA
          have AC := Hid.intro ac
          generalize Kn.selN ({ s with k := k7 } : St).k 1 = sn at SF
          clear S9 S10 B bx ac l1
          have hcs : (how = 0 ∧ held = true) ∨ (how = 1) ∨ (how = 2 ∧ held = true) ∨ (how = 2 ∧ held = false) := by
            have h3 : how = 0 ∨ how = 1 ∨ how = 2 := by have := HW.out; omega
            rcases h3 with x | x | x
            · refine .inl ⟨x, ?_⟩
              cases held
              · exact absurd ⟨x, rfl⟩ D
              · rfl
            · exact .inr (.inl x)
            · cases held
              · exact .inr (.inr (.inr ⟨x, rfl⟩))
              · exact .inr (.inr (.inl ⟨x, rfl⟩))
          have TQ : Hid (∀ m E k', Kn.TakTo k7 1 m E k' → m = (if how = 2 ∧ held = false then 2 else 0) ∧ E = if how = 2 ∧ held = false then 0 else 2) := Hid.intro (fun m E k' t => by
            rcases t with ⟨x, _⟩ | ⟨_, n, jj, en, hn, fi, _, em, eE⟩
            · exact absurd AC.out x
            · have en' : n = 1 := by omega
              subst en'
              rw [show (k7.p 1).box = _ from SB.out.2] at fi
              have q := Kn.bx_sent HW.out fi
              by_cases c : how = 2 ∧ held = false
              · rw [if_pos ⟨by omega, c.2, c.1⟩] at q
                rw [if_pos c, if_pos c, em, eE, q]; exact ⟨rfl, rfl⟩
              · rw [if_neg (fun x => c ⟨x.2.2, x.2.1⟩)] at q
                rw [if_neg c, if_neg c, em, eE, q]; exact ⟨rfl, rfl⟩)
          clear D
          rcases hcs with ⟨rfl, rfl⟩ | rfl | ⟨rfl, rfl⟩ | ⟨rfl, rfl⟩
          · go_wp2_with fail
            refine SF.out.mono ?_
            rintro e w8 ⟨rfl, hw⟩
            subst w8
            go_wp2_with fail
            refine TA.out.mono ?_
            rintro e w9 ⟨m, E, k9, rfl, tk, kk9, f9⟩
            obtain ⟨rfl, rfl⟩ := TQ.out _ _ _ tk
            have BE := Hid.intro (f9.behind SB.out.1.kk SB.out.1.bel (Nat.le_refl _) SB.out.1.bel.size)
            rw [if_neg (by simp), if_neg (by simp), errV_ne (by decide)]
            clear tk kk9 f9
            go_wp2_with fail
            go_ret
            exact ⟨rfl, BE.out⟩
          · go_wp2_with fail
            refine SF.out.mono ?_
            rintro e w8 ⟨rfl, hw⟩
            subst w8
            go_wp2_with fail
            refine TA.out.mono ?_
            rintro e w9 ⟨m, E, k9, rfl, tk, kk9, f9⟩
            obtain ⟨rfl, rfl⟩ := TQ.out _ _ _ tk
            have BE := Hid.intro (f9.behind SB.out.1.kk SB.out.1.bel (Nat.le_refl _) SB.out.1.bel.size)
            rw [if_neg (by simp), if_neg (by simp), errV_ne (by decide)]
            clear tk kk9 f9
            go_wp2_with fail
            go_ret
            exact ⟨rfl, BE.out⟩
          · go_wp2_with fail
            refine SF.out.mono ?_
            rintro e w8 ⟨rfl, hw⟩
            subst w8
            go_wp2_with fail
            refine TA.out.mono ?_
            rintro e w9 ⟨m, E, k9, rfl, tk, kk9, f9⟩
            obtain ⟨rfl, rfl⟩ := TQ.out _ _ _ tk
            have BE := Hid.intro (f9.behind SB.out.1.kk SB.out.1.bel (Nat.le_refl _) SB.out.1.bel.size)
            rw [if_neg (by simp), if_neg (by simp), errV_ne (by decide)]
            clear tk kk9 f9
            go_wp2_with fail
            go_ret
            exact ⟨rfl, BE.out⟩
          · go_wp2_with fail
            refine SF.out.mono ?_
            rintro e w8 ⟨rfl, hw⟩
            subst w8
            go_wp2_with fail
            refine TA.out.mono ?_
            rintro e w9 ⟨m, E, k9, rfl, tk, kk9, f9⟩
            obtain ⟨rfl, rfl⟩ := TQ.out _ _ _ tk
            have BE := Hid.intro (f9.behind SB.out.1.kk SB.out.1.bel (Nat.le_refl _) SB.out.1.bel.size)
            rw [if_pos (by simp), if_pos (by simp), errV_zero]
            clear tk kk9 f9
            go_wp2_with fail
            go_ret
            exact ⟨rfl, BE.out⟩
end Go.Proofs.YtghogbngmcolmaaGreat

import Derived.Test.YtghogbngmcolmaaGreatSbh
import Derived.Test.YtghogbngmcolmaaGreatSbb
namespace Go.Proofs.YtghogbngmcolmaaGreat
open Go.RowKit
open Tr (Fo Nd)
open Mo (Wh Mt)
open Mv (Me Bk)
open Kn (Pr Kp St us KB KJ VI EI)
namespace Kn
def tb0 : Mo.Tb := ⟨(0, 0), []⟩
def k00 : Kp := ⟨fun _ => Pr.no, fun _ => false, fun _ => tb0, Sp.t0, Gr.t0, Fa.Fr.m0, Mv.bk0, Tr.f0, Pp.nul, Fx.nul⟩
def k01 : Kp := { k00 with fo := Tr.hol Tr.g1 (0 : Nat), ht := fun i => if i = 0 then true else false, gr := Gr.chgT Gr.t0 Gr.W0 0 1 0 }
theorem wld20 : Mv.Wld Mv.bk0 20 (fun _ => Mv.me0) := by
  have t0 : ∀ f n, Mv.tot (fun _ => Mv.me0) f n = 0 := fun f n => by
    induction n with
    | zero => rfl
    | succ n ih => show Mv.tot _ f n + Mv.cntK Mv.me0.fr f 16 = 0; rw [ih, Mv.cntK_none (fr := Mv.me0.fr) f 16 (fun _ _ => rfl)]
  exact ⟨Bd.inv0.1, Bd.inv0.2, by omega, fun _ _ _ _ => by show 0 ≤ 64; omega, fun f _ => by show 0 = _; rw [t0], fun f _ => ⟨fun c => absurd (show false = true from c) (by decide), fun c => absurd (show (0 : Nat) ≥ 1 from c) (by decide)⟩, fun f _ c => absurd (show false = true from c) (by decide)⟩
theorem cK_nul (k m : Nat) : ∀ j, Fx.cK Fx.nul k m j = 0 := fun j => by
  have := Fx.cK_le Fx.nul k m j
  induction j with
  | zero => rfl
  | succ j ih =>
    have q := ih (Fx.cK_le Fx.nul k m j)
    show Fx.cK Fx.nul k m j + Fx.hit (Fx.nul j) k m = 0
    rw [q]
    rfl
theorem hi_g1 : Mo.HI Tr.g1 (fun _ => 0) := ⟨fun n _ => by
  show (if n = 0 then _ else Nd.no : Nd).held = 0
  split <;> rfl, fun n _ h => by omega⟩
theorem hi_h1 : Mo.HI (Tr.hol Tr.g1 (0 : Nat)) (fun n => 0 + Mo.oneI (0 : Nat) n) := hi_g1.hol (by rfl)
theorem tab01 (m : Nat) : tabX k01 m = Mo.oneI (0 : Nat) m := by
  show (((((0 + Mo.tc tb0 m) + 0) + 0) + 0) + 0) + 0 = _
  unfold Mo.tc
  rw [show tb0.ms = [] from rfl, Mo.mc_nil, show tb0.rt.2 = ((0 : Nat) : Int) from rfl]
  omega
theorem kj01 : KJ (fun _ => False) 1 k01 := by
  refine ⟨⟨_, Sp.inv0⟩, ⟨Gr.W0, chg_tree Gr.tree0 0 1 0 (by omega) (by omega)⟩, Fa.Fr.inv0, Fa.Fr.sync0, Nat.zero_le _, wld20, ?_, fun n _ => Nat.zero_le _, (show Tr.Ok (Tr.hol Tr.g1 ((0 : Nat) : Int)) from Tr.ok_g1.hol _), fun s hs h => ?_, fun n _ => Nat.zero_le _, fun n _ h => ?_, fun n _ _ h => ?_, fun n _ => ?_, fun s hs => ?_, fun n _ _ => rfl⟩
  · refine ⟨fun n _ _ => rfl, fun n _ h => absurd rfl h, fun n _ h => absurd rfl h, fun n _ h => absurd rfl h, fun n _ => Nat.zero_le _, fun m hm => ?_, fun m hm kz => ?_, fun m _ => (cK_nul 2 m 24).symm, fun m _ => (cK_nul 3 m 24).symm⟩
    · rw [tab01]
      show ((Tr.hol Tr.g1 (0 : Nat)).nd m).held = Fx.cK Fx.nul 1 m 24 + _
      rw [hi_h1.hd m hm, cK_nul]
    · by_cases c : ((Tr.hol Tr.g1 (0 : Nat)).nd m).held = 0
      · exact c
      · exact absurd kz (hi_h1.lv m hm (by rw [← hi_h1.hd m hm]; omega))
  · exact ⟨⟨⟨0, rfl, by omega⟩, fun m hm => by cases hm⟩, by show ([] : List Mt).length ≤ 6; exact Nat.zero_le _⟩
  · cases h
  · cases h
  · exact ⟨fun h => absurd rfl h, fun h => absurd rfl h⟩
  · show (if s = 0 then true else false) = decide (s = 0)
    by_cases e : s = 0
    · rw [if_pos e]; simp [e]
    · rw [if_neg e]; simp [e]
def kN (m : Fa.Fr.M) : Kp := staK k01 0 (frP 6) 0 m
theorem hd_t0 : Sp.HDs (Sp.entT Sp.t0 ((0 : Nat) : Int) ((0 : Nat) : Int)) := by
  refine ⟨fun s hs h => ?_, by decide⟩
  rw [(Sp.ent_here (t := Sp.t0) (z := 0) (x := 0) (by omega) rfl (by omega) rfl).1] at h
  have e : s = 0 := by
    by_cases c : s = 0
    · exact c
    · have : decide (s = 0) = true := h
      simp [c] at this
  subst e
  exact ⟨0, by omega, by decide, by decide⟩
theorem kh0 {m : Fa.Fr.M} (wk : Fa.Fr.WakeTo (Fa.Fr.addTaskM Fa.Fr.m0 ((0 : Nat) : Int) 0 100) ((0 : Nat) : Int) true m) : KH 1 (fun _ => 1) (kN m) := by
  have h := kj01
  have e : ∀ j, j ≠ 0 → (kN m).p j = Pr.no := fun j q => put_ne k01 0 j (frP 6) q
  have e2 : (kN m).p 0 = frP 6 := put_same k01 0 (frP 6)
  have esp : (kN m).sp = Sp.entT Sp.t0 ((0 : Nat) : Int) ((0 : Nat) : Int) := rfl
  have kj : KJ (fun _ => False) 1 (kN m) := by
    have iv : Sp.Inv (kN m).sp (fun _ => 1) := by rw [esp]; exact Sp.inv0.enter _ _
    refine ⟨⟨_, iv⟩, h.gr, (h.si.addTask _ _ _).wake wk, (sync_addTask h.si h.sy _ _ _).wake (h.si.addTask _ _ _) wk, ?_, ?_, h.wx, h.rf, h.ok, h.tb, fun j hj => ?_, fun j hj => ?_, fun j hj _ => ?_, fun j hj => ?_, fun s hs => ?_, fun j hj => ?_⟩
    · show m.now ≤ 1
      rw [wake_now wk, addTask_now]; exact Nat.zero_le _
    · have : (fun j => ((kN m).p j).mem) = fun _ => Mv.me0 := funext fun j => by
        by_cases q : j = 0
        · rw [q, e2]; rfl
        · rw [e j q]; rfl
      rw [this]; exact wld20
    · by_cases q : j = 0
      · rw [q, e2]; show 1 ≤ 2; omega
      · rw [e j q]; exact Nat.zero_le _
    · by_cases q : j = 0
      · rw [q, e2]; intro _; rfl
      · rw [e j q]; intro c; cases c
    · by_cases q : j = 0
      · rw [q, e2]; intro _; rfl
      · rw [e j q]; intro c; cases c
    · rw [esp, Sp.ent_of (t := Sp.t0) (z := 0) (x := 0) (by omega) rfl (by omega) rfl]
      by_cases q : j = 0
      · rw [q, e2, if_pos rfl]; exact ⟨fun _ => by show 1 ≠ 0; omega, fun _ => by omega⟩
      · rw [e j q, if_neg q]; exact ⟨fun c => absurd rfl c, fun c => absurd rfl c⟩
    · rw [esp, (Sp.ent_here (t := Sp.t0) (z := 0) (x := 0) (by omega) rfl (by omega) rfl).1]; exact h.ht s hs
    · by_cases q : j = 0
      · rw [q, e2]; intro c; cases c
      · rw [e j q]; intro _; rfl
  have vi : VI (fun _ => False) 1 (fun _ => 1) (kN m) := ⟨kj, by rw [esp]; exact Sp.inv0.enter _ _, hd_t0⟩
  have st : ∀ j, j ≠ 0 → ((kN m).p j).st = 0 := fun j q => by rw [e j q]; rfl
  refine ⟨⟨vi, fun j hj l hd1 => ?_, fun j hj q s => absurd (st j q) s, vi.h0⟩, fun j hj q s => absurd (st j q) s, by rw [lv1, e2]; rfl, by rw [e2]; rfl, fun j z hj s => ?_⟩
  · by_cases q : j = 0
    · subst q; exact absurd vi.h0 hd1
    · have := lv1.1 l; rw [st j q] at this; omega
  · by_cases q : j = 0
    · rw [q, e2] at s; have : (1 : Nat) = 2 := s; omega
    · rw [st j q] at s; omega
end Kn
end Go.Proofs.YtghogbngmcolmaaGreat
namespace Go.Proofs.YtghogbngmcolmaaGreat
open Go.RowKit
open Tr (Fo Nd)
open Mo (Wh Mt)
open Mv (Me Bk)
open Kn (Pr Kp St us KB KJ VI EI)
def knwC (v : Nat → Value) (o : Nat) : Value := if o < 240 then (if o % 12 = 4 then .pointer none else if o % 12 = 5 then .pointer none else .int .i64 0) else if o < 246 then .pointer none else v (o - 246)
def knwA (v : Nat → Value) : Array Value := ((List.range 253).map (knwC v)).toArray
theorem knwA_size (v : Nat → Value) : (knwA v).size = 253 := by simp [knwA]
theorem knwA_at (v : Nat → Value) (o : Nat) (h : o < 253) : (knwA v)[o]? = some (knwC v o) := by simp [knwA, h]
def knwP (a : Nat) : Value := .pointer (some ⟨a, 0, none⟩)
def knwV (a b c d e f : Nat) (i : Nat) : Value := if i = 0 then knwP a else if i = 1 then knwP b else if i = 2 then knwP c else if i = 3 then knwP d else if i = 4 then knwP e else if i = 5 then knwP f else .pointer none
set_option maxRecDepth 100000 in
theorem knw_built (a b c d e f : Nat) : Tryz.prog.built 77 [(2, knwP a), (3, knwP b), (4, knwP c), (5, knwP d), (6, knwP e), (7, knwP f)] = some (knwA (knwV a b c d e f)) := by kernel_rfl
section
variable {ops : Array Oper} {rest : List Oper} {x : Oper} {a : Act} {w : World} {Q : Exit → Act → World → Prop}
theorem wp_buildKn {y2 y3 y4 y5 y6 y7 : Operand} (a2 a3 a4 a5 a6 a7 : Nat) (hgd : x.guard = none) (ho : x.op = .build 77 #[(2, y2), (3, y3), (4, y4), (5, y5), (6, y6), (7, y7)]) (h2 : a.eval y2 = knwP a2) (h3 : a.eval y3 = knwP a3) (h4 : a.eval y4 = knwP a4) (h5 : a.eval y5 = knwP a5) (h6 : a.eval y6 = knwP a6) (h7 : a.eval y7 = knwP a7) (h : wpList Tryz.prog ops Q rest (a.put x.dst (.agg (knwA (knwV a2 a3 a4 a5 a6 a7)))) w) : wpList Tryz.prog ops Q (x :: rest) a w :=
  wpList_build hgd 77 #[(2, y2), (3, y3), (4, y4), (5, y5), (6, y6), (7, y7)] ho (by simp [h2, h3, h4, h5, h6, h7, knw_built]) (by simpa [h2, h3, h4, h5, h6, h7, knw_built] using h)
end
structure NW (w : World) (a0 a1 a2 a3 a4 a5 a6 a7 : Nat) (W : World) : Prop where
  sp : Tb true W a1 Sp.t0
  gr : Gr.TAt W a2 Gr.t0
  sc : Fa.Fair W a3 Fa.Fr.m0
  bk : VAt W a4 a5 Mv.bk0
  fo : FAt W a6 Tr.f0
  pi : PAt W a7 Pp.nul
  ke : W.heap[a0]? = some (.cells (knwA (knwV a1 a2 a3 a4 a6 a7)) 77 (0, 0))
  bl : Below w.heap.size w W
  od : w.heap.size = a1 ∧ a1 < a2 ∧ a2 < a3 ∧ a3 < a5 ∧ a5 < a4 ∧ a4 < a6 ∧ a6 < a7 ∧ a7 < a0
theorem NW.lt {w : World} {a0 a1 a2 a3 a4 a5 a6 a7 : Nat} {W : World} (h : NW w a0 a1 a2 a3 a4 a5 a6 a7 W) : a0 < W.heap.size := (Array.getElem?_eq_some_iff.1 h.ke).1
theorem NW.cell {w : World} {a0 a1 a2 a3 a4 a5 a6 a7 : Nat} {W : World} (h : NW w a0 a1 a2 a3 a4 a5 a6 a7 W) (o : Nat) (ho : o < 253) : W.cell? ⟨a0, o, none⟩ = some (knwC (knwV a1 a2 a3 a4 a6 a7) o) := by rw [cell_blk h.ke, knwA_at _ o ho]
def nwA (a0 a1 a2 a3 a4 a5 a6 a7 a8 i : Nat) : Nat := [a0, a1, a2, a3, a4, a5, a6, a7, a8].getD i 0
set_option maxRecDepth 100000 in
theorem NW.kkt {w : World} {base a0 a1 a2 a3 a4 a5 a6 a7 a8 : Nat} {W W' : World} (h : NW w a0 a1 a2 a3 a4 a5 a6 a7 W) (hb : base ≤ w.heap.size) (e8 : W.heap.size = a8) (xa : XAt W' a8 a6 a7 Fx.nul) (bl : Below W.heap.size W W') :
    KKt (W'.setCell ⟨a0, 252, none⟩ (.pointer (some ⟨a8, 0, none⟩))) base ⟨nwA a0 a1 a2 a3 a4 a5 a6 a7 a8, fun _ => .slice none 0 0, Kn.k00⟩ ∧ Below w.heap.size w (W'.setCell ⟨a0, 252, none⟩ (.pointer (some ⟨a8, 0, none⟩))) := by
  have od := h.od
  have l0 := h.lt
  have k1 : W'.heap[a0]? = some (.cells (knwA (knwV a1 a2 a3 a4 a6 a7)) 77 (0, 0)) := (bl.block _ l0).trans h.ke
  have fr : Frm a0 W' (W'.setCell ⟨a0, 252, none⟩ (.pointer (some ⟨a8, 0, none⟩))) := (Frm.refl _ _).setCell _ _
  have ls := bl.size
  have bk : ∀ b, b < a0 → (W'.setCell ⟨a0, 252, none⟩ (.pointer (some ⟨a8, 0, none⟩))).heap[b]? = W.heap[b]? := fun b hb => (fr.block b (by omega) (by omega)).trans (bl.block b (by omega))
  have us9' : ∀ i, us ⟨nwA a0 a1 a2 a3 a4 a5 a6 a7 a8, fun _ => .slice none 0 0, Kn.k00⟩ i → i < 9 := fun i hi => by
    rcases hi with hi | ⟨_, _, q⟩ | ⟨_, _, q⟩ | ⟨_, _, q⟩ | ⟨_, _, q, _⟩
    · exact hi
    · cases q
    · cases q
    · cases q
    · cases q
  have nd : ∀ i, i < 9 → ∀ j, j < 9 → nwA a0 a1 a2 a3 a4 a5 a6 a7 a8 i = nwA a0 a1 a2 a3 a4 a5 a6 a7 a8 j → i = j := by
    have n : [a0, a1, a2, a3, a4, a5, a6, a7, a8].Nodup := by
      simp only [List.nodup_cons, List.mem_cons, List.not_mem_nil, or_false, not_or, List.nodup_nil, not_false_eq_true, and_true]
      omega
    intro i hi j hj e
    unfold nwA at e
    rw [List.getD_eq_getElem?_getD, List.getD_eq_getElem?_getD, List.getElem?_eq_getElem (by simpa using hi), List.getElem?_eq_getElem (by simpa using hj), Option.getD_some, Option.getD_some] at e
    rcases Nat.lt_trichotomy i j with q | q | q
    · exact absurd e (List.pairwise_iff_getElem.1 n i j _ _ q)
    · exact q
    · exact absurd e.symm (List.pairwise_iff_getElem.1 n j i _ _ q)
  refine ⟨⟨⟨_, blk_set k1 252 _, by simp [knwA_size]⟩, fun o ho => ?_, h.sp.same (bk a1 (by omega)), (bk a2 (by omega)).trans h.gr, h.sc.same (bk a3 (by omega)), h.bk.same (bk a4 (by omega)) (bk a5 (by omega)), xa.same (fr.block a8 xa.lt (by omega)), h.fo.same (bk a6 (by omega)), h.pi.same (bk a7 (by omega)), fun n _ q => (by cases q), fun n _ q => (by cases q), fun n _ q => (by cases q), fun n _ q => (by cases q), fun i j hi hj e => nd i (us9' i hi) j (us9' j hj) e, fun i hi => ?_⟩, fr.below (h.bl.trans (bl.mono h.bl.size)) (by omega) (by have := h.bl.size; omega)⟩
  · show (W'.setCell ⟨a0, 252, none⟩ _).cell? ⟨a0, o, none⟩ = _
    by_cases q : o = 252
    · subst q
      rw [cell_set_same k1 _ _ (by rw [knwA_size]; omega)]
      unfold Kn.kc
      rw [if_neg (by omega), if_neg (by omega), if_neg (by omega), show 252 - 244 = 8 by omega]
      rfl
    · rw [cell_set_ne k1 _ _ _ (Ne.symm q), cell_blk k1, knwA_at _ o ho]
      congr 1
      unfold knwC Kn.kc
      by_cases c : o < 240
      · rw [if_pos c, if_pos c]
        unfold Kn.pc
        have m : o % 12 < 12 := Nat.mod_lt _ (by omega)
        generalize o % 12 = j at m
        match j, m with
        | 0, _ => rfl
        | 1, _ => rfl
        | 2, _ => rfl
        | 3, _ => rfl
        | 4, _ => rfl
        | 5, _ => rfl
        | j + 6, _ =>
          rw [if_neg (by omega), if_neg (by omega)]
          unfold Kn.pcx
          rw [if_neg (by omega), if_neg (by omega), if_neg (by omega), if_neg (by omega), if_neg (by omega), if_neg (by omega)]
          rfl
      · rw [if_neg c, if_neg c]
        by_cases c2 : o < 246
        · rw [if_pos c2, if_pos c2]; rfl
        · rw [if_neg c2, if_neg c2]
          have q2 : o = 246 ∨ o = 247 ∨ o = 248 ∨ o = 249 ∨ o = 250 ∨ o = 251 := by omega
          rcases q2 with rfl | rfl | rfl | rfl | rfl | rfl <;> rfl
  · have i9 := us9' i hi
    have q : i = 0 ∨ i = 1 ∨ i = 2 ∨ i = 3 ∨ i = 4 ∨ i = 5 ∨ i = 6 ∨ i = 7 ∨ i = 8 := by omega
    rcases q with rfl | rfl | rfl | rfl | rfl | rfl | rfl | rfl | rfl
    · show base ≤ a0; omega
    · show base ≤ a1; omega
    · show base ≤ a2; omega
    · show base ≤ a3; omega
    · show base ≤ a4; omega
    · show base ≤ a5; omega
    · show base ≤ a6; omega
    · show base ≤ a7; omega
    · show base ≤ a8; omega
end Go.Proofs.YtghogbngmcolmaaGreat
namespace Go.Proofs.YtghogbngmcolmaaGreat
open Go.RowKit
open Tr (Fo Nd)
open Mo (Wh Mt)
open Mv (Me Bk)
open Kn (Pr Kp St us KB KJ VI EI)
set_option maxRecDepth 100000 in
set_option maxHeartbeats 4000000 in
theorem knew_any (w : World) :
    Calls Tryz.prog 21 #[] w fun e w' => ∃ (s : St) (m : Fa.Fr.M), e = .returned (.pointer (some ⟨s.A 0, 0, none⟩)) ∧ s.k = Kn.kN m ∧ Fa.Fr.WakeTo (Fa.Fr.addTaskM Fa.Fr.m0 ((0 : Nat) : Int) 0 100) ((0 : Nat) : Int) true m ∧ KKt w' w.heap.size s ∧ Below w.heap.size w w' := by
  obtain ⟨base, hbs⟩ : ∃ base, w.heap.size = base := ⟨_, rfl⟩
  have HB : Hid (base ≤ w.heap.size) := Hid.intro (by omega)
  have HBS := Hid.intro hbs
  clear hbs
  go_enter Tryz.func21, Tryz.ntmps21
  go_wp2_with fail
  refine (new_any _).mono ?_
  rintro e w1 ⟨rfl, t1, b1, l1⟩
  have S1 := Hid.intro (And.intro t1 (And.intro b1 l1))
  clear t1 b1 l1
  go_wp2_with fail
  refine (Gr.new_any _).mono ?_
  rintro e w2 ⟨rfl, t2, b2⟩
  have S2 := Hid.intro (And.intro t2 b2)
  clear t2 b2
  go_wp2_with fail
  refine (Fa.new_any _).mono ?_
  rintro e w3 ⟨rfl, t3, b3, l3⟩
  have S3 := Hid.intro (And.intro t3 (And.intro b3 l3))
  clear t3 b3 l3
  go_wp2_with fail
  refine (vnewBank_any _).mono ?_
  rintro e w4 ⟨a4, rfl, t4, b4, l4⟩
  have S4 := Hid.intro (And.intro t4 (And.intro b4 l4))
  clear t4 b4 l4
  go_wp2_with fail
  refine (tnew_any _).mono ?_
  rintro e w5 ⟨rfl, t5, b5⟩
  have S5 := Hid.intro (And.intro t5 b5)
  clear t5 b5
  have F7 : Hid (NW w (w5.heap.size + 1) w.heap.size w1.heap.size w2.heap.size a4 w3.heap.size w4.heap.size w5.heap.size ((w5.alloc (.cells Pp.zA 108)).alloc (.cells (knwA (knwV w.heap.size w1.heap.size w2.heap.size a4 w4.heap.size w5.heap.size)) 77))) := Hid.intro (by
    obtain ⟨p6, c6⟩ := pzero_alloc w5
    have z6 : (w5.alloc (.cells Pp.zA 108)).heap.size = w5.heap.size + 1 := by simp
    have c7 : Below (w5.alloc (.cells Pp.zA 108)).heap.size (w5.alloc (.cells Pp.zA 108)) ((w5.alloc (.cells Pp.zA 108)).alloc (.cells (knwA (knwV w.heap.size w1.heap.size w2.heap.size a4 w4.heap.size w5.heap.size)) 77)) := (Below.refl _ _).alloc (Nat.le_refl _) _
    have N := heap_alloc_new (w5.alloc (.cells Pp.zA 108)) (.cells (knwA (knwV w.heap.size w1.heap.size w2.heap.size a4 w4.heap.size w5.heap.size)) 77)
    rw [z6] at N
    have e5 := c6.trans (c7.mono (by omega))
    have e4 := S5.out.2.trans (e5.mono S5.out.2.size)
    have e3 := S4.out.2.1.trans (e4.mono S4.out.2.1.size)
    have e2 := S3.out.2.1.trans (e3.mono S3.out.2.1.size)
    have e1 := S2.out.2.trans (e2.mono S2.out.2.size)
    have e0 := S1.out.2.1.trans (e1.mono S1.out.2.1.size)
    have g2 := S2.out.1.lt
    have g3 := S3.out.2.2
    have g4 := S4.out.2.2
    have g4' := S4.out.1.lt
    have g5 := S5.out.1.lt
    exact ⟨S1.out.1.same (e1.block _ S1.out.2.2), (e2.block _ g2).trans S2.out.1, S3.out.1.same (e3.block _ g3), S4.out.1.same (e4.block _ g4') (e4.block _ S4.out.1.ltq), S5.out.1.same (e5.block _ g5), p6.same (c7.block _ (by omega)), N, e0, rfl, S1.out.2.2, g2, g3, g4, g4', g5, by omega⟩)
  obtain ⟨a1, h1⟩ : ∃ a1, w.heap.size = a1 := ⟨_, rfl⟩
  obtain ⟨a2, h2⟩ : ∃ a2, w1.heap.size = a2 := ⟨_, rfl⟩
  obtain ⟨a3, h3⟩ : ∃ a3, w2.heap.size = a3 := ⟨_, rfl⟩
  obtain ⟨a5, h5⟩ : ∃ a5, w3.heap.size = a5 := ⟨_, rfl⟩
  obtain ⟨a6, h6⟩ : ∃ a6, w4.heap.size = a6 := ⟨_, rfl⟩
  have H1 := Hid.intro h1
  rw [h1, h2, h3, h5, h6] at F7
  rw [h1, h2, h3, h6]
  obtain ⟨KA, hKA⟩ : ∃ KA, knwA (knwV a1 a2 a3 a4 a6 w5.heap.size) = KA := ⟨_, rfl⟩
  have HKA := Hid.intro hKA
  rw [hKA] at F7
  clear S1 S2 S3 S4 S5 h1 h2 h3 h5 h6
  go_upto_region 2 with (first | (refine Pp.wp_buildS rfl rfl ?_) | (refine wp_buildKn a1 a2 a3 a4 a6 w5.heap.size rfl rfl rfl rfl rfl rfl rfl rfl ?_; rw [hKA]))
  obtain ⟨a7, h7⟩ : ∃ a7, w5.heap.size = a7 := ⟨_, rfl⟩
  obtain ⟨a0, h0⟩ : ∃ a0, w5.heap.size + 1 = a0 := ⟨_, rfl⟩
  generalize (w5.alloc (.cells Pp.zA 108)).alloc (.cells KA 77) = W7 at F7 ⊢
  rw [h0] at F7 ⊢
  rw [h7] at F7 ⊢
  clear hKA HKA h7 h0
  have K0 : Hid (W7.cell? ⟨a0, 250, none⟩ = some (.pointer (some ⟨a6, 0, none⟩)) ∧ W7.cell? ⟨a0, 251, none⟩ = some (.pointer (some ⟨a7, 0, none⟩))) := Hid.intro ⟨F7.out.cell 250 (by omega), F7.out.cell 251 (by omega)⟩
  have XN := Hid.intro (xnew_any a6 a7 W7.drew)
  obtain ⟨a8, h8⟩ : ∃ a8, W7.heap.size = a8 := ⟨_, rfl⟩
  have hd8 : W7.drew.heap.size = a8 := h8
  have H8 := Hid.intro h8
  rw [hd8] at XN
  have FIN : Hid (∀ w8, XAt w8 a8 a6 a7 Fx.nul → Below a8 W7.drew w8 → (KKt (w8.setCell ⟨a0, 252, none⟩ (.pointer (some ⟨a8, 0, none⟩))) base ⟨nwA a0 a1 a2 a3 a4 a5 a6 a7 a8, fun _ => .slice none 0 0, Kn.k00⟩ ∧ Below w.heap.size w (w8.setCell ⟨a0, 252, none⟩ (.pointer (some ⟨a8, 0, none⟩)))) ∧ (w8.cell? ⟨a0, 250, none⟩ = some (.pointer (some ⟨a6, 0, none⟩)) ∧ w8.cell? ⟨a0, 251, none⟩ = some (.pointer (some ⟨a7, 0, none⟩))) ∧ ((w8.setCell ⟨a0, 252, none⟩ (.pointer (some ⟨a8, 0, none⟩))).cell? ⟨a0, 250, none⟩ = some (.pointer (some ⟨a6, 0, none⟩)) ∧ (w8.setCell ⟨a0, 252, none⟩ (.pointer (some ⟨a8, 0, none⟩))).cell? ⟨a0, 251, none⟩ = some (.pointer (some ⟨a7, 0, none⟩))) ∧ (∃ v, w8.cell? ⟨a0, 252, none⟩ = some v) ∧ ∀ o, w8.frozen? ⟨a0, o, none⟩ = false) := Hid.intro (fun w8 xa bl => by
    have bl' : Below W7.heap.size W7 w8 := by rw [H8.out]; exact ⟨bl.os, bl.tape, bl.output, by have := bl.size; exact this, bl.block⟩
    have q := F7.out.kkt HB.out H8.out xa bl'
    have ke : w8.heap[a0]? = some (.cells (knwA (knwV a1 a2 a3 a4 a6 a7)) 77 (0, 0)) := (bl'.block _ F7.out.lt).trans F7.out.ke
    have c : ∀ o, w8.cell? ⟨a0, o, none⟩ = W7.cell? ⟨a0, o, none⟩ := fun o => World.cell?_of_block (bl'.block _ F7.out.lt)
    refine ⟨q, by rw [c, c]; exact K0.out, ⟨by rw [cell_set_ne ke _ _ _ (by omega), c]; exact K0.out.1, by rw [cell_set_ne ke _ _ _ (by omega), c]; exact K0.out.2⟩, ⟨_, by rw [c]; exact F7.out.cell 252 (by omega)⟩, fun o => frozen_blk ke o⟩)
  clear h8 hd8
  obtain ⟨y1, y2⟩ := K0.out
  go_region_held3 (fun w' => w'.cell? ⟨a0, 250, none⟩ = some (.pointer (some ⟨a6, 0, none⟩)) ∧ w'.cell? ⟨a0, 251, none⟩ = some (.pointer (some ⟨a7, 0, none⟩))) (first | exact K0.out | exact S8.out.2.1 | exact S8.out.2.2.1) (
    (go_at_call 57; refine XN.out.mono ?_; rintro e w8 ⟨rfl, xa, bl⟩; have S8 := Hid.intro (FIN.out w8 xa bl); clear xa bl; have cy := S8.out.2.2.2.1; obtain ⟨vy, cy⟩ := cy; have fz := S8.out.2.2.2.2))
  have S9 := Hid.intro S8.out.1
  clear FIN K0 XN y1 y2 cy fz
  generalize w8.setCell ⟨a0, 252, none⟩ (.pointer (some ⟨a8, 0, none⟩)) = W9 at *
  clear S8
  have AA : Hid (nwA a0 a1 a2 a3 a4 a5 a6 a7 a8 0 = a0 ∧ nwA a0 a1 a2 a3 a4 a5 a6 a7 a8 2 = a2 ∧ nwA a0 a1 a2 a3 a4 a5 a6 a7 a8 4 = a4 ∧ nwA a0 a1 a2 a3 a4 a5 a6 a7 a8 6 = a6) := Hid.intro ⟨rfl, rfl, rfl, rfl⟩
  generalize nwA a0 a1 a2 a3 a4 a5 a6 a7 a8 = A at S9 AA
  have c250 := S9.out.1.cFo
  rw [show (⟨A, fun _ => .slice none 0 0, Kn.k00⟩ : St).A 0 = a0 from AA.out.1, show (⟨A, fun _ => .slice none 0 0, Kn.k00⟩ : St).A 6 = a6 from AA.out.2.2.2] at c250
  have PL : Hid (Calls Tryz.prog 58 #[.pointer (some ⟨a6, 0, none⟩)] W9 fun e w' => ∃ v, e = .returned v ∧ KKt w' base ⟨A, fun _ => .slice none 0 0, { Kn.k00 with fo := Tr.g1 }⟩ ∧ Below w.heap.size w w') := Hid.intro (by
    have fo : FAt W9 (A 6) Tr.f0 := S9.out.1.fo
    have q := tplant_any (A 6) Tr.f0 W9 fo (by decide)
    rw [AA.out.2.2.2] at q
    refine q.mono ?_
    rintro e w' ⟨T, E, G, rfl, hp, h2, k2⟩
    obtain ⟨rfl, rfl, rfl⟩ := Tr.pla_first hp
    rw [← AA.out.2.2.2] at h2 k2
    have q2 := S9.out.1.setFo h2 k2
    exact ⟨_, rfl, q2.1, k2.below S9.out.2 (by rw [HBS.out]; exact S9.out.1.low 6 (us9 (by omega))) S9.out.2.size⟩)
  go_wp2_with fail
  refine PL.out.mono ?_
  rintro e w10 ⟨v10, rfl, k10, b10⟩
  have S10 := Hid.intro (And.intro k10 b10)
  clear k10 b10 PL c250 S9
  go_upto_region 4 with fail
  have K0 : Hid (w10.cell? ⟨a0, 250, none⟩ = some (.pointer (some ⟨a6, 0, none⟩))) := Hid.intro (by
    have q := S10.out.1.cFo
    rw [show (⟨A, fun _ => .slice none 0 0, { Kn.k00 with fo := Tr.g1 }⟩ : St).A 0 = a0 from AA.out.1, show (⟨A, fun _ => .slice none 0 0, { Kn.k00 with fo := Tr.g1 }⟩ : St).A 6 = a6 from AA.out.2.2.2] at q
    exact q)
  have MN : Hid (Calls Tryz.prog 59 #[.pointer (some ⟨a6, 0, none⟩), .int .i64 0] w10.drew fun e w' => ∃ b, e = .returned (.tuple #[.pointer (some ⟨b, 0, none⟩), .nilIface]) ∧ KKt (w'.setCell ⟨a0, 240, none⟩ (.pointer (some ⟨b, 0, none⟩))) base (Kn.openA ⟨A, fun _ => .slice none 0 0, { Kn.k00 with fo := Tr.hol Tr.g1 ((0 : Nat) : Int) }⟩ 0 b (.slice none 0 0) Kn.tb0) ∧ Below w.heap.size w (w'.setCell ⟨a0, 240, none⟩ (.pointer (some ⟨b, 0, none⟩))) ∧ w'.cell? ⟨a0, 250, none⟩ = some (.pointer (some ⟨a6, 0, none⟩)) ∧ (w'.setCell ⟨a0, 240, none⟩ (.pointer (some ⟨b, 0, none⟩))).cell? ⟨a0, 250, none⟩ = some (.pointer (some ⟨a6, 0, none⟩)) ∧ (∃ v, w'.cell? ⟨a0, 240, none⟩ = some v) ∧ ∀ o, w'.frozen? ⟨a0, o, none⟩ = false) := Hid.intro (by
    have fo : FAt w10.drew (A 6) Tr.g1 := S10.out.1.drew.fo
    have q := new_yes (A 6) 0 Tr.g1 0 w10.drew fo (by rfl) (fun n hn => by rw [Kn.hi_g1.hd n hn]; exact Nat.le_refl 0) (by omega)
    rw [AA.out.2.2.2] at q
    refine q.mono ?_
    rintro e w' ⟨b, rfl, lb, tt, h2, k2⟩
    rw [← AA.out.2.2.2] at h2 k2
    have q2 := S10.out.1.drew.setFo h2 k2
    have lt : ∀ i, us ⟨A, fun _ => .slice none 0 0, { Kn.k00 with fo := Tr.g1 }⟩ i → A i < b := fun i hi => Nat.lt_of_lt_of_le (S10.out.1.lt hi) lb
    have tt0 := tt base
    rw [← AA.out.2.2.2] at tt0
    have q3 := q2.1.openT (y := 0) (c := b) (by omega) (v := .slice none 0 0) (T := Kn.tb0) tt0 (fun i hi => by have := lt i hi; show A i ≠ b; omega) (fun g eg => by cases eg) (by have := S10.out.2.size; have := HBS.out; have e1 : w10.heap.size ≤ b := lb; omega)
    have e0 : A 0 = a0 := AA.out.1
    rw [show (⟨A, fun _ => .slice none 0 0, { Kn.k00 with fo := Tr.hol Tr.g1 ((Tr.rootN Tr.g1 0 : Nat) : Int) }⟩ : St).A 0 = a0 from e0] at q3
    have b2 : Below w.heap.size w w' := k2.below S10.out.2.drew (by rw [HBS.out]; exact S10.out.1.low 6 (us9 (by omega))) S10.out.2.size
    obtain ⟨C, ke, _⟩ := q2.1.ker
    have ke' : w'.heap[a0]? = some (.cells C 77 (0, 0)) := by rw [← e0]; exact ke
    have l0 : w.heap.size ≤ a0 := by rw [HBS.out, ← e0]; exact S10.out.1.low 0 (us9 (by omega))
    have q4 : w'.cell? ⟨a0, 250, none⟩ = some (.pointer (some ⟨a6, 0, none⟩)) := by have := q2.1.cFo; rw [← e0, ← AA.out.2.2.2]; exact this
    refine ⟨b, rfl, q3.1, q3.2.below b2 l0 b2.size, q4, by rw [cell_set_ne ke' _ _ _ (by omega)]; exact q4, ?_, fun o => frozen_blk ke' o⟩
    have := q2.1.cel 240 (by omega)
    rw [← e0]
    exact ⟨_, this⟩)
  have y1 := K0.out
  go_region_held3 (fun w' => w'.cell? ⟨a0, 250, none⟩ = some (.pointer (some ⟨a6, 0, none⟩))) (first | exact K0.out | exact S11.out.2.2.1 | exact S11.out.2.2.2.1) (
    (go_at_call 59; refine MN.out.mono ?_; rintro e w11 ⟨tb, rfl, q1, q2, q3, q4, q5, q6⟩; have S11 := Hid.intro (And.intro q1 (And.intro q2 (And.intro q3 (And.intro q4 (And.intro q5 q6))))); clear q1 q2 q3 q4 q5 q6; have cy := S11.out.2.2.2.2.1; obtain ⟨vy, cy⟩ := cy; have fz := S11.out.2.2.2.2.2))
  have S12 := Hid.intro (And.intro S11.out.1 S11.out.2.1)
  clear K0 MN y1 cy fz S10
  generalize w11.setCell ⟨a0, 240, none⟩ (.pointer (some ⟨tb, 0, none⟩)) = W12 at *
  clear S11
  have EO : Hid ((Kn.openA ⟨A, fun _ => .slice none 0 0, { Kn.k00 with fo := Tr.hol Tr.g1 ((0 : Nat) : Int) }⟩ 0 tb (.slice none 0 0) Kn.tb0).A 0 = a0 ∧ (Kn.openA ⟨A, fun _ => .slice none 0 0, { Kn.k00 with fo := Tr.hol Tr.g1 ((0 : Nat) : Int) }⟩ 0 tb (.slice none 0 0) Kn.tb0).A 2 = a2 ∧ (Kn.openA ⟨A, fun _ => .slice none 0 0, { Kn.k00 with fo := Tr.hol Tr.g1 ((0 : Nat) : Int) }⟩ 0 tb (.slice none 0 0) Kn.tb0).A 4 = a4 ∧ ({ (Kn.openA ⟨A, fun _ => .slice none 0 0, { Kn.k00 with fo := Tr.hol Tr.g1 ((0 : Nat) : Int) }⟩ 0 tb (.slice none 0 0) Kn.tb0).k with gr := Gr.chgT Gr.t0 Gr.W0 0 1 0 } : Kp) = Kn.k01) := Hid.intro (by
    refine ⟨(Kn.openA_o _ _ _ _ _ (by omega) (by omega)).trans AA.out.1, (Kn.openA_o _ _ _ _ _ (by omega) (by omega)).trans AA.out.2.1, (Kn.openA_o _ _ _ _ _ (by omega) (by omega)).trans AA.out.2.2.1, ?_⟩
    have tbe : (fun i => if i = 0 then Kn.tb0 else Kn.tb0) = fun _ : Nat => Kn.tb0 := funext fun i => by split <;> rfl
    show (⟨fun _ => Pr.no, fun i => if i = 0 then true else false, fun i => if i = 0 then Kn.tb0 else Kn.tb0, Sp.t0, Gr.chgT Gr.t0 Gr.W0 0 1 0, Fa.Fr.m0, Mv.bk0, Tr.hol Tr.g1 ((0 : Nat) : Int), Pp.nul, Fx.nul⟩ : Kp) = _
    rw [tbe]
    rfl)
  have GRK : Hid ((Kn.openA ⟨A, fun _ => .slice none 0 0, { Kn.k00 with fo := Tr.hol Tr.g1 ((0 : Nat) : Int) }⟩ 0 tb (.slice none 0 0) Kn.tb0).k.gr = Gr.t0) := Hid.intro rfl
  generalize Kn.openA ⟨A, fun _ => .slice none 0 0, { Kn.k00 with fo := Tr.hol Tr.g1 ((0 : Nat) : Int) }⟩ 0 tb (.slice none 0 0) Kn.tb0 = s1 at *
  have c247 := S12.out.1.cGr
  rw [EO.out.1, EO.out.2.1] at c247
  have CG : Hid (Calls Tryz.prog 31 #[.pointer (some ⟨a2, 0, none⟩), .int .i64 0, .int .i64 1, .int .i64 0] W12 fun e w' => ∃ v, e = .returned v ∧ KKt w' base { s1 with k := Kn.k01 } ∧ Below w.heap.size w w') := Hid.intro (by
    have gt := S12.out.1.gr
    rw [GRK.out] at gt
    have q := Gr.charge_any (s1.A 2) 0 1 0 Gr.t0 Gr.W0 W12 gt Gr.tree0.ways (Gr.tree0.small (by omega))
    rw [EO.out.2.1] at q
    refine q.mono ?_
    rintro e w' ⟨rfl, t4, f4⟩
    rw [← EO.out.2.1] at t4 f4
    have q2 := S12.out.1.setGr t4 f4.std
    rw [EO.out.2.2.2] at q2
    exact ⟨_, rfl, q2.1, f4.std.below S12.out.2 (by rw [HBS.out]; exact S12.out.1.low 2 (us9 (by omega))) S12.out.2.size⟩)
  go_wp2_with fail
  refine CG.out.mono ?_
  rintro e w13 ⟨v13, rfl, k13, b13⟩
  have S13 := Hid.intro (And.intro k13 b13)
  clear k13 b13 CG c247 S12 GRK
  have FP : Hid (Calls Tryz.prog 60 #[.pointer (some ⟨a0, 0, none⟩)] w13 fun e w' => ∃ mb bb, e = .returned (.agg (prA mb bb (Kn.frP 6))) ∧ UAt w' mb a4 Mv.me0 ∧ CX w' bb Sg.nul ∧ Below w13.heap.size w13 w' ∧ w13.heap.size ≤ mb ∧ w13.heap.size ≤ bb ∧ mb ≠ bb) := Hid.intro (kfirst_any a0 a4 w13 (by have := S13.out.1.cBk; rw [show ({ s1 with k := Kn.k01 } : St).A 0 = a0 from EO.out.1, show ({ s1 with k := Kn.k01 } : St).A 4 = a4 from EO.out.2.2.1] at this; exact this) (by have := S13.out.1.lt (us9 (i := 0) (by omega)); rw [show ({ s1 with k := Kn.k01 } : St).A 0 = a0 from EO.out.1] at this; exact this))
  go_wp2_with fail
  refine FP.out.mono ?_
  rintro e w14 ⟨mb, bb, rfl, um, ub, bl, lm, lb, mn⟩
  have S14 : Hid (KKt w14 base { s1 with k := Kn.k01 } ∧ Below w.heap.size w w14) := Hid.intro ⟨S13.out.1.below bl, S13.out.2.trans (bl.mono S13.out.2.size)⟩
  have lt : ∀ i, us { s1 with k := Kn.k01 } i → s1.A i < w13.heap.size := fun i hi => S13.out.1.lt hi
  have bs := S13.out.2.size
  have ST0 := kstart_any base { s1 with k := Kn.k01 } w14 0 mb bb (Kn.frP 6) ((0 : Nat) : Int) (fun _ => 1) S14.out.1 (by omega) Sp.inv0 Fa.Fr.inv0 (by rw [show ({ s1 with k := Kn.k01 } : St).A 4 = a4 from EO.out.2.2.1]; exact um) ub (fun i hi => by have := lt i hi; show s1.A i ≠ mb; omega) (fun i hi => by have := lt i hi; show s1.A i ≠ bb; omega) mn (by have := HBS.out; omega) (by have := HBS.out; omega)
  rw [show ({ s1 with k := Kn.k01 } : St).A 0 = a0 from EO.out.1] at ST0
  obtain ⟨PA, hPA⟩ : ∃ PA, prA mb bb (Kn.frP 6) = PA := ⟨_, rfl⟩
  rw [hPA] at ST0 ⊢
  have ST : Hid (Calls Tryz.prog 34 #[.pointer (some ⟨a0, 0, none⟩), .int .i64 0, .agg PA, .int .i64 0] w14 fun e w' => ∃ m', e = .returned (.tuple #[]) ∧ Fa.Fr.WakeTo (Fa.Fr.addTaskM Fa.Fr.m0 ((0 : Nat) : Int) 0 100) ((0 : Nat) : Int) true m' ∧ KKt w' base { Kn.bornA { s1 with k := Kn.k01 } 0 mb bb (Kn.frP 6) with k := Kn.kN m' } ∧ Onl (KB { s1 with k := Kn.k01 }) w14 w') := Hid.intro ST0
  clear ST0 um ub bl lm lb mn lt bs hPA FP
  go_wp2_with fail
  refine ST.out.mono ?_
  rintro e w15 ⟨m', rfl, wk, k15, o15⟩
  have S15 : Hid (Fa.Fr.WakeTo (Fa.Fr.addTaskM Fa.Fr.m0 ((0 : Nat) : Int) 0 100) ((0 : Nat) : Int) true m' ∧ KKt w15 base { Kn.bornA { s1 with k := Kn.k01 } 0 mb bb (Kn.frP 6) with k := Kn.kN m' } ∧ Below w.heap.size w w15) := Hid.intro ⟨wk, k15, o15.behind S14.out.2 (fun b hb => by rw [HBS.out]; exact S14.out.1.klow hb) S14.out.2.size⟩
  clear wk k15 o15 ST
  go_wp2_with fail
  go_ret
  refine ⟨{ Kn.bornA { s1 with k := Kn.k01 } 0 mb bb (Kn.frP 6) with k := Kn.kN m' }, m', ?_, rfl, S15.out.1, by rw [HBS.out]; exact S15.out.2.1, S15.out.2.2⟩
  rw [show ({ Kn.bornA { s1 with k := Kn.k01 } 0 mb bb (Kn.frP 6) with k := Kn.kN m' } : St).A 0 = a0 from (Kn.bornA_o { s1 with k := Kn.k01 } 0 mb bb (Kn.frP 6) (i := 0) (by omega) (by omega)).trans EO.out.1]
  rfl
end Go.Proofs.YtghogbngmcolmaaGreat

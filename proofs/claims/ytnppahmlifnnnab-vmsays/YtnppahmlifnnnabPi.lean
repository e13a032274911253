/- The law VmSays: the closed fact 'pages'; how both sides begin. -/
import Derived.Test.YtnppahmlifnnnabPh
import Derived.Test.YtnppahmlifnnnabXl
namespace Go.Proofs.Ytnppahmlifnnnab
open Go.RowKit
open Bd (P)
open Mv (Me Bk)

namespace Bd
theorem vbest0 : Best b0 0 0 := ⟨by omega, by decide, rfl, fun j _ h _ => by
  by_cases c : j = 0
  · subst c; exact .inr ⟨rfl, Nat.le_refl _⟩
  · have : (if j = 0 then 7 else 0) > 0 := h
    rw [if_neg c] at this; omega⟩
theorem vtake0 {e : Int} {r : Nat} {p : P} (h : TakeTo b0 0 e r p) : e = 0 ∧ r = 0 ∧ p = takeB b0 0 0 := by
  have k : TakeTo b0 0 0 0 (takeB b0 0 0) := .inr (.inr ⟨by decide, vbest0, rfl, rfl⟩)
  exact h.unique k
theorem vleft1 : left (takeB b0 0 0) = 63 := by decide +kernel
end Bd
namespace Mv
def pg1 : Me := mapM me0 2 3 true
def pg2 : Me := { pg1 with fr := upn pg1.fr 2 1 }
def pk2 : Bk := clr bk0 (Bd.takeB Bd.b0 0 0) 0
def pk3 : Bk := stB pk2 0 1 5
theorem pgE : mapE me0 2 3 = 0 := by decide +kernel
theorem pgMay : mayB pg1 17 true = true := by decide +kernel
theorem pgMay2 : mayB pg2 17 false = true := by decide +kernel
theorem pgRes : resK pg2 16 = 1 := by decide +kernel
theorem pgReg : (rgK pg2 16).length = 1 := by decide +kernel
theorem pgFr : pg1.fr 2 = 0 := rfl
theorem pgT {E : Int} {g : Nat} {m' : Me} {k' : Bk} (t : TouR pg1 bk0 17 true E g m' k') : E = 0 ∧ g = 0 ∧ m' = pg2 ∧ k' = pk2 := by
  rcases t with ⟨a, _⟩ | ⟨_, b, _⟩ | ⟨_, _, k1, ⟨p', t1, t2⟩, c⟩
  · rw [pgMay] at a; cases a
  · exact absurd rfl b
  · obtain ⟨rfl, rfl, rfl⟩ := Bd.vtake0 t1
    rw [if_pos rfl] at t2
    subst t2
    rcases c with ⟨c, _⟩ | ⟨_, rfl, rfl⟩
    · exact absurd rfl c
    · exact ⟨rfl, rfl, rfl, rfl⟩
theorem vi1 : VI bk0 1 (setP (fun _ => me0) 0 pg1) (fun _ => noOwn) := vi0.laid (i := 0) (mapM_fr _ _ _ _) (map_ok (m := me0) (fun _ _ => by show 0 ≤ 2; omega) _ _ _)
theorem vi2 : VI pk3 1 (setP (setP (fun _ => me0) 0 pg1) 0 pg2) (setO (fun _ => noOwn) 0 (upo noOwn 2 true)) := by
  have t : TouR (setP (fun _ => me0) 0 pg1 0) bk0 17 true 0 0 pg2 pk2 := by
    rw [setP_same]
    exact .inr (.inr ⟨pgMay, fun c => c.1 rfl, pk2, ⟨Bd.takeB Bd.b0 0 0, .inr (.inr ⟨by decide, Bd.vbest0, rfl, rfl⟩), rfl⟩, .inr ⟨rfl, rfl, rfl⟩⟩)
  exact (vi1.touch (i := 0) (by omega) t (.inr ⟨rfl, rfl, .inr rfl⟩)).bytes _
end Mv
set_option maxRecDepth 100000 in
set_option maxHeartbeats 1000000 in
theorem pages_any (w : World) : Calls Try.prog 9 #[] w fun e w' => e = .returned (.bool true) ∧ Below w.heap.size w w' := by
  go_enter Try.func9, Try.ntmps9
  go_wp2_with fail
  refine (vnewBank_any _).mono ?_
  rintro e W1 ⟨r, rfl, f1, b1, l1⟩
  have H1 := Hid.intro (And.intro f1 (And.intro b1 l1))
  clear f1 b1 l1
  go_wp2_with fail
  refine (vnew_any r _).mono ?_
  rintro e W2 ⟨rfl, u2, b2⟩
  have H2 : Hid (UB W2 W1.heap.size r w.heap.size Mv.me0 Mv.bk0 ∧ Below w.heap.size w W2 ∧ w.heap.size < r ∧ w.heap.size ≤ W1.heap.size) := Hid.intro (by
    have h := H1.out
    have s := h.2.1.size
    have lr := h.1.lt
    have lq := h.1.ltq
    exact ⟨⟨u2, h.1.below b2, by omega, by omega⟩, h.2.1.trans (b2.mono s), h.2.2, s⟩)
  clear u2 b2
  generalize W1.heap.size = b at *
  clear H1
  go_wp2_with fail
  refine (vmap_any b r 2 3 true Mv.me0 _ H2.out.1.me).mono ?_
  rintro e W3 ⟨rfl, u3, F3⟩
  have H3 : Hid (UB W3 b r w.heap.size Mv.pg1 Mv.bk0 ∧ Below w.heap.size w W3) := Hid.intro (by
    have h := H2.out
    exact ⟨⟨u3, h.1.bk.frm F3 h.1.br h.1.bq, h.1.br, h.1.bq⟩, F3.below h.2.1 h.2.2.2 h.2.1.size⟩)
  rw [Mv.pgE, errV_zero]
  clear u3 F3
  go_wp2_with fail
  refine (vstore_any b r w.heap.size 17 5 Mv.pg1 Mv.bk0 _ H3.out.1 (by have := Mv.vi1.wld.good (i := 0) (by omega); rw [Mv.setP_same] at this; exact this)).mono ?_
  rintro e W4 ⟨E, g, m', k', rfl, t4, u4, F4, _⟩
  obtain ⟨hE, hg, hm, hk⟩ := Mv.pgT t4
  subst E
  subst g
  subst m'
  subst k'
  have H4 : Hid (UB W4 b r w.heap.size Mv.pg2 Mv.pk3 ∧ Below w.heap.size w W4) := Hid.intro (by
    have h := H2.out
    rw [if_pos rfl] at u4
    exact ⟨u4, H3.out.2.trans ⟨F4.os, F4.tape, F4.output, F4.size, fun j hj => F4.block j (Nat.lt_of_lt_of_le hj H3.out.2.size) (by omega) (by omega) (by omega)⟩⟩)
  rw [errV_zero]
  clear u4 F4 t4 H3
  go_wp2_with fail
  refine (vload_any b r w.heap.size 17 Mv.pg2 Mv.pk3 _ H4.out.1 (by have := Mv.vi2.wld.good (i := 0) (by omega); rw [Mv.setP_same] at this; exact this)).mono ?_
  rintro e W5 ⟨E, g, m', k', rfl, t5, u5, F5, _⟩
  obtain ⟨hE, hg, hm, hk⟩ := TouR_read t5 Mv.pgMay2 (by decide)
  subst E
  subst g
  subst m'
  subst k'
  have EV : Hid ((if (0 : Int) = 0 then Mv.pk3.byt (Mv.pg2.fr ((17 : Int).toNat / 8) - 1) ((17 : Int).toNat % 8) else 0) = 5) := Hid.intro (by decide +kernel)
  have H5 : Hid (UB W5 b r w.heap.size Mv.pg2 Mv.pk3 ∧ Below w.heap.size w W5) := Hid.intro (by
    have h := H2.out
    exact ⟨u5, H4.out.2.trans ⟨F5.os, F5.tape, F5.output, F5.size, fun j hj => F5.block j (Nat.lt_of_lt_of_le hj H4.out.2.size) (by omega) (by omega) (by omega)⟩⟩)
  rw [errV_zero, EV.out]
  clear u5 F5 t5 H4
  go_wp2_with fail
  refine (same_nil _).mono ?_
  rintro e W6 ⟨rfl, hW⟩
  subst W6
  go_wp2_with fail
  refine (same_nil _).mono ?_
  rintro e W6 ⟨rfl, hW⟩
  subst W6
  go_wp2_with fail
  refine (vresident_any b r Mv.pg2 _ H5.out.1.me).mono ?_
  rintro e W6 ⟨rfl, b6⟩
  have H6 : Hid (UB W6 b r w.heap.size Mv.pg2 Mv.pk3 ∧ Below w.heap.size w W6) := Hid.intro ⟨H5.out.1.below b6, H5.out.2.trans (b6.mono H5.out.2.size)⟩
  rw [Mv.pgRes]
  clear b6 H5
  go_wp2_with fail
  refine (vleft_any r w.heap.size Mv.pk3 _ H6.out.1.bk Mv.vi2.wld.inv.le).mono ?_
  rintro e W7 ⟨rfl, b7⟩
  have H7 : Hid (UB W7 b r w.heap.size Mv.pg2 Mv.pk3 ∧ Below w.heap.size w W7) := Hid.intro ⟨H6.out.1.below b7, H6.out.2.trans (b7.mono H6.out.2.size)⟩
  rw [show Bd.left Mv.pk3.pool = 63 from Bd.vleft1]
  clear b7 H6
  go_wp2_with fail
  refine (vregions_any b r Mv.pg2 _ H7.out.1.me (by have := Mv.vi2.ok 0 (by omega); rw [Mv.setP_same] at this; exact this)).mono ?_
  rintro e W8 ⟨v, rfl, h8⟩
  have R8 := Hid.intro h8
  obtain ⟨va, vc, hv⟩ := h8.form
  subst hv
  rw [Mv.pgReg]
  clear h8
  go_wp2_with fail
  go_ret
  have h7 := H7.out.2
  exact ⟨rfl, h7.trans (R8.out.bel.mono h7.size)⟩
theorem vrefs_bad (r : Nat) (z : Int) (w : World) (h : z = -1 ∨ z = 64) :
    Calls Try.prog 20 #[.pointer (some ⟨r, 0, none⟩), .int .i64 z] w fun e w' => e = .returned (.tuple #[.int .i64 0, errV 1]) ∧ w' = w := by
  rcases h with rfl | rfl
  · go_enter Try.func20, Try.ntmps20
    go_wp2_with fail
    go_ret2
    exact ⟨rfl, rfl⟩
  · go_enter Try.func20, Try.ntmps20
    go_wp2_with fail
    go_ret2
    exact ⟨rfl, rfl⟩
theorem CS.start {w W3 : World} {r q b : Nat} (hk : VAt W3 r q Mv.bk0) (hm : UAt W3 b r Mv.me0) (bel : Below w.heap.size w W3) (l1 : w.heap.size ≤ r) (l2 : w.heap.size ≤ q) (l3 : w.heap.size ≤ b) (n1 : b ≠ r) (n2 : b ≠ q) :
    CS w (W3.alloc (.cells #[.pointer (some ⟨b, 0, none⟩)] 29)) r q W3.heap.size 1 1 (fun _ => b) (fun _ => Mv.me0) Mv.bk0 := by
  have hsz := bel.size
  have bb : Below W3.heap.size W3 (W3.alloc (.cells #[.pointer (some ⟨b, 0, none⟩)] 29)) := (Below.refl _ _).alloc (Nat.le_refl _) _
  have o1 : (W3.alloc (.cells #[.pointer (some ⟨b, 0, none⟩)] 29)).ownsRow w.heap.size 29 1 (.slice (some ⟨W3.heap.size, 0, none⟩) 1 1) 1 (ptrs (fun _ => b) 1) := World.ownsRow_lit W3 _ 1 hsz (by unfold maxLen; omega) rfl
  refine ⟨bel.trans (bb.mono hsz), ⟨hk.below bb, fun i _ => ⟨hm.below bb, n1, n2⟩, fun i j hi hj ne => by omega, fun i hi => ?_, by simp⟩, ⟨l1, l2, fun _ _ => l3⟩, o1⟩
  rw [o1.cellAt i (by omega)]
  exact ptrs_at _ _ i hi
theorem RS.start {w W3 : World} {r q b : Nat} (hk : NAt W3 r q Mv.bk0) (hm : MAt W3 b r Mv.me0 noOwn) (bel : Below w.heap.size w W3) (l1 : w.heap.size ≤ r) (l2 : w.heap.size ≤ q) (l3 : w.heap.size ≤ b) (n1 : b ≠ r) (n2 : b ≠ q) :
    RS w (W3.alloc (.cells #[.pointer (some ⟨b, 0, none⟩)] 32)) r q W3.heap.size 1 1 (fun _ => b) (fun _ => Mv.me0) (fun _ => noOwn) Mv.bk0 := by
  have hsz := bel.size
  have bb : Below W3.heap.size W3 (W3.alloc (.cells #[.pointer (some ⟨b, 0, none⟩)] 32)) := (Below.refl _ _).alloc (Nat.le_refl _) _
  have o1 : (W3.alloc (.cells #[.pointer (some ⟨b, 0, none⟩)] 32)).ownsRow w.heap.size 32 1 (.slice (some ⟨W3.heap.size, 0, none⟩) 1 1) 1 (ptrs (fun _ => b) 1) := World.ownsRow_lit W3 _ 1 hsz (by unfold maxLen; omega) rfl
  exact ⟨bel.trans (bb.mono hsz), hk.below bb, fun i _ => ⟨hm.below bb, n1, n2⟩, fun i j hi hj ne => by omega, ⟨l1, l2, fun _ _ => l3⟩, o1⟩
section
variable {ops : Array Oper} {rest : List Oper} {x : Oper} {a : Act} {w : World} {Q : Exit → Act → World → Prop}
theorem wpList_build_m1 (hgd : x.guard = none) (y : Operand) (r : Nat) (ho : x.op = .build 36 #[(0, y)]) (hy : a.eval y = .pointer (some ⟨r, 0, none⟩)) (h : wpList Try.prog ops Q rest (a.put x.dst (.agg (memM r Mv.me0 noOwn))) w) : wpList Try.prog ops Q (x :: rest) a w :=
  wpList_plain hgd fun _ hK => by
    unfold Oper.wp execOp
    simp only [ho, List.map_toArray, List.map_cons, List.map_nil, hy]
    simp [go_sem]
    exact hK _ _ h
theorem wpList_box_m (hgd : x.guard = none) (y : Operand) (A : Array Value) (ho : x.op = .box 36 y) (hy : a.eval y = .agg A) (h : wpList Try.prog ops Q rest (a.put x.dst (.pointer (some ⟨w.heap.size, 0, none⟩))) (w.alloc (.cells A 36))) : wpList Try.prog ops Q (x :: rest) a w :=
  wpList_plain hgd fun _ hK => by
    unfold Oper.wp execOp
    simp only [ho, hy]
    simp [go_sem]
    exact hK _ _ h
end
theorem m_new {w : World} {c r : Nat} (h : w.heap[c]? = some (.cells (memM r Mv.me0 noOwn) 36 (0, 0))) : MAt w c r Mv.me0 noOwn :=
  ⟨⟨_, h, memM_size _ _ _⟩, fun o ho => by rw [cell_blk h, memM_at r _ _ o ho]⟩
end Go.Proofs.Ytnppahmlifnnnab

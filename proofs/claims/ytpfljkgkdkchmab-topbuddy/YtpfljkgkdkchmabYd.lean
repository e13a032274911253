/- The law TopBuddy. -/
import Derived.Test.YtpfljkgkdkchmabXj
import Derived.Test.YtpfljkgkdkchmabYc
import Derived.Deep.CutRange
import Derived.Deep.CutBlock
import Derived.Deep.DeepCutAuto
namespace Go.Proofs.Ytpfljkgkdkchmab
open Go.RowKit
open Bd (P)

/-- What the law has in its hands: the pool; its own row of what is taken. -/
structure TX (w W : World) (b bt : Nat) (p : P) (f : Nat → Int) : Prop where
  bel : Below w.heap.size w W
  le : w.heap.size ≤ b
  lt : b < bt
  code : CAt W b p
  tak : ZAt W bt 64 48 f
  inv : Bd.Inv p ∧ Bd.NB p 64
section
variable {w W W' : World} {b bt bu : Nat} {p p' : P} {f g : Nat → Int}
theorem TX.below (h : TX w W b bt p f) (k : Below W.heap.size W W') : TX w W' b bt p f := ⟨h.bel.trans (k.mono h.bel.size), h.le, h.lt, h.code.below k, h.tak.same (k.block _ h.tak.lt), h.inv⟩
theorem TX.step (h : TX w W b bt p f) (k : CAt W' b p') (r : Frm b W W') (i : Bd.Inv p' ∧ Bd.NB p' 64) : TX w W' b bt p' f :=
  ⟨r.below h.bel h.le h.bel.size, h.le, h.lt, k, h.tak.same (r.block _ h.tak.lt (by have := h.lt; omega)), i⟩
theorem TX.set (h : TX w W b bt p f) (n : Nat) (v : Int) (hn : n < 64) : TX w (W.setCell ⟨bt, n, none⟩ (.int .i64 v)) b bt p (updZ f n v) := by
  have h1 := h.le
  have h2 := h.lt
  exact ⟨h.bel.setCell (by show _ ≤ bt; omega) _, h1, h2, h.code.same (setBlk _ _ _ _ (by omega)), h.tak.set n v hn, h.inv⟩
/-- .. and its row of how often each frame is in a block. -/
structure UX (w W : World) (b bt bu : Nat) (p : P) (f g : Nat → Int) : Prop where
  tx : TX w W b bt p f
  lu : bt < bu
  use : ZAt W bu 64 48 g
theorem UX.below (h : UX w W b bt bu p f g) (k : Below W.heap.size W W') : UX w W' b bt bu p f g := ⟨h.tx.below k, h.lu, h.use.same (k.block _ h.use.lt)⟩
theorem UX.set (h : UX w W b bt bu p f g) (n : Nat) (v : Int) (hn : n < 64) : UX w (W.setCell ⟨bu, n, none⟩ (.int .i64 v)) b bt bu p f (updZ g n v) := by
  have h1 := h.tx.le
  have h2 := h.tx.lt
  have h3 := h.lu
  exact ⟨⟨h.tx.bel.setCell (by show _ ≤ bu; omega) _, h1, h2, h.tx.code.same (setBlk _ _ _ _ (by omega)), h.tx.tak.same (setBlk _ _ _ _ (by omega)), h.tx.inv⟩, h3, h.use.set n v hn⟩
end
/-- A list of numbers lies above block bu. -/
def LC (wr : World) (bu : Nat) (va : Option Addr) (L : List Nat) : Prop := ∀ x i, L[x]? = some i → ∃ gg, va = some ⟨gg, 0, none⟩ ∧ bu < gg ∧ wr.cell? ⟨gg, x, none⟩ = some (.int .i64 ((i : Nat) : Int))
theorem LC.of {u wr : World} {bu : Nat} {va : Option Addr} {vc n : Nat} {L : List Nat} (h : LO u L (.slice va n vc) wr) (hu : bu < u.heap.size) : LC wr bu va L := fun x i hx => by
  have hl := (List.getElem?_eq_some_iff.1 hx).1
  have ho := h.own
  obtain ⟨gg, cap, hv, hb, hg⟩ := ho.form (by omega)
  rw [hv] at ho
  have e : va = some ⟨gg, 0, none⟩ := by injection hv
  refine ⟨gg, e, by omega, ?_⟩
  rw [ho.cellAt x (by omega)]
  exact rowOf_at _ _ _ hx
theorem LC.set {wr : World} {bu : Nat} {va : Option Addr} {L : List Nat} (h : LC wr bu va L) (o : Nat) (v : Value) : LC (wr.setCell ⟨bu, o, none⟩ v) bu va L := fun x i hx => by
  obtain ⟨gg, h1, h2, h3⟩ := h x i hx
  exact ⟨gg, h1, h2, (World.cell?_of_block (setBlk _ _ _ _ (by show gg ≠ bu; omega))).trans h3⟩
theorem left0 : Bd.left Bd.b0 = 64 := by decide +kernel
set_option maxRecDepth 100000 in
set_option maxHeartbeats 400000 in
theorem tb_far (a0 : Option Addr) (n0 c0 : Nat) (w : World) (h : 150 < n0) :
    Calls Try.prog 4 #[.slice a0 n0 c0] w fun e w' => e = .returned (.bool true) ∧ Below w.heap.size w w' := by
  have d : decide ((n0 : Int) ≤ 150) = false := by simp; omega
  go_enter Try.func4, Try.ntmps4
  go_wp2_with fail
  refine (cnew_any _).mono ?_
  rintro e W1 ⟨rfl, f1, b1, _⟩
  have H1 := Hid.intro (And.intro f1 b1)
  clear f1 b1
  go_wp2_with fail
  refine (cleft_any w.heap.size Bd.b0 _ H1.out.1 Bd.inv0.1.le).mono ?_
  rintro e W2 ⟨rfl, b2⟩
  have H2 := Hid.intro (H1.out.2.trans (b2.mono H1.out.2.size))
  clear b2
  rw [left0]
  go_wp2_with fail
  refine (light_any _ _ _ _ _).mono ?_
  rintro e W3 ⟨rfl, hW⟩
  subst W3
  rw [d]
  go_wp2
  go_ret
  exact ⟨rfl, H2.out⟩

section
attribute [local go_sem] toNat_sum
set_option maxRecDepth 100000 in
set_option maxHeartbeats 8000000 in
theorem tb_near (a0 : Option Addr) (n0 c0 : Nat) (w : World) (h0 : IsActs0 w a0 n0) (hn : n0 ≤ 150) :
    Calls Try.prog 4 #[.slice a0 n0 c0] w fun e w' => e = .returned (.bool true) ∧ Below w.heap.size w w' := by
  have d : decide ((n0 : Int) ≤ 150) = true := by simp; omega
  have H0 := Hid.intro h0
  clear h0
  go_enter Try.func4, Try.ntmps4
  go_wp2_with fail
  refine (cnew_any _).mono ?_
  rintro e W1 ⟨rfl, f1, b1, _⟩
  have H1 := Hid.intro (And.intro f1 b1)
  clear f1 b1
  go_wp2_with fail
  refine (cleft_any w.heap.size Bd.b0 _ H1.out.1 Bd.inv0.1.le).mono ?_
  rintro e W2 ⟨rfl, b2⟩
  have H2 : Hid (CAt W2 w.heap.size Bd.b0 ∧ Below w.heap.size w W2) := Hid.intro ⟨H1.out.1.below b2, H1.out.2.trans (b2.mono H1.out.2.size)⟩
  clear b2
  rw [left0]
  go_wp2_with fail
  refine (light_any _ _ _ _ _).mono ?_
  rintro e W3 ⟨rfl, hW⟩
  subst W3
  rw [d]
  have S0 : Hid (∀ C, C = arrZ 64 (fun _ => 0) → TX w (W2.alloc (.cells C 48)) w.heap.size W2.heap.size Bd.b0 (fun _ => 0)) := Hid.intro (fun C hC => by
    subst hC
    exact ⟨H2.out.2.alloc H2.out.2.size _, Nat.le_refl _, H2.out.1.lt, H2.out.1.below ((Below.refl _ _).alloc (Nat.le_refl _) _), heap_alloc_new W2 _, Bd.inv0⟩)
  go_wp2_with fail
  refine wp_gen (fun W => TX w W w.heap.size W2.heap.size Bd.b0 (fun _ => 0)) (S0.out _ (by kernel_rfl)) ?_
  intro W3 h2
  have S2 := Hid.intro h2
  clear h2 S0 H1 H2 d
  generalize W2.heap.size = bt at *
  obtain ⟨b, hb⟩ : ∃ b, w.heap.size = b := ⟨_, rfl⟩
  rw [hb] at S2 ⊢
  clear hb
  go_loopw [5] (fun i wr => ∃ (k : Nat) (p : P) (f : Nat → Int), i = .int .i64 k ∧ k ≤ n0 ∧ Hid (TX w wr b bt p f ∧ Bd.TkF p f)) (fun i _ => n0 - (intOf i).toNat)
  case atStart => exact ⟨0, Bd.b0, _, rfl, by omega, S2.out, Bd.TkF.zero⟩
  case round =>
    clear S2
    obtain ⟨k, p, f, rfl, hk, S⟩ := hrel
    by_cases hlt : k < n0
    · have hltI : (k : Int) < (n0 : Int) := by omega
      obtain ⟨b0, o0, ax, ha, hc⟩ := H0.out.2 (by omega)
      subst ha
      obtain ⟨kd, A, Q, R, K, On, S1, T1, hax⟩ : ∃ kd A B C K On S1 T1, ax k = ⟨kd, A, B, C, K, On, S1, T1⟩ := ⟨_, _, _, _, _, _, _, _, rfl⟩
      have bl : b0 < w.heap.size := World.block_lt_of_cell? _ _ (hc k hlt 0 (by omega))
      have cl : ∀ j, j < 8 → wr.cell? ⟨b0, o0 + k * 8 + j, none⟩ = some ((⟨kd, A, Q, R, K, On, S1, T1⟩ : Act8).cell j) := fun j hj => by
        rw [← hax]; exact (S.out.1.bel.cell (p := ⟨b0, o0 + k * 8 + j, none⟩) bl).trans (hc k hlt j hj)
      have c0' : wr.cell? ⟨b0, o0 + k * 8, none⟩ = some (.string kd) := cl 0 (by omega)
      have c1 : wr.cell? ⟨b0, o0 + k * 8 + 1, none⟩ = some (.int .i64 A) := cl 1 (by omega)
      have c2 : wr.cell? ⟨b0, o0 + k * 8 + 2, none⟩ = some (.int .i64 Q) := cl 2 (by omega)
      have c3 : wr.cell? ⟨b0, o0 + k * 8 + 3, none⟩ = some (.int .i64 R) := cl 3 (by omega)
      have c4 : wr.cell? ⟨b0, o0 + k * 8 + 4, none⟩ = some (.int .u64 K) := cl 4 (by omega)
      have c5 : wr.cell? ⟨b0, o0 + k * 8 + 5, none⟩ = some (.bool On) := cl 5 (by omega)
      have c6 : wr.cell? ⟨b0, o0 + k * 8 + 6, none⟩ = some (.string S1) := cl 6 (by omega)
      have c7 : wr.cell? ⟨b0, o0 + k * 8 + 7, none⟩ = some (.string T1) := cl 7 (by omega)
      clear cl hax bl hc
      go_upto_region 11 with fail
      have hbw := Hid.intro (And.intro S.out.1.code.lt S.out.1.tak.lt)
      refine wp_gen (fun W' => TX w W' b bt p f ∧ W'.heap[wr.heap.size]? = some (.cells #[.string kd, .int .i64 A, .int .i64 Q, .int .i64 R, .int .u64 K, .bool On, .string S1, .string T1] 40 (0, 0))) ⟨S.out.1.below ((Below.refl _ _).alloc (Nat.le_refl _) _), heap_alloc_new wr _⟩ ?_
      rintro W3 ⟨hS3, hbx⟩
      have TF := Hid.intro S.out.2
      clear c0' c1 c2 c3 c4 c5 c6 c7 S
      have HBA : Hid (wr.heap.size < W3.heap.size ∧ wr.heap.size ≠ b ∧ wr.heap.size ≠ bt) := ⟨(Array.getElem?_eq_some_iff.1 hbx).1, by have := hbw.out; omega, by have := hbw.out; omega⟩
      clear hbw
      generalize wr.heap.size = ba at *
      have S3 := Hid.intro hS3
      have x0 := act_cells hbx 0 _ rfl
      have x1 := act_cells hbx 1 _ rfl
      clear hS3 hbx
      obtain ⟨tb, htb⟩ : ∃ tb, (kd.toList == [116, 97, 107, 101]) = tb := ⟨_, rfl⟩
      go_upto_if 44 with fail
      clear htb
      go_cut [44, 7, 8] from 45 to 101 (fun _ _ _ wc => ∃ p' f', Hid (TX w wc b bt p' f' ∧ Bd.TkF p' f'))
      case first =>
        cases tb
        · as_aux_lemma =>
          go_wp2_with fail
          refine (cgive_any b A p _ S3.out.code S3.out.inv.1).mono ?_
          rintro e W4 ⟨rfl, f4, r4⟩
          have y1 : W4.cell? ⟨ba, 1, none⟩ = some (.int .i64 A) := (World.cell?_of_block (r4.block ba HBA.out.1 HBA.out.2.1)).trans x1
          have S4 := Hid.intro (S3.out.step f4 r4 (S3.out.inv.1.give S3.out.inv.2 A))
          clear f4 r4 x0 x1
          by_cases e0 : Bd.giveE p A = 0
          · have k' := e0
            unfold Bd.giveE at k'
            by_cases c1 : A < 0 ∨ 63 < A
            · rw [if_pos c1] at k'; omega
            · rw [if_neg c1] at k'
              obtain ⟨x, rfl⟩ := Int.eq_ofNat_of_zero_le (show 0 ≤ A by omega)
              rw [Int.toNat_natCast] at k'
              have ht : p.tk x = true := by
                cases t : p.tk x
                · rw [t, if_neg (by decide)] at k'; omega
                · rfl
              have hx : x < 64 := by omega
              have eg : Bd.giveT p x = Bd.giveB p x := by unfold Bd.giveT; rw [if_pos e0, Int.toNat_natCast]
              rw [eg] at S4
              have TF2 := Hid.intro (TF.out.give S3.out.inv.1 S3.out.inv.2 hx ht)
              have fx : f x = (p.ord x : Int) := by rw [TF.out x hx, if_pos ht]
              have op := S3.out.inv.1.tk x hx ht
              have q1 := S4.out.tak.cell x hx
              have qf := S4.out.tak.frozen
              rw [fx] at q1
              have xI : (x : Int) < 64 := by omega
              have S5 := Hid.intro (S4.out.set x 0 hx)
              obtain ⟨u, hu⟩ : ∃ u, p.ord x = u := ⟨_, rfl⟩
              rw [hu] at q1 op
              have u0 : ((u : Int) == 0) = false := by simp; omega
              rw [e0, errV_zero]
              clear e0 k' c1 ht eg fx hu
              go_wp2_with fail
              go_meet
              case rel => exact ⟨_, _, S5.out, TF2.out⟩
          · have ep : Bd.giveT p A = p := if_neg e0
            rw [ep] at S4
            rw [errV_ne e0]
            clear e0 ep
            go_wp2_with fail
            go_meet
            case rel => exact ⟨_, _, S4.out, TF.out⟩
        · as_aux_lemma =>
          go_wp2_with fail
          refine (ctake_any b A p _ S3.out.code S3.out.inv.1 S3.out.inv.2).mono ?_
          rintro e W4 ⟨x, E, p', rfl, t4, f4, r4⟩
          have y1 : W4.cell? ⟨ba, 1, none⟩ = some (.int .i64 A) := (World.cell?_of_block (r4.block ba HBA.out.1 HBA.out.2.1)).trans x1
          have S4 := Hid.intro (S3.out.step f4 r4 (S3.out.inv.1.take S3.out.inv.2 t4))
          have T4 := Hid.intro t4
          clear f4 r4 x0 x1
          by_cases e0 : E = 0
          · rcases t4 with ⟨_, c, _⟩ | ⟨_, _, c, _⟩ | ⟨hz, hB, _, rfl⟩
            · omega
            · omega
            · obtain ⟨o, rfl⟩ := Int.eq_ofNat_of_zero_le (show 0 ≤ A by omega)
              rw [Int.toNat_natCast] at hB S4 T4
              have hx := hB.lt
              have ho : o ≤ 6 := by omega
              have fx : f x = 0 := by rw [TF.out x hx, hB.tk, if_neg (by decide)]
              have TF2 := Hid.intro (TF.out.take S3.out.inv.1 S3.out.inv.2 hB)
              have q1 := S4.out.tak.cell x hx
              have qf := S4.out.tak.frozen
              rw [fx] at q1
              have mo := (S3.out.inv.1.takeB S3.out.inv.2 hB).2.2.2.2.1
              have hsh := sz_shl o ho
              obtain ⟨sz, hsz⟩ : ∃ sz, Bd.sz (o + 1) = sz := ⟨_, rfl⟩
              have szp := Bd.sz_pos (o + 1)
              rw [hsz] at hsh mo szp
              have s0 : ((sz : Int) == 0) = false := by simp; omega
              have rm : ((x : Int).tmod (sz : Int)) = 0 := by
                show ((x % sz : Nat) : Int) = 0
                rw [mo]; rfl
              have d1 : decide (63 < (x : Int)) = false := by simp; omega
              have d2 : decide (6 < (o : Int)) = false := by simp; omega
              have xI : (x : Int) < 64 := by omega
              have hw1 : IntKind.i64.wrap ((o : Int) + 1) = (o : Int) + 1 := IntWalk.i64_in _ ⟨by omega, by omega⟩
              have S5 := Hid.intro (S4.out.set x ((o : Int) + 1) hx)
              rw [e0, errV_zero]
              clear hB fx mo hsz hz e0
              go_wp2_with fail
              go_meet
              case rel => exact ⟨_, _, S5.out, TF2.out⟩
          · have ep : p' = p := by
              rcases t4 with ⟨_, _, _, c⟩ | ⟨_, _, _, _, c⟩ | ⟨_, _, c, _⟩
              · exact c
              · exact c
              · exact absurd c e0
            subst ep
            rw [errV_ne e0]
            clear e0 t4
            go_wp2_with fail
            go_meet
            case rel => exact ⟨_, _, S4.out, TF.out⟩
      case rest =>
        clear S3 TF HBA x0 x1
        as_aux_lemma =>
        obtain ⟨p, f, HC⟩ := hcut
        have S0 : Hid (∀ C, C = arrZ 64 (fun _ => 0) → UX w (wc.alloc (.cells C 48)) b bt wc.heap.size p f (fun _ => 0)) := Hid.intro (fun C hC => by
          subst hC
          exact ⟨HC.out.1.below ((Below.refl _ _).alloc (Nat.le_refl _) _), HC.out.1.tak.lt, heap_alloc_new wc _⟩)
        go_wp2_with fail
        refine wp_gen (fun W => UX w W b bt wc.heap.size p f (fun _ => 0)) (S0.out _ (by kernel_rfl)) ?_
        intro W5 h5
        have U5 := Hid.intro h5
        have TF := Hid.intro HC.out.2
        have HI := Hid.intro HC.out.1.inv
        clear h5 S0 HC
        generalize wc.heap.size = bu at *
        go_loopw [10] (fun i wr => ∃ (a : Nat) (g : Nat → Int), i = .int .i64 a ∧ a ≤ 64 ∧ Hid (UX w wr b bt bu p f g ∧ Bd.Cnd p g (Bd.D1 p a 0))) (fun i _ => 64 - (intOf i).toNat)
        case atStart => exact ⟨0, _, rfl, by omega, U5.out, Bd.D1_start⟩
        case round =>
          clear U5
          obtain ⟨a, g, rfl, ha64, S⟩ := hrel
          by_cases ha : a < 64
          · have haI : (a : Int) < 64 := by omega
            go_wp2_with fail
            go_loopw [11] (fun i wr => ∃ (k : Nat) (g : Nat → Int), i = .int .i64 k ∧ k ≤ 64 ∧ Hid (UX w wr b bt bu p f g ∧ Bd.Cnd p g (Bd.D1 p a k))) (fun i _ => 64 - (intOf i).toNat)
            case atStart => exact ⟨0, g, rfl, by omega, S⟩
            case round =>
              clear S
              obtain ⟨y, g, rfl, hy64, S⟩ := hrel
              have q1 := S.out.1.tx.tak.cell a ha
              have fa := TF.out a ha
              cases ht : p.tk a
              · have NX := Hid.intro (Bd.D1_next S.out.2 (.inl ht))
                rw [fa, ht, if_neg (by decide)] at q1
                clear fa ht
                go_wp2_with fail
                go_roundw
                case rel => exact ⟨a + 1, g, by go_num, by omega, S.out.1, NX.out⟩
                case measure => simp [intOf]; omega
              · have op := HI.out.1.tk a ha ht
                have o7 := HI.out.1.le a ha
                have al := (HI.out.1.al a ha op).2
                obtain ⟨u, hu⟩ : ∃ u, p.ord a = u + 1 := ⟨p.ord a - 1, by omega⟩
                rw [fa, ht, if_pos rfl, hu] at q1
                have hsh := sz_shl u (by omega)
                rw [hu] at al
                have ST := Hid.intro (fun h => Bd.D1_step HI.out.1 S.out.2 ha ht (k := y) h)
                have NX := Hid.intro (fun h => Bd.D1_next S.out.2 (.inr h))
                rw [hu] at ST NX
                obtain ⟨sz, hsz⟩ : ∃ sz, Bd.sz (u + 1) = sz := ⟨_, rfl⟩
                rw [hsz] at hsh al ST NX
                have u6 : u ≤ 6 := by omega
                clear fa ht op o7 hu hsz
                by_cases hy : y < sz
                · have hyI : (y : Int) < (sz : Int) := by omega
                  have ST2 := Hid.intro (ST.out hy)
                  have d1 : decide (63 < (a : Int) + (y : Int)) = false := by simp; omega
                  have d2 : (a : Int) + (y : Int) < 64 := by omega
                  have d3 : (0 : Int) ≤ (a : Int) + (y : Int) := by omega
                  have hw1 : IntKind.i64.wrap ((a : Int) + (y : Int)) = (a : Int) + (y : Int) := IntWalk.i64_in _ ⟨by omega, by omega⟩
                  have q2 := S.out.1.use.cell (a + y) (by omega)
                  have qf := S.out.1.use.frozen
                  rw [ST2.out.2] at q2
                  have U2 := Hid.intro (S.out.1.set (a + y) 1 (by omega))
                  clear ST NX
                  go_wp2_with fail
                  go_roundw
                  case rel => exact ⟨y + 1, _, by go_num, by omega, U2.out, ST2.out.1⟩
                  case measure => simp [intOf]; omega
                · have hyI : decide ((y : Int) < (sz : Int)) = false := by simp; omega
                  have NX2 := Hid.intro (NX.out (by omega))
                  clear ST NX
                  go_wp2_with fail
                  go_roundw
                  case rel => exact ⟨a + 1, g, by go_num, by omega, S.out.1, NX2.out⟩
                  case measure => simp [intOf]; omega
          · have ha' : a = 64 := by omega
            subst ha'
            have D2 := Hid.intro (Bd.D2_start S.out.2)
            go_wp2_with fail
            go_loopw [12] (fun i wr => ∃ (o : Nat) (g : Nat → Int), i = .int .i64 o ∧ o ≤ 7 ∧ Hid (UX w wr b bt bu p f g ∧ Bd.Cnd p g (Bd.D2 p o 0 0))) (fun i _ => 7 - (intOf i).toNat)
            case atStart => exact ⟨0, g, rfl, by omega, S.out.1, D2.out⟩
            case round =>
              clear S D2
              obtain ⟨o, g, rfl, ho7, S⟩ := hrel
              by_cases ho : o < 7
              · have hoI : (o : Int) < 7 := by omega
                have EF : Hid (Bd.freE (o : Int) = 0 ∧ Bd.freL p (o : Int) = Bd.freK p o 64) := Hid.intro ⟨if_neg (by omega), by unfold Bd.freL; rw [if_neg (by omega), Int.toNat_natCast]⟩
                go_wp2_with fail
                refine (cfree_any b o p _ S.out.1.tx.code).mono ?_
                rintro e W6 ⟨v, rfl, h6⟩
                rw [EF.out.2] at h6
                rw [EF.out.1, errV_zero]
                obtain ⟨va, vc, hv⟩ := own_form h6.own
                have L6 : Hid (LC W6 bu va (Bd.freK p o 64)) := Hid.intro (LC.of (by rw [hv] at h6; exact h6) S.out.1.use.lt)
                have U6 := Hid.intro (S.out.1.below h6.bel)
                have C6 := Hid.intro S.out.2
                have hlen := Bd.freK_len p o 64
                obtain ⟨n, hn6⟩ : ∃ n, (Bd.freK p o 64).length = n := ⟨_, rfl⟩
                have HN := Hid.intro hn6
                rw [hv, hn6]
                rw [hn6] at hlen
                have hsh := sz_shl o (by omega)
                obtain ⟨sz, hsz⟩ : ∃ sz, Bd.sz (o + 1) = sz := ⟨_, rfl⟩
                have HSZ := Hid.intro hsz
                have szl := sz_le (k := o + 1) (by omega)
                rw [hsz] at hsh szl
                clear h6 hv hn6 S hsz
                go_wp2_with fail
                go_loopw [15] (fun i wr => ∃ (x : Nat) (g : Nat → Int), i = .int .i64 x ∧ x ≤ n ∧ Hid (UX w wr b bt bu p f g ∧ Bd.Cnd p g (Bd.D2 p o x 0) ∧ LC wr bu va (Bd.freK p o 64))) (fun i _ => n - (intOf i).toNat)
                case atStart => exact ⟨0, g, rfl, by omega, U6.out, C6.out, L6.out⟩
                case round =>
                  clear U6 C6 L6
                  obtain ⟨x, g, rfl, hxn, S⟩ := hrel
                  by_cases hx : x < n
                  · have hxI : (x : Int) < (n : Int) := by omega
                    obtain ⟨i, hi⟩ : ∃ i, (Bd.freK p o 64)[x]? = some i := ⟨_, List.getElem?_eq_getElem (by rw [HN.out]; exact hx)⟩
                    obtain ⟨gg, hva, _, _⟩ := S.out.2.2 x i hi
                    subst hva
                    have m := Bd.freK_at hi
                    have al := (HI.out.1.al i m.1 (by omega)).2
                    rw [m.2.1, HSZ.out] at al
                    have HIX := Hid.intro hi
                    have iI : decide ((i : Int) < 0) = false := by simp
                    clear hi m
                    go_wp2_with fail
                    go_loopw [16] (fun i wr => ∃ (y : Nat) (g : Nat → Int), i = .int .i64 y ∧ y ≤ 64 ∧ Hid (UX w wr b bt bu p f g ∧ Bd.Cnd p g (Bd.D2 p o x y) ∧ LC wr bu (some ⟨gg, 0, none⟩) (Bd.freK p o 64))) (fun i _ => 64 - (intOf i).toNat)
                    case atStart => exact ⟨0, g, rfl, by omega, S⟩
                    case round =>
                      clear S
                      obtain ⟨y, g, rfl, hy64, S⟩ := hrel
                      by_cases hy : y < sz
                      · have hyI : (y : Int) < (sz : Int) := by omega
                        have ST2 := Hid.intro (Bd.D2_step HI.out.1 S.out.2.1 HIX.out (by rw [HSZ.out]; exact hy))
                        obtain ⟨g2, hg2, hgt, q3⟩ := S.out.2.2 x i HIX.out
                        obtain rfl : g2 = gg := by injection hg2 with h1; injection h1 with h2; exact h2.symm
                        have d1 : decide (63 < (i : Int) + (y : Int)) = false := by simp; omega
                        have d2 : (i : Int) + (y : Int) < 64 := by omega
                        have d3 : (0 : Int) ≤ (i : Int) + (y : Int) := by omega
                        have hw1 : IntKind.i64.wrap ((i : Int) + (y : Int)) = (i : Int) + (y : Int) := IntWalk.i64_in _ ⟨by omega, by omega⟩
                        have q2 := S.out.1.use.cell (i + y) (by omega)
                        have qf := S.out.1.use.frozen
                        rw [ST2.out.2] at q2
                        have U2 := Hid.intro (And.intro (S.out.1.set (i + y) 1 (by omega)) (S.out.2.2.set (i + y) (.int .i64 1)))
                        clear hg2 hgt
                        go_wp2_with fail
                        go_roundw
                        case rel => exact ⟨y + 1, _, by go_num, by omega, U2.out.1, ST2.out.1, U2.out.2⟩
                        case measure => simp [intOf]; omega
                      · have hyI : ¬ (y : Int) < (sz : Int) := by omega
                        have NX2 := Hid.intro (Bd.D2_next S.out.2.1 HIX.out (by rw [HSZ.out]; omega))
                        go_wp2_with fail
                        go_roundw
                        case rel => exact ⟨x + 1, g, by go_num, by omega, S.out.1, NX2.out, S.out.2.2⟩
                        case measure => simp [intOf]; omega
                  · have hxI : ¬ (x : Int) < (n : Int) := by omega
                    have NO := Hid.intro (Bd.D2_order (o := o) (by
                      have := S.out.2.1
                      rw [show x = (Bd.freK p o 64).length by rw [HN.out]; omega] at this
                      exact this))
                    go_wp2_with fail
                    go_roundw
                    case rel => first | exact ⟨o + 1, g, by go_num, by omega, S.out.1, NO.out⟩ | exact ⟨o + 1, by go_num, by omega, g, S.out.1, NO.out⟩ | (trace_state; fail)
                    case measure => simp [intOf]; omega
              · have ho' : o = 7 := by omega
                subst ho'
                have ALL := Hid.intro (Bd.D2_all HI.out.1 S.out.2)
                go_wp2_with fail
                go_loopw [17] (fun i wr => ∃ (a : Nat), i = .int .i64 a ∧ a ≤ 64 ∧ Hid (UX w wr b bt bu p f g)) (fun i _ => 64 - (intOf i).toNat)
                case atStart => exact ⟨0, rfl, by omega, S.out.1⟩
                case round =>
                  clear S
                  obtain ⟨a, rfl, ha64, S⟩ := hrel
                  by_cases ha : a < 64
                  · have haI : (a : Int) < 64 := by omega
                    have q1 := S.out.use.cell a ha
                    rw [ALL.out a ha] at q1
                    go_wp2_with fail
                    go_roundw
                    case rel => exact ⟨a + 1, by go_num, by omega, S⟩
                    case measure => simp [intOf]; omega
                  · have haI : ¬ (a : Int) < 64 := by omega
                    go_wp2_with fail
                    go_roundw
                    case rel => exact ⟨k + 1, p, f, by go_num, by omega, S.out.tx, TF.out⟩
                    case measure => simp [intOf]; omega
    · have hkn : k = n0 := by omega
      subst hkn
      clear hlt
      as_aux_lemma =>
      go_wp2_with fail
      go_loopw [18] (fun i wr => ∃ (a : Nat) (p : P), i = .int .i64 a ∧ a ≤ 64 ∧ Hid (TX w wr b bt p f ∧ (∀ j, j < a → p.tk j = false) ∧ (∀ j, a ≤ j → j < 64 → (p.tk j = true ↔ 0 < f j)))) (fun i _ => 64 - (intOf i).toNat)
      case atStart => exact ⟨0, p, rfl, by omega, S.out.1, fun j hj => by omega, fun j _ hj => by
        rw [S.out.2 j hj]
        constructor
        · intro t; rw [if_pos t]; have := S.out.1.inv.1.tk j hj t; omega
        · intro t
          cases c : p.tk j
          · rw [c, if_neg (by decide)] at t; omega
          · rfl⟩
      case round =>
        clear S
        obtain ⟨a, p, rfl, ha64, S⟩ := hrel
        by_cases ha : a < 64
        · have haI : (a : Int) < 64 := by omega
          have q1 := S.out.1.tak.cell a ha
          have iff := S.out.2.2 a (by omega) ha
          cases t : p.tk a
          · have f0 : decide (0 < f a) = false := by
              rw [t] at iff; simp at iff; simp; omega
            have NX : Hid (∀ j, j < a + 1 → p.tk j = false) := Hid.intro (fun j hj => by
              by_cases c : j = a
              · rw [c]; exact t
              · exact S.out.2.1 j (by omega))
            generalize f a = fa at *
            clear iff t
            go_wp2_with fail
            go_roundw
            case rel => exact ⟨a + 1, p, by go_num, by omega, S.out.1, NX.out, fun j h1 h2 => S.out.2.2 j (by omega) h2⟩
            case measure => simp [intOf]; omega
          · have f0 : 0 < f a := iff.1 t
            have E0 : Hid (Bd.giveE p a = 0) := Hid.intro (by unfold Bd.giveE; rw [if_neg (by omega), Int.toNat_natCast, if_pos t])
            have GB := Hid.intro (S.out.1.inv.1.giveB S.out.1.inv.2 ha t)
            have EG : Hid (Bd.giveT p a = Bd.giveB p a) := Hid.intro (by unfold Bd.giveT; rw [if_pos E0.out, Int.toNat_natCast])
            generalize f a = fa at q1 f0
            clear iff t
            go_wp2_with fail
            refine (cgive_any b a p _ S.out.1.code S.out.1.inv.1).mono ?_
            rintro e W4 ⟨rfl, f4, r4⟩
            have S4 := Hid.intro (S.out.1.step f4 r4 (S.out.1.inv.1.give S.out.1.inv.2 a))
            rw [E0.out, errV_zero]
            rw [EG.out] at S4
            have N1 : Hid ((∀ j, j < a + 1 → (Bd.giveB p a).tk j = false) ∧ (∀ j, a + 1 ≤ j → j < 64 → ((Bd.giveB p a).tk j = true ↔ 0 < f j))) := Hid.intro (by
              rw [GB.out.2.2]
              refine ⟨fun j hj => ?_, fun j h1 h2 => ?_⟩
              · show (if j = a then false else p.tk j) = false
                by_cases c : j = a
                · rw [if_pos c]
                · rw [if_neg c]; exact S.out.2.1 j (by omega)
              · show (if j = a then false else p.tk j) = true ↔ _
                rw [if_neg (by omega)]
                exact S.out.2.2 j (by omega) h2)
            clear f4 r4
            go_wp2_with fail
            go_roundw
            case rel => exact ⟨a + 1, _, by go_num, by omega, S4.out, N1.out⟩
            case measure => simp [intOf]; omega
        · have ha' : a = 64 := by omega
          subst ha'
          have WH := Hid.intro (Bd.whole S.out.1.inv.1 S.out.1.inv.2 S.out.2.1)
          have EF : Hid (Bd.freE 6 = 0) := Hid.intro (if_neg (by decide))
          go_wp2_with fail
          refine (cfree_any b 6 p _ S.out.1.code).mono ?_
          rintro e W6 ⟨v, rfl, h6⟩
          rw [WH.out.1] at h6
          rw [EF.out, errV_zero]
          obtain ⟨va, vc, hv⟩ := own_form h6.own
          have L6 := LC.of (by rw [hv] at h6; exact h6) S.out.1.tak.lt
          obtain ⟨gg, hva, _, q3⟩ := L6 0 0 rfl
          have S6 := Hid.intro (S.out.1.below h6.bel)
          rw [hv, hva]
          have q3' : W6.cell? ⟨gg, 0, none⟩ = some (.int .i64 0) := q3
          clear h6 hv L6 hva q3
          go_wp2_with (go_at_call 20; refine (cleft_any b p _ S6.out.code S6.out.inv.1.le).mono ?_; rintro e w7 ⟨rfl, hb7⟩; rw [WH.out.2]; have H7 : Hid (Below w.heap.size w w7) := Hid.intro (S6.out.bel.trans (hb7.mono S6.out.bel.size)); clear hb7)
          go_ret
          exact ⟨rfl, H7.out⟩
end
theorem tb_any (a : Option Addr) (len cap : Nat) (w : World) (h : IsActs0 w a len) :
    Calls Try.prog 4 #[.slice a len cap] w fun e w' => e = .returned (.bool true) ∧ Below w.heap.size w w' := by
  by_cases hf : 150 < len
  · exact tb_far a len cap w hf
  · exact tb_near a len cap w h (by omega)
end Go.Proofs.Ytpfljkgkdkchmab

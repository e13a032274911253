/- The law TopVm: stocked. -/
import Derived.Test.YtnppahmlifnnnabOb
namespace Go.Proofs.Ytnppahmlifnnnab
open Go.RowKit
open Bd (P)
open Mv (Me Bk)

/-- A bank and its memories lie there; their pointers in a row at block gm. -/
structure AllM (W : World) (r q gm N : Nat) (bs : Nat → Nat) (me : Nat → Me) (k : Bk) : Prop where
  bk : VAt W r q k
  mem : ∀ i, i < N → UAt W (bs i) r (me i) ∧ bs i ≠ r ∧ bs i ≠ q
  inj : ∀ i j, i < N → j < N → i ≠ j → bs i ≠ bs j
  row : ∀ i, i < N → W.cell? ⟨gm, i, none⟩ = some (.pointer (some ⟨bs i, 0, none⟩))
  gl : gm < W.heap.size
theorem AllM.below {W W' : World} {r q gm N : Nat} {bs : Nat → Nat} {me : Nat → Me} {k : Bk} (h : AllM W r q gm N bs me k) (B : Below W.heap.size W W') : AllM W' r q gm N bs me k :=
  ⟨h.bk.below B, fun i hi => ⟨(h.mem i hi).1.below B, (h.mem i hi).2⟩, h.inj, fun i hi => (World.cell?_of_block (B.block gm h.gl)).trans (h.row i hi), Nat.lt_of_lt_of_le h.gl B.size⟩
/-- .. beside a row of how often each frame is met. -/
structure StX (w W : World) (r q gm N bu : Nat) (bs : Nat → Nat) (me : Nat → Me) (k : Bk) (g : Nat → Int) : Prop where
  bel : Below w.heap.size w W
  all : AllM W r q gm N bs me k
  le : w.heap.size ≤ bu
  use : ZAt W bu 64 48 g
  nb : bu ≠ r ∧ bu ≠ q ∧ bu ≠ gm ∧ ∀ i, i < N → bu ≠ bs i
section
variable {w W W' : World} {r q gm N bu : Nat} {bs : Nat → Nat} {me : Nat → Me} {k : Bk} {g : Nat → Int}
theorem StX.below (h : StX w W r q gm N bu bs me k g) (B : Below W.heap.size W W') : StX w W' r q gm N bu bs me k g := ⟨h.bel.trans (B.mono h.bel.size), h.all.below B, h.le, h.use.same (B.block _ h.use.lt), h.nb⟩
theorem StX.set (h : StX w W r q gm N bu bs me k g) (f : Nat) (v : Int) (hf : f < 64) : StX w (W.setCell ⟨bu, f, none⟩ (.int .i64 v)) r q gm N bu bs me k (updZ g f v) :=
  ⟨h.bel.setCell (by show _ ≤ bu; exact h.le) _, ⟨h.all.bk.same (setBlk _ _ _ _ (Ne.symm h.nb.1)) (setBlk _ _ _ _ (Ne.symm h.nb.2.1)), fun i hi => ⟨(h.all.mem i hi).1.same (setBlk _ _ _ _ (Ne.symm (h.nb.2.2.2 i hi))), (h.all.mem i hi).2⟩, h.all.inj, fun i hi => (World.cell?_of_block (setBlk _ _ _ _ (Ne.symm h.nb.2.2.1))).trans (h.all.row i hi), by have := h.all.gl; simpa [World.setCell] using this⟩, h.le, h.use.set f v hf, h.nb⟩
end
theorem cntK_step (fr : Nat → Nat) (f x : Nat) : Mv.cntK fr f (x + 1) = Mv.cntK fr f x + Mv.one (fr x) f := rfl
set_option maxRecDepth 100000 in
set_option maxHeartbeats 4000000 in
theorem stocked_any (r q gm N c : Nat) (bs : Nat → Nat) (me : Nat → Me) (k : Bk) (w : World) (h : AllM w r q gm N bs me k) (hW : Mv.Wld k N me) :
    Calls Try.prog 34 #[.pointer (some ⟨r, 0, none⟩), .slice (some ⟨gm, 0, none⟩) N c] w fun e w' => e = .returned (.bool true) ∧ Below w.heap.size w w' := by
  have HW := Hid.intro hW
  have hN8 := hW.n8
  have S0 : Hid (∀ C, C = arrZ 64 (fun _ => 0) → StX w (w.alloc (.cells C 48)) r q gm N w.heap.size bs me k (fun _ => 0)) := Hid.intro (fun C hC => by
    subst hC
    have bb : Below w.heap.size w (w.alloc (.cells (arrZ 64 (fun _ => 0)) 48)) := (Below.refl _ _).alloc (Nat.le_refl _) _
    refine ⟨bb, h.below bb, Nat.le_refl _, heap_alloc_new w _, ?_, ?_, ?_, fun i hi => ?_⟩
    · have := h.bk.lt; omega
    · have := h.bk.ltq; omega
    · have := h.gl; omega
    · have := (h.mem i hi).1.lt; omega)
  clear h hW
  go_enter Try.func34, Try.ntmps34
  go_wp2_with fail
  refine wp_gen (fun W => StX w W r q gm N w.heap.size bs me k (fun _ => 0)) (S0.out _ (by kernel_rfl)) ?_
  intro W1 h1
  have S1 := Hid.intro h1
  clear h1 S0
  generalize hbu : w.heap.size = bu at S1 ⊢
  have HBU := Hid.intro hbu
  clear hbu
  go_loopw [6] (fun i wr => ∃ (j : Nat) (g : Nat → Int), i = .int .i64 j ∧ j ≤ N ∧ Hid (StX w wr r q gm N bu bs me k g ∧ ∀ f, f < 64 → g f = (Mv.tot me f j : Int))) (fun i _ => N - (intOf i).toNat)
  case atStart => exact ⟨0, _, rfl, by omega, S1.out, fun f _ => rfl⟩
  case round =>
    clear S1
    obtain ⟨j, g, rfl, hj, S⟩ := hrel
    by_cases hlt : j < N
    · have hltI : (j : Int) < (N : Int) := by omega
      go_wp2_with fail
      go_loopw [7, 8] (fun s i wr => ∃ (x : Nat) (g : Nat → Int), i = .int .i64 x ∧ s = .int .i64 (Mv.resK (me j) x : Int) ∧ x ≤ 16 ∧ Hid (StX w wr r q gm N bu bs me k g ∧ ∀ f, f < 64 → g f = ((Mv.tot me f j + Mv.cntK (me j).fr f x : Nat) : Int))) (fun _ i _ => 16 - (intOf i).toNat)
      case atStart => exact ⟨0, g, rfl, rfl, by omega, S.out.1, S.out.2⟩
      case round =>
        clear S
        obtain ⟨x, g, rfl, rfl, hx16, S⟩ := hrel
        have pr := S.out.1.all.row j hlt
        by_cases hx : x < 16
        · have hxI : (x : Int) < 16 := by omega
          have EF : Hid (Mv.frN (me j) (x : Int) = ((me j).fr x : Int) - 1) := Hid.intro (by unfold Mv.frN; rw [if_neg (by omega), Int.toNat_natCast])
          have lb := resK_le (me j) x
          have LS : Hid (Mv.resK (me j) (x + 1) = Mv.resK (me j) x + if (me j).fr x = 0 then 0 else 1) := Hid.intro rfl
          go_wp2_with fail
          refine (vframe_any (bs j) r x (me j) _ (S.out.1.all.mem j hlt).1).mono ?_
          rintro e w2 ⟨rfl, hw2⟩
          subst w2
          rw [EF.out]
          have fl := HW.out.le j hlt x hx
          by_cases f0 : (me j).fr x = 0
          · have LE : Hid (Mv.resK (me j) (x + 1) = Mv.resK (me j) x) := Hid.intro (by rw [LS.out, if_pos f0]; rfl)
            have CN : Hid (∀ f, f < 64 → g f = ((Mv.tot me f j + Mv.cntK (me j).fr f (x + 1) : Nat) : Int)) := Hid.intro (fun f hf => by
              rw [S.out.2 f hf, cntK_step, show Mv.one ((me j).fr x) f = 0 from if_neg (by omega)]; rfl)
            rw [f0]
            clear f0 fl LS EF
            go_wp2_with fail
            go_roundw
            case rel => exact ⟨x + 1, g, by go_num, by rw [LE.out], by omega, S.out.1, CN.out⟩
            case measure => simp [intOf]; omega
          · obtain ⟨v, hv⟩ : ∃ v, (me j).fr x = v + 1 := ⟨(me j).fr x - 1, by omega⟩
            have LE : Hid (Mv.resK (me j) (x + 1) = Mv.resK (me j) x + 1) := Hid.intro (by rw [LS.out, if_neg f0])
            have v64 : v < 64 := by omega
            have vI : (v : Int) < 64 := by omega
            have d1 : decide (63 < (v : Int)) = false := by simp; omega
            have tl := Mv.tot_le me v j
            have cl := cntK_le (me j).fr v x
            have q1 := S.out.1.use.cell v v64
            have qf := S.out.1.use.frozen
            rw [S.out.2 v v64] at q1
            have U2 := Hid.intro (S.out.1.set v ((Mv.tot me v j + Mv.cntK (me j).fr v x : Nat) + 1 : Int) v64)
            have CN : Hid (∀ f, f < 64 → updZ g v ((Mv.tot me v j + Mv.cntK (me j).fr v x : Nat) + 1 : Int) f = ((Mv.tot me f j + Mv.cntK (me j).fr f (x + 1) : Nat) : Int)) := Hid.intro (fun f hf => by
              rw [cntK_step, hv]
              unfold updZ Mv.one
              by_cases c : f = v
              · subst c; rw [if_pos rfl, if_pos rfl]; omega
              · rw [if_neg c, if_neg (by omega), S.out.2 f hf]; rfl)
            obtain ⟨cv, hcv⟩ : ∃ cv, Mv.tot me v j + Mv.cntK (me j).fr v x = cv := ⟨_, rfl⟩
            rw [hcv] at q1 U2 CN
            have cvl : cv ≤ 16 * j + 16 := by omega
            have hw : IntKind.i64.wrap ((cv : Int) + 1) = (cv : Int) + 1 := IntWalk.i64_in _ ⟨by omega, by omega⟩
            rw [hv, show ((v + 1 : Nat) : Int) - 1 = (v : Int) by omega]
            generalize Mv.resK (me j) x = rx at *
            clear f0 fl LS EF hv hcv tl cl
            go_wp2_with fail
            go_roundw
            case rel => exact ⟨x + 1, _, by go_num, by rw [LE.out]; go_num, by omega, U2.out, CN.out⟩
            case measure => simp [intOf]; omega
        · have hx' : x = 16 := by omega
          subst hx'
          go_wp2_with fail
          refine (vresident_any (bs j) r (me j) _ (S.out.1.all.mem j hlt).1).mono ?_
          rintro e w2 ⟨rfl, hb2⟩
          have S2 := Hid.intro (And.intro (S.out.1.below hb2) S.out.2)
          clear hb2
          go_wp2_with fail
          go_roundw
          case rel => exact ⟨j + 1, g, by go_num, by omega, S2.out.1, fun f hf => S2.out.2 f hf⟩
          case measure => simp [intOf]; omega
    · have hj' : j = N := by omega
      subst hj'
      go_wp2_with fail
      go_loopw [10, 11] (fun s i wr => ∃ (f : Nat), i = .int .i64 f ∧ s = .int .i64 (Mv.freC k f : Int) ∧ f ≤ 64 ∧ Hid (StX w wr r q gm j bu bs me k g)) (fun _ i _ => 64 - (intOf i).toNat)
      case atStart => exact ⟨0, rfl, rfl, by omega, S.out.1⟩
      case round =>
        have EQ : Hid (∀ f, f < 64 → g f = (k.refs f : Int)) := Hid.intro (fun f hf => by rw [S.out.2 f hf, HW.out.ref f hf])
        clear S
        obtain ⟨f, rfl, rfl, hf64, S⟩ := hrel
        have fl : Mv.freC k f ≤ f := by
          clear S hlt
          induction f with
          | zero => exact Nat.le_refl 0
          | succ f ih => show Mv.freC k f + _ ≤ f + 1; have := ih (by omega); split <;> omega
        by_cases hf : f < 64
        · have hfI : (f : Int) < 64 := by omega
          have q1 := S.out.use.cell f hf
          rw [EQ.out f hf] at q1
          have LS : Hid (Mv.freC k (f + 1) = Mv.freC k f + if k.refs f = 0 then 1 else 0) := Hid.intro rfl
          go_wp2_with fail
          refine (vrefs_any r q f k _ S.out.all.bk hf).mono ?_
          rintro e w2 ⟨rfl, hw2⟩
          subst w2
          rw [errV_zero]
          by_cases r0 : k.refs f = 0
          · have LE : Hid (Mv.freC k (f + 1) = Mv.freC k f + 1) := Hid.intro (by rw [LS.out, if_pos r0])
            rw [r0] at q1 ⊢
            generalize Mv.freC k f = fc at *
            clear r0 LS
            go_wp2_with fail
            go_roundw
            case rel => exact ⟨f + 1, by go_num, by rw [LE.out]; go_num, by omega, S⟩
            case measure => simp [intOf]; omega
          · have LE : Hid (Mv.freC k (f + 1) = Mv.freC k f) := Hid.intro (by rw [LS.out, if_neg r0]; rfl)
            have r0' : ((k.refs f : Int) == 0) = false := by simp; omega
            generalize k.refs f = rf at *
            clear r0 LS
            go_wp2_with fail
            go_roundw
            case rel => exact ⟨f + 1, by go_num, by rw [LE.out], by omega, S⟩
            case measure => simp [intOf]; omega
        · have hf' : f = 64 := by omega
          subst hf'
          have FL := Hid.intro (Mv.freC_left HW.out)
          go_wp2_with fail
          refine (vleft_any r q k _ S.out.all.bk HW.out.inv.le).mono ?_
          rintro e w2 ⟨rfl, hb2⟩
          have S2 := Hid.intro (S.out.bel.trans (hb2.mono S.out.bel.size))
          clear hb2
          go_wp2_with fail
          go_ret
          exact ⟨ret_bool (by rw [FL.out]; simp), by first | exact S2.out | (have := S2.out; rw [← HBU.out] at this; exact this) | (rw [HBU.out]; exact S2.out)⟩
end Go.Proofs.Ytnppahmlifnnnab

/- The code's forest: Cut. -/
import Derived.Test.YtfgnhldnmbfnkabTm
namespace Go.Proofs.Ytfgnhldnmbfnkab
open Go.RowKit
open Tr (Fo Nd)

section
variable {ops : Array Oper} {rest : List Oper} {x : Oper} {a : Act} {w : World} {Q : Exit → Act → World → Prop}
set_option maxRecDepth 100000 in
theorem wpList_clear_by (hgd : x.guard = none) (d : Operand) (hop : x.op = Op.call { callee := Callee.builtin Builtin.clear, args := #[d], argTypes := #[182] })
    (b off n c : Nat) (hd : a.eval d = .slice (some ⟨b, off, none⟩) n c) (hn : 0 < n)
    (hc : ∀ j, j < n → (w.cell? ⟨b, off + j, none⟩).isSome = true) (hf : ∀ j, j < n → w.frozen? ⟨b, off + j, none⟩ = false)
    (h : wpList Try.prog ops Q rest (a.put x.dst (.tuple #[])) (w.setCells b off ((List.replicate n (0 : Int)).map (Value.int .u8)))) : wpList Try.prog ops Q (x :: rest) a w :=
  wpList_plain hgd fun _ hK => by
    have hrun := Lib.run_clear_slice (P := Try.prog) w 182 5 x.type (.int .u8 0) (by kernel_rfl) (fun _ => by rfl) rfl rfl b off n c hn hc hf
    rw [List.map_replicate] at h
    unfold Oper.wp
    simp [execOp, hop, resolve, invoke, builtin, hd, hrun, Result.andThen]
    exact hK _ _ h
set_option maxRecDepth 100000 in
theorem wpList_clear_none (hgd : x.guard = none) (d : Operand) (hop : x.op = Op.call { callee := Callee.builtin Builtin.clear, args := #[d], argTypes := #[182] })
    (p : Option Addr) (c : Nat) (hd : a.eval d = .slice p 0 c)
    (h : wpList Try.prog ops Q rest (a.put x.dst (.tuple #[])) w) : wpList Try.prog ops Q (x :: rest) a w :=
  wpList_plain hgd fun _ hK => by
    have hu : Try.prog.underlying 182 = some (.slice 5) := by kernel_rfl
    have hrun : (Builtin.clear_ #[182] x.type #[.slice p 0 c]).run Try.prog w = .ok (.tuple #[]) w := by
      cases p <;> simp [Builtin.clear_, run_underlying hu]
    unfold Oper.wp
    simp [execOp, hop, resolve, invoke, builtin, hd, hrun, Result.andThen]
    exact hK _ _ h
end
/-- What a Cut answers and leaves. -/
def Tr.cutE (F : Fo) (z a : Int) : Int := if Tr.isE F z 1 ≠ 0 then Tr.isE F z 1 else if a < 0 ∨ ((F.nd z.toNat).size : Int) < a then 1 else 0
def Tr.cutN (x : Nd) (a : Nat) : Nd := { x with byt := Tr.wrB x.byt a (List.replicate (40 - a) 0), size := a }
def Tr.cutF (F : Fo) (z a : Int) : Fo := if Tr.cutE F z a = 0 then F.put z.toNat (Tr.cutN (F.nd z.toNat) a.toNat) else F
/-- Files have forty bytes at most. -/
def Tr.FzOk (F : Fo) : Prop := ∀ n, n < 40 → (F.nd n).kind = 1 → (F.nd n).size ≤ 40
theorem Tr.wrB_nil (f : Nat → Int) (a : Nat) : Tr.wrB f a [] = f := by
  funext j
  unfold Tr.wrB
  split
  · rfl
  · simp
set_option maxRecDepth 100000 in
set_option maxHeartbeats 2000000 in
theorem tcut_any (b : Nat) (z a : Int) (F : Fo) (w : World) (h : FAt w b F) (hs : Tr.FzOk F) :
    Calls Try.prog 97 #[.pointer (some ⟨b, 0, none⟩), .int .i64 z, .int .i64 a] w fun e w' => e = .returned (errV (Tr.cutE F z a)) ∧ FAt w' b (Tr.cutF F z a) ∧ Frm b w w' := by
  have HF := Hid.intro h
  by_cases c : Tr.isE F z 1 = 0
  · obtain ⟨n, rfl, n40, _, k1⟩ := Tr.isE_ok c
    have EP : Hid (Tr.isE F (n : Int) 1 = 0 ∧ ptrE b (n : Int) 0 = .pointer (some ⟨b, n * 62, none⟩)) := Hid.intro ⟨c, ptrE_ok b n⟩
    have EW : Tr.cutE F (n : Int) a = if a < 0 ∨ ((F.nd n).size : Int) < a then 1 else 0 := by unfold Tr.cutE; rw [if_neg (fun d => d c), Int.toNat_natCast]
    have z40 := hs n n40 k1
    have c3 := h.cSize n n40
    by_cases a0 : a < 0
    · have FIN : Hid (Tr.cutE F (n : Int) a = 1 ∧ Tr.cutF F (n : Int) a = F) := Hid.intro (by
        have e : Tr.cutE F (n : Int) a = 1 := by rw [EW, if_pos (.inl a0)]
        exact ⟨e, by unfold Tr.cutF; rw [e, if_neg (by omega)]⟩)
      clear h c k1 EW hs z40 c3
      go_enter Try.func97, Try.ntmps97
      go_wp2_with fail
      refine (tfile_any b n F _ HF.out).mono ?_
      rintro e w1 ⟨rfl, hw1⟩
      subst w1
      rw [EP.out.1, EP.out.2, errV_zero]
      go_wp2_with fail
      go_ret
      rw [FIN.out.1, FIN.out.2]
      exact ⟨rfl, HF.out, Frm.refl _ _⟩
    · by_cases a4 : ((F.nd n).size : Int) < a
      · have FIN : Hid (Tr.cutE F (n : Int) a = 1 ∧ Tr.cutF F (n : Int) a = F) := Hid.intro (by
          have e : Tr.cutE F (n : Int) a = 1 := by rw [EW, if_pos (.inr a4)]
          exact ⟨e, by unfold Tr.cutF; rw [e, if_neg (by omega)]⟩)
        generalize (F.nd n).size = sz at c3 a4
        clear h c k1 EW hs z40
        go_enter Try.func97, Try.ntmps97
        go_wp2_with fail
        refine (tfile_any b n F _ HF.out).mono ?_
        rintro e w1 ⟨rfl, hw1⟩
        subst w1
        rw [EP.out.1, EP.out.2, errV_zero]
        go_wp2_with fail
        go_ret
        rw [FIN.out.1, FIN.out.2]
        exact ⟨rfl, HF.out, Frm.refl _ _⟩
      · have EZ : Tr.cutE F (n : Int) a = 0 := by rw [EW, if_neg (by omega)]
        obtain ⟨m, rfl⟩ : ∃ m : Nat, a = m := ⟨a.toNat, by omega⟩
        have EF : Hid (Tr.cutE F (n : Int) (m : Int) = 0 ∧ Tr.cutF F (n : Int) (m : Int) = F.put n (Tr.cutN (F.nd n) m)) := Hid.intro ⟨EZ, by unfold Tr.cutF; rw [if_pos EZ, Int.toNat_natCast, Int.toNat_natCast]⟩
        have m40 : (m : Int) ≤ 40 := by omega
        by_cases me : m = 40
        · subst me
          have FIN : Hid (FAt (w.setCell ⟨b, n * 62 + 3, none⟩ (.int .i64 40)) b (F.put n (Tr.cutN (F.nd n) 40)) ∧ Frm b w (w.setCell ⟨b, n * 62 + 3, none⟩ (.int .i64 40))) := Hid.intro (by
            have q := h.setSize n 40 n40
            unfold Tr.cutN
            rw [show List.replicate (40 - 40) (0 : Int) = [] from rfl, Tr.wrB_nil]
            exact ⟨q, (Frm.refl b w).setCell _ _⟩)
          have cf := h.frozen
          generalize (F.nd n).size = sz at c3 a4 z40
          obtain rfl : sz = 40 := by omega
          have c3' : w.cell? ⟨b, n * 62 + 3, none⟩ = some (.int .i64 40) := c3
          clear h c k1 EW hs z40 EZ m40 c3 a0 a4
          go_enter Try.func97, Try.ntmps97
          go_wp2_with fail
          refine (tfile_any b n F _ HF.out).mono ?_
          rintro e w1 ⟨rfl, hw1⟩
          subst w1
          rw [EP.out.1, EP.out.2, errV_zero]
          go_wp2_with (refine wpList_clear_none rfl _ rfl _ _ rfl ?_)
          go_ret
          rw [EF.out.1, EF.out.2]
          exact ⟨rfl, FIN.out⟩
        · have mlt : m < 40 := by omega
          have mltI : (m : Int) < 40 := by omega
          have mn0 : ¬ m = 40 := by omega
          have mn1 : ¬ 40 - m = 0 := by omega
          have mn2 : ¬ (m : Int) = 40 := by omega
          have m0 : 0 < 40 - m := by omega
          have CC : Hid (∀ j, j < 40 - m → (w.cell? ⟨b, n * 62 + 22 + m + j, none⟩).isSome = true) := Hid.intro (fun j hj => by rw [h.cell _ (by omega)]; rfl)
          have CF : Hid (∀ j, j < 40 - m → w.frozen? ⟨b, n * 62 + 22 + m + j, none⟩ = false) := Hid.intro (fun j _ => h.frozen _)
          have S1 : Hid (FAt (w.setCells b (n * 62 + 22 + m) ((List.replicate (40 - m) (0 : Int)).map (Value.int .u8))) b (F.put n { F.nd n with byt := Tr.wrB (F.nd n).byt m (List.replicate (40 - m) 0) }) ∧ Frm b w (w.setCells b (n * 62 + 22 + m) ((List.replicate (40 - m) (0 : Int)).map (Value.int .u8)))) := Hid.intro ⟨h.setBytes n m _ (by rw [List.length_replicate]; omega), Frm.setCells _ _ (Frm.refl b w)⟩
          obtain ⟨sz, hsz⟩ : ∃ sz, (F.nd n).size = sz := ⟨_, rfl⟩
          have HSZ := Hid.intro hsz
          rw [hsz] at c3 a4 z40
          clear h c k1 EW hs EZ me hsz
          obtain ⟨L, hL⟩ : ∃ L, (List.replicate (40 - m) (0 : Int)).map (Value.int .u8) = L := ⟨_, rfl⟩
          rw [hL] at S1
          go_enter Try.func97, Try.ntmps97
          go_wp2_with fail
          refine (tfile_any b n F _ HF.out).mono ?_
          rintro e w1 ⟨rfl, hw1⟩
          subst w1
          rw [EP.out.1, EP.out.2, errV_zero]
          go_upto_region 7 with (refine wpList_clear_by rfl _ rfl b (n * 62 + 22 + m) (40 - m) (40 - m) rfl m0 CC.out CF.out ?_; rw [hL])
          refine wp_gen (fun W => FAt W b (F.put n { F.nd n with byt := Tr.wrB (F.nd n).byt m (List.replicate (40 - m) 0) }) ∧ Frm b w W) S1.out ?_
          intro W2 h2
          have S2 := Hid.intro h2
          clear h2 S1 CC CF hL c3
          have c3 := S2.out.1.cSize n n40
          rw [Tr.put_same] at c3
          have cf := S2.out.1.frozen
          have c3' : W2.cell? ⟨b, n * 62 + 3, none⟩ = some (.int .i64 (sz : Int)) := by rw [c3, ← HSZ.out]
          have FIN : Hid (FAt (W2.setCell ⟨b, n * 62 + 3, none⟩ (.int .i64 (m : Int))) b (F.put n (Tr.cutN (F.nd n) m)) ∧ Frm b w (W2.setCell ⟨b, n * 62 + 3, none⟩ (.int .i64 (m : Int)))) := Hid.intro (by
            have q := S2.out.1.setSize n m n40
            rw [Tr.put_same, Tr.put_put] at q
            exact ⟨q, S2.out.2.setCell _ _⟩)
          clear c3
          go_wp2_with fail
          go_ret
          rw [EF.out.1, EF.out.2]
          exact ⟨rfl, FIN.out⟩
  · have E2 : Hid (ptrE b z (Tr.isE F z 1) = .pointer none ∧ errV (Tr.isE F z 1) = .iface 128 (.int .i64 (Tr.isE F z 1)) ∧ Tr.cutE F z a = Tr.isE F z 1 ∧ Tr.cutF F z a = F) := Hid.intro (by
      have e : Tr.cutE F z a = Tr.isE F z 1 := if_pos c
      exact ⟨ptrE_no c, errV_ne c, e, by unfold Tr.cutF; rw [e, if_neg c]⟩)
    clear h c hs
    go_enter Try.func97, Try.ntmps97
    go_wp2_with fail
    refine (tfile_any b z F _ HF.out).mono ?_
    rintro e w1 ⟨rfl, hw⟩
    subst w1
    rw [E2.out.1, E2.out.2.1]
    go_wp2_with fail
    go_ret
    rw [E2.out.2.2.1, E2.out.2.2.2, E2.out.2.1]
    exact ⟨rfl, HF.out, Frm.refl _ _⟩
end Go.Proofs.Ytfgnhldnmbfnkab

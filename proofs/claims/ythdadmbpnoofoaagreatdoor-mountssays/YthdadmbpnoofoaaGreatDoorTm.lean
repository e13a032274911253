/- The code's forest: Write. -/
import Derived.Test.YthdadmbpnoofoaaGreatDoorTi
import Derived.Lib.LazyBuf
import Derived.Lib.SliceRun
import Derived.Laws.BytesString
import Derived.Test.YthdadmbpnoofoaaGreatDoorBc
namespace Go.Proofs.YthdadmbpnoofoaaGreatDoor
open Go.RowKit
open Tr (Fo Nd)

/-- Bytes are written at a place. -/
def Tr.wrB (f : Nat → Int) (a : Nat) (L : List Int) : Nat → Int := fun j => if j < a then f j else (L[j - a]?).getD (f j)
def Tr.byI (s : ByteArray) : List Int := s.data.toList.map fun x => (x.toNat : Int)
theorem Tr.byI_len (s : ByteArray) : (Tr.byI s).length = s.size := by simp [Tr.byI]
theorem Tr.byI_map (s : ByteArray) : (s.data.toList.map fun x => Value.int .u8 (x.toNat : Int)) = (Tr.byI s).map (Value.int .u8) := by simp [Tr.byI, Function.comp_def]
theorem FAt.setBytes {w : World} {b : Nat} {F : Fo} (h : FAt w b F) (n a : Nat) (L : List Int) (hL : a + L.length ≤ 40) : FAt (w.setCells b (n * 62 + 22 + a) (L.map (Value.int .u8))) b (F.put n { F.nd n with byt := Tr.wrB (F.nd n).byt a L }) := by
  obtain ⟨C, h1, h2⟩ := h.blk
  obtain ⟨C', k1, k2⟩ := theap_setCells_blk b (L.map (Value.int .u8)) (n * 62 + 22 + a) w C h1
  have hlen : (L.map (Value.int .u8)).length = L.length := by simp
  refine ⟨⟨C', k1, by omega⟩, fun o ho => ?_⟩
  by_cases c : n * 62 + 22 + a ≤ o ∧ o < n * 62 + 22 + a + L.length
  · obtain ⟨j, rfl, hj⟩ : ∃ j, o = n * 62 + 22 + a + j ∧ j < L.length := ⟨o - (n * 62 + 22 + a), by omega, by omega⟩
    rw [World.cell?_setCells_in b (L.map (Value.int .u8)) (n * 62 + 22 + a) w (fun i hi => by rw [hlen] at hi; rw [h.cell _ (by omega)]; rfl) j (by rw [hlen]; exact hj)]
    unfold cellF
    rw [if_pos (by omega), show (n * 62 + 22 + a + j) / 62 = n by omega, show (n * 62 + 22 + a + j) % 62 = 22 + (a + j) by omega, Tr.put_same, cellN_byt]
    show _ = some (Value.int .u8 (Tr.wrB (F.nd n).byt a L (a + j)))
    unfold Tr.wrB
    rw [if_neg (by omega), show a + j - a = j by omega, List.getElem?_eq_getElem hj, Option.getD_some, List.getElem_map]
  · rw [World.cell?_setCells_out b _ (n * 62 + 22 + a) w ⟨b, o, none⟩ (fun _ _ => by rw [hlen]; show o < _ ∨ _ ≤ o; omega), h.cell o ho]
    unfold cellF
    by_cases d : o < 2480
    · rw [if_pos d, if_pos d]
      by_cases e : o / 62 = n
      · rw [e, Tr.put_same]
        by_cases g : o % 62 < 22
        · unfold cellN; repeat' split
          all_goals first | rfl | omega
        · rw [show o % 62 = 22 + (o % 62 - 22) by omega, cellN_byt, cellN_byt]
          show _ = some (Value.int .u8 (Tr.wrB (F.nd n).byt a L (o % 62 - 22)))
          unfold Tr.wrB
          by_cases i : o % 62 - 22 < a
          · rw [if_pos i]
          · rw [if_neg i, List.getElem?_eq_none (by omega), Option.getD_none]
      · rw [Tr.put_ne _ _ _ _ e]
    · rw [if_neg d, if_neg d]; rfl
section
variable {ops : Array Oper} {rest : List Oper} {x : Oper} {a : Act} {w : World} {Q : Exit → Act → World → Prop}
theorem wpList_copy_str (hgd : x.guard = none) (d y : Operand) (dT sT : TypeId) (hop : x.op = Op.call { callee := Callee.builtin Builtin.copy, args := #[d, y], argTypes := #[dT, sT] })
    (elem : TypeId) (hu : Tryz.prog.underlying dT = some (.slice elem)) (hz : ∀ w, (Go.sizeOf elem).run Tryz.prog w = .ok 1 w)
    (b off dLen dCap : Nat) (hd : a.eval d = .slice (some ⟨b, off, none⟩) dLen dCap) (t : ByteArray) (hx : a.eval y = .string t) (hle : t.size ≤ dLen)
    (hc : ∀ j, j < t.size → (w.cell? ⟨b, off + j, none⟩).isSome = true) (hf : ∀ j, j < t.size → w.frozen? ⟨b, off + j, none⟩ = false)
    (h : wpList Tryz.prog ops Q rest (a.put x.dst (goInt t.size)) (w.setCells b off ((Tr.byI t).map (Value.int .u8)))) : wpList Tryz.prog ops Q (x :: rest) a w :=
  wpList_plain hgd fun _ hK => by
    have hrun := run_copy_string (P := Tryz.prog) w dT sT x.type elem b off dLen dCap t hu hz hle hc hf
    rw [Tr.byI_map] at hrun
    unfold Oper.wp
    simp [execOp, hop, resolve, invoke, builtin, hd, hx, hrun, Result.andThen]
    exact hK _ _ h
end
/-- What a Write answers and leaves. -/
def Tr.wriE (F : Fo) (z a : Int) (s : ByteArray) : Int := if Tr.isE F z 1 ≠ 0 then Tr.isE F z 1 else if a < 0 then 1 else if 40 - (s.size : Int) < a then 4 else 0
def Tr.wriN (x : Nd) (a : Nat) (s : ByteArray) : Nd := { x with byt := Tr.wrB x.byt a (Tr.byI s), size := max x.size (a + s.size) }
def Tr.wriF (F : Fo) (z a : Int) (s : ByteArray) : Fo := if Tr.wriE F z a s = 0 ∧ s.size ≠ 0 then F.put z.toNat (Tr.wriN (F.nd z.toNat) a.toNat s) else F
set_option maxRecDepth 100000 in
set_option maxHeartbeats 2000000 in
theorem twrite_any (b : Nat) (z a : Int) (s : ByteArray) (F : Fo) (w : World) (h : FAt w b F) (hs : s.size < 2 ^ 60) :
    Calls Tryz.prog 43 #[.pointer (some ⟨b, 0, none⟩), .int .i64 z, .int .i64 a, .string s] w fun e w' => e = .returned (errV (Tr.wriE F z a s)) ∧ FAt w' b (Tr.wriF F z a s) ∧ Frm b w w' := by
  have HF := Hid.intro h
  by_cases c : Tr.isE F z 1 = 0
  · obtain ⟨n, rfl, n40, _, k1⟩ := Tr.isE_ok c
    have EP : Hid (Tr.isE F (n : Int) 1 = 0 ∧ ptrE b (n : Int) 0 = .pointer (some ⟨b, n * 62, none⟩)) := Hid.intro ⟨c, ptrE_ok b n⟩
    have EW : Tr.wriE F (n : Int) a s = if a < 0 then 1 else if 40 - (s.size : Int) < a then 4 else 0 := by unfold Tr.wriE; rw [if_neg (fun d => d c)]
    have hw : IntKind.i64.wrap (40 - (s.size : Int)) = 40 - (s.size : Int) := IntWalk.i64_in _ ⟨by omega, by omega⟩
    by_cases a0 : a < 0
    · have FIN : Hid (Tr.wriE F (n : Int) a s = 1 ∧ Tr.wriF F (n : Int) a s = F) := Hid.intro (by
        have e : Tr.wriE F (n : Int) a s = 1 := by rw [EW, if_pos a0]
        exact ⟨e, by unfold Tr.wriF; rw [e, if_neg (by omega)]⟩)
      clear h c k1 EW hs
      go_enter Tryz.func43, Tryz.ntmps43
      go_wp2_with fail
      refine (tfile_any b n F _ HF.out).mono ?_
      rintro e w1 ⟨rfl, hw1⟩
      subst w1
      rw [EP.out.1, EP.out.2, errV_zero]
      go_wp2_with fail
      go_ret
      rw [FIN.out.1, FIN.out.2]
      exact ⟨rfl, HF.out, Frm.refl _ _⟩
    · by_cases a4 : 40 - (s.size : Int) < a
      · have FIN : Hid (Tr.wriE F (n : Int) a s = 4 ∧ Tr.wriF F (n : Int) a s = F) := Hid.intro (by
          have e : Tr.wriE F (n : Int) a s = 4 := by rw [EW, if_neg a0, if_pos a4]
          exact ⟨e, by unfold Tr.wriF; rw [e, if_neg (by omega)]⟩)
        clear h c k1 EW hs
        go_enter Tryz.func43, Tryz.ntmps43
        go_wp2_with fail
        refine (tfile_any b n F _ HF.out).mono ?_
        rintro e w1 ⟨rfl, hw1⟩
        subst w1
        rw [EP.out.1, EP.out.2, errV_zero]
        go_wp2_with fail
        go_ret
        rw [FIN.out.1, FIN.out.2]
        exact ⟨rfl, HF.out, Frm.refl _ _⟩
      · have EZ : Tr.wriE F (n : Int) a s = 0 := by rw [EW, if_neg a0, if_neg a4]
        by_cases s0 : s.size = 0
        · have FIN : Hid (Tr.wriE F (n : Int) a s = 0 ∧ Tr.wriF F (n : Int) a s = F) := Hid.intro ⟨EZ, by unfold Tr.wriF; rw [if_neg (by omega)]⟩
          have sl : (s.toList == []) = true := by
            obtain rfl : s = ⟨#[]⟩ := by
              apply ByteArray.ext
              exact Array.eq_empty_of_size_eq_zero s0
            rw [ByteArray.toList_eq]; rfl
          clear h c k1 EW hs EZ s0
          go_enter Tryz.func43, Tryz.ntmps43
          go_wp2_with fail
          refine (tfile_any b n F _ HF.out).mono ?_
          rintro e w1 ⟨rfl, hw1⟩
          subst w1
          rw [EP.out.1, EP.out.2, errV_zero]
          go_wp2_with fail
          go_ret
          rw [FIN.out.1, FIN.out.2]
          exact ⟨rfl, HF.out, Frm.refl _ _⟩
        · obtain ⟨m, rfl⟩ : ∃ m : Nat, a = m := ⟨a.toNat, by omega⟩
          have EF : Hid (Tr.wriE F (n : Int) (m : Int) s = 0 ∧ Tr.wriF F (n : Int) (m : Int) s = F.put n (Tr.wriN (F.nd n) m s)) := Hid.intro ⟨EZ, by unfold Tr.wriF; rw [if_pos ⟨EZ, s0⟩, Int.toNat_natCast, Int.toNat_natCast]⟩
          have hm : m + s.size ≤ 40 := by omega
          have m40 : (m : Int) < 40 := by omega
          have m40b : (m : Int) ≤ 40 := by omega
          have mlt : m < 40 := by omega
          have mn0 : ¬ m = 40 := by omega
          have mn1 : ¬ 40 - m = 0 := by omega
          have mn2 : ¬ (m : Int) = 40 := by omega
          have sl : (s.toList == []) = false := by
            rw [beq_eq_false_iff_ne]
            intro e
            rw [ByteArray.toList_eq] at e
            apply s0
            show s.data.size = 0
            rw [← Array.length_toList, e]
            rfl
          have ad : IntKind.i64.wrap ((m : Int) + (s.size : Int)) = ((m + s.size : Nat) : Int) := (IntWalk.i64_in _ ⟨by omega, by omega⟩).trans (by omega)
          have CC : Hid (∀ j, j < s.size → (w.cell? ⟨b, n * 62 + 22 + m + j, none⟩).isSome = true) := Hid.intro (fun j hj => by rw [h.cell _ (by omega)]; rfl)
          have CF : Hid (∀ j, j < s.size → w.frozen? ⟨b, n * 62 + 22 + m + j, none⟩ = false) := Hid.intro (fun j _ => h.frozen _)
          have S1 : Hid (FAt (w.setCells b (n * 62 + 22 + m) ((Tr.byI s).map (Value.int .u8))) b (F.put n { F.nd n with byt := Tr.wrB (F.nd n).byt m (Tr.byI s) }) ∧ Frm b w (w.setCells b (n * 62 + 22 + m) ((Tr.byI s).map (Value.int .u8)))) := Hid.intro ⟨h.setBytes n m _ (by rw [Tr.byI_len]; exact hm), Frm.setCells _ _ (Frm.refl b w)⟩
          have hsm : s.size ≤ 40 - m := by omega
          have hcz : ∀ w, (Go.sizeOf 5).run Tryz.prog w = .ok 1 w := fun w => by rfl
          clear h c k1 EW hs EZ s0
          obtain ⟨L, hL⟩ : ∃ L, (Tr.byI s).map (Value.int .u8) = L := ⟨_, rfl⟩
          rw [hL] at S1
          go_enter Tryz.func43, Tryz.ntmps43
          go_wp2_with fail
          refine (tfile_any b n F _ HF.out).mono ?_
          rintro e w1 ⟨rfl, hw1⟩
          subst w1
          rw [EP.out.1, EP.out.2, errV_zero]
          go_upto_region 11 with (refine wpList_copy_str rfl _ _ _ _ rfl 5 (by kernel_rfl) hcz b (n * 62 + 22 + m) (40 - m) (40 - m) rfl s rfl hsm CC.out CF.out ?_; rw [hL])
          refine wp_gen (fun W => FAt W b (F.put n { F.nd n with byt := Tr.wrB (F.nd n).byt m (Tr.byI s) }) ∧ Frm b w W) S1.out ?_
          intro W2 h2
          have S2 := Hid.intro h2
          clear h2 S1 CC CF hL
          have c3 := S2.out.1.cSize n n40
          rw [Tr.put_same] at c3
          have cf := S2.out.1.frozen
          obtain ⟨sz, hsz⟩ : ∃ sz, (F.nd n).size = sz := ⟨_, rfl⟩
          have c3' : W2.cell? ⟨b, n * 62 + 3, none⟩ = some (.int .i64 (sz : Int)) := by rw [c3, ← hsz]
          have FIN : Hid (FAt (W2.setCell ⟨b, n * 62 + 3, none⟩ (.int .i64 (max (sz : Int) ((m : Int) + (s.size : Int))))) b (F.put n (Tr.wriN (F.nd n) m s)) ∧ Frm b w (W2.setCell ⟨b, n * 62 + 3, none⟩ (.int .i64 (max (sz : Int) ((m : Int) + (s.size : Int)))))) := Hid.intro (by
            have q := S2.out.1.setSize n (max sz (m + s.size)) n40
            rw [Tr.put_same, Tr.put_put] at q
            unfold Tr.wriN
            rw [hsz]
            rw [show (max (sz : Int) ((m : Int) + (s.size : Int))) = ((max sz (m + s.size) : Nat) : Int) by omega]
            exact ⟨q, S2.out.2.setCell _ _⟩)
          clear c3 hsz
          go_wp2_with fail
          go_ret
          rw [EF.out.1, EF.out.2]
          exact ⟨rfl, FIN.out⟩
  · have E2 : Hid (ptrE b z (Tr.isE F z 1) = .pointer none ∧ errV (Tr.isE F z 1) = .iface 83 (.int .i64 (Tr.isE F z 1)) ∧ Tr.wriE F z a s = Tr.isE F z 1 ∧ Tr.wriF F z a s = F) := Hid.intro (by
      have e : Tr.wriE F z a s = Tr.isE F z 1 := if_pos c
      exact ⟨ptrE_no c, errV_ne c, e, by unfold Tr.wriF; rw [e, if_neg (fun d => c d.1)]⟩)
    clear h c hs
    go_enter Tryz.func43, Tryz.ntmps43
    go_wp2_with fail
    refine (tfile_any b z F _ HF.out).mono ?_
    rintro e w1 ⟨rfl, hw⟩
    subst w1
    rw [E2.out.1, E2.out.2.1]
    go_wp2_with fail
    go_ret
    rw [E2.out.2.2.1, E2.out.2.2.2, E2.out.2.1]
    exact ⟨rfl, HF.out, Frm.refl _ _⟩
end Go.Proofs.YthdadmbpnoofoaaGreatDoor
/- The code's forest: Cut. -/
namespace Go.Proofs.YthdadmbpnoofoaaGreatDoor
open Go.RowKit
open Tr (Fo Nd)

section
variable {ops : Array Oper} {rest : List Oper} {x : Oper} {a : Act} {w : World} {Q : Exit → Act → World → Prop}
set_option maxRecDepth 100000 in
theorem wpList_clear_by (hgd : x.guard = none) (d : Operand) (hop : x.op = Op.call { callee := Callee.builtin Builtin.clear, args := #[d], argTypes := #[143] })
    (b off n c : Nat) (hd : a.eval d = .slice (some ⟨b, off, none⟩) n c) (hn : 0 < n)
    (hc : ∀ j, j < n → (w.cell? ⟨b, off + j, none⟩).isSome = true) (hf : ∀ j, j < n → w.frozen? ⟨b, off + j, none⟩ = false)
    (h : wpList Tryz.prog ops Q rest (a.put x.dst (.tuple #[])) (w.setCells b off ((List.replicate n (0 : Int)).map (Value.int .u8)))) : wpList Tryz.prog ops Q (x :: rest) a w :=
  wpList_plain hgd fun _ hK => by
    have hrun := Lib.run_clear_slice (P := Tryz.prog) w 143 5 x.type (.int .u8 0) (by kernel_rfl) (fun _ => by rfl) rfl rfl b off n c hn hc hf
    rw [List.map_replicate] at h
    unfold Oper.wp
    simp [execOp, hop, resolve, invoke, builtin, hd, hrun, Result.andThen]
    exact hK _ _ h
set_option maxRecDepth 100000 in
theorem wpList_clear_none (hgd : x.guard = none) (d : Operand) (hop : x.op = Op.call { callee := Callee.builtin Builtin.clear, args := #[d], argTypes := #[143] })
    (p : Option Addr) (c : Nat) (hd : a.eval d = .slice p 0 c)
    (h : wpList Tryz.prog ops Q rest (a.put x.dst (.tuple #[])) w) : wpList Tryz.prog ops Q (x :: rest) a w :=
  wpList_plain hgd fun _ hK => by
    have hu : Tryz.prog.underlying 143 = some (.slice 5) := by kernel_rfl
    have hrun : (Builtin.clear_ #[143] x.type #[.slice p 0 c]).run Tryz.prog w = .ok (.tuple #[]) w := by
      cases p <;> simp [Builtin.clear_, run_underlying hu]
    unfold Oper.wp
    simp [execOp, hop, resolve, invoke, builtin, hd, hrun, Result.andThen]
    exact hK _ _ h
end
/-- What a Cut answers and leaves. -/
def Tr.cutE (F : Fo) (z a : Int) : Int := if Tr.isE F z 1 ≠ 0 then Tr.isE F z 1 else if a < 0 ∨ ((F.nd z.toNat).size : Int) < a then 1 else 0
def Tr.cutN (x : Nd) (a : Nat) : Nd := { x with byt := Tr.wrB x.byt a (List.replicate (40 - a) 0), size := a }
def Tr.cutF (F : Fo) (z a : Int) : Fo := if Tr.cutE F z a = 0 then F.put z.toNat (Tr.cutN (F.nd z.toNat) a.toNat) else F
/-- Files have forty bytes at most. -/
def Tr.FzOk (F : Fo) : Prop := ∀ n, n < 40 → (F.nd n).kind = 1 → (F.nd n).size ≤ 40
theorem Tr.wrB_nil (f : Nat → Int) (a : Nat) : Tr.wrB f a [] = f := by
  funext j
  unfold Tr.wrB
  split
  · rfl
  · simp
set_option maxRecDepth 100000 in
set_option maxHeartbeats 2000000 in
theorem tcut_any (b : Nat) (z a : Int) (F : Fo) (w : World) (h : FAt w b F) (hs : Tr.FzOk F) :
    Calls Tryz.prog 45 #[.pointer (some ⟨b, 0, none⟩), .int .i64 z, .int .i64 a] w fun e w' => e = .returned (errV (Tr.cutE F z a)) ∧ FAt w' b (Tr.cutF F z a) ∧ Frm b w w' := by
  have HF := Hid.intro h
  by_cases c : Tr.isE F z 1 = 0
  · obtain ⟨n, rfl, n40, _, k1⟩ := Tr.isE_ok c
    have EP : Hid (Tr.isE F (n : Int) 1 = 0 ∧ ptrE b (n : Int) 0 = .pointer (some ⟨b, n * 62, none⟩)) := Hid.intro ⟨c, ptrE_ok b n⟩
    have EW : Tr.cutE F (n : Int) a = if a < 0 ∨ ((F.nd n).size : Int) < a then 1 else 0 := by unfold Tr.cutE; rw [if_neg (fun d => d c), Int.toNat_natCast]
    have z40 := hs n n40 k1
    have c3 := h.cSize n n40
    by_cases a0 : a < 0
    · have FIN : Hid (Tr.cutE F (n : Int) a = 1 ∧ Tr.cutF F (n : Int) a = F) := Hid.intro (by
        have e : Tr.cutE F (n : Int) a = 1 := by rw [EW, if_pos (.inl a0)]
        exact ⟨e, by unfold Tr.cutF; rw [e, if_neg (by omega)]⟩)
      clear h c k1 EW hs z40 c3
      go_enter Tryz.func45, Tryz.ntmps45
      go_wp2_with fail
      refine (tfile_any b n F _ HF.out).mono ?_
      rintro e w1 ⟨rfl, hw1⟩
      subst w1
      rw [EP.out.1, EP.out.2, errV_zero]
      go_wp2_with fail
      go_ret
      rw [FIN.out.1, FIN.out.2]
      exact ⟨rfl, HF.out, Frm.refl _ _⟩
    · by_cases a4 : ((F.nd n).size : Int) < a
      · have FIN : Hid (Tr.cutE F (n : Int) a = 1 ∧ Tr.cutF F (n : Int) a = F) := Hid.intro (by
          have e : Tr.cutE F (n : Int) a = 1 := by rw [EW, if_pos (.inr a4)]
          exact ⟨e, by unfold Tr.cutF; rw [e, if_neg (by omega)]⟩)
        generalize (F.nd n).size = sz at c3 a4
        clear h c k1 EW hs z40
        go_enter Tryz.func45, Tryz.ntmps45
        go_wp2_with fail
        refine (tfile_any b n F _ HF.out).mono ?_
        rintro e w1 ⟨rfl, hw1⟩
        subst w1
        rw [EP.out.1, EP.out.2, errV_zero]
        go_wp2_with fail
        go_ret
        rw [FIN.out.1, FIN.out.2]
        exact ⟨rfl, HF.out, Frm.refl _ _⟩
      · have EZ : Tr.cutE F (n : Int) a = 0 := by rw [EW, if_neg (by omega)]
        obtain ⟨m, rfl⟩ : ∃ m : Nat, a = m := ⟨a.toNat, by omega⟩
        have EF : Hid (Tr.cutE F (n : Int) (m : Int) = 0 ∧ Tr.cutF F (n : Int) (m : Int) = F.put n (Tr.cutN (F.nd n) m)) := Hid.intro ⟨EZ, by unfold Tr.cutF; rw [if_pos EZ, Int.toNat_natCast, Int.toNat_natCast]⟩
        have m40 : (m : Int) ≤ 40 := by omega
        by_cases me : m = 40
        · subst me
          have FIN : Hid (FAt (w.setCell ⟨b, n * 62 + 3, none⟩ (.int .i64 40)) b (F.put n (Tr.cutN (F.nd n) 40)) ∧ Frm b w (w.setCell ⟨b, n * 62 + 3, none⟩ (.int .i64 40))) := Hid.intro (by
            have q := h.setSize n 40 n40
            unfold Tr.cutN
            rw [show List.replicate (40 - 40) (0 : Int) = [] from rfl, Tr.wrB_nil]
            exact ⟨q, (Frm.refl b w).setCell _ _⟩)
          have cf := h.frozen
          generalize (F.nd n).size = sz at c3 a4 z40
          obtain rfl : sz = 40 := by omega
          have c3' : w.cell? ⟨b, n * 62 + 3, none⟩ = some (.int .i64 40) := c3
          clear h c k1 EW hs z40 EZ m40 c3 a0 a4
          go_enter Tryz.func45, Tryz.ntmps45
          go_wp2_with fail
          refine (tfile_any b n F _ HF.out).mono ?_
          rintro e w1 ⟨rfl, hw1⟩
          subst w1
          rw [EP.out.1, EP.out.2, errV_zero]
          go_wp2_with (refine wpList_clear_none rfl _ rfl _ _ rfl ?_)
          go_ret
          rw [EF.out.1, EF.out.2]
          exact ⟨rfl, FIN.out⟩
        · have mlt : m < 40 := by omega
          have mltI : (m : Int) < 40 := by omega
          have mn0 : ¬ m = 40 := by omega
          have mn1 : ¬ 40 - m = 0 := by omega
          have mn2 : ¬ (m : Int) = 40 := by omega
          have m0 : 0 < 40 - m := by omega
          have CC : Hid (∀ j, j < 40 - m → (w.cell? ⟨b, n * 62 + 22 + m + j, none⟩).isSome = true) := Hid.intro (fun j hj => by rw [h.cell _ (by omega)]; rfl)
          have CF : Hid (∀ j, j < 40 - m → w.frozen? ⟨b, n * 62 + 22 + m + j, none⟩ = false) := Hid.intro (fun j _ => h.frozen _)
          have S1 : Hid (FAt (w.setCells b (n * 62 + 22 + m) ((List.replicate (40 - m) (0 : Int)).map (Value.int .u8))) b (F.put n { F.nd n with byt := Tr.wrB (F.nd n).byt m (List.replicate (40 - m) 0) }) ∧ Frm b w (w.setCells b (n * 62 + 22 + m) ((List.replicate (40 - m) (0 : Int)).map (Value.int .u8)))) := Hid.intro ⟨h.setBytes n m _ (by rw [List.length_replicate]; omega), Frm.setCells _ _ (Frm.refl b w)⟩
          obtain ⟨sz, hsz⟩ : ∃ sz, (F.nd n).size = sz := ⟨_, rfl⟩
          have HSZ := Hid.intro hsz
          rw [hsz] at c3 a4 z40
          clear h c k1 EW hs EZ me hsz
          obtain ⟨L, hL⟩ : ∃ L, (List.replicate (40 - m) (0 : Int)).map (Value.int .u8) = L := ⟨_, rfl⟩
          rw [hL] at S1
          go_enter Tryz.func45, Tryz.ntmps45
          go_wp2_with fail
          refine (tfile_any b n F _ HF.out).mono ?_
          rintro e w1 ⟨rfl, hw1⟩
          subst w1
          rw [EP.out.1, EP.out.2, errV_zero]
          go_upto_region 7 with (refine wpList_clear_by rfl _ rfl b (n * 62 + 22 + m) (40 - m) (40 - m) rfl m0 CC.out CF.out ?_; rw [hL])
          refine wp_gen (fun W => FAt W b (F.put n { F.nd n with byt := Tr.wrB (F.nd n).byt m (List.replicate (40 - m) 0) }) ∧ Frm b w W) S1.out ?_
          intro W2 h2
          have S2 := Hid.intro h2
          clear h2 S1 CC CF hL c3
          have c3 := S2.out.1.cSize n n40
          rw [Tr.put_same] at c3
          have cf := S2.out.1.frozen
          have c3' : W2.cell? ⟨b, n * 62 + 3, none⟩ = some (.int .i64 (sz : Int)) := by rw [c3, ← HSZ.out]
          have FIN : Hid (FAt (W2.setCell ⟨b, n * 62 + 3, none⟩ (.int .i64 (m : Int))) b (F.put n (Tr.cutN (F.nd n) m)) ∧ Frm b w (W2.setCell ⟨b, n * 62 + 3, none⟩ (.int .i64 (m : Int)))) := Hid.intro (by
            have q := S2.out.1.setSize n m n40
            rw [Tr.put_same, Tr.put_put] at q
            exact ⟨q, S2.out.2.setCell _ _⟩)
          clear c3
          go_wp2_with fail
          go_ret
          rw [EF.out.1, EF.out.2]
          exact ⟨rfl, FIN.out⟩
  · have E2 : Hid (ptrE b z (Tr.isE F z 1) = .pointer none ∧ errV (Tr.isE F z 1) = .iface 83 (.int .i64 (Tr.isE F z 1)) ∧ Tr.cutE F z a = Tr.isE F z 1 ∧ Tr.cutF F z a = F) := Hid.intro (by
      have e : Tr.cutE F z a = Tr.isE F z 1 := if_pos c
      exact ⟨ptrE_no c, errV_ne c, e, by unfold Tr.cutF; rw [e, if_neg c]⟩)
    clear h c hs
    go_enter Tryz.func45, Tryz.ntmps45
    go_wp2_with fail
    refine (tfile_any b z F _ HF.out).mono ?_
    rintro e w1 ⟨rfl, hw⟩
    subst w1
    rw [E2.out.1, E2.out.2.1]
    go_wp2_with fail
    go_ret
    rw [E2.out.2.2.1, E2.out.2.2.2, E2.out.2.1]
    exact ⟨rfl, HF.out, Frm.refl _ _⟩
end Go.Proofs.YthdadmbpnoofoaaGreatDoor
/- The code's forest: Read. -/
namespace Go.Proofs.YthdadmbpnoofoaaGreatDoor
open Go.RowKit
open Tr (Fo Nd)

/-- The bytes from a place on, so many. -/
def Tr.rdL (f : Nat → Int) (a k : Nat) : List Int := (List.range k).map fun j => f (a + j)
def Tr.rdS (f : Nat → Int) (a k : Nat) : ByteArray := (Tr.rdL f a k).foldl (fun r n => r.push (UInt8.ofNat n.toNat)) ByteArray.empty
theorem Tr.rdL_len (f : Nat → Int) (a k : Nat) : (Tr.rdL f a k).length = k := by simp [Tr.rdL]
theorem FAt.loads {w : World} {b : Nat} {F : Fo} (h : FAt w b F) (n lo k : Nat) (hn : n < 40) (hk : lo + k ≤ 40) (ad : Addr) (had : 0 < k → ad = ⟨b, n * 62 + 22 + lo, none⟩) : (loadCells ad k).run Tryz.prog w = .ok ((Tr.rdL (F.nd n).byt lo k).map (Value.int .u8)).toArray w := by
  have := run_loadCells_list (P := Tryz.prog) w ad ((Tr.rdL (F.nd n).byt lo k).map (Value.int .u8)) (fun j v hv => by
    have hj : j < k := by have := (List.getElem?_eq_some_iff.1 hv).1; rw [List.length_map, Tr.rdL_len] at this; exact this
    rw [had (by omega)]
    have e : (⟨b, n * 62 + 22 + lo, none⟩ : Addr).add j = ⟨b, n * 62 + 22 + (lo + j), none⟩ := by
      unfold Addr.add
      split
      · simp_all
      · simp_all; omega
    rw [e, h.cByt n (lo + j) hn (by omega), ← hv]
    simp [Tr.rdL, hj])
  rw [List.length_map, Tr.rdL_len] at this
  exact this
section
variable {ops : Array Oper} {rest : List Oper} {x : Oper} {a : Act} {w : World} {Q : Exit → Act → World → Prop}
set_option maxRecDepth 100000 in
theorem wpList_bytes_str (hgd : x.guard = none) (y : Operand) (hop : x.op = Op.convert 143 9 y)
    (ad : Addr) (k c : Nat) (hd : a.eval y = .slice (some ad) k c) (ns : List Int) (hl : (loadCells ad k).run Tryz.prog w = .ok (ns.map (Value.int .u8)).toArray w)
    (h : wpList Tryz.prog ops Q rest (a.put x.dst (.string (ns.foldl (fun r n => r.push (UInt8.ofNat n.toNat)) ByteArray.empty))) w) : wpList Tryz.prog ops Q (x :: rest) a w :=
  wpList_plain hgd fun _ hK => by
    have hrun := (run_convert_bytes_string (P := Tryz.prog) w 143 9 5 (some ad) k c (by kernel_rfl) (by kernel_rfl) (by kernel_rfl)).trans (run_bytesToString w ad k c ns hl)
    unfold Oper.wp
    simp [execOp, hop, hd, hrun, Result.andThen]
    exact hK _ _ h
end
/-- What a Read answers. -/
def Tr.reaE (F : Fo) (z a m : Int) : Int := if Tr.isE F z 1 ≠ 0 then Tr.isE F z 1 else if a < 0 ∨ m < 0 then 1 else 0
def Tr.reaS (F : Fo) (z a m : Int) : ByteArray :=
  if Tr.reaE F z a m = 0 then Tr.rdS (F.nd z.toNat).byt (min a.toNat (F.nd z.toNat).size) (min m.toNat ((F.nd z.toNat).size - min a.toNat (F.nd z.toNat).size)) else ByteArray.empty
set_option maxRecDepth 100000 in
set_option maxHeartbeats 2000000 in
theorem tread_any (b : Nat) (z a m : Int) (F : Fo) (w : World) (h : FAt w b F) (hs : Tr.FzOk F) :
    Calls Tryz.prog 41 #[.pointer (some ⟨b, 0, none⟩), .int .i64 z, .int .i64 a, .int .i64 m] w fun e w' => e = .returned (.tuple #[.string (Tr.reaS F z a m), errV (Tr.reaE F z a m)]) ∧ FAt w' b F ∧ Below w.heap.size w w' := by
  have HF := Hid.intro h
  by_cases c : Tr.isE F z 1 = 0
  · obtain ⟨n, rfl, n40, _, k1⟩ := Tr.isE_ok c
    have EP : Hid (Tr.isE F (n : Int) 1 = 0 ∧ ptrE b (n : Int) 0 = .pointer (some ⟨b, n * 62, none⟩)) := Hid.intro ⟨c, ptrE_ok b n⟩
    have EW : Tr.reaE F (n : Int) a m = if a < 0 ∨ m < 0 then 1 else 0 := by unfold Tr.reaE; rw [if_neg (fun d => d c)]
    have z40 := hs n n40 k1
    by_cases a0 : a < 0 ∨ m < 0
    · have FIN : Hid (Tr.reaE F (n : Int) a m = 1 ∧ Tr.reaS F (n : Int) a m = ⟨#[]⟩) := Hid.intro (by
        have e : Tr.reaE F (n : Int) a m = 1 := by rw [EW, if_pos a0]
        exact ⟨e, by unfold Tr.reaS; rw [e, if_neg (by omega)]; rfl⟩)
      clear h c k1 EW hs z40
      by_cases a1 : a < 0
      · clear a0
        go_enter Tryz.func41, Tryz.ntmps41
        go_wp2_with fail
        refine (tfile_any b n F _ HF.out).mono ?_
        rintro e w1 ⟨rfl, hw1⟩
        subst w1
        rw [EP.out.1, EP.out.2, errV_zero]
        go_wp2_with fail
        go_ret2
        rw [FIN.out.1, FIN.out.2]
        exact ⟨rfl, HF.out, Below.refl _ _⟩
      · have a2 : m < 0 := by omega
        clear a0
        go_enter Tryz.func41, Tryz.ntmps41
        go_wp2_with fail
        refine (tfile_any b n F _ HF.out).mono ?_
        rintro e w1 ⟨rfl, hw1⟩
        subst w1
        rw [EP.out.1, EP.out.2, errV_zero]
        go_wp2_with fail
        go_ret2
        rw [FIN.out.1, FIN.out.2]
        exact ⟨rfl, HF.out, Below.refl _ _⟩
    · have EZ : Tr.reaE F (n : Int) a m = 0 := by rw [EW, if_neg a0]
      obtain ⟨p, rfl⟩ : ∃ p : Nat, a = p := ⟨a.toNat, by omega⟩
      obtain ⟨q, rfl⟩ : ∃ q : Nat, m = q := ⟨m.toNat, by omega⟩
      have c3 := h.cSize n n40
      obtain ⟨sz, hsz⟩ : ∃ sz, (F.nd n).size = sz := ⟨_, rfl⟩
      have EF : Hid (Tr.reaE F (n : Int) (p : Int) (q : Int) = 0 ∧ Tr.reaS F (n : Int) (p : Int) (q : Int) = Tr.rdS (F.nd n).byt (min p sz) (min q (sz - min p sz))) := Hid.intro ⟨EZ, by unfold Tr.reaS; rw [if_pos EZ, Int.toNat_natCast, Int.toNat_natCast, Int.toNat_natCast, hsz]⟩
      rw [hsz] at c3 z40
      have zI : (sz : Int) ≤ 40 := by omega
      obtain ⟨lo, hlo⟩ : ∃ lo, min p sz = lo := ⟨_, rfl⟩
      have mn : min (p : Int) (sz : Int) = (lo : Int) := by omega
      have lz : lo ≤ sz := by omega
      have lzI : (lo : Int) ≤ (sz : Int) := by omega
      have mn2 : (if (p : Int) < (sz : Int) then (p : Int) else (sz : Int)) = (lo : Int) := by split <;> omega
      obtain ⟨k, hk⟩ : ∃ k, min q (sz - lo) = k := ⟨_, rfl⟩
      have mk : min (q : Int) ((sz - lo : Nat) : Int) = (k : Int) := by omega
      have k1' : k ≤ sz - lo := by omega
      have k2' : k ≤ 40 - lo := by omega
      have k3' : (k : Int) ≤ ((40 - lo : Nat) : Int) := by omega
      have k4' : (k : Int) ≤ ((sz - lo : Nat) : Int) := by omega
      rw [hlo, hk] at EF
      have LD : Hid (∀ nq, (loadCells (if 40 = lo then (⟨b, n * 62 + 22, none⟩ : Addr) else ⟨b, n * 62 + 22 + lo, none⟩) k).run Tryz.prog (w.drewN nq) = .ok ((Tr.rdL (F.nd n).byt lo k).map (Value.int .u8)).toArray (w.drewN nq)) := Hid.intro (fun nq => (h.drewN nq).loads n lo k n40 (by omega) _ (fun h0 => if_neg (by omega)))
      have BB : Hid (∀ nq, Below w.heap.size w (w.drewN nq)) := Hid.intro (fun nq => by
        have := Below.refl w.heap.size w
        exact ⟨this.os, this.tape, this.output, this.size, this.block⟩)
      clear h c k1 EW hs EZ hsz a0 hlo hk
      go_enter Tryz.func41, Tryz.ntmps41
      go_wp2_with fail
      refine (tfile_any b n F _ HF.out).mono ?_
      rintro e w1 ⟨rfl, hw1⟩
      subst w1
      rw [EP.out.1, EP.out.2, errV_zero]
      go_wp2_with fail
      go_quiet (fail)
      revert LD
      generalize (if 40 = lo then (⟨b, n * 62 + 22, none⟩ : Addr) else ⟨b, n * 62 + 22 + lo, none⟩) = ad
      intro LD
      go_wp2_with (refine wpList_bytes_str rfl _ rfl ad k _ rfl _ (LD.out _) ?_)
      go_ret2
      rw [EF.out.1, EF.out.2]
      exact ⟨rfl, HF.out.drewN _, BB.out _⟩
  · have E2 : Hid (ptrE b z (Tr.isE F z 1) = .pointer none ∧ errV (Tr.isE F z 1) = .iface 83 (.int .i64 (Tr.isE F z 1)) ∧ Tr.reaE F z a m = Tr.isE F z 1 ∧ Tr.reaS F z a m = ⟨#[]⟩) := Hid.intro (by
      have e : Tr.reaE F z a m = Tr.isE F z 1 := if_pos c
      exact ⟨ptrE_no c, errV_ne c, e, by unfold Tr.reaS; rw [e, if_neg c]; rfl⟩)
    clear h c hs
    go_enter Tryz.func41, Tryz.ntmps41
    go_wp2_with fail
    refine (tfile_any b z F _ HF.out).mono ?_
    rintro e w1 ⟨rfl, hw⟩
    subst w1
    rw [E2.out.1, E2.out.2.1]
    go_wp2_with fail
    go_ret2
    rw [E2.out.2.2.1, E2.out.2.2.2, E2.out.2.1]
    exact ⟨rfl, HF.out, Below.refl _ _⟩
end Go.Proofs.YthdadmbpnoofoaaGreatDoor
/- The code's forest: List. -/
namespace Go.Proofs.YthdadmbpnoofoaaGreatDoor
open Go.RowKit
open Go.Sort
open Tr (Fo Nd)

def stC (L : List ByteArray) : List Value := L.map Value.string
/-- A slice that the call owns: the texts of L. -/
structure SO (w : World) (L : List ByteArray) (v : Value) (wr : World) : Prop where
  bel : RowKit.Below w.heap.size w wr
  own : wr.ownsRow w.heap.size 9 1 v L.length (stC L)
  nil : L = [] → v = .slice none 0 0
theorem SO.start (w : World) : SO w [] (.slice none 0 0) w := ⟨Below.refl _ _, World.ownsRow_nil _ _ _ _, fun _ => rfl⟩
theorem SO.form {w wr : World} {L : List ByteArray} {v : Value} (h : SO w L v wr) : ∃ a c, v = .slice a L.length c := by
  rcases h.own.2 with ⟨e, e2⟩ | ⟨g, cap, _, e, _⟩
  · exact ⟨none, 0, by rw [e, e2]⟩
  · exact ⟨_, cap, e⟩
theorem SO.below {w wr w1 : World} {L : List ByteArray} {v : Value} (h : SO w L v wr) (b : RowKit.Below wr.heap.size wr w1) : SO w L v w1 :=
  ⟨h.bel.trans (b.mono h.bel.size), h.own.kept (row := none) ⟨b.os, b.tape, b.output, b.size, fun k hk _ => b.block k hk⟩ (Classical.em _), h.nil⟩
theorem SO.more {w w1 wr : World} {L : List ByteArray} {gg cap N : Nat} {l : Value} (h : SO w L l wr) (x : ByteArray) (hN : L.length = N) (hl : w1.ownsRow w.heap.size 9 1 (.slice (some ⟨gg, 0, none⟩) (N + 1) cap) (N + 1) (stC L ++ [.string x])) (o : Obj) (hg : (wr.alloc o).grownBy w1 l.ownBlock) :
    SO w (L ++ [x]) (.slice (some ⟨gg, 0, none⟩) (N + 1) cap) w1 := by
  have hs := h.bel.size
  refine ⟨(h.bel.alloc hs o).grown hg (by simp; omega) (fun k e => (h.own.lt k e).1), ?_, fun e => by simp at e⟩
  rw [show stC (L ++ [x]) = stC L ++ [.string x] by simp [stC], show (L ++ [x]).length = N + 1 by simp [hN]]
  exact hl
theorem infoSt : ∃ i, Tryz.prog.info? 9 = some i ∧ i.zero = some (.string ⟨#[]⟩) ∧ i.size = 1 ∧ i.bytes = 16 := ⟨(Tryz.prog.info? 9).get (by kernel_rfl), by kernel_rfl, by kernel_rfl, by kernel_rfl, by kernel_rfl⟩
/-- The first j names. -/
def Tr.nmK (x : Nd) (j : Nat) : List ByteArray := (List.range j).map x.nam
theorem Tr.nmK_len (x : Nd) (j : Nat) : (Tr.nmK x j).length = j := by simp [Tr.nmK]
theorem Tr.nmK_succ (x : Nd) (j : Nat) : Tr.nmK x (j + 1) = Tr.nmK x j ++ [x.nam j] := by simp [Tr.nmK, List.range_succ]
/-- Texts in their order. -/
def srtS (L : List ByteArray) : List ByteArray := ((L.map fun s => s.data.toList).mergeSort fun x y => decide (x ≤ y)).map fun l => ⟨l.toArray⟩
theorem srtS_len (L : List ByteArray) : (srtS L).length = L.length := by simp [srtS]
set_option maxRecDepth 100000 in
theorem sortS_any (w w1 : World) (L : List ByteArray) (v : Value) (h : SO w L v w1) (hl : L.length < 100) :
    Calls Tryz.prog 103 #[v] w1 fun e w' => e = .returned (.tuple #[]) ∧ SO w (srtS L) v w' := by
  by_cases h0 : L.length = 0
  · obtain rfl := List.eq_nil_of_length_eq_zero h0
    rw [h.nil rfl]
    refine (Tryz.slices_Sort_string_none none 0 w1).mono ?_
    rintro e w' ⟨rfl, hw⟩
    subst w'
    exact ⟨rfl, by rw [← h.nil rfl, show srtS [] = [] by simp [srtS]]; exact h⟩
  · obtain ⟨g, cap, hv, hb, hg⟩ := h.own.form (by omega)
    subst hv
    have hat : ∀ (M : List ByteArray) (j : Nat), (stC M)[j]? = ((M.map fun s => s.data.toList)[j]?).map encStr := fun M j => by
      simp only [stC, List.getElem?_map]
      cases M[j]? <;> simp [encStr]
    have hH : Holds encStr w1 g 0 (L.map fun s => s.data.toList).toArray := fun j hj => by
      have hj' : j < L.length := by simpa using hj
      rw [Nat.zero_add]
      refine ⟨?_, h.own.frozenAt j⟩
      rw [h.own.cellAt j (by omega), hat, List.getElem?_eq_getElem (by simpa using hj'), Option.map_some, getElem!_pos _ j hj]
      simp
    have hS := Tryz.slices_Sort_string g 0 cap (L.map fun s => s.data.toList) w1 hH hg (by simp; omega)
    rw [List.length_map] at hS
    refine hS.mono ?_
    rintro e w' ⟨rfl, n, os, rfl⟩
    refine ⟨rfl, ?_⟩
    obtain ⟨D, hD⟩ : ∃ D, ((L.map fun s => s.data.toList).mergeSort fun x y => decide (x ≤ y)) = D := ⟨_, rfl⟩
    have hDl : D.length = L.length := by rw [← hD]; simp
    have hsr : srtS L = D.map fun l => ⟨l.toArray⟩ := by unfold srtS; rw [hD]
    rw [hD]
    have hgr : w1.grownBy (grow (putRow encStr (Sort.ahead w1 n) g 0 D.toArray) os) (some g) := by
      refine ⟨rfl, rfl, rfl, ?_, fun k hk hne => ?_⟩
      · unfold Sort.grow Sort.putRow Sort.mapBlock Sort.ahead
        simp
      · unfold Sort.grow Sort.putRow Sort.mapBlock Sort.ahead
        simp only
        rw [Array.getElem?_append_left (by simpa using hk), Array.getElem?_modify, if_neg (fun e => hne (by rw [e]))]
    have hbl : ∀ k, (some g : Option Nat) = some k → w.heap.size ≤ k := fun k e => by injection e with e; omega
    refine ⟨h.bel.grown hgr h.bel.size hbl, ?_, fun e => by
      have := srtS_len L
      rw [e] at this
      simp at this; omega⟩
    rcases h.own.2 with ⟨hv, _⟩ | ⟨g', cap', cur, hv, hb', hgg, hnc, hcm, hcs, htake⟩
    · cases hv
    · simp only [Value.slice.injEq, Option.some.injEq, Addr.mk.injEq, and_true, true_and] at hv
      obtain ⟨rfl, rfl⟩ := hv
      have hheap : (grow (putRow encStr (Sort.ahead w1 n) g 0 D.toArray) os).heap[g]? = some (.cells (putCells encStr 0 D.toArray cur) 9 (0, 0)) := by
        rw [heap_grow_old _ _ (by simpa [putRow, mapBlock, Sort.ahead] using hg)]
        simp [putRow, mapBlock, Sort.ahead, Array.getElem?_modify, hgg, onCells]
      rw [srtS_len]
      refine ⟨by simp [stC, srtS_len], .inr ⟨g, cap, _, rfl, hb, hheap, hnc, hcm, by simpa [putCells] using hcs, ?_⟩⟩
      apply List.ext_getElem?
      intro t
      by_cases ht : t < L.length
      · have hc : t < cur.size := by rw [hcs]; omega
        rw [List.getElem?_take_of_lt (by omega), hsr, Array.getElem?_toList]
        unfold putCells
        simp only [Array.getElem?_mapIdx, Array.getElem?_eq_getElem hc, Option.map_some]
        rw [if_pos ⟨Nat.zero_le _, by simp [hDl, ht]⟩]
        simp [stC, hDl, ht]
      · rw [List.getElem?_eq_none (by rw [List.length_take]; omega), List.getElem?_eq_none (by simp [stC, srtS_len]; omega)]
end Go.Proofs.YthdadmbpnoofoaaGreatDoor
/- The code's forest: List. -/
namespace Go.Proofs.YthdadmbpnoofoaaGreatDoor
open Go.RowKit
open Tr (Fo Nd)

def Tr.lisL (F : Fo) (z : Int) : List ByteArray := if Tr.isE F z 2 = 0 then srtS (Tr.nmK (F.nd z.toNat) (F.nd z.toNat).size) else []
set_option maxRecDepth 100000 in
set_option maxHeartbeats 2000000 in
theorem tlist_any (b : Nat) (z : Int) (F : Fo) (w : World) (h : FAt w b F) (hs : Tr.SzOk F) :
    Calls Tryz.prog 64 #[.pointer (some ⟨b, 0, none⟩), .int .i64 z] w fun e w' => ∃ v, e = .returned (.tuple #[v, errV (Tr.isE F z 2)]) ∧ SO w (Tr.lisL F z) v w' := by
  have HF := Hid.intro h
  by_cases c : Tr.isE F z 2 = 0
  · obtain ⟨n, rfl, n40, _, k2⟩ := Tr.isE_ok c
    have hm8 := hs n n40 k2
    have EP : Hid (Tr.isE F (n : Int) 2 = 0 ∧ ptrE b (n : Int) 0 = .pointer (some ⟨b, n * 62, none⟩) ∧ Tr.lisL F (n : Int) = srtS (Tr.nmK (F.nd n) (F.nd n).size)) := Hid.intro ⟨c, ptrE_ok b n, by unfold Tr.lisL; rw [if_pos c, Int.toNat_natCast]⟩
    have HM8 := Hid.intro hm8
    obtain ⟨i0, hi0, hz0, hz1, hz2⟩ := infoSt
    clear h c hs k2
    go_enter Tryz.func64, Tryz.ntmps64
    go_wp2_with fail
    refine (tdir_any b n F _ HF.out).mono ?_
    rintro e w1 ⟨rfl, hw1⟩
    subst w1
    rw [EP.out.1, EP.out.2.1, errV_zero]
    go_wp2_with fail
    refine (tentries_any b n F _ HF.out n40 HM8.out).mono ?_
    rintro e w1 ⟨rfl, kd, hw1⟩
    have S0 : Hid (SO w [] (.slice none 0 0) w1) := Hid.intro (by
      have := Below.refl w.heap.size w
      rw [hw1]
      exact (SO.start w).below ⟨this.os, this.tape, this.output, this.size, this.block⟩)
    clear hw1
    obtain ⟨sz, hsz⟩ : ∃ sz, (F.nd n).size = sz := ⟨_, rfl⟩
    have HSZ := Hid.intro hsz
    rw [hsz] at hm8 ⊢
    clear hsz
    go_wp2_with fail
    go_loopw [8, 10, 23] (fun v x i wr => ∃ (j : Nat), i = .int .i64 j ∧ j ≤ sz ∧ Hid (SO w (Tr.nmK (F.nd n) j) v wr)) (fun _ _ i _ => sz - (intOf i).toNat)
    case atStart => exact ⟨0, rfl, by omega, S0⟩
    case round =>
      obtain ⟨j, rfl, hj, R⟩ := hrel
      by_cases hlt : j < sz
      · have hltI : (j : Int) < (sz : Int) := by omega
        have hb := HF.out.below R.out.bel
        have c0 := hb.cNam n j n40 (by omega)
        have c1 := hb.cKid n j n40 (by omega)
        have SE := Hid.intro (Tr.nmK_succ (F.nd n) j)
        obtain ⟨nm, hnm⟩ : ∃ nm, (F.nd n).nam j = nm := ⟨_, rfl⟩
        rw [hnm] at c0 SE
        generalize (F.nd n).kid j = kk at c1
        clear hb hnm
        go_upto_region 8 with fail
        refine wp_gen (fun W => SO w (Tr.nmK (F.nd n) j) u8 W ∧ W.cell? ⟨wr.heap.size, 0, none⟩ = some (.string nm)) ⟨R.out.below ((Below.refl _ _).alloc (Nat.le_refl _) _), by rw [cell_blk (heap_alloc_new wr _)]; rfl⟩ ?_
        intro W1 h1
        have S1 := Hid.intro h1.1
        have c2 := h1.2
        clear h1 R c0 c1
        obtain ⟨va, vc, hv⟩ := S1.out.form
        rw [Tr.nmK_len] at hv
        subst hv
        go_wp2_with (at_builtin; refine wpList_append_lies _ rfl _ _ 28 (by rfl) w.heap.size 9 i0 (.string ⟨#[]⟩) 1 16 Tryz.underlying28 hi0 hz0 hz1 hz2 rfl (by decide) (.slice va j vc) j (stC (Tr.nmK (F.nd n) j)) (by rfl) (by have := S1.out.own; rw [Tr.nmK_len] at this; exact this.alloc _) ⟨W1.heap.size, 0, none⟩ 1 1 [.string nm] (by rfl) rfl (World.news_of_block (heap_alloc_new W1 _)) (by simp [Value.oneCell']) (by decide) (by unfold maxLen; omega) (by omega) (by have := S1.out.bel.size; simp; omega) (W1.heap.size + 1) (by simp) ?_; intro gg cap2 w2 hown hgrow hat hlt2; have Q1 : Hid (SO w (Tr.nmK (F.nd n) j ++ [nm]) (.slice (some ⟨gg, 0, none⟩) (j + 1) cap2) w2) := Hid.intro (S1.out.more nm (Tr.nmK_len _ _) hown _ hgrow); clear hown hgrow hat hlt2)
        go_roundw
        case rel => exact ⟨j + 1, by go_num, by omega, by rw [SE.out]; exact Q1⟩
        case measure => simp [intOf]; omega
      · have hltI : ¬ (j : Int) < (sz : Int) := by omega
        obtain rfl : j = sz := by omega
        have hln := Tr.nmK_len (F.nd n) j
        go_wp2_with fail
        refine (sortS_any w _ _ _ R.out (by omega)).mono ?_
        rintro e w2 ⟨rfl, h2⟩
        have FIN : Hid (SO w (Tr.lisL F (n : Int)) u8 w2) := Hid.intro (by rw [EP.out.2.2, HSZ.out]; exact h2)
        clear h2
        go_wp2_with fail
        go_ret2
        rw [EP.out.1]
        exact ⟨_, rfl, FIN.out⟩
  · have E2 : Hid (ptrE b z (Tr.isE F z 2) = .pointer none ∧ errV (Tr.isE F z 2) = .iface 83 (.int .i64 (Tr.isE F z 2)) ∧ Tr.lisL F z = []) := Hid.intro ⟨ptrE_no c, errV_ne c, if_neg c⟩
    clear h c hs
    go_enter Tryz.func64, Tryz.ntmps64
    go_wp2_with fail
    refine (tdir_any b z F _ HF.out).mono ?_
    rintro e w1 ⟨rfl, hw⟩
    subst w1
    rw [E2.out.1, E2.out.2.1]
    go_wp2_with fail
    go_ret2
    rw [E2.out.2.1, E2.out.2.2]
    exact ⟨_, rfl, SO.start w⟩
end Go.Proofs.YthdadmbpnoofoaaGreatDoor

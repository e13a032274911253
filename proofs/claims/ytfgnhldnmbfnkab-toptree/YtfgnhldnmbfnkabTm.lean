/- The code's forest: Write. -/
import Derived.Test.YtfgnhldnmbfnkabTl
import Derived.Lib.LazyBuf
import Derived.Lib.SliceRun
namespace Go.Proofs.Ytfgnhldnmbfnkab
open Go.RowKit
open Tr (Fo Nd)

/-- Bytes are written at a place. -/
def Tr.wrB (f : Nat → Int) (a : Nat) (L : List Int) : Nat → Int := fun j => if j < a then f j else (L[j - a]?).getD (f j)
def Tr.byI (s : ByteArray) : List Int := s.data.toList.map fun x => (x.toNat : Int)
theorem Tr.byI_len (s : ByteArray) : (Tr.byI s).length = s.size := by simp [Tr.byI]
theorem Tr.byI_map (s : ByteArray) : (s.data.toList.map fun x => Value.int .u8 (x.toNat : Int)) = (Tr.byI s).map (Value.int .u8) := by simp [Tr.byI, Function.comp_def]
theorem FAt.setBytes {w : World} {b : Nat} {F : Fo} (h : FAt w b F) (n a : Nat) (L : List Int) (hL : a + L.length ≤ 40) : FAt (w.setCells b (n * 62 + 22 + a) (L.map (Value.int .u8))) b (F.put n { F.nd n with byt := Tr.wrB (F.nd n).byt a L }) := by
  obtain ⟨C, h1, h2⟩ := h.blk
  obtain ⟨C', k1, k2⟩ := theap_setCells_blk b (L.map (Value.int .u8)) (n * 62 + 22 + a) w C h1
  have hlen : (L.map (Value.int .u8)).length = L.length := by simp
  refine ⟨⟨C', k1, by omega⟩, fun o ho => ?_⟩
  by_cases c : n * 62 + 22 + a ≤ o ∧ o < n * 62 + 22 + a + L.length
  · obtain ⟨j, rfl, hj⟩ : ∃ j, o = n * 62 + 22 + a + j ∧ j < L.length := ⟨o - (n * 62 + 22 + a), by omega, by omega⟩
    rw [World.cell?_setCells_in b (L.map (Value.int .u8)) (n * 62 + 22 + a) w (fun i hi => by rw [hlen] at hi; rw [h.cell _ (by omega)]; rfl) j (by rw [hlen]; exact hj)]
    unfold cellF
    rw [if_pos (by omega), show (n * 62 + 22 + a + j) / 62 = n by omega, show (n * 62 + 22 + a + j) % 62 = 22 + (a + j) by omega, Tr.put_same, cellN_byt]
    show _ = some (Value.int .u8 (Tr.wrB (F.nd n).byt a L (a + j)))
    unfold Tr.wrB
    rw [if_neg (by omega), show a + j - a = j by omega, List.getElem?_eq_getElem hj, Option.getD_some, List.getElem_map]
  · rw [World.cell?_setCells_out b _ (n * 62 + 22 + a) w ⟨b, o, none⟩ (fun _ _ => by rw [hlen]; show o < _ ∨ _ ≤ o; omega), h.cell o ho]
    unfold cellF
    by_cases d : o < 2480
    · rw [if_pos d, if_pos d]
      by_cases e : o / 62 = n
      · rw [e, Tr.put_same]
        by_cases g : o % 62 < 22
        · unfold cellN; repeat' split
          all_goals first | rfl | omega
        · rw [show o % 62 = 22 + (o % 62 - 22) by omega, cellN_byt, cellN_byt]
          show _ = some (Value.int .u8 (Tr.wrB (F.nd n).byt a L (o % 62 - 22)))
          unfold Tr.wrB
          by_cases i : o % 62 - 22 < a
          · rw [if_pos i]
          · rw [if_neg i, List.getElem?_eq_none (by omega), Option.getD_none]
      · rw [Tr.put_ne _ _ _ _ e]
    · rw [if_neg d, if_neg d]; rfl
section
variable {ops : Array Oper} {rest : List Oper} {x : Oper} {a : Act} {w : World} {Q : Exit → Act → World → Prop}
theorem wpList_copy_str (hgd : x.guard = none) (d y : Operand) (dT sT : TypeId) (hop : x.op = Op.call { callee := Callee.builtin Builtin.copy, args := #[d, y], argTypes := #[dT, sT] })
    (elem : TypeId) (hu : Try.prog.underlying dT = some (.slice elem)) (hz : ∀ w, (Go.sizeOf elem).run Try.prog w = .ok 1 w)
    (b off dLen dCap : Nat) (hd : a.eval d = .slice (some ⟨b, off, none⟩) dLen dCap) (t : ByteArray) (hx : a.eval y = .string t) (hle : t.size ≤ dLen)
    (hc : ∀ j, j < t.size → (w.cell? ⟨b, off + j, none⟩).isSome = true) (hf : ∀ j, j < t.size → w.frozen? ⟨b, off + j, none⟩ = false)
    (h : wpList Try.prog ops Q rest (a.put x.dst (goInt t.size)) (w.setCells b off ((Tr.byI t).map (Value.int .u8)))) : wpList Try.prog ops Q (x :: rest) a w :=
  wpList_plain hgd fun _ hK => by
    have hrun := run_copy_string (P := Try.prog) w dT sT x.type elem b off dLen dCap t hu hz hle hc hf
    rw [Tr.byI_map] at hrun
    unfold Oper.wp
    simp [execOp, hop, resolve, invoke, builtin, hd, hx, hrun, Result.andThen]
    exact hK _ _ h
end
/-- What a Write answers and leaves. -/
def Tr.wriE (F : Fo) (z a : Int) (s : ByteArray) : Int := if Tr.isE F z 1 ≠ 0 then Tr.isE F z 1 else if a < 0 then 1 else if 40 - (s.size : Int) < a then 4 else 0
def Tr.wriN (x : Nd) (a : Nat) (s : ByteArray) : Nd := { x with byt := Tr.wrB x.byt a (Tr.byI s), size := max x.size (a + s.size) }
def Tr.wriF (F : Fo) (z a : Int) (s : ByteArray) : Fo := if Tr.wriE F z a s = 0 ∧ s.size ≠ 0 then F.put z.toNat (Tr.wriN (F.nd z.toNat) a.toNat s) else F
set_option maxRecDepth 100000 in
set_option maxHeartbeats 2000000 in
theorem twrite_any (b : Nat) (z a : Int) (s : ByteArray) (F : Fo) (w : World) (h : FAt w b F) (hs : s.size < 2 ^ 60) :
    Calls Try.prog 50 #[.pointer (some ⟨b, 0, none⟩), .int .i64 z, .int .i64 a, .string s] w fun e w' => e = .returned (errV (Tr.wriE F z a s)) ∧ FAt w' b (Tr.wriF F z a s) ∧ Frm b w w' := by
  have HF := Hid.intro h
  by_cases c : Tr.isE F z 1 = 0
  · obtain ⟨n, rfl, n40, _, k1⟩ := Tr.isE_ok c
    have EP : Hid (Tr.isE F (n : Int) 1 = 0 ∧ ptrE b (n : Int) 0 = .pointer (some ⟨b, n * 62, none⟩)) := Hid.intro ⟨c, ptrE_ok b n⟩
    have EW : Tr.wriE F (n : Int) a s = if a < 0 then 1 else if 40 - (s.size : Int) < a then 4 else 0 := by unfold Tr.wriE; rw [if_neg (fun d => d c)]
    have hw : IntKind.i64.wrap (40 - (s.size : Int)) = 40 - (s.size : Int) := IntWalk.i64_in _ ⟨by omega, by omega⟩
    by_cases a0 : a < 0
    · have FIN : Hid (Tr.wriE F (n : Int) a s = 1 ∧ Tr.wriF F (n : Int) a s = F) := Hid.intro (by
        have e : Tr.wriE F (n : Int) a s = 1 := by rw [EW, if_pos a0]
        exact ⟨e, by unfold Tr.wriF; rw [e, if_neg (by omega)]⟩)
      clear h c k1 EW hs
      go_enter Try.func50, Try.ntmps50
      go_wp2_with fail
      refine (tfile_any b n F _ HF.out).mono ?_
      rintro e w1 ⟨rfl, hw1⟩
      subst w1
      rw [EP.out.1, EP.out.2, errV_zero]
      go_wp2_with fail
      go_ret
      rw [FIN.out.1, FIN.out.2]
      exact ⟨rfl, HF.out, Frm.refl _ _⟩
    · by_cases a4 : 40 - (s.size : Int) < a
      · have FIN : Hid (Tr.wriE F (n : Int) a s = 4 ∧ Tr.wriF F (n : Int) a s = F) := Hid.intro (by
          have e : Tr.wriE F (n : Int) a s = 4 := by rw [EW, if_neg a0, if_pos a4]
          exact ⟨e, by unfold Tr.wriF; rw [e, if_neg (by omega)]⟩)
        clear h c k1 EW hs
        go_enter Try.func50, Try.ntmps50
        go_wp2_with fail
        refine (tfile_any b n F _ HF.out).mono ?_
        rintro e w1 ⟨rfl, hw1⟩
        subst w1
        rw [EP.out.1, EP.out.2, errV_zero]
        go_wp2_with fail
        go_ret
        rw [FIN.out.1, FIN.out.2]
        exact ⟨rfl, HF.out, Frm.refl _ _⟩
      · have EZ : Tr.wriE F (n : Int) a s = 0 := by rw [EW, if_neg a0, if_neg a4]
        by_cases s0 : s.size = 0
        · have FIN : Hid (Tr.wriE F (n : Int) a s = 0 ∧ Tr.wriF F (n : Int) a s = F) := Hid.intro ⟨EZ, by unfold Tr.wriF; rw [if_neg (by omega)]⟩
          have sl : (s.toList == []) = true := by
            obtain rfl : s = ⟨#[]⟩ := by
              apply ByteArray.ext
              exact Array.eq_empty_of_size_eq_zero s0
            rw [ByteArray.toList_eq]; rfl
          clear h c k1 EW hs EZ s0
          go_enter Try.func50, Try.ntmps50
          go_wp2_with fail
          refine (tfile_any b n F _ HF.out).mono ?_
          rintro e w1 ⟨rfl, hw1⟩
          subst w1
          rw [EP.out.1, EP.out.2, errV_zero]
          go_wp2_with fail
          go_ret
          rw [FIN.out.1, FIN.out.2]
          exact ⟨rfl, HF.out, Frm.refl _ _⟩
        · obtain ⟨m, rfl⟩ : ∃ m : Nat, a = m := ⟨a.toNat, by omega⟩
          have EF : Hid (Tr.wriE F (n : Int) (m : Int) s = 0 ∧ Tr.wriF F (n : Int) (m : Int) s = F.put n (Tr.wriN (F.nd n) m s)) := Hid.intro ⟨EZ, by unfold Tr.wriF; rw [if_pos ⟨EZ, s0⟩, Int.toNat_natCast, Int.toNat_natCast]⟩
          have hm : m + s.size ≤ 40 := by omega
          have m40 : (m : Int) < 40 := by omega
          have m40b : (m : Int) ≤ 40 := by omega
          have mlt : m < 40 := by omega
          have mn0 : ¬ m = 40 := by omega
          have mn1 : ¬ 40 - m = 0 := by omega
          have mn2 : ¬ (m : Int) = 40 := by omega
          have sl : (s.toList == []) = false := by
            rw [beq_eq_false_iff_ne]
            intro e
            rw [ByteArray.toList_eq] at e
            apply s0
            show s.data.size = 0
            rw [← Array.length_toList, e]
            rfl
          have ad : IntKind.i64.wrap ((m : Int) + (s.size : Int)) = ((m + s.size : Nat) : Int) := (IntWalk.i64_in _ ⟨by omega, by omega⟩).trans (by omega)
          have CC : Hid (∀ j, j < s.size → (w.cell? ⟨b, n * 62 + 22 + m + j, none⟩).isSome = true) := Hid.intro (fun j hj => by rw [h.cell _ (by omega)]; rfl)
          have CF : Hid (∀ j, j < s.size → w.frozen? ⟨b, n * 62 + 22 + m + j, none⟩ = false) := Hid.intro (fun j _ => h.frozen _)
          have S1 : Hid (FAt (w.setCells b (n * 62 + 22 + m) ((Tr.byI s).map (Value.int .u8))) b (F.put n { F.nd n with byt := Tr.wrB (F.nd n).byt m (Tr.byI s) }) ∧ Frm b w (w.setCells b (n * 62 + 22 + m) ((Tr.byI s).map (Value.int .u8)))) := Hid.intro ⟨h.setBytes n m _ (by rw [Tr.byI_len]; exact hm), Frm.setCells _ _ (Frm.refl b w)⟩
          have hsm : s.size ≤ 40 - m := by omega
          have hcz : ∀ w, (Go.sizeOf 5).run Try.prog w = .ok 1 w := fun w => by rfl
          clear h c k1 EW hs EZ s0
          obtain ⟨L, hL⟩ : ∃ L, (Tr.byI s).map (Value.int .u8) = L := ⟨_, rfl⟩
          rw [hL] at S1
          go_enter Try.func50, Try.ntmps50
          go_wp2_with fail
          refine (tfile_any b n F _ HF.out).mono ?_
          rintro e w1 ⟨rfl, hw1⟩
          subst w1
          rw [EP.out.1, EP.out.2, errV_zero]
          go_upto_region 11 with (refine wpList_copy_str rfl _ _ _ _ rfl 5 (by kernel_rfl) hcz b (n * 62 + 22 + m) (40 - m) (40 - m) rfl s rfl hsm CC.out CF.out ?_; rw [hL])
          refine wp_gen (fun W => FAt W b (F.put n { F.nd n with byt := Tr.wrB (F.nd n).byt m (Tr.byI s) }) ∧ Frm b w W) S1.out ?_
          intro W2 h2
          have S2 := Hid.intro h2
          clear h2 S1 CC CF hL
          have c3 := S2.out.1.cSize n n40
          rw [Tr.put_same] at c3
          have cf := S2.out.1.frozen
          obtain ⟨sz, hsz⟩ : ∃ sz, (F.nd n).size = sz := ⟨_, rfl⟩
          have c3' : W2.cell? ⟨b, n * 62 + 3, none⟩ = some (.int .i64 (sz : Int)) := by rw [c3, ← hsz]
          have FIN : Hid (FAt (W2.setCell ⟨b, n * 62 + 3, none⟩ (.int .i64 (max (sz : Int) ((m : Int) + (s.size : Int))))) b (F.put n (Tr.wriN (F.nd n) m s)) ∧ Frm b w (W2.setCell ⟨b, n * 62 + 3, none⟩ (.int .i64 (max (sz : Int) ((m : Int) + (s.size : Int)))))) := Hid.intro (by
            have q := S2.out.1.setSize n (max sz (m + s.size)) n40
            rw [Tr.put_same, Tr.put_put] at q
            unfold Tr.wriN
            rw [hsz]
            rw [show (max (sz : Int) ((m : Int) + (s.size : Int))) = ((max sz (m + s.size) : Nat) : Int) by omega]
            exact ⟨q, S2.out.2.setCell _ _⟩)
          clear c3 hsz
          go_wp2_with fail
          go_ret
          rw [EF.out.1, EF.out.2]
          exact ⟨rfl, FIN.out⟩
  · have E2 : Hid (ptrE b z (Tr.isE F z 1) = .pointer none ∧ errV (Tr.isE F z 1) = .iface 128 (.int .i64 (Tr.isE F z 1)) ∧ Tr.wriE F z a s = Tr.isE F z 1 ∧ Tr.wriF F z a s = F) := Hid.intro (by
      have e : Tr.wriE F z a s = Tr.isE F z 1 := if_pos c
      exact ⟨ptrE_no c, errV_ne c, e, by unfold Tr.wriF; rw [e, if_neg (fun d => c d.1)]⟩)
    clear h c hs
    go_enter Try.func50, Try.ntmps50
    go_wp2_with fail
    refine (tfile_any b z F _ HF.out).mono ?_
    rintro e w1 ⟨rfl, hw⟩
    subst w1
    rw [E2.out.1, E2.out.2.1]
    go_wp2_with fail
    go_ret
    rw [E2.out.2.2.1, E2.out.2.2.2, E2.out.2.1]
    exact ⟨rfl, HF.out, Frm.refl _ _⟩
end Go.Proofs.Ytfgnhldnmbfnkab

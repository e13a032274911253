import Derived.Lib.LazyBuf
import Derived.Lib.SliceRun
import Derived.Laws.BytesString
import Derived.Test.YtghogbngmcolmaaGreatRal
import Derived.Test.YtghogbngmcolmaaGreatRaa
namespace Go.Proofs.YtghogbngmcolmaaGreat
open Go.RowKit
open Tr (Fo Nd)
def Tr.wrB (f : Nat → Int) (a : Nat) (L : List Int) : Nat → Int := fun j => if j < a then f j else (L[j - a]?).getD (f j)
def Tr.byI (s : ByteArray) : List Int := s.data.toList.map fun x => (x.toNat : Int)
theorem Tr.byI_len (s : ByteArray) : (Tr.byI s).length = s.size := by simp [Tr.byI]
theorem Tr.byI_map (s : ByteArray) : (s.data.toList.map fun x => Value.int .u8 (x.toNat : Int)) = (Tr.byI s).map (Value.int .u8) := by simp [Tr.byI, Function.comp_def]
theorem FAt.setBytes {w : World} {b : Nat} {F : Fo} (h : FAt w b F) (n a : Nat) (L : List Int) (hL : a + L.length ≤ 40) : FAt (w.setCells b (n * 62 + 22 + a) (L.map (Value.int .u8))) b (F.put n { F.nd n with byt := Tr.wrB (F.nd n).byt a L }) := by
  obtain ⟨C, h1, h2⟩ := h.blk
  obtain ⟨C', k1, k2⟩ := theap_setCells_blk b (L.map (Value.int .u8)) (n * 62 + 22 + a) w C h1
  have hlen : (L.map (Value.int .u8)).length = L.length := by simp
  refine ⟨⟨C', k1, by omega⟩, fun o ho => ?_⟩
  by_cases c : n * 62 + 22 + a ≤ o ∧ o < n * 62 + 22 + a + L.length
  · obtain ⟨j, rfl, hj⟩ : ∃ j, o = n * 62 + 22 + a + j ∧ j < L.length := ⟨o - (n * 62 + 22 + a), by omega, by omega⟩
    rw [World.cell?_setCells_in b (L.map (Value.int .u8)) (n * 62 + 22 + a) w (fun i hi => by rw [hlen] at hi; rw [h.cell _ (by omega)]; rfl) j (by rw [hlen]; exact hj)]
    unfold cellF
    rw [if_pos (by omega), show (n * 62 + 22 + a + j) / 62 = n by omega, show (n * 62 + 22 + a + j) % 62 = 22 + (a + j) by omega, Tr.put_same, cellN_byt]
    show _ = some (Value.int .u8 (Tr.wrB (F.nd n).byt a L (a + j)))
    unfold Tr.wrB
    rw [if_neg (by omega), show a + j - a = j by omega, List.getElem?_eq_getElem hj, Option.getD_some, List.getElem_map]
  · rw [World.cell?_setCells_out b _ (n * 62 + 22 + a) w ⟨b, o, none⟩ (fun _ _ => by rw [hlen]; show o < _ ∨ _ ≤ o; omega), h.cell o ho]
    unfold cellF
    by_cases d : o < 2480
    · rw [if_pos d, if_pos d]
      by_cases e : o / 62 = n
      · rw [e, Tr.put_same]
        by_cases g : o % 62 < 22
        · unfold cellN; repeat' split
          all_goals first | rfl | omega
        · rw [show o % 62 = 22 + (o % 62 - 22) by omega, cellN_byt, cellN_byt]
          show _ = some (Value.int .u8 (Tr.wrB (F.nd n).byt a L (o % 62 - 22)))
          unfold Tr.wrB
          by_cases i : o % 62 - 22 < a
          · rw [if_pos i]
          · rw [if_neg i, List.getElem?_eq_none (by omega), Option.getD_none]
      · rw [Tr.put_ne _ _ _ _ e]
    · rw [if_neg d, if_neg d]; rfl
section
variable {ops : Array Oper} {rest : List Oper} {x : Oper} {a : Act} {w : World} {Q : Exit → Act → World → Prop}
theorem wpList_copy_str (hgd : x.guard = none) (d y : Operand) (dT sT : TypeId) (hop : x.op = Op.call { callee := Callee.builtin Builtin.copy, args := #[d, y], argTypes := #[dT, sT] })
    (elem : TypeId) (hu : Tryz.prog.underlying dT = some (.slice elem)) (hz : ∀ w, (Go.sizeOf elem).run Tryz.prog w = .ok 1 w)
    (b off dLen dCap : Nat) (hd : a.eval d = .slice (some ⟨b, off, none⟩) dLen dCap) (t : ByteArray) (hx : a.eval y = .string t) (hle : t.size ≤ dLen)
    (hc : ∀ j, j < t.size → (w.cell? ⟨b, off + j, none⟩).isSome = true) (hf : ∀ j, j < t.size → w.frozen? ⟨b, off + j, none⟩ = false)
    (h : wpList Tryz.prog ops Q rest (a.put x.dst (goInt t.size)) (w.setCells b off ((Tr.byI t).map (Value.int .u8)))) : wpList Tryz.prog ops Q (x :: rest) a w :=
  wpList_plain hgd fun _ hK => by
    have hrun := run_copy_string (P := Tryz.prog) w dT sT x.type elem b off dLen dCap t hu hz hle hc hf
    rw [Tr.byI_map] at hrun
    unfold Oper.wp
    simp [execOp, hop, resolve, invoke, builtin, hd, hx, hrun, Result.andThen]
    exact hK _ _ h
end
def Tr.wriE (F : Fo) (z a : Int) (s : ByteArray) : Int := if Tr.isE F z 1 ≠ 0 then Tr.isE F z 1 else if a < 0 then 1 else if 40 - (s.size : Int) < a then 4 else 0
def Tr.wriN (x : Nd) (a : Nat) (s : ByteArray) : Nd := { x with byt := Tr.wrB x.byt a (Tr.byI s), size := max x.size (a + s.size) }
def Tr.wriF (F : Fo) (z a : Int) (s : ByteArray) : Fo := if Tr.wriE F z a s = 0 ∧ s.size ≠ 0 then F.put z.toNat (Tr.wriN (F.nd z.toNat) a.toNat s) else F
set_option maxRecDepth 100000 in
set_option maxHeartbeats 2000000 in
theorem twrite_any (b : Nat) (z a : Int) (s : ByteArray) (F : Fo) (w : World) (h : FAt w b F) (hs : s.size < 2 ^ 60) :
    Calls Tryz.prog 87 #[.pointer (some ⟨b, 0, none⟩), .int .i64 z, .int .i64 a, .string s] w fun e w' => e = .returned (errV (Tr.wriE F z a s)) ∧ FAt w' b (Tr.wriF F z a s) ∧ Frm b w w' := by
  have HF := Hid.intro h
  by_cases c : Tr.isE F z 1 = 0
  · obtain ⟨n, rfl, n40, _, k1⟩ := Tr.isE_ok c
    have EP : Hid (Tr.isE F (n : Int) 1 = 0 ∧ ptrE b (n : Int) 0 = .pointer (some ⟨b, n * 62, none⟩)) := Hid.intro ⟨c, ptrE_ok b n⟩
    have EW : Tr.wriE F (n : Int) a s = if a < 0 then 1 else if 40 - (s.size : Int) < a then 4 else 0 := by unfold Tr.wriE; rw [if_neg (fun d => d c)]
    have hw : IntKind.i64.wrap (40 - (s.size : Int)) = 40 - (s.size : Int) := IntWalk.i64_in _ ⟨by omega, by omega⟩
    by_cases a0 : a < 0
    · have FIN : Hid (Tr.wriE F (n : Int) a s = 1 ∧ Tr.wriF F (n : Int) a s = F) := Hid.intro (by
        have e : Tr.wriE F (n : Int) a s = 1 := by rw [EW, if_pos a0]
        exact ⟨e, by unfold Tr.wriF; rw [e, if_neg (by omega)]⟩)
      clear h c k1 EW hs
      go_enter Tryz.func87, Tryz.ntmps87
      go_wp2_with fail
      refine (tfile_any b n F _ HF.out).mono ?_
      rintro e w1 ⟨rfl, hw1⟩
      subst w1
      rw [EP.out.1, EP.out.2, errV_zero]
      go_wp2_with fail
      go_ret
      rw [FIN.out.1, FIN.out.2]
      exact ⟨rfl, HF.out, Frm.refl _ _⟩
    · by_cases a4 : 40 - (s.size : Int) < a
      · have FIN : Hid (Tr.wriE F (n : Int) a s = 4 ∧ Tr.wriF F (n : Int) a s = F) := Hid.intro (by
          have e : Tr.wriE F (n : Int) a s = 4 := by rw [EW, if_neg a0, if_pos a4]
          exact ⟨e, by unfold Tr.wriF; rw [e, if_neg (by omega)]⟩)
        clear h c k1 EW hs
        go_enter Tryz.func87, Tryz.ntmps87
        go_wp2_with fail
        refine (tfile_any b n F _ HF.out).mono ?_
        rintro e w1 ⟨rfl, hw1⟩
        subst w1
        rw [EP.out.1, EP.out.2, errV_zero]
        go_wp2_with fail
        go_ret
        rw [FIN.out.1, FIN.out.2]
        exact ⟨rfl, HF.out, Frm.refl _ _⟩
      · have EZ : Tr.wriE F (n : Int) a s = 0 := by rw [EW, if_neg a0, if_neg a4]
        by_cases s0 : s.size = 0
        · have FIN : Hid (Tr.wriE F (n : Int) a s = 0 ∧ Tr.wriF F (n : Int) a s = F) := Hid.intro ⟨EZ, by unfold Tr.wriF; rw [if_neg (by omega)]⟩
          have sl : (s.toList == []) = true := by
            obtain rfl : s = ⟨#[]⟩ := by
              apply ByteArray.ext
              exact Array.eq_empty_of_size_eq_zero s0
            rw [ByteArray.toList_eq]; rfl
          clear h c k1 EW hs EZ s0
          go_enter Tryz.func87, Tryz.ntmps87
          go_wp2_with fail
          refine (tfile_any b n F _ HF.out).mono ?_
          rintro e w1 ⟨rfl, hw1⟩
          subst w1
          rw [EP.out.1, EP.out.2, errV_zero]
          go_wp2_with fail
          go_ret
          rw [FIN.out.1, FIN.out.2]
          exact ⟨rfl, HF.out, Frm.refl _ _⟩
        · obtain ⟨m, rfl⟩ : ∃ m : Nat, a = m := ⟨a.toNat, by omega⟩
          have EF : Hid (Tr.wriE F (n : Int) (m : Int) s = 0 ∧ Tr.wriF F (n : Int) (m : Int) s = F.put n (Tr.wriN (F.nd n) m s)) := Hid.intro ⟨EZ, by unfold Tr.wriF; rw [if_pos ⟨EZ, s0⟩, Int.toNat_natCast, Int.toNat_natCast]⟩
          have hm : m + s.size ≤ 40 := by omega
          have m40 : (m : Int) < 40 := by omega
          have m40b : (m : Int) ≤ 40 := by omega
          have mlt : m < 40 := by omega
          have mn0 : ¬ m = 40 := by omega
          have mn1 : ¬ 40 - m = 0 := by omega
          have mn2 : ¬ (m : Int) = 40 := by omega
          have sl : (s.toList == []) = false := by
            rw [beq_eq_false_iff_ne]
            intro e
            rw [ByteArray.toList_eq] at e
            apply s0
            show s.data.size = 0
            rw [← Array.length_toList, e]
            rfl
          have ad : IntKind.i64.wrap ((m : Int) + (s.size : Int)) = ((m + s.size : Nat) : Int) := (IntWalk.i64_in _ ⟨by omega, by omega⟩).trans (by omega)
          have CC : Hid (∀ j, j < s.size → (w.cell? ⟨b, n * 62 + 22 + m + j, none⟩).isSome = true) := Hid.intro (fun j hj => by rw [h.cell _ (by omega)]; rfl)
          have CF : Hid (∀ j, j < s.size → w.frozen? ⟨b, n * 62 + 22 + m + j, none⟩ = false) := Hid.intro (fun j _ => h.frozen _)
          have S1 : Hid (FAt (w.setCells b (n * 62 + 22 + m) ((Tr.byI s).map (Value.int .u8))) b (F.put n { F.nd n with byt := Tr.wrB (F.nd n).byt m (Tr.byI s) }) ∧ Frm b w (w.setCells b (n * 62 + 22 + m) ((Tr.byI s).map (Value.int .u8)))) := Hid.intro ⟨h.setBytes n m _ (by rw [Tr.byI_len]; exact hm), Frm.setCells _ _ (Frm.refl b w)⟩
          have hsm : s.size ≤ 40 - m := by omega
          have hcz : ∀ w, (Go.sizeOf 5).run Tryz.prog w = .ok 1 w := fun w => by rfl
          clear h c k1 EW hs EZ s0
          obtain ⟨L, hL⟩ : ∃ L, (Tr.byI s).map (Value.int .u8) = L := ⟨_, rfl⟩
          rw [hL] at S1
          go_enter Tryz.func87, Tryz.ntmps87
          go_wp2_with fail
          refine (tfile_any b n F _ HF.out).mono ?_
          rintro e w1 ⟨rfl, hw1⟩
          subst w1
          rw [EP.out.1, EP.out.2, errV_zero]
          go_upto_region 11 with (refine wpList_copy_str rfl _ _ _ _ rfl 5 (by kernel_rfl) hcz b (n * 62 + 22 + m) (40 - m) (40 - m) rfl s rfl hsm CC.out CF.out ?_; rw [hL])
          refine wp_gen (fun W => FAt W b (F.put n { F.nd n with byt := Tr.wrB (F.nd n).byt m (Tr.byI s) }) ∧ Frm b w W) S1.out ?_
          intro W2 h2
          have S2 := Hid.intro h2
          clear h2 S1 CC CF hL
          have c3 := S2.out.1.cSize n n40
          rw [Tr.put_same] at c3
          have cf := S2.out.1.frozen
          obtain ⟨sz, hsz⟩ : ∃ sz, (F.nd n).size = sz := ⟨_, rfl⟩
          have c3' : W2.cell? ⟨b, n * 62 + 3, none⟩ = some (.int .i64 (sz : Int)) := by rw [c3, ← hsz]
          have FIN : Hid (FAt (W2.setCell ⟨b, n * 62 + 3, none⟩ (.int .i64 (max (sz : Int) ((m : Int) + (s.size : Int))))) b (F.put n (Tr.wriN (F.nd n) m s)) ∧ Frm b w (W2.setCell ⟨b, n * 62 + 3, none⟩ (.int .i64 (max (sz : Int) ((m : Int) + (s.size : Int)))))) := Hid.intro (by
            have q := S2.out.1.setSize n (max sz (m + s.size)) n40
            rw [Tr.put_same, Tr.put_put] at q
            unfold Tr.wriN
            rw [hsz]
            rw [show (max (sz : Int) ((m : Int) + (s.size : Int))) = ((max sz (m + s.size) : Nat) : Int) by omega]
            exact ⟨q, S2.out.2.setCell _ _⟩)
          clear c3 hsz
          go_wp2_with fail
          go_ret
          rw [EF.out.1, EF.out.2]
          exact ⟨rfl, FIN.out⟩
  · have E2 : Hid (ptrE b z (Tr.isE F z 1) = .pointer none ∧ errV (Tr.isE F z 1) = .iface 60 (.int .i64 (Tr.isE F z 1)) ∧ Tr.wriE F z a s = Tr.isE F z 1 ∧ Tr.wriF F z a s = F) := Hid.intro (by
      have e : Tr.wriE F z a s = Tr.isE F z 1 := if_pos c
      exact ⟨ptrE_no c, errV_ne c, e, by unfold Tr.wriF; rw [e, if_neg (fun d => c d.1)]⟩)
    clear h c hs
    go_enter Tryz.func87, Tryz.ntmps87
    go_wp2_with fail
    refine (tfile_any b z F _ HF.out).mono ?_
    rintro e w1 ⟨rfl, hw⟩
    subst w1
    rw [E2.out.1, E2.out.2.1]
    go_wp2_with fail
    go_ret
    rw [E2.out.2.2.1, E2.out.2.2.2, E2.out.2.1]
    exact ⟨rfl, HF.out, Frm.refl _ _⟩
end Go.Proofs.YtghogbngmcolmaaGreat
namespace Go.Proofs.YtghogbngmcolmaaGreat
open Go.RowKit
open Tr (Fo Nd)
def Tr.FzOk (F : Fo) : Prop := ∀ n, n < 40 → (F.nd n).kind = 1 → (F.nd n).size ≤ 40
end Go.Proofs.YtghogbngmcolmaaGreat
namespace Go.Proofs.YtghogbngmcolmaaGreat
open Go.RowKit
open Tr (Fo Nd)
def Tr.rdL (f : Nat → Int) (a k : Nat) : List Int := (List.range k).map fun j => f (a + j)
def Tr.rdS (f : Nat → Int) (a k : Nat) : ByteArray := (Tr.rdL f a k).foldl (fun r n => r.push (UInt8.ofNat n.toNat)) ByteArray.empty
theorem Tr.rdL_len (f : Nat → Int) (a k : Nat) : (Tr.rdL f a k).length = k := by simp [Tr.rdL]
theorem FAt.loads {w : World} {b : Nat} {F : Fo} (h : FAt w b F) (n lo k : Nat) (hn : n < 40) (hk : lo + k ≤ 40) (ad : Addr) (had : 0 < k → ad = ⟨b, n * 62 + 22 + lo, none⟩) : (loadCells ad k).run Tryz.prog w = .ok ((Tr.rdL (F.nd n).byt lo k).map (Value.int .u8)).toArray w := by
  have := run_loadCells_list (P := Tryz.prog) w ad ((Tr.rdL (F.nd n).byt lo k).map (Value.int .u8)) (fun j v hv => by
    have hj : j < k := by have := (List.getElem?_eq_some_iff.1 hv).1; rw [List.length_map, Tr.rdL_len] at this; exact this
    rw [had (by omega)]
    have e : (⟨b, n * 62 + 22 + lo, none⟩ : Addr).add j = ⟨b, n * 62 + 22 + (lo + j), none⟩ := by
      unfold Addr.add
      split
      · simp_all
      · simp_all; omega
    rw [e, h.cByt n (lo + j) hn (by omega), ← hv]
    simp [Tr.rdL, hj])
  rw [List.length_map, Tr.rdL_len] at this
  exact this
section
variable {ops : Array Oper} {rest : List Oper} {x : Oper} {a : Act} {w : World} {Q : Exit → Act → World → Prop}
set_option maxRecDepth 100000 in
theorem wpList_bytes_str (hgd : x.guard = none) (y : Operand) (hop : x.op = Op.convert 220 9 y)
    (ad : Addr) (k c : Nat) (hd : a.eval y = .slice (some ad) k c) (ns : List Int) (hl : (loadCells ad k).run Tryz.prog w = .ok (ns.map (Value.int .u8)).toArray w)
    (h : wpList Tryz.prog ops Q rest (a.put x.dst (.string (ns.foldl (fun r n => r.push (UInt8.ofNat n.toNat)) ByteArray.empty))) w) : wpList Tryz.prog ops Q (x :: rest) a w :=
  wpList_plain hgd fun _ hK => by
    have hrun := (run_convert_bytes_string (P := Tryz.prog) w 220 9 5 (some ad) k c (by kernel_rfl) (by kernel_rfl) (by kernel_rfl)).trans (run_bytesToString w ad k c ns hl)
    unfold Oper.wp
    simp [execOp, hop, hd, hrun, Result.andThen]
    exact hK _ _ h
end
def Tr.reaE (F : Fo) (z a m : Int) : Int := if Tr.isE F z 1 ≠ 0 then Tr.isE F z 1 else if a < 0 ∨ m < 0 then 1 else 0
def Tr.reaS (F : Fo) (z a m : Int) : ByteArray :=
  if Tr.reaE F z a m = 0 then Tr.rdS (F.nd z.toNat).byt (min a.toNat (F.nd z.toNat).size) (min m.toNat ((F.nd z.toNat).size - min a.toNat (F.nd z.toNat).size)) else ByteArray.empty
set_option maxRecDepth 100000 in
set_option maxHeartbeats 2000000 in
theorem tread_any (b : Nat) (z a m : Int) (F : Fo) (w : World) (h : FAt w b F) (hs : Tr.FzOk F) :
    Calls Tryz.prog 90 #[.pointer (some ⟨b, 0, none⟩), .int .i64 z, .int .i64 a, .int .i64 m] w fun e w' => e = .returned (.tuple #[.string (Tr.reaS F z a m), errV (Tr.reaE F z a m)]) ∧ FAt w' b F ∧ Below w.heap.size w w' := by
  have HF := Hid.intro h
  by_cases c : Tr.isE F z 1 = 0
  · obtain ⟨n, rfl, n40, _, k1⟩ := Tr.isE_ok c
    have EP : Hid (Tr.isE F (n : Int) 1 = 0 ∧ ptrE b (n : Int) 0 = .pointer (some ⟨b, n * 62, none⟩)) := Hid.intro ⟨c, ptrE_ok b n⟩
    have EW : Tr.reaE F (n : Int) a m = if a < 0 ∨ m < 0 then 1 else 0 := by unfold Tr.reaE; rw [if_neg (fun d => d c)]
    have z40 := hs n n40 k1
    by_cases a0 : a < 0 ∨ m < 0
    · have FIN : Hid (Tr.reaE F (n : Int) a m = 1 ∧ Tr.reaS F (n : Int) a m = ⟨#[]⟩) := Hid.intro (by
        have e : Tr.reaE F (n : Int) a m = 1 := by rw [EW, if_pos a0]
        exact ⟨e, by unfold Tr.reaS; rw [e, if_neg (by omega)]; rfl⟩)
      clear h c k1 EW hs z40
      by_cases a1 : a < 0
      · clear a0
        go_enter Tryz.func90, Tryz.ntmps90
        go_wp2_with fail
        refine (tfile_any b n F _ HF.out).mono ?_
        rintro e w1 ⟨rfl, hw1⟩
        subst w1
        rw [EP.out.1, EP.out.2, errV_zero]
        go_wp2_with fail
        go_ret2
        rw [FIN.out.1, FIN.out.2]
        exact ⟨rfl, HF.out, Below.refl _ _⟩
      · have a2 : m < 0 := by omega
        clear a0
        go_enter Tryz.func90, Tryz.ntmps90
        go_wp2_with fail
        refine (tfile_any b n F _ HF.out).mono ?_
        rintro e w1 ⟨rfl, hw1⟩
        subst w1
        rw [EP.out.1, EP.out.2, errV_zero]
        go_wp2_with fail
        go_ret2
        rw [FIN.out.1, FIN.out.2]
        exact ⟨rfl, HF.out, Below.refl _ _⟩
    · have EZ : Tr.reaE F (n : Int) a m = 0 := by rw [EW, if_neg a0]
      obtain ⟨p, rfl⟩ : ∃ p : Nat, a = p := ⟨a.toNat, by omega⟩
      obtain ⟨q, rfl⟩ : ∃ q : Nat, m = q := ⟨m.toNat, by omega⟩
      have c3 := h.cSize n n40
      obtain ⟨sz, hsz⟩ : ∃ sz, (F.nd n).size = sz := ⟨_, rfl⟩
      have EF : Hid (Tr.reaE F (n : Int) (p : Int) (q : Int) = 0 ∧ Tr.reaS F (n : Int) (p : Int) (q : Int) = Tr.rdS (F.nd n).byt (min p sz) (min q (sz - min p sz))) := Hid.intro ⟨EZ, by unfold Tr.reaS; rw [if_pos EZ, Int.toNat_natCast, Int.toNat_natCast, Int.toNat_natCast, hsz]⟩
      rw [hsz] at c3 z40
      have zI : (sz : Int) ≤ 40 := by omega
      obtain ⟨lo, hlo⟩ : ∃ lo, min p sz = lo := ⟨_, rfl⟩
      have mn : min (p : Int) (sz : Int) = (lo : Int) := by omega
      have lz : lo ≤ sz := by omega
      have lzI : (lo : Int) ≤ (sz : Int) := by omega
      have mn2 : (if (p : Int) < (sz : Int) then (p : Int) else (sz : Int)) = (lo : Int) := by split <;> omega
      obtain ⟨k, hk⟩ : ∃ k, min q (sz - lo) = k := ⟨_, rfl⟩
      have mk : min (q : Int) ((sz - lo : Nat) : Int) = (k : Int) := by omega
      have k1' : k ≤ sz - lo := by omega
      have k2' : k ≤ 40 - lo := by omega
      have k3' : (k : Int) ≤ ((40 - lo : Nat) : Int) := by omega
      have k4' : (k : Int) ≤ ((sz - lo : Nat) : Int) := by omega
      rw [hlo, hk] at EF
      have LD : Hid (∀ nq, (loadCells (if 40 = lo then (⟨b, n * 62 + 22, none⟩ : Addr) else ⟨b, n * 62 + 22 + lo, none⟩) k).run Tryz.prog (w.drewN nq) = .ok ((Tr.rdL (F.nd n).byt lo k).map (Value.int .u8)).toArray (w.drewN nq)) := Hid.intro (fun nq => (h.drewN nq).loads n lo k n40 (by omega) _ (fun h0 => if_neg (by omega)))
      have BB : Hid (∀ nq, Below w.heap.size w (w.drewN nq)) := Hid.intro (fun nq => by
        have := Below.refl w.heap.size w
        exact ⟨this.os, this.tape, this.output, this.size, this.block⟩)
      clear h c k1 EW hs EZ hsz a0 hlo hk
      go_enter Tryz.func90, Tryz.ntmps90
      go_wp2_with fail
      refine (tfile_any b n F _ HF.out).mono ?_
      rintro e w1 ⟨rfl, hw1⟩
      subst w1
      rw [EP.out.1, EP.out.2, errV_zero]
      go_wp2_with fail
      go_quiet (fail)
      revert LD
      generalize (if 40 = lo then (⟨b, n * 62 + 22, none⟩ : Addr) else ⟨b, n * 62 + 22 + lo, none⟩) = ad
      intro LD
      go_wp2_with (refine wpList_bytes_str rfl _ rfl ad k _ rfl _ (LD.out _) ?_)
      go_ret2
      rw [EF.out.1, EF.out.2]
      exact ⟨rfl, HF.out.drewN _, BB.out _⟩
  · have E2 : Hid (ptrE b z (Tr.isE F z 1) = .pointer none ∧ errV (Tr.isE F z 1) = .iface 60 (.int .i64 (Tr.isE F z 1)) ∧ Tr.reaE F z a m = Tr.isE F z 1 ∧ Tr.reaS F z a m = ⟨#[]⟩) := Hid.intro (by
      have e : Tr.reaE F z a m = Tr.isE F z 1 := if_pos c
      exact ⟨ptrE_no c, errV_ne c, e, by unfold Tr.reaS; rw [e, if_neg c]; rfl⟩)
    clear h c hs
    go_enter Tryz.func90, Tryz.ntmps90
    go_wp2_with fail
    refine (tfile_any b z F _ HF.out).mono ?_
    rintro e w1 ⟨rfl, hw⟩
    subst w1
    rw [E2.out.1, E2.out.2.1]
    go_wp2_with fail
    go_ret2
    rw [E2.out.2.2.1, E2.out.2.2.2, E2.out.2.1]
    exact ⟨rfl, HF.out, Below.refl _ _⟩
end Go.Proofs.YtghogbngmcolmaaGreat
namespace Go.Proofs.YtghogbngmcolmaaGreat
open Go.RowKit
open Go.Sort
open Tr (Fo Nd)
def stC (L : List ByteArray) : List Value := L.map Value.string
structure SO (w : World) (L : List ByteArray) (v : Value) (wr : World) : Prop where
  bel : RowKit.Below w.heap.size w wr
  own : wr.ownsRow w.heap.size 9 1 v L.length (stC L)
  nil : L = [] → v = .slice none 0 0
end Go.Proofs.YtghogbngmcolmaaGreat
namespace Go.Proofs.YtghogbngmcolmaaGreat
open Tr (Fo Nd)
theorem pig : ∀ (k m : Nat) (f : Nat → Nat), (∀ i, i < m → f i < k) → (∀ i j, i < j → j < m → f i ≠ f j) → m ≤ k
  | 0, m, f, h, _ => by
    rcases Nat.eq_zero_or_pos m with h0 | h0
    · omega
    · exact absurd (h 0 h0) (by omega)
  | k + 1, m, f, h, hi => by
    by_cases c : ∃ i, i < m ∧ f i = k
    · obtain ⟨a, ha, hk⟩ := c
      have := pig k (m - 1) (fun i => if i < a then f i else f (i + 1)) (fun i hm => by
        show (if i < a then f i else f (i + 1)) < k
        split
        · have h1 := h i (by omega)
          have h2 := hi i a (by omega) ha
          omega
        · have h1 := h (i + 1) (by omega)
          have h2 := hi a (i + 1) (by omega) (by omega)
          omega) (fun i j hij hj => by
        show (if i < a then f i else f (i + 1)) ≠ (if j < a then f j else f (j + 1))
        by_cases c1 : i < a
        · rw [if_pos c1]
          by_cases c2 : j < a
          · rw [if_pos c2]; exact hi i j hij (by omega)
          · rw [if_neg c2]; exact hi i (j + 1) (by omega) (by omega)
        · rw [if_neg c1, if_neg (by omega)]; exact hi (i + 1) (j + 1) (by omega) (by omega))
      omega
    · have := pig k m f (fun i hm => by
        have h1 := h i hm
        have h2 : f i ≠ k := fun e => c ⟨i, hm, e⟩
        omega) hi
      omega
def Tr.upI (F : Fo) (n : Nat) : Nat → Nat
  | 0 => n
  | k + 1 => (F.nd (Tr.upI F n k)).up
theorem Tr.upI_shift (F : Fo) (n : Nat) : ∀ k, Tr.upI F (F.nd n).up k = Tr.upI F n (k + 1)
  | 0 => rfl
  | k + 1 => by show (F.nd (Tr.upI F (F.nd n).up k)).up = _; rw [Tr.upI_shift F n k]; rfl
theorem Tr.upI_add (F : Fo) (n i : Nat) : ∀ k, Tr.upI F (Tr.upI F n i) k = Tr.upI F n (i + k)
  | 0 => rfl
  | k + 1 => by show (F.nd (Tr.upI F (Tr.upI F n i) k)).up = _; rw [Tr.upI_add F n i k]; rfl
theorem Tr.EndsF.first {F : Fo} : ∀ {m n : Nat}, Tr.EndsF F m n → ∃ e, (∀ j, j ≤ e → Tr.upI F n j < 40) ∧ (F.nd (Tr.upI F n e)).up = Tr.upI F n e ∧ ∀ j, j < e → (F.nd (Tr.upI F n j)).up ≠ Tr.upI F n j
  | 0, n, h => ⟨0, fun j hj => by obtain rfl : j = 0 := by omega
                                  exact h.1, h.2, fun j hj => by omega⟩
  | m + 1, n, h => by
    by_cases c : (F.nd n).up = n
    · exact ⟨0, fun j hj => by obtain rfl : j = 0 := by omega
                               exact h.1, c, fun j hj => by omega⟩
    · rcases h.2 with h2 | h2
      · exact absurd h2 c
      · obtain ⟨e, h3, h4, h5⟩ := h2.first
        refine ⟨e + 1, fun j hj => ?_, ?_, fun j hj => ?_⟩
        · cases j with
          | zero => exact h.1
          | succ j => rw [← Tr.upI_shift]; exact h3 j (by omega)
        · rw [← Tr.upI_shift]; exact h4
        · cases j with
          | zero => exact c
          | succ j => rw [← Tr.upI_shift]; exact h5 j (by omega)
theorem Tr.EndsF.ofI {F : Fo} : ∀ {e n : Nat}, (∀ j, j ≤ e → Tr.upI F n j < 40) → (F.nd (Tr.upI F n e)).up = Tr.upI F n e → Tr.EndsF F e n
  | 0, _, h1, h2 => ⟨h1 0 (by omega), h2⟩
  | e + 1, n, h1, h2 => ⟨h1 0 (by omega), .inr (Tr.EndsF.ofI (fun j hj => by rw [Tr.upI_shift]; exact h1 (j + 1) (by omega)) (by rw [Tr.upI_shift]; exact h2))⟩
theorem Tr.EndsF.mono {F : Fo} {n m : Nat} (h : Tr.EndsF F m n) : ∀ k, Tr.EndsF F (m + k) n
  | 0 => h
  | k + 1 => (Tr.EndsF.mono h k).more.1
theorem Tr.EndsF.forty {F : Fo} {m n : Nat} (h : Tr.EndsF F m n) : Tr.EndsF F 40 n := by
  obtain ⟨e, h1, h2, h3⟩ := h.first
  have stay : ∀ k, Tr.upI F n (e + k) = Tr.upI F n e := fun k => by
    induction k with
    | zero => rfl
    | succ k ih => show (F.nd (Tr.upI F n (e + k))).up = _; rw [ih, h2]
  have he : e + 1 ≤ 40 := pig 40 (e + 1) (Tr.upI F n) (fun i hi => h1 i (by omega)) (fun i j hij hj eq => by
    have a : Tr.upI F n (i + (e - j)) = Tr.upI F n e := by
      rw [← Tr.upI_add, eq, Tr.upI_add, show j + (e - j) = e by omega]
    exact h3 (i + (e - j)) (by omega) (by rw [a, h2]))
  have := (Tr.EndsF.ofI h1 h2).mono (40 - e)
  rwa [show e + (40 - e) = 40 by omega] at this
def Tr.Nodup (x : Nd) : Prop := ∀ i j, i < j → j < x.size → (x.nam i).toList ≠ (x.nam j).toList
end Go.Proofs.YtghogbngmcolmaaGreat
namespace Go.Proofs.YtghogbngmcolmaaGreat
open Tr (Fo Nd)
def sumN (f : Nat → Nat) : Nat → Nat
  | 0 => 0
  | n + 1 => sumN f n + f n
theorem sumN_congr {f g : Nat → Nat} : ∀ {n : Nat}, (∀ i, i < n → f i = g i) → sumN f n = sumN g n
  | 0, _ => rfl
  | n + 1, h => by show sumN f n + f n = sumN g n + g n; rw [sumN_congr (fun i hi => h i (by omega)), h n (by omega)]
theorem sumN_le {f : Nat → Nat} : ∀ {n i : Nat}, i < n → f i ≤ sumN f n
  | n + 1, i, h => by
    show f i ≤ sumN f n + f n
    by_cases c : i = n
    · subst c; omega
    · have := sumN_le (f := f) (n := n) (i := i) (by omega); omega
theorem sumN_pos {f : Nat → Nat} : ∀ {n : Nat}, 0 < sumN f n → ∃ i, i < n ∧ 0 < f i
  | 0, h => absurd h (Nat.lt_irrefl 0)
  | n + 1, h => by
    by_cases c : 0 < f n
    · exact ⟨n, by omega, c⟩
    · have h' : 0 < sumN f n + f n := h
      obtain ⟨i, h1, h2⟩ := sumN_pos (f := f) (n := n) (by omega)
      exact ⟨i, by omega, h2⟩
theorem sumN_zero {f : Nat → Nat} {n : Nat} (h : ∀ i, i < n → f i = 0) : sumN f n = 0 := by
  rcases Nat.eq_zero_or_pos (sumN f n) with c | c
  · exact c
  · obtain ⟨i, h1, h2⟩ := sumN_pos c
    rw [h i h1] at h2; omega
theorem sumN_one {f g : Nat → Nat} {p : Nat} : ∀ {n : Nat}, p < n → (∀ i, i < n → i ≠ p → f i = g i) → sumN f n + g p = sumN g n + f p
  | n + 1, hp, h => by
    show sumN f n + f n + g p = sumN g n + g n + f p
    by_cases c : p = n
    · subst c
      rw [sumN_congr (f := f) (g := g) (fun i hi => h i (by omega) (by omega))]; omega
    · have := sumN_one (f := f) (g := g) (p := p) (n := n) (by omega) (fun i hi hne => h i (by omega) hne)
      rw [h n (by omega) (by omega)]; omega
def oneN (a b : Nat) : Nat := if a = b then 1 else 0
theorem oneN_same (a : Nat) : oneN a a = 1 := if_pos rfl
theorem oneN_ne {a b : Nat} (h : a ≠ b) : oneN a b = 0 := if_neg h
def Tr.cntM (x : Nd) (n : Nat) : Nat := if x.kind = 2 then sumN (fun i => oneN (x.kid i) n) x.size else 0
def Tr.cntR (F : Fo) (n : Nat) : Nat := sumN (fun t => oneN (F.root t) n) F.trees
def Tr.cnt (F : Fo) (n : Nat) : Nat := sumN (fun m => Tr.cntM (F.nd m) n) 40 + Tr.cntR F n
theorem Tr.cntM_no {x : Nd} (n : Nat) (h : x.kind ≠ 2) : Tr.cntM x n = 0 := if_neg h
theorem Tr.cnt_put (F : Fo) (p : Nat) (x : Nd) (n : Nat) (hp : p < 40) : Tr.cnt (F.put p x) n + Tr.cntM (F.nd p) n = Tr.cnt F n + Tr.cntM x n := by
  have a := sumN_one (f := fun m => Tr.cntM ((F.put p x).nd m) n) (g := fun m => Tr.cntM (F.nd m) n) (p := p) (n := 40) hp (fun i _ hne => by show Tr.cntM ((F.put p x).nd i) n = Tr.cntM (F.nd i) n; rw [Tr.put_ne _ _ _ _ hne])
  simp only [Tr.put_same] at a
  unfold Tr.cnt
  have r : Tr.cntR (F.put p x) n = Tr.cntR F n := rfl
  rw [r]; omega
theorem Tr.cnt_put_same (F : Fo) (p : Nat) (x : Nd) (n : Nat) (hp : p < 40) (h : Tr.cntM x n = Tr.cntM (F.nd p) n) : Tr.cnt (F.put p x) n = Tr.cnt F n := by
  have := Tr.cnt_put F p x n hp; omega
theorem Tr.cnt_kid {F : Fo} {m i : Nat} (hm : m < 40) (h2 : (F.nd m).kind = 2) (hi : i < (F.nd m).size) : 1 ≤ Tr.cnt F ((F.nd m).kid i) := by
  have a := sumN_le (f := fun q => Tr.cntM (F.nd q) ((F.nd m).kid i)) hm
  have b : 1 ≤ Tr.cntM (F.nd m) ((F.nd m).kid i) := by
    unfold Tr.cntM
    rw [if_pos h2]
    have := sumN_le (f := fun j => oneN ((F.nd m).kid j) ((F.nd m).kid i)) hi
    simp only [oneN_same] at this
    exact this
  have a' : Tr.cntM (F.nd m) ((F.nd m).kid i) ≤ sumN (fun q => Tr.cntM (F.nd q) ((F.nd m).kid i)) 40 := a
  unfold Tr.cnt; omega
theorem Tr.cnt_no {F : Fo} {n : Nat} (h : Tr.cnt F n = 0) : (∀ m i, m < 40 → (F.nd m).kind = 2 → i < (F.nd m).size → (F.nd m).kid i ≠ n) ∧ ∀ t, t < F.trees → F.root t ≠ n := by
  refine ⟨fun m i hm h2 hi e => ?_, fun t ht e => ?_⟩
  · have := Tr.cnt_kid hm h2 hi
    rw [e] at this; omega
  · have := sumN_le (f := fun t => oneN (F.root t) n) ht
    simp only [e, oneN_same] at this
    have r : Tr.cntR F n = sumN (fun t => oneN (F.root t) n) F.trees := rfl
    unfold Tr.cnt at h; omega
theorem Tr.cntM_le (x : Nd) (n : Nat) (h : x.kind = 2 → x.size ≤ 8) : Tr.cntM x n ≤ 8 := by
  unfold Tr.cntM
  split
  · rename_i c
    have : ∀ k, sumN (fun i => oneN (x.kid i) n) k ≤ k := fun k => by
      induction k with
      | zero => exact Nat.le_refl _
      | succ k ih => show sumN _ k + oneN _ n ≤ _; have : oneN (x.kid k) n ≤ 1 := by unfold oneN; split <;> omega
                     omega
    have := this x.size
    have := h c; omega
  · omega
end Go.Proofs.YtghogbngmcolmaaGreat
namespace Go.Proofs.YtghogbngmcolmaaGreat
open Tr (Fo Nd)
structure Tr.Ok (F : Fo) : Prop where
  tr : F.trees ≤ 4
  kd : ∀ n, n < 40 → (F.nd n).kind ≤ 2
  sz : Tr.SzOk F
  fz : Tr.FzOk F
  nb : ∀ n i, n < 40 → (F.nd n).kind = 2 → i < (F.nd n).size → Tr.nameB ((F.nd n).nam i) = true
  dp : ∀ n, n < 40 → (F.nd n).kind = 2 → Tr.Nodup (F.nd n)
  ki : ∀ n i, n < 40 → (F.nd n).kind = 2 → i < (F.nd n).size → (F.nd n).kid i < 40 ∧ (F.nd ((F.nd n).kid i)).kind ≠ 0 ∧ (F.nd ((F.nd n).kid i)).tree = (F.nd n).tree ∧ ((F.nd ((F.nd n).kid i)).kind = 2 → (F.nd ((F.nd n).kid i)).up = n)
  rt : ∀ t, t < F.trees → F.root t < 40 ∧ (F.nd (F.root t)).kind = 2 ∧ (F.nd (F.root t)).up = F.root t ∧ (F.nd (F.root t)).tree = t
  lk : ∀ n, n < 40 → (F.nd n).kind ≠ 0 → (F.nd n).links = Tr.cnt F n
  al : ∀ n, n < 40 → (F.nd n).kind ≠ 0 → 1 ≤ (F.nd n).links + (F.nd n).held
  dr : ∀ n, n < 40 → (F.nd n).kind = 2 → Tr.cnt F n = 1
  en : ∀ n, n < 40 → (F.nd n).kind = 2 → Tr.EndsF F 40 n
  ro : ∀ n, n < 40 → (F.nd n).kind = 2 → (F.nd n).up = n → ∃ t, t < F.trees ∧ F.root t = n
theorem Tr.Ok.none {F : Fo} (h : Tr.Ok F) {k : Nat} (k0 : (F.nd k).kind = 0) : Tr.cnt F k = 0 := by
  unfold Tr.cnt Tr.cntR
  rw [sumN_zero (fun m hm => ?_), sumN_zero (fun t ht => ?_)]
  · exact oneN_ne (fun e => by have := (h.rt t ht).2.1; rw [e, k0] at this; exact absurd this (by decide))
  · unfold Tr.cntM
    split
    · rename_i c
      exact sumN_zero (fun i hi => oneN_ne (fun e => by have := (h.ki m i hm c hi).2.1; rw [e] at this; exact this k0))
    · rfl
theorem Tr.Ok.cnt_le {F : Fo} (h : Tr.Ok F) (n : Nat) : Tr.cnt F n ≤ 324 := by
  have a : ∀ k, k ≤ 40 → sumN (fun m => Tr.cntM (F.nd m) n) k ≤ 8 * k := fun k hk => by
    induction k with
    | zero => exact Nat.le_refl _
    | succ k ih =>
      show sumN _ k + Tr.cntM (F.nd k) n ≤ _
      have := Tr.cntM_le (F.nd k) n (fun c => h.sz k (by omega) c)
      have := ih (by omega)
      omega
  have b : ∀ k, sumN (fun t => oneN (F.root t) n) k ≤ k := fun k => by
    induction k with
    | zero => exact Nat.le_refl _
    | succ k ih =>
      show sumN _ k + oneN _ n ≤ _
      have : oneN (F.root k) n ≤ 1 := by unfold oneN; split <;> omega
      omega
  have c1 := a 40 (Nat.le_refl _)
  have c2 := b F.trees
  have c3 := h.tr
  unfold Tr.cnt Tr.cntR; omega
theorem Tr.Ok.links_lt {F : Fo} (h : Tr.Ok F) (n : Nat) (hn : n < 40) (k0 : (F.nd n).kind ≠ 0) : (F.nd n).links ≤ 324 := by rw [h.lk n hn k0]; exact h.cnt_le n
theorem Tr.f0_kind (n : Nat) : (Tr.f0.nd n).kind = 0 := rfl
theorem Tr.ok0 : Tr.Ok Tr.f0 := by
  have n2 : ∀ n, (Tr.f0.nd n).kind ≠ 2 := fun n => by rw [Tr.f0_kind]; decide
  have n1 : ∀ n, (Tr.f0.nd n).kind ≠ 1 := fun n => by rw [Tr.f0_kind]; decide
  exact ⟨Nat.zero_le _, fun _ _ => Nat.zero_le _, fun _ _ h => absurd h (n2 _), fun _ _ h => absurd h (n1 _), fun _ _ _ h => absurd h (n2 _), fun _ _ h => absurd h (n2 _), fun _ _ _ h => absurd h (n2 _), fun t ht => absurd ht (Nat.not_lt_zero t), fun _ _ h => absurd rfl h, fun _ _ h => absurd rfl h, fun _ _ h => absurd h (n2 _), fun _ _ h => absurd h (n2 _), fun _ _ h => absurd h (n2 _)⟩
theorem Tr.EndsF.congr {F G : Fo} (h : ∀ n, (G.nd n).up = (F.nd n).up) : ∀ {m n : Nat}, Tr.EndsF F m n → Tr.EndsF G m n
  | 0, n, hh => ⟨hh.1, by rw [h n]; exact hh.2⟩
  | m + 1, n, hh => ⟨hh.1, by
      rw [h n]
      rcases hh.2 with a | a
      · exact .inl a
      · exact .inr (Tr.EndsF.congr h a)⟩
theorem Tr.Ok.put {F : Fo} (h : Tr.Ok F) (p : Nat) (x : Nd) (hp : p < 40) (e1 : x.kind = (F.nd p).kind) (e2 : x.links = (F.nd p).links) (e3 : x.tree = (F.nd p).tree) (e4 : x.up = (F.nd p).up) (e5 : x.kind = 2 → x.size = (F.nd p).size ∧ x.nam = (F.nd p).nam ∧ x.kid = (F.nd p).kid) (e6 : x.kind = 1 → x.size ≤ 40) (e7 : x.kind ≠ 0 → 1 ≤ x.links + x.held) : Tr.Ok (F.put p x) := by
  have hk : ∀ n, ((F.put p x).nd n).kind = (F.nd n).kind := fun n => by
    by_cases c : n = p
    · subst c; rw [Tr.put_same, e1]
    · rw [Tr.put_ne _ _ _ _ c]
  have hl : ∀ n, ((F.put p x).nd n).links = (F.nd n).links := fun n => by
    by_cases c : n = p
    · subst c; rw [Tr.put_same, e2]
    · rw [Tr.put_ne _ _ _ _ c]
  have ht : ∀ n, ((F.put p x).nd n).tree = (F.nd n).tree := fun n => by
    by_cases c : n = p
    · subst c; rw [Tr.put_same, e3]
    · rw [Tr.put_ne _ _ _ _ c]
  have hu : ∀ n, ((F.put p x).nd n).up = (F.nd n).up := fun n => by
    by_cases c : n = p
    · subst c; rw [Tr.put_same, e4]
    · rw [Tr.put_ne _ _ _ _ c]
  have hd : ∀ n, (F.nd n).kind = 2 → ((F.put p x).nd n).size = (F.nd n).size ∧ ((F.put p x).nd n).nam = (F.nd n).nam ∧ ((F.put p x).nd n).kid = (F.nd n).kid := fun n k2 => by
    by_cases c : n = p
    · subst c; rw [Tr.put_same]; exact e5 (by rw [e1]; exact k2)
    · rw [Tr.put_ne _ _ _ _ c]; exact ⟨rfl, rfl, rfl⟩
  have hc : ∀ n, Tr.cnt (F.put p x) n = Tr.cnt F n := fun n => Tr.cnt_put_same F p x n hp (by
    unfold Tr.cntM
    by_cases c : x.kind = 2
    · rw [if_pos c, if_pos (by rw [← e1]; exact c), (e5 c).1, (e5 c).2.2]
    · rw [if_neg c, if_neg (by rw [← e1]; exact c)])
  refine ⟨h.tr, fun n hn => by rw [hk]; exact h.kd n hn, fun n hn k2 => ?_, fun n hn k1 => ?_, fun n i hn k2 hi => ?_, fun n hn k2 => ?_, fun n i hn k2 hi => ?_, fun t htt => ?_, fun n hn k0 => ?_, fun n hn k0 => ?_, fun n hn k2 => ?_, fun n hn k2 => ?_, fun n hn k2 hu2 => ?_⟩
  · rw [hk] at k2; rw [(hd n k2).1]; exact h.sz n hn k2
  · by_cases c : n = p
    · subst c; rw [Tr.put_same] at k1 ⊢; exact e6 k1
    · rw [Tr.put_ne _ _ _ _ c] at k1 ⊢; exact h.fz n hn k1
  · rw [hk] at k2; rw [(hd n k2).1] at hi; rw [(hd n k2).2.1]; exact h.nb n i hn k2 hi
  · rw [hk] at k2; unfold Tr.Nodup; rw [(hd n k2).1, (hd n k2).2.1]; exact h.dp n hn k2
  · rw [hk] at k2; rw [(hd n k2).1] at hi; rw [(hd n k2).2.2, hk, ht, ht, hu]; exact h.ki n i hn k2 hi
  · show F.root t < 40 ∧ _
    have := h.rt t htt
    show F.root t < 40 ∧ ((F.put p x).nd (F.root t)).kind = 2 ∧ ((F.put p x).nd (F.root t)).up = F.root t ∧ ((F.put p x).nd (F.root t)).tree = t
    rw [hk, hu, ht]; exact this
  · rw [hk] at k0; rw [hl, hc]; exact h.lk n hn k0
  · by_cases c : n = p
    · subst c; rw [Tr.put_same] at k0 ⊢; exact e7 k0
    · rw [Tr.put_ne _ _ _ _ c] at k0 ⊢; exact h.al n hn k0
  · rw [hk] at k2; rw [hc]; exact h.dr n hn k2
  · rw [hk] at k2; exact (h.en n hn k2).congr hu
  · rw [hk] at k2; rw [hu] at hu2; exact h.ro n hn k2 hu2
end Go.Proofs.YtghogbngmcolmaaGreat
namespace Go.Proofs.YtghogbngmcolmaaGreat
open Tr (Fo Nd)
theorem Tr.Ok.wri {F : Fo} (h : Tr.Ok F) (z a : Int) (s : ByteArray) : Tr.Ok (Tr.wriF F z a s) := by
  unfold Tr.wriF
  split
  · rename_i c
    have c1 : Tr.isE F z 1 = 0 := by
      rcases Classical.em (Tr.isE F z 1 = 0) with d | d
      · exact d
      · have := c.1; unfold Tr.wriE at this; rw [if_pos d] at this; exact this
    obtain ⟨n, rfl, n40, _, k1⟩ := Tr.isE_ok c1
    have cw := c.1
    unfold Tr.wriE at cw
    rw [if_neg (fun d => d c1)] at cw
    rw [Int.toNat_natCast]
    refine h.put n _ n40 rfl rfl rfl rfl (fun k2 => absurd ((show (F.nd n).kind = 2 from k2).symm.trans k1) (by decide)) (fun _ => ?_) (fun k0 => h.al n n40 k0)
    show max (F.nd n).size (a.toNat + s.size) ≤ 40
    have := h.fz n n40 k1
    split at cw
    · omega
    · split at cw
      · omega
      · omega
  · exact h
theorem Tr.up_of {F : Fo} (ki : ∀ n i, n < 40 → (F.nd n).kind = 2 → i < (F.nd n).size → (F.nd n).kid i < 40 ∧ (F.nd ((F.nd n).kid i)).kind ≠ 0 ∧ (F.nd ((F.nd n).kid i)).tree = (F.nd n).tree ∧ ((F.nd ((F.nd n).kid i)).kind = 2 → (F.nd ((F.nd n).kid i)).up = n)) {m : Nat} (k2 : (F.nd m).kind = 2) (hc : 1 ≤ Tr.cnt F m) :
    (∃ t, t < F.trees ∧ F.root t = m) ∨ ∃ i, (F.nd m).up < 40 ∧ (F.nd (F.nd m).up).kind = 2 ∧ i < (F.nd (F.nd m).up).size ∧ (F.nd (F.nd m).up).kid i = m := by
  by_cases c : 0 < Tr.cntR F m
  · obtain ⟨t, ht, h1⟩ := sumN_pos c
    refine .inl ⟨t, ht, ?_⟩
    unfold oneN at h1
    split at h1
    · assumption
    · omega
  · unfold Tr.cnt at hc
    obtain ⟨p, hp, h1⟩ := sumN_pos (f := fun q => Tr.cntM (F.nd q) m) (n := 40) (by omega)
    have h1' : 0 < Tr.cntM (F.nd p) m := h1
    unfold Tr.cntM at h1'
    split at h1'
    · rename_i d
      obtain ⟨i, hi, h2⟩ := sumN_pos h1'
      unfold oneN at h2
      split at h2
      · rename_i e
        have a := (ki p i hp d hi).2.2.2
        rw [e] at a
        rw [a k2]
        exact .inr ⟨i, hp, d, hi, e⟩
      · omega
    · omega
theorem Tr.EndsF.on {F G : Fo} (P : Nat → Prop) (h : ∀ n, P n → (G.nd n).up = (F.nd n).up ∧ P (F.nd n).up) : ∀ {m n : Nat}, P n → Tr.EndsF F m n → Tr.EndsF G m n
  | 0, n, hp, hh => ⟨hh.1, by rw [(h n hp).1]; exact hh.2⟩
  | m + 1, n, hp, hh => ⟨hh.1, by
      rw [(h n hp).1]
      rcases hh.2 with a | a
      · exact .inl a
      · exact .inr (Tr.EndsF.on P h (h n hp).2 a)⟩
end Go.Proofs.YtghogbngmcolmaaGreat
namespace Go.Proofs.YtghogbngmcolmaaGreat
open Tr (Fo Nd)
theorem Tr.EndsF.avoid {F G : Fo} {k : Nat} (h : ∀ x, x ≠ k → (G.nd x).up = (F.nd x).up) : ∀ {m x : Nat}, Tr.EndsF F m x → Tr.belB F k m x = false → Tr.EndsF G m x
  | 0, x, hh, hb => by
    have c : x ≠ k := fun e => by subst e; rw [Tr.belB_same] at hb; exact absurd hb (by decide)
    exact ⟨hh.1, by rw [h x c]; exact hh.2⟩
  | m + 1, x, hh, hb => by
    have c : x ≠ k := fun e => by subst e; rw [Tr.belB_same] at hb; exact absurd hb (by decide)
    refine ⟨hh.1, ?_⟩
    rw [h x c]
    by_cases d : (F.nd x).up = x
    · exact .inl d
    · rcases hh.2 with a | a
      · exact absurd a d
      · refine .inr (Tr.EndsF.avoid h a ?_)
        have hb' : (x == k || (!((F.nd x).up == x) && Tr.belB F k m (F.nd x).up)) = false := hb
        rw [show (x == k) = false from by simpa using c, show ((F.nd x).up == x) = false from by simpa using d] at hb'
        exact hb'
end Go.Proofs.YtghogbngmcolmaaGreat
namespace Go.Proofs.YtghogbngmcolmaaGreat
open Tr (Fo Nd)
theorem Tr.Ok.far {F G : Fo} (h : Tr.Ok F) {k : Nat} (k0 : (F.nd k).kind = 0) (hu : ∀ x, x ≠ k → (G.nd x).up = (F.nd x).up) : ∀ m x, x < 40 → (F.nd x).kind = 2 → Tr.belB G k m x = false
  | 0, x, _, k2 => by
    show (x == k) = false
    have c : x ≠ k := fun e => by rw [e, k0] at k2; exact absurd k2 (by decide)
    simpa using c
  | m + 1, x, hx, k2 => by
    have c : x ≠ k := fun e => by rw [e, k0] at k2; exact absurd k2 (by decide)
    show (x == k || (!((G.nd x).up == x) && Tr.belB G k m (G.nd x).up)) = false
    rw [show (x == k) = false from by simpa using c, hu x c]
    by_cases d : (F.nd x).up = x
    · rw [d]; simp
    · rcases Tr.up_of h.ki k2 (by rw [h.dr x hx k2]; exact Nat.le_refl _) with ⟨t, ht, e⟩ | ⟨i, h1, h2, _, _⟩
      · have := (h.rt t ht).2.2.1
        rw [e] at this
        exact absurd this d
      · rw [Tr.Ok.far h k0 hu m _ h1 h2]; simp
theorem Tr.Ok.hol {F : Fo} (h : Tr.Ok F) (z : Int) : Tr.Ok (Tr.hol F z) := by
  unfold Tr.hol
  split
  · rename_i c
    obtain ⟨n, rfl, n40, _⟩ := Tr.nodeE_ok c
    rw [Int.toNat_natCast]
    exact h.put n _ n40 rfl rfl rfl rfl (fun _ => ⟨rfl, rfl, rfl⟩) (fun k1 => h.fz n n40 k1) (fun k0 => by show 1 ≤ (F.nd n).links + ((F.nd n).held + 1); omega)
  · exact h
end Go.Proofs.YtghogbngmcolmaaGreat
namespace Go.Proofs.YtghogbngmcolmaaGreat
open Tr (Fo Nd)
theorem Tr.erase {F : Fo} {k : Nat} (hk : k < 40) (tr : F.trees ≤ 4) (kd : ∀ n, n < 40 → (F.nd n).kind ≤ 2) (sz : Tr.SzOk F) (fz : Tr.FzOk F)
    (nb : ∀ n i, n < 40 → (F.nd n).kind = 2 → i < (F.nd n).size → Tr.nameB ((F.nd n).nam i) = true)
    (dp : ∀ n, n < 40 → (F.nd n).kind = 2 → Tr.Nodup (F.nd n))
    (ki : ∀ n i, n < 40 → (F.nd n).kind = 2 → i < (F.nd n).size → (F.nd n).kid i < 40 ∧ (F.nd ((F.nd n).kid i)).kind ≠ 0 ∧ (F.nd ((F.nd n).kid i)).tree = (F.nd n).tree ∧ ((F.nd ((F.nd n).kid i)).kind = 2 → (F.nd ((F.nd n).kid i)).up = n))
    (rt : ∀ t, t < F.trees → F.root t < 40 ∧ (F.nd (F.root t)).kind = 2 ∧ (F.nd (F.root t)).up = F.root t ∧ (F.nd (F.root t)).tree = t)
    (lk : ∀ n, n < 40 → (F.nd n).kind ≠ 0 → n ≠ k → (F.nd n).links = Tr.cnt F n)
    (al : ∀ n, n < 40 → (F.nd n).kind ≠ 0 → n ≠ k → 1 ≤ (F.nd n).links + (F.nd n).held)
    (dr : ∀ n, n < 40 → (F.nd n).kind = 2 → n ≠ k → Tr.cnt F n = 1)
    (en : ∀ n, n < 40 → (F.nd n).kind = 2 → n ≠ k → Tr.EndsF F 40 n)
    (ro : ∀ n, n < 40 → (F.nd n).kind = 2 → n ≠ k → (F.nd n).up = n → ∃ t, t < F.trees ∧ F.root t = n)
    (c0 : Tr.cnt F k = 0) (z0 : (F.nd k).kind = 2 → (F.nd k).size = 0) : Tr.Ok (F.put k Nd.no) := by
  obtain ⟨G, hG⟩ : ∃ G, F.put k Nd.no = G := ⟨_, rfl⟩
  rw [hG]
  have gk : G.nd k = Nd.no := by rw [← hG, Tr.put_same]
  have gk0 : (G.nd k).kind = 0 := by rw [gk]; rfl
  have go : ∀ x, x ≠ k → G.nd x = F.nd x := fun x c => by rw [← hG, Tr.put_ne _ _ _ _ c]
  have cnt : ∀ x, Tr.cnt G x = Tr.cnt F x := fun x => by
    rw [← hG]
    refine Tr.cnt_put_same F k _ x hk ?_
    rw [Tr.cntM_no (x := Nd.no) x (by decide)]
    unfold Tr.cntM
    split
    · rename_i c; rw [z0 c]; rfl
    · rfl
  obtain ⟨kne, rne⟩ := Tr.cnt_no c0
  have n2 : ∀ {x}, (G.nd x).kind = 2 → x ≠ k := fun {x} k2 c => by subst c; rw [gk0] at k2; exact absurd k2 (by decide)
  have n0 : ∀ {x}, (G.nd x).kind ≠ 0 → x ≠ k := fun {x} kx c => by subst c; exact kx gk0
  refine ⟨by rw [← hG]; exact tr, fun x hx => ?_, fun x hx k2 => ?_, fun x hx k1 => ?_, fun x j hx k2 hj => ?_, fun x hx k2 => ?_, fun x j hx k2 hj => ?_, fun t htt => ?_, fun x hx kx => ?_, fun x hx kx => ?_, fun x hx k2 => ?_, fun x hx k2 => ?_, fun x hx k2 hu2 => ?_⟩
  · by_cases c : x = k
    · subst c; rw [gk0]; exact Nat.zero_le _
    · rw [go x c]; exact kd x hx
  · have c := n2 k2; rw [go x c] at k2 ⊢; exact sz x hx k2
  · have c : x ≠ k := fun e => by subst e; rw [gk0] at k1; exact absurd k1 (by decide)
    rw [go x c] at k1 ⊢; exact fz x hx k1
  · have c := n2 k2; rw [go x c] at k2 hj ⊢; exact nb x j hx k2 hj
  · have c := n2 k2; rw [go x c] at k2 ⊢; exact dp x hx k2
  · have c := n2 k2; rw [go x c] at k2 hj ⊢
    rw [go _ (kne x j hx k2 hj)]
    exact ki x j hx k2 hj
  · have htt' : t < F.trees := by rw [← hG] at htt; exact htt
    have e : G.root t = F.root t := by rw [← hG]; rfl
    rw [e, go _ (rne t htt')]
    exact rt t htt'
  · have c := n0 kx; rw [go x c] at kx ⊢; rw [cnt]; exact lk x hx kx c
  · have c := n0 kx; rw [go x c] at kx ⊢; exact al x hx kx c
  · have c := n2 k2; rw [go x c] at k2; rw [cnt]; exact dr x hx k2 c
  · have c := n2 k2; rw [go x c] at k2
    refine Tr.EndsF.on (F := F) (G := G) (fun y => y < 40 ∧ (F.nd y).kind = 2 ∧ y ≠ k) (fun y hy => ?_) ⟨hx, k2, c⟩ (en x hx k2 c)
    refine ⟨by rw [go y hy.2.2], ?_⟩
    rcases Tr.up_of ki hy.2.1 (by rw [dr y hy.1 hy.2.1 hy.2.2]; exact Nat.le_refl _) with ⟨t, ht, e⟩ | ⟨i, h1, h2, h3, _⟩
    · have := (rt t ht).2.2.1
      rw [e] at this
      rw [this]; exact hy
    · refine ⟨h1, h2, fun e => ?_⟩
      rw [e] at h2 h3
      rw [z0 h2] at h3; omega
  · have c := n2 k2; rw [go x c] at k2 hu2
    obtain ⟨t, h1, h2⟩ := ro x hx k2 c hu2
    exact ⟨t, by rw [← hG]; exact h1, by rw [← hG]; exact h2⟩
theorem Tr.Ok.letT {F : Fo} (h : Tr.Ok F) (z : Int) : Tr.Ok (Tr.letT F z) := by
  unfold Tr.letT
  split
  · rename_i c
    have c1 : Tr.nodeE F z = 0 := by
      rcases Classical.em (Tr.nodeE F z = 0) with d | d
      · exact d
      · unfold Tr.letE at c; rw [if_neg d] at c; exact c
    obtain ⟨n, rfl, n40, k0⟩ := Tr.nodeE_ok c1
    unfold Tr.letE at c
    rw [if_pos c1, Int.toNat_natCast] at c
    have h0 : (F.nd n).held ≠ 0 := fun e => by rw [if_pos e] at c; exact absurd c (by decide)
    rw [Int.toNat_natCast]
    unfold Tr.swe
    rw [Tr.put_same]
    split
    · rename_i d
      have d1 : (F.nd n).links = 0 := d.1
      rw [Tr.put_put]
      have c0 : Tr.cnt F n = 0 := by rw [← h.lk n n40 k0]; exact d1
      refine Tr.erase n40 h.tr h.kd h.sz h.fz h.nb h.dp h.ki h.rt (fun x hx kx _ => h.lk x hx kx) (fun x hx kx _ => h.al x hx kx) (fun x hx k2 _ => h.dr x hx k2) (fun x hx k2 _ => h.en x hx k2) (fun x hx k2 _ u => h.ro x hx k2 u) c0 (fun k2 => ?_)
      have := h.dr n n40 k2
      omega
    · rename_i d
      refine h.put n _ n40 rfl rfl rfl rfl (fun _ => ⟨rfl, rfl, rfl⟩) (fun k1 => h.fz n n40 k1) (fun _ => ?_)
      have d' : ¬ ((F.nd n).links = 0 ∧ (F.nd n).held - 1 = 0) := d
      show 1 ≤ (F.nd n).links + ((F.nd n).held - 1)
      omega
  · exact h
end Go.Proofs.YtghogbngmcolmaaGreat
namespace Go.Proofs.YtghogbngmcolmaaGreat
open Tr (Fo Nd)
theorem Tr.Ok.pla {F : Fo} (h : Tr.Ok F) {T : Nat} {E : Int} {G : Fo} (hm : Tr.PlaTo F T E G) : Tr.Ok G := by
  rcases hm with ⟨_, _, _, rfl⟩ | ⟨t4, n, e, hf, hm⟩
  · exact h
  rcases hm with ⟨_, _, _, rfl⟩ | ⟨rfl, _, _, rfl⟩
  · exact h
  obtain ⟨n40, k0⟩ : n < 40 ∧ (F.nd n).kind = 0 := by
    rcases hf with ⟨_, h1, h2, _⟩ | ⟨h1, _⟩
    · exact ⟨h1, h2⟩
    · omega
  obtain ⟨G, hG⟩ : ∃ G, Tr.plaF F n = G := ⟨_, rfl⟩
  rw [hG]
  have gk : G.nd n = newN 2 F.trees n := by rw [← hG]; exact Tr.put_same F n _
  have go : ∀ x, x ≠ n → G.nd x = F.nd x := fun x c => by rw [← hG]; exact Tr.put_ne F n _ x c
  have gtr : G.trees = F.trees + 1 := by rw [← hG]; rfl
  have gro : ∀ t, t < F.trees → G.root t = F.root t := fun t ht => by rw [← hG]; exact upA_ne _ _ _ _ (by omega)
  have grn : G.root F.trees = n := by rw [← hG]; exact upA_same _ _ _
  have hc0 := h.none k0
  obtain ⟨kne, rne⟩ := Tr.cnt_no hc0
  have cnt : ∀ x, Tr.cnt G x = Tr.cnt F x + oneN n x := fun x => by
    have a : Tr.cnt (F.put n (newN 2 F.trees n)) x = Tr.cnt F x := by
      refine Tr.cnt_put_same F n _ x n40 ?_
      rw [Tr.cntM_no (x := F.nd n) x (by rw [k0]; decide)]
      rfl
    have b : Tr.cntR G x = Tr.cntR F x + oneN n x := by
      unfold Tr.cntR
      rw [gtr]
      show sumN (fun t => oneN (G.root t) x) F.trees + oneN (G.root F.trees) x = _
      rw [grn, sumN_congr (fun t ht => by rw [gro t ht])]
    have c : sumN (fun m => Tr.cntM (G.nd m) x) 40 = sumN (fun m => Tr.cntM ((F.put n (newN 2 F.trees n)).nd m) x) 40 := by rw [← hG]; rfl
    have d : Tr.cntR (F.put n (newN 2 F.trees n)) x = Tr.cntR F x := rfl
    unfold Tr.cnt at a ⊢
    rw [c, b]
    omega
  have sz0 : (G.nd n).size = 0 := by rw [gk]; rfl
  have h4 := h.tr
  refine ⟨by rw [gtr]; omega, fun x hx => ?_, fun x hx k2 => ?_, fun x hx k1 => ?_, fun x j hx k2 hj => ?_, fun x hx k2 => ?_, fun x j hx k2 hj => ?_, fun t htt => ?_, fun x hx kx => ?_, fun x hx kx => ?_, fun x hx k2 => ?_, fun x hx k2 => ?_, fun x hx k2 hu2 => ?_⟩
  · by_cases c : x = n
    · subst c; rw [gk]; exact Nat.le_refl _
    · rw [go x c]; exact h.kd x hx
  · by_cases c : x = n
    · subst c; rw [sz0]; exact Nat.zero_le _
    · rw [go x c] at k2 ⊢; exact h.sz x hx k2
  · by_cases c : x = n
    · subst c; rw [sz0]; exact Nat.zero_le _
    · rw [go x c] at k1 ⊢; exact h.fz x hx k1
  · by_cases c : x = n
    · subst c; rw [sz0] at hj; omega
    · rw [go x c] at k2 hj ⊢; exact h.nb x j hx k2 hj
  · by_cases c : x = n
    · subst c; intro a b _ hb; rw [sz0] at hb; omega
    · rw [go x c] at k2 ⊢; exact h.dp x hx k2
  · by_cases c : x = n
    · subst c; rw [sz0] at hj; omega
    · rw [go x c] at k2 hj ⊢
      rw [go _ (kne x j hx k2 hj)]
      exact h.ki x j hx k2 hj
  · rw [gtr] at htt
    by_cases c : t = F.trees
    · subst c; rw [grn, gk]; exact ⟨n40, rfl, rfl, rfl⟩
    · rw [gro t (by omega), go _ (rne t (by omega))]
      exact h.rt t (by omega)
  · by_cases c : x = n
    · subst c; rw [gk, cnt, hc0, oneN_same]; rfl
    · rw [go x c] at kx ⊢; rw [cnt, oneN_ne (Ne.symm c)]; exact h.lk x hx kx
  · by_cases c : x = n
    · subst c; rw [gk]; show 1 ≤ 1 + 0; omega
    · rw [go x c] at kx ⊢; exact h.al x hx kx
  · by_cases c : x = n
    · subst c; rw [cnt, hc0, oneN_same]
    · rw [go x c] at k2; rw [cnt, oneN_ne (Ne.symm c)]; exact h.dr x hx k2
  · by_cases c : x = n
    · subst c
      exact Tr.EndsF.forty (m := 0) ⟨n40, by rw [gk]; rfl⟩
    · rw [go x c] at k2
      exact (h.en x hx k2).avoid (k := n) (fun y d => by rw [go y d]) (h.far k0 (fun _ _ => rfl) 40 x hx k2)
  · by_cases c : x = n
    · exact ⟨F.trees, by rw [gtr]; omega, by rw [grn, c]⟩
    · rw [go x c] at k2 hu2
      obtain ⟨t, h1, h2⟩ := h.ro x hx k2 hu2
      exact ⟨t, by rw [gtr]; omega, by rw [gro t h1]; exact h2⟩
end Go.Proofs.YtghogbngmcolmaaGreat

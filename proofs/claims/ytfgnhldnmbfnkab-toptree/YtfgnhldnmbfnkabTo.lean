/- The code's forest: Read. -/
import Derived.Test.YtfgnhldnmbfnkabTn
import Derived.Laws.BytesString
namespace Go.Proofs.Ytfgnhldnmbfnkab
open Go.RowKit
open Tr (Fo Nd)

/-- The bytes from a place on, so many. -/
def Tr.rdL (f : Nat → Int) (a k : Nat) : List Int := (List.range k).map fun j => f (a + j)
def Tr.rdS (f : Nat → Int) (a k : Nat) : ByteArray := (Tr.rdL f a k).foldl (fun r n => r.push (UInt8.ofNat n.toNat)) ByteArray.empty
theorem Tr.rdL_len (f : Nat → Int) (a k : Nat) : (Tr.rdL f a k).length = k := by simp [Tr.rdL]
theorem FAt.loads {w : World} {b : Nat} {F : Fo} (h : FAt w b F) (n lo k : Nat) (hn : n < 40) (hk : lo + k ≤ 40) (ad : Addr) (had : 0 < k → ad = ⟨b, n * 62 + 22 + lo, none⟩) : (loadCells ad k).run Try.prog w = .ok ((Tr.rdL (F.nd n).byt lo k).map (Value.int .u8)).toArray w := by
  have := run_loadCells_list (P := Try.prog) w ad ((Tr.rdL (F.nd n).byt lo k).map (Value.int .u8)) (fun j v hv => by
    have hj : j < k := by have := (List.getElem?_eq_some_iff.1 hv).1; rw [List.length_map, Tr.rdL_len] at this; exact this
    rw [had (by omega)]
    have e : (⟨b, n * 62 + 22 + lo, none⟩ : Addr).add j = ⟨b, n * 62 + 22 + (lo + j), none⟩ := by
      unfold Addr.add
      split
      · simp_all
      · simp_all; omega
    rw [e, h.cByt n (lo + j) hn (by omega), ← hv]
    simp [Tr.rdL, hj])
  rw [List.length_map, Tr.rdL_len] at this
  exact this
section
variable {ops : Array Oper} {rest : List Oper} {x : Oper} {a : Act} {w : World} {Q : Exit → Act → World → Prop}
set_option maxRecDepth 100000 in
theorem wpList_bytes_str (hgd : x.guard = none) (y : Operand) (hop : x.op = Op.convert 182 9 y)
    (ad : Addr) (k c : Nat) (hd : a.eval y = .slice (some ad) k c) (ns : List Int) (hl : (loadCells ad k).run Try.prog w = .ok (ns.map (Value.int .u8)).toArray w)
    (h : wpList Try.prog ops Q rest (a.put x.dst (.string (ns.foldl (fun r n => r.push (UInt8.ofNat n.toNat)) ByteArray.empty))) w) : wpList Try.prog ops Q (x :: rest) a w :=
  wpList_plain hgd fun _ hK => by
    have hrun := (run_convert_bytes_string (P := Try.prog) w 182 9 5 (some ad) k c (by kernel_rfl) (by kernel_rfl) (by kernel_rfl)).trans (run_bytesToString w ad k c ns hl)
    unfold Oper.wp
    simp [execOp, hop, hd, hrun, Result.andThen]
    exact hK _ _ h
end
/-- What a Read answers. -/
def Tr.reaE (F : Fo) (z a m : Int) : Int := if Tr.isE F z 1 ≠ 0 then Tr.isE F z 1 else if a < 0 ∨ m < 0 then 1 else 0
def Tr.reaS (F : Fo) (z a m : Int) : ByteArray :=
  if Tr.reaE F z a m = 0 then Tr.rdS (F.nd z.toNat).byt (min a.toNat (F.nd z.toNat).size) (min m.toNat ((F.nd z.toNat).size - min a.toNat (F.nd z.toNat).size)) else ByteArray.empty
set_option maxRecDepth 100000 in
set_option maxHeartbeats 2000000 in
theorem tread_any (b : Nat) (z a m : Int) (F : Fo) (w : World) (h : FAt w b F) (hs : Tr.FzOk F) :
    Calls Try.prog 55 #[.pointer (some ⟨b, 0, none⟩), .int .i64 z, .int .i64 a, .int .i64 m] w fun e w' => e = .returned (.tuple #[.string (Tr.reaS F z a m), errV (Tr.reaE F z a m)]) ∧ FAt w' b F ∧ Below w.heap.size w w' := by
  have HF := Hid.intro h
  by_cases c : Tr.isE F z 1 = 0
  · obtain ⟨n, rfl, n40, _, k1⟩ := Tr.isE_ok c
    have EP : Hid (Tr.isE F (n : Int) 1 = 0 ∧ ptrE b (n : Int) 0 = .pointer (some ⟨b, n * 62, none⟩)) := Hid.intro ⟨c, ptrE_ok b n⟩
    have EW : Tr.reaE F (n : Int) a m = if a < 0 ∨ m < 0 then 1 else 0 := by unfold Tr.reaE; rw [if_neg (fun d => d c)]
    have z40 := hs n n40 k1
    by_cases a0 : a < 0 ∨ m < 0
    · have FIN : Hid (Tr.reaE F (n : Int) a m = 1 ∧ Tr.reaS F (n : Int) a m = ⟨#[]⟩) := Hid.intro (by
        have e : Tr.reaE F (n : Int) a m = 1 := by rw [EW, if_pos a0]
        exact ⟨e, by unfold Tr.reaS; rw [e, if_neg (by omega)]; rfl⟩)
      clear h c k1 EW hs z40
      by_cases a1 : a < 0
      · clear a0
        go_enter Try.func55, Try.ntmps55
        go_wp2_with fail
        refine (tfile_any b n F _ HF.out).mono ?_
        rintro e w1 ⟨rfl, hw1⟩
        subst w1
        rw [EP.out.1, EP.out.2, errV_zero]
        go_wp2_with fail
        go_ret2
        rw [FIN.out.1, FIN.out.2]
        exact ⟨rfl, HF.out, Below.refl _ _⟩
      · have a2 : m < 0 := by omega
        clear a0
        go_enter Try.func55, Try.ntmps55
        go_wp2_with fail
        refine (tfile_any b n F _ HF.out).mono ?_
        rintro e w1 ⟨rfl, hw1⟩
        subst w1
        rw [EP.out.1, EP.out.2, errV_zero]
        go_wp2_with fail
        go_ret2
        rw [FIN.out.1, FIN.out.2]
        exact ⟨rfl, HF.out, Below.refl _ _⟩
    · have EZ : Tr.reaE F (n : Int) a m = 0 := by rw [EW, if_neg a0]
      obtain ⟨p, rfl⟩ : ∃ p : Nat, a = p := ⟨a.toNat, by omega⟩
      obtain ⟨q, rfl⟩ : ∃ q : Nat, m = q := ⟨m.toNat, by omega⟩
      have c3 := h.cSize n n40
      obtain ⟨sz, hsz⟩ : ∃ sz, (F.nd n).size = sz := ⟨_, rfl⟩
      have EF : Hid (Tr.reaE F (n : Int) (p : Int) (q : Int) = 0 ∧ Tr.reaS F (n : Int) (p : Int) (q : Int) = Tr.rdS (F.nd n).byt (min p sz) (min q (sz - min p sz))) := Hid.intro ⟨EZ, by unfold Tr.reaS; rw [if_pos EZ, Int.toNat_natCast, Int.toNat_natCast, Int.toNat_natCast, hsz]⟩
      rw [hsz] at c3 z40
      have zI : (sz : Int) ≤ 40 := by omega
      obtain ⟨lo, hlo⟩ : ∃ lo, min p sz = lo := ⟨_, rfl⟩
      have mn : min (p : Int) (sz : Int) = (lo : Int) := by omega
      have lz : lo ≤ sz := by omega
      have lzI : (lo : Int) ≤ (sz : Int) := by omega
      have mn2 : (if (p : Int) < (sz : Int) then (p : Int) else (sz : Int)) = (lo : Int) := by split <;> omega
      obtain ⟨k, hk⟩ : ∃ k, min q (sz - lo) = k := ⟨_, rfl⟩
      have mk : min (q : Int) ((sz - lo : Nat) : Int) = (k : Int) := by omega
      have k1' : k ≤ sz - lo := by omega
      have k2' : k ≤ 40 - lo := by omega
      have k3' : (k : Int) ≤ ((40 - lo : Nat) : Int) := by omega
      have k4' : (k : Int) ≤ ((sz - lo : Nat) : Int) := by omega
      rw [hlo, hk] at EF
      have LD : Hid (∀ nq, (loadCells (if 40 = lo then (⟨b, n * 62 + 22, none⟩ : Addr) else ⟨b, n * 62 + 22 + lo, none⟩) k).run Try.prog (w.drewN nq) = .ok ((Tr.rdL (F.nd n).byt lo k).map (Value.int .u8)).toArray (w.drewN nq)) := Hid.intro (fun nq => (h.drewN nq).loads n lo k n40 (by omega) _ (fun h0 => if_neg (by omega)))
      have BB : Hid (∀ nq, Below w.heap.size w (w.drewN nq)) := Hid.intro (fun nq => by
        have := Below.refl w.heap.size w
        exact ⟨this.os, this.tape, this.output, this.size, this.block⟩)
      clear h c k1 EW hs EZ hsz a0 hlo hk
      go_enter Try.func55, Try.ntmps55
      go_wp2_with fail
      refine (tfile_any b n F _ HF.out).mono ?_
      rintro e w1 ⟨rfl, hw1⟩
      subst w1
      rw [EP.out.1, EP.out.2, errV_zero]
      go_wp2_with fail
      go_quiet (fail)
      revert LD
      generalize (if 40 = lo then (⟨b, n * 62 + 22, none⟩ : Addr) else ⟨b, n * 62 + 22 + lo, none⟩) = ad
      intro LD
      go_wp2_with (refine wpList_bytes_str rfl _ rfl ad k _ rfl _ (LD.out _) ?_)
      go_ret2
      rw [EF.out.1, EF.out.2]
      exact ⟨rfl, HF.out.drewN _, BB.out _⟩
  · have E2 : Hid (ptrE b z (Tr.isE F z 1) = .pointer none ∧ errV (Tr.isE F z 1) = .iface 128 (.int .i64 (Tr.isE F z 1)) ∧ Tr.reaE F z a m = Tr.isE F z 1 ∧ Tr.reaS F z a m = ⟨#[]⟩) := Hid.intro (by
      have e : Tr.reaE F z a m = Tr.isE F z 1 := if_pos c
      exact ⟨ptrE_no c, errV_ne c, e, by unfold Tr.reaS; rw [e, if_neg c]; rfl⟩)
    clear h c hs
    go_enter Try.func55, Try.ntmps55
    go_wp2_with fail
    refine (tfile_any b z F _ HF.out).mono ?_
    rintro e w1 ⟨rfl, hw⟩
    subst w1
    rw [E2.out.1, E2.out.2.1]
    go_wp2_with fail
    go_ret2
    rw [E2.out.2.2.1, E2.out.2.2.2, E2.out.2.1]
    exact ⟨rfl, HF.out, Below.refl _ _⟩
end Go.Proofs.Ytfgnhldnmbfnkab

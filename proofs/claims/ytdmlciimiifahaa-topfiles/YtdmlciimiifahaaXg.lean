/- TopFiles: what each call does. -/
import Derived.Test.YtdmlciimiifahaaXf
namespace Go.Proofs.Ytdmlciimiifahaa
open Go.RowKit
open Fx (Fi)
open Tr (Fo Nd)
open Pp (Pi)

/-- All of it, behind what was there before. -/
def TS (w W : World) (t b p : Nat) (x y u : Fi) (F : Fo) : Prop := Below w.heap.size w W ∧ FX W t b p (Fx.tt x y u) F Pp.nul ∧ w.heap.size ≤ t ∧ w.heap.size ≤ b ∧ w.heap.size ≤ p
theorem TS.step {w W W' : World} {t b p : Nat} {x y u x' y' u' : Fi} {F G : Fo} (h : TS w W t b p x y u F) (k : FX W' t b p (Fx.tt x' y' u') G Pp.nul) (f : Tri t b p W W') : TS w W' t b p x' y' u' G :=
  ⟨f.behind h.1 h.2.2.1 h.2.2.2.1 h.2.2.2.2 h.1.size, k, h.2.2⟩
def Fx.xw (rw a : Nat) : Fi := ⟨1, 1, true, a, rw⟩
def Fx.xr (a : Nat) : Fi := ⟨1, 1, false, a, 1⟩
def Fx.xo (a : Nat) : Fi := ⟨1, 2, true, a, 1⟩
theorem Fx.pz {x y u : Fi} (h1 : x.pos ≤ 100) (h2 : y.pos ≤ 100) (h3 : u.pos ≤ 100) : Fx.Pz (Fx.tt x y u) := fun n _ => by
  have hp : 100 < 2 ^ 60 := by decide
  unfold Fx.tt
  repeat' split
  · omega
  · omega
  · omega
  · exact Nat.two_pow_pos 60
section
variable {w W : World} {t b p rw pr po l h : Nat} {A : ByteArray} {F : Fo}
theorem tf_write (S : TS w W t b p (Fx.xw rw A.size) (Fx.xr pr) (Fx.xo po) F) (k : Tk F l h A) (hm : Tk.Nm F) (h1 : pr ≤ 40) (h2 : po ≤ 40) (r0 : rw ≠ 0) (s : ByteArray) (hs : s.size < 2 ^ 59) :
    Calls Try.prog 19 #[.pointer (some ⟨t, 0, none⟩), .int .i64 0, .string s] W fun e W' =>
      (∃ E, e = .returned (.tuple #[.int .i64 0, .iface 104 (.int .i64 E)]) ∧ TS w W' t b p (Fx.xw rw A.size) (Fx.xr pr) (Fx.xo po) F)
      ∨ (∃ G, e = .returned (.tuple #[.int .i64 (s.size : Int), .nilIface]) ∧ TS w W' t b p (Fx.xw rw (A ++ s).size) (Fx.xr pr) (Fx.xo po) G ∧ Tk G l h (A ++ s) ∧ Tk.Nm G) := by
  have hA := k.le
  refine (xwrite_any t b p 0 s _ F Pp.nul W S.2.1 hs (Fx.pz (by show A.size ≤ 100; omega) (by show pr ≤ 100; omega) (by show po ≤ 100; omega))).mono ?_
  rintro e W' ⟨rfl, k1, f1⟩
  have f0 : Fx.filE (Fx.tt (Fx.xw rw A.size) (Fx.xr pr) (Fx.xo po)) 0 = 0 := if_neg r0
  have yb : Fx.wriB (Fx.tt (Fx.xw rw A.size) (Fx.xr pr) (Fx.xo po)) 0 := ⟨f0, by show (1 : Nat) ≠ 3; decide, rfl⟩
  have eE : Fx.wriE (Fx.tt (Fx.xw rw A.size) (Fx.xr pr) (Fx.xo po)) F Pp.nul 0 s = Tr.wriE F 1 (A.size : Int) s := by
    unfold Fx.wriE
    rw [if_neg (fun d => d f0)]
    rfl
  have eK : Fx.wriK (Fx.tt (Fx.xw rw A.size) (Fx.xr pr) (Fx.xo po)) F Pp.nul 0 s = if Tr.wriE F 1 (A.size : Int) s = 0 then s.size else 0 := by
    unfold Fx.wriK
    rw [if_neg (fun d => d f0)]
    rfl
  have eF : Fx.wriF (Fx.tt (Fx.xw rw A.size) (Fx.xr pr) (Fx.xo po)) F 0 s = Tr.wriF F 1 (A.size : Int) s := by
    unfold Fx.wriF
    rw [if_pos yb]
    rfl
  have eP : Fx.wriP (Fx.tt (Fx.xw rw A.size) (Fx.xr pr) (Fx.xo po)) Pp.nul 0 s = Pp.nul := if_neg (fun d => absurd d.2 (by show ¬ (1 : Nat) = 3; decide))
  rw [eF, eP] at k1
  rw [eE, eK]
  by_cases c : Tr.wriE F 1 (A.size : Int) s = 0
  · have eT : Fx.wriT (Fx.tt (Fx.xw rw A.size) (Fx.xr pr) (Fx.xo po)) F 0 s = Fx.tt (Fx.xw rw (A ++ s).size) (Fx.xr pr) (Fx.xo po) := by
      unfold Fx.wriT
      rw [if_pos ⟨yb, c⟩, show (0 : Int).toNat = 0 from rfl, Fx.tt_put0, ByteArray.size_append]
      rfl
    rw [eT] at k1
    refine .inr ⟨_, ?_, S.step k1 f1, k.wrote s c, Tk.nmw hm 1 (by decide) _ _⟩
    rw [c, if_pos rfl]
    rfl
  · have eT : Fx.wriT (Fx.tt (Fx.xw rw A.size) (Fx.xr pr) (Fx.xo po)) F 0 s = Fx.tt (Fx.xw rw A.size) (Fx.xr pr) (Fx.xo po) := if_neg (fun d => c d.2)
    have eF2 : Tr.wriF F 1 (A.size : Int) s = F := if_neg (fun d => c d.1)
    rw [eT, eF2] at k1
    refine .inl ⟨Tr.wriE F 1 (A.size : Int) s, ?_, S.step k1 f1⟩
    rw [if_neg c, errV_ne c]
    rfl
theorem tf_other (S : TS w W t b p (Fx.xw rw A.size) (Fx.xr pr) (Fx.xo po) F) (k : Tk F l h A) (hm : Tk.Nm F) (h1 : pr ≤ 40) (h2 : po ≤ 40) (s : ByteArray) (hs : s.size < 2 ^ 59) :
    Calls Try.prog 19 #[.pointer (some ⟨t, 0, none⟩), .int .i64 2, .string s] W fun e W' =>
      ∃ v1 v2 G po', e = .returned (.tuple #[v1, v2]) ∧ TS w W' t b p (Fx.xw rw A.size) (Fx.xr pr) (Fx.xo po') G ∧ Tk G l h A ∧ Tk.Nm G ∧ po' ≤ 40 := by
  have hA := k.le
  refine (xwrite_any t b p 2 s _ F Pp.nul W S.2.1 hs (Fx.pz (by show A.size ≤ 100; omega) (by show pr ≤ 100; omega) (by show po ≤ 100; omega))).mono ?_
  rintro e W' ⟨rfl, k1, f1⟩
  have f0 : Fx.filE (Fx.tt (Fx.xw rw A.size) (Fx.xr pr) (Fx.xo po)) 2 = 0 := rfl
  have yb : Fx.wriB (Fx.tt (Fx.xw rw A.size) (Fx.xr pr) (Fx.xo po)) 2 := ⟨f0, by show (1 : Nat) ≠ 3; decide, rfl⟩
  have eF : Fx.wriF (Fx.tt (Fx.xw rw A.size) (Fx.xr pr) (Fx.xo po)) F 2 s = Tr.wriF F 2 (po : Int) s := by
    unfold Fx.wriF
    rw [if_pos yb]
    rfl
  have eP : Fx.wriP (Fx.tt (Fx.xw rw A.size) (Fx.xr pr) (Fx.xo po)) Pp.nul 2 s = Pp.nul := if_neg (fun d => absurd d.2 (by show ¬ (1 : Nat) = 3; decide))
  rw [eF, eP] at k1
  by_cases c : Tr.wriE F 2 (po : Int) s = 0
  · have eT : Fx.wriT (Fx.tt (Fx.xw rw A.size) (Fx.xr pr) (Fx.xo po)) F 2 s = Fx.tt (Fx.xw rw A.size) (Fx.xr pr) (Fx.xo (po + s.size)) := by
      unfold Fx.wriT
      rw [if_pos ⟨yb, c⟩, show (2 : Int).toNat = 2 from rfl, Fx.tt_put2]
      rfl
    rw [eT] at k1
    refine ⟨_, _, _, po + s.size, rfl, S.step k1 f1, k.other _ _, Tk.nmw hm 2 (by decide) _ _, ?_⟩
    unfold Tr.wriE at c
    rw [k.is2, if_neg (fun d => d rfl), if_neg (by omega)] at c
    by_cases d : 40 - (s.size : Int) < (po : Int)
    · rw [if_pos d] at c; omega
    · omega
  · have eT : Fx.wriT (Fx.tt (Fx.xw rw A.size) (Fx.xr pr) (Fx.xo po)) F 2 s = Fx.tt (Fx.xw rw A.size) (Fx.xr pr) (Fx.xo po) := if_neg (fun d => c d.2)
    rw [eT] at k1
    exact ⟨_, _, _, po, rfl, S.step k1 f1, k.other _ _, Tk.nmw hm 2 (by decide) _ _, h2⟩
theorem Fx.rf {x y u : Fi} (h1 : x.refs ≤ 3) (h2 : y.refs ≤ 3) (h3 : u.refs ≤ 3) : ∀ n, n < 24 → (Fx.tt x y u n).refs < 2 ^ 60 := fun n _ => by
  have hp : 3 < 2 ^ 60 := by decide
  unfold Fx.tt
  repeat' split
  · omega
  · omega
  · omega
  · exact Nat.two_pow_pos 60
/-- One less has it. -/
theorem tf_less {y : Fi} (S : TS w W t b p (Fx.xw 2 A.size) y (Fx.xo po) F) (k : Tk F l h A) (hy : y.refs ≤ 3) :
    Calls Try.prog 20 #[.pointer (some ⟨t, 0, none⟩), .int .i64 0] W fun e W' => e = .returned .nilIface ∧ TS w W' t b p (Fx.xw 1 A.size) y (Fx.xo po) F := by
  refine (xclose_any t b p 0 _ F Pp.nul W S.2.1 k.sm (Fx.rf (show 2 ≤ 3 by omega) hy (show 1 ≤ 3 by omega))).mono ?_
  rintro e W' ⟨rfl, k1, f1⟩
  have eT : Fx.cloT (Fx.tt (Fx.xw 2 A.size) y (Fx.xo po)) 0 = Fx.tt (Fx.xw 1 A.size) y (Fx.xo po) := by
    unfold Fx.cloT
    rw [if_pos (show Fx.filE (Fx.tt (Fx.xw 2 A.size) y (Fx.xo po)) 0 = 0 from rfl), show (0 : Int).toNat = 0 from rfl, Fx.tt_put0]
    rfl
  have eF : Fx.cloF (Fx.tt (Fx.xw 2 A.size) y (Fx.xo po)) F 0 = F := if_neg (fun d => absurd d.2 (by show ¬ 2 = 1; decide))
  have eS : Fx.cloS (Fx.tt (Fx.xw 2 A.size) y (Fx.xo po)) Pp.nul 0 = Pp.nul := if_neg (fun d => absurd d.2 (by show ¬ 2 = 1; decide))
  rw [eT, eF, eS] at k1
  exact ⟨rfl, S.step k1 f1⟩
/-- Nobody has the one to be read any more. -/
theorem tf_close1 {rw : Nat} (S : TS w W t b p (Fx.xw rw A.size) (Fx.xr pr) (Fx.xo po) F) (k : Tk F l h A) (hr : rw ≤ 3) :
    Calls Try.prog 20 #[.pointer (some ⟨t, 0, none⟩), .int .i64 1] W fun e W' => e = .returned .nilIface ∧ TS w W' t b p (Fx.xw rw A.size) Fi.no (Fx.xo po) (Tr.letT F 1) := by
  refine (xclose_any t b p 1 _ F Pp.nul W S.2.1 k.sm (Fx.rf hr (show 1 ≤ 3 by omega) (show 1 ≤ 3 by omega))).mono ?_
  rintro e W' ⟨rfl, k1, f1⟩
  have eT : Fx.cloT (Fx.tt (Fx.xw rw A.size) (Fx.xr pr) (Fx.xo po)) 1 = Fx.tt (Fx.xw rw A.size) Fi.no (Fx.xo po) := by
    unfold Fx.cloT
    rw [if_pos (show Fx.filE (Fx.tt (Fx.xw rw A.size) (Fx.xr pr) (Fx.xo po)) 1 = 0 from rfl), show (1 : Int).toNat = 1 from rfl, Fx.tt_put1]
    rfl
  have eF : Fx.cloF (Fx.tt (Fx.xw rw A.size) (Fx.xr pr) (Fx.xo po)) F 1 = Tr.letT F 1 := rfl
  have eS : Fx.cloS (Fx.tt (Fx.xw rw A.size) (Fx.xr pr) (Fx.xo po)) Pp.nul 1 = Pp.nul := rfl
  rw [eT, eF, eS] at k1
  exact ⟨rfl, S.step k1 f1⟩
theorem tf_close0 {y : Fi} (S : TS w W t b p (Fx.xw 1 A.size) y (Fx.xo po) F) (k : Tk F l h A) (hy : y.refs ≤ 3) :
    Calls Try.prog 20 #[.pointer (some ⟨t, 0, none⟩), .int .i64 0] W fun e W' => e = .returned .nilIface ∧ TS w W' t b p Fi.no y (Fx.xo po) (Tr.letT F 1) := by
  refine (xclose_any t b p 0 _ F Pp.nul W S.2.1 k.sm (Fx.rf (show 1 ≤ 3 by omega) hy (show 1 ≤ 3 by omega))).mono ?_
  rintro e W' ⟨rfl, k1, f1⟩
  have eT : Fx.cloT (Fx.tt (Fx.xw 1 A.size) y (Fx.xo po)) 0 = Fx.tt Fi.no y (Fx.xo po) := by
    unfold Fx.cloT
    rw [if_pos (show Fx.filE (Fx.tt (Fx.xw 1 A.size) y (Fx.xo po)) 0 = 0 from rfl), show (0 : Int).toNat = 0 from rfl, Fx.tt_put0]
    rfl
  have eF : Fx.cloF (Fx.tt (Fx.xw 1 A.size) y (Fx.xo po)) F 0 = Tr.letT F 1 := rfl
  have eS : Fx.cloS (Fx.tt (Fx.xw 1 A.size) y (Fx.xo po)) Pp.nul 0 = Pp.nul := rfl
  rw [eT, eF, eS] at k1
  exact ⟨rfl, S.step k1 f1⟩
/-- Bytes are read, from the place on. -/
theorem tf_read (S : TS w W t b p (Fx.xw rw A.size) (Fx.xr pr) (Fx.xo po) F) (k : Tk F l h A) (h1 : pr ≤ A.size) (h2 : po ≤ 40) (m : Int) :
    Calls Try.prog 22 #[.pointer (some ⟨t, 0, none⟩), .int .i64 1, .int .i64 m] W fun e W' =>
      (m < 0 ∧ e = .returned (.tuple #[.string ⟨#[]⟩, .iface 104 (.int .i64 1)]) ∧ TS w W' t b p (Fx.xw rw A.size) (Fx.xr pr) (Fx.xo po) F)
      ∨ (0 ≤ m ∧ ∃ q : Nat, q = min m.toNat (A.size - pr) ∧ e = .returned (.tuple #[.string (A.extract pr (pr + q)), .nilIface]) ∧ TS w W' t b p (Fx.xw rw A.size) (Fx.xr (pr + q)) (Fx.xo po) F) := by
  have hA := k.le
  refine (xread_any t b p 1 m _ F Pp.nul W S.2.1 k.ok.fz (Fx.pz (by show A.size ≤ 100; omega) (by show pr ≤ 100; omega) (by show po ≤ 100; omega))).mono ?_
  rintro e W' ⟨rfl, k1, f1⟩
  have f0 : Fx.filE (Fx.tt (Fx.xw rw A.size) (Fx.xr pr) (Fx.xo po)) 1 = 0 := rfl
  have eE : Fx.reaE (Fx.tt (Fx.xw rw A.size) (Fx.xr pr) (Fx.xo po)) F Pp.nul 1 m = Tr.reaE F 1 (pr : Int) m := by
    unfold Fx.reaE
    rw [if_neg (fun d => d f0)]
    rfl
  have eV : Fx.reaV (Fx.tt (Fx.xw rw A.size) (Fx.xr pr) (Fx.xo po)) F Pp.nul 1 m = Tr.reaS F 1 (pr : Int) m := by
    unfold Fx.reaV
    rw [if_neg (fun d => d f0)]
    rfl
  have eP : Fx.reaP (Fx.tt (Fx.xw rw A.size) (Fx.xr pr) (Fx.xo po)) Pp.nul 1 m = Pp.nul := if_neg (fun d => absurd d.2 (by show ¬ (1 : Nat) = 2; decide))
  rw [eP] at k1
  rw [eE, eV]
  by_cases c : m < 0
  · have e1 : Tr.reaE F 1 (pr : Int) m = 1 := by rw [k.reaE, if_pos c]
    have eS : Tr.reaS F 1 (pr : Int) m = ⟨#[]⟩ := by unfold Tr.reaS; rw [e1, if_neg (by decide)]; rfl
    have eT : Fx.reaT (Fx.tt (Fx.xw rw A.size) (Fx.xr pr) (Fx.xo po)) F 1 m = Fx.tt (Fx.xw rw A.size) (Fx.xr pr) (Fx.xo po) := if_neg (fun d => by
      have : Tr.reaE F 1 (pr : Int) m = 0 := d.2.2.2
      rw [e1] at this
      exact absurd this (by decide))
    rw [eT] at k1
    refine .inl ⟨c, ?_, S.step k1 f1⟩
    rw [e1, eS]
    rfl
  · have e1 : Tr.reaE F 1 (pr : Int) m = 0 := by rw [k.reaE, if_neg c]
    have eS := k.reaS pr h1 m (by omega)
    have eT : Fx.reaT (Fx.tt (Fx.xw rw A.size) (Fx.xr pr) (Fx.xo po)) F 1 m = Fx.tt (Fx.xw rw A.size) (Fx.xr (pr + min m.toNat (A.size - pr))) (Fx.xo po) := by
      unfold Fx.reaT
      rw [if_pos ⟨f0, by show (1 : Nat) ≠ 3; decide, by show (1 : Nat) ≠ 2; decide, e1⟩, show (1 : Int).toNat = 1 from rfl, Fx.tt_put1]
      show Fx.tt _ ⟨1, 1, false, pr + (Tr.reaS F 1 (pr : Int) m).size, 1⟩ _ = _
      rw [eS, ByteArray.size_extract]
      unfold Fx.xr
      rw [show min (pr + min m.toNat (A.size - pr)) A.size - pr = min m.toNat (A.size - pr) by omega]
    rw [eT] at k1
    refine .inr ⟨by omega, _, rfl, ?_, S.step k1 f1⟩
    rw [e1, eS]
    rfl
end
end Go.Proofs.Ytdmlciimiifahaa

import Derived.Test.YtghogbngmcolmaaGreatRao
namespace Go.Proofs.YtghogbngmcolmaaGreat
open Go.RowKit
open Fx (Fi)
open Tr (Fo Nd)
open Pp (Pi)
def Fx.reaE (T : Nat → Fi) (F : Fo) (S : Nat → Pi) (z m : Int) : Int :=
  if Fx.filE T z ≠ 0 then Fx.filE T z else if (T z.toNat).kind = 3 then 8 else if (T z.toNat).kind = 2 then Pp.reaE S ((T z.toNat).num : Int) m else Tr.reaE F ((T z.toNat).num : Int) ((T z.toNat).pos : Int) m
def Fx.reaV (T : Nat → Fi) (F : Fo) (S : Nat → Pi) (z m : Int) : ByteArray :=
  if Fx.filE T z ≠ 0 then ⟨#[]⟩ else if (T z.toNat).kind = 3 then ⟨#[]⟩ else if (T z.toNat).kind = 2 then Pp.reaT S ((T z.toNat).num : Int) m else Tr.reaS F ((T z.toNat).num : Int) ((T z.toNat).pos : Int) m
def Fx.reaT (T : Nat → Fi) (F : Fo) (z m : Int) : Nat → Fi :=
  if Fx.filE T z = 0 ∧ (T z.toNat).kind ≠ 3 ∧ (T z.toNat).kind ≠ 2 ∧ Tr.reaE F ((T z.toNat).num : Int) ((T z.toNat).pos : Int) m = 0 then Fx.put T z.toNat { T z.toNat with pos := (T z.toNat).pos + (Tr.reaS F ((T z.toNat).num : Int) ((T z.toNat).pos : Int) m).size } else T
def Fx.reaP (T : Nat → Fi) (S : Nat → Pi) (z m : Int) : Nat → Pi := if Fx.filE T z = 0 ∧ (T z.toNat).kind = 2 then Pp.reaF S ((T z.toNat).num : Int) m else S
def Fx.wriE (T : Nat → Fi) (F : Fo) (S : Nat → Pi) (z : Int) (s : ByteArray) : Int :=
  if Fx.filE T z ≠ 0 then Fx.filE T z else if (T z.toNat).kind = 3 then Pp.wriE S ((T z.toNat).num : Int) s else if (T z.toNat).wr = false then 8 else Tr.wriE F ((T z.toNat).num : Int) ((T z.toNat).pos : Int) s
def Fx.wriK (T : Nat → Fi) (F : Fo) (S : Nat → Pi) (z : Int) (s : ByteArray) : Nat :=
  if Fx.filE T z ≠ 0 then 0 else if (T z.toNat).kind = 3 then Pp.wriK S ((T z.toNat).num : Int) s else if (T z.toNat).wr = false then 0 else if Tr.wriE F ((T z.toNat).num : Int) ((T z.toNat).pos : Int) s = 0 then s.size else 0
def Fx.wriB (T : Nat → Fi) (z : Int) : Prop := Fx.filE T z = 0 ∧ (T z.toNat).kind ≠ 3 ∧ (T z.toNat).wr = true
def Fx.zD (T : Nat → Fi) (z : Int) : Decidable (Fx.wriB T z) := by unfold Fx.wriB; exact inferInstance
def Fx.wriT (T : Nat → Fi) (F : Fo) (z : Int) (s : ByteArray) : Nat → Fi :=
  haveI := Fx.zD T z; if Fx.wriB T z ∧ Tr.wriE F ((T z.toNat).num : Int) ((T z.toNat).pos : Int) s = 0 then Fx.put T z.toNat { T z.toNat with pos := (T z.toNat).pos + s.size } else T
def Fx.wriF (T : Nat → Fi) (F : Fo) (z : Int) (s : ByteArray) : Fo := haveI := Fx.zD T z; if Fx.wriB T z then Tr.wriF F ((T z.toNat).num : Int) ((T z.toNat).pos : Int) s else F
def Fx.wriP (T : Nat → Fi) (S : Nat → Pi) (z : Int) (s : ByteArray) : Nat → Pi := if Fx.filE T z = 0 ∧ (T z.toNat).kind = 3 then Pp.wriF S ((T z.toNat).num : Int) s else S
def Fx.Pz (T : Nat → Fi) : Prop := ∀ n, n < 24 → (T n).pos < 2 ^ 60
theorem Tr.reaS_le {F : Fo} (h : Tr.FzOk F) (z a m : Int) : (Tr.reaS F z a m).size ≤ 40 := by
  unfold Tr.reaS
  split
  · rename_i c
    have i0 : Tr.isE F z 1 = 0 := by
      unfold Tr.reaE at c
      by_cases d : Tr.isE F z 1 ≠ 0
      · rw [if_pos d] at c; exact absurd c d
      · omega
    obtain ⟨n, rfl, n40, _, k1⟩ := Tr.isE_ok i0
    have z40 := h n n40 k1
    rw [Int.toNat_natCast]
    have : ∀ (L : List Int) (r : ByteArray), (L.foldl (fun r n => r.push (UInt8.ofNat n.toNat)) r).size = r.size + L.length := by
      intro L
      induction L with
      | nil => intro r; rfl
      | cons x L ih => intro r; rw [List.foldl_cons, ih, ByteArray.size_push, List.length_cons]; omega
    unfold Tr.rdS
    rw [this, Tr.rdL_len]
    show 0 + _ ≤ 40
    omega
  · exact Nat.zero_le _
set_option maxRecDepth 100000 in
set_option maxHeartbeats 2000000 in
theorem xread_any (t b p : Nat) (z m : Int) (T : Nat → Fi) (F : Fo) (S : Nat → Pi) (w : World) (h : FX w t b p T F S) (hz : Tr.FzOk F) (hp : Fx.Pz T) :
    Calls Tryz.prog 45 #[.pointer (some ⟨t, 0, none⟩), .int .i64 z, .int .i64 m] w fun e w' => e = .returned (.tuple #[.string (Fx.reaV T F S z m), errV (Fx.reaE T F S z m)]) ∧ FX w' t b p (Fx.reaT T F z m) F (Fx.reaP T S z m) ∧ Tri t b p w w' := by
  have HF := Hid.intro h
  have HZ := Hid.intro hz
  by_cases c : Fx.filE T z = 0
  · obtain ⟨n, rfl, n24, _⟩ := Fx.filE_ok c
    have EP : Hid (Fx.filE T (n : Int) = 0 ∧ fptE t (n : Int) 0 = .pointer (some ⟨t, 2 + n * 5, none⟩)) := Hid.intro ⟨c, fptE_ok t n⟩
    have hps := hp n n24
    have c0 := h.1.kind n n24
    have c1 := h.1.num n n24
    have c3 := h.1.pos n n24
    have cp := h.1.pi
    have cb := h.1.fo
    have cf := h.1.frozen
    have DE : Fx.reaE T F S (n : Int) m = if (T n).kind = 3 then 8 else if (T n).kind = 2 then Pp.reaE S ((T n).num : Int) m else Tr.reaE F ((T n).num : Int) ((T n).pos : Int) m := by unfold Fx.reaE; rw [if_neg (fun d => d c), Int.toNat_natCast]
    have DV : Fx.reaV T F S (n : Int) m = if (T n).kind = 3 then ⟨#[]⟩ else if (T n).kind = 2 then Pp.reaT S ((T n).num : Int) m else Tr.reaS F ((T n).num : Int) ((T n).pos : Int) m := by unfold Fx.reaV; rw [if_neg (fun d => d c), Int.toNat_natCast]
    by_cases k3 : (T n).kind = 3
    · have FIN : Hid (Fx.reaE T F S (n : Int) m = 8 ∧ Fx.reaV T F S (n : Int) m = ⟨#[]⟩ ∧ Fx.reaT T F (n : Int) m = T ∧ Fx.reaP T S (n : Int) m = S) := Hid.intro ⟨by rw [DE, if_pos k3], by rw [DV, if_pos k3], if_neg (fun d => by rw [Int.toNat_natCast] at d; exact d.2.1 k3), if_neg (fun d => by rw [Int.toNat_natCast, k3] at d; exact absurd d.2 (by decide))⟩
      rw [k3] at c0
      have c0' : w.cell? ⟨t, 2 + n * 5, none⟩ = some (.int .i64 3) := c0
      clear h c hp hz hps DE DV k3 c0 c1 c3 cp cb
      go_enter Tryz.func45, Tryz.ntmps45
      go_wp2_with fail
      refine (xfile_any t b p n T _ HF.out.1).mono ?_
      rintro e w1 ⟨rfl, hw1⟩
      subst w1
      rw [EP.out.1, EP.out.2, errV_zero]
      go_wp2_with fail
      go_ret2
      rw [FIN.out.1, FIN.out.2.1, FIN.out.2.2.1, FIN.out.2.2.2]
      exact ⟨rfl, HF.out, Tri.refl _ _ _ _⟩
    · by_cases k2 : (T n).kind = 2
      · have FIN : Hid (Fx.reaE T F S (n : Int) m = Pp.reaE S ((T n).num : Int) m ∧ Fx.reaV T F S (n : Int) m = Pp.reaT S ((T n).num : Int) m ∧ Fx.reaT T F (n : Int) m = T ∧ Fx.reaP T S (n : Int) m = Pp.reaF S ((T n).num : Int) m) := Hid.intro ⟨by rw [DE, if_neg k3, if_pos k2], by rw [DV, if_neg k3, if_pos k2], if_neg (fun d => by rw [Int.toNat_natCast] at d; exact d.2.2.1 k2), by unfold Fx.reaP; rw [Int.toNat_natCast, if_pos ⟨c, k2⟩]⟩
        rw [k2] at c0
        have c0' : w.cell? ⟨t, 2 + n * 5, none⟩ = some (.int .i64 2) := c0
        generalize (T n).num = nm at *
        have K0 := Hid.intro (And.intro cp c1)
        have NP := Hid.intro h.2.2.2
        clear h c hp hz hps DE DV k3 k2 c0 c1 c3 cp cb
        go_enter Tryz.func45, Tryz.ntmps45
        go_wp2_with fail
        refine (xfile_any t b p n T _ HF.out.1).mono ?_
        rintro e w1 ⟨rfl, hw1⟩
        subst w1
        rw [EP.out.1, EP.out.2, errV_zero]
        go_wp2_with fail
        go_region_held3 (fun w' => w'.cell? ⟨t, 1, none⟩ = some (.pointer (some ⟨p, 0, none⟩)) ∧ w'.cell? ⟨t, 2 + n * 5 + 1, none⟩ = some (.int .i64 (nm : Int))) (first | exact K0.out | exact K4.out) ((first | (go_at_call 89; refine (pread_any p nm m S _ HF.out.2.2.1.drew).mono ?_; rintro e w4 ⟨rfl, u4, f4⟩; have f4' : Frm p w w4 := ⟨f4.os, f4.tape, f4.output, f4.size, f4.block⟩; have C4 := Hid.intro (HF.out.pi u4 f4'); have D4 : Hid (Tri t b p w w4) := Hid.intro (Tri.pi f4'); have K4 := Hid.intro (And.intro C4.out.1.pi ((World.cell?_of_block (f4'.block t HF.out.1.lt NP.out.2.1)).trans K0.out.2)); clear u4 f4 f4')))
        go_wp2_with fail
        go_ret2
        rw [FIN.out.1, FIN.out.2.1, FIN.out.2.2.1, FIN.out.2.2.2]
        exact ⟨rfl, C4.out, D4.out⟩
      · have EP2 : Hid (Fx.reaP T S (n : Int) m = S) := Hid.intro (if_neg (fun d => by rw [Int.toNat_natCast] at d; exact k2 d.2))
        have FIN : Hid (Fx.reaE T F S (n : Int) m = Tr.reaE F ((T n).num : Int) ((T n).pos : Int) m ∧ Fx.reaV T F S (n : Int) m = Tr.reaS F ((T n).num : Int) ((T n).pos : Int) m) := Hid.intro ⟨by rw [DE, if_neg k3, if_neg k2], by rw [DV, if_neg k3, if_neg k2]⟩
        have ET : Fx.reaT T F (n : Int) m = if Tr.reaE F ((T n).num : Int) ((T n).pos : Int) m = 0 then Fx.put T n { T n with pos := (T n).pos + (Tr.reaS F ((T n).num : Int) ((T n).pos : Int) m).size } else T := by
          unfold Fx.reaT
          rw [Int.toNat_natCast]
          by_cases d : Tr.reaE F ((T n).num : Int) ((T n).pos : Int) m = 0
          · rw [if_pos d, if_pos ⟨c, k3, k2, d⟩]
          · rw [if_neg d, if_neg (fun e => d e.2.2.2)]
        have k3' : (((T n).kind : Int) == 3) = false := by simp; omega
        have k2' : (((T n).kind : Int) == 2) = false := by simp; omega
        have ZS : Hid ((Tr.reaS F ((T n).num : Int) ((T n).pos : Int) m).size ≤ 40) := Hid.intro (Tr.reaS_le hz _ _ _)
        have SP : Hid (∀ V, FX V t b p T F S → FX (V.setCell ⟨t, 2 + n * 5 + 3, none⟩ (.int .i64 (((T n).pos + (Tr.reaS F ((T n).num : Int) ((T n).pos : Int) m).size : Nat) : Int))) t b p (Fx.put T n { T n with pos := (T n).pos + (Tr.reaS F ((T n).num : Int) ((T n).pos : Int) m).size }) F S) := Hid.intro (fun V hV => hV.tb (hV.1.setPos n n24 _) ((Frm.refl t V).setCell _ _))
        generalize hTX : Fx.put T n { T n with pos := (T n).pos + (Tr.reaS F ((T n).num : Int) ((T n).pos : Int) m).size } = TX at ET SP
        clear hTX
        generalize (T n).kind = kd at *
        generalize (T n).num = nm at *
        generalize (T n).pos = ps at *
        have K0 := Hid.intro (And.intro cb (And.intro c1 c3))
        have TR := Hid.intro (tread_any b nm ps m F w.drew HF.out.2.1.drew hz)
        by_cases e0 : Tr.reaE F (nm : Int) (ps : Int) m = 0
        · rw [if_pos e0] at ET
          have EE := Hid.intro (And.intro e0 ET)
          generalize Tr.reaS F (nm : Int) (ps : Int) m = RS at *
          have ad : IntKind.i64.wrap ((ps : Int) + (RS.size : Int)) = ((ps + RS.size : Nat) : Int) := by
            have := ZS.out
            exact (IntWalk.i64_in _ ⟨by omega, by omega⟩).trans (by omega)
          clear h c hp hz hps DE DV k3 k2 c1 c3 cp cb e0 ET
          go_enter Tryz.func45, Tryz.ntmps45
          go_wp2_with fail
          refine (xfile_any t b p n T _ HF.out.1).mono ?_
          rintro e w1 ⟨rfl, hw1⟩
          subst w1
          rw [EP.out.1, EP.out.2, errV_zero]
          go_wp2_with fail
          go_region_held3 (fun w' => w'.cell? ⟨t, 0, none⟩ = some (.pointer (some ⟨b, 0, none⟩)) ∧ w'.cell? ⟨t, 2 + n * 5 + 1, none⟩ = some (.int .i64 (nm : Int)) ∧ w'.cell? ⟨t, 2 + n * 5 + 3, none⟩ = some (.int .i64 (ps : Int))) (first | exact K0.out | exact K4.out) ((first | (go_at_call 90; refine TR.out.mono ?_; rintro e w4 ⟨rfl, u4, b4⟩; have b4' : Below w.heap.size w w4 := ⟨b4.os, b4.tape, b4.output, b4.size, b4.block⟩; have C4 := Hid.intro (HF.out.below b4'); have D4 : Hid (Tri t b p w w4) := Hid.intro (Tri.below b4'); have K4 := Hid.intro (And.intro C4.out.1.fo (And.intro ((World.cell?_of_block (b4'.block t HF.out.1.lt)).trans K0.out.2.1) ((World.cell?_of_block (b4'.block t HF.out.1.lt)).trans K0.out.2.2))); clear u4 b4 b4'; rw [EE.out.1, errV_zero])))
          have x3 := K4.out.2.2
          have xf := C4.out.1.frozen
          have X5 := Hid.intro (SP.out _ C4.out)
          have D5 : Hid (Tri t b p w (w4.setCell ⟨t, 2 + n * 5 + 3, none⟩ (.int .i64 ((ps + RS.size : Nat) : Int)))) := Hid.intro (D4.out.trans (Tri.tb ((Frm.refl t w4).setCell _ _)))
          clear cf
          go_wp2_with fail
          go_ret2
          rw [FIN.out.1, FIN.out.2, EP2.out, EE.out.1, EE.out.2]
          exact ⟨rfl, X5.out, D5.out⟩
        · rw [if_neg e0] at ET
          have EE := Hid.intro (And.intro (errV_ne e0) ET)
          have VS : Hid (Tr.reaS F (nm : Int) (ps : Int) m = ⟨#[]⟩) := Hid.intro (by unfold Tr.reaS; rw [if_neg e0]; rfl)
          clear h c hp hz hps DE DV k3 k2 c1 c3 cp cb e0 ET SP ZS
          go_enter Tryz.func45, Tryz.ntmps45
          go_wp2_with fail
          refine (xfile_any t b p n T _ HF.out.1).mono ?_
          rintro e w1 ⟨rfl, hw1⟩
          subst w1
          rw [EP.out.1, EP.out.2, errV_zero]
          go_wp2_with fail
          go_region_held3 (fun w' => w'.cell? ⟨t, 0, none⟩ = some (.pointer (some ⟨b, 0, none⟩)) ∧ w'.cell? ⟨t, 2 + n * 5 + 1, none⟩ = some (.int .i64 (nm : Int)) ∧ w'.cell? ⟨t, 2 + n * 5 + 3, none⟩ = some (.int .i64 (ps : Int))) (first | exact K0.out | exact K4.out) ((first | (go_at_call 90; refine TR.out.mono ?_; rintro e w4 ⟨rfl, u4, b4⟩; have b4' : Below w.heap.size w w4 := ⟨b4.os, b4.tape, b4.output, b4.size, b4.block⟩; have C4 := Hid.intro (HF.out.below b4'); have D4 : Hid (Tri t b p w w4) := Hid.intro (Tri.below b4'); have K4 := Hid.intro (And.intro C4.out.1.fo (And.intro ((World.cell?_of_block (b4'.block t HF.out.1.lt)).trans K0.out.2.1) ((World.cell?_of_block (b4'.block t HF.out.1.lt)).trans K0.out.2.2))); clear u4 b4 b4'; rw [EE.out.1])))
          go_wp2_with fail
          go_ret2
          rw [FIN.out.1, FIN.out.2, EP2.out, EE.out.1, EE.out.2, VS.out]
          exact ⟨rfl, C4.out, D4.out⟩
  · have E2 : Hid (fptE t z (Fx.filE T z) = .pointer none ∧ errV (Fx.filE T z) = .iface 60 (.int .i64 (Fx.filE T z)) ∧ Fx.reaE T F S z m = Fx.filE T z ∧ Fx.reaV T F S z m = ⟨#[]⟩ ∧ Fx.reaT T F z m = T ∧ Fx.reaP T S z m = S) := Hid.intro ⟨fptE_no c, errV_ne c, if_pos c, if_pos c, if_neg (fun e => c e.1), if_neg (fun e => c e.1)⟩
    clear h c hp hz
    go_enter Tryz.func45, Tryz.ntmps45
    go_wp2_with fail
    refine (xfile_any t b p z T _ HF.out.1).mono ?_
    rintro e w1 ⟨rfl, hw1⟩
    subst w1
    rw [E2.out.1, E2.out.2.1]
    go_wp2_with fail
    go_ret2
    rw [E2.out.2.2.1, E2.out.2.2.2.1, E2.out.2.2.2.2.1, E2.out.2.2.2.2.2, E2.out.2.1]
    exact ⟨rfl, HF.out, Tri.refl _ _ _ _⟩
set_option maxRecDepth 100000 in
set_option maxHeartbeats 2000000 in
theorem xwrite_any (t b p : Nat) (z : Int) (s : ByteArray) (T : Nat → Fi) (F : Fo) (S : Nat → Pi) (w : World) (h : FX w t b p T F S) (hs : s.size < 2 ^ 59) (hp : Fx.Pz T) :
    Calls Tryz.prog 43 #[.pointer (some ⟨t, 0, none⟩), .int .i64 z, .string s] w fun e w' => e = .returned (.tuple #[.int .i64 (Fx.wriK T F S z s : Int), errV (Fx.wriE T F S z s)]) ∧ FX w' t b p (Fx.wriT T F z s) (Fx.wriF T F z s) (Fx.wriP T S z s) ∧ Tri t b p w w' := by
  have HF := Hid.intro h
  have HL := Hid.intro hs
  by_cases c : Fx.filE T z = 0
  · obtain ⟨n, rfl, n24, _⟩ := Fx.filE_ok c
    have EP : Hid (Fx.filE T (n : Int) = 0 ∧ fptE t (n : Int) 0 = .pointer (some ⟨t, 2 + n * 5, none⟩)) := Hid.intro ⟨c, fptE_ok t n⟩
    have hps := hp n n24
    have c0 := h.1.kind n n24
    have c1 := h.1.num n n24
    have c2 := h.1.wr n n24
    have c3 := h.1.pos n n24
    have cp := h.1.pi
    have cb := h.1.fo
    have cf := h.1.frozen
    have DE : Fx.wriE T F S (n : Int) s = if (T n).kind = 3 then Pp.wriE S ((T n).num : Int) s else if (T n).wr = false then 8 else Tr.wriE F ((T n).num : Int) ((T n).pos : Int) s := by unfold Fx.wriE; rw [if_neg (fun d => d c), Int.toNat_natCast]
    have DK : Fx.wriK T F S (n : Int) s = if (T n).kind = 3 then Pp.wriK S ((T n).num : Int) s else if (T n).wr = false then 0 else if Tr.wriE F ((T n).num : Int) ((T n).pos : Int) s = 0 then s.size else 0 := by unfold Fx.wriK; rw [if_neg (fun d => d c), Int.toNat_natCast]
    by_cases k3 : (T n).kind = 3
    · have nb : ¬ Fx.wriB T (n : Int) := fun d => by unfold Fx.wriB at d; rw [Int.toNat_natCast] at d; exact d.2.1 k3
      have FIN : Hid (Fx.wriE T F S (n : Int) s = Pp.wriE S ((T n).num : Int) s ∧ Fx.wriK T F S (n : Int) s = Pp.wriK S ((T n).num : Int) s ∧ Fx.wriT T F (n : Int) s = T ∧ Fx.wriF T F (n : Int) s = F ∧ Fx.wriP T S (n : Int) s = Pp.wriF S ((T n).num : Int) s) := Hid.intro ⟨by rw [DE, if_pos k3], by rw [DK, if_pos k3], if_neg (fun d => nb d.1), if_neg nb, by unfold Fx.wriP; rw [Int.toNat_natCast, if_pos ⟨c, k3⟩]⟩
      rw [k3] at c0
      have c0' : w.cell? ⟨t, 2 + n * 5, none⟩ = some (.int .i64 3) := c0
      generalize (T n).num = nm at *
      have K0 := Hid.intro (And.intro cp c1)
      have NP := Hid.intro h.2.2.2
      clear h c hp hs hps DE DK k3 nb c0 c1 c2 c3 cp cb
      go_enter Tryz.func43, Tryz.ntmps43
      go_wp2_with fail
      refine (xfile_any t b p n T _ HF.out.1).mono ?_
      rintro e w1 ⟨rfl, hw1⟩
      subst w1
      rw [EP.out.1, EP.out.2, errV_zero]
      go_wp2_with fail
      go_region_held3 (fun w' => w'.cell? ⟨t, 1, none⟩ = some (.pointer (some ⟨p, 0, none⟩)) ∧ w'.cell? ⟨t, 2 + n * 5 + 1, none⟩ = some (.int .i64 (nm : Int))) (first | exact K0.out | exact K4.out) ((first | (go_at_call 86; refine (pwrite_any p nm s S _ HF.out.2.2.1.drew (by have := HL.out; omega)).mono ?_; rintro e w4 ⟨rfl, u4, f4⟩; have f4' : Frm p w w4 := ⟨f4.os, f4.tape, f4.output, f4.size, f4.block⟩; have C4 := Hid.intro (HF.out.pi u4 f4'); have D4 : Hid (Tri t b p w w4) := Hid.intro (Tri.pi f4'); have K4 := Hid.intro (And.intro C4.out.1.pi ((World.cell?_of_block (f4'.block t HF.out.1.lt NP.out.2.1)).trans K0.out.2)); clear u4 f4 f4')))
      go_wp2_with fail
      go_ret2
      rw [FIN.out.1, FIN.out.2.1, FIN.out.2.2.1, FIN.out.2.2.2.1, FIN.out.2.2.2.2]
      exact ⟨rfl, C4.out, D4.out⟩
    · have k3' : (((T n).kind : Int) == 3) = false := by simp; omega
      have EP2 : Hid (Fx.wriP T S (n : Int) s = S) := Hid.intro (if_neg (fun d => by rw [Int.toNat_natCast] at d; exact k3 d.2))
      by_cases w0 : (T n).wr = false
      · have nb : ¬ Fx.wriB T (n : Int) := fun d => by unfold Fx.wriB at d; rw [Int.toNat_natCast, w0] at d; exact absurd d.2.2 (by decide)
        have FIN : Hid (Fx.wriE T F S (n : Int) s = 8 ∧ Fx.wriK T F S (n : Int) s = 0 ∧ Fx.wriT T F (n : Int) s = T ∧ Fx.wriF T F (n : Int) s = F) := Hid.intro ⟨by rw [DE, if_neg k3, if_pos w0], by rw [DK, if_neg k3, if_pos w0], if_neg (fun d => nb d.1), if_neg nb⟩
        rw [w0] at c2
        generalize (T n).kind = kd at *
        clear h c hp hs hps DE DK k3 nb w0 c1 c3 cp cb
        go_enter Tryz.func43, Tryz.ntmps43
        go_wp2_with fail
        refine (xfile_any t b p n T _ HF.out.1).mono ?_
        rintro e w1 ⟨rfl, hw1⟩
        subst w1
        rw [EP.out.1, EP.out.2, errV_zero]
        go_wp2_with fail
        go_ret2
        rw [FIN.out.1, FIN.out.2.1, FIN.out.2.2.1, FIN.out.2.2.2, EP2.out]
        exact ⟨rfl, HF.out, Tri.refl _ _ _ _⟩
      · have w1' : (T n).wr = true := by simpa using w0
        have yb : Fx.wriB T (n : Int) := by unfold Fx.wriB; rw [Int.toNat_natCast]; exact ⟨c, k3, w1'⟩
        have FIN : Hid (Fx.wriE T F S (n : Int) s = Tr.wriE F ((T n).num : Int) ((T n).pos : Int) s ∧ Fx.wriF T F (n : Int) s = Tr.wriF F ((T n).num : Int) ((T n).pos : Int) s) := Hid.intro ⟨by rw [DE, if_neg k3, if_neg w0], by unfold Fx.wriF; rw [if_pos yb, Int.toNat_natCast]⟩
        have DK2 : Fx.wriK T F S (n : Int) s = if Tr.wriE F ((T n).num : Int) ((T n).pos : Int) s = 0 then s.size else 0 := by rw [DK, if_neg k3, if_neg w0]
        have ET : Fx.wriT T F (n : Int) s = if Tr.wriE F ((T n).num : Int) ((T n).pos : Int) s = 0 then Fx.put T n { T n with pos := (T n).pos + s.size } else T := by
          unfold Fx.wriT
          rw [Int.toNat_natCast]
          by_cases d : Tr.wriE F ((T n).num : Int) ((T n).pos : Int) s = 0
          · rw [if_pos d, if_pos ⟨yb, d⟩]
          · rw [if_neg d, if_neg (fun e => d e.2)]
        have SP : Hid (∀ V G, FX V t b p T G S → FX (V.setCell ⟨t, 2 + n * 5 + 3, none⟩ (.int .i64 (((T n).pos + s.size : Nat) : Int))) t b p (Fx.put T n { T n with pos := (T n).pos + s.size }) G S) := Hid.intro (fun V G hV => hV.tb (hV.1.setPos n n24 _) ((Frm.refl t V).setCell _ _))
        generalize hTX : Fx.put T n { T n with pos := (T n).pos + s.size } = TX at ET SP
        clear hTX
        rw [w1'] at c2
        generalize (T n).kind = kd at *
        generalize (T n).num = nm at *
        generalize (T n).pos = ps at *
        have K0 := Hid.intro (And.intro cb (And.intro c1 c3))
        have NP := Hid.intro h.2.2.2
        have TW := Hid.intro (twrite_any b nm ps s F w.drew HF.out.2.1.drew (by omega))
        by_cases e0 : Tr.wriE F (nm : Int) (ps : Int) s = 0
        · rw [if_pos e0] at ET DK2
          have EE := Hid.intro (And.intro e0 (And.intro ET DK2))
          have ad : IntKind.i64.wrap ((ps : Int) + (s.size : Int)) = ((ps + s.size : Nat) : Int) := (IntWalk.i64_in _ ⟨by omega, by omega⟩).trans (by omega)
          clear h c hp hs hps DE DK DK2 k3 w0 w1' yb c1 c3 cp cb e0 ET
          go_enter Tryz.func43, Tryz.ntmps43
          go_wp2_with fail
          refine (xfile_any t b p n T _ HF.out.1).mono ?_
          rintro e w1 ⟨rfl, hw1⟩
          subst w1
          rw [EP.out.1, EP.out.2, errV_zero]
          go_wp2_with fail
          go_region_held3 (fun w' => w'.cell? ⟨t, 0, none⟩ = some (.pointer (some ⟨b, 0, none⟩)) ∧ w'.cell? ⟨t, 2 + n * 5 + 1, none⟩ = some (.int .i64 (nm : Int)) ∧ w'.cell? ⟨t, 2 + n * 5 + 3, none⟩ = some (.int .i64 (ps : Int))) (first | exact K0.out | exact K4.out) ((first | (go_at_call 87; refine TW.out.mono ?_; rintro e w4 ⟨rfl, u4, f4⟩; have f4' : Frm b w w4 := ⟨f4.os, f4.tape, f4.output, f4.size, f4.block⟩; have C4 := Hid.intro (HF.out.fo u4 f4'); have D4 : Hid (Tri t b p w w4) := Hid.intro (Tri.fo f4'); have K4 := Hid.intro (And.intro C4.out.1.fo (And.intro ((World.cell?_of_block (f4'.block t HF.out.1.lt NP.out.1)).trans K0.out.2.1) ((World.cell?_of_block (f4'.block t HF.out.1.lt NP.out.1)).trans K0.out.2.2))); clear u4 f4 f4'; rw [EE.out.1, errV_zero])))
          have x3 := K4.out.2.2
          have xf := C4.out.1.frozen
          have X5 := Hid.intro (SP.out _ _ C4.out)
          have D5 : Hid (Tri t b p w (w4.setCell ⟨t, 2 + n * 5 + 3, none⟩ (.int .i64 ((ps + s.size : Nat) : Int)))) := Hid.intro (D4.out.trans (Tri.tb ((Frm.refl t w4).setCell _ _)))
          clear cf
          go_wp2_with fail
          go_ret2
          rw [FIN.out.1, FIN.out.2, EP2.out, EE.out.1, EE.out.2.1, EE.out.2.2]
          exact ⟨rfl, X5.out, D5.out⟩
        · rw [if_neg e0] at ET DK2
          have EE := Hid.intro (And.intro (errV_ne e0) (And.intro ET DK2))
          clear h c hp hs hps DE DK DK2 k3 w0 w1' yb c1 c3 cp cb e0 ET SP
          go_enter Tryz.func43, Tryz.ntmps43
          go_wp2_with fail
          refine (xfile_any t b p n T _ HF.out.1).mono ?_
          rintro e w1 ⟨rfl, hw1⟩
          subst w1
          rw [EP.out.1, EP.out.2, errV_zero]
          go_wp2_with fail
          go_region_held3 (fun w' => w'.cell? ⟨t, 0, none⟩ = some (.pointer (some ⟨b, 0, none⟩)) ∧ w'.cell? ⟨t, 2 + n * 5 + 1, none⟩ = some (.int .i64 (nm : Int)) ∧ w'.cell? ⟨t, 2 + n * 5 + 3, none⟩ = some (.int .i64 (ps : Int))) (first | exact K0.out | exact K4.out) ((first | (go_at_call 87; refine TW.out.mono ?_; rintro e w4 ⟨rfl, u4, f4⟩; have f4' : Frm b w w4 := ⟨f4.os, f4.tape, f4.output, f4.size, f4.block⟩; have C4 := Hid.intro (HF.out.fo u4 f4'); have D4 : Hid (Tri t b p w w4) := Hid.intro (Tri.fo f4'); have K4 := Hid.intro (And.intro C4.out.1.fo (And.intro ((World.cell?_of_block (f4'.block t HF.out.1.lt NP.out.1)).trans K0.out.2.1) ((World.cell?_of_block (f4'.block t HF.out.1.lt NP.out.1)).trans K0.out.2.2))); clear u4 f4 f4'; rw [EE.out.1])))
          go_wp2_with fail
          go_ret2
          rw [FIN.out.1, FIN.out.2, EP2.out, EE.out.1, EE.out.2.1, EE.out.2.2]
          exact ⟨rfl, C4.out, D4.out⟩
  · have nb : ¬ Fx.wriB T z := fun d => c d.1
    have E2 : Hid (fptE t z (Fx.filE T z) = .pointer none ∧ errV (Fx.filE T z) = .iface 60 (.int .i64 (Fx.filE T z)) ∧ Fx.wriE T F S z s = Fx.filE T z ∧ Fx.wriK T F S z s = 0 ∧ Fx.wriT T F z s = T ∧ Fx.wriF T F z s = F ∧ Fx.wriP T S z s = S) := Hid.intro ⟨fptE_no c, errV_ne c, if_pos c, if_pos c, if_neg (fun e => nb e.1), if_neg nb, if_neg (fun e => c e.1)⟩
    clear h c hp hs nb
    go_enter Tryz.func43, Tryz.ntmps43
    go_wp2_with fail
    refine (xfile_any t b p z T _ HF.out.1).mono ?_
    rintro e w1 ⟨rfl, hw1⟩
    subst w1
    rw [E2.out.1, E2.out.2.1]
    go_wp2_with fail
    go_ret2
    rw [E2.out.2.2.1, E2.out.2.2.2.1, E2.out.2.2.2.2.1, E2.out.2.2.2.2.2.1, E2.out.2.2.2.2.2.2, E2.out.2.1]
    exact ⟨rfl, HF.out, Tri.refl _ _ _ _⟩
end Go.Proofs.YtghogbngmcolmaaGreat

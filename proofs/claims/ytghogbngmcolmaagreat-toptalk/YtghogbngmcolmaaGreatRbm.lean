import Derived.Deep.CutRange
import Derived.Deep.CutBlock
import Derived.Deep.DeepCutAuto
import Derived.Test.YtghogbngmcolmaaGreatRbl
namespace Go.Proofs.YtghogbngmcolmaaGreat
open Go.RowKit
open Fx (Fi)
open Tr (Fo Nd)
open Pp (Pi)
open Mo (Wh Mt)
open Mv (Me Bk)
open Kn (Pr Kp St us KB KJ VI EI KH TT)
namespace Kn
section
variable {N : Nat} {d : Nat → Nat} {k k' : Kp} {n : Nat} {t : ByteArray}
theorem TT.ends (h : TT k t) (kh : KH N d k) : Fx.filE k.fi 0 = 0 ∧ Fx.filE k.fi 1 = 0 ∧ (k.pi 0).reads ≠ 0 ∧ (k.pi 0).writes ≠ 0 ∧ Pp.opE k.pi 0 true = 0 ∧ Pp.opE k.pi 0 false = 0 := by
  obtain ⟨r0, r1⟩ := ends_op kh h.rc h.fd
  obtain ⟨e0, e1⟩ := ends_rw kh r0 r1 h.f0 h.f1
  have th : Pp.thr (k.pi 0) = true := by unfold Pp.thr; simp; omega
  have pe : Pp.pipE k.pi 0 = 0 := by unfold Pp.pipE; rw [if_neg (by omega)]; show (if Pp.thr (k.pi 0) = true then _ else _) = _; rw [if_pos th]
  refine ⟨?_, ?_, e0, e1, ?_, ?_⟩
  · unfold Fx.filE; rw [if_neg (by omega)]; exact if_neg r0
  · unfold Fx.filE; rw [if_neg (by omega)]; exact if_neg r1
  · unfold Pp.opE; rw [pe, if_neg (by decide)]; exact if_neg e1
  · unfold Pp.opE; rw [pe, if_neg (by decide)]; exact if_neg e0
theorem TT.put (h : TT k t) {x : ByteArray} (hx : x.size ≤ 12) : TT (fxK k k.fi k.fo (Pp.put k.pi 0 { k.pi 0 with tx := x })) x :=
  ⟨h.rc, h.fd, h.f0, h.f1, congrArg Pi.tx (Pp.put_same k.pi 0 { k.pi 0 with tx := x }), hx⟩
theorem TT.wri (h : TT k t) (kh : KH N d k) {z : Int} {s : ByteArray} {K : Nat} {E : Int} (w : WriTo k z 1 s K E k') : KH N d k' ∧ (E ≠ 0 → TT k' t) ∧ (E = 0 → K ≤ s.size ∧ TT k' (t ++ s.extract 0 K)) := by
  obtain ⟨_, q1, e0, e1, o1, _⟩ := h.ends kh
  rcases w with ⟨ne, _, eE, rfl⟩ | ⟨_, n, g, rfl, eg, hn, g6, l, eK, eE, w⟩
  · exact ⟨kh, fun _ => h, fun x => absurd (eE.symm.trans x) ne⟩
  · have eg' : g = 1 := by omega
    subst eg'
    have hh : (k.p n).has = true := kh.ki.vi.kj.lv n hn (fun x => x) (lv1.1 l)
    have fv := (h.fd n hn hh).2
    rw [fv] at eK eE w
    have wb : ¬ Fx.wriB k.fi 1 := fun x => x.2.1 h.f1.1
    have eE2 : E = if s.size ≠ 0 ∧ t.size = 12 then 13 else 0 := by
      rw [eE]
      unfold Fx.wriE
      rw [if_neg (fun x => x q1)]
      show (if (k.fi 1).kind = 3 then Pp.wriE k.pi ((k.fi 1).num : Int) s else _) = _
      rw [if_pos h.f1.1, h.f1.2]
      unfold Pp.wriE
      have o1' : Pp.opE k.pi ((0 : Nat) : Int) true = 0 := o1
      rw [o1', if_neg (fun x => x rfl), Int.toNat_natCast, if_neg e0, h.tx]
    have wx : wriX k 1 s = fxK k k.fi k.fo (Pp.wriF k.pi ((0 : Nat) : Int) s) := by
      unfold wriX
      have a : Fx.wriT k.fi k.fo 1 s = k.fi := if_neg (fun x => wb x.1)
      have b : Fx.wriF k.fi k.fo 1 s = k.fo := if_neg wb
      have c : Fx.wriP k.fi k.pi 1 s = Pp.wriF k.pi ((k.fi 1).num : Int) s := if_pos ⟨q1, h.f1.1⟩
      rw [a, b, c, h.f1.2]
    have kw := kh.wri 1 s
    have pe : Pp.wriE k.pi ((0 : Nat) : Int) s = E := by
      rw [eE2]
      unfold Pp.wriE
      have o1' : Pp.opE k.pi ((0 : Nat) : Int) true = 0 := o1
      rw [o1', if_neg (fun x => x rfl), Int.toNat_natCast, if_neg e0, h.tx]
    rcases w with ⟨_, rfl⟩ | ⟨e12, _⟩
    · refine ⟨kw, fun x => ?_, fun x => ?_⟩
      · rw [wx]
        have : Pp.wriF k.pi ((0 : Nat) : Int) s = k.pi := if_neg (by rw [pe]; exact x)
        rw [this]; exact ⟨h.rc, h.fd, h.f0, h.f1, h.tx, h.sz⟩
      · have pk : Pp.wriK k.pi ((0 : Nat) : Int) s = min s.size (12 - t.size) := by
          unfold Pp.wriK
          rw [if_pos (pe.trans x), Int.toNat_natCast, h.tx]
        have eK2 : K = min s.size (12 - t.size) := by
          rw [eK]
          unfold Fx.wriK
          rw [if_neg (fun x => x q1)]
          show (if (k.fi 1).kind = 3 then Pp.wriK k.pi ((k.fi 1).num : Int) s else _) = _
          rw [if_pos h.f1.1, h.f1.2, pk]
        refine ⟨by omega, ?_⟩
        rw [wx]
        have : Pp.wriF k.pi ((0 : Nat) : Int) s = Pp.put k.pi 0 { k.pi 0 with tx := t ++ s.extract 0 K } := by
          unfold Pp.wriF
          rw [if_pos (pe.trans x), Int.toNat_natCast, pk, ← eK2, h.tx]
        rw [this]
        refine h.put ?_
        rw [ByteArray.size_append, ByteArray.size_extract]
        have := h.sz
        omega
    · rw [eE2] at e12
      split at e12 <;> omega
theorem TT.rea (h : TT k t) (kh : KH N d k) (z m : Int) : (nreaE k z 0 m ≠ 0 → TT (nreaK k z 0 m) t) ∧ (nreaE k z 0 m = 0 → ∃ j, j ≤ t.size ∧ nreaV k z 0 m = t.extract 0 j ∧ TT (nreaK k z 0 m) (t.extract j t.size)) := by
  obtain ⟨q0, _, e0, e1, _, o0⟩ := h.ends kh
  unfold nreaE nreaV nreaK
  by_cases c : numE k z 0 = 0
  · rw [if_pos c, if_pos c, if_pos c]
    obtain ⟨n, g, rfl, eg, hn, g6, l, _⟩ := numE_ok c
    have hh : (k.p n).has = true := kh.ki.vi.kj.lv n hn (fun x => x) (lv1.1 l)
    have fv : nfd k (n : Int) 0 = 0 := by have := nfd_nat k n 0; rw [show ((0 : Nat) : Int) = 0 from rfl] at this; rw [this, (h.fd n hn hh).1]
    rw [fv]
    have rE : Fx.reaE k.fi k.fo k.pi 0 m = Pp.reaE k.pi ((0 : Nat) : Int) m := by
      unfold Fx.reaE
      rw [if_neg (fun x => x q0)]
      show (if (k.fi 0).kind = 3 then _ else if (k.fi 0).kind = 2 then Pp.reaE k.pi ((k.fi 0).num : Int) m else _) = _
      rw [h.f0.1, if_neg (by decide), if_pos rfl, h.f0.2]
    have rV : Fx.reaV k.fi k.fo k.pi 0 m = Pp.reaT k.pi ((0 : Nat) : Int) m := by
      unfold Fx.reaV
      rw [if_neg (fun x => x q0)]
      show (if (k.fi 0).kind = 3 then _ else if (k.fi 0).kind = 2 then Pp.reaT k.pi ((k.fi 0).num : Int) m else _) = _
      rw [h.f0.1, if_neg (by decide), if_pos rfl, h.f0.2]
    have rT : Fx.reaT k.fi k.fo 0 m = k.fi := if_neg (fun x => x.2.2.1 h.f0.1)
    have rP : Fx.reaP k.fi k.pi 0 m = Pp.reaF k.pi ((0 : Nat) : Int) m := by
      have a : Fx.reaP k.fi k.pi 0 m = Pp.reaF k.pi ((k.fi 0).num : Int) m := if_pos ⟨q0, h.f0.1⟩
      rw [a, h.f0.2]
    rw [rE, rV, rT, rP]
    refine ⟨fun x => ?_, fun x => ?_⟩
    · have : Pp.reaF k.pi ((0 : Nat) : Int) m = k.pi := if_neg x
      rw [this]; exact ⟨h.rc, h.fd, h.f0, h.f1, h.tx, h.sz⟩
    · refine ⟨min m.toNat t.size, by omega, ?_, ?_⟩
      · unfold Pp.reaT
        rw [if_pos x, Int.toNat_natCast, h.tx]
      · have : Pp.reaF k.pi ((0 : Nat) : Int) m = Pp.put k.pi 0 { k.pi 0 with tx := t.extract (min m.toNat t.size) t.size } := by
          unfold Pp.reaF
          rw [if_pos x, Int.toNat_natCast, h.tx]
        rw [this]
        refine h.put ?_
        rw [ByteArray.size_extract]
        have := h.sz
        omega
  · rw [if_neg c, if_neg c, if_neg c]
    exact ⟨fun _ => h, fun x => absurd x c⟩
end
end Kn
set_option maxRecDepth 100000 in
set_option maxHeartbeats 400000 in
theorem few_light (a : Option Addr) (b o n c : Nat) (m : Int) (ax : Nat → Act8) (w : World) (hn : (n : Int) ≤ m) (hm : n ≤ 1000) (ha : 0 < n → a = some ⟨b, o, none⟩) (h : ∀ i, i < n → ∀ j, j < 8 → w.cell? ⟨b, o + i * 8 + j, none⟩ = some ((ax i).cell j)) :
    Calls Tryz.prog 8 #[.slice a n c, .int .i64 m] w fun e w' => ∃ v : Bool, e = .returned (.bool v) ∧ LightTo ax n 80 (.bool v) ∧ w' = w := by
  have d : decide ((n : Int) ≤ m) = true := by simp; omega
  have LT := Hid.intro (lightT_any a b o n c 80 ax w hm ha h)
  clear h ha
  go_enter Tryz.func8, Tryz.ntmps8
  go_wp2_with fail
  refine (light_any _ _ _ _ _).mono ?_
  rintro e w1 ⟨rfl, hw⟩
  subst w1
  rw [d]
  go_wp2_with fail
  refine LT.out.mono ?_
  rintro e w1 ⟨v, rfl, ht, hw⟩
  subst w1
  have HT := Hid.intro ht
  rcases ht with rfl | ⟨rfl, _⟩
  · go_wp2_with fail
    go_ret
    exact ⟨false, rfl, HT.out, rfl⟩
  · go_wp2_with fail
    go_ret
    exact ⟨true, rfl, HT.out, rfl⟩
end Go.Proofs.YtghogbngmcolmaaGreat
namespace Go.Proofs.YtghogbngmcolmaaGreat
open Go.RowKit
open Fx (Fi)
open Tr (Fo Nd)
open Pp (Pi)
open Mo (Wh Mt)
open Mv (Me Bk)
open Kn (Pr Kp St us KB KJ VI EI KH TT)
theorem Kn.ext_app (o T : ByteArray) : (o ++ T).extract 0 o.size = o := by
  rw [ByteArray.extract_append, ByteArray.extract_zero_size, Nat.zero_sub, Nat.sub_self, ByteArray.extract_same, ByteArray.append_empty]
theorem Kn.ext_two (T : ByteArray) (k : Nat) (h : k ≤ T.size) : T.extract 0 k ++ T.extract k T.size = T := by
  rw [ByteArray.extract_append_extract, Nat.zero_min, Nat.max_eq_right h, ByteArray.extract_zero_size]
structure TTS (w : World) (kb N : Nat) (d : Nat → Nat) (s : St) (V O T : ByteArray) (W : World) : Prop where
  bel : Below w.heap.size w W
  kk : KKt W w.heap.size s
  kh : KH N d s.k
  tt : TT s.k T
  a0 : s.A 0 = kb
  io : V = O ++ T
section
variable {w W W' : World} {kb N N' : Nat} {d d' : Nat → Nat} {s s' : St} {V O T V' O' T' : ByteArray}
theorem TTS.below (h : TTS w kb N d s V O T W) (k : Below W.heap.size W W') : TTS w kb N d s V O T W' := ⟨h.bel.trans (k.mono h.bel.size), h.kk.below k, h.kh, h.tt, h.a0, h.io⟩
theorem TTS.step (h : TTS w kb N d s V O T W) (k : KKt W' w.heap.size s') (f : KF s W s' W') (kh : KH N' d' s'.k) (tt : TT s'.k T') (io : V' = O' ++ T') : TTS w kb N' d' s' V' O' T' W' :=
  ⟨f.behind h.kk h.bel (Nat.le_refl _) h.bel.size, k, kh, tt, f.a0.trans h.a0, io⟩
end
set_option maxRecDepth 100000 in
set_option maxHeartbeats 1000000 in
theorem ttk_far (a0 : Option Addr) (n0 c0 : Nat) (w : World) (h : 150 < n0) :
    Calls Tryz.prog 3 #[.slice a0 n0 c0] w fun e w' => e = .returned (.bool true) ∧ Below w.heap.size w w' := by
  go_enter Tryz.func3, Tryz.ntmps3
  go_wp2_with fail
  refine (kbegun_any _).mono ?_
  rintro e w1 ⟨s, rfl, bg, kh, kk, b1⟩
  have S1 := Hid.intro (And.intro bg (And.intro kh (And.intro kk b1)))
  have PI1 := Hid.intro (knpipe_any w.heap.size s w1 0 kk)
  clear bg kh kk b1
  obtain ⟨kb, hkb⟩ : ∃ kb, s.A 0 = kb := ⟨_, rfl⟩
  have HK := Hid.intro hkb
  rw [hkb] at PI1 ⊢
  clear hkb
  go_wp2_with fail
  refine PI1.out.mono ?_
  rintro e w2 ⟨A, C, E, k', rfl, np, k2, f2⟩
  obtain ⟨rfl, rfl, rfl, tt⟩ := TT.beg S1.out.1 S1.out.2.1 np
  have B2 := Hid.intro (f2.behind S1.out.2.2.1 S1.out.2.2.2 (Nat.le_refl _) S1.out.2.2.2.size)
  rw [errV_zero]
  clear np k2 f2 tt
  go_wp2_with fail
  refine (few_far _ _ _ _ _ (by omega)).mono ?_
  rintro e w3 ⟨rfl, hw⟩
  subst w3
  go_wp2_with fail
  go_ret
  exact ⟨rfl, B2.out⟩
set_option maxRecDepth 100000 in
set_option maxHeartbeats 8000000 in
theorem ttk_near (a0 : Option Addr) (b0 o0 n0 c0 : Nat) (ax : Nat → Act8) (w : World) (hn : n0 ≤ 150) (ha : 0 < n0 → a0 = some ⟨b0, o0, none⟩) (hc : ∀ i, i < n0 → ∀ j, j < 8 → w.cell? ⟨b0, o0 + i * 8 + j, none⟩ = some ((ax i).cell j)) :
    Calls Tryz.prog 3 #[.slice a0 n0 c0] w fun e w' => e = .returned (.bool true) ∧ Below w.heap.size w w' := by
  have H0 := Hid.intro (And.intro ha hc)
  clear ha hc
  go_enter Tryz.func3, Tryz.ntmps3
  go_wp2_with fail
  refine (kbegun_any _).mono ?_
  rintro e w1 ⟨s, rfl, bg, kh, kk, b1⟩
  have S1 := Hid.intro (And.intro bg (And.intro kh (And.intro kk b1)))
  have PI1 := Hid.intro (knpipe_any w.heap.size s w1 0 kk)
  clear bg kh kk b1
  obtain ⟨kb, hkb⟩ : ∃ kb, s.A 0 = kb := ⟨_, rfl⟩
  have HK := Hid.intro hkb
  rw [hkb] at PI1 ⊢
  clear hkb
  go_wp2_with fail
  refine PI1.out.mono ?_
  rintro e w2 ⟨A, C, E, k', rfl, np, k2, f2⟩
  obtain ⟨rfl, rfl, rfl, tt⟩ := TT.beg S1.out.1 S1.out.2.1 np
  have S2 : Hid (TTS w kb 3 (fun _ => 1) { s with k := k' } ⟨#[]⟩ ⟨#[]⟩ ⟨#[]⟩ w2) := Hid.intro ⟨f2.behind S1.out.2.2.1 S1.out.2.2.2 (Nat.le_refl _) S1.out.2.2.2.size, k2, S1.out.2.1.pip np, tt, HK.out, rfl⟩
  rw [errV_zero]
  have FW : Hid (Calls Tryz.prog 8 #[.slice a0 n0 c0, .int .i64 150] w2 fun e w' => ∃ v : Bool, e = .returned (.bool v) ∧ LightTo ax n0 80 (.bool v) ∧ w' = w2) := Hid.intro (few_light a0 b0 o0 n0 c0 150 ax w2 (by omega) (by omega) H0.out.1 (fun i hi j hj => by
    have bl : b0 < w.heap.size := World.block_lt_of_cell? _ _ (H0.out.2 i hi j hj)
    exact (S2.out.bel.cell (p := ⟨b0, o0 + i * 8 + j, none⟩) bl).trans (H0.out.2 i hi j hj)))
  clear np k2 f2 tt S1 PI1 HK
  go_wp2_with fail
  refine FW.out.mono ?_
  rintro e w3 ⟨v, rfl, lt, hw⟩
  subst w3
  cases v
  · go_wp2_with fail
    go_ret
    exact ⟨rfl, S2.out.bel⟩
  · have HLT : Hid (∀ i, i < n0 → ((ax i).s.size : Int) ≤ 80) := Hid.intro (by
      rcases lt with x | x
      · cases x
      · exact fun i hi => (x.2 i hi).1)
    clear lt FW
    go_wp2_with fail
    go_loopw [8, 9, 10] (fun iv ov i wr => ∃ (k : Nat) (s : St) (N : Nat) (d : Nat → Nat) (V O T : ByteArray), i = .int .i64 k ∧ iv = .string V ∧ ov = .string O ∧ k ≤ n0 ∧ N ≤ 3 + 2 * k ∧ V.size ≤ 80 * k ∧ Hid (TTS w kb N d s V O T wr)) (fun _ _ i _ => n0 - (intOf i).toNat)
    case atStart => exact ⟨0, _, 3, _, _, _, _, rfl, rfl, rfl, by omega, by omega, Nat.zero_le _, S2⟩
    case round =>
      clear S2
      obtain ⟨k, s, N, d, V, O, T, rfl, rfl, rfl, hk, hN, hV, S⟩ := hrel
      by_cases hlt : k < n0
      · have hltI : (k : Int) < (n0 : Int) := by omega
        have N9 : Hid (N ≤ 400) := Hid.intro (by omega)
        have HN := Hid.intro hN
        have HVS := Hid.intro hV
        have hae := H0.out.1 (by omega)
        subst hae
        have hc := H0.out.2
        have hl := HLT.out k hlt
        obtain ⟨kd, A, Q, R, K, On, S1, T1, hax⟩ : ∃ kd A B C K On S1 T1, ax k = ⟨kd, A, B, C, K, On, S1, T1⟩ := ⟨_, _, _, _, _, _, _, _, rfl⟩
        rw [hax] at hl
        have HL : Hid (S1.size ≤ 80) := Hid.intro (by have : (S1.size : Int) ≤ 80 := hl; omega)
        have bl : b0 < w.heap.size := World.block_lt_of_cell? _ _ (hc k hlt 0 (by omega))
        have cl : ∀ j, j < 8 → wr.cell? ⟨b0, o0 + k * 8 + j, none⟩ = some ((⟨kd, A, Q, R, K, On, S1, T1⟩ : Act8).cell j) := fun j hj => by
          rw [← hax]; exact (S.out.bel.cell (p := ⟨b0, o0 + k * 8 + j, none⟩) bl).trans (hc k hlt j hj)
        have q0 : wr.cell? ⟨b0, o0 + k * 8, none⟩ = some (.string kd) := cl 0 (by omega)
        have q1 : wr.cell? ⟨b0, o0 + k * 8 + 1, none⟩ = some (.int .i64 A) := cl 1 (by omega)
        have q2 : wr.cell? ⟨b0, o0 + k * 8 + 2, none⟩ = some (.int .i64 Q) := cl 2 (by omega)
        have q3 : wr.cell? ⟨b0, o0 + k * 8 + 3, none⟩ = some (.int .i64 R) := cl 3 (by omega)
        have q4 : wr.cell? ⟨b0, o0 + k * 8 + 4, none⟩ = some (.int .u64 K) := cl 4 (by omega)
        have q5 : wr.cell? ⟨b0, o0 + k * 8 + 5, none⟩ = some (.bool On) := cl 5 (by omega)
        have q6 : wr.cell? ⟨b0, o0 + k * 8 + 6, none⟩ = some (.string S1) := cl 6 (by omega)
        have q7 : wr.cell? ⟨b0, o0 + k * 8 + 7, none⟩ = some (.string T1) := cl 7 (by omega)
        clear cl hax bl hc hN hl hV
        go_upto_region 15 with fail
        have bb : Hid (Below wr.heap.size wr (wr.alloc (.cells #[.string kd, .int .i64 A, .int .i64 Q, .int .i64 R, .int .u64 K, .bool On, .string S1, .string T1] 33)) ∧ w.heap.size ≤ wr.heap.size) := Hid.intro ⟨(Below.refl _ _).alloc (Nat.le_refl _) _, S.out.bel.size⟩
        refine wp_gen (fun W' => (TTS w kb N d s V O T W' ∧ ¬ KB s wr.heap.size) ∧ W'.heap[wr.heap.size]? = some (.cells #[.string kd, .int .i64 A, .int .i64 Q, .int .i64 R, .int .u64 K, .bool On, .string S1, .string T1] 33 (0, 0))) ⟨⟨S.out.below bb.out.1, S.out.kk.not_new (Nat.le_refl _)⟩, heap_alloc_new wr _⟩ ?_
        rintro W3 ⟨hS3, hbx⟩
        clear q0 q1 q2 q3 q4 q5 q6 q7 S bb
        generalize wr.heap.size = ba at *
        have S3 := Hid.intro hS3
        have LB := Hid.intro (Array.getElem?_eq_some_iff.1 hbx).1
        have x0 := act_cells hbx 0 _ rfl
        have x1 := act_cells hbx 1 _ rfl
        have x2 := act_cells hbx 2 _ rfl
        have x3 := act_cells hbx 3 _ rfl
        have x5 := act_cells hbx 5 _ rfl
        have x6 := act_cells hbx 6 _ rfl
        have ACT : Hid (∀ W' s', KF s W3 s' W' → W'.cell? ⟨ba, 6, none⟩ = some (.string S1)) := Hid.intro (fun W' s' f => by
          have e := f.keep LB.out hS3.2
          exact (World.cell?_of_block e).trans x6)
        clear hS3 hbx
        go_upto_block 2 with fail
        go_cut [8, 9, 11, 12, 13, 14, 15] from 41 to 147 (fun iv ov _ _ _ _ _ wc => ∃ (s' : St) (N' : Nat) (d' : Nat → Nat) (V' O' T' : ByteArray), iv = .string V' ∧ ov = .string O' ∧ N' ≤ 3 + 2 * (k + 1) ∧ V'.size ≤ 80 * (k + 1) ∧ Hid (TTS w kb N' d' s' V' O' T' wc))
        case first =>
          have Iqq := Hid.intro S3.out.1.io
          by_cases t1 : (kd.toList == [102, 111, 114, 107]) = true
          · as_aux_lemma =>
            have FK := Hid.intro (kfork_any w.heap.size N d s W3 (by have := N9.out; omega) A On S3.out.1.kk S3.out.1.bel.size S3.out.1.kh.ki.vi)
            rw [S3.out.1.a0] at FK
            go_wp2_with fail
            refine FK.out.mono ?_
            rintro e w5 ⟨p, E, s', rfl, ft, k5, f5⟩
            obtain ⟨d', kh'⟩ := S3.out.1.kh.fork ft
            have S5 := Hid.intro (S3.out.1.step k5 f5 kh' (S3.out.1.tt.fork S3.out.1.kh ft) Iqq.out)
            clear kh' k5 f5 ft FK
            go_wp2_with fail
            go_meet
            case rel => exact ⟨s', N + 2, d', V, O, T, rfl, rfl, by have := HN.out; omega, by have := HVS.out; omega, S5⟩
          · have t1 : (kd.toList == [102, 111, 114, 107]) = false := by simpa using t1
            by_cases t2 : (kd.toList == [101, 120, 105, 116]) = true
            · as_aux_lemma =>
              have EX := Hid.intro (kexit_any w.heap.size N d s W3 (by have := N9.out; omega) A Q S3.out.1.kk S3.out.1.kh.ki)
              rw [S3.out.1.a0] at EX
              go_wp2_with fail
              refine EX.out.mono ?_
              rintro e w5 ⟨k', rfl, et, k5, f5⟩
              have kh' := S3.out.1.kh.exit et
              have S5 := Hid.intro (S3.out.1.step (s' := { s with k := k' }) k5 f5 kh' (S3.out.1.tt.qd S3.out.1.kh kh' (et.qd S3.out.1.kh.hx)) Iqq.out)
              clear kh' k5 f5 et EX
              go_wp2_with fail
              go_meet
              case rel => exact ⟨_, N, d, V, O, T, rfl, rfl, by have := HN.out; omega, by have := HVS.out; omega, S5⟩
            · have t2 : (kd.toList == [101, 120, 105, 116]) = false := by simpa using t2
              by_cases t3 : (kd.toList == [119, 97, 105, 116]) = true
              · as_aux_lemma =>
                have WT := Hid.intro (kwait_any w.heap.size N d s W3 (by have := N9.out; omega) A S3.out.1.kk S3.out.1.kh.ki.vi S3.out.1.kh.p0)
                rw [S3.out.1.a0] at WT
                go_wp2_with fail
                refine WT.out.mono ?_
                rintro e w5 ⟨p, c, E, k', rfl, wt, k5, f5⟩
                have kh' := S3.out.1.kh.wait wt
                have S5 := Hid.intro (S3.out.1.step (s' := { s with k := k' }) k5 f5 kh' (S3.out.1.tt.qd S3.out.1.kh kh' (wt.qd S3.out.1.kh.hx)) Iqq.out)
                clear kh' k5 f5 wt WT
                go_wp2_with fail
                go_meet
                case rel => exact ⟨_, N, d, V, O, T, rfl, rfl, by have := HN.out; omega, by have := HVS.out; omega, S5⟩
              · have t3 : (kd.toList == [119, 97, 105, 116]) = false := by simpa using t3
                by_cases t4 : (kd.toList == [119, 114, 105, 116, 101]) = true
                · as_aux_lemma =>
                  have WR := Hid.intro (knwrite_any w.heap.size N d s W3 (by have := N9.out; omega) A 1 S1 S3.out.1.kk (by have := HL.out; omega) S3.out.1.kh.ki.vi.kj.wx.pz (fun _ => (S3.out.1.kh.wri _ _).ki))
                  rw [S3.out.1.a0] at WR
                  go_wp2_with fail
                  refine WR.out.mono ?_
                  rintro e w5 ⟨M, E, k', rfl, wt, k5, f5⟩
                  have xx := ACT.out w5 _ f5
                  obtain ⟨kh', tn, ty⟩ := S3.out.1.tt.wri S3.out.1.kh wt
                  by_cases e0 : E = 0
                  · obtain ⟨mS, tt'⟩ := ty e0
                    have S5 := Hid.intro (S3.out.1.step (s' := { s with k := k' }) (V' := V ++ S1.extract 0 M) (O' := O) k5 f5 kh' tt' (by rw [← ByteArray.append_assoc, ← Iqq.out]))
                    have e1 : (S1.extract 0 M).size = M := by rw [ByteArray.size_extract]; omega
                    have sz := HVS.out
                    have hS1 := HL.out
                    have NS : Hid ((V ++ S1.extract 0 M).size ≤ 80 * (k + 1)) := Hid.intro (by rw [ByteArray.size_append, e1]; omega)
                    rw [e0, errV_zero]
                    have q2 : ¬ (S1.size : Int) < (M : Int) := by omega
                    have q3 : (M : Int) ≤ (S1.size : Int) := by omega
                    have mk : min M S1.size = M := by omega
                    have lim : ¬ 9223372036854775807 < V.size + M := by omega
                    clear tn ty tt' kh' k5 f5 wt WR e0 sz hS1 e1 mS x0 x1 x2 x3 x5 x6
                    go_wp2_with fail
                    go_meet
                    case rel => exact ⟨_, N, d, V ++ S1.extract 0 M, O, _, rfl, rfl, by have := HN.out; omega, NS.out, S5⟩
                  · have S5 := Hid.intro (S3.out.1.step (s' := { s with k := k' }) k5 f5 kh' (tn e0) Iqq.out)
                    rw [errV_ne e0]
                    clear tn ty kh' k5 f5 wt WR e0 xx
                    go_wp2_with fail
                    go_meet
                    case rel => exact ⟨_, N, d, V, O, T, rfl, rfl, by have := HN.out; omega, by have := HVS.out; omega, S5⟩
                · have t4 : (kd.toList == [119, 114, 105, 116, 101]) = false := by simpa using t4
                  by_cases t5 : (kd.toList == [114, 101, 97, 100]) = true
                  · as_aux_lemma =>
                    have RD := Hid.intro (knread_any w.heap.size s W3 A 0 R S3.out.1.kk S3.out.1.kh.ki.vi.kj.ok.fz S3.out.1.kh.ki.vi.kj.wx.pz)
                    rw [S3.out.1.a0] at RD
                    go_wp2_with fail
                    refine RD.out.mono ?_
                    rintro e w5 ⟨rfl, k5, f5⟩
                    obtain ⟨tn, ty⟩ := S3.out.1.tt.rea S3.out.1.kh A R
                    have kh' := S3.out.1.kh.rea A 0 R
                    generalize Kn.nreaK s.k A 0 R = k' at *
                    generalize Kn.nreaE s.k A 0 R = E at *
                    by_cases e0 : E = 0
                    · obtain ⟨j, jT, ev, tt'⟩ := ty e0
                      have S5 := Hid.intro (S3.out.1.step (s' := { s with k := k' }) (V' := V) (O' := O ++ T.extract 0 j) k5 f5 kh' tt' (by rw [ByteArray.append_assoc, Kn.ext_two T j jT]; exact Iqq.out))
                      have sV : V.size = O.size + T.size := by rw [Iqq.out, ByteArray.size_append]
                      have e1 : (T.extract 0 j).size = j := by rw [ByteArray.size_extract]; omega
                      have sz := HVS.out
                      rw [e0, errV_zero, ev]
                      have mk : min j T.size = j := by omega
                      have lim : ¬ 9223372036854775807 < O.size + j := by omega
                      clear tn ty tt' kh' k5 f5 RD e0 sz e1 ev sV jT x0 x1 x2 x3 x5 x6
                      go_wp2_with fail
                      go_meet
                      case rel => exact ⟨_, N, d, V, O ++ T.extract 0 j, _, rfl, rfl, by have := HN.out; omega, by have := HVS.out; omega, S5⟩
                    · have S5 := Hid.intro (S3.out.1.step (s' := { s with k := k' }) k5 f5 kh' (tn e0) Iqq.out)
                      rw [errV_ne e0]
                      clear tn ty kh' k5 f5 RD e0
                      go_wp2_with fail
                      go_meet
                      case rel => exact ⟨_, N, d, V, O, T, rfl, rfl, by have := HN.out; omega, by have := HVS.out; omega, S5⟩
                  · as_aux_lemma =>
                    have t5 : (kd.toList == [114, 101, 97, 100]) = false := by simpa using t5
                    go_wp2_with fail
                    go_meet
                    case rel => exact ⟨s, N, d, V, O, T, rfl, rfl, by have := HN.out; omega, by have := HVS.out; omega, Hid.intro S3.out.1⟩
        obtain ⟨s', N', d', V', O', T', rfl, rfl, hN', hV', S5⟩ := hcut
        clear S3 ACT x0 x1 x2 x3 x5 x6 LB N9 HN
        have HN' := Hid.intro (And.intro hN' hV')
        have h12 := S5.out.tt.sz
        have sV : V'.size = O'.size + T'.size := by rw [S5.out.io, ByteArray.size_append]
        have xI : V'.extract 0 O'.size = O' := by rw [S5.out.io]; exact Kn.ext_app _ _
        have g1 : ¬ (V'.size : Int) < (O'.size : Int) := by omega
        have g2 : IntKind.i64.wrap ((V'.size : Int) - (O'.size : Int)) = (V'.size : Int) - (O'.size : Int) := IntWalk.i64_in _ ⟨by omega, by omega⟩
        have g3 : ¬ 12 < (V'.size : Int) - (O'.size : Int) := by omega
        have g4 : (O'.size : Int) ≤ (V'.size : Int) := by omega
        clear hN' hV' h12 sV
        go_wp2_with fail
        go_roundw
        case rel => exact ⟨k + 1, s', N', d', V', O', T', by go_num, rfl, rfl, by omega, HN'.out.1, HN'.out.2, S5⟩
        case measure => simp [intOf]; omega
      · obtain rfl : k = n0 := by omega
        go_wp2_with fail
        go_ret
        exact ⟨rfl, S.out.bel⟩
theorem ttk_any (a : Option Addr) (len cap : Nat) (w : World) (h : IsActs0 w a len) :
    Calls Tryz.prog 3 #[.slice a len cap] w fun e w' => e = .returned (.bool true) ∧ Below w.heap.size w w' := by
  by_cases hf : 150 < len
  · exact ttk_far a len cap w hf
  · by_cases h0 : len = 0
    · subst h0
      exact ttk_near a 0 0 0 cap (fun _ => ⟨⟨#[]⟩, 0, 0, 0, 0, false, ⟨#[]⟩, ⟨#[]⟩⟩) w (by omega) (fun c => absurd c (by omega)) (fun i hi => absurd hi (by omega))
    · obtain ⟨b, o, ax, ha, hc⟩ := h.2 (by omega)
      exact ttk_near a b o len cap ax w (by omega) (fun _ => ha) hc
end Go.Proofs.YtghogbngmcolmaaGreat

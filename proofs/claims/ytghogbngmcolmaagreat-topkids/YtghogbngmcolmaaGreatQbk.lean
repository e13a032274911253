import Derived.Test.YtghogbngmcolmaaGreatQbj
namespace Go.Proofs.YtghogbngmcolmaaGreat
open Go.RowKit
open Tr (Fo Nd)
open Mo (Wh Mt)
open Mv (Me Bk)
open Kn (Pr Kp St us KB KJ VI EI)
theorem TAt.low {w : World} {B base b f : Nat} {T : Mo.Tb} {v : Value} (h : TAt w B b f T v) (hB : base ≤ B) : TAt w base b f T v := by
  refine ⟨h.blk, ⟨h.row.1, ?_⟩, h.six⟩
  rcases h.row.2 with q | ⟨g, cap, cur, e, hb, r⟩
  · exact .inl q
  · exact .inr ⟨g, cap, cur, e, Nat.le_trans hB hb, r⟩
def Kn.homE (k : Kp) (n : Nat) (own : Bool) : Int := if own = true then Sp.addE k.sp ((Sp.inN k.sp (n : Int) : Nat) : Int) else 0
def Kn.homN (k : Kp) (n : Nat) (own : Bool) : Nat := if own = true then Sp.addN k.sp ((Sp.inN k.sp (n : Int) : Nat) : Int) else Sp.inN k.sp (n : Int)
def Kn.homK (k : Kp) (n : Nat) (own : Bool) : Kp := if own = true ∧ Kn.homE k n own = 0 then { k with sp := Sp.addT k.sp ((Sp.inN k.sp (n : Int) : Nat) : Int), fo := Mo.hoA k.fo (k.tb (Sp.inN k.sp (n : Int))), ht := fun i => if i = Kn.homN k n own then true else k.ht i, tb := fun i => if i = Kn.homN k n own then k.tb (Sp.inN k.sp (n : Int)) else k.tb i } else k
section
variable (base N : Nat) (d : Nat → Nat) (s : St) (w : World)
set_option maxRecDepth 100000 in
set_option maxHeartbeats 2000000 in
theorem khome_any (n z : Nat) (own : Bool) (h : KKt w base s) (hb : base ≤ w.heap.size) (hv : VI (fun _ => False) N d s.k) (hn : n < 20) (ho : s.k.sp.of n = z + 1) :
    Calls Tryz.prog 32 #[.pointer (some ⟨s.A 0, 0, none⟩), .int .i64 n, .bool own] w fun e w' => ∃ s', e = .returned (.tuple #[.int .i64 (Kn.homN s.k n own : Int), errV (Kn.homE s.k n own)]) ∧ s'.k = Kn.homK s.k n own ∧ KKt w' base s' ∧ KF s w s' w' := by
  obtain ⟨_, z6, zh⟩ := hv.iv.mem_self hn ho
  have z6I : (z : Int) < 6 := by omega
  have SP := Hid.intro (kspace_any base s w (n : Int) h)
  have iz : Sp.inN s.k.sp (n : Int) = z := Sp.inN_of hn ho
  have hz : s.k.ht z = true := by rw [hv.kj.ht z z6]; exact zh
  have H := Hid.intro (And.intro h (And.intro hv (And.intro hz hb)))
  rw [iz] at SP
  cases own
  · have E : Hid (Kn.homE s.k n false = 0 ∧ Kn.homN s.k n false = z ∧ Kn.homK s.k n false = s.k) := Hid.intro ⟨rfl, iz, by unfold Kn.homK; rw [if_neg (fun q => by cases q.1)]⟩
    rw [E.out.1, E.out.2.1, errV_zero]
    clear h hv ho iz hz zh hb
    generalize s.A 0 = kb at *
    go_enter Tryz.func32, Tryz.ntmps32
    go_wp2_with fail
    refine SP.out.mono ?_
    rintro e w1 ⟨rfl, hw⟩
    subst w1
    go_wp2_with fail
    go_ret2
    exact ⟨s, rfl, E.out.2.2.symm, H.out.1, KF.refl _ _⟩
  · have E0 : Kn.homE s.k n true = Sp.addE s.k.sp (z : Int) := by unfold Kn.homE; rw [if_pos rfl, iz]
    have N0 : Kn.homN s.k n true = Sp.addN s.k.sp (z : Int) := by unfold Kn.homN; rw [if_pos rfl, iz]
    have AD := Hid.intro (add_any (s.A 1) (z : Int) s.k.sp d w h.sp hv.iv)
    have c6 := h.cSp
    obtain ⟨kb, hkb⟩ : ∃ kb, s.A 0 = kb := ⟨_, rfl⟩
    have HK := Hid.intro hkb
    obtain ⟨p1, hp1⟩ : ∃ p1, s.A 1 = p1 := ⟨_, rfl⟩
    have HP := Hid.intro hp1
    rw [hkb] at SP c6 ⊢
    rw [hp1] at AD c6
    by_cases c : Sp.addE s.k.sp (z : Int) = 0
    · obtain ⟨f6, fh⟩ : Sp.freeS s.k.sp < 6 ∧ s.k.sp.here (Sp.freeS s.k.sp) = false := by obtain ⟨n1, e1, a1, a2, a3, a4, a5, a6⟩ := Sp.addE_zero c; exact ⟨a4, a5⟩
      have an : Sp.addN s.k.sp (z : Int) = Sp.freeS s.k.sp := if_pos c
      obtain ⟨y, hy⟩ : ∃ y, Sp.freeS s.k.sp = y := ⟨_, rfl⟩
      rw [hy] at f6 fh an
      have EK : Hid (Kn.homK s.k n true = { s.k with sp := Sp.addT s.k.sp (z : Int), fo := Mo.hoA s.k.fo (s.k.tb z), ht := fun i => if i = y then true else s.k.ht i, tb := fun i => if i = y then s.k.tb z else s.k.tb i }) := Hid.intro (by
        unfold Kn.homK
        rw [if_pos ⟨rfl, by rw [E0]; exact c⟩, N0, an, iz])
      rw [E0, N0, an, c, errV_zero]
      rw [an, c, errV_zero] at AD
      have y6I : (y : Int) < 6 := by omega
      have YZ : y ≠ z := fun e => by rw [e, zh] at fh; cases fh
      clear h hv ho iz hz zh hb E0 N0 an c hy fh hkb hp1
      go_enter Tryz.func32, Tryz.ntmps32
      go_wp2_with fail
      refine SP.out.mono ?_
      rintro e w1 ⟨rfl, hw⟩
      subst w1
      go_wp2_with fail
      refine AD.out.mono ?_
      rintro e w1 ⟨rfl, t1, f1⟩
      have S1 : Hid (KKt w1 base { s with k := { s.k with sp := Sp.addT s.k.sp (z : Int) } } ∧ KF s w { s with k := { s.k with sp := Sp.addT s.k.sp (z : Int) } } w1 ∧ base ≤ w1.heap.size) := Hid.intro (by
        rw [← HP.out] at t1 f1
        have q := H.out.1.setSp t1 f1
        exact ⟨q.1, q.2, Nat.le_trans H.out.2.2.2 f1.size⟩)
      clear t1 f1 c6
      go_upto_region 7 with fail
      have KC : Hid (∀ W k, KKt W base { s with k := k } → k.ht z = true → W.cell? ⟨kb, 240 + z, none⟩ = some (.pointer (some ⟨s.A (49 + z), 0, none⟩))) := Hid.intro (fun W k hW e => by
        have q := hW.cTab z z6 e
        rw [show ({ s with k := k } : St).A 0 = kb from HK.out] at q
        exact q)
      have K0 := Hid.intro (KC.out w1 _ S1.out.1 H.out.2.2.1)
      have CP := Hid.intro (copy_any base (s.A (49 + z)) (s.A 6) 102 (s.k.tb z) (s.V z) s.k.fo w1.drew (S1.out.1.drew.tb z z6 H.out.2.2.1) S1.out.1.drew.fo H.out.2.1.kj.hb (by decide))
      obtain ⟨tz, htz⟩ : ∃ tz, s.A (49 + z) = tz := ⟨_, rfl⟩
      rw [htz] at CP K0
      clear htz
      have y1 := K0.out
      go_region_held3 (fun w' => w'.cell? ⟨kb, 240 + z, none⟩ = some (.pointer (some ⟨tz, 0, none⟩))) (first | exact K0.out | exact K4.out | exact K5.out) (
        (go_at_call 68; refine CP.out.mono ?_; rintro e w4 ⟨c, v', rfl, lc, t4, u4, f4⟩; have S4 : Hid (KKt w4 base { s with k := { s.k with sp := Sp.addT s.k.sp (z : Int), fo := Mo.hoA s.k.fo (s.k.tb z) } } ∧ KF s w { s with k := { s.k with sp := Sp.addT s.k.sp (z : Int), fo := Mo.hoA s.k.fo (s.k.tb z) } } w4 ∧ TAt w4 w1.heap.size c (s.A 6) (s.k.tb z) v' ∧ w1.heap.size ≤ c) := Hid.intro (by
            have q := S1.out.1.drew.setFo u4 f4
            exact ⟨q.1, S1.out.2.1.trans ((KF.drew _ _).trans q.2), t4, lc⟩); have K4 : Hid (w4.cell? ⟨kb, 240 + z, none⟩ = some (.pointer (some ⟨tz, 0, none⟩))) := Hid.intro (by
            rw [← K0.out]
            exact World.cell?_of_block (f4.block kb (by rw [← HK.out]; exact S1.out.1.lt (us9 (by omega))) (by rw [← HK.out]; exact S1.out.1.ne (us9 (by omega)) (us9 (by omega)) (by omega)))); have K5 : Hid ((w4.setCell ⟨kb, 240 + y, none⟩ (.pointer (some ⟨c, 0, none⟩))).cell? ⟨kb, 240 + z, none⟩ = some (.pointer (some ⟨tz, 0, none⟩))) := Hid.intro (by
            obtain ⟨C, e, _⟩ := S4.out.1.ker
            rw [show ({ s with k := { s.k with sp := Sp.addT s.k.sp (z : Int), fo := Mo.hoA s.k.fo (s.k.tb z) } } : St).A 0 = kb from HK.out] at e
            rw [cell_set_ne e _ _ _ (by omega)]; exact K4.out); have cy : ∃ vy, w4.cell? ⟨kb, 240 + y, none⟩ = some vy := (by rw [← HK.out]; exact ⟨_, S4.out.1.cel (240 + y) (by omega)⟩); obtain ⟨vy, cy⟩ := cy; have fz : ∀ o, w4.frozen? ⟨kb, o, none⟩ = false := (fun o => by rw [← HK.out]; exact S4.out.1.frozen o); clear t4 u4 f4 lc))
      have FIN : Hid (KKt (w4.setCell ⟨kb, 240 + y, none⟩ (.pointer (some ⟨c, 0, none⟩))) base (Kn.openA { s with k := { s.k with sp := Sp.addT s.k.sp (z : Int), fo := Mo.hoA s.k.fo (s.k.tb z) } } y c v' (s.k.tb z)) ∧ KF s w (Kn.openA { s with k := { s.k with sp := Sp.addT s.k.sp (z : Int), fo := Mo.hoA s.k.fo (s.k.tb z) } } y c v' (s.k.tb z)) (w4.setCell ⟨kb, 240 + y, none⟩ (.pointer (some ⟨c, 0, none⟩)))) := Hid.intro (by
        have lt1 : ∀ i, us s i → s.A i < w1.heap.size := fun i hi => Nat.lt_of_lt_of_le (H.out.1.lt hi) S1.out.2.1.onl.size
        have q := S4.out.1.openT f6 (S4.out.2.2.1.low S1.out.2.2) (fun i hi => by have := lt1 i hi; have := S4.out.2.2.2; show s.A i ≠ c; omega) (fun g eg i hi => by have := lt1 i hi; have := (S4.out.2.2.1.row.lt g eg).1; show s.A i ≠ g; omega) (Nat.le_trans S1.out.2.2 S4.out.2.2.2)
        rw [show ({ s with k := { s.k with sp := Sp.addT s.k.sp (z : Int), fo := Mo.hoA s.k.fo (s.k.tb z) } } : St).A 0 = kb from HK.out] at q
        refine ⟨q.1, S4.out.2.1.onl.trans (Onl.of_frm q.2 (by rw [← HK.out]; exact ⟨0, us9 (by omega), rfl⟩)), fun b ⟨i, hi, eb⟩ => ?_, Kn.openA_o _ _ _ _ _ (by omega) (by omega)⟩
        rcases Kn.us_open hi with rfl | ⟨rfl, vi⟩ | ⟨ui, i1, i2⟩
        · rw [Kn.openA_t] at eb
          exact .inr (by rw [eb]; exact Nat.le_trans S1.out.2.1.onl.size S4.out.2.2.2)
        · rw [Kn.openA_r] at eb
          cases e : v'.ownBlock with
          | none => exact absurd e vi
          | some g =>
            rw [e] at eb
            have := (S4.out.2.2.1.row.lt g e).1
            exact .inr (by rw [eb]; exact Nat.le_trans S1.out.2.1.onl.size this)
        · rw [Kn.openA_o _ _ _ _ _ i1 i2] at eb
          exact .inl ⟨i, ui, eb⟩)
      clear y1 K4 K5 cy fz
      go_wp2_with fail
      go_ret2
      exact ⟨rfl, _, EK.out.symm, FIN.out⟩
    · have E : Hid (Kn.homK s.k n true = s.k ∧ Sp.addT s.k.sp (z : Int) = s.k.sp) := Hid.intro ⟨by unfold Kn.homK; rw [if_neg (fun q => c (by rw [← E0]; exact q.2))], if_neg c⟩
      have an : Sp.addN s.k.sp (z : Int) = 0 := if_neg c
      rw [E0, N0, an, errV_ne c]
      rw [an, errV_ne c] at AD
      clear h hv ho iz hz zh hb E0 N0 an hkb hp1
      generalize Sp.addE s.k.sp (z : Int) = ae at *
      go_enter Tryz.func32, Tryz.ntmps32
      go_wp2_with fail
      refine SP.out.mono ?_
      rintro e w1 ⟨rfl, hw⟩
      subst w1
      go_wp2_with fail
      refine AD.out.mono ?_
      rintro e w1 ⟨rfl, t1, f1⟩
      have S1 : Hid (KKt w1 base s ∧ KF s w s w1) := Hid.intro (by
        rw [← HP.out] at t1 f1
        rw [E.out.2] at t1
        exact H.out.1.setSp t1 f1)
      clear t1 f1 c6
      go_wp2_with fail
      go_ret2
      exact ⟨s, rfl, E.out.1.symm, S1.out⟩
end
end Go.Proofs.YtghogbngmcolmaaGreat
namespace Go.Proofs.YtghogbngmcolmaaGreat
open Go.RowKit
open Tr (Fo Nd)
open Mo (Wh Mt)
open Mv (Me Bk)
open Kn (Pr Kp St us KB KJ VI EI)
namespace Kn
open Fa.Fr in
theorem wake_now {m m' : M} {z : Int} {on : Bool} (k : WakeTo m z on m') : m'.now = m.now := by
  rcases k with ⟨_, k⟩ | ⟨_, rfl⟩
  · exact (look_here k).1
  · rfl
open Fa.Fr in
theorem addTask_now (m : M) (z g wt : Int) : (addTaskM m z g wt).now = m.now := by unfold addTaskM addM; split <;> rfl
open Fa.Fr in
theorem sync_addTask {m : M} (hI : Inv m) (hS : Sync m) (z g wt : Int) : Sync (addTaskM m z g wt) := by
  unfold addTaskM addM
  by_cases k : addTaskE m z g wt = 0
  · rw [if_pos k]
    unfold addTaskE at k
    by_cases k1 : z < 0 ∨ 20 ≤ z
    · rw [if_pos k1] at k; omega
    · rw [if_neg k1] at k
      obtain ⟨g', x, rfl, rfl, h1, h2, h3, h4, h5⟩ := addE_zero k
      rw [Int.toNat_natCast]
      exact hS.add hI (by omega) h5
  · rw [if_neg k]; exact hS
end Kn
namespace Mv
theorem cntK_none {fr : Nat → Nat} (f : Nat) : ∀ n, (∀ x, x < n → fr x = 0) → cntK fr f n = 0
  | 0, _ => rfl
  | n + 1, h => by
    show cntK fr f n + (if fr n = f + 1 then 1 else 0) = 0
    rw [cntK_none f n (fun x hx => h x (by omega)), h n (by omega), if_neg (by omega)]
theorem Wld.forkAt {k : Bk} {N : Nat} {me : Nat → Me} (h : Wld k N me) {i j : Nat} (hi : i < N) (hj : j < N) (h0 : ∀ x, x < 16 → (me j).fr x = 0) : Wld (foK (me i) k 16) N (setP me j (me i)) := by
  refine ⟨h.inv, h.nb, h.n8, fun a ha n hn => ?_, fun f hf => ?_, fun f hf => ?_, h.one⟩
  · by_cases c : a = j
    · subst c; rw [setP_same]; exact h.le i hi n hn
    · rw [setP_ne _ _ _ _ c]; exact h.le a ha n hn
  · show k.refs f + cntK (me i).fr f 16 = tot (setP me j (me i)) f N
    have := tot_set me f j (me i) N
    rw [if_pos hj, if_pos hj, cntK_none f 16 h0] at this
    rw [h.ref f hf]; omega
  · show k.pool.tk f = true ↔ 1 ≤ k.refs f + cntK (me i).fr f 16
    rw [h.tk f hf]
    have := (h.cnt hi).cnt f hf
    omega
end Mv
namespace Sp
section
variable {t : T} {d : Nat → Nat} {z x : Nat}
theorem ent_eq (hz : z < 6) (hh : t.here z = true) (hx : x < 20) (h0 : t.of x = 0) : entE t (z : Int) (x : Int) = 0 ∧ entT t (z : Int) (x : Int) = { putT t (W t (z : Int)) x with of := upN t.of x (z + 1) } := by
  have e : entE t (z : Int) (x : Int) = 0 := by
    unfold entE pairE
    rw [isE_nat hz hh, if_pos rfl, procE_nat hx, if_pos rfl, Int.toNat_natCast, if_pos h0]
  refine ⟨e, ?_⟩
  unfold entT
  rw [if_pos e, Int.toNat_natCast, Int.toNat_natCast]
theorem ent_of (hz : z < 6) (hh : t.here z = true) (hx : x < 20) (h0 : t.of x = 0) (m : Nat) : (entT t (z : Int) (x : Int)).of m = if m = x then z + 1 else t.of m := by rw [(ent_eq hz hh hx h0).2]; rfl
theorem ent_here (hz : z < 6) (hh : t.here z = true) (hx : x < 20) (h0 : t.of x = 0) : (entT t (z : Int) (x : Int)).here = t.here ∧ (entT t (z : Int) (x : Int)).par = t.par := by rw [(ent_eq hz hh hx h0).2]; exact ⟨rfl, rfl⟩
theorem ent_who (hz : z < 6) (hh : t.here z = true) (hx : x < 20) (h0 : t.of x = 0) (s p : Nat) : (entT t (z : Int) (x : Int)).who s p = if s ∈ W t (z : Int) ∧ p = low t s then x + 1 else t.who s p := by rw [(ent_eq hz hh hx h0).2]; rfl
theorem ent_keep (hI : Inv t d) (hz : z < 6) (hh : t.here z = true) (hx : x < 20) (h0 : t.of x = 0) {s p : Nat} (hs : s < 6) (hw : t.who s p ≠ 0) : (entT t (z : Int) (x : Int)).who s p = t.who s p := by
  rw [ent_who hz hh hx h0, if_neg]
  rintro ⟨_, rfl⟩
  exact hw (hI.low hx h0 hs).2.2.1
theorem HDs.enter (hI : Inv t d) (hz : z < 6) (hh : t.here z = true) (hx : x < 20) (h0 : t.of x = 0) (hH : ∀ s, s < 6 → t.here s = true → (∃ h, h < 20 ∧ t.who s 1 = h + 1 ∧ t.of h = s + 1) ∨ (s = z ∧ ∀ p, p < 21 → t.who s p = 0)) (r0 : t.of 0 = 1 ∧ t.who 0 1 = 1) : HDs (entT t (z : Int) (x : Int)) := by
  refine ⟨fun s hs hs2 => ?_, ?_⟩
  · rw [(ent_here hz hh hx h0).1] at hs2
    rcases hH s hs hs2 with ⟨h, a, b, c⟩ | ⟨rfl, e⟩
    · exact ⟨h, a, by rw [ent_keep hI hz hh hx h0 hs (by omega)]; exact b, by rw [ent_of hz hh hx h0, if_neg (fun q => by subst q; omega)]; exact c⟩
    · have l := hI.low hx h0 hs
      have l1 : low t s = 1 := by
        by_cases c : low t s = 1
        · exact c
        · exact absurd (e 1 (by omega)) (l.2.2.2 1 (by omega) (by omega))
      refine ⟨x, hx, ?_, by rw [ent_of hz hh hx h0, if_pos rfl]⟩
      have mz : s ∈ W t (s : Int) := by rw [hI.tree.step hz hh]; simp
      rw [ent_who hz hh hx h0, if_pos ⟨mz, l1.symm⟩]
  · have x0 : (0 : Nat) ≠ x := fun q => by subst q; rw [r0.1] at h0; omega
    rw [ent_of hz hh hx h0, if_neg x0, ent_keep hI hz hh hx h0 (by omega) (by rw [r0.2]; omega)]
    exact r0
theorem add_eq {y : Int} (h : addE t y = 0) : addT t y = { t with here := upB t.here (freeS t) true, par := upI t.par (freeS t) y } := by unfold addT; rw [if_pos h]
end
end Sp
namespace Mo
theorem hol_kind (F : Fo) (z : Int) (n : Nat) : ((Tr.hol F z).nd n).kind = (F.nd n).kind := by
  unfold Tr.hol
  split
  · by_cases c : n = z.toNat
    · subst c; rw [Tr.put_same]
    · rw [Tr.put_ne _ _ _ _ c]
  · rfl
theorem hoA_kind (F : Fo) (T : Tb) (n : Nat) : ((hoA F T).nd n).kind = (F.nd n).kind := by
  have : ∀ (L : List Mt) (G : Fo), ((L.foldl hoM G).nd n).kind = (G.nd n).kind := fun L => by
    induction L with
    | nil => exact fun _ => rfl
    | cons m L ih => exact fun G => (ih _).trans ((hol_kind _ _ _).trans (hol_kind _ _ _))
  exact (this _ _).trans (hol_kind _ _ _)
theorem hoA_ok {F : Fo} {T : Tb} (h : Tr.Ok F) : Tr.Ok (hoA F T) := by
  have : ∀ (L : List Mt) (G : Fo), Tr.Ok G → Tr.Ok (L.foldl hoM G) := fun L => by
    induction L with
    | nil => exact fun _ h => h
    | cons m L ih => exact fun G h => ih _ ((h.hol _).hol _)
  exact this _ _ (h.hol _)
theorem mc_mem {L : List Mt} {m : Mt} (h : m ∈ L) (n : Nat) : oneI m.1.2 n + oneI m.2.2 n ≤ mc L n := by
  induction L with
  | nil => cases h
  | cons x L ih =>
    rw [mc_cons]
    rcases List.mem_cons.1 h with rfl | h
    · omega
    · have := ih h; omega
theorem HI.tab {F : Fo} {f : Nat → Nat} {T : Tb} (h : HI F f) (hr : Rg T) (hf : ∀ n, n < 40 → tc T n ≤ f n) : Tr.nodeE F T.rt.2 = 0 ∧ ∀ m ∈ T.ms, Tr.nodeE F m.1.2 = 0 ∧ Tr.nodeE F m.2.2 = 0 := by
  have key : ∀ z, isN z → (∀ n, n < 40 → oneI z n ≤ f n) → Tr.nodeE F z = 0 := fun z hz hl => by
    obtain ⟨n, rfl, n40⟩ := hz
    unfold Tr.nodeE
    have := hl n n40
    rw [oneI_same] at this
    rw [if_neg (by omega), Int.toNat_natCast, if_neg (h.lv n n40 (by omega))]
  refine ⟨key _ hr.1 (fun n hn => ?_), fun m hm => ⟨key _ (hr.2 m hm).1 (fun n hn => ?_), key _ (hr.2 m hm).2 (fun n hn => ?_)⟩⟩
  · have := hf n hn; unfold tc at this; omega
  · have a := hf n hn; have b := mc_mem hm n; unfold tc at a; omega
  · have a := hf n hn; have b := mc_mem hm n; unfold tc at a; omega
end Mo
namespace Kn
section
variable {X : Nat → Prop} {N : Nat} {d : Nat → Nat} {k : Kp}
theorem tabN_open (k : Kp) (k' : Kp) (y : Nat) (T : Mo.Tb) (h1 : k'.ht = fun i => if i = y then true else k.ht i) (h2 : k'.tb = fun i => if i = y then T else k.tb i) (h0 : k.ht y = false) (m : Nat) : ∀ s, tabN k' m s = tabN k m s + (if y < s then Mo.tc T m else 0)
  | 0 => by rw [if_neg (Nat.not_lt_zero _)]; rfl
  | s + 1 => by
    have ih := tabN_open k k' y T h1 h2 h0 m s
    show tabN k' m s + (if k'.ht s = true then Mo.tc (k'.tb s) m else 0) = tabN k m s + (if k.ht s = true then Mo.tc (k.tb s) m else 0) + _
    rw [ih]
    by_cases c : s = y
    · have a : k'.ht s = true := by rw [h1]; exact if_pos c
      have b : k'.tb s = T := by rw [h2]; exact if_pos c
      subst c
      rw [if_pos a, b, h0, if_neg (show ¬ s < s by omega), if_neg (show ¬ false = true by decide), if_pos (show s < s + 1 by omega)]
    · have a : k'.ht s = k.ht s := by rw [h1]; exact if_neg c
      have b : k'.tb s = k.tb s := by rw [h2]; exact if_neg c
      rw [a, b]
      by_cases e : y < s
      · rw [if_pos e, if_pos (show y < s + 1 by omega)]; omega
      · rw [if_neg e, if_neg (show ¬ y < s + 1 by omega)]; omega
theorem tabN_ge {k : Kp} {z : Nat} (m : Nat) (hz : k.ht z = true) : ∀ s, z < s → Mo.tc (k.tb z) m ≤ tabN k m s
  | 0, h => absurd h (Nat.not_lt_zero _)
  | s + 1, h => by
    show _ ≤ tabN k m s + (if k.ht s = true then Mo.tc (k.tb s) m else 0)
    by_cases c : z = s
    · subst c; rw [if_pos hz]; omega
    · have := tabN_ge m hz s (by omega); omega
def opnK (k : Kp) (z y : Nat) : Kp := { k with sp := Sp.addT k.sp (z : Int), fo := Mo.hoA k.fo (k.tb z), ht := fun i => if i = y then true else k.ht i, tb := fun i => if i = y then k.tb z else k.tb i }
theorem KJ.opn (h : KJ X N k) {z y : Nat} (ea : Sp.addE k.sp (z : Int) = 0) (hy : Sp.freeS k.sp = y) : KJ X N (opnK k z y) := by
  obtain ⟨z', ez, z6, zh, wl, f6, fh, fl⟩ := Sp.addE_zero ea
  obtain rfl : z = z' := by omega
  rw [hy] at f6 fh
  have htz : k.ht z = true := by rw [h.ht z z6]; exact zh
  have hty : k.ht y = false := by rw [h.ht y f6]; exact fh
  have tx : ∀ m, tabX (opnK k z y) m = tabX k m + Mo.tc (k.tb z) m := fun m => by
    have := tabN_open k (opnK k z y) y (k.tb z) rfl rfl hty m 6
    rw [if_pos f6] at this
    exact this
  have rg := h.tb z z6 htz
  have hi : Mo.HI k.fo (fun n => Fx.cK k.fi 1 n 24 + tabX k n) := ⟨fun n hn => h.wx.hl n hn, fun n hn c kz => by
    have := h.wx.z0 n hn kz
    rw [h.wx.hl n hn] at this
    omega⟩
  have nn := hi.tab rg.1 (fun n _ => by have : Mo.tc (k.tb z) n ≤ tabX k n := tabN_ge n htz 6 z6; omega)
  have ho := Mo.hoA_HI hi nn.1 nn.2
  have es := Sp.add_eq ea
  rw [hy] at es
  refine ⟨?_, h.gr, h.si, h.sy, h.nw, h.me, ?_, h.rf, Mo.hoA_ok h.ok, fun s hs q => ?_, h.st, h.hs, h.lv, fun n hn => ?_, fun s hs => ?_, h.nm⟩
  · obtain ⟨d, hd⟩ := h.sp; exact hd.add _
  · refine ⟨h.wx.no, h.wx.kd, fun n hn r k1 => ?_, h.wx.pn, h.wx.ps, fun m hm => ?_, fun m hm kz => ?_, h.wx.rd, h.wx.wt⟩
    · have a := h.wx.nd n hn r k1
      exact ⟨a.1, by show ((Mo.hoA k.fo (k.tb z)).nd _).kind = 1; rw [Mo.hoA_kind]; exact a.2⟩
    · show ((Mo.hoA k.fo (k.tb z)).nd m).held = _
      rw [ho.hd m hm, tx m]
      show _ = Fx.cK k.fi 1 m 24 + _
      omega
    · by_cases c : ((Mo.hoA k.fo (k.tb z)).nd m).held = 0
      · exact c
      · exact absurd kz (ho.lv m hm (by rw [← ho.hd m hm]; omega))
  · have q2 : (if s = y then true else k.ht s) = true := q
    show Mo.Rg (if s = y then k.tb z else k.tb s) ∧ (if s = y then k.tb z else k.tb s).ms.length ≤ 6
    by_cases c : s = y
    · rw [if_pos c]; exact rg
    · rw [if_neg c] at q2 ⊢; exact h.tb s hs q2
  · show (Sp.addT k.sp (z : Int)).of n ≠ 0 ↔ _
    rw [es]; exact h.of n hn
  · show (if s = y then true else k.ht s) = (Sp.addT k.sp (z : Int)).here s
    rw [es]
    show _ = if s = y then true else k.sp.here s
    by_cases c : s = y
    · rw [if_pos c, if_pos c]
    · rw [if_neg c, if_neg c]; exact h.ht s hs
theorem homK_own {n z y : Nat} (hz : Sp.inN k.sp (n : Int) = z) (ea : Sp.addE k.sp (z : Int) = 0) (hy : Sp.freeS k.sp = y) : homK k n true = opnK k z y ∧ homN k n true = y ∧ homE k n true = 0 := by
  have e0 : homE k n true = 0 := by unfold homE; rw [if_pos rfl, hz]; exact ea
  have n0 : homN k n true = y := by
    unfold homN Sp.addN
    rw [if_pos rfl, hz, if_pos ea, hy]
  refine ⟨?_, n0, e0⟩
  unfold homK
  rw [if_pos ⟨rfl, e0⟩, n0, hz]
  rfl
theorem homK_no (k : Kp) (n : Nat) : homK k n false = k ∧ homE k n false = 0 := ⟨by unfold homK; rw [if_neg (fun q => by cases q.1)], rfl⟩
def shaK (k : Kp) (fd : Nat → Int) : Nat → Kp
  | 0 => k
  | j + 1 => if fd j = -1 then shaK k fd j else { shaK k fd j with fi := Fx.shaT (shaK k fd j).fi (fd j) }
theorem shaK_same (k : Kp) (fd : Nat → Int) : ∀ j, ∃ T, shaK k fd j = { k with fi := T }
  | 0 => ⟨k.fi, rfl⟩
  | j + 1 => by
    obtain ⟨T, e⟩ := shaK_same k fd j
    by_cases c : fd j = -1
    · exact ⟨T, by show (if fd j = -1 then _ else _) = _; rw [if_pos c]; exact e⟩
    · exact ⟨Fx.shaT T (fd j), by show (if fd j = -1 then _ else _) = _; rw [if_neg c, e]⟩
theorem sha_ok {xx : Nat → Nat} {T : Nat → Fx.Fi} {F : Fo} {S : Nat → Pp.Pi} (h : WX xx T F S) (z : Int) : WX xx (Fx.shaT T z) F S ∧ ∀ n, (Fx.shaT T z n).refs ≤ (T n).refs + 1 := by
  unfold Fx.shaT
  by_cases c : Fx.filE T z = 0
  · rw [if_pos c]
    obtain ⟨n, rfl, hn, r⟩ := Fx.filE_ok c
    rw [Int.toNat_natCast]
    refine ⟨h.turn hn r _ (Nat.succ_ne_zero _) rfl rfl (h.ps n hn), fun m => ?_⟩
    by_cases e : m = n
    · subst e; rw [Fx.put_same]; exact Nat.le_refl _
    · rw [Fx.put_ne _ _ _ _ e]; omega
  · rw [if_neg c]; exact ⟨h, fun _ => by omega⟩
theorem shaK_ok {xx : Nat → Nat} {k : Kp} (h : WX xx k.fi k.fo k.pi) (fd : Nat → Int) : ∀ j, WX xx (shaK k fd j).fi k.fo k.pi ∧ ∀ n, ((shaK k fd j).fi n).refs ≤ (k.fi n).refs + j
  | 0 => ⟨h, fun _ => Nat.le_refl _⟩
  | j + 1 => by
    have ih := shaK_ok h fd j
    show WX xx (if fd j = -1 then shaK k fd j else _ : Kp).fi k.fo k.pi ∧ ∀ n, ((if fd j = -1 then shaK k fd j else _ : Kp).fi n).refs ≤ _
    by_cases c : fd j = -1
    · rw [if_pos c]; exact ⟨ih.1, fun n => by have := ih.2 n; omega⟩
    · rw [if_neg c]
      have a := sha_ok ih.1 (fd j)
      exact ⟨a.1, fun n => by have := a.2 n; have := ih.2 n; show (Fx.shaT (shaK k fd j).fi (fd j) n).refs ≤ _; omega⟩
def chP (k : Kp) (n : Nat) : Pr := { k.p n with par := (n : Int), box := Sg.chiF (k.p n).box }
def copK (k : Kp) (n : Nat) : Kp := shaK { k with bk := Mv.foK (k.p n).mem k.bk 16 } (k.p n).fd 6
theorem KJ.sta (h : KJ X N k) {n c z : Nat} {m' : Fa.Fr.M} (hX : ¬ X c) (hn : n < 20) (hc : c < 20) (l : Kn.lv k n = true) (hh : (k.p n).has = true) (c0 : (k.p c).st = 0) (z6 : z < 6) (zh : k.sp.here z = true) (wk : Fa.Fr.WakeTo (Fa.Fr.addTaskM k.sc (c : Int) (k.p n).grp 100) (c : Int) true m') : KJ X (N + 1) (staK (copK k n) c (chP k n) (z : Int) m') := by
  obtain ⟨T, eT⟩ := shaK_same { k with bk := Mv.foK (k.p n).mem k.bk 16 } (k.p n).fd 6
  have st1 : (k.p n).st = 1 := by unfold Kn.lv at l; simpa using l
  have nc : n ≠ c := fun e => by subst e; omega
  have fh : (k.p c).has = false := by
    cases e : (k.p c).has
    · rfl
    · have := h.hs c hc e; omega
  have o0 : k.sp.of c = 0 := by
    by_cases e : k.sp.of c = 0
    · exact e
    · exact absurd c0 ((h.of c hc).1 e)
  have cop : copK k n = { k with bk := Mv.foK (k.p n).mem k.bk 16, fi := T } := eT
  have wx := shaK_ok (k := { k with bk := Mv.foK (k.p n).mem k.bk 16 }) h.wx (k.p n).fd 6
  rw [eT] at wx
  rw [cop]
  have e : ∀ m, m ≠ c → (staK { k with bk := Mv.foK (k.p n).mem k.bk 16, fi := T } c (chP k n) (z : Int) m').p m = k.p m := fun m q => put_ne _ _ _ _ q
  have e2 : (staK { k with bk := Mv.foK (k.p n).mem k.bk 16, fi := T } c (chP k n) (z : Int) m').p c = chP k n := put_same _ _ _
  refine ⟨?_, ?_, (h.si.addTask _ _ _).wake wk, (sync_addTask h.si h.sy _ _ _).wake (h.si.addTask _ _ _) wk, ?_, ?_, wx.1, fun m hm => ?_, h.ok, h.tb, fun m hm => ?_, fun m hm => ?_, fun m hm => ?_, fun m hm => ?_, fun s hs => ?_, fun m hm => ?_⟩
  · obtain ⟨d, hd⟩ := h.sp; exact ⟨d, hd.enter _ _⟩
  · obtain ⟨Wy, g⟩ := h.gr; exact ⟨Wy, g.mono (Nat.le_succ N)⟩
  · show m'.now ≤ N + 1
    rw [wake_now wk, addTask_now]; have := h.nw; omega
  · rw [show (fun m => ((staK { k with bk := Mv.foK (k.p n).mem k.bk 16, fi := T } c (chP k n) (z : Int) m').p m).mem) = Mv.setP (fun m => (k.p m).mem) c (k.p n).mem from funext fun m => by
      by_cases q : m = c
      · subst q; rw [e2, Mv.setP_same]; rfl
      · rw [e m q, Mv.setP_ne _ _ _ _ q]]
    exact h.me.forkAt (i := n) hn hc (fun x _ => by show (k.p c).mem.fr x = 0; rw [h.nm c hc fh]; rfl)
  · have := wx.2 m; have := h.rf m hm
    show (T m).refs ≤ _
    have t : (T m).refs ≤ (k.fi m).refs + 6 := wx.2 m
    omega
  · by_cases q : m = c
    · subst q; rw [e2]; show (k.p n).st ≤ 2; omega
    · rw [e m q]; exact h.st m hm
  · by_cases q : m = c
    · subst q; rw [e2]; intro _; exact st1
    · rw [e m q]; exact h.hs m hm
  · intro hx
    by_cases q : m = c
    · subst q; rw [e2]; intro _; exact hh
    · rw [e m q]; exact h.lv m hm hx
  · show (Sp.entT k.sp (z : Int) (c : Int)).of m ≠ 0 ↔ _
    rw [Sp.ent_of z6 zh hc o0]
    by_cases q : m = c
    · subst q; rw [e2, if_pos rfl]; exact ⟨fun _ => by show (k.p n).st ≠ 0; omega, fun _ => by omega⟩
    · rw [e m q, if_neg q]; exact h.of m hm
  · show k.ht s = (Sp.entT k.sp (z : Int) (c : Int)).here s
    rw [(Sp.ent_here z6 zh hc o0).1]; exact h.ht s hs
  · by_cases q : m = c
    · subst q; rw [e2]; intro f; have f2 : (k.p n).has = false := f; rw [hh] at f2; cases f2
    · rw [e m q]; exact h.nm m hm
end
end Kn
end Go.Proofs.YtghogbngmcolmaaGreat

import Derived.Deep.CutRange
import Derived.Deep.CutBlock
import Derived.Test.YtghogbngmcolmaaGreatSbb
namespace Go.Proofs.YtghogbngmcolmaaGreat
open Go.RowKit
open Tr (Fo Nd)
open Mo (Mt)
open Mv (Me Bk)
open Kn (Pr Kp St us KB KJ)
namespace Sp
theorem lea_eq {t : T} {n : Nat} (hn : n < 20) (h : t.of n ≠ 0) : leaT t (n : Int) = { cutT t (List.range 6) n with of := upN t.of n 0 } := by
  have e : inE t (n : Int) = 0 := by unfold inE; rw [procE_nat hn, if_pos rfl, Int.toNat_natCast, if_neg h]
  unfold leaT
  rw [if_pos e, Int.toNat_natCast]
theorem lea_here {t : T} {n : Nat} (hn : n < 20) (h : t.of n ≠ 0) : (leaT t (n : Int)).here = t.here ∧ (leaT t (n : Int)).par = t.par := by rw [lea_eq hn h]; exact ⟨rfl, rfl⟩
theorem lea_of {t : T} {n : Nat} (hn : n < 20) (h : t.of n ≠ 0) (m : Nat) : (leaT t (n : Int)).of m = if m = n then 0 else t.of m := by rw [lea_eq hn h]; rfl
theorem lea_who {t : T} {n : Nat} (hn : n < 20) (h : t.of n ≠ 0) {s : Nat} (hs : s < 6) (p : Nat) : (leaT t (n : Int)).who s p = if t.who s p = n + 1 then 0 else t.who s p := by
  rw [lea_eq hn h]
  show (if s ∈ List.range 6 ∧ t.who s p = n + 1 then 0 else t.who s p) = _
  by_cases c : t.who s p = n + 1
  · rw [if_pos c, if_pos ⟨by simpa using hs, c⟩]
  · rw [if_neg c, if_neg (fun e => c e.2)]
structure HDs (t : T) : Prop where
  hd : ∀ s, s < 6 → t.here s = true → ∃ h, h < 20 ∧ t.who s 1 = h + 1 ∧ t.of h = s + 1
  r0 : t.of 0 = 1 ∧ t.who 0 1 = 1
theorem inN_of {t : T} {n z : Nat} (hn : n < 20) (h : t.of n = z + 1) : inN t (n : Int) = z := by
  have e : inE t (n : Int) = 0 := by unfold inE; rw [procE_nat hn, if_pos rfl, Int.toNat_natCast, if_neg (by omega)]
  unfold inN
  rw [if_pos e, Int.toNat_natCast]; omega
theorem find1 {t : T} {z h : Nat} (hz : z < 6) (hh : t.here z = true) (hw : t.who z 1 = h + 1) : findN t (z : Int) 1 = h := by
  have e : findE t (z : Int) 1 = 0 := by
    unfold findE
    rw [isE_nat hz hh, if_pos rfl, Int.toNat_natCast, show (1 : Int).toNat = 1 from rfl, if_neg (by omega)]
  unfold findN
  rw [if_pos e, Int.toNat_natCast, show (1 : Int).toNat = 1 from rfl, hw]; omega
section
variable {t : T} {d : Nat → Nat}
theorem HDs.leave (h : HDs t) {n z : Nat} (hn : n < 20) (n0 : n ≠ 0) (ho : t.of n = z + 1) (hw : t.who z 1 ≠ n + 1) : HDs (leaT t (n : Int)) := by
  have o : t.of n ≠ 0 := by omega
  refine ⟨fun s hs hh => ?_, ?_⟩
  · rw [(lea_here hn o).1] at hh
    obtain ⟨x, x20, xw, xo⟩ := h.hd s hs hh
    have xn : x ≠ n := fun e => by
      subst e
      have : s = z := by omega
      subst this
      exact hw xw
    exact ⟨x, x20, by rw [lea_who hn o hs, if_neg (by omega)]; exact xw, by rw [lea_of hn o, if_neg xn]; exact xo⟩
  · rw [lea_of hn o, if_neg (Ne.symm n0), lea_who hn o (by omega), if_neg (by have := h.r0.2; omega)]
    exact h.r0
theorem memb_none {t : T} {z : Nat} (h : ∀ p, p < 21 → t.who z p = 0) : memb t z = [] := by
  unfold memb
  rw [List.map_eq_nil_iff, List.filter_eq_nil_iff]
  intro p hp
  unfold memP
  rw [h p (by simpa using hp)]; simp
theorem HDs.shut (h : HDs t) (hI : Inv t d) {n z : Nat} (hn : n < 20) (n0 : n ≠ 0) (ho : t.of n = z + 1) (hz : z < 6) (hh : t.here z = true) (hw : t.who z 1 = n + 1) (al : ∀ p, p < 21 → t.who z p ≠ 0 → p = 1) :
    dropE (leaT t (n : Int)) (z : Int) = 0 ∧ HDs (dropT (leaT t (n : Int)) (z : Int)) := by
  have o : t.of n ≠ 0 := by omega
  have z0 : z ≠ 0 := fun e => by subst e; have := h.r0.2; omega
  have emp : ∀ p, p < 21 → (leaT t (n : Int)).who z p = 0 := fun p hp => by
    rw [lea_who hn o hz]
    by_cases c : t.who z p = n + 1
    · rw [if_pos c]
    · rw [if_neg c]
      by_cases e : t.who z p = 0
      · exact e
      · have := al p hp e; subst this; exact absurd hw c
  have kd : kids (leaT t (n : Int)) z = false := by
    unfold kids
    rw [List.any_eq_false]
    intro k hk
    have k6 : k < 6 := by simpa using hk
    unfold kidP
    rw [(lea_here hn o).1, (lea_here hn o).2]
    intro c
    have c1 : t.here k = true ∧ t.par k = (z : Int) := by simpa using c
    obtain ⟨x, x20, xw, xo⟩ := h.hd k k6 c1.1
    have mem : z ∈ W t ((t.of x - 1 : Nat) : Int) := by
      rw [xo, show k + 1 - 1 = k by omega, hI.tree.step k6 c1.1, c1.2, hI.tree.step hz hh]
      simp
    obtain ⟨p, hp, pw⟩ := (hI.has z x hz x20).2 ⟨by omega, mem⟩
    have p1 := al p hp (by omega)
    subst p1
    have : x = n := by omega
    subst this
    have : k = z := by omega
    subst this
    rcases hI.tree.par_cases hz hh with ⟨e, _⟩ | ⟨q, _, e, _, e2⟩
    · exact z0 e
    · rw [c1.2] at e
      have : q = k := by omega
      subst this
      omega
  have de : dropE (leaT t (n : Int)) (z : Int) = 0 := by
    unfold dropE
    rw [isE_nat hz (by rw [(lea_here hn o).1]; exact hh), if_pos rfl, Int.toNat_natCast, if_neg (fun c => by
      rcases c with c | c | c
      · omega
      · exact c (memb_none emp)
      · rw [kd] at c; cases c)]
  refine ⟨de, ?_⟩
  have e : dropT (leaT t (n : Int)) (z : Int) = { leaT t (n : Int) with here := upB (leaT t (n : Int)).here z false, par := upI (leaT t (n : Int)).par z 0 } := by unfold dropT; rw [if_pos de, Int.toNat_natCast]
  rw [e]
  refine ⟨fun s hs hs2 => ?_, ?_⟩
  · have hs3 : (if s = z then false else (leaT t (n : Int)).here s) = true := hs2
    by_cases c : s = z
    · rw [if_pos c] at hs3; cases hs3
    · rw [if_neg c, (lea_here hn o).1] at hs3
      obtain ⟨x, x20, xw, xo⟩ := h.hd s hs hs3
      have xn : x ≠ n := fun e => by subst e; omega
      exact ⟨x, x20, by show (leaT t (n : Int)).who s 1 = _; rw [lea_who hn o hs, if_neg (by omega)]; exact xw, by show (leaT t (n : Int)).of x = _; rw [lea_of hn o, if_neg xn]; exact xo⟩
  · show (leaT t (n : Int)).of 0 = 1 ∧ (leaT t (n : Int)).who 0 1 = 1
    rw [lea_of hn o, if_neg (Ne.symm n0), lea_who hn o (by omega), if_neg (by have := h.r0.2; omega)]
    exact h.r0
end
end Sp
namespace Mo
theorem letT_held {F : Fo} {z : Int} (n : Nat) : ((Tr.letT F z).nd n).held ≤ (F.nd n).held := by
  unfold Tr.letT
  split
  · rw [swe_held]
    by_cases e : n = z.toNat
    · subst e; rw [Tr.put_same]; show (F.nd _).held - 1 ≤ _; omega
    · rw [Tr.put_ne _ _ _ _ e]; exact Nat.le_refl _
  · exact Nat.le_refl _
theorem letT_kind {F : Fo} {z : Int} {n : Nat} (h : 0 < ((Tr.letT F z).nd n).held) : ((Tr.letT F z).nd n).kind = (F.nd n).kind := by
  unfold Tr.letT at *
  split
  · rename_i c
    rw [if_pos c] at h
    rw [swe_held] at h
    rw [swe_kind _ _ _ h]
    by_cases e : n = z.toNat
    · subst e; rw [Tr.put_same]
    · rw [Tr.put_ne _ _ _ _ e]
  · rfl
theorem leM_held {F : Fo} {m : Mt} (n : Nat) : ((leM F m).nd n).held ≤ (F.nd n).held := Nat.le_trans (letT_held n) (letT_held n)
theorem leM_kind {F : Fo} {m : Mt} {n : Nat} (h : 0 < ((leM F m).nd n).held) : ((leM F m).nd n).kind = (F.nd n).kind := (letT_kind h).trans (letT_kind (Nat.lt_of_lt_of_le h (letT_held n)))
theorem fold_held (n : Nat) : ∀ (L : List Mt) (F : Fo), ((L.foldl leM F).nd n).held ≤ (F.nd n).held
  | [], _ => Nat.le_refl _
  | m :: L, F => Nat.le_trans (fold_held n L (leM F m)) (leM_held n)
theorem fold_kind (n : Nat) : ∀ (L : List Mt) (F : Fo), 0 < ((L.foldl leM F).nd n).held → ((L.foldl leM F).nd n).kind = (F.nd n).kind
  | [], _, _ => rfl
  | m :: L, F, h => (fold_kind n L (leM F m) h).trans (leM_kind (Nat.lt_of_lt_of_le h (fold_held n L _)))
theorem leA_kind {F : Fo} {T : Tb} {n : Nat} (h : 0 < ((leA F T).nd n).held) : ((leA F T).nd n).kind = (F.nd n).kind :=
  (fold_kind n T.ms _ h).trans (letT_kind (Nat.lt_of_lt_of_le h (fold_held n T.ms _)))
end Mo
namespace Kn
section
variable {X : Nat → Prop} {N : Nat} {k : Kp}
theorem KJ.setSc (h : KJ X N k) {m : Fa.Fr.M} (h1 : Fa.Fr.Inv m) (h2 : Fa.Fr.Sync m) (h3 : m.now ≤ N) : KJ X N { k with sc := m } := ⟨h.sp, h.gr, h1, h2, h3, h.me, h.wx, h.rf, h.ok, h.tb, h.st, h.hs, h.lv, h.of, h.ht, h.nm⟩
theorem unm_fr (k : Kp) (n x : Nat) (hx : x < 16) : ((unmK k n 0 16).p n).mem.fr x = 0 := by
  unfold unmK
  have c : Mv.unE 0 16 = 0 := by decide
  rw [if_pos c]
  show ((memK k n _ (Mv.unK (k.p n).mem k.bk 0 16)).p n).mem.fr x = 0
  rw [memK_p]
  show (Mv.unM (k.p n).mem 0 16).fr x = 0
  unfold Mv.unM
  have b : Mv.badB 0 16 = false := by decide
  rw [b, if_neg (by decide)]
  show (if _ then 0 else _) = 0
  rw [if_pos ⟨Nat.zero_le _, by show x < 0 + 16; omega⟩]
theorem KJ.str (h : KJ X N k) {n : Nat} (hn : n < 20) (hh : (k.p n).has = true) {k' : Kp} (hs : StrTo k n k') : KJ (fun m => X m ∨ m = n) N k' := by
  obtain ⟨m', hd, rfl⟩ := hs
  obtain ⟨i1, i2, i3⟩ := h.si.dropTask h.sy hd
  have a := ((h.unm hn hh 0 16).strF n (k.p n).fd 6).setSc i1 i2 (by rw [i3]; exact h.nw)
  have pp := strF_p (unmK k n 0 16) n (k.p n).fd 6
  have z0 : ∀ x, x < 16 → ((Kn.strF (unmK k n 0 16) n (k.p n).fd 6).p n).mem.fr x = 0 := fun x hx => by rw [(pp n).2.2.1]; exact unm_fr k n x hx
  unfold strK
  dsimp only
  generalize Kn.strF (unmK k n 0 16) n (k.p n).fd 6 = k1 at *
  have e : ∀ j, j ≠ n → (({ k1 with sc := m' } : Kp).put n { k1.p n with has := false, mem := Mv.me0, box := Sg.nul }).p j = k1.p j := fun j c => put_ne _ _ _ _ c
  have e2 : (({ k1 with sc := m' } : Kp).put n { k1.p n with has := false, mem := Mv.me0, box := Sg.nul }).p n = { k1.p n with has := false, mem := Mv.me0, box := Sg.nul } := put_same _ _ _
  refine ⟨a.sp, a.gr, a.si, a.sy, a.nw, ?_, a.wx, a.rf, a.ok, a.tb, fun m hm => ?_, fun m hm => ?_, fun m hm => ?_, fun m hm => ?_, a.ht, fun m hm => ?_⟩
  · refine a.me.congr (fun i hi x hx => ?_)
    by_cases c : i = n
    · subst c; rw [e2]; exact (z0 x hx).symm
    · rw [e i c]
  · by_cases c : m = n
    · subst c; rw [e2]; exact a.st m hm
    · rw [e m c]; exact a.st m hm
  · by_cases c : m = n
    · subst c; rw [e2]; intro q; cases q
    · rw [e m c]; exact a.hs m hm
  · intro hx
    by_cases c : m = n
    · exact absurd (.inr c) hx
    · rw [e m c]; exact a.lv m hm (fun q => hx (.inl q))
  · by_cases c : m = n
    · subst c; rw [e2]; exact a.of m hm
    · rw [e m c]; exact a.of m hm
  · by_cases c : m = n
    · subst c; rw [e2]; intro _; rfl
    · rw [e m c]; exact a.nm m hm
theorem unm_sp (k : Kp) (n : Nat) (a m : Int) : (unmK k n a m).sp = k.sp ∧ (unmK k n a m).ht = k.ht ∧ (unmK k n a m).tb = k.tb := by unfold unmK; split <;> exact ⟨rfl, rfl, rfl⟩
theorem strF_sp (k : Kp) (n : Nat) (fd : Nat → Int) : ∀ j, (strF k n fd j).sp = k.sp ∧ (strF k n fd j).ht = k.ht ∧ (strF k n fd j).tb = k.tb
  | 0 => ⟨rfl, rfl, rfl⟩
  | j + 1 => by
    show (if fd j = -1 then _ else _ : Kp).sp = _ ∧ (if fd j = -1 then _ else _ : Kp).ht = _ ∧ (if fd j = -1 then _ else _ : Kp).tb = _
    split
    · exact strF_sp k n fd j
    · exact strF_sp k n fd j
theorem StrTo.sp {n : Nat} {k' : Kp} (hs : StrTo k n k') : k'.sp = k.sp ∧ k'.ht = k.ht ∧ k'.tb = k.tb := by
  obtain ⟨m', _, rfl⟩ := hs
  have a := strF_sp (unmK k n 0 16) n (k.p n).fd 6
  have b := unm_sp k n 0 16
  exact ⟨a.1.trans b.1, a.2.1.trans b.2.1, a.2.2.trans b.2.2⟩
theorem StrTo.p {n : Nat} {k' : Kp} (hs : StrTo k n k') (m : Nat) : (k'.p m).st = (k.p m).st ∧ (k'.p m).par = (k.p m).par ∧ (k'.p m).grp = (k.p m).grp ∧ (k'.p m).code = (k.p m).code ∧ (m ≠ n → (k'.p m).has = (k.p m).has ∧ (k'.p m).mem = (k.p m).mem ∧ (k'.p m).box = (k.p m).box) := by
  obtain ⟨m', _, rfl⟩ := hs
  have a := strF_p (unmK k n 0 16) n (k.p n).fd 6 m
  have b := unmK_p k n 0 16 m
  unfold strK
  dsimp only
  by_cases c : m = n
  · subst c
    rw [put_same]
    exact ⟨a.1.trans b.2.2.1, a.2.2.2.2.2.1.trans b.2.2.2.2.2.1, a.2.2.2.2.1.trans b.2.2.2.2.1, a.2.2.2.2.2.2.trans b.2.2.2.2.2.2, fun e => absurd rfl e⟩
  · rw [put_ne _ _ _ _ c]
    have mm : ((unmK k n 0 16).p m).mem = (k.p m).mem := by
      unfold unmK
      split
      · show ((memK k n _ (Mv.unK (k.p n).mem k.bk 0 16)).p m).mem = _
        rw [show ∀ x b, (memK k n x b).p m = k.p m from fun x b => put_ne _ _ _ _ c]
      · rfl
    exact ⟨a.1.trans b.2.2.1, a.2.2.2.2.2.1.trans b.2.2.2.2.2.1, a.2.2.2.2.1.trans b.2.2.2.2.1, a.2.2.2.2.2.2.trans b.2.2.2.2.2.2, fun _ => ⟨a.2.1.trans b.2.1, a.2.2.1.trans mm, a.2.2.2.1.trans b.2.2.2.1⟩⟩
def finK (k : Kp) (n : Nat) : Kp := ({ k with gr := Gr.uncT k.gr (k.p n).grp 1 0, sp := Sp.leaT k.sp (n : Int) }).put n Pr.no
theorem KJ.fin (h : KJ X N k) {n : Nat} (hn : n < 20) (h0 : (k.p n).st ≠ 0) (hh : (k.p n).has = false) : KJ (fun m => X m ∧ m ≠ n) N (finK k n) := by
  have o := (h.of n hn).2 h0
  have e : ∀ j, j ≠ n → (finK k n).p j = k.p j := fun j c => put_ne _ _ _ _ c
  have e2 : (finK k n).p n = Pr.no := put_same _ _ _
  have hr := Sp.lea_here hn o
  refine ⟨?_, ?_, h.si, h.sy, h.nw, ?_, h.wx, h.rf, h.ok, h.tb, fun m hm => ?_, fun m hm => ?_, fun m hm => ?_, fun m hm => ?_, fun s hs => ?_, fun m hm => ?_⟩
  · obtain ⟨d, hd⟩ := h.sp; exact ⟨d, hd.leave _⟩
  · obtain ⟨Wy, g⟩ := h.gr; exact ⟨Wy, unc_tree g _ _ _⟩
  · refine h.me.congr (fun i hi x hx => ?_)
    by_cases c : i = n
    · subst c; rw [e2, h.nm i hn hh]; rfl
    · rw [e i c]
  · by_cases c : m = n
    · subst c; rw [e2]; exact Nat.zero_le _
    · rw [e m c]; exact h.st m hm
  · by_cases c : m = n
    · subst c; rw [e2]; intro q; cases q
    · rw [e m c]; exact h.hs m hm
  · intro hx
    by_cases c : m = n
    · subst c; rw [e2]; intro q; cases q
    · rw [e m c]; exact h.lv m hm (fun q => hx ⟨q, c⟩)
  · show (Sp.leaT k.sp (n : Int)).of m ≠ 0 ↔ _
    rw [Sp.lea_of hn o]
    by_cases c : m = n
    · subst c; rw [e2, if_pos rfl]; exact ⟨fun q => absurd rfl q, fun q => absurd rfl q⟩
    · rw [e m c, if_neg c]; exact h.of m hm
  · show k.ht s = (Sp.leaT k.sp (n : Int)).here s
    rw [hr.1]; exact h.ht s hs
  · by_cases c : m = n
    · subst c; rw [e2]; intro _; rfl
    · rw [e m c]; exact h.nm m hm
def shuK (k : Kp) (z : Nat) : Kp := { k with sp := Sp.dropT k.sp (z : Int), fo := Mo.leA k.fo (k.tb z), ht := fun s => if s = z then false else k.ht s }
theorem tabN_shu (k : Kp) (z m : Nat) : ∀ s, tabN (shuK k z) m s + (if z < s ∧ k.ht z = true then Mo.tc (k.tb z) m else 0) = tabN k m s
  | 0 => by rw [if_neg (fun c => absurd c.1 (Nat.not_lt_zero _))]; rfl
  | s + 1 => by
    have ih := tabN_shu k z m s
    show tabN (shuK k z) m s + (if (if s = z then false else k.ht s) = true then Mo.tc (k.tb s) m else 0) + _ = tabN k m s + _
    by_cases c : s = z
    · subst c
      rw [if_neg (fun c => by omega)] at ih
      rw [if_pos rfl, if_neg (by decide)]
      by_cases d : k.ht s = true
      · rw [if_pos ⟨by omega, d⟩, if_pos d]; omega
      · rw [if_neg (fun e => d e.2), if_neg d]; omega
    · rw [if_neg c]
      by_cases d : z < s ∧ k.ht z = true
      · rw [if_pos d] at ih
        rw [if_pos (show z < s + 1 ∧ k.ht z = true from ⟨by omega, d.2⟩)]; omega
      · rw [if_neg d] at ih
        rw [if_neg (show ¬ (z < s + 1 ∧ k.ht z = true) from fun e => d ⟨by omega, e.2⟩)]; omega
theorem KJ.shu (h : KJ X N k) {z : Nat} (hz : z < 6) (hh : k.sp.here z = true) (de : Sp.dropE k.sp (z : Int) = 0) : KJ X N (shuK k z) := by
  have ht : k.ht z = true := by rw [h.ht z hz]; exact hh
  have tx : ∀ m, tabX k m = tabX (shuK k z) m + Mo.tc (k.tb z) m := fun m => by
    have := tabN_shu k z m 6
    rw [if_pos ⟨hz, ht⟩] at this
    exact this.symm
  have rg := h.tb z hz ht
  have hi : Mo.HI k.fo (fun n => (Fx.cK k.fi 1 n 24 + tabX (shuK k z) n) + Mo.tc (k.tb z) n) := ⟨fun n hn => by rw [h.wx.hl n hn, tx n]; omega, fun n hn c kz => by
    have := h.wx.z0 n hn kz
    rw [h.wx.hl n hn, tx n] at this
    omega⟩
  have hl := Mo.leA_HI hi rg.1
  have e : (shuK k z).sp = { k.sp with here := Sp.upB k.sp.here z false, par := Sp.upI k.sp.par z 0 } := by show Sp.dropT k.sp (z : Int) = _; unfold Sp.dropT; rw [if_pos de, Int.toNat_natCast]
  refine ⟨?_, h.gr, h.si, h.sy, h.nw, h.me, ?_, h.rf, Mo.leA_ok h.ok, fun s hs q => ?_, h.st, h.hs, h.lv, fun n hn => ?_, fun s hs => ?_, h.nm⟩
  · obtain ⟨d, hd⟩ := h.sp; exact ⟨d, hd.drop _⟩
  · refine ⟨h.wx.no, h.wx.kd, fun n hn r k1 => ?_, h.wx.pn, h.wx.ps, fun m hm => hl.hd m hm, fun m hm kz => ?_, h.wx.rd, h.wx.wt⟩
    · have a := h.wx.nd n hn r k1
      refine ⟨a.1, ?_⟩
      have c1 := Fx.cK_ge (T := k.fi) (k := 1) (m := (k.fi n).num) hn
      have c2 := Fx.hit_one r
      rw [k1] at c2
      show ((Mo.leA k.fo (k.tb z)).nd (k.fi n).num).kind = 1
      have c3 : Fx.hit (k.fi n) 1 (k.fi n).num = 1 := c2
      rw [Mo.leA_kind (n := (k.fi n).num) (by rw [hl.hd _ a.1]; omega)]
      exact a.2
    · by_cases c : ((Mo.leA k.fo (k.tb z)).nd m).held = 0
      · exact c
      · exact absurd kz (hl.lv m hm (by rw [← hl.hd m hm]; omega))
  · have q2 : (if s = z then false else k.ht s) = true := q
    by_cases c : s = z
    · rw [if_pos c] at q2; cases q2
    · rw [if_neg c] at q2; exact h.tb s hs q2
  · rw [e]; exact h.of n hn
  · rw [e]
    show (if s = z then false else k.ht s) = if s = z then false else k.sp.here s
    by_cases c : s = z
    · rw [if_pos c, if_pos c]
    · rw [if_neg c, if_neg c]; exact h.ht s hs
end
end Kn
end Go.Proofs.YtghogbngmcolmaaGreat
namespace Go.Proofs.YtghogbngmcolmaaGreat
open Go.RowKit
open Tr (Fo Nd)
open Mv (Me Bk)
open Kn (Pr Kp St us KB KJ)
namespace Sp
def mem (t : T) (z m : Nat) : Prop := ∃ p, p < 21 ∧ t.who z p = m + 1
theorem Tree.sub {t : T} {d : Nat → Nat} (h : Tree t d) {n : Nat} (hn : n < 6) (hh : t.here n = true) : ∀ x, x ∈ W t (n : Int) → ∀ y, y ∈ W t (x : Int) → y ∈ W t (n : Int) := by
  refine h.ind (P := fun n => ∀ x, x ∈ W t (n : Int) → ∀ y, y ∈ W t (x : Int) → y ∈ W t (n : Int)) (fun n hn hh ih => ?_) n hn hh
  intro x hx y hy
  rw [h.step hn hh] at hx ⊢
  rcases List.mem_cons.1 hx with e | hx
  · subst e; rw [← h.step hn hh]; exact hy
  · rcases h.par_cases hn hh with ⟨_, e, _⟩ | ⟨p, h1, e, h2, h3⟩
    · rw [e, W_neg _ _ (by omega)] at hx; cases hx
    · rw [e] at hx ⊢
      exact List.mem_cons_of_mem _ (ih p h1 h2 e h3 x hx y hy)
section
variable {t : T} {d : Nat → Nat}
theorem Inv.mem_of (h : Inv t d) {z m : Nat} (hz : z < 6) (hm : m < 20) (k : mem t z m) : t.of m ≠ 0 ∧ z ∈ W t ((t.of m - 1 : Nat) : Int) := (h.has z m hz hm).1 k
theorem Inv.mem_self (h : Inv t d) {z m : Nat} (hm : m < 20) (ho : t.of m = z + 1) : mem t z m ∧ z < 6 ∧ t.here z = true := by
  have o := h.ofs m hm (by omega)
  rw [ho, show z + 1 - 1 = z by omega] at o
  have z6 : z < 6 := by omega
  refine ⟨(h.has z m z6 hm).2 ⟨by omega, ?_⟩, z6, o.2⟩
  rw [ho, show z + 1 - 1 = z by omega, h.tree.step z6 o.2]; simp
theorem Inv.mem_up (h : Inv t d) {z y m x : Nat} (hz : z < 6) (hm : m < 20) (hx : x < 20) (ho : t.of m = y + 1) (k : mem t z m) (kx : mem t y x) : mem t z x := by
  obtain ⟨_, y6, yh⟩ := h.mem_self hm ho
  have a := (h.mem_of hz hm k).2
  rw [ho, show y + 1 - 1 = y by omega] at a
  have b := h.mem_of y6 hx kx
  have o := h.ofs x hx b.1
  exact (h.has z x hz hx).2 ⟨b.1, h.tree.sub (by omega) o.2 y b.2 z a⟩
theorem memb_of {t : T} {z i x : Nat} (h : (memb t z)[i]? = some x) (hw : ∀ p, p < 21 → t.who z p ≤ 20) : x < 20 ∧ mem t z x := by
  have hm := List.mem_of_getElem? h
  unfold memb at hm
  obtain ⟨p, hp, e⟩ := List.mem_map.1 hm
  obtain ⟨h1, h2⟩ := List.mem_filter.1 hp
  have p21 : p < 21 := by simpa using h1
  have w0 : t.who z p ≠ 0 := by simpa [memP] using h2
  have := hw p p21
  exact ⟨by omega, p, p21, by omega⟩
theorem Inv.second (h : Inv t d) {z n : Nat} (hz : z < 6) (hw : t.who z 1 = n + 1) : (memb t z)[0]? = some n ∧ ∀ x, (memb t z)[1]? = some x → x ≠ n := by
  have e : ∃ L, memb t z = n :: L ∧ ∀ x, x ∈ L → ∃ p, p < 21 ∧ 2 ≤ p ∧ t.who z p ≠ 0 ∧ x = t.who z p - 1 := by
    unfold memb
    have r : List.range 21 = 0 :: 1 :: (List.range 19).map (· + 2) := by decide
    rw [r, List.filter_cons_of_neg (by simp [memP, h.who0 z hz]), List.filter_cons_of_pos (by simp [memP, hw]), List.map_cons]
    refine ⟨_, by rw [hw]; rfl, fun x hx => ?_⟩
    obtain ⟨p, hp, e⟩ := List.mem_map.1 hx
    obtain ⟨h1, h2⟩ := List.mem_filter.1 hp
    obtain ⟨q, hq, e2⟩ := List.mem_map.1 h1
    have q19 : q < 19 := by simpa using hq
    have e2' : q + 2 = p := e2
    exact ⟨p, by omega, by omega, by simpa [memP] using h2, e.symm⟩
  obtain ⟨L, e1, e2⟩ := e
  rw [e1]
  refine ⟨rfl, fun x hx => ?_⟩
  have hm : x ∈ L := List.mem_of_getElem? (i := 0) hx
  obtain ⟨p, p21, p2, pw, ex⟩ := e2 x hm
  intro c
  have : t.who z p = t.who z 1 := by omega
  have := h.one z p 1 hz p21 (by omega) this pw
  omega
theorem memb_one {t : T} {z n : Nat} (hw : t.who z 1 = n + 1) (hl : (memb t z).length ≤ 1) (p : Nat) (hp : p < 21) (h0 : t.who z p ≠ 0) : p = 1 := by
  by_cases c : p = 1
  · exact c
  · exfalso
    unfold memb at hl
    rw [List.length_map] at hl
    have s : [min p 1, max p 1].Sublist ((List.range 21).filter (memP t z)) := by
      have s1 : [min p 1, max p 1].Sublist (List.range 21) := by
        have a : min p 1 < max p 1 := by omega
        have b : max p 1 < 21 := by omega
        rw [show List.range 21 = List.range (max p 1) ++ (List.range (21 - max p 1)).map (max p 1 + ·) by rw [← List.range_add]; congr 1; omega]
        refine (List.Sublist.append (l₁ := [min p 1]) (r₁ := [max p 1]) ?_ ?_)
        · exact List.singleton_sublist.2 (by simpa using a)
        · exact List.singleton_sublist.2 (by simp; omega)
      have := s1.filter (memP t z)
      rw [List.filter_eq_self.2] at this
      · exact this
      · intro x hx
        simp only [List.mem_cons, List.not_mem_nil, or_false] at hx
        unfold memP
        rcases hx with e | e <;> rw [e] <;> apply decide_eq_true
        · by_cases q : p ≤ 1
          · rw [Nat.min_eq_left q]; exact h0
          · rw [Nat.min_eq_right (by omega)]; omega
        · by_cases q : p ≤ 1
          · rw [Nat.max_eq_right q]; omega
          · rw [Nat.max_eq_left (by omega)]; exact h0
    have := s.length_le
    simp at this
    omega
end
end Sp
namespace Kn
def IterN (R : Kp → Nat → Kp → Prop) (z : Int) : Nat → Kp → Kp → Prop
  | 0, k, k' => k' = k ∧ (membL k.sp z).length ≤ 1
  | j + 1, k, k' => ∃ m k1, (membL k.sp z)[1]? = some m ∧ R k m k1 ∧ IterN R z j k1 k'
def VanN : Nat → Kp → Nat → Kp → Prop
  | 0, _, _, _ => False
  | f + 1, k, n, k' => ∃ k1, (lv k n = true → StrTo k n k1) ∧ (lv k n = false → k1 = k) ∧ ((hd k n ≠ n ∧ k' = finK k1 n) ∨ (hd k n = n ∧ ∃ k2 j, IterN (VanN f) (Sp.inN k.sp (n : Int) : Int) j k1 k2 ∧ k' = shuK (finK k2 n) (Sp.inN k.sp (n : Int))))
structure Gz (k k' : Kp) (z : Nat) : Prop where
  kp : ∀ m, m < 20 → (k'.p m = k.p m ∧ k'.sp.of m = k.sp.of m) ∨ (k'.p m = Pr.no ∧ k'.sp.of m = 0 ∧ Sp.mem k.sp z m)
  wh : ∀ s p, s < 6 → p < 21 → k'.sp.who s p = k.sp.who s p ∨ k'.sp.who s p = 0
  wk : ∀ s p m, s < 6 → p < 21 → m < 20 → k.sp.who s p = m + 1 → k'.sp.of m ≠ 0 → k'.sp.who s p = m + 1
  hr : ∀ s, s < 6 → k'.sp.here s = true → k.sp.here s = true
  hk : ∀ s, s < 6 → k.sp.here s = true → k'.sp.here s = false → ∀ m, m < 20 → Sp.mem k.sp s m → k'.sp.of m = 0
section
variable {k k1 k2 : Kp} {z y : Nat}
theorem Gz.refl (k : Kp) (z : Nat) : Gz k k z := ⟨fun _ _ => .inl ⟨rfl, rfl⟩, fun _ _ _ _ => .inl rfl, fun _ _ _ _ _ _ e _ => e, fun _ _ e => e, fun _ _ a b => by rw [a] at b; cases b⟩
theorem Gz.back (h : Gz k k1 y) {s m : Nat} (hs : s < 6) (e : Sp.mem k1.sp s m) : Sp.mem k.sp s m := by
  obtain ⟨p, p21, pw⟩ := e
  rcases h.wh s p hs p21 with c | c
  · exact ⟨p, p21, by rw [← c]; exact pw⟩
  · rw [c] at pw; omega
theorem Gz.up (h : Gz k k1 y) (e : ∀ m, m < 20 → Sp.mem k.sp y m → Sp.mem k.sp z m) : Gz k k1 z := ⟨fun m hm => (h.kp m hm).imp id (fun c => ⟨c.1, c.2.1, e m hm c.2.2⟩), h.wh, h.wk, h.hr, h.hk⟩
theorem Gz.trans (hz : z < 6) (h : Gz k k1 z) (g : Gz k1 k2 z) : Gz k k2 z := by
  have no : Pr.no.st = 0 := rfl
  refine ⟨fun m hm => ?_, fun s p hs hp => ?_, fun s p m hs hp hm e c => ?_, fun s hs e => h.hr s hs (g.hr s hs e), fun s hs a b m hm e => ?_⟩
  · rcases g.kp m hm with c | c
    · rcases h.kp m hm with d | d
      · exact .inl ⟨c.1.trans d.1, c.2.trans d.2⟩
      · exact .inr ⟨c.1.trans d.1, c.2.trans d.2.1, d.2.2⟩
    · exact .inr ⟨c.1, c.2.1, h.back hz c.2.2⟩
  · rcases g.wh s p hs hp with c | c
    · rw [c]; exact h.wh s p hs hp
    · exact .inr c
  · have o1 : k1.sp.of m ≠ 0 := fun q => by
      rcases g.kp m hm with d | d
      · exact c (d.2.trans q)
      · exact c d.2.1
    exact g.wk s p m hs hp hm (h.wk s p m hs hp hm e o1) c
  · by_cases q : k1.sp.of m = 0
    · rcases g.kp m hm with d | d
      · exact d.2.trans q
      · exact d.2.1
    · have b1 : k1.sp.here s = true := by
        cases w : k1.sp.here s
        · exact absurd (h.hk s hs a w m hm e) q
        · rfl
      refine g.hk s hs b1 b m hm ?_
      obtain ⟨p, p21, pw⟩ := e
      exact ⟨p, p21, h.wk s p m hs p21 hm pw q⟩
end
structure VI (X : Nat → Prop) (N : Nat) (d : Nat → Nat) (k : Kp) : Prop where
  kj : KJ X N k
  iv : Sp.Inv k.sp d
  hs : Sp.HDs k.sp
theorem hd_eq {k : Kp} {d : Nat → Nat} (hI : Sp.Inv k.sp d) (hH : Sp.HDs k.sp) {n z : Nat} (hn : n < 20) (ho : k.sp.of n = z + 1) : hd k n = n ↔ k.sp.who z 1 = n + 1 := by
  obtain ⟨_, z6, zh⟩ := hI.mem_self hn ho
  obtain ⟨x, x20, xw, xo⟩ := hH.hd z z6 zh
  unfold hd
  rw [Sp.inN_of hn ho, Sp.find1 z6 zh xw, xw]
  omega
theorem StrTo.pne {k k' : Kp} {n m : Nat} (hs : StrTo k n k') (c : m ≠ n) : k'.p m = k.p m := by
  obtain ⟨m', _, rfl⟩ := hs
  have a : ∀ (k : Kp) (fd : Nat → Int) j, (Kn.strF k n fd j).p m = k.p m := fun k fd j => by
    induction j with
    | zero => rfl
    | succ j ih =>
      show (if fd j = -1 then _ else _ : Kp).p m = _
      split
      · exact ih
      · show (fdK _ n j (-1)).p m = _
        unfold fdK
        rw [put_ne _ _ _ _ c]; exact ih
  have b : (unmK k n 0 16).p m = k.p m := by
    unfold unmK
    split
    · show (memK k n _ (Mv.unK (k.p n).mem k.bk 0 16)).p m = _
      exact put_ne _ _ _ _ c
    · rfl
  unfold strK
  dsimp only
  rw [put_ne _ _ _ _ c]
  exact (a _ _ 6).trans b
section
variable {X : Nat → Prop} {N : Nat} {d : Nat → Nat} {k k1 k' : Kp} {n z : Nat}
theorem VI.first (h : VI X N d k) (hn : n < 20) (hX : ¬ X n) (ho : k.sp.of n = z + 1) (h1 : lv k n = true → StrTo k n k1) (h2 : lv k n = false → k1 = k) :
    VI (fun m => X m ∨ m = n) N d k1 ∧ k1.sp = k.sp ∧ k1.tb = k.tb ∧ (k1.p n).has = false ∧ (k1.p n).st ≠ 0 ∧ ∀ m, m ≠ n → k1.p m = k.p m := by
  have s0 : (k.p n).st ≠ 0 := (h.kj.of n hn).1 (by omega)
  cases c : lv k n
  · have := h2 c
    subst this
    have hh : (k1.p n).has = false := by
      cases e : (k1.p n).has
      · rfl
      · have := h.kj.hs n hn e
        unfold lv at c
        rw [this] at c; cases c
    exact ⟨⟨h.kj.mono (fun _ _ e => .inl e) (Nat.le_refl _), h.iv, h.hs⟩, rfl, rfl, hh, s0, fun _ _ => rfl⟩
  · have st := h1 c
    have s1 : (k.p n).st = 1 := by unfold lv at c; simpa using c
    have hh := h.kj.lv n hn hX s1
    have sp := st.sp
    have hf : (k1.p n).has = false := by
      obtain ⟨m', _, rfl⟩ := st
      unfold strK
      dsimp only
      rw [put_same]
    refine ⟨⟨h.kj.str hn hh st, by rw [sp.1]; exact h.iv, by rw [sp.1]; exact h.hs⟩, sp.1, sp.2.2, hf, by rw [(st.p n).1]; exact s0, fun m e => st.pne e⟩
theorem VI.lone (h : VI X N d k) (hn : n < 20) (n0 : n ≠ 0) (hX : ¬ X n) (ho : k.sp.of n = z + 1) (hd1 : hd k n ≠ n) (h1 : lv k n = true → StrTo k n k1) (h2 : lv k n = false → k1 = k) : VI X N d (finK k1 n) ∧ Gz k (finK k1 n) z ∧ (finK k1 n).p n = Pr.no ∧ ∀ x, x < 20 → x ≠ n → (finK k1 n).p x = k.p x ∧ (finK k1 n).sp.of x = k.sp.of x := by
  obtain ⟨a, sp, tb, hh, s0, oth⟩ := h.first hn hX ho h1 h2
  have o1 : k1.sp.of n = z + 1 := by rw [sp]; exact ho
  have o : k1.sp.of n ≠ 0 := by omega
  have wn : k1.sp.who z 1 ≠ n + 1 := fun e => hd1 ((hd_eq h.iv h.hs hn ho).2 (by rw [← sp]; exact e))
  have e1 : ∀ m, m ≠ n → (finK k1 n).p m = k.p m := fun m c => (show (finK k1 n).p m = k1.p m from put_ne _ _ _ _ c).trans (oth m c)
  have e2 : (finK k1 n).p n = Pr.no := put_same _ _ _
  have kj := (a.kj.fin hn s0 hh).mono (Y := X) (M := N) (fun m _ e => e.1.elim id (fun q => absurd q e.2)) (Nat.le_refl _)
  refine ⟨⟨kj, a.iv.leave _, a.hs.leave hn n0 o1 wn⟩, ⟨fun m hm => ?_, fun s p hs hp => ?_, fun s p m hs hp hm e c => ?_, fun s hs e => ?_, fun s hs q r => ?_⟩, e2, fun x _ c => ⟨e1 x c, by show (Sp.leaT k1.sp (n : Int)).of x = _; rw [Sp.lea_of hn o, if_neg c, sp]⟩⟩
  · by_cases c : m = n
    · subst c
      refine .inr ⟨e2, ?_, (h.iv.mem_self hn ho).1⟩
      show (Sp.leaT k1.sp (m : Int)).of m = 0
      rw [Sp.lea_of hn o, if_pos rfl]
    · refine .inl ⟨e1 m c, ?_⟩
      show (Sp.leaT k1.sp (n : Int)).of m = _
      rw [Sp.lea_of hn o, if_neg c, sp]
  · show (Sp.leaT k1.sp (n : Int)).who s p = _ ∨ (Sp.leaT k1.sp (n : Int)).who s p = 0
    rw [Sp.lea_who hn o hs, sp]
    by_cases c : k.sp.who s p = n + 1
    · rw [if_pos c]; exact .inr rfl
    · rw [if_neg c]; exact .inl rfl
  · have c2 : (Sp.leaT k1.sp (n : Int)).of m ≠ 0 := c
    rw [Sp.lea_of hn o] at c2
    show (Sp.leaT k1.sp (n : Int)).who s p = _
    by_cases q : m = n
    · rw [if_pos q] at c2; exact absurd rfl c2
    · rw [Sp.lea_who hn o hs, sp, if_neg (by omega)]; exact e
  · have e3 : (Sp.leaT k1.sp (n : Int)).here s = true := e
    rw [(Sp.lea_here hn o).1, sp] at e3; exact e3
  · have e3 : (Sp.leaT k1.sp (n : Int)).here s = false := r
    rw [(Sp.lea_here hn o).1, sp] at e3
    rw [q] at e3; cases e3
end
end Kn
end Go.Proofs.YtghogbngmcolmaaGreat
namespace Go.Proofs.YtghogbngmcolmaaGreat
open Go.RowKit
open Tr (Fo Nd)
open Mv (Me Bk)
open Kn (Pr Kp St us KB KJ)
namespace Sp
variable {t : T} {d : Nat → Nat}
theorem Tree.lower (h : Tree t d) {z y : Nat} (hz : z < 6) (hh : t.here z = true) (hy : y ∈ W t (z : Int)) (n : y ≠ z) : d y < d z := by
  rw [h.step hz hh] at hy
  rcases List.mem_cons.1 hy with e | hy
  · exact absurd e n
  · rcases h.par_cases hz hh with ⟨_, e, _⟩ | ⟨p, h1, e, h2, h3⟩
    · rw [e, W_neg _ _ (by omega)] at hy; cases hy
    · rw [e] at hy
      have := (h.mem h1 h2 y hy).2.2
      omega
theorem Inv.zero (h : Inv t d) (hH : HDs t) {z n : Nat} (hz : z < 6) (hw : t.who z 1 = n + 1) (n0 : n ≠ 0) : ¬ mem t z 0 := fun c => by
  have a := (h.mem_of hz (by omega) c).2
  rw [hH.r0.1] at a
  rw [show ((1 - 1 : Nat) : Int) = ((0 : Nat) : Int) from rfl, h.tree.step (by omega) h.tree.root.1, h.tree.root.2.1, W_neg _ _ (by omega)] at a
  have : z = 0 := by simpa using a
  subst this
  have := hH.r0.2
  omega
theorem Inv.not_below (h : Inv t d) {z y n m : Nat} (hn : n < 20) (hm : m < 20) (ho : t.of n = z + 1) (hy : t.of m = y + 1) (k : mem t z m) (c : y ≠ z) : ¬ mem t y n := fun e => by
  obtain ⟨_, z6, zh⟩ := h.mem_self hn ho
  obtain ⟨_, y6, yh⟩ := h.mem_self hm hy
  have a := (h.mem_of z6 hm k).2
  rw [hy, show y + 1 - 1 = y by omega] at a
  have b := (h.mem_of y6 hn e).2
  rw [ho, show z + 1 - 1 = z by omega] at b
  have := h.tree.lower y6 yh a (Ne.symm c)
  have := h.tree.lower z6 zh b c
  omega
end Sp
namespace Kn
def VanOk (N : Nat) (d : Nat → Nat) (R : Kp → Nat → Kp → Prop) : Prop := ∀ (X : Nat → Prop) (k : Kp) (n : Nat) (k' : Kp) (z : Nat), VI X N d k → n < 20 → n ≠ 0 → ¬ X n → k.sp.of n = z + 1 → (hd k n = n → ∀ m, m < 20 → X m → ¬ Sp.mem k.sp z m) → R k n k' → VI X N d k' ∧ Gz k k' z ∧ k'.p n = Pr.no ∧ (hd k n ≠ n → ∀ x, x < 20 → x ≠ n → k'.p x = k.p x ∧ k'.sp.of x = k.sp.of x)
structure EI (X : Nat → Prop) (N : Nat) (d : Nat → Nat) (n z : Nat) (k : Kp) : Prop where
  vi : VI X N d k
  hn : n < 20
  n0 : n ≠ 0
  xn : X n
  ho : k.sp.of n = z + 1
  hw : k.sp.who z 1 = n + 1
  hx : ∀ m, m < 20 → X m → m ≠ n → ¬ Sp.mem k.sp z m
section
variable {X : Nat → Prop} {N : Nat} {d : Nat → Nat} {k k1 k2 k' : Kp} {n z m : Nat} {R : Kp → Nat → Kp → Prop}
theorem EI.z6 (h : EI X N d n z k) : z < 6 ∧ k.sp.here z = true := (h.vi.iv.mem_self h.hn h.ho).2
theorem EI.memb (h : EI X N d n z k) : membL k.sp (z : Int) = Sp.memb k.sp z := by
  unfold membL
  rw [Sp.isE_nat h.z6.1 h.z6.2, if_pos rfl, Int.toNat_natCast]
theorem EI.next (h : EI X N d n z k) (hm : (membL k.sp (z : Int))[1]? = some m) : m < 20 ∧ m ≠ 0 ∧ m ≠ n ∧ ¬ X m ∧ Sp.mem k.sp z m ∧ ∃ y, k.sp.of m = y + 1 ∧ (hd k m = m → ∀ x, x < 20 → X x → ¬ Sp.mem k.sp y x) := by
  rw [h.memb] at hm
  obtain ⟨m20, mz⟩ := Sp.memb_of hm (fun p hp => h.vi.iv.wle z p h.z6.1 hp)
  have mn := (h.vi.iv.second h.z6.1 h.hw).2 m hm
  have m0 : m ≠ 0 := fun e => by subst e; exact h.vi.iv.zero h.vi.hs h.z6.1 h.hw h.n0 mz
  have o := (h.vi.iv.mem_of h.z6.1 m20 mz).1
  refine ⟨m20, m0, mn, fun c => h.hx m m20 c mn mz, mz, k.sp.of m - 1, by omega, fun hd1 x x20 xx xm => ?_⟩
  have hy : k.sp.of m = (k.sp.of m - 1) + 1 := by omega
  by_cases e : x = n
  · subst e
    refine h.vi.iv.not_below h.hn m20 h.ho hy mz (fun c => ?_) xm
    have := (hd_eq h.vi.iv h.vi.hs m20 hy).1 hd1
    rw [c, h.hw] at this
    omega
  · exact h.hx x x20 xx e (h.vi.iv.mem_up h.z6.1 m20 x20 hy mz xm)
theorem EI.step (h : EI X N d n z k) (hm : (membL k.sp (z : Int))[1]? = some m) (hR : VanOk N d R) (r : R k m k1) : EI X N d n z k1 ∧ Gz k k1 z ∧ k1.p n = k.p n ∧ k1.p m = Pr.no := by
  obtain ⟨m20, m0, mn, mx, mz, y, hy, hx⟩ := h.next hm
  obtain ⟨v1, g1, e1, l1⟩ := hR X k m k1 y h.vi m20 m0 mx hy hx r
  have kn : k1.p n = k.p n ∧ k1.sp.of n = k.sp.of n := by
    by_cases c : hd k m = m
    · rcases g1.kp n h.hn with q | q
      · exact q
      · exact absurd q.2.2 (hx c n h.hn h.xn)
    · exact l1 c n h.hn (Ne.symm mn)
  have o1 : k1.sp.of n = z + 1 := kn.2.trans h.ho
  have g : Gz k k1 z := g1.up (fun x x20 xm => h.vi.iv.mem_up h.z6.1 m20 x20 hy mz xm)
  exact ⟨⟨v1, h.hn, h.n0, h.xn, o1, g.wk z 1 n h.z6.1 (by omega) h.hn h.hw (by omega), fun x x20 xx xn c => h.hx x x20 xx xn (g.back h.z6.1 c)⟩, g, kn.1, e1⟩
theorem EI.iter (hR : VanOk N d R) : ∀ (j : Nat) (k : Kp), EI X N d n z k → IterN R (z : Int) j k k' → EI X N d n z k' ∧ Gz k k' z ∧ k'.p n = k.p n ∧ (membL k'.sp (z : Int)).length ≤ 1
  | 0, k, h, r => by
    obtain ⟨rfl, hl⟩ := r
    exact ⟨h, Gz.refl _ _, rfl, hl⟩
  | j + 1, k, h, r => by
    obtain ⟨m, k1, hm, r1, r2⟩ := r
    obtain ⟨a, g, e, _⟩ := h.step hm hR r1
    obtain ⟨a2, g2, e2, l2⟩ := EI.iter hR j k1 a r2
    exact ⟨a2, g.trans h.z6.1 g2, e2.trans e, l2⟩
theorem EI.last (h : EI (fun m => X m ∨ m = n) N d n z k) (hX : ¬ X n) (hl : (membL k.sp (z : Int)).length ≤ 1) (hh : (k.p n).has = false) (s0 : (k.p n).st ≠ 0) :
    VI X N d (shuK (finK k n) z) ∧ Gz k (shuK (finK k n) z) z ∧ (shuK (finK k n) z).p n = Pr.no ∧ Sp.dropE (finK k n).sp (z : Int) = 0 := by
  have o : k.sp.of n ≠ 0 := by have := h.ho; omega
  have hn := h.hn
  rw [h.memb] at hl
  obtain ⟨de, hs⟩ := h.vi.hs.shut h.vi.iv hn h.n0 h.ho h.z6.1 h.z6.2 h.hw (Sp.memb_one h.hw hl)
  have kj := (h.vi.kj.fin hn s0 hh).mono (Y := X) (M := N) (fun m _ e => e.1.elim id (fun q => absurd q e.2)) (Nat.le_refl _)
  have hr : (finK k n).sp.here z = true := by show (Sp.leaT k.sp (n : Int)).here z = true; rw [(Sp.lea_here hn o).1]; exact h.z6.2
  have e1 : ∀ m, m ≠ n → (shuK (finK k n) z).p m = k.p m := fun m c => put_ne _ _ _ _ c
  have e2 : (shuK (finK k n) z).p n = Pr.no := put_same _ _ _
  have es : (shuK (finK k n) z).sp = { Sp.leaT k.sp (n : Int) with here := Sp.upB (Sp.leaT k.sp (n : Int)).here z false, par := Sp.upI (Sp.leaT k.sp (n : Int)).par z 0 } := by
    show Sp.dropT (Sp.leaT k.sp (n : Int)) (z : Int) = _
    unfold Sp.dropT
    rw [if_pos de, Int.toNat_natCast]
  refine ⟨⟨kj.shu h.z6.1 hr de, (h.vi.iv.leave _).drop _, hs⟩, ⟨fun m hm => ?_, fun s p hs hp => ?_, fun s p m hs hp hm e c => ?_, fun s hs e => ?_, fun s hs q r m hm mm => ?_⟩, e2, de⟩
  · rw [es]
    show (_ ∧ (Sp.leaT k.sp (n : Int)).of m = _) ∨ (_ ∧ (Sp.leaT k.sp (n : Int)).of m = 0 ∧ _)
    rw [Sp.lea_of hn o]
    by_cases c : m = n
    · subst c
      exact .inr ⟨e2, if_pos rfl, (h.vi.iv.mem_self hn h.ho).1⟩
    · exact .inl ⟨e1 m c, if_neg c⟩
  · rw [es]
    show (Sp.leaT k.sp (n : Int)).who s p = _ ∨ (Sp.leaT k.sp (n : Int)).who s p = 0
    rw [Sp.lea_who hn o hs]
    by_cases c : k.sp.who s p = n + 1
    · rw [if_pos c]; exact .inr rfl
    · rw [if_neg c]; exact .inl rfl
  · rw [es] at c ⊢
    have c2 : (Sp.leaT k.sp (n : Int)).of m ≠ 0 := c
    rw [Sp.lea_of hn o] at c2
    show (Sp.leaT k.sp (n : Int)).who s p = _
    by_cases q : m = n
    · rw [if_pos q] at c2; exact absurd rfl c2
    · rw [Sp.lea_who hn o hs, if_neg (by omega)]; exact e
  · rw [es] at e
    have e3 : (if s = z then false else (Sp.leaT k.sp (n : Int)).here s) = true := e
    by_cases c : s = z
    · rw [if_pos c] at e3; cases e3
    · rw [if_neg c, (Sp.lea_here hn o).1] at e3; exact e3
  · rw [es] at r ⊢
    have e3 : (if s = z then false else (Sp.leaT k.sp (n : Int)).here s) = false := r
    by_cases c : s = z
    · subst c
      obtain ⟨p, p21, pw⟩ := mm
      have p1 := Sp.memb_one h.hw hl p p21 (by omega)
      subst p1
      have : m = n := by have := h.hw; omega
      subst this
      show (Sp.leaT k.sp (m : Int)).of m = 0
      rw [Sp.lea_of hn o, if_pos rfl]
    · rw [if_neg c, (Sp.lea_here hn o).1, q] at e3; cases e3
theorem van_ok : ∀ f, VanOk N d (VanN f)
  | 0 => fun _ _ _ _ _ _ _ _ _ _ _ r => r.elim
  | f + 1 => fun X k n k' z h hn n0 hX ho hx r => by
    obtain ⟨k1, h1, h2, r⟩ := r
    rcases r with ⟨c, rfl⟩ | ⟨c, k2, j, ri, rfl⟩
    · obtain ⟨a, b, e, l⟩ := h.lone hn n0 hX ho c h1 h2
      exact ⟨a, b, e, fun _ => l⟩
    · obtain ⟨a, sp, tb, hh, s0, oth⟩ := h.first hn hX ho h1 h2
      have zi : Sp.inN k.sp (n : Int) = z := Sp.inN_of hn ho
      rw [zi] at ri ⊢
      have ei : EI (fun m => X m ∨ m = n) N d n z k1 := ⟨a, hn, n0, .inr rfl, by rw [sp]; exact ho, by rw [sp]; exact (hd_eq h.iv h.hs hn ho).1 c, fun m m20 xm mn mz => by
        rw [sp] at mz
        exact hx c m m20 (xm.elim id (fun q => absurd q mn)) mz⟩
      obtain ⟨b, g, e, l⟩ := EI.iter (van_ok f) j k1 ei ri
      obtain ⟨v, g2, e2, _⟩ := b.last hX l (by rw [e]; exact hh) (by rw [e]; exact s0)
      have gg := g.trans ei.z6.1 g2
      refine ⟨v, ⟨fun m hm => ?_, fun s p hs hp => ?_, fun s p m hs hp hm => ?_, fun s hs => ?_, fun s hs => ?_⟩, e2, fun q => absurd c q⟩
      · by_cases q : m = n
        · subst q
          rcases gg.kp m hm with w | w
          · rcases g2.kp m hm with y | y
            · exfalso
              have : (k2.p m) = Pr.no := y.1.symm.trans e2
              rw [← e, this] at s0
              exact s0 rfl
            · exact .inr ⟨e2, y.2.1, (h.iv.mem_self hm ho).1⟩
          · exact .inr ⟨w.1, w.2.1, by rw [← sp]; exact w.2.2⟩
        · have := gg.kp m hm
          rw [oth m q, sp] at this
          exact this
      · have := gg.wh s p hs hp; rw [sp] at this; exact this
      · have := gg.wk s p m hs hp hm; rw [sp] at this; exact this
      · have := gg.hr s hs; rw [sp] at this; exact this
      · have := gg.hk s hs; rw [sp] at this; exact this
end
end Kn
end Go.Proofs.YtghogbngmcolmaaGreat
namespace Go.Proofs.YtghogbngmcolmaaGreat
open Go.RowKit
open Tr (Fo Nd)
open Mo (Wh Mt)
open Mv (Me Bk)
open Kn (Pr Kp St us KB KJ)
def prA (a b : Nat) (x : Pr) : Array Value := ((List.range 12).map fun j => Kn.pcx a b x j).toArray
theorem prA_size (a b : Nat) (x : Pr) : (prA a b x).size = 12 := by simp [prA]
theorem prA_at (a b : Nat) (x : Pr) (j : Nat) (h : j < 12) : (prA a b x)[j]? = some (Kn.pcx a b x j) := by simp [prA, h]
theorem pcx_one (a b : Nat) (x : Pr) (j : Nat) : (Kn.pcx a b x j).oneCell' = true := by
  unfold Kn.pcx Kn.ptr
  repeat' split
  all_goals rfl
theorem prA_one (a b : Nat) (x : Pr) : (prA a b x).all (·.oneCell') = true := Array.all_eq_true_iff_forall_mem.2 (fun v hv => by
  unfold prA at hv
  rw [List.mem_toArray] at hv
  obtain ⟨j, _, rfl⟩ := List.mem_map.1 hv
  exact pcx_one a b x j)
theorem prA_no (a b : Nat) : prA a b Pr.no = #[.int .i64 0, .int .i64 0, .int .i64 0, .int .i64 0, .pointer none, .pointer none, .int .i64 0, .int .i64 0, .int .i64 0, .int .i64 0, .int .i64 0, .int .i64 0] := rfl
section
variable {w w' : World} {base : Nat} {s : St}
theorem KKt.there (h : KKt w base s) {n : Nat} (hn : n < 20) : w.there (s.A 0) (n * 12) 12 := fun j hj => ⟨by rw [h.cP n j hn hj]; rfl, h.frozen _⟩
theorem KKt.whole (h : KKt w base s) {n : Nat} (hn : n < 20) {x : Pr} (h1 : (s.k.p n).has = false) (h2 : x.has = false) (a b : Nat) :
    KKt (w.setCells (s.A 0) (n * 12) (prA a b x).toList) base { s with k := s.k.put n x } ∧ KF s w { s with k := s.k.put n x } (w.setCells (s.A 0) (n * 12) (prA a b x).toList) := by
  obtain ⟨C, e, sz⟩ := h.ker
  obtain ⟨C', e', sz'⟩ := heap_setCells_blk (s.A 0) (prA a b x).toList (n * 12) w C e
  have hl : (prA a b x).toList.length = 12 := by rw [Array.length_toList, prA_size]
  have f : Frm (s.A 0) w (w.setCells (s.A 0) (n * 12) (prA a b x).toList) := Frm.setCells _ _ (Frm.refl _ _)
  have pcn : ∀ c d j, Kn.pcx c d x j = Kn.pcx a b x j := fun c d j => by
    unfold Kn.pcx
    rw [h2]
    rfl
  have cel : ∀ o, o < 253 → (w.setCells (s.A 0) (n * 12) (prA a b x).toList).cell? ⟨s.A 0, o, none⟩ = some (Kn.kc { s with k := s.k.put n x } o) := fun o ho => by
    rw [Kn.kc_put]
    by_cases c : o < 240 ∧ o / 12 = n
    · rw [if_pos c, pcn]
      obtain ⟨j, rfl, hj⟩ : ∃ j, o = n * 12 + j ∧ j < 12 := ⟨o % 12, by omega, by omega⟩
      rw [World.cell?_setCells_in (s.A 0) (prA a b x).toList (n * 12) w (fun i hi => by rw [hl] at hi; rw [h.cP n i hn hi]; rfl) j (by omega), ← List.getElem?_eq_getElem (by omega), Array.getElem?_toList, prA_at a b x j hj, show (n * 12 + j) % 12 = j by omega]
    · rw [if_neg c, World.cell?_setCells_out (s.A 0) _ (n * 12) w ⟨s.A 0, o, none⟩ (fun _ _ => by rw [hl]; show o < _ ∨ _ ≤ o; omega)]
      exact h.cel o ho
  have o := h.others (us9 (by omega)) f
  have hp : ∀ j, ((s.k.put n x).p j).has = true → j ≠ n ∧ (s.k.put n x).p j = s.k.p j := fun j hj => by
    by_cases c : j = n
    · subst c; rw [Kn.put_same, h2] at hj; cases hj
    · exact ⟨c, Kn.put_ne _ _ _ _ c⟩
  have pu := Kn.us_put1 (s := s) (n := n) (x := x) (h2.trans h1.symm)
  refine ⟨⟨⟨C', e', by omega⟩, cel, h.sp.same (o 1 (us9 (by omega)) (by omega)), (o 2 (us9 (by omega)) (by omega)).trans h.gr, h.sc.same (o 3 (us9 (by omega)) (by omega)), h.bk.same (o 4 (us9 (by omega)) (by omega)) (o 5 (us9 (by omega)) (by omega)), h.fi.same (o 8 (us9 (by omega)) (by omega)), h.fo.same (o 6 (us9 (by omega)) (by omega)), h.pi.same (o 7 (us9 (by omega)) (by omega)),
    fun j hj jh => ?_, fun j hj jh => ?_,
    fun n hn hh => (h.tb n hn hh).same (o _ (Kn.us_t hn hh) (by omega)) (fun g eg => by have := o _ (Kn.us_r hn hh eg) (by omega); rwa [h.ro n hn hh g eg] at this), h.ro, fun i j hi hj => h.inj i j ((pu i).1 hi) ((pu j).1 hj), fun i hi => h.low i ((pu i).1 hi)⟩, KF.one _ (us9 (by omega)) f rfl (fun i hi => (pu i).1 hi)⟩
  · have q := hp j jh
    rw [q.2] at jh ⊢
    exact (h.me j hj jh).same (o _ (Kn.us_m hj jh) (by omega))
  · have q := hp j jh
    rw [q.2] at jh ⊢
    exact (h.bx j hj jh).same (o _ (Kn.us_b hj jh) (by omega))
theorem KKt.shutT (h : KKt w base s) {z : Nat} (hz : z < 6) (hh : s.k.ht z = true) {F : Fo} (u : FAt w' (s.A 6) F) (k : Onl (BF (s.A (49 + z)) (s.A 6)) w w') :
    KKt (w'.setCell ⟨s.A 0, 240 + z, none⟩ (.pointer none)) base { s with k := { s.k with fo := F, ht := fun x => if x = z then false else s.k.ht x } } ∧ KF s w { s with k := { s.k with fo := F, ht := fun x => if x = z then false else s.k.ht x } } (w'.setCell ⟨s.A 0, 240 + z, none⟩ (.pointer none)) := by
  have ut := Kn.us_t hz hh
  have o : ∀ i, us s i → i ≠ 49 + z → i ≠ 6 → w'.heap[s.A i]? = w.heap[s.A i]? := fun i hi a b => k.block _ (h.lt hi) (fun c => by
    rcases c with c | c
    · exact h.ne hi ut a c
    · exact h.ne hi (us9 (by omega)) b c)
  have sb : ∀ i, us s i → i ≠ 0 → (w'.setCell ⟨s.A 0, 240 + z, none⟩ (.pointer none)).heap[s.A i]? = w'.heap[s.A i]? := fun i hi a => setBlk _ _ _ _ (h.ne hi (us9 (by omega)) a)
  have oo : ∀ i, us s i → i ≠ 0 → i ≠ 49 + z → i ≠ 6 → (w'.setCell ⟨s.A 0, 240 + z, none⟩ (.pointer none)).heap[s.A i]? = w.heap[s.A i]? := fun i hi a b c => (sb i hi a).trans (o i hi b c)
  obtain ⟨C, e, sz⟩ := h.ker
  have e1 : w'.heap[s.A 0]? = some (.cells C 77 (0, 0)) := (o 0 (us9 (by omega)) (by omega) (by omega)).trans e
  have pu : ∀ i, us { s with k := { s.k with fo := F, ht := fun x => if x = z then false else s.k.ht x } } i → us s i ∧ i ≠ 49 + z ∧ i ≠ 55 + z := fun i hi => by
    rcases hi with hi | ⟨h1, h2, h3⟩ | ⟨h1, h2, h3⟩ | ⟨h1, h2, h3⟩ | ⟨h1, h2, h3, h4⟩
    · exact ⟨.inl hi, by omega, by omega⟩
    · exact ⟨.inr (.inl ⟨h1, h2, h3⟩), by omega, by omega⟩
    · exact ⟨.inr (.inr (.inl ⟨h1, h2, h3⟩)), by omega, by omega⟩
    · have h5 : (if i - 49 = z then false else s.k.ht (i - 49)) = true := h3
      by_cases c : i - 49 = z
      · rw [if_pos c] at h5; cases h5
      · rw [if_neg c] at h5; exact ⟨.inr (.inr (.inr (.inl ⟨h1, h2, h5⟩))), by omega, by omega⟩
    · have h5 : (if i - 55 = z then false else s.k.ht (i - 55)) = true := h3
      by_cases c : i - 55 = z
      · rw [if_pos c] at h5; cases h5
      · rw [if_neg c] at h5; exact ⟨.inr (.inr (.inr (.inr ⟨h1, h2, h5, h4⟩))), by omega, by omega⟩
  have hq : ∀ n, (if n = z then false else s.k.ht n) = true → n ≠ z ∧ s.k.ht n = true := fun n q => by
    by_cases c : n = z
    · rw [if_pos c] at q; cases q
    · rw [if_neg c] at q; exact ⟨c, q⟩
  refine ⟨⟨⟨_, blk_set e1 _ _, by simpa using sz⟩, fun x hx => ?_, h.sp.same (oo 1 (us9 (by omega)) (by omega) (by omega) (by omega)), (oo 2 (us9 (by omega)) (by omega) (by omega) (by omega)).trans h.gr, h.sc.same (oo 3 (us9 (by omega)) (by omega) (by omega) (by omega)), h.bk.same (oo 4 (us9 (by omega)) (by omega) (by omega) (by omega)) (oo 5 (us9 (by omega)) (by omega) (by omega) (by omega)), h.fi.same (oo 8 (us9 (by omega)) (by omega) (by omega) (by omega)), u.same (sb 6 (us9 (by omega)) (by omega)), h.pi.same (oo 7 (us9 (by omega)) (by omega) (by omega) (by omega)),
    fun n hn hh => (h.me n hn hh).same (oo _ (Kn.us_m hn hh) (by omega) (by omega) (by omega)), fun n hn hh => (h.bx n hn hh).same (oo _ (Kn.us_b hn hh) (by omega) (by omega) (by omega)),
    fun n hn q => ?_, fun n hn q => h.ro n hn (hq n q).2, fun i j hi hj => h.inj i j (pu i hi).1 (pu j hj).1, fun i hi => h.low i (pu i hi).1⟩,
    ⟨(k.mono (fun b _ c => by
      rcases c with c | c
      · exact ⟨_, ut, c⟩
      · exact ⟨6, us9 (by omega), c⟩)).setCell ⟨0, us9 (by omega), rfl⟩ _ _, fun b ⟨i, hi, eb⟩ => .inl ⟨i, (pu i hi).1, eb⟩, rfl⟩⟩
  · by_cases c : x = 240 + z
    · subst c
      rw [cell_set_same e1 _ _ (by omega)]
      unfold Kn.kc
      rw [if_neg (by omega), if_pos (by omega), show 240 + z - 240 = z by omega]
      show _ = some (Kn.ptr _ (if z = z then false else _))
      rw [if_pos rfl]; rfl
    · rw [cell_set_ne e1 _ _ _ (Ne.symm c), cell_blk e1, ← cell_blk e, h.cel x hx]
      unfold Kn.kc
      by_cases c1 : x < 240
      · rw [if_pos c1, if_pos c1]; rfl
      · rw [if_neg c1, if_neg c1]
        by_cases c2 : x < 246
        · rw [if_pos c2, if_pos c2]
          have hy : x - 240 ≠ z := by omega
          generalize x - 240 = y at hy ⊢
          show some (Kn.ptr (s.A (49 + y)) (s.k.ht y)) = some (Kn.ptr (s.A (49 + y)) (if y = z then false else s.k.ht y))
          rw [if_neg hy]
        · rw [if_neg c2, if_neg c2]
  · have q2 := hq n q
    exact (h.tb n hn q2.2).same (oo _ (Kn.us_t hn q2.2) (by omega) (by omega) (by omega)) (fun g eg => by have := oo _ (Kn.us_r hn q2.2 eg) (by omega) (by omega) (by omega); rwa [h.ro n hn q2.2 g eg] at this)
end
theorem filt_lt {P Q : Nat → Bool} (h : ∀ x, P x = true → Q x = true) {a : Nat} (hQ : Q a = true) (hP : P a = false) : ∀ n, a < n → ((List.range n).filter P).length < ((List.range n).filter Q).length := by
  have le : ∀ n, ((List.range n).filter P).length ≤ ((List.range n).filter Q).length := fun n => by
    induction n with
    | zero => exact Nat.le_refl _
    | succ n ih =>
      rw [List.range_succ, List.filter_append, List.filter_append, List.length_append, List.length_append]
      cases hp : P n
      · simp [hp]; omega
      · simp [hp, h n hp]; omega
  intro n
  induction n with
  | zero => intro c; omega
  | succ n ih =>
    intro c
    rw [List.range_succ, List.filter_append, List.filter_append, List.length_append, List.length_append]
    by_cases e : a = n
    · subst e
      have := le a
      simp [hP, hQ]; omega
    · have := ih (by omega)
      cases hp : P n
      · simp [hp]; omega
      · simp [hp, h n hp]; omega
namespace Kn
theorem EI.fewer {X : Nat → Prop} {N : Nat} {d : Nat → Nat} {k k1 : Kp} {n z m : Nat} (h : EI X N d n z k) (h1 : EI X N d n z k1) (g : Gz k k1 z) (m20 : m < 20) (mz : Sp.mem k.sp z m) (e : k1.p m = Pr.no) : (membL k1.sp (z : Int)).length < (membL k.sp (z : Int)).length := by
  rw [h.memb, h1.memb]
  unfold Sp.memb
  rw [List.length_map, List.length_map]
  obtain ⟨p, p21, pw⟩ := mz
  have o : k1.sp.of m = 0 := by
    cases q : k1.sp.of m with
    | zero => rfl
    | succ y => exact absurd (show (k1.p m).st = 0 by rw [e]; rfl) ((h1.vi.kj.of m m20).1 (by rw [q]; omega))
  have w0 : k1.sp.who z p = 0 := by
    rcases g.wh z p h.z6.1 p21 with c | c
    · exact absurd o (h1.vi.iv.mem_of h1.z6.1 m20 ⟨p, p21, by rw [c]; exact pw⟩).1
    · exact c
  have key : ∀ q, (Sp.memP k1.sp z q && decide (q < 21)) = true → (Sp.memP k.sp z q && decide (q < 21)) = true := fun q hq => by
    have hq2 : k1.sp.who z q ≠ 0 ∧ q < 21 := by simpa [Sp.memP] using hq
    rcases g.wh z q h.z6.1 hq2.2 with c | c
    · simp [Sp.memP, ← c, hq2]
    · exact absurd c hq2.1
  have eq : ∀ t : Sp.T, (List.range 21).filter (Sp.memP t z) = (List.range 21).filter (fun q => Sp.memP t z q && decide (q < 21)) := fun t => List.filter_congr (fun q hq => by
    have : q < 21 := by simpa using hq
    simp [this])
  rw [eq k1.sp, eq k.sp]
  exact filt_lt key (a := p) (by simp [Sp.memP, pw, p21]) (by simp [Sp.memP, w0]) 21 p21
end Kn
end Go.Proofs.YtghogbngmcolmaaGreat
namespace Go.Proofs.YtghogbngmcolmaaGreat
open Go.RowKit
open Tr (Fo Nd)
open Mo (Wh Mt)
open Mv (Me Bk)
open Kn (Pr Kp St us KB KJ VI EI)
def slen : Value → Nat
  | .slice _ n _ => n
  | _ => 0
def VanC (base N : Nat) (d : Nat → Nat) (r : Nat) : Prop := ∀ (X : Nat → Prop) (s : St) (w : World) (n z : Nat), KKt w base s → VI X N d s.k → n < 20 → n ≠ 0 → ¬ X n → s.k.sp.of n = z + 1 → (Kn.hd s.k n = n → 6 ≤ d z + r ∧ ∀ m, m < 20 → X m → ¬ Sp.mem s.k.sp z m) → 1 ≤ r →
  Calls Tryz.prog 41 #[.pointer (some ⟨s.A 0, 0, none⟩), .int .i64 n] w fun e w' => ∃ k', e = .returned (.tuple #[]) ∧ Kn.VanN r s.k n k' ∧ KKt w' base { s with k := k' } ∧ KF s w { s with k := k' } w'
theorem Kn.EI.deeper {X : Nat → Prop} {N : Nat} {d : Nat → Nat} {k : Kp} {n z m y : Nat} (h : EI X N d n z k) (m20 : m < 20) (mn : m ≠ n) (mz : Sp.mem k.sp z m) (hy : k.sp.of m = y + 1) (c : Kn.hd k m = m) : d z < d y := by
  obtain ⟨_, y6, yh⟩ := h.vi.iv.mem_self m20 hy
  have a := (h.vi.iv.mem_of h.z6.1 m20 mz).2
  rw [hy, show y + 1 - 1 = y by omega] at a
  refine h.vi.iv.tree.lower y6 yh a (fun e => ?_)
  have := (Kn.hd_eq h.vi.iv h.vi.hs m20 hy).1 c
  rw [← e, h.hw] at this
  omega
section
variable (base N : Nat) (d : Nat → Nat) (r : Nat) (X : Nat → Prop) (s : St) (w : World) (n z : Nat)
set_option maxRecDepth 100000 in
set_option maxHeartbeats 2000000 in
theorem kempty_any (hV : VanC base N d r) (hr : 1 ≤ r) (hz : 5 ≤ d z + r) (h : KKt w base s) (he : EI X N d n z s.k) :
    Calls Tryz.prog 79 #[.pointer (some ⟨s.A 0, 0, none⟩), .int .i64 n] w fun e w' => ∃ k' j, e = .returned (.tuple #[]) ∧ Kn.IterN (Kn.VanN r) (z : Int) j s.k k' ∧ KKt w' base { s with k := k' } ∧ KF s w { s with k := k' } w' := by
  have SP := Hid.intro (kspace_any base s w (n : Int) h)
  have zi : Sp.inN s.k.sp (n : Int) = z := Sp.inN_of he.hn he.ho
  rw [zi] at SP
  have MM := Hid.intro (kmembers_any base s w (z : Int) h)
  obtain ⟨kb, hkb⟩ : ∃ kb, s.A 0 = kb := ⟨_, rfl⟩
  have HK := Hid.intro hkb
  have H := Hid.intro (And.intro h he)
  have HV := Hid.intro (And.intro hV (And.intro hr hz))
  rw [hkb] at SP MM ⊢
  clear h he hV hr hz zi
  go_enter Tryz.func79, Tryz.ntmps79
  go_wp2_with fail
  refine SP.out.mono ?_
  rintro e w1 ⟨rfl, hw⟩
  subst w1
  go_wp2_with fail
  refine MM.out.mono ?_
  rintro e w1 ⟨v1, rfl, hL⟩
  have S1 : Hid (EI X N d n z s.k ∧ KKt w1 base { s with k := s.k } ∧ KF s w { s with k := s.k } w1 ∧ LO w (membL s.k.sp (z : Int)) v1 w1 ∧ ∀ k' j, Kn.IterN (Kn.VanN r) (z : Int) j s.k k' → ∃ j', Kn.IterN (Kn.VanN r) (z : Int) j' s.k k') := Hid.intro ⟨H.out.2, H.out.1.below hL.bel, KF.below hL.bel, hL, fun k' j q => ⟨j, q⟩⟩
  clear hL SP MM
  go_wp2_with fail
  go_loopw [5] (fun v wr => ∃ (k : Kp) (w0 : World), Hid (EI X N d n z k ∧ KKt wr base { s with k := k } ∧ KF s w { s with k := k } wr ∧ LO w0 (membL k.sp (z : Int)) v wr ∧ ∀ k' j, Kn.IterN (Kn.VanN r) (z : Int) j k k' → ∃ j', Kn.IterN (Kn.VanN r) (z : Int) j' s.k k')) (fun v _ => slen v)
  case atStart => exact ⟨s.k, w, S1⟩
  case round =>
    clear S1
    obtain ⟨k, w0, S⟩ := hrel
    by_cases hl : 1 < (membL k.sp (z : Int)).length
    · obtain ⟨gg, cap, hv, hg, hc⟩ := S.out.2.2.2.1.cells (by omega)
      have HVV := Hid.intro hv
      obtain ⟨m, hm⟩ : ∃ m, (membL k.sp (z : Int))[1]? = some m := ⟨_, List.getElem?_eq_getElem hl⟩
      have c1 := hc 1 hl
      have cm : wr.cell? ⟨gg, 1, none⟩ = some (.int .i64 (m : Int)) := by
        rw [show 0 + 1 = 1 from rfl] at c1
        rw [c1]
        simp [List.getD_eq_getElem?_getD, hm]
      obtain ⟨m20, m0, mn, mx, mz, y, hy, hx⟩ := S.out.1.next hm
      have DD : Hid (Kn.hd k m = m → 6 ≤ d y + r ∧ ∀ x, x < 20 → X x → ¬ Sp.mem k.sp y x) := Hid.intro (fun c => ⟨by have := S.out.1.deeper m20 mn mz hy c; have := HV.out.2.2; omega, hx c⟩)
      have VC := Hid.intro (HV.out.1 X { s with k := k } wr m y S.out.2.1 S.out.1.vi m20 m0 mx hy DD.out HV.out.2.1)
      rw [show ({ s with k := k } : St).A 0 = kb from HK.out] at VC
      have HM := Hid.intro (And.intro hm (And.intro m20 mz))
      obtain ⟨LL, hLL⟩ : ∃ LL, (membL k.sp (z : Int)).length = LL := ⟨_, rfl⟩
      have HLL := Hid.intro hLL
      rw [hLL] at hv hl
      subst hv
      have hlI : (1 : Int) < (LL : Int) := by omega
      clear hc c1 hm hy hx mx mz hLL hg m0 mn
      go_wp2_with fail
      refine VC.out.mono ?_
      rintro e w2 ⟨k1, rfl, hvan, ka, kf⟩
      have ST := Hid.intro (S.out.1.step HM.out.1 (Kn.van_ok r) hvan)
      have S2 : Hid (KKt w2 base { s with k := k1 } ∧ KF s w { s with k := k1 } w2 ∧ Kn.VanN r k m k1) := Hid.intro ⟨ka, S.out.2.2.1.trans kf, hvan⟩
      clear ka kf hvan cm
      have MM := Hid.intro (kmembers_any base { s with k := k1 } w2 (z : Int) S2.out.1)
      rw [show ({ s with k := k1 } : St).A 0 = kb from HK.out] at MM
      go_wp2_with fail
      refine MM.out.mono ?_
      rintro e w3 ⟨v3, rfl, hL3⟩
      have S3 : Hid (EI X N d n z k1 ∧ KKt w3 base { s with k := k1 } ∧ KF s w { s with k := k1 } w3 ∧ LO w2 (membL k1.sp (z : Int)) v3 w3 ∧ ∀ k' j, Kn.IterN (Kn.VanN r) (z : Int) j k1 k' → ∃ j', Kn.IterN (Kn.VanN r) (z : Int) j' s.k k') := Hid.intro ⟨ST.out.1, S2.out.1.below hL3.bel, S2.out.2.1.trans (KF.below hL3.bel), hL3, fun k' j q => S.out.2.2.2.2 k' (j + 1) ⟨m, k1, HM.out.1, S2.out.2.2, q⟩⟩
      obtain ⟨a3, c3, hv3⟩ := own_form hL3.own
      have FW : Hid ((membL k1.sp (z : Int)).length < LL) := Hid.intro (by rw [← HLL.out]; exact S.out.1.fewer ST.out.1 ST.out.2.1 HM.out.2.1 HM.out.2.2 ST.out.2.2.2)
      obtain ⟨L3, hL3e⟩ : ∃ L3, (membL k1.sp (z : Int)).length = L3 := ⟨_, rfl⟩
      rw [hL3e] at hv3 FW
      subst hv3
      clear hL3 hL3e
      go_wp2_with fail
      go_roundw
      case rel => exact ⟨k1, w2, S3⟩
      case measure => exact FW.out
    · obtain ⟨a3, c3, hv3⟩ := own_form S.out.2.2.2.1.own
      have FIN : Hid (∃ j, Kn.IterN (Kn.VanN r) (z : Int) j s.k k) := Hid.intro (S.out.2.2.2.2 k 0 ⟨rfl, by omega⟩)
      obtain ⟨LL, hLL⟩ : ∃ LL, (membL k.sp (z : Int)).length = LL := ⟨_, rfl⟩
      rw [hLL] at hv3 hl
      have hlI : ¬ (1 : Int) < (LL : Int) := by omega
      have S2 : Hid (KKt wr base { s with k := k } ∧ KF s w { s with k := k } wr) := Hid.intro ⟨S.out.2.1, S.out.2.2.1⟩
      clear S hLL
      subst hv3
      go_wp2_with fail
      go_end0
      obtain ⟨j, hj⟩ := FIN.out
      exact ⟨rfl, k, ⟨j, hj⟩, S2.out⟩
end
end Go.Proofs.YtghogbngmcolmaaGreat

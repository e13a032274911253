import Derived.Test.YtghogbngmcolmaaGreatQbe
namespace Go.Proofs.YtghogbngmcolmaaGreat
open Go.RowKit
open Tr (Fo Nd)
open Mo (Mt)
open Mv (Me Bk)
open Kn (Pr Kp St us KB KJ)
namespace Sp
theorem lea_eq {t : T} {n : Nat} (hn : n < 20) (h : t.of n ≠ 0) : leaT t (n : Int) = { cutT t (List.range 6) n with of := upN t.of n 0 } := by
  have e : inE t (n : Int) = 0 := by unfold inE; rw [procE_nat hn, if_pos rfl, Int.toNat_natCast, if_neg h]
  unfold leaT
  rw [if_pos e, Int.toNat_natCast]
theorem lea_here {t : T} {n : Nat} (hn : n < 20) (h : t.of n ≠ 0) : (leaT t (n : Int)).here = t.here ∧ (leaT t (n : Int)).par = t.par := by rw [lea_eq hn h]; exact ⟨rfl, rfl⟩
theorem lea_of {t : T} {n : Nat} (hn : n < 20) (h : t.of n ≠ 0) (m : Nat) : (leaT t (n : Int)).of m = if m = n then 0 else t.of m := by rw [lea_eq hn h]; rfl
theorem lea_who {t : T} {n : Nat} (hn : n < 20) (h : t.of n ≠ 0) {s : Nat} (hs : s < 6) (p : Nat) : (leaT t (n : Int)).who s p = if t.who s p = n + 1 then 0 else t.who s p := by
  rw [lea_eq hn h]
  show (if s ∈ List.range 6 ∧ t.who s p = n + 1 then 0 else t.who s p) = _
  by_cases c : t.who s p = n + 1
  · rw [if_pos c, if_pos ⟨by simpa using hs, c⟩]
  · rw [if_neg c, if_neg (fun e => c e.2)]
structure HDs (t : T) : Prop where
  hd : ∀ s, s < 6 → t.here s = true → ∃ h, h < 20 ∧ t.who s 1 = h + 1 ∧ t.of h = s + 1
  r0 : t.of 0 = 1 ∧ t.who 0 1 = 1
theorem inN_of {t : T} {n z : Nat} (hn : n < 20) (h : t.of n = z + 1) : inN t (n : Int) = z := by
  have e : inE t (n : Int) = 0 := by unfold inE; rw [procE_nat hn, if_pos rfl, Int.toNat_natCast, if_neg (by omega)]
  unfold inN
  rw [if_pos e, Int.toNat_natCast]; omega
theorem find1 {t : T} {z h : Nat} (hz : z < 6) (hh : t.here z = true) (hw : t.who z 1 = h + 1) : findN t (z : Int) 1 = h := by
  have e : findE t (z : Int) 1 = 0 := by
    unfold findE
    rw [isE_nat hz hh, if_pos rfl, Int.toNat_natCast, show (1 : Int).toNat = 1 from rfl, if_neg (by omega)]
  unfold findN
  rw [if_pos e, Int.toNat_natCast, show (1 : Int).toNat = 1 from rfl, hw]; omega
section
variable {t : T} {d : Nat → Nat}
theorem HDs.leave (h : HDs t) {n z : Nat} (hn : n < 20) (n0 : n ≠ 0) (ho : t.of n = z + 1) (hw : t.who z 1 ≠ n + 1) : HDs (leaT t (n : Int)) := by
  have o : t.of n ≠ 0 := by omega
  refine ⟨fun s hs hh => ?_, ?_⟩
  · rw [(lea_here hn o).1] at hh
    obtain ⟨x, x20, xw, xo⟩ := h.hd s hs hh
    have xn : x ≠ n := fun e => by
      subst e
      have : s = z := by omega
      subst this
      exact hw xw
    exact ⟨x, x20, by rw [lea_who hn o hs, if_neg (by omega)]; exact xw, by rw [lea_of hn o, if_neg xn]; exact xo⟩
  · rw [lea_of hn o, if_neg (Ne.symm n0), lea_who hn o (by omega), if_neg (by have := h.r0.2; omega)]
    exact h.r0
theorem memb_none {t : T} {z : Nat} (h : ∀ p, p < 21 → t.who z p = 0) : memb t z = [] := by
  unfold memb
  rw [List.map_eq_nil_iff, List.filter_eq_nil_iff]
  intro p hp
  unfold memP
  rw [h p (by simpa using hp)]; simp
theorem HDs.shut (h : HDs t) (hI : Inv t d) {n z : Nat} (hn : n < 20) (n0 : n ≠ 0) (ho : t.of n = z + 1) (hz : z < 6) (hh : t.here z = true) (hw : t.who z 1 = n + 1) (al : ∀ p, p < 21 → t.who z p ≠ 0 → p = 1) :
    dropE (leaT t (n : Int)) (z : Int) = 0 ∧ HDs (dropT (leaT t (n : Int)) (z : Int)) := by
  have o : t.of n ≠ 0 := by omega
  have z0 : z ≠ 0 := fun e => by subst e; have := h.r0.2; omega
  have emp : ∀ p, p < 21 → (leaT t (n : Int)).who z p = 0 := fun p hp => by
    rw [lea_who hn o hz]
    by_cases c : t.who z p = n + 1
    · rw [if_pos c]
    · rw [if_neg c]
      by_cases e : t.who z p = 0
      · exact e
      · have := al p hp e; subst this; exact absurd hw c
  have kd : kids (leaT t (n : Int)) z = false := by
    unfold kids
    rw [List.any_eq_false]
    intro k hk
    have k6 : k < 6 := by simpa using hk
    unfold kidP
    rw [(lea_here hn o).1, (lea_here hn o).2]
    intro c
    have c1 : t.here k = true ∧ t.par k = (z : Int) := by simpa using c
    obtain ⟨x, x20, xw, xo⟩ := h.hd k k6 c1.1
    have mem : z ∈ W t ((t.of x - 1 : Nat) : Int) := by
      rw [xo, show k + 1 - 1 = k by omega, hI.tree.step k6 c1.1, c1.2, hI.tree.step hz hh]
      simp
    obtain ⟨p, hp, pw⟩ := (hI.has z x hz x20).2 ⟨by omega, mem⟩
    have p1 := al p hp (by omega)
    subst p1
    have : x = n := by omega
    subst this
    have : k = z := by omega
    subst this
    rcases hI.tree.par_cases hz hh with ⟨e, _⟩ | ⟨q, _, e, _, e2⟩
    · exact z0 e
    · rw [c1.2] at e
      have : q = k := by omega
      subst this
      omega
  have de : dropE (leaT t (n : Int)) (z : Int) = 0 := by
    unfold dropE
    rw [isE_nat hz (by rw [(lea_here hn o).1]; exact hh), if_pos rfl, Int.toNat_natCast, if_neg (fun c => by
      rcases c with c | c | c
      · omega
      · exact c (memb_none emp)
      · rw [kd] at c; cases c)]
  refine ⟨de, ?_⟩
  have e : dropT (leaT t (n : Int)) (z : Int) = { leaT t (n : Int) with here := upB (leaT t (n : Int)).here z false, par := upI (leaT t (n : Int)).par z 0 } := by unfold dropT; rw [if_pos de, Int.toNat_natCast]
  rw [e]
  refine ⟨fun s hs hs2 => ?_, ?_⟩
  · have hs3 : (if s = z then false else (leaT t (n : Int)).here s) = true := hs2
    by_cases c : s = z
    · rw [if_pos c] at hs3; cases hs3
    · rw [if_neg c, (lea_here hn o).1] at hs3
      obtain ⟨x, x20, xw, xo⟩ := h.hd s hs hs3
      have xn : x ≠ n := fun e => by subst e; omega
      exact ⟨x, x20, by show (leaT t (n : Int)).who s 1 = _; rw [lea_who hn o hs, if_neg (by omega)]; exact xw, by show (leaT t (n : Int)).of x = _; rw [lea_of hn o, if_neg xn]; exact xo⟩
  · show (leaT t (n : Int)).of 0 = 1 ∧ (leaT t (n : Int)).who 0 1 = 1
    rw [lea_of hn o, if_neg (Ne.symm n0), lea_who hn o (by omega), if_neg (by have := h.r0.2; omega)]
    exact h.r0
end
end Sp
namespace Mo
theorem letT_held {F : Fo} {z : Int} (n : Nat) : ((Tr.letT F z).nd n).held ≤ (F.nd n).held := by
  unfold Tr.letT
  split
  · rw [swe_held]
    by_cases e : n = z.toNat
    · subst e; rw [Tr.put_same]; show (F.nd _).held - 1 ≤ _; omega
    · rw [Tr.put_ne _ _ _ _ e]; exact Nat.le_refl _
  · exact Nat.le_refl _
theorem letT_kind {F : Fo} {z : Int} {n : Nat} (h : 0 < ((Tr.letT F z).nd n).held) : ((Tr.letT F z).nd n).kind = (F.nd n).kind := by
  unfold Tr.letT at *
  split
  · rename_i c
    rw [if_pos c] at h
    rw [swe_held] at h
    rw [swe_kind _ _ _ h]
    by_cases e : n = z.toNat
    · subst e; rw [Tr.put_same]
    · rw [Tr.put_ne _ _ _ _ e]
  · rfl
theorem leM_held {F : Fo} {m : Mt} (n : Nat) : ((leM F m).nd n).held ≤ (F.nd n).held := Nat.le_trans (letT_held n) (letT_held n)
theorem leM_kind {F : Fo} {m : Mt} {n : Nat} (h : 0 < ((leM F m).nd n).held) : ((leM F m).nd n).kind = (F.nd n).kind := (letT_kind h).trans (letT_kind (Nat.lt_of_lt_of_le h (letT_held n)))
theorem fold_held (n : Nat) : ∀ (L : List Mt) (F : Fo), ((L.foldl leM F).nd n).held ≤ (F.nd n).held
  | [], _ => Nat.le_refl _
  | m :: L, F => Nat.le_trans (fold_held n L (leM F m)) (leM_held n)
theorem fold_kind (n : Nat) : ∀ (L : List Mt) (F : Fo), 0 < ((L.foldl leM F).nd n).held → ((L.foldl leM F).nd n).kind = (F.nd n).kind
  | [], _, _ => rfl
  | m :: L, F, h => (fold_kind n L (leM F m) h).trans (leM_kind (Nat.lt_of_lt_of_le h (fold_held n L _)))
theorem leA_kind {F : Fo} {T : Tb} {n : Nat} (h : 0 < ((leA F T).nd n).held) : ((leA F T).nd n).kind = (F.nd n).kind :=
  (fold_kind n T.ms _ h).trans (letT_kind (Nat.lt_of_lt_of_le h (fold_held n T.ms _)))
end Mo
namespace Kn
section
variable {X : Nat → Prop} {N : Nat} {k : Kp}
theorem KJ.setSc (h : KJ X N k) {m : Fa.Fr.M} (h1 : Fa.Fr.Inv m) (h2 : Fa.Fr.Sync m) (h3 : m.now ≤ N) : KJ X N { k with sc := m } := ⟨h.sp, h.gr, h1, h2, h3, h.me, h.wx, h.rf, h.ok, h.tb, h.st, h.hs, h.lv, h.of, h.ht, h.nm⟩
theorem unm_fr (k : Kp) (n x : Nat) (hx : x < 16) : ((unmK k n 0 16).p n).mem.fr x = 0 := by
  unfold unmK
  have c : Mv.unE 0 16 = 0 := by decide
  rw [if_pos c]
  show ((memK k n _ (Mv.unK (k.p n).mem k.bk 0 16)).p n).mem.fr x = 0
  rw [memK_p]
  show (Mv.unM (k.p n).mem 0 16).fr x = 0
  unfold Mv.unM
  have b : Mv.badB 0 16 = false := by decide
  rw [b, if_neg (by decide)]
  show (if _ then 0 else _) = 0
  rw [if_pos ⟨Nat.zero_le _, by show x < 0 + 16; omega⟩]
theorem KJ.str (h : KJ X N k) {n : Nat} (hn : n < 20) (hh : (k.p n).has = true) {k' : Kp} (hs : StrTo k n k') : KJ (fun m => X m ∨ m = n) N k' := by
  obtain ⟨m', hd, rfl⟩ := hs
  obtain ⟨i1, i2, i3⟩ := h.si.dropTask h.sy hd
  have a := ((h.unm hn hh 0 16).strF n (k.p n).fd 6).setSc i1 i2 (by rw [i3]; exact h.nw)
  have pp := strF_p (unmK k n 0 16) n (k.p n).fd 6
  have z0 : ∀ x, x < 16 → ((Kn.strF (unmK k n 0 16) n (k.p n).fd 6).p n).mem.fr x = 0 := fun x hx => by rw [(pp n).2.2.1]; exact unm_fr k n x hx
  unfold strK
  dsimp only
  generalize Kn.strF (unmK k n 0 16) n (k.p n).fd 6 = k1 at *
  have e : ∀ j, j ≠ n → (({ k1 with sc := m' } : Kp).put n { k1.p n with has := false, mem := Mv.me0, box := Sg.nul }).p j = k1.p j := fun j c => put_ne _ _ _ _ c
  have e2 : (({ k1 with sc := m' } : Kp).put n { k1.p n with has := false, mem := Mv.me0, box := Sg.nul }).p n = { k1.p n with has := false, mem := Mv.me0, box := Sg.nul } := put_same _ _ _
  refine ⟨a.sp, a.gr, a.si, a.sy, a.nw, ?_, a.wx, a.rf, a.ok, a.tb, fun m hm => ?_, fun m hm => ?_, fun m hm => ?_, fun m hm => ?_, a.ht, fun m hm => ?_⟩
  · refine a.me.congr (fun i hi x hx => ?_)
    by_cases c : i = n
    · subst c; rw [e2]; exact (z0 x hx).symm
    · rw [e i c]
  · by_cases c : m = n
    · subst c; rw [e2]; exact a.st m hm
    · rw [e m c]; exact a.st m hm
  · by_cases c : m = n
    · subst c; rw [e2]; intro q; cases q
    · rw [e m c]; exact a.hs m hm
  · intro hx
    by_cases c : m = n
    · exact absurd (.inr c) hx
    · rw [e m c]; exact a.lv m hm (fun q => hx (.inl q))
  · by_cases c : m = n
    · subst c; rw [e2]; exact a.of m hm
    · rw [e m c]; exact a.of m hm
  · by_cases c : m = n
    · subst c; rw [e2]; intro _; rfl
    · rw [e m c]; exact a.nm m hm
theorem unm_sp (k : Kp) (n : Nat) (a m : Int) : (unmK k n a m).sp = k.sp ∧ (unmK k n a m).ht = k.ht ∧ (unmK k n a m).tb = k.tb := by unfold unmK; split <;> exact ⟨rfl, rfl, rfl⟩
theorem strF_sp (k : Kp) (n : Nat) (fd : Nat → Int) : ∀ j, (strF k n fd j).sp = k.sp ∧ (strF k n fd j).ht = k.ht ∧ (strF k n fd j).tb = k.tb
  | 0 => ⟨rfl, rfl, rfl⟩
  | j + 1 => by
    show (if fd j = -1 then _ else _ : Kp).sp = _ ∧ (if fd j = -1 then _ else _ : Kp).ht = _ ∧ (if fd j = -1 then _ else _ : Kp).tb = _
    split
    · exact strF_sp k n fd j
    · exact strF_sp k n fd j
theorem StrTo.sp {n : Nat} {k' : Kp} (hs : StrTo k n k') : k'.sp = k.sp ∧ k'.ht = k.ht ∧ k'.tb = k.tb := by
  obtain ⟨m', _, rfl⟩ := hs
  have a := strF_sp (unmK k n 0 16) n (k.p n).fd 6
  have b := unm_sp k n 0 16
  exact ⟨a.1.trans b.1, a.2.1.trans b.2.1, a.2.2.trans b.2.2⟩
theorem StrTo.p {n : Nat} {k' : Kp} (hs : StrTo k n k') (m : Nat) : (k'.p m).st = (k.p m).st ∧ (k'.p m).par = (k.p m).par ∧ (k'.p m).grp = (k.p m).grp ∧ (k'.p m).code = (k.p m).code ∧ (m ≠ n → (k'.p m).has = (k.p m).has ∧ (k'.p m).mem = (k.p m).mem ∧ (k'.p m).box = (k.p m).box) := by
  obtain ⟨m', _, rfl⟩ := hs
  have a := strF_p (unmK k n 0 16) n (k.p n).fd 6 m
  have b := unmK_p k n 0 16 m
  unfold strK
  dsimp only
  by_cases c : m = n
  · subst c
    rw [put_same]
    exact ⟨a.1.trans b.2.2.1, a.2.2.2.2.2.1.trans b.2.2.2.2.2.1, a.2.2.2.2.1.trans b.2.2.2.2.1, a.2.2.2.2.2.2.trans b.2.2.2.2.2.2, fun e => absurd rfl e⟩
  · rw [put_ne _ _ _ _ c]
    have mm : ((unmK k n 0 16).p m).mem = (k.p m).mem := by
      unfold unmK
      split
      · show ((memK k n _ (Mv.unK (k.p n).mem k.bk 0 16)).p m).mem = _
        rw [show ∀ x b, (memK k n x b).p m = k.p m from fun x b => put_ne _ _ _ _ c]
      · rfl
    exact ⟨a.1.trans b.2.2.1, a.2.2.2.2.2.1.trans b.2.2.2.2.2.1, a.2.2.2.2.1.trans b.2.2.2.2.1, a.2.2.2.2.2.2.trans b.2.2.2.2.2.2, fun _ => ⟨a.2.1.trans b.2.1, a.2.2.1.trans mm, a.2.2.2.1.trans b.2.2.2.1⟩⟩
def finK (k : Kp) (n : Nat) : Kp := ({ k with gr := Gr.uncT k.gr (k.p n).grp 1 0, sp := Sp.leaT k.sp (n : Int) }).put n Pr.no
theorem KJ.fin (h : KJ X N k) {n : Nat} (hn : n < 20) (h0 : (k.p n).st ≠ 0) (hh : (k.p n).has = false) : KJ (fun m => X m ∧ m ≠ n) N (finK k n) := by
  have o := (h.of n hn).2 h0
  have e : ∀ j, j ≠ n → (finK k n).p j = k.p j := fun j c => put_ne _ _ _ _ c
  have e2 : (finK k n).p n = Pr.no := put_same _ _ _
  have hr := Sp.lea_here hn o
  refine ⟨?_, ?_, h.si, h.sy, h.nw, ?_, h.wx, h.rf, h.ok, h.tb, fun m hm => ?_, fun m hm => ?_, fun m hm => ?_, fun m hm => ?_, fun s hs => ?_, fun m hm => ?_⟩
  · obtain ⟨d, hd⟩ := h.sp; exact ⟨d, hd.leave _⟩
  · obtain ⟨Wy, g⟩ := h.gr; exact ⟨Wy, unc_tree g _ _ _⟩
  · refine h.me.congr (fun i hi x hx => ?_)
    by_cases c : i = n
    · subst c; rw [e2, h.nm i hn hh]; rfl
    · rw [e i c]
  · by_cases c : m = n
    · subst c; rw [e2]; exact Nat.zero_le _
    · rw [e m c]; exact h.st m hm
  · by_cases c : m = n
    · subst c; rw [e2]; intro q; cases q
    · rw [e m c]; exact h.hs m hm
  · intro hx
    by_cases c : m = n
    · subst c; rw [e2]; intro q; cases q
    · rw [e m c]; exact h.lv m hm (fun q => hx ⟨q, c⟩)
  · show (Sp.leaT k.sp (n : Int)).of m ≠ 0 ↔ _
    rw [Sp.lea_of hn o]
    by_cases c : m = n
    · subst c; rw [e2, if_pos rfl]; exact ⟨fun q => absurd rfl q, fun q => absurd rfl q⟩
    · rw [e m c, if_neg c]; exact h.of m hm
  · show k.ht s = (Sp.leaT k.sp (n : Int)).here s
    rw [hr.1]; exact h.ht s hs
  · by_cases c : m = n
    · subst c; rw [e2]; intro _; rfl
    · rw [e m c]; exact h.nm m hm
def shuK (k : Kp) (z : Nat) : Kp := { k with sp := Sp.dropT k.sp (z : Int), fo := Mo.leA k.fo (k.tb z), ht := fun s => if s = z then false else k.ht s }
theorem tabN_shu (k : Kp) (z m : Nat) : ∀ s, tabN (shuK k z) m s + (if z < s ∧ k.ht z = true then Mo.tc (k.tb z) m else 0) = tabN k m s
  | 0 => by rw [if_neg (fun c => absurd c.1 (Nat.not_lt_zero _))]; rfl
  | s + 1 => by
    have ih := tabN_shu k z m s
    show tabN (shuK k z) m s + (if (if s = z then false else k.ht s) = true then Mo.tc (k.tb s) m else 0) + _ = tabN k m s + _
    by_cases c : s = z
    · subst c
      rw [if_neg (fun c => by omega)] at ih
      rw [if_pos rfl, if_neg (by decide)]
      by_cases d : k.ht s = true
      · rw [if_pos ⟨by omega, d⟩, if_pos d]; omega
      · rw [if_neg (fun e => d e.2), if_neg d]; omega
    · rw [if_neg c]
      by_cases d : z < s ∧ k.ht z = true
      · rw [if_pos d] at ih
        rw [if_pos (show z < s + 1 ∧ k.ht z = true from ⟨by omega, d.2⟩)]; omega
      · rw [if_neg d] at ih
        rw [if_neg (show ¬ (z < s + 1 ∧ k.ht z = true) from fun e => d ⟨by omega, e.2⟩)]; omega
theorem KJ.shu (h : KJ X N k) {z : Nat} (hz : z < 6) (hh : k.sp.here z = true) (de : Sp.dropE k.sp (z : Int) = 0) : KJ X N (shuK k z) := by
  have ht : k.ht z = true := by rw [h.ht z hz]; exact hh
  have tx : ∀ m, tabX k m = tabX (shuK k z) m + Mo.tc (k.tb z) m := fun m => by
    have := tabN_shu k z m 6
    rw [if_pos ⟨hz, ht⟩] at this
    exact this.symm
  have rg := h.tb z hz ht
  have hi : Mo.HI k.fo (fun n => (Fx.cK k.fi 1 n 24 + tabX (shuK k z) n) + Mo.tc (k.tb z) n) := ⟨fun n hn => by rw [h.wx.hl n hn, tx n]; omega, fun n hn c kz => by
    have := h.wx.z0 n hn kz
    rw [h.wx.hl n hn, tx n] at this
    omega⟩
  have hl := Mo.leA_HI hi rg.1
  have e : (shuK k z).sp = { k.sp with here := Sp.upB k.sp.here z false, par := Sp.upI k.sp.par z 0 } := by show Sp.dropT k.sp (z : Int) = _; unfold Sp.dropT; rw [if_pos de, Int.toNat_natCast]
  refine ⟨?_, h.gr, h.si, h.sy, h.nw, h.me, ?_, h.rf, Mo.leA_ok h.ok, fun s hs q => ?_, h.st, h.hs, h.lv, fun n hn => ?_, fun s hs => ?_, h.nm⟩
  · obtain ⟨d, hd⟩ := h.sp; exact ⟨d, hd.drop _⟩
  · refine ⟨h.wx.no, h.wx.kd, fun n hn r k1 => ?_, h.wx.pn, h.wx.ps, fun m hm => hl.hd m hm, fun m hm kz => ?_, h.wx.rd, h.wx.wt⟩
    · have a := h.wx.nd n hn r k1
      refine ⟨a.1, ?_⟩
      have c1 := Fx.cK_ge (T := k.fi) (k := 1) (m := (k.fi n).num) hn
      have c2 := Fx.hit_one r
      rw [k1] at c2
      show ((Mo.leA k.fo (k.tb z)).nd (k.fi n).num).kind = 1
      have c3 : Fx.hit (k.fi n) 1 (k.fi n).num = 1 := c2
      rw [Mo.leA_kind (n := (k.fi n).num) (by rw [hl.hd _ a.1]; omega)]
      exact a.2
    · by_cases c : ((Mo.leA k.fo (k.tb z)).nd m).held = 0
      · exact c
      · exact absurd kz (hl.lv m hm (by rw [← hl.hd m hm]; omega))
  · have q2 : (if s = z then false else k.ht s) = true := q
    by_cases c : s = z
    · rw [if_pos c] at q2; cases q2
    · rw [if_neg c] at q2; exact h.tb s hs q2
  · rw [e]; exact h.of n hn
  · rw [e]
    show (if s = z then false else k.ht s) = if s = z then false else k.sp.here s
    by_cases c : s = z
    · rw [if_pos c, if_pos c]
    · rw [if_neg c, if_neg c]; exact h.ht s hs
end
end Kn
end Go.Proofs.YtghogbngmcolmaaGreat
namespace Go.Proofs.YtghogbngmcolmaaGreat
open Go.RowKit
open Tr (Fo Nd)
open Mv (Me Bk)
open Kn (Pr Kp St us KB KJ)
namespace Sp
def mem (t : T) (z m : Nat) : Prop := ∃ p, p < 21 ∧ t.who z p = m + 1
theorem Tree.sub {t : T} {d : Nat → Nat} (h : Tree t d) {n : Nat} (hn : n < 6) (hh : t.here n = true) : ∀ x, x ∈ W t (n : Int) → ∀ y, y ∈ W t (x : Int) → y ∈ W t (n : Int) := by
  refine h.ind (P := fun n => ∀ x, x ∈ W t (n : Int) → ∀ y, y ∈ W t (x : Int) → y ∈ W t (n : Int)) (fun n hn hh ih => ?_) n hn hh
  intro x hx y hy
  rw [h.step hn hh] at hx ⊢
  rcases List.mem_cons.1 hx with e | hx
  · subst e; rw [← h.step hn hh]; exact hy
  · rcases h.par_cases hn hh with ⟨_, e, _⟩ | ⟨p, h1, e, h2, h3⟩
    · rw [e, W_neg _ _ (by omega)] at hx; cases hx
    · rw [e] at hx ⊢
      exact List.mem_cons_of_mem _ (ih p h1 h2 e h3 x hx y hy)
section
variable {t : T} {d : Nat → Nat}
theorem Inv.mem_of (h : Inv t d) {z m : Nat} (hz : z < 6) (hm : m < 20) (k : mem t z m) : t.of m ≠ 0 ∧ z ∈ W t ((t.of m - 1 : Nat) : Int) := (h.has z m hz hm).1 k
theorem Inv.mem_self (h : Inv t d) {z m : Nat} (hm : m < 20) (ho : t.of m = z + 1) : mem t z m ∧ z < 6 ∧ t.here z = true := by
  have o := h.ofs m hm (by omega)
  rw [ho, show z + 1 - 1 = z by omega] at o
  have z6 : z < 6 := by omega
  refine ⟨(h.has z m z6 hm).2 ⟨by omega, ?_⟩, z6, o.2⟩
  rw [ho, show z + 1 - 1 = z by omega, h.tree.step z6 o.2]; simp
theorem Inv.mem_up (h : Inv t d) {z y m x : Nat} (hz : z < 6) (hm : m < 20) (hx : x < 20) (ho : t.of m = y + 1) (k : mem t z m) (kx : mem t y x) : mem t z x := by
  obtain ⟨_, y6, yh⟩ := h.mem_self hm ho
  have a := (h.mem_of hz hm k).2
  rw [ho, show y + 1 - 1 = y by omega] at a
  have b := h.mem_of y6 hx kx
  have o := h.ofs x hx b.1
  exact (h.has z x hz hx).2 ⟨b.1, h.tree.sub (by omega) o.2 y b.2 z a⟩
theorem memb_of {t : T} {z i x : Nat} (h : (memb t z)[i]? = some x) (hw : ∀ p, p < 21 → t.who z p ≤ 20) : x < 20 ∧ mem t z x := by
  have hm := List.mem_of_getElem? h
  unfold memb at hm
  obtain ⟨p, hp, e⟩ := List.mem_map.1 hm
  obtain ⟨h1, h2⟩ := List.mem_filter.1 hp
  have p21 : p < 21 := by simpa using h1
  have w0 : t.who z p ≠ 0 := by simpa [memP] using h2
  have := hw p p21
  exact ⟨by omega, p, p21, by omega⟩
theorem Inv.second (h : Inv t d) {z n : Nat} (hz : z < 6) (hw : t.who z 1 = n + 1) : (memb t z)[0]? = some n ∧ ∀ x, (memb t z)[1]? = some x → x ≠ n := by
  have e : ∃ L, memb t z = n :: L ∧ ∀ x, x ∈ L → ∃ p, p < 21 ∧ 2 ≤ p ∧ t.who z p ≠ 0 ∧ x = t.who z p - 1 := by
    unfold memb
    have r : List.range 21 = 0 :: 1 :: (List.range 19).map (· + 2) := by decide
    rw [r, List.filter_cons_of_neg (by simp [memP, h.who0 z hz]), List.filter_cons_of_pos (by simp [memP, hw]), List.map_cons]
    refine ⟨_, by rw [hw]; rfl, fun x hx => ?_⟩
    obtain ⟨p, hp, e⟩ := List.mem_map.1 hx
    obtain ⟨h1, h2⟩ := List.mem_filter.1 hp
    obtain ⟨q, hq, e2⟩ := List.mem_map.1 h1
    have q19 : q < 19 := by simpa using hq
    have e2' : q + 2 = p := e2
    exact ⟨p, by omega, by omega, by simpa [memP] using h2, e.symm⟩
  obtain ⟨L, e1, e2⟩ := e
  rw [e1]
  refine ⟨rfl, fun x hx => ?_⟩
  have hm : x ∈ L := List.mem_of_getElem? (i := 0) hx
  obtain ⟨p, p21, p2, pw, ex⟩ := e2 x hm
  intro c
  have : t.who z p = t.who z 1 := by omega
  have := h.one z p 1 hz p21 (by omega) this pw
  omega
theorem memb_one {t : T} {z n : Nat} (hw : t.who z 1 = n + 1) (hl : (memb t z).length ≤ 1) (p : Nat) (hp : p < 21) (h0 : t.who z p ≠ 0) : p = 1 := by
  by_cases c : p = 1
  · exact c
  · exfalso
    unfold memb at hl
    rw [List.length_map] at hl
    have s : [min p 1, max p 1].Sublist ((List.range 21).filter (memP t z)) := by
      have s1 : [min p 1, max p 1].Sublist (List.range 21) := by
        have a : min p 1 < max p 1 := by omega
        have b : max p 1 < 21 := by omega
        rw [show List.range 21 = List.range (max p 1) ++ (List.range (21 - max p 1)).map (max p 1 + ·) by rw [← List.range_add]; congr 1; omega]
        refine (List.Sublist.append (l₁ := [min p 1]) (r₁ := [max p 1]) ?_ ?_)
        · exact List.singleton_sublist.2 (by simpa using a)
        · exact List.singleton_sublist.2 (by simp; omega)
      have := s1.filter (memP t z)
      rw [List.filter_eq_self.2] at this
      · exact this
      · intro x hx
        simp only [List.mem_cons, List.not_mem_nil, or_false] at hx
        unfold memP
        rcases hx with e | e <;> rw [e] <;> apply decide_eq_true
        · by_cases q : p ≤ 1
          · rw [Nat.min_eq_left q]; exact h0
          · rw [Nat.min_eq_right (by omega)]; omega
        · by_cases q : p ≤ 1
          · rw [Nat.max_eq_right q]; omega
          · rw [Nat.max_eq_left (by omega)]; exact h0
    have := s.length_le
    simp at this
    omega
end
end Sp
namespace Kn
def IterN (R : Kp → Nat → Kp → Prop) (z : Int) : Nat → Kp → Kp → Prop
  | 0, k, k' => k' = k ∧ (membL k.sp z).length ≤ 1
  | j + 1, k, k' => ∃ m k1, (membL k.sp z)[1]? = some m ∧ R k m k1 ∧ IterN R z j k1 k'
def VanN : Nat → Kp → Nat → Kp → Prop
  | 0, _, _, _ => False
  | f + 1, k, n, k' => ∃ k1, (lv k n = true → StrTo k n k1) ∧ (lv k n = false → k1 = k) ∧ ((hd k n ≠ n ∧ k' = finK k1 n) ∨ (hd k n = n ∧ ∃ k2 j, IterN (VanN f) (Sp.inN k.sp (n : Int) : Int) j k1 k2 ∧ k' = shuK (finK k2 n) (Sp.inN k.sp (n : Int))))
structure Gz (k k' : Kp) (z : Nat) : Prop where
  kp : ∀ m, m < 20 → (k'.p m = k.p m ∧ k'.sp.of m = k.sp.of m) ∨ (k'.p m = Pr.no ∧ k'.sp.of m = 0 ∧ Sp.mem k.sp z m)
  wh : ∀ s p, s < 6 → p < 21 → k'.sp.who s p = k.sp.who s p ∨ k'.sp.who s p = 0
  wk : ∀ s p m, s < 6 → p < 21 → m < 20 → k.sp.who s p = m + 1 → k'.sp.of m ≠ 0 → k'.sp.who s p = m + 1
  hr : ∀ s, s < 6 → k'.sp.here s = true → k.sp.here s = true
  hk : ∀ s, s < 6 → k.sp.here s = true → k'.sp.here s = false → ∀ m, m < 20 → Sp.mem k.sp s m → k'.sp.of m = 0
section
variable {k k1 k2 : Kp} {z y : Nat}
theorem Gz.refl (k : Kp) (z : Nat) : Gz k k z := ⟨fun _ _ => .inl ⟨rfl, rfl⟩, fun _ _ _ _ => .inl rfl, fun _ _ _ _ _ _ e _ => e, fun _ _ e => e, fun _ _ a b => by rw [a] at b; cases b⟩
theorem Gz.back (h : Gz k k1 y) {s m : Nat} (hs : s < 6) (e : Sp.mem k1.sp s m) : Sp.mem k.sp s m := by
  obtain ⟨p, p21, pw⟩ := e
  rcases h.wh s p hs p21 with c | c
  · exact ⟨p, p21, by rw [← c]; exact pw⟩
  · rw [c] at pw; omega
theorem Gz.up (h : Gz k k1 y) (e : ∀ m, m < 20 → Sp.mem k.sp y m → Sp.mem k.sp z m) : Gz k k1 z := ⟨fun m hm => (h.kp m hm).imp id (fun c => ⟨c.1, c.2.1, e m hm c.2.2⟩), h.wh, h.wk, h.hr, h.hk⟩
theorem Gz.trans (hz : z < 6) (h : Gz k k1 z) (g : Gz k1 k2 z) : Gz k k2 z := by
  have no : Pr.no.st = 0 := rfl
  refine ⟨fun m hm => ?_, fun s p hs hp => ?_, fun s p m hs hp hm e c => ?_, fun s hs e => h.hr s hs (g.hr s hs e), fun s hs a b m hm e => ?_⟩
  · rcases g.kp m hm with c | c
    · rcases h.kp m hm with d | d
      · exact .inl ⟨c.1.trans d.1, c.2.trans d.2⟩
      · exact .inr ⟨c.1.trans d.1, c.2.trans d.2.1, d.2.2⟩
    · exact .inr ⟨c.1, c.2.1, h.back hz c.2.2⟩
  · rcases g.wh s p hs hp with c | c
    · rw [c]; exact h.wh s p hs hp
    · exact .inr c
  · have o1 : k1.sp.of m ≠ 0 := fun q => by
      rcases g.kp m hm with d | d
      · exact c (d.2.trans q)
      · exact c d.2.1
    exact g.wk s p m hs hp hm (h.wk s p m hs hp hm e o1) c
  · by_cases q : k1.sp.of m = 0
    · rcases g.kp m hm with d | d
      · exact d.2.trans q
      · exact d.2.1
    · have b1 : k1.sp.here s = true := by
        cases w : k1.sp.here s
        · exact absurd (h.hk s hs a w m hm e) q
        · rfl
      refine g.hk s hs b1 b m hm ?_
      obtain ⟨p, p21, pw⟩ := e
      exact ⟨p, p21, h.wk s p m hs p21 hm pw q⟩
end
structure VI (X : Nat → Prop) (N : Nat) (d : Nat → Nat) (k : Kp) : Prop where
  kj : KJ X N k
  iv : Sp.Inv k.sp d
  hs : Sp.HDs k.sp
theorem hd_eq {k : Kp} {d : Nat → Nat} (hI : Sp.Inv k.sp d) (hH : Sp.HDs k.sp) {n z : Nat} (hn : n < 20) (ho : k.sp.of n = z + 1) : hd k n = n ↔ k.sp.who z 1 = n + 1 := by
  obtain ⟨_, z6, zh⟩ := hI.mem_self hn ho
  obtain ⟨x, x20, xw, xo⟩ := hH.hd z z6 zh
  unfold hd
  rw [Sp.inN_of hn ho, Sp.find1 z6 zh xw, xw]
  omega
theorem StrTo.pne {k k' : Kp} {n m : Nat} (hs : StrTo k n k') (c : m ≠ n) : k'.p m = k.p m := by
  obtain ⟨m', _, rfl⟩ := hs
  have a : ∀ (k : Kp) (fd : Nat → Int) j, (Kn.strF k n fd j).p m = k.p m := fun k fd j => by
    induction j with
    | zero => rfl
    | succ j ih =>
      show (if fd j = -1 then _ else _ : Kp).p m = _
      split
      · exact ih
      · show (fdK _ n j (-1)).p m = _
        unfold fdK
        rw [put_ne _ _ _ _ c]; exact ih
  have b : (unmK k n 0 16).p m = k.p m := by
    unfold unmK
    split
    · show (memK k n _ (Mv.unK (k.p n).mem k.bk 0 16)).p m = _
      exact put_ne _ _ _ _ c
    · rfl
  unfold strK
  dsimp only
  rw [put_ne _ _ _ _ c]
  exact (a _ _ 6).trans b
section
variable {X : Nat → Prop} {N : Nat} {d : Nat → Nat} {k k1 k' : Kp} {n z : Nat}
theorem VI.first (h : VI X N d k) (hn : n < 20) (hX : ¬ X n) (ho : k.sp.of n = z + 1) (h1 : lv k n = true → StrTo k n k1) (h2 : lv k n = false → k1 = k) :
    VI (fun m => X m ∨ m = n) N d k1 ∧ k1.sp = k.sp ∧ k1.tb = k.tb ∧ (k1.p n).has = false ∧ (k1.p n).st ≠ 0 ∧ ∀ m, m ≠ n → k1.p m = k.p m := by
  have s0 : (k.p n).st ≠ 0 := (h.kj.of n hn).1 (by omega)
  cases c : lv k n
  · have := h2 c
    subst this
    have hh : (k1.p n).has = false := by
      cases e : (k1.p n).has
      · rfl
      · have := h.kj.hs n hn e
        unfold lv at c
        rw [this] at c; cases c
    exact ⟨⟨h.kj.mono (fun _ _ e => .inl e) (Nat.le_refl _), h.iv, h.hs⟩, rfl, rfl, hh, s0, fun _ _ => rfl⟩
  · have st := h1 c
    have s1 : (k.p n).st = 1 := by unfold lv at c; simpa using c
    have hh := h.kj.lv n hn hX s1
    have sp := st.sp
    have hf : (k1.p n).has = false := by
      obtain ⟨m', _, rfl⟩ := st
      unfold strK
      dsimp only
      rw [put_same]
    refine ⟨⟨h.kj.str hn hh st, by rw [sp.1]; exact h.iv, by rw [sp.1]; exact h.hs⟩, sp.1, sp.2.2, hf, by rw [(st.p n).1]; exact s0, fun m e => st.pne e⟩
theorem VI.lone (h : VI X N d k) (hn : n < 20) (n0 : n ≠ 0) (hX : ¬ X n) (ho : k.sp.of n = z + 1) (hd1 : hd k n ≠ n) (h1 : lv k n = true → StrTo k n k1) (h2 : lv k n = false → k1 = k) : VI X N d (finK k1 n) ∧ Gz k (finK k1 n) z ∧ (finK k1 n).p n = Pr.no ∧ ∀ x, x < 20 → x ≠ n → (finK k1 n).p x = k.p x ∧ (finK k1 n).sp.of x = k.sp.of x := by
  obtain ⟨a, sp, tb, hh, s0, oth⟩ := h.first hn hX ho h1 h2
  have o1 : k1.sp.of n = z + 1 := by rw [sp]; exact ho
  have o : k1.sp.of n ≠ 0 := by omega
  have wn : k1.sp.who z 1 ≠ n + 1 := fun e => hd1 ((hd_eq h.iv h.hs hn ho).2 (by rw [← sp]; exact e))
  have e1 : ∀ m, m ≠ n → (finK k1 n).p m = k.p m := fun m c => (show (finK k1 n).p m = k1.p m from put_ne _ _ _ _ c).trans (oth m c)
  have e2 : (finK k1 n).p n = Pr.no := put_same _ _ _
  have kj := (a.kj.fin hn s0 hh).mono (Y := X) (M := N) (fun m _ e => e.1.elim id (fun q => absurd q e.2)) (Nat.le_refl _)
  refine ⟨⟨kj, a.iv.leave _, a.hs.leave hn n0 o1 wn⟩, ⟨fun m hm => ?_, fun s p hs hp => ?_, fun s p m hs hp hm e c => ?_, fun s hs e => ?_, fun s hs q r => ?_⟩, e2, fun x _ c => ⟨e1 x c, by show (Sp.leaT k1.sp (n : Int)).of x = _; rw [Sp.lea_of hn o, if_neg c, sp]⟩⟩
  · by_cases c : m = n
    · subst c
      refine .inr ⟨e2, ?_, (h.iv.mem_self hn ho).1⟩
      show (Sp.leaT k1.sp (m : Int)).of m = 0
      rw [Sp.lea_of hn o, if_pos rfl]
    · refine .inl ⟨e1 m c, ?_⟩
      show (Sp.leaT k1.sp (n : Int)).of m = _
      rw [Sp.lea_of hn o, if_neg c, sp]
  · show (Sp.leaT k1.sp (n : Int)).who s p = _ ∨ (Sp.leaT k1.sp (n : Int)).who s p = 0
    rw [Sp.lea_who hn o hs, sp]
    by_cases c : k.sp.who s p = n + 1
    · rw [if_pos c]; exact .inr rfl
    · rw [if_neg c]; exact .inl rfl
  · have c2 : (Sp.leaT k1.sp (n : Int)).of m ≠ 0 := c
    rw [Sp.lea_of hn o] at c2
    show (Sp.leaT k1.sp (n : Int)).who s p = _
    by_cases q : m = n
    · rw [if_pos q] at c2; exact absurd rfl c2
    · rw [Sp.lea_who hn o hs, sp, if_neg (by omega)]; exact e
  · have e3 : (Sp.leaT k1.sp (n : Int)).here s = true := e
    rw [(Sp.lea_here hn o).1, sp] at e3; exact e3
  · have e3 : (Sp.leaT k1.sp (n : Int)).here s = false := r
    rw [(Sp.lea_here hn o).1, sp] at e3
    rw [q] at e3; cases e3
end
end Kn
end Go.Proofs.YtghogbngmcolmaaGreat

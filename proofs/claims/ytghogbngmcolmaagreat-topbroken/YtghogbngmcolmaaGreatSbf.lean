import Derived.Deep.CutBlock
import Derived.Test.YtghogbngmcolmaaGreatSbe
namespace Go.Proofs.YtghogbngmcolmaaGreat
open Go.RowKit
open Tr (Fo Nd)
open Mo (Wh Mt)
open Mv (Me Bk)
open Kn (Pr Kp St us KB KJ VI EI)
namespace Kn
open Fa.Fr in
theorem wake_now {m m' : M} {z : Int} {on : Bool} (k : WakeTo m z on m') : m'.now = m.now := by
  rcases k with ⟨_, k⟩ | ⟨_, rfl⟩
  · exact (look_here k).1
  · rfl
open Fa.Fr in
theorem addTask_now (m : M) (z g wt : Int) : (addTaskM m z g wt).now = m.now := by unfold addTaskM addM; split <;> rfl
open Fa.Fr in
theorem sync_addTask {m : M} (hI : Inv m) (hS : Sync m) (z g wt : Int) : Sync (addTaskM m z g wt) := by
  unfold addTaskM addM
  by_cases k : addTaskE m z g wt = 0
  · rw [if_pos k]
    unfold addTaskE at k
    by_cases k1 : z < 0 ∨ 20 ≤ z
    · rw [if_pos k1] at k; omega
    · rw [if_neg k1] at k
      obtain ⟨g', x, rfl, rfl, h1, h2, h3, h4, h5⟩ := addE_zero k
      rw [Int.toNat_natCast]
      exact hS.add hI (by omega) h5
  · rw [if_neg k]; exact hS
end Kn
namespace Mv
theorem cntK_none {fr : Nat → Nat} (f : Nat) : ∀ n, (∀ x, x < n → fr x = 0) → cntK fr f n = 0
  | 0, _ => rfl
  | n + 1, h => by
    show cntK fr f n + (if fr n = f + 1 then 1 else 0) = 0
    rw [cntK_none f n (fun x hx => h x (by omega)), h n (by omega), if_neg (by omega)]
theorem Wld.forkAt {k : Bk} {N : Nat} {me : Nat → Me} (h : Wld k N me) {i j : Nat} (hi : i < N) (hj : j < N) (h0 : ∀ x, x < 16 → (me j).fr x = 0) : Wld (foK (me i) k 16) N (setP me j (me i)) := by
  refine ⟨h.inv, h.nb, h.n8, fun a ha n hn => ?_, fun f hf => ?_, fun f hf => ?_, h.one⟩
  · by_cases c : a = j
    · subst c; rw [setP_same]; exact h.le i hi n hn
    · rw [setP_ne _ _ _ _ c]; exact h.le a ha n hn
  · show k.refs f + cntK (me i).fr f 16 = tot (setP me j (me i)) f N
    have := tot_set me f j (me i) N
    rw [if_pos hj, if_pos hj, cntK_none f 16 h0] at this
    rw [h.ref f hf]; omega
  · show k.pool.tk f = true ↔ 1 ≤ k.refs f + cntK (me i).fr f 16
    rw [h.tk f hf]
    have := (h.cnt hi).cnt f hf
    omega
end Mv
namespace Sp
section
variable {t : T} {d : Nat → Nat} {z x : Nat}
theorem ent_eq (hz : z < 6) (hh : t.here z = true) (hx : x < 20) (h0 : t.of x = 0) : entE t (z : Int) (x : Int) = 0 ∧ entT t (z : Int) (x : Int) = { putT t (W t (z : Int)) x with of := upN t.of x (z + 1) } := by
  have e : entE t (z : Int) (x : Int) = 0 := by
    unfold entE pairE
    rw [isE_nat hz hh, if_pos rfl, procE_nat hx, if_pos rfl, Int.toNat_natCast, if_pos h0]
  refine ⟨e, ?_⟩
  unfold entT
  rw [if_pos e, Int.toNat_natCast, Int.toNat_natCast]
theorem ent_of (hz : z < 6) (hh : t.here z = true) (hx : x < 20) (h0 : t.of x = 0) (m : Nat) : (entT t (z : Int) (x : Int)).of m = if m = x then z + 1 else t.of m := by rw [(ent_eq hz hh hx h0).2]; rfl
theorem ent_here (hz : z < 6) (hh : t.here z = true) (hx : x < 20) (h0 : t.of x = 0) : (entT t (z : Int) (x : Int)).here = t.here ∧ (entT t (z : Int) (x : Int)).par = t.par := by rw [(ent_eq hz hh hx h0).2]; exact ⟨rfl, rfl⟩
theorem ent_who (hz : z < 6) (hh : t.here z = true) (hx : x < 20) (h0 : t.of x = 0) (s p : Nat) : (entT t (z : Int) (x : Int)).who s p = if s ∈ W t (z : Int) ∧ p = low t s then x + 1 else t.who s p := by rw [(ent_eq hz hh hx h0).2]; rfl
theorem ent_keep (hI : Inv t d) (hz : z < 6) (hh : t.here z = true) (hx : x < 20) (h0 : t.of x = 0) {s p : Nat} (hs : s < 6) (hw : t.who s p ≠ 0) : (entT t (z : Int) (x : Int)).who s p = t.who s p := by
  rw [ent_who hz hh hx h0, if_neg]
  rintro ⟨_, rfl⟩
  exact hw (hI.low hx h0 hs).2.2.1
theorem HDs.enter (hI : Inv t d) (hz : z < 6) (hh : t.here z = true) (hx : x < 20) (h0 : t.of x = 0) (hH : ∀ s, s < 6 → t.here s = true → (∃ h, h < 20 ∧ t.who s 1 = h + 1 ∧ t.of h = s + 1) ∨ (s = z ∧ ∀ p, p < 21 → t.who s p = 0)) (r0 : t.of 0 = 1 ∧ t.who 0 1 = 1) : HDs (entT t (z : Int) (x : Int)) := by
  refine ⟨fun s hs hs2 => ?_, ?_⟩
  · rw [(ent_here hz hh hx h0).1] at hs2
    rcases hH s hs hs2 with ⟨h, a, b, c⟩ | ⟨rfl, e⟩
    · exact ⟨h, a, by rw [ent_keep hI hz hh hx h0 hs (by omega)]; exact b, by rw [ent_of hz hh hx h0, if_neg (fun q => by subst q; omega)]; exact c⟩
    · have l := hI.low hx h0 hs
      have l1 : low t s = 1 := by
        by_cases c : low t s = 1
        · exact c
        · exact absurd (e 1 (by omega)) (l.2.2.2 1 (by omega) (by omega))
      refine ⟨x, hx, ?_, by rw [ent_of hz hh hx h0, if_pos rfl]⟩
      have mz : s ∈ W t (s : Int) := by rw [hI.tree.step hz hh]; simp
      rw [ent_who hz hh hx h0, if_pos ⟨mz, l1.symm⟩]
  · have x0 : (0 : Nat) ≠ x := fun q => by subst q; rw [r0.1] at h0; omega
    rw [ent_of hz hh hx h0, if_neg x0, ent_keep hI hz hh hx h0 (by omega) (by rw [r0.2]; omega)]
    exact r0
theorem add_eq {y : Int} (h : addE t y = 0) : addT t y = { t with here := upB t.here (freeS t) true, par := upI t.par (freeS t) y } := by unfold addT; rw [if_pos h]
end
end Sp
namespace Mo
theorem hol_kind (F : Fo) (z : Int) (n : Nat) : ((Tr.hol F z).nd n).kind = (F.nd n).kind := by
  unfold Tr.hol
  split
  · by_cases c : n = z.toNat
    · subst c; rw [Tr.put_same]
    · rw [Tr.put_ne _ _ _ _ c]
  · rfl
theorem hoA_kind (F : Fo) (T : Tb) (n : Nat) : ((hoA F T).nd n).kind = (F.nd n).kind := by
  have : ∀ (L : List Mt) (G : Fo), ((L.foldl hoM G).nd n).kind = (G.nd n).kind := fun L => by
    induction L with
    | nil => exact fun _ => rfl
    | cons m L ih => exact fun G => (ih _).trans ((hol_kind _ _ _).trans (hol_kind _ _ _))
  exact (this _ _).trans (hol_kind _ _ _)
theorem hoA_ok {F : Fo} {T : Tb} (h : Tr.Ok F) : Tr.Ok (hoA F T) := by
  have : ∀ (L : List Mt) (G : Fo), Tr.Ok G → Tr.Ok (L.foldl hoM G) := fun L => by
    induction L with
    | nil => exact fun _ h => h
    | cons m L ih => exact fun G h => ih _ ((h.hol _).hol _)
  exact this _ _ (h.hol _)
theorem mc_mem {L : List Mt} {m : Mt} (h : m ∈ L) (n : Nat) : oneI m.1.2 n + oneI m.2.2 n ≤ mc L n := by
  induction L with
  | nil => cases h
  | cons x L ih =>
    rw [mc_cons]
    rcases List.mem_cons.1 h with rfl | h
    · omega
    · have := ih h; omega
theorem HI.tab {F : Fo} {f : Nat → Nat} {T : Tb} (h : HI F f) (hr : Rg T) (hf : ∀ n, n < 40 → tc T n ≤ f n) : Tr.nodeE F T.rt.2 = 0 ∧ ∀ m ∈ T.ms, Tr.nodeE F m.1.2 = 0 ∧ Tr.nodeE F m.2.2 = 0 := by
  have key : ∀ z, isN z → (∀ n, n < 40 → oneI z n ≤ f n) → Tr.nodeE F z = 0 := fun z hz hl => by
    obtain ⟨n, rfl, n40⟩ := hz
    unfold Tr.nodeE
    have := hl n n40
    rw [oneI_same] at this
    rw [if_neg (by omega), Int.toNat_natCast, if_neg (h.lv n n40 (by omega))]
  refine ⟨key _ hr.1 (fun n hn => ?_), fun m hm => ⟨key _ (hr.2 m hm).1 (fun n hn => ?_), key _ (hr.2 m hm).2 (fun n hn => ?_)⟩⟩
  · have := hf n hn; unfold tc at this; omega
  · have a := hf n hn; have b := mc_mem hm n; unfold tc at a; omega
  · have a := hf n hn; have b := mc_mem hm n; unfold tc at a; omega
end Mo
namespace Kn
section
variable {X : Nat → Prop} {N : Nat} {d : Nat → Nat} {k : Kp}
theorem tabN_open (k : Kp) (k' : Kp) (y : Nat) (T : Mo.Tb) (h1 : k'.ht = fun i => if i = y then true else k.ht i) (h2 : k'.tb = fun i => if i = y then T else k.tb i) (h0 : k.ht y = false) (m : Nat) : ∀ s, tabN k' m s = tabN k m s + (if y < s then Mo.tc T m else 0)
  | 0 => by rw [if_neg (Nat.not_lt_zero _)]; rfl
  | s + 1 => by
    have ih := tabN_open k k' y T h1 h2 h0 m s
    show tabN k' m s + (if k'.ht s = true then Mo.tc (k'.tb s) m else 0) = tabN k m s + (if k.ht s = true then Mo.tc (k.tb s) m else 0) + _
    rw [ih]
    by_cases c : s = y
    · have a : k'.ht s = true := by rw [h1]; exact if_pos c
      have b : k'.tb s = T := by rw [h2]; exact if_pos c
      subst c
      rw [if_pos a, b, h0, if_neg (show ¬ s < s by omega), if_neg (show ¬ false = true by decide), if_pos (show s < s + 1 by omega)]
    · have a : k'.ht s = k.ht s := by rw [h1]; exact if_neg c
      have b : k'.tb s = k.tb s := by rw [h2]; exact if_neg c
      rw [a, b]
      by_cases e : y < s
      · rw [if_pos e, if_pos (show y < s + 1 by omega)]; omega
      · rw [if_neg e, if_neg (show ¬ y < s + 1 by omega)]; omega
theorem tabN_ge {k : Kp} {z : Nat} (m : Nat) (hz : k.ht z = true) : ∀ s, z < s → Mo.tc (k.tb z) m ≤ tabN k m s
  | 0, h => absurd h (Nat.not_lt_zero _)
  | s + 1, h => by
    show _ ≤ tabN k m s + (if k.ht s = true then Mo.tc (k.tb s) m else 0)
    by_cases c : z = s
    · subst c; rw [if_pos hz]; omega
    · have := tabN_ge m hz s (by omega); omega
def opnK (k : Kp) (z y : Nat) : Kp := { k with sp := Sp.addT k.sp (z : Int), fo := Mo.hoA k.fo (k.tb z), ht := fun i => if i = y then true else k.ht i, tb := fun i => if i = y then k.tb z else k.tb i }
theorem KJ.opn (h : KJ X N k) {z y : Nat} (ea : Sp.addE k.sp (z : Int) = 0) (hy : Sp.freeS k.sp = y) : KJ X N (opnK k z y) := by
  obtain ⟨z', ez, z6, zh, wl, f6, fh, fl⟩ := Sp.addE_zero ea
  obtain rfl : z = z' := by omega
  rw [hy] at f6 fh
  have htz : k.ht z = true := by rw [h.ht z z6]; exact zh
  have hty : k.ht y = false := by rw [h.ht y f6]; exact fh
  have tx : ∀ m, tabX (opnK k z y) m = tabX k m + Mo.tc (k.tb z) m := fun m => by
    have := tabN_open k (opnK k z y) y (k.tb z) rfl rfl hty m 6
    rw [if_pos f6] at this
    exact this
  have rg := h.tb z z6 htz
  have hi : Mo.HI k.fo (fun n => Fx.cK k.fi 1 n 24 + tabX k n) := ⟨fun n hn => h.wx.hl n hn, fun n hn c kz => by
    have := h.wx.z0 n hn kz
    rw [h.wx.hl n hn] at this
    omega⟩
  have nn := hi.tab rg.1 (fun n _ => by have : Mo.tc (k.tb z) n ≤ tabX k n := tabN_ge n htz 6 z6; omega)
  have ho := Mo.hoA_HI hi nn.1 nn.2
  have es := Sp.add_eq ea
  rw [hy] at es
  refine ⟨?_, h.gr, h.si, h.sy, h.nw, h.me, ?_, h.rf, Mo.hoA_ok h.ok, fun s hs q => ?_, h.st, h.hs, h.lv, fun n hn => ?_, fun s hs => ?_, h.nm⟩
  · obtain ⟨d, hd⟩ := h.sp; exact hd.add _
  · refine ⟨h.wx.no, h.wx.kd, fun n hn r k1 => ?_, h.wx.pn, h.wx.ps, fun m hm => ?_, fun m hm kz => ?_, h.wx.rd, h.wx.wt⟩
    · have a := h.wx.nd n hn r k1
      exact ⟨a.1, by show ((Mo.hoA k.fo (k.tb z)).nd _).kind = 1; rw [Mo.hoA_kind]; exact a.2⟩
    · show ((Mo.hoA k.fo (k.tb z)).nd m).held = _
      rw [ho.hd m hm, tx m]
      show _ = Fx.cK k.fi 1 m 24 + _
      omega
    · by_cases c : ((Mo.hoA k.fo (k.tb z)).nd m).held = 0
      · exact c
      · exact absurd kz (ho.lv m hm (by rw [← ho.hd m hm]; omega))
  · have q2 : (if s = y then true else k.ht s) = true := q
    show Mo.Rg (if s = y then k.tb z else k.tb s) ∧ (if s = y then k.tb z else k.tb s).ms.length ≤ 6
    by_cases c : s = y
    · rw [if_pos c]; exact rg
    · rw [if_neg c] at q2 ⊢; exact h.tb s hs q2
  · show (Sp.addT k.sp (z : Int)).of n ≠ 0 ↔ _
    rw [es]; exact h.of n hn
  · show (if s = y then true else k.ht s) = (Sp.addT k.sp (z : Int)).here s
    rw [es]
    show _ = if s = y then true else k.sp.here s
    by_cases c : s = y
    · rw [if_pos c, if_pos c]
    · rw [if_neg c, if_neg c]; exact h.ht s hs
theorem homK_own {n z y : Nat} (hz : Sp.inN k.sp (n : Int) = z) (ea : Sp.addE k.sp (z : Int) = 0) (hy : Sp.freeS k.sp = y) : homK k n true = opnK k z y ∧ homN k n true = y ∧ homE k n true = 0 := by
  have e0 : homE k n true = 0 := by unfold homE; rw [if_pos rfl, hz]; exact ea
  have n0 : homN k n true = y := by
    unfold homN Sp.addN
    rw [if_pos rfl, hz, if_pos ea, hy]
  refine ⟨?_, n0, e0⟩
  unfold homK
  rw [if_pos ⟨rfl, e0⟩, n0, hz]
  rfl
theorem homK_no (k : Kp) (n : Nat) : homK k n false = k ∧ homE k n false = 0 := ⟨by unfold homK; rw [if_neg (fun q => by cases q.1)], rfl⟩
def shaK (k : Kp) (fd : Nat → Int) : Nat → Kp
  | 0 => k
  | j + 1 => if fd j = -1 then shaK k fd j else { shaK k fd j with fi := Fx.shaT (shaK k fd j).fi (fd j) }
theorem shaK_same (k : Kp) (fd : Nat → Int) : ∀ j, ∃ T, shaK k fd j = { k with fi := T }
  | 0 => ⟨k.fi, rfl⟩
  | j + 1 => by
    obtain ⟨T, e⟩ := shaK_same k fd j
    by_cases c : fd j = -1
    · exact ⟨T, by show (if fd j = -1 then _ else _) = _; rw [if_pos c]; exact e⟩
    · exact ⟨Fx.shaT T (fd j), by show (if fd j = -1 then _ else _) = _; rw [if_neg c, e]⟩
theorem sha_ok {xx : Nat → Nat} {T : Nat → Fx.Fi} {F : Fo} {S : Nat → Pp.Pi} (h : WX xx T F S) (z : Int) : WX xx (Fx.shaT T z) F S ∧ ∀ n, (Fx.shaT T z n).refs ≤ (T n).refs + 1 := by
  unfold Fx.shaT
  by_cases c : Fx.filE T z = 0
  · rw [if_pos c]
    obtain ⟨n, rfl, hn, r⟩ := Fx.filE_ok c
    rw [Int.toNat_natCast]
    refine ⟨h.turn hn r _ (Nat.succ_ne_zero _) rfl rfl (h.ps n hn), fun m => ?_⟩
    by_cases e : m = n
    · subst e; rw [Fx.put_same]; exact Nat.le_refl _
    · rw [Fx.put_ne _ _ _ _ e]; omega
  · rw [if_neg c]; exact ⟨h, fun _ => by omega⟩
theorem shaK_ok {xx : Nat → Nat} {k : Kp} (h : WX xx k.fi k.fo k.pi) (fd : Nat → Int) : ∀ j, WX xx (shaK k fd j).fi k.fo k.pi ∧ ∀ n, ((shaK k fd j).fi n).refs ≤ (k.fi n).refs + j
  | 0 => ⟨h, fun _ => Nat.le_refl _⟩
  | j + 1 => by
    have ih := shaK_ok h fd j
    show WX xx (if fd j = -1 then shaK k fd j else _ : Kp).fi k.fo k.pi ∧ ∀ n, ((if fd j = -1 then shaK k fd j else _ : Kp).fi n).refs ≤ _
    by_cases c : fd j = -1
    · rw [if_pos c]; exact ⟨ih.1, fun n => by have := ih.2 n; omega⟩
    · rw [if_neg c]
      have a := sha_ok ih.1 (fd j)
      exact ⟨a.1, fun n => by have := a.2 n; have := ih.2 n; show (Fx.shaT (shaK k fd j).fi (fd j) n).refs ≤ _; omega⟩
def chP (k : Kp) (n : Nat) : Pr := { k.p n with par := (n : Int), box := Sg.chiF (k.p n).box }
def copK (k : Kp) (n : Nat) : Kp := shaK { k with bk := Mv.foK (k.p n).mem k.bk 16 } (k.p n).fd 6
theorem KJ.sta (h : KJ X N k) {n c z : Nat} {m' : Fa.Fr.M} (hX : ¬ X c) (hn : n < 20) (hc : c < 20) (l : Kn.lv k n = true) (hh : (k.p n).has = true) (c0 : (k.p c).st = 0) (z6 : z < 6) (zh : k.sp.here z = true) (wk : Fa.Fr.WakeTo (Fa.Fr.addTaskM k.sc (c : Int) (k.p n).grp 100) (c : Int) true m') : KJ X (N + 1) (staK (copK k n) c (chP k n) (z : Int) m') := by
  obtain ⟨T, eT⟩ := shaK_same { k with bk := Mv.foK (k.p n).mem k.bk 16 } (k.p n).fd 6
  have st1 : (k.p n).st = 1 := by unfold Kn.lv at l; simpa using l
  have nc : n ≠ c := fun e => by subst e; omega
  have fh : (k.p c).has = false := by
    cases e : (k.p c).has
    · rfl
    · have := h.hs c hc e; omega
  have o0 : k.sp.of c = 0 := by
    by_cases e : k.sp.of c = 0
    · exact e
    · exact absurd c0 ((h.of c hc).1 e)
  have cop : copK k n = { k with bk := Mv.foK (k.p n).mem k.bk 16, fi := T } := eT
  have wx := shaK_ok (k := { k with bk := Mv.foK (k.p n).mem k.bk 16 }) h.wx (k.p n).fd 6
  rw [eT] at wx
  rw [cop]
  have e : ∀ m, m ≠ c → (staK { k with bk := Mv.foK (k.p n).mem k.bk 16, fi := T } c (chP k n) (z : Int) m').p m = k.p m := fun m q => put_ne _ _ _ _ q
  have e2 : (staK { k with bk := Mv.foK (k.p n).mem k.bk 16, fi := T } c (chP k n) (z : Int) m').p c = chP k n := put_same _ _ _
  refine ⟨?_, ?_, (h.si.addTask _ _ _).wake wk, (sync_addTask h.si h.sy _ _ _).wake (h.si.addTask _ _ _) wk, ?_, ?_, wx.1, fun m hm => ?_, h.ok, h.tb, fun m hm => ?_, fun m hm => ?_, fun m hm => ?_, fun m hm => ?_, fun s hs => ?_, fun m hm => ?_⟩
  · obtain ⟨d, hd⟩ := h.sp; exact ⟨d, hd.enter _ _⟩
  · obtain ⟨Wy, g⟩ := h.gr; exact ⟨Wy, g.mono (Nat.le_succ N)⟩
  · show m'.now ≤ N + 1
    rw [wake_now wk, addTask_now]; have := h.nw; omega
  · rw [show (fun m => ((staK { k with bk := Mv.foK (k.p n).mem k.bk 16, fi := T } c (chP k n) (z : Int) m').p m).mem) = Mv.setP (fun m => (k.p m).mem) c (k.p n).mem from funext fun m => by
      by_cases q : m = c
      · subst q; rw [e2, Mv.setP_same]; rfl
      · rw [e m q, Mv.setP_ne _ _ _ _ q]]
    exact h.me.forkAt (i := n) hn hc (fun x _ => by show (k.p c).mem.fr x = 0; rw [h.nm c hc fh]; rfl)
  · have := wx.2 m; have := h.rf m hm
    show (T m).refs ≤ _
    have t : (T m).refs ≤ (k.fi m).refs + 6 := wx.2 m
    omega
  · by_cases q : m = c
    · subst q; rw [e2]; show (k.p n).st ≤ 2; omega
    · rw [e m q]; exact h.st m hm
  · by_cases q : m = c
    · subst q; rw [e2]; intro _; exact st1
    · rw [e m q]; exact h.hs m hm
  · intro hx
    by_cases q : m = c
    · subst q; rw [e2]; intro _; exact hh
    · rw [e m q]; exact h.lv m hm hx
  · show (Sp.entT k.sp (z : Int) (c : Int)).of m ≠ 0 ↔ _
    rw [Sp.ent_of z6 zh hc o0]
    by_cases q : m = c
    · subst q; rw [e2, if_pos rfl]; exact ⟨fun _ => by show (k.p n).st ≠ 0; omega, fun _ => by omega⟩
    · rw [e m q, if_neg q]; exact h.of m hm
  · show k.ht s = (Sp.entT k.sp (z : Int) (c : Int)).here s
    rw [(Sp.ent_here z6 zh hc o0).1]; exact h.ht s hs
  · by_cases q : m = c
    · subst q; rw [e2]; intro f; have f2 : (k.p n).has = false := f; rw [hh] at f2; cases f2
    · rw [e m q]; exact h.nm m hm
end
end Kn
end Go.Proofs.YtghogbngmcolmaaGreat
namespace Go.Proofs.YtghogbngmcolmaaGreat
open Go.RowKit
open Tr (Fo Nd)
open Mo (Wh Mt)
open Mv (Me Bk)
open Kn (Pr Kp St us KB KJ VI EI)
section
variable {s s1 : St} {w W W' : World} {rb base : Nat}
theorem KF.fresh (h : KF s w s1 W) (f : Frm rb W W') (hr : w.heap.size ≤ rb) : KF s w s1 W' := ⟨⟨f.os.trans h.onl.os, f.tape.trans h.onl.tape, f.output.trans h.onl.output, Nat.le_trans h.onl.size f.size, fun b hb hn => (f.block b (Nat.lt_of_lt_of_le hb h.onl.size) (by omega)).trans (h.onl.block b hb hn)⟩, h.sub, h.a0⟩
theorem KKt.fresh (h : KKt W base s) (f : Frm rb W W') (hn : ¬ KB s rb) : KKt W' base s := h.same (fun i hi => f.block _ (h.lt hi) (fun e => hn ⟨i, hi, e.symm⟩))
theorem KKt.not_new (h : KKt w base s) (hr : w.heap.size ≤ rb) : ¬ KB s rb := fun c => by have := h.klt c; omega
end
def CB (w : World) (b : Nat) (p c : Int) : Prop := w.heap[b]? = some (.cells #[.int .i64 p, .int .i64 c] 38 (0, 0))
theorem CB.lt {w : World} {b : Nat} {p c : Int} (h : CB w b p c) : b < w.heap.size := (Array.getElem?_eq_some_iff.1 h).1
theorem CB.c0 {w : World} {b : Nat} {p c : Int} (h : CB w b p c) : w.cell? ⟨b, 0, none⟩ = some (.int .i64 p) := by rw [cell_blk h]; rfl
theorem CB.c1 {w : World} {b : Nat} {p c : Int} (h : CB w b p c) : w.cell? ⟨b, 1, none⟩ = some (.int .i64 c) := by rw [cell_blk h]; rfl
theorem CB.frozen {w : World} {b : Nat} {p c : Int} (h : CB w b p c) (o : Nat) : w.frozen? ⟨b, o, none⟩ = false := frozen_blk h o
theorem CB.same {w w' : World} {b : Nat} {p c : Int} (h : CB w b p c) (e : w'.heap[b]? = w.heap[b]?) : CB w' b p c := e.trans h
theorem CB.set {w : World} {b : Nat} {p c : Int} (h : CB w b p c) (p' c' : Int) : CB ((w.setCell ⟨b, 0, none⟩ (.int .i64 p')).setCell ⟨b, 1, none⟩ (.int .i64 c')) b p' c' := blk_set (blk_set h 0 _) 1 _
theorem CB.frm (w : World) (b : Nat) (p' c' : Int) : Frm b w ((w.setCell ⟨b, 0, none⟩ (.int .i64 p')).setCell ⟨b, 1, none⟩ (.int .i64 c')) := ((Frm.refl _ _).setCell _ _).setCell _ _
def Kn.WaiTo (k : Kp) (z : Int) (p : Nat) (c E : Int) (k' : Kp) : Prop :=
  (Kn.actE k z ≠ 0 ∧ E = Kn.actE k z ∧ p = 0 ∧ c = 0 ∧ k' = k) ∨
  (Kn.actE k z = 0 ∧ ∃ n : Nat, z = n ∧ n < 20 ∧ ((Kn.chL k n = [] ∧ E = 2 ∧ p = 0 ∧ c = 0 ∧ k' = k) ∨
    (Kn.chL k n ≠ [] ∧ (∀ m ∈ Kn.chL k n, Kn.lv k m = true) ∧ E = 8 ∧ p = 0 ∧ c = 0 ∧ k' = k) ∨
    (E = 0 ∧ ∃ (i m : Nat), (Kn.chL k n)[i]? = some m ∧ Kn.lv k m = false ∧ (∀ (j x : Nat), j < i → (Kn.chL k n)[j]? = some x → Kn.lv k x = true) ∧ p = Sp.pidN k.sp (m : Int) (Sp.inN k.sp (n : Int) : Nat) ∧ c = (k.p m).code ∧ Kn.VanN 6 k m k')))
section
variable (base N : Nat) (d : Nat → Nat) (s : St) (w : World)
set_option maxRecDepth 100000 in
set_option maxHeartbeats 2000000 in
theorem kwait_any (hN : N ≤ 900) (z : Int) (h : KKt w base s) (hv : VI (fun _ => False) N d s.k) (h0 : (s.k.p 0).par = -1) :
    Calls Tryz.prog 11 #[.pointer (some ⟨s.A 0, 0, none⟩), .int .i64 z] w fun e w' => ∃ (p : Nat) (c E : Int) (k' : Kp), e = .returned (.tuple #[.agg #[.int .i64 (p : Int), .int .i64 c], errV E]) ∧ Kn.WaiTo s.k z p c E k' ∧ KKt w' base { s with k := k' } ∧ KF s w { s with k := k' } w' := by
  have b0 : Below w.heap.size w (w.alloc (.cells #[.int .i64 0, .int .i64 0] 38)) := (Below.refl _ _).alloc (Nat.le_refl _) _
  have AC := Hid.intro (kacting_any base s _ z (h.below b0))
  have R0 : Hid (CB (w.alloc (.cells #[.int .i64 0, .int .i64 0] 38)) w.heap.size 0 0 ∧ Below w.heap.size w (w.alloc (.cells #[.int .i64 0, .int .i64 0] 38))) := Hid.intro ⟨heap_alloc_new w _, b0⟩
  have H := Hid.intro (And.intro h (And.intro hv (And.intro h0 hN)))
  obtain ⟨kb, hkb⟩ : ∃ kb, s.A 0 = kb := ⟨_, rfl⟩
  have HK := Hid.intro hkb
  rw [hkb] at AC ⊢
  by_cases a : Kn.actE s.k z = 0
  · obtain ⟨n, rfl, hn, hl⟩ := Kn.actE_ok a
    have HA := Hid.intro a
    rw [a, errV_zero] at AC
    generalize aptE kb (n : Int) 0 = ap at *
    have st1 : (s.k.p n).st ≠ 0 := by
      have : decide ((s.k.p n).st = 1) = true := hl
      have : (s.k.p n).st = 1 := by simpa using this
      omega
    obtain ⟨y, hy⟩ : ∃ y, s.k.sp.of n = y + 1 := ⟨s.k.sp.of n - 1, by have := (hv.kj.of n hn).2 st1; omega⟩
    have HY := Hid.intro hy
    clear h hv h0 a b0 hl st1 hy
    go_enter Tryz.func11, Tryz.ntmps11
    go_wp2_with fail
    refine AC.out.mono ?_
    rintro e w1 ⟨rfl, hw⟩
    rw [← hw] at R0
    clear hw AC
    have CH := Hid.intro (kchildren_any base s w1 n (H.out.1.below R0.out.2) (H.out.2.1.mems hn HY.out))
    rw [HK.out] at CH
    go_wp2_with fail
    refine CH.out.mono ?_
    rintro e w4 ⟨v4, u4, rfl, hb4, hL⟩
    clear CH
    obtain ⟨LC, hLC⟩ : ∃ LC, Kn.chL s.k n = LC := ⟨_, rfl⟩
    rw [hLC] at hL
    have HLC := Hid.intro hLC
    have LP : Hid ((∀ x ∈ LC, x < 20) ∧ ∀ x ∈ LC, x ≠ 0) := Hid.intro (by
      rw [← HLC.out]
      exact ⟨Kn.chL_lt H.out.2.1 hn HY.out, fun x hx e => by have := Kn.chL_par x hx; rw [e, H.out.2.2.1] at this; omega⟩)
    obtain ⟨a1, cp1, hv1⟩ := own_form hL.own
    obtain ⟨NN, hNN⟩ : ∃ NN, LC.length = NN := ⟨_, rfl⟩
    have HNN := Hid.intro hNN
    have NL : NN ≤ 21 := by
      rw [← hNN, ← HLC.out]
      exact Nat.le_trans (Kn.chK_len _ _ _) (Kn.memL_len _ _)
    have BB : Hid (Below w.heap.size w w4 ∧ CB w4 w.heap.size 0 0 ∧ KKt w4 base s) := Hid.intro (by
      have q : Below w1.heap.size w1 w4 := hb4.trans (hL.bel.mono hb4.size)
      exact ⟨R0.out.2.trans (q.mono (by have := R0.out.1.lt; omega)), R0.out.1.same (q.block _ R0.out.1.lt), (H.out.1.below R0.out.2).below q⟩)
    have LL : Hid (∀ i, i < LC.length → ∃ gg cap, v4 = .slice (some ⟨gg, 0, none⟩) LC.length cap ∧ w4.cell? ⟨gg, i, none⟩ = some (.int .i64 ((LC.getD i 0 : Nat) : Int))) := Hid.intro (fun i hi => by
      obtain ⟨gg, cap, hv, hg, hc⟩ := hL.cells (by omega)
      refine ⟨gg, cap, hv, ?_⟩
      have q := hc i hi
      rw [show 0 + i = i by omega] at q
      exact q)
    rw [hNN] at hv1
    have HV1 := Hid.intro hv1
    rw [hv1]
    obtain ⟨rb, hrb⟩ : ∃ rb, w.heap.size = rb := ⟨_, rfl⟩
    have HR := Hid.intro hrb
    rw [hrb] at BB ⊢
    clear hL hv1 hNN hb4 hLC R0 hrb
    by_cases n0 : NN = 0
    · subst n0
      have EL : Hid (LC = []) := Hid.intro (List.length_eq_zero_iff.1 HNN.out)
      have x0 := BB.out.2.1.c0
      have x1 := BB.out.2.1.c1
      have xf := BB.out.2.1.frozen
      go_wp2_with fail
      have S2 : Hid (CB ((w4.setCell ⟨rb, 0, none⟩ (.int .i64 0)).setCell ⟨rb, 1, none⟩ (.int .i64 0)) rb 0 0 ∧ KKt ((w4.setCell ⟨rb, 0, none⟩ (.int .i64 0)).setCell ⟨rb, 1, none⟩ (.int .i64 0)) base s ∧ KF s w s ((w4.setCell ⟨rb, 0, none⟩ (.int .i64 0)).setCell ⟨rb, 1, none⟩ (.int .i64 0))) := Hid.intro ⟨BB.out.2.1.set 0 0, BB.out.2.2.fresh (CB.frm _ _ _ _) (H.out.1.not_new (by rw [HR.out]; exact Nat.le_refl _)), (KF.below (by rw [HR.out]; exact BB.out.1)).fresh (CB.frm _ _ _ _) (by rw [HR.out]; exact Nat.le_refl _)⟩
      generalize (w4.setCell ⟨rb, 0, none⟩ (.int .i64 0)).setCell ⟨rb, 1, none⟩ (.int .i64 0) = WF at S2 ⊢
      have y0 := S2.out.1.c0
      have y1 := S2.out.1.c1
      refine bodyPost_ret (v := .tuple #[.agg #[.int .i64 0, .int .i64 0], .iface 60 (.int .i64 2)]) (by simp [results, Tryz.f11, go_sem, y0, y1]) rfl ?_
      exact ⟨0, 0, 2, s.k, by rw [errV_ne (by decide)]; rfl, .inr ⟨HA.out, n, rfl, hn, .inl ⟨by rw [HLC.out]; exact EL.out, rfl, rfl, rfl, rfl⟩⟩, S2.out.2⟩
    · have nB : ((NN : Int) == 0) = false := by simp; omega
      have nI : ¬ (NN : Int) = 0 := by omega
      have EL : Hid (LC ≠ []) := Hid.intro (fun e => n0 (by rw [← HNN.out, e]; rfl))
      go_wp2_with fail
      go_loopw [10, 32] (fun _ i wr => ∃ (k : Nat), i = .int .i64 k ∧ k ≤ NN ∧ wr = w4 ∧ Hid (∀ j x, j < k → LC[j]? = some x → Kn.lv s.k x = true)) (fun _ i _ => NN - (intOf i).toNat)
      case atStart => exact ⟨0, rfl, by omega, rfl, Hid.intro (fun j _ hj => absurd hj (Nat.not_lt_zero j))⟩
      case round =>
        obtain ⟨k, rfl, hk, hwr, R⟩ := hrel
        subst wr
        by_cases hlt : k < NN
        · have hltI : (k : Int) < NN := by omega
          have hkL : k < LC.length := by rw [HNN.out]; exact hlt
          obtain ⟨m, hm⟩ : ∃ m, LC[k]? = some m := ⟨_, List.getElem?_eq_getElem hkL⟩
          have m20 : m < 20 := LP.out.1 m (List.mem_of_getElem? hm)
          have m20I : (m : Int) < 20 := by omega
          obtain ⟨gg, cap, hv, hc⟩ := LL.out k hkL
          rw [HV1.out] at hv
          cases hv
          have cm : w4.cell? ⟨gg, k, none⟩ = some (.int .i64 (m : Int)) := by
            rw [hc]
            simp [List.getD_eq_getElem?_getD, hm]
          obtain ⟨tl, htl⟩ : ∃ tl, Kn.lv s.k m = tl := ⟨_, rfl⟩
          have LV := Hid.intro (klive_any base s w4 m BB.out.2.2 m20 tl htl)
          rw [HK.out] at LV
          have HM := Hid.intro (And.intro hm (And.intro htl (LP.out.2 m (List.mem_of_getElem? hm))))
          clear hc hm hkL htl
          cases tl
          · have cc := BB.out.2.2.cCode m m20
            rw [HK.out] at cc
            obtain ⟨cd, hcd⟩ : ∃ cd, (s.k.p m).code = cd := ⟨_, rfl⟩
            have HCD := Hid.intro hcd
            rw [hcd] at cc
            clear hcd
            have SP : Hid (∀ W, Below w4.heap.size w4 W → Calls Tryz.prog 37 #[.pointer (some ⟨kb, 0, none⟩), .int .i64 n] W fun e w' => e = .returned (.int .i64 (Sp.inN s.k.sp (n : Int) : Int)) ∧ w' = W) := Hid.intro (fun W b => by rw [← HK.out]; exact kspace_any base s W (n : Int) (BB.out.2.2.below b))
            have PI : Hid (∀ W, Below w4.heap.size w4 W → Calls Tryz.prog 36 #[.pointer (some ⟨kb, 0, none⟩), .int .i64 m, .int .i64 (Sp.inN s.k.sp (n : Int) : Int)] W fun e w' => e = .returned (.int .i64 (Sp.pidN s.k.sp (m : Int) (Sp.inN s.k.sp (n : Int) : Nat) : Int)) ∧ w' = W) := Hid.intro (fun W b => by rw [← HK.out]; exact kpid_any base s W (m : Int) _ (BB.out.2.2.below b) H.out.2.1.iv.who0)
            obtain ⟨pp, hpp⟩ : ∃ pp, Sp.pidN s.k.sp (m : Int) (Sp.inN s.k.sp (n : Int) : Nat) = pp := ⟨_, rfl⟩
            have HPP := Hid.intro hpp
            rw [hpp] at PI
            obtain ⟨ss, hss⟩ : ∃ ss, Sp.inN s.k.sp (n : Int) = ss := ⟨_, rfl⟩
            rw [hss] at SP PI
            clear hpp hss
            go_upto_region 11 with (refine LV.out.mono ?_; rintro e w5 ⟨rfl, hw⟩; subst w5)
            have nk := World.new_ne w4 ⟨kb, m * 12 + 3, none⟩ cc
            go_region_held3 (fun w' => w'.cell? ⟨kb, m * 12 + 3, none⟩ = some (.int .i64 cd)) (go_keep) (first | (go_at_call 37; refine (SP.out _ (by first | exact (Below.refl _ _).drew | exact (Below.refl _ _).drew.alloc (Nat.le_refl _) _)).mono ?_; rintro e w5 ⟨rfl, hw⟩; subst w5) | (go_at_call 36; refine (PI.out _ (by first | exact (Below.refl _ _).drew | exact (Below.refl _ _).drew.alloc (Nat.le_refl _) _)).mono ?_; rintro e w5 ⟨rfl, hw⟩; subst w5))
            all_goals
              have S5 : Hid (CB (w4.alloc (.cells #[.int .i64 pp, .int .i64 cd] 38)).drew w4.heap.size pp cd ∧ CB (w4.alloc (.cells #[.int .i64 pp, .int .i64 cd] 38)).drew rb 0 0 ∧ KKt (w4.alloc (.cells #[.int .i64 pp, .int .i64 cd] 38)).drew base s ∧ KF s w s (w4.alloc (.cells #[.int .i64 pp, .int .i64 cd] 38)).drew ∧ rb < w4.heap.size) := Hid.intro (by
                have b5 : Below w4.heap.size w4 (w4.alloc (.cells #[.int .i64 pp, .int .i64 cd] 38)).drew := ((Below.refl _ _).alloc (Nat.le_refl _) _).drew
                exact ⟨heap_alloc_new w4 _, BB.out.2.1.same (b5.block _ BB.out.2.1.lt), BB.out.2.2.below b5, (KF.below (by rw [HR.out]; exact BB.out.1)).trans (KF.below b5), BB.out.2.1.lt⟩)
              generalize (w4.alloc (.cells #[.int .i64 pp, .int .i64 cd] 38)).drew = W5 at *
              generalize w4.heap.size = cb at *
              have VN : Hid (Calls Tryz.prog 41 #[.pointer (some ⟨kb, 0, none⟩), .int .i64 m] W5 fun e w' => ∃ k', e = .returned (.tuple #[]) ∧ Kn.VanN 6 s.k m k' ∧ KKt w' base { s with k := k' } ∧ KF s w { s with k := k' } w' ∧ CB w' cb pp cd ∧ CB w' rb 0 0 ∧ KF s W5 { s with k := k' } w') := Hid.intro (by
                obtain ⟨x, hx⟩ : ∃ x, s.k.sp.of m = x + 1 := by
                  have q : m ∈ Kn.chL s.k n := by rw [HLC.out]; exact List.mem_of_getElem? HM.out.1
                  unfold Kn.chL Kn.chK at q
                  have y6 := (H.out.2.1.iv.mem_self hn HY.out).2
                  rw [Sp.inN_of hn HY.out] at q
                  have q2 := (List.mem_filter.1 q).1
                  unfold membL at q2
                  rw [Sp.isE_nat y6.1 y6.2, if_pos rfl, Int.toNat_natCast] at q2
                  obtain ⟨i, hi⟩ := List.getElem?_of_mem q2
                  have q3 := (H.out.2.1.iv.mem_of y6.1 m20 (Sp.memb_of hi (fun p hp => H.out.2.1.iv.wle y p y6.1 hp)).2).1
                  exact ⟨s.k.sp.of m - 1, by omega⟩
                have q := kvanish_any base N d hN (fun _ => False) s W5 m x S5.out.2.2.1 H.out.2.1 m20 HM.out.2.2 (fun x => x) hx (fun _ _ _ x => x.elim)
                rw [HK.out] at q
                refine q.mono ?_
                rintro e w6 ⟨k', rfl, vn, ka, kf⟩
                have nk1 : ¬ KB s cb := H.out.1.not_new (by have := S5.out.2.2.2.2; rw [HR.out]; omega)
                have nk2 : ¬ KB s rb := H.out.1.not_new (by rw [HR.out]; exact Nat.le_refl _)
                exact ⟨k', rfl, vn, ka, S5.out.2.2.2.1.trans kf, S5.out.1.same (kf.keep S5.out.1.lt nk1), S5.out.2.1.same (kf.keep S5.out.2.1.lt nk2), kf⟩)
              clear cc cm nk
              go_wp2_with fail
              refine VN.out.mono ?_
              rintro e w6 ⟨k', rfl, vn, ka, kf, cb1, rb1, kf1⟩
              have S6 : Hid (Kn.WaiTo s.k (n : Int) pp cd 0 k' ∧ KKt w6 base { s with k := k' } ∧ KF s w { s with k := k' } w6 ∧ CB w6 rb 0 0 ∧ ¬ KB { s with k := k' } rb) := Hid.intro ⟨.inr ⟨HA.out, n, rfl, hn, .inr (.inr ⟨rfl, k, m, by rw [HLC.out]; exact HM.out.1, HM.out.2.1, by rw [HLC.out]; exact R.out, HPP.out.symm, HCD.out.symm, vn⟩)⟩, ka, kf, rb1, kf1.apart S5.out.2.1.lt (H.out.1.not_new (by rw [HR.out]; exact Nat.le_refl _))⟩
              have x0 := rb1.c0
              have x1 := rb1.c1
              have xf := rb1.frozen
              have u0 := cb1.c0
              have u1 := cb1.c1
              clear vn ka kf cb1 rb1 kf1 S5 VN
              go_wp2_with fail
              have S2 : Hid (CB ((w6.setCell ⟨rb, 0, none⟩ (.int .i64 pp)).setCell ⟨rb, 1, none⟩ (.int .i64 cd)) rb pp cd ∧ KKt ((w6.setCell ⟨rb, 0, none⟩ (.int .i64 pp)).setCell ⟨rb, 1, none⟩ (.int .i64 cd)) base { s with k := k' } ∧ KF s w { s with k := k' } ((w6.setCell ⟨rb, 0, none⟩ (.int .i64 pp)).setCell ⟨rb, 1, none⟩ (.int .i64 cd))) := Hid.intro ⟨S6.out.2.2.2.1.set pp cd, S6.out.2.1.fresh (CB.frm _ _ _ _) S6.out.2.2.2.2, S6.out.2.2.1.fresh (CB.frm _ _ _ _) (by rw [HR.out]; exact Nat.le_refl _)⟩
              generalize (w6.setCell ⟨rb, 0, none⟩ (.int .i64 pp)).setCell ⟨rb, 1, none⟩ (.int .i64 cd) = WF at S2 ⊢
              have y0 := S2.out.1.c0
              have y1 := S2.out.1.c1
              (try simp only [Exit.then])
              refine bodyPost_ret (v := .tuple #[.agg #[.int .i64 pp, .int .i64 cd], .nilIface]) (by simp [results, Tryz.f11, go_sem, y0, y1]) rfl ?_
              exact ⟨pp, cd, 0, k', by rw [errV_zero], S6.out.1, S2.out.2⟩
          · have R1 : Hid (∀ j x, j < k + 1 → LC[j]? = some x → Kn.lv s.k x = true) := Hid.intro (fun j x hj hx => by
              by_cases e : j = k
              · subst e; rw [HM.out.1] at hx; cases hx; exact HM.out.2.1
              · exact R.out j x (by omega) hx)
            go_wp2_with fail
            refine LV.out.mono ?_
            rintro e w5 ⟨rfl, hw⟩
            subst w5
            go_wp2_with fail
            go_roundw
            case rel => exact ⟨k + 1, by go_num, by omega, by first | rfl | trivial, R1⟩
            case measure => simp [intOf]; omega
        · obtain rfl : k = NN := by omega
          have AL : Hid (∀ x ∈ LC, Kn.lv s.k x = true) := Hid.intro (fun x hx => by
            obtain ⟨j, hj⟩ := List.getElem?_of_mem hx
            exact R.out j x (by rw [← HNN.out]; exact (List.getElem?_eq_some_iff.1 hj).1) hj)
          have x0 := BB.out.2.1.c0
          have x1 := BB.out.2.1.c1
          have xf := BB.out.2.1.frozen
          go_wp2_with fail
          have S2 : Hid (CB ((w4.setCell ⟨rb, 0, none⟩ (.int .i64 0)).setCell ⟨rb, 1, none⟩ (.int .i64 0)) rb 0 0 ∧ KKt ((w4.setCell ⟨rb, 0, none⟩ (.int .i64 0)).setCell ⟨rb, 1, none⟩ (.int .i64 0)) base s ∧ KF s w s ((w4.setCell ⟨rb, 0, none⟩ (.int .i64 0)).setCell ⟨rb, 1, none⟩ (.int .i64 0))) := Hid.intro ⟨BB.out.2.1.set 0 0, BB.out.2.2.fresh (CB.frm _ _ _ _) (H.out.1.not_new (by rw [HR.out]; exact Nat.le_refl _)), (KF.below (by rw [HR.out]; exact BB.out.1)).fresh (CB.frm _ _ _ _) (by rw [HR.out]; exact Nat.le_refl _)⟩
          generalize (w4.setCell ⟨rb, 0, none⟩ (.int .i64 0)).setCell ⟨rb, 1, none⟩ (.int .i64 0) = WF at S2 ⊢
          have y0 := S2.out.1.c0
          have y1 := S2.out.1.c1
          refine bodyPost_ret (v := .tuple #[.agg #[.int .i64 0, .int .i64 0], .iface 60 (.int .i64 8)]) (by simp [results, Tryz.f11, go_sem, y0, y1]) rfl ?_
          exact ⟨0, 0, 8, s.k, by rw [errV_ne (by decide)]; rfl, .inr ⟨HA.out, n, rfl, hn, .inr (.inl ⟨by rw [HLC.out]; exact EL.out, by rw [HLC.out]; exact AL.out, rfl, rfl, rfl, rfl⟩)⟩, S2.out.2⟩
  · have FIN : Hid (Kn.WaiTo s.k z 0 0 (Kn.actE s.k z) s.k) := Hid.intro (.inl ⟨a, rfl, rfl, rfl, rfl⟩)
    have HE := Hid.intro (errV_ne a)
    rw [errV_ne a] at AC
    clear h hv h0 a b0
    generalize aptE kb z (Kn.actE s.k z) = ap at *
    go_enter Tryz.func11, Tryz.ntmps11
    go_wp2_with fail
    refine AC.out.mono ?_
    rintro e w4 ⟨rfl, hw⟩
    rw [← hw] at R0
    clear hw AC
    obtain ⟨rb, hrb⟩ : ∃ rb, w.heap.size = rb := ⟨_, rfl⟩
    have HR := Hid.intro hrb
    rw [hrb] at R0 ⊢
    have x0 := R0.out.1.c0
    have x1 := R0.out.1.c1
    have xf := R0.out.1.frozen
    clear hrb
    go_wp2_with fail
    have S2 : Hid (CB ((w4.setCell ⟨rb, 0, none⟩ (.int .i64 0)).setCell ⟨rb, 1, none⟩ (.int .i64 0)) rb 0 0 ∧ KKt ((w4.setCell ⟨rb, 0, none⟩ (.int .i64 0)).setCell ⟨rb, 1, none⟩ (.int .i64 0)) base s ∧ KF s w s ((w4.setCell ⟨rb, 0, none⟩ (.int .i64 0)).setCell ⟨rb, 1, none⟩ (.int .i64 0))) := Hid.intro ⟨R0.out.1.set 0 0, (H.out.1.below (by rw [HR.out]; exact R0.out.2)).fresh (CB.frm _ _ _ _) (H.out.1.not_new (by rw [HR.out]; exact Nat.le_refl _)), (KF.below (by rw [HR.out]; exact R0.out.2)).fresh (CB.frm _ _ _ _) (by rw [HR.out]; exact Nat.le_refl _)⟩
    generalize (w4.setCell ⟨rb, 0, none⟩ (.int .i64 0)).setCell ⟨rb, 1, none⟩ (.int .i64 0) = WF at S2 ⊢
    have y0 := S2.out.1.c0
    have y1 := S2.out.1.c1
    refine bodyPost_ret (v := .tuple #[.agg #[.int .i64 0, .int .i64 0], .iface 60 (.int .i64 (Kn.actE s.k z))]) (by simp [results, Tryz.f11, go_sem, y0, y1]) rfl ?_
    exact ⟨0, 0, Kn.actE s.k z, s.k, by rw [HE.out]; rfl, FIN.out, S2.out.2⟩
end
end Go.Proofs.YtghogbngmcolmaaGreat

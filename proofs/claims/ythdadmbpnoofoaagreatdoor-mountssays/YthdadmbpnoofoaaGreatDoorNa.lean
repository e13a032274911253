/- TopMounts, plain: each node is held as often as the tables lead to it. -/
import Derived.Test.YthdadmbpnoofoaaGreatDoorMm
namespace Go.Proofs.YthdadmbpnoofoaaGreatDoor
open Go.RowKit
open Tr (Fo Nd)
open Mo (Wh Mt Tb)

namespace Mo
def oneI (z : Int) (n : Nat) : Nat := if z = (n : Int) then 1 else 0
theorem oneI_same (n : Nat) : oneI (n : Int) n = 1 := if_pos rfl
theorem oneI_ne {z : Int} {n : Nat} (h : z ≠ (n : Int)) : oneI z n = 0 := if_neg h
theorem oneI_le (z : Int) (n : Nat) : oneI z n ≤ 1 := by unfold oneI; split <;> omega
/-- How often a table's mounts, a table lead to a node. -/
def mc (L : List Mt) (n : Nat) : Nat := (L.map fun m => oneI m.1.2 n + oneI m.2.2 n).sum
def tc (T : Tb) (n : Nat) : Nat := oneI T.rt.2 n + mc T.ms n
theorem mc_nil (n : Nat) : mc [] n = 0 := rfl
theorem mc_cons (m : Mt) (L : List Mt) (n : Nat) : mc (m :: L) n = oneI m.1.2 n + oneI m.2.2 n + mc L n := by simp [mc]
theorem mc_app (L M : List Mt) (n : Nat) : mc (L ++ M) n = mc L n + mc M n := by simp [mc]
theorem mc_le (L : List Mt) (n : Nat) : mc L n ≤ 2 * L.length := by
  induction L with
  | nil => simp [mc]
  | cons m L ih =>
    rw [mc_cons, List.length_cons]
    have := oneI_le m.1.2 n
    have := oneI_le m.2.2 n
    omega
theorem mc_erase {L : List Mt} {i : Nat} {m : Mt} (h : L[i]? = some m) (n : Nat) : mc L n = oneI m.1.2 n + oneI m.2.2 n + mc (L.eraseIdx i) n := by
  induction L generalizing i with
  | nil => simp at h
  | cons x L ih =>
    cases i with
    | zero =>
      simp only [List.getElem?_cons_zero, Option.some.injEq] at h
      subst h
      rw [mc_cons]
      rfl
    | succ i =>
      rw [List.getElem?_cons_succ] at h
      rw [mc_cons, ih h, List.eraseIdx_cons_succ, mc_cons]
      omega
/-- Held as often as f says; and whoever is held is there. -/
structure HI (F : Fo) (f : Nat → Nat) : Prop where
  hd : ∀ n, n < 40 → (F.nd n).held = f n
  lv : ∀ n, n < 40 → 0 < f n → (F.nd n).kind ≠ 0
/-- A node's number. -/
def isN (z : Int) : Prop := ∃ n : Nat, z = n ∧ n < 40
theorem HI.congr {F : Fo} {f g : Nat → Nat} (h : HI F f) (e : ∀ n, n < 40 → f n = g n) : HI F g := ⟨fun n hn => (h.hd n hn).trans (e n hn), fun n hn h0 => h.lv n hn (by rw [e n hn]; exact h0)⟩
theorem HI.hol {F : Fo} {f : Nat → Nat} (h : HI F f) {z : Int} (hz : Tr.nodeE F z = 0) : HI (Tr.hol F z) (fun n => f n + oneI z n) := by
  obtain ⟨k, rfl, k40, kk⟩ := Tr.nodeE_ok hz
  unfold Tr.hol
  rw [if_pos hz, Int.toNat_natCast]
  refine ⟨fun n hn => ?_, fun n hn h0 => ?_⟩
  · by_cases e : n = k
    · subst e
      rw [Tr.put_same, oneI_same]
      show (F.nd n).held + 1 = _
      rw [h.hd n hn]
    · rw [Tr.put_ne _ _ _ _ e, oneI_ne (by omega)]
      exact h.hd n hn
  · by_cases e : n = k
    · subst e
      rw [Tr.put_same]
      exact kk
    · rw [Tr.put_ne _ _ _ _ e]
      rw [oneI_ne (by omega)] at h0
      exact h.lv n hn h0
theorem swe_held (F : Fo) (k n : Nat) : ((Tr.swe F k).nd n).held = (F.nd n).held := by
  unfold Tr.swe
  split
  · rename_i c
    by_cases e : n = k
    · subst e
      rw [Tr.put_same]
      exact c.2.symm
    · rw [Tr.put_ne _ _ _ _ e]
  · rfl
theorem swe_kind (F : Fo) (k n : Nat) (h : 0 < (F.nd n).held) : ((Tr.swe F k).nd n).kind = (F.nd n).kind := by
  unfold Tr.swe
  split
  · rename_i c
    by_cases e : n = k
    · subst e; omega
    · rw [Tr.put_ne _ _ _ _ e]
  · rfl
theorem HI.letT {F : Fo} {f : Nat → Nat} {z : Int} (h : HI F (fun n => f n + oneI z n)) (hz : isN z) : HI (Tr.letT F z) f := by
  obtain ⟨k, rfl, k40⟩ := hz
  have hk := h.hd k k40
  rw [oneI_same] at hk
  have e0 : Tr.letE F (k : Int) = 0 := by
    unfold Tr.letE
    have : Tr.nodeE F (k : Int) = 0 := by
      unfold Tr.nodeE
      rw [if_neg (by omega), Int.toNat_natCast, if_neg (h.lv k k40 (by rw [oneI_same]; omega))]
    rw [if_pos this, Int.toNat_natCast, if_neg (by omega)]
  unfold Tr.letT
  rw [if_pos e0, Int.toNat_natCast]
  have hd : ∀ n, n < 40 → ((F.put k { F.nd k with held := (F.nd k).held - 1 }).nd n).held = f n := fun n hn => by
    by_cases e : n = k
    · subst e
      rw [Tr.put_same]
      show (F.nd n).held - 1 = f n
      omega
    · rw [Tr.put_ne _ _ _ _ e, h.hd n hn, oneI_ne (by omega)]
      rfl
  refine ⟨fun n hn => by rw [swe_held]; exact hd n hn, fun n hn h0 => ?_⟩
  rw [swe_kind _ _ _ (by rw [hd n hn]; exact h0)]
  by_cases e : n = k
  · subst e
    rw [Tr.put_same]
    exact h.lv n hn (by omega)
  · rw [Tr.put_ne _ _ _ _ e]
    exact h.lv n hn (by omega)
theorem leaF_held {F : Fo} {n k : Nat} {s : ByteArray} (m : Nat) : ((Tr.leaF F n s k).nd m).held = (F.nd m).held ∧ ((Tr.leaF F n s k).nd m).kind = (F.nd m).kind := by
  have a : ∀ m, ((F.put n (Tr.adN (F.nd n) s k)).nd m).held = (F.nd m).held ∧ ((F.put n (Tr.adN (F.nd n) s k)).nd m).kind = (F.nd m).kind := fun m => by
    by_cases e : m = n
    · subst e
      rw [Tr.put_same]
      exact ⟨rfl, rfl⟩
    · rw [Tr.put_ne _ _ _ _ e]
      exact ⟨rfl, rfl⟩
  unfold Tr.leaF
  split
  · by_cases e : m = k
    · subst e
      rw [Tr.put_same]
      exact a m
    · rw [Tr.put_ne _ _ _ _ e]
      exact a m
  · exact a m
theorem HI.mak {F G : Fo} {f : Nat → Nat} {z kz E : Int} {s : ByteArray} {K : Nat} (h : HI F f) (hm : Tr.MakTo F z s kz K E G) : HI G f := by
  rcases hm with ⟨_, _, _, _, rfl⟩ | ⟨_, e, _, ⟨_, _, _, rfl⟩ | ⟨_, k, e2, hf, ⟨_, _, _, rfl⟩ | ⟨he, _, _, rfl⟩⟩⟩
  · exact h
  · exact h
  · exact h
  · rcases hf with ⟨_, k40, k0, _⟩ | ⟨e4, _⟩
    · have fk : f k = 0 := by
        rcases Nat.eq_zero_or_pos (f k) with c | c
        · exact c
        · exact absurd k0 (h.lv k k40 c)
      unfold Tr.makF
      refine ⟨fun n hn => ?_, fun n hn h0 => ?_⟩
      · rw [(leaF_held n).1]
        by_cases e : n = k
        · subst e
          rw [Tr.put_same, fk]
          rfl
        · rw [Tr.put_ne _ _ _ _ e]
          exact h.hd n hn
      · rw [(leaF_held n).2]
        by_cases e : n = k
        · subst e
          rw [fk] at h0
          omega
        · rw [Tr.put_ne _ _ _ _ e]
          exact h.lv n hn h0
    · rw [he] at e4; omega
theorem HI.rem {F G : Fo} {f : Nat → Nat} {z E : Int} {s : ByteArray} (h : HI F f) (hm : Tr.RemTo F z s E G) : HI G f := by
  obtain ⟨K, e, hf, ⟨_, _, rfl⟩ | ⟨_, ⟨_, _, _, rfl⟩ | ⟨_, _, i, _, rfl⟩⟩⟩ := hm
  · exact h
  · exact h
  · have a : ∀ m, ((F.put z.toNat (Tr.forN (F.nd z.toNat) i)).nd m).held = (F.nd m).held ∧ ((F.put z.toNat (Tr.forN (F.nd z.toNat) i)).nd m).kind = (F.nd m).kind := fun m => by
      by_cases e : m = z.toNat
      · subst e
        rw [Tr.put_same]
        exact ⟨rfl, rfl⟩
      · rw [Tr.put_ne _ _ _ _ e]
        exact ⟨rfl, rfl⟩
    have b : ∀ m, (((F.put z.toNat (Tr.forN (F.nd z.toNat) i)).put K { (F.put z.toNat (Tr.forN (F.nd z.toNat) i)).nd K with links := (F.nd K).links - 1 }).nd m).held = (F.nd m).held ∧ (((F.put z.toNat (Tr.forN (F.nd z.toNat) i)).put K { (F.put z.toNat (Tr.forN (F.nd z.toNat) i)).nd K with links := (F.nd K).links - 1 }).nd m).kind = (F.nd m).kind := fun m => by
      by_cases e : m = K
      · subst e
        rw [Tr.put_same]
        exact a m
      · rw [Tr.put_ne _ _ _ _ e]
        exact a m
    unfold Tr.remF
    refine ⟨fun n hn => by rw [swe_held, (b n).1]; exact h.hd n hn, fun n hn h0 => ?_⟩
    rw [swe_kind _ _ _ (by rw [(b n).1, h.hd n hn]; exact h0), (b n).2]
    exact h.lv n hn h0
theorem HI.alive {F : Fo} {f : Nat → Nat} (h : HI F f) {z : Int} (hz : isN z) (h0 : 0 < f z.toNat) : Tr.nodeE F z = 0 := by
  obtain ⟨k, rfl, k40⟩ := hz
  rw [Int.toNat_natCast] at h0
  unfold Tr.nodeE
  rw [if_neg (by omega), Int.toNat_natCast, if_neg (h.lv k k40 h0)]
/-- All places of a table are nodes. -/
def Rg (T : Tb) : Prop := isN T.rt.2 ∧ ∀ m ∈ T.ms, isN m.1.2 ∧ isN m.2.2
theorem hoM_HI {F : Fo} {f : Nat → Nat} {m : Mt} (h : HI F f) (h1 : Tr.nodeE F m.1.2 = 0) (h2 : Tr.nodeE F m.2.2 = 0) : HI (hoM F m) (fun n => f n + oneI m.1.2 n + oneI m.2.2 n) := by
  have a := h.hol h1
  refine a.hol ?_
  obtain ⟨k, e, k40, kk⟩ := Tr.nodeE_ok h2
  rw [e]
  unfold Tr.nodeE
  rw [if_neg (by omega), Int.toNat_natCast, if_neg]
  unfold Tr.hol
  rw [if_pos h1]
  by_cases c : k = m.1.2.toNat
  · rw [c, Tr.put_same]
    rw [← c]
    exact kk
  · rw [Tr.put_ne _ _ _ _ c]
    exact kk
theorem leM_HI {F : Fo} {f : Nat → Nat} {m : Mt} (h : HI F (fun n => f n + oneI m.1.2 n + oneI m.2.2 n)) (h1 : isN m.1.2) (h2 : isN m.2.2) : HI (leM F m) f :=
  HI.letT (HI.letT (f := fun n => f n + oneI m.2.2 n) (h.congr (fun n _ => by omega)) h1) h2
theorem leA_HI {F : Fo} {f : Nat → Nat} {T : Tb} (h : HI F (fun n => f n + tc T n)) (hr : Rg T) : HI (leA F T) f := by
  have a : HI (Tr.letT F T.rt.2) (fun n => f n + mc T.ms n) := HI.letT (h.congr (fun n _ => by unfold tc; omega)) hr.1
  have b : ∀ (L : List Mt) (G : Fo), HI G (fun n => f n + mc L n) → (∀ m ∈ L, isN m.1.2 ∧ isN m.2.2) → HI (L.foldl leM G) f := fun L => by
    induction L with
    | nil => exact fun G hG _ => hG.congr (fun n _ => by rw [mc_nil]; omega)
    | cons m L ih =>
      intro G hG hm
      refine ih (leM G m) (leM_HI (hG.congr (fun n _ => by rw [mc_cons]; omega)) (hm m (by simp)).1 (hm m (by simp)).2) (fun x hx => hm x (by simp [hx]))
  exact b _ _ a hr.2
theorem hol_nodeE {F : Fo} {z y : Int} (h : Tr.nodeE F y = 0) : Tr.nodeE (Tr.hol F z) y = 0 := by
  obtain ⟨k, rfl, k40, kk⟩ := Tr.nodeE_ok h
  unfold Tr.nodeE
  rw [if_neg (by omega), Int.toNat_natCast, if_neg]
  unfold Tr.hol
  split
  · by_cases c : k = z.toNat
    · rw [c, Tr.put_same]
      rw [← c]
      exact kk
    · rw [Tr.put_ne _ _ _ _ c]
      exact kk
  · exact kk
theorem hoA_HI {F : Fo} {f : Nat → Nat} {T : Tb} (h : HI F f) (hr : Tr.nodeE F T.rt.2 = 0) (hm : ∀ m ∈ T.ms, Tr.nodeE F m.1.2 = 0 ∧ Tr.nodeE F m.2.2 = 0) : HI (hoA F T) (fun n => f n + tc T n) := by
  have b : ∀ (L : List Mt) (G : Fo) (g : Nat → Nat), HI G g → (∀ m ∈ L, Tr.nodeE G m.1.2 = 0 ∧ Tr.nodeE G m.2.2 = 0) → HI (L.foldl hoM G) (fun n => g n + mc L n) := fun L => by
    induction L with
    | nil => exact fun G g hG _ => hG.congr (fun n _ => by rw [mc_nil]; omega)
    | cons m L ih =>
      intro G g hG hm
      refine (ih (hoM G m) _ (hoM_HI hG (hm m (by simp)).1 (hm m (by simp)).2) (fun x hx => ?_)).congr (fun n _ => by rw [mc_cons]; omega)
      exact ⟨hol_nodeE (hol_nodeE (hm x (by simp [hx])).1), hol_nodeE (hol_nodeE (hm x (by simp [hx])).2)⟩
  exact (b T.ms _ _ (h.hol hr) (fun m hx => ⟨hol_nodeE (hm m hx).1, hol_nodeE (hm m hx).2⟩)).congr (fun n _ => by unfold tc; omega)
theorem HI.hb {F : Fo} {f : Nat → Nat} {K : Nat} (h : HI F f) (hf : ∀ n, n < 40 → f n ≤ K) : Tr.Hb F K := fun n hn => by rw [h.hd n hn]; exact hf n hn
theorem tc_le (T : Tb) (h6 : T.ms.length ≤ 6) (n : Nat) : tc T n ≤ 13 := by
  have := oneI_le T.rt.2 n
  have := mc_le T.ms n
  unfold tc
  omega
theorem wroE_0 {F : Fo} {x : Wh} (h : wroE F x = 0) : Tr.nodeE F x.2 = 0 := by
  unfold wroE at h
  by_cases c : Tr.nodeE F x.2 = 0
  · exact c
  · rw [if_pos c] at h
    exact h
theorem binE_0 {F : Fo} {T : Tb} {x y : Wh} (h : binE F T x y = 0) : wroE F x = 0 ∧ wroE F y = 0 ∧ T.ms.length ≠ 6 := by
  unfold binE at h
  by_cases c1 : wroE F x = 0
  · rw [c1, if_neg (fun d => d rfl)] at h
    by_cases c2 : wroE F y = 0
    · rw [c2, if_neg (fun d => d rfl)] at h
      refine ⟨c1, c2, fun c3 => ?_⟩
      by_cases c4 : x = y
      · rw [if_pos c4] at h; omega
      · rw [if_neg c4] at h
        by_cases c5 : (lk T.ms x).isSome = true
        · rw [if_pos c5] at h; omega
        · rw [if_neg c5, if_pos c3] at h; omega
    · rw [if_pos c2] at h; exact absurd h c2
  · rw [if_pos c1] at h; exact absurd h c1
theorem nodeE_is {F : Fo} {z : Int} (h : Tr.nodeE F z = 0) : isN z := by
  obtain ⟨n, e, hn, _⟩ := Tr.nodeE_ok h
  exact ⟨n, e, hn⟩
/-- The table of which nothing is done. -/
def T0 : Tb := ⟨(0, 0), []⟩
theorem rg0 : Rg T0 := ⟨⟨0, rfl, by omega⟩, fun m h => by cases h⟩
/-- What stays true: two tables over one forest. -/
structure MI (F : Fo) (T : Tb) : Prop where
  ok : Tr.Ok F
  hi : HI F (fun n => tc T0 n + tc T n)
  rg : Rg T
  six : T.ms.length ≤ 6
theorem MI.hb {F : Fo} {T : Tb} (h : MI F T) : Tr.Hb F 26 := h.hi.hb (fun n _ => by
  have := tc_le T0 (by decide) n
  have := tc_le T h.six n
  omega)
theorem MI.mak {F G : Fo} {T : Tb} {z kz E : Int} {s : ByteArray} {K : Nat} (h : MI F T) (hm : Tr.MakTo F z s kz K E G) : MI G T := ⟨h.ok.mak hm, h.hi.mak hm, h.rg, h.six⟩
theorem MI.rem {F G : Fo} {T : Tb} {z E : Int} {s : ByteArray} (h : MI F T) (hm : Tr.RemTo F z s E G) : MI G T := ⟨h.ok.rem hm, h.hi.rem hm, h.rg, h.six⟩
theorem MI.bin {F : Fo} {T : Tb} (h : MI F T) (x y : Wh) : MI (binF F T x y) (binT F T x y) := by
  unfold binF binT
  by_cases c : binE F T x y = 0
  · rw [if_pos c, if_pos c]
    obtain ⟨c1, c2, c3⟩ := binE_0 c
    refine ⟨(h.ok.hol _).hol _, (hoM_HI h.hi (wroE_0 c1) (wroE_0 c2)).congr (fun n _ => ?_), ⟨h.rg.1, fun m hm => ?_⟩, ?_⟩
    · show _ = tc T0 n + (oneI T.rt.2 n + mc (T.ms ++ [(x, y)]) n)
      rw [mc_app, mc_cons, mc_nil]
      unfold tc
      omega
    · rcases List.mem_append.1 hm with k | k
      · exact h.rg.2 m k
      · rw [List.mem_singleton] at k
        subst k
        exact ⟨nodeE_is (wroE_0 c1), nodeE_is (wroE_0 c2)⟩
    · have := h.six
      show (T.ms ++ [(x, y)]).length ≤ 6
      rw [List.length_append, List.length_singleton]
      omega
  · rw [if_neg c, if_neg c]
    exact h
theorem MI.unb {F F' : Fo} {T T' : Tb} {x : Wh} {E : Int} (h : MI F T) (hu : UnbTo F T x E T' F') : MI F' T' := by
  rcases hu with ⟨i, _, m, hm, _, rfl, rfl⟩ | ⟨_, _, rfl, rfl⟩
  · have hl := (List.getElem?_eq_some_iff.1 hm).1
    have hin := h.rg.2 m (List.mem_of_getElem? hm)
    refine ⟨(h.ok.letT _).letT _, leM_HI (h.hi.congr (fun n _ => ?_)) hin.1 hin.2, ⟨h.rg.1, fun y hy => h.rg.2 y (List.mem_of_mem_eraseIdx hy)⟩, ?_⟩
    · show tc T0 n + (oneI T.rt.2 n + mc T.ms n) = tc T0 n + (oneI T.rt.2 n + mc (T.ms.eraseIdx i) n) + oneI m.1.2 n + oneI m.2.2 n
      rw [mc_erase hm n]
      omega
    · have := h.six
      show (T.ms.eraseIdx i).length ≤ 6
      rw [List.length_eraseIdx_of_lt hl]
      omega
  · exact h
theorem leA_ok {F : Fo} {T : Tb} (h : Tr.Ok F) : Tr.Ok (leA F T) := by
  have : ∀ (L : List Mt) (G : Fo), Tr.Ok G → Tr.Ok (L.foldl leM G) := fun L => by
    induction L with
    | nil => exact fun _ h => h
    | cons m L ih => exact fun G h => ih _ ((h.letT _).letT _)
  exact this _ _ (h.letT _)
theorem letT_root (F : Fo) (z : Int) : (Tr.letT F z).root = F.root ∧ (Tr.letT F z).trees = F.trees := by
  unfold Tr.letT Tr.swe
  repeat' split
  all_goals exact ⟨rfl, rfl⟩
theorem leA_root (F : Fo) (T : Tb) : (leA F T).root = F.root ∧ (leA F T).trees = F.trees := by
  have : ∀ (L : List Mt) (G : Fo), (L.foldl leM G).root = G.root ∧ (L.foldl leM G).trees = G.trees := fun L => by
    induction L with
    | nil => exact fun G => ⟨rfl, rfl⟩
    | cons m L ih =>
      intro G
      have a := ih (leM G m)
      have b1 := letT_root G m.1.2
      have b2 := letT_root (Tr.letT G m.1.2) m.2.2
      exact ⟨a.1.trans (b2.1.trans b1.1), a.2.trans (b2.2.trans b1.2)⟩
  have a := this T.ms (Tr.letT F T.rt.2)
  have b := letT_root F T.rt.2
  exact ⟨a.1.trans b.1, a.2.trans b.2⟩
theorem root_alive {F : Fo} (h : Tr.Ok F) {t : Int} (e0 : Tr.rootE F t = 0) : Tr.nodeE F (Tr.rootN F t) = 0 := by
  have : 0 ≤ t ∧ t ≤ 3 ∧ t.toNat < F.trees := by
    unfold Tr.rootE at e0
    by_cases c : t < 0 ∨ 3 < t
    · rw [if_pos c] at e0; omega
    · rw [if_neg c] at e0
      by_cases d : F.trees ≤ t.toNat
      · rw [if_pos d] at e0; omega
      · omega
  have r := h.rt t.toNat this.2.2
  unfold Tr.rootN
  rw [if_pos e0]
  unfold Tr.nodeE
  rw [if_neg (by omega), Int.toNat_natCast, if_neg (by omega)]
theorem MI.piv {F : Fo} {T : Tb} {t : Int} (h : MI F T) (e0 : Tr.rootE F t = 0) : MI (Tr.hol (leA F T) (Tr.rootN F t)) ⟨(t, (Tr.rootN F t : Int)), []⟩ := by
  have o := leA_ok (T := T) h.ok
  have er : Tr.rootE (leA F T) t = Tr.rootE F t := by unfold Tr.rootE; rw [(leA_root F T).2]
  have nr : Tr.rootN (leA F T) t = Tr.rootN F t := by unfold Tr.rootN; rw [er, (leA_root F T).1]
  have al : Tr.nodeE (leA F T) (Tr.rootN F t) = 0 := by rw [← nr]; exact root_alive o (er.trans e0)
  refine ⟨o.hol _, ((leA_HI h.hi h.rg).hol al).congr (fun n _ => ?_), ⟨nodeE_is al, fun m hm => by cases hm⟩, by simp⟩
  show tc T0 n + oneI (Tr.rootN F t) n = tc T0 n + (oneI (Tr.rootN F t) n + mc [] n)
  rw [mc_nil]
  rfl
end Mo
end Go.Proofs.YthdadmbpnoofoaaGreatDoor

/- MountsSays, plain: to hold a root and to let a table go: in either order. -/
import Derived.Test.YthdadmbpnoofoaaGreatDoorDe
import Derived.Test.YthdadmbpnoofoaaGreatDoorNa
namespace Go.Proofs.YthdadmbpnoofoaaGreatDoor
open Go.RowKit
open Tr (Fo Nd)
open Mo (Wh Mt Tb)

namespace Mo
/-- All nodes to which a table leads. -/
def nds (T : Tb) : List Int := T.rt.2 :: T.ms.flatMap fun m => [m.1.2, m.2.2]
theorem leA_nds (F : Fo) (T : Tb) : leA F T = (nds T).foldl Tr.letT F := by
  have : ∀ (L : List Mt) (G : Fo), L.foldl leM G = (L.flatMap fun m => [m.1.2, m.2.2]).foldl Tr.letT G := fun L => by
    induction L with
    | nil => exact fun _ => rfl
    | cons m L ih => exact fun G => ih (leM G m)
  exact this T.ms (Tr.letT F T.rt.2)
def cl (l : List Int) (n : Nat) : Nat := (l.map fun z => oneI z n).sum
theorem cl_cons (z : Int) (l : List Int) (n : Nat) : cl (z :: l) n = oneI z n + cl l n := by simp [cl]
theorem cl_nds (T : Tb) (n : Nat) : cl (nds T) n = tc T n := by
  have : ∀ L : List Mt, cl (L.flatMap fun m => [m.1.2, m.2.2]) n = mc L n := fun L => by
    induction L with
    | nil => rfl
    | cons m L ih =>
      show cl (m.1.2 :: m.2.2 :: (L.flatMap fun m => [m.1.2, m.2.2])) n = _
      rw [cl_cons, cl_cons, ih, mc_cons]
      omega
  unfold nds tc
  rw [cl_cons, this]
theorem rg_nds {T : Tb} (h : Rg T) : ∀ z ∈ nds T, isN z := fun z hz => by
  unfold nds at hz
  rcases List.mem_cons.1 hz with e | e
  · rw [e]; exact h.1
  · obtain ⟨m, hm, e⟩ := List.mem_flatMap.1 e
    simp only [List.mem_cons, List.not_mem_nil, or_false] at e
    rcases e with e | e
    · rw [e]; exact (h.2 m hm).1
    · rw [e]; exact (h.2 m hm).2
theorem hol_put {F : Fo} {z : Int} (h : Tr.nodeE F z = 0) : Tr.hol F z = F.put z.toNat { F.nd z.toNat with held := (F.nd z.toNat).held + 1 } := if_pos h
theorem comm_one {F : Fo} {n : Nat} {z : Int} (hr : Tr.nodeE F (n : Int) = 0) (hl : 1 ≤ (F.nd n).links) (hz : z = (n : Int) → 0 < (F.nd n).held) : Tr.letT (Tr.hol F (n : Int)) z = Tr.hol (Tr.letT F z) (n : Int) := by
  have hn : n < 40 ∧ (F.nd n).kind ≠ 0 := by
    obtain ⟨k, e, h1, h2⟩ := Tr.nodeE_ok hr
    obtain rfl : n = k := by omega
    exact ⟨h1, h2⟩
  have nE : ∀ G : Fo, (G.nd n).kind ≠ 0 → Tr.nodeE G (n : Int) = 0 := fun G hk => by
    unfold Tr.nodeE
    rw [if_neg (by omega), Int.toNat_natCast, if_neg hk]
  by_cases e : z = (n : Int)
  · have h0 := hz e
    subst e
    have l1 : Tr.letE F (n : Int) = 0 := by
      unfold Tr.letE
      rw [if_pos hr, Int.toNat_natCast, if_neg (by omega)]
    have x1 : ltN (F.nd n) = { F.nd n with held := (F.nd n).held - 1 } := if_neg (by omega)
    rw [hol_put hr, letT_put l1, Int.toNat_natCast, x1]
    have l2 : Tr.letE (F.put n { F.nd n with held := (F.nd n).held + 1 }) (n : Int) = 0 := by
      unfold Tr.letE
      rw [if_pos (nE _ (by rw [Tr.put_same]; exact hn.2)), Int.toNat_natCast, Tr.put_same, if_neg (by simp)]
    rw [letT_put l2, Int.toNat_natCast, Tr.put_same, put_put]
    rw [hol_put (nE _ (by rw [Tr.put_same]; exact hn.2)), Int.toNat_natCast, Tr.put_same, put_put]
    congr 1
    unfold ltN
    rw [if_neg (by show ¬ ((F.nd n).links = 0 ∧ _); omega)]
    show ({ F.nd n with held := (F.nd n).held + 1 - 1 } : Nd) = { F.nd n with held := (F.nd n).held - 1 + 1 }
    rw [show (F.nd n).held + 1 - 1 = (F.nd n).held - 1 + 1 by omega]
  · by_cases hneg : z < 0
    · rw [letT_no (letE_neg hneg), letT_no (letE_neg hneg)]
    · have ne : z.toNat ≠ n := by omega
      have e1 : Tr.letE (Tr.hol F (n : Int)) z = Tr.letE F z := letE_at (by rw [hol_put hr, Int.toNat_natCast, Tr.put_ne _ _ _ _ ne])
      by_cases c : Tr.letE F z = 0
      · have k1 : (Tr.letT F z).nd n = F.nd n := letT_ne F z (Ne.symm ne)
        have k2 := hol_put (F := Tr.letT F z) (nE _ (by rw [k1]; exact hn.2))
        rw [Int.toNat_natCast, k1] at k2
        rw [k2, letT_put (e1.trans c), hol_put hr, Int.toNat_natCast, Tr.put_ne _ _ _ _ ne, letT_put c, put_comm F (Ne.symm ne)]
      · rw [letT_no (by rw [e1]; exact c), letT_no c]
theorem fold_hol {n : Nat} : ∀ (l : List Int) (F : Fo) (g : Nat → Nat), HI F (fun k => g k + cl l k) → (∀ z ∈ l, isN z) → Tr.nodeE F (n : Int) = 0 → 1 ≤ (F.nd n).links → l.foldl Tr.letT (Tr.hol F (n : Int)) = Tr.hol (l.foldl Tr.letT F) (n : Int)
  | [], _, _, _, _, _, _ => rfl
  | z :: l, F, g, h, hn, hr, hl => by
    have n40 : n < 40 := by
      obtain ⟨k, e, h1, _⟩ := Tr.nodeE_ok hr
      omega
    have hz : z = (n : Int) → 0 < (F.nd n).held := fun e => by
      rw [h.hd n n40, cl_cons, e, oneI_same]
      omega
    have iz := hn z (by simp)
    have h' : HI (Tr.letT F z) (fun k => g k + cl l k) := HI.letT (h.congr (fun k _ => by rw [cl_cons]; omega)) iz
    have keep : ((Tr.letT F z).nd n).kind = (F.nd n).kind ∧ ((Tr.letT F z).nd n).links = (F.nd n).links := by
      by_cases e : n = z.toNat
      · by_cases c : Tr.letE F z = 0
        · rw [letT_put c, e, Tr.put_same]
          rw [e] at hl
          unfold ltN
          rw [if_neg (by omega)]
          exact ⟨rfl, rfl⟩
        · rw [letT_no c]
          exact ⟨rfl, rfl⟩
      · rw [letT_ne F z e]
        exact ⟨rfl, rfl⟩
    have hr' : Tr.nodeE (Tr.letT F z) (n : Int) = 0 := by
      unfold Tr.nodeE at hr ⊢
      rw [Int.toNat_natCast] at hr ⊢
      rw [keep.1]
      exact hr
    rw [List.foldl_cons, List.foldl_cons, comm_one hr hl hz]
    exact fold_hol l _ g h' (fun y hy => hn y (by simp [hy])) hr' (by rw [keep.2]; exact hl)
theorem leA_hol {F : Fo} {T : Tb} {n : Nat} {g : Nat → Nat} (h : HI F (fun k => g k + tc T k)) (hg : Rg T) (hr : Tr.nodeE F (n : Int) = 0) (hl : 1 ≤ (F.nd n).links) : leA (Tr.hol F (n : Int)) T = Tr.hol (leA F T) (n : Int) := by
  rw [leA_nds, leA_nds]
  exact fold_hol (nds T) F g (h.congr (fun k _ => by rw [cl_nds])) (rg_nds hg) hr hl
end Mo
end Go.Proofs.YthdadmbpnoofoaaGreatDoor

/- MountsSays, plain: a copy that is made, and a table that is turned to another root and closed: the forest is as it was. -/
namespace Go.Proofs.YthdadmbpnoofoaaGreatDoor
open Go.RowKit
open Tr (Fo Nd)
open Mo (Wh Mt Tb)

namespace Mo
theorem hoA_nds (F : Fo) (T : Tb) : hoA F T = (nds T).foldl Tr.hol F := by
  have : ∀ (L : List Mt) (G : Fo), L.foldl hoM G = (L.flatMap fun m => [m.1.2, m.2.2]).foldl Tr.hol G := fun L => by
    induction L with
    | nil => exact fun _ => rfl
    | cons m L ih => exact fun G => ih (hoM G m)
  exact this T.ms (Tr.hol F T.rt.2)
/-- Each node, held so much more. -/
def addH (F : Fo) (c : Nat → Nat) : Fo := { F with nd := fun n => { F.nd n with held := (F.nd n).held + c n } }
theorem addH_0 (F : Fo) : addH F (fun _ => 0) = F := rfl
theorem addH_congr (F : Fo) {c d : Nat → Nat} (h : ∀ n, c n = d n) : addH F c = addH F d := by rw [show c = d from funext h]
theorem addH_node (F : Fo) (c : Nat → Nat) (z : Int) : Tr.nodeE (addH F c) z = Tr.nodeE F z := rfl
theorem addH_hol {F : Fo} {z : Int} (c : Nat → Nat) (h : Tr.nodeE F z = 0) : Tr.hol (addH F c) z = addH F (fun n => c n + oneI z n) := by
  obtain ⟨k, rfl, _, _⟩ := Tr.nodeE_ok h
  rw [hol_put (by rw [addH_node]; exact h), Int.toNat_natCast]
  unfold addH Tr.Fo.put
  congr 1
  funext n
  simp only
  by_cases e : n = k
  · rw [if_pos e]
    subst e
    rw [oneI_same]
    rfl
  · rw [if_neg e, oneI_ne (by omega)]
    rfl
theorem addH_let {F : Fo} {z : Int} (c : Nat → Nat) (h : Tr.nodeE F z = 0) (al : 1 ≤ (F.nd z.toNat).links + (F.nd z.toNat).held) : Tr.letT (addH F (fun n => c n + oneI z n)) z = addH F c := by
  obtain ⟨k, rfl, _, _⟩ := Tr.nodeE_ok h
  rw [Int.toNat_natCast] at al
  have l1 : Tr.letE (addH F (fun n => c n + oneI (k : Int) n)) (k : Int) = 0 := by
    unfold Tr.letE
    rw [addH_node, if_pos h, Int.toNat_natCast, if_neg]
    show ¬ (F.nd k).held + (c k + oneI (k : Int) k) = 0
    rw [oneI_same]
    omega
  rw [letT_put l1, Int.toNat_natCast]
  have x1 : ltN ((addH F (fun n => c n + oneI (k : Int) n)).nd k) = { F.nd k with held := (F.nd k).held + c k } := by
    have e : (addH F (fun n => c n + oneI (k : Int) n)).nd k = { F.nd k with held := (F.nd k).held + c k + 1 } := by
      show ({ F.nd k with held := (F.nd k).held + (c k + oneI (k : Int) k) } : Nd) = _
      rw [oneI_same]
      rfl
    rw [e]
    unfold ltN
    rw [if_neg (by show ¬ ((F.nd k).links = 0 ∧ (F.nd k).held + c k + 1 - 1 = 0); omega)]
    rfl
  rw [x1]
  unfold addH Tr.Fo.put
  congr 1
  funext n
  simp only
  by_cases e : n = k
  · rw [if_pos e]
    subst e
    rfl
  · rw [if_neg e, oneI_ne (by omega)]
    rfl
theorem fold_ho (F : Fo) : ∀ (l : List Int) (c : Nat → Nat), (∀ z ∈ l, Tr.nodeE F z = 0) → l.foldl Tr.hol (addH F c) = addH F (fun n => c n + cl l n)
  | [], c, _ => addH_congr F (fun n => rfl)
  | z :: l, c, h => by
    rw [List.foldl_cons, addH_hol c (h z (by simp)), fold_ho F l _ (fun y hy => h y (by simp [hy]))]
    exact addH_congr F (fun n => by rw [cl_cons]; omega)
theorem fold_le (F : Fo) : ∀ (l : List Int) (c : Nat → Nat), (∀ z ∈ l, Tr.nodeE F z = 0 ∧ 1 ≤ (F.nd z.toNat).links + (F.nd z.toNat).held) → l.foldl Tr.letT (addH F (fun n => c n + cl l n)) = addH F c
  | [], c, _ => addH_congr F (fun n => rfl)
  | z :: l, c, h => by
    rw [List.foldl_cons, addH_congr F (d := fun n => (c n + cl l n) + oneI z n) (fun n => by rw [cl_cons]; omega), addH_let _ (h z (by simp)).1 (h z (by simp)).2]
    exact fold_le F l c (fun y hy => h y (by simp [hy]))
theorem alive_al {F : Fo} (ho : Tr.Ok F) {z : Int} (h : Tr.nodeE F z = 0) : 1 ≤ (F.nd z.toNat).links + (F.nd z.toNat).held := by
  obtain ⟨k, rfl, k40, kk⟩ := Tr.nodeE_ok h
  rw [Int.toNat_natCast]
  exact ho.al k k40 kk
theorem le_ho {F : Fo} (ho : Tr.Ok F) {T : Tb} (h : ∀ z ∈ nds T, Tr.nodeE F z = 0) : leA (hoA F T) T = F := by
  rw [leA_nds, hoA_nds]
  have e := fold_ho F (nds T) (fun _ => 0) h
  rw [addH_0] at e
  rw [e, fold_le F (nds T) (fun _ => 0) (fun z hz => ⟨h z hz, alive_al ho (h z hz)⟩), addH_0]
theorem copy_same {F : Fo} (ho : Tr.Ok F) {T : Tb} (h : ∀ z ∈ nds T, Tr.nodeE F z = 0) {t : Int} {r : Nat} (hr : Tr.nodeE F (r : Int) = 0) : leA (Tr.hol (leA (hoA F T) T) (r : Int)) ⟨(t, (r : Int)), []⟩ = F := by
  rw [le_ho ho h]
  exact le_ho ho (T := ⟨(t, (r : Int)), []⟩) (fun z hz => by
    have e : z = (r : Int) := by simpa [nds] using hz
    rw [e]
    exact hr)
/-- Whoever is led to is there. -/
theorem HI.nds {F : Fo} {T : Tb} (h : HI F (tc T)) (hr : Rg T) : ∀ z ∈ nds T, Tr.nodeE F z = 0 := fun z hz => by
  have iz := rg_nds hr z hz
  refine h.alive iz ?_
  obtain ⟨k, rfl, _⟩ := iz
  rw [Int.toNat_natCast, ← cl_nds]
  have : ∀ l : List Int, (k : Int) ∈ l → 0 < cl l k := fun l => by
    induction l with
    | nil => exact fun h => by cases h
    | cons y l ih =>
      intro h
      rw [cl_cons]
      rcases List.mem_cons.1 h with e | e
      · rw [← e, oneI_same]; omega
      · have := ih e; omega
  exact this _ hz
end Mo
end Go.Proofs.YthdadmbpnoofoaaGreatDoor

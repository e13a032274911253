/- The forest, plain: a name leads to a node that is led to once less than it counts. -/
import Derived.Test.YtfgnhldnmbfnkabUd
namespace Go.Proofs.Ytfgnhldnmbfnkab
open Tr (Fo Nd)

/-- What is true but that node k counts one name more than lead to it. -/
structure Tr.OkX (F : Fo) (k : Nat) : Prop where
  tr : F.trees ≤ 4
  kd : ∀ n, n < 40 → (F.nd n).kind ≤ 2
  sz : Tr.SzOk F
  fz : Tr.FzOk F
  nb : ∀ n i, n < 40 → (F.nd n).kind = 2 → i < (F.nd n).size → Tr.nameB ((F.nd n).nam i) = true
  dp : ∀ n, n < 40 → (F.nd n).kind = 2 → Tr.Nodup (F.nd n)
  ki : ∀ n i, n < 40 → (F.nd n).kind = 2 → i < (F.nd n).size → (F.nd n).kid i < 40 ∧ (F.nd ((F.nd n).kid i)).kind ≠ 0 ∧ (F.nd ((F.nd n).kid i)).tree = (F.nd n).tree ∧ ((F.nd ((F.nd n).kid i)).kind = 2 → (F.nd ((F.nd n).kid i)).up = n)
  rt : ∀ t, t < F.trees → F.root t < 40 ∧ (F.nd (F.root t)).kind = 2 ∧ (F.nd (F.root t)).up = F.root t ∧ (F.nd (F.root t)).tree = t
  lk : ∀ n, n < 40 → (F.nd n).kind ≠ 0 → (F.nd n).links = Tr.cnt F n + oneN k n
  al : ∀ n, n < 40 → (F.nd n).kind ≠ 0 → 1 ≤ (F.nd n).links + (F.nd n).held
  dr : ∀ n, n < 40 → (F.nd n).kind = 2 → Tr.cnt F n + oneN k n = 1
  en : ∀ n, n < 40 → (F.nd n).kind = 2 → n ≠ k → Tr.EndsF F 40 n
  ro : ∀ n, n < 40 → (F.nd n).kind = 2 → n ≠ k → (F.nd n).up = n → ∃ t, t < F.trees ∧ F.root t = n
theorem Tr.leaF_put {F : Fo} {n k : Nat} {s : ByteArray} (nk : n ≠ k) : Tr.leaF F n s k = (F.put n (Tr.adN (F.nd n) s k)).put k (if (F.nd k).kind = 2 then { F.nd k with up := n } else F.nd k) := by
  have e : (F.put n (Tr.adN (F.nd n) s k)).nd k = F.nd k := Tr.put_ne _ _ _ _ (Ne.symm nk)
  unfold Tr.leaF
  rw [e]
  split
  · rfl
  · rw [show (F.put n (Tr.adN (F.nd n) s k)).put k (F.nd k) = (F.put n (Tr.adN (F.nd n) s k)).put k ((F.put n (Tr.adN (F.nd n) s k)).nd k) by rw [e], Tr.put_self]
/-- Whoever does not come by k comes to the same end where k alone goes elsewhere. -/
theorem Tr.EndsF.avoid {F G : Fo} {k : Nat} (h : ∀ x, x ≠ k → (G.nd x).up = (F.nd x).up) : ∀ {m x : Nat}, Tr.EndsF F m x → Tr.belB F k m x = false → Tr.EndsF G m x
  | 0, x, hh, hb => by
    have c : x ≠ k := fun e => by subst e; rw [Tr.belB_same] at hb; exact absurd hb (by decide)
    exact ⟨hh.1, by rw [h x c]; exact hh.2⟩
  | m + 1, x, hh, hb => by
    have c : x ≠ k := fun e => by subst e; rw [Tr.belB_same] at hb; exact absurd hb (by decide)
    refine ⟨hh.1, ?_⟩
    rw [h x c]
    by_cases d : (F.nd x).up = x
    · exact .inl d
    · rcases hh.2 with a | a
      · exact absurd a d
      · refine .inr (Tr.EndsF.avoid h a ?_)
        have hb' : (x == k || (!((F.nd x).up == x) && Tr.belB F k m (F.nd x).up)) = false := hb
        rw [show (x == k) = false from by simpa using c, show ((F.nd x).up == x) = false from by simpa using d] at hb'
        exact hb'
theorem Tr.EndsF.turn {F G : Fo} {k t j : Nat} (h : ∀ x, x ≠ k → (G.nd x).up = (F.nd x).up) (hk : k < 40) (hg : (G.nd k).up = t) (ht : Tr.EndsF G j t) : ∀ {m x : Nat}, Tr.EndsF F m x → ∃ m', Tr.EndsF G m' x
  | 0, x, hh => by
    by_cases c : x = k
    · subst c; exact ⟨j + 1, hk, .inr (by rw [hg]; exact ht)⟩
    · exact ⟨0, hh.1, by rw [h x c]; exact hh.2⟩
  | m + 1, x, hh => by
    by_cases c : x = k
    · subst c; exact ⟨j + 1, hk, .inr (by rw [hg]; exact ht)⟩
    · rcases hh.2 with a | a
      · exact ⟨0, hh.1, by rw [h x c]; exact a⟩
      · obtain ⟨m', h'⟩ := Tr.EndsF.turn h hk hg ht a
        exact ⟨m' + 1, hh.1, .inr (by rw [h x c]; exact h')⟩
theorem Tr.OkX.lead {F : Fo} {n k : Nat} {s : ByteArray} (h : Tr.OkX F k) (hn : n < 40) (hk : k < 40) (nk : n ≠ k) (n2 : (F.nd n).kind = 2) (k0 : (F.nd k).kind ≠ 0) (h8 : (F.nd n).size < 8) (hs : Tr.nameB s = true) (hp : Tr.PlcTo (F.nd n) s (-1)) (ht : (F.nd k).tree = (F.nd n).tree) (hb : (F.nd k).kind = 2 → Tr.belB F k 40 n = false) : Tr.Ok (Tr.leaF F n s k) := by
  obtain ⟨G, hG⟩ : ∃ G, Tr.leaF F n s k = G := ⟨_, rfl⟩
  rw [hG]
  rw [Tr.leaF_put nk] at hG
  have gn : G.nd n = Tr.adN (F.nd n) s k := by rw [← hG, Tr.put_ne _ _ _ _ nk, Tr.put_same]
  have gk : G.nd k = if (F.nd k).kind = 2 then { F.nd k with up := n } else F.nd k := by rw [← hG, Tr.put_same]
  have go : ∀ x, x ≠ n → x ≠ k → G.nd x = F.nd x := fun x c1 c2 => by rw [← hG, Tr.put_ne _ _ _ _ c2, Tr.put_ne _ _ _ _ c1]
  have gtr : G.trees = F.trees := by rw [← hG]; rfl
  have grt : ∀ t, G.root t = F.root t := fun t => by rw [← hG]; rfl
  have yk : (if (F.nd k).kind = 2 then { F.nd k with up := n } else F.nd k).kind = (F.nd k).kind := by split <;> rfl
  have all : ∀ x, (G.nd x).kind = (F.nd x).kind ∧ (G.nd x).links = (F.nd x).links ∧ (G.nd x).held = (F.nd x).held ∧ (G.nd x).tree = (F.nd x).tree := fun x => by
    by_cases c1 : x = n
    · subst c1; rw [gn]; exact ⟨rfl, rfl, rfl, rfl⟩
    · by_cases c2 : x = k
      · subst c2; rw [gk]; split <;> exact ⟨rfl, rfl, rfl, rfl⟩
      · rw [go x c1 c2]; exact ⟨rfl, rfl, rfl, rfl⟩
  have ent : ∀ x, x ≠ n → (G.nd x).size = (F.nd x).size ∧ (G.nd x).nam = (F.nd x).nam ∧ (G.nd x).kid = (F.nd x).kid := fun x c1 => by
    by_cases c2 : x = k
    · subst c2; rw [gk]; split <;> exact ⟨rfl, rfl, rfl⟩
    · rw [go x c1 c2]; exact ⟨rfl, rfl, rfl⟩
  have hup : ∀ x, x ≠ k → (G.nd x).up = (F.nd x).up := fun x c2 => by
    by_cases c1 : x = n
    · subst c1; rw [gn]; rfl
    · rw [go x c1 c2]
  have hupk : (F.nd k).kind = 2 → (G.nd k).up = n := fun k2 => by rw [gk, if_pos k2]
  have cnt : ∀ x, Tr.cnt G x = Tr.cnt F x + oneN k x := fun x => by
    have a := Tr.cnt_put F n (Tr.adN (F.nd n) s k) x hn
    rw [Tr.cntM_ad s k x n2] at a
    have b := Tr.cnt_put_same (F.put n (Tr.adN (F.nd n) s k)) k (if (F.nd k).kind = 2 then { F.nd k with up := n } else F.nd k) x hk (by
      rw [Tr.put_ne _ _ _ _ (Ne.symm nk)]
      split <;> rfl)
    rw [hG] at b
    omega
  have upk : ∀ q i, q < 40 → (F.nd q).kind = 2 → i < (F.nd q).size → (F.nd q).kid i = k → (F.nd k).kind ≠ 2 := fun q i hq q2 hi e k2 => by
    have a := Tr.cnt_kid hq q2 hi
    have b := h.dr k hk k2
    rw [e] at a
    rw [oneN_same] at b
    omega
  have rtk : ∀ t, t < F.trees → F.root t ≠ k := fun t htt e => by
    have k2 := (h.rt t htt).2.1
    rw [e] at k2
    have b := h.dr k hk k2
    rw [oneN_same] at b
    exact (Tr.cnt_no (show Tr.cnt F k = 0 by omega)).2 t htt e
  refine ⟨by rw [gtr]; exact h.tr, fun x hx => by rw [(all x).1]; exact h.kd x hx, fun x hx k2 => ?_, fun x hx k1 => ?_, fun x i hx k2 hi => ?_, fun x hx k2 => ?_, fun x i hx k2 hi => ?_, fun t htt => ?_, fun x hx kx => ?_, fun x hx kx => ?_, fun x hx k2 => ?_, fun x hx k2 => ?_, fun x hx k2 hu2 => ?_⟩
  · rw [(all x).1] at k2
    by_cases c : x = n
    · subst c; rw [gn, Tr.adN_size]; omega
    · rw [(ent x c).1]; exact h.sz x hx k2
  · rw [(all x).1] at k1
    by_cases c : x = n
    · subst c; rw [n2] at k1; exact absurd k1 (by decide)
    · rw [(ent x c).1]; exact h.fz x hx k1
  · rw [(all x).1] at k2
    by_cases c : x = n
    · subst c; rw [gn, Tr.adN_size] at hi; rw [gn]
      by_cases d : i = (F.nd x).size
      · subst d; rw [(Tr.adN_last _ _ _).1]; exact hs
      · rw [(Tr.adN_nam (by omega)).1]; exact h.nb x i hx k2 (by omega)
    · rw [(ent x c).1] at hi; rw [(ent x c).2.1]; exact h.nb x i hx k2 hi
  · rw [(all x).1] at k2
    by_cases c : x = n
    · subst c; rw [gn]; exact (h.dp x hx k2).adN hp
    · unfold Tr.Nodup; rw [(ent x c).1, (ent x c).2.1]; exact h.dp x hx k2
  · rw [(all x).1] at k2
    have old : ∀ q, (F.nd q).kind = 2 → q < 40 → ∀ i, i < (F.nd q).size → (F.nd q).kid i < 40 ∧ (G.nd ((F.nd q).kid i)).kind ≠ 0 ∧ (G.nd ((F.nd q).kid i)).tree = (G.nd q).tree ∧ ((G.nd ((F.nd q).kid i)).kind = 2 → (G.nd ((F.nd q).kid i)).up = q) := fun q q2 hq i hi => by
      obtain ⟨a1, a2, a3, a4⟩ := h.ki q i hq q2 hi
      rw [(all _).1, (all _).2.2.2, (all q).2.2.2]
      refine ⟨a1, a2, a3, fun kk => ?_⟩
      rw [hup _ (fun e => upk q i hq q2 hi e (by rw [← e]; exact kk))]
      exact a4 kk
    by_cases c : x = n
    · subst c
      have gnk : ∀ i, (G.nd x).kid i = (Tr.adN (F.nd x) s k).kid i := fun i => by rw [gn]
      have hi' : i < (F.nd x).size + 1 := by rw [gn, Tr.adN_size] at hi; exact hi
      rw [gnk]
      by_cases d : i = (F.nd x).size
      · subst d
        rw [(Tr.adN_last _ _ _).2, (all k).1, (all k).2.2.2, (all x).2.2.2]
        exact ⟨hk, k0, ht, hupk⟩
      · rw [(Tr.adN_nam (by omega)).2]; exact old x k2 hx i (by omega)
    · rw [(ent x c).1] at hi; rw [(ent x c).2.2]; exact old x k2 hx i hi
  · rw [gtr] at htt
    rw [grt, (all _).1, (all _).2.2.2, hup _ (rtk t htt)]
    exact h.rt t htt
  · rw [(all x).1] at kx; rw [(all x).2.1, cnt]; exact h.lk x hx kx
  · rw [(all x).1] at kx; rw [(all x).2.1, (all x).2.2.1]; exact h.al x hx kx
  · rw [(all x).1] at k2; rw [cnt]; exact h.dr x hx k2
  · rw [(all x).1] at k2
    by_cases kk : (F.nd k).kind = 2
    · have hnE := (h.en n hn n2 nk).avoid hup (hb kk)
      by_cases c : x = k
      · subst c
        exact Tr.EndsF.forty (m := 41) ⟨hk, .inr (by rw [hupk kk]; exact hnE)⟩
      · obtain ⟨m', h'⟩ := Tr.EndsF.turn hup hk (hupk kk) hnE (h.en x hx k2 c)
        exact h'.forty
    · have c : x ≠ k := fun e => by rw [e] at k2; exact kk k2
      refine (h.en x hx k2 c).congr (fun y => ?_)
      by_cases d : y = k
      · subst d; rw [gk, if_neg kk]
      · exact hup y d
  · rw [(all x).1] at k2
    have c : x ≠ k := fun e => by subst e; rw [hupk k2] at hu2; exact nk hu2
    rw [hup x c] at hu2
    obtain ⟨t, h1, h2⟩ := h.ro x hx k2 c hu2
    exact ⟨t, by rw [gtr]; exact h1, by rw [grt]; exact h2⟩
end Go.Proofs.Ytfgnhldnmbfnkab

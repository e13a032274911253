/- The forest, plain: forget; Make, Link, Move keep what is true of it. -/
import Derived.Test.YtfgnhldnmbfnkabUe
namespace Go.Proofs.Ytfgnhldnmbfnkab
open Tr (Fo Nd)

theorem Tr.Ok.forget {F : Fo} (h : Tr.Ok F) {n i : Nat} (hn : n < 40) (n2 : (F.nd n).kind = 2) (hi : i < (F.nd n).size) : Tr.OkX (F.put n (Tr.forN (F.nd n) i)) ((F.nd n).kid i) := by
  obtain ⟨G, hG⟩ : ∃ G, F.put n (Tr.forN (F.nd n) i) = G := ⟨_, rfl⟩
  obtain ⟨k, hk⟩ : ∃ k, (F.nd n).kid i = k := ⟨_, rfl⟩
  rw [hG, hk]
  have gn : G.nd n = Tr.forN (F.nd n) i := by rw [← hG, Tr.put_same]
  have go : ∀ x, x ≠ n → G.nd x = F.nd x := fun x c => by rw [← hG, Tr.put_ne _ _ _ _ c]
  have all : ∀ x, (G.nd x).kind = (F.nd x).kind ∧ (G.nd x).links = (F.nd x).links ∧ (G.nd x).held = (F.nd x).held ∧ (G.nd x).tree = (F.nd x).tree ∧ (G.nd x).up = (F.nd x).up := fun x => by
    by_cases c : x = n
    · subst c; rw [gn]; exact ⟨rfl, rfl, rfl, rfl, rfl⟩
    · rw [go x c]; exact ⟨rfl, rfl, rfl, rfl, rfl⟩
  have cnt : ∀ x, Tr.cnt G x + oneN k x = Tr.cnt F x := fun x => by
    have a := Tr.cnt_put F n (Tr.forN (F.nd n) i) x hn
    have b := Tr.cntM_for (x := F.nd n) (i := i) x n2 hi
    rw [hG] at a
    rw [hk] at b
    omega
  have was : ∀ x j, (F.nd x).kind = 2 → j < (G.nd x).size → ∃ q, q < (F.nd x).size ∧ (G.nd x).nam j = (F.nd x).nam q ∧ (G.nd x).kid j = (F.nd x).kid q := fun x j _ hj => by
    by_cases c : x = n
    · subst c; rw [gn] at hj ⊢; rw [Tr.forN_size] at hj
      obtain ⟨q, h1, _, h3, h4⟩ := Tr.forN_was hi hj
      exact ⟨q, h1, h3, h4⟩
    · rw [go x c] at hj ⊢; exact ⟨j, hj, rfl, rfl⟩
  have gtr : G.trees = F.trees := by rw [← hG]; rfl
  have grt : ∀ t, G.root t = F.root t := fun t => by rw [← hG]; rfl
  refine ⟨by rw [gtr]; exact h.tr, fun x hx => by rw [(all x).1]; exact h.kd x hx, fun x hx k2 => ?_, fun x hx k1 => ?_, fun x j hx k2 hj => ?_, fun x hx k2 => ?_, fun x j hx k2 hj => ?_, fun t htt => ?_, fun x hx kx => ?_, fun x hx kx => ?_, fun x hx k2 => ?_, fun x hx k2 _ => ?_, fun x hx k2 _ hu2 => ?_⟩
  · rw [(all x).1] at k2
    by_cases c : x = n
    · subst c; rw [gn, Tr.forN_size]; have := h.sz x hx k2; omega
    · rw [go x c]; exact h.sz x hx k2
  · rw [(all x).1] at k1
    by_cases c : x = n
    · subst c; rw [n2] at k1; exact absurd k1 (by decide)
    · rw [go x c]; exact h.fz x hx k1
  · rw [(all x).1] at k2
    obtain ⟨q, h1, h2, _⟩ := was x j k2 hj
    rw [h2]; exact h.nb x q hx k2 h1
  · rw [(all x).1] at k2
    by_cases c : x = n
    · subst c; rw [gn]; exact (h.dp x hx k2).forN hi
    · rw [go x c]; exact h.dp x hx k2
  · rw [(all x).1] at k2
    obtain ⟨q, h1, _, h3⟩ := was x j k2 hj
    rw [h3, (all _).1, (all _).2.2.2.1, (all x).2.2.2.1, (all _).2.2.2.2]
    exact h.ki x q hx k2 h1
  · rw [gtr] at htt
    rw [grt, (all _).1, (all _).2.2.2.1, (all _).2.2.2.2]
    exact h.rt t htt
  · rw [(all x).1] at kx; rw [(all x).2.1, cnt]; exact h.lk x hx kx
  · rw [(all x).1] at kx; rw [(all x).2.1, (all x).2.2.1]; exact h.al x hx kx
  · rw [(all x).1] at k2; rw [cnt]; exact h.dr x hx k2
  · rw [(all x).1] at k2; exact (h.en x hx k2).congr (fun y => (all y).2.2.2.2)
  · rw [(all x).1] at k2; rw [(all x).2.2.2.2] at hu2
    obtain ⟨t, h1, h2⟩ := h.ro x hx k2 hu2
    exact ⟨t, by rw [gtr]; exact h1, by rw [grt]; exact h2⟩
theorem Tr.belB_congr {F G : Fo} {o : Nat} (h : ∀ x, (G.nd x).up = (F.nd x).up) : ∀ m x, Tr.belB G o m x = Tr.belB F o m x
  | 0, _ => rfl
  | m + 1, x => by
    show (x == o || (!((G.nd x).up == x) && Tr.belB G o m (G.nd x).up)) = (x == o || (!((F.nd x).up == x) && Tr.belB F o m (F.nd x).up))
    rw [h x, Tr.belB_congr h m]
/-- A name is moved. -/
theorem Tr.Ok.mov {F : Fo} (h : Tr.Ok F) {z y E : Int} {s o : ByteArray} {G : Fo} (hm : Tr.MovTo F z s y o E G) : Tr.Ok G := by
  obtain ⟨K, e, hf, ⟨_, _, rfl⟩ | ⟨rfl, hm⟩⟩ := hm
  · exact h
  rcases hm with ⟨_, _, rfl⟩ | ⟨ey, hm⟩
  · exact h
  rcases hm with ⟨_, _, rfl⟩ | ⟨et, hm⟩
  · exact h
  rcases hm with ⟨_, _, rfl⟩ | ⟨hb, i, hpl, e2, hr, hm⟩
  · exact h
  rcases hm with ⟨_, _, rfl⟩ | ⟨rfl, _, rfl⟩
  · exact h
  obtain ⟨n, i', rfl, n40, n2, hp, hK⟩ := hf.ok
  obtain ⟨t, rfl, t40, _, t2⟩ := Tr.isE_ok ey
  rw [Int.toNat_natCast] at hb hpl hr et ⊢
  rw [Int.toNat_natCast] at hr et ⊢
  have ii : i = i' := by have := hpl.unique hp; omega
  subst ii
  have hi := hp.lt
  have hx := h.forget n40 n2 hi
  rw [← hK] at hx
  obtain ⟨k40, kk0, ktr, _⟩ := h.ki n i n40 n2 hi
  rw [← hK] at k40 kk0 ktr
  unfold Tr.movF
  have al : ∀ x, ((F.put n (Tr.forN (F.nd n) i)).nd x).kind = (F.nd x).kind ∧ ((F.put n (Tr.forN (F.nd n) i)).nd x).tree = (F.nd x).tree ∧ ((F.put n (Tr.forN (F.nd n) i)).nd x).up = (F.nd x).up := fun x => by
    by_cases c : x = n
    · subst c; rw [Tr.put_same]; exact ⟨rfl, rfl, rfl⟩
    · rw [Tr.put_ne _ _ _ _ c]; exact ⟨rfl, rfl, rfl⟩
  have tk : t ≠ K := fun c => by subst c; rw [Tr.belB_same] at hb; exact absurd hb (by decide)
  obtain ⟨hnm, h8⟩ := hr.ok
  refine hx.lead t40 k40 tk (by rw [(al t).1]; exact t2) (by rw [(al K).1]; exact kk0) ?_ hnm ?_ (by rw [(al K).2.1, (al t).2.1, ktr, et]) (fun _ => by rw [Tr.belB_congr (fun x => (al x).2.2)]; exact hb)
  · have := hx.sz t t40 (by rw [(al t).1]; exact t2)
    omega
  · rcases hr with ⟨_, q⟩ | ⟨_, ⟨_, _, q⟩ | ⟨q, _⟩⟩
    · exact absurd q (by decide)
    · exact absurd q (by decide)
    · exact q
end Go.Proofs.Ytfgnhldnmbfnkab

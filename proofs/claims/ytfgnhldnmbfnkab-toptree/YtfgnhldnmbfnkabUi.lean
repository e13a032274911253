/- The forest, plain: Plant keeps what is true of it. -/
import Derived.Test.YtfgnhldnmbfnkabUh
namespace Go.Proofs.Ytfgnhldnmbfnkab
open Tr (Fo Nd)

theorem Tr.Ok.pla {F : Fo} (h : Tr.Ok F) {T : Nat} {E : Int} {G : Fo} (hm : Tr.PlaTo F T E G) : Tr.Ok G := by
  rcases hm with ⟨_, _, _, rfl⟩ | ⟨t4, n, e, hf, hm⟩
  · exact h
  rcases hm with ⟨_, _, _, rfl⟩ | ⟨rfl, _, _, rfl⟩
  · exact h
  obtain ⟨n40, k0⟩ : n < 40 ∧ (F.nd n).kind = 0 := by
    rcases hf with ⟨_, h1, h2, _⟩ | ⟨h1, _⟩
    · exact ⟨h1, h2⟩
    · omega
  obtain ⟨G, hG⟩ : ∃ G, Tr.plaF F n = G := ⟨_, rfl⟩
  rw [hG]
  have gk : G.nd n = newN 2 F.trees n := by rw [← hG]; exact Tr.put_same F n _
  have go : ∀ x, x ≠ n → G.nd x = F.nd x := fun x c => by rw [← hG]; exact Tr.put_ne F n _ x c
  have gtr : G.trees = F.trees + 1 := by rw [← hG]; rfl
  have gro : ∀ t, t < F.trees → G.root t = F.root t := fun t ht => by rw [← hG]; exact upA_ne _ _ _ _ (by omega)
  have grn : G.root F.trees = n := by rw [← hG]; exact upA_same _ _ _
  have hc0 := h.none k0
  obtain ⟨kne, rne⟩ := Tr.cnt_no hc0
  have cnt : ∀ x, Tr.cnt G x = Tr.cnt F x + oneN n x := fun x => by
    have a : Tr.cnt (F.put n (newN 2 F.trees n)) x = Tr.cnt F x := by
      refine Tr.cnt_put_same F n _ x n40 ?_
      rw [Tr.cntM_no (x := F.nd n) x (by rw [k0]; decide)]
      rfl
    have b : Tr.cntR G x = Tr.cntR F x + oneN n x := by
      unfold Tr.cntR
      rw [gtr]
      show sumN (fun t => oneN (G.root t) x) F.trees + oneN (G.root F.trees) x = _
      rw [grn, sumN_congr (fun t ht => by rw [gro t ht])]
    have c : sumN (fun m => Tr.cntM (G.nd m) x) 40 = sumN (fun m => Tr.cntM ((F.put n (newN 2 F.trees n)).nd m) x) 40 := by rw [← hG]; rfl
    have d : Tr.cntR (F.put n (newN 2 F.trees n)) x = Tr.cntR F x := rfl
    unfold Tr.cnt at a ⊢
    rw [c, b]
    omega
  have sz0 : (G.nd n).size = 0 := by rw [gk]; rfl
  have h4 := h.tr
  refine ⟨by rw [gtr]; omega, fun x hx => ?_, fun x hx k2 => ?_, fun x hx k1 => ?_, fun x j hx k2 hj => ?_, fun x hx k2 => ?_, fun x j hx k2 hj => ?_, fun t htt => ?_, fun x hx kx => ?_, fun x hx kx => ?_, fun x hx k2 => ?_, fun x hx k2 => ?_, fun x hx k2 hu2 => ?_⟩
  · by_cases c : x = n
    · subst c; rw [gk]; exact Nat.le_refl _
    · rw [go x c]; exact h.kd x hx
  · by_cases c : x = n
    · subst c; rw [sz0]; exact Nat.zero_le _
    · rw [go x c] at k2 ⊢; exact h.sz x hx k2
  · by_cases c : x = n
    · subst c; rw [sz0]; exact Nat.zero_le _
    · rw [go x c] at k1 ⊢; exact h.fz x hx k1
  · by_cases c : x = n
    · subst c; rw [sz0] at hj; omega
    · rw [go x c] at k2 hj ⊢; exact h.nb x j hx k2 hj
  · by_cases c : x = n
    · subst c; intro a b _ hb; rw [sz0] at hb; omega
    · rw [go x c] at k2 ⊢; exact h.dp x hx k2
  · by_cases c : x = n
    · subst c; rw [sz0] at hj; omega
    · rw [go x c] at k2 hj ⊢
      rw [go _ (kne x j hx k2 hj)]
      exact h.ki x j hx k2 hj
  · rw [gtr] at htt
    by_cases c : t = F.trees
    · subst c; rw [grn, gk]; exact ⟨n40, rfl, rfl, rfl⟩
    · rw [gro t (by omega), go _ (rne t (by omega))]
      exact h.rt t (by omega)
  · by_cases c : x = n
    · subst c; rw [gk, cnt, hc0, oneN_same]; rfl
    · rw [go x c] at kx ⊢; rw [cnt, oneN_ne (Ne.symm c)]; exact h.lk x hx kx
  · by_cases c : x = n
    · subst c; rw [gk]; show 1 ≤ 1 + 0; omega
    · rw [go x c] at kx ⊢; exact h.al x hx kx
  · by_cases c : x = n
    · subst c; rw [cnt, hc0, oneN_same]
    · rw [go x c] at k2; rw [cnt, oneN_ne (Ne.symm c)]; exact h.dr x hx k2
  · by_cases c : x = n
    · subst c
      exact Tr.EndsF.forty (m := 0) ⟨n40, by rw [gk]; rfl⟩
    · rw [go x c] at k2
      exact (h.en x hx k2).avoid (k := n) (fun y d => by rw [go y d]) (h.far k0 (fun _ _ => rfl) 40 x hx k2)
  · by_cases c : x = n
    · exact ⟨F.trees, by rw [gtr]; omega, by rw [grn, c]⟩
    · rw [go x c] at k2 hu2
      obtain ⟨t, h1, h2⟩ := h.ro x hx k2 hu2
      exact ⟨t, by rw [gtr]; omega, by rw [gro t h1]; exact h2⟩
/-- No directory is a name of its own. -/
theorem Tr.Ok.noself {F : Fo} (h : Tr.Ok F) {n i : Nat} (hn : n < 40) (n2 : (F.nd n).kind = 2) (hi : i < (F.nd n).size) : (F.nd n).kid i ≠ n := fun e => by
  obtain ⟨_, _, _, b⟩ := h.ki n i hn n2 hi
  rw [e] at b
  obtain ⟨t, ht, hr⟩ := h.ro n hn n2 (b n2)
  have a := h.dr n hn n2
  have c1 : 1 ≤ Tr.cntR F n := by
    have := sumN_le (f := fun t => oneN (F.root t) n) ht
    simp only [hr, oneN_same] at this
    exact this
  have c2 : 1 ≤ sumN (fun m => Tr.cntM (F.nd m) n) 40 := by
    have p := sumN_le (f := fun m => Tr.cntM (F.nd m) n) hn
    have q : 1 ≤ Tr.cntM (F.nd n) n := by
      unfold Tr.cntM
      rw [if_pos n2]
      have := sumN_le (f := fun j => oneN ((F.nd n).kid j) n) hi
      simp only [e, oneN_same] at this
      exact this
    have p' : Tr.cntM (F.nd n) n ≤ sumN (fun m => Tr.cntM (F.nd m) n) 40 := p
    omega
  unfold Tr.cnt at a
  omega
/-- A move leaves the moved node's own as it was. -/
theorem Tr.mov_same {F : Fo} (h : Tr.Ok F) {n i t : Nat} {o : ByteArray} (hn : n < 40) (n2 : (F.nd n).kind = 2) (hi : i < (F.nd n).size) (hb : Tr.belB F ((F.nd n).kid i) 40 t = false) :
    ∃ u, (Tr.movF F n i t ((F.nd n).kid i) o).nd ((F.nd n).kid i) = { F.nd ((F.nd n).kid i) with up := u } := by
  obtain ⟨k, hk⟩ : ∃ k, (F.nd n).kid i = k := ⟨_, rfl⟩
  rw [hk] at hb ⊢
  have tk : t ≠ k := fun c => by subst c; rw [Tr.belB_same] at hb; exact absurd hb (by decide)
  have nk : n ≠ k := fun c => h.noself hn n2 hi (hk.trans c.symm)
  unfold Tr.movF
  rw [Tr.leaF_put tk, Tr.put_same]
  have e : (F.put n (Tr.forN (F.nd n) i)).nd k = F.nd k := Tr.put_ne _ _ _ _ (Ne.symm nk)
  rw [e]
  split
  · exact ⟨t, rfl⟩
  · exact ⟨(F.nd k).up, rfl⟩
end Go.Proofs.Ytfgnhldnmbfnkab

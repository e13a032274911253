/- The forest, plain: a node is no more; Remove, Let, Plant keep what is true of it. -/
import Derived.Test.YtfgnhldnmbfnkabUg
namespace Go.Proofs.Ytfgnhldnmbfnkab
open Tr (Fo Nd)

/-- A node that nobody leads to, and that leads to nobody, is taken away. -/
theorem Tr.erase {F : Fo} {k : Nat} (hk : k < 40) (tr : F.trees ≤ 4) (kd : ∀ n, n < 40 → (F.nd n).kind ≤ 2) (sz : Tr.SzOk F) (fz : Tr.FzOk F)
    (nb : ∀ n i, n < 40 → (F.nd n).kind = 2 → i < (F.nd n).size → Tr.nameB ((F.nd n).nam i) = true)
    (dp : ∀ n, n < 40 → (F.nd n).kind = 2 → Tr.Nodup (F.nd n))
    (ki : ∀ n i, n < 40 → (F.nd n).kind = 2 → i < (F.nd n).size → (F.nd n).kid i < 40 ∧ (F.nd ((F.nd n).kid i)).kind ≠ 0 ∧ (F.nd ((F.nd n).kid i)).tree = (F.nd n).tree ∧ ((F.nd ((F.nd n).kid i)).kind = 2 → (F.nd ((F.nd n).kid i)).up = n))
    (rt : ∀ t, t < F.trees → F.root t < 40 ∧ (F.nd (F.root t)).kind = 2 ∧ (F.nd (F.root t)).up = F.root t ∧ (F.nd (F.root t)).tree = t)
    (lk : ∀ n, n < 40 → (F.nd n).kind ≠ 0 → n ≠ k → (F.nd n).links = Tr.cnt F n)
    (al : ∀ n, n < 40 → (F.nd n).kind ≠ 0 → n ≠ k → 1 ≤ (F.nd n).links + (F.nd n).held)
    (dr : ∀ n, n < 40 → (F.nd n).kind = 2 → n ≠ k → Tr.cnt F n = 1)
    (en : ∀ n, n < 40 → (F.nd n).kind = 2 → n ≠ k → Tr.EndsF F 40 n)
    (ro : ∀ n, n < 40 → (F.nd n).kind = 2 → n ≠ k → (F.nd n).up = n → ∃ t, t < F.trees ∧ F.root t = n)
    (c0 : Tr.cnt F k = 0) (z0 : (F.nd k).kind = 2 → (F.nd k).size = 0) : Tr.Ok (F.put k Nd.no) := by
  obtain ⟨G, hG⟩ : ∃ G, F.put k Nd.no = G := ⟨_, rfl⟩
  rw [hG]
  have gk : G.nd k = Nd.no := by rw [← hG, Tr.put_same]
  have gk0 : (G.nd k).kind = 0 := by rw [gk]; rfl
  have go : ∀ x, x ≠ k → G.nd x = F.nd x := fun x c => by rw [← hG, Tr.put_ne _ _ _ _ c]
  have cnt : ∀ x, Tr.cnt G x = Tr.cnt F x := fun x => by
    rw [← hG]
    refine Tr.cnt_put_same F k _ x hk ?_
    rw [Tr.cntM_no (x := Nd.no) x (by decide)]
    unfold Tr.cntM
    split
    · rename_i c; rw [z0 c]; rfl
    · rfl
  obtain ⟨kne, rne⟩ := Tr.cnt_no c0
  have n2 : ∀ {x}, (G.nd x).kind = 2 → x ≠ k := fun {x} k2 c => by subst c; rw [gk0] at k2; exact absurd k2 (by decide)
  have n0 : ∀ {x}, (G.nd x).kind ≠ 0 → x ≠ k := fun {x} kx c => by subst c; exact kx gk0
  refine ⟨by rw [← hG]; exact tr, fun x hx => ?_, fun x hx k2 => ?_, fun x hx k1 => ?_, fun x j hx k2 hj => ?_, fun x hx k2 => ?_, fun x j hx k2 hj => ?_, fun t htt => ?_, fun x hx kx => ?_, fun x hx kx => ?_, fun x hx k2 => ?_, fun x hx k2 => ?_, fun x hx k2 hu2 => ?_⟩
  · by_cases c : x = k
    · subst c; rw [gk0]; exact Nat.zero_le _
    · rw [go x c]; exact kd x hx
  · have c := n2 k2; rw [go x c] at k2 ⊢; exact sz x hx k2
  · have c : x ≠ k := fun e => by subst e; rw [gk0] at k1; exact absurd k1 (by decide)
    rw [go x c] at k1 ⊢; exact fz x hx k1
  · have c := n2 k2; rw [go x c] at k2 hj ⊢; exact nb x j hx k2 hj
  · have c := n2 k2; rw [go x c] at k2 ⊢; exact dp x hx k2
  · have c := n2 k2; rw [go x c] at k2 hj ⊢
    rw [go _ (kne x j hx k2 hj)]
    exact ki x j hx k2 hj
  · have htt' : t < F.trees := by rw [← hG] at htt; exact htt
    have e : G.root t = F.root t := by rw [← hG]; rfl
    rw [e, go _ (rne t htt')]
    exact rt t htt'
  · have c := n0 kx; rw [go x c] at kx ⊢; rw [cnt]; exact lk x hx kx c
  · have c := n0 kx; rw [go x c] at kx ⊢; exact al x hx kx c
  · have c := n2 k2; rw [go x c] at k2; rw [cnt]; exact dr x hx k2 c
  · have c := n2 k2; rw [go x c] at k2
    refine Tr.EndsF.on (F := F) (G := G) (fun y => y < 40 ∧ (F.nd y).kind = 2 ∧ y ≠ k) (fun y hy => ?_) ⟨hx, k2, c⟩ (en x hx k2 c)
    refine ⟨by rw [go y hy.2.2], ?_⟩
    rcases Tr.up_of ki hy.2.1 (by rw [dr y hy.1 hy.2.1 hy.2.2]; exact Nat.le_refl _) with ⟨t, ht, e⟩ | ⟨i, h1, h2, h3, _⟩
    · have := (rt t ht).2.2.1
      rw [e] at this
      rw [this]; exact hy
    · refine ⟨h1, h2, fun e => ?_⟩
      rw [e] at h2 h3
      rw [z0 h2] at h3; omega
  · have c := n2 k2; rw [go x c] at k2 hu2
    obtain ⟨t, h1, h2⟩ := ro x hx k2 c hu2
    exact ⟨t, by rw [← hG]; exact h1, by rw [← hG]; exact h2⟩
theorem Tr.Ok.letT {F : Fo} (h : Tr.Ok F) (z : Int) : Tr.Ok (Tr.letT F z) := by
  unfold Tr.letT
  split
  · rename_i c
    have c1 : Tr.nodeE F z = 0 := by
      rcases Classical.em (Tr.nodeE F z = 0) with d | d
      · exact d
      · unfold Tr.letE at c; rw [if_neg d] at c; exact c
    obtain ⟨n, rfl, n40, k0⟩ := Tr.nodeE_ok c1
    unfold Tr.letE at c
    rw [if_pos c1, Int.toNat_natCast] at c
    have h0 : (F.nd n).held ≠ 0 := fun e => by rw [if_pos e] at c; exact absurd c (by decide)
    rw [Int.toNat_natCast]
    unfold Tr.swe
    rw [Tr.put_same]
    split
    · rename_i d
      have d1 : (F.nd n).links = 0 := d.1
      rw [Tr.put_put]
      have c0 : Tr.cnt F n = 0 := by rw [← h.lk n n40 k0]; exact d1
      refine Tr.erase n40 h.tr h.kd h.sz h.fz h.nb h.dp h.ki h.rt (fun x hx kx _ => h.lk x hx kx) (fun x hx kx _ => h.al x hx kx) (fun x hx k2 _ => h.dr x hx k2) (fun x hx k2 _ => h.en x hx k2) (fun x hx k2 _ u => h.ro x hx k2 u) c0 (fun k2 => ?_)
      have := h.dr n n40 k2
      omega
    · rename_i d
      refine h.put n _ n40 rfl rfl rfl rfl (fun _ => ⟨rfl, rfl, rfl⟩) (fun k1 => h.fz n n40 k1) (fun _ => ?_)
      have d' : ¬ ((F.nd n).links = 0 ∧ (F.nd n).held - 1 = 0) := d
      show 1 ≤ (F.nd n).links + ((F.nd n).held - 1)
      omega
  · exact h
theorem Tr.Ok.rem {F : Fo} (h : Tr.Ok F) {z E : Int} {s : ByteArray} {G : Fo} (hm : Tr.RemTo F z s E G) : Tr.Ok G := by
  obtain ⟨k, e, hf, ⟨_, _, rfl⟩ | ⟨rfl, hm⟩⟩ := hm
  · exact h
  rcases hm with ⟨_, _, _, rfl⟩ | ⟨nbz, _, i, hpl, rfl⟩
  · exact h
  obtain ⟨n, i', rfl, n40, n2, hp, hK⟩ := hf.ok
  rw [Int.toNat_natCast] at hpl ⊢
  have ii : i = i' := by have := hpl.unique hp; omega
  subst ii
  have hi := hp.lt
  have hx := h.forget n40 n2 hi
  rw [← hK] at hx
  obtain ⟨k40, kk0, _, _⟩ := h.ki n i n40 n2 hi
  rw [← hK] at k40 kk0
  have nk : k ≠ n := fun e => nbz ⟨by rw [e]; exact n2, .inl (by rw [e]; omega)⟩
  unfold Tr.remF
  obtain ⟨F1, hF1⟩ : ∃ F1, F.put n (Tr.forN (F.nd n) i) = F1 := ⟨_, rfl⟩
  rw [hF1] at hx ⊢
  have gk : F1.nd k = F.nd k := by rw [← hF1, Tr.put_ne _ _ _ _ nk]
  have hl := hx.lk k k40 (by rw [gk]; exact kk0)
  rw [oneN_same, gk] at hl
  have one : ∀ x, x ≠ k → oneN k x = 0 := fun x c => oneN_ne (Ne.symm c)
  unfold Tr.swe
  rw [Tr.put_same]
  split
  · rename_i d
    have d1 : (F.nd k).links - 1 = 0 := d.1
    rw [Tr.put_put]
    refine Tr.erase k40 hx.tr hx.kd hx.sz hx.fz hx.nb hx.dp hx.ki hx.rt (fun x hxx kx c => by have := hx.lk x hxx kx; rw [one x c] at this; exact this) (fun x hxx kx _ => hx.al x hxx kx) (fun x hxx k2 c => by have := hx.dr x hxx k2; rw [one x c] at this; exact this) hx.en hx.ro (by omega) (fun k2 => ?_)
    rw [gk] at k2 ⊢
    rcases Nat.eq_zero_or_pos (F.nd k).size with q | q
    · exact q
    · exact absurd ⟨k2, .inl q⟩ nbz
  · rename_i d
    have d' : ¬ ((F.nd k).links - 1 = 0 ∧ (F1.nd k).held = 0) := d
    rw [gk] at d'
    have k1 : (F.nd k).kind ≠ 2 := fun k2 => by
      have b := hx.dr k k40 (by rw [gk]; exact k2)
      rw [oneN_same] at b
      rcases Nat.eq_zero_or_pos (F.nd k).held with q | q
      · exact d' ⟨by omega, q⟩
      · exact nbz ⟨k2, .inr q⟩
    obtain ⟨G, hG⟩ : ∃ G, F1.put k { F1.nd k with links := (F.nd k).links - 1 } = G := ⟨_, rfl⟩
    rw [hG]
    have go : ∀ x, x ≠ k → G.nd x = F1.nd x := fun x c => by rw [← hG, Tr.put_ne _ _ _ _ c]
    have al : ∀ x, (G.nd x).kind = (F1.nd x).kind ∧ (G.nd x).size = (F1.nd x).size ∧ (G.nd x).nam = (F1.nd x).nam ∧ (G.nd x).kid = (F1.nd x).kid ∧ (G.nd x).tree = (F1.nd x).tree ∧ (G.nd x).up = (F1.nd x).up ∧ (G.nd x).held = (F1.nd x).held := fun x => by
      by_cases c : x = k
      · subst c; rw [← hG, Tr.put_same]; exact ⟨rfl, rfl, rfl, rfl, rfl, rfl, rfl⟩
      · rw [go x c]; exact ⟨rfl, rfl, rfl, rfl, rfl, rfl, rfl⟩
    have gkl : (G.nd k).links = (F.nd k).links - 1 := by rw [← hG, Tr.put_same]
    have cnt : ∀ x, Tr.cnt G x = Tr.cnt F1 x := fun x => by
      rw [← hG]
      exact Tr.cnt_put_same F1 k _ x k40 rfl
    refine ⟨by rw [← hG]; exact hx.tr, fun x hxx => by rw [(al x).1]; exact hx.kd x hxx, fun x hxx k2 => ?_, fun x hxx k1 => ?_, fun x j hxx k2 hj => ?_, fun x hxx k2 => ?_, fun x j hxx k2 hj => ?_, fun t htt => ?_, fun x hxx kx => ?_, fun x hxx kx => ?_, fun x hxx k2 => ?_, fun x hxx k2 => ?_, fun x hxx k2 hu2 => ?_⟩
    · rw [(al x).1] at k2; rw [(al x).2.1]; exact hx.sz x hxx k2
    · rw [(al x).1] at k1; rw [(al x).2.1]; exact hx.fz x hxx k1
    · rw [(al x).1] at k2; rw [(al x).2.1] at hj; rw [(al x).2.2.1]; exact hx.nb x j hxx k2 hj
    · rw [(al x).1] at k2; unfold Tr.Nodup; rw [(al x).2.1, (al x).2.2.1]; exact hx.dp x hxx k2
    · rw [(al x).1] at k2; rw [(al x).2.1] at hj
      rw [(al x).2.2.2.1, (al _).1, (al _).2.2.2.2.1, (al x).2.2.2.2.1, (al _).2.2.2.2.2.1]
      exact hx.ki x j hxx k2 hj
    · have a := hx.rt t (by rw [← hG] at htt; exact htt)
      have e : G.root t = F1.root t := by rw [← hG]; rfl
      rw [e, (al _).1, (al _).2.2.2.2.1, (al _).2.2.2.2.2.1]
      exact a
    · rw [(al x).1] at kx; rw [cnt]
      by_cases c : x = k
      · subst c; rw [gkl]; omega
      · rw [go x c]; have := hx.lk x hxx kx; rw [one x c] at this; exact this
    · rw [(al x).1] at kx
      by_cases c : x = k
      · subst c; rw [gkl, (al x).2.2.2.2.2.2, gk]; omega
      · rw [go x c]; exact hx.al x hxx kx
    · rw [(al x).1] at k2; rw [cnt]
      have c : x ≠ k := fun e => by rw [e, gk] at k2; exact k1 k2
      have := hx.dr x hxx k2; rw [one x c] at this; exact this
    · rw [(al x).1] at k2
      have c : x ≠ k := fun e => by rw [e, gk] at k2; exact k1 k2
      exact (hx.en x hxx k2 c).congr (fun y => (al y).2.2.2.2.2.1)
    · rw [(al x).1] at k2; rw [(al x).2.2.2.2.2.1] at hu2
      have c : x ≠ k := fun e => by rw [e, gk] at k2; exact k1 k2
      obtain ⟨t, h1, h2⟩ := hx.ro x hxx k2 c hu2
      exact ⟨t, by rw [← hG]; exact h1, by rw [← hG]; exact h2⟩
end Go.Proofs.Ytfgnhldnmbfnkab

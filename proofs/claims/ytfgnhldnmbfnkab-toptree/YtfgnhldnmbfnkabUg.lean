/- The forest, plain: Make, Link, Remove, Hold, Let, Plant keep what is true of it. -/
import Derived.Test.YtfgnhldnmbfnkabUf
namespace Go.Proofs.Ytfgnhldnmbfnkab
open Tr (Fo Nd)

theorem Tr.Ok.lin {F : Fo} (h : Tr.Ok F) {y z E : Int} {s : ByteArray} {G : Fo} (hm : Tr.LinTo F y z s E G) : Tr.Ok G := by
  rcases hm with ⟨_, _, rfl⟩ | ⟨ey, e, hw, hm⟩
  · exact h
  rcases hm with ⟨_, _, rfl⟩ | ⟨rfl, hm⟩
  · exact h
  rcases hm with ⟨_, _, rfl⟩ | ⟨et, _, rfl⟩
  · exact h
  obtain ⟨k, rfl, k40, _, k1⟩ := Tr.isE_ok ey
  obtain ⟨n, rfl, n40, n2, hnm, hp, h8⟩ := hw.ok
  rw [Int.toNat_natCast, Int.toNat_natCast] at et ⊢
  unfold Tr.linF
  obtain ⟨F', hF'⟩ : ∃ F', F.put k { F.nd k with links := (F.nd k).links + 1 } = F' := ⟨_, rfl⟩
  rw [hF']
  have nk : n ≠ k := fun e => by rw [e, k1] at n2; exact absurd n2 (by decide)
  have gk : F'.nd k = { F.nd k with links := (F.nd k).links + 1 } := by rw [← hF', Tr.put_same]
  have go : ∀ x, x ≠ k → F'.nd x = F.nd x := fun x c => by rw [← hF', Tr.put_ne _ _ _ _ c]
  have al : ∀ x, (F'.nd x).kind = (F.nd x).kind ∧ (F'.nd x).size = (F.nd x).size ∧ (F'.nd x).nam = (F.nd x).nam ∧ (F'.nd x).kid = (F.nd x).kid ∧ (F'.nd x).tree = (F.nd x).tree ∧ (F'.nd x).up = (F.nd x).up ∧ (F'.nd x).held = (F.nd x).held := fun x => by
    by_cases c : x = k
    · subst c; rw [gk]; exact ⟨rfl, rfl, rfl, rfl, rfl, rfl, rfl⟩
    · rw [go x c]; exact ⟨rfl, rfl, rfl, rfl, rfl, rfl, rfl⟩
  have hl : ∀ x, (F'.nd x).links = (F.nd x).links + oneN k x := fun x => by
    by_cases c : x = k
    · subst c; rw [gk, oneN_same]
    · rw [go x c, oneN_ne (Ne.symm c)]; rfl
  have cnt : ∀ x, Tr.cnt F' x = Tr.cnt F x := fun x => by
    rw [← hF']
    exact Tr.cnt_put_same F k _ x k40 rfl
  have hx : Tr.OkX F' k := by
    refine ⟨by rw [← hF']; exact h.tr, fun x hx => by rw [(al x).1]; exact h.kd x hx, fun x hx k2 => ?_, fun x hx k1 => ?_, fun x j hx k2 hj => ?_, fun x hx k2 => ?_, fun x j hx k2 hj => ?_, fun t htt => ?_, fun x hx kx => ?_, fun x hx kx => ?_, fun x hx k2 => ?_, fun x hx k2 _ => ?_, fun x hx k2 _ hu2 => ?_⟩
    · rw [(al x).1] at k2; rw [(al x).2.1]; exact h.sz x hx k2
    · rw [(al x).1] at k1; rw [(al x).2.1]; exact h.fz x hx k1
    · rw [(al x).1] at k2; rw [(al x).2.1] at hj; rw [(al x).2.2.1]; exact h.nb x j hx k2 hj
    · rw [(al x).1] at k2; unfold Tr.Nodup; rw [(al x).2.1, (al x).2.2.1]; exact h.dp x hx k2
    · rw [(al x).1] at k2; rw [(al x).2.1] at hj
      rw [(al x).2.2.2.1, (al _).1, (al _).2.2.2.2.1, (al x).2.2.2.2.1, (al _).2.2.2.2.2.1]
      exact h.ki x j hx k2 hj
    · have a := h.rt t (by rw [← hF'] at htt; exact htt)
      have e : F'.root t = F.root t := by rw [← hF']; rfl
      rw [e, (al _).1, (al _).2.2.2.2.1, (al _).2.2.2.2.2.1]
      exact a
    · rw [(al x).1] at kx; rw [hl, cnt, h.lk x hx kx]
    · rw [(al x).1] at kx; rw [hl, (al x).2.2.2.2.2.2]; have := h.al x hx kx; omega
    · rw [(al x).1] at k2; rw [cnt, oneN_ne (fun e => by rw [← e, k1] at k2; exact absurd k2 (by decide)), Nat.add_zero]; exact h.dr x hx k2
    · rw [(al x).1] at k2; exact (h.en x hx k2).congr (fun y => (al y).2.2.2.2.2.1)
    · rw [(al x).1] at k2; rw [(al x).2.2.2.2.2.1] at hu2
      obtain ⟨t, h1, h2⟩ := h.ro x hx k2 hu2
      exact ⟨t, by rw [← hF']; exact h1, by rw [← hF']; exact h2⟩
  have n8 := h.sz n n40 n2
  refine hx.lead n40 k40 nk (by rw [(al n).1]; exact n2) (by rw [(al k).1, k1]; decide) (by rw [(al n).2.1]; omega) hnm (by rw [go n nk]; exact hp) (by rw [(al k).2.2.2.2.1, (al n).2.2.2.2.1]; exact et) (fun k2 => by rw [(al k).1, k1] at k2; exact absurd k2 (by decide))
/-- Nobody goes up by way of a node that is none. -/
theorem Tr.Ok.far {F G : Fo} (h : Tr.Ok F) {k : Nat} (k0 : (F.nd k).kind = 0) (hu : ∀ x, x ≠ k → (G.nd x).up = (F.nd x).up) : ∀ m x, x < 40 → (F.nd x).kind = 2 → Tr.belB G k m x = false
  | 0, x, _, k2 => by
    show (x == k) = false
    have c : x ≠ k := fun e => by rw [e, k0] at k2; exact absurd k2 (by decide)
    simpa using c
  | m + 1, x, hx, k2 => by
    have c : x ≠ k := fun e => by rw [e, k0] at k2; exact absurd k2 (by decide)
    show (x == k || (!((G.nd x).up == x) && Tr.belB G k m (G.nd x).up)) = false
    rw [show (x == k) = false from by simpa using c, hu x c]
    by_cases d : (F.nd x).up = x
    · rw [d]; simp
    · rcases Tr.up_of h.ki k2 (by rw [h.dr x hx k2]; exact Nat.le_refl _) with ⟨t, ht, e⟩ | ⟨i, h1, h2, _, _⟩
      · have := (h.rt t ht).2.2.1
        rw [e] at this
        exact absurd this d
      · rw [Tr.Ok.far h k0 hu m _ h1 h2]; simp
theorem Tr.Ok.mak {F : Fo} (h : Tr.Ok F) {z kz E : Int} {s : ByteArray} {K : Nat} {G : Fo} (hm : Tr.MakTo F z s kz K E G) : Tr.Ok G := by
  rcases hm with ⟨_, _, _, _, rfl⟩ | ⟨hkz, e, hw, hm⟩
  · exact h
  rcases hm with ⟨_, _, _, rfl⟩ | ⟨rfl, k, e2, hf, hm⟩
  · exact h
  rcases hm with ⟨_, _, _, rfl⟩ | ⟨rfl, _, _, rfl⟩
  · exact h
  obtain ⟨n, rfl, n40, n2, hnm, hp, h8⟩ := hw.ok
  obtain ⟨kd, hkd, hkd2⟩ : ∃ kd : Nat, kz.toNat = kd ∧ (kd = 1 ∨ kd = 2) := ⟨kz.toNat, rfl, by omega⟩
  rw [Int.toNat_natCast, hkd]
  obtain ⟨k40, k0⟩ : k < 40 ∧ (F.nd k).kind = 0 := by
    rcases hf with ⟨_, h1, h2, _⟩ | ⟨h1, _⟩
    · exact ⟨h1, h2⟩
    · omega
  unfold Tr.makF
  obtain ⟨F', hF'⟩ : ∃ F', F.put k (newN kd (F.nd n).tree 0) = F' := ⟨_, rfl⟩
  rw [hF']
  have nk : n ≠ k := fun e => by rw [e, k0] at n2; exact absurd n2 (by decide)
  have gk : F'.nd k = newN kd (F.nd n).tree 0 := by rw [← hF', Tr.put_same]
  have go : ∀ x, x ≠ k → F'.nd x = F.nd x := fun x c => by rw [← hF', Tr.put_ne _ _ _ _ c]
  have cnt : ∀ x, Tr.cnt F' x = Tr.cnt F x := fun x => by
    rw [← hF']
    refine Tr.cnt_put_same F k _ x k40 ?_
    rw [Tr.cntM_no (x := F.nd k) x (by rw [k0]; decide)]
    unfold Tr.cntM
    split <;> rfl
  have hc0 := h.none k0
  have kne : ∀ x i, x < 40 → (F.nd x).kind = 2 → i < (F.nd x).size → (F.nd x).kid i ≠ k := (fun x i hx k2 hi => (Tr.cnt_no hc0).1 x i hx k2 hi)
  have rne : ∀ t, t < F.trees → F.root t ≠ k := (Tr.cnt_no hc0).2
  have sz0 : (F'.nd k).size = 0 := by rw [gk]; rfl
  have hx : Tr.OkX F' k := by
    refine ⟨by rw [← hF']; exact h.tr, fun x hx => ?_, fun x hx k2 => ?_, fun x hx k1 => ?_, fun x j hx k2 hj => ?_, fun x hx k2 => ?_, fun x j hx k2 hj => ?_, fun t htt => ?_, fun x hx kx => ?_, fun x hx kx => ?_, fun x hx k2 => ?_, fun x hx k2 c => ?_, fun x hx k2 c hu2 => ?_⟩
    · by_cases c : x = k
      · subst c; rw [gk]; show kd ≤ 2; omega
      · rw [go x c]; exact h.kd x hx
    · by_cases c : x = k
      · subst c; rw [sz0]; exact Nat.zero_le _
      · rw [go x c] at k2 ⊢; exact h.sz x hx k2
    · by_cases c : x = k
      · subst c; rw [sz0]; exact Nat.zero_le _
      · rw [go x c] at k1 ⊢; exact h.fz x hx k1
    · by_cases c : x = k
      · subst c; rw [sz0] at hj; omega
      · rw [go x c] at k2 hj ⊢; exact h.nb x j hx k2 hj
    · by_cases c : x = k
      · subst c; intro a b _ hb; rw [sz0] at hb; omega
      · rw [go x c] at k2 ⊢; exact h.dp x hx k2
    · by_cases c : x = k
      · subst c; rw [sz0] at hj; omega
      · rw [go x c] at k2 hj ⊢
        rw [go _ (kne x j hx k2 hj)]
        exact h.ki x j hx k2 hj
    · have htt' : t < F.trees := by rw [← hF'] at htt; exact htt
      have e : F'.root t = F.root t := by rw [← hF']; rfl
      rw [e, go _ (rne t htt')]
      exact h.rt t htt'
    · by_cases c : x = k
      · subst c; rw [gk, cnt, hc0, oneN_same]; rfl
      · rw [go x c] at kx ⊢; rw [cnt, oneN_ne (Ne.symm c)]; exact h.lk x hx kx
    · by_cases c : x = k
      · subst c; rw [gk]; show 1 ≤ 1 + 0; omega
      · rw [go x c] at kx ⊢; exact h.al x hx kx
    · by_cases c : x = k
      · subst c; rw [cnt, hc0, oneN_same]
      · rw [go x c] at k2; rw [cnt, oneN_ne (Ne.symm c)]; exact h.dr x hx k2
    · rw [go x c] at k2
      exact (h.en x hx k2).avoid (k := k) (fun y d => by rw [go y d]) (h.far k0 (fun _ _ => rfl) 40 x hx k2)
    · rw [go x c] at k2 hu2
      obtain ⟨t, h1, h2⟩ := h.ro x hx k2 hu2
      exact ⟨t, by rw [← hF']; exact h1, by rw [← hF']; exact h2⟩
  have n8 := h.sz n n40 n2
  refine hx.lead n40 k40 nk (by rw [go n nk]; exact n2) (by rw [gk]; show kd ≠ 0; omega) (by rw [go n nk]; omega) hnm (by rw [go n nk]; exact hp) (by rw [gk, go n nk]; rfl) (fun _ => h.far k0 (fun y d => by rw [go y d]) 40 n n40 n2)
theorem Tr.Ok.hol {F : Fo} (h : Tr.Ok F) (z : Int) : Tr.Ok (Tr.hol F z) := by
  unfold Tr.hol
  split
  · rename_i c
    obtain ⟨n, rfl, n40, _⟩ := Tr.nodeE_ok c
    rw [Int.toNat_natCast]
    exact h.put n _ n40 rfl rfl rfl rfl (fun _ => ⟨rfl, rfl, rfl⟩) (fun k1 => h.fz n n40 k1) (fun k0 => by show 1 ≤ (F.nd n).links + ((F.nd n).held + 1); omega)
  · exact h
end Go.Proofs.Ytfgnhldnmbfnkab

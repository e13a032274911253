/- The forest, plain: what is found behind a move. -/
import Derived.Test.YtfgnhldnmbfnkabVb
namespace Go.Proofs.Ytfgnhldnmbfnkab
open Tr (Fo Nd)

theorem Tr.isE_congr {F G : Fo} (h : ∀ x, (G.nd x).kind = (F.nd x).kind) (z : Int) (k : Nat) : Tr.isE G z k = Tr.isE F z k := by
  unfold Tr.isE Tr.nodeE
  rw [h]
theorem Tr.cntN_congr {F G : Fo} (h : ∀ x, (G.nd x).kind = (F.nd x).kind) : ∀ n, Tr.cntN G n = Tr.cntN F n
  | 0 => rfl
  | n + 1 => by
    show Tr.cntN G n + (if (G.nd n).kind = 0 then 0 else 1) = Tr.cntN F n + (if (F.nd n).kind = 0 then 0 else 1)
    rw [Tr.cntN_congr h n, h n]
theorem Tr.FndTo.unique {F : Fo} {z : Int} {s : ByteArray} {K K' : Nat} {E E' : Int} (h : Tr.FndTo F z s K E) (h' : Tr.FndTo F z s K' E') : K = K' ∧ E = E' := by
  rcases h with ⟨a, b, c⟩ | ⟨a, h⟩ <;> rcases h' with ⟨a', b', c'⟩ | ⟨a', h'⟩
  · exact ⟨b.trans b'.symm, c.trans c'.symm⟩
  · exact absurd a' a
  · exact absurd a a'
  · rcases h with ⟨i, p, q, r⟩ | ⟨p, q, r⟩ <;> rcases h' with ⟨i', p', q', r'⟩ | ⟨p', q', r'⟩
    · have := p.unique p'
      obtain rfl : i = i' := by omega
      exact ⟨q.trans q'.symm, r.trans r'.symm⟩
    · have := p.unique p'; omega
    · have := p.unique p'; omega
    · exact ⟨q.trans q'.symm, r.trans r'.symm⟩
theorem Tr.PlcTo.named {x : Nd} {s o : ByteArray} {z : Int} (h : Tr.PlcTo x o z) (e : s.toList = o.toList) : Tr.PlcTo x s z := by
  unfold Tr.PlcTo
  rw [e]; exact h
/-- What is true behind a move. -/
theorem Tr.mov_facts {F : Fo} (h : Tr.Ok F) {z y E : Int} {s o : ByteArray} {G : Fo} {K : Nat} (hf : Tr.FndTo F z s K 0) (hm : Tr.MovTo F z s y o E G) :
    (∀ x, (G.nd x).kind = (F.nd x).kind) ∧ (∃ u, G.nd K = { F.nd K with up := u }) ∧ (E ≠ 0 → G = F) ∧ (E = 0 → Tr.FndTo G y o K 0 ∧ (Tr.FndTo G z s 0 2 ∨ (z = y ∧ s.toList = o.toList ∧ Tr.FndTo G z s K 0))) := by
  have same : E ≠ 0 → G = F → (∀ x, (G.nd x).kind = (F.nd x).kind) ∧ (∃ u, G.nd K = { F.nd K with up := u }) ∧ (E ≠ 0 → G = F) ∧ (E = 0 → Tr.FndTo G y o K 0 ∧ (Tr.FndTo G z s 0 2 ∨ (z = y ∧ s.toList = o.toList ∧ Tr.FndTo G z s K 0))) := fun e g => by
    subst g
    exact ⟨fun _ => rfl, ⟨(G.nd K).up, rfl⟩, fun _ => rfl, fun e0 => absurd e0 e⟩
  obtain ⟨K', e, hf', hm⟩ := hm
  obtain ⟨rfl, rfl⟩ := hf.unique hf'
  rcases hm with ⟨a, _, _⟩ | ⟨_, hm⟩
  · exact absurd rfl a
  rcases hm with ⟨a, b, c⟩ | ⟨ey, hm⟩
  · exact same (by rw [b]; exact a) c
  rcases hm with ⟨_, b, c⟩ | ⟨et, hm⟩
  · exact same (by rw [b]; decide) c
  rcases hm with ⟨_, b, c⟩ | ⟨hb, i, hpl, e2, hr, hm⟩
  · exact same (by rw [b]; decide) c
  rcases hm with ⟨a, b, c⟩ | ⟨rfl, rfl, rfl⟩
  · exact same (by rw [b]; exact a) c
  obtain ⟨n, i', rfl, n40, n2, hp, hK⟩ := hf.ok
  obtain ⟨t, rfl, t40, t0, t2⟩ := Tr.isE_ok ey
  rw [Int.toNat_natCast] at hb hpl hr et ⊢
  rw [Int.toNat_natCast] at hr et ⊢
  have ii : i = i' := by have := hpl.unique hp; omega
  subst ii
  have hi := hp.lt
  obtain ⟨u, hu⟩ := Tr.mov_same (o := o) h n40 n2 hi (by rw [← hK]; exact hb)
  rw [← hK] at hu
  have tk : t ≠ K := fun c => by subst c; rw [Tr.belB_same] at hb; exact absurd hb (by decide)
  have nk : n ≠ K := fun c => h.noself n40 n2 hi (hK.symm.trans c.symm)
  obtain ⟨F1, hF1⟩ : ∃ F1, F.put n (Tr.forN (F.nd n) i) = F1 := ⟨_, rfl⟩
  have hG : Tr.movF F n i t K o = (F1.put t (Tr.adN (F1.nd t) o K)).put K (if (F1.nd K).kind = 2 then { F1.nd K with up := t } else F1.nd K) := by
    unfold Tr.movF
    rw [hF1, Tr.leaF_put tk]
  rw [hF1] at hr
  obtain ⟨G, hGG⟩ : ∃ G, Tr.movF F n i t K o = G := ⟨_, rfl⟩
  rw [hGG] at hG hu ⊢
  have g1 : G.nd t = Tr.adN (F1.nd t) o K := by rw [hG, Tr.put_ne _ _ _ _ tk, Tr.put_same]
  have g2 : ∀ x, x ≠ t → x ≠ K → G.nd x = F1.nd x := fun x c1 c2 => by rw [hG, Tr.put_ne _ _ _ _ c2, Tr.put_ne _ _ _ _ c1]
  have k1 : ∀ x, (F1.nd x).kind = (F.nd x).kind := fun x => by
    rw [← hF1]
    by_cases c : x = n
    · subst c; rw [Tr.put_same]; rfl
    · rw [Tr.put_ne _ _ _ _ c]
  have kk : ∀ x, (G.nd x).kind = (F.nd x).kind := fun x => by
    by_cases c : x = t
    · subst c; rw [g1]; exact k1 x
    · by_cases d : x = K
      · subst d; rw [hu]
      · rw [g2 x c d, k1]
  have pn : Tr.PlcTo (F1.nd t) o (-1) := by
    rcases hr with ⟨_, q⟩ | ⟨_, ⟨_, _, q⟩ | ⟨q, _⟩⟩
    · exact absurd q (by decide)
    · exact absurd q (by decide)
    · exact q
  have en : Tr.isE G (n : Int) 2 = 0 := by
    rw [Tr.isE_congr kk]
    rcases hf with ⟨a, _, b⟩ | ⟨a, _⟩
    · exact absurd b.symm a
    · exact a
  have fn : F1.nd n = Tr.forN (F.nd n) i := by rw [← hF1, Tr.put_same]
  have gone := Tr.plc_gone (h.dp n n40 n2) hp
  refine ⟨kk, ⟨u, hu⟩, fun e => absurd rfl e, fun _ => ⟨?_, ?_⟩⟩
  · refine .inr ⟨by rw [Tr.isE_congr kk]; exact ey, .inl ⟨(F1.nd t).size, ?_, ?_, rfl⟩⟩
    · rw [Int.toNat_natCast, g1]; exact Tr.plc_new K pn
    · rw [Int.toNat_natCast, g1, (Tr.adN_last _ _ _).2]
  · by_cases c : n = t
    · subst c
      by_cases d : s.toList = o.toList
      · refine .inr ⟨rfl, d, .inr ⟨en, .inl ⟨(F1.nd n).size, ?_, ?_, rfl⟩⟩⟩
        · rw [Int.toNat_natCast, g1]; exact (Tr.plc_new K pn).named d
        · rw [Int.toNat_natCast, g1, (Tr.adN_last _ _ _).2]
      · refine .inl (.inr ⟨en, .inr ⟨?_, rfl, rfl⟩⟩)
        rw [Int.toNat_natCast, g1, fn]
        exact Tr.plc_other K gone (Ne.symm d)
    · refine .inl (.inr ⟨en, .inr ⟨?_, rfl, rfl⟩⟩)
      rw [Int.toNat_natCast, g2 n c nk, fn]
      exact gone
end Go.Proofs.Ytfgnhldnmbfnkab

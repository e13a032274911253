/- TopPath, plain: a path's last name leads where the path leads; '..' leads back. -/
import Derived.Test.YthdadmbpnoofoaaGreatDoorDm
import Derived.BigQuiet
import Derived.Deep.CutRange
namespace Go.Proofs.YthdadmbpnoofoaaGreatDoor
open Go.RowKit
open Tr (Fo Nd)
open Mo (Wh Mt Tb)

namespace Mo
theorem fnd1 {F : Fo} {z : Int} {s : ByteArray} {K K' : Nat} {E E' : Int} (h : Tr.FndTo F z s K E) (h' : Tr.FndTo F z s K' E') : K = K' ∧ E = E' := by
  rcases h with ⟨a, b, c⟩ | ⟨a, h⟩ <;> rcases h' with ⟨a', b', c'⟩ | ⟨a', h'⟩
  · exact ⟨b.trans b'.symm, c.trans c'.symm⟩
  · exact absurd a' a
  · exact absurd a a'
  · rcases h with ⟨i, p, q, r⟩ | ⟨p, q, r⟩ <;> rcases h' with ⟨i', p', q', r'⟩ | ⟨p', q', r'⟩
    · have := p.unique p'
      obtain rfl : i = i' := by omega
      exact ⟨q.trans q'.symm, r.trans r'.symm⟩
    · have := p.unique p'; omega
    · have := p.unique p'; omega
    · exact ⟨q.trans q'.symm, r.trans r'.symm⟩
theorem WayTo.unique {F : Fo} {L : List Mt} : ∀ {l : List ByteArray} {W U V : List Wh} {E E' : Int}, WayTo F L l W U E → WayTo F L l W V E' → U = V ∧ E = E'
  | [], _, _, _, _, _, h, k => ⟨h.1.trans k.1.symm, h.2.trans k.2.symm⟩
  | s :: r, W, U, V, E, E', h, k => by
    rcases h with ⟨b, h⟩ | ⟨b, K, e, hf, h⟩ <;> rcases k with ⟨b', k⟩ | ⟨b', K', e', kf, k⟩
    · exact WayTo.unique h k
    · rw [b] at b'; cases b'
    · rw [b] at b'; cases b'
    · obtain ⟨rfl, rfl⟩ := fnd1 hf kf
      rcases h with ⟨e0, h1, h2⟩ | ⟨e0, h⟩ <;> rcases k with ⟨e1, k1, k2⟩ | ⟨e1, k⟩
      · exact ⟨h1.trans k1.symm, h2.trans k2.symm⟩
      · exact absurd e1 e0
      · exact absurd e0 e1
      · exact WayTo.unique h k
theorem WayTo.app {F : Fo} {L : List Mt} : ∀ {l m : List ByteArray} {W U V : List Wh} {E : Int}, WayTo F L l W U 0 → WayTo F L m U V E → WayTo F L (l ++ m) W V E
  | [], m, _, _, _, _, h, k => by rw [h.1] at k; exact k
  | s :: r, m, W, U, V, E, h, k => by
    rcases h with ⟨b, h⟩ | ⟨b, K, e, hf, h⟩
    · exact .inl ⟨b, WayTo.app h k⟩
    · rcases h with ⟨e0, _, h2⟩ | ⟨e0, h⟩
      · exact absurd h2.symm e0
      · exact .inr ⟨b, K, e, hf, .inr ⟨e0, WayTo.app h k⟩⟩
theorem WayTo.rest {F : Fo} {L : List Mt} : ∀ {l m : List ByteArray} {W U V : List Wh} {E : Int}, WayTo F L l W U 0 → WayTo F L (l ++ m) W V E → WayTo F L m U V E
  | [], m, _, _, _, _, h, k => by rw [h.1]; exact k
  | s :: r, m, W, U, V, E, h, k => by
    rcases h with ⟨b, h⟩ | ⟨b, K, e, hf, h⟩ <;> rcases k with ⟨b', k⟩ | ⟨b', K', e', kf, k⟩
    · exact WayTo.rest h k
    · rw [b] at b'; cases b'
    · rw [b] at b'; cases b'
    · obtain ⟨rfl, rfl⟩ := fnd1 hf kf
      rcases h with ⟨e0, _, h2⟩ | ⟨e0, h⟩
      · exact absurd h2.symm e0
      · rcases k with ⟨e1, _⟩ | ⟨_, k⟩
        · exact absurd e0 e1
        · exact WayTo.rest h k
theorem WayTo.ne {F : Fo} {L : List Mt} : ∀ {l : List ByteArray} {W U : List Wh} {E : Int}, WayTo F L l W U E → 1 ≤ W.length → 1 ≤ U.length
  | [], _, _, _, h, k => by rw [h.1]; exact k
  | s :: r, W, U, E, h, k => by
    rcases h with ⟨b, h⟩ | ⟨b, K, e, hf, h⟩
    · exact WayTo.ne h (by rw [bk_len k]; omega)
    · rcases h with ⟨_, h1, _⟩ | ⟨_, h⟩
      · rw [h1]; simp
      · exact WayTo.ne h (by simp)
theorem allOk_at {s : ByteArray} : ∀ {n : Nat}, Tr.allOk s n = true → ∀ j, j < n → Tr.okB (s[j]!).toNat = true
  | 0, _, j, hj => by omega
  | n + 1, h, j, hj => by
    have h' : (Tr.allOk s n && Tr.okB (s[n]!).toNat) = true := h
    rw [Bool.and_eq_true] at h'
    by_cases c : j = n
    · subst c; exact h'.2
    · exact allOk_at h'.1 j (by omega)
theorem name_facts {s : ByteArray} (h : Tr.nameB s = true) : 1 ≤ s.size ∧ isBk s = false ∧ ∀ c ∈ s.data.toList, c ≠ 47 := by
  unfold Tr.nameB at h
  simp only [Bool.and_eq_true, decide_eq_true_eq, Bool.not_eq_true'] at h
  obtain ⟨⟨⟨⟨h1, _⟩, _⟩, h4⟩, h5⟩ := h
  refine ⟨h1, h4, fun c hc e => ?_⟩
  subst e
  obtain ⟨i, hi, he⟩ := List.getElem_of_mem hc
  have hl : s.data.toList.length = s.size := Array.length_toList
  have := allOk_at h5 i (by omega)
  have e2 : s[i]! = 47 := by
    rw [getElem!_pos s i (by omega)]
    rw [← he]
    rfl
  rw [e2] at this
  revert this
  decide
theorem splE_facts {p : ByteArray} (h : splE p = 0) : p.size ≤ 60 ∧ p.data.toList.head? = some 47 ∧ (p.size ≠ 1 → (pcs p).all okN = true) := by
  unfold splE at h
  by_cases c : 60 < p.size ∨ p.data.toList.head? ≠ some 47
  · rw [if_pos c] at h; omega
  · rw [if_neg c] at h
    refine ⟨by omega, by
      by_cases d : p.data.toList.head? = some 47
      · exact d
      · exact absurd (.inr d) c, fun h1 => ?_⟩
    rw [if_neg h1] at h
    by_cases d : (pcs p).all okN = true
    · exact d
    · rw [if_neg d] at h; omega
theorem splE_ok {p : ByteArray} (h1 : p.size ≤ 60) (h2 : p.data.toList.head? = some 47) (h3 : (pcs p).all okN = true) : splE p = 0 := by
  unfold splE
  rw [if_neg (fun c => by
    rcases c with c | c
    · omega
    · exact c h2)]
  rw [if_pos h3]
  split <;> rfl
theorem isBk_dots : isBk ⟨#[46, 46]⟩ = true := by
  unfold isBk
  rw [ByteArray.toList_eq]
  rfl
theorem head_drop {l : List UInt8} (h : l.head? = some 47) : l = 47 :: l.drop 1 := by
  cases l with
  | nil => cases h
  | cons a r =>
    simp only [List.head?_cons, Option.some.injEq] at h
    subst h
    rfl
theorem pcs_app {q s r : ByteArray} (hq : q.data.toList.head? = some 47) (e : r.data.toList = q.data.toList ++ 47 :: s.data.toList) (hs : ∀ c ∈ s.data.toList, c ≠ 47) : pcs r = pcs q ++ [s] := by
  unfold pcs
  rw [e]
  have hd : (q.data.toList ++ 47 :: s.data.toList).drop 1 = q.data.toList.drop 1 ++ 47 :: s.data.toList := by
    rw [List.drop_append_of_le_length]
    rw [head_drop hq]
    simp
  rw [hd, cutL_app, cutL_no _ hs, List.map_append]
  rfl
/-- A path, and a name behind it. -/
def whole (p s : ByteArray) : ByteArray := if (p.toList == [47]) = true then ⟨#[47]⟩ ++ s else (p ++ ⟨#[47]⟩) ++ s
theorem one_size {p : ByteArray} (h : p.data.toList.head? = some 47) : (p.toList == [47]) = true ↔ p.size = 1 := by rw [one47 h]; simp
theorem whole_data {p s : ByteArray} : (whole p s).data.toList = if (p.toList == [47]) = true then 47 :: s.data.toList else p.data.toList ++ 47 :: s.data.toList := by
  unfold whole
  split
  · rw [ByteArray.data_append, Array.toList_append]; rfl
  · rw [ByteArray.data_append, ByteArray.data_append, Array.toList_append, Array.toList_append, List.append_assoc]; rfl
theorem whole_spl {p s : ByteArray} (hp : splE p = 0) (hq : splE (whole p s) = 0) (hs : Tr.nameB s = true) : splN (whole p s) = splN p ++ [s] ∧ (whole p s).data.toList.head? = some 47 ∧ (whole p s).size ≠ 1 := by
  obtain ⟨s1, _, s3⟩ := name_facts hs
  obtain ⟨_, p2, _⟩ := splE_facts hp
  obtain ⟨_, q2, _⟩ := splE_facts hq
  have sl : s.data.toList.length = s.size := Array.length_toList
  have pl : p.data.toList.length = p.size := Array.length_toList
  have wl : (whole p s).data.toList.length = (whole p s).size := Array.length_toList
  have wd := whole_data (p := p) (s := s)
  by_cases c : p.size = 1
  · rw [if_pos ((one_size p2).2 c)] at wd
    have n1 : (whole p s).size ≠ 1 := by rw [← wl, wd, List.length_cons]; omega
    refine ⟨?_, q2, n1⟩
    unfold splN
    rw [if_pos ⟨hq, n1⟩, if_neg (fun h => h.2 c)]
    unfold pcs
    rw [wd]
    show (cutL s.data.toList).map ba = _
    rw [cutL_no _ s3]
    rfl
  · rw [if_neg (fun h => c ((one_size p2).1 h))] at wd
    have n1 : (whole p s).size ≠ 1 := by rw [← wl, wd, List.length_append, List.length_cons]; omega
    refine ⟨?_, q2, n1⟩
    unfold splN
    rw [if_pos ⟨hq, n1⟩, if_pos ⟨hp, c⟩]
    exact pcs_app p2 wd s3
theorem back_spl {q : ByteArray} (hq : splE q = 0) (n1 : q.size ≠ 1) : (60 < q.size + 3 ∧ splE (q ++ ⟨#[47, 46, 46]⟩) = 9) ∨ (splE (q ++ ⟨#[47, 46, 46]⟩) = 0 ∧ splN (q ++ ⟨#[47, 46, 46]⟩) = splN q ++ [⟨#[46, 46]⟩]) := by
  obtain ⟨_, q2, q3⟩ := splE_facts hq
  have sz : (q ++ ⟨#[47, 46, 46]⟩ : ByteArray).size = q.size + 3 := by rw [ByteArray.size_append]; rfl
  by_cases c : 60 < q.size + 3
  · refine .inl ⟨c, ?_⟩
    unfold splE
    rw [if_pos (.inl (by rw [sz]; exact c))]
  · refine .inr ?_
    have e : (q ++ ⟨#[47, 46, 46]⟩ : ByteArray).data.toList = q.data.toList ++ 47 :: (⟨#[46, 46]⟩ : ByteArray).data.toList := by rw [ByteArray.data_append, Array.toList_append]
    have hpc := pcs_app (r := q ++ ⟨#[47, 46, 46]⟩) q2 e (by decide)
    have hE : splE (q ++ ⟨#[47, 46, 46]⟩) = 0 := splE_ok (by omega) (by rw [e, head_drop q2]; rfl) (by
      rw [hpc, List.all_append, q3 n1, List.all_cons, List.all_nil, okN, isBk_dots]
      rfl)
    refine ⟨hE, ?_⟩
    unfold splN
    rw [if_pos ⟨hE, by omega⟩, if_pos ⟨hq, n1⟩, hpc]
theorem lst_err {F : Fo} {T : Tb} {p : ByteArray} {x : Wh} {E : Int} (h : WalTo F T p x E) (e : E ≠ 0) : x = (0, 0) := by
  rcases h with ⟨_, h, _⟩ | ⟨_, W, hw, rfl⟩
  · exact h
  · have : ∀ {l : List ByteArray} {W U : List Wh}, WayTo F T.ms l W U E → U = [(0, 0)] := fun {l} => by
      induction l with
      | nil => intro W U h; exact absurd h.2 e
      | cons s r ih =>
        intro W U h
        rcases h with ⟨_, h⟩ | ⟨_, K, e', _, h⟩
        · exact ih h
        · rcases h with ⟨_, h1, _⟩ | ⟨_, h⟩
          · exact h1
          · exact ih h
    rw [this hw]
    rfl
/-- What TopPath asks. -/
theorem top_path {F : Fo} {T : Tb} {p s : ByteArray} {one deep : Wh} (hp : WalTo F T p one 0) (hq : WalTo F T (whole p s) deep 0) (hs : Tr.nameB s = true) :
    ∃ K : Nat, (∀ x t E, LasTo F T (whole p s) x t E → x = one ∧ t = s ∧ E = 0) ∧ (∀ K' E, Tr.FndTo F one.2 s K' E → K' = K ∧ E = 0) ∧ (∀ x E, RawTo F T (whole p s) x E → x = (one.1, (K : Int)) ∧ E = 0) ∧ deep = sn T.ms (one.1, (K : Int))
      ∧ (∀ x E, WalTo F T (whole p s ++ ⟨#[47, 46, 46]⟩) x E → (E ≠ 0 ∧ 60 < (whole p s).size + 3) ∨ (E = 0 ∧ x = one)) := by
  rcases hp with ⟨c, _, e⟩ | ⟨p0, W1, hw1, h1⟩
  · exact absurd e.symm c
  rcases hq with ⟨c, _, e⟩ | ⟨q0, W2, hw2, h2⟩
  · exact absurd e.symm c
  obtain ⟨s1, s2, s3⟩ := name_facts hs
  obtain ⟨hN, hH, n1⟩ := whole_spl p0 q0 hs
  have l1 : 1 ≤ W1.length := hw1.ne (by simp)
  have step : ∀ {K : Nat} {e : Int}, Tr.FndTo F (lst W1).2 s K e → e = 0 → WayTo F T.ms (splN p ++ [s]) [sn T.ms T.rt] (W1 ++ [sn T.ms ((lst W1).1, (K : Int))]) 0 := fun {K} {e} hf e0 => hw1.app (.inr ⟨s2, K, e, hf, .inr ⟨e0, rfl, rfl⟩⟩)
  have found : ∃ K : Nat, Tr.FndTo F (lst W1).2 s K 0 := by
    rw [hN] at hw2
    rcases hw1.rest hw2 with ⟨b, _⟩ | ⟨_, K, e, hf, _⟩
    · rw [s2] at b; cases b
    by_cases e0 : e = 0
    · subst e0; exact ⟨K, hf⟩
    · have bad : WayTo F T.ms (splN p ++ [s]) [sn T.ms T.rt] [(0, 0)] e := hw1.app (.inr ⟨s2, K, e, hf, .inl ⟨e0, rfl, rfl⟩⟩)
      exact absurd (WayTo.unique bad hw2).2 e0
  obtain ⟨K, hf⟩ := found
  have w2 := step hf rfl
  have e2 : W2 = W1 ++ [sn T.ms ((lst W1).1, (K : Int))] := by
    rw [hN] at hw2
    exact (WayTo.unique hw2 w2).1
  subst e2
  have las : ∀ x t E, LasTo F T (whole p s) x t E → x = one ∧ t = s ∧ E = 0 := fun x t E h => by
    rcases h with ⟨c, _⟩ | ⟨_, c, _⟩ | ⟨_, l, t', e, _, W, hw, h⟩
    · exact absurd q0 c
    · rcases c with c | ⟨l, t', c, d⟩
      · rw [hN] at c; simp at c
      · rw [hN] at c
        obtain ⟨_, e⟩ := List.append_inj' c rfl
        simp only [List.cons.injEq, and_true] at e
        rw [← e, s2] at d
        cases d
    · rw [hN] at e
      obtain ⟨e1, e2⟩ := List.append_inj' e rfl
      simp only [List.cons.injEq, and_true] at e2
      subst e2
      rw [← e1] at hw
      obtain ⟨rfl, rfl⟩ := WayTo.unique hw hw1
      rcases h with ⟨c, _⟩ | ⟨_, h, h'⟩
      · exact absurd rfl c
      · exact ⟨h.trans h1.symm, h', rfl⟩
  refine ⟨K, las, fun K' E h => ?_, fun x E h => ?_, by rw [h2, lst_app, h1], fun x E h => ?_⟩
  · rw [h1] at h
    exact fnd1 h hf
  · rcases h with ⟨c, _⟩ | ⟨_, y, t, e, hl, h⟩
    · exact absurd ((one_size hH).1 c) n1
    · obtain ⟨rfl, rfl, rfl⟩ := las _ _ _ hl
      rcases h with ⟨c, _⟩ | ⟨_, K', hk, h⟩
      · exact absurd rfl c
      · rw [h1] at hk
        obtain ⟨rfl, rfl⟩ := fnd1 hk hf
        exact ⟨h.trans (if_pos rfl), rfl⟩
  · rcases back_spl q0 n1 with ⟨c, d⟩ | ⟨d, dn⟩
    · rcases h with ⟨_, _, h⟩ | ⟨h, _⟩
      · exact .inl ⟨by rw [h, d]; decide, c⟩
      · rw [d] at h; omega
    · rcases h with ⟨h, _⟩ | ⟨_, W, hw, rfl⟩
      · exact absurd d h
      · have w3 : WayTo F T.ms (splN (whole p s) ++ [⟨#[46, 46]⟩]) [sn T.ms T.rt] W1 0 := by
          refine hw2.app (.inl ⟨isBk_dots, ?_⟩)
          rw [bk_app l1]
          exact ⟨rfl, rfl⟩
        rw [dn] at hw
        obtain ⟨rfl, rfl⟩ := WayTo.unique hw w3
        exact .inr ⟨rfl, h1.symm⟩
end Mo
end Go.Proofs.YthdadmbpnoofoaaGreatDoor

/- TopPath: the walk. -/
namespace Go.Proofs.YthdadmbpnoofoaaGreatDoor
open Go.RowKit
open Tr (Fo Nd)
open Mo (Wh Mt Tb)

/-- What the law has in its hands: a forest and a table. -/
structure PX (w W : World) (f b : Nat) (T : Tb) (v : Value) (F : Fo) : Prop where
  bel : Below w.heap.size w W
  lf : w.heap.size ≤ f
  lt : w.heap.size ≤ b
  fo : FAt W f F
  tb : TAt W w.heap.size b f T v
section
variable {w W W' : World} {f b : Nat} {T T' : Tb} {v v' : Value} {F F' : Fo}
theorem PX.below (h : PX w W f b T v F) (k : Below W.heap.size W W') : PX w W' f b T v F := ⟨h.bel.trans (k.mono h.bel.size), h.lf, h.lt, h.fo.below k, h.tb.below k⟩
theorem PX.forest (h : PX w W f b T v F) (k : FAt W' f F') (kf : Frm f W W') : PX w W' f b T v F' := ⟨kf.below h.bel h.lf h.bel.size, h.lf, h.lt, k, h.tb.ofF h.fo kf⟩
theorem PX.tab (h : PX w W f b T v F) (k : FAt W' f F') (kt : TAt W' w.heap.size b f T' v') (ko : Onl (BV b f v) W W') : PX w W' f b T' v' F' :=
  ⟨ko.behind h.bel (fun n c => by
    rcases c with c | c | c
    · rw [c]; exact h.lt
    · rw [c]; exact h.lf
    · exact (h.tb.row.lt n c).1) h.bel.size, h.lf, h.lt, k, kt⟩
end
namespace Mo
structure PI (F : Fo) (T : Tb) : Prop where
  ok : Tr.Ok F
  hi : HI F (tc T)
  rg : Rg T
  six : T.ms.length ≤ 6
theorem PI.hb {F : Fo} {T : Tb} (h : PI F T) : Tr.Hb F 13 := h.hi.hb (fun n _ => tc_le T h.six n)
theorem PI.mak {F G : Fo} {T : Tb} {z kz E : Int} {s : ByteArray} {K : Nat} (h : PI F T) (hm : Tr.MakTo F z s kz K E G) : PI G T := ⟨h.ok.mak hm, h.hi.mak hm, h.rg, h.six⟩
theorem PI.bin {F : Fo} {T : Tb} (h : PI F T) (x y : Wh) : PI (binF F T x y) (binT F T x y) := by
  unfold binF binT
  by_cases c : binE F T x y = 0
  · rw [if_pos c, if_pos c]
    obtain ⟨c1, c2, c3⟩ := binE_0 c
    refine ⟨(h.ok.hol _).hol _, (hoM_HI h.hi (wroE_0 c1) (wroE_0 c2)).congr (fun n _ => ?_), ⟨h.rg.1, fun m hm => ?_⟩, ?_⟩
    · show _ = oneI T.rt.2 n + mc (T.ms ++ [(x, y)]) n
      rw [mc_app, mc_cons, mc_nil]
      unfold tc
      omega
    · rcases List.mem_append.1 hm with k | k
      · exact h.rg.2 m k
      · rw [List.mem_singleton] at k
        subst k
        exact ⟨nodeE_is (wroE_0 c1), nodeE_is (wroE_0 c2)⟩
    · have := h.six
      show (T.ms ++ [(x, y)]).length ≤ 6
      rw [List.length_append, List.length_singleton]
      omega
  · rw [if_neg c, if_neg c]
    exact h
theorem pi_start : PI (Tr.hol Tr.g2 (0 : Nat)) T0 :=
  ⟨ok_g2.hol (0 : Nat), (hi_g2.hol g2_root.2.2).congr (fun n _ => by
    show 0 + oneI 0 n = oneI 0 n + mc [] n
    rw [mc_nil]; omega), rg0, by decide⟩
theorem lk_none {L : List Mt} {x : Wh} (h : ∀ (y : Nat) (m : Mt), y < L.length → L[y]? = some m → m.1 ≠ x) : lk L x = none := by
  unfold lk
  rw [List.find?_eq_none]
  intro m hm
  obtain ⟨j, hj, e⟩ := List.getElem_of_mem hm
  have := h j m hj (by rw [List.getElem?_eq_getElem hj, e])
  simp [this]
theorem whole_size (p s : ByteArray) : (whole p s).size ≤ p.size + s.size + 1 := by
  unfold whole
  split
  · rw [ByteArray.size_append]; show 1 + s.size ≤ _; omega
  · rw [ByteArray.size_append, ByteArray.size_append]; show p.size + 1 + s.size ≤ _; omega
end Mo
end Go.Proofs.YthdadmbpnoofoaaGreatDoor

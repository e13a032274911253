/- Texts: the two lists that are the same; how long the texts of acts are. -/
import Derived.Test.YthdadmbpnoofoaaGreatDoorUa
import Derived.Test.YthdadmbpnoofoaaGreatDoorBt
namespace Go.Proofs.YthdadmbpnoofoaaGreatDoor
open Go.RowKit

theorem SO.cells {u w : World} {L : List ByteArray} {v : Value} (h : SO u L v w) (hl : 0 < L.length) : ∃ gg cap, v = .slice (some ⟨gg, 0, none⟩) L.length cap ∧ gg < w.heap.size ∧ ∀ i, i < L.length → w.cell? ⟨gg, i, none⟩ = some (.string (L.getD i ⟨#[]⟩)) := by
  have ho := h.own
  obtain ⟨gg, cap, hv, _, hg⟩ := ho.form hl
  refine ⟨gg, cap, hv, hg, fun i hi => ?_⟩
  rw [hv] at ho
  rw [ho.cellAt i (by omega)]
  simp [stC, hi]
set_option maxRecDepth 100000 in
set_option maxHeartbeats 1000000 in
theorem sameT_none (a1 a2 : Option Addr) (c1 c2 : Nat) (w : World) : Calls Tryz.prog 61 #[.slice a1 0 c1, .slice a2 0 c2] w fun e w' => e = .returned (.bool true) ∧ ∃ k, w' = w.drewN k := by
  go_enter Tryz.func61, Tryz.ntmps61
  go_wp2_with fail
  go_loopw [5] (fun i wr => i = .int .i64 0 ∧ wr = w) (fun _ _ => 0)
  case atStart => exact ⟨rfl, rfl⟩
  case round =>
    obtain ⟨rfl, rfl⟩ := hrel
    go_wp2_with fail
    go_ret
    exact ⟨rfl, 0, rfl⟩
set_option maxRecDepth 100000 in
set_option maxHeartbeats 1000000 in
theorem sameT_some (g1 g2 n c1 c2 : Nat) (f : Nat → ByteArray) (hn : n < 1000000) (w : World) (h1 : ∀ i, i < n → w.cell? ⟨g1, i, none⟩ = some (.string (f i))) (h2 : ∀ i, i < n → w.cell? ⟨g2, i, none⟩ = some (.string (f i))) :
    Calls Tryz.prog 61 #[.slice (some ⟨g1, 0, none⟩) n c1, .slice (some ⟨g2, 0, none⟩) n c2] w fun e w' => e = .returned (.bool true) ∧ ∃ k, w' = w.drewN k := by
  have H := Hid.intro (And.intro h1 h2)
  clear h1 h2
  go_enter Tryz.func61, Tryz.ntmps61
  go_wp2_with fail
  go_loopw [5] (fun i wr => ∃ j : Nat, i = .int .i64 j ∧ j ≤ n ∧ Hid (∃ k, wr = w.drewN k)) (fun i _ => n - (intOf i).toNat)
  case atStart => exact ⟨0, rfl, by omega, Hid.intro ⟨0, rfl⟩⟩
  case round =>
    obtain ⟨j, rfl, hj, R⟩ := hrel
    by_cases hlt : j < n
    · have hltI : (j : Int) < (n : Int) := by omega
      have c1 : wr.cell? ⟨g1, j, none⟩ = some (.string (f j)) := by obtain ⟨k, e⟩ := R.out; rw [e]; exact H.out.1 j hlt
      have c2 : wr.cell? ⟨g2, j, none⟩ = some (.string (f j)) := by obtain ⟨k, e⟩ := R.out; rw [e]; exact H.out.2 j hlt
      have RN : Hid (∀ q, ∃ k, wr.drewN q = w.drewN k) := Hid.intro (fun q => by obtain ⟨k, e⟩ := R.out; exact ⟨k + q, by rw [e]; unfold World.drewN; simp [Nat.add_assoc]⟩)
      generalize f j = nm at c1 c2
      go_wp2_with fail
      go_quiet (fail)
      go_wp2_with fail
      go_roundw
      case rel => exact ⟨j + 1, by go_num, by omega, Hid.intro (RN.out _)⟩
      case measure => simp [intOf]; omega
    · have hltI : ¬ (j : Int) < (n : Int) := by omega
      go_wp2_with fail
      go_ret
      exact ⟨rfl, R.out⟩
theorem sameT_any {u1 u2 w1 w2 : World} {L : List ByteArray} {v1 v2 : Value} (h1 : SO u1 L v1 w1) (h2 : SO u2 L v2 w2) (hb : RowKit.Below w1.heap.size w1 w2) (hL : L.length < 1000000) :
    Calls Tryz.prog 61 #[v1, v2] w2 fun e w' => e = .returned (.bool true) ∧ ∃ k, w' = w2.drewN k := by
  by_cases hl : L.length = 0
  · obtain ⟨a1, c1, e1⟩ := h1.form
    obtain ⟨a2, c2, e2⟩ := h2.form
    rw [e1, e2, hl]
    exact sameT_none a1 a2 c1 c2 w2
  · obtain ⟨g1, c1, e1, l1, k1⟩ := h1.cells (by omega)
    obtain ⟨g2, c2, e2, l2, k2⟩ := h2.cells (by omega)
    rw [e1, e2]
    exact sameT_some g1 g2 L.length c1 c2 (fun i => L.getD i ⟨#[]⟩) hL w2 (fun i hi => (hb.cell (p := ⟨g1, i, none⟩) l1).trans (k1 i hi)) k2
end Go.Proofs.YthdadmbpnoofoaaGreatDoor
/- The forest, plain: what is found behind a move. -/
namespace Go.Proofs.YthdadmbpnoofoaaGreatDoor
open Tr (Fo Nd)

theorem Tr.isE_congr {F G : Fo} (h : ∀ x, (G.nd x).kind = (F.nd x).kind) (z : Int) (k : Nat) : Tr.isE G z k = Tr.isE F z k := by
  unfold Tr.isE Tr.nodeE
  rw [h]
theorem Tr.cntN_congr {F G : Fo} (h : ∀ x, (G.nd x).kind = (F.nd x).kind) : ∀ n, Tr.cntN G n = Tr.cntN F n
  | 0 => rfl
  | n + 1 => by
    show Tr.cntN G n + (if (G.nd n).kind = 0 then 0 else 1) = Tr.cntN F n + (if (F.nd n).kind = 0 then 0 else 1)
    rw [Tr.cntN_congr h n, h n]
theorem Tr.FndTo.unique {F : Fo} {z : Int} {s : ByteArray} {K K' : Nat} {E E' : Int} (h : Tr.FndTo F z s K E) (h' : Tr.FndTo F z s K' E') : K = K' ∧ E = E' := by
  rcases h with ⟨a, b, c⟩ | ⟨a, h⟩ <;> rcases h' with ⟨a', b', c'⟩ | ⟨a', h'⟩
  · exact ⟨b.trans b'.symm, c.trans c'.symm⟩
  · exact absurd a' a
  · exact absurd a a'
  · rcases h with ⟨i, p, q, r⟩ | ⟨p, q, r⟩ <;> rcases h' with ⟨i', p', q', r'⟩ | ⟨p', q', r'⟩
    · have := p.unique p'
      obtain rfl : i = i' := by omega
      exact ⟨q.trans q'.symm, r.trans r'.symm⟩
    · have := p.unique p'; omega
    · have := p.unique p'; omega
    · exact ⟨q.trans q'.symm, r.trans r'.symm⟩
theorem Tr.PlcTo.named {x : Nd} {s o : ByteArray} {z : Int} (h : Tr.PlcTo x o z) (e : s.toList = o.toList) : Tr.PlcTo x s z := by
  unfold Tr.PlcTo
  rw [e]; exact h
/-- What is true behind a move. -/
theorem Tr.mov_facts {F : Fo} (h : Tr.Ok F) {z y E : Int} {s o : ByteArray} {G : Fo} {K : Nat} (hf : Tr.FndTo F z s K 0) (hm : Tr.MovTo F z s y o E G) :
    (∀ x, (G.nd x).kind = (F.nd x).kind) ∧ (∃ u, G.nd K = { F.nd K with up := u }) ∧ (E ≠ 0 → G = F) ∧ (E = 0 → Tr.FndTo G y o K 0 ∧ (Tr.FndTo G z s 0 2 ∨ (z = y ∧ s.toList = o.toList ∧ Tr.FndTo G z s K 0))) := by
  have same : E ≠ 0 → G = F → (∀ x, (G.nd x).kind = (F.nd x).kind) ∧ (∃ u, G.nd K = { F.nd K with up := u }) ∧ (E ≠ 0 → G = F) ∧ (E = 0 → Tr.FndTo G y o K 0 ∧ (Tr.FndTo G z s 0 2 ∨ (z = y ∧ s.toList = o.toList ∧ Tr.FndTo G z s K 0))) := fun e g => by
    subst g
    exact ⟨fun _ => rfl, ⟨(G.nd K).up, rfl⟩, fun _ => rfl, fun e0 => absurd e0 e⟩
  obtain ⟨K', e, hf', hm⟩ := hm
  obtain ⟨rfl, rfl⟩ := hf.unique hf'
  rcases hm with ⟨a, _, _⟩ | ⟨_, hm⟩
  · exact absurd rfl a
  rcases hm with ⟨a, b, c⟩ | ⟨ey, hm⟩
  · exact same (by rw [b]; exact a) c
  rcases hm with ⟨_, b, c⟩ | ⟨et, hm⟩
  · exact same (by rw [b]; decide) c
  rcases hm with ⟨_, b, c⟩ | ⟨hb, i, hpl, e2, hr, hm⟩
  · exact same (by rw [b]; decide) c
  rcases hm with ⟨a, b, c⟩ | ⟨rfl, rfl, rfl⟩
  · exact same (by rw [b]; exact a) c
  obtain ⟨n, i', rfl, n40, n2, hp, hK⟩ := hf.ok
  obtain ⟨t, rfl, t40, t0, t2⟩ := Tr.isE_ok ey
  rw [Int.toNat_natCast] at hb hpl hr et ⊢
  rw [Int.toNat_natCast] at hr et ⊢
  have ii : i = i' := by have := hpl.unique hp; omega
  subst ii
  have hi := hp.lt
  obtain ⟨u, hu⟩ := Tr.mov_same (o := o) h n40 n2 hi (by rw [← hK]; exact hb)
  rw [← hK] at hu
  have tk : t ≠ K := fun c => by subst c; rw [Tr.belB_same] at hb; exact absurd hb (by decide)
  have nk : n ≠ K := fun c => h.noself n40 n2 hi (hK.symm.trans c.symm)
  obtain ⟨F1, hF1⟩ : ∃ F1, F.put n (Tr.forN (F.nd n) i) = F1 := ⟨_, rfl⟩
  have hG : Tr.movF F n i t K o = (F1.put t (Tr.adN (F1.nd t) o K)).put K (if (F1.nd K).kind = 2 then { F1.nd K with up := t } else F1.nd K) := by
    unfold Tr.movF
    rw [hF1, Tr.leaF_put tk]
  rw [hF1] at hr
  obtain ⟨G, hGG⟩ : ∃ G, Tr.movF F n i t K o = G := ⟨_, rfl⟩
  rw [hGG] at hG hu ⊢
  have g1 : G.nd t = Tr.adN (F1.nd t) o K := by rw [hG, Tr.put_ne _ _ _ _ tk, Tr.put_same]
  have g2 : ∀ x, x ≠ t → x ≠ K → G.nd x = F1.nd x := fun x c1 c2 => by rw [hG, Tr.put_ne _ _ _ _ c2, Tr.put_ne _ _ _ _ c1]
  have k1 : ∀ x, (F1.nd x).kind = (F.nd x).kind := fun x => by
    rw [← hF1]
    by_cases c : x = n
    · subst c; rw [Tr.put_same]; rfl
    · rw [Tr.put_ne _ _ _ _ c]
  have kk : ∀ x, (G.nd x).kind = (F.nd x).kind := fun x => by
    by_cases c : x = t
    · subst c; rw [g1]; exact k1 x
    · by_cases d : x = K
      · subst d; rw [hu]
      · rw [g2 x c d, k1]
  have pn : Tr.PlcTo (F1.nd t) o (-1) := by
    rcases hr with ⟨_, q⟩ | ⟨_, ⟨_, _, q⟩ | ⟨q, _⟩⟩
    · exact absurd q (by decide)
    · exact absurd q (by decide)
    · exact q
  have en : Tr.isE G (n : Int) 2 = 0 := by
    rw [Tr.isE_congr kk]
    rcases hf with ⟨a, _, b⟩ | ⟨a, _⟩
    · exact absurd b.symm a
    · exact a
  have fn : F1.nd n = Tr.forN (F.nd n) i := by rw [← hF1, Tr.put_same]
  have gone := Tr.plc_gone (h.dp n n40 n2) hp
  refine ⟨kk, ⟨u, hu⟩, fun e => absurd rfl e, fun _ => ⟨?_, ?_⟩⟩
  · refine .inr ⟨by rw [Tr.isE_congr kk]; exact ey, .inl ⟨(F1.nd t).size, ?_, ?_, rfl⟩⟩
    · rw [Int.toNat_natCast, g1]; exact Tr.plc_new K pn
    · rw [Int.toNat_natCast, g1, (Tr.adN_last _ _ _).2]
  · by_cases c : n = t
    · subst c
      by_cases d : s.toList = o.toList
      · refine .inr ⟨rfl, d, .inr ⟨en, .inl ⟨(F1.nd n).size, ?_, ?_, rfl⟩⟩⟩
        · rw [Int.toNat_natCast, g1]; exact (Tr.plc_new K pn).named d
        · rw [Int.toNat_natCast, g1, (Tr.adN_last _ _ _).2]
      · refine .inl (.inr ⟨en, .inr ⟨?_, rfl, rfl⟩⟩)
        rw [Int.toNat_natCast, g1, fn]
        exact Tr.plc_other K gone (Ne.symm d)
    · refine .inl (.inr ⟨en, .inr ⟨?_, rfl, rfl⟩⟩)
      rw [Int.toNat_natCast, g2 n c nk, fn]
      exact gone
end Go.Proofs.YthdadmbpnoofoaaGreatDoor
/- TopMove: two trees are planted; acts are done. -/
namespace Go.Proofs.YthdadmbpnoofoaaGreatDoor
open Go.RowKit
open Tr (Fo Nd)

/-- The forest, behind all that was there before. -/
def TM (w W : World) (b : Nat) (F : Fo) : Prop := Below w.heap.size w W ∧ FAt W b F ∧ Tr.Ok F ∧ w.heap.size ≤ b
theorem TM.step {w W W' : World} {b : Nat} {F G : Fo} (h : TM w W b F) (h1 : FAt W' b G) (h2 : Frm b W W') (h3 : Tr.Ok G) : TM w W' b G := ⟨h2.below h.1 h.2.2.2 h.1.size, h1, h3, h.2.2.2⟩
theorem TM.below {w W W' : World} {b : Nat} {F : Fo} (h : TM w W b F) (h1 : Below W.heap.size W W') : TM w W' b F := ⟨h.1.trans (h1.mono h.1.size), h.2.1.below h1, h.2.2.1, h.2.2.2⟩
theorem TM.links {w W : World} {b : Nat} {F : Fo} (h : TM w W b F) : ∀ n, n < 40 → (F.nd n).kind ≠ 0 → (F.nd n).links < 2 ^ 60 := fun n hn k0 => by
  have := h.2.2.1.links_lt n hn k0
  omega
def Tr.g1 : Fo := Tr.plaF Tr.f0 0
def Tr.g2 : Fo := Tr.plaF Tr.g1 1
theorem Tr.free_g1 : Tr.FreeTo Tr.g1 1 0 := by
  refine .inl ⟨rfl, by omega, rfl, fun m hm => ?_⟩
  obtain rfl : m = 0 := by omega
  decide
theorem Tr.pla_first {T : Nat} {E : Int} {G : Fo} (h : Tr.PlaTo Tr.f0 T E G) : T = 0 ∧ E = 0 ∧ G = Tr.g1 := by
  have f : Tr.FreeTo Tr.f0 0 0 := .inl ⟨rfl, by omega, rfl, fun m hm => by omega⟩
  rcases h with ⟨a, _⟩ | ⟨_, n, e, hf, hm⟩
  · exact absurd a (by decide)
  · obtain ⟨rfl, rfl⟩ := hf.unique f
    rcases hm with ⟨a, _⟩ | ⟨_, b, c, d⟩
    · exact absurd rfl a
    · exact ⟨b, c, d⟩
theorem Tr.pla_second {T : Nat} {E : Int} {G : Fo} (h : Tr.PlaTo Tr.g1 T E G) : T = 1 ∧ E = 0 ∧ G = Tr.g2 := by
  have f := Tr.free_g1
  rcases h with ⟨a, _⟩ | ⟨_, n, e, hf, hm⟩
  · exact absurd a (by decide)
  · obtain ⟨rfl, rfl⟩ := hf.unique f
    rcases hm with ⟨a, _⟩ | ⟨_, b, c, d⟩
    · exact absurd rfl a
    · exact ⟨b, c, d⟩
theorem Tr.ok_g1 : Tr.Ok Tr.g1 := Tr.ok0.pla (T := 0) (E := 0) (.inr ⟨by decide, 0, 0, .inl ⟨rfl, by omega, rfl, fun m hm => by omega⟩, .inr ⟨rfl, rfl, rfl, rfl⟩⟩)
theorem Tr.ok_g2 : Tr.Ok Tr.g2 := Tr.ok_g1.pla (T := 1) (E := 0) (.inr ⟨by decide, 1, 0, Tr.free_g1, .inr ⟨rfl, rfl, rfl, rfl⟩⟩)
theorem Tr.cnt_g2 : Tr.cntN Tr.g2 40 = 2 := by decide +kernel
end Go.Proofs.YthdadmbpnoofoaaGreatDoor
/- Texts that are read later on; what a node's own is behind a move. -/
namespace Go.Proofs.YthdadmbpnoofoaaGreatDoor
open Go.RowKit
open Tr (Fo Nd)

/-- The texts of L lie in a block that is not b. -/
def TL (b : Nat) (L : List ByteArray) (v : Value) (W : World) : Prop := ∃ a c, v = .slice a L.length c ∧ (0 < L.length → ∃ g, a = some ⟨g, 0, none⟩ ∧ g ≠ b ∧ g < W.heap.size ∧ ∀ i, i < L.length → W.cell? ⟨g, i, none⟩ = some (.string (L.getD i ⟨#[]⟩)))
theorem TL.frm {b : Nat} {L : List ByteArray} {v : Value} {W W' : World} (h : TL b L v W) (f : Frm b W W') : TL b L v W' := by
  obtain ⟨a, c, e, k⟩ := h
  refine ⟨a, c, e, fun hl => ?_⟩
  obtain ⟨g, e1, e2, e3, e4⟩ := k hl
  exact ⟨g, e1, e2, Nat.lt_of_lt_of_le e3 f.size, fun i hi => (World.cell?_of_block (f.block g e3 e2)).trans (e4 i hi)⟩
theorem TL.below {b : Nat} {L : List ByteArray} {v : Value} {W W' : World} (h : TL b L v W) (f : Below W.heap.size W W') : TL b L v W' := h.frm (Frm.of_below f)
theorem SO.tl {u W : World} {L : List ByteArray} {v : Value} (h : SO u L v W) {b : Nat} (hb : b < u.heap.size) : TL b L v W := by
  by_cases hl : 0 < L.length
  · have ho := h.own
    obtain ⟨gg, cap, hv, hgb, hg⟩ := ho.form hl
    refine ⟨_, cap, hv, fun _ => ⟨gg, rfl, by omega, hg, fun i hi => ?_⟩⟩
    rw [hv] at ho
    rw [ho.cellAt i (by omega)]
    simp [stC, hi]
  · obtain ⟨a, c, e⟩ := h.form
    exact ⟨a, c, e, fun h => absurd h hl⟩
theorem sameT_tl {b1 b2 : Nat} {L : List ByteArray} {v1 v2 : Value} {w : World} (h1 : TL b1 L v1 w) (h2 : TL b2 L v2 w) (hL : L.length < 1000000) :
    Calls Tryz.prog 61 #[v1, v2] w fun e w' => e = .returned (.bool true) ∧ ∃ k, w' = w.drewN k := by
  obtain ⟨a1, c1, e1, k1⟩ := h1
  obtain ⟨a2, c2, e2, k2⟩ := h2
  rw [e1, e2]
  by_cases hl : L.length = 0
  · rw [hl]
    exact sameT_none a1 a2 c1 c2 w
  · obtain ⟨g1, e1, _, _, k1⟩ := k1 (by omega)
    obtain ⟨g2, e2, _, _, k2⟩ := k2 (by omega)
    rw [e1, e2]
    exact sameT_some g1 g2 L.length c1 c2 (fun i => L.getD i ⟨#[]⟩) hL w k1 k2
theorem Tr.lisL_len {F : Fo} (h : Tr.SzOk F) (z : Int) : (Tr.lisL F z).length ≤ 8 := by
  unfold Tr.lisL
  by_cases c : Tr.isE F z 2 = 0
  · rw [if_pos c, srtS_len, Tr.nmK_len]
    obtain ⟨n, rfl, n40, _, k2⟩ := Tr.isE_ok c
    rw [Int.toNat_natCast]
    exact h n n40 k2
  · rw [if_neg c]; exact Nat.zero_le _
/-- What is in a node is the same, wherever it is. -/
theorem Tr.own_same {F G : Fo} {K u : Nat} (kk : ∀ x, (G.nd x).kind = (F.nd x).kind) (hu : G.nd K = { F.nd K with up := u }) (a m : Int) :
    Tr.lisL G (K : Int) = Tr.lisL F (K : Int) ∧ Tr.reaS G (K : Int) a m = Tr.reaS F (K : Int) a m ∧ ofA G (K : Int) = ofA F (K : Int) := by
  have e2 := Tr.isE_congr kk (K : Int) 2
  have e1 := Tr.isE_congr kk (K : Int) 1
  have e0 : Tr.nodeE G (K : Int) = Tr.nodeE F (K : Int) := by unfold Tr.nodeE; rw [kk]
  refine ⟨?_, ?_, ?_⟩
  · unfold Tr.lisL
    rw [e2, Int.toNat_natCast, hu]
    rfl
  · unfold Tr.reaS Tr.reaE
    rw [e1, Int.toNat_natCast, hu]
  · unfold ofA
    rw [e0, Int.toNat_natCast, hu]
theorem ofA_four (F : Fo) (z : Int) : ∃ p q r s : Int, ofA F z = #[.int .i64 p, .int .i64 q, .int .i64 r, .int .i64 s] := by
  unfold ofA
  split
  · exact ⟨_, _, _, _, rfl⟩
  · exact ⟨_, _, _, _, rfl⟩
theorem Tr.mov_fails {F : Fo} {z y E e : Int} {s o : ByteArray} {G : Fo} {K : Nat} (hf : Tr.FndTo F z s K e) (he : e ≠ 0) (hm : Tr.MovTo F z s y o E G) : E ≠ 0 ∧ G = F := by
  obtain ⟨K', e', hf', hm⟩ := hm
  obtain ⟨rfl, rfl⟩ := hf.unique hf'
  rcases hm with ⟨a, b, c⟩ | ⟨a, _⟩
  · exact ⟨by rw [b]; exact a, c⟩
  · exact absurd a he
end Go.Proofs.YthdadmbpnoofoaaGreatDoor

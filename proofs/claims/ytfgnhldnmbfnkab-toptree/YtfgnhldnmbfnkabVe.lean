/- Texts that are read later on; what a node's own is behind a move. -/
import Derived.Test.YtfgnhldnmbfnkabVd
namespace Go.Proofs.Ytfgnhldnmbfnkab
open Go.RowKit
open Tr (Fo Nd)

/-- The texts of L lie in a block that is not b. -/
def TL (b : Nat) (L : List ByteArray) (v : Value) (W : World) : Prop := ∃ a c, v = .slice a L.length c ∧ (0 < L.length → ∃ g, a = some ⟨g, 0, none⟩ ∧ g ≠ b ∧ g < W.heap.size ∧ ∀ i, i < L.length → W.cell? ⟨g, i, none⟩ = some (.string (L.getD i ⟨#[]⟩)))
theorem TL.frm {b : Nat} {L : List ByteArray} {v : Value} {W W' : World} (h : TL b L v W) (f : Frm b W W') : TL b L v W' := by
  obtain ⟨a, c, e, k⟩ := h
  refine ⟨a, c, e, fun hl => ?_⟩
  obtain ⟨g, e1, e2, e3, e4⟩ := k hl
  exact ⟨g, e1, e2, Nat.lt_of_lt_of_le e3 f.size, fun i hi => (World.cell?_of_block (f.block g e3 e2)).trans (e4 i hi)⟩
theorem TL.below {b : Nat} {L : List ByteArray} {v : Value} {W W' : World} (h : TL b L v W) (f : Below W.heap.size W W') : TL b L v W' := h.frm (Frm.of_below f)
theorem SO.tl {u W : World} {L : List ByteArray} {v : Value} (h : SO u L v W) {b : Nat} (hb : b < u.heap.size) : TL b L v W := by
  by_cases hl : 0 < L.length
  · have ho := h.own
    obtain ⟨gg, cap, hv, hgb, hg⟩ := ho.form hl
    refine ⟨_, cap, hv, fun _ => ⟨gg, rfl, by omega, hg, fun i hi => ?_⟩⟩
    rw [hv] at ho
    rw [ho.cellAt i (by omega)]
    simp [stC, hi]
  · obtain ⟨a, c, e⟩ := h.form
    exact ⟨a, c, e, fun h => absurd h hl⟩
theorem sameT_tl {b1 b2 : Nat} {L : List ByteArray} {v1 v2 : Value} {w : World} (h1 : TL b1 L v1 w) (h2 : TL b2 L v2 w) (hL : L.length < 1000000) :
    Calls Try.prog 57 #[v1, v2] w fun e w' => e = .returned (.bool true) ∧ ∃ k, w' = w.drewN k := by
  obtain ⟨a1, c1, e1, k1⟩ := h1
  obtain ⟨a2, c2, e2, k2⟩ := h2
  rw [e1, e2]
  by_cases hl : L.length = 0
  · rw [hl]
    exact sameT_none a1 a2 c1 c2 w
  · obtain ⟨g1, e1, _, _, k1⟩ := k1 (by omega)
    obtain ⟨g2, e2, _, _, k2⟩ := k2 (by omega)
    rw [e1, e2]
    exact sameT_some g1 g2 L.length c1 c2 (fun i => L.getD i ⟨#[]⟩) hL w k1 k2
theorem Tr.lisL_len {F : Fo} (h : Tr.SzOk F) (z : Int) : (Tr.lisL F z).length ≤ 8 := by
  unfold Tr.lisL
  by_cases c : Tr.isE F z 2 = 0
  · rw [if_pos c, srtS_len, Tr.nmK_len]
    obtain ⟨n, rfl, n40, _, k2⟩ := Tr.isE_ok c
    rw [Int.toNat_natCast]
    exact h n n40 k2
  · rw [if_neg c]; exact Nat.zero_le _
/-- What is in a node is the same, wherever it is. -/
theorem Tr.own_same {F G : Fo} {K u : Nat} (kk : ∀ x, (G.nd x).kind = (F.nd x).kind) (hu : G.nd K = { F.nd K with up := u }) (a m : Int) :
    Tr.lisL G (K : Int) = Tr.lisL F (K : Int) ∧ Tr.reaS G (K : Int) a m = Tr.reaS F (K : Int) a m ∧ ofA G (K : Int) = ofA F (K : Int) := by
  have e2 := Tr.isE_congr kk (K : Int) 2
  have e1 := Tr.isE_congr kk (K : Int) 1
  have e0 : Tr.nodeE G (K : Int) = Tr.nodeE F (K : Int) := by unfold Tr.nodeE; rw [kk]
  refine ⟨?_, ?_, ?_⟩
  · unfold Tr.lisL
    rw [e2, Int.toNat_natCast, hu]
    rfl
  · unfold Tr.reaS Tr.reaE
    rw [e1, Int.toNat_natCast, hu]
  · unfold ofA
    rw [e0, Int.toNat_natCast, hu]
theorem ofA_four (F : Fo) (z : Int) : ∃ p q r s : Int, ofA F z = #[.int .i64 p, .int .i64 q, .int .i64 r, .int .i64 s] := by
  unfold ofA
  split
  · exact ⟨_, _, _, _, rfl⟩
  · exact ⟨_, _, _, _, rfl⟩
theorem Tr.mov_fails {F : Fo} {z y E e : Int} {s o : ByteArray} {G : Fo} {K : Nat} (hf : Tr.FndTo F z s K e) (he : e ≠ 0) (hm : Tr.MovTo F z s y o E G) : E ≠ 0 ∧ G = F := by
  obtain ⟨K', e', hf', hm⟩ := hm
  obtain ⟨rfl, rfl⟩ := hf.unique hf'
  rcases hm with ⟨a, b, c⟩ | ⟨a, _⟩
  · exact ⟨by rw [b]; exact a, c⟩
  · exact absurd a he
theorem vnumber_err (n : Int) (w : World) : Calls Try.prog 33 #[.iface 128 (.int .i64 n)] w fun e w' => e = .returned (.int .i64 n) ∧ w' = w := by
  have ha := assertE n
  go_enter Try.func33, Try.ntmps33
  go_wp2
  go_ret
  exact ⟨rfl, rfl⟩
end Go.Proofs.Ytfgnhldnmbfnkab

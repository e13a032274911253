import Derived.BigRegion
import Derived.Test.YtghogbngmcolmaaGreatSas
namespace Go.Proofs.YtghogbngmcolmaaGreat.Fa
open Go.RowKit
open Hp (Q)
theorem wp_gen {P : Program} {c : Code} {Q : Exit → Act → World → Prop} {a : Act} {W : World} (F : World → Prop) (h1 : F W) (h2 : ∀ W', F W' → Code.wp P c Q a W') : Code.wp P c Q a W := h2 W h1
theorem cutAt {W : World} {b o m j : Nat} {q : Q} (h : At W b o { q with many := m }) (hM : q.many = m + 1) (hm : m < 64) (hj : j < 64) :
    At ((((W.setCell ⟨b, o + 1 + m, none⟩ (.int .i64 0)).setCell ⟨b, o + 65 + j, none⟩ (.int .i64 0)).setCell ⟨b, o + 129 + j, none⟩ (.int .u64 0)).drew) b o (Hp.cutQ q j) := by
  have h1 := ((h.setHeap m 0 hm).setPlace j 0 hj).setKeys j 0 hj
  have e : Hp.cutQ q j = { many := m, heap := Hp.upd q.heap m 0, place := Hp.upd q.place j 0, keys := Hp.upd q.keys j 0 } := by
    unfold Hp.cutQ; rw [hM]; rfl
  rw [e]
  exact h1
theorem cutOnly (W : World) (b o m j : Nat) (hm : m < 64) (hj : j < 64) : Only b o W ((((W.setCell ⟨b, o + 1 + m, none⟩ (.int .i64 0)).setCell ⟨b, o + 65 + j, none⟩ (.int .i64 0)).setCell ⟨b, o + 129 + j, none⟩ (.int .u64 0)).drew) :=
  (((Only.setCell b o _ _ _ (by omega)).trans (Only.setCell b o _ _ _ (by omega))).trans (Only.setCell b o _ _ _ (by omega))).trans (Only.drew b o _)
theorem cut_in {q q' : Q} {j : Nat} (hs : Hp.Same (Hp.cutQ q j) q') (i : Nat) : 0 < q'.place i ↔ (0 < q.place i ∧ ¬ i = j) := by
  rw [hs.has]
  show 0 < Hp.upd q.place j 0 i ↔ _
  by_cases e : i = j
  · subst e; rw [Hp.upd_same]; simp
  · rw [Hp.upd_ne _ _ _ _ e]; simp [e]
set_option maxHeartbeats 1000000 in
theorem cut_has (b o j : Nat) (q : Q) (w : World) (h : Good w b o q) (hj : j < 64) (hp : 0 < q.place j) :
    Calls Tryz.prog 153 #[.pointer (some ⟨b, o, none⟩), .int .i64 j] w fun e w' => e = .returned (.tuple #[.int .u64 (q.keys j), .nilIface]) ∧ Only b o w w' ∧ ∃ q', Good w' b o q' ∧ q'.many + 1 = q.many ∧ q'.keys = Hp.upd q.keys j 0 ∧ ∀ i, 0 < q'.place i ↔ (0 < q.place i ∧ i ≠ j) := by
  have oj := h.ok.of_ j hj
  have hle := h.ok.le
  obtain ⟨m, hm⟩ : ∃ m, q.many = m + 1 := ⟨q.many - 1, by omega⟩
  obtain ⟨x, hx⟩ : ∃ x, q.place j = x + 1 := ⟨q.place j - 1, by omega⟩
  obtain ⟨t, ht⟩ : ∃ t, q.heap m = t := ⟨_, rfl⟩
  have hxm : x ≤ m := by omega
  have hm64 : m < 64 := by omega
  have ht64 : t < 64 := by rw [← ht]; exact (h.ok.at_ m (by omega)).1
  have cm := h.at_.many
  have cp := h.at_.place j hj
  have cf := h.at_.frozen
  rw [hm] at cm
  rw [hx] at cp
  have H : Hid (Good w b o q) := h
  have HP : Hid (0 < q.place j) := hp
  have HM : Hid (q.many = m + 1) := hm
  have HX : Hid (q.place j = x + 1) := hx
  have HT : Hid (q.heap m = t) := ht
  have hjI : (j : Int) < 64 := by omega
  have hmI : (m : Int) < 64 := by omega
  clear h hp hm hx ht oj hle
  go_enter Tryz.func153, Tryz.ntmps153
  go_wp2_with fail
  refine (key_has b o j q _ H.out.at_ hj HP.out).mono ?_
  rintro e w1 ⟨rfl, rfl⟩
  have FW : Hid (Only b o w1 w1) := Only.refl b o w1
  go_wp2_with fail
  refine wp_gen (fun W => At W b o { q with many := m } ∧ Only b o w1 W) ⟨H.out.at_.setMany m, Only.setCell b o _ _ _ (by omega)⟩ ?_
  rintro W ⟨hA, hO⟩
  have am := hA.many
  have ah := hA.heap m hm64
  have AT : Hid (At W b o { q with many := m }) := hA
  have ON : Hid (Only b o w1 W) := hO
  have ah' : W.cell? ⟨b, o + 1 + m, none⟩ = some (.int .i64 t) := by rw [← HT.out]; exact ah
  have am' : W.cell? ⟨b, o, none⟩ = some (.int .i64 m) := am
  clear hA hO ah am cm cp cf
  go_quiet (fail)
  go_wp2_with fail
  refine wp_gen (fun W2 => At W2 b o { q with many := m } ∧ Only b o w1 W2) ⟨AT.out.drewN nq, ON.out.trans (Only.drewN b o _ _)⟩ ?_
  clear ah' am' AT ON
  rintro W2 ⟨hA, hO⟩
  have am : W2.cell? ⟨b, o, none⟩ = some (.int .i64 m) := hA.many
  have c1 := hA.heap m hm64
  have c2 := hA.place j hj
  have c3 := hA.keys j hj
  have cf := hA.frozen
  have AT : Hid (At W2 b o { q with many := m }) := hA
  have ON : Hid (Only b o w1 W2) := hO
  clear hA hO
  by_cases k : t = j
  · have kb : ((t : Int) != (j : Int)) = false := by simp; omega
    go_region
    go_wp2_with fail
    go_ret2
    have hml : q.many - 1 = m := by rw [HM.out]; rfl
    have cl := Hp.cut_last H.out.ok H.out.full hj HP.out (by rw [hml, HT.out]; exact k)
    exact ⟨rfl, ON.out.trans (cutOnly _ b o m j hm64 hj), _, ⟨cutAt AT.out HM.out hm64 hj, cl.1, cl.2⟩, by show q.many - 1 + 1 = q.many; rw [HM.out]; rfl, rfl, cut_in (Hp.Same.refl _)⟩
  · have kb : ((t : Int) != (j : Int)) = true := by rw [bne_iff_ne]; omega
    go_region
    go_wp2_with fail
    refine (set_any b o x t (Hp.cutQ q j) _ (cutAt AT.out HM.out hm64 hj) (by omega) ht64).mono ?_
    rintro e w2 ⟨rfl, h2, o2⟩
    have hml : Hid (q.many - 1 = m) := by rw [HM.out]; rfl
    have hxl : Hid (q.place j - 1 = x) := by rw [HX.out]; rfl
    have co : Hid (Hp.Okp (Hp.set (Hp.cutQ q j) x t) ∧ Hp.RI x x (Hp.set (Hp.cutQ q j) x t)) := by
      have co := Hp.cut_ok H.out.ok H.out.full hj HP.out (by rw [hml.out, HT.out]; exact k)
      rw [hml.out, hxl.out, HT.out] at co
      exact co
    have H2 : Hid (At w2 b o (Hp.set (Hp.cutQ q j) x t)) := h2
    have O2 : Hid (Only b o w1 w2) := (ON.out.trans (cutOnly _ b o m j hm64 hj)).trans o2
    clear h2 o2 c1 c2 c3 cf am
    go_wp2_with fail
    refine (rise_any b o x _ _ H2.out co.out.1 co.out.2).mono ?_
    rintro e w3 ⟨rfl, o3, q3, h3, k3, s3, d3⟩
    have H3 : Hid (At w3 b o q3 ∧ Hp.Okp q3 ∧ Hp.Same (Hp.set (Hp.cutQ q j) x t) q3 ∧ Hp.DI x q3) := ⟨h3, k3, s3, d3⟩
    have O3 : Hid (Only b o w1 w3) := O2.out.trans o3
    clear h3 k3 s3 d3 o3 O2 H2
    go_wp2_with fail
    refine (sink_any b o x q3 _ H3.out.1 H3.out.2.1 H3.out.2.2.2 (by rw [H3.out.2.2.1.many]; exact co.out.2.lt)).mono ?_
    rintro e w4 ⟨rfl, o4, q4, h4, k4, s4, f4⟩
    have O4 : Hid (Only b o w1 w4) := O3.out.trans o4
    have S4 : Hp.Same (Hp.set (Hp.cutQ q j) x t) q4 := H3.out.2.2.1.trans s4
    have hset : Hp.Same (Hp.cutQ q j) (Hp.set (Hp.cutQ q j) x t) := by
      refine ⟨rfl, rfl, fun i => ?_⟩
      show 0 < Hp.upd (Hp.upd q.place j 0) t (x + 1) i ↔ 0 < Hp.upd q.place j 0 i
      by_cases e : i = t
      · subst e
        rw [Hp.upd_same, Hp.upd_ne _ _ _ _ k]
        have := (H.out.ok.at_ m (by rw [HM.out]; omega)).2
        rw [HT.out] at this
        omega
      · rw [Hp.upd_ne _ _ _ _ e]
    have FIN : Hid (∃ q', Good w4 b o q' ∧ q'.many + 1 = q.many ∧ q'.keys = Hp.upd q.keys j 0 ∧ ∀ i, 0 < q'.place i ↔ (0 < q.place i ∧ ¬ i = j)) :=
      ⟨q4, ⟨h4, k4, f4⟩, by rw [S4.many]; show q.many - 1 + 1 = q.many; rw [HM.out]; rfl, S4.keys, cut_in (hset.trans S4)⟩
    clear h4 k4 s4 f4 S4 hset O3 H3 o4 co
    go_wp2_with fail
    go_ret2
    exact ⟨rfl, O4.out, FIN.out⟩
end Go.Proofs.YtghogbngmcolmaaGreat.Fa

/- TopPath: the walk. -/
import Derived.Test.YtnbgkckogccciaaDoorOa
import Derived.BigQuiet
import Derived.Deep.CutRange
namespace Go.Proofs.YtnbgkckogccciaaDoor
open Go.RowKit
open Tr (Fo Nd)
open Mo (Wh Mt Tb)

/-- What the law has in its hands: a forest and a table. -/
structure PX (w W : World) (f b : Nat) (T : Tb) (v : Value) (F : Fo) : Prop where
  bel : Below w.heap.size w W
  lf : w.heap.size ≤ f
  lt : w.heap.size ≤ b
  fo : FAt W f F
  tb : TAt W w.heap.size b f T v
section
variable {w W W' : World} {f b : Nat} {T T' : Tb} {v v' : Value} {F F' : Fo}
theorem PX.below (h : PX w W f b T v F) (k : Below W.heap.size W W') : PX w W' f b T v F := ⟨h.bel.trans (k.mono h.bel.size), h.lf, h.lt, h.fo.below k, h.tb.below k⟩
theorem PX.forest (h : PX w W f b T v F) (k : FAt W' f F') (kf : Frm f W W') : PX w W' f b T v F' := ⟨kf.below h.bel h.lf h.bel.size, h.lf, h.lt, k, h.tb.ofF h.fo kf⟩
theorem PX.tab (h : PX w W f b T v F) (k : FAt W' f F') (kt : TAt W' w.heap.size b f T' v') (ko : Onl (BV b f v) W W') : PX w W' f b T' v' F' :=
  ⟨ko.behind h.bel (fun n c => by
    rcases c with c | c | c
    · rw [c]; exact h.lt
    · rw [c]; exact h.lf
    · exact (h.tb.row.lt n c).1) h.bel.size, h.lf, h.lt, k, kt⟩
end
namespace Mo
structure PI (F : Fo) (T : Tb) : Prop where
  ok : Tr.Ok F
  hi : HI F (tc T)
  rg : Rg T
  six : T.ms.length ≤ 6
theorem PI.hb {F : Fo} {T : Tb} (h : PI F T) : Tr.Hb F 13 := h.hi.hb (fun n _ => tc_le T h.six n)
theorem PI.mak {F G : Fo} {T : Tb} {z kz E : Int} {s : ByteArray} {K : Nat} (h : PI F T) (hm : Tr.MakTo F z s kz K E G) : PI G T := ⟨h.ok.mak hm, h.hi.mak hm, h.rg, h.six⟩
theorem PI.bin {F : Fo} {T : Tb} (h : PI F T) (x y : Wh) : PI (binF F T x y) (binT F T x y) := by
  unfold binF binT
  by_cases c : binE F T x y = 0
  · rw [if_pos c, if_pos c]
    obtain ⟨c1, c2, c3⟩ := binE_0 c
    refine ⟨(h.ok.hol _).hol _, (hoM_HI h.hi (wroE_0 c1) (wroE_0 c2)).congr (fun n _ => ?_), ⟨h.rg.1, fun m hm => ?_⟩, ?_⟩
    · show _ = oneI T.rt.2 n + mc (T.ms ++ [(x, y)]) n
      rw [mc_app, mc_cons, mc_nil]
      unfold tc
      omega
    · rcases List.mem_append.1 hm with k | k
      · exact h.rg.2 m k
      · rw [List.mem_singleton] at k
        subst k
        exact ⟨nodeE_is (wroE_0 c1), nodeE_is (wroE_0 c2)⟩
    · have := h.six
      show (T.ms ++ [(x, y)]).length ≤ 6
      rw [List.length_append, List.length_singleton]
      omega
  · rw [if_neg c, if_neg c]
    exact h
theorem pi_start : PI (Tr.hol Tr.g2 (0 : Nat)) T0 :=
  ⟨ok_g2.hol (0 : Nat), (hi_g2.hol g2_root.2.2).congr (fun n _ => by
    show 0 + oneI 0 n = oneI 0 n + mc [] n
    rw [mc_nil]; omega), rg0, by decide⟩
theorem lk_none {L : List Mt} {x : Wh} (h : ∀ (y : Nat) (m : Mt), y < L.length → L[y]? = some m → m.1 ≠ x) : lk L x = none := by
  unfold lk
  rw [List.find?_eq_none]
  intro m hm
  obtain ⟨j, hj, e⟩ := List.getElem_of_mem hm
  have := h j m hj (by rw [List.getElem?_eq_getElem hj, e])
  simp [this]
theorem whole_size (p s : ByteArray) : (whole p s).size ≤ p.size + s.size + 1 := by
  unfold whole
  split
  · rw [ByteArray.size_append]; show 1 + s.size ≤ _; omega
  · rw [ByteArray.size_append, ByteArray.size_append]; show p.size + 1 + s.size ≤ _; omega
end Mo
set_option maxRecDepth 100000 in
set_option maxHeartbeats 1000000 in
theorem tph_far (a0 : Option Addr) (n0 c0 : Nat) (p nm : ByteArray) (w : World) (h : 60 < n0) :
    Calls Tryd.prog 3 #[.slice a0 n0 c0, .string p, .string nm] w fun e w' => e = .returned (.bool true) ∧ Below w.heap.size w w' := by
  have d : decide ((n0 : Int) ≤ 60) = false := by simp; omega
  go_enter Tryd.func3, Tryd.ntmps3
  go_wp2_with fail
  refine (tnew_any _).mono ?_
  rintro e W1 ⟨rfl, f1, b1⟩
  have S1 := Hid.intro (And.intro f1 b1)
  clear f1 b1
  go_wp2_with fail
  refine (tplant_any w.heap.size Tr.f0 _ S1.out.1 (by decide)).mono ?_
  rintro e W2 ⟨TT, E, G, rfl, hp, h2, k2⟩
  obtain ⟨rfl, rfl, rfl⟩ := Tr.pla_first hp
  have S2 := Hid.intro (And.intro h2 (k2.below S1.out.2 (Nat.le_refl _) S1.out.2.size))
  clear hp h2 k2 S1
  rw [errV_zero]
  go_wp2_with fail
  refine (tplant_any w.heap.size Tr.g1 _ S2.out.1 (by decide)).mono ?_
  rintro e W3 ⟨TT, E, G, rfl, hp, h3, k3⟩
  obtain ⟨rfl, rfl, rfl⟩ := Tr.pla_second hp
  have S3 := Hid.intro (And.intro h3 (k3.below S2.out.2 (Nat.le_refl _) S2.out.2.size))
  clear hp h3 k3 S2
  rw [errV_zero]
  go_wp2_with fail
  refine (new_yes w.heap.size 0 Tr.g2 0 _ S3.out.1 Mo.g2_root.1 (Mo.hi_g2.hb (fun _ _ => Nat.le_refl _)) (by decide)).mono ?_
  rintro e W4 ⟨b, rfl, lb, t4, f4, k4⟩
  have S4 : Hid (PX w W4 w.heap.size b Mo.T0 (.slice none 0 0) (Tr.hol Tr.g2 (0 : Nat))) := Hid.intro ⟨k4.below S3.out.2 (Nat.le_refl _) S3.out.2.size, Nat.le_refl _, Nat.le_trans S3.out.2.size lb, f4, t4 _⟩
  clear t4 f4 k4 S3 lb
  obtain ⟨f, hf⟩ : ∃ f, w.heap.size = f := ⟨_, rfl⟩
  rw [hf] at S4 ⊢
  have HF := Hid.intro hf
  clear hf
  go_wp2_with fail
  refine (root_any _ b f Mo.T0 _ _ S4.out.tb).mono ?_
  rintro e W5 ⟨rfl, b5⟩
  have S5 := Hid.intro (S4.out.below b5)
  rw [show Mo.T0.rt = (0, 0) from rfl]
  clear b5 S4
  go_wp2_with fail
  refine (light_any _ _ _ _ _).mono ?_
  rintro e W6 ⟨rfl, hW⟩
  subst W6
  rw [d]
  clear d
  go_wp2_with fail
  go_ret
  exact ⟨rfl, by first | exact S5.out.bel | (rw [← HF.out]; exact S5.out.bel)⟩
set_option maxRecDepth 100000 in
set_option maxHeartbeats 8000000 in
theorem tph_near (a0 : Option Addr) (b0 o0 n0 c0 : Nat) (p nm : ByteArray) (ax : Nat → Act8) (w : World) (hn : n0 ≤ 60) (ha : 0 < n0 → a0 = some ⟨b0, o0, none⟩) (hc : ∀ i, i < n0 → ∀ j, j < 8 → w.cell? ⟨b0, o0 + i * 8 + j, none⟩ = some ((ax i).cell j)) :
    Calls Tryd.prog 3 #[.slice a0 n0 c0, .string p, .string nm] w fun e w' => e = .returned (.bool true) ∧ Below w.heap.size w w' := by
  have d : decide ((n0 : Int) ≤ 60) = true := by simp; omega
  have H0 := Hid.intro hc
  have HA := Hid.intro ha
  clear hc ha
  go_enter Tryd.func3, Tryd.ntmps3
  go_wp2_with fail
  refine (tnew_any _).mono ?_
  rintro e W1 ⟨rfl, f1, b1⟩
  have S1 := Hid.intro (And.intro f1 b1)
  clear f1 b1
  go_wp2_with fail
  refine (tplant_any w.heap.size Tr.f0 _ S1.out.1 (by decide)).mono ?_
  rintro e W2 ⟨TT, E, G, rfl, hp, h2, k2⟩
  obtain ⟨rfl, rfl, rfl⟩ := Tr.pla_first hp
  have S2 := Hid.intro (And.intro h2 (k2.below S1.out.2 (Nat.le_refl _) S1.out.2.size))
  clear hp h2 k2 S1
  rw [errV_zero]
  go_wp2_with fail
  refine (tplant_any w.heap.size Tr.g1 _ S2.out.1 (by decide)).mono ?_
  rintro e W3 ⟨TT, E, G, rfl, hp, h3, k3⟩
  obtain ⟨rfl, rfl, rfl⟩ := Tr.pla_second hp
  have S3 := Hid.intro (And.intro h3 (k3.below S2.out.2 (Nat.le_refl _) S2.out.2.size))
  clear hp h3 k3 S2
  rw [errV_zero]
  go_wp2_with fail
  refine (new_yes w.heap.size 0 Tr.g2 0 _ S3.out.1 Mo.g2_root.1 (Mo.hi_g2.hb (fun _ _ => Nat.le_refl _)) (by decide)).mono ?_
  rintro e W4 ⟨b, rfl, lb, t4, f4, k4⟩
  have S4 : Hid (PX w W4 w.heap.size b Mo.T0 (.slice none 0 0) (Tr.hol Tr.g2 (0 : Nat))) := Hid.intro ⟨k4.below S3.out.2 (Nat.le_refl _) S3.out.2.size, Nat.le_refl _, Nat.le_trans S3.out.2.size lb, f4, t4 _⟩
  clear t4 f4 k4 S3 lb
  obtain ⟨f, hf⟩ : ∃ f, w.heap.size = f := ⟨_, rfl⟩
  rw [hf] at S4 ⊢
  have HF := Hid.intro hf
  clear hf
  go_wp2_with fail
  refine (root_any _ b f Mo.T0 _ _ S4.out.tb).mono ?_
  rintro e W5 ⟨rfl, b5⟩
  have S5 := Hid.intro (S4.out.below b5)
  rw [show Mo.T0.rt = (0, 0) from rfl]
  clear b5 S4
  go_wp2_with fail
  refine (light_any _ _ _ _ _).mono ?_
  rintro e W6 ⟨rfl, hW⟩
  subst W6
  rw [d]
  clear d
  go_wp2_with fail
  have HC3 : Hid (∀ i, i < n0 → ∀ j, j < 8 → W5.cell? ⟨b0, o0 + i * 8 + j, none⟩ = some ((ax i).cell j)) := Hid.intro (fun i hi j hj => (S5.out.bel.cell (p := ⟨b0, o0 + i * 8 + j, none⟩) (World.block_lt_of_cell? _ _ (H0.out i hi j hj))).trans (H0.out i hi j hj))
  refine (lightT_any a0 b0 o0 n0 c0 60 ax _ (by omega) HA.out HC3.out).mono ?_
  rintro e W6 ⟨v, rfl, hv, hW⟩
  subst W6
  rcases hv with rfl | ⟨rfl, hlt⟩
  · go_wp2_with fail
    go_ret
    exact ⟨rfl, S5.out.bel⟩
  · have HLT := Hid.intro hlt
    clear hlt HC3
    by_cases z1 : 100 < p.size
    · have z1' : (100 : Int) < (p.size : Int) := by omega
      go_wp2_with fail
      go_ret
      exact ⟨rfl, S5.out.bel⟩
    have z1' : ¬ (100 : Int) < (p.size : Int) := by omega
    by_cases z2 : 100 < nm.size
    · have z2' : (100 : Int) < (nm.size : Int) := by omega
      go_wp2_with fail
      go_ret
      exact ⟨rfl, S5.out.bel⟩
    have z2' : ¬ (100 : Int) < (nm.size : Int) := by omega
    go_wp2_with fail
    go_loopw [14] (fun i wr => ∃ (k : Nat) (T : Tb) (v : Value) (F : Fo), i = .int .i64 k ∧ k ≤ n0 ∧ Hid (PX w wr f b T v F) ∧ Hid (Mo.PI F T)) (fun i _ => n0 - (intOf i).toNat)
    case atStart => exact ⟨0, Mo.T0, _, _, rfl, by omega, S5, Hid.intro Mo.pi_start⟩
    case round =>
      clear S5
      obtain ⟨k, T, v, F, rfl, hk, S, M⟩ := hrel
      by_cases hlt : k < n0
      · as_aux_lemma =>
        have hltI : (k : Int) < (n0 : Int) := by omega
        have hl := HLT.out k hlt
        obtain ⟨kd, P, Q, R, K, On, S1, T1, hax⟩ : ∃ kd A B C K On S1 T1, ax k = ⟨kd, A, B, C, K, On, S1, T1⟩ := ⟨_, _, _, _, _, _, _, _, rfl⟩
        have bl : b0 < w.heap.size := World.block_lt_of_cell? _ _ (H0.out k hlt 0 (by omega))
        have hae := HA.out (by omega)
        subst hae
        have cl : ∀ j, j < 8 → wr.cell? ⟨b0, o0 + k * 8 + j, none⟩ = some ((⟨kd, P, Q, R, K, On, S1, T1⟩ : Act8).cell j) := fun j hj => by
          rw [← hax]; exact (S.out.bel.cell (p := ⟨b0, o0 + k * 8 + j, none⟩) bl).trans (H0.out k hlt j hj)
        have c0' : wr.cell? ⟨b0, o0 + k * 8, none⟩ = some (.string kd) := cl 0 (by omega)
        have c1 : wr.cell? ⟨b0, o0 + k * 8 + 1, none⟩ = some (.int .i64 P) := cl 1 (by omega)
        have c2 : wr.cell? ⟨b0, o0 + k * 8 + 2, none⟩ = some (.int .i64 Q) := cl 2 (by omega)
        have c3 : wr.cell? ⟨b0, o0 + k * 8 + 3, none⟩ = some (.int .i64 R) := cl 3 (by omega)
        have c4 : wr.cell? ⟨b0, o0 + k * 8 + 4, none⟩ = some (.int .u64 K) := cl 4 (by omega)
        have c5 : wr.cell? ⟨b0, o0 + k * 8 + 5, none⟩ = some (.bool On) := cl 5 (by omega)
        have c6 : wr.cell? ⟨b0, o0 + k * 8 + 6, none⟩ = some (.string S1) := cl 6 (by omega)
        have c7 : wr.cell? ⟨b0, o0 + k * 8 + 7, none⟩ = some (.string T1) := cl 7 (by omega)
        clear cl hax bl hl
        go_upto_region 15 with fail
        refine wp_gen (fun W' => PX w W' f b T v F ∧ W'.heap[wr.heap.size]? = some (.cells #[.string kd, .int .i64 P, .int .i64 Q, .int .i64 R, .int .u64 K, .bool On, .string S1, .string T1] 38 (0, 0))) ⟨S.out.below ((Below.refl _ _).alloc (Nat.le_refl _) _), heap_alloc_new wr _⟩ ?_
        rintro W3 ⟨hS3, hbx⟩
        clear c0' c1 c2 c3 c4 c5 c6 c7 S
        have KF : Hid (∀ W', Below W3.heap.size W3 W' → W'.cell? ⟨wr.heap.size, 1, none⟩ = some (.int .i64 P) ∧ W'.cell? ⟨wr.heap.size, 6, none⟩ = some (.string S1) ∧ W'.cell? ⟨wr.heap.size, 7, none⟩ = some (.string T1)) := Hid.intro (fun W' kb => by
          have h := (kb.block _ (Array.getElem?_eq_some_iff.1 hbx).1).trans hbx
          exact ⟨act_cells h 1 _ rfl, act_cells h 6 _ rfl, act_cells h 7 _ rfl⟩)
        generalize wr.heap.size = ba at *
        have S3 := Hid.intro hS3
        have x0 := act_cells hbx 0 _ rfl
        have x1 := act_cells hbx 1 _ rfl
        have x2 := act_cells hbx 2 _ rfl
        have x6 := act_cells hbx 6 _ rfl
        have x7 := act_cells hbx 7 _ rfl
        have SZ := Hid.intro M.out.ok.sz
        clear hS3 hbx
        by_cases k1 : (kd.toList == [109, 97, 107, 101]) = true
        · as_aux_lemma =>
          go_wp2_with fail
          refine (tmake_any f P S1 Q F _ S3.out.fo SZ.out).mono ?_
          rintro e W4 ⟨K4, E4, G4, rfl, m4, f4, k4⟩
          have S4 := Hid.intro (S3.out.forest f4 k4)
          have M4 := Hid.intro (M.out.mak m4)
          clear m4 f4 k4 x0 x1 x2 x6 x7
          go_wp2_with fail
          go_roundw
          case rel => exact ⟨k + 1, _, _, _, by go_num, by omega, S4, M4⟩
          case measure => simp [intOf]; omega
        · have k1' : (kd.toList == [109, 97, 107, 101]) = false := by simpa using k1
          clear k1
          by_cases k3 : (kd.toList == [98, 105, 110, 100]) = true
          · as_aux_lemma =>
            go_wp2_with fail
            refine (raw_any _ b f T v F S1 _ S3.out.tb S3.out.fo SZ.out).mono ?_
            rintro e W4 ⟨x, E, rfl, _, b4⟩
            go_upto_region 20 with fail
            refine wp_gen (fun W' => WB W' W4.heap.size x ∧ Below W3.heap.size W3 W') ⟨heap_alloc_new W4 _, b4.alloc b4.size _⟩ ?_
            rintro W5 ⟨p5, b5⟩
            have S5 := Hid.intro (S3.out.below b5)
            have P5 := Hid.intro p5
            obtain ⟨_, _, z7⟩ := KF.out W5 b5
            clear p5 b4 b5 x0 x1 x2 x6 x7
            generalize W4.heap.size = px at *
            go_wp2_with fail
            refine (walk_any _ b f T v F T1 _ S5.out.tb S5.out.fo SZ.out).mono ?_
            rintro e W6 ⟨y, E2, rfl, _, b6⟩
            go_upto_region 21 with fail
            refine wp_gen (fun W' => WB W' W6.heap.size y ∧ Below W5.heap.size W5 W') ⟨heap_alloc_new W6 _, b6.alloc b6.size _⟩ ?_
            rintro W7 ⟨p7, b7⟩
            have S7 := Hid.intro (S5.out.below b7)
            have P7 : Hid (WB W7 px x ∧ WB W7 W6.heap.size y) := Hid.intro ⟨P5.out.below b7, p7⟩
            clear p7 b6 b7 z7
            generalize W6.heap.size = py at *
            by_cases e1 : E = 0
            · by_cases e2 : E2 = 0
              · subst e1 e2
                rw [errV_zero]
                have q0 := P7.out.1.c0
                have q1 := P7.out.1.c1
                have q2 := P7.out.2.c0
                have q3 := P7.out.2.c1
                go_wp2_with fail
                refine (bind_any w.heap.size b f 13 T v F x y _ S7.out.tb S7.out.fo M.out.hb (by decide) S7.out.bel.size).mono ?_
                rintro e W8 ⟨v8, rfl, t8, f8, o8, _⟩
                have S8 := Hid.intro (S7.out.tab f8 t8 o8)
                have M8 := Hid.intro (M.out.bin x y)
                clear t8 f8 o8 q0 q1 q2 q3
                go_wp2_with fail
                go_roundw
                case rel => exact ⟨k + 1, _, _, _, by go_num, by omega, S8, M8⟩
                case measure => simp [intOf]; omega
              · subst e1
                rw [errV_zero, errV_ne e2]
                go_wp2_with fail
                go_roundw
                case rel => exact ⟨k + 1, _, _, _, by go_num, by omega, S7, M⟩
                case measure => simp [intOf]; omega
            · rw [errV_ne e1]
              go_wp2_with fail
              go_roundw
              case rel => exact ⟨k + 1, _, _, _, by go_num, by omega, S7, M⟩
              case measure => simp [intOf]; omega
          · have k3' : (kd.toList == [98, 105, 110, 100]) = false := by simpa using k3
            clear k3
            as_aux_lemma =>
            go_wp2_with fail
            go_roundw
            case rel => exact ⟨k + 1, _, _, _, by go_num, by omega, S3, M⟩
            case measure => simp [intOf]; omega
      · have hkn : k = n0 := by omega
        subst hkn
        as_aux_lemma =>
        have SZ := Hid.intro M.out.ok.sz
        have SIX := M.out.six
        clear M H0 HA HLT
        go_wp2_with fail
        refine (walk_any _ b f T v F p _ S.out.tb S.out.fo SZ.out).mono ?_
        rintro e W1 ⟨one, E1, rfl, hw1, b1⟩
        have HW1 := Hid.intro hw1
        go_upto_region 24 with fail
        refine wp_gen (fun W' => WB W' W1.heap.size one ∧ Below wr.heap.size wr W') ⟨heap_alloc_new W1 _, b1.alloc b1.size _⟩ ?_
        rintro W2 ⟨p2, b2⟩
        have S2 := Hid.intro (S.out.below b2)
        have P2 := Hid.intro p2
        clear S p2 b1 b2 hw1
        generalize W1.heap.size = po at *
        by_cases e1 : E1 = 0
        case neg =>
          as_aux_lemma =>
          have ho := Mo.lst_err HW1.out e1
          subst ho
          have q0 : W2.cell? ⟨po, 0, none⟩ = some (.int .i64 0) := P2.out.c0
          have q1 : W2.cell? ⟨po, 1, none⟩ = some (.int .i64 0) := P2.out.c1
          rw [errV_ne e1]
          go_wp2_with fail
          go_ret
          exact ⟨rfl, S2.out.bel⟩
        subst e1
        rw [errV_zero]
        go_upto_if 156 with fail
        go_cut [22] from 157 to 158 (fun u wx => u = .string (Mo.whole p nm) ∧ wx = W2)
        case first =>
          go_wp2_with fail
          all_goals
            rename_i kp
            go_meet
            case rel => exact ⟨by
              have e : Mo.whole p nm = if (p.toList == [47]) = true then ⟨#[47]⟩ ++ nm else (p ++ ⟨#[47]⟩) ++ nm := rfl
              rw [e, kp]
              rfl, rfl⟩
        case rest =>
        obtain ⟨rfl, hwc⟩ := hcut
        subst wc
        have qs : (Mo.whole p nm).size ≤ 201 := by have := Mo.whole_size p nm; omega
        have TP : Hid (∀ deep, Mo.WalTo F T (Mo.whole p nm) deep 0 → Tr.nameB nm = true → _) := Hid.intro (fun deep h1 h2 => Mo.top_path HW1.out h1 h2)
        clear HW1
        generalize Mo.whole p nm = q at *
        go_wp2_with fail
        refine (walk_any _ b f T v F q _ S2.out.tb S2.out.fo SZ.out).mono ?_
        rintro e W3 ⟨deep, E2, rfl, hw2, b3⟩
        have HW2 := Hid.intro hw2
        go_upto_region 30 with fail
        refine wp_gen (fun W' => WB W' W3.heap.size deep ∧ Below W2.heap.size W2 W') ⟨heap_alloc_new W3 _, b3.alloc b3.size _⟩ ?_
        rintro W4 ⟨p4, b4⟩
        have S4 := Hid.intro (S2.out.below b4)
        have P4 : Hid (WB W4 po one ∧ WB W4 W3.heap.size deep) := Hid.intro ⟨P2.out.below b4, p4⟩
        clear S2 P2 p4 b3 b4 hw2
        generalize W3.heap.size = pd at *
        by_cases e2 : E2 = 0
        case neg =>
          as_aux_lemma =>
          rw [errV_ne e2]
          go_wp2_with fail
          go_ret
          exact ⟨rfl, S4.out.bel⟩
        subst e2
        rw [errV_zero]
        by_cases nb : Tr.nameB nm = true
        case neg =>
          as_aux_lemma =>
          have nb' : Tr.nameB nm = false := by simpa using nb
          go_wp2_with fail
          refine (tName_any nm _).mono ?_
          rintro e W5 ⟨rfl, hW⟩
          subst W5
          rw [nb']
          go_wp2_with fail
          go_ret
          exact ⟨rfl, S4.out.bel⟩
        obtain ⟨K, las, fnd, raw, dp, bck⟩ := TP.out deep HW2.out nb
        have LAS := Hid.intro las
        have FND := Hid.intro fnd
        have RAW := Hid.intro raw
        have DP := Hid.intro dp
        have BCK := Hid.intro bck
        clear las fnd raw dp bck TP HW2
        go_wp2_with fail
        refine (tName_any nm _).mono ?_
        rintro e W5 ⟨rfl, hW⟩
        subst W5
        rw [nb]
        clear nb
        go_wp2_with fail
        refine (last_any _ b f T v F q _ S4.out.tb S4.out.fo SZ.out).mono ?_
        rintro e W5 ⟨x, t, E, rfl, hl, b5⟩
        obtain ⟨hx, ht, hE⟩ := LAS.out _ _ _ hl
        subst hx ht hE
        rw [errV_zero]
        go_upto_region 33 with fail
        refine wp_gen (fun W' => WB W' W5.heap.size x ∧ Below W4.heap.size W4 W') ⟨heap_alloc_new W5 _, b5.alloc b5.size _⟩ ?_
        rintro W6 ⟨p6, b6⟩
        have S6 := Hid.intro (S4.out.below b6)
        have P6 : Hid (WB W6 po x ∧ WB W6 pd deep) := Hid.intro ⟨P4.out.1.below b6, P4.out.2.below b6⟩
        have q0 := P6.out.1.c0
        have q1 := P6.out.1.c1
        have q2 := p6.c0
        have q3 := p6.c1
        clear S4 P4 p6 b5 b6 hl LAS
        generalize W5.heap.size = pw at *
        go_wp2_with fail
        refine (tfind_any f x.2 t F _ S6.out.fo SZ.out).mono ?_
        rintro e W7 ⟨K', E, rfl, hf, b7⟩
        obtain ⟨hK, hE⟩ := FND.out _ _ hf
        subst hK hE
        rw [errV_zero]
        have S7 := Hid.intro (S6.out.below b7)
        have P7 : Hid (WB W7 po x ∧ WB W7 pd deep) := Hid.intro ⟨P6.out.1.below b7, P6.out.2.below b7⟩
        clear S6 P6 b7 q0 q1 q2 q3 hf FND
        go_wp2_with fail
        refine (raw_any _ b f T v F q _ S7.out.tb S7.out.fo SZ.out).mono ?_
        rintro e W8 ⟨y, E, rfl, hr, b8⟩
        obtain ⟨hy, hE⟩ := RAW.out _ _ hr
        subst hy hE
        rw [errV_zero]
        go_upto_region 37 with fail
        refine wp_gen (fun W' => WB W' W8.heap.size (x.1, (K' : Int)) ∧ Below W7.heap.size W7 W') ⟨heap_alloc_new W8 _, b8.alloc b8.size _⟩ ?_
        rintro W9 ⟨p9, b9⟩
        have S9 := Hid.intro (S7.out.below b9)
        have P9 : Hid (WB W9 po x ∧ WB W9 pd deep ∧ WB W9 W8.heap.size (x.1, (K' : Int))) := Hid.intro ⟨P7.out.1.below b9, P7.out.2.below b9, p9⟩
        have q0 := P9.out.1.c0
        have q1 := P9.out.1.c1
        have q2 : W9.cell? ⟨W8.heap.size, 0, none⟩ = some (.int .i64 x.1) := p9.c0
        have q3 : W9.cell? ⟨W8.heap.size, 1, none⟩ = some (.int .i64 (K' : Int)) := p9.c1
        clear S7 P7 p9 b8 b9 hr RAW
        generalize W8.heap.size = pr at *
        go_wp2_with fail
        refine (mounts_any _ b f T v _ S9.out.tb).mono ?_
        rintro e W10 ⟨v10, rfl, r10, b10⟩
        have S10 := Hid.intro (S9.out.below b10)
        have P10 : Hid (WB W10 po x ∧ WB W10 pd deep ∧ WB W10 pr (x.1, (K' : Int))) := Hid.intro ⟨P9.out.1.below b10, P9.out.2.1.below b10, P9.out.2.2.below b10⟩
        have R10 := Hid.intro r10
        obtain ⟨va, vc, hv⟩ := r10.sl
        subst hv
        obtain ⟨N, hN⟩ : ∃ N, T.ms.length = N := ⟨_, rfl⟩
        have HN := Hid.intro hN
        rw [hN] at R10 SIX ⊢
        clear r10 b10 S9 P9 q0 q1 q2 q3 hN
        go_wp2_with fail
        go_loopw [29, 31] (fun s i wr => ∃ (j : Nat) (u : Bool), s = .bool u ∧ i = .int .i64 j ∧ j ≤ N ∧ Hid (Below W10.heap.size W10 wr) ∧ Hid (u = false → ∀ (y : Nat) (m' : Mt), y < j → T.ms[y]? = some m' → m'.1 ≠ (x.1, (K' : Int)))) (fun _ i _ => N - (intOf i).toNat)
        case atStart => exact ⟨0, false, rfl, rfl, by omega, Below.refl _ _, fun _ y _ hy => by omega⟩
        case round =>
          obtain ⟨j, u, rfl, rfl, hj, BR, NO⟩ := hrel
          rename_i wr2
          by_cases hlt2 : j < N
          · as_aux_lemma =>
            have hltI : (j : Int) < (N : Int) := by omega
            obtain ⟨m, hm⟩ : ∃ m, T.ms[j]? = some m := ⟨T.ms[j]'(by rw [HN.out]; exact hlt2), List.getElem?_eq_getElem _⟩
            obtain ⟨g, cap, hv⟩ : ∃ g cap, Value.slice va N vc = .slice (some ⟨g, 0, none⟩) N cap := by
              rcases R10.out.form with ⟨_, h⟩ | ⟨g, cap, h, _⟩
              · have := HN.out; rw [h] at this; simp at this; omega
              · rw [HN.out] at h; exact ⟨g, cap, h⟩
            cases hv
            have RR := R10.out.below BR.out
            have PR := P10.out.2.2.below BR.out
            have c0 : wr.cell? ⟨g, j * 4, none⟩ = some (.int .i64 m.1.1) := RR.cell j 0 m hm (by omega)
            have c1 : wr.cell? ⟨g, j * 4 + 1, none⟩ = some (.int .i64 m.1.2) := RR.cell j 1 m hm (by omega)
            have c2 : wr.cell? ⟨pr, 0, none⟩ = some (.int .i64 x.1) := PR.c0
            have c3 : wr.cell? ⟨pr, 1, none⟩ = some (.int .i64 (K' : Int)) := PR.c1
            have NX : Hid (∀ u' : Bool, (u' = false → u = false ∧ m.1 ≠ (x.1, (K' : Int))) → u' = false → ∀ (y : Nat) (m' : Mt), y < j + 1 → T.ms[y]? = some m' → m'.1 ≠ (x.1, (K' : Int))) := Hid.intro (fun u' h e y m' hy hm' => by
              by_cases d : y = j
              · subst d
                rw [hm] at hm'
                cases hm'
                exact (h e).2
              · exact NO.out (h e).1 y m' (by omega) hm')
            have BD : Hid (∀ n, Below W10.heap.size W10 (wr.drewN n)) := Hid.intro (fun n => ⟨BR.out.os, BR.out.tape, BR.out.output, BR.out.size, BR.out.block⟩)
            clear RR PR hm NO BR
            cases u
            · by_cases d1 : m.1.1 = x.1
              · by_cases d2 : m.1.2 = (K' : Int)
                · rw [d1] at c0
                  rw [d2] at c1
                  go_wp2_with fail
                  go_quiet (fail)
                  go_wp2_with fail
                  go_roundw
                  case rel => exact ⟨j + 1, true, rfl, by go_num, by omega, Hid.intro (BD.out _), Hid.intro (fun h => by cases h)⟩
                  case measure => simp [intOf]; omega
                · have d2' : (m.1.2 == (K' : Int)) = false := by simpa using d2
                  have ND : Hid (m.1 ≠ (x.1, (K' : Int))) := Hid.intro (fun h => d2 (by rw [h]))
                  rw [d1] at c0
                  clear d1 d2
                  go_wp2_with fail
                  go_quiet (fail)
                  go_wp2_with fail
                  go_roundw
                  case rel => exact ⟨j + 1, false, rfl, by go_num, by omega, Hid.intro (BD.out _), Hid.intro (NX.out false (fun _ => by first | exact ⟨rfl, ND.out⟩ | exact ⟨trivial, ND.out⟩))⟩
                  case measure => simp [intOf]; omega
              · have d1' : (m.1.1 == x.1) = false := by simpa using d1
                have ND : Hid (m.1 ≠ (x.1, (K' : Int))) := Hid.intro (fun h => d1 (by rw [h]))
                clear d1
                go_wp2_with fail
                go_quiet (fail)
                go_wp2_with fail
                go_roundw
                case rel => exact ⟨j + 1, false, rfl, by go_num, by omega, Hid.intro (BD.out _), Hid.intro (NX.out false (fun _ => by first | exact ⟨rfl, ND.out⟩ | exact ⟨trivial, ND.out⟩))⟩
                case measure => simp [intOf]; omega
            · go_wp2_with fail
              go_quiet (fail)
              go_wp2_with fail
              go_roundw
              case rel => exact ⟨j + 1, true, rfl, by go_num, by omega, Hid.intro (BD.out _), Hid.intro (fun h => by cases h)⟩
              case measure => simp [intOf]; omega
          · have hje : j = N := by omega
            subst hje
            as_aux_lemma =>
            have hltI : ¬ (j : Int) < (j : Int) := by omega
            have S11 := Hid.intro (S10.out.below BR.out)
            have P11 : Hid (WB wr po x ∧ WB wr pd deep ∧ WB wr pr (x.1, (K' : Int))) := Hid.intro ⟨P10.out.1.below BR.out, P10.out.2.1.below BR.out, P10.out.2.2.below BR.out⟩
            have DD : Hid (u = false → deep = (x.1, (K' : Int))) := Hid.intro (fun h => by
              rw [DP.out]
              exact Mo.snK_none (Mo.lk_none (fun y m hy hm => NO.out h y m (by rw [← HN.out]; exact hy) hm)))
            clear NO R10 S10 P10 BR DP
            cases u
            case' false =>
              have hd := DD.out rfl
              subst hd
              have q0 : wr.cell? ⟨pd, 0, none⟩ = some (.int .i64 x.1) := P11.out.2.1.c0
              have q1 : wr.cell? ⟨pd, 1, none⟩ = some (.int .i64 (K' : Int)) := P11.out.2.1.c1
              have q2 : wr.cell? ⟨pr, 0, none⟩ = some (.int .i64 x.1) := P11.out.2.2.c0
              have q3 : wr.cell? ⟨pr, 1, none⟩ = some (.int .i64 (K' : Int)) := P11.out.2.2.c1
              go_wp2_with fail
              clear q0 q1 q2 q3
            case' true => go_wp2_with fail
            all_goals
              refine (walk_any _ b f T v F _ _ S11.out.tb S11.out.fo SZ.out).mono ?_
              rintro e W12 ⟨z, E, rfl, hz, b12⟩
              go_upto_region 48 with fail
              refine wp_gen (fun W' => WB W' W12.heap.size z ∧ Below wr.heap.size wr W') ⟨heap_alloc_new W12 _, b12.alloc b12.size _⟩ ?_
              rintro W13 ⟨p13, b13⟩
              have S13 := Hid.intro (S11.out.below b13)
              have P13 : Hid (WB W13 po x ∧ WB W13 W12.heap.size z) := Hid.intro ⟨P11.out.1.below b13, p13⟩
              have BZ := BCK.out _ _ hz
              clear S11 P11 p13 b12 b13 hz
              generalize W12.heap.size = pz at *
              rcases BZ with ⟨e0, hs⟩ | ⟨e0, hz⟩
              · have hs' : (60 : Int) < (q.size : Int) + 3 := by omega
                rw [errV_ne e0]
                go_wp2_with fail
                go_ret
                exact ⟨rfl, S13.out.bel⟩
              · subst e0 hz
                have q0 := P13.out.1.c0
                have q1 := P13.out.1.c1
                have q2 := P13.out.2.c0
                have q3 := P13.out.2.c1
                rw [errV_zero]
                go_wp2_with fail
                go_ret
                exact ⟨rfl, S13.out.bel⟩
theorem tph_any (a0 : Option Addr) (n0 c0 : Nat) (p nm : ByteArray) (w : World) (h : IsActs0 w a0 n0) :
    Calls Tryd.prog 3 #[.slice a0 n0 c0, .string p, .string nm] w fun e w' => e = .returned (.bool true) ∧ Below w.heap.size w w' := by
  by_cases hn : n0 ≤ 60
  · by_cases h0 : 0 < n0
    · obtain ⟨b0, o0, ax, ha, hc⟩ := h.2 h0
      exact tph_near a0 b0 o0 n0 c0 p nm ax w hn (fun _ => ha) hc
    · exact tph_near a0 0 0 n0 c0 p nm (fun _ => ⟨⟨#[]⟩, 0, 0, 0, 0, false, ⟨#[]⟩, ⟨#[]⟩⟩) w hn (fun h => absurd h h0) (fun i hi => absurd hi (by omega))
  · exact tph_far a0 n0 c0 p nm w (by omega)
end Go.Proofs.YtnbgkckogccciaaDoor

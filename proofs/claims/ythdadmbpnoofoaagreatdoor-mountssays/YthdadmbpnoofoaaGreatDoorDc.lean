/- The document's own mounts: Led. -/
import Derived.Test.YthdadmbpnoofoaaGreatDoorDa
import Derived.Test.YthdadmbpnoofoaaGreatDoorDb
namespace Go.Proofs.YthdadmbpnoofoaaGreatDoor
open Go.RowKit
open Tr (Fo Nd)
open Mo (Wh Mt Tb)

theorem Tr.PlcTo.ex (x : Nd) (s : ByteArray) : ∃ z, Tr.PlcTo x s z := by
  have : ∀ n, n ≤ x.size → (∃ i, i < n ∧ (x.nam i).toList = s.toList ∧ ∀ j, j < i → (x.nam j).toList ≠ s.toList) ∨ (∀ j, j < n → (x.nam j).toList ≠ s.toList) := fun n => by
    induction n with
    | zero => exact fun _ => .inr (fun j hj => by omega)
    | succ n ih =>
      intro hn
      rcases ih (by omega) with ⟨i, hi, h1, h2⟩ | h
      · exact .inl ⟨i, by omega, h1, h2⟩
      · by_cases c : (x.nam n).toList = s.toList
        · exact .inl ⟨n, by omega, c, h⟩
        · refine .inr (fun j hj => ?_)
          by_cases d : j = n
          · rw [d]; exact c
          · exact h j (by omega)
  rcases this x.size (Nat.le_refl _) with ⟨i, hi, h1, h2⟩ | h
  · exact ⟨i, .inl ⟨i, rfl, hi, h1, h2⟩⟩
  · exact ⟨-1, .inr ⟨rfl, h⟩⟩
theorem Tr.FndTo.ex (F : Fo) (z : Int) (s : ByteArray) : ∃ (K : Nat) (E : Int), Tr.FndTo F z s K E := by
  by_cases c : Tr.isE F z 2 = 0
  · obtain ⟨y, hy⟩ := Tr.PlcTo.ex (F.nd z.toNat) s
    rcases hy.cases with ⟨i, rfl, _⟩ | rfl
    · exact ⟨_, 0, .inr ⟨c, .inl ⟨i, hy, rfl, rfl⟩⟩⟩
    · exact ⟨0, 2, .inr ⟨c, .inr ⟨hy, rfl, rfl⟩⟩⟩
  · exact ⟨0, _, .inl ⟨c, rfl, rfl⟩⟩
theorem Tr.FndTo.nn {F : Fo} {z : Int} {s : ByteArray} {K : Nat} {E : Int} (h : Tr.FndTo F z s K E) : 0 ≤ E := by
  rcases h with ⟨_, _, e⟩ | ⟨_, ⟨_, _, _, e⟩ | ⟨_, _, e⟩⟩
  · rw [e]; exact Tr.isE_nn F z 2
  · omega
  · omega
namespace Mo
theorem lst_split {W : List Wh} {k : Nat} (h : W.length = k + 1) : W = W.take k ++ [lst W] := by
  have e := lst_at h
  obtain ⟨h1, h2⟩ := List.getElem?_eq_some_iff.1 e
  conv => lhs; rw [← List.take_append_drop k W]
  rw [List.drop_eq_getElem_cons h1, h2, List.drop_of_length_le (by omega)]
theorem bk_one (x : Wh) : bk [x] = [x] := rfl
theorem WayTo.nn {F : Fo} {L : List Mt} : ∀ {l : List ByteArray} {W U : List Wh} {E : Int}, WayTo F L l W U E → 0 ≤ E
  | [], _, _, _, h => by rw [h.2]; exact Int.le_refl _
  | s :: r, W, U, E, h => by
    rcases h with ⟨_, h⟩ | ⟨_, K, e, hf, h⟩
    · exact WayTo.nn h
    · rcases h with ⟨_, _, h⟩ | ⟨_, h⟩
      · rw [h]; exact hf.nn
      · exact WayTo.nn h
end Mo
section
variable {w w' : World} {base c : Nat} {W : List Wh} {v : Value}
theorem WRow.sl (h : WRow w base W v) : ∃ a n, v = .slice a W.length n := by
  rcases h.2 with ⟨e, e2⟩ | ⟨g, cap, _, e, _⟩
  · exact ⟨none, 0, by rw [e, e2]⟩
  · exact ⟨_, cap, e⟩
theorem WRow.frm (h : WRow w base W v) (k : Frm c w w') (hc : c < base) : WRow w' base W v := by
  refine ⟨h.1, ?_⟩
  rcases h.2 with hn | ⟨g, cap, cur, e, hb, hg, h1⟩
  · exact .inl hn
  · exact .inr ⟨g, cap, cur, e, hb, by rw [k.block g (Array.getElem?_eq_some_iff.1 hg).1 (by omega)]; exact hg, h1⟩
theorem WRow.none (w : World) (base : Nat) : WRow w base [] (.slice none 0 0) := ⟨rfl, .inl ⟨rfl, rfl⟩⟩
end
/-- What Led has in its hands. -/
structure LX (w W : World) (rx ax : Nat) (way : List Wh) (vw : Value) (at' : Wh) : Prop where
  row : WRow W (ax + 1) way vw
  rb : WB W rx (0, 0)
  ab : WB W ax at'
  bel : Below rx w W
section
variable {w W W' : World} {rx ax : Nat} {way : List Wh} {vw : Value} {x : Wh}
theorem LX.below (h : LX w W rx ax way vw x) (hs : rx ≤ W.heap.size) (k : Below W.heap.size W W') : LX w W' rx ax way vw x := ⟨h.row.below k, h.rb.below k, h.ab.below k, h.bel.trans (k.mono hs)⟩
theorem LX.drewN (h : LX w W rx ax way vw x) (n : Nat) : LX w (W.drewN n) rx ax way vw x := ⟨h.row, h.rb, h.ab, ⟨h.bel.os, h.bel.tape, h.bel.output, h.bel.size, h.bel.block⟩⟩
theorem LX.set (h : LX w W rx ax way vw x) (hs : rx ≤ W.heap.size) (ra : rx < ax) (y : Wh) : LX w ((W.setCell ⟨ax, 0, none⟩ (.int .i64 y.1)).setCell ⟨ax, 1, none⟩ (.int .i64 y.2)) rx ax way vw y := by
  have k := h.ab.set y
  exact ⟨h.row.frm k.2 (by omega), h.rb.same (k.2.block rx h.rb.lt (by omega)), k.1, k.2.below h.bel (by omega) hs⟩
theorem LX.cut {g cap : Nat} (h : LX w W rx ax way (.slice (some ⟨g, 0, none⟩) way.length cap) x) (n : Nat) (hn : n ≤ way.length) : LX w W rx ax (way.take n) (.slice (some ⟨g, 0, none⟩) n cap) x := ⟨h.row.cut n hn, h.rb, h.ab, h.bel⟩
theorem LX.more (h : LX w W rx ax way vw x) (hs : rx ≤ W.heap.size) (ra : rx < ax) (q : Wh) (N : Nat) (hN : way.length = N) (g2 cap2 : Nat) (W7 : World) (o : Obj) (ho : W7.ownsRow (ax + 1) 56 2 (.slice (some ⟨g2, 0, none⟩) (N + 1) cap2) (N + 1) (Mo.wcs way ++ [.int .i64 q.1, .int .i64 q.2])) (hg : (W.alloc o).grownBy W7 vw.ownBlock) : LX w W7 rx ax (way ++ [q]) (.slice (some ⟨g2, 0, none⟩) (N + 1) cap2) x := by
  have hl : ∀ g, vw.ownBlock = some g → ax + 1 ≤ g := fun g e => (h.row.lt g e).1
  have al := h.ab.lt
  have rl := h.rb.lt
  have bb : Below W.heap.size W (W.alloc o) := (Below.refl _ _).alloc (Nat.le_refl _) _
  have kb : ∀ n, n ≤ ax → W7.heap[n]? = W.heap[n]? := fun n hn => (hg.block n (by simp; omega) (fun e => by have := hl n e.symm; omega)).trans (bb.block n (by omega))
  have aw : Below rx w (W.alloc o) := h.bel.alloc hs _
  refine ⟨?_, h.rb.same (kb rx (by omega)), h.ab.same (kb ax (Nat.le_refl _)), aw.trans ⟨hg.os, hg.tape, hg.output, hg.size, fun n hn => hg.block n (by simp; omega) (fun e => by have := hl n e.symm; omega)⟩⟩
  unfold WRow
  rw [Mo.wcs_app, Mo.wcs_one, List.length_append, List.length_singleton, hN]
  exact ho
end
set_option maxRecDepth 100000 in
set_option maxHeartbeats 4000000 in
theorem rled_any (base b f : Nat) (T : Tb) (v : Value) (B : Bs) (F : Fo) (R : Nat → Tr.RN) (rv vn : Value) (ns : List ByteArray) (w : World) (h : RT w base b f T v) (hF : FR B w f F R rv) (ho : Tr.Ok F) (hn : NS w vn ns) (hl : ns.length ≤ 100) :
    Calls Tryz.prog 91 #[.pointer (some ⟨b, 0, none⟩), vn] w fun e w' => ∃ (W : List Wh) (E : Int), e = .returned (.tuple #[.agg #[.int .i64 (Mo.lst W).1, .int .i64 (Mo.lst W).2], .int .i64 E]) ∧ Mo.WayTo F T.ms ns [Mo.sn T.ms T.rt] W E ∧ Below w.heap.size w w' := by
  have HT := Hid.intro (And.intro h (And.intro hF (And.intro ho hn)))
  obtain ⟨na, nc, hvn, hnc, hx⟩ := hn
  have HX := Hid.intro hx
  subst hvn
  clear h hF ho hx hnc
  obtain ⟨i0, z0, hi0, hz0, hz1, hz2, hz3⟩ := infoWh
  obtain ⟨N, hN⟩ : ∃ N, ns.length = N := ⟨_, rfl⟩
  have HN := Hid.intro hN
  rw [hN] at hl ⊢
  clear hN
  have A1 := Hid.intro (box1 w)
  go_enter Tryz.func91, Tryz.ntmps91
  go_upto_region 1 with fail
  refine wp_gen (fun W' => WB W' w.heap.size (0, 0) ∧ Below w.heap.size w W') A1.out ?_
  rintro W1 h1
  have S1 := Hid.intro h1
  have T1 := Hid.intro (HT.out.1.below h1.2)
  clear h1 A1
  have c1 := T1.out.c1
  have c2 := T1.out.c2
  go_wp2_with fail
  refine (rseen_any base b f T v T.rt _ T1.out).mono ?_
  rintro e W2 ⟨rfl, b2⟩
  have S2 : Hid (WB W2 w.heap.size (0, 0) ∧ Below w.heap.size w W2) := Hid.intro ⟨S1.out.1.below b2, S1.out.2.trans (b2.mono S1.out.2.size)⟩
  clear b2 c1 c2 S1 T1
  obtain ⟨q0, hq0⟩ : ∃ q0, Mo.sn T.ms T.rt = q0 := ⟨_, rfl⟩
  have HQ := Hid.intro hq0
  rw [hq0]
  clear hq0
  go_upto_region 3 with fail
  refine wp_gen (fun W' => LX w W' w.heap.size W2.heap.size [] (.slice none 0 0) q0) (by
    have bb : Below W2.heap.size W2 (W2.alloc (.cells #[.int .i64 q0.1, .int .i64 q0.2] 56)) := (Below.refl _ _).alloc (Nat.le_refl _) _
    exact ⟨WRow.none _ _, S2.out.1.below bb, heap_alloc_new W2 _, S2.out.2.trans (bb.mono S2.out.2.size)⟩) ?_
  rintro W3 h3
  have S3 := Hid.intro h3
  have RA := S2.out.1.lt
  clear h3 S2
  obtain ⟨rx, hrx⟩ : ∃ rx, w.heap.size = rx := ⟨_, rfl⟩
  have HRX := Hid.intro hrx
  have LE : Hid (∀ W, Below rx w W → rx ≤ W.heap.size ∧ RT W base b f T v ∧ FR B W f F R rv ∧ NS W (.slice na N nc) ns) := Hid.intro (fun W h => by
    have e := h.size
    rw [hrx] at e
    subst hrx
    exact ⟨e, HT.out.1.below h, HT.out.2.1.below h, by have := HT.out.2.2.2.below h; rw [HN.out] at this; exact this⟩)
  have OK := Hid.intro HT.out.2.2.1
  rw [hrx] at S3 RA ⊢
  generalize W2.heap.size = ax at *
  clear hrx HT
  go_wp2_with fail
  go_loopw [6, 8, 9, 10, 11] (fun vw i _ _ _ wr => ∃ (j : Nat) (way : List Wh) (y : Wh), i = .int .i64 j ∧ j ≤ N ∧ way.length ≤ j ∧ Hid (LX w wr rx ax way vw y) ∧ Hid (∀ W' E, Mo.WayTo F T.ms (ns.drop j) (way ++ [y]) W' E → Mo.WayTo F T.ms ns [q0] W' E)) (fun _ i _ _ _ _ => N - (intOf i).toNat)
  case atStart => exact ⟨0, [], q0, rfl, by omega, by simp, S3, Hid.intro (fun W' E h => h)⟩
  case round =>
    clear S3
    obtain ⟨j, way, y, rfl, hj, wj, S, WY⟩ := hrel
    have LS := (LE.out _ S.out.bel).1
    obtain ⟨va, vc, hv⟩ := S.out.row.sl
    obtain ⟨M, hM⟩ : ∃ M, way.length = M := ⟨_, rfl⟩
    have HM := Hid.intro hM
    rw [hM] at hv wj
    subst hv
    clear hM
    have M100 : M ≤ 100 := by omega
    by_cases hlt : j < N
    · have hltI : (j : Int) < (N : Int) := by omega
      obtain ⟨s, hsj⟩ : ∃ s, ns[j]? = some s := ⟨ns[j]'(by rw [HN.out]; exact hlt), List.getElem?_eq_getElem _⟩
      have DR : Hid (ns.drop j = s :: ns.drop (j + 1)) := Hid.intro (by
        obtain ⟨h1, h2⟩ := List.getElem?_eq_some_iff.1 hsj
        rw [List.drop_eq_getElem_cons h1, h2])
      obtain ⟨nb, no, hna, hnc⟩ := HX.out (fun e => by rw [e] at hsj; simp at hsj)
      subst hna
      have cs : wr.cell? ⟨nb, no + j, none⟩ = some (.string s) := by
        obtain ⟨_, _, e, _, hx⟩ := (LE.out _ S.out.bel).2.2.2
        obtain ⟨nb', no', e', hc'⟩ := hx (fun e => by rw [e] at hsj; simp at hsj)
        cases e
        cases e'
        exact hc' j s hsj
      clear hsj hnc
      by_cases bkS : (s.toList == [46, 46]) = true
      · as_aux_lemma =>
        by_cases M0 : M = 0
        · subst M0
          have NX : Hid (∀ W' E, Mo.WayTo F T.ms (ns.drop (j + 1)) (way ++ [y]) W' E → Mo.WayTo F T.ms ns [q0] W' E) := Hid.intro (fun W' E h => WY.out W' E (by
            have e := List.eq_nil_of_length_eq_zero HM.out
            rw [DR.out, e]
            rw [e] at h
            exact .inl ⟨bkS, h⟩))
          go_wp2_with fail
          go_roundw
          case rel => exact ⟨j + 1, way, y, by go_num, by omega, by rw [HM.out]; omega, S, NX⟩
          case measure => simp [intOf]; omega
        · obtain ⟨k, hk⟩ : ∃ k, M = k + 1 := ⟨M - 1, by omega⟩
          subst hk
          obtain ⟨g, cap, hv⟩ : ∃ g cap, Value.slice va (k + 1) vc = .slice (some ⟨g, 0, none⟩) (k + 1) cap := by
            obtain ⟨g, cap, e, _⟩ := S.out.row.form (by rw [HM.out]; omega)
            rw [HM.out] at e
            exact ⟨g, cap, e⟩
          cases hv
          have cap1 : k + 1 ≤ vc := by
            obtain ⟨g, cap, e, _, _, h⟩ := S.out.row.form (by rw [HM.out]; omega)
            rw [HM.out] at e h
            cases e
            exact h
          have la := Mo.lst_at HM.out
          obtain ⟨z, hz⟩ : ∃ z, Mo.lst way = z := ⟨_, rfl⟩
          have d0 : wr.cell? ⟨g, k * 2, none⟩ = some (.int .i64 z.1) := by rw [← hz]; exact S.out.row.cell k 0 _ la (by omega)
          have d1 : wr.cell? ⟨g, k * 2 + 1, none⟩ = some (.int .i64 z.2) := by rw [← hz]; exact S.out.row.cell k 1 _ la (by omega)
          have NX : Hid (∀ W' E, Mo.WayTo F T.ms (ns.drop (j + 1)) (way.take k ++ [z]) W' E → Mo.WayTo F T.ms ns [q0] W' E) := Hid.intro (fun W' E h => WY.out W' E (by
            rw [DR.out]
            refine .inl ⟨bkS, ?_⟩
            rw [Mo.bk_app (by rw [HM.out]; omega), Mo.lst_split HM.out, hz]
            exact h))
          have NS2 : Hid (LX w ((wr.setCell ⟨ax, 0, none⟩ (.int .i64 z.1)).setCell ⟨ax, 1, none⟩ (.int .i64 z.2)) rx ax (way.take k) (.slice (some ⟨g, 0, none⟩) k vc) z ∧ (way.take k).length = k) := Hid.intro ⟨by
            have s1 := S.out
            rw [← HM.out] at s1
            exact (s1.cut k (by rw [HM.out]; omega)).set LS RA z, by rw [List.length_take, HM.out]; omega⟩
          have af := S.out.ab.fz
          have a0 := S.out.ab.c0
          have a1 := S.out.ab.c1
          have hw2 : IntKind.i64.wrap (((k + 1 : Nat) : Int) - 1) = (k : Int) := by rw [IntWalk.i64_in _ ⟨by omega, by omega⟩]; omega
          have k2 : (k : Int) ≤ (vc : Int) := by omega
          have k3 : (0 : Int) < ((k + 1 : Nat) : Int) := by omega
          clear la hz M0
          go_wp2_with fail
          go_roundw
          case rel => exact ⟨j + 1, way.take k, z, by go_num, by omega, by rw [NS2.out.2]; omega, Hid.intro NS2.out.1, NX⟩
          case measure => simp [intOf]; omega
      · have bk' : (s.toList == [46, 46]) = false := by simpa using bkS
        clear bkS
        as_aux_lemma =>
        obtain ⟨K, E, hf⟩ := Tr.FndTo.ex F y.2 s
        have e0' := hf.nn
        have HFD := Hid.intro hf
        have RF : Hid (∀ q, Calls Tryz.prog 40 #[.pointer (some ⟨f, 0, none⟩), .int .i64 y.2, .string s] (wr.drewN q) fun e w' => e = .returned (.tuple #[.int .i64 (K : Int), .int .i64 E]) ∧ w' = wr.drewN q) := Hid.intro (fun q => (rfind_any B f F R rv _ y.2 s ((LE.out _ S.out.bel).2.2.1.drewN q) OK.out).mono (fun e w' ⟨K', E', he, hf', hw⟩ => by
          obtain ⟨rfl, rfl⟩ := Tr.FndTo.unique hf' HFD.out
          exact ⟨he, hw⟩))
        have a0 := S.out.ab.c0
        have a1 := S.out.ab.c1
        have af := S.out.ab.fz
        have t0 := (LE.out _ S.out.bel).2.1.c0
        clear hf
        go_wp2_with fail
        go_quiet ((go_at_call 40; exact Calls.quiet_of_same (RF.out _)))
        go_upto_region 12 with fail
        refine wp_gen (fun W' => LX w W' rx ax way (.slice va M vc) y) (S.out.drewN _) ?_
        rintro W4 h4
        have S4 := Hid.intro h4
        clear h4 RF a0 a1 af t0 cs S
        have L4 := (LE.out _ S4.out.bel).1
        by_cases e0 : E = 0
        · subst e0
          have a0 := S4.out.ab.c0
          have a1 := S4.out.ab.c1
          have al := S4.out.ab.lt
          go_wp2_with (at_builtin; refine wpList_append_lies _ rfl _ _ 146 (by rfl) (ax + 1) 56 i0 z0 2 16 Tryz.underlying146 hi0 hz0 hz1 hz2 hz3 (by decide) (.slice va M vc) M (Mo.wcs way) (by rfl) (by have := S4.out.row; unfold WRow at this; rw [HM.out] at this; exact this.alloc _) ⟨W4.heap.size, 0, none⟩ 1 1 [.int .i64 y.1, .int .i64 y.2] (by rfl) rfl (World.news_of_block (heap_alloc_new W4 _)) (by simp [Value.oneCell']) (by decide) (by unfold maxLen; omega) (by omega) (by simp; omega) (W4.heap.size + 1) (by simp) ?_; intro gg cap2 W7 hown hgrow hat hlt2; have Q1 := Hid.intro (S4.out.more L4 RA y M HM.out gg cap2 W7 _ hown hgrow); have b0 := Q1.out.ab.c0; clear hown hgrow hat hlt2)
          refine (rseen_any base b f T v (y.1, (K : Int)) _ (LE.out _ Q1.out.bel).2.1).mono ?_
          rintro e W8 ⟨rfl, b8⟩
          have S8 := Hid.intro (Q1.out.below (LE.out _ Q1.out.bel).1 b8)
          obtain ⟨q, hq⟩ : ∃ q, Mo.sn T.ms (y.1, (K : Int)) = q := ⟨_, rfl⟩
          have NX : Hid (∀ W' E, Mo.WayTo F T.ms (ns.drop (j + 1)) ((way ++ [y]) ++ [q]) W' E → Mo.WayTo F T.ms ns [q0] W' E) := Hid.intro (fun W' E h => WY.out W' E (by
            rw [DR.out]
            refine .inr ⟨bk', K, 0, by rw [Mo.lst_app]; exact HFD.out, .inr ⟨rfl, ?_⟩⟩
            rw [Mo.lst_app, hq]
            exact h))
          rw [hq]
          have S9 := Hid.intro (S8.out.set (LE.out _ S8.out.bel).1 RA q)
          have g0 := S8.out.ab.c0
          have g1 := S8.out.ab.c1
          have gf := S8.out.ab.fz
          clear hq HFD b8 a0 a1 b0 Q1 S4
          go_wp2_with fail
          go_roundw
          case rel => exact ⟨j + 1, way ++ [y], q, by go_num, by omega, by rw [List.length_append, List.length_singleton, HM.out]; omega, S9, NX⟩
          case measure => simp [intOf]; omega
        · have FIN : Hid (Mo.WayTo F T.ms ns [q0] [(0, 0)] E) := Hid.intro (WY.out _ _ (by rw [DR.out]; exact .inr ⟨bk', K, E, by rw [Mo.lst_app]; exact HFD.out, .inl ⟨e0, rfl, rfl⟩⟩))
          have pos : 0 < E := by omega
          have y0 := S4.out.rb.c0
          have y1 := S4.out.rb.c1
          have yf := S4.out.rb.fz
          have RR := Hid.intro (S4.out.rb.fin S4.out.bel HRX.out (0, 0))
          go_wp2_with fail
          generalize hWF : (W4.setCell ⟨rx, 0, none⟩ (.int .i64 0)).setCell ⟨rx, 1, none⟩ (.int .i64 0) = WF at RR ⊢
          have z0 := RR.out.1.c0
          have z1 := RR.out.1.c1
          refine bodyPost_ret (v := .tuple #[.agg #[.int .i64 0, .int .i64 0], .int .i64 E]) (by simp [results, Tryz.f91, go_sem, z0, z1]) rfl ?_
          rw [HRX.out, HQ.out]
          exact ⟨[(0, 0)], E, rfl, FIN.out, RR.out.2⟩
    · have hltI : ¬ (j : Int) < (N : Int) := by omega
      have FIN : Hid (Mo.WayTo F T.ms ns [q0] (way ++ [y]) 0) := Hid.intro (WY.out _ _ (by rw [List.drop_of_length_le (by rw [HN.out]; omega)]; exact ⟨rfl, rfl⟩))
      as_aux_lemma =>
      have a0 := S.out.ab.c0
      have a1 := S.out.ab.c1
      have y0 := S.out.rb.c0
      have y1 := S.out.rb.c1
      have yf := S.out.rb.fz
      have RR := Hid.intro (S.out.rb.fin S.out.bel HRX.out y)
      go_wp2_with fail
      generalize hWF : (wr.setCell ⟨rx, 0, none⟩ (.int .i64 y.1)).setCell ⟨rx, 1, none⟩ (.int .i64 y.2) = WF at RR ⊢
      have z0 := RR.out.1.c0
      have z1 := RR.out.1.c1
      refine bodyPost_ret (v := .tuple #[.agg #[.int .i64 y.1, .int .i64 y.2], .int .i64 0]) (by simp [results, Tryz.f91, go_sem, z0, z1]) rfl ?_
      rw [HRX.out, HQ.out]
      exact ⟨way ++ [y], 0, by rw [Mo.lst_app], FIN.out, RR.out.2⟩
end Go.Proofs.YthdadmbpnoofoaaGreatDoor

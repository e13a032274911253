/- The law TopVm. -/
import Derived.Test.YtnppahmlifnnnabOe
import Derived.Deep.CutRange
import Derived.Deep.CutBlock
import Derived.Deep.DeepCutAuto
namespace Go.Proofs.Ytnppahmlifnnnab
open Go.RowKit
open Bd (P)
open Mv (Me Bk)
theorem vnumber_err (n : Int) (w : World) : Calls Try.prog 33 #[.iface 128 (.int .i64 n)] w fun e w' => e = .returned (.int .i64 n) ∧ w' = w := by
  have ha := assertE n
  go_enter Try.func33, Try.ntmps33
  go_wp2
  go_ret
  exact ⟨rfl, rfl⟩
theorem left_bk0 : Bd.left Mv.bk0.pool = 64 := by decide +kernel
set_option maxRecDepth 100000 in
set_option maxHeartbeats 400000 in
theorem tv_far (a0 : Option Addr) (n0 c0 : Nat) (w : World) (h : 120 < n0) :
    Calls Try.prog 5 #[.slice a0 n0 c0] w fun e w' => e = .returned (.bool true) ∧ Below w.heap.size w w' := by
  have d : decide ((n0 : Int) ≤ 120) = false := by simp; omega
  go_enter Try.func5, Try.ntmps5
  go_wp2_with fail
  refine (vnewBank_any _).mono ?_
  rintro e W1 ⟨r, rfl, f1, b1, _⟩
  have H1 := Hid.intro (And.intro f1 b1)
  clear f1 b1
  go_wp2_with fail
  refine (vleft_any r w.heap.size Mv.bk0 _ H1.out.1 Bd.inv0.1.le).mono ?_
  rintro e W2 ⟨rfl, b2⟩
  have H2 := Hid.intro (H1.out.2.trans (b2.mono H1.out.2.size))
  clear b2
  rw [left_bk0]
  go_wp2_with fail
  refine (light_any _ _ _ _ _).mono ?_
  rintro e W3 ⟨rfl, hW⟩
  subst W3
  rw [d]
  go_wp2
  go_ret
  exact ⟨rfl, H2.out⟩

/-- An act's block lies apart from all that a touch turns. -/
theorem VY.act {w W W' : World} {r q gm cm gf cf N M i ba : Nat} {bs : Nat → Nat} {me : Nat → Me} {k : Bk} {fl : Nat → Nat → Int} {cs : Array Value} (h : VY w W r q gm cm gf cf N M bs me k fl) (hi : i < N) (hb : W.heap[ba]? = some (.cells cs 40 (0, 0))) (t : Thr (bs i) r q W W') : W'.heap[ba]? = some (.cells cs 40 (0, 0)) ∧ W'.heap[gm]? = W.heap[gm]? := by
  obtain ⟨Cr, hr, _⟩ := h.all.bk.blk
  obtain ⟨Cq, hq, _⟩ := CA.blk h.all.bk.pool
  obtain ⟨Cb, hbi, _⟩ := (h.all.mem i hi).1.blk
  have ap := h.apart
  refine ⟨?_, t.block gm h.all.gl (ap.2.2.2.2.2 i hi).1 ap.1 ap.2.1⟩
  rw [t.block ba (Array.getElem?_eq_some_iff.1 hb).1 (blk_ne hb hbi (by decide)) (blk_ne hb hr (by decide)) (blk_ne hb hq (by decide))]
  exact hb
theorem infoPtr : ∃ i, Try.prog.info? 29 = some i ∧ i.zero = some (.pointer none) ∧ i.size = 1 ∧ i.bytes = 8 := by
  have h : (Try.prog.info? 29).map (fun i => (i.zero, i.size, i.bytes)) = some (some (.pointer none), 1, 8) := by kernel_rfl
  cases hi : Try.prog.info? 29 with
  | none => rw [hi] at h; cases h
  | some i =>
    rw [hi] at h
    simp only [Option.map_some, Option.some.injEq, Prod.mk.injEq] at h
    exact ⟨i, rfl, h⟩
theorem infoRow : ∃ i z, Try.prog.info? 64 = some i ∧ i.zero = some z ∧ i.size = 128 ∧ i.bytes = 128 ∧ z.cells.size = 128 := by
  have h := info128
  cases hi : Try.prog.info? 64 with
  | none => rw [hi] at h; cases h
  | some i =>
    rw [hi] at h
    simp only [Option.map_some, Option.some.injEq, Prod.mk.injEq] at h
    obtain ⟨h1, h2, h3⟩ := h
    cases hz : i.zero with
    | none => rw [hz] at h3; cases h3
    | some z =>
      rw [hz] at h3
      simp only [Option.map_some, Option.some.injEq] at h3
      exact ⟨i, z, rfl, hz, h1, h2, h3⟩
theorem VY.range {w W : World} {r q gm cm gf cf N M : Nat} {bs : Nat → Nat} {me : Nat → Me} {k : Bk} {fl : Nat → Nat → Int} (h : VY w W r q gm cm gf cf N M bs me k fl) {i : Nat} (hi : i < M) : W.rangeAt gf (i * 128) (rowF (fl i)) := fun j v hv => by
  have hj : j < 128 := by have := (List.getElem?_eq_some_iff.1 hv).1; rwa [rowF_len] at this
  rw [rowF_at _ j hj] at hv
  rw [h.byte i j hi hj]
  exact hv
theorem rowF_one (f : Nat → Int) : ∀ u ∈ rowF f, u.oneCell' = true := fun u hu => by
  simp only [rowF, List.mem_map] at hu
  obtain ⟨_, _, rfl⟩ := hu
  rfl
theorem zeroF_none (fl : Nat → Nat → Int) (i a : Nat) : Mv.zeroF fl i a a = fl := by
  funext j y
  unfold Mv.zeroF
  rw [if_neg (by omega)]
theorem zeroF_step (fl : Nat → Nat → Int) (i a y : Nat) (h : a ≤ y) : Mv.updF (Mv.zeroF fl i a y) i y 0 = Mv.zeroF fl i a (y + 1) := by
  funext j x
  unfold Mv.updF Mv.zeroF
  by_cases c : j = i ∧ x = y
  · rw [if_pos c, if_pos ⟨c.1, by omega, by omega⟩]
  · rw [if_neg c]
    by_cases d : j = i ∧ a ≤ x ∧ x < y
    · rw [if_pos d, if_pos ⟨d.1, by omega, by omega⟩]
    · rw [if_neg d, if_neg (fun e => by
        by_cases e2 : x = y
        · exact c ⟨e.1, e2⟩
        · exact d ⟨e.1, e.2.1, by omega⟩)]
theorem VY.drewN {w W : World} {r q gm cm gf cf N M : Nat} {bs : Nat → Nat} {me : Nat → Me} {k : Bk} {fl : Nat → Nat → Int} (h : VY w W r q gm cm gf cf N M bs me k fl) (n : Nat) : VY w (W.drewN n) r q gm cm gf cf N M bs me k fl :=
  h.below ⟨rfl, rfl, rfl, Nat.le_refl _, fun _ _ => rfl⟩
theorem TVS.drewN {w W : World} {r q gm cm gf cf N : Nat} {bs : Nat → Nat} {me : Nat → Me} {k : Bk} {fl : Nat → Nat → Int} (h : TVS w W r q gm cm gf cf N bs me k fl) (n : Nat) : TVS w (W.drewN n) r q gm cm gf cf N bs me k fl := ⟨h.1.drewN n, h.2⟩
theorem toNat_mod (K N : Nat) : ((K : Int) % (N : Int)).toNat = K % N := by
  rw [← Int.natCast_emod]; rfl
section
set_option maxRecDepth 100000 in
set_option maxHeartbeats 8000000 in
theorem tv_near (a0 : Option Addr) (n0 c0 : Nat) (w : World) (h0 : IsActs0 w a0 n0) (hn : n0 ≤ 120) :
    Calls Try.prog 5 #[.slice a0 n0 c0] w fun e w' => e = .returned (.bool true) ∧ Below w.heap.size w w' := by
  have d : decide ((n0 : Int) ≤ 120) = true := by simp; omega
  have H0 := Hid.intro h0
  clear h0
  go_enter Try.func5, Try.ntmps5
  go_wp2_with fail
  refine (vnewBank_any _).mono ?_
  rintro e W1 ⟨r, rfl, f1, b1, l1⟩
  have H1 := Hid.intro (And.intro f1 (And.intro b1 l1))
  clear f1 b1 l1
  go_wp2_with fail
  refine (vleft_any r w.heap.size Mv.bk0 _ H1.out.1 Bd.inv0.1.le).mono ?_
  rintro e W2 ⟨rfl, b2⟩
  have H2 : Hid (VAt W2 r w.heap.size Mv.bk0 ∧ Below w.heap.size w W2 ∧ w.heap.size < r) := Hid.intro ⟨H1.out.1.below b2, H1.out.2.1.trans (b2.mono H1.out.2.1.size), H1.out.2.2⟩
  clear b2 H1
  rw [left_bk0]
  go_wp2_with fail
  refine (light_any _ _ _ _ _).mono ?_
  rintro e W3 ⟨rfl, hW⟩
  subst W3
  rw [d]
  clear d
  go_wp2_with fail
  refine (vnew_any r _).mono ?_
  rintro e W3 ⟨rfl, u3, b3⟩
  have S0 : Hid (VY w ((W3.alloc (.cells #[.pointer (some ⟨W2.heap.size, 0, none⟩)] 29)).alloc (.cells (rowF (fun _ => 0)).toArray 64)) r w.heap.size W3.heap.size 1 (W3.heap.size + 1) 1 1 1 (fun _ => W2.heap.size) (fun _ => Mv.me0) Mv.bk0 (fun _ _ => 0)) := Hid.intro (by
    have h := H2.out
    have hr := h.1.lt
    have hq := h.1.ltq
    exact VY.start (h.1.below b3) u3 (h.2.1.trans (b3.mono h.2.1.size)) (by omega) (Nat.le_refl _) h.2.1.size (by omega) (by omega))
  clear u3 b3 H2
  obtain ⟨A0, hA0⟩ : ∃ A, (rowF (fun _ => 0)).toArray = A := ⟨_, rfl⟩
  have hsA : Hid (A0.size = 128) := Hid.intro (by rw [← hA0]; simp [rowF])
  rw [hA0] at S0
  go_upto_region 8 with (first | (refine wpList_build128 rfl rfl ?_; rw [hA0]) | (refine wpList_bs128 rfl _ A0 rfl rfl hsA.out ?_))
  have HT : Hid (Mv.Wld Mv.bk0 1 (fun _ => Mv.me0) ∧ Mv.Flt Mv.bk0 1 (fun _ => Mv.me0) (fun _ _ => 0)) := Hid.intro ⟨Mv.wld0, Mv.flt0⟩
  refine wp_gen (fun W => TVS w W r w.heap.size W3.heap.size 1 (W3.heap.size + 1) 1 1 (fun _ => W2.heap.size) (fun _ => Mv.me0) Mv.bk0 (fun _ _ => 0)) ⟨S0.out, HT.out.1, HT.out.2, Nat.one_pos⟩ ?_
  intro W4 h4
  have S4 := Hid.intro h4
  clear h4 S0 HT hA0 hsA
  generalize W3.heap.size = g3 at *
  generalize W2.heap.size = b2 at *
  obtain ⟨q, hq⟩ : ∃ q, w.heap.size = q := ⟨_, rfl⟩
  rw [hq] at S4
  clear hq
  go_wp2_with fail
  go_loopw [4, 5, 6] (fun ms fl i wr => ∃ (j N gm cm gf cf : Nat) (bs : Nat → Nat) (me : Nat → Me) (k : Bk) (f : Nat → Nat → Int), ms = .slice (some ⟨gm, 0, none⟩) N cm ∧ fl = .slice (some ⟨gf, 0, none⟩) N cf ∧ i = .int .i64 j ∧ j ≤ n0 ∧ Hid (TVS w wr r q gm cm gf cf N bs me k f)) (fun _ _ i _ => n0 - (intOf i).toNat)
  case atStart => exact ⟨0, 1, _, _, _, _, _, _, _, _, rfl, rfl, rfl, by omega, S4⟩
  case round =>
    clear S4
    obtain ⟨j, N, gm, cm, gf, cf, bs, me, k, f, rfl, rfl, rfl, hj, S⟩ := hrel
    have N8 := S.out.2.1.n8
    have N1 := S.out.2.2.2
    by_cases hlt : j < n0
    · have hltI : (j : Int) < (n0 : Int) := by omega
      obtain ⟨b0, o0, ax, ha, hc⟩ := H0.out.2 (by omega)
      subst ha
      obtain ⟨kd, A, B, C, K, On, S1, T1, hax⟩ : ∃ kd A B C K On S1 T1, ax j = ⟨kd, A, B, C, K, On, S1, T1⟩ := ⟨_, _, _, _, _, _, _, _, rfl⟩
      have bl : b0 < w.heap.size := World.block_lt_of_cell? _ _ (hc j hlt 0 (by omega))
      have cl : ∀ i, i < 8 → wr.cell? ⟨b0, o0 + j * 8 + i, none⟩ = some ((⟨kd, A, B, C, K, On, S1, T1⟩ : Act8).cell i) := fun i hi => by
        rw [← hax]; exact (S.out.1.bel.cell (p := ⟨b0, o0 + j * 8 + i, none⟩) bl).trans (hc j hlt i hi)
      have c0' : wr.cell? ⟨b0, o0 + j * 8, none⟩ = some (.string kd) := cl 0 (by omega)
      have c1 : wr.cell? ⟨b0, o0 + j * 8 + 1, none⟩ = some (.int .i64 A) := cl 1 (by omega)
      have c2 : wr.cell? ⟨b0, o0 + j * 8 + 2, none⟩ = some (.int .i64 B) := cl 2 (by omega)
      have c3 : wr.cell? ⟨b0, o0 + j * 8 + 3, none⟩ = some (.int .i64 C) := cl 3 (by omega)
      have c4 : wr.cell? ⟨b0, o0 + j * 8 + 4, none⟩ = some (.int .u64 K) := cl 4 (by omega)
      have c5 : wr.cell? ⟨b0, o0 + j * 8 + 5, none⟩ = some (.bool On) := cl 5 (by omega)
      have c6 : wr.cell? ⟨b0, o0 + j * 8 + 6, none⟩ = some (.string S1) := cl 6 (by omega)
      have c7 : wr.cell? ⟨b0, o0 + j * 8 + 7, none⟩ = some (.string T1) := cl 7 (by omega)
      clear cl hax bl hc
      go_upto_region 12 with fail
      refine wp_gen (fun W' => TVS w W' r q gm cm gf cf N bs me k f ∧ W'.heap[wr.heap.size]? = some (.cells #[.string kd, .int .i64 A, .int .i64 B, .int .i64 C, .int .u64 K, .bool On, .string S1, .string T1] 40 (0, 0))) ⟨S.out.below ((Below.refl _ _).alloc (Nat.le_refl _) _), heap_alloc_new wr _⟩ ?_
      rintro W3 ⟨hS3, hbx⟩
      clear c0' c1 c2 c3 c4 c5 c6 c7 S
      generalize wr.heap.size = ba at *
      have S3 := Hid.intro hS3
      have HBA := Hid.intro hbx
      have x0 := act_cells hbx 0 _ rfl
      have x1 := act_cells hbx 1 _ rfl
      have x2 := act_cells hbx 2 _ rfl
      have x3 := act_cells hbx 3 _ rfl
      have x4 := act_cells hbx 4 _ rfl
      have x5 := act_cells hbx 5 _ rfl
      clear hS3 hbx
      obtain ⟨i, hi⟩ : ∃ i, K % N = i := ⟨_, rfl⟩
      have hiN : i < N := by rw [← hi]; exact Nat.mod_lt _ N1
      have hkw : wrap64 ((K : Int) % (N : Int)) = (i : Int) := by
        rw [show ((K : Int) % (N : Int)) = (i : Int) by rw [← hi, Int.natCast_emod]]
        unfold wrap64; omega
      have hiI : (i : Int) < (N : Int) := by omega
      clear hi
      go_upto_region 13 with fail
      rw [hkw]
      clear hkw
      have p0 := S3.out.1.cell i hiN
      have KA : Hid (∀ W', Thr (bs i) r q W3 W' → W'.cell? ⟨gm, i, none⟩ = some (.pointer (some ⟨bs i, 0, none⟩)) ∧ W'.cell? ⟨ba, 1, none⟩ = some (.int .i64 A) ∧ W'.cell? ⟨ba, 2, none⟩ = some (.int .i64 B) ∧ W'.cell? ⟨ba, 3, none⟩ = some (.int .i64 C) ∧ W'.cell? ⟨ba, 5, none⟩ = some (.bool On)) := Hid.intro (fun W' t => by
        have e := S3.out.1.act hiN HBA.out t
        exact ⟨(World.cell?_of_block e.2).trans (S3.out.1.cell i hiN), act_cells e.1 1 _ rfl, act_cells e.1 2 _ rfl, act_cells e.1 3 _ rfl, act_cells e.1 5 _ rfl⟩)
      have K0 : Hid (W3.cell? ⟨gm, i, none⟩ = some (.pointer (some ⟨bs i, 0, none⟩)) ∧ W3.cell? ⟨ba, 1, none⟩ = some (.int .i64 A) ∧ W3.cell? ⟨ba, 2, none⟩ = some (.int .i64 B) ∧ W3.cell? ⟨ba, 3, none⟩ = some (.int .i64 C) ∧ W3.cell? ⟨ba, 5, none⟩ = some (.bool On)) := Hid.intro (KA.out W3 (Thr.refl _ _ _ _))
      go_upto_block 2 with fail
      go_cut [4, 5, 9, 10, 11, 12, 13, 14, 15, 16] from 39 to 238 (fun ms fl _ _ _ _ _ _ _ _ wc => ∃ (N gm cm gf cf : Nat) (bs : Nat → Nat) (me : Nat → Me) (k : Bk) (f : Nat → Nat → Int), ms = .slice (some ⟨gm, 0, none⟩) N cm ∧ fl = .slice (some ⟨gf, 0, none⟩) N cf ∧ Hid (TVS w wc r q gm cm gf cf N bs me k f))
      case first =>
        by_cases k1 : (kd.toList == [102, 111, 114, 107]) = true
        · as_aux_lemma =>
          by_cases n8 : N < 8
          · have n8I : (N : Int) < 8 := by omega
            obtain ⟨i0, hi0, hz0, hz1, hz2⟩ := infoPtr
            obtain ⟨i1, z1, hi1, hy0, hy1, hy2, hy3⟩ := infoRow
            go_wp2_with fail
            refine (vfork_any (bs i) r q (me i) k _ (S3.out.1.ub hiN) (S3.out.2.1.le i hiN) (fun g hg => by have := S3.out.2.1.refl g hg; omega)).mono ?_
            rintro e w4 ⟨rfl, u4, ub4, F4⟩
            have Y4 := Hid.intro (S3.out.1.forked hiN ub4 F4)
            have N4 : Hid (UAt w4 W3.heap.size r (me i) ∧ (∀ j, j < N → bs j ≠ W3.heap.size) ∧ w.heap.size ≤ W3.heap.size) := Hid.intro ⟨u4, fun j hj => by have := (S3.out.1.all.mem j hj).1.lt; omega, S3.out.1.bel.size⟩
            have M4 : Hid (Mv.Wld (Mv.foK (me i) k 16) (N + 1) (Mv.setP me N (me i)) ∧ Mv.Flt (Mv.foK (me i) k 16) (N + 1) (Mv.setP me N (me i)) (addF f N i)) := Hid.intro ⟨S3.out.2.1.fork hiN n8, S3.out.2.2.1.fork hiN⟩
            clear u4 ub4 F4 x0 x1 x2 x3 x4 x5 p0 K0 KA HBA S3
            generalize W3.heap.size = nb at *
            go_upto_region 26 with (at_builtin; refine wpList_append_lies _ rfl _ _ 31 (by rfl) w.heap.size 29 i0 (.pointer none) 1 8 Try.underlying31 hi0 hz0 hz1 hz2 rfl (by decide) (.slice (some ⟨gm, 0, none⟩) N cm) N (ptrs bs N) (by rfl) (Y4.out.own.alloc _) ⟨w4.heap.size, 0, none⟩ 1 1 [.pointer (some ⟨nb, 0, none⟩)] (by rfl) rfl (cell_one_new _ _ _) (by simp [Value.oneCell']) (by decide) (by unfold maxLen; omega) (by omega) (by have := Y4.out.bel.size; simp; omega) (w4.heap.size + 1) (by simp) ?_; intro gg cap2 w5 hown hgrow hat hlt2; have Y5 := Hid.intro (Y4.out.more N4.out.1 N4.out.2.1 N4.out.2.2 _ hown hgrow); clear hown hgrow hat hlt2)
            have RG := Hid.intro (Y5.out.range hiN)
            have hsr : Hid ((Try.prog.info? 64).map (·.size) = some (rowF (f i)).length) := Hid.intro (by rw [rowF_len]; kernel_rfl)
            have hsa : Hid ((rowF (f i)).toArray.size = 128) := Hid.intro (by simp [rowF])
            have NB : Hid (∀ j u, (rowF (f i))[j]? = some u → (w5.alloc (.cells (rowF (f i)).toArray 64)).cell? ((⟨w5.heap.size, 0, none⟩ : Addr).add j) = some u) := Hid.intro (fun j u hu => World.news_of_block (heap_alloc_new w5 _) j u (by simpa using hu))
            have h1r := Hid.intro (rowF_one (f i))
            have hlr := Hid.intro (rowF_len (f i))
            obtain ⟨A1, hA1⟩ : ∃ A1, rowF (f i) = A1 := ⟨_, rfl⟩
            have MO : Hid (∀ (o : Obj) (gg2 cap3 : Nat) (W6 : World), W6.ownsRow w.heap.size 64 128 (.slice (some ⟨gg2, 0, none⟩) (N + 1) cap3) (N + 1) (flats f N ++ A1) → (w5.alloc o).grownBy W6 (some gf) → VY w W6 r q gg cap2 gg2 cap3 (N + 1) (N + 1) (addB bs N nb) (Mv.setP me N (me i)) (Mv.foK (me i) k 16) (addF f N i)) := Hid.intro (fun o gg2 cap3 W6 ho hg => by
              rw [← hA1] at ho
              exact Y5.out.more2 o ho hg)
            rw [hA1] at RG hsr hsa NB h1r hlr
            clear hA1
            go_wp2_with (first | (refine wpList_load_mid rfl 64 _ rfl gf (i * 128) (by rfl) A1 _ RG.out Try.underlying64 rfl hsr.out ?_) | (refine wpList_bs128 rfl _ A1.toArray rfl rfl hsa.out ?_) | (at_builtin; refine wpList_append_lies _ rfl _ _ 65 (by rfl) w.heap.size 64 i1 z1 128 128 Try.underlying65 hi1 hy0 hy1 hy2 hy3 (by decide) (.slice (some ⟨gf, 0, none⟩) N cf) N (flats f N) (by rfl) (Y5.out.flat.alloc _) ⟨w5.heap.size, 0, none⟩ 1 1 A1 (by rfl) hlr.out NB.out h1r.out (by decide) (by unfold maxLen; omega) (by omega) (by have := Y5.out.bel.size; simp; omega) (w5.heap.size + 1) (by simp) ?_; intro gg2 cap3 w6 hown hgrow hat hlt2; have Y6 := Hid.intro (MO.out _ gg2 cap3 w6 hown hgrow); clear hown hgrow hat hlt2))
            go_meet
            case rel => exact ⟨_, _, _, _, _, _, _, _, _, rfl, rfl, Y6.out, M4.out.1, M4.out.2, by omega⟩
          · have n8I : ¬ (N : Int) < 8 := by omega
            go_wp2_with fail
            go_meet
            case rel => exact ⟨_, _, _, _, _, _, _, _, _, rfl, rfl, S3⟩
        · have k1' : (kd.toList == [102, 111, 114, 107]) = false := by simpa using k1
          clear k1
          by_cases k2 : (kd.toList == [109, 97, 112]) = true
          · as_aux_lemma =>
            go_wp2_with fail
            go_region_held3 (fun w' => w'.cell? ⟨gm, i, none⟩ = some (.pointer (some ⟨bs i, 0, none⟩)) ∧ w'.cell? ⟨ba, 1, none⟩ = some (.int .i64 A) ∧ w'.cell? ⟨ba, 2, none⟩ = some (.int .i64 B) ∧ w'.cell? ⟨ba, 3, none⟩ = some (.int .i64 C) ∧ w'.cell? ⟨ba, 5, none⟩ = some (.bool On)) (first | exact K0.out | exact K4.out) ((go_at_call 27; refine (vmap_any (bs i) r A B On (me i) _ (S3.out.1.ub hiN).me.drew).mono ?_; rintro e w4 ⟨rfl, u4, F4⟩; have F5 : Frm (bs i) W3 w4 := ⟨F4.os, F4.tape, F4.output, F4.size, F4.block⟩; have H4 : Hid (TVS w w4 r q gm cm gf cf N bs (Mv.setP me i (Mv.mapM (me i) A B On)) k f) := Hid.intro (S3.out.laid hiN u4 F5 (mapM_fr _ _ _ _)); have K4 := Hid.intro (KA.out w4 (Thr.mem F5)); clear u4 F4 F5))
            all_goals
              go_wp2_with fail
              go_meet
              case rel => exact ⟨_, _, _, _, _, _, _, _, _, rfl, rfl, H4⟩
          · have k2' : (kd.toList == [109, 97, 112]) = false := by simpa using k2
            clear k2
            by_cases k3 : (kd.toList == [112, 114, 111, 116, 101, 99, 116]) = true
            · as_aux_lemma =>
              go_wp2_with fail
              go_region_held3 (fun w' => w'.cell? ⟨gm, i, none⟩ = some (.pointer (some ⟨bs i, 0, none⟩)) ∧ w'.cell? ⟨ba, 1, none⟩ = some (.int .i64 A) ∧ w'.cell? ⟨ba, 2, none⟩ = some (.int .i64 B) ∧ w'.cell? ⟨ba, 3, none⟩ = some (.int .i64 C) ∧ w'.cell? ⟨ba, 5, none⟩ = some (.bool On)) (first | exact K0.out | exact K4.out) ((go_at_call 28; refine (vprotect_any (bs i) r A B On (me i) _ (S3.out.1.ub hiN).me.drew).mono ?_; rintro e w4 ⟨rfl, u4, F4⟩; have F5 : Frm (bs i) W3 w4 := ⟨F4.os, F4.tape, F4.output, F4.size, F4.block⟩; have H4 : Hid (TVS w w4 r q gm cm gf cf N bs (Mv.setP me i (Mv.proM (me i) A B On)) k f) := Hid.intro (S3.out.laid hiN u4 F5 (proM_fr _ _ _ _)); have K4 := Hid.intro (KA.out w4 (Thr.mem F5)); clear u4 F4 F5))
              all_goals
                go_wp2_with fail
                go_meet
                case rel => exact ⟨_, _, _, _, _, _, _, _, _, rfl, rfl, H4⟩
            · have k3' : (kd.toList == [112, 114, 111, 116, 101, 99, 116]) = false := by simpa using k3
              clear k3
              by_cases k4 : (kd.toList == [117, 110, 109, 97, 112]) = true
              · as_aux_lemma =>
                go_wp2_with fail
                go_region_held3 (fun w' => w'.cell? ⟨gm, i, none⟩ = some (.pointer (some ⟨bs i, 0, none⟩)) ∧ w'.cell? ⟨ba, 1, none⟩ = some (.int .i64 A) ∧ w'.cell? ⟨ba, 2, none⟩ = some (.int .i64 B) ∧ w'.cell? ⟨ba, 3, none⟩ = some (.int .i64 C) ∧ w'.cell? ⟨ba, 5, none⟩ = some (.bool On)) (first | exact K0.out | exact K4.out) ((go_at_call 29; refine (vunmap_any (bs i) r q A B (me i) k _ (S3.out.1.ub hiN).drew (S3.out.2.1.cnt hiN)).mono ?_; rintro e w4 ⟨rfl, u4, F4⟩; have F5 : Thr (bs i) r q W3 w4 := ⟨F4.os, F4.tape, F4.output, F4.size, F4.block⟩; have Y4 := Hid.intro (S3.out.1.thr hiN u4 F5); have K4 := Hid.intro (KA.out w4 F5); have B4 := Hid.intro (S3.out.1.act hiN HBA.out F5).1; clear u4 F4 F5))
                cases hb : Mv.badB A B
                · obtain ⟨x, c, rfl, rfl, hx16, hc1, hxc⟩ := Mv.bad_no hb
                  have E0 : Hid (Mv.unE (x : Int) (c : Int) = 0) := Hid.intro (by unfold Mv.unE; rw [hb]; rfl)
                  have EM : Hid (Mv.unM (me i) (x : Int) (c : Int) = Mv.umM (me i) x (x + c) ∧ Mv.unK (me i) k (x : Int) (c : Int) = Mv.umK (me i) k x c) := Hid.intro (by
                    unfold Mv.unM Mv.unK
                    rw [hb, Int.toNat_natCast, Int.toNat_natCast]
                    exact ⟨rfl, rfl⟩)
                  have TV : Hid (Mv.Wld (Mv.umK (me i) k x c) N (Mv.setP me i (Mv.umM (me i) x (x + c))) ∧ Mv.Flt (Mv.umK (me i) k x c) N (Mv.setP me i (Mv.umM (me i) x (x + c))) (Mv.zeroF f i (8 * x) (8 * (x + c)))) := Hid.intro ⟨S3.out.2.1.unmap hiN c hxc, S3.out.2.2.1.unmap⟩
                  rw [EM.out.1, EM.out.2] at Y4
                  have L0 : Hid (VY w w4 r q gm cm gf cf N N bs (Mv.setP me i (Mv.umM (me i) x (x + c))) (Mv.umK (me i) k x c) (Mv.zeroF f i (8 * x) (8 * x)) ∧ w4.heap[ba]? = some (.cells #[.string kd, .int .i64 x, .int .i64 c, .int .i64 C, .int .u64 K, .bool On, .string S1, .string T1] 40 (0, 0))) := Hid.intro ⟨by rw [zeroF_none]; exact Y4.out, B4.out⟩
                  rw [E0.out, errV_zero]
                  have y1 := K4.out.2.1
                  clear hb EM E0 S3 Y4 B4 KA K0 x0 x1 x2 x3 x4 x5 p0 HBA K4
                  go_wp2_with fail
                  go_loopw [12] (fun v wr => ∃ (y : Nat), v = .int .i64 y ∧ 8 * x ≤ y ∧ y ≤ 8 * (x + c) ∧ Hid (VY w wr r q gm cm gf cf N N bs (Mv.setP me i (Mv.umM (me i) x (x + c))) (Mv.umK (me i) k x c) (Mv.zeroF f i (8 * x) y) ∧ wr.heap[ba]? = some (.cells #[.string kd, .int .i64 x, .int .i64 c, .int .i64 C, .int .u64 K, .bool On, .string S1, .string T1] 40 (0, 0)))) (fun v _ => 8 * (x + c) - (intOf v).toNat)
                  case atStart => exact ⟨8 * x, congrArg (Value.int .i64) (by omega), by omega, by omega, L0⟩
                  case round =>
                    clear L0 y1
                    obtain ⟨y, rfl, hy1, hy2, S⟩ := hrel
                    have y1 := act_cells S.out.2 1 _ rfl
                    have y2 := act_cells S.out.2 2 _ rfl
                    by_cases hlt2 : y < 8 * (x + c)
                    · have hyI : (y : Int) < 8 * ((x : Int) + (c : Int)) := by omega
                      have hy128 : (y : Int) < 128 := by omega
                      have q0 := S.out.1.byte i y hiN (by omega)
                      have qf := S.out.1.froz
                      have S2 : Hid (VY w (wr.setCell ⟨gf, i * 128 + y, none⟩ (.int .u8 0)) r q gm cm gf cf N N bs (Mv.setP me i (Mv.umM (me i) x (x + c))) (Mv.umK (me i) k x c) (Mv.zeroF f i (8 * x) (y + 1)) ∧ (wr.setCell ⟨gf, i * 128 + y, none⟩ (.int .u8 0)).heap[ba]? = some (.cells #[.string kd, .int .i64 x, .int .i64 c, .int .i64 C, .int .u64 K, .bool On, .string S1, .string T1] 40 (0, 0))) := Hid.intro (by
                        refine ⟨?_, ?_⟩
                        · rw [← zeroF_step f i (8 * x) y hy1]
                          exact S.out.1.put i y 0 hiN (by omega)
                        · obtain ⟨⟨Cf, hf⟩, _⟩ := ownsRow_blk S.out.1.flat
                          rw [setBlk _ _ _ _ (blk_ne S.out.2 hf (by decide))]
                          exact S.out.2)
                      generalize Mv.zeroF f i (8 * x) y i y = fv at *
                      go_wp2_with fail
                      go_roundw
                      case rel => exact ⟨y + 1, by go_num, by omega, by omega, S2⟩
                      case measure => simp [intOf]; omega
                    · have hyI : ¬ (y : Int) < 8 * ((x : Int) + (c : Int)) := by omega
                      have hye : y = 8 * (x + c) := by omega
                      have S2 : Hid (TVS w wr r q gm cm gf cf N bs (Mv.setP me i (Mv.umM (me i) x (x + c))) (Mv.umK (me i) k x c) (Mv.zeroF f i (8 * x) (8 * (x + c)))) := Hid.intro ⟨by rw [← hye]; exact S.out.1, TV.out.1, TV.out.2, N1⟩
                      clear hye
                      go_wp2_with fail
                      go_meet
                      case rel => exact ⟨_, _, _, _, _, _, _, _, _, rfl, rfl, S2⟩
                · have E0 : Hid (Mv.unE A B = 1) := Hid.intro (by unfold Mv.unE; rw [hb]; rfl)
                  have EM : Hid (Mv.unM (me i) A B = me i ∧ Mv.unK (me i) k A B = k) := Hid.intro (by
                    unfold Mv.unM Mv.unK
                    rw [hb]
                    exact ⟨rfl, rfl⟩)
                  rw [EM.out.1, EM.out.2, setP_id] at Y4
                  have S4 : Hid (TVS w w4 r q gm cm gf cf N bs me k f) := Hid.intro ⟨Y4.out, S3.out.2⟩
                  have y1 := K4.out.2.1
                  rw [E0.out, errV_ne (by decide)]
                  clear hb EM E0 S3 Y4 B4 KA K0 x0 x1 x2 x3 x4 x5 p0 HBA K4
                  go_wp2_with fail
                  refine wp_loop_rounds 1 ?_
                  rw [rounds_succ]
                  go_wp2_with fail
                  go_meet
                  case rel => exact ⟨_, _, _, _, _, _, _, _, _, rfl, rfl, S4⟩
              · have k4' : (kd.toList == [117, 110, 109, 97, 112]) = false := by simpa using k4
                clear k4
                by_cases k5 : (kd.toList == [108, 111, 97, 100]) = true
                · as_aux_lemma =>
                  go_wp2_with fail
                  go_region_held3 (fun w' => w'.cell? ⟨gm, i, none⟩ = some (.pointer (some ⟨bs i, 0, none⟩)) ∧ w'.cell? ⟨ba, 1, none⟩ = some (.int .i64 A) ∧ w'.cell? ⟨ba, 2, none⟩ = some (.int .i64 B) ∧ w'.cell? ⟨ba, 3, none⟩ = some (.int .i64 C) ∧ w'.cell? ⟨ba, 5, none⟩ = some (.bool On)) (first | exact K0.out | exact K4.out) ((go_at_call 30; refine (vload_any (bs i) r q A (me i) k _ (S3.out.1.ub hiN).drew (S3.out.2.1.good hiN)).mono ?_; rintro e w4 ⟨E, g, m', k', rfl, t4, u4, F4, hE⟩; obtain ⟨vv, hvv⟩ : ∃ vv, (if E = 0 then k'.byt g (A.toNat % 8) else 0) = vv := ⟨_, rfl⟩; rw [hvv]; have HV := Hid.intro hvv; clear hvv; have F5 : Thr (bs i) r q W3 w4 := ⟨F4.os, F4.tape, F4.output, F4.size, F4.block⟩; have T4 := Hid.intro t4; have S4 := Hid.intro (S3.out.touch hiN t4 u4 F5); have K4 := Hid.intro (KA.out w4 F5); clear t4 u4 F4 F5 hE))
                  rcases TouR_may T4.out with ⟨_, hE⟩ | ⟨_, hE | hE, x, hz, hx⟩
                  · have y1 := K4.out.2.1
                    rw [hE, errV_ne (by decide)]
                    clear hE T4 S3 KA K0 x0 x1 x2 x3 x4 x5 p0 HBA K4
                    go_wp2_with fail
                    go_quiet (fail)
                    go_wp2_with fail
                    go_meet
                    case rel => exact ⟨_, _, _, _, _, _, _, _, _, rfl, rfl, by first | exact S4 | exact S4.out.drewN _⟩
                  · subst hE
                    subst hz
                    have fx := TouR_fr T4.out
                    rw [Int.toNat_natCast] at fx
                    have hv := S4.out.has hiN hx (by rw [Mv.setP_same]; exact fx)
                    have y1 := K4.out.2.1
                    have q0 := S4.out.1.byte i x hiN hx
                    have d0 : decide ((x : Int) < 0) = false := by simp
                    have d1 : decide (127 < (x : Int)) = false := by simp; omega
                    have hxI : (x : Int) < 128 := by omega
                    have ev : vv = f i x := by rw [← HV.out, if_pos rfl, Int.toNat_natCast, hv]
                    rw [errV_zero, ev]
                    clear ev HV
                    generalize f i x = fv at *
                    clear hv fx T4 S3 KA K0 x0 x1 x2 x3 x4 x5 p0 HBA K4
                    go_wp2_with fail
                    go_quiet (fail)
                    go_wp2_with fail
                    go_meet
                    case rel => exact ⟨_, _, _, _, _, _, _, _, _, rfl, rfl, by first | exact S4 | exact S4.out.drewN _⟩
                  · have y1 := K4.out.2.1
                    rw [hE, errV_ne (by decide)]
                    clear hE hz T4 S3 KA K0 x0 x1 x2 x3 x4 x5 p0 HBA K4
                    go_wp2_with fail
                    go_quiet (fail)
                    go_wp2_with fail
                    go_meet
                    case rel => exact ⟨_, _, _, _, _, _, _, _, _, rfl, rfl, by first | exact S4 | exact S4.out.drewN _⟩
                · have k5' : (kd.toList == [108, 111, 97, 100]) = false := by simpa using k5
                  clear k5
                  as_aux_lemma =>
                  go_wp2_with fail
                  go_region_held3 (fun w' => w'.cell? ⟨gm, i, none⟩ = some (.pointer (some ⟨bs i, 0, none⟩)) ∧ w'.cell? ⟨ba, 1, none⟩ = some (.int .i64 A) ∧ w'.cell? ⟨ba, 2, none⟩ = some (.int .i64 B) ∧ w'.cell? ⟨ba, 3, none⟩ = some (.int .i64 C) ∧ w'.cell? ⟨ba, 5, none⟩ = some (.bool On)) (first | exact K0.out | exact K4.out) ((go_at_call 31; refine (vmay_any (bs i) r A true (me i) _ (S3.out.1.ub hiN).me.drew).mono ?_; rintro e w4 ⟨rfl, b4⟩; have F5 : Below W3.heap.size W3 w4 := ⟨b4.os, b4.tape, b4.output, b4.size, b4.block⟩; have S4 := Hid.intro (S3.out.below F5); have K4 := Hid.intro (KA.out w4 (Thr.below F5)); have B4 := Hid.intro (S3.out.1.act hiN HBA.out (Thr.below F5)).1; clear b4 F5))
                  clear S3 KA K0 x0 x1 x2 x3 x4 x5 p0 HBA
                  have KA : Hid (∀ W', Thr (bs i) r q w4 W' → W'.cell? ⟨gm, i, none⟩ = some (.pointer (some ⟨bs i, 0, none⟩)) ∧ W'.cell? ⟨ba, 1, none⟩ = some (.int .i64 A) ∧ W'.cell? ⟨ba, 2, none⟩ = some (.int .i64 B) ∧ W'.cell? ⟨ba, 3, none⟩ = some (.int .i64 C) ∧ W'.cell? ⟨ba, 5, none⟩ = some (.bool On)) := Hid.intro (fun W' t => by
                    have e := S4.out.1.act hiN B4.out t
                    exact ⟨(World.cell?_of_block e.2).trans (S4.out.1.cell i hiN), act_cells e.1 1 _ rfl, act_cells e.1 2 _ rfl, act_cells e.1 3 _ rfl, act_cells e.1 5 _ rfl⟩)
                  have p0 := K4.out.1
                  have x1 := K4.out.2.1
                  have x3 := K4.out.2.2.2.1
                  obtain ⟨mb, hmb⟩ : ∃ mb, Mv.mayB (me i) A true = mb := ⟨_, rfl⟩
                  rw [hmb]
                  have HMB := Hid.intro hmb
                  clear hmb
                  go_wp2_with fail
                  go_region_held3 (fun w' => w'.cell? ⟨gm, i, none⟩ = some (.pointer (some ⟨bs i, 0, none⟩)) ∧ w'.cell? ⟨ba, 1, none⟩ = some (.int .i64 A) ∧ w'.cell? ⟨ba, 2, none⟩ = some (.int .i64 B) ∧ w'.cell? ⟨ba, 3, none⟩ = some (.int .i64 C) ∧ w'.cell? ⟨ba, 5, none⟩ = some (.bool On)) (first | exact K4.out | exact K5.out) ((go_at_call 32; refine (vstore_any (bs i) r q A (IntKind.u8.wrap C) (me i) k _ (S4.out.1.ub hiN).drew (S4.out.2.1.good hiN)).mono ?_; rintro e w5 ⟨E, g, m', k', rfl, t5, u5, F4, hE⟩; have F5 : Thr (bs i) r q w4 w5 := ⟨F4.os, F4.tape, F4.output, F4.size, F4.block⟩; have T5 := Hid.intro t5; have U5 := Hid.intro (And.intro u5 F5); have K5 := Hid.intro (KA.out w5 F5); clear t5 u5 F4 F5 hE))
                  have z1 := K5.out.2.1
                  have z3 := K5.out.2.2.2.1
                  rcases TouR_may T5.out with ⟨hm, hE⟩ | ⟨hm, hE | hE, x, hz, hx⟩
                  · rw [HMB.out] at hm
                    subst hE
                    have S5 : Hid (TVS w w5 r q gm cm gf cf N bs (Mv.setP me i m') k' f) := Hid.intro (by
                      have u := U5.out.1
                      rw [if_neg (by decide)] at u
                      exact S4.out.touch hiN T5.out u U5.out.2)
                    rw [hm, errV_ne (by decide)]
                    clear hm HMB T5 U5 KA K4 K5 p0 x1 x3 S4 B4
                    go_wp2_with fail
                    go_meet
                    case rel => exact ⟨_, _, _, _, _, _, _, _, _, rfl, rfl, S5⟩
                  · rw [HMB.out] at hm
                    subst hE
                    subst hz
                    have fx := TouR_fr T5.out
                    rw [Int.toNat_natCast] at fx
                    have S5 : Hid (VY w w5 r q gm cm gf cf N N bs (Mv.setP me i m') (Mv.stB k' g (x % 8) (IntKind.u8.wrap C)) f ∧ Mv.Wld (Mv.stB k' g (x % 8) (IntKind.u8.wrap C)) N (Mv.setP me i m') ∧ Mv.Flt (Mv.stB k' g (x % 8) (IntKind.u8.wrap C)) N (Mv.setP me i m') (Mv.updF f i x (IntKind.u8.wrap C))) := Hid.intro (by
                      have u := U5.out.1
                      rw [if_pos rfl, Int.toNat_natCast] at u
                      have t := S4.out.2.1.touch hiN T5.out
                      have g64 : g < 64 := by have := t.1.le i hiN (x / 8) (by omega); rw [Mv.setP_same, fx] at this; omega
                      exact ⟨S4.out.1.thr hiN u U5.out.2, t.1.bytes _, (S4.out.2.2.1.touch S4.out.2.1 hiN T5.out).store t.1 hiN hx g64 (by rw [Mv.setP_same]; exact fx) (t.2 rfl rfl) _⟩)
                    have q0 := S5.out.1.byte i x hiN hx
                    have qf := S5.out.1.froz
                    have S6 : Hid (TVS w (w5.setCell ⟨gf, i * 128 + x, none⟩ (.int .u8 (IntKind.u8.wrap C))) r q gm cm gf cf N bs (Mv.setP me i m') (Mv.stB k' g (x % 8) (IntKind.u8.wrap C)) (Mv.updF f i x (IntKind.u8.wrap C))) := Hid.intro ⟨S5.out.1.put i x _ hiN hx, S5.out.2.1, S5.out.2.2, N1⟩
                    have d0 : decide ((x : Int) < 0) = false := by simp
                    have d1 : decide (127 < (x : Int)) = false := by simp; omega
                    have hxI : (x : Int) < 128 := by omega
                    rw [hm, errV_zero]
                    generalize f i x = fv at *
                    clear hm HMB T5 U5 KA K4 K5 p0 x1 x3 S4 B4 fx S5
                    go_wp2_with fail
                    go_region
                    generalize hW : World.drew _ = W6
                    have S7 : Hid (TVS w W6 r q gm cm gf cf N bs (Mv.setP me i m') (Mv.stB k' g (x % 8) (IntKind.u8.wrap C)) (Mv.updF f i x (IntKind.u8.wrap C))) := Hid.intro (by rw [← hW]; exact S6.out.drewN 1)
                    clear hW S6 q0 qf z1 z3
                    go_wp2_with fail
                    go_meet
                    case rel => exact ⟨_, _, _, _, _, _, _, _, _, rfl, rfl, S7⟩
                  · rw [HMB.out] at hm
                    subst hE
                    have S5 : Hid (TVS w w5 r q gm cm gf cf N bs (Mv.setP me i m') k' f) := Hid.intro (by
                      have u := U5.out.1
                      rw [if_neg (by decide)] at u
                      exact S4.out.touch hiN T5.out u U5.out.2)
                    rw [hm, errV_ne (by decide)]
                    clear hm hz HMB T5 U5 KA K4 K5 p0 x1 x3 S4 B4
                    go_wp2_with (go_at_call 33; refine (vnumber_err 4 _).mono ?_; rintro e w7 ⟨rfl, hw7⟩; subst w7)
                    go_meet
                    case rel => exact ⟨_, _, _, _, _, _, _, _, _, rfl, rfl, S5⟩
      case rest =>
        clear S3 HBA KA K0 x0 x1 x2 x3 x4 x5 p0
        as_aux_lemma =>
        obtain ⟨N, gm, cm, gf, cf, bs, me, k, f, rfl, rfl, HC⟩ := hcut
        go_wp2_with fail
        refine (stocked_any r q gm N cm bs me k _ HC.out.1.all HC.out.2.1).mono ?_
        rintro e w5 ⟨rfl, b5⟩
        have S5 := Hid.intro (HC.out.below b5)
        clear b5 HC
        go_wp2_with fail
        go_roundw
        case rel => first | exact ⟨j + 1, N, gm, cm, gf, cf, bs, me, k, f, rfl, rfl, by go_num, by omega, S5⟩ | ((repeat apply Exists.intro); exact ⟨⟨rfl, rfl, by go_num, by omega, S5⟩, rfl⟩) | (trace_state; fail)
        case measure => simp [intOf]; omega
    · have hjn : j = n0 := by omega
      subst hjn
      as_aux_lemma =>
      go_wp2_with fail
      go_loopw [18] (fun v wr => ∃ (y : Nat), v = .int .i64 y ∧ y ≤ N ∧ Hid (TVS w wr r q gm cm gf cf N bs me k f)) (fun v _ => N - (intOf v).toNat)
      case atStart => exact ⟨0, rfl, by omega, S⟩
      case round =>
        clear S
        obtain ⟨y, rfl, hyN, S⟩ := hrel
        by_cases hy : y < N
        · have hyI : (y : Int) < (N : Int) := by omega
          go_wp2_with fail
          go_loopw [19] (fun v wr => ∃ (x : Nat), v = .int .i64 x ∧ x ≤ 128 ∧ Hid (TVS w wr r q gm cm gf cf N bs me k f)) (fun v _ => 128 - (intOf v).toNat)
          case atStart => exact ⟨0, rfl, by omega, S⟩
          case round =>
            clear S
            obtain ⟨x, rfl, hx128, S⟩ := hrel
            by_cases hx : x < 128
            · have hxI : (x : Int) < 128 := by omega
              have p0 := S.out.1.cell y hy
              go_wp2_with fail
              refine (vwants_any (bs y) r x (me y) _ (S.out.1.ub hy).me).mono ?_
              rintro e w4 ⟨rfl, b4⟩
              have S4 := Hid.intro (S.out.below b4)
              clear b4 S p0
              have p0 := S4.out.1.cell y hy
              cases hm : Mv.mayB (me y) (x : Int) false
              · have E1 : Hid (Mv.wantsB (me y) (x : Int) = false) := Hid.intro (by unfold Mv.wantsB; rw [hm]; rfl)
                have HM := Hid.intro hm
                clear hm
                rw [E1.out]
                go_wp2_with fail
                refine (vmay_any (bs y) r x false (me y) _ (S4.out.1.ub hy).me).mono ?_
                rintro e w5 ⟨rfl, b5⟩
                have S5 := Hid.intro (S4.out.below b5)
                rw [HM.out]
                clear b5 S4 p0
                go_wp2_with fail
                go_roundw
                case rel => exact ⟨x + 1, by go_num, by omega, S5⟩
                case measure => simp [intOf]; omega
              · by_cases f0 : (me y).fr (x / 8) = 0
                · have E1 : Hid (Mv.wantsB (me y) (x : Int) = true) := Hid.intro (by unfold Mv.wantsB; rw [hm, Int.toNat_natCast]; simp [f0])
                  clear hm f0
                  rw [E1.out]
                  go_wp2_with fail
                  go_roundw
                  case rel => exact ⟨x + 1, by go_num, by omega, S4⟩
                  case measure => simp [intOf]; omega
                · have E1 : Hid (Mv.wantsB (me y) (x : Int) = false) := Hid.intro (by unfold Mv.wantsB; rw [hm, Int.toNat_natCast]; simp [f0])
                  have HM := Hid.intro (And.intro hm f0)
                  clear hm f0
                  rw [E1.out]
                  go_wp2_with fail
                  refine (vmay_any (bs y) r x false (me y) _ (S4.out.1.ub hy).me).mono ?_
                  rintro e w5 ⟨rfl, b5⟩
                  have S5 := Hid.intro (S4.out.below b5)
                  rw [HM.out.1]
                  clear b5 S4 p0
                  have p0 := S5.out.1.cell y hy
                  go_wp2_with fail
                  refine (vload_any (bs y) r q x (me y) k _ (S5.out.1.ub hy) (S5.out.2.1.good hy)).mono ?_
                  rintro e w6 ⟨E, g, m', k', rfl, t6, u6, F6, _⟩
                  obtain ⟨hE, hg, hm', hk'⟩ := TouR_read t6 HM.out.1 (by rw [Int.toNat_natCast]; exact HM.out.2)
                  subst E
                  subst m'
                  subst k'
                  have S6 : Hid (TVS w w6 r q gm cm gf cf N bs me k f) := Hid.intro (by
                    have := S5.out.touch hy t6 u6 F6
                    rw [setP_id] at this
                    exact this)
                  have hv := S6.out.has hy hx (g := g) (by rw [hg, Int.toNat_natCast]; have := HM.out.2; omega)
                  have q0 := S6.out.1.byte y x hy hx
                  rw [errV_zero, if_pos rfl, Int.toNat_natCast, hv]
                  generalize f y x = fv at *
                  clear hg hv t6 u6 F6 S5 p0
                  go_wp2_with fail
                  go_roundw
                  case rel => exact ⟨x + 1, by go_num, by omega, S6⟩
                  case measure => simp [intOf]; omega
            · have hxI : ¬ (x : Int) < 128 := by omega
              go_wp2_with fail
              go_roundw
              case rel => exact ⟨y + 1, by go_num, by omega, S⟩
              case measure => simp [intOf]; omega
        · have hyI : ¬ (y : Int) < (N : Int) := by omega
          go_wp2_with fail
          go_ret
          exact ⟨rfl, S.out.1.bel⟩
end
theorem tv_any (a : Option Addr) (len cap : Nat) (w : World) (h : IsActs0 w a len) :
    Calls Try.prog 5 #[.slice a len cap] w fun e w' => e = .returned (.bool true) ∧ Below w.heap.size w w' := by
  by_cases hf : 120 < len
  · exact tv_far a len cap w hf
  · exact tv_near a len cap w h (by omega)
end Go.Proofs.Ytnppahmlifnnnab

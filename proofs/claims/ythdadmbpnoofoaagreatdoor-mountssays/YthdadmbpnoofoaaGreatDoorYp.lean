/- The document's own forest: Plant. -/
import Derived.Test.YthdadmbpnoofoaaGreatDoorYl
namespace Go.Proofs.YthdadmbpnoofoaaGreatDoor
open Go.RowKit
open Tr (Fo Nd RN)

/-- One root more. -/
theorem FR.root {B : Bs} {b n T gg cap : Nat} {W W' : World} {F : Fo} {R : Nat → RN} {rv : Value} (h : FR B W b F R rv) (o : Obj) (hown : W'.ownsRow B.base 3 1 (.slice (some ⟨gg, 0, none⟩) (T + 1) cap) (T + 1) (rowOf ((List.range T).map F.root) ++ [.int .i64 (n : Int)])) (hg : (W.alloc o).grownBy W' rv.ownBlock) (hat : rv.ownBlock = some gg ∨ gg = W.heap.size + 1) :
    FR B (W'.setCell ⟨b, 320, none⟩ (.slice (some ⟨gg, 0, none⟩) (T + 1) cap)) b { F with root := upA F.root T n, trees := T + 1 } R (.slice (some ⟨gg, 0, none⟩) (T + 1) cap) ∧ Below B.base W (W'.setCell ⟨b, 320, none⟩ (.slice (some ⟨gg, 0, none⟩) (T + 1) cap)) := by
  have bl := h.rb.lt
  have sz : (W.alloc o).heap.size = W.heap.size + 1 := by simp
  have kp : ∀ g, g < W.heap.size → rv.ownBlock ≠ some g → W'.heap[g]? = W.heap[g]? := fun g hl hne => by
    rw [hg.block g (by omega) (Ne.symm hne)]
    exact ((Below.refl W.heap.size W).alloc (Nat.le_refl _) o).block g hl
  have ggb : gg ≠ b := fun e => by
    rcases hat with k | k
    · exact h.ob (by rw [k, e])
    · omega
  have szl : W.heap.size ≤ W'.heap.size := by have := hg.size; omega
  have rb1 : RB W' b R rv := h.rb.same (kp b bl h.ob)
  have fr : Frm b W' (W'.setCell ⟨b, 320, none⟩ (.slice (some ⟨gg, 0, none⟩) (T + 1) cap)) := (Frm.refl b W').setCell _ _
  have e : rowOf ((List.range T).map F.root) ++ [.int .i64 (n : Int)] = rowOf ((List.range (T + 1)).map (upA F.root T n)) := by
    rw [List.range_succ, List.map_append]
    unfold rowOf
    rw [List.map_append]
    congr 1
    · congr 1
      exact List.map_congr_left (fun j hj => (upA_ne _ _ _ _ (by have := List.mem_range.1 hj; omega)).symm)
    · simp [upA_same]
  refine ⟨⟨rb1.setRoots _, h.le, ?_, fun k => ggb (by simpa [Value.ownBlock] using k), fun m hm => ?_, fun g hg' => Nat.lt_of_lt_of_le (Nat.lt_of_lt_of_le (h.bd g hg') szl) fr.size, fun g hg' e => ?_⟩, ?_⟩
  · show World.ownsRow _ B.base _ 1 _ (T + 1) (rowOf ((List.range (T + 1)).map (upA F.root T n)))
    rw [← e]
    exact hown.kept (row := some b) ⟨fr.os, fr.tape, fr.output, fr.size, fun k hk hne => fr.block k hk (fun c => hne (by rw [c]))⟩ (.inr (by intro k; exact ggb (by simpa [Value.ownBlock] using k)))
  · have k := h.nd m hm
    have mono : ∀ xs v, LV (Oth B b rv) xs v W → LV (Oth B b (.slice (some ⟨gg, 0, none⟩) (T + 1) cap)) xs v (W'.setCell ⟨b, 320, none⟩ (.slice (some ⟨gg, 0, none⟩) (T + 1) cap)) := fun xs v l => by
      have l1 := l.mono (Q := fun g => Oth B b rv g ∧ Oth B b (.slice (some ⟨gg, 0, none⟩) (T + 1) cap) g) (fun g hq hl => ⟨hq, hq.1, hq.2.1, fun c => by
        have c' : gg = g := by simpa [Value.ownBlock] using c
        rcases hat with k | k
        · exact hq.2.2.1 (by rw [k, c'])
        · omega, hq.2.2.2⟩)
      have l2 := l1.kept (W' := W'.setCell ⟨b, 320, none⟩ (.slice (some ⟨gg, 0, none⟩) (T + 1) cap)) (Nat.le_trans szl fr.size) (fun g hq hl => (fr.block g (Nat.lt_of_lt_of_le hl szl) hq.1.2.1).trans (kp g hl hq.1.2.2.1))
      exact l2.mono (fun g hq _ => hq.2)
    exact ⟨k.kd, k.nm, k.up, fun c => mono _ _ (k.ns c), fun c => mono _ _ (k.ks c), k.fl⟩
  · have c' : gg = g := by simpa [Value.ownBlock] using hg'
    rcases hat with k | k
    · exact h.ra gg k (by rw [c']; exact e)
    · have := h.bd g e
      omega
  · refine ⟨fr.os.trans (hg.os.trans rfl), fr.tape.trans (hg.tape.trans rfl), fr.output.trans (hg.output.trans rfl), Nat.le_trans szl fr.size, fun g hl => ?_⟩
    have := h.le
    exact (fr.block g (by omega) (by omega)).trans (kp g (by omega) (fun c => by have := (h.own.lt g c).1; omega))
theorem Tr.plaF_eq (F : Fo) (n : Nat) : { (F.put n (newN 2 F.trees 0)).put n { (F.put n (newN 2 F.trees 0)).nd n with up := n } with root := upA ((F.put n (newN 2 F.trees 0)).put n { (F.put n (newN 2 F.trees 0)).nd n with up := n }).root F.trees n, trees := F.trees + 1 } = Tr.plaF F n := by
  unfold Tr.plaF
  refine Tr.fo_ext (fun m => ?_) rfl rfl
  show ((F.put n (newN 2 F.trees 0)).put n { (F.put n (newN 2 F.trees 0)).nd n with up := n }).nd m = (F.put n (newN 2 F.trees n)).nd m
  by_cases c : m = n
  · subst c; rw [Tr.put_same, Tr.put_same, Tr.put_same]; rfl
  · rw [Tr.put_ne _ _ _ _ c, Tr.put_ne _ _ _ _ c, Tr.put_ne _ _ _ _ c]
section
variable (B : Bs) (b : Nat) (F : Fo) (R : Nat → RN) (rv : Value) (w : World)
set_option maxRecDepth 100000 in
set_option maxHeartbeats 2000000 in
theorem rplant_any (h : FR B w b F R rv) (ht : F.trees ≤ 4) :
    Calls Tryz.prog 11 #[.pointer (some ⟨b, 0, none⟩)] w fun e w' => ∃ (T : Nat) (E : Int) (G : Fo), e = .returned (.tuple #[.int .i64 (T : Int), .int .i64 E]) ∧ Tr.PlaTo F T E G ∧ (∃ R' rv', FR B w' b G R' rv') ∧ Below B.base w w' := by
  obtain ⟨i1, hi1, hy0, hy1, hy2⟩ := infoIn
  have HF := Hid.intro h
  have HB : Hid (B.base ≤ w.heap.size ∧ B.base ≤ b) := Hid.intro ⟨by have := h.le; have := h.rb.lt; omega, h.le⟩
  obtain ⟨ra, rc, hv⟩ := own_form h.own
  subst hv
  have c0 := h.rb.rt
  obtain ⟨T, hT⟩ : ∃ T, F.trees = T := ⟨_, rfl⟩
  rw [hT] at c0 HF ht
  have HT := Hid.intro hT
  clear h hT
  by_cases t4 : T = 4
  · have T4 := Hid.intro t4
    subst t4
    go_enter Tryz.func11, Tryz.ntmps11
    go_wp2_with fail
    go_ret2
    first | exact ⟨0, 4, F, rfl, .inl ⟨HT.out, rfl, rfl, rfl⟩, ⟨_, _, HF.out⟩, Below.refl _ _⟩ | exact ⟨0, 4, rfl, F, .inl ⟨HT.out, rfl, rfl, rfl⟩, ⟨_, _, HF.out⟩, Below.refl _ _⟩
  · have T4 : Hid (F.trees ≠ 4) := Hid.intro (by rw [HT.out]; exact t4)
    have t4I : ((T : Int) == 4) = false := by simp; omega
    have t4J : ¬ (T : Int) = 4 := by omega
    clear t4
    go_enter Tryz.func11, Tryz.ntmps11
    go_wp2_with fail
    refine (rfresh_any B b F R _ _ 2 T 1 0 HF.out).mono ?_
    rintro e w1 ⟨n, E, rfl, hf, hr0, hr1, f1⟩
    by_cases eE : E = 0
    · subst eE
      obtain ⟨n40, k0⟩ : n < 40 ∧ (F.nd n).kind = 0 := by
        rcases hf with ⟨_, h1, h2, _⟩ | ⟨h1, _⟩
        · exact ⟨h1, h2⟩
        · omega
      have nI : (n : Int) < 40 := by omega
      have H1 : FR B w1 b (F.put n (newN 2 T 0)) (putR R n ⟨2, T, 1, 0, 0, ⟨#[]⟩, .slice none 0 0, .slice none 0 0⟩) (.slice ra T rc) := HF.out.put (hr0 rfl) f1 (nr_new _ _ _ _ _ _ _ _ (fun _ => rfl))
      have cu := H1.rb.cUp n n40
      have cf := H1.rb.frozen
      have H2 := H1.setUp (n := n) (v := n) n40
      have f2 : Frm b w (w1.setCell ⟨b, n * 8 + 4, none⟩ (.int .i64 (n : Int))) := f1.trans ((Frm.refl b w1).setCell _ _)
      have HR := Hid.intro hf
      obtain ⟨W2, hW2⟩ : ∃ W2, w1.setCell ⟨b, n * 8 + 4, none⟩ (.int .i64 (n : Int)) = W2 := ⟨_, rfl⟩
      have S2 : Hid (FR B W2 b ((F.put n (newN 2 T 0)).put n { (F.put n (newN 2 T 0)).nd n with up := n }) (putR (putR R n ⟨2, T, 1, 0, 0, ⟨#[]⟩, .slice none 0 0, .slice none 0 0⟩) n { putR R n ⟨2, T, 1, 0, 0, ⟨#[]⟩, .slice none 0 0, .slice none 0 0⟩ n with up := n }) (.slice ra T rc) ∧ Below B.base w W2) := Hid.intro (by
        rw [← hW2]
        exact ⟨H2, f2.below (Below.refl _ _) HB.out.2 HB.out.1⟩)
      have PE : Hid ({ (F.put n (newN 2 T 0)).put n { (F.put n (newN 2 T 0)).nd n with up := n } with root := upA ((F.put n (newN 2 T 0)).put n { (F.put n (newN 2 T 0)).nd n with up := n }).root T n, trees := T + 1 } = Tr.plaF F n) := Hid.intro (by
        have := Tr.plaF_eq F n
        rw [HT.out] at this
        exact this)
      have TT : Hid (((F.put n (newN 2 T 0)).put n { (F.put n (newN 2 T 0)).nd n with up := n }).trees = T) := Hid.intro HT.out
      generalize (F.put n (newN 2 T 0)).put n { (F.put n (newN 2 T 0)).nd n with up := n } = F2 at S2 PE TT
      generalize putR (putR R n ⟨2, T, 1, 0, 0, ⟨#[]⟩, .slice none 0 0, .slice none 0 0⟩) n { putR R n ⟨2, T, 1, 0, 0, ⟨#[]⟩, .slice none 0 0, .slice none 0 0⟩ n with up := n } = R2 at S2
      clear hf hr0 hr1 f1 k0 H1 H2 f2
      go_upto_region 7 with fail
      try rw [hW2]
      clear hW2 cu cf
      have c1 := S2.out.1.rb.rt
      have cf2 : Hid (∀ gg cap W', W'.ownsRow B.base 3 1 (.slice (some ⟨gg, 0, none⟩) (T + 1) cap) (T + 1) (rowOf ((List.range T).map F2.root) ++ [.int .i64 (n : Int)]) → (W2.alloc (.cells #[.int .i64 (n : Int)] 3)).grownBy W' (Value.ownBlock (.slice ra T rc)) → (Value.ownBlock (.slice ra T rc) = some gg ∨ gg = W2.heap.size + 1) → (∃ R' rv', FR B (W'.setCell ⟨b, 320, none⟩ (.slice (some ⟨gg, 0, none⟩) (T + 1) cap)) b (Tr.plaF F n) R' rv') ∧ Below B.base w (W'.setCell ⟨b, 320, none⟩ (.slice (some ⟨gg, 0, none⟩) (T + 1) cap)) ∧ (∀ q, W'.frozen? ⟨b, q, none⟩ = false) ∧ W'.cell? ⟨b, 320, none⟩ = some (.slice ra T rc) ∧ (W'.setCell ⟨b, 320, none⟩ (.slice (some ⟨gg, 0, none⟩) (T + 1) cap)).cell? ⟨b, 320, none⟩ = some (.slice (some ⟨gg, 0, none⟩) (T + 1) cap)) := Hid.intro (fun gg cap W' hown hg hat => by
        have r := S2.out.1.root (n := n) _ hown hg hat
        rw [PE.out] at r
        have kb : W'.heap[b]? = W2.heap[b]? := by
          rw [hg.block b (by have := S2.out.1.rb.lt; simp; omega) (Ne.symm S2.out.1.ob)]
          exact ((Below.refl W2.heap.size W2).alloc (Nat.le_refl _) _).block b S2.out.1.rb.lt
        have rb1 := S2.out.1.rb.same kb
        exact ⟨⟨_, _, r.1⟩, S2.out.2.trans r.2, rb1.frozen, rb1.rt, r.1.rb.rt⟩)
      have ow : W2.ownsRow B.base 3 1 (.slice ra T rc) T (rowOf ((List.range T).map F2.root)) := by
        have := S2.out.1.own
        rw [TT.out] at this
        exact this
      have OW := Hid.intro ow
      have BS : Hid (B.base ≤ W2.heap.size) := Hid.intro (by have := S2.out.1.rb.lt; have := HB.out.2; omega)
      clear S2 PE ow
      go_wp2_with (at_builtin; refine wpList_append_lies _ rfl _ _ 29 (by rfl) B.base 3 i1 (.int .i64 0) 1 8 Tryz.underlying29 hi1 hy0 hy1 hy2 rfl (by decide) (.slice ra T rc) T (rowOf ((List.range T).map F2.root)) (by rfl) (OW.out.alloc _) ⟨W2.heap.size, 0, none⟩ 1 1 [.int .i64 (n : Int)] (by rfl) rfl (World.news_of_block (heap_alloc_new W2 _)) (by simp [Value.oneCell']) (by decide) (by unfold maxLen; omega) (by omega) (by have := BS.out; simp; omega) (W2.heap.size + 1) (by simp) ?_; intro gg cap3 w3 hown hgrow hat hlt2; have Q4 := Hid.intro (cf2.out gg cap3 w3 hown hgrow hat); have cf3 := Q4.out.2.2.1; have cr3 := Q4.out.2.2.2.1; have cr4 := Q4.out.2.2.2.2; clear hown hgrow hat hlt2)
      go_ret2
      refine ⟨T, 0, Tr.plaF F n, ?_, .inr ⟨T4.out, n, 0, HR.out, .inr ⟨rfl, HT.out.symm, rfl, rfl⟩⟩, Q4.out.1, Q4.out.2.1⟩
      first | rfl | simp | (trace_state; fail)
    · have pos : 0 < E := by
        rcases hf with ⟨h1, _⟩ | ⟨h1, _⟩ <;> omega
      have H1 : Hid (FR B w1 b F R (.slice ra T rc)) := Hid.intro ⟨hr1 eE, HF.out.le, HF.out.own.kept (row := some b) ⟨f1.os, f1.tape, f1.output, f1.size, fun k hk hne => f1.block k hk (fun e => hne (by rw [e]))⟩ (.inr HF.out.ob), HF.out.ob, fun m hm => (HF.out.nd m hm).frm f1, fun g hg => Nat.lt_of_lt_of_le (HF.out.bd g hg) f1.size, HF.out.ra⟩
      have HR := Hid.intro (And.intro hf (And.intro f1 eE))
      clear hf hr0 hr1 f1 eE
      go_wp2_with fail
      go_ret2
      exact ⟨0, E, F, rfl, .inr ⟨T4.out, n, E, HR.out.1, .inl ⟨HR.out.2.2, rfl, rfl, rfl⟩⟩, ⟨_, _, H1.out⟩, HR.out.2.1.below (Below.refl _ _) HB.out.2 HB.out.1⟩
end
end Go.Proofs.YthdadmbpnoofoaaGreatDoor
/- The document's own forest: Read, Cut. -/
namespace Go.Proofs.YthdadmbpnoofoaaGreatDoor
open Go.RowKit
open Tr (Fo Nd RN)

section
variable (B : Bs) (b : Nat) (F : Fo) (R : Nat → RN) (rv : Value) (w : World)
theorem FR.setData {B : Bs} {b n : Nat} {w : World} {F : Fo} {R : Nat → RN} {rv : Value} (h : FR B w b F R rv) (hn : n < 40) (n1 : (F.nd n).kind = 1) {x : Nd} {d : ByteArray} (ek : x.kind = (F.nd n).kind) (et : x.tree = (F.nd n).tree) (el : x.links = (F.nd n).links) (eh : x.held = (F.nd n).held) (hd : d = Tr.rdS x.byt 0 x.size) : FR B (w.setCell ⟨b, n * 8 + 5, none⟩ (.string d)) b (F.put n x) (putR R n { R n with data := d }) rv := by
  have fr : Frm b w (w.setCell ⟨b, n * 8 + 5, none⟩ (.string d)) := (Frm.refl b w).setCell _ _
  have k := (h.nd n hn).frm fr
  have x2 : x.kind ≠ 2 := by rw [ek, n1]; decide
  exact h.put (h.rb.setData n d hn) fr ⟨k.kd.trans ek.symm, fun c => by rw [et, el, eh]; exact k.nm (by rw [← ek]; exact c), fun c => absurd c x2, fun c => absurd c x2, fun c => absurd c x2, fun _ => hd⟩
theorem FR.cData {B : Bs} {b n : Nat} {w : World} {F : Fo} {R : Nat → RN} {rv : Value} (h : FR B w b F R rv) (hn : n < 40) (n1 : (F.nd n).kind = 1) : w.cell? ⟨b, n * 8 + 5, none⟩ = some (.string (Tr.rdS (F.nd n).byt 0 (F.nd n).size)) := by
  rw [h.rb.cData n hn, (h.nd n hn).fl n1]
set_option maxRecDepth 100000 in
set_option maxHeartbeats 2000000 in
theorem rread_any (z a m : Int) (h : FR B w b F R rv) (hs : Tr.FzOk F) :
    Calls Tryz.prog 42 #[.pointer (some ⟨b, 0, none⟩), .int .i64 z, .int .i64 a, .int .i64 m] w fun e w' => e = .returned (.tuple #[.string (Tr.reaS F z a m), .int .i64 (Tr.reaE F z a m)]) ∧ w' = w := by
  have HF := Hid.intro h
  have EK : Hid (Tr.isK F z 1 = Tr.isE F z 1) := Hid.intro rfl
  by_cases c : Tr.isE F z 1 = 0
  · obtain ⟨n, rfl, n40, _, k1⟩ := Tr.isE_ok c
    have nI : (n : Int) < 40 := by omega
    have C0 := Hid.intro c
    have EW : Tr.reaE F (n : Int) a m = if a < 0 ∨ m < 0 then 1 else 0 := by unfold Tr.reaE; rw [if_neg (fun d => d c)]
    by_cases a0 : a < 0 ∨ m < 0
    · have FIN : Hid (Tr.reaE F (n : Int) a m = 1 ∧ Tr.reaS F (n : Int) a m = ⟨#[]⟩) := Hid.intro (by
        have e : Tr.reaE F (n : Int) a m = 1 := by rw [EW, if_pos a0]
        exact ⟨e, by unfold Tr.reaS; rw [e, if_neg (by omega)]; rfl⟩)
      clear h c k1 EW hs
      by_cases a1 : a < 0
      · clear a0
        go_enter Tryz.func42, Tryz.ntmps42
        go_wp2_with fail
        refine (ris_any B b 1 (n : Int) F R rv _ HF.out).mono ?_
        rintro e w1 ⟨rfl, hw1⟩
        subst w1
        rw [EK.out, C0.out]
        go_wp2_with fail
        go_ret2
        rw [FIN.out.1, FIN.out.2]
        exact ⟨rfl, rfl⟩
      · have a2 : m < 0 := by omega
        have a1' : decide (a < 0) = false := decide_eq_false a1
        clear a0 a1
        go_enter Tryz.func42, Tryz.ntmps42
        go_wp2_with fail
        refine (ris_any B b 1 (n : Int) F R rv _ HF.out).mono ?_
        rintro e w1 ⟨rfl, hw1⟩
        subst w1
        rw [EK.out, C0.out]
        go_wp2_with fail
        go_ret2
        rw [FIN.out.1, FIN.out.2]
        exact ⟨rfl, rfl⟩
    · have EZ : Tr.reaE F (n : Int) a m = 0 := by rw [EW, if_neg a0]
      obtain ⟨p, rfl⟩ : ∃ p : Nat, a = p := ⟨a.toNat, by omega⟩
      obtain ⟨q, rfl⟩ : ∃ q : Nat, m = q := ⟨m.toNat, by omega⟩
      have d1 : decide ((p : Int) < 0) = false := decide_eq_false (by omega)
      have d2 : decide ((q : Int) < 0) = false := decide_eq_false (by omega)
      have c5 := h.cData n40 k1
      have z40 := hs n n40 k1
      obtain ⟨sz, hsz⟩ : ∃ sz, (F.nd n).size = sz := ⟨_, rfl⟩
      obtain ⟨f, hf⟩ : ∃ f, (F.nd n).byt = f := ⟨_, rfl⟩
      have EF : Hid (Tr.reaE F (n : Int) (p : Int) (q : Int) = 0 ∧ Tr.reaS F (n : Int) (p : Int) (q : Int) = Tr.rdS f (min p sz) (min q (sz - min p sz))) := Hid.intro ⟨EZ, by unfold Tr.reaS; rw [if_pos EZ, Int.toNat_natCast, Int.toNat_natCast, Int.toNat_natCast, hsz, hf]⟩
      rw [hsz, hf] at c5
      rw [hsz] at z40
      have DS : (Tr.rdS f 0 sz).size = sz := Tr.rdS_size f 0 sz
      have ST : Hid (∀ j, p + j < sz → Tr.rdS f p j ++ (Tr.rdS f 0 sz).extract (p + j) (p + j + 1) = Tr.rdS f p (j + 1)) := Hid.intro (fun j hj => Tr.rdS_step f sz p j hj)
      generalize Tr.rdS f 0 sz = D at *
      clear h c k1 EW hs EZ hsz hf a0
      go_enter Tryz.func42, Tryz.ntmps42
      go_wp2_with fail
      refine (ris_any B b 1 (n : Int) F R rv _ HF.out).mono ?_
      rintro e w1 ⟨rfl, hw1⟩
      subst w1
      rw [EK.out, C0.out]
      go_wp2_with fail
      go_loopw [11, 13] (fun out i wr => ∃ j : Nat, i = .int .i64 ((p + j : Nat) : Int) ∧ out = .string (Tr.rdS f p j) ∧ j ≤ q ∧ (j = 0 ∨ p + j ≤ sz) ∧ Hid (wr = w)) (fun _ i _ => sz - (intOf i).toNat)
      case atStart => exact ⟨0, rfl, rfl, by omega, .inl rfl, Hid.intro rfl⟩
      case round =>
        obtain ⟨j, rfl, rfl, hj, hjs, hwr⟩ := hrel
        have hwr2 := hwr.out
        subst hwr2
        clear hwr
        have OS : (Tr.rdS f p j).size = j := Tr.rdS_size f p j
        by_cases l1 : p + j < sz
        · have l1I : ((p + j : Nat) : Int) < (sz : Int) := by omega
          by_cases l2 : j < q
          · have l2I : (j : Int) < (q : Int) := by omega
            have SJ := Hid.intro (ST.out j l1)
            obtain ⟨O, hO⟩ : ∃ O, Tr.rdS f p j = O := ⟨_, rfl⟩
            rw [hO] at OS SJ ⊢
            have l3 : p + j + 1 ≤ sz := by omega
            clear hO
            go_wp2_with fail
            go_roundw
            case rel => exact ⟨j + 1, by go_num, by rw [SJ.out], by omega, .inr (by omega), Hid.intro (by first | rfl | trivial)⟩
            case measure => simp [intOf]; omega
          · have l2I : decide ((j : Int) < (q : Int)) = false := decide_eq_false (by omega)
            have EN : Hid (Tr.rdS f p j = Tr.rdS f (min p sz) (min q (sz - min p sz))) := Hid.intro (by
              rw [show min p sz = p by omega, show min q (sz - p) = j by omega])
            obtain ⟨O, hO⟩ : ∃ O, Tr.rdS f p j = O := ⟨_, rfl⟩
            rw [hO] at OS EN ⊢
            have l2N : decide (j < q) = false := decide_eq_false l2
            clear hO
            go_wp2_with fail
            go_ret2
            rw [EF.out.1, EF.out.2, ← EN.out]
            exact ⟨rfl, rfl⟩
        · have l1I : decide (((p + j : Nat) : Int) < (sz : Int)) = false := decide_eq_false (by omega)
          have l1J : decide ((p : Int) + (j : Int) < (sz : Int)) = false := decide_eq_false (by omega)
          have EN : Hid (Tr.rdS f p j = Tr.rdS f (min p sz) (min q (sz - min p sz))) := Hid.intro (by
            rcases hjs with rfl | hjs
            · rw [show min q (sz - min p sz) = 0 by omega]; rfl
            · rw [show min p sz = p by omega, show min q (sz - p) = j by omega])
          obtain ⟨O, hO⟩ : ∃ O, Tr.rdS f p j = O := ⟨_, rfl⟩
          rw [hO] at OS EN ⊢
          clear hO l1 hjs
          go_wp2_with fail
          go_ret2
          rw [EF.out.1, EF.out.2, ← EN.out]
          exact ⟨rfl, rfl⟩
  · have E2 : Hid (Tr.reaE F z a m = Tr.isE F z 1 ∧ Tr.reaS F z a m = ⟨#[]⟩) := Hid.intro (by
      have e : Tr.reaE F z a m = Tr.isE F z 1 := if_pos c
      exact ⟨e, by unfold Tr.reaS; rw [e, if_neg c]; rfl⟩)
    have pos : 0 < Tr.isE F z 1 := by have := Tr.isE_nn F z 1; omega
    clear h c hs
    go_enter Tryz.func42, Tryz.ntmps42
    go_wp2_with fail
    refine (ris_any B b 1 z F R rv _ HF.out).mono ?_
    rintro e w1 ⟨rfl, hw1⟩
    subst w1
    rw [EK.out]
    go_wp2_with fail
    go_ret2
    rw [E2.out.1, E2.out.2]
    exact ⟨rfl, rfl⟩
set_option maxRecDepth 100000 in
set_option maxHeartbeats 2000000 in
theorem rcutsize_any (z a : Int) (h : FR B w b F R rv) (hs : Tr.FzOk F) :
    Calls Tryz.prog 46 #[.pointer (some ⟨b, 0, none⟩), .int .i64 z, .int .i64 a] w fun e w' => e = .returned (.int .i64 (Tr.cutE F z a)) ∧ (∃ R', FR B w' b (Tr.cutF F z a) R' rv) ∧ Frm b w w' := by
  have HF := Hid.intro h
  have EK : Hid (Tr.isK F z 1 = Tr.isE F z 1) := Hid.intro rfl
  by_cases c : Tr.isE F z 1 = 0
  · obtain ⟨n, rfl, n40, _, k1⟩ := Tr.isE_ok c
    have nI : (n : Int) < 40 := by omega
    have C0 := Hid.intro c
    have c5 := h.cData n40 k1
    have z40 := hs n n40 k1
    have DS : (Tr.rdS (F.nd n).byt 0 (F.nd n).size).size = (F.nd n).size := Tr.rdS_size _ 0 _
    have EW : Tr.cutE F (n : Int) a = if a < 0 ∨ ((F.nd n).size : Int) < a then 1 else 0 := by unfold Tr.cutE; rw [if_neg (fun d => d c), Int.toNat_natCast]
    by_cases a0 : a < 0 ∨ ((F.nd n).size : Int) < a
    · have FIN : Hid (Tr.cutE F (n : Int) a = 1 ∧ Tr.cutF F (n : Int) a = F) := Hid.intro (by
        have e : Tr.cutE F (n : Int) a = 1 := by rw [EW, if_pos a0]
        exact ⟨e, by unfold Tr.cutF; rw [e, if_neg (by omega)]⟩)
      generalize (F.nd n).size = sz at *
      generalize Tr.rdS (F.nd n).byt 0 sz = D at *
      clear h c k1 EW hs
      by_cases a1 : a < 0
      · clear a0
        go_enter Tryz.func46, Tryz.ntmps46
        go_wp2_with fail
        refine (ris_any B b 1 (n : Int) F R rv _ HF.out).mono ?_
        rintro e w1 ⟨rfl, hw1⟩
        subst w1
        rw [EK.out, C0.out]
        go_wp2_with fail
        go_ret
        rw [FIN.out.1, FIN.out.2]
        exact ⟨rfl, ⟨_, HF.out⟩, Frm.refl _ _⟩
      · have a2 : (sz : Int) < a := by omega
        have a1' : decide (a < 0) = false := decide_eq_false a1
        clear a0 a1
        go_enter Tryz.func46, Tryz.ntmps46
        go_wp2_with fail
        refine (ris_any B b 1 (n : Int) F R rv _ HF.out).mono ?_
        rintro e w1 ⟨rfl, hw1⟩
        subst w1
        rw [EK.out, C0.out]
        go_wp2_with fail
        go_ret
        rw [FIN.out.1, FIN.out.2]
        exact ⟨rfl, ⟨_, HF.out⟩, Frm.refl _ _⟩
    · have EZ : Tr.cutE F (n : Int) a = 0 := by rw [EW, if_neg a0]
      obtain ⟨p, rfl⟩ : ∃ p : Nat, a = p := ⟨a.toNat, by omega⟩
      have d1 : decide ((p : Int) < 0) = false := decide_eq_false (by omega)
      have d2 : decide (((F.nd n).size : Int) < (p : Int)) = false := decide_eq_false (by omega)
      have p2 : p ≤ (F.nd n).size := by omega
      have p2I : (p : Int) ≤ ((F.nd n).size : Int) := by omega
      have cf := h.rb.frozen
      have FIN : Hid (FR B (w.setCell ⟨b, n * 8 + 5, none⟩ (.string ((Tr.rdS (F.nd n).byt 0 (F.nd n).size).extract 0 p))) b (Tr.cutF F (n : Int) (p : Int)) (putR R n { R n with data := (Tr.rdS (F.nd n).byt 0 (F.nd n).size).extract 0 p }) rv) := Hid.intro (by
        unfold Tr.cutF
        rw [if_pos EZ, Int.toNat_natCast, Int.toNat_natCast]
        refine h.setData n40 k1 rfl rfl rfl rfl ?_
        rw [Tr.rdS_cut _ 0 _ 0 p p2]
        refine Tr.rdS_ext (fun j hj => ?_)
        have hj' : j < p := by omega
        show (F.nd n).byt (0 + 0 + j) = Tr.wrB (F.nd n).byt p _ (0 + j)
        unfold Tr.wrB
        rw [if_pos (by omega), Nat.zero_add])
      have EF := Hid.intro EZ
      generalize (F.nd n).size = sz at *
      generalize Tr.rdS (F.nd n).byt 0 sz = D at *
      clear h c k1 EW hs EZ a0
      go_enter Tryz.func46, Tryz.ntmps46
      go_wp2_with fail
      refine (ris_any B b 1 (n : Int) F R rv _ HF.out).mono ?_
      rintro e w1 ⟨rfl, hw1⟩
      subst w1
      rw [EK.out, C0.out]
      go_wp2_with fail
      go_region
      go_wp2_with fail
      go_ret
      rw [EF.out]
      exact ⟨rfl, ⟨_, FIN.out.drew⟩, ((Frm.refl b w).setCell _ _).drew⟩
  · have E2 : Hid (Tr.cutE F z a = Tr.isE F z 1 ∧ Tr.cutF F z a = F) := Hid.intro (by
      have e : Tr.cutE F z a = Tr.isE F z 1 := if_pos c
      exact ⟨e, by unfold Tr.cutF; rw [e, if_neg c]⟩)
    have pos : 0 < Tr.isE F z 1 := by have := Tr.isE_nn F z 1; omega
    clear h c hs
    go_enter Tryz.func46, Tryz.ntmps46
    go_wp2_with fail
    refine (ris_any B b 1 z F R rv _ HF.out).mono ?_
    rintro e w1 ⟨rfl, hw1⟩
    subst w1
    rw [EK.out]
    go_wp2_with fail
    go_ret
    rw [E2.out.1, E2.out.2]
    exact ⟨rfl, ⟨_, HF.out⟩, Frm.refl _ _⟩
end
end Go.Proofs.YthdadmbpnoofoaaGreatDoor
/- The document's own forest: Write. -/
namespace Go.Proofs.YthdadmbpnoofoaaGreatDoor
open Go.RowKit
open Tr (Fo Nd RN)

theorem load_one (w : World) : (loadCells ⟨w.heap.size, 0, none⟩ 1).run Tryz.prog (w.alloc (.cells #[.int .u8 0] 5)) = .ok (([0] : List Int).map (Value.int .u8)).toArray (w.alloc (.cells #[.int .u8 0] 5)) := by
  refine run_loadCells_list (P := Tryz.prog) _ ⟨w.heap.size, 0, none⟩ (([0] : List Int).map (Value.int .u8)) (fun j v hv => ?_)
  have hj : j = 0 := by have := (List.getElem?_eq_some_iff.1 hv).1; simp at this; omega
  subst hj
  have e : (⟨w.heap.size, 0, none⟩ : Addr).add 0 = ⟨w.heap.size, 0, none⟩ := by unfold Addr.add; split <;> simp_all
  rw [e, cell_blk (heap_alloc_new w _)]
  exact hv
section
variable (B : Bs) (b : Nat) (F : Fo) (R : Nat → RN) (rv : Value) (w : World)
set_option maxRecDepth 100000 in
set_option maxHeartbeats 4000000 in
theorem rwrite_any (z a : Int) (s : ByteArray) (h : FR B w b F R rv) (hz : Tr.FzOk F) (hzb : Tr.Zb F) (hs : s.size < 2 ^ 60) :
    Calls Tryz.prog 44 #[.pointer (some ⟨b, 0, none⟩), .int .i64 z, .int .i64 a, .string s] w fun e w' => e = .returned (.int .i64 (Tr.wriE F z a s)) ∧ (∃ R', FR B w' b (Tr.wriF F z a s) R' rv) ∧ Frm b w w' := by
  have HF := Hid.intro h
  have EK : Hid (Tr.isK F z 1 = Tr.isE F z 1) := Hid.intro rfl
  by_cases c : Tr.isE F z 1 = 0
  · obtain ⟨n, rfl, n40, _, k1⟩ := Tr.isE_ok c
    have nI : (n : Int) < 40 := by omega
    have C0 := Hid.intro c
    have EW : Tr.wriE F (n : Int) a s = if a < 0 then 1 else if 40 - (s.size : Int) < a then 4 else 0 := by unfold Tr.wriE; rw [if_neg (fun d => d c)]
    by_cases a0 : a < 0
    · have FIN : Hid (Tr.wriE F (n : Int) a s = 1 ∧ Tr.wriF F (n : Int) a s = F) := Hid.intro (by
        have e : Tr.wriE F (n : Int) a s = 1 := by rw [EW, if_pos a0]
        exact ⟨e, by unfold Tr.wriF; rw [e, if_neg (by omega)]⟩)
      clear h c k1 EW hz hzb hs
      go_enter Tryz.func44, Tryz.ntmps44
      go_wp2_with fail
      refine (ris_any B b 1 (n : Int) F R rv _ HF.out).mono ?_
      rintro e w1 ⟨rfl, hw1⟩
      subst w1
      rw [EK.out, C0.out]
      go_wp2_with fail
      go_ret
      rw [FIN.out.1, FIN.out.2]
      exact ⟨rfl, ⟨_, HF.out⟩, Frm.refl _ _⟩
    obtain ⟨p, rfl⟩ : ∃ p : Nat, a = p := ⟨a.toNat, by omega⟩
    rw [if_neg a0] at EW
    by_cases a1 : 40 - (s.size : Int) < (p : Int)
    · have FIN : Hid (Tr.wriE F (n : Int) (p : Int) s = 4 ∧ Tr.wriF F (n : Int) (p : Int) s = F) := Hid.intro (by
        have e : Tr.wriE F (n : Int) (p : Int) s = 4 := by rw [EW, if_pos a1]
        exact ⟨e, by unfold Tr.wriF; rw [e, if_neg (by omega)]⟩)
      by_cases a2 : 40 < p
      · have a2I : (40 : Int) < (p : Int) := by omega
        clear h c k1 EW hz hzb hs a1
        go_enter Tryz.func44, Tryz.ntmps44
        go_wp2_with fail
        refine (ris_any B b 1 (n : Int) F R rv _ HF.out).mono ?_
        rintro e w1 ⟨rfl, hw1⟩
        subst w1
        rw [EK.out, C0.out]
        go_wp2_with fail
        go_ret
        rw [FIN.out.1, FIN.out.2]
        exact ⟨rfl, ⟨_, HF.out⟩, Frm.refl _ _⟩
      · have a2I : decide ((40 : Int) < (p : Int)) = false := decide_eq_false (by omega)
        have hw : IntKind.i64.wrap ((40 : Int) - (p : Int)) = (40 : Int) - (p : Int) := IntWalk.i64_in _ ⟨by omega, by omega⟩
        have a3 : (40 : Int) - (p : Int) < (s.size : Int) := by omega
        clear h c k1 EW hz hzb hs a1
        go_enter Tryz.func44, Tryz.ntmps44
        go_wp2_with fail
        refine (ris_any B b 1 (n : Int) F R rv _ HF.out).mono ?_
        rintro e w1 ⟨rfl, hw1⟩
        subst w1
        rw [EK.out, C0.out]
        go_wp2_with fail
        go_ret
        rw [FIN.out.1, FIN.out.2]
        exact ⟨rfl, ⟨_, HF.out⟩, Frm.refl _ _⟩
    · have EZ : Tr.wriE F (n : Int) (p : Int) s = 0 := by rw [EW, if_neg a1]
      have EZH := Hid.intro EZ
      have a2I : decide ((40 : Int) < (p : Int)) = false := decide_eq_false (by omega)
      have hw : IntKind.i64.wrap ((40 : Int) - (p : Int)) = (40 : Int) - (p : Int) := IntWalk.i64_in _ ⟨by omega, by omega⟩
      have a3 : decide ((40 : Int) - (p : Int) < (s.size : Int)) = false := decide_eq_false (by omega)
      have c5 := h.cData n40 k1
      have z40 := hz n n40 k1
      have cf := h.rb.frozen
      by_cases s0 : s.size = 0
      · have WF : Hid (Tr.wriF F (n : Int) (p : Int) s = F) := Hid.intro (by unfold Tr.wriF; rw [if_neg (fun k => k.2 s0)])
        have FIN : Hid (FR B (w.setCell ⟨b, n * 8 + 5, none⟩ (.string (Tr.rdS (F.nd n).byt 0 (F.nd n).size))) b F (putR R n { R n with data := Tr.rdS (F.nd n).byt 0 (F.nd n).size }) rv) := Hid.intro (by
          have := h.setData n40 k1 (x := F.nd n) rfl rfl rfl rfl rfl
          rw [Tr.put_self] at this
          exact this)
        have s0I : decide ((0 : Int) < (s.size : Int)) = false := decide_eq_false (by omega)
        have s0N : decide (0 < s.size) = false := decide_eq_false (by omega)
        generalize Tr.rdS (F.nd n).byt 0 (F.nd n).size = D at c5 FIN
        clear h c k1 EW hz hzb hs a1 EZ s0
        go_enter Tryz.func44, Tryz.ntmps44
        go_wp2_with fail
        refine (ris_any B b 1 (n : Int) F R rv _ HF.out).mono ?_
        rintro e w1 ⟨rfl, hw1⟩
        subst w1
        rw [EK.out, C0.out]
        go_wp2_with fail
        go_loopw [10] (fun d wr => d = .string D ∧ Hid (wr = w)) (fun _ _ => 0)
        case atStart => exact ⟨rfl, Hid.intro rfl⟩
        case round =>
          obtain ⟨rfl, hwr⟩ := hrel
          have hwr2 := hwr.out
          subst hwr2
          clear hwr
          go_wp2_with fail
          go_ret
          rw [EZH.out, WF.out]
          exact ⟨rfl, ⟨_, FIN.out⟩, (Frm.refl b _).setCell _ _⟩
      · obtain ⟨f, hf⟩ : ∃ f, (F.nd n).byt = f := ⟨_, rfl⟩
        obtain ⟨sz, hsz⟩ : ∃ sz, (F.nd n).size = sz := ⟨_, rfl⟩
        have ZB : Hid (∀ j, sz ≤ j → j < 40 → f j = 0) := Hid.intro (by have := hzb n n40 k1; rw [hf, hsz] at this; exact this)
        rw [hf, hsz] at c5
        rw [hsz] at z40
        have FIN : Hid (∀ W d, Below w.heap.size w W → d = Tr.rdS (Tr.wrB f p (Tr.byI s)) 0 (max sz (p + s.size)) → (∃ R', FR B (W.setCell ⟨b, n * 8 + 5, none⟩ (.string d)) b (Tr.wriF F (n : Int) (p : Int) s) R' rv) ∧ Frm b w (W.setCell ⟨b, n * 8 + 5, none⟩ (.string d))) := Hid.intro (fun W d hW hd => by
          have hF := h.below hW
          refine ⟨⟨putR R n { R n with data := d }, ?_⟩, (Frm.of_below hW).trans ((Frm.refl b W).setCell _ _)⟩
          · unfold Tr.wriF
            rw [if_pos ⟨EZ, s0⟩, Int.toNat_natCast, Int.toNat_natCast]
            refine hF.setData n40 k1 rfl rfl rfl rfl ?_
            show d = Tr.rdS (Tr.wrB (F.nd n).byt p (Tr.byI s)) 0 (max (F.nd n).size (p + s.size))
            rw [hf, hsz]
            exact hd)
        have CL : Hid (∀ W, Below w.heap.size w W → W.cell? ⟨b, n * 8 + 5, none⟩ = some (.string (Tr.rdS f 0 sz)) ∧ ∀ q, W.frozen? ⟨b, q, none⟩ = false) := Hid.intro (fun W hW => ⟨(hW.cell (p := ⟨b, n * 8 + 5, none⟩) h.rb.lt).trans c5, (h.below hW).rb.frozen⟩)
        have s0I : (0 : Int) < (s.size : Int) := by omega
        have ps : p + s.size ≤ 40 := by omega
        have WRT : Hid (∀ m, m = max sz p → Tr.rdS f 0 p ++ s ++ Tr.rdS f (p + s.size) (m - (p + s.size)) = Tr.rdS (Tr.wrB f p (Tr.byI s)) 0 (max sz (p + s.size))) := Hid.intro (fun m hm => by
          rw [Tr.rdS_written f s p m]
          congr 1
          omega)
        clear h c k1 EW hz hzb hs a1 EZ hf hsz
        go_enter Tryz.func44, Tryz.ntmps44
        go_wp2_with fail
        refine (ris_any B b 1 (n : Int) F R rv _ HF.out).mono ?_
        rintro e w1 ⟨rfl, hw1⟩
        subst w1
        rw [EK.out, C0.out]
        go_wp2_with fail
        go_loopw [10] (fun d wr => ∃ j : Nat, d = .string (Tr.rdS f 0 (sz + j)) ∧ sz + j ≤ max sz p ∧ Hid (Below w.heap.size w wr)) (fun d _ => p - (match d with | .string x => x.size | _ => 0))
        case atStart => exact ⟨0, rfl, by omega, Hid.intro (Below.refl _ _)⟩
        case round =>
          obtain ⟨j, rfl, hj, BW⟩ := hrel
          have DS : (Tr.rdS f 0 (sz + j)).size = sz + j := Tr.rdS_size f 0 (sz + j)
          by_cases l1 : sz + j < p
          · have l1I : ((sz + j : Nat) : Int) < (p : Int) := by omega
            have NO := Hid.intro (Tr.rdS_nought f 0 (sz + j) (by rw [Nat.zero_add]; exact ZB.out (sz + j) (by omega) (by omega)))
            have B2 : Hid (∀ o, Below w.heap.size w (wr.alloc o)) := Hid.intro (fun o => BW.out.alloc BW.out.size o)
            obtain ⟨D, hD⟩ : ∃ D, Tr.rdS f 0 (sz + j) = D := ⟨_, rfl⟩
            rw [hD] at DS NO ⊢
            clear hD
            go_wp2_with (refine wpList_bytes_str rfl _ rfl ⟨wr.heap.size, 0, none⟩ 1 _ rfl [0] (load_one wr) ?_)
            go_roundw
            case rel => exact ⟨j + 1, by rw [NO.out]; rfl, by omega, Hid.intro (B2.out _)⟩
            case measure =>
              show p - (D ++ ByteArray.empty.push 0).size < p - D.size
              rw [NO.out, DS, Tr.rdS_size]
              omega
          · have l1I : decide (((sz + j : Nat) : Int) < (p : Int)) = false := decide_eq_false (by omega)
            have l1J : decide ((sz : Int) + (j : Int) < (p : Int)) = false := decide_eq_false (by omega)
            have l1N : decide (sz + j < p) = false := decide_eq_false l1
            obtain ⟨m, hm⟩ : ∃ m, sz + j = m := ⟨_, rfl⟩
            rw [hm] at DS l1I l1N ⊢
            have hmm : m = max sz p := by omega
            have CT : Hid ((Tr.rdS f 0 m).extract 0 p = Tr.rdS f 0 p ∧ (Tr.rdS f 0 m).extract (p + s.size) m = Tr.rdS f (p + s.size) (m - (p + s.size))) := Hid.intro ⟨by rw [Tr.rdS_cut f 0 m 0 p (by omega)]; rfl, by rw [Tr.rdS_cut f 0 m (p + s.size) m (Nat.le_refl _), Nat.zero_add]⟩
            have W0 := Hid.intro (WRT.out m hmm)
            have pm : p ≤ m := by omega
            have m40 : m ≤ 40 := by omega
            obtain ⟨b5, bf⟩ := CL.out wr BW.out
            have hwp : IntKind.i64.wrap ((p : Int) + (s.size : Int)) = (p : Int) + (s.size : Int) := IntWalk.i64_in _ ⟨by omega, by omega⟩
            obtain ⟨D, hD⟩ : ∃ D, Tr.rdS f 0 m = D := ⟨_, rfl⟩
            rw [hD] at DS CT ⊢
            clear hD hm l1J hmm l1
            by_cases l2 : p + s.size < m
            · have l2I : (p : Int) + (s.size : Int) < (m : Int) := by omega
              have FN := Hid.intro (FIN.out wr (D.extract 0 p ++ s ++ D.extract (p + s.size) m) BW.out (by rw [CT.out.1, CT.out.2, W0.out]))
              clear FIN WRT ZB
              go_wp2_with fail
              go_ret
              rw [EZH.out]
              exact ⟨rfl, FN.out⟩
            · have l2I : ¬ (p : Int) + (s.size : Int) < (m : Int) := by omega
              have FN := Hid.intro (FIN.out wr (D.extract 0 p ++ s ++ ⟨#[]⟩) BW.out (by
                have e := W0.out
                rw [show m - (p + s.size) = 0 by omega] at e
                rw [CT.out.1]
                exact e))
              clear FIN WRT ZB
              go_wp2_with fail
              go_ret
              rw [EZH.out]
              first | exact ⟨rfl, FN.out⟩ | (have e : ∀ x : ByteArray, x ++ ⟨#[]⟩ = x := fun x => by apply bytes_ext; simp
                                             rw [e] at FN
                                             exact ⟨rfl, FN.out⟩) | (trace_state; fail)
  · have E2 : Hid (Tr.wriE F z a s = Tr.isE F z 1 ∧ Tr.wriF F z a s = F) := Hid.intro (by
      have e : Tr.wriE F z a s = Tr.isE F z 1 := if_pos c
      exact ⟨e, by unfold Tr.wriF; rw [e, if_neg (fun k => c k.1)]⟩)
    have pos : 0 < Tr.isE F z 1 := by have := Tr.isE_nn F z 1; omega
    clear h c hz hzb hs
    go_enter Tryz.func44, Tryz.ntmps44
    go_wp2_with fail
    refine (ris_any B b 1 z F R rv _ HF.out).mono ?_
    rintro e w1 ⟨rfl, hw1⟩
    subst w1
    rw [EK.out]
    go_wp2_with fail
    go_ret
    rw [E2.out.1, E2.out.2]
    exact ⟨rfl, ⟨_, HF.out⟩, Frm.refl _ _⟩
end
end Go.Proofs.YthdadmbpnoofoaaGreatDoor
/- The document's own forest: Of. -/
namespace Go.Proofs.YthdadmbpnoofoaaGreatDoor
open Go.RowKit
open Tr (Fo Nd RN)

section
variable (B : Bs) (b : Nat) (F : Fo) (R : Nat → RN) (rv : Value) (w : World)
set_option maxRecDepth 100000 in
set_option maxHeartbeats 2000000 in
theorem rof_any (z : Int) (h : FR B w b F R rv) (hk : ∀ n, n < 40 → (F.nd n).kind ≤ 2) :
    Calls Tryz.prog 63 #[.pointer (some ⟨b, 0, none⟩), .int .i64 z] w fun e w' => e = .returned (.tuple #[.agg (ofA F z), .int .i64 (Tr.nodeE F z)]) ∧ Below w.heap.size w w' := by
  have HF : Hid (∀ o, FR B (w.alloc o) b F R rv ∧ Below w.heap.size w (w.alloc o)) := Hid.intro (fun o => by
    have bb : Below w.heap.size w (w.alloc o) := (Below.refl _ _).alloc (Nat.le_refl _) _
    exact ⟨h.below bb, bb⟩)
  have EK : Hid (Tr.isK F z 0 = Tr.nodeE F z) := Hid.intro rfl
  have HB : Hid (∀ W W', Below w.heap.size w W → Frm w.heap.size W W' → w.heap.size ≤ W.heap.size → Below w.heap.size w W') := Hid.intro (fun W W' h1 h2 h3 => h2.below h1 (Nat.le_refl _) h3)
  by_cases c : Tr.nodeE F z = 0
  · obtain ⟨n, rfl, n40, k0⟩ := Tr.nodeE_ok c
    have nI : (n : Int) < 40 := by omega
    obtain ⟨e1, e2, e3⟩ := (h.nd n n40).nm k0
    have ek := (h.nd n n40).kd
    obtain ⟨sz, hsz⟩ : ∃ sz, (F.nd n).size = sz := ⟨_, rfl⟩
    obtain ⟨kd, hkd⟩ : ∃ kd, (F.nd n).kind = kd := ⟨_, rfl⟩
    have E : Hid (Tr.nodeE F (n : Int) = 0 ∧ ofA F (n : Int) = #[.int .i64 (kd : Int), .int .i64 ((F.nd n).links : Int), .int .i64 ((F.nd n).held : Int), .int .i64 (sz : Int)]) := Hid.intro ⟨c, by unfold ofA; rw [if_pos c, Int.toNat_natCast, hsz, hkd]⟩
    have k12 : kd = 1 ∨ kd = 2 := by have := hk n n40; rw [hkd] at this k0; omega
    obtain ⟨⟨na, nl, nc, hns⟩, ka, kl, kc, hks⟩ := h.rb.sl n n40
    have SZ : Hid ((kd = 1 → (R n).data.size = sz) ∧ (kd = 2 → nl = sz)) := Hid.intro ⟨fun k => by
      rw [(h.nd n n40).fl (hkd.trans k), Tr.rdS_size, hsz], fun k => by
      obtain ⟨a, c, e, _⟩ := ((h.nd n n40).ns (hkd.trans k)).texts
      rw [Tr.lsN_len, hsz, hns] at e
      injection e⟩
    rw [hkd] at ek
    clear h c k0 hsz hkd hk
    go_enter Tryz.func63, Tryz.ntmps63
    go_wp2_with fail
    refine (ris_any B b 0 (n : Int) F R rv _ (HF.out _).1).mono ?_
    rintro e w1 ⟨rfl, hw1⟩
    have S1 : Hid (FR B w1 b F R rv ∧ Below w.heap.size w w1 ∧ w1.heap[w.heap.size]? = some (.cells #[.int .i64 0, .int .i64 0, .int .i64 0, .int .i64 0] 69 (0, 0))) := Hid.intro (by rw [hw1]; exact ⟨(HF.out _).1, (HF.out _).2, heap_alloc_new w _⟩)
    clear hw1
    rw [EK.out, E.out.1]
    have q0 := S1.out.1.rb.cKind n n40
    have q1 := S1.out.1.rb.cTree n n40
    have q2 := S1.out.1.rb.cLinks n n40
    have q3 := S1.out.1.rb.cHeld n n40
    have q4 := S1.out.1.rb.cUp n n40
    have q5 := S1.out.1.rb.cData n n40
    have q6 := S1.out.1.rb.cNs n n40
    have q7 := S1.out.1.rb.cKs n n40
    rw [ek] at q0
    rw [e2] at q2
    rw [e3] at q3
    rw [hns] at q6
    rw [hks] at q7
    clear e1 e2 e3 ek hns hks
    generalize (R n).data = dd at q5 SZ
    generalize (R n).tree = x1 at q1
    generalize (R n).up = x4 at q4
    generalize (F.nd n).links = x2 at q2 E
    generalize (F.nd n).held = x3 at q3 E
    go_upto_region 5 with fail
    refine wp_gen (fun W' => Below w.heap.size w W' ∧ W'.heap[w.heap.size]? = some (.cells #[.int .i64 0, .int .i64 0, .int .i64 0, .int .i64 0] 69 (0, 0)) ∧ W'.heap[w1.heap.size]? = some (.cells #[.int .i64 (kd : Int), .int .i64 (x1 : Int), .int .i64 (x2 : Int), .int .i64 (x3 : Int), .int .i64 (x4 : Int), .string dd, .slice na nl nc, .slice ka kl kc] 31 (0, 0))) (by
      have bb : Below w1.heap.size w1 (w1.alloc (.cells #[.int .i64 (kd : Int), .int .i64 (x1 : Int), .int .i64 (x2 : Int), .int .i64 (x3 : Int), .int .i64 (x4 : Int), .string dd, .slice na nl nc, .slice ka kl kc] 31)) := (Below.refl _ _).alloc (Nat.le_refl _) _
      exact ⟨S1.out.2.1.trans (bb.mono S1.out.2.1.size), (bb.block _ (Array.getElem?_eq_some_iff.1 S1.out.2.2).1).trans S1.out.2.2, heap_alloc_new w1 _⟩) ?_
    rintro W2 ⟨hb2, hn2, hx2⟩
    have B2 := Hid.intro hb2
    have lt2 : Hid (w.heap.size < W2.heap.size) := Hid.intro (Array.getElem?_eq_some_iff.1 hn2).1
    generalize w1.heap.size = c1 at hx2 ⊢
    have p0 : W2.cell? ⟨c1, 0, none⟩ = some (.int .i64 (kd : Int)) := by rw [cell_blk hx2]; rfl
    have p2 : W2.cell? ⟨c1, 2, none⟩ = some (.int .i64 (x2 : Int)) := by rw [cell_blk hx2]; rfl
    have p3 : W2.cell? ⟨c1, 3, none⟩ = some (.int .i64 (x3 : Int)) := by rw [cell_blk hx2]; rfl
    have p5 : W2.cell? ⟨c1, 5, none⟩ = some (.string dd) := by rw [cell_blk hx2]; rfl
    have p6 : W2.cell? ⟨c1, 6, none⟩ = some (.slice na nl nc) := by rw [cell_blk hx2]; rfl
    clear hb2 S1 q0 q1 q2 q3 q4 q5 q6 q7 hx2 HF
    generalize hcc : w.heap.size = cc at *
    have y0 : W2.cell? ⟨cc, 0, none⟩ = some (.int .i64 0) := by rw [cell_blk hn2]; rfl
    have y1 : W2.cell? ⟨cc, 1, none⟩ = some (.int .i64 0) := by rw [cell_blk hn2]; rfl
    have y2 : W2.cell? ⟨cc, 2, none⟩ = some (.int .i64 0) := by rw [cell_blk hn2]; rfl
    have y3 : W2.cell? ⟨cc, 3, none⟩ = some (.int .i64 0) := by rw [cell_blk hn2]; rfl
    have yf : ∀ o, W2.frozen? ⟨cc, o, none⟩ = false := fun o => frozen_blk hn2 o
    have S2 : Hid (((((W2.setCell ⟨cc, 0, none⟩ (.int .i64 (kd : Int))).setCell ⟨cc, 1, none⟩ (.int .i64 (x2 : Int))).setCell ⟨cc, 2, none⟩ (.int .i64 (x3 : Int))).setCell ⟨cc, 3, none⟩ (.int .i64 (sz : Int))).heap[cc]? = some (.cells #[.int .i64 (kd : Int), .int .i64 (x2 : Int), .int .i64 (x3 : Int), .int .i64 (sz : Int)] 69 (0, 0)) ∧ Below cc w ((((W2.setCell ⟨cc, 0, none⟩ (.int .i64 (kd : Int))).setCell ⟨cc, 1, none⟩ (.int .i64 (x2 : Int))).setCell ⟨cc, 2, none⟩ (.int .i64 (x3 : Int))).setCell ⟨cc, 3, none⟩ (.int .i64 (sz : Int)))) := Hid.intro
      ⟨blk_set (blk_set (blk_set (blk_set hn2 0 _) 1 _) 2 _) 3 _, HB.out W2 _ B2.out ((((((Frm.refl cc W2).setCell _ _).setCell _ _).setCell _ _).setCell _ _)) (Nat.le_of_lt lt2.out)⟩
    clear hn2
    rcases k12 with rfl | rfl
    · have z1 := SZ.out.1 rfl
      have z1I : ((dd.size : Nat) : Int) = (sz : Int) := by rw [z1]
      clear SZ z1
      go_wp2_with fail
      generalize hWF : (((W2.setCell ⟨cc, 0, none⟩ (.int .i64 1)).setCell ⟨cc, 1, none⟩ (.int .i64 (x2 : Int))).setCell ⟨cc, 2, none⟩ (.int .i64 (x3 : Int))).setCell ⟨cc, 3, none⟩ (.int .i64 (sz : Int)) = WF at S2 ⊢
      have v1 : WF.cell? ⟨cc, 0, none⟩ = some (.int .i64 1) := by rw [cell_blk S2.out.1]; rfl
      have v2 : WF.cell? ⟨cc, 1, none⟩ = some (.int .i64 (x2 : Int)) := by rw [cell_blk S2.out.1]; rfl
      have v3 : WF.cell? ⟨cc, 2, none⟩ = some (.int .i64 (x3 : Int)) := by rw [cell_blk S2.out.1]; rfl
      have v4 : WF.cell? ⟨cc, 3, none⟩ = some (.int .i64 (sz : Int)) := by rw [cell_blk S2.out.1]; rfl
      refine bodyPost_ret (v := .tuple #[.agg #[.int .i64 1, .int .i64 (x2 : Int), .int .i64 (x3 : Int), .int .i64 (sz : Int)], .int .i64 0]) (by simp [results, Tryz.f63, go_sem, v1, v2, v3, v4]) rfl ?_
      rw [E.out.1, E.out.2]
      subst hcc
      exact ⟨rfl, S2.out.2⟩
    · have z1 := SZ.out.2 rfl
      subst z1
      clear SZ
      go_wp2_with fail
      generalize hWF : (((W2.setCell ⟨cc, 0, none⟩ (.int .i64 2)).setCell ⟨cc, 1, none⟩ (.int .i64 (x2 : Int))).setCell ⟨cc, 2, none⟩ (.int .i64 (x3 : Int))).setCell ⟨cc, 3, none⟩ (.int .i64 (nl : Int)) = WF at S2 ⊢
      have v1 : WF.cell? ⟨cc, 0, none⟩ = some (.int .i64 2) := by rw [cell_blk S2.out.1]; rfl
      have v2 : WF.cell? ⟨cc, 1, none⟩ = some (.int .i64 (x2 : Int)) := by rw [cell_blk S2.out.1]; rfl
      have v3 : WF.cell? ⟨cc, 2, none⟩ = some (.int .i64 (x3 : Int)) := by rw [cell_blk S2.out.1]; rfl
      have v4 : WF.cell? ⟨cc, 3, none⟩ = some (.int .i64 (nl : Int)) := by rw [cell_blk S2.out.1]; rfl
      refine bodyPost_ret (v := .tuple #[.agg #[.int .i64 2, .int .i64 (x2 : Int), .int .i64 (x3 : Int), .int .i64 (nl : Int)], .int .i64 0]) (by simp [results, Tryz.f63, go_sem, v1, v2, v3, v4]) rfl ?_
      rw [E.out.1, E.out.2]
      subst hcc
      exact ⟨rfl, S2.out.2⟩
  · have E : Hid (ofA F z = #[.int .i64 0, .int .i64 0, .int .i64 0, .int .i64 0]) := Hid.intro (by unfold ofA; rw [if_neg c])
    have pos : 0 < Tr.nodeE F z := by rcases Tr.nodeE_cases F z with e | e | e <;> omega
    clear h c hk
    go_enter Tryz.func63, Tryz.ntmps63
    go_wp2_with fail
    refine (ris_any B b 0 z F R rv _ (HF.out _).1).mono ?_
    rintro e w1 ⟨rfl, hw1⟩
    have S1 : Hid (Below w.heap.size w w1) := Hid.intro (by rw [hw1]; exact (HF.out _).2)
    have N1 : w1.heap[w.heap.size]? = some (.cells #[.int .i64 0, .int .i64 0, .int .i64 0, .int .i64 0] 69 (0, 0)) := by rw [hw1]; exact heap_alloc_new w _
    clear hw1
    rw [EK.out]
    have hlt2 : Hid (w.heap.size < w1.heap.size) := Hid.intro (Array.getElem?_eq_some_iff.1 N1).1
    generalize hcc : w.heap.size = cc at *
    have x1 : w1.cell? ⟨cc, 0, none⟩ = some (.int .i64 0) := by rw [cell_blk N1]; rfl
    have x2 : w1.cell? ⟨cc, 1, none⟩ = some (.int .i64 0) := by rw [cell_blk N1]; rfl
    have x3 : w1.cell? ⟨cc, 2, none⟩ = some (.int .i64 0) := by rw [cell_blk N1]; rfl
    have x4 : w1.cell? ⟨cc, 3, none⟩ = some (.int .i64 0) := by rw [cell_blk N1]; rfl
    have xf : ∀ o, w1.frozen? ⟨cc, o, none⟩ = false := fun o => frozen_blk N1 o
    have S2 : Hid (((((w1.setCell ⟨cc, 0, none⟩ (.int .i64 0)).setCell ⟨cc, 1, none⟩ (.int .i64 0)).setCell ⟨cc, 2, none⟩ (.int .i64 0)).setCell ⟨cc, 3, none⟩ (.int .i64 0)).heap[cc]? = some (.cells #[.int .i64 0, .int .i64 0, .int .i64 0, .int .i64 0] 69 (0, 0)) ∧ Below cc w ((((w1.setCell ⟨cc, 0, none⟩ (.int .i64 0)).setCell ⟨cc, 1, none⟩ (.int .i64 0)).setCell ⟨cc, 2, none⟩ (.int .i64 0)).setCell ⟨cc, 3, none⟩ (.int .i64 0))) := Hid.intro
      ⟨blk_set (blk_set (blk_set (blk_set N1 0 _) 1 _) 2 _) 3 _, HB.out w1 _ S1.out ((((((Frm.refl cc w1).setCell _ _).setCell _ _).setCell _ _).setCell _ _)) (Nat.le_of_lt hlt2.out)⟩
    clear N1
    go_wp2_with fail
    generalize hWF : (((w1.setCell ⟨cc, 0, none⟩ (.int .i64 0)).setCell ⟨cc, 1, none⟩ (.int .i64 0)).setCell ⟨cc, 2, none⟩ (.int .i64 0)).setCell ⟨cc, 3, none⟩ (.int .i64 0) = WF at S2 ⊢
    have y1 : WF.cell? ⟨cc, 0, none⟩ = some (.int .i64 0) := by rw [cell_blk S2.out.1]; rfl
    have y2 : WF.cell? ⟨cc, 1, none⟩ = some (.int .i64 0) := by rw [cell_blk S2.out.1]; rfl
    have y3 : WF.cell? ⟨cc, 2, none⟩ = some (.int .i64 0) := by rw [cell_blk S2.out.1]; rfl
    have y4 : WF.cell? ⟨cc, 3, none⟩ = some (.int .i64 0) := by rw [cell_blk S2.out.1]; rfl
    refine bodyPost_ret (v := .tuple #[.agg #[.int .i64 0, .int .i64 0, .int .i64 0, .int .i64 0], .int .i64 (Tr.nodeE F z)]) (by simp [results, Tryz.f63, go_sem, y1, y2, y3, y4]) rfl ?_
    rw [E.out]
    subst hcc
    exact ⟨rfl, S2.out.2⟩
end
end Go.Proofs.YthdadmbpnoofoaaGreatDoor

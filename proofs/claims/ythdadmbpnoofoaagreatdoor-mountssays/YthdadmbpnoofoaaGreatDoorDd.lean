/- The document's own mounts: Walk, Last, Raw. -/
import Derived.Test.YthdadmbpnoofoaaGreatDoorDc
import Derived.StillTailTactics
namespace Go.Proofs.YthdadmbpnoofoaaGreatDoor
open Go.RowKit
open Tr (Fo Nd)
open Mo (Wh Mt Tb)

theorem Mo.LasTo.nn {F : Fo} {T : Tb} {p : ByteArray} {x : Wh} {s : ByteArray} {E : Int} (h : Mo.LasTo F T p x s E) : 0 ≤ E := by
  rcases h with ⟨_, _, _, e⟩ | ⟨_, _, _, _, e⟩ | ⟨_, _, _, _, _, _, h, _⟩
  · rw [e]; exact Mo.splE_nn p
  · omega
  · exact h.nn
set_option maxRecDepth 100000 in
set_option maxHeartbeats 2000000 in
theorem rwalk_any (base b f : Nat) (T : Tb) (v : Value) (B : Bs) (F : Fo) (RQ : Nat → Tr.RN) (rv : Value) (p : ByteArray) (w : World) (h : RT w base b f T v) (hF : FR B w f F RQ rv) (hs : Tr.Ok F) :
    Calls Tryz.prog 51 #[.pointer (some ⟨b, 0, none⟩), .string p] w fun e w' => ∃ (x : Wh) (E : Int), e = .returned (.tuple #[.agg #[.int .i64 x.1, .int .i64 x.2], .int .i64 E]) ∧ Mo.WalTo F T p x E ∧ Below w.heap.size w w' := by
  have HT := Hid.intro (And.intro h (And.intro hF hs))
  clear h hF hs
  go_enter Tryz.func51, Tryz.ntmps51
  go_upto_region 1 with fail
  refine wp_gen (fun W' => WB W' w.heap.size (0, 0) ∧ Below w.heap.size w W') (box1 w) ?_
  rintro W1 h1
  have S1 := Hid.intro h1
  clear h1
  go_wp2_with fail
  refine (rnames_any p _).mono ?_
  rintro e W2 ⟨vn, rfl, n2, b2⟩
  have S2 : Hid (WB W2 w.heap.size (0, 0) ∧ Below w.heap.size w W2 ∧ NS W2 vn (Mo.splN p)) := Hid.intro ⟨S1.out.1.below b2, S1.out.2.trans (b2.mono S1.out.2.size), n2⟩
  clear n2 b2 S1
  by_cases e0 : Mo.splE p = 0
  · have E0 := Hid.intro e0
    rw [e0]
    clear e0
    go_wp2_with fail
    refine (rled_any base b f T v B F RQ rv vn (Mo.splN p) _ (HT.out.1.below S2.out.2.1) (HT.out.2.1.below S2.out.2.1) HT.out.2.2 S2.out.2.2 (Mo.splN_len p)).mono ?_
    rintro e W3 ⟨W, E, rfl, hw, b3⟩
    have S3 : Hid (WB W3 w.heap.size (0, 0) ∧ Below w.heap.size w W3 ∧ Mo.WalTo F T p (Mo.lst W) E) := Hid.intro ⟨S2.out.1.below b3, S2.out.2.1.trans (b3.mono S2.out.2.1.size), .inr ⟨E0.out, W, hw, rfl⟩⟩
    clear hw b3 S2
    obtain ⟨y, hy⟩ : ∃ y, Mo.lst W = y := ⟨_, rfl⟩
    obtain ⟨rx, hrx⟩ : ∃ rx, w.heap.size = rx := ⟨_, rfl⟩
    obtain ⟨ev, hev⟩ : ∃ ev, Value.int .i64 E = ev := ⟨_, rfl⟩
    have HX := Hid.intro (And.intro hrx hev)
    rw [hy, hrx] at S3
    rw [hy, hrx, hev]
    clear hy hrx hev
    have y0 := S3.out.1.c0
    have y1 := S3.out.1.c1
    have yf := S3.out.1.fz
    have R := Hid.intro (S3.out.1.fin S3.out.2.1 HX.out.1 y)
    go_wp2_with fail
    generalize hWF : (W3.setCell ⟨rx, 0, none⟩ (.int .i64 y.1)).setCell ⟨rx, 1, none⟩ (.int .i64 y.2) = WF at R ⊢
    have z0 := R.out.1.c0
    have z1 := R.out.1.c1
    refine bodyPost_ret (v := .tuple #[.agg #[.int .i64 y.1, .int .i64 y.2], ev]) (by simp [results, Tryz.f51, go_sem, z0, z1]) rfl ?_
    refine ⟨y, E, by rw [HX.out.2], S3.out.2.2, by rw [HX.out.1]; exact R.out.2⟩
  · have FIN : Hid (Mo.WalTo F T p (0, 0) (Mo.splE p) ∧ 0 < Mo.splE p) := Hid.intro ⟨.inl ⟨e0, rfl, rfl⟩, by have := Mo.splE_nn p; omega⟩
    have pos := FIN.out.2
    clear e0
    obtain ⟨rx, hrx⟩ : ∃ rx, w.heap.size = rx := ⟨_, rfl⟩
    have HX := Hid.intro hrx
    rw [hrx] at S2 ⊢
    clear hrx
    have y0 := S2.out.1.c0
    have y1 := S2.out.1.c1
    have yf := S2.out.1.fz
    have R := Hid.intro (S2.out.1.fin S2.out.2.1 HX.out (0, 0))
    go_wp2_with fail
    generalize hWF : (W2.setCell ⟨rx, 0, none⟩ (.int .i64 0)).setCell ⟨rx, 1, none⟩ (.int .i64 0) = WF at R ⊢
    have z0 := R.out.1.c0
    have z1 := R.out.1.c1
    refine bodyPost_ret (v := .tuple #[.agg #[.int .i64 0, .int .i64 0], .int .i64 (Mo.splE p)]) (by simp [results, Tryz.f51, go_sem, z0, z1]) rfl ?_
    refine ⟨(0, 0), Mo.splE p, rfl, FIN.out.1, by rw [HX.out]; exact R.out.2⟩
set_option maxRecDepth 100000 in
set_option maxHeartbeats 4000000 in
theorem rlast_any (base b f : Nat) (T : Tb) (v : Value) (B : Bs) (F : Fo) (RQ : Nat → Tr.RN) (rv : Value) (p : ByteArray) (w : World) (h : RT w base b f T v) (hF : FR B w f F RQ rv) (hs : Tr.Ok F) :
    Calls Tryz.prog 58 #[.pointer (some ⟨b, 0, none⟩), .string p] w fun e w' => ∃ (x : Wh) (s : ByteArray) (E : Int), e = .returned (.tuple #[.agg #[.int .i64 x.1, .int .i64 x.2], .string s, .int .i64 E]) ∧ Mo.LasTo F T p x s E ∧ Below w.heap.size w w' := by
  have HT := Hid.intro (And.intro h (And.intro hF hs))
  have NL := Mo.splN_len p
  clear h hF hs
  go_enter Tryz.func58, Tryz.ntmps58
  go_upto_region 1 with fail
  refine wp_gen (fun W' => WB W' w.heap.size (0, 0) ∧ Below w.heap.size w W') (box1 w) ?_
  rintro W1 h1
  have S1 := Hid.intro h1
  clear h1
  go_wp2_with fail
  refine (rnames_any p _).mono ?_
  rintro e W2 ⟨vn, rfl, n2, b2⟩
  have S2 : Hid (WB W2 w.heap.size (0, 0) ∧ Below w.heap.size w W2 ∧ NS W2 vn (Mo.splN p)) := Hid.intro ⟨S1.out.1.below b2, S1.out.2.trans (b2.mono S1.out.2.size), n2⟩
  clear n2 b2 S1
  obtain ⟨rx, hrx⟩ : ∃ rx, w.heap.size = rx := ⟨_, rfl⟩
  have HRX := Hid.intro hrx
  have LE : Hid (∀ W, Below rx w W → rx ≤ W.heap.size ∧ RT W base b f T v ∧ FR B W f F RQ rv) := Hid.intro (fun W h => by
    have e := h.size
    subst hrx
    exact ⟨e, HT.out.1.below h, HT.out.2.1.below h⟩)
  rw [hrx] at S2 ⊢
  clear hrx
  by_cases e0 : Mo.splE p = 0
  · have E0 := Hid.intro e0
    rw [e0]
    clear e0
    obtain ⟨na, nc, hvn, hnc, _⟩ := S2.out.2.2
    subst hvn
    rcases List.eq_nil_or_concat (Mo.splN p) with hn | ⟨l, t, hn⟩
    · have FIN : Hid (Mo.LasTo F T p (0, 0) ⟨#[]⟩ 9) := Hid.intro (.inr (.inl ⟨E0.out, .inl hn, rfl, rfl, rfl⟩))
      rw [hn] at S2 ⊢
      rw [show ([] : List ByteArray).length = 0 from rfl]
      clear hn NL hnc
      have w1 : IntKind.i64.wrap (((0 : Nat) : Int) - 1) = -1 := by decide
      have y0 := S2.out.1.c0
      have y1 := S2.out.1.c1
      have yf := S2.out.1.fz
      have R := Hid.intro (S2.out.1.fin S2.out.2.1 HRX.out (0, 0))
      go_wp2_with fail
      generalize hWF : (W2.setCell ⟨rx, 0, none⟩ (.int .i64 0)).setCell ⟨rx, 1, none⟩ (.int .i64 0) = WF at R ⊢
      have z0 := R.out.1.c0
      have z1 := R.out.1.c1
      refine bodyPost_ret (v := .tuple #[.agg #[.int .i64 0, .int .i64 0], .string ⟨#[]⟩, .int .i64 9]) (by simp [results, Tryz.f58, go_sem, z0, z1]) rfl ?_
      refine ⟨(0, 0), ⟨#[]⟩, 9, rfl, FIN.out, by rw [HRX.out]; exact R.out.2⟩
    · have LN : (Mo.splN p).length = l.length + 1 := by rw [hn]; simp
      have HN := Hid.intro hn
      rw [LN] at NL hnc S2 ⊢
      obtain ⟨k, hk⟩ : ∃ k, l.length = k := ⟨_, rfl⟩
      have HK := Hid.intro hk
      rw [hk] at NL hnc S2 ⊢
      have k100 : k ≤ 100 := by omega
      obtain ⟨nb, no, hna, ct⟩ : ∃ nb no, na = some ⟨nb, no, none⟩ ∧ ∀ W, NS W (.slice na (k + 1) nc) (Mo.splN p) → W.cell? ⟨nb, no + k, none⟩ = some (.string t) := by
        obtain ⟨a', c', e, _, hx⟩ := S2.out.2.2
        simp only [Value.slice.injEq] at e
        obtain ⟨rfl, _, rfl⟩ := e
        obtain ⟨nb, no, ha, _⟩ := hx (by rw [hn]; simp)
        refine ⟨nb, no, ha, fun W hW => ?_⟩
        obtain ⟨a'', c'', e', _, hx'⟩ := hW
        simp only [Value.slice.injEq] at e'
        obtain ⟨rfl, _, rfl⟩ := e'
        obtain ⟨nb', no', ha', hc'⟩ := hx' (by rw [hn]; simp)
        rw [ha] at ha'
        cases ha'
        exact hc' k t (by rw [hn, ← hk]; simp)
      have CT := Hid.intro ct
      subst hna
      have cc := CT.out _ S2.out.2.2
      have hw2 : IntKind.i64.wrap (((k + 1 : Nat) : Int) - 1) = (k : Int) := by rw [IntWalk.i64_in _ ⟨by omega, by omega⟩]; omega
      have k0 : (((k + 1 : Nat) : Int) == 0) = false := by simp; omega
      clear LN hn hk ct
      by_cases bt : (t.toList == [46, 46]) = true
      · have FIN : Hid (Mo.LasTo F T p (0, 0) ⟨#[]⟩ 9) := Hid.intro (.inr (.inl ⟨E0.out, .inr ⟨l, t, by rw [HN.out]; simp, bt⟩, rfl, rfl, rfl⟩))
        have y0 := S2.out.1.c0
        have y1 := S2.out.1.c1
        have yf := S2.out.1.fz
        have R := Hid.intro (S2.out.1.fin S2.out.2.1 HRX.out (0, 0))
        go_wp2_with fail
        generalize hWF : (W2.setCell ⟨rx, 0, none⟩ (.int .i64 0)).setCell ⟨rx, 1, none⟩ (.int .i64 0) = WF at R ⊢
        have z0 := R.out.1.c0
        have z1 := R.out.1.c1
        refine bodyPost_ret (v := .tuple #[.agg #[.int .i64 0, .int .i64 0], .string ⟨#[]⟩, .int .i64 9]) (by simp [results, Tryz.f58, go_sem, z0, z1]) rfl ?_
        refine ⟨(0, 0), ⟨#[]⟩, 9, rfl, FIN.out, by rw [HRX.out]; exact R.out.2⟩
      · have bt' : (t.toList == [46, 46]) = false := by simpa using bt
        clear bt
        have nk : (k : Int) ≤ (nc : Int) := by omega
        have NC : Hid (∀ W, NS W (.slice (some ⟨nb, no, none⟩) (k + 1) nc) (Mo.splN p) → NS W (.slice (some ⟨nb, no, none⟩) k nc) l) := Hid.intro (fun W hW => by
          rw [show Mo.splN p = l ++ [t] by rw [HN.out]; simp] at hW
          have := hW.cut
          rw [HK.out] at this
          exact this)
        go_wp2_with fail
        refine (rled_any base b f T v B F RQ rv (.slice (some ⟨nb, no, none⟩) k nc) l _ (LE.out _ S2.out.2.1).2.1 (LE.out _ S2.out.2.1).2.2 HT.out.2.2 (NC.out _ S2.out.2.2) (by rw [HK.out]; omega)).mono ?_
        rintro e W3 ⟨W, E, rfl, hw, b3⟩
        have S3 : Hid (WB W3 rx (0, 0) ∧ Below rx w W3 ∧ NS W3 (.slice (some ⟨nb, no, none⟩) (k + 1) nc) (Mo.splN p)) := Hid.intro ⟨S2.out.1.below b3, S2.out.2.1.trans (b3.mono (LE.out _ S2.out.2.1).1), S2.out.2.2.below b3⟩
        have HW := Hid.intro hw
        clear hw b3 S2 cc
        obtain ⟨y, hy⟩ : ∃ y, Mo.lst W = y := ⟨_, rfl⟩
        have HY := Hid.intro hy
        rw [hy]
        clear hy
        by_cases e1 : E = 0
        · subst e1
          go_upto_region 8 with fail
          refine wp_gen (fun W' => WB W' W3.heap.size y ∧ Below W3.heap.size W3 W') ⟨heap_alloc_new W3 _, (Below.refl _ _).alloc (Nat.le_refl _) _⟩ ?_
          rintro W4 ⟨n4, b4⟩
          have S4 : Hid (WB W4 rx (0, 0) ∧ Below rx w W4 ∧ NS W4 (.slice (some ⟨nb, no, none⟩) (k + 1) nc) (Mo.splN p)) := Hid.intro ⟨S3.out.1.below b4, S3.out.2.1.trans (b4.mono (LE.out _ S3.out.2.1).1), S3.out.2.2.below b4⟩
          have n0 := n4.c0
          have n1 := n4.c1
          have ne4 : rx ≠ W3.heap.size := by have := S3.out.1.lt; omega
          have FIN : Hid (Mo.LasTo F T p y t 0) := Hid.intro (.inr (.inr ⟨E0.out, l, t, by rw [HN.out]; simp, bt', W, HW.out, .inr ⟨rfl, HY.out.symm, rfl⟩⟩))
          have cc := CT.out _ S4.out.2.2
          have nf := n4.fz
          clear b4 S3 HW
          generalize W3.heap.size = nx at *
          have y0 := S4.out.1.c0
          have y1 := S4.out.1.c1
          have yf := S4.out.1.fz
          have R := Hid.intro (And.intro (S4.out.1.fin S4.out.2.1 HRX.out y).1.drew (S4.out.1.fin S4.out.2.1 HRX.out y).2.drew)
          have nbne : nb ≠ rx := fun e => by
            subst e
            have h := S4.out.1
            rw [cell_blk h] at cc
            match hq : no + k, cc with
            | 0, cc => simp at cc
            | 1, cc => simp at cc
            | n + 2, cc => simp at cc
          have nbne' : rx ≠ nb := Ne.symm nbne
          have ne5 : nx ≠ rx := Ne.symm ne4
          go_upto_region 10 with fail
          go_region
          go_wp2_with fail
          generalize hWF : ((W4.setCell ⟨rx, 0, none⟩ (.int .i64 y.1)).setCell ⟨rx, 1, none⟩ (.int .i64 y.2)).drew = WF at R ⊢
          have z0 := R.out.1.c0
          have z1 := R.out.1.c1
          refine bodyPost_ret (v := .tuple #[.agg #[.int .i64 y.1, .int .i64 y.2], .string t, .int .i64 0]) (by simp [results, Tryz.f58, go_sem, z0, z1]) rfl ?_
          exact ⟨y.1, y.2, t, 0, rfl, FIN.out, by rw [HRX.out]; exact R.out.2⟩
        · have FIN : Hid (Mo.LasTo F T p (0, 0) ⟨#[]⟩ E ∧ 0 < E) := Hid.intro ⟨.inr (.inr ⟨E0.out, l, t, by rw [HN.out]; simp, bt', W, HW.out, .inl ⟨e1, rfl, rfl⟩⟩), by have := HW.out.nn; omega⟩
          have pos := FIN.out.2
          clear e1
          go_upto_region 8 with fail
          refine wp_gen (fun W' => Below W3.heap.size W3 W') ((Below.refl _ _).alloc (Nat.le_refl _) _) ?_
          rintro W4 b4
          have S4 : Hid (WB W4 rx (0, 0) ∧ Below rx w W4) := Hid.intro ⟨S3.out.1.below b4, S3.out.2.1.trans (b4.mono (LE.out _ S3.out.2.1).1)⟩
          clear b4 S3
          generalize W3.heap.size = nx at *
          have y0 := S4.out.1.c0
          have y1 := S4.out.1.c1
          have yf := S4.out.1.fz
          have R := Hid.intro (S4.out.1.fin S4.out.2 HRX.out (0, 0))
          go_wp2_with fail
          generalize hWF : (W4.setCell ⟨rx, 0, none⟩ (.int .i64 0)).setCell ⟨rx, 1, none⟩ (.int .i64 0) = WF at R ⊢
          have z0 := R.out.1.c0
          have z1 := R.out.1.c1
          refine bodyPost_ret (v := .tuple #[.agg #[.int .i64 0, .int .i64 0], .string ⟨#[]⟩, .int .i64 E]) (by simp [results, Tryz.f58, go_sem, z0, z1]) rfl ?_
          exact ⟨0, 0, ⟨#[]⟩, E, rfl, FIN.out.1, by rw [HRX.out]; exact R.out.2⟩
  · have FIN : Hid (Mo.LasTo F T p (0, 0) ⟨#[]⟩ (Mo.splE p) ∧ 0 < Mo.splE p) := Hid.intro ⟨.inl ⟨e0, rfl, rfl, rfl⟩, by have := Mo.splE_nn p; omega⟩
    have pos := FIN.out.2
    clear e0
    have y0 := S2.out.1.c0
    have y1 := S2.out.1.c1
    have yf := S2.out.1.fz
    have R := Hid.intro (S2.out.1.fin S2.out.2.1 HRX.out (0, 0))
    go_wp2_with fail
    generalize hWF : (W2.setCell ⟨rx, 0, none⟩ (.int .i64 0)).setCell ⟨rx, 1, none⟩ (.int .i64 0) = WF at R ⊢
    have z0 := R.out.1.c0
    have z1 := R.out.1.c1
    refine bodyPost_ret (v := .tuple #[.agg #[.int .i64 0, .int .i64 0], .string ⟨#[]⟩, .int .i64 (Mo.splE p)]) (by simp [results, Tryz.f58, go_sem, z0, z1]) rfl ?_
    refine ⟨(0, 0), ⟨#[]⟩, Mo.splE p, rfl, FIN.out.1, by rw [HRX.out]; exact R.out.2⟩
set_option maxRecDepth 100000 in
set_option maxHeartbeats 2000000 in
theorem rraw_any (base b f : Nat) (T : Tb) (v : Value) (B : Bs) (F : Fo) (RQ : Nat → Tr.RN) (rv : Value) (p : ByteArray) (w : World) (h : RT w base b f T v) (hF : FR B w f F RQ rv) (hs : Tr.Ok F) :
    Calls Tryz.prog 50 #[.pointer (some ⟨b, 0, none⟩), .string p] w fun e w' => ∃ (x : Wh) (E : Int), e = .returned (.tuple #[.agg #[.int .i64 x.1, .int .i64 x.2], .int .i64 E]) ∧ Mo.RawTo F T p x E ∧ Below w.heap.size w w' := by
  have HT := Hid.intro (And.intro h (And.intro hF hs))
  clear h hF hs
  go_enter Tryz.func50, Tryz.ntmps50
  go_upto_region 1 with fail
  refine wp_gen (fun W' => WB W' w.heap.size (0, 0) ∧ Below w.heap.size w W') (box1 w) ?_
  rintro W1 h1
  have S1 := Hid.intro h1
  clear h1
  obtain ⟨rx, hrx⟩ : ∃ rx, w.heap.size = rx := ⟨_, rfl⟩
  have HRX := Hid.intro hrx
  have LE : Hid (∀ W, Below rx w W → rx ≤ W.heap.size ∧ RT W base b f T v ∧ FR B W f F RQ rv) := Hid.intro (fun W h => by
    have e := h.size
    subst hrx
    exact ⟨e, HT.out.1.below h, HT.out.2.1.below h⟩)
  rw [hrx] at S1 ⊢
  clear hrx
  by_cases p1 : (p.toList == [47]) = true
  · have FIN : Hid (Mo.RawTo F T p T.rt 0) := Hid.intro (.inl ⟨p1, rfl, rfl⟩)
    have t1 := (LE.out _ S1.out.2).2.1.c1
    have t2 := (LE.out _ S1.out.2).2.1.c2
    have y0 := S1.out.1.c0
    have y1 := S1.out.1.c1
    have yf := S1.out.1.fz
    obtain ⟨y, hy⟩ : ∃ y, T.rt = y := ⟨_, rfl⟩
    rw [hy] at t1 t2 FIN
    clear hy
    have R := Hid.intro (S1.out.1.fin S1.out.2 HRX.out y)
    go_wp2_with fail
    generalize hWF : (W1.setCell ⟨rx, 0, none⟩ (.int .i64 y.1)).setCell ⟨rx, 1, none⟩ (.int .i64 y.2) = WF at R ⊢
    have z0 := R.out.1.c0
    have z1 := R.out.1.c1
    refine bodyPost_ret (v := .tuple #[.agg #[.int .i64 y.1, .int .i64 y.2], .int .i64 0]) (by simp [results, Tryz.f50, go_sem, z0, z1]) rfl ?_
    first | exact ⟨y, 0, rfl, FIN.out, by rw [HRX.out]; exact R.out.2⟩ | exact ⟨y.1, y.2, 0, rfl, FIN.out, by rw [HRX.out]; exact R.out.2⟩
  · have p1' : (p.toList == [47]) = false := by simpa using p1
    clear p1
    go_wp2_with fail
    refine (rlast_any base b f T v B F RQ rv p _ (LE.out _ S1.out.2).2.1 (LE.out _ S1.out.2).2.2 HT.out.2.2).mono ?_
    rintro e W2 ⟨x, s, E, rfl, hl, b2⟩
    have S2 : Hid (WB W2 rx (0, 0) ∧ Below rx w W2) := Hid.intro ⟨S1.out.1.below b2, S1.out.2.trans (b2.mono (LE.out _ S1.out.2).1)⟩
    have HL := Hid.intro hl
    clear hl b2 S1
    by_cases e0 : E = 0
    · subst e0
      go_upto_region 4 with fail
      refine wp_gen (fun W' => WB W' W2.heap.size x ∧ Below W2.heap.size W2 W') ⟨heap_alloc_new W2 _, (Below.refl _ _).alloc (Nat.le_refl _) _⟩ ?_
      rintro W3 ⟨n3, b3⟩
      have S3 : Hid (WB W3 rx (0, 0) ∧ Below rx w W3) := Hid.intro ⟨S2.out.1.below b3, S2.out.2.trans (b3.mono (LE.out _ S2.out.2).1)⟩
      have n0 := n3.c0
      have n1 := n3.c1
      have N3 := Hid.intro n3
      clear n3 b3 S2
      generalize W2.heap.size = nx at *
      obtain ⟨K, E, hf⟩ := Tr.FndTo.ex F x.2 s
      have e0' := hf.nn
      have HFD := Hid.intro hf
      have RF : Hid (∀ q, Calls Tryz.prog 40 #[.pointer (some ⟨f, 0, none⟩), .int .i64 x.2, .string s] (W3.drewN q) fun e w' => e = .returned (.tuple #[.int .i64 (K : Int), .int .i64 E]) ∧ w' = W3.drewN q) := Hid.intro (fun q => (rfind_any B f F RQ rv _ x.2 s ((LE.out _ S3.out.2).2.2.drewN q) HT.out.2.2).mono (fun e w' ⟨K', E', he, hf', hw⟩ => by
        obtain ⟨rfl, rfl⟩ := Tr.FndTo.unique hf' HFD.out
        exact ⟨he, hw⟩))
      have t0 := (LE.out _ S3.out.2).2.1.c0
      clear hf
      go_wp2_with fail
      go_quiet ((go_at_call 40; exact Calls.quiet_of_same (RF.out _)))
      go_upto_region 7 with fail
      refine wp_gen (fun W' => WB W' rx (0, 0) ∧ Below rx w W' ∧ WB W' nx x) ⟨S3.out.1, ⟨S3.out.2.os, S3.out.2.tape, S3.out.2.output, S3.out.2.size, S3.out.2.block⟩, N3.out⟩ ?_
      rintro W4 h4
      have S4 := Hid.intro h4
      have FIN : Hid (Mo.RawTo F T p (Mo.st x K E) E) := Hid.intro (.inr ⟨p1', x, s, 0, HL.out, .inr ⟨rfl, K, HFD.out, rfl⟩⟩)
      clear h4 RF t0 n0 n1 S3 N3 HFD
      have y0 := S4.out.1.c0
      have y1 := S4.out.1.c1
      have yf := S4.out.1.fz
      have n0 := S4.out.2.2.c0
      have n1 := S4.out.2.2.c1
      by_cases e1 : E = 0
      · subst e1
        rw [show Mo.st x K 0 = (x.1, (K : Int)) from if_pos rfl] at FIN
        have R := Hid.intro (S4.out.1.fin S4.out.2.1 HRX.out (x.1, (K : Int)))
        go_wp2_with fail
        generalize hWF : (W4.setCell ⟨rx, 0, none⟩ (.int .i64 x.1)).setCell ⟨rx, 1, none⟩ (.int .i64 (K : Int)) = WF at R ⊢
        have z0 : WF.cell? ⟨rx, 0, none⟩ = some (.int .i64 x.1) := R.out.1.c0
        have z1 : WF.cell? ⟨rx, 1, none⟩ = some (.int .i64 (K : Int)) := R.out.1.c1
        refine bodyPost_ret (v := .tuple #[.agg #[.int .i64 x.1, .int .i64 (K : Int)], .int .i64 0]) (by simp [results, Tryz.f50, go_sem, z0, z1]) rfl ?_
        first | exact ⟨(x.1, (K : Int)), 0, rfl, FIN.out, by rw [HRX.out]; exact R.out.2⟩ | exact ⟨x.1, (K : Int), 0, rfl, FIN.out, by rw [HRX.out]; exact R.out.2⟩
      · have pos : 0 < E := by omega
        rw [show Mo.st x K E = (0, 0) from if_neg e1] at FIN
        have R := Hid.intro (S4.out.1.fin S4.out.2.1 HRX.out (0, 0))
        go_wp2_with fail
        generalize hWF : (W4.setCell ⟨rx, 0, none⟩ (.int .i64 0)).setCell ⟨rx, 1, none⟩ (.int .i64 0) = WF at R ⊢
        have z0 : WF.cell? ⟨rx, 0, none⟩ = some (.int .i64 0) := R.out.1.c0
        have z1 : WF.cell? ⟨rx, 1, none⟩ = some (.int .i64 0) := R.out.1.c1
        refine bodyPost_ret (v := .tuple #[.agg #[.int .i64 0, .int .i64 0], .int .i64 E]) (by simp [results, Tryz.f50, go_sem, z0, z1]) rfl ?_
        first | exact ⟨(0, 0), E, rfl, FIN.out, by rw [HRX.out]; exact R.out.2⟩ | exact ⟨0, 0, E, rfl, FIN.out, by rw [HRX.out]; exact R.out.2⟩
    · have FIN : Hid (Mo.RawTo F T p (0, 0) E ∧ 0 < E) := Hid.intro ⟨.inr ⟨p1', x, s, E, HL.out, .inl ⟨e0, rfl, rfl⟩⟩, by have := HL.out.nn; omega⟩
      have pos := FIN.out.2
      clear e0
      go_upto_region 4 with fail
      refine wp_gen (fun W' => Below W2.heap.size W2 W') ((Below.refl _ _).alloc (Nat.le_refl _) _) ?_
      rintro W3 b3
      have S3 : Hid (WB W3 rx (0, 0) ∧ Below rx w W3) := Hid.intro ⟨S2.out.1.below b3, S2.out.2.trans (b3.mono (LE.out _ S2.out.2).1)⟩
      clear b3 S2
      generalize W2.heap.size = nx at *
      have y0 := S3.out.1.c0
      have y1 := S3.out.1.c1
      have yf := S3.out.1.fz
      have R := Hid.intro (S3.out.1.fin S3.out.2 HRX.out (0, 0))
      go_wp2_with fail
      generalize hWF : (W3.setCell ⟨rx, 0, none⟩ (.int .i64 0)).setCell ⟨rx, 1, none⟩ (.int .i64 0) = WF at R ⊢
      have z0 := R.out.1.c0
      have z1 := R.out.1.c1
      refine bodyPost_ret (v := .tuple #[.agg #[.int .i64 0, .int .i64 0], .int .i64 E]) (by simp [results, Tryz.f50, go_sem, z0, z1]) rfl ?_
      first | exact ⟨(0, 0), E, rfl, FIN.out.1, by rw [HRX.out]; exact R.out.2⟩ | exact ⟨0, 0, E, rfl, FIN.out.1, by rw [HRX.out]; exact R.out.2⟩
end Go.Proofs.YthdadmbpnoofoaaGreatDoor

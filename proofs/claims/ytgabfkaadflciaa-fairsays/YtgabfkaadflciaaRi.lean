/- The document's own sched: Tick. -/
import Derived.Test.YtgabfkaadflciaaRh
namespace Go.Proofs.Ytgabfkaadflciaa
open Go.RowKit
open Fr (Un M)
attribute [local go_sem] max_if

structure RrenI (w : World) (b : Nat) (m : M) (W : World) (k : Nat) (mi : M) : Prop where
  at_ : RAt W b mi
  frm : Frm b w W
  inv : Fr.Inv mi
  now : mi.now = m.now
  ren : ∀ m', Fr.Renew mi k m' → Fr.Renew m 0 m'
theorem Fr.renew_one {m m' : M} (h : Fr.Inv m) (k : Fr.Renew m 1 m') : Fr.Renew m 0 m' :=
  .step (by omega) (.inr ⟨fun c => by have := (h.quo 0 (by omega) c.1).1; omega, rfl⟩) k
/-- The best of those from i on. -/
structure BestFrom (m : M) (g i : Nat) (best : Int) : Prop where
  none : best < 0 → ∀ j, i ≤ j → j < 30 → Fr.kidB m g j = false
  some : ∀ v : Nat, best = v → i ≤ v ∧ v < 30 ∧ Fr.kidB m g v = true ∧ ∀ j, i ≤ j → j < 30 → Fr.kidB m g j = true → (m.u v).time < (m.u j).time ∨ ((m.u v).time = (m.u j).time ∧ v ≤ j)
theorem BestFrom.start (m : M) (g : Nat) : BestFrom m g 30 (-1) := ⟨fun _ j h1 h2 => by omega, fun v e => by omega⟩
theorem BestFrom.keep {m : M} {g i : Nat} {best : Int} (h : BestFrom m g (i + 1) best) (k : Fr.kidB m g i = true → ∃ v : Nat, best = v ∧ (m.u v).time < (m.u i).time) : BestFrom m g i best := by
  refine ⟨fun hb j h1 h2 => ?_, fun v e => ?_⟩
  · by_cases e : j = i
    · subst e
      cases hk : Fr.kidB m g j
      · rfl
      · obtain ⟨v, hv, _⟩ := k hk; omega
    · exact h.none hb j (by omega) h2
  · obtain ⟨h1, h2, h3, h4⟩ := h.some v e
    refine ⟨by omega, h2, h3, fun j j1 j2 kj => ?_⟩
    by_cases ej : j = i
    · subst ej
      obtain ⟨v', hv', ht⟩ := k kj
      obtain rfl : v = v' := by omega
      exact .inl ht
    · exact h4 j (by omega) j2 kj
theorem BestFrom.take {m : M} {g i : Nat} {best : Int} (hi : i < 30) (h : BestFrom m g (i + 1) best) (kd : Fr.kidB m g i = true) (k : best < 0 ∨ ∃ v : Nat, best = v ∧ (m.u i).time ≤ (m.u v).time) : BestFrom m g i (i : Int) := by
  refine ⟨fun hb => by omega, fun v e => ?_⟩
  obtain rfl : i = v := by omega
  refine ⟨Nat.le_refl _, hi, kd, fun j j1 j2 kj => ?_⟩
  by_cases ej : j = i
  · subst ej; exact .inr ⟨rfl, Nat.le_refl _⟩
  · rcases k with k | ⟨v, hv, ht⟩
    · have := h.none k j (by omega) j2; rw [this] at kj; cases kj
    · have := (h.some v hv).2.2.2 j (by omega) j2 kj
      omega
theorem BestFrom.end_none {m : M} {g : Nat} {best : Int} (h : BestFrom m g 1 best) (hb : best < 0) : Fr.hasKid m g = false := by
  cases hk : Fr.hasKid m g
  · rfl
  · obtain ⟨j, hj, kj⟩ := Fr.hasKid_iff.1 hk
    rw [h.none hb j (Fr.kidB_iff.1 kj).1 hj] at kj; cases kj
theorem BestFrom.end_some {m : M} {g v : Nat} {best : Int} (h : BestFrom m g 1 best) (hb : best = v) : Fr.Best m g v := by
  obtain ⟨_, h2, h3, h4⟩ := h.some v hb
  exact ⟨h2, h3, fun i hi ki => h4 i (Fr.kidB_iff.1 ki).1 hi ki⟩

theorem wrap_pay64 (T wt : Nat) (h : T ≤ 1048576000000) : wrap64 ((T : Int) + 1048576 / (wt : Int)) = ((T + 1048576 / wt : Nat) : Int) := by
  have e : ((T : Int) + 1048576 / (wt : Int)) = ((T + 1048576 / wt : Nat) : Int) := rfl
  have hd : 1048576 / wt ≤ 1048576 := Nat.div_le_self _ _
  rw [e]
  generalize 1048576 / wt = d at *
  exact IntWalk.wrap64_in _ ⟨by omega, by omega⟩
theorem Fr.payT_ref {m : M} {u g : Nat} (hg : Fr.grp m u = g) (hne : g ≠ u) : Fr.payT (Fr.ranUp m u) u = (m.set g { m.u g with floor := max (m.u g).floor (m.u u).time }).set u { m.u u with time := (m.u u).time + 1048576 / (m.u u).weight, ran := (m.u u).ran + 1, used := if 0 < (m.u u).quota then (m.u u).used + 1 else (m.u u).used } := by
  have hg2 : Fr.grp (Fr.ranUp m u) u = g := by
    unfold Fr.grp; rw [(Fr.ranUp_here m u u).2.1]; exact hg
  unfold Fr.payT Fr.payF
  rw [hg2]
  by_cases h : 10 ≤ u
  · have e : Fr.ranUp m u = m.set u { m.u u with ran := (m.u u).ran + 1 } := if_pos h
    rw [e, Fr.set_ne _ _ g _ hne, Fr.set_ne _ g u _ (Ne.symm hne), Fr.set_same]
    unfold Fr.payU
    rw [if_neg (show ¬ u < 10 by omega)]
    unfold M.set
    congr 1
    funext j
    by_cases j1 : j = u
    · simp [j1]
    · simp [j1]
  · have e : Fr.ranUp m u = m := if_neg h
    rw [e, Fr.set_ne _ g u _ (Ne.symm hne)]
    unfold Fr.payU
    rw [if_pos (show u < 10 by omega)]
structure RpyI (w : World) (b : Nat) (m : M) (t : Nat) (rk : Nat → Nat) (R : Nat) (W : World) (v : Nat) (mi : M) : Prop where
  at_ : RAt W b mi
  frm : Frm b w W
  going : Fr.Going mi rk R v
  now : mi.now = m.now
  pays : ∀ m', Fr.Pays mi v m' → Fr.Pays m t m'
structure RnxI (w : World) (b : Nat) (m : M) (W : World) (v : Nat) : Prop where
  at_ : RAt W b m
  frm : Frm b w W
  lt : v < 30
  pick : ∀ r, Fr.Pick m v r → Fr.Pick m 0 r
structure RbI (w : World) (b : Nat) (m : M) (v : Nat) (W : World) (x : Nat) (best : Int) : Prop where
  at_ : RAt W b m
  frm : Frm b w W
  best : BestFrom m v (x + 1) best

set_option maxRecDepth 100000 in
set_option maxHeartbeats 2000000 in
theorem rtick_any (b : Nat) (m : M) (w : World) (h : RAt w b m) (hI : Fr.Inv m) (hn : m.now < 1000000) :
    Calls Try.prog 114 #[.pointer (some ⟨b, 0, none⟩)] w fun e w' => ∃ (r : Int) (m' : M), e = .returned (.int .i64 r) ∧ Fr.Tick m r m' ∧ RAt w' b m' ∧ Frm b w w' := by
  have H0 : Hid (RrenI w b m w 1 m) := ⟨h, Frm.refl b w, hI, rfl, fun _ k => Fr.renew_one hI k⟩
  obtain ⟨N, hN⟩ : ∃ N, m.now = N := ⟨_, rfl⟩
  rw [hN] at hn
  have HN : Hid (m.now = N) := hN
  clear h hI hN
  go_enter Try.func114, Try.ntmps114
  go_wp2_with fail
  go_loopw [3] (fun i wr => ∃ (k : Nat) (mi : M), i = .int .i64 k ∧ 1 ≤ k ∧ k ≤ 10 ∧ Hid (RrenI w b m wr k mi)) (fun i _ => 10 - (intOf i).toNat)
  case atStart => exact ⟨1, m, rfl, by omega, by omega, H0⟩
  case round =>
    clear H0
    obtain ⟨k, mi, rfl, hk1, hk, H⟩ := hrel
    by_cases h10 : k < 10
    · have k0 : (k : Int) < 10 := by omega
      have k30 : (k : Int) < 30 := by omega
      have c0 : wr.cell? ⟨b, 360, none⟩ = some (.int .i64 (N : Int)) := by rw [← HN.out, ← H.out.now]; exact H.out.at_.now
      have cc := H.out.at_.cells k (by omega)
      have ch := cc.c0
      have c1 := cc.c9
      have c2 := cc.ca
      have c3 := cc.cb
      have cf := H.out.at_.frozen
      have hq := H.out.inv.quo k (by omega)
      have hp := H.out.inv.per k (by omega)
      have hno := H.out.inv.no k (by omega)
      obtain ⟨qu, hQu⟩ : ∃ x, (mi.u k).quota = x := ⟨_, rfl⟩
      obtain ⟨pe, hPe⟩ : ∃ x, (mi.u k).period = x := ⟨_, rfl⟩
      obtain ⟨us, hUs⟩ : ∃ x, (mi.u k).used = x := ⟨_, rfl⟩
      obtain ⟨hh, hHh⟩ : ∃ x, (mi.u k).here = x := ⟨_, rfl⟩
      have HNO : Hid (hh = false → qu = 0) := Hid.intro (fun e => by rw [← hQu, hno (by rw [hHh]; exact e)]; rfl)
      rw [hQu] at c1 hq hp
      rw [hPe] at c2 hq hp
      rw [hUs] at c3
      rw [hHh] at ch
      have HQ : Hid ((mi.u k).quota = qu ∧ (mi.u k).period = pe ∧ mi.now = N ∧ (mi.u k).here = hh) := Hid.intro ⟨hQu, hPe, H.out.now.trans HN.out, hHh⟩
      clear hQu hPe hUs hHh hno cc
      have HSK : Hid (¬ (0 < qu ∧ N % pe = 0) → ∀ j, RrenI w b m (wr.drewN j) (k + 1) mi) := Hid.intro (fun c j => ⟨H.out.at_.drewN _, H.out.frm.drewN _, H.out.inv, H.out.now, fun m' r => H.out.ren m' (.step h10 (.inr ⟨fun d => c (by rw [HQ.out.1, HQ.out.2.1, HQ.out.2.2.1] at d; exact d), rfl⟩) r)⟩)
      cases hh
      · go_wp2_with fail
        go_quiet (fail)
        go_wp2_with fail
        go_roundw
        case rel => exact ⟨k + 1, mi, by go_num, by omega, by omega, HSK.out (by rw [HNO.out (by simp)]; omega) _⟩
        case measure => simp [intOf]; omega
      · by_cases q0 : 0 < qu
        · have q1 : (0 : Int) < (qu : Int) := by omega
          have p0 := (hq q0).2.2
          have p1 : ((pe : Int) == 0) = false := by simp; omega
          by_cases hz : N % pe = 0
          · have z1 : (((N : Int).tmod (pe : Int)) == 0) = true := by
              rw [Int.tmod_eq_emod_of_nonneg (by omega)]; simp; omega
            go_wp2_with fail
            go_quiet (fail)
            go_wp2_with fail
            refine (rlook_any b k (Fr.zeroU mi k) _ ((H.out.at_.drewN nq).setUsed k 0 (by omega)) (H.out.inv.zeroU (by omega) HQ.out.2.2.2) (by omega) (by rw [Fr.zeroU_here]; exact HQ.out.2.2.2)).mono ?_
            rintro e w1 ⟨rfl, m1, l1, f1, r1⟩
            have H1 : Hid (RrenI w b m w1 (k + 1) m1) := Hid.intro (by
              have rs : Fr.RStep mi k m1 := .inl ⟨by rw [HQ.out.1]; exact q0, by rw [HQ.out.2.1, HQ.out.2.2.1]; exact hz, l1⟩
              exact ⟨f1, ((H.out.frm.drewN nq).setCell _ _).trans r1, H.out.inv.rstep h10 rs, (Fr.look_here l1).1.trans H.out.now, fun m' r => H.out.ren m' (.step h10 rs r)⟩)
            clear l1 f1 r1 c0 c1 c2 c3 cf ch
            go_wp2_with fail
            go_roundw
            case rel => exact ⟨k + 1, m1, by go_num, by omega, by omega, H1⟩
            case measure => simp [intOf]; omega
          · have z1 : (((N : Int).tmod (pe : Int)) == 0) = false := by
              rw [Int.tmod_eq_emod_of_nonneg (by omega)]; simp; omega
            go_wp2_with fail
            go_quiet (fail)
            go_wp2_with fail
            go_roundw
            case rel => exact ⟨k + 1, mi, by go_num, by omega, by omega, HSK.out (by omega) _⟩
            case measure => simp [intOf]; omega
        · have q1 : decide ((0 : Int) < (qu : Int)) = false := by simp; omega
          go_wp2_with fail
          go_quiet (fail)
          go_wp2_with fail
          go_roundw
          case rel => exact ⟨k + 1, mi, by go_num, by omega, by omega, HSK.out (by omega) _⟩
          case measure => simp [intOf]; omega
    · have k0 : ¬ (k : Int) < 10 := by omega
      have K1 : Hid (Fr.Renew m 0 mi) := Hid.intro (by have : k = 10 := by omega
                                                       subst this; exact H.out.ren mi (.done mi))
      have A1 : Hid (RAt (wr.setCell ⟨b, 360, none⟩ (.int .i64 ((N : Int) + 1))) b (Fr.up1 mi) ∧ Frm b w (wr.setCell ⟨b, 360, none⟩ (.int .i64 ((N : Int) + 1)))) := Hid.intro ⟨by have := H.out.at_.setNow (N + 1); unfold Fr.up1; rw [H.out.now, HN.out]; exact this, H.out.frm.setCell _ _⟩
      have I1 : Hid (Fr.Inv (Fr.up1 mi)) := H.out.inv.up1
      have NW : Hid (mi.now = N) := H.out.now.trans HN.out
      have GO : Hid (∀ t, Fr.Pick (Fr.up1 mi) 0 (some t) → ∃ rk R, Fr.Going (Fr.up1 mi) rk R t ∧ 10 ≤ t) := fun t p => Fr.going_of H.out.inv p
      have c0 : wr.cell? ⟨b, 360, none⟩ = some (.int .i64 (N : Int)) := by rw [← HN.out, ← H.out.now]; exact H.out.at_.now
      have cf := H.out.at_.frozen
      go_wp2_with fail
      clear H c0 cf
      generalize wr.setCell ⟨b, 360, none⟩ (.int .i64 ((N : Int) + 1)) = W1 at *
      obtain ⟨rk, R, hR⟩ := I1.out.tree
      have HR : Hid (Fr.Rank (Fr.up1 mi) rk R) := hR
      have HN1 : Hid ((Fr.up1 mi).now ≤ 1000000) := Hid.intro (by show mi.now + 1 ≤ 1000000; rw [NW.out]; omega)
      obtain ⟨m1, hm1⟩ : ∃ m1, Fr.up1 mi = m1 := ⟨_, rfl⟩
      have FM : Hid (∀ r m', ((Fr.Pick m1 0 none ∧ r = -1 ∧ m' = m1) ∨ ∃ t : Nat, Fr.Pick m1 0 (some t) ∧ r = (t : Int) - 10 ∧ Fr.Pays m1 t m') → Fr.Tick m r m') := Hid.intro (fun r m' c => ⟨mi, K1.out, by rw [hm1]; exact c⟩)
      rw [hm1] at HR HN1 A1 I1 GO
      have H0 : Hid (RnxI w b m1 W1 0) := ⟨A1.out.1, A1.out.2, by omega, fun _ k => k⟩
      clear hR hm1 A1 K1 HN
      go_loopw [4] (fun i wr => ∃ (v : Nat), i = .int .i64 v ∧ v < 30 ∧ Hid (RnxI w b m1 wr v)) (fun i _ => R - rk (intOf i).toNat)
      case atStart => exact ⟨0, rfl, by omega, H0⟩
      case round =>
        clear H0
        obtain ⟨v, rfl, hv, H⟩ := hrel
        by_cases v10 : v < 10
        · have v0 : (v : Int) < 10 := by omega
          go_wp2_with fail
          have H0 : Hid (RbI w b m1 v wr 29 (-1)) := ⟨H.out.at_, H.out.frm, .start m1 v⟩
          go_loopw [5, 6] (fun bs i wr => ∃ (best : Int) (x : Nat), bs = .int .i64 best ∧ i = .int .i64 x ∧ x < 30 ∧ -1 ≤ best ∧ best < 30 ∧ Hid (RbI w b m1 v wr x best)) (fun _ i _ => (intOf i).toNat)
          case atStart => exact ⟨-1, 29, rfl, rfl, by omega, by omega, by omega, H0⟩
          case round =>
            clear H0
            obtain ⟨best, x, rfl, rfl, hx, hb1, hb2, HB⟩ := hrel
            by_cases x0 : x = 0
            · have xI : ¬ (0 : Int) < (x : Int) := by omega
              have HBF : Hid (BestFrom m1 v 1 best) := Hid.intro (by have := HB.out.best; rw [x0] at this; exact this)
              by_cases hb : best < 0
              · go_wp2_with fail
                go_ret
                have X := And.intro (FM.out (-1) m1 (.inl ⟨H.out.pick none (.none v10 (HBF.out.end_none hb)), rfl, rfl⟩)) (And.intro HB.out.at_ HB.out.frm)
                first | exact ⟨-1, m1, rfl, X⟩ | exact ⟨-1, rfl, m1, X⟩
              · obtain ⟨bv, rfl⟩ := Int.eq_ofNat_of_zero_le (show 0 ≤ best by omega)
                have HX : Hid (∀ W, RAt W b m1 → Frm b w W → RnxI w b m1 W bv ∧ rk v < rk bv ∧ rk bv ≤ R ∧ rk v ≤ R) := Hid.intro (fun W a r => by
                  have hB := HBF.out.end_some (v := bv) rfl
                  have kb := Fr.kidB_iff.1 hB.kid
                  obtain ⟨g, h1, h2, h3, h4⟩ := HR.out.up bv kb.1 hB.lt kb.2.1
                  have e : g = v := by have := kb.2.2.1; omega
                  subst e
                  exact ⟨⟨a, r, hB.lt, fun r p => H.out.pick r (.down v10 hB p)⟩, h4, HR.out.le bv hB.lt, HR.out.le g (by omega)⟩)
                have hj : bv < 30 := by omega
                go_wp2_with fail
                go_roundw
                case rel => exact ⟨bv, rfl, hj, (HX.out _ HB.out.at_ HB.out.frm).1⟩
                case measure => have := (HX.out _ HB.out.at_ HB.out.frm).2; simp [intOf]; omega
            · have xI : (0 : Int) < (x : Int) := by omega
              have x30 : (x : Int) < 30 := by omega
              obtain ⟨c0, c1, c2, c3, c4, c5, c6, c7, c8, c9, ca, cb⟩ := HB.out.at_.cells x hx
              have HKB : Hid (Fr.kidB m1 v x = ((m1.u x).here && decide ((m1.u x).inn = (v : Int)) && (m1.u x).was)) := Hid.intro (by unfold Fr.kidB; rw [decide_eq_true (show 0 < x by omega), Bool.true_and])
              obtain ⟨y, hy⟩ : ∃ y, m1.u x = y := ⟨_, rfl⟩
              rw [hy] at c0 c1 c2 c3 c4 c5 c6 c7 c8 c9 ca cb HKB
              have HY := Hid.intro hy
              have HL := Hid.intro HB.out.at_.lt
              clear hy
              have HX1 : ((x - 1 : Nat) : Int) = (x : Int) - 1 := by omega
              have HX2 : x - 1 + 1 = x := by omega
              go_wp2_with fail
              generalize hW : World.alloc _ _ = W3
              have B1 := heap_alloc_new wr (.cells #[Value.bool y.here, Value.bool y.awake, Value.bool y.frozen, Value.bool y.was, Value.int IntKind.i64 y.inn, Value.int IntKind.i64 ↑y.weight, Value.int IntKind.i64 ↑y.ran, Value.int IntKind.i64 ↑y.time, Value.int IntKind.i64 ↑y.floor, Value.int IntKind.i64 ↑y.quota, Value.int IntKind.i64 ↑y.period, Value.int IntKind.i64 ↑y.used] 87)
              rw [hW] at B1
              have t0 : W3.cell? ⟨wr.heap.size, 0, none⟩ = some (.bool y.here) := (cell_blk B1 0).trans rfl
              have t3 : W3.cell? ⟨wr.heap.size, 3, none⟩ = some (.bool y.was) := (cell_blk B1 3).trans rfl
              have t4 : W3.cell? ⟨wr.heap.size, 4, none⟩ = some (.int .i64 y.inn) := (cell_blk B1 4).trans rfl
              have t7 : W3.cell? ⟨wr.heap.size, 7, none⟩ = some (.int .i64 (y.time : Int)) := (cell_blk B1 7).trans rfl
              have BL : Below wr.heap.size wr W3 := by rw [← hW]; exact (Below.refl _ _).alloc (Nat.le_refl _) _
              have A3 : Hid (RAt W3 b m1 ∧ Frm b w W3) := Hid.intro ⟨HB.out.at_.below BL, HB.out.frm.trans (Frm.of_below BL)⟩
              have HBB : Hid (BestFrom m1 v (x + 1) best) := HB.out.best
              clear B1 hW BL c0 c1 c2 c3 c4 c5 c6 c7 c8 c9 ca cb HB
              generalize wr.heap.size = nb at *
              have KEEP : Hid ((Fr.kidB m1 v x = true → ∃ z : Nat, best = z ∧ (m1.u z).time < (m1.u x).time) → ∀ j, RbI w b m1 v (W3.drewN j) (x - 1) best) := Hid.intro (fun c j => ⟨A3.out.1.drewN _, A3.out.2.drewN _, by rw [HX2]; exact HBB.out.keep c⟩)
              have TAKE : Hid (Fr.kidB m1 v x = true → (best < 0 ∨ ∃ z : Nat, best = z ∧ (m1.u x).time ≤ (m1.u z).time) → ∀ j, RbI w b m1 v (W3.drewN j) (x - 1) (x : Int)) := Hid.intro (fun c d j => ⟨A3.out.1.drewN _, A3.out.2.drewN _, by rw [HX2]; exact HBB.out.take hx c d⟩)
              have HT : Hid ((m1.u x).time = y.time) := Hid.intro (by rw [HY.out])
              generalize y.here = yh at *
              generalize y.was = yw at *
              generalize y.inn = yi at *
              generalize y.time = yt at *
              cases yh
              · go_quiet (fail)
                go_wp2_with fail
                go_roundw
                case rel => exact ⟨best, x - 1, rfl, by rw [HX1], by omega, hb1, hb2, KEEP.out (fun c => by rw [HKB.out] at c; cases c) _⟩
                case measure => simp [intOf]; omega
              · by_cases hi : yi = (v : Int)
                · subst hi
                  cases yw
                  · go_quiet (fail)
                    go_wp2_with fail
                    go_roundw
                    case rel => exact ⟨best, x - 1, rfl, by rw [HX1], by omega, hb1, hb2, KEEP.out (fun c => by rw [HKB.out] at c; simp at c) _⟩
                    case measure => simp [intOf]; omega
                  · have KD : Hid (Fr.kidB m1 v x = true) := Hid.intro (by rw [HKB.out]; simp)
                    by_cases hb : best < 0
                    · go_quiet (fail)
                      go_wp2_with fail
                      go_roundw
                      case rel => exact ⟨x, x - 1, rfl, by rw [HX1], by omega, by omega, by omega, TAKE.out KD.out (.inl hb) _⟩
                      case measure => simp [intOf]; omega
                    · obtain ⟨bv, rfl⟩ := Int.eq_ofNat_of_zero_le (show 0 ≤ best by omega)
                      have b0 : decide ((bv : Int) < 0) = false := by simp
                      have b30 : (bv : Int) < 30 := by omega
                      have cb7 := (A3.out.1.cells bv (by omega)).c7
                      obtain ⟨bt, hbt⟩ : ∃ bt, (m1.u bv).time = bt := ⟨_, rfl⟩
                      rw [hbt] at cb7
                      have HBT := Hid.intro hbt
                      clear hbt hb
                      by_cases ht : yt ≤ bt
                      · have ht' : (yt : Int) ≤ (bt : Int) := by omega
                        go_quiet (fail)
                        go_wp2_with fail
                        go_roundw
                        case rel => exact ⟨x, x - 1, rfl, by rw [HX1], by omega, by omega, by omega, TAKE.out KD.out (.inr ⟨bv, rfl, by rw [HT.out, HBT.out]; exact ht⟩) _⟩
                        case measure => simp [intOf]; omega
                      · have ht' : decide ((yt : Int) ≤ (bt : Int)) = false := by simp; omega
                        go_quiet (fail)
                        go_wp2_with fail
                        go_roundw
                        case rel => exact ⟨bv, x - 1, rfl, by rw [HX1], by omega, by omega, by omega, KEEP.out (fun _ => ⟨bv, rfl, by rw [HT.out, HBT.out]; omega⟩) _⟩
                        case measure => simp [intOf]; omega
                · have hi' : (yi == (v : Int)) = false := by simp; exact hi
                  go_quiet (fail)
                  go_wp2_with fail
                  go_roundw
                  case rel => exact ⟨best, x - 1, rfl, by rw [HX1], by omega, hb1, hb2, KEEP.out (fun c => by rw [HKB.out, decide_eq_false hi] at c; simp at c) _⟩
                  case measure => simp [intOf]; omega
        · have v0 : ¬ (v : Int) < 10 := by omega
          have HP : Hid (Fr.Pick m1 0 (some v)) := H.out.pick _ (.task (by omega))
          obtain ⟨rk2, R2, hg2, _⟩ := GO.out v HP.out
          have H0 : Hid (RpyI w b m1 v rk2 R2 wr v m1) := ⟨H.out.at_, H.out.frm, hg2, rfl, fun _ k => k⟩
          clear hg2 H
          go_wp2_with fail
          go_loopw [8] (fun i wr => ∃ (u : Nat) (mi : M), i = .int .i64 u ∧ u < 30 ∧ Hid (RpyI w b m1 v rk2 R2 wr u mi)) (fun i _ => rk2 (intOf i).toNat)
          case atStart => exact ⟨v, m1, rfl, hv, H0⟩
          case round =>
            clear H0
            obtain ⟨u, mi, rfl, hu, H⟩ := hrel
            by_cases u0 : u = 0
            · have uI : ¬ (0 : Int) < (u : Int) := by omega
              have HPY : Hid (Fr.Pays m1 v mi) := Hid.intro (H.out.pays mi (by rw [u0]; exact .root mi))
              go_wp2_with fail
              go_ret
              have X := And.intro (FM.out ((v : Int) - 10) mi (.inr ⟨v, HP.out, rfl, HPY.out⟩)) (And.intro H.out.at_ H.out.frm)
              first | exact ⟨(v : Int) - 10, mi, rfl, X⟩ | exact ⟨(v : Int) - 10, rfl, mi, X⟩
            · have uI : (0 : Int) < (u : Int) := by omega
              have u30 : (u : Int) < 30 := by omega
              obtain ⟨hh, hw, _, _, hrk, hgl⟩ := H.out.going.facts (by omega)
              have HX : Hid (InG mi u (Fr.grp mi u)) := InG.of H.out.going.inv (by omega) hu hh
              have hgne := (H.out.going.inv.grp (by omega) hu hh).2.2.2
              have hwt := H.out.going.inv.wt u (by omega) hu hh
              have htm := H.out.going.inv.tm u hu
              have hnw : mi.now ≤ 1000000 := by rw [H.out.now]; exact HN1.out
              have NXT : Hid (∀ W, RAt W b (Fr.payR mi u) → Frm b w W → RpyI w b m1 v rk2 R2 W (Fr.grp mi u) (Fr.payR mi u)) := Hid.intro (fun W a r => ⟨a, r, H.out.going.next (by omega), by rw [Fr.payR_now]; exact H.out.now, fun m' k => H.out.pays m' (.up u0 k)⟩)
              obtain ⟨g, hgg⟩ : ∃ g, Fr.grp mi u = g := ⟨_, rfl⟩
              have PT := Hid.intro (Fr.payT_ref hgg (by rw [← hgg]; exact hgne))
              rw [hgg] at hrk hgl hgne NXT HX
              have HRK : Hid (rk2 g < rk2 u) := hrk
              have HNE : Hid (g ≠ u) := hgne
              have HA : Hid (RAt wr b mi ∧ Frm b w wr) := Hid.intro ⟨H.out.at_, H.out.frm⟩
              have c4 : wr.cell? ⟨b, u * 12 + 4, none⟩ = some (.int .i64 (g : Int)) := by rw [← HX.out.inn]; exact (H.out.at_.cells u hu).c4
              have g30 : (g : Int) < 30 := by omega
              have htb : (mi.u u).time ≤ 1048576000000 := by have := htm.1; omega
              have hub : (mi.u u).used ≤ 1000000 := by have := htm.2.2.1; omega
              have hrb : (mi.u u).ran ≤ 1000000 := by have := htm.2.2.2; omega
              clear hh hw hrk hgne htm hgg H
              go_wp2_with fail
              go_quiet (fail)
              go_wp2_with fail
              generalize hW4 : World.drewN wr _ = W4
              have A4 : Hid (RAt W4 b mi ∧ Frm b w W4) := Hid.intro (by rw [← hW4]; exact ⟨HA.out.1.drewN _, HA.out.2.drewN _⟩)
              clear c4 hW4 HA
              obtain ⟨x, hx⟩ : ∃ x, mi.u u = x := ⟨_, rfl⟩
              obtain ⟨y, hy⟩ : ∃ y, mi.u g = y := ⟨_, rfl⟩
              have HXU := Hid.intro hx
              have HYG := Hid.intro hy
              have c7 := (A4.out.1.cells u hu).c7
              have c8 := (A4.out.1.cells g (by omega)).c8
              have cf := A4.out.1.frozen
              rw [hx] at c7 hwt htb hub hrb PT
              rw [hy] at c8 PT
              clear hx hy
              go_region
              generalize hW5 : World.drew _ = W5
              have A5 : Hid (RAt W5 b (mi.set g { mi.u g with floor := max y.floor x.time }) ∧ Frm b w W5) := Hid.intro (by rw [← hW5]; exact ⟨(A4.out.1.setFloor g (max y.floor x.time) (by omega)).drew, (A4.out.2.setCell _ _).drew⟩)
              have E5 : Hid ((mi.set g { mi.u g with floor := max y.floor x.time }).u u = x) := Hid.intro (by rw [Fr.set_ne _ _ _ _ (Ne.symm HNE.out)]; exact HXU.out)
              rw [HYG.out] at A5 E5
              generalize mi.set g { y with floor := max y.floor x.time } = m5 at *
              clear c7 c8 cf hW5 A4
              obtain ⟨d0, d1, d2, d3, d4, d5, d6, d7, d8, d9, da, db⟩ := A5.out.1.cells u hu
              rw [E5.out] at d0 d1 d2 d3 d4 d5 d6 d7 d8 d9 da db
              have cf := A5.out.1.frozen
              have z1 : ((x.weight : Int) == 0) = false := by simp; omega
              go_wp2_with fail
              go_region
              generalize hW6 : World.drew _ = W6
              have A6 : Hid (RAt W6 b (m5.set u { x with time := x.time + 1048576 / x.weight }) ∧ Frm b w W6) := Hid.intro (by
                rw [← hW6, wrap_pay64 x.time x.weight htb]
                have := (A5.out.1.setTime u (x.time + 1048576 / x.weight) hu).drew
                rw [E5.out] at this
                exact ⟨this, (A5.out.2.setCell _ _).drew⟩)
              clear d0 d1 d2 d3 d4 d5 d6 d7 d8 d9 da db cf hW6 A5
              generalize x.time + 1048576 / x.weight = TT at *
              have E6 : Hid ((m5.set u { x with time := TT }).u u = { x with time := TT }) := Hid.intro (Fr.set_same _ _ _)
              have S6 : Hid (∀ z, (m5.set u { x with time := TT }).set u z = m5.set u z) := Hid.intro (fun z => Fr.set_set _ _ _ z)
              generalize m5.set u { x with time := TT } = m6 at *
              obtain ⟨d0, d1, d2, d3, d4, d5, d6, d7, d8, d9, da, db⟩ := A6.out.1.cells u hu
              rw [E6.out] at d0 d1 d2 d3 d4 d5 d6 d7 d8 d9 da db
              have cf := A6.out.1.frozen
              have FIN : Hid (∀ W us, (us = if 0 < x.quota then x.used + 1 else x.used) → RAt W b (m5.set u { x with time := TT, ran := x.ran + 1, used := us }) → RAt W b (Fr.payT (Fr.ranUp mi u) u)) := Hid.intro (fun W us e a => by rw [PT.out, ← e]; exact a)
              have PAY : Hid (Fr.setWas (Fr.payT (Fr.ranUp mi u) u) u (Fr.ready (Fr.payT (Fr.ranUp mi u) u) u) = Fr.payR mi u) := Hid.intro rfl
              have INN : Hid (((Fr.payR mi u).u u).inn = (g : Int)) := Hid.intro (by rw [Fr.payR_inn]; exact HX.out.inn)
              generalize Fr.payT (Fr.ranUp mi u) u = m7 at *
              clear PT
              by_cases hq : 0 < x.quota
              · have hqI : (0 : Int) < (x.quota : Int) := by omega
                have A7 : Hid (RAt ((W6.setCell ⟨b, u * 12 + 6, none⟩ (.int .i64 ((x.ran : Int) + 1))).setCell ⟨b, u * 12 + 11, none⟩ (.int .i64 ((x.used : Int) + 1))) b m7 ∧ Frm b w ((W6.setCell ⟨b, u * 12 + 6, none⟩ (.int .i64 ((x.ran : Int) + 1))).setCell ⟨b, u * 12 + 11, none⟩ (.int .i64 ((x.used : Int) + 1)))) := Hid.intro (by
                  have := (A6.out.1.setRan u (x.ran + 1) hu).setUsed u (x.used + 1) hu
                  rw [Fr.set_same, Fr.set_set, S6.out, E6.out] at this
                  exact ⟨FIN.out _ (x.used + 1) (by rw [if_pos hq]) this, (A6.out.2.setCell _ _).setCell _ _⟩)
                go_wp2_with fail
                refine (rready_any b u m7 _ A7.out.1 hu).mono ?_
                rintro e w8 ⟨rfl, hb8⟩
                have A8 : Hid (RAt w8 b m7 ∧ Frm b w w8) := Hid.intro ⟨A7.out.1.below hb8, A7.out.2.trans (Frm.of_below hb8)⟩
                clear d0 d1 d2 d3 d4 d5 d6 d7 d8 d9 da db cf hb8 A7 A6
                have e3 := (A8.out.1.cells u hu).c3
                have cf := A8.out.1.frozen
                have A9 : Hid (RAt (w8.setCell ⟨b, u * 12 + 3, none⟩ (.bool (Fr.ready m7 u))) b (Fr.payR mi u) ∧ Frm b w (w8.setCell ⟨b, u * 12 + 3, none⟩ (.bool (Fr.ready m7 u)))) := Hid.intro ⟨by rw [← PAY.out]; exact A8.out.1.setWas u (Fr.ready m7 u) hu, A8.out.2.setCell _ _⟩
                have e4 : (w8.setCell ⟨b, u * 12 + 3, none⟩ (.bool (Fr.ready m7 u))).cell? ⟨b, u * 12 + 4, none⟩ = some (.int .i64 (g : Int)) := by rw [← INN.out]; exact (A9.out.1.cells u hu).c4
                go_wp2_with fail
                go_roundw
                case rel => exact ⟨g, Fr.payR mi u, rfl, by omega, NXT.out _ A9.out.1 A9.out.2⟩
                case measure => have := HRK.out; simp [intOf]; omega
              · have hqI : decide ((0 : Int) < (x.quota : Int)) = false := by simp; omega
                have hqI' : ¬ (0 : Int) < (x.quota : Int) := by omega
                have A7 : Hid (RAt (W6.setCell ⟨b, u * 12 + 6, none⟩ (.int .i64 ((x.ran : Int) + 1))) b m7 ∧ Frm b w (W6.setCell ⟨b, u * 12 + 6, none⟩ (.int .i64 ((x.ran : Int) + 1)))) := Hid.intro (by
                  have := A6.out.1.setRan u (x.ran + 1) hu
                  rw [S6.out, E6.out] at this
                  exact ⟨FIN.out _ x.used (by rw [if_neg hq]) this, A6.out.2.setCell _ _⟩)
                go_wp2_with fail
                refine (rready_any b u m7 _ A7.out.1 hu).mono ?_
                rintro e w8 ⟨rfl, hb8⟩
                have A8 : Hid (RAt w8 b m7 ∧ Frm b w w8) := Hid.intro ⟨A7.out.1.below hb8, A7.out.2.trans (Frm.of_below hb8)⟩
                clear d0 d1 d2 d3 d4 d5 d6 d7 d8 d9 da db cf hb8 A7 A6
                have e3 := (A8.out.1.cells u hu).c3
                have cf := A8.out.1.frozen
                have A9 : Hid (RAt (w8.setCell ⟨b, u * 12 + 3, none⟩ (.bool (Fr.ready m7 u))) b (Fr.payR mi u) ∧ Frm b w (w8.setCell ⟨b, u * 12 + 3, none⟩ (.bool (Fr.ready m7 u)))) := Hid.intro ⟨by rw [← PAY.out]; exact A8.out.1.setWas u (Fr.ready m7 u) hu, A8.out.2.setCell _ _⟩
                have e4 : (w8.setCell ⟨b, u * 12 + 3, none⟩ (.bool (Fr.ready m7 u))).cell? ⟨b, u * 12 + 4, none⟩ = some (.int .i64 (g : Int)) := by rw [← INN.out]; exact (A9.out.1.cells u hu).c4
                go_wp2_with fail
                go_roundw
                case rel => exact ⟨g, Fr.payR mi u, rfl, by omega, NXT.out _ A9.out.1 A9.out.2⟩
                case measure => have := HRK.out; simp [intOf]; omega

end Go.Proofs.Ytgabfkaadflciaa

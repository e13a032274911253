import Derived.BigRegion
import Derived.Test.YtghogbngmcolmaaGreatQau
namespace Go.Proofs.YtghogbngmcolmaaGreat.Fa
open Go.RowKit
open Hp (Q)
set_option maxHeartbeats 400000 in
theorem swap_any (b o x y : Nat) (q : Q) (w : World) (h : At w b o q) (hx : x < 64) (hy : y < 64) (hhx : q.heap x < 64) (hhy : q.heap y < 64) :
    Calls Tryz.prog 167 #[.pointer (some ⟨b, o, none⟩), .int .i64 x, .int .i64 y] w fun e w' => e = .returned (.tuple #[]) ∧ At w' b o (Hp.swap q x y) ∧ Only b o w w' := by
  have c1 := h.heap x hx
  have c2 := h.heap y hy
  have l1 : (x : Int) < 64 := by omega
  have l2 : (y : Int) < 64 := by omega
  have H : Hid (At w b o q) := h
  have HX : Hid (q.heap x < 64) := hhx
  have HY : Hid (q.heap y < 64) := hhy
  clear h hhx hhy
  go_enter Tryz.func167, Tryz.ntmps167
  go_wp2
  go_quiet (fail)
  go_wp2_with fail
  refine (set_any b o x (q.heap y) q _ (H.out.drewN _) hx HY.out).mono ?_
  rintro e w1 ⟨rfl, h1, o1⟩
  have H1 : Hid (At w1 b o (Hp.set q x (q.heap y))) := h1
  have O1 : Hid (Only b o (w.drewN nq) w1) := o1
  clear h1 o1
  go_wp2_with fail
  refine (set_any b o y (q.heap x) _ _ H1.out hy HX.out).mono ?_
  rintro e w2 ⟨rfl, h2, o2⟩
  go_wp2_with fail
  go_end0
  exact ⟨rfl, h2, ((Only.drewN b o w nq).trans O1.out).trans o2⟩
theorem ahead_i (b o : Nat) (x y : Int) (q : Q) (w : World) (h : At w b o q) (x0 : 0 ≤ x) (x1 : x < 64) (y0 : 0 ≤ y) (y1 : y < 64) (hhx : q.heap x.toNat < 64) (hhy : q.heap y.toNat < 64) :
    Calls Tryz.prog 166 #[.pointer (some ⟨b, o, none⟩), .int .i64 x, .int .i64 y] w fun e w' => e = .returned (.bool (ahB q x.toNat y.toNat)) ∧ ∃ n, w' = w.drewN n := by
  obtain ⟨x, rfl⟩ := Int.eq_ofNat_of_zero_le x0
  obtain ⟨y, rfl⟩ := Int.eq_ofNat_of_zero_le y0
  exact ahead_any b o x y q w h (by omega) (by omega) hhx hhy
theorem swap_i (b o : Nat) (x y : Int) (q : Q) (w : World) (h : At w b o q) (x0 : 0 ≤ x) (x1 : x < 64) (y0 : 0 ≤ y) (y1 : y < 64) (hhx : q.heap x.toNat < 64) (hhy : q.heap y.toNat < 64) :
    Calls Tryz.prog 167 #[.pointer (some ⟨b, o, none⟩), .int .i64 x, .int .i64 y] w fun e w' => e = .returned (.tuple #[]) ∧ At w' b o (Hp.swap q x.toNat y.toNat) ∧ Only b o w w' := by
  obtain ⟨x, rfl⟩ := Int.eq_ofNat_of_zero_le x0
  obtain ⟨y, rfl⟩ := Int.eq_ofNat_of_zero_le y0
  exact swap_any b o x y q w h (by omega) (by omega) hhx hhy
set_option maxHeartbeats 400000 in
theorem rise_any (b o a : Nat) (q : Q) (w : World) (h : At w b o q) (ho : Hp.Okp q) (hr : Hp.RI a a q) :
    Calls Tryz.prog 160 #[.pointer (some ⟨b, o, none⟩), .int .i64 a] w fun e w' => e = .returned (.tuple #[]) ∧ Only b o w w' ∧ ∃ q', At w' b o q' ∧ Hp.Okp q' ∧ Hp.Same q q' ∧ Hp.DI a q' := by
  have hlt0 := hr.lt
  have hle0 := ho.le
  go_enter Tryz.func160, Tryz.ntmps160
  go_wp2
  go_loopw [1] (fun i wr => ∃ (p : Nat) (q' : Q), i = .int .i64 p ∧ p < 64 ∧ Hid (Only b o w wr ∧ At wr b o q' ∧ Hp.Okp q' ∧ Hp.Same q q' ∧ Hp.RI a p q')) (fun i _ => (intOf i).toNat)
  case atStart => exact ⟨a, q, rfl, by omega, Only.refl _ _ _, h, ho, Hp.Same.refl q, hr⟩
  case round =>
    clear h ho hr
    obtain ⟨p, q', rfl, hp, H⟩ := hrel
    by_cases h0 : p = 0
    · subst h0
      go_wp2
      go_end0
      obtain ⟨h1, h2, h3, h4, h5⟩ := H.out
      exact ⟨rfl, h1, q', h2, h3, h4, Hp.rise_end h5 (.inl rfl)⟩
    · have hp0 : (0 : Int) < (p : Int) := by omega
      have hpn : 0 < p := by omega
      have hu64 : (((p : Int) - 1) / 2).toNat = (p - 1) / 2 := by omega
      have HU : Hid ((((p : Int) - 1) / 2).toNat = (p - 1) / 2) := hu64
      have hm : Hid (p < q'.many ∧ (p - 1) / 2 < q'.many) := ⟨H.out.2.2.2.2.lt, by have := H.out.2.2.2.2.lt; omega⟩
      clear hu64
      go_wp2_with fail
      refine (ahead_i b o _ _ q' _ H.out.2.1 (by omega) (by omega) (by omega) (by omega) (by rw [Int.toNat_natCast]; exact (H.out.2.2.1.at_ p hm.out.1).1) (by rw [HU.out]; exact (H.out.2.2.1.at_ _ hm.out.2).1)).mono ?_
      rintro e w1 ⟨rfl, n1, rfl⟩
      rw [HU.out, Int.toNat_natCast]
      cases hah : ahB q' p ((p - 1) / 2)
      · have HN : Hid (ahB q' p ((p - 1) / 2) = false) := hah
        clear hah
        go_wp2_with fail
        refine bodyPost_ret (results_none rfl _ _ _) rfl ?_
        obtain ⟨h1, h2, h3, h4, h5⟩ := H.out
        refine ⟨rfl, h1.trans (Only.drewN b o _ _), q', h2.drewN _, h3, h4, Hp.rise_end h5 (.inr fun k => ?_)⟩
        have := (ahB_iff _ _ _).2 k
        rw [HN.out] at this
        cases this
      · have HN : Hid (ahB q' p ((p - 1) / 2) = true) := hah
        clear hah
        go_wp2_with fail
        refine (swap_i b o _ _ q' _ (H.out.2.1.drewN _) (by omega) (by omega) (by omega) (by omega) (by rw [Int.toNat_natCast]; exact (H.out.2.2.1.at_ p hm.out.1).1) (by rw [HU.out]; exact (H.out.2.2.1.at_ _ hm.out.2).1)).mono ?_
        rintro e w2 ⟨rfl, h2, o2⟩
        rw [HU.out, Int.toNat_natCast] at h2
        have H2 : Hid _ := h2
        have O2 : Hid _ := o2
        clear h2 o2
        go_wp2_with fail
        go_roundw
        case rel =>
          obtain ⟨h1, h2, h3, h4, h5⟩ := H.out
          have sw := Hp.swap_ok h3 hm.out.1 hm.out.2
          exact ⟨(p - 1) / 2, _, by rw [show ((p : Int) - 1) / 2 = (((p - 1) / 2 : Nat) : Int) by omega], by omega, (h1.trans (Only.drewN b o _ _)).trans O2.out, H2.out, sw.1, h4.trans sw.2, Hp.rise_step h5 hpn ((ahB_iff _ _ _).1 HN.out)⟩
        case measure => simp [intOf]; omega
end Go.Proofs.YtghogbngmcolmaaGreat.Fa
namespace Go.Proofs.YtghogbngmcolmaaGreat.Fa
open Go.RowKit
open Hp (Q)
structure LI (q : Q) (p l c : Nat) : Prop where
  lt : l < q.many
  who : l = p ∨ (0 < l ∧ (l - 1) / 2 = p ∧ Hp.ah q.keys (q.heap l) (q.heap p))
  min : ∀ d, 0 < d → d < q.many → (d - 1) / 2 = p → d < c → ¬ Hp.ah q.keys (q.heap d) (q.heap l)
theorem LI.start {q : Q} {p : Nat} (hp : p < q.many) : LI q p p (2 * p + 1) := ⟨hp, .inl rfl, fun d _ _ _ _ => by omega⟩
theorem LI.no {q : Q} {p l c : Nat} (h : LI q p l c) (hn : ¬ Hp.ah q.keys (q.heap c) (q.heap l)) : LI q p l (c + 1) :=
  ⟨h.lt, h.who, fun d h1 h2 h3 h4 => by
    by_cases e : d = c
    · rw [e]; exact hn
    · exact h.min d h1 h2 h3 (by omega)⟩
theorem LI.yes {q : Q} {p l c : Nat} (h : LI q p l c) (hc : c < q.many) (hp : (c - 1) / 2 = p) (h0 : 0 < c) (hy : Hp.ah q.keys (q.heap c) (q.heap l)) : LI q p c (c + 1) := by
  refine ⟨hc, .inr ⟨h0, hp, ?_⟩, fun d h1 h2 h3 h4 => ?_⟩
  · rcases h.who with e | ⟨_, _, e⟩
    · rw [← e]; exact hy
    · unfold Hp.ah at *; omega
  · by_cases e : d = c
    · rw [e]; unfold Hp.ah; omega
    · have := h.min d h1 h2 h3 (by omega)
      exact Hp.nah_trans this (Hp.ah_asymm hy)
set_option maxHeartbeats 1000000 in
theorem sink_any (b o a : Nat) (q : Q) (w : World) (h : At w b o q) (ho : Hp.Okp q) (hr : Hp.DI a q) (ha : a < q.many) :
    Calls Tryz.prog 161 #[.pointer (some ⟨b, o, none⟩), .int .i64 a] w fun e w' => e = .returned (.tuple #[]) ∧ Only b o w w' ∧ ∃ q', At w' b o q' ∧ Hp.Okp q' ∧ Hp.Same q q' ∧ Hp.Full q' := by
  have hle0 := ho.le
  obtain ⟨M, hM⟩ : ∃ M, q.many = M := ⟨_, rfl⟩
  rw [hM] at hle0 ha
  have HM : Hid (q.many = M) := hM
  clear hM
  go_enter Tryz.func161, Tryz.ntmps161
  go_wp2
  go_loopw [1] (fun i wr => ∃ (p : Nat) (q' : Q), i = .int .i64 p ∧ p < M ∧ Hid (Only b o w wr ∧ At wr b o q' ∧ Hp.Okp q' ∧ Hp.Same q q' ∧ Hp.DI p q')) (fun i _ => 64 - (intOf i).toNat)
  case atStart => exact ⟨a, q, rfl, ha, Only.refl _ _ _, h, ho, Hp.Same.refl q, hr⟩
  case round =>
    clear h ho hr
    obtain ⟨p, q', rfl, hp, H⟩ := hrel
    have hmany : Hid (q'.many = M) := H.out.2.2.2.1.many.trans HM.out
    go_wp2_with fail
    go_loopw [4, 5] (fun l c wq => ∃ (ln cn n : Nat), l = .int .i64 ln ∧ c = .int .i64 cn ∧ ln < M ∧ 2 * p + 1 ≤ cn ∧ cn ≤ 2 * p + 3 ∧ wq = wr.drewN n ∧ Hid (LI q' p ln cn)) (fun _ c _ => 2 * p + 3 - (intOf c).toNat)
    case atStart => exact ⟨p, 2 * p + 1, 0, rfl, by go_num, hp, by omega, by omega, rfl, LI.start (by rw [hmany.out]; exact hp)⟩
    case round =>
      obtain ⟨l, c, n, rfl, rfl, hl, hc1, hc2, rfl, L⟩ := hrel
      have cm : (wr.drewN n).cell? ⟨b, o, none⟩ = some (.int .i64 M) := by rw [← hmany.out]; exact (H.out.2.1.drewN n).many
      by_cases k1 : c ≤ 2 * p + 2
      · have d1 : decide ((c : Int) ≤ 2 * (p : Int) + 2) = true := by simp; omega
        by_cases k2 : c < M
        · have k2' : (c : Int) < (M : Int) := by omega
          go_wp2_with fail
          refine (ahead_i b o _ _ q' _ (H.out.2.1.drewN _) (by omega) (by omega) (by omega) (by omega) (by rw [Int.toNat_natCast]; exact (H.out.2.2.1.at_ c (by rw [hmany.out]; exact k2)).1) (by rw [Int.toNat_natCast]; exact (H.out.2.2.1.at_ l (by rw [hmany.out]; exact hl)).1)).mono ?_
          rintro e w1 ⟨rfl, n1, rfl⟩
          rw [Int.toNat_natCast, Int.toNat_natCast]
          cases hah : ahB q' c l
          · have HN : Hid (ahB q' c l = false) := hah
            clear hah
            go_wp2_with fail
            go_roundw
            case rel => exact ⟨l, c + 1, n + n1, rfl, by go_num, hl, by omega, by omega, by first | rfl | exact World.drewN_drewN _ _ _, L.out.no (fun k => by have := (ahB_iff _ _ _).2 k; rw [HN.out] at this; cases this)⟩
            case measure => simp [intOf]; omega
          · have HN : Hid (ahB q' c l = true) := hah
            clear hah
            go_wp2_with fail
            go_roundw
            case rel => exact ⟨c, c + 1, n + n1, rfl, by go_num, k2, by omega, by omega, by first | rfl | exact World.drewN_drewN _ _ _, L.out.yes (by rw [hmany.out]; exact k2) (by omega) (by omega) ((ahB_iff _ _ _).1 HN.out)⟩
            case measure => simp [intOf]; omega
        · have k2' : ¬ (c : Int) < (M : Int) := by omega
          have fin : Hid (∀ d, 0 < d → d < q'.many → (d - 1) / 2 = p → ¬ Hp.ah q'.keys (q'.heap d) (q'.heap l)) := fun d h1 h2 h3 => L.out.min d h1 h2 h3 (by have := hmany.out; omega)
          by_cases k3 : l = p
          · subst k3
            go_wp2_with fail
            refine bodyPost_ret (results_none rfl _ _ _) rfl ?_
            obtain ⟨h1, h2, h3, h4, h5⟩ := H.out
            exact ⟨rfl, h1.trans (Only.drewN b o _ _), q', h2.drewN _, h3, h4, Hp.sink_end h5 fin.out⟩
          · have k3' : ((l : Int) == (p : Int)) = false := by simp; omega
            go_wp2_with fail
            refine (swap_i b o _ _ q' _ (H.out.2.1.drewN _) (by omega) (by omega) (by omega) (by omega) (by rw [Int.toNat_natCast]; exact (H.out.2.2.1.at_ p (by rw [hmany.out]; exact hp)).1) (by rw [Int.toNat_natCast]; exact (H.out.2.2.1.at_ l (by rw [hmany.out]; exact hl)).1)).mono ?_
            rintro e w2 ⟨rfl, h2, o2⟩
            rw [Int.toNat_natCast, Int.toNat_natCast] at h2
            have H2 : Hid _ := h2
            have O2 : Hid _ := o2
            clear h2 o2
            go_wp2_with fail
            go_roundw
            case rel =>
              obtain ⟨h1, h2, h3, h4, h5⟩ := H.out
              have hpm : p < q'.many := by rw [hmany.out]; exact hp
              have hlm : l < q'.many := by rw [hmany.out]; exact hl
              have sw := Hp.swap_ok h3 hpm hlm
              have who := (L.out.who).resolve_left k3
              exact ⟨l, _, rfl, hl, (h1.trans (Only.drewN b o _ _)).trans O2.out, H2.out, sw.1, h4.trans sw.2, Hp.sink_step h5 who.1 hlm who.2.1 who.2.2 fin.out⟩
            case measure =>
              have who := (L.out.who).resolve_left k3
              simp [intOf]; omega
      · have d1 : decide ((c : Int) ≤ 2 * (p : Int) + 2) = false := by simp; omega
        have fin : Hid (∀ d, 0 < d → d < q'.many → (d - 1) / 2 = p → ¬ Hp.ah q'.keys (q'.heap d) (q'.heap l)) := fun d h1 h2 h3 => L.out.min d h1 h2 h3 (by have := hmany.out; omega)
        by_cases k3 : l = p
        · subst k3
          go_wp2_with fail
          refine bodyPost_ret (results_none rfl _ _ _) rfl ?_
          obtain ⟨h1, h2, h3, h4, h5⟩ := H.out
          exact ⟨rfl, h1.trans (Only.drewN b o _ _), q', h2.drewN _, h3, h4, Hp.sink_end h5 fin.out⟩
        · have k3' : ((l : Int) == (p : Int)) = false := by simp; omega
          go_wp2_with fail
          refine (swap_i b o _ _ q' _ (H.out.2.1.drewN _) (by omega) (by omega) (by omega) (by omega) (by rw [Int.toNat_natCast]; exact (H.out.2.2.1.at_ p (by rw [hmany.out]; exact hp)).1) (by rw [Int.toNat_natCast]; exact (H.out.2.2.1.at_ l (by rw [hmany.out]; exact hl)).1)).mono ?_
          rintro e w2 ⟨rfl, h2, o2⟩
          rw [Int.toNat_natCast, Int.toNat_natCast] at h2
          have H2 : Hid _ := h2
          have O2 : Hid _ := o2
          clear h2 o2
          go_wp2_with fail
          go_roundw
          case rel =>
            obtain ⟨h1, h2, h3, h4, h5⟩ := H.out
            have hpm : p < q'.many := by rw [hmany.out]; exact hp
            have hlm : l < q'.many := by rw [hmany.out]; exact hl
            have sw := Hp.swap_ok h3 hpm hlm
            have who := (L.out.who).resolve_left k3
            exact ⟨l, _, rfl, hl, (h1.trans (Only.drewN b o _ _)).trans O2.out, H2.out, sw.1, h4.trans sw.2, Hp.sink_step h5 who.1 hlm who.2.1 who.2.2 fin.out⟩
          case measure =>
            have who := (L.out.who).resolve_left k3
            simp [intOf]; omega
end Go.Proofs.YtghogbngmcolmaaGreat.Fa
namespace Go.Proofs.YtghogbngmcolmaaGreat.Fa
open Go.RowKit
open Hp (Q)
theorem set_i (b o : Nat) (x j : Int) (q : Q) (w : World) (h : At w b o q) (x0 : 0 ≤ x) (x1 : x < 64) (j0 : 0 ≤ j) (j1 : j < 64) :
    Calls Tryz.prog 159 #[.pointer (some ⟨b, o, none⟩), .int .i64 x, .int .i64 j] w fun e w' => e = .returned (.tuple #[]) ∧ At w' b o (Hp.set q x.toNat j.toNat) ∧ Only b o w w' := by
  obtain ⟨x, rfl⟩ := Int.eq_ofNat_of_zero_le x0
  obtain ⟨j, rfl⟩ := Int.eq_ofNat_of_zero_le j0
  exact set_any b o x j q w h (by omega) (by omega)
theorem rise_i (b o : Nat) (a : Int) (q : Q) (w : World) (h : At w b o q) (ho : Hp.Okp q) (a0 : 0 ≤ a) (hr : Hp.RI a.toNat a.toNat q) :
    Calls Tryz.prog 160 #[.pointer (some ⟨b, o, none⟩), .int .i64 a] w fun e w' => e = .returned (.tuple #[]) ∧ Only b o w w' ∧ ∃ q', At w' b o q' ∧ Hp.Okp q' ∧ Hp.Same q q' ∧ Hp.DI a.toNat q' := by
  obtain ⟨a, rfl⟩ := Int.eq_ofNat_of_zero_le a0
  exact rise_any b o a q w h ho hr
set_option maxHeartbeats 400000 in
theorem put_has (b o j : Nat) (k : Int) (q : Q) (w : World) (h : At w b o q) (hj : j < 64) (hp : 0 < q.place j) :
    Calls Tryz.prog 158 #[.pointer (some ⟨b, o, none⟩), .int .i64 j, .int .u64 k] w fun e w' => e = .returned (.iface 60 (.int .i64 3)) ∧ w' = w := by
  have HB : Hid (bnd (j : Int) = true) := bnd_true (by omega) (by omega)
  have HI : Hid (isin q j = true) := decide_eq_true hp
  have H : Hid (At w b o q) := h
  clear h
  go_enter Tryz.func158, Tryz.ntmps158
  go_wp2_with fail
  refine (bounded_any j _).mono ?_
  rintro e w' ⟨rfl, rfl⟩
  rw [HB.out]
  go_wp2_with fail
  refine (has_any b o j q _ H.out hj).mono ?_
  rintro e w' ⟨rfl, rfl⟩
  rw [HI.out]
  go_wp2
  go_ret
  exact ⟨rfl, rfl⟩
structure Good (w : World) (b o : Nat) (q : Q) : Prop where
  at_ : At w b o q
  ok : Hp.Okp q
  full : Hp.Full q
set_option maxHeartbeats 400000 in
theorem put_new (b o j k : Nat) (q : Q) (w : World) (h : Good w b o q) (hj : j < 64) (hp : q.place j = 0) :
    Calls Tryz.prog 158 #[.pointer (some ⟨b, o, none⟩), .int .i64 j, .int .u64 k] w fun e w' => e = .returned .nilIface ∧ Only b o w w' ∧ ∃ q', Good w' b o q' ∧ q'.many = q.many + 1 ∧ q'.keys = Hp.upd q.keys j k ∧ ∀ i, 0 < q'.place i ↔ (0 < q.place i ∨ i = j) := by
  have HB : Hid (bnd (j : Int) = true) := bnd_true (by omega) (by omega)
  have HI : Hid (isin q j = false) := decide_eq_false (by omega)
  have H : Hid (Good w b o q) := h
  have hm : q.many < 64 := Hp.many_lt h.ok hj hp
  have ck := h.at_.keys j hj
  have cf := h.at_.frozen
  have cm := h.at_.many
  have hjI : (j : Int) < 64 := by omega
  have HP : Hid (q.place j = 0) := hp
  clear h hp
  obtain ⟨m, hmm⟩ : ∃ m, q.many = m := ⟨_, rfl⟩
  rw [hmm] at hm cm
  have HM : Hid (q.many = m) := hmm
  clear hmm
  go_enter Tryz.func158, Tryz.ntmps158
  go_wp2_with fail
  refine (bounded_any j _).mono ?_
  rintro e w' ⟨rfl, rfl⟩
  rw [HB.out]
  go_wp2_with fail
  refine (has_any b o j q _ H.out.at_ hj).mono ?_
  rintro e w' ⟨rfl, rfl⟩
  rw [HI.out]
  go_wp2_with fail
  refine (set_i b o _ _ _ _ (H.out.at_.setKeys j k hj) (by omega) (by omega) (by omega) (by omega)).mono ?_
  rintro e w1 ⟨rfl, h1, o1⟩
  rw [Int.toNat_natCast, Int.toNat_natCast] at h1
  have cm1 : w1.cell? ⟨b, o, none⟩ = some (.int .i64 m) := by rw [← HM.out]; exact h1.many
  have cf1 := h1.frozen
  have H1 : Hid (At w1 b o (Hp.set { q with keys := Hp.upd q.keys j k } m j)) := h1
  have O1 : Hid (Only b o (w'.setCell ⟨b, o + 129 + j, none⟩ (.int .u64 k)) w1) := o1
  clear h1 o1 ck cf cm
  go_wp2_with fail
  have h2 : At (w1.setCell ⟨b, o, none⟩ (.int .i64 ((m : Int) + 1))) b o (Hp.putQ q j k) := by
    have h2 := H1.out.setMany (m + 1)
    have e2 : (({ Hp.set { q with keys := Hp.upd q.keys j k } m j with many := m + 1 } : Q)) = Hp.putQ q j k := by unfold Hp.putQ Hp.set; rw [HM.out]
    rw [e2] at h2
    rw [show ((m : Int) + 1) = ((m + 1 : Nat) : Int) by omega]
    exact h2
  have po := Hp.put_ok (k := k) H.out.ok H.out.full hj HP.out
  rw [HM.out] at po
  refine (rise_i b o _ (Hp.putQ q j k) _ h2 po.1 (by omega) (by rw [Int.toNat_natCast]; exact po.2)).mono ?_
  rintro e w2 ⟨rfl, o2, q', h3, h4, h5, h6⟩
  rw [Int.toNat_natCast] at h6
  have FIN : Hid (Only b o w' w2 ∧ ∃ q', Good w2 b o q' ∧ q'.many = q.many + 1 ∧ q'.keys = Hp.upd q.keys j k ∧ ∀ i, 0 < q'.place i ↔ (0 < q.place i ∨ i = j)) := by
    refine ⟨(((Only.setCell b o _ _ _ (by omega)).trans O1.out).trans (Only.setCell b o _ _ _ (by omega))).trans o2, q', ⟨h3, h4, Hp.put_end h6 ?_⟩, h5.many, h5.keys, fun i => ?_⟩
    · rw [h5.many]; show q.many + 1 = m + 1; rw [HM.out]
    · rw [h5.has]
      show 0 < Hp.upd q.place j (q.many + 1) i ↔ _
      by_cases e : i = j
      · subst e; rw [Hp.upd_same]; simp
      · rw [Hp.upd_ne _ _ _ _ e]; simp [e]
  clear h2 po h3 h4 h5 h6 o2
  go_wp2_with fail
  go_ret
  exact ⟨rfl, FIN.out⟩
set_option maxHeartbeats 400000 in
theorem key_none (b o j : Nat) (q : Q) (w : World) (h : At w b o q) (hj : j < 64) (hp : q.place j = 0) :
    Calls Tryz.prog 156 #[.pointer (some ⟨b, o, none⟩), .int .i64 j] w fun e w' => e = .returned (.tuple #[.int .u64 0, .iface 60 (.int .i64 2)]) ∧ w' = w := by
  have HB : Hid (bnd (j : Int) = true) := bnd_true (by omega) (by omega)
  have HI : Hid (isin q j = false) := decide_eq_false (by omega)
  have H : Hid (At w b o q) := h
  clear h hp
  go_enter Tryz.func156, Tryz.ntmps156
  go_wp2_with fail
  refine (bounded_any j _).mono ?_
  rintro e w' ⟨rfl, rfl⟩
  rw [HB.out]
  go_wp2_with fail
  refine (has_any b o j q _ H.out hj).mono ?_
  rintro e w' ⟨rfl, rfl⟩
  rw [HI.out]
  go_wp2
  go_ret2
  exact ⟨rfl, rfl⟩
set_option maxHeartbeats 400000 in
theorem key_has (b o j : Nat) (q : Q) (w : World) (h : At w b o q) (hj : j < 64) (hp : 0 < q.place j) :
    Calls Tryz.prog 156 #[.pointer (some ⟨b, o, none⟩), .int .i64 j] w fun e w' => e = .returned (.tuple #[.int .u64 (q.keys j), .nilIface]) ∧ w' = w := by
  have HB : Hid (bnd (j : Int) = true) := bnd_true (by omega) (by omega)
  have HI : Hid (isin q j = true) := decide_eq_true hp
  have H : Hid (At w b o q) := h
  have ck := h.keys j hj
  have hjI : (j : Int) < 64 := by omega
  clear h hp
  go_enter Tryz.func156, Tryz.ntmps156
  go_wp2_with fail
  refine (bounded_any j _).mono ?_
  rintro e w' ⟨rfl, rfl⟩
  rw [HB.out]
  go_wp2_with fail
  refine (has_any b o j q _ H.out hj).mono ?_
  rintro e w' ⟨rfl, rfl⟩
  rw [HI.out]
  go_wp2
  go_ret2
  exact ⟨rfl, rfl⟩
set_option maxHeartbeats 400000 in
theorem len_any (b o : Nat) (q : Q) (w : World) (h : At w b o q) :
    Calls Tryz.prog 165 #[.pointer (some ⟨b, o, none⟩)] w fun e w' => e = .returned (.int .i64 q.many) ∧ w' = w := by
  have cm := h.many
  clear h
  go_enter Tryz.func165, Tryz.ntmps165
  go_wp2
  go_ret
  exact ⟨rfl, rfl⟩
set_option maxHeartbeats 400000 in
theorem first_none (b o : Nat) (q : Q) (w : World) (h : At w b o q) (h0 : q.many = 0) :
    Calls Tryz.prog 138 #[.pointer (some ⟨b, o, none⟩)] w fun e w' => e = .returned (.tuple #[.int .i64 0, .int .u64 0, .bool false]) ∧ w' = w := by
  have cm := h.many
  rw [h0] at cm
  clear h h0
  go_enter Tryz.func138, Tryz.ntmps138
  go_wp2
  go_ret3
  exact ⟨rfl, rfl⟩
set_option maxHeartbeats 400000 in
theorem first_some (b o : Nat) (q : Q) (w : World) (h : Good w b o q) (h0 : 0 < q.many) :
    Calls Tryz.prog 138 #[.pointer (some ⟨b, o, none⟩)] w fun e w' => ∃ j : Nat, e = .returned (.tuple #[.int .i64 j, .int .u64 (q.keys j), .bool true]) ∧ (∃ n, w' = w.drewN n) ∧ j < 64 ∧ 0 < q.place j ∧ ∀ i, i < 64 → 0 < q.place i → ¬ Hp.ah q.keys i j := by
  have cm := h.at_.many
  have hne : ((q.many : Int) == 0) = false := by simp; omega
  have a0 := h.ok.at_ 0 h0
  have ch := h.at_.heap 0 (by omega)
  have ck := h.at_.keys _ a0.1
  have H : Hid (Good w b o q) := h
  have H0 : Hid (0 < q.many) := h0
  have A0 : Hid (q.heap 0 < 64 ∧ q.place (q.heap 0) = 0 + 1) := a0
  have FIN : Hid (∀ i, i < 64 → 0 < q.place i → ¬ Hp.ah q.keys i (q.heap 0)) := fun i hi hp => by
    have oi := h.ok.of_ i hi
    have := Hp.first_least h.full (q.place i - 1) (by omega)
    rw [oi.2 hp] at this
    exact this
  clear h h0 a0
  generalize hJ : q.heap 0 = J at *
  have hJI : (J : Int) < 64 := by have := A0.out.1; omega
  clear hJ
  go_enter Tryz.func138, Tryz.ntmps138
  go_wp2
  go_quiet (fail)
  go_wp2
  go_ret3
  exact ⟨J, rfl, ⟨_, rfl⟩, A0.out.1, by have := A0.out.2; omega, FIN.out⟩
end Go.Proofs.YtghogbngmcolmaaGreat.Fa
namespace Go.Proofs.YtghogbngmcolmaaGreat.Fa
open Go.RowKit
open Hp (Q)
theorem wp_gen {P : Program} {c : Code} {Q : Exit → Act → World → Prop} {a : Act} {W : World} (F : World → Prop) (h1 : F W) (h2 : ∀ W', F W' → Code.wp P c Q a W') : Code.wp P c Q a W := h2 W h1
theorem cutAt {W : World} {b o m j : Nat} {q : Q} (h : At W b o { q with many := m }) (hM : q.many = m + 1) (hm : m < 64) (hj : j < 64) :
    At ((((W.setCell ⟨b, o + 1 + m, none⟩ (.int .i64 0)).setCell ⟨b, o + 65 + j, none⟩ (.int .i64 0)).setCell ⟨b, o + 129 + j, none⟩ (.int .u64 0)).drew) b o (Hp.cutQ q j) := by
  have h1 := ((h.setHeap m 0 hm).setPlace j 0 hj).setKeys j 0 hj
  have e : Hp.cutQ q j = { many := m, heap := Hp.upd q.heap m 0, place := Hp.upd q.place j 0, keys := Hp.upd q.keys j 0 } := by
    unfold Hp.cutQ; rw [hM]; rfl
  rw [e]
  exact h1
theorem cutOnly (W : World) (b o m j : Nat) (hm : m < 64) (hj : j < 64) : Only b o W ((((W.setCell ⟨b, o + 1 + m, none⟩ (.int .i64 0)).setCell ⟨b, o + 65 + j, none⟩ (.int .i64 0)).setCell ⟨b, o + 129 + j, none⟩ (.int .u64 0)).drew) :=
  (((Only.setCell b o _ _ _ (by omega)).trans (Only.setCell b o _ _ _ (by omega))).trans (Only.setCell b o _ _ _ (by omega))).trans (Only.drew b o _)
theorem cut_in {q q' : Q} {j : Nat} (hs : Hp.Same (Hp.cutQ q j) q') (i : Nat) : 0 < q'.place i ↔ (0 < q.place i ∧ ¬ i = j) := by
  rw [hs.has]
  show 0 < Hp.upd q.place j 0 i ↔ _
  by_cases e : i = j
  · subst e; rw [Hp.upd_same]; simp
  · rw [Hp.upd_ne _ _ _ _ e]; simp [e]
set_option maxHeartbeats 1000000 in
theorem cut_has (b o j : Nat) (q : Q) (w : World) (h : Good w b o q) (hj : j < 64) (hp : 0 < q.place j) :
    Calls Tryz.prog 153 #[.pointer (some ⟨b, o, none⟩), .int .i64 j] w fun e w' => e = .returned (.tuple #[.int .u64 (q.keys j), .nilIface]) ∧ Only b o w w' ∧ ∃ q', Good w' b o q' ∧ q'.many + 1 = q.many ∧ q'.keys = Hp.upd q.keys j 0 ∧ ∀ i, 0 < q'.place i ↔ (0 < q.place i ∧ i ≠ j) := by
  have oj := h.ok.of_ j hj
  have hle := h.ok.le
  obtain ⟨m, hm⟩ : ∃ m, q.many = m + 1 := ⟨q.many - 1, by omega⟩
  obtain ⟨x, hx⟩ : ∃ x, q.place j = x + 1 := ⟨q.place j - 1, by omega⟩
  obtain ⟨t, ht⟩ : ∃ t, q.heap m = t := ⟨_, rfl⟩
  have hxm : x ≤ m := by omega
  have hm64 : m < 64 := by omega
  have ht64 : t < 64 := by rw [← ht]; exact (h.ok.at_ m (by omega)).1
  have cm := h.at_.many
  have cp := h.at_.place j hj
  have cf := h.at_.frozen
  rw [hm] at cm
  rw [hx] at cp
  have H : Hid (Good w b o q) := h
  have HP : Hid (0 < q.place j) := hp
  have HM : Hid (q.many = m + 1) := hm
  have HX : Hid (q.place j = x + 1) := hx
  have HT : Hid (q.heap m = t) := ht
  have hjI : (j : Int) < 64 := by omega
  have hmI : (m : Int) < 64 := by omega
  clear h hp hm hx ht oj hle
  go_enter Tryz.func153, Tryz.ntmps153
  go_wp2_with fail
  refine (key_has b o j q _ H.out.at_ hj HP.out).mono ?_
  rintro e w1 ⟨rfl, rfl⟩
  have FW : Hid (Only b o w1 w1) := Only.refl b o w1
  go_wp2_with fail
  refine wp_gen (fun W => At W b o { q with many := m } ∧ Only b o w1 W) ⟨H.out.at_.setMany m, Only.setCell b o _ _ _ (by omega)⟩ ?_
  rintro W ⟨hA, hO⟩
  have am := hA.many
  have ah := hA.heap m hm64
  have AT : Hid (At W b o { q with many := m }) := hA
  have ON : Hid (Only b o w1 W) := hO
  have ah' : W.cell? ⟨b, o + 1 + m, none⟩ = some (.int .i64 t) := by rw [← HT.out]; exact ah
  have am' : W.cell? ⟨b, o, none⟩ = some (.int .i64 m) := am
  clear hA hO ah am cm cp cf
  go_quiet (fail)
  go_wp2_with fail
  refine wp_gen (fun W2 => At W2 b o { q with many := m } ∧ Only b o w1 W2) ⟨AT.out.drewN nq, ON.out.trans (Only.drewN b o _ _)⟩ ?_
  clear ah' am' AT ON
  rintro W2 ⟨hA, hO⟩
  have am : W2.cell? ⟨b, o, none⟩ = some (.int .i64 m) := hA.many
  have c1 := hA.heap m hm64
  have c2 := hA.place j hj
  have c3 := hA.keys j hj
  have cf := hA.frozen
  have AT : Hid (At W2 b o { q with many := m }) := hA
  have ON : Hid (Only b o w1 W2) := hO
  clear hA hO
  by_cases k : t = j
  · have kb : ((t : Int) != (j : Int)) = false := by simp; omega
    go_region
    go_wp2_with fail
    go_ret2
    have hml : q.many - 1 = m := by rw [HM.out]; rfl
    have cl := Hp.cut_last H.out.ok H.out.full hj HP.out (by rw [hml, HT.out]; exact k)
    exact ⟨rfl, ON.out.trans (cutOnly _ b o m j hm64 hj), _, ⟨cutAt AT.out HM.out hm64 hj, cl.1, cl.2⟩, by show q.many - 1 + 1 = q.many; rw [HM.out]; rfl, rfl, cut_in (Hp.Same.refl _)⟩
  · have kb : ((t : Int) != (j : Int)) = true := by rw [bne_iff_ne]; omega
    go_region
    go_wp2_with fail
    refine (set_any b o x t (Hp.cutQ q j) _ (cutAt AT.out HM.out hm64 hj) (by omega) ht64).mono ?_
    rintro e w2 ⟨rfl, h2, o2⟩
    have hml : Hid (q.many - 1 = m) := by rw [HM.out]; rfl
    have hxl : Hid (q.place j - 1 = x) := by rw [HX.out]; rfl
    have co : Hid (Hp.Okp (Hp.set (Hp.cutQ q j) x t) ∧ Hp.RI x x (Hp.set (Hp.cutQ q j) x t)) := by
      have co := Hp.cut_ok H.out.ok H.out.full hj HP.out (by rw [hml.out, HT.out]; exact k)
      rw [hml.out, hxl.out, HT.out] at co
      exact co
    have H2 : Hid (At w2 b o (Hp.set (Hp.cutQ q j) x t)) := h2
    have O2 : Hid (Only b o w1 w2) := (ON.out.trans (cutOnly _ b o m j hm64 hj)).trans o2
    clear h2 o2 c1 c2 c3 cf am
    go_wp2_with fail
    refine (rise_any b o x _ _ H2.out co.out.1 co.out.2).mono ?_
    rintro e w3 ⟨rfl, o3, q3, h3, k3, s3, d3⟩
    have H3 : Hid (At w3 b o q3 ∧ Hp.Okp q3 ∧ Hp.Same (Hp.set (Hp.cutQ q j) x t) q3 ∧ Hp.DI x q3) := ⟨h3, k3, s3, d3⟩
    have O3 : Hid (Only b o w1 w3) := O2.out.trans o3
    clear h3 k3 s3 d3 o3 O2 H2
    go_wp2_with fail
    refine (sink_any b o x q3 _ H3.out.1 H3.out.2.1 H3.out.2.2.2 (by rw [H3.out.2.2.1.many]; exact co.out.2.lt)).mono ?_
    rintro e w4 ⟨rfl, o4, q4, h4, k4, s4, f4⟩
    have O4 : Hid (Only b o w1 w4) := O3.out.trans o4
    have S4 : Hp.Same (Hp.set (Hp.cutQ q j) x t) q4 := H3.out.2.2.1.trans s4
    have hset : Hp.Same (Hp.cutQ q j) (Hp.set (Hp.cutQ q j) x t) := by
      refine ⟨rfl, rfl, fun i => ?_⟩
      show 0 < Hp.upd (Hp.upd q.place j 0) t (x + 1) i ↔ 0 < Hp.upd q.place j 0 i
      by_cases e : i = t
      · subst e
        rw [Hp.upd_same, Hp.upd_ne _ _ _ _ k]
        have := (H.out.ok.at_ m (by rw [HM.out]; omega)).2
        rw [HT.out] at this
        omega
      · rw [Hp.upd_ne _ _ _ _ e]
    have FIN : Hid (∃ q', Good w4 b o q' ∧ q'.many + 1 = q.many ∧ q'.keys = Hp.upd q.keys j 0 ∧ ∀ i, 0 < q'.place i ↔ (0 < q.place i ∧ ¬ i = j)) :=
      ⟨q4, ⟨h4, k4, f4⟩, by rw [S4.many]; show q.many - 1 + 1 = q.many; rw [HM.out]; rfl, S4.keys, cut_in (hset.trans S4)⟩
    clear h4 k4 s4 f4 S4 hset O3 H3 o4 co
    go_wp2_with fail
    go_ret2
    exact ⟨rfl, O4.out, FIN.out⟩
end Go.Proofs.YtghogbngmcolmaaGreat.Fa

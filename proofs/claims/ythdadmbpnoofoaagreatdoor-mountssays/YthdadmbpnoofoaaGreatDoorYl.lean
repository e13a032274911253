/- The document's own forest: Make, Link, Remove. -/
import Derived.Test.YthdadmbpnoofoaaGreatDoorYf
namespace Go.Proofs.YthdadmbpnoofoaaGreatDoor
open Go.RowKit
open Tr (Fo Nd RN)

theorem Tr.fo_ext {F G : Fo} (h1 : ∀ n, F.nd n = G.nd n) (h2 : F.root = G.root) (h3 : F.trees = G.trees) : F = G := by
  cases F
  cases G
  simp only at h1 h2 h3
  obtain rfl := funext h1
  subst h2
  subst h3
  rfl
theorem Tr.lsN_nil {x : Nd} (h : x.size = 0) : Tr.lsN x = [] := List.eq_nil_of_length_eq_zero (by rw [Tr.lsN_len, h])
theorem Tr.ksN_nil {x : Nd} (h : x.size = 0) : Tr.ksN x = [] := List.eq_nil_of_length_eq_zero (by rw [Tr.ksN_len, h])
theorem nr_new (B : Bs) (b : Nat) (rv : Value) (W : World) (kd tr u v : Nat) (h : kd = 2 → u = v) : NR B b rv W (newN kd tr u) ⟨kd, tr, 1, 0, v, ⟨#[]⟩, .slice none 0 0, .slice none 0 0⟩ := by
  refine ⟨rfl, fun _ => ⟨rfl, rfl, rfl⟩, fun k => (h k).symm, fun _ => ?_, fun _ => ?_, fun _ => rfl⟩
  · rw [Tr.lsN_nil rfl]; exact LV.nil _ _
  · rw [Tr.ksN_nil rfl]; exact LV.nil _ _
theorem Tr.makF_eq {F : Fo} {n k kd : Nat} {s : ByteArray} (nk : n ≠ k) : (F.put k (newN kd (F.nd n).tree (if kd = 2 then n else 0))).put n (Tr.adN (F.nd n) s k) = Tr.makF F n s kd k := by
  unfold Tr.makF
  rw [Tr.leaF_put nk, Tr.put_same, Tr.put_ne _ _ _ _ nk]
  refine Tr.fo_ext (fun m => ?_) rfl rfl
  by_cases c : m = k
  · subst c
    rw [Tr.put_same, Tr.put_ne _ _ _ _ (Ne.symm nk), Tr.put_same]
    by_cases d : kd = 2
    · rw [if_pos d, if_pos (show (newN kd (F.nd n).tree 0).kind = 2 from d)]; rfl
    · rw [if_neg d, if_neg (show ¬ (newN kd (F.nd n).tree 0).kind = 2 from d)]
  · rw [Tr.put_ne _ _ _ _ c]
    by_cases d : m = n
    · subst d; rw [Tr.put_same, Tr.put_same]
    · rw [Tr.put_ne _ _ _ _ d, Tr.put_ne _ _ _ _ c, Tr.put_ne _ _ _ _ d, Tr.put_ne _ _ _ _ c]
theorem Tr.linF_eq {F : Fo} {n k : Nat} {s : ByteArray} (nk : n ≠ k) (k1 : (F.nd k).kind = 1) : (F.put n (Tr.adN (F.nd n) s k)).put k { (F.put n (Tr.adN (F.nd n) s k)).nd k with links := ((F.put n (Tr.adN (F.nd n) s k)).nd k).links + 1 } = Tr.linF F k n s := by
  unfold Tr.linF
  rw [Tr.leaF_put nk, Tr.put_same, Tr.put_ne _ _ _ _ nk, Tr.put_ne _ _ _ _ (Ne.symm nk), if_neg (show ¬ (F.nd k).kind = 2 by rw [k1]; decide)]
  refine Tr.fo_ext (fun m => ?_) rfl rfl
  by_cases c : m = k
  · subst c; rw [Tr.put_same, Tr.put_same]
  · rw [Tr.put_ne _ _ _ _ c, Tr.put_ne _ _ _ _ c]
    by_cases d : m = n
    · subst d; rw [Tr.put_same, Tr.put_same]
    · rw [Tr.put_ne _ _ _ _ d, Tr.put_ne _ _ _ _ d, Tr.put_ne _ _ _ _ c]
section
variable (B : Bs) (b : Nat) (F : Fo) (R : Nat → RN) (rv : Value) (w : World)
set_option maxRecDepth 100000 in
set_option maxHeartbeats 2000000 in
theorem rmake_any (z kz : Int) (s : ByteArray) (h : FR B w b F R rv) (ho : Tr.Ok F) :
    Calls Tryz.prog 30 #[.pointer (some ⟨b, 0, none⟩), .int .i64 z, .string s, .int .i64 kz] w fun e w' => ∃ (K : Nat) (E : Int) (G : Fo), e = .returned (.tuple #[.int .i64 (K : Int), .int .i64 E]) ∧ Tr.MakTo F z s kz K E G ∧ (∃ R', FR B w' b G R' rv) ∧ Frm b w w' := by
  have HF := Hid.intro h
  have HO := Hid.intro ho
  by_cases ckz : kz = 1 ∨ kz = 2
  · obtain ⟨kd, hkd, hkd2⟩ : ∃ kd : Nat, kz = kd ∧ (kd = 1 ∨ kd = 2) := ⟨kz.toNat, by omega, by omega⟩
    subst hkd
    clear h ho
    have go : ∀ (d1 : ((kd : Int) != 1) = false ∨ (((kd : Int) != 1) = true ∧ ((kd : Int) != 2) = false)), Calls Tryz.prog 30 #[.pointer (some ⟨b, 0, none⟩), .int .i64 z, .string s, .int .i64 (kd : Int)] w fun e w' => ∃ (K : Nat) (E : Int) (G : Fo), e = .returned (.tuple #[.int .i64 (K : Int), .int .i64 E]) ∧ Tr.MakTo F z s (kd : Int) K E G ∧ (∃ R', FR B w' b G R' rv) ∧ Frm b w w' := by
      intro d1
      have CK := Hid.intro ckz
      have KD := Hid.intro hkd2
      clear ckz hkd2
      go_enter Tryz.func30, Tryz.ntmps30
      go_upto_region 1 with fail
      rcases d1 with d1 | ⟨d1, d2⟩
      all_goals
        go_wp2_with fail
        refine (rroom_any B b F R rv _ z s HF.out (fun n hn k2 => ⟨HO.out.dp n hn k2, HO.out.sz n hn k2⟩)).mono ?_
        rintro e w1 ⟨E, rfl, hw, e0, hw1⟩
        subst w1
        have HW := Hid.intro hw
        by_cases eE : E = 0
        · subst eE
          obtain ⟨n, rfl, n40, n2, hnm, hp, h8⟩ := hw.ok
          have nI : (n : Int) < 40 := by omega
          have c1 := HF.out.rb.cTree n n40
          rw [((HF.out.nd n n40).nm (by rw [n2]; decide)).1] at c1
          have HP := Hid.intro (And.intro n2 (And.intro hp (And.intro h8 (HO.out.sz n n40 n2))))
          obtain ⟨tr, htr⟩ : ∃ tr, (F.nd n).tree = tr := ⟨_, rfl⟩
          rw [htr] at c1
          have HT := Hid.intro htr
          clear hw n2 hnm hp h8 htr
          go_wp2_with fail
          refine (rfresh_any B b F R rv _ kd tr 1 n HF.out).mono ?_
          rintro e w1 ⟨k, E2, rfl, hf, hr0, hr1, f1⟩
          by_cases eE2 : E2 = 0
          · subst eE2
            obtain ⟨k40, k0⟩ : k < 40 ∧ (F.nd k).kind = 0 := by
              rcases hf with ⟨_, h1, h2, _⟩ | ⟨h1, _⟩
              · exact ⟨h1, h2⟩
              · omega
            have nk : n ≠ k := fun e => by have := HP.out.1; rw [e, k0] at this; exact absurd this (by decide)
            have H1 : Hid (FR B w1 b (F.put k (newN kd (F.nd n).tree (if kd = 2 then n else 0))) (putR R k ⟨kd, tr, 1, 0, n, ⟨#[]⟩, .slice none 0 0, .slice none 0 0⟩) rv) := Hid.intro (by
              refine HF.out.put (hr0 rfl) f1 ?_
              rw [HT.out]
              exact nr_new _ _ _ _ _ _ _ _ (fun d => if_pos d))
            have HR := Hid.intro (And.intro hf (And.intro f1 nk))
            have PN : Hid ((F.put k (newN kd (F.nd n).tree (if kd = 2 then n else 0))).nd n = F.nd n) := Hid.intro (Tr.put_ne _ _ _ _ nk)
            have ME := Hid.intro (Tr.makF_eq (F := F) (kd := kd) (s := s) nk)
            generalize F.put k (newN kd (F.nd n).tree (if kd = 2 then n else 0)) = F1 at H1 PN ME
            clear hf hr0 hr1 f1 k0
            go_wp2_with fail
            refine (rput_any B b F1 _ rv _ n k s H1.out n40 (by rw [PN.out]; exact HP.out.1) (by rw [PN.out]; exact HP.out.2.2.2) (by rw [PN.out]; exact HO.out.dp n n40 HP.out.1) (by rw [PN.out]; exact HP.out.2.1)).mono ?_
            rintro e w2 ⟨rfl, hR2, f2⟩
            rw [PN.out, ME.out] at hR2
            have H2 := Hid.intro (And.intro hR2 f2)
            clear hR2 f2
            go_wp2_with fail
            go_ret2
            refine ⟨k, 0, _, rfl, .inr ⟨CK.out, 0, HW.out, .inr ⟨rfl, k, 0, HR.out.1, .inr ⟨rfl, rfl, rfl, ?_⟩⟩⟩, H2.out.1, HR.out.2.1.trans H2.out.2⟩
            rw [Int.toNat_natCast, Int.toNat_natCast]
          · have pos : 0 < E2 := by
              rcases hf with ⟨h1, _⟩ | ⟨h1, _⟩ <;> omega
            have H1 : Hid (FR B w1 b F R rv) := Hid.intro ⟨hr1 eE2, HF.out.le, HF.out.own.kept (row := some b) ⟨f1.os, f1.tape, f1.output, f1.size, fun k hk hne => f1.block k hk (fun e => hne (by rw [e]))⟩ (.inr HF.out.ob), HF.out.ob, fun m hm => (HF.out.nd m hm).frm f1, fun g hg => Nat.lt_of_lt_of_le (HF.out.bd g hg) f1.size, HF.out.ra⟩
            have HR := Hid.intro (And.intro hf (And.intro f1 eE2))
            clear hf hr0 hr1 f1 eE2
            go_wp2_with fail
            go_ret2
            exact ⟨0, E2, F, rfl, .inr ⟨CK.out, 0, HW.out, .inr ⟨rfl, k, E2, HR.out.1, .inl ⟨HR.out.2.2, rfl, rfl, rfl⟩⟩⟩, ⟨_, H1.out⟩, HR.out.2.1⟩
        · have pos : 0 < E := by omega
          have NE := Hid.intro eE
          clear hw eE e0
          go_wp2_with fail
          go_ret2
          exact ⟨0, E, F, rfl, .inr ⟨CK.out, E, HW.out, .inl ⟨NE.out, rfl, rfl, rfl⟩⟩, ⟨_, HF.out⟩, Frm.refl _ _⟩
    rcases hkd2 with rfl | rfl
    · exact go (.inl rfl)
    · exact go (.inr ⟨rfl, rfl⟩)
  · have d1 : (kz != 1) = true := by simp; omega
    have d2 : (kz != 2) = true := by simp; omega
    have d1' : ¬ kz = 1 := by omega
    have d2' : ¬ kz = 2 := by omega
    have CK : Hid (kz ≠ 1 ∧ kz ≠ 2) := Hid.intro ⟨d1', d2'⟩
    clear h ho ckz
    go_enter Tryz.func30, Tryz.ntmps30
    go_wp2_with fail
    go_ret2
    exact ⟨0, 1, F, rfl, .inl ⟨CK.out.1, CK.out.2, rfl, rfl, rfl⟩, ⟨_, HF.out⟩, Frm.refl _ _⟩
end
end Go.Proofs.YthdadmbpnoofoaaGreatDoor
/- The document's own forest: Link, Remove. -/
namespace Go.Proofs.YthdadmbpnoofoaaGreatDoor
open Go.RowKit
open Tr (Fo Nd RN)

theorem Tr.remF_eq {F : Fo} {n i k : Nat} (nk : k ≠ n) : Tr.swe ((F.put n (Tr.forN (F.nd n) i)).put k { (F.put n (Tr.forN (F.nd n) i)).nd k with links := ((F.put n (Tr.forN (F.nd n) i)).nd k).links - 1 }) k = Tr.remF F n i k := by
  unfold Tr.remF
  rw [Tr.put_ne _ _ _ _ nk]
section
variable (B : Bs) (b : Nat) (F : Fo) (R : Nat → RN) (rv : Value) (w : World)
set_option maxRecDepth 100000 in
set_option maxHeartbeats 2000000 in
theorem rlink_any (y z : Int) (s : ByteArray) (h : FR B w b F R rv) (ho : Tr.Ok F) :
    Calls Tryz.prog 32 #[.pointer (some ⟨b, 0, none⟩), .int .i64 y, .int .i64 z, .string s] w fun e w' => ∃ (E : Int) (G : Fo), e = .returned (.int .i64 E) ∧ Tr.LinTo F y z s E G ∧ (∃ R', FR B w' b G R' rv) ∧ Frm b w w' := by
  have HF := Hid.intro h
  have HO := Hid.intro ho
  have ek : Tr.isK F y 1 = Tr.isE F y 1 := rfl
  by_cases c : Tr.isE F y 1 = 0
  · obtain ⟨k, rfl, k40, k0, k1⟩ := Tr.isE_ok c
    have kI : (k : Int) < 40 := by omega
    have EK := Hid.intro (And.intro (ek.trans c) (And.intro c k1))
    have q2 := h.rb.cTree k k40
    rw [((h.nd k k40).nm k0).1] at q2
    have ll := ho.links_lt k k40 k0
    have K0 := Hid.intro k0
    clear h ho c k0 k1 ek
    go_enter Tryz.func32, Tryz.ntmps32
    go_wp2_with fail
    refine (ris_any B b 1 (k : Int) F R rv _ HF.out).mono ?_
    rintro e w1 ⟨rfl, hw1⟩
    subst w1
    rw [EK.out.1]
    go_wp2_with fail
    refine (rroom_any B b F R rv _ z s HF.out (fun n hn k2 => ⟨HO.out.dp n hn k2, HO.out.sz n hn k2⟩)).mono ?_
    rintro e w1 ⟨E, rfl, hw, e0, hw1⟩
    subst w1
    have HW := Hid.intro hw
    by_cases eE : E = 0
    · subst eE
      obtain ⟨n, rfl, n40, n2, hnm, hp, h8⟩ := hw.ok
      have nI : (n : Int) < 40 := by omega
      have c1 := HF.out.rb.cTree n n40
      rw [((HF.out.nd n n40).nm (by rw [n2]; decide)).1] at c1
      have nk : n ≠ k := fun e => by rw [e, EK.out.2.2] at n2; exact absurd n2 (by decide)
      have HP := Hid.intro (And.intro n2 (And.intro hp (And.intro nk (HO.out.sz n n40 n2))))
      clear hw n2 hnm hp h8 nk
      by_cases te : (F.nd k).tree = (F.nd n).tree
      · have TE := Hid.intro te
        rw [te] at q2
        have H1 : Hid (∀ nq, FR B (w.drewN nq) b F R rv) := Hid.intro (fun nq => HF.out.drewN nq)
        generalize (F.nd n).tree = tr at c1 q2
        clear te
        go_upto_region 7 with fail
        go_quiet (fail)
        go_wp2_with fail
        refine (rput_any B b F R rv _ n k s (H1.out _) n40 HP.out.1 HP.out.2.2.2 (HO.out.dp n n40 HP.out.1) HP.out.2.1).mono ?_
        rintro e w2 ⟨rfl, ⟨R2, hR2⟩, f2⟩
        have PN : Hid ((F.put n (Tr.adN (F.nd n) s k)).nd k = F.nd k) := Hid.intro (Tr.put_ne _ _ _ _ (Ne.symm HP.out.2.2.1))
        have q3 := hR2.rb.cLinks k k40
        rw [((hR2.nd k k40).nm (by rw [PN.out]; exact K0.out)).2.1, PN.out] at q3
        have cf := hR2.rb.frozen
        have fx : Frm b w w2 := ((Frm.refl b w).drewN nq).trans f2
        have FIN : Hid ((∃ R', FR B (w2.setCell ⟨b, k * 8 + 2, none⟩ (.int .i64 (((F.nd k).links + 1 : Nat) : Int))) b (Tr.linF F k n s) R' rv) ∧ Frm b w (w2.setCell ⟨b, k * 8 + 2, none⟩ (.int .i64 (((F.nd k).links + 1 : Nat) : Int)))) := Hid.intro ⟨⟨_, by
          have := hR2.links (v := (F.nd k).links + 1) k40
          rw [← Tr.linF_eq HP.out.2.2.1 EK.out.2.2, PN.out]
          rw [PN.out] at this
          exact this⟩, fx.trans ((Frm.refl b w2).setCell _ _)⟩
        generalize (F.nd k).links = lk at *
        have hw : IntKind.i64.wrap ((lk : Int) + 1) = (lk : Int) + 1 := IntWalk.i64_in _ ⟨by omega, by omega⟩
        clear hR2 f2 fx PN
        go_wp2_with fail
        go_region
        go_wp2_with fail
        go_ret
        refine ⟨0, _, rfl, .inr ⟨EK.out.2.1, 0, HW.out, .inr ⟨rfl, .inr ⟨by rw [Int.toNat_natCast, Int.toNat_natCast]; exact TE.out, rfl, rfl⟩⟩⟩, ?_, ?_⟩
        · rw [Int.toNat_natCast, Int.toNat_natCast]
          obtain ⟨R3, h3⟩ := FIN.out.1
          exact ⟨R3, h3.drew⟩
        · exact FIN.out.2.drew
      · have TE := Hid.intro te
        have teI : (((F.nd k).tree : Int) == ((F.nd n).tree : Int)) = false := by simp; omega
        have teJ : ¬ ((F.nd k).tree : Int) = ((F.nd n).tree : Int) := by omega
        have H1 : Hid (∀ nq, FR B (w.drewN nq) b F R rv) := Hid.intro (fun nq => HF.out.drewN nq)
        generalize (F.nd n).tree = tr at c1 teI teJ
        generalize (F.nd k).tree = tk at q2 teI teJ
        clear te
        go_upto_region 7 with fail
        go_quiet (fail)
        go_wp2_with fail
        go_ret
        exact ⟨11, F, rfl, .inr ⟨EK.out.2.1, 0, HW.out, .inr ⟨rfl, .inl ⟨by rw [Int.toNat_natCast, Int.toNat_natCast]; exact TE.out, rfl, rfl⟩⟩⟩, ⟨_, H1.out _⟩, (Frm.refl b w).drewN _⟩
    · have pos : 0 < E := by omega
      have NE := Hid.intro eE
      clear hw eE e0
      go_wp2_with fail
      go_ret
      exact ⟨E, F, rfl, .inr ⟨EK.out.2.1, E, HW.out, .inl ⟨NE.out, rfl, rfl⟩⟩, ⟨_, HF.out⟩, Frm.refl _ _⟩
  · have EK := Hid.intro (And.intro ek c)
    have pos : 0 < Tr.isE F y 1 := by have := Tr.isE_nn F y 1; omega
    clear h ho c ek
    go_enter Tryz.func32, Tryz.ntmps32
    go_wp2_with fail
    refine (ris_any B b 1 y F R rv _ HF.out).mono ?_
    rintro e w1 ⟨rfl, hw1⟩
    subst w1
    rw [EK.out.1]
    go_wp2_with fail
    go_ret
    exact ⟨_, F, rfl, .inl ⟨EK.out.2, rfl, rfl⟩, ⟨_, HF.out⟩, Frm.refl _ _⟩
end
end Go.Proofs.YthdadmbpnoofoaaGreatDoor
/- The document's own forest: Remove. -/
namespace Go.Proofs.YthdadmbpnoofoaaGreatDoor
open Go.RowKit
open Tr (Fo Nd RN)

section
variable (B : Bs) (b : Nat) (F : Fo) (R : Nat → RN) (rv : Value) (w : World)
set_option maxRecDepth 100000 in
set_option maxHeartbeats 4000000 in
theorem rremove_any (z : Int) (s : ByteArray) (h : FR B w b F R rv) (ho : Tr.Ok F) (hb : ∀ n, n < 40 → (F.nd n).held < 2 ^ 60) :
    Calls Tryz.prog 34 #[.pointer (some ⟨b, 0, none⟩), .int .i64 z, .string s] w fun e w' => ∃ (E : Int) (G : Fo), e = .returned (.int .i64 E) ∧ Tr.RemTo F z s E G ∧ (∃ R', FR B w' b G R' rv) ∧ Frm b w w' := by
  have HF := Hid.intro h
  have HO := Hid.intro (And.intro ho hb)
  clear h ho hb
  go_enter Tryz.func34, Tryz.ntmps34
  go_wp2_with fail
  refine (rfind_any B b F R rv _ z s HF.out HO.out.1).mono ?_
  rintro e w1 ⟨K, E, rfl, hf, hw1⟩
  subst w1
  have FN := Hid.intro hf
  by_cases e0 : E = 0
  · subst e0
    obtain ⟨n, i, rfl, n40, n2, hp, hK⟩ := hf.ok
    have hi := hp.lt
    obtain ⟨K40, Kk, _, _⟩ := HO.out.1.ki n i n40 n2 hi
    have Kn := HO.out.1.noself n40 n2 hi
    have KL := HO.out.1.kid n n40 n2 i hi
    rw [← hK] at K40 Kk Kn KL
    have nI : (n : Int) < 40 := by omega
    have KI : (K : Int) < 40 := by omega
    have q0 := HF.out.cKind K K40
    have q3 := HF.out.rb.cHeld K K40
    rw [((HF.out.nd K K40).nm Kk).2.2] at q3
    have PRE := Hid.intro (And.intro n2 (And.intro hp (And.intro Kn (And.intro KL Kk))))
    have BUSY : Hid ((F.nd K).kind = 2 → (0 < (F.nd K).size ∨ 0 < (F.nd K).held) → Tr.RemTo F (n : Int) s 5 F) := Hid.intro (fun k2 hz => ⟨K, 0, FN.out, .inr ⟨rfl, .inl ⟨k2, hz, rfl, rfl⟩⟩⟩)
    have DONE : Hid (¬ ((F.nd K).kind = 2 ∧ (0 < (F.nd K).size ∨ 0 < (F.nd K).held)) → Tr.RemTo F (n : Int) s 0 (Tr.remF F n i K)) := Hid.intro (fun hz => ⟨K, 0, FN.out, .inr ⟨rfl, .inr ⟨hz, rfl, i, by rw [Int.toNat_natCast]; exact PRE.out.2.1, by rw [Int.toNat_natCast]⟩⟩⟩)
    clear hf n2 hp hK hi Kn
    by_cases k2 : (F.nd K).kind = 2
    · obtain ⟨na, nc, hv, _⟩ := ((HF.out.nd K K40).ns k2).texts
      have q6 := HF.out.rb.cNs K K40
      rw [hv, Tr.lsN_len] at q6
      have K2 := Hid.intro k2
      rw [k2] at q0
      have q0' : w.cell? ⟨b, K * 8, none⟩ = some (.int .i64 2) := q0
      clear q0 hv k2
      by_cases z0 : 0 < (F.nd K).size
      · have BZ := Hid.intro (BUSY.out K2.out (.inl z0))
        have z0I : (0 : Int) < ((F.nd K).size : Int) := by omega
        generalize (F.nd K).size = sz at q6 z0 z0I
        generalize (F.nd K).held = hh at q3
        clear z0
        go_wp2_with fail
        go_ret
        exact ⟨5, F, rfl, BZ.out, ⟨_, HF.out⟩, Frm.refl _ _⟩
      · have z00 : (F.nd K).size = 0 := by omega
        rw [z00] at q6
        by_cases h0 : 0 < (F.nd K).held
        · have BZ := Hid.intro (BUSY.out K2.out (.inr h0))
          have h0I : (0 : Int) < ((F.nd K).held : Int) := by omega
          generalize (F.nd K).held = hh at q3 h0 h0I
          clear z0 h0 z00
          go_wp2_with fail
          go_ret
          exact ⟨5, F, rfl, BZ.out, ⟨_, HF.out⟩, Frm.refl _ _⟩
        · have DN := Hid.intro (DONE.out (fun hz => by rcases hz.2 with d | d <;> omega))
          have h00 : (F.nd K).held = 0 := by omega
          rw [h00] at q3
          have q3' : w.cell? ⟨b, K * 8 + 3, none⟩ = some (.int .i64 0) := q3
          clear z0 h0 z00 h00 q3
          go_wp2_with fail
          refine (rcut_any B b F R rv _ n i s HF.out n40 PRE.out.1 (HO.out.1.sz n n40 PRE.out.1) (HO.out.1.dp n n40 PRE.out.1) PRE.out.2.1).mono ?_
          rintro e w2 ⟨rfl, ⟨R2, hR2⟩, f2⟩
          have PN : Hid ((F.put n (Tr.forN (F.nd n) i)).nd K = F.nd K) := Hid.intro (Tr.put_ne _ _ _ _ PRE.out.2.2.1)
          have p3 := hR2.rb.cLinks K K40
          rw [((hR2.nd K K40).nm (by rw [PN.out]; exact PRE.out.2.2.2.2)).2.1, PN.out] at p3
          have cf := hR2.rb.frozen
          have l1 := PRE.out.2.2.2.1.2.1
          have l2 := PRE.out.2.2.2.1.2.2
          have FX : Hid (FR B (w2.setCell ⟨b, K * 8 + 2, none⟩ (.int .i64 (((F.nd K).links - 1 : Nat) : Int))) b ((F.put n (Tr.forN (F.nd n) i)).put K { (F.put n (Tr.forN (F.nd n) i)).nd K with links := ((F.put n (Tr.forN (F.nd n) i)).nd K).links - 1 }) (putR R2 K { R2 K with links := (F.nd K).links - 1 }) rv ∧ Frm b w (w2.setCell ⟨b, K * 8 + 2, none⟩ (.int .i64 (((F.nd K).links - 1 : Nat) : Int)))) := Hid.intro ⟨by
            have := hR2.links (v := (F.nd K).links - 1) K40
            rw [PN.out] at this ⊢
            exact this, f2.trans ((Frm.refl b w2).setCell _ _)⟩
          have SW := Hid.intro (Tr.remF_eq (F := F) (n := n) (i := i) (k := K) PRE.out.2.2.1)
          have PX : Hid ((((F.put n (Tr.forN (F.nd n) i)).put K { (F.put n (Tr.forN (F.nd n) i)).nd K with links := ((F.put n (Tr.forN (F.nd n) i)).nd K).links - 1 }).nd K).kind ≠ 0 ∧ (((F.put n (Tr.forN (F.nd n) i)).put K { (F.put n (Tr.forN (F.nd n) i)).nd K with links := ((F.put n (Tr.forN (F.nd n) i)).nd K).links - 1 }).nd K).links < 2 ^ 60 ∧ (((F.put n (Tr.forN (F.nd n) i)).put K { (F.put n (Tr.forN (F.nd n) i)).nd K with links := ((F.put n (Tr.forN (F.nd n) i)).nd K).links - 1 }).nd K).held < 2 ^ 60) := Hid.intro (by
            rw [Tr.put_same, PN.out]
            exact ⟨PRE.out.2.2.2.2, by show (F.nd K).links - 1 < 2 ^ 60; omega, HO.out.2 K K40⟩)
          generalize (F.put n (Tr.forN (F.nd n) i)).put K { (F.put n (Tr.forN (F.nd n) i)).nd K with links := ((F.put n (Tr.forN (F.nd n) i)).nd K).links - 1 } = F2 at FX SW PX
          have hw : IntKind.i64.wrap (((F.nd K).links : Int) - 1) = (((F.nd K).links - 1 : Nat) : Int) := by
            rw [show ((F.nd K).links : Int) - 1 = (((F.nd K).links - 1 : Nat) : Int) by omega]
            exact IntWalk.i64_in _ ⟨by omega, by omega⟩
          generalize (F.nd K).links - 1 = lm at *
          generalize (F.nd K).links = lk at p3 hw
          clear hR2 f2 PN l1 l2
          go_wp2_with fail
          go_region
          go_wp2_with fail
          refine (rgone_any B b F2 _ rv _ K FX.out.1.drew K40 PX.out.1 PX.out.2.1 PX.out.2.2).mono ?_
          rintro e w3 ⟨rfl, hR3, f3⟩
          rw [SW.out] at hR3
          have H3 := Hid.intro (And.intro hR3 (FX.out.2.drew.trans f3))
          clear hR3 f3
          go_wp2_with fail
          go_ret
          exact ⟨0, _, rfl, DN.out, H3.out.1, H3.out.2⟩
    · have DN := Hid.intro (DONE.out (fun hz => k2 hz.1))
      have k2I : (((F.nd K).kind : Int) == 2) = false := by simp; omega
      have k2J : ¬ ((F.nd K).kind : Int) = 2 := by omega
      generalize (F.nd K).kind = kd at q0 k2 k2I k2J
      generalize (F.nd K).held = hh at q3
      clear k2
      go_wp2_with fail
      refine (rcut_any B b F R rv _ n i s HF.out n40 PRE.out.1 (HO.out.1.sz n n40 PRE.out.1) (HO.out.1.dp n n40 PRE.out.1) PRE.out.2.1).mono ?_
      rintro e w2 ⟨rfl, ⟨R2, hR2⟩, f2⟩
      have PN : Hid ((F.put n (Tr.forN (F.nd n) i)).nd K = F.nd K) := Hid.intro (Tr.put_ne _ _ _ _ PRE.out.2.2.1)
      have p3 := hR2.rb.cLinks K K40
      rw [((hR2.nd K K40).nm (by rw [PN.out]; exact PRE.out.2.2.2.2)).2.1, PN.out] at p3
      have cf := hR2.rb.frozen
      have l1 := PRE.out.2.2.2.1.2.1
      have l2 := PRE.out.2.2.2.1.2.2
      have FX : Hid (FR B (w2.setCell ⟨b, K * 8 + 2, none⟩ (.int .i64 (((F.nd K).links - 1 : Nat) : Int))) b ((F.put n (Tr.forN (F.nd n) i)).put K { (F.put n (Tr.forN (F.nd n) i)).nd K with links := ((F.put n (Tr.forN (F.nd n) i)).nd K).links - 1 }) (putR R2 K { R2 K with links := (F.nd K).links - 1 }) rv ∧ Frm b w (w2.setCell ⟨b, K * 8 + 2, none⟩ (.int .i64 (((F.nd K).links - 1 : Nat) : Int)))) := Hid.intro ⟨by
        have := hR2.links (v := (F.nd K).links - 1) K40
        rw [PN.out] at this ⊢
        exact this, f2.trans ((Frm.refl b w2).setCell _ _)⟩
      have SW := Hid.intro (Tr.remF_eq (F := F) (n := n) (i := i) (k := K) PRE.out.2.2.1)
      have PX : Hid ((((F.put n (Tr.forN (F.nd n) i)).put K { (F.put n (Tr.forN (F.nd n) i)).nd K with links := ((F.put n (Tr.forN (F.nd n) i)).nd K).links - 1 }).nd K).kind ≠ 0 ∧ (((F.put n (Tr.forN (F.nd n) i)).put K { (F.put n (Tr.forN (F.nd n) i)).nd K with links := ((F.put n (Tr.forN (F.nd n) i)).nd K).links - 1 }).nd K).links < 2 ^ 60 ∧ (((F.put n (Tr.forN (F.nd n) i)).put K { (F.put n (Tr.forN (F.nd n) i)).nd K with links := ((F.put n (Tr.forN (F.nd n) i)).nd K).links - 1 }).nd K).held < 2 ^ 60) := Hid.intro (by
        rw [Tr.put_same, PN.out]
        exact ⟨PRE.out.2.2.2.2, by show (F.nd K).links - 1 < 2 ^ 60; omega, HO.out.2 K K40⟩)
      generalize (F.put n (Tr.forN (F.nd n) i)).put K { (F.put n (Tr.forN (F.nd n) i)).nd K with links := ((F.put n (Tr.forN (F.nd n) i)).nd K).links - 1 } = F2 at FX SW PX
      have hw : IntKind.i64.wrap (((F.nd K).links : Int) - 1) = (((F.nd K).links - 1 : Nat) : Int) := by
        rw [show ((F.nd K).links : Int) - 1 = (((F.nd K).links - 1 : Nat) : Int) by omega]
        exact IntWalk.i64_in _ ⟨by omega, by omega⟩
      generalize (F.nd K).links - 1 = lm at *
      generalize (F.nd K).links = lk at p3 hw
      clear hR2 f2 PN l1 l2
      go_wp2_with fail
      go_region
      go_wp2_with fail
      refine (rgone_any B b F2 _ rv _ K FX.out.1.drew K40 PX.out.1 PX.out.2.1 PX.out.2.2).mono ?_
      rintro e w3 ⟨rfl, hR3, f3⟩
      rw [SW.out] at hR3
      have H3 := Hid.intro (And.intro hR3 (FX.out.2.drew.trans f3))
      clear hR3 f3
      go_wp2_with fail
      go_ret
      exact ⟨0, _, rfl, DN.out, H3.out.1, H3.out.2⟩
  · have pos : 0 < E := by
      rcases hf with ⟨_, _, h1⟩ | ⟨_, ⟨_, _, _, h1⟩ | ⟨_, _, h1⟩⟩
      · have := Tr.isE_nn F z 2; omega
      · omega
      · omega
    have NE := Hid.intro e0
    clear hf e0
    go_wp2_with fail
    go_ret
    exact ⟨E, F, rfl, ⟨K, E, FN.out, .inl ⟨NE.out, rfl, rfl⟩⟩, ⟨_, HF.out⟩, Frm.refl _ _⟩
end
end Go.Proofs.YthdadmbpnoofoaaGreatDoor
/- The document's own forest: Move. -/
namespace Go.Proofs.YthdadmbpnoofoaaGreatDoor
open Go.RowKit
open Tr (Fo Nd RN)

/-- Whose lists and numbers are the same is the same one. -/
theorem FR.congr {B : Bs} {b : Nat} {W : World} {F G : Fo} {R : Nat → RN} {rv : Value} (h : FR B W b F R rv) (e1 : G.root = F.root) (e2 : G.trees = F.trees) (hn : ∀ n, n < 40 → (G.nd n).kind = (F.nd n).kind ∧ (G.nd n).tree = (F.nd n).tree ∧ (G.nd n).links = (F.nd n).links ∧ (G.nd n).held = (F.nd n).held ∧ (G.nd n).up = (F.nd n).up ∧ Tr.lsN (G.nd n) = Tr.lsN (F.nd n) ∧ Tr.ksN (G.nd n) = Tr.ksN (F.nd n) ∧ (G.nd n).byt = (F.nd n).byt ∧ (G.nd n).size = (F.nd n).size) : FR B W b G R rv := by
  refine ⟨h.rb, h.le, by rw [e1, e2]; exact h.own, h.ob, fun n h40 => ?_, h.bd, h.ra⟩
  obtain ⟨a1, a2, a3, a4, a5, a6, a7, a8, a9⟩ := hn n h40
  have k := h.nd n h40
  exact ⟨k.kd.trans a1.symm, fun c => by rw [a2, a3, a4]; exact k.nm (by rw [← a1]; exact c), fun c => by rw [a5]; exact k.up (by rw [← a1]; exact c), fun c => by rw [a6]; exact k.ns (by rw [← a1]; exact c), fun c => by rw [a7]; exact k.ks (by rw [← a1]; exact c), fun c => by rw [a8, a9]; exact k.fl (by rw [← a1]; exact c)⟩
theorem Tr.nmK_mem {x : Nd} {l : List UInt8} : l ∈ (Tr.nmK x x.size).map (fun s => s.toList) ↔ ∃ j, j < x.size ∧ (x.nam j).toList = l := by
  rw [Tr.nmK_map, List.mem_map]
  simp [List.mem_range]
/-- A name is taken and put back. -/
theorem Tr.back_ls {x : Nd} {i k : Nat} {s : ByteArray} (hd : Tr.Nodup x) (hp : Tr.PlcTo x s (i : Int)) (hk : x.kid i = k) : Tr.lsN (Tr.adN (Tr.forN x i) s k) = Tr.lsN x ∧ Tr.ksN (Tr.adN (Tr.forN x i) s k) = Tr.ksN x := by
  obtain ⟨hi, hnm⟩ := hp.at
  have hg := Tr.plc_gone hd hp
  have hdf := hd.forN hi
  have e1 : Tr.lsN (Tr.adN (Tr.forN x i) s k) = Tr.lsN x := by
    unfold Tr.lsN
    refine srtS_congr ((List.perm_ext_iff_of_nodup (Tr.nmK_nodup (hdf.adN hg)) (Tr.nmK_nodup hd)).2 (fun l => ?_))
    rw [Tr.nmK_mem, Tr.nmK_mem]
    constructor
    · rintro ⟨j, hj, rfl⟩
      rw [Tr.adN_size] at hj
      by_cases c : j = (Tr.forN x i).size
      · subst c
        rw [(Tr.adN_last _ _ _).1]
        exact ⟨i, hi, hnm⟩
      · rw [(Tr.adN_nam (by omega)).1]
        obtain ⟨q, hq, _, e, _⟩ := Tr.forN_was (x := x) hi (j := j) (by rw [Tr.forN_size] at c hj; omega)
        exact ⟨q, hq, by rw [e]⟩
    · rintro ⟨q, hq, rfl⟩
      by_cases c : q = i
      · subst c
        exact ⟨(Tr.forN x q).size, by rw [Tr.adN_size]; omega, by rw [(Tr.adN_last _ _ _).1]; exact hnm.symm⟩
      · obtain ⟨j, hj, e, _⟩ := Tr.forN_has hi hq c
        exact ⟨j, by rw [Tr.adN_size, Tr.forN_size]; omega, by rw [(Tr.adN_nam (by rw [Tr.forN_size]; exact hj)).1, e]⟩
  refine ⟨e1, ?_⟩
  unfold Tr.ksN
  rw [e1]
  refine List.map_congr_left (fun y hy => ?_)
  obtain ⟨q, hq, e⟩ := Tr.lsN_mem.1 (List.mem_map_of_mem (f := fun s : ByteArray => s.toList) hy)
  by_cases c : q = i
  · subst c
    have ys : y.toList = s.toList := e.symm.trans hnm
    rw [ys, Tr.fk_ad_same hdf hg, Tr.fk_plc hp, hk]
  · obtain ⟨j, hj, ej, _⟩ := Tr.forN_has hi hq c
    rw [Tr.fk_ad_old hdf hg (j := j) (by rw [Tr.forN_size]; exact hj) (by rw [ej]; exact e), Tr.fk_for hd hi hq c e]
theorem Tr.Ok.bel_dir {F : Fo} (h : Tr.Ok F) {K : Nat} (hK : (F.nd K).kind ≠ 2) : ∀ m x, x < 40 → (F.nd x).kind = 2 → Tr.belB F K m x = false
  | 0, x, _, k2 => by
    show (x == K) = false
    have : x ≠ K := fun e => hK (by rw [← e]; exact k2)
    simp [this]
  | m + 1, x, hx, k2 => by
    have n : x ≠ K := fun e => hK (by rw [← e]; exact k2)
    obtain ⟨a, c⟩ := h.up_dir hx k2
    show (x == K || (!((F.nd x).up == x) && Tr.belB F K m (F.nd x).up)) = false
    rw [h.bel_dir hK m _ a c]
    simp [n]
theorem FR.setUp {B : Bs} {b n v : Nat} {w : World} {F : Fo} {R : Nat → RN} {rv : Value} (h : FR B w b F R rv) (hn : n < 40) : FR B (w.setCell ⟨b, n * 8 + 4, none⟩ (.int .i64 (v : Int))) b (F.put n { F.nd n with up := v }) (putR R n { R n with up := v }) rv := by
  have fr : Frm b w (w.setCell ⟨b, n * 8 + 4, none⟩ (.int .i64 (v : Int))) := (Frm.refl b w).setCell _ _
  have k := (h.nd n hn).frm fr
  exact h.put (h.rb.setUp n v hn) fr ⟨k.kd, k.nm, fun _ => rfl, k.ns, k.ks, k.fl⟩
theorem Tr.movF_dir {F : Fo} {n i t K : Nat} {o : ByteArray} (tk : t ≠ K) (nk : n ≠ K) (k2 : (F.nd K).kind = 2) : ((F.put n (Tr.forN (F.nd n) i)).put t (Tr.adN ((F.put n (Tr.forN (F.nd n) i)).nd t) o K)).put K { ((F.put n (Tr.forN (F.nd n) i)).put t (Tr.adN ((F.put n (Tr.forN (F.nd n) i)).nd t) o K)).nd K with up := t } = Tr.movF F n i t K o := by
  unfold Tr.movF
  rw [Tr.leaF_put tk, if_pos (by rw [Tr.put_ne _ _ _ _ (Ne.symm nk)]; exact k2), Tr.put_ne _ _ _ _ (Ne.symm tk)]
theorem Tr.movF_file {F : Fo} {n i t K : Nat} {o : ByteArray} (tk : t ≠ K) (nk : n ≠ K) (k2 : (F.nd K).kind ≠ 2) : (F.put n (Tr.forN (F.nd n) i)).put t (Tr.adN ((F.put n (Tr.forN (F.nd n) i)).nd t) o K) = Tr.movF F n i t K o := by
  unfold Tr.movF
  rw [Tr.leaF_put tk, if_neg (by rw [Tr.put_ne _ _ _ _ (Ne.symm nk)]; exact k2)]
  refine Tr.fo_ext (fun m => ?_) rfl rfl
  by_cases c : m = K
  · subst c; rw [Tr.put_same, Tr.put_ne _ _ _ _ (Ne.symm tk)]
  · rw [Tr.put_ne _ _ _ _ c]
section
variable (B : Bs) (b : Nat) (F : Fo) (R : Nat → RN) (rv : Value) (w : World)
set_option maxRecDepth 100000 in
set_option maxHeartbeats 8000000 in
theorem rmove_any (z y : Int) (s o : ByteArray) (h : FR B w b F R rv) (ho : Tr.Ok F) :
    Calls Tryz.prog 36 #[.pointer (some ⟨b, 0, none⟩), .int .i64 z, .string s, .int .i64 y, .string o] w fun e w' => ∃ (E : Int) (G : Fo), e = .returned (.int .i64 E) ∧ Tr.MovTo F z s y o E G ∧ (∃ R', FR B w' b G R' rv) ∧ Frm b w w' := by
  have HF := Hid.intro h
  have HO := Hid.intro ho
  clear h ho
  go_enter Tryz.func36, Tryz.ntmps36
  go_wp2_with fail
  refine (rfind_any B b F R rv _ z s HF.out HO.out).mono ?_
  rintro e w1 ⟨K, E, rfl, hf, hw1⟩
  subst w1
  have FN := Hid.intro hf
  by_cases e0 : E = 0
  · subst e0
    obtain ⟨n, i, rfl, n40, n2, hp, hK⟩ := hf.ok
    have hi := hp.lt
    obtain ⟨K40, Kk, _, _⟩ := HO.out.ki n i n40 n2 hi
    have Kn := HO.out.noself n40 n2 hi
    rw [← hK] at K40 Kk Kn
    have PRE := Hid.intro (And.intro n2 (And.intro hp (And.intro (Ne.symm Kn) (And.intro hK.symm Kk))))
    have nI : (n : Int) < 40 := by omega
    have KI : (K : Int) < 40 := by omega
    clear hf n2 hp hK hi Kn Kk
    have EK : Hid (Tr.isK F y 2 = Tr.isE F y 2) := Hid.intro rfl
    by_cases c : Tr.isE F y 2 = 0
    · obtain ⟨t, rfl, t40, t0, t2⟩ := Tr.isE_ok c
      have C0 := Hid.intro (And.intro c t2)
      have tI : (t : Int) < 40 := by omega
      have qn := HF.out.rb.cTree n n40
      rw [((HF.out.nd n n40).nm (by rw [PRE.out.1]; decide)).1] at qn
      have qt := HF.out.rb.cTree t t40
      rw [((HF.out.nd t t40).nm t0).1] at qt
      clear c t0 t2
      go_wp2_with fail
      refine (ris_any B b 2 (t : Int) F R rv _ HF.out).mono ?_
      rintro e w1 ⟨rfl, hw1⟩
      subst w1
      rw [EK.out, C0.out.1]
      by_cases te : (F.nd n).tree = (F.nd t).tree
      · have TE := Hid.intro te
        rw [te] at qn
        generalize (F.nd t).tree = tr at qn qt
        clear te
        go_upto_region 7 with fail
        go_quiet (fail)
        obtain ⟨W1, hW1⟩ : ∃ W1, w.drewN nq = W1 := ⟨_, rfl⟩
        have F1 : Hid (FR B W1 b F R rv ∧ Frm b w W1) := Hid.intro (by rw [← hW1]; exact ⟨HF.out.drewN nq, (Frm.refl b w).drewN nq⟩)
        rw [hW1]
        clear hW1 qn qt
        have q0 := F1.out.1.cKind K K40
        by_cases k2 : (F.nd K).kind = 2
        · have K2 := Hid.intro k2
          rw [k2] at q0
          have q0' : W1.cell? ⟨b, K * 8, none⟩ = some (.int .i64 2) := q0
          clear q0 k2
          go_wp2_with fail
          go_loopw [14] (fun at' wr => ∃ a : Nat, at' = .int .i64 a ∧ a < 40 ∧ Hid ((F.nd a).kind = 2 ∧ Tr.EndsF F 40 a ∧ Tr.belB F K 40 a = Tr.belB F K 40 t) ∧ Hid (wr = W1)) (fun at' _ => Tr.farF F 40 (intOf at').toNat)
          case atStart => exact ⟨t, rfl, t40, Hid.intro ⟨C0.out.2, HO.out.en t t40 C0.out.2, rfl⟩, Hid.intro rfl⟩
          case round =>
            obtain ⟨a, rfl, a40, A, hwr⟩ := hrel
            have hwr2 := hwr.out
            subst hwr2
            clear hwr
            have aI : (a : Int) < 40 := by omega
            have qu := F1.out.1.rb.cUp a a40
            rw [(F1.out.1.nd a a40).up A.out.1] at qu
            by_cases ak : a = K
            · subst ak
              have BT : Hid (Tr.belB F a 40 t = true) := Hid.intro (by rw [← A.out.2.2]; exact Tr.belB_same F 40 a)
              go_wp2_with fail
              go_ret
              exact ⟨5, F, rfl, ⟨a, 0, FN.out, .inr ⟨rfl, .inr ⟨C0.out.1, .inr ⟨by rw [Int.toNat_natCast, Int.toNat_natCast]; exact TE.out, .inl ⟨by rw [Int.toNat_natCast]; exact BT.out, rfl, rfl⟩⟩⟩⟩⟩, ⟨_, F1.out.1⟩, F1.out.2⟩
            · have akI : ((a : Int) == (K : Int)) = false := by simp; omega
              have akJ : ¬ (a : Int) = (K : Int) := by omega
              by_cases up : (F.nd a).up = a
              · have BF : Hid (Tr.belB F K 40 t = false) := Hid.intro (by rw [← A.out.2.2]; exact Tr.belB_root 40 up ak)
                rw [up] at qu
                clear up ak A
                go_wp2_with fail
                refine (rcut_any B b F R rv _ n i s F1.out.1 n40 PRE.out.1 (HO.out.sz n n40 PRE.out.1) (HO.out.dp n n40 PRE.out.1) PRE.out.2.1).mono ?_
                rintro e w2 ⟨rfl, ⟨R2, hR2⟩, f2⟩
                have FC := Hid.intro (And.intro hR2 (F1.out.2.trans f2))
                have GD : Hid (∀ m, m < 40 → ((F.put n (Tr.forN (F.nd n) i)).nd m).kind = 2 → Tr.Nodup ((F.put n (Tr.forN (F.nd n) i)).nd m) ∧ ((F.put n (Tr.forN (F.nd n) i)).nd m).size ≤ 8) := Hid.intro (fun m hm km => by
                  by_cases c : m = n
                  · subst c
                    rw [Tr.put_same]
                    have := HO.out.sz m n40 PRE.out.1
                    exact ⟨(HO.out.dp m n40 PRE.out.1).forN PRE.out.2.1.lt, by rw [Tr.forN_size]; omega⟩
                  · rw [Tr.put_ne _ _ _ _ c] at km ⊢
                    exact ⟨HO.out.dp m hm km, HO.out.sz m hm km⟩)
                have KE : Hid (∀ m, ((F.put n (Tr.forN (F.nd n) i)).nd m).kind = (F.nd m).kind) := Hid.intro (fun m => by
                  by_cases c : m = n
                  · subst c; rw [Tr.put_same]; rfl
                  · rw [Tr.put_ne _ _ _ _ c])
                clear hR2 f2
                go_wp2_with fail
                refine (rroom_any B b (F.put n (Tr.forN (F.nd n) i)) R2 rv _ (t : Int) o FC.out.1 GD.out).mono ?_
                rintro e w3 ⟨E3, rfl, hw3, e3, hw3'⟩
                subst w3
                have RF : Hid (Tr.RefTo ((F.put n (Tr.forN (F.nd n) i)).nd t) o E3) := Hid.intro (by
                  rcases hw3 with ⟨h1, _⟩ | ⟨_, h2⟩
                  · exact absurd ((Tr.isE_congr KE.out (t : Int) 2).trans C0.out.1) h1
                  · rw [Int.toNat_natCast] at h2; exact h2)
                have tK : t ≠ K := fun e => by have := BF.out; rw [e, Tr.belB_same] at this; exact absurd this (by decide)
                have TK := Hid.intro tK
                clear hw3 tK
                by_cases eE : E3 = 0
                · subst eE
                  have P1 : Hid (Tr.PlcTo ((F.put n (Tr.forN (F.nd n) i)).nd t) o (-1)) := Hid.intro (by
                    rcases RF.out with ⟨_, q⟩ | ⟨_, ⟨_, _, q⟩ | ⟨q, _⟩⟩
                    · exact absurd q (by decide)
                    · exact absurd q (by decide)
                    · exact q)
                  go_wp2_with fail
                  refine (rput_any B b (F.put n (Tr.forN (F.nd n) i)) R2 rv _ t K o FC.out.1 t40 (by rw [KE.out]; exact C0.out.2) (GD.out t t40 (by rw [KE.out]; exact C0.out.2)).2 (GD.out t t40 (by rw [KE.out]; exact C0.out.2)).1 P1.out).mono ?_
                  rintro e w4 ⟨rfl, ⟨R4, hR4⟩, f4⟩
                  have ANS : Hid (Tr.MovTo F (n : Int) s (t : Int) o 0 (Tr.movF F n i t K o)) := Hid.intro ⟨K, 0, FN.out, .inr ⟨rfl, .inr ⟨C0.out.1, .inr ⟨by rw [Int.toNat_natCast, Int.toNat_natCast]; exact TE.out, .inr ⟨by rw [Int.toNat_natCast]; exact BF.out, i, by rw [Int.toNat_natCast]; exact PRE.out.2.1, 0, by rw [Int.toNat_natCast, Int.toNat_natCast]; exact RF.out, .inr ⟨rfl, rfl, by rw [Int.toNat_natCast, Int.toNat_natCast]⟩⟩⟩⟩⟩⟩
                  have qk := hR4.cKind K K40
                  rw [Tr.put_ne _ _ _ _ (Ne.symm TK.out), Tr.put_ne _ _ _ _ (Ne.symm PRE.out.2.2.1), K2.out] at qk
                  have qk' : w4.cell? ⟨b, K * 8, none⟩ = some (.int .i64 2) := qk
                  have cu := hR4.rb.cUp K K40
                  have cf := hR4.rb.frozen
                  have FIN : Hid ((∃ R', FR B (w4.setCell ⟨b, K * 8 + 4, none⟩ (.int .i64 (t : Int))) b (Tr.movF F n i t K o) R' rv) ∧ Frm b w (w4.setCell ⟨b, K * 8 + 4, none⟩ (.int .i64 (t : Int)))) := Hid.intro ⟨⟨_, by
                    rw [← Tr.movF_dir TK.out PRE.out.2.2.1 K2.out]
                    exact hR4.setUp K40⟩, (FC.out.2.trans f4).trans ((Frm.refl b w4).setCell _ _)⟩
                  clear hR4 f4 qk
                  go_wp2_with fail
                  go_ret
                  exact ⟨0, _, rfl, ANS.out, FIN.out.1, FIN.out.2⟩
                · have pos : 0 < E3 := by omega
                  have NE := Hid.intro eE
                  have ANS : Hid (Tr.MovTo F (n : Int) s (t : Int) o E3 F) := Hid.intro ⟨K, 0, FN.out, .inr ⟨rfl, .inr ⟨C0.out.1, .inr ⟨by rw [Int.toNat_natCast, Int.toNat_natCast]; exact TE.out, .inr ⟨by rw [Int.toNat_natCast]; exact BF.out, i, by rw [Int.toNat_natCast]; exact PRE.out.2.1, E3, by rw [Int.toNat_natCast, Int.toNat_natCast]; exact RF.out, .inl ⟨NE.out, rfl, rfl⟩⟩⟩⟩⟩⟩
                  clear eE e3
                  go_wp2_with fail
                  refine (rput_any B b (F.put n (Tr.forN (F.nd n) i)) R2 rv _ n K s FC.out.1 n40 (by rw [KE.out]; exact PRE.out.1) (GD.out n n40 (by rw [KE.out]; exact PRE.out.1)).2 (GD.out n n40 (by rw [KE.out]; exact PRE.out.1)).1 (by rw [Tr.put_same]; exact Tr.plc_gone (HO.out.dp n n40 PRE.out.1) PRE.out.2.1)).mono ?_
                  rintro e w4 ⟨rfl, ⟨R4, hR4⟩, f4⟩
                  have FIN : Hid ((∃ R', FR B w4 b F R' rv) ∧ Frm b w w4) := Hid.intro ⟨⟨_, hR4.congr rfl rfl (fun m hm => by
                    by_cases c : m = n
                    · subst c
                      obtain ⟨l1, l2⟩ := Tr.back_ls (HO.out.dp m n40 PRE.out.1) PRE.out.2.1 PRE.out.2.2.2.1
                      have sz := PRE.out.2.1.lt
                      rw [Tr.put_same, Tr.put_same]
                      exact ⟨rfl, rfl, rfl, rfl, rfl, l1.symm, l2.symm, rfl, by rw [Tr.adN_size, Tr.forN_size]; omega⟩
                    · rw [Tr.put_ne _ _ _ _ c, Tr.put_ne _ _ _ _ c]
                      exact ⟨rfl, rfl, rfl, rfl, rfl, rfl, rfl, rfl, rfl⟩)⟩, FC.out.2.trans f4⟩
                  clear hR4 f4
                  go_wp2_with fail
                  go_ret
                  exact ⟨E3, F, rfl, ANS.out, FIN.out.1, FIN.out.2⟩
              · obtain ⟨s1, s2, s3⟩ := A.out.2.1.step up
                have NX : Hid ((F.nd (F.nd a).up).kind = 2 ∧ Tr.EndsF F 40 (F.nd a).up ∧ Tr.belB F K 40 (F.nd a).up = Tr.belB F K 40 t) := Hid.intro ⟨(HO.out.up_dir a40 A.out.1).2, s1, by rw [← s3 K ak]; exact A.out.2.2⟩
                have u40 := s1.lt
                have Fqq := Hid.intro s2
                have upI : (((F.nd a).up : Int) == (a : Int)) = false := by simp; omega
                have upJ : ¬ ((F.nd a).up : Int) = (a : Int) := by omega
                generalize (F.nd a).up = u at *
                clear up s1 s2 s3 ak A
                go_wp2_with fail
                go_roundw
                case rel => exact ⟨u, rfl, u40, NX, Hid.intro (by first | rfl | trivial)⟩
                case measure => simp [intOf]; exact Fqq.out
        · have K2 := Hid.intro k2
          have k2I : (((F.nd K).kind : Int) == 2) = false := by simp; omega
          have k2J : ¬ ((F.nd K).kind : Int) = 2 := by omega
          have BF : Hid (Tr.belB F K 40 t = false) := Hid.intro (HO.out.bel_dir k2 40 t t40 C0.out.2)
          obtain ⟨kd, hkd⟩ : ∃ kd, (F.nd K).kind = kd := ⟨_, rfl⟩
          rw [hkd] at q0 k2I k2J
          have HKD := Hid.intro hkd
          clear k2 hkd
          go_wp2_with fail
          go_loopw [14] (fun _ wr => Hid (wr = W1)) (fun _ _ => 0)
          case atStart => exact Hid.intro rfl
          case round =>
            have hwr2 := hrel.out
            subst hwr2
            clear hrel
            go_wp2_with fail
            refine (rcut_any B b F R rv _ n i s F1.out.1 n40 PRE.out.1 (HO.out.sz n n40 PRE.out.1) (HO.out.dp n n40 PRE.out.1) PRE.out.2.1).mono ?_
            rintro e w2 ⟨rfl, ⟨R2, hR2⟩, f2⟩
            have FC := Hid.intro (And.intro hR2 (F1.out.2.trans f2))
            have GD : Hid (∀ m, m < 40 → ((F.put n (Tr.forN (F.nd n) i)).nd m).kind = 2 → Tr.Nodup ((F.put n (Tr.forN (F.nd n) i)).nd m) ∧ ((F.put n (Tr.forN (F.nd n) i)).nd m).size ≤ 8) := Hid.intro (fun m hm km => by
              by_cases c : m = n
              · subst c
                rw [Tr.put_same]
                have := HO.out.sz m n40 PRE.out.1
                exact ⟨(HO.out.dp m n40 PRE.out.1).forN PRE.out.2.1.lt, by rw [Tr.forN_size]; omega⟩
              · rw [Tr.put_ne _ _ _ _ c] at km ⊢
                exact ⟨HO.out.dp m hm km, HO.out.sz m hm km⟩)
            have KE : Hid (∀ m, ((F.put n (Tr.forN (F.nd n) i)).nd m).kind = (F.nd m).kind) := Hid.intro (fun m => by
              by_cases c : m = n
              · subst c; rw [Tr.put_same]; rfl
              · rw [Tr.put_ne _ _ _ _ c])
            clear hR2 f2
            go_wp2_with fail
            refine (rroom_any B b (F.put n (Tr.forN (F.nd n) i)) R2 rv _ (t : Int) o FC.out.1 GD.out).mono ?_
            rintro e w3 ⟨E3, rfl, hw3, e3, hw3'⟩
            subst w3
            have RF : Hid (Tr.RefTo ((F.put n (Tr.forN (F.nd n) i)).nd t) o E3) := Hid.intro (by
              rcases hw3 with ⟨h1, _⟩ | ⟨_, h2⟩
              · exact absurd ((Tr.isE_congr KE.out (t : Int) 2).trans C0.out.1) h1
              · rw [Int.toNat_natCast] at h2; exact h2)
            have tK : t ≠ K := fun e => by have := BF.out; rw [e, Tr.belB_same] at this; exact absurd this (by decide)
            have TK := Hid.intro tK
            clear hw3 tK
            by_cases eE : E3 = 0
            · subst eE
              have P1 : Hid (Tr.PlcTo ((F.put n (Tr.forN (F.nd n) i)).nd t) o (-1)) := Hid.intro (by
                rcases RF.out with ⟨_, q⟩ | ⟨_, ⟨_, _, q⟩ | ⟨q, _⟩⟩
                · exact absurd q (by decide)
                · exact absurd q (by decide)
                · exact q)
              go_wp2_with fail
              refine (rput_any B b (F.put n (Tr.forN (F.nd n) i)) R2 rv _ t K o FC.out.1 t40 (by rw [KE.out]; exact C0.out.2) (GD.out t t40 (by rw [KE.out]; exact C0.out.2)).2 (GD.out t t40 (by rw [KE.out]; exact C0.out.2)).1 P1.out).mono ?_
              rintro e w4 ⟨rfl, ⟨R4, hR4⟩, f4⟩
              have ANS : Hid (Tr.MovTo F (n : Int) s (t : Int) o 0 (Tr.movF F n i t K o)) := Hid.intro ⟨K, 0, FN.out, .inr ⟨rfl, .inr ⟨C0.out.1, .inr ⟨by rw [Int.toNat_natCast, Int.toNat_natCast]; exact TE.out, .inr ⟨by rw [Int.toNat_natCast]; exact BF.out, i, by rw [Int.toNat_natCast]; exact PRE.out.2.1, 0, by rw [Int.toNat_natCast, Int.toNat_natCast]; exact RF.out, .inr ⟨rfl, rfl, by rw [Int.toNat_natCast, Int.toNat_natCast]⟩⟩⟩⟩⟩⟩
              have qk := hR4.cKind K K40
              rw [Tr.put_ne _ _ _ _ (Ne.symm TK.out), Tr.put_ne _ _ _ _ (Ne.symm PRE.out.2.2.1), HKD.out] at qk
              have FIN : Hid ((∃ R', FR B w4 b (Tr.movF F n i t K o) R' rv) ∧ Frm b w w4) := Hid.intro ⟨⟨_, by
                rw [← Tr.movF_file TK.out PRE.out.2.2.1 K2.out]
                exact hR4⟩, FC.out.2.trans f4⟩
              clear hR4 f4
              go_wp2_with fail
              go_ret
              exact ⟨0, _, rfl, ANS.out, FIN.out.1, FIN.out.2⟩
            · have pos : 0 < E3 := by omega
              have NE := Hid.intro eE
              have ANS : Hid (Tr.MovTo F (n : Int) s (t : Int) o E3 F) := Hid.intro ⟨K, 0, FN.out, .inr ⟨rfl, .inr ⟨C0.out.1, .inr ⟨by rw [Int.toNat_natCast, Int.toNat_natCast]; exact TE.out, .inr ⟨by rw [Int.toNat_natCast]; exact BF.out, i, by rw [Int.toNat_natCast]; exact PRE.out.2.1, E3, by rw [Int.toNat_natCast, Int.toNat_natCast]; exact RF.out, .inl ⟨NE.out, rfl, rfl⟩⟩⟩⟩⟩⟩
              clear eE e3
              go_wp2_with fail
              refine (rput_any B b (F.put n (Tr.forN (F.nd n) i)) R2 rv _ n K s FC.out.1 n40 (by rw [KE.out]; exact PRE.out.1) (GD.out n n40 (by rw [KE.out]; exact PRE.out.1)).2 (GD.out n n40 (by rw [KE.out]; exact PRE.out.1)).1 (by rw [Tr.put_same]; exact Tr.plc_gone (HO.out.dp n n40 PRE.out.1) PRE.out.2.1)).mono ?_
              rintro e w4 ⟨rfl, ⟨R4, hR4⟩, f4⟩
              have FIN : Hid ((∃ R', FR B w4 b F R' rv) ∧ Frm b w w4) := Hid.intro ⟨⟨_, hR4.congr rfl rfl (fun m hm => by
                by_cases c : m = n
                · subst c
                  obtain ⟨l1, l2⟩ := Tr.back_ls (HO.out.dp m n40 PRE.out.1) PRE.out.2.1 PRE.out.2.2.2.1
                  have sz := PRE.out.2.1.lt
                  rw [Tr.put_same, Tr.put_same]
                  exact ⟨rfl, rfl, rfl, rfl, rfl, l1.symm, l2.symm, rfl, by rw [Tr.adN_size, Tr.forN_size]; omega⟩
                · rw [Tr.put_ne _ _ _ _ c, Tr.put_ne _ _ _ _ c]
                  exact ⟨rfl, rfl, rfl, rfl, rfl, rfl, rfl, rfl, rfl⟩)⟩, FC.out.2.trans f4⟩
              clear hR4 f4
              go_wp2_with fail
              go_ret
              exact ⟨E3, F, rfl, ANS.out, FIN.out.1, FIN.out.2⟩
      · have TE := Hid.intro te
        have teI : (((F.nd n).tree : Int) == ((F.nd t).tree : Int)) = false := by simp; omega
        have teJ : ¬ ((F.nd n).tree : Int) = ((F.nd t).tree : Int) := by omega
        generalize (F.nd t).tree = tr at qt teI teJ
        generalize (F.nd n).tree = tk at qn teI teJ
        clear te
        go_upto_region 7 with fail
        go_quiet (fail)
        go_wp2_with fail
        go_ret
        exact ⟨11, F, rfl, ⟨K, 0, FN.out, .inr ⟨rfl, .inr ⟨C0.out.1, .inl ⟨by rw [Int.toNat_natCast, Int.toNat_natCast]; exact TE.out, rfl, rfl⟩⟩⟩⟩, ⟨_, HF.out.drewN _⟩, (Frm.refl b w).drewN _⟩
    · have pos : 0 < Tr.isE F y 2 := by have := Tr.isE_nn F y 2; omega
      have NE := Hid.intro c
      clear c
      go_wp2_with fail
      refine (ris_any B b 2 y F R rv _ HF.out).mono ?_
      rintro e w1 ⟨rfl, hw1⟩
      subst w1
      rw [EK.out]
      go_wp2_with fail
      go_ret
      exact ⟨_, F, rfl, ⟨K, 0, FN.out, .inr ⟨rfl, .inl ⟨NE.out, rfl, rfl⟩⟩⟩, ⟨_, HF.out⟩, Frm.refl _ _⟩
  · have pos : 0 < E := by
      rcases hf with ⟨_, _, h1⟩ | ⟨_, ⟨_, _, _, h1⟩ | ⟨_, _, h1⟩⟩
      · have := Tr.isE_nn F z 2; omega
      · omega
      · omega
    have NE := Hid.intro e0
    clear hf e0
    go_wp2_with fail
    go_ret
    exact ⟨E, F, rfl, ⟨K, E, FN.out, .inl ⟨NE.out, rfl, rfl⟩⟩, ⟨_, HF.out⟩, Frm.refl _ _⟩
end
end Go.Proofs.YthdadmbpnoofoaaGreatDoor

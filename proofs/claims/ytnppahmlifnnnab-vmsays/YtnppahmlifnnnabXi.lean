/- The code's pool: least, Take. -/
import Derived.Test.YtnppahmlifnnnabXh
import Derived.Deep.MidRow
namespace Go.Proofs.Ytnppahmlifnnnab
open Go.RowKit
open Bd (P)

/-- All blocks of a pool, as a row. -/
def rowB (s d : Nat → Nat) : List Value := (List.range 128).map fun o => if o % 2 = 0 then Value.int .i64 (s (o / 2) : Int) else .int .i64 (d (o / 2) : Int)
theorem rowB_len (s d : Nat → Nat) : (rowB s d).length = 128 := by simp [rowB]
theorem CA.range {w : World} {b : Nat} {s d : Nat → Nat} (h : CA w b s d) : w.rangeAt b 0 (rowB s d) := fun j v hv => by
  have hj : j < 128 := by have := (List.getElem?_eq_some_iff.1 hv).1; rwa [rowB_len] at this
  simp [rowB, hj] at hv
  rw [Nat.zero_add, ← hv]
  by_cases c : j % 2 = 0
  · rw [if_pos c]
    have := h.c0 (j / 2) (by omega)
    rw [show j / 2 * 2 = j by omega] at this
    exact this
  · rw [if_neg c]
    have := h.c1 (j / 2) (by omega)
    rw [show j / 2 * 2 + 1 = j by omega] at this
    exact this
theorem rowB_ex (s d : Nat → Nat) (x : Nat) (h : x < 64) : (rowB s d).toArray.extract (x * 2) (x * 2 + 2) = #[.int .i64 (s x : Int), .int .i64 (d x : Int)] := by
  have hs : (rowB s d).toArray.size = 128 := by simp [rowB]
  apply Array.ext_getElem?
  intro i
  rw [Array.getElem?_extract]
  by_cases hi : i < 2
  · rw [if_pos (by rw [hs]; omega)]
    have e : (rowB s d).toArray[x * 2 + i]? = some (if (x * 2 + i) % 2 = 0 then Value.int .i64 (s ((x * 2 + i) / 2) : Int) else .int .i64 (d ((x * 2 + i) / 2) : Int)) := by
      simp [rowB, show x * 2 + i < 128 by omega]
    rw [e, show (x * 2 + i) / 2 = x by omega]
    match i, hi with
    | 0, _ => rw [if_pos (by omega)]; rfl
    | 1, _ => rw [if_neg (by omega)]; rfl
  · rw [if_neg (by rw [hs]; omega), Array.getElem?_eq_none (by simp; omega)]
theorem index_rowB (s d : Nat → Nat) (x : Nat) (h : x < 64) (w : World) : Sem.run Try.prog (Instr.index 132 (Value.agg (rowB s d).toArray) (Value.int IntKind.i64 x)) w = .ok (.agg #[.int .i64 (s x : Int), .int .i64 (d x : Int)]) w := by
  have hu : Try.prog.underlying 132 = some (.array 64 131) := by kernel_rfl
  have hx := rowB_ex s d x h
  have h1 : (x : Int) < 64 := by omega
  obtain ⟨A, hA⟩ : ∃ A, (rowB s d).toArray = A := ⟨_, rfl⟩
  rw [hA] at hx ⊢
  simp [Instr.index, Sem.run_bind, run_underlying hu, go_sem, hx]
  intro c; omega
theorem rowB_size (s d : Nat → Nat) : (Try.prog.info? 132).map (·.size) = some (rowB s d).length := by rw [rowB_len]; kernel_rfl

/-- What 'least' answers. -/
def LeastR (p : P) (o r : Nat) (is : Bool) : Prop := (is = false ∧ r = 0 ∧ ∀ j, j < 64 → o < p.ord j → p.tk j = true) ∨ (is = true ∧ Bd.Best p o r)
/-- No free block has an order from o on, up to k. -/
def NoneTo (p : P) (o k : Nat) : Prop := ∀ j, j < 64 → o < p.ord j → p.tk j = false → k < p.ord j
set_option maxRecDepth 100000 in
set_option maxHeartbeats 1000000 in
theorem cleast_any (b o : Nat) (p : P) (w : World) (h : CAt w b p) (hI : Bd.Inv p) (ho : o ≤ 6) :
    Calls Try.prog 75 #[.pointer (some ⟨b, 0, none⟩), .int .i64 o] w fun e w' => ∃ r is, e = .returned (.tuple #[.int .i64 ((r : Nat) : Int), .bool is]) ∧ LeastR p o r is ∧ Below w.heap.size w w' := by
  have HF := Hid.intro h
  have HI := Hid.intro hI
  have hsz := Hid.intro (rowB_size (Bd.st p) (Bd.od p))
  clear h hI
  go_enter Try.func75, Try.ntmps75
  go_wp2_with fail
  go_loopw [6] (fun s wr => ∃ k : Nat, s = .int .i64 k ∧ o ≤ k ∧ k ≤ 7 ∧ Hid (Below w.heap.size w wr ∧ NoneTo p o k)) (fun s _ => 7 - (intOf s).toNat)
  case atStart => exact ⟨o, rfl, by omega, by omega, Below.refl _ _, fun j _ h1 _ => h1⟩
  case round =>
    obtain ⟨k, rfl, hok, hk7, S⟩ := hrel
    by_cases hk : k ≤ 6
    · have hkI : (k : Int) ≤ 6 := by omega
      have HR := Hid.intro (CA.range (CAt.below HF.out S.out.1))
      go_wp2_with (refine wpList_load_mid rfl 132 _ rfl b 0 rfl (rowB (Bd.st p) (Bd.od p)) (.array 64 131) HR.out (by kernel_rfl) rfl hsz.out ?_)
      clear HR
      go_loopw [18] (fun s wr => ∃ x : Nat, s = .int .i64 x ∧ x ≤ 64 ∧ Hid (Below w.heap.size w wr ∧ ∀ j, j < x → ¬ (Bd.st p j = 1 ∧ Bd.od p j = k))) (fun s _ => 64 - (intOf s).toNat)
      case atStart => exact ⟨0, rfl, by omega, S.out.1, fun j hj => by omega⟩
      case round =>
        obtain ⟨x, rfl, hx64, T⟩ := hrel
        by_cases hx : x < 64
        · have hxI : (x : Int) < 64 := by omega
          have hix := index_rowB (Bd.st p) (Bd.od p) x hx
          have BL : Hid (∀ o, Below w.heap.size w (wr.alloc o)) := Hid.intro (fun o => T.out.1.alloc T.out.1.size o)
          have NX : Hid (¬ (Bd.st p x = 1 ∧ Bd.od p x = k) → ∀ j, j < x + 1 → ¬ (Bd.st p j = 1 ∧ Bd.od p j = k)) := Hid.intro (fun c j hj => by
            by_cases e : j = x
            · rw [e]; exact c
            · exact T.out.2 j (by omega))
          have FD : Hid (Bd.st p x = 1 → Bd.od p x = k → LeastR p o x true) := Hid.intro (fun c1 c2 => by
            have a := Bd.st_one.1 c1
            have e : Bd.od p x = p.ord x - 1 := rfl
            refine .inr ⟨rfl, hx, by omega, a.2, fun j hj h1 h2 => ?_⟩
            have nt := S.out.2 j hj h1 h2
            by_cases c : p.ord x < p.ord j
            · exact .inl c
            · refine .inr ⟨by omega, Nat.le_of_not_lt fun c3 => ?_⟩
              exact T.out.2 j c3 ⟨Bd.st_free (by omega) h2, by show p.ord j - 1 = k; omega⟩)
          generalize Bd.st p x = sx at *
          generalize Bd.od p x = dx at *
          by_cases e1 : sx = 1
          · by_cases e2 : dx = k
            · have F := Hid.intro (FD.out e1 e2)
              subst e1 e2
              clear FD NX
              go_wp2_with fail
              go_ret2
              exact ⟨x, true, rfl, F.out, BL.out _⟩
            · have N := Hid.intro (NX.out (fun c => e2 c.2))
              have e2' : ((dx : Int) == (k : Int)) = false := by simp; omega
              subst e1
              clear FD NX e2
              go_wp2_with fail
              go_roundw
              case rel => exact ⟨x + 1, by go_num, by omega, BL.out _, N.out⟩
              case measure => simp [intOf]; omega
          · have N := Hid.intro (NX.out (fun c => e1 c.1))
            have e1' : ((sx : Int) == 1) = false := by simp; omega
            clear FD NX e1
            go_wp2_with fail
            go_roundw
            case rel => exact ⟨x + 1, by go_num, by omega, BL.out _, N.out⟩
            case measure => simp [intOf]; omega
        · have NN : Hid (NoneTo p o (k + 1)) := Hid.intro (fun j hj h1 h2 => by
            have := S.out.2 j hj h1 h2
            by_cases c : p.ord j = k + 1
            · exact absurd ⟨Bd.st_free (by omega) h2, by show p.ord j - 1 = k; omega⟩ (T.out.2 j (by omega))
            · omega)
          have hx' : x = 64 := by omega
          subst hx'
          go_wp2_with fail
          go_roundw
          case rel => exact ⟨k + 1, by go_num, by omega, by omega, T.out.1, NN.out⟩
          case measure => simp [intOf]; omega
    · have hk' : k = 7 := by omega
      subst hk'
      have FIN : Hid (LeastR p o 0 false) := Hid.intro (.inl ⟨rfl, rfl, fun j hj h1 => by
        cases t : p.tk j
        · have := S.out.2 j hj h1 t
          have := HI.out.le j hj
          omega
        · rfl⟩)
      go_wp2_with fail
      go_ret2
      exact ⟨0, false, rfl, FIN.out, S.out.1⟩

theorem takeB_ca {p : P} {o x : Nat} {w : World} {b : Nat} (ho : 0 < (Bd.parts p x (p.ord x - (o + 1))).ord x) (h : CAt w b (Bd.parts p x (p.ord x - (o + 1)))) (hx : x < 64) : CAt (w.setCell ⟨b, x * 2, none⟩ (.int .i64 2)) b (Bd.takeB p o x) := by
  refine CA.congr (CA.setS h x 2 hx) (fun i _ => ?_)
  unfold Bd.takeB Bd.st Bd.od Bd.up Bd.upb
  by_cases c : i = x
  · subst c
    show (if (Bd.parts p i (p.ord i - (o + 1))).ord i = 0 then 0 else if (if i = i then true else _) = true then 2 else 1) = (if i = i then 2 else _) ∧ _
    rw [if_neg (by omega), if_pos rfl, if_pos rfl, if_pos rfl]
    exact ⟨rfl, rfl⟩
  · show (if (Bd.parts p x (p.ord x - (o + 1))).ord i = 0 then 0 else if (if i = x then true else (Bd.parts p x (p.ord x - (o + 1))).tk i) = true then 2 else 1) = (if i = x then 2 else _) ∧ _
    rw [if_neg c, if_neg c]
    exact ⟨rfl, rfl⟩
set_option maxRecDepth 100000 in
set_option maxHeartbeats 1000000 in
theorem ctake_near (b o : Nat) (p : P) (w : World) (h : CAt w b p) (hI : Bd.Inv p) (hN : Bd.NB p 64) (ho : o ≤ 6) :
    Calls Try.prog 24 #[.pointer (some ⟨b, 0, none⟩), .int .i64 o] w fun e w' => ∃ (r : Nat) (E : Int) (p' : P), e = .returned (.tuple #[.int .i64 r, errV E]) ∧ Bd.TakeTo p o E r p' ∧ CAt w' b p' ∧ Frm b w w' := by
  have HF := Hid.intro h
  have HI := Hid.intro hI
  have NI := Hid.intro hN
  have HE : Hid (Bd.freE (o : Int) = 0) := Hid.intro (if_neg (by omega))
  clear h hI hN
  go_enter Try.func24, Try.ntmps24
  go_wp2_with fail
  refine (wrongOrder_any o _).mono ?_
  rintro e w1 ⟨rfl, hw⟩
  subst w1
  rw [HE.out, errV_zero]
  go_wp2_with fail
  refine (cleast_any b o p _ HF.out HI.out ho).mono ?_
  rintro e w1 ⟨x, is, rfl, hL, hB⟩
  have S1 : Hid (CAt w1 b p ∧ Frm b w w1) := Hid.intro ⟨HF.out.below hB, Frm.of_below hB⟩
  clear hB
  rcases hL with ⟨rfl, rfl, hno⟩ | ⟨rfl, hB⟩
  · have FIN : Hid (Bd.TakeTo p o 4 0 p) := Hid.intro (.inr (.inl ⟨by omega, by rw [Int.toNat_natCast]; exact hno, rfl, rfl, rfl⟩))
    clear hno
    go_wp2_with fail
    go_ret2
    exact ⟨0, 4, p, rfl, FIN.out, S1.out.1, S1.out.2⟩
  · have HB := Hid.intro hB
    have hx64 := hB.lt
    have hxI : (x : Int) < 64 := by omega
    have S2 : Hid (CAt w1 b (Bd.parts p x 0) ∧ Frm b w w1 ∧ o + 1 + 0 ≤ p.ord x) := Hid.intro ⟨S1.out.1, S1.out.2, by have := hB.ord; omega⟩
    clear hB S1
    go_wp2_with fail
    go_loopw [31] (fun _ wr => ∃ n : Nat, Hid (CAt wr b (Bd.parts p x n) ∧ Frm b w wr ∧ o + 1 + n ≤ p.ord x)) (fun _ wr => cellN wr b (x * 2 + 1))
    case atStart => exact ⟨0, S2⟩
    case round =>
      clear S2
      obtain ⟨n, S⟩ := hrel
      have PI := Hid.intro (Bd.parts_inv hx64 n (by have := S.out.2.2; have := HB.out.ord; omega) HI.out HB.out.tk ((NI.out).but HI.out x))
      have hw7 := HI.out.le x hx64
      obtain ⟨q, hq⟩ : ∃ q, Bd.parts p x n = q := ⟨_, rfl⟩
      have HQ := Hid.intro hq
      have c1 := S.out.1.cOd x hx64
      have T := Hid.intro S.out.1
      rw [hq] at c1 T PI
      obtain ⟨u, hu⟩ : ∃ u, Bd.od q x = u := ⟨_, rfl⟩
      rw [hu] at c1
      have eu : u + 1 + n = p.ord x := by have := PI.out.2.2.1; have := S.out.2.2; have : Bd.od q x = q.ord x - 1 := rfl; omega
      have uo : q.ord x = u + 1 := by have := PI.out.2.2.1; omega
      have UO := Hid.intro uo
      have CC := Hid.intro c1
      have HT : Hid (q.tk x = false) := Hid.intro (by rw [PI.out.2.2.2]; exact HB.out.tk)
      clear hq hu uo
      by_cases hgt : o < u
      · obtain ⟨k, rfl⟩ : ∃ k, u = k + 1 := ⟨u - 1, by omega⟩
        have hgtI : (o : Int) < ((k + 1 : Nat) : Int) := by omega
        go_wp2_with fail
        refine (cpart_any b x k q _ T.out PI.out.1 hx64 UO.out HT.out).mono ?_
        rintro e w2 ⟨rfl, t2, f2⟩
        have T2 : Hid (CAt w2 b (Bd.parts p x (n + 1)) ∧ Frm b w w2 ∧ o + 1 + (n + 1) ≤ p.ord x) := Hid.intro ⟨by rw [parts_succ, HQ.out]; exact t2, S.out.2.1.trans f2, by omega⟩
        have CN : Hid (cellN w2 b (x * 2 + 1) = k) := Hid.intro (cellN_of (by
          rw [t2.cOd x hx64]
          have := (PI.out.1.half hx64 (by rw [UO.out]; omega) HT.out).2.1
          unfold Bd.od
          rw [this, UO.out]; rfl))
        clear t2 f2
        go_wp2_with fail
        go_roundw
        case rel => exact ⟨n + 1, T2⟩
        case measure =>
          rw [CN.out, cellN_of CC.out]; omega
      · have hgtI : decide ((o : Int) < (u : Int)) = false := by simp; omega
        have EN : Hid (n = p.ord x - (o + 1)) := Hid.intro (by have := S.out.2.2; omega)
        have c3 := T.out.cSt x hx64
        have cf := T.out.frozen
        have T3 : Hid (CAt (wr.setCell ⟨b, x * 2, none⟩ (.int .i64 2)) b (Bd.takeB p o x) ∧ Frm b w (wr.setCell ⟨b, x * 2, none⟩ (.int .i64 2))) := Hid.intro (by
          refine ⟨takeB_ca ?_ ?_ hx64, S.out.2.1.setCell _ _⟩
          · rw [← EN.out, HQ.out, UO.out]; omega
          · rw [← EN.out]; exact S.out.1)
        go_wp2_with fail
        go_ret2
        exact ⟨x, 0, _, rfl, .inr (.inr ⟨by omega, by rw [Int.toNat_natCast]; exact HB.out, rfl, by rw [Int.toNat_natCast]⟩), T3.out.1, T3.out.2⟩
set_option maxRecDepth 100000 in
set_option maxHeartbeats 400000 in
theorem ctake_bound (b : Nat) (z : Int) (w : World) (k : z < 0 ∨ 6 < z) :
    Calls Try.prog 24 #[.pointer (some ⟨b, 0, none⟩), .int .i64 z] w fun e w' => e = .returned (.tuple #[.int .i64 0, errV 1]) ∧ w' = w := by
  have HE : Hid (Bd.freE z = 1) := Hid.intro (if_pos k)
  clear k
  go_enter Try.func24, Try.ntmps24
  go_wp2_with fail
  refine (wrongOrder_any z _).mono ?_
  rintro e w1 ⟨rfl, hw⟩
  subst w1
  rw [HE.out, errV_ne (by decide)]
  go_wp2_with fail
  go_ret2
  exact ⟨rfl, rfl⟩
theorem ctake_any (b : Nat) (z : Int) (p : P) (w : World) (h : CAt w b p) (hI : Bd.Inv p) (hN : Bd.NB p 64) :
    Calls Try.prog 24 #[.pointer (some ⟨b, 0, none⟩), .int .i64 z] w fun e w' => ∃ (r : Nat) (E : Int) (p' : P), e = .returned (.tuple #[.int .i64 r, errV E]) ∧ Bd.TakeTo p z E r p' ∧ CAt w' b p' ∧ Frm b w w' := by
  by_cases k : z < 0 ∨ 6 < z
  · refine (ctake_bound b z w k).mono ?_
    rintro e w' ⟨rfl, rfl⟩
    exact ⟨0, 1, p, rfl, .inl ⟨k, rfl, rfl, rfl⟩, h, Frm.refl _ _⟩
  · obtain ⟨o, rfl⟩ := Int.eq_ofNat_of_zero_le (show 0 ≤ z by omega)
    exact ctake_near b o p w h hI hN (by omega)
end Go.Proofs.Ytnppahmlifnnnab

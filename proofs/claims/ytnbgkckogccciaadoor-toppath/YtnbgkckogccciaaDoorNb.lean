/- TopMounts: the walk. -/
import Derived.Test.YtnbgkckogccciaaDoorNa
import Derived.Test.YtnbgkckogccciaaDoorBt
namespace Go.Proofs.YtnbgkckogccciaaDoor
open Go.RowKit
open Tr (Fo Nd)
open Mo (Wh Mt Tb)

/-- What the law has in its hands: a forest, a table of which nothing is done, and another one. -/
structure TX (w W : World) (f bt bc : Nat) (T : Tb) (v : Value) (F : Fo) : Prop where
  bel : Below w.heap.size w W
  lf : w.heap.size ≤ f
  lt : w.heap.size ≤ bt
  lc : w.heap.size ≤ bc
  ne : bt ≠ bc
  fo : FAt W f F
  t0 : TAt W w.heap.size bt f Mo.T0 (.slice none 0 0)
  tc : TAt W w.heap.size bc f T v
section
variable {w W W' : World} {f bt bc : Nat} {T T' : Tb} {v v' : Value} {F F' : Fo}
theorem TX.below (h : TX w W f bt bc T v F) (k : Below W.heap.size W W') : TX w W' f bt bc T v F := ⟨h.bel.trans (k.mono h.bel.size), h.lf, h.lt, h.lc, h.ne, h.fo.below k, h.t0.below k, h.tc.below k⟩
theorem TX.forest (h : TX w W f bt bc T v F) (k : FAt W' f F') (kf : Frm f W W') : TX w W' f bt bc T v F' := ⟨kf.below h.bel h.lf h.bel.size, h.lf, h.lt, h.lc, h.ne, k, h.t0.ofF h.fo kf, h.tc.ofF h.fo kf⟩
theorem TX.tab (h : TX w W f bt bc T v F) (k : FAt W' f F') (kt : TAt W' w.heap.size bc f T' v') (ko : Onl (BV bc f v) W W') : TX w W' f bt bc T' v' F' := by
  have nt : ¬ BV bc f v bt := fun c => by
    rcases c with c | c | c
    · exact h.ne c
    · exact (h.t0.ne h.fo).1 c
    · exact h.tc.row.ne_of h.t0.blk (by decide) bt c rfl
  exact ⟨ko.behind h.bel (fun n c => by
    rcases c with c | c | c
    · rw [c]; exact h.lc
    · rw [c]; exact h.lf
    · exact (h.tc.row.lt n c).1) h.bel.size, h.lf, h.lt, h.lc, h.ne, k, h.t0.same (ko.block bt h.t0.lt nt) (fun g e => by cases e), kt⟩
theorem BF_BV {b f : Nat} {v : Value} (h : Onl (BF b f) W W') : Onl (BV b f v) W W' := h.mono (fun n _ c => by
  rcases c with c | c
  · exact .inl c
  · exact .inr (.inl c))
end
theorem Mo.hi_g2 : Mo.HI Tr.g2 (fun _ => 0) := ⟨fun n _ => by
  show (if n = 1 then _ else if n = 0 then _ else Nd.no : Nd).held = 0
  split
  · rfl
  · split <;> rfl, fun n _ h => by omega⟩
theorem Mo.ok_g2 : Tr.Ok Tr.g2 := by
  have h1 : Tr.Ok Tr.g1 := Tr.ok0.pla (T := 0) (E := 0) (.inr ⟨by decide, 0, 0, .inl ⟨rfl, by omega, rfl, fun m hm => absurd hm (Nat.not_lt_zero m)⟩, .inr ⟨rfl, rfl, rfl, rfl⟩⟩)
  exact h1.pla (T := 1) (E := 0) (.inr ⟨by decide, 1, 0, .inl ⟨rfl, by omega, rfl, fun m hm => by
    obtain rfl : m = 0 := by omega
    decide⟩, .inr ⟨rfl, rfl, rfl, rfl⟩⟩)
theorem Mo.g2_root : Tr.rootE Tr.g2 0 = 0 ∧ Tr.rootN Tr.g2 0 = 0 ∧ Tr.nodeE Tr.g2 0 = 0 := ⟨rfl, rfl, rfl⟩
theorem Mo.mi_start : Mo.MI (Mo.hoA (Tr.hol Tr.g2 (0 : Nat)) Mo.T0) Mo.T0 := by
  have a : Mo.HI (Tr.hol Tr.g2 (0 : Nat)) (Mo.tc Mo.T0) := (Mo.hi_g2.hol Mo.g2_root.2.2).congr (fun n _ => by
    show 0 + Mo.oneI 0 n = Mo.oneI 0 n + Mo.mc [] n
    rw [Mo.mc_nil]; omega)
  have b := Mo.hoA_HI (T := Mo.T0) a (Mo.hol_nodeE Mo.g2_root.2.2) (fun m hm => by cases hm)
  have o : Tr.Ok (Mo.hoA (Tr.hol Tr.g2 (0 : Nat)) Mo.T0) := (Mo.ok_g2.hol (0 : Nat)).hol 0
  exact ⟨o, b, Mo.rg0, by decide⟩
set_option maxRecDepth 100000 in
set_option maxHeartbeats 1000000 in
theorem tm_far (a0 : Option Addr) (n0 c0 : Nat) (w : World) (h : 80 < n0) :
    Calls Tryd.prog 4 #[.slice a0 n0 c0] w fun e w' => e = .returned (.bool true) ∧ Below w.heap.size w w' := by
  have d : decide ((n0 : Int) ≤ 80) = false := by simp; omega
  go_enter Tryd.func4, Tryd.ntmps4
  go_wp2_with fail
  refine (tnew_any _).mono ?_
  rintro e W1 ⟨rfl, f1, b1⟩
  have S1 := Hid.intro (And.intro f1 b1)
  clear f1 b1
  go_wp2_with fail
  refine (tplant_any w.heap.size Tr.f0 _ S1.out.1 (by decide)).mono ?_
  rintro e W2 ⟨TT, E, G, rfl, hp, h2, k2⟩
  obtain ⟨rfl, rfl, rfl⟩ := Tr.pla_first hp
  have S2 := Hid.intro (And.intro h2 (k2.below S1.out.2 (Nat.le_refl _) S1.out.2.size))
  clear hp h2 k2 S1
  rw [errV_zero]
  go_wp2_with fail
  refine (tplant_any w.heap.size Tr.g1 _ S2.out.1 (by decide)).mono ?_
  rintro e W3 ⟨TT, E, G, rfl, hp, h3, k3⟩
  obtain ⟨rfl, rfl, rfl⟩ := Tr.pla_second hp
  have S3 := Hid.intro (And.intro h3 (k3.below S2.out.2 (Nat.le_refl _) S2.out.2.size))
  clear hp h3 k3 S2
  rw [errV_zero]
  go_wp2_with fail
  refine (new_yes w.heap.size 0 Tr.g2 0 _ S3.out.1 Mo.g2_root.1 (Mo.hi_g2.hb (fun _ _ => Nat.le_refl _)) (by decide)).mono ?_
  rintro e W4 ⟨b, rfl, lb, t4, f4, k4⟩
  have S4 := Hid.intro (k4.below S3.out.2 (Nat.le_refl _) S3.out.2.size)
  clear t4 f4 k4 S3
  go_wp2_with fail
  refine (light_any _ _ _ _ _).mono ?_
  rintro e W5 ⟨rfl, hW⟩
  subst W5
  rw [d]
  go_wp2_with fail
  go_ret
  exact ⟨rfl, S4.out⟩
end Go.Proofs.YtnbgkckogccciaaDoor

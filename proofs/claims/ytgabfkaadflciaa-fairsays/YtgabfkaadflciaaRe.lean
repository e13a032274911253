/- The document's own sched: add, AddGroup, AddTask, DropGroup, DropTask, MoveTask, NewSched. -/
import Derived.Test.YtgabfkaadflciaaRd
import Derived.Test.YtgabfkaadflciaaFd
namespace Go.Proofs.Ytgabfkaadflciaa
open Go.RowKit
open Fr (Un M)

section
variable {w : World} {b : Nat} {m : M}
theorem RAt.setHere (h : RAt w b m) (u : Nat) (x : Bool) (hu : u < 30) : RAt (w.setCell ⟨b, u * 12, none⟩ (.bool x)) b (m.set u { m.u u with here := x }) := h.set u 0 hu (by omega) _ _ (twelve rfl rfl rfl rfl rfl rfl rfl rfl rfl rfl rfl rfl)
theorem RAt.setIn (h : RAt w b m) (u : Nat) (x : Int) (hu : u < 30) : RAt (w.setCell ⟨b, u * 12 + 4, none⟩ (.int .i64 x)) b (m.set u { m.u u with inn := x }) := h.set u 4 hu (by omega) _ _ (twelve rfl rfl rfl rfl rfl rfl rfl rfl rfl rfl rfl rfl)
theorem RAt.setWeight (h : RAt w b m) (u x : Nat) (hu : u < 30) : RAt (w.setCell ⟨b, u * 12 + 5, none⟩ (.int .i64 (x : Int))) b (m.set u { m.u u with weight := x }) := h.set u 5 hu (by omega) _ _ (twelve rfl rfl rfl rfl rfl rfl rfl rfl rfl rfl rfl rfl)
/-- A whole unit is laid. -/
theorem RAt.put (h : RAt w b m) (u : Nat) (x : Un) (hu : u < 30) :
    RAt ((((((((((((w.setCell ⟨b, u * 12, none⟩ (.bool x.here)).setCell ⟨b, u * 12 + 1, none⟩ (.bool x.awake)).setCell ⟨b, u * 12 + 2, none⟩ (.bool x.frozen)).setCell ⟨b, u * 12 + 3, none⟩ (.bool x.was)).setCell ⟨b, u * 12 + 4, none⟩ (.int .i64 x.inn)).setCell ⟨b, u * 12 + 5, none⟩ (.int .i64 (x.weight : Int))).setCell ⟨b, u * 12 + 6, none⟩ (.int .i64 (x.ran : Int))).setCell ⟨b, u * 12 + 7, none⟩ (.int .i64 (x.time : Int))).setCell ⟨b, u * 12 + 8, none⟩ (.int .i64 (x.floor : Int))).setCell ⟨b, u * 12 + 9, none⟩ (.int .i64 (x.quota : Int))).setCell ⟨b, u * 12 + 10, none⟩ (.int .i64 (x.period : Int))).setCell ⟨b, u * 12 + 11, none⟩ (.int .i64 (x.used : Int))) b (m.set u x) := by
  have := (((((((((((h.setHere u x.here hu).setAwake u x.awake hu).setFrozen u x.frozen hu).setWas u x.was hu).setIn u x.inn hu).setWeight u x.weight hu).setRan u x.ran hu).setTime u x.time hu).setFloor u x.floor hu).setQuota u x.quota hu).setPeriod u x.period hu).setUsed u x.used hu
  simp only [Fr.set_same, Fr.set_set] at this
  exact this
end
theorem Frm.set12 {b : Nat} {u w : World} (h : Frm b u w) (o0 o1 o2 o3 o4 o5 o6 o7 o8 o9 oa ob : Nat) (v0 v1 v2 v3 v4 v5 v6 v7 v8 v9 va vb : Value) :
    Frm b u ((((((((((((w.setCell ⟨b, o0, none⟩ v0).setCell ⟨b, o1, none⟩ v1).setCell ⟨b, o2, none⟩ v2).setCell ⟨b, o3, none⟩ v3).setCell ⟨b, o4, none⟩ v4).setCell ⟨b, o5, none⟩ v5).setCell ⟨b, o6, none⟩ v6).setCell ⟨b, o7, none⟩ v7).setCell ⟨b, o8, none⟩ v8).setCell ⟨b, o9, none⟩ v9).setCell ⟨b, oa, none⟩ va).setCell ⟨b, ob, none⟩ vb) :=
  (((((((((((h.setCell _ _).setCell _ _).setCell _ _).setCell _ _).setCell _ _).setCell _ _).setCell _ _).setCell _ _).setCell _ _).setCell _ _).setCell _ _).setCell _ _

set_option maxRecDepth 100000 in
set_option maxHeartbeats 1000000 in
theorem radd_any (b u : Nat) (z g wt : Int) (hz : z = u) (m : M) (w : World) (h : RAt w b m) (hu : u < 30) :
    Calls Try.prog 150 #[.pointer (some ⟨b, 0, none⟩), .int .i64 z, .int .i64 g, .int .i64 wt] w fun e w' => e = .returned (.int .i64 (Fr.addE m u g wt)) ∧ RAt w' b (Fr.addM m (Fr.addE m u g wt) u g wt) ∧ Frm b w w' := by
  subst hz
  have HF := Hid.intro h
  have cc := h.cells u hu
  have c0 := cc.c0
  have hlt : (u : Int) < 30 := by omega
  have NO : Hid (∀ E, Fr.addE m u g wt = E → E ≠ 0 → RAt w b (Fr.addM m (Fr.addE m u g wt) u g wt) ∧ Frm b w w) := Hid.intro (fun E e h0 => ⟨by unfold Fr.addM; rw [e, if_neg h0]; exact HF.out, Frm.refl b w⟩)
  by_cases k : wt < 1 ∨ 1000 < wt
  · have e : Hid (Fr.addE m u g wt = 1) := Hid.intro (if_pos k)
    by_cases k1 : wt < 1
    · clear h k c0 cc
      go_enter Try.func150, Try.ntmps150
      go_wp2
      go_ret
      have := NO.out 1 e.out (by decide)
      exact ⟨by rw [e.out]; rfl, this⟩
    · have d1 : decide (wt < 1) = false := by simp; omega
      have d2 : 1000 < wt := by omega
      clear h k c0 k1 cc
      go_enter Try.func150, Try.ntmps150
      go_wp2
      go_ret
      have := NO.out 1 e.out (by decide)
      exact ⟨by rw [e.out]; rfl, this⟩
  · have d1 : decide (wt < 1) = false := by simp; omega
    have d2 : ¬ 1000 < wt := by omega
    cases hh : (m.u u).here
    · have e : Fr.addE m u g wt = Fr.groupE m g := by unfold Fr.addE; rw [if_neg k, hh]; rfl
      rw [hh] at c0
      rcases groupE_cases m g with kg | kg
      · have HK := Hid.intro kg
        have HE := Hid.intro (e.trans kg)
        obtain ⟨x, rfl⟩ := Int.eq_ofNat_of_zero_le (show 0 ≤ wt by omega)
        obtain ⟨c1, c2, c3, c4, c5, c6, c7, c8, c9, ca, cb⟩ := And.intro cc.c1 (And.intro cc.c2 (And.intro cc.c3 (And.intro cc.c4 (And.intro cc.c5 (And.intro cc.c6 (And.intro cc.c7 (And.intro cc.c8 (And.intro cc.c9 (And.intro cc.ca cc.cb)))))))))
        have cf := h.frozen
        clear h k hh e cc kg
        go_enter Try.func150, Try.ntmps150
        go_wp2_with fail
        refine (rgroup_any b g m _ HF.out).mono ?_
        rintro e w1 ⟨rfl, hw⟩
        subst w1
        rw [HK.out]
        go_wp2_with fail
        go_ret
        rw [HE.out]
        refine ⟨rfl, ?_, (Frm.refl b w).set12 _ _ _ _ _ _ _ _ _ _ _ _ _ _ _ _ _ _ _ _ _ _ _ _⟩
        unfold Fr.addM
        rw [if_pos rfl, Int.toNat_natCast]
        exact HF.out.put u (Un.new g x) hu
      · obtain ⟨E, hE⟩ : ∃ E, Fr.groupE m g = E := ⟨_, rfl⟩
        have HE := Hid.intro (e.trans hE)
        have HG := Hid.intro hE
        rw [hE] at kg
        clear h k hh e cc hE
        go_enter Try.func150, Try.ntmps150
        go_wp2_with fail
        refine (rgroup_any b g m _ HF.out).mono ?_
        rintro e w1 ⟨rfl, hw⟩
        subst w1
        rw [HG.out]
        go_wp2
        go_ret
        have := NO.out E HE.out (by omega)
        exact ⟨by rw [HE.out]; rfl, this⟩
    · have e : Hid (Fr.addE m u g wt = 3) := Hid.intro (by unfold Fr.addE; rw [if_neg k, hh]; rfl)
      rw [hh] at c0
      clear h k hh cc
      go_enter Try.func150, Try.ntmps150
      go_wp2
      go_ret
      have := NO.out 3 e.out (by decide)
      exact ⟨by rw [e.out]; rfl, this⟩

end Go.Proofs.Ytgabfkaadflciaa

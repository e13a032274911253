/- Charge and Uncharge whatever comes; Move. -/
import Derived.Test.YtgabceeekkcekaaGk
namespace Go.Proofs.Ytgabceeekkcekaa
open Go.RowKit Go.Shelf

theorem wr_nat {t : Nat → Gp} {n : Nat} (hn : n < 10) (hh : (t n).there = true) : wr t n = 0 := by
  unfold wr
  rw [if_neg (by omega), Int.toNat_natCast, if_pos hh]
/-- What Charge answers, and leaves. -/
def lackA (t : Nat → Gp) (Wy : Nat → List (Fin 10)) (n : Nat) (p q : Int) : Bool := (Wy n).any (lackB t Wy p q)
def chgE (t : Nat → Gp) (Wy : Nat → List (Fin 10)) (g p q : Int) : Int := if refE t g p q = 0 then (if lackA t Wy g.toNat p q = true then 6 else 0) else refE t g p q
def addO (t : Nat → Gp) (n : Nat) (p q : Int) : Nat → Gp := updT t n { t n with op := (t n).op + p, oq := (t n).oq + q }
def chgT (t : Nat → Gp) (Wy : Nat → List (Fin 10)) (g p q : Int) : Nat → Gp := if chgE t Wy g p q = 0 then addO t g.toNat p q else t
def uncE (t : Nat → Gp) (g p q : Int) : Int := if refE t g p q = 0 then (if p ≤ (t g.toNat).op ∧ q ≤ (t g.toNat).oq then 0 else 8) else refE t g p q
def uncT (t : Nat → Gp) (g p q : Int) : Nat → Gp := if uncE t g p q = 0 then addO t g.toNat (-p) (-q) else t

theorem charge_any (b : Nat) (g p q : Int) (t : Nat → Gp) (Wy : Nat → List (Fin 10)) (w : World) (h : TAt w b t) (hW : Ways t Wy) (hS : Small t) :
    Calls Try.prog 29 #[.pointer (some ⟨b, 0, none⟩), .int .i64 g, .int .i64 p, .int .i64 q] w fun e w' => e = .returned (errV (chgE t Wy g p q)) ∧ TAt w' b (chgT t Wy g p q) ∧ Frm b w w' := by
  by_cases hr : refE t g p q = 0
  · obtain ⟨n, rfl, hn, hh, _, _⟩ := refE_zero hr
    cases hl : lackA t Wy n p q
    · have e : chgE t Wy n p q = 0 := by unfold chgE; rw [if_pos hr, Int.toNat_natCast, hl]; rfl
      unfold chgT
      rw [e, if_pos rfl, Int.toNat_natCast]
      refine charge_ok b n p q t Wy w h hW hS hn hr (fun y hy => ?_)
      unfold lackA at hl
      rw [List.any_eq_false] at hl
      have := hl y hy
      cases hb : lackB t Wy p q y
      · rfl
      · exact absurd hb this
    · have e : chgE t Wy n p q = 6 := by unfold chgE; rw [if_pos hr, Int.toNat_natCast, hl]; rfl
      unfold chgT
      rw [e, if_neg (by decide)]
      refine (charge_lim b n p q t Wy w h hW hS hn hr ?_).mono fun e w' ⟨h1, h2⟩ => ⟨h1, h.below h2 h.lt, Frm.of_below h2⟩
      unfold lackA at hl
      exact List.any_eq_true.1 hl
  · have e : chgE t Wy g p q = refE t g p q := by unfold chgE; rw [if_neg hr]
    unfold chgT
    rw [e, if_neg hr]
    exact (charge_ref b g p q t w h hr).mono fun e w' ⟨h1, h2⟩ => ⟨h1, h.below h2 h.lt, Frm.of_below h2⟩

theorem uncharge_any (b : Nat) (g p q : Int) (t : Nat → Gp) (w : World) (h : TAt w b t) (hS : Small t) :
    Calls Try.prog 31 #[.pointer (some ⟨b, 0, none⟩), .int .i64 g, .int .i64 p, .int .i64 q] w fun e w' => e = .returned (errV (uncE t g p q)) ∧ TAt w' b (uncT t g p q) ∧ Frm b w w' := by
  by_cases hr : refE t g p q = 0
  · obtain ⟨n, rfl, hn, hh, _, _⟩ := refE_zero hr
    by_cases hl : p ≤ (t n).op ∧ q ≤ (t n).oq
    · have e : uncE t n p q = 0 := by unfold uncE; rw [if_pos hr, Int.toNat_natCast, if_pos hl]
      unfold uncT
      rw [e, if_pos rfl, Int.toNat_natCast]
      refine (uncharge_ok b n p q t w h hS hn hr hl).mono fun e w' ⟨h1, h2, h3⟩ => ⟨h1, ?_, h3⟩
      unfold addO
      rw [← Int.sub_eq_add_neg, ← Int.sub_eq_add_neg]
      exact h2
    · have e : uncE t n p q = 8 := by unfold uncE; rw [if_pos hr, Int.toNat_natCast, if_neg hl]
      unfold uncT
      rw [e, if_neg (by decide)]
      exact (uncharge_state b n p q t w h hn hr (by omega)).mono fun e w' ⟨h1, h2⟩ => ⟨h1, h.below h2 h.lt, Frm.of_below h2⟩
  · have e : uncE t g p q = refE t g p q := by unfold uncE; rw [if_neg hr]
    unfold uncT
    rw [e, if_neg hr]
    exact (uncharge_ref b g p q t w h hr).mono fun e w' ⟨h1, h2⟩ => ⟨h1, h.below h2 h.lt, Frm.of_below h2⟩

/-- What Move answers, and leaves. -/
def movE (t : Nat → Gp) (Wy : Nat → List (Fin 10)) (f g p q : Int) : Int := if wr t g = 0 then (if uncE t f p q = 0 then chgE (uncT t f p q) Wy g p q else uncE t f p q) else wr t g
def movT (t : Nat → Gp) (Wy : Nat → List (Fin 10)) (f g p q : Int) : Nat → Gp := if movE t Wy f g p q = 0 then chgT (uncT t f p q) Wy g p q else t

section
variable {ty : TypeId}
theorem setCells_block (b : Nat) : ∀ (vs : List Value) (o : Nat) (w : World) (c : Array Value), w.heap[b]? = some (.cells c ty (0, 0)) → ∃ c', (w.setCells b o vs).heap[b]? = some (.cells c' ty (0, 0)) ∧ c'.size = c.size
  | [], _, _, c, h => ⟨c, h, rfl⟩
  | v :: r, o, w, c, h => by
    rw [World.setCells]
    obtain ⟨c', h1, h2⟩ := setCells_block b r (o + 1) (w.setCell ⟨b, o, none⟩ v) _ (heap_set h o v)
    exact ⟨c', h1, by rw [h2]; simp⟩
theorem setCells_frm (b : Nat) : ∀ (vs : List Value) (o : Nat) (w : World), Frm b w (w.setCells b o vs)
  | [], _, w => Frm.refl b w
  | v :: r, o, w => by
    rw [World.setCells]
    exact ((Frm.refl b w).setCell o v).trans (setCells_frm b r (o + 1) _)
end
theorem tat_there {w : World} {b : Nat} {c : Array Value} (h : w.heap[b]? = some (.cells c 96 (0, 0))) (hs : c.size = 60) : w.there b 0 60 := fun j hj => by
  rw [Nat.zero_add]
  exact ⟨by rw [heap_cell h, Array.getElem?_eq_getElem (by omega)]; rfl, heap_frozen h j⟩
theorem tat_setCells {w : World} {b : Nat} {c : Array Value} (h : w.heap[b]? = some (.cells c 96 (0, 0))) (hs : c.size = 60) (t : Nat → Gp) : TAt (w.setCells b 0 (encT t).toList) b t := by
  obtain ⟨c', h1, h2⟩ := setCells_block b (encT t).toList 0 w c h
  have hth : w.there b 0 (encT t).toList.length := by rw [Array.length_toList, encT_size]; exact tat_there h hs
  have hr := World.rangeAt_setCells_same w b 0 (encT t).toList hth
  unfold TAt
  rw [h1]
  refine congrArg (fun c => some (Obj.cells c 96 (0, 0))) (encT_ext t c' (by omega) fun n j hn hj => ?_)
  have := hr (n * 6 + j) ((t n).cell j) (by rw [Array.getElem?_toList]; exact encT_at t n j hn hj)
  rw [Nat.zero_add, heap_cell h1] at this
  exact this
theorem tat_range {w : World} {b : Nat} {t : Nat → Gp} (h : TAt w b t) : w.rangeAt b 0 (encT t).toList := fun j v hv => by
  rw [Nat.zero_add, heap_cell h]
  rw [Array.getElem?_toList] at hv
  exact hv
theorem encT_one (t : Nat → Gp) : (encT t).all (·.oneCell') = true := by
  rw [Array.all_eq_true_iff_forall_mem]
  intro v hv
  simp only [encT, List.mem_toArray, List.mem_map] at hv
  obtain ⟨i, _, rfl⟩ := hv
  unfold Gp.cell
  split <;> rfl
theorem len96 {t : Nat → Gp} : (Try.prog.info? 96).map (·.size) = some (encT t).toList.length := by rw [Array.length_toList, encT_size]; kernel_rfl
theorem Hid.intro {p : Prop} (h : p) : Hid p := h
theorem there_of_tat {w : World} {b : Nat} {t t' : Nat → Gp} (h : TAt w b t) : w.there b 0 (encT t').size := by rw [encT_size]; exact tat_there h (encT_size t)
theorem siz96 {t : Nat → Gp} : (Try.prog.info? 96).map (·.size) = some (encT t).size := by rw [encT_size]; kernel_rfl
theorem wpList_ld96 {ops : Array Oper} {rest : List Oper} {a : Act} {w : World} {Q : Exit → Act → World → Prop} {d : Option Tmp} {ty : TypeId} {ps : String} {af : Array Edge} {x : Operand} {b : Nat} {t : Nat → Gp}
    (hx : a.eval x = .pointer (some ⟨b, 0, none⟩)) (hc : TAt w b t) (h : wpList Try.prog ops Q rest (a.put d (.agg (encT t))) w) : wpList Try.prog ops Q (⟨d, .load 96 x, ty, ps, af, none⟩ :: rest) a w :=
  wpList_load_mid rfl 96 x rfl b 0 hx (encT t).toList _ (tat_range hc) Try.underlying96 rfl len96 h
theorem wpList_st96 {ops : Array Oper} {rest : List Oper} {a : Act} {w : World} {Q : Exit → Act → World → Prop} {d : Option Tmp} {ty : TypeId} {ps : String} {af : Array Edge} {x y : Operand} {b : Nat} {t : Nat → Gp}
    (hx : a.eval x = .pointer (some ⟨b, 0, none⟩)) (hy : a.eval y = .agg (encT t)) (hc : w.there b 0 (encT t).size) (h : wpList Try.prog ops Q rest (a.put d undef) (w.setCells b 0 (encT t).toList)) : wpList Try.prog ops Q (⟨d, .store 96 x y, ty, ps, af, none⟩ :: rest) a w :=
  wpList_store_mid rfl 96 x y rfl b 0 (encT t) hx hy hc siz96 (encT_one t) h
theorem load96 {w : World} {b : Nat} {t : Nat → Gp} (h : TAt w b t) : (Instr.loadAt 96 (.pointer (some ⟨b, 0, none⟩))).run Try.prog w = .ok (.agg (encT t)) w := by
  have := run_loadAt_mid (P := Try.prog) w b 0 96 (encT t).toList _ (tat_range h) Try.underlying96 rfl (by rw [Array.length_toList, encT_size]; kernel_rfl)
  simpa using this
theorem store96 {w : World} {b : Nat} {c : Array Value} (h : w.heap[b]? = some (.cells c 96 (0, 0))) (hs : c.size = 60) (t : Nat → Gp) : (Instr.storeAt 96 (.pointer (some ⟨b, 0, none⟩)) (.agg (encT t))).run Try.prog w = .ok () (w.setCells b 0 (encT t).toList) :=
  run_storeAt_mid (P := Try.prog) w b 0 96 (encT t) (by rw [encT_size]; exact tat_there h hs) (by rw [encT_size]; kernel_rfl) (encT_one t)

theorem sc96 {w : World} {b : Nat} {t' : Nat → Gp} (h : TAt w b t') (t : Nat → Gp) : (storeCells ⟨b, 0, none⟩ (encT t).toList).run Try.prog w = .ok () (w.setCells b 0 (encT t).toList) := by
  have ht : w.there b 0 (encT t).size := there_of_tat h
  have := run_storeCells_cells (P := Try.prog) b 0 (encT t).toList 0 w (fun j hj => by simpa using (ht j (by simpa using hj)).1) (fun j hj => by simpa using (ht j (by simpa using hj)).2)
    (fun v hv => (Array.all_eq_true_iff_forall_mem.1 (encT_one t)) v (by simpa using hv))
  simpa using this
theorem copy_start {w : World} {c : Array Value} (Z : TAt (w.alloc (.cells c 96)) w.heap.size (fun _ => noGp)) (t : Nat → Gp) :
    TAt ((w.alloc (.cells c 96)).setCells w.heap.size 0 (encT t).toList) w.heap.size t ∧ Below w.heap.size w ((w.alloc (.cells c 96)).setCells w.heap.size 0 (encT t).toList) :=
  ⟨tat_setCells Z (encT_size _) t, (setCells_frm w.heap.size _ 0 _).below ((Below.refl _ _).alloc (Nat.le_refl _) _) (Nat.le_refl _) (by simp)⟩
theorem errV_ne {k : Int} (h : k ≠ 0) : errV k = .iface 81 (.int .i64 k) := if_neg h
theorem errV_zero : errV 0 = .nilIface := rfl
/-- Ways hang on who is there and on parents alone. -/
theorem way_same {t t' : Nat → Gp} (h : ∀ k, (t' k).there = (t k).there ∧ (t' k).par = (t k).par) : ∀ {g : Int} {L : List Nat}, Way t g L → Way t' g L
  | g, [], hw => fun hv => hw ⟨hv.1, hv.2.1, by rw [← (h _).1]; exact hv.2.2⟩
  | g, x :: L, ⟨e, hx, hh, hr⟩ => ⟨e, hx, by rw [(h x).1]; exact hh, by rw [(h x).2]; exact way_same h hr⟩
theorem Ways.same {t t' : Nat → Gp} {Wy : Nat → List (Fin 10)} (h : ∀ k, (t' k).there = (t k).there ∧ (t' k).par = (t k).par) (hW : Ways t Wy) : Ways t' Wy := fun k hk => way_same h (hW k hk)
theorem addO_same (t : Nat → Gp) (n : Nat) (p q : Int) (k : Nat) : (addO t n p q k).there = (t k).there ∧ (addO t n p q k).par = (t k).par := by
  unfold addO updT
  split
  · rename_i e; subst e; exact ⟨rfl, rfl⟩
  · exact ⟨rfl, rfl⟩
theorem uncT_same (t : Nat → Gp) (g p q : Int) (k : Nat) : (uncT t g p q k).there = (t k).there ∧ (uncT t g p q k).par = (t k).par := by
  unfold uncT
  split
  · exact addO_same _ _ _ _ _
  · exact ⟨rfl, rfl⟩
theorem uncT_small {t : Nat → Gp} (hS : Small t) (g p q : Int) : Small (uncT t g p q) := fun k hk => by
  unfold uncT
  split
  · rename_i e
    unfold addO updT
    split
    · rename_i e2
      have hr : refE t g p q = 0 := by
        unfold uncE at e
        by_cases h : refE t g p q = 0
        · exact h
        · rw [if_neg h] at e; exact e
      unfold uncE at e
      rw [if_pos hr] at e
      have hpq := refE_pq hr
      by_cases hc : p ≤ (t g.toNat).op ∧ q ≤ (t g.toNat).oq
      · subst e2
        have := hS g.toNat hk
        simp only
        omega
      · rw [if_neg hc] at e; simp at e
    · exact hS k hk
  · exact hS k hk

set_option maxRecDepth 100000 in
set_option maxHeartbeats 400000 in
theorem move_wr (b : Nat) (f g p q : Int) (t : Nat → Gp) (w : World) (h : TAt w b t) (hw : wr t g ≠ 0) :
    Calls Try.prog 37 #[.pointer (some ⟨b, 0, none⟩), .int .i64 f, .int .i64 g, .int .i64 p, .int .i64 q] w fun e w' => e = .returned (errV (wr t g)) ∧ w' = w := by
  have HT : Hid (TAt w b t) := h
  have HW : Hid (errV (wr t g) = .iface 81 (.int .i64 (wr t g))) := errV_ne hw
  clear h hw
  go_enter Try.func37, Try.ntmps37
  go_wp2_with fail
  refine (wrong_any b g t _ HT.out).mono ?_
  rintro e w1 ⟨rfl, hw1⟩
  subst w1
  rw [HW.out]
  go_wp2
  go_ret
  exact ⟨by rw [HW.out]; rfl, rfl⟩

set_option maxRecDepth 100000 in
set_option maxHeartbeats 400000 in
theorem move_unc (b : Nat) (f g p q : Int) (t : Nat → Gp) (w : World) (h : TAt w b t) (hS : Small t) (hw : wr t g = 0) (hu : uncE t f p q ≠ 0) :
    Calls Try.prog 37 #[.pointer (some ⟨b, 0, none⟩), .int .i64 f, .int .i64 g, .int .i64 p, .int .i64 q] w fun e w' => e = .returned (errV (uncE t f p q)) ∧ Below w.heap.size w w' := by
  have H : Hid (TAt w b t ∧ Small t ∧ wr t g = 0) := ⟨h, hS, hw⟩
  have HU : Hid (errV (uncE t f p q) = .iface 81 (.int .i64 (uncE t f p q))) := errV_ne hu
  have Z := tat_zero w
  rw [zero96] at Z
  have Z0 := Hid.intro Z
  have C0 := Hid.intro (copy_start Z t)
  have hst := sc96 Z t
  clear Z h hS hw hu
  go_enter Try.func37, Try.ntmps37
  go_wp2_with fail
  refine (wrong_any b g t _ H.out.1).mono ?_
  rintro e w1 ⟨rfl, hw1⟩
  subst w1
  rw [H.out.2.2, errV_zero]
  go_wp2_with (first | (refine wpList_ld96 (t := t) (b := b) rfl ?_ ?_; exact H.out.1) )
  refine (uncharge_any w.heap.size f p q t _ C0.out.1 H.out.2.1).mono ?_
  rintro e w2 ⟨rfl, _, F2⟩
  have B2 : Hid (Below w.heap.size w w2) := F2.below C0.out.2 (Nat.le_refl _) C0.out.2.size
  clear F2
  rw [HU.out]
  clear Z0 C0 hst
  go_wp2
  go_ret
  exact ⟨by rw [HU.out]; rfl, B2.out⟩

set_option maxRecDepth 100000 in
set_option maxHeartbeats 400000 in
theorem move_chg (b : Nat) (f g p q : Int) (t : Nat → Gp) (Wy : Nat → List (Fin 10)) (w : World) (h : TAt w b t) (hW : Ways t Wy) (hS : Small t) (hw : wr t g = 0) (hu : uncE t f p q = 0) (hc : chgE (uncT t f p q) Wy g p q ≠ 0) :
    Calls Try.prog 37 #[.pointer (some ⟨b, 0, none⟩), .int .i64 f, .int .i64 g, .int .i64 p, .int .i64 q] w fun e w' => e = .returned (errV (chgE (uncT t f p q) Wy g p q)) ∧ Below w.heap.size w w' := by
  have H : Hid (TAt w b t ∧ Small t ∧ wr t g = 0 ∧ uncE t f p q = 0 ∧ Ways t Wy) := ⟨h, hS, hw, hu, hW⟩
  have HU : Hid (errV (chgE (uncT t f p q) Wy g p q) = .iface 81 (.int .i64 (chgE (uncT t f p q) Wy g p q))) := errV_ne hc
  have Z := tat_zero w
  rw [zero96] at Z
  have Z0 := Hid.intro Z
  have C0 := Hid.intro (copy_start Z t)
  have hst := sc96 Z t
  clear Z h hS hw hu hc hW
  go_enter Try.func37, Try.ntmps37
  go_wp2_with fail
  refine (wrong_any b g t _ H.out.1).mono ?_
  rintro e w1 ⟨rfl, hw1⟩
  subst w1
  rw [H.out.2.2.1, errV_zero]
  go_wp2_with (first | (refine wpList_ld96 (t := t) (b := b) rfl ?_ ?_; exact H.out.1) )
  refine (uncharge_any w.heap.size f p q t _ C0.out.1 H.out.2.1).mono ?_
  rintro e w2 ⟨rfl, T2, F2⟩
  have B2 : Hid (Below w.heap.size w w2) := F2.below C0.out.2 (Nat.le_refl _) C0.out.2.size
  have HT2 := Hid.intro T2
  clear F2 T2
  rw [H.out.2.2.2.1, errV_zero]
  clear Z0 C0 hst
  go_wp2_with fail
  refine (charge_any w.heap.size g p q (uncT t f p q) Wy _ HT2.out (H.out.2.2.2.2.same (uncT_same t f p q)) (uncT_small H.out.2.1 f p q)).mono ?_
  rintro e w3 ⟨rfl, _, F3⟩
  have B3 : Hid (Below w.heap.size w w3) := F3.below B2.out (Nat.le_refl _) B2.out.size
  clear F3
  rw [HU.out]
  go_wp2
  go_ret
  exact ⟨by rw [HU.out]; rfl, B3.out⟩

set_option maxRecDepth 100000 in
set_option maxHeartbeats 400000 in
theorem move_ok (b : Nat) (f g p q : Int) (t : Nat → Gp) (Wy : Nat → List (Fin 10)) (w : World) (h : TAt w b t) (hW : Ways t Wy) (hS : Small t) (hw : wr t g = 0) (hu : uncE t f p q = 0) (hc : chgE (uncT t f p q) Wy g p q = 0) :
    Calls Try.prog 37 #[.pointer (some ⟨b, 0, none⟩), .int .i64 f, .int .i64 g, .int .i64 p, .int .i64 q] w fun e w' => e = .returned (errV 0) ∧ TAt w' b (chgT (uncT t f p q) Wy g p q) ∧ Frm b w w' := by
  have H : Hid (TAt w b t ∧ Small t ∧ wr t g = 0 ∧ uncE t f p q = 0 ∧ Ways t Wy ∧ chgE (uncT t f p q) Wy g p q = 0) := ⟨h, hS, hw, hu, hW, hc⟩
  have Z := tat_zero w
  rw [zero96] at Z
  have Z0 := Hid.intro Z
  have C0 := Hid.intro (copy_start Z t)
  have hst := sc96 Z t
  clear Z h hS hw hu hc hW
  go_enter Try.func37, Try.ntmps37
  go_wp2_with fail
  refine (wrong_any b g t _ H.out.1).mono ?_
  rintro e w1 ⟨rfl, hw1⟩
  subst w1
  rw [H.out.2.2.1, errV_zero]
  go_wp2_with (first | (refine wpList_ld96 (t := t) (b := b) rfl ?_ ?_; exact H.out.1) )
  refine (uncharge_any w.heap.size f p q t _ C0.out.1 H.out.2.1).mono ?_
  rintro e w2 ⟨rfl, T2, F2⟩
  have B2 : Hid (Below w.heap.size w w2) := F2.below C0.out.2 (Nat.le_refl _) C0.out.2.size
  have HT2 := Hid.intro T2
  clear F2 T2
  rw [H.out.2.2.2.1, errV_zero]
  clear Z0 C0 hst
  go_wp2_with fail
  refine (charge_any w.heap.size g p q (uncT t f p q) Wy _ HT2.out (H.out.2.2.2.2.1.same (uncT_same t f p q)) (uncT_small H.out.2.1 f p q)).mono ?_
  rintro e w3 ⟨rfl, T3, F3⟩
  have B3 : Hid (Below w.heap.size w w3) := F3.below B2.out (Nat.le_refl _) B2.out.size
  have HT3 := Hid.intro T3
  have HB : Hid (TAt w3 b t) := H.out.1.below B3.out H.out.1.lt
  clear F3 T3
  rw [H.out.2.2.2.2.2, errV_zero]
  generalize ht3 : chgT (uncT t f p q) Wy g p q = t3 at *
  have E3 := Hid.intro ht3
  clear ht3
  have hst := sc96 HB.out t3
  go_wp2_with (first | (refine wpList_ld96 (t := t3) (b := w.heap.size) rfl ?_ ?_; exact HT3.out))
  go_ret
  exact ⟨rfl, by rw [E3.out]; exact tat_setCells HB.out (encT_size _) t3, (Frm.of_below B3.out).trans (setCells_frm b _ 0 _)⟩

theorem move_any (b : Nat) (f g p q : Int) (t : Nat → Gp) (Wy : Nat → List (Fin 10)) (w : World) (h : TAt w b t) (hW : Ways t Wy) (hS : Small t) :
    Calls Try.prog 37 #[.pointer (some ⟨b, 0, none⟩), .int .i64 f, .int .i64 g, .int .i64 p, .int .i64 q] w fun e w' => e = .returned (errV (movE t Wy f g p q)) ∧ TAt w' b (movT t Wy f g p q) ∧ Frm b w w' := by
  unfold movT
  by_cases hw : wr t g = 0
  · by_cases hu : uncE t f p q = 0
    · have e : movE t Wy f g p q = chgE (uncT t f p q) Wy g p q := by unfold movE; rw [if_pos hw, if_pos hu]
      rw [e]
      by_cases hc : chgE (uncT t f p q) Wy g p q = 0
      · rw [hc, if_pos rfl]
        exact move_ok b f g p q t Wy w h hW hS hw hu hc
      · rw [if_neg hc]
        exact (move_chg b f g p q t Wy w h hW hS hw hu hc).mono fun e w' ⟨h1, h2⟩ => ⟨h1, h.below h2 h.lt, Frm.of_below h2⟩
    · have e : movE t Wy f g p q = uncE t f p q := by unfold movE; rw [if_pos hw, if_neg hu]
      rw [e, if_neg hu]
      exact (move_unc b f g p q t w h hS hw hu).mono fun e w' ⟨h1, h2⟩ => ⟨h1, h.below h2 h.lt, Frm.of_below h2⟩
  · have e : movE t Wy f g p q = wr t g := by unfold movE; rw [if_neg hw]
    rw [e, if_neg hw]
    exact (move_wr b f g p q t w h hw).mono fun e w' ⟨h1, h2⟩ => ⟨h1, by rw [h2]; exact h, by rw [h2]; exact Frm.refl b w⟩
end Go.Proofs.Ytgabceeekkcekaa

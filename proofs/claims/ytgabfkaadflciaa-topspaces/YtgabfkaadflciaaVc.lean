/- Tables of spaces in memory: the code's (c = true), the document's own (c = false). -/
import Derived.Test.YtgabfkaadflciaaBa
import Derived.Test.YtgabfkaadflciaaVb
namespace Go.Proofs.Ytgabfkaadflciaa
open Go.RowKit
open Sp (T)

def tyT (c : Bool) : TypeId := if c then 160 else 166
def cw (c h : Bool) (v : Nat) : Int := if c then (if h then (v : Int) - 1 else 0) else v
def co (c : Bool) (v : Nat) : Int := if c then (v : Int) - 1 else v
def cellT (c : Bool) (t : T) (o : Nat) : Value :=
  if o < 138 then (if o % 23 = 0 then .bool (t.here (o / 23)) else if o % 23 = 1 then .int .i64 (t.par (o / 23)) else .int .i64 (cw c (t.here (o / 23)) (t.who (o / 23) (o % 23 - 2)))) else .int .i64 (co c (t.of (o - 138)))
theorem cellT_here (c : Bool) (t : T) (n : Nat) (hn : n < 6) : cellT c t (n * 23) = .bool (t.here n) := by
  unfold cellT
  rw [if_pos (by omega), if_pos (by omega), show n * 23 / 23 = n by omega]
theorem cellT_par (c : Bool) (t : T) (n : Nat) (hn : n < 6) : cellT c t (n * 23 + 1) = .int .i64 (t.par n) := by
  unfold cellT
  rw [if_pos (by omega), if_neg (by omega), if_pos (by omega), show (n * 23 + 1) / 23 = n by omega]
theorem cellT_who (c : Bool) (t : T) (n p : Nat) (hn : n < 6) (hp : p < 21) : cellT c t (n * 23 + 2 + p) = .int .i64 (cw c (t.here n) (t.who n p)) := by
  unfold cellT
  rw [if_pos (by omega), if_neg (by omega), if_neg (by omega), show (n * 23 + 2 + p) / 23 = n by omega, show (n * 23 + 2 + p) % 23 - 2 = p by omega]
theorem cellT_of (c : Bool) (t : T) (x : Nat) : cellT c t (138 + x) = .int .i64 (co c (t.of x)) := by
  unfold cellT
  rw [if_neg (by omega), show 138 + x - 138 = x by omega]
/-- An offset is that of one of four sorts. -/
theorem cell_sort {P : Nat → Prop} (h1 : ∀ n, n < 6 → P (n * 23)) (h2 : ∀ n, n < 6 → P (n * 23 + 1)) (h3 : ∀ n p, n < 6 → p < 21 → P (n * 23 + 2 + p)) (h4 : ∀ x, x < 20 → P (138 + x)) (o : Nat) (ho : o < 158) : P o := by
  by_cases a : o < 138
  · by_cases r0 : o % 23 = 0
    · have := h1 (o / 23) (by omega); rwa [show o / 23 * 23 = o by omega] at this
    · by_cases r1 : o % 23 = 1
      · have := h2 (o / 23) (by omega); rwa [show o / 23 * 23 + 1 = o by omega] at this
      · have := h3 (o / 23) (o % 23 - 2) (by omega) (by omega); rwa [show o / 23 * 23 + 2 + (o % 23 - 2) = o by omega] at this
  · have := h4 (o - 138) (by omega); rwa [show 138 + (o - 138) = o by omega] at this

/-- The table t lies in block b. -/
structure Tb (c : Bool) (w : World) (b : Nat) (t : T) : Prop where
  blk : ∃ C, w.heap[b]? = some (.cells C (tyT c) (0, 0)) ∧ C.size = 158
  cell : ∀ o, o < 158 → w.cell? ⟨b, o, none⟩ = some (cellT c t o)
section
variable {c : Bool} {w w' : World} {b : Nat} {t t' : T}
theorem Tb.drewN (h : Tb c w b t) (n : Nat) : Tb c (w.drewN n) b t := ⟨h.blk, h.cell⟩
theorem Tb.drew (h : Tb c w b t) : Tb c w.drew b t := ⟨h.blk, h.cell⟩
theorem Tb.frozen (h : Tb c w b t) (o : Nat) : w.frozen? ⟨b, o, none⟩ = false := by obtain ⟨C, h1, _⟩ := h.blk; exact frozen_blk h1 o
theorem Tb.lt (h : Tb c w b t) : b < w.heap.size := by obtain ⟨C, h1, _⟩ := h.blk; exact (Array.getElem?_eq_some_iff.1 h1).1
theorem Tb.same (h : Tb c w b t) (e : w'.heap[b]? = w.heap[b]?) : Tb c w' b t := ⟨by rw [e]; exact h.blk, fun o ho => (World.cell?_of_block e).trans (h.cell o ho)⟩
theorem Tb.below (h : Tb c w b t) (k : Below w.heap.size w w') : Tb c w' b t := h.same (k.block b h.lt)
theorem Tb.congr (h : Tb c w b t) (e : ∀ o, o < 158 → cellT c t' o = cellT c t o) : Tb c w b t' := ⟨h.blk, fun o ho => by rw [e o ho]; exact h.cell o ho⟩
theorem Tb.cHere (h : Tb c w b t) (n : Nat) (hn : n < 6) : w.cell? ⟨b, n * 23, none⟩ = some (.bool (t.here n)) := by rw [h.cell _ (by omega), cellT_here c t n hn]
theorem Tb.cPar (h : Tb c w b t) (n : Nat) (hn : n < 6) : w.cell? ⟨b, n * 23 + 1, none⟩ = some (.int .i64 (t.par n)) := by rw [h.cell _ (by omega), cellT_par c t n hn]
theorem Tb.cWho (h : Tb c w b t) (n p : Nat) (hn : n < 6) (hp : p < 21) : w.cell? ⟨b, n * 23 + 2 + p, none⟩ = some (.int .i64 (cw c (t.here n) (t.who n p))) := by rw [h.cell _ (by omega), cellT_who c t n p hn hp]
theorem Tb.cOf (h : Tb c w b t) (x : Nat) (hx : x < 20) : w.cell? ⟨b, 138 + x, none⟩ = some (.int .i64 (co c (t.of x))) := by rw [h.cell _ (by omega), cellT_of]
theorem Tb.whoC (h : Tb true w b t) (n p : Nat) (hn : n < 6) (hp : p < 21) (hh : t.here n = true) : w.cell? ⟨b, n * 23 + 2 + p, none⟩ = some (.int .i64 ((t.who n p : Int) - 1)) := by rw [h.cWho n p hn hp, hh]; rfl
theorem Tb.whoR (h : Tb false w b t) (n p : Nat) (hn : n < 6) (hp : p < 21) : w.cell? ⟨b, n * 23 + 2 + p, none⟩ = some (.int .i64 (t.who n p : Int)) := by rw [h.cWho n p hn hp]; rfl
theorem Tb.ofC (h : Tb true w b t) (x : Nat) (hx : x < 20) : w.cell? ⟨b, 138 + x, none⟩ = some (.int .i64 ((t.of x : Int) - 1)) := by rw [h.cOf x hx]; rfl
theorem Tb.ofR (h : Tb false w b t) (x : Nat) (hx : x < 20) : w.cell? ⟨b, 138 + x, none⟩ = some (.int .i64 (t.of x : Int)) := by rw [h.cOf x hx]; rfl
theorem Tb.set (h : Tb c w b t) (o : Nat) (ho : o < 158) (v : Value) (hv : ∀ i, i < 158 → cellT c t' i = if i = o then v else cellT c t i) : Tb c (w.setCell ⟨b, o, none⟩ v) b t' := by
  obtain ⟨C, h1, h2⟩ := h.blk
  refine ⟨⟨_, blk_set h1 _ v, by simpa using h2⟩, fun i hi => ?_⟩
  rw [hv i hi]
  by_cases e : i = o
  · subst e; rw [cell_set_same h1 _ v (by omega), if_pos rfl]
  · rw [cell_set_ne h1 _ _ v (Ne.symm e), if_neg e]; exact h.cell i hi
/-- One number is turned. -/
def upW (t : T) (n p v : Nat) : T := { t with who := fun a q => if a = n ∧ q = p then v else t.who a q }
theorem Tb.setWho (h : Tb c w b t) (n p v : Nat) (hn : n < 6) (hp : p < 21) : Tb c (w.setCell ⟨b, n * 23 + 2 + p, none⟩ (.int .i64 (cw c (t.here n) v))) b (upW t n p v) := by
  refine h.set _ (by omega) _ (cell_sort (fun m hm => ?_) (fun m hm => ?_) (fun m q hm hq => ?_) (fun x hx => ?_))
  · rw [cellT_here c _ m hm, cellT_here c _ m hm, if_neg (by omega)]; rfl
  · rw [cellT_par c _ m hm, cellT_par c _ m hm, if_neg (by omega)]; rfl
  · rw [cellT_who c _ m q hm hq, cellT_who c _ m q hm hq]
    by_cases e : m = n ∧ q = p
    · obtain ⟨rfl, rfl⟩ := e
      rw [if_pos rfl]; simp [upW]
    · rw [if_neg (by omega)]; simp [upW, e]
  · rw [cellT_of, cellT_of, if_neg (by omega)]; rfl
theorem Tb.setOf (h : Tb c w b t) (x v : Nat) (hx : x < 20) : Tb c (w.setCell ⟨b, 138 + x, none⟩ (.int .i64 (co c v))) b { t with of := Sp.upN t.of x v } := by
  refine h.set _ (by omega) _ (cell_sort (fun m hm => ?_) (fun m hm => ?_) (fun m q hm hq => ?_) (fun y hy => ?_))
  · rw [cellT_here c _ m hm, cellT_here c _ m hm, if_neg (by omega)]
  · rw [cellT_par c _ m hm, cellT_par c _ m hm, if_neg (by omega)]
  · rw [cellT_who c _ m q hm hq, cellT_who c _ m q hm hq, if_neg (by omega)]
  · rw [cellT_of, cellT_of]
    by_cases e : y = x
    · subst e; rw [if_pos rfl]; simp [Sp.upN]
    · rw [if_neg (by omega)]; simp [Sp.upN, e]
end

theorem heap_setCells_ne (b : Nat) : ∀ (vs : List Value) (o : Nat) (w : World) (k : Nat), k ≠ b → (w.setCells b o vs).heap[k]? = w.heap[k]?
  | [], _, _, _, _ => rfl
  | v :: r, o, w, k, h => by
    rw [World.setCells]
    exact (heap_setCells_ne b r (o + 1) _ k h).trans (setBlk _ _ _ _ h)
theorem heap_setCells_blk (b : Nat) {T : TypeId} : ∀ (vs : List Value) (o : Nat) (w : World) (C : Array Value), w.heap[b]? = some (.cells C T (0, 0)) → ∃ C', (w.setCells b o vs).heap[b]? = some (.cells C' T (0, 0)) ∧ C'.size = C.size
  | [], _, _, C, h => ⟨C, h, rfl⟩
  | v :: r, o, w, C, h => by
    rw [World.setCells]
    obtain ⟨C', h1, h2⟩ := heap_setCells_blk b r (o + 1) _ _ (blk_set h o v)
    exact ⟨C', h1, by rw [h2]; simp⟩
theorem Frm.setCells {b : Nat} : ∀ (vs : List Value) (o : Nat) {u w : World}, Frm b u w → Frm b u (w.setCells b o vs)
  | [], _, _, _, h => h
  | v :: r, o, u, w, h => by rw [World.setCells]; exact Frm.setCells r (o + 1) (h.setCell o v)

/-- The cells of a space: there, its parent, who has each number. -/
def spA (hh : Bool) (p : Int) (f : Nat → Int) : Array Value := ((List.range 23).map fun i => if i = 0 then Value.bool hh else if i = 1 then .int .i64 p else .int .i64 (f (i - 2))).toArray
theorem spA_size (hh : Bool) (p : Int) (f : Nat → Int) : (spA hh p f).size = 23 := by simp [spA]
theorem spA_len (hh : Bool) (p : Int) (f : Nat → Int) : (spA hh p f).toList.length = 23 := by simp [spA]
theorem spA_at (hh : Bool) (p : Int) (f : Nat → Int) (i : Nat) (h : i < 23) : (spA hh p f)[i]? = some (if i = 0 then Value.bool hh else if i = 1 then .int .i64 p else .int .i64 (f (i - 2))) := by simp [spA, h]
theorem spA_one (hh : Bool) (p : Int) (f : Nat → Int) : (spA hh p f).all (·.oneCell') = true := by
  rw [Array.all_eq_true_iff_forall_mem]
  intro v hv
  simp only [spA, List.mem_toArray, List.mem_map] at hv
  obtain ⟨i, _, rfl⟩ := hv
  split
  · rfl
  · split <;> rfl
theorem spA_set (hh : Bool) (p : Int) (f : Nat → Int) (i : Nat) (v : Int) (hi : i < 21) : (spA hh p f).setIfInBounds (2 + i) (.int .i64 v) = spA hh p (Sp.upI f i v) := by
  apply Array.ext_getElem?
  intro j
  rcases Nat.lt_or_ge j 23 with hj | hj
  · rw [spA_at _ _ _ j hj]
    by_cases e : j = 2 + i
    · subst e
      rw [Array.getElem?_setIfInBounds_self_of_lt (by rw [spA_size]; omega), if_neg (by omega), if_neg (by omega)]
      simp [Sp.upI]
    · rw [Array.getElem?_setIfInBounds_ne (by omega), spA_at _ _ _ j hj]
      by_cases e0 : j = 0
      · rw [if_pos e0, if_pos e0]
      · by_cases e1 : j = 1
        · rw [if_neg e0, if_pos e1, if_neg e0, if_pos e1]
        · rw [if_neg e0, if_neg e1, if_neg e0, if_neg e1]
          unfold Sp.upI; rw [if_neg (by omega)]
  · rw [Array.getElem?_eq_none (by simp [spA]; omega), Array.getElem?_eq_none (by rw [spA_size]; omega)]
section
variable {c : Bool} {w : World} {b : Nat} {t t' : T}
theorem Tb.there (h : Tb c w b t) (n : Nat) (hn : n < 6) (k : Nat) (hk : k = 23) : w.there b (n * 23) k := by
  obtain ⟨C, h1, h2⟩ := h.blk
  intro j hj
  exact ⟨by rw [cell_blk h1, Array.getElem?_eq_getElem (by omega)]; rfl, frozen_blk h1 _⟩
/-- As a walk meets the store of a whole space. -/
theorem Tb.store (h : Tb c w b t) (n : Nat) (hn : n < 6) (hh : Bool) (p : Int) (f : Nat → Int) : (storeCells ⟨b, n * 23, none⟩ (spA hh p f).toList).run Try.prog w = .ok () (w.setCells b (n * 23) (spA hh p f).toList) := by
  have ht := h.there n hn 23 rfl
  have hs := spA_len hh p f
  have := run_storeCells_cells (P := Try.prog) b (n * 23) (spA hh p f).toList 0 w
    (fun j hj => by simpa using (ht j (by omega)).1) (fun j hj => by simpa using (ht j (by omega)).2)
    (fun v hv => (Array.all_eq_true_iff_forall_mem.1 (spA_one hh p f)) v (by simpa using hv))
  simp only [Nat.add_zero] at this
  exact this
theorem Tb.setSpace (h : Tb c w b t) (n : Nat) (hn : n < 6) (hh : Bool) (p : Int) (f : Nat → Int) (g : Nat → Nat) (hf : ∀ q, q < 21 → f q = cw c hh (g q)) :
    Tb c (w.setCells b (n * 23) (spA hh p f).toList) b { t with here := Sp.upB t.here n hh, par := Sp.upI t.par n p, who := fun a q => if a = n then g q else t.who a q } := by
  obtain ⟨C, h1, h2⟩ := h.blk
  have ht := h.there n hn 23 rfl
  have hs := spA_len hh p f
  obtain ⟨C', k1, k2⟩ := heap_setCells_blk b (spA hh p f).toList (n * 23) w C h1
  have hin : ∀ j, j < 23 → (w.setCells b (n * 23) (spA hh p f).toList).cell? ⟨b, n * 23 + j, none⟩ = (spA hh p f)[j]? := fun j hj => by
    rw [World.cell?_setCells_in b (spA hh p f).toList (n * 23) w (fun i hi => (ht i (by omega)).1) j (by omega), ← Array.getElem?_toList, List.getElem?_eq_getElem (by omega)]
  have hout : ∀ i, i < n * 23 ∨ n * 23 + 23 ≤ i → (w.setCells b (n * 23) (spA hh p f).toList).cell? ⟨b, i, none⟩ = w.cell? ⟨b, i, none⟩ := fun i hi => by
    refine World.cell?_setCells_out b _ (n * 23) w ⟨b, i, none⟩ (fun _ _ => ?_)
    rw [hs]; exact hi
  refine ⟨⟨C', k1, by omega⟩, cell_sort (fun m hm => ?_) (fun m hm => ?_) (fun m q hm hq => ?_) (fun y hy => ?_)⟩
  · rw [cellT_here c _ m hm]
    by_cases e : m = n
    · subst e
      have := hin 0 (by omega)
      rw [spA_at _ _ _ 0 (by omega)] at this
      rw [Nat.add_zero] at this
      rw [this]; simp [Sp.upB]
    · rw [hout _ (by omega), h.cHere m hm]; simp [Sp.upB, e]
  · rw [cellT_par c _ m hm]
    by_cases e : m = n
    · subst e
      rw [hin 1 (by omega), spA_at _ _ _ 1 (by omega)]; simp [Sp.upI]
    · rw [hout _ (by omega), h.cPar m hm]; simp [Sp.upI, e]
  · rw [cellT_who c _ m q hm hq]
    by_cases e : m = n
    · subst e
      rw [show m * 23 + 2 + q = m * 23 + (2 + q) by omega, hin (2 + q) (by omega), spA_at _ _ _ (2 + q) (by omega), if_neg (by omega), if_neg (by omega), show 2 + q - 2 = q by omega, hf q hq]
      simp [Sp.upB]
    · rw [hout _ (by omega), h.cWho m q hm hq]; simp [Sp.upB, e]
  · rw [cellT_of, hout _ (by omega), h.cOf y hy]
end
end Go.Proofs.Ytgabfkaadflciaa

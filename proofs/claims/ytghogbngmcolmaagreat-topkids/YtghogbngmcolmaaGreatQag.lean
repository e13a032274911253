import Derived.Test.YtghogbngmcolmaaGreatQae
import Derived.Test.YtghogbngmcolmaaGreatQaa
import Derived.Test.YtghogbngmcolmaaGreatQaf
namespace Go.Proofs.YtghogbngmcolmaaGreat
open Go.RowKit
open Sp (T)
def tyT (c : Bool) : TypeId := if c then 147 else 100000
def cw (c h : Bool) (v : Nat) : Int := if c then (if h then (v : Int) - 1 else 0) else v
def co (c : Bool) (v : Nat) : Int := if c then (v : Int) - 1 else v
def cellT (c : Bool) (t : T) (o : Nat) : Value :=
  if o < 138 then (if o % 23 = 0 then .bool (t.here (o / 23)) else if o % 23 = 1 then .int .i64 (t.par (o / 23)) else .int .i64 (cw c (t.here (o / 23)) (t.who (o / 23) (o % 23 - 2)))) else .int .i64 (co c (t.of (o - 138)))
theorem cellT_here (c : Bool) (t : T) (n : Nat) (hn : n < 6) : cellT c t (n * 23) = .bool (t.here n) := by
  unfold cellT
  rw [if_pos (by omega), if_pos (by omega), show n * 23 / 23 = n by omega]
theorem cellT_par (c : Bool) (t : T) (n : Nat) (hn : n < 6) : cellT c t (n * 23 + 1) = .int .i64 (t.par n) := by
  unfold cellT
  rw [if_pos (by omega), if_neg (by omega), if_pos (by omega), show (n * 23 + 1) / 23 = n by omega]
theorem cellT_who (c : Bool) (t : T) (n p : Nat) (hn : n < 6) (hp : p < 21) : cellT c t (n * 23 + 2 + p) = .int .i64 (cw c (t.here n) (t.who n p)) := by
  unfold cellT
  rw [if_pos (by omega), if_neg (by omega), if_neg (by omega), show (n * 23 + 2 + p) / 23 = n by omega, show (n * 23 + 2 + p) % 23 - 2 = p by omega]
theorem cellT_of (c : Bool) (t : T) (x : Nat) : cellT c t (138 + x) = .int .i64 (co c (t.of x)) := by
  unfold cellT
  rw [if_neg (by omega), show 138 + x - 138 = x by omega]
theorem cell_sort {P : Nat → Prop} (h1 : ∀ n, n < 6 → P (n * 23)) (h2 : ∀ n, n < 6 → P (n * 23 + 1)) (h3 : ∀ n p, n < 6 → p < 21 → P (n * 23 + 2 + p)) (h4 : ∀ x, x < 20 → P (138 + x)) (o : Nat) (ho : o < 158) : P o := by
  by_cases a : o < 138
  · by_cases r0 : o % 23 = 0
    · have := h1 (o / 23) (by omega); rwa [show o / 23 * 23 = o by omega] at this
    · by_cases r1 : o % 23 = 1
      · have := h2 (o / 23) (by omega); rwa [show o / 23 * 23 + 1 = o by omega] at this
      · have := h3 (o / 23) (o % 23 - 2) (by omega) (by omega); rwa [show o / 23 * 23 + 2 + (o % 23 - 2) = o by omega] at this
  · have := h4 (o - 138) (by omega); rwa [show 138 + (o - 138) = o by omega] at this
structure Tb (c : Bool) (w : World) (b : Nat) (t : T) : Prop where
  blk : ∃ C, w.heap[b]? = some (.cells C (tyT c) (0, 0)) ∧ C.size = 158
  cell : ∀ o, o < 158 → w.cell? ⟨b, o, none⟩ = some (cellT c t o)
section
variable {c : Bool} {w w' : World} {b : Nat} {t t' : T}
theorem Tb.drew (h : Tb c w b t) : Tb c w.drew b t := ⟨h.blk, h.cell⟩
theorem Tb.frozen (h : Tb c w b t) (o : Nat) : w.frozen? ⟨b, o, none⟩ = false := by obtain ⟨C, h1, _⟩ := h.blk; exact frozen_blk h1 o
theorem Tb.lt (h : Tb c w b t) : b < w.heap.size := by obtain ⟨C, h1, _⟩ := h.blk; exact (Array.getElem?_eq_some_iff.1 h1).1
theorem Tb.same (h : Tb c w b t) (e : w'.heap[b]? = w.heap[b]?) : Tb c w' b t := ⟨by rw [e]; exact h.blk, fun o ho => (World.cell?_of_block e).trans (h.cell o ho)⟩
theorem Tb.below (h : Tb c w b t) (k : Below w.heap.size w w') : Tb c w' b t := h.same (k.block b h.lt)
theorem Tb.congr (h : Tb c w b t) (e : ∀ o, o < 158 → cellT c t' o = cellT c t o) : Tb c w b t' := ⟨h.blk, fun o ho => by rw [e o ho]; exact h.cell o ho⟩
theorem Tb.cHere (h : Tb c w b t) (n : Nat) (hn : n < 6) : w.cell? ⟨b, n * 23, none⟩ = some (.bool (t.here n)) := by rw [h.cell _ (by omega), cellT_here c t n hn]
theorem Tb.cPar (h : Tb c w b t) (n : Nat) (hn : n < 6) : w.cell? ⟨b, n * 23 + 1, none⟩ = some (.int .i64 (t.par n)) := by rw [h.cell _ (by omega), cellT_par c t n hn]
theorem Tb.cWho (h : Tb c w b t) (n p : Nat) (hn : n < 6) (hp : p < 21) : w.cell? ⟨b, n * 23 + 2 + p, none⟩ = some (.int .i64 (cw c (t.here n) (t.who n p))) := by rw [h.cell _ (by omega), cellT_who c t n p hn hp]
theorem Tb.cOf (h : Tb c w b t) (x : Nat) (hx : x < 20) : w.cell? ⟨b, 138 + x, none⟩ = some (.int .i64 (co c (t.of x))) := by rw [h.cell _ (by omega), cellT_of]
theorem Tb.whoC (h : Tb true w b t) (n p : Nat) (hn : n < 6) (hp : p < 21) (hh : t.here n = true) : w.cell? ⟨b, n * 23 + 2 + p, none⟩ = some (.int .i64 ((t.who n p : Int) - 1)) := by rw [h.cWho n p hn hp, hh]; rfl
theorem Tb.ofC (h : Tb true w b t) (x : Nat) (hx : x < 20) : w.cell? ⟨b, 138 + x, none⟩ = some (.int .i64 ((t.of x : Int) - 1)) := by rw [h.cOf x hx]; rfl
theorem Tb.set (h : Tb c w b t) (o : Nat) (ho : o < 158) (v : Value) (hv : ∀ i, i < 158 → cellT c t' i = if i = o then v else cellT c t i) : Tb c (w.setCell ⟨b, o, none⟩ v) b t' := by
  obtain ⟨C, h1, h2⟩ := h.blk
  refine ⟨⟨_, blk_set h1 _ v, by simpa using h2⟩, fun i hi => ?_⟩
  rw [hv i hi]
  by_cases e : i = o
  · subst e; rw [cell_set_same h1 _ v (by omega), if_pos rfl]
  · rw [cell_set_ne h1 _ _ v (Ne.symm e), if_neg e]; exact h.cell i hi
def upW (t : T) (n p v : Nat) : T := { t with who := fun a q => if a = n ∧ q = p then v else t.who a q }
theorem Tb.setWho (h : Tb c w b t) (n p v : Nat) (hn : n < 6) (hp : p < 21) : Tb c (w.setCell ⟨b, n * 23 + 2 + p, none⟩ (.int .i64 (cw c (t.here n) v))) b (upW t n p v) := by
  refine h.set _ (by omega) _ (cell_sort (fun m hm => ?_) (fun m hm => ?_) (fun m q hm hq => ?_) (fun x hx => ?_))
  · rw [cellT_here c _ m hm, cellT_here c _ m hm, if_neg (by omega)]; rfl
  · rw [cellT_par c _ m hm, cellT_par c _ m hm, if_neg (by omega)]; rfl
  · rw [cellT_who c _ m q hm hq, cellT_who c _ m q hm hq]
    by_cases e : m = n ∧ q = p
    · obtain ⟨rfl, rfl⟩ := e
      rw [if_pos rfl]; simp [upW]
    · rw [if_neg (by omega)]; simp [upW, e]
  · rw [cellT_of, cellT_of, if_neg (by omega)]; rfl
theorem Tb.setOf (h : Tb c w b t) (x v : Nat) (hx : x < 20) : Tb c (w.setCell ⟨b, 138 + x, none⟩ (.int .i64 (co c v))) b { t with of := Sp.upN t.of x v } := by
  refine h.set _ (by omega) _ (cell_sort (fun m hm => ?_) (fun m hm => ?_) (fun m q hm hq => ?_) (fun y hy => ?_))
  · rw [cellT_here c _ m hm, cellT_here c _ m hm, if_neg (by omega)]
  · rw [cellT_par c _ m hm, cellT_par c _ m hm, if_neg (by omega)]
  · rw [cellT_who c _ m q hm hq, cellT_who c _ m q hm hq, if_neg (by omega)]
  · rw [cellT_of, cellT_of]
    by_cases e : y = x
    · subst e; rw [if_pos rfl]; simp [Sp.upN]
    · rw [if_neg (by omega)]; simp [Sp.upN, e]
end
def spA (hh : Bool) (p : Int) (f : Nat → Int) : Array Value := ((List.range 23).map fun i => if i = 0 then Value.bool hh else if i = 1 then .int .i64 p else .int .i64 (f (i - 2))).toArray
theorem spA_size (hh : Bool) (p : Int) (f : Nat → Int) : (spA hh p f).size = 23 := by simp [spA]
theorem spA_len (hh : Bool) (p : Int) (f : Nat → Int) : (spA hh p f).toList.length = 23 := by simp [spA]
theorem spA_at (hh : Bool) (p : Int) (f : Nat → Int) (i : Nat) (h : i < 23) : (spA hh p f)[i]? = some (if i = 0 then Value.bool hh else if i = 1 then .int .i64 p else .int .i64 (f (i - 2))) := by simp [spA, h]
theorem spA_one (hh : Bool) (p : Int) (f : Nat → Int) : (spA hh p f).all (·.oneCell') = true := by
  rw [Array.all_eq_true_iff_forall_mem]
  intro v hv
  simp only [spA, List.mem_toArray, List.mem_map] at hv
  obtain ⟨i, _, rfl⟩ := hv
  split
  · rfl
  · split <;> rfl
theorem spA_set (hh : Bool) (p : Int) (f : Nat → Int) (i : Nat) (v : Int) (hi : i < 21) : (spA hh p f).setIfInBounds (2 + i) (.int .i64 v) = spA hh p (Sp.upI f i v) := by
  apply Array.ext_getElem?
  intro j
  rcases Nat.lt_or_ge j 23 with hj | hj
  · rw [spA_at _ _ _ j hj]
    by_cases e : j = 2 + i
    · subst e
      rw [Array.getElem?_setIfInBounds_self_of_lt (by rw [spA_size]; omega), if_neg (by omega), if_neg (by omega)]
      simp [Sp.upI]
    · rw [Array.getElem?_setIfInBounds_ne (by omega), spA_at _ _ _ j hj]
      by_cases e0 : j = 0
      · rw [if_pos e0, if_pos e0]
      · by_cases e1 : j = 1
        · rw [if_neg e0, if_pos e1, if_neg e0, if_pos e1]
        · rw [if_neg e0, if_neg e1, if_neg e0, if_neg e1]
          unfold Sp.upI; rw [if_neg (by omega)]
  · rw [Array.getElem?_eq_none (by simp [spA]; omega), Array.getElem?_eq_none (by rw [spA_size]; omega)]
section
variable {c : Bool} {w : World} {b : Nat} {t t' : T}
theorem Tb.there (h : Tb c w b t) (n : Nat) (hn : n < 6) (k : Nat) (hk : k = 23) : w.there b (n * 23) k := by
  obtain ⟨C, h1, h2⟩ := h.blk
  intro j hj
  exact ⟨by rw [cell_blk h1, Array.getElem?_eq_getElem (by omega)]; rfl, frozen_blk h1 _⟩
theorem Tb.store (h : Tb c w b t) (n : Nat) (hn : n < 6) (hh : Bool) (p : Int) (f : Nat → Int) : (storeCells ⟨b, n * 23, none⟩ (spA hh p f).toList).run Tryz.prog w = .ok () (w.setCells b (n * 23) (spA hh p f).toList) := by
  have ht := h.there n hn 23 rfl
  have hs := spA_len hh p f
  have := run_storeCells_cells (P := Tryz.prog) b (n * 23) (spA hh p f).toList 0 w
    (fun j hj => by simpa using (ht j (by omega)).1) (fun j hj => by simpa using (ht j (by omega)).2)
    (fun v hv => (Array.all_eq_true_iff_forall_mem.1 (spA_one hh p f)) v (by simpa using hv))
  simp only [Nat.add_zero] at this
  exact this
theorem Tb.setSpace (h : Tb c w b t) (n : Nat) (hn : n < 6) (hh : Bool) (p : Int) (f : Nat → Int) (g : Nat → Nat) (hf : ∀ q, q < 21 → f q = cw c hh (g q)) :
    Tb c (w.setCells b (n * 23) (spA hh p f).toList) b { t with here := Sp.upB t.here n hh, par := Sp.upI t.par n p, who := fun a q => if a = n then g q else t.who a q } := by
  obtain ⟨C, h1, h2⟩ := h.blk
  have ht := h.there n hn 23 rfl
  have hs := spA_len hh p f
  obtain ⟨C', k1, k2⟩ := heap_setCells_blk b (spA hh p f).toList (n * 23) w C h1
  have hin : ∀ j, j < 23 → (w.setCells b (n * 23) (spA hh p f).toList).cell? ⟨b, n * 23 + j, none⟩ = (spA hh p f)[j]? := fun j hj => by
    rw [World.cell?_setCells_in b (spA hh p f).toList (n * 23) w (fun i hi => (ht i (by omega)).1) j (by omega), ← Array.getElem?_toList, List.getElem?_eq_getElem (by omega)]
  have hout : ∀ i, i < n * 23 ∨ n * 23 + 23 ≤ i → (w.setCells b (n * 23) (spA hh p f).toList).cell? ⟨b, i, none⟩ = w.cell? ⟨b, i, none⟩ := fun i hi => by
    refine World.cell?_setCells_out b _ (n * 23) w ⟨b, i, none⟩ (fun _ _ => ?_)
    rw [hs]; exact hi
  refine ⟨⟨C', k1, by omega⟩, cell_sort (fun m hm => ?_) (fun m hm => ?_) (fun m q hm hq => ?_) (fun y hy => ?_)⟩
  · rw [cellT_here c _ m hm]
    by_cases e : m = n
    · subst e
      have := hin 0 (by omega)
      rw [spA_at _ _ _ 0 (by omega)] at this
      rw [Nat.add_zero] at this
      rw [this]; simp [Sp.upB]
    · rw [hout _ (by omega), h.cHere m hm]; simp [Sp.upB, e]
  · rw [cellT_par c _ m hm]
    by_cases e : m = n
    · subst e
      rw [hin 1 (by omega), spA_at _ _ _ 1 (by omega)]; simp [Sp.upI]
    · rw [hout _ (by omega), h.cPar m hm]; simp [Sp.upI, e]
  · rw [cellT_who c _ m q hm hq]
    by_cases e : m = n
    · subst e
      rw [show m * 23 + 2 + q = m * 23 + (2 + q) by omega, hin (2 + q) (by omega), spA_at _ _ _ (2 + q) (by omega), if_neg (by omega), if_neg (by omega), show 2 + q - 2 = q by omega, hf q hq]
      simp [Sp.upB]
    · rw [hout _ (by omega), h.cWho m q hm hq]; simp [Sp.upB, e]
  · rw [cellT_of, hout _ (by omega), h.cOf y hy]
end
end Go.Proofs.YtghogbngmcolmaaGreat
namespace Go.Proofs.YtghogbngmcolmaaGreat
open Go.RowKit
open Sp (T)
set_option maxRecDepth 100000 in
set_option maxHeartbeats 400000 in
theorem spwrong_any (b : Nat) (z : Int) (t : T) (w : World) (h : Tb true w b t) : Calls Tryz.prog 91 #[.pointer (some ⟨b, 0, none⟩), .int .i64 z] w fun e w' => e = .returned (errV (Sp.isE t z)) ∧ w' = w := by
  by_cases k : z < 0 ∨ 6 ≤ z
  · have e : Hid (Sp.isE t z = 1) := Hid.intro (if_pos k)
    by_cases h0 : z < 0
    · clear k
      go_enter Tryz.func91, Tryz.ntmps91
      go_wp2
      go_ret
      rw [e.out]; exact ⟨rfl, rfl⟩
    · have h1 : decide (z < 0) = false := by simp; omega
      have h2 : 6 ≤ z := by omega
      clear k h0
      go_enter Tryz.func91, Tryz.ntmps91
      go_wp2
      go_ret
      rw [e.out]; exact ⟨rfl, rfl⟩
  · obtain ⟨n, rfl⟩ := Int.eq_ofNat_of_zero_le (show 0 ≤ z by omega)
    have hn : n < 6 := by omega
    have h1 : (n : Int) < 6 := by omega
    have h2 : decide (6 ≤ (n : Int)) = false := by simp; omega
    have c0 := h.cHere n hn
    cases hh : t.here n
    · have e : Hid (Sp.isE t n = 2) := Hid.intro (by unfold Sp.isE; rw [if_neg k, Int.toNat_natCast, hh]; rfl)
      rw [hh] at c0
      clear k hh h
      go_enter Tryz.func91, Tryz.ntmps91
      go_wp2
      go_ret
      rw [e.out]; exact ⟨rfl, rfl⟩
    · have e : Hid (Sp.isE t n = 0) := Hid.intro (by unfold Sp.isE; rw [if_neg k, Int.toNat_natCast, hh]; rfl)
      rw [hh] at c0
      clear k hh h
      go_enter Tryz.func91, Tryz.ntmps91
      go_wp2
      go_ret
      rw [e.out]; exact ⟨rfl, rfl⟩
set_option maxHeartbeats 400000 in
theorem wrongProc_any (z : Int) (w : World) : Calls Tryz.prog 122 #[.int .i64 z] w fun e w' => e = .returned (errV (Sp.procE z)) ∧ w' = w := by
  by_cases k : z < 0 ∨ 20 ≤ z
  · have e : Hid (Sp.procE z = 1) := Hid.intro (if_pos k)
    by_cases h0 : z < 0
    · clear k
      go_enter Tryz.func122, Tryz.ntmps122
      go_wp2
      go_ret
      rw [e.out]; exact ⟨rfl, rfl⟩
    · have h1 : decide (z < 0) = false := by simp; omega
      have h2 : 20 ≤ z := by omega
      clear k h0
      go_enter Tryz.func122, Tryz.ntmps122
      go_wp2
      go_ret
      rw [e.out]; exact ⟨rfl, rfl⟩
  · have e : Hid (Sp.procE z = 0) := Hid.intro (if_neg k)
    have h1 : decide (z < 0) = false := by simp; omega
    have h2 : decide (20 ≤ z) = false := by simp; omega
    clear k
    go_enter Tryz.func122, Tryz.ntmps122
    go_wp2
    go_ret
    rw [e.out]; exact ⟨rfl, rfl⟩
set_option maxHeartbeats 400000 in
theorem wrongPair_any (b : Nat) (z x : Int) (t : T) (w : World) (h : Tb true w b t) : Calls Tryz.prog 116 #[.pointer (some ⟨b, 0, none⟩), .int .i64 z, .int .i64 x] w fun e w' => e = .returned (errV (Sp.pairE t z x)) ∧ w' = w := by
  have HF := Hid.intro h
  by_cases k : Sp.isE t z = 0
  · have HK := Hid.intro k
    have HE : Hid (Sp.pairE t z x = Sp.procE x) := Hid.intro (if_pos k)
    clear h k
    go_enter Tryz.func116, Tryz.ntmps116
    go_wp2_with fail
    refine (spwrong_any b z t _ HF.out).mono ?_
    rintro e w1 ⟨rfl, hw⟩
    subst w1
    rw [HK.out, errV_zero]
    go_wp2_with fail
    refine (wrongProc_any x _).mono ?_
    rintro e w1 ⟨rfl, hw⟩
    subst w1
    go_wp2_with fail
    go_ret
    rw [HE.out]; exact ⟨rfl, rfl⟩
  · have HE : Hid (Sp.pairE t z x = Sp.isE t z) := Hid.intro (if_neg k)
    have HN := Hid.intro k
    clear h k
    go_enter Tryz.func116, Tryz.ntmps116
    go_wp2_with fail
    refine (spwrong_any b z t _ HF.out).mono ?_
    rintro e w1 ⟨rfl, hw⟩
    subst w1
    rw [errV_ne HN.out]
    go_wp2
    go_ret
    rw [HE.out, errV_ne HN.out]; exact ⟨rfl, rfl⟩
theorem neg1_ne (n : Nat) : ((n : Int) == -1) = false := by simp
set_option maxRecDepth 100000 in
set_option maxHeartbeats 1000000 in
theorem depth_any (b n : Nat) (t : T) (d : Nat → Nat) (w : World) (h : Tb true w b t) (hT : Sp.Tree t d) (hn : n < 6) (hh : t.here n = true) :
    Calls Tryz.prog 114 #[.pointer (some ⟨b, 0, none⟩), .int .i64 n] w fun e w' => e = .returned (.int .i64 (((Sp.W t n).length : Nat) : Int)) ∧ w' = w := by
  have HF := Hid.intro h
  have HT := Hid.intro hT
  have HL : Hid ((Sp.W t n).length ≤ 4) := Hid.intro (by rw [hT.len hn hh]; exact (hT.le n hn hh).2)
  have HH := Hid.intro hh
  clear h hT hh
  go_enter Tryz.func114, Tryz.ntmps114
  go_wp2_with fail
  go_loopw [5, 6] (fun s i wr => ∃ (k : Nat) (z : Int), s = .int .i64 k ∧ i = .int .i64 z ∧ wr = w ∧ Hid (k + (Sp.W t z).length = (Sp.W t n).length ∧ (z = -1 ∨ ∃ m : Nat, z = m ∧ m < 6 ∧ t.here m = true))) (fun _ i _ => (Sp.W t (intOf i)).length)
  case atStart => exact ⟨0, n, rfl, rfl, rfl, by omega, .inr ⟨n, rfl, hn, HH.out⟩⟩
  case round =>
    obtain ⟨k, z, rfl, rfl, hw, HN⟩ := hrel
    subst wr
    rcases HN.out.2 with rfl | ⟨m, rfl, hm, hmh⟩
    · have HE : Hid (k = (Sp.W t n).length) := Hid.intro (by have := HN.out.1; rw [Sp.W_neg t (-1) (by omega)] at this; simpa using this)
      go_wp2_with fail
      go_ret
      rw [← HE.out]; exact ⟨rfl, rfl⟩
    · have HMH := Hid.intro hmh
      have ST := Hid.intro (HT.out.step hm hmh)
      have PC := Hid.intro (HT.out.par_cases hm hmh)
      have c1 := HF.out.cPar m hm
      have hmI : (m : Int) < 6 := by omega
      have hne := neg1_ne m
      have hk4 : k ≤ 4 := by have := HN.out.1; have := HL.out; omega
      clear hmh
      go_wp2_with fail
      go_roundw
      case rel =>
        refine ⟨k + 1, t.par m, by go_num, by first | rfl | trivial, by first | rfl | trivial, ?_, ?_⟩
        · have := HN.out.1
          rw [ST.out, List.length_cons] at this
          omega
        · rcases PC.out with ⟨_, e, _⟩ | ⟨p, p1, p2, p3, _⟩
          · exact .inl e
          · exact .inr ⟨p, p2, p1, p3⟩
      case measure =>
        simp only [intOf]
        rw [ST.out, List.length_cons]
        omega
set_option maxRecDepth 100000 in
set_option maxHeartbeats 400000 in
theorem of_any (b : Nat) (x : Int) (t : T) (w : World) (h : Tb true w b t) : Calls Tryz.prog 76 #[.pointer (some ⟨b, 0, none⟩), .int .i64 x] w fun e w' => e = .returned (.tuple #[.int .i64 (Sp.inN t x : Int), errV (Sp.inE t x)]) ∧ w' = w := by
  by_cases k : Sp.procE x = 0
  · have HK := Hid.intro k
    obtain ⟨n, rfl, hn⟩ := Sp.procE_zero k
    have hnI : (n : Int) < 20 := by omega
    have c := h.ofC n hn
    by_cases o : t.of n = 0
    · have HE : Hid (Sp.inE t n = 2) := Hid.intro (by unfold Sp.inE; rw [if_pos k, Int.toNat_natCast, if_pos o])
      have HN : Hid (Sp.inN t n = 0) := Hid.intro (by unfold Sp.inN; rw [HE.out]; rfl)
      rw [o] at c
      have c' : w.cell? ⟨b, 138 + n, none⟩ = some (.int .i64 (-1)) := c
      clear h k o c
      go_enter Tryz.func76, Tryz.ntmps76
      go_wp2_with fail
      refine (wrongProc_any _ _).mono ?_
      rintro e w1 ⟨rfl, hw⟩
      subst w1
      rw [HK.out, errV_zero]
      go_wp2
      go_ret2
      rw [HE.out, HN.out]; exact ⟨rfl, rfl⟩
    · have HE : Hid (Sp.inE t n = 0) := Hid.intro (by unfold Sp.inE; rw [if_pos k, Int.toNat_natCast, if_neg o])
      have HN : Hid ((Sp.inN t n : Int) = (t.of n : Int) - 1) := Hid.intro (by unfold Sp.inN; rw [HE.out, if_pos rfl, Int.toNat_natCast]; omega)
      obtain ⟨v, hv⟩ : ∃ v, (t.of n : Int) - 1 = v := ⟨_, rfl⟩
      have v0 : (v == -1) = false := by simp; omega
      rw [hv] at c HN
      clear h k o hv
      go_enter Tryz.func76, Tryz.ntmps76
      go_wp2_with fail
      refine (wrongProc_any _ _).mono ?_
      rintro e w1 ⟨rfl, hw⟩
      subst w1
      rw [HK.out, errV_zero]
      go_wp2
      go_ret2
      rw [HE.out, HN.out]; exact ⟨rfl, rfl⟩
  · have HE : Hid (Sp.inE t x = Sp.procE x) := Hid.intro (by unfold Sp.inE; rw [if_neg k])
    have HN : Hid (Sp.inN t x = 0) := Hid.intro (by unfold Sp.inN; rw [HE.out, if_neg k])
    have HW := Hid.intro k
    clear h k
    go_enter Tryz.func76, Tryz.ntmps76
    go_wp2_with fail
    refine (wrongProc_any _ _).mono ?_
    rintro e w1 ⟨rfl, hw⟩
    subst w1
    rw [errV_ne HW.out]
    go_wp2
    go_ret2
    rw [HE.out, HN.out, errV_ne HW.out]; exact ⟨rfl, rfl⟩
def IdxI (f : Nat → Int) (n : Nat) (v r : Int) : Prop := (∃ i : Nat, i < n ∧ f i = v ∧ (∀ j, j < i → f j ≠ v) ∧ r = i) ∨ ((∀ i, i < n → f i ≠ v) ∧ r = -1)
set_option maxRecDepth 100000 in
set_option maxHeartbeats 1000000 in
theorem index_any (b o n cap : Nat) (f : Nat → Int) (v : Int) (w : World) (h : ∀ i, i < n → w.cell? ⟨b, o + i, none⟩ = some (.int .i64 (f i))) (hn : n ≤ 1000) :
    Calls Tryz.prog 142 #[.slice (some ⟨b, o, none⟩) n cap, .int .i64 v] w fun e w' => ∃ r, e = .returned (.int .i64 r) ∧ IdxI f n v r ∧ w' = w := by
  have H := Hid.intro h
  clear h
  go_enter Tryz.func142, Tryz.ntmps142
  go_wp2_with fail
  go_loopw [8] (fun i wr => ∃ (k : Nat), i = .int .i64 k ∧ k ≤ n ∧ wr = w ∧ Hid (∀ j, j < k → f j ≠ v)) (fun i _ => n - (intOf i).toNat)
  case atStart => exact ⟨0, rfl, by omega, rfl, fun j hj => by omega⟩
  case round =>
    obtain ⟨k, rfl, hk, hw, HN⟩ := hrel
    subst wr
    by_cases hlt : k < n
    · have hltI : (k : Int) < (n : Int) := by omega
      have cc := H.out k hlt
      by_cases e : f k = v
      · have HE := Hid.intro e
        rw [e] at cc
        clear e
        go_wp2_with fail
        go_ret
        exact ⟨_, rfl, .inl ⟨k, hlt, HE.out, HN.out, rfl⟩, rfl⟩
      · have HE := Hid.intro e
        generalize hf : f k = u at *
        have HU := Hid.intro hf
        have e1 : (v == u) = false := by simp; exact fun c => HE.out c.symm
        clear e hf
        go_wp2_with fail
        go_roundw
        case rel => exact ⟨k + 1, by go_num, by omega, by first | rfl | trivial, fun j hj => by
          by_cases c : j = k
          · rw [c, HU.out]; exact HE.out
          · exact HN.out j (by omega)⟩
        case measure => simp [intOf]; omega
    · have hltI : ¬ (k : Int) < (n : Int) := by omega
      go_wp2_with fail
      go_ret
      exact ⟨_, rfl, .inr ⟨fun i hi => HN.out i (by omega), rfl⟩, rfl⟩
theorem Tb.row (w : World) (b n : Nat) (t : T) (h : Tb true w b t) (hn : n < 6) (hh : t.here n = true) : ∀ i, i < 21 → w.cell? ⟨b, n * 23 + 2 + i, none⟩ = some (.int .i64 ((t.who n i : Int) - 1)) := fun i hi => h.whoC n i hn hi hh
def pidI (t : T) (n x : Nat) : Int := if Sp.pidOf t n x = 0 then -1 else (Sp.pidOf t n x : Int)
theorem pidI_of {t : T} {n x : Nat} {r : Int} (h0 : t.who n 0 = 0) (h : IdxI (fun i => (t.who n i : Int) - 1) 21 x r) : r = pidI t n x := by
  unfold pidI Sp.pidOf
  rcases h with ⟨i, hi, e, hl, rfl⟩ | ⟨hl, rfl⟩
  · have e' : (t.who n i : Int) - 1 = x := e
    have i0 : i ≠ 0 := fun c => by rw [c, h0] at e'; omega
    rw [Sp.find_at (P := Sp.isP t n x) hi (by unfold Sp.isP; simp; omega) (fun j hj => by have : (t.who n j : Int) - 1 ≠ x := hl j hj; unfold Sp.isP; simp; omega)]
    show (i : Int) = if i = 0 then -1 else (i : Int)
    rw [if_neg i0]
  · rw [Sp.find_no (P := Sp.isP t n x) (fun j hj => by have : (t.who n j : Int) - 1 ≠ x := hl j hj; unfold Sp.isP; simp; omega)]
    rfl
set_option maxRecDepth 100000 in
set_option maxHeartbeats 400000 in
theorem pid_any (b n x : Nat) (t : T) (w : World) (h : Tb true w b t) (hn : n < 6) (hh : t.here n = true) (h0 : t.who n 0 = 0) :
    Calls Tryz.prog 118 #[.pointer (some ⟨b, n * 23, none⟩), .int .i64 x] w fun e w' => e = .returned (.int .i64 (pidI t n x)) ∧ w' = w := by
  have HR := Hid.intro (Tb.row w b n t h hn hh)
  have H0 := Hid.intro h0
  clear h hh h0
  go_enter Tryz.func118, Tryz.ntmps118
  go_wp2_with fail
  refine (index_any b (n * 23 + 2) 21 21 (fun i => (t.who n i : Int) - 1) x _ HR.out (by omega)).mono ?_
  rintro e w1 ⟨r, rfl, hi, hw⟩
  subst w1
  rw [pidI_of H0.out hi]
  clear hi
  go_wp2_with fail
  go_ret
  exact ⟨rfl, rfl⟩
set_option maxRecDepth 100000 in
set_option maxHeartbeats 400000 in
theorem free_any (b n : Nat) (t : T) (w : World) (h : Tb true w b t) (hn : n < 6) (hh : t.here n = true) (hr : ∃ p, 1 ≤ p ∧ p < 21 ∧ t.who n p = 0) :
    Calls Tryz.prog 117 #[.pointer (some ⟨b, n * 23, none⟩)] w fun e w' => e = .returned (.int .i64 (Sp.low t n : Int)) ∧ w' = w := by
  have HR : Hid (∀ i, i < 20 → w.cell? ⟨b, n * 23 + 3 + i, none⟩ = some (.int .i64 ((t.who n (i + 1) : Int) - 1))) := Hid.intro (fun i hi => by
    have := Tb.row w b n t h hn hh (i + 1) (by omega)
    rw [show n * 23 + 2 + (i + 1) = n * 23 + 3 + i by omega] at this
    exact this)
  have HX := Hid.intro hr
  clear h hh hr
  go_enter Tryz.func117, Tryz.ntmps117
  go_wp2_with fail
  refine (index_any b (n * 23 + 3) 20 20 (fun i => (t.who n (i + 1) : Int) - 1) (-1) _ HR.out (by omega)).mono ?_
  rintro e w1 ⟨r, rfl, hi, hw⟩
  subst w1
  obtain ⟨k, hk, rfl, hlow⟩ : ∃ k : Nat, k < 20 ∧ r = k ∧ Sp.low t n = k + 1 := by
    rcases hi with ⟨i, hi, e, hl, rfl⟩ | ⟨hl, rfl⟩
    · have e' : (t.who n (i + 1) : Int) - 1 = -1 := e
      exact ⟨i, hi, rfl, Sp.low_at (by omega) (by omega) (by omega) (fun q q1 q2 c => by
        have : (t.who n (q - 1 + 1) : Int) - 1 ≠ -1 := hl (q - 1) (by omega)
        rw [show q - 1 + 1 = q by omega, c] at this
        exact this rfl)⟩
    · obtain ⟨p, p1, p2, p3⟩ := HX.out
      have : (t.who n (p - 1 + 1) : Int) - 1 ≠ -1 := hl (p - 1) (by omega)
      rw [show p - 1 + 1 = p by omega, p3] at this
      exact absurd rfl this
  have HL := Hid.intro hlow
  clear hi hlow
  have hk' : (k : Int) < 20 := by omega
  go_wp2_with fail
  go_ret
  rw [HL.out]
  refine ⟨?_, rfl⟩
  go_num
set_option maxRecDepth 100000 in
set_option maxHeartbeats 1000000 in
theorem pidT_any (b : Nat) (x z : Int) (t : T) (w : World) (h : Tb true w b t) (h0 : ∀ n, n < 6 → t.who n 0 = 0) :
    Calls Tryz.prog 75 #[.pointer (some ⟨b, 0, none⟩), .int .i64 x, .int .i64 z] w fun e w' => e = .returned (.tuple #[.int .i64 (Sp.pidN t x z : Int), errV (Sp.pidE t x z)]) ∧ w' = w := by
  have HF := Hid.intro h
  have H0 := Hid.intro h0
  by_cases k : Sp.pairE t z x = 0
  · have HK := Hid.intro k
    obtain ⟨n, y, rfl, rfl, hn, hy, hh⟩ := Sp.pairE_zero k
    have HH := Hid.intro hh
    have hnI : (n : Int) < 6 := by omega
    have HE : Hid (Sp.pidE t y n = if Sp.pidOf t n y = 0 then 2 else 0) := Hid.intro (by unfold Sp.pidE; rw [if_pos k, Int.toNat_natCast, Int.toNat_natCast])
    have HN : Hid (Sp.pidN t y n = Sp.pidOf t n y) := Hid.intro (by
      unfold Sp.pidN; rw [HE.out]
      by_cases c : Sp.pidOf t n y = 0
      · rw [if_pos c, if_neg (by decide), c]
      · rw [if_neg c, if_pos rfl, Int.toNat_natCast, Int.toNat_natCast])
    clear h h0 k hh
    go_enter Tryz.func75, Tryz.ntmps75
    go_wp2_with fail
    refine (wrongPair_any b n y t _ HF.out).mono ?_
    rintro e w1 ⟨rfl, hw⟩
    subst w1
    rw [HK.out, errV_zero]
    go_wp2_with fail
    refine (pid_any b n y t _ HF.out hn HH.out (H0.out n hn)).mono ?_
    rintro e w1 ⟨rfl, hw⟩
    subst w1
    unfold pidI
    by_cases c : Sp.pidOf t n y = 0
    · have HC := Hid.intro c
      rw [if_pos c]
      clear c
      go_wp2
      go_ret2
      rw [HE.out, HN.out, HC.out]; exact ⟨rfl, rfl⟩
    · have HC := Hid.intro c
      rw [if_neg c]
      generalize hp : Sp.pidOf t n y = p at *
      have hp1 : decide ((p : Int) < 1) = false := by simp; omega
      clear c hp
      go_wp2
      go_ret2
      rw [HE.out, HN.out, if_neg HC.out]; exact ⟨rfl, rfl⟩
  · have HE : Hid (Sp.pidE t x z = Sp.pairE t z x) := Hid.intro (by unfold Sp.pidE; rw [if_neg k])
    have HN : Hid (Sp.pidN t x z = 0) := Hid.intro (by unfold Sp.pidN; rw [HE.out, if_neg k])
    have HW := Hid.intro k
    clear h k h0
    go_enter Tryz.func75, Tryz.ntmps75
    go_wp2_with fail
    refine (wrongPair_any b z x t _ HF.out).mono ?_
    rintro e w1 ⟨rfl, hw⟩
    subst w1
    rw [errV_ne HW.out]
    go_wp2
    go_ret2
    rw [HE.out, HN.out, errV_ne HW.out]; exact ⟨rfl, rfl⟩
set_option maxRecDepth 100000 in
set_option maxHeartbeats 1000000 in
theorem find_any (b : Nat) (z p : Int) (t : T) (w : World) (h : Tb true w b t) :
    Calls Tryz.prog 46 #[.pointer (some ⟨b, 0, none⟩), .int .i64 z, .int .i64 p] w fun e w' => e = .returned (.tuple #[.int .i64 (Sp.findN t z p : Int), errV (Sp.findE t z p)]) ∧ w' = w := by
  have HF := Hid.intro h
  by_cases k : Sp.isE t z = 0
  · have HK := Hid.intro k
    obtain ⟨n, rfl, hn, hh⟩ := Sp.isE_zero k
    have hnI : (n : Int) < 6 := by omega
    by_cases hp : p < 1 ∨ 20 < p
    · have HE : Hid (Sp.findE t n p = 2) := Hid.intro (by unfold Sp.findE; rw [if_pos k, if_pos (by omega)])
      have HN : Hid (Sp.findN t n p = 0) := Hid.intro (by unfold Sp.findN; rw [HE.out]; rfl)
      by_cases p1 : p < 1
      · clear h k hh hp
        go_enter Tryz.func46, Tryz.ntmps46
        go_wp2_with fail
        refine (spwrong_any b n t _ HF.out).mono ?_
        rintro e w1 ⟨rfl, hw⟩
        subst w1
        rw [HK.out, errV_zero]
        go_wp2
        go_ret2
        rw [HE.out, HN.out]; exact ⟨rfl, rfl⟩
      · have p1' : decide (p < 1) = false := by simp; omega
        have p2 : 21 ≤ p := by omega
        clear h k hh hp p1
        go_enter Tryz.func46, Tryz.ntmps46
        go_wp2_with fail
        refine (spwrong_any b n t _ HF.out).mono ?_
        rintro e w1 ⟨rfl, hw⟩
        subst w1
        rw [HK.out, errV_zero]
        go_wp2
        go_ret2
        rw [HE.out, HN.out]; exact ⟨rfl, rfl⟩
    · obtain ⟨q, rfl⟩ := Int.eq_ofNat_of_zero_le (show 0 ≤ p by omega)
      have cc := h.whoC n q hn (by omega) hh
      have q1 : decide ((q : Int) < 1) = false := by simp; omega
      have q2 : decide (21 ≤ (q : Int)) = false := by simp; omega
      have q3 : (q : Int) < 21 := by omega
      by_cases c : t.who n q = 0
      · have HE : Hid (Sp.findE t n q = 2) := Hid.intro (by unfold Sp.findE; rw [if_pos k, Int.toNat_natCast, Int.toNat_natCast, if_pos (.inr (.inr c))])
        have HN : Hid (Sp.findN t n q = 0) := Hid.intro (by unfold Sp.findN; rw [HE.out]; rfl)
        rw [c] at cc
        have cc' : w.cell? ⟨b, n * 23 + 2 + q, none⟩ = some (.int .i64 (-1)) := cc
        clear h k hh hp c cc
        go_enter Tryz.func46, Tryz.ntmps46
        go_wp2_with fail
        refine (spwrong_any b n t _ HF.out).mono ?_
        rintro e w1 ⟨rfl, hw⟩
        subst w1
        rw [HK.out, errV_zero]
        go_wp2
        go_ret2
        rw [HE.out, HN.out]; exact ⟨rfl, rfl⟩
      · have HE : Hid (Sp.findE t n q = 0) := Hid.intro (by unfold Sp.findE; rw [if_pos k, Int.toNat_natCast, Int.toNat_natCast, if_neg (by omega)])
        have HN : Hid ((Sp.findN t n q : Int) = (t.who n q : Int) - 1) := Hid.intro (by unfold Sp.findN; rw [HE.out, if_pos rfl, Int.toNat_natCast, Int.toNat_natCast]; omega)
        obtain ⟨v, hv⟩ : ∃ v, (t.who n q : Int) - 1 = v := ⟨_, rfl⟩
        have v0 : (v == -1) = false := by simp; omega
        rw [hv] at cc HN
        clear h k hh hp c hv
        go_enter Tryz.func46, Tryz.ntmps46
        go_wp2_with fail
        refine (spwrong_any b n t _ HF.out).mono ?_
        rintro e w1 ⟨rfl, hw⟩
        subst w1
        rw [HK.out, errV_zero]
        go_wp2
        go_ret2
        rw [HE.out, HN.out]; exact ⟨rfl, rfl⟩
  · have HE : Hid (Sp.findE t z p = Sp.isE t z) := Hid.intro (by unfold Sp.findE; rw [if_neg k])
    have HN : Hid (Sp.findN t z p = 0) := Hid.intro (by unfold Sp.findN; rw [HE.out, if_neg k])
    have HW := Hid.intro k
    clear h k
    go_enter Tryz.func46, Tryz.ntmps46
    go_wp2_with fail
    refine (spwrong_any b z t _ HF.out).mono ?_
    rintro e w1 ⟨rfl, hw⟩
    subst w1
    rw [errV_ne HW.out]
    go_wp2
    go_ret2
    rw [HE.out, HN.out, errV_ne HW.out]; exact ⟨rfl, rfl⟩
end Go.Proofs.YtghogbngmcolmaaGreat

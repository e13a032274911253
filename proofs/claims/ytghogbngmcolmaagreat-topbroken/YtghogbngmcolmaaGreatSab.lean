import Derived.Test.YtghogbngmcolmaaGreatSaa
namespace Go.Proofs.YtghogbngmcolmaaGreat.Gr
open Go.RowKit Go.Shelf
theorem heap_alloc_new0 (w : World) (c : Array Value) (t : TypeId) : (w.alloc (.cells c t)).heap[w.heap.size]? = some (.cells c t (0, 0)) := heap_alloc_new w _
structure F3 (W V : World) (o9 o10 : Option Nat) : Prop where
  bel : Below W.heap.size W V
  c9 : ∀ n, o9 = some n → W.heap.size ≤ n ∧ V.heap[n]? = some (.cells #[.int .i64 0, .int .i64 0] 125 (0, 0))
  c10 : ∀ n, o10 = some n → W.heap.size ≤ n ∧ V.heap[n]? = some (.cells #[.int .i64 0, .int .i64 0] 125 (0, 0))
  ne : ∀ n m, o9 = some n → o10 = some m → n ≠ m
section
variable {W V : World} {o9 o10 : Option Nat}
theorem F3.al9 (h : F3 W V none o10) : F3 W (V.alloc (.cells #[.int .i64 0, .int .i64 0] 125)) (some V.heap.size) o10 :=
  ⟨h.bel.alloc h.bel.size _, fun n e => by cases e; exact ⟨h.bel.size, heap_alloc_new0 _ _ _⟩, fun n e => ⟨(h.c10 n e).1, (Below.heap_alloc _ _ _ (Array.getElem?_eq_some_iff.1 (h.c10 n e).2).1).trans (h.c10 n e).2⟩, fun n m e e' => by cases e; have := (Array.getElem?_eq_some_iff.1 (h.c10 m e').2).1; omega⟩
theorem F3.al10 (h : F3 W V o9 none) : F3 W (V.alloc (.cells #[.int .i64 0, .int .i64 0] 125)) o9 (some V.heap.size) :=
  ⟨h.bel.alloc h.bel.size _, fun n e => ⟨(h.c9 n e).1, (Below.heap_alloc _ _ _ (Array.getElem?_eq_some_iff.1 (h.c9 n e).2).1).trans (h.c9 n e).2⟩, fun n e => by cases e; exact ⟨h.bel.size, heap_alloc_new0 _ _ _⟩, fun n m e e' => by cases e'; have := (Array.getElem?_eq_some_iff.1 (h.c9 n e).2).1; omega⟩
theorem F3.call {V' : World} (h : F3 W V o9 o10) (hb : Below V.heap.size V V') : F3 W V' o9 o10 :=
  ⟨h.bel.trans (hb.mono h.bel.size), fun n e => ⟨(h.c9 n e).1, (hb.block _ (Array.getElem?_eq_some_iff.1 (h.c9 n e).2).1).trans (h.c9 n e).2⟩, fun n e => ⟨(h.c10 n e).1, (hb.block _ (Array.getElem?_eq_some_iff.1 (h.c10 n e).2).1).trans (h.c10 n e).2⟩, h.ne⟩
end
structure F4 (W V : World) (n9 n10 : Nat) (X Y lp lq : Int) : Prop where
  bel : Below W.heap.size W V
  l9 : W.heap.size ≤ n9
  l10 : W.heap.size ≤ n10
  ne : n9 ≠ n10
  c9 : V.heap[n9]? = some (.cells #[.int .i64 X, .int .i64 Y] 125 (0, 0))
  c10 : V.heap[n10]? = some (.cells #[.int .i64 lp, .int .i64 lq] 125 (0, 0))
def lackOps : Array Oper := #[{ dst := some 15, op := Op.load 70 (Operand.tmp 3), type := 70, pos := "groups.go:240", after := #[], guard := none },
  { dst := some 16, op := Op.move (Operand.tmp 8), type := 3, pos := "groups.go:240", after := #[], guard := none },
  { dst := some 17, op := Op.call { callee := Callee.value (Operand.func 112), args := #[Operand.tmp 15, Operand.tmp 16], argTypes := #[70, 3] }, type := 125, pos := "groups.go:240", after := #[{ on := 0, ground := Ground.data }, { on := 1, ground := Ground.data }], guard := none },
  { dst := some 18, op := Op.load 70 (Operand.tmp 3), type := 70, pos := "groups.go:240", after := #[{ on := 12, ground := Ground.gcOnly Departure.lateStores }], guard := none },
  { dst := some 19, op := Op.move (Operand.tmp 8), type := 3, pos := "groups.go:240", after := #[{ on := 12, ground := Ground.gcOnly Departure.lateStores }], guard := none },
  { dst := some 20, op := Op.nilCheck (Operand.tmp 18), type := 0, pos := "groups.go:240", after := #[{ on := 3, ground := Ground.data }, { on := 12, ground := Ground.gcOnly Departure.lateStores }], guard := none },
  { dst := some 21, op := Op.fieldAddr 132 (Operand.tmp 20) 0, type := 0, pos := "groups.go:240", after := #[{ on := 5, ground := Ground.data }, { on := 12, ground := Ground.gcOnly Departure.lateStores }], guard := none },
  { dst := some 22, op := Op.indexAddr 130 (Operand.tmp 21) (Operand.tmp 19), type := 0, pos := "groups.go:240", after := #[{ on := 6, ground := Ground.data }, { on := 4, ground := Ground.data }, { on := 12, ground := Ground.gcOnly Departure.lateStores }], guard := none },
  { dst := some 23, op := Op.fieldAddr 129 (Operand.tmp 22) 2, type := 0, pos := "groups.go:240", after := #[{ on := 7, ground := Ground.data }, { on := 12, ground := Ground.gcOnly Departure.lateStores }], guard := none },
  { dst := some 24, op := Op.load 125 (Operand.tmp 23), type := 125, pos := "groups.go:240", after := #[{ on := 8, ground := Ground.data }, { on := 12, ground := Ground.gcOnly Departure.lateStores }], guard := none },
  { dst := some 9, op := Op.alloc 125, type := 0, pos := "groups.go:240", after := #[], guard := none },
  { dst := some 10, op := Op.alloc 125, type := 0, pos := "groups.go:240", after := #[], guard := none },
  { dst := none, op := Op.store 125 (Operand.tmp 9) (Operand.tmp 17), type := 0, pos := "groups.go:240", after := #[{ on := 10, ground := Ground.data }, { on := 2, ground := Ground.data }, { on := 2, ground := Ground.chain }, { on := 0, ground := Ground.phase }, { on := 1, ground := Ground.phase }, { on := 2, ground := Ground.phase }, { on := 3, ground := Ground.textOnly Departure.lateStores }, { on := 4, ground := Ground.textOnly Departure.lateStores }, { on := 5, ground := Ground.textOnly Departure.lateStores }, { on := 6, ground := Ground.textOnly Departure.lateStores }, { on := 7, ground := Ground.textOnly Departure.lateStores }, { on := 8, ground := Ground.textOnly Departure.lateStores }, { on := 9, ground := Ground.textOnly Departure.lateStores }, { on := 10, ground := Ground.phase }, { on := 11, ground := Ground.phase }], guard := none },
  { dst := none, op := Op.store 125 (Operand.tmp 10) (Operand.tmp 24), type := 0, pos := "groups.go:240", after := #[{ on := 11, ground := Ground.data }, { on := 9, ground := Ground.data }, { on := 12, ground := Ground.chain }, { on := 0, ground := Ground.phase }, { on := 1, ground := Ground.phase }, { on := 2, ground := Ground.phase }, { on := 3, ground := Ground.phase }, { on := 4, ground := Ground.phase }, { on := 5, ground := Ground.phase }, { on := 6, ground := Ground.phase }, { on := 7, ground := Ground.phase }, { on := 8, ground := Ground.phase }, { on := 9, ground := Ground.phase }, { on := 10, ground := Ground.phase }, { on := 11, ground := Ground.phase }, { on := 12, ground := Ground.phase }], guard := none }]
set_option maxRecDepth 100000 in
set_option maxHeartbeats 1000000 in
theorem lack_tail {Q : Exit → Act → World → Prop} {W V : World} {bt x n9 n10 : Nat} {X Y lp lq : Int} {A0 A1 A2 A4 A5 A6 A7 A11 A12 A13 A14 c15 c16 c18 c19 c20 c21 c22 c23 : Value}
    (hQ : ∀ (n9 n10 : Nat) (V : World) (c15 c16 c17 c18 c19 c20 c21 c22 c23 c24 : Value), F4 W V n9 n10 X Y lp lq → Q .normal { tmps := #[A0, A1, A2, .pointer (some ⟨bt, 0, none⟩), A4, A5, A6, A7, .int .i64 (x : Int), .pointer (some ⟨n9, 0, none⟩), .pointer (some ⟨n10, 0, none⟩), A11, A12, A13, A14, c15, c16, c17, c18, c19, c20, c21, c22, c23, c24, undef, undef, undef, undef, undef, undef, undef, undef, undef, undef, undef, undef, undef, undef, undef, undef, undef], defers := [] } V)
    (F : F3 W V (some n9) (some n10)) :
    wpAnyH Tryz.prog .any lackOps Q (fun V => Below W.heap.size W V) 2 #[true, true, true, true, true, true, true, true, true, true, true, true, false, false] { tmps := #[A0, A1, A2, .pointer (some ⟨bt, 0, none⟩), A4, A5, A6, A7, .int .i64 (x : Int), .pointer (some ⟨n9, 0, none⟩), .pointer (some ⟨n10, 0, none⟩), A11, A12, A13, A14, c15, c16, .agg #[.int .i64 X, .int .i64 Y], c18, c19, c20, c21, c22, c23, .agg #[.int .i64 lp, .int .i64 lq], undef, undef, undef, undef, undef, undef, undef, undef, undef, undef, undef, undef, undef, undef, undef, undef, undef], defers := [] } V := by
  have k9 := F.c9 n9 rfl
  have k10 := F.c10 n10 rfl
  have hne := F.ne n9 n10 rfl rfl
  have e0 : V.cell? ⟨n9, 0, none⟩ = some (.int .i64 0) := by rw [heap_cell k9.2]; rfl
  have e1 : V.cell? ⟨n9, 1, none⟩ = some (.int .i64 0) := by rw [heap_cell k9.2]; rfl
  have ef : ∀ o, V.frozen? ⟨n9, o, none⟩ = false := fun o => heap_frozen k9.2 o
  have F4a : Hid (F4 W ((((V.setCell ⟨n9, 0, none⟩ (.int .i64 X)).setCell ⟨n9, 1, none⟩ (.int .i64 Y)).setCell ⟨n10, 0, none⟩ (.int .i64 lp)).setCell ⟨n10, 1, none⟩ (.int .i64 lq)) n9 n10 X Y lp lq) := by
    have s1 : (V.setCell ⟨n9, 0, none⟩ (.int .i64 X)).heap[n9]? = some (.cells #[.int .i64 X, .int .i64 0] 125 (0, 0)) := by rw [heap_set k9.2]; rfl
    have s2 : ((V.setCell ⟨n9, 0, none⟩ (.int .i64 X)).setCell ⟨n9, 1, none⟩ (.int .i64 Y)).heap[n9]? = some (.cells #[.int .i64 X, .int .i64 Y] 125 (0, 0)) := by rw [heap_set s1]; rfl
    have t0 : ((V.setCell ⟨n9, 0, none⟩ (.int .i64 X)).setCell ⟨n9, 1, none⟩ (.int .i64 Y)).heap[n10]? = some (.cells #[.int .i64 0, .int .i64 0] 125 (0, 0)) := by rw [setBlk _ _ _ _ (Ne.symm hne), setBlk _ _ _ _ (Ne.symm hne)]; exact k10.2
    have t1 : (((V.setCell ⟨n9, 0, none⟩ (.int .i64 X)).setCell ⟨n9, 1, none⟩ (.int .i64 Y)).setCell ⟨n10, 0, none⟩ (.int .i64 lp)).heap[n10]? = some (.cells #[.int .i64 lp, .int .i64 0] 125 (0, 0)) := by rw [heap_set t0]; rfl
    refine ⟨(((F.bel.setCell k9.1 _).setCell k9.1 _).setCell k10.1 _).setCell k10.1 _, k9.1, k10.1, hne, ?_, ?_⟩
    · rw [setBlk _ _ _ _ hne, setBlk _ _ _ _ hne]; exact s2
    · rw [heap_set t1]; rfl
  have B0 : Hid (Below W.heap.size W V) := F.bel
  have HK : Hid (W.heap.size ≤ n9 ∧ W.heap.size ≤ n10) := ⟨k9.1, k10.1⟩
  have g0 : V.cell? ⟨n10, 0, none⟩ = some (.int .i64 0) := by rw [heap_cell k10.2]; rfl
  have g1 : V.cell? ⟨n10, 1, none⟩ = some (.int .i64 0) := by rw [heap_cell k10.2]; rfl
  have gf : ∀ o, V.frozen? ⟨n10, o, none⟩ = false := fun o => heap_frozen k10.2 o
  have hne' : n10 ≠ n9 := Ne.symm hne
  clear F k9 k10
  refine wpAnyH_ready (rs := [12]) (by kernel_rfl) (by simp) ?_
  refine AllReadyH.cons (o := { dst := none, op := Op.store 125 (Operand.tmp 9) (Operand.tmp 17), type := 0, pos := "groups.go:240", after := #[{ on := 10, ground := Ground.data }, { on := 2, ground := Ground.data }, { on := 2, ground := Ground.chain }, { on := 0, ground := Ground.phase }, { on := 1, ground := Ground.phase }, { on := 2, ground := Ground.phase }, { on := 3, ground := Ground.textOnly Departure.lateStores }, { on := 4, ground := Ground.textOnly Departure.lateStores }, { on := 5, ground := Ground.textOnly Departure.lateStores }, { on := 6, ground := Ground.textOnly Departure.lateStores }, { on := 7, ground := Ground.textOnly Departure.lateStores }, { on := 8, ground := Ground.textOnly Departure.lateStores }, { on := 9, ground := Ground.textOnly Departure.lateStores }, { on := 10, ground := Ground.phase }, { on := 11, ground := Ground.phase }], guard := none }) rfl (fun K hK => ?_) AllReadyH.nil
  go_simp
  refine hK.out _ _ ((B0.out.setCell HK.out.1 _).setCell HK.out.1 _) (fun _ => ?_)
  clear hK K
  refine wpAnyH_ready (rs := [13]) (by kernel_rfl) (by simp) ?_
  refine AllReadyH.cons (o := { dst := none, op := Op.store 125 (Operand.tmp 10) (Operand.tmp 24), type := 0, pos := "groups.go:240", after := #[{ on := 11, ground := Ground.data }, { on := 9, ground := Ground.data }, { on := 12, ground := Ground.chain }, { on := 0, ground := Ground.phase }, { on := 1, ground := Ground.phase }, { on := 2, ground := Ground.phase }, { on := 3, ground := Ground.phase }, { on := 4, ground := Ground.phase }, { on := 5, ground := Ground.phase }, { on := 6, ground := Ground.phase }, { on := 7, ground := Ground.phase }, { on := 8, ground := Ground.phase }, { on := 9, ground := Ground.phase }, { on := 10, ground := Ground.phase }, { on := 11, ground := Ground.phase }, { on := 12, ground := Ground.phase }], guard := none }) rfl (fun K hK => ?_) AllReadyH.nil
  go_simp
  refine hK.out _ _ F4a.out.bel (fun _ => ?_)
  clear hK K
  exact wpAnyH_done (by kernel_rfl) (hQ _ _ _ _ _ _ _ _ _ _ _ _ _ F4a.out) _
set_option maxRecDepth 100000 in
set_option maxHeartbeats 4000000 in
theorem lack_reg {Q : Exit → Act → World → Prop} {W : World} {n l b bt x : Nat} {t : Nat → Gp} {Wy : Nat → List (Fin 10)} {A0 A1 A2 A4 A5 A6 A7 A11 A12 A13 A14 : Value} (hL : ¬ LetsOut Q) (hP : ∀ c (a : Act) d v w, Q (.panic c) (a.put d v) w → Q (.panic c) a w)
    (hTW : TAt W b t) (hW : Ways t Wy) (hS : Small t) (hx : x < 10) (d0 : W.cell? ⟨bt, 0, none⟩ = some (.pointer (some ⟨b, 0, none⟩)))
    (hQ : ∀ (n9 n10 : Nat) (V : World) (c15 c16 c17 c18 c19 c20 c21 c22 c23 c24 : Value), F4 W V n9 n10 (totTo t Wy x Gp.op 10) (totTo t Wy x Gp.oq 10) (t x).lp (t x).lq → Q .normal { tmps := #[A0, A1, A2, .pointer (some ⟨bt, 0, none⟩), A4, A5, A6, A7, .int .i64 (x : Int), .pointer (some ⟨n9, 0, none⟩), .pointer (some ⟨n10, 0, none⟩), A11, A12, A13, A14, c15, c16, c17, c18, c19, c20, c21, c22, c23, c24, undef, undef, undef, undef, undef, undef, undef, undef, undef, undef, undef, undef, undef, undef, undef, undef, undef], defers := [] } V) :
    (Code.region 3 lackOps true).wpIn (Fence.wide.inRound l) n Tryz.prog Q { tmps := #[A0, A1, A2, .pointer (some ⟨bt, 0, none⟩), A4, A5, A6, A7, .int .i64 (x : Int), undef, undef, A11, A12, A13, A14, undef, undef, undef, undef, undef, undef, undef, undef, undef, undef, undef, undef, undef, undef, undef, undef, undef, undef, undef, undef, undef, undef, undef, undef, undef, undef, undef], defers := [] } W := by
  have hbl := hTW.lt
  have hbtl : bt < W.heap.size := World.block_lt_of_cell? _ _ d0
  have d1 : W.cell? ⟨b, x * 6 + 2, none⟩ = some (.int .i64 (t x).lp) := hTW.cell x 2 hx (by omega)
  have d2 : W.cell? ⟨b, x * 6 + 2 + 1, none⟩ = some (.int .i64 (t x).lq) := hTW.cell x 3 hx (by omega)
  have hxI : (x : Int) < 10 := by omega
  have hS0 : Below W.heap.size W W.drew := (Below.refl _ _).drew
  have F0 : F3 W W.drew none none := ⟨hS0, by nofun, by nofun, by nofun⟩
  refine wpIn_region_round (S := fun V => Below W.heap.size W V) (by kernel_rfl) ?_ hL ?_
  · have hall : ∀ o ∈ lackOps.toList, ∀ c, o.op ≠ .defer c := by
      intro o ho c
      simp only [lackOps, List.mem_cons, List.not_mem_nil, or_false] at ho
      rcases ho with rfl | rfl | rfl | rfl | rfl | rfl | rfl | rfl | rfl | rfl | rfl | rfl | rfl | rfl <;> simp
    intro i o ho
    exact hall o (by simpa using Array.mem_of_getElem? ho)
  generalize W.drew = V0 at *
  dsimp only
  refine wpAnyH_take (i := 0) (oi := { dst := some 15, op := Op.load 70 (Operand.tmp 3), type := 70, pos := "groups.go:240", after := #[], guard := none }) (v := ?_) rfl (by kernel_rfl) (by kernel_rfl) (by kernel_rfl) (fun _ _ _ h => hP _ _ _ _ _ h) (Or.inl ⟨by rfl, ?_⟩) hS0 ?_
  rotate_left
  · intro V hV
    have c0 := (hV.cell (p := ⟨bt, 0, none⟩) hbtl).trans d0
    have c1 := (hV.cell (p := ⟨b, x * 6 + 2, none⟩) hbl).trans d1
    have c2 := (hV.cell (p := ⟨b, x * 6 + 2 + 1, none⟩) hbl).trans d2
    clear hV
    go_simp
    try with_reducible rfl
  simp only [Act.put, List.setIfInBounds_toArray, List.set_cons_zero, List.set_cons_succ]
  refine wpAnyH_take (i := 1) (oi := { dst := some 16, op := Op.move (Operand.tmp 8), type := 3, pos := "groups.go:240", after := #[], guard := none }) (v := ?_) rfl (by kernel_rfl) (by kernel_rfl) (by kernel_rfl) (fun _ _ _ h => hP _ _ _ _ _ h) (Or.inl ⟨by rfl, ?_⟩) hS0 ?_
  rotate_left
  · intro V hV
    have c0 := (hV.cell (p := ⟨bt, 0, none⟩) hbtl).trans d0
    have c1 := (hV.cell (p := ⟨b, x * 6 + 2, none⟩) hbl).trans d1
    have c2 := (hV.cell (p := ⟨b, x * 6 + 2 + 1, none⟩) hbl).trans d2
    clear hV
    go_simp
    try with_reducible rfl
  simp only [Act.put, List.setIfInBounds_toArray, List.set_cons_zero, List.set_cons_succ]
  refine wpAnyH_take (i := 3) (oi := { dst := some 18, op := Op.load 70 (Operand.tmp 3), type := 70, pos := "groups.go:240", after := #[{ on := 12, ground := Ground.gcOnly Departure.lateStores }], guard := none }) (v := ?_) rfl (by kernel_rfl) (by kernel_rfl) (by kernel_rfl) (fun _ _ _ h => hP _ _ _ _ _ h) (Or.inl ⟨by rfl, ?_⟩) hS0 ?_
  rotate_left
  · intro V hV
    have c0 := (hV.cell (p := ⟨bt, 0, none⟩) hbtl).trans d0
    have c1 := (hV.cell (p := ⟨b, x * 6 + 2, none⟩) hbl).trans d1
    have c2 := (hV.cell (p := ⟨b, x * 6 + 2 + 1, none⟩) hbl).trans d2
    clear hV
    go_simp
    try with_reducible rfl
  simp only [Act.put, List.setIfInBounds_toArray, List.set_cons_zero, List.set_cons_succ]
  refine wpAnyH_take (i := 4) (oi := { dst := some 19, op := Op.move (Operand.tmp 8), type := 3, pos := "groups.go:240", after := #[{ on := 12, ground := Ground.gcOnly Departure.lateStores }], guard := none }) (v := ?_) rfl (by kernel_rfl) (by kernel_rfl) (by kernel_rfl) (fun _ _ _ h => hP _ _ _ _ _ h) (Or.inl ⟨by rfl, ?_⟩) hS0 ?_
  rotate_left
  · intro V hV
    have c0 := (hV.cell (p := ⟨bt, 0, none⟩) hbtl).trans d0
    have c1 := (hV.cell (p := ⟨b, x * 6 + 2, none⟩) hbl).trans d1
    have c2 := (hV.cell (p := ⟨b, x * 6 + 2 + 1, none⟩) hbl).trans d2
    clear hV
    go_simp
    try with_reducible rfl
  simp only [Act.put, List.setIfInBounds_toArray, List.set_cons_zero, List.set_cons_succ]
  refine wpAnyH_take (i := 5) (oi := { dst := some 20, op := Op.nilCheck (Operand.tmp 18), type := 0, pos := "groups.go:240", after := #[{ on := 3, ground := Ground.data }, { on := 12, ground := Ground.gcOnly Departure.lateStores }], guard := none }) (v := ?_) rfl (by kernel_rfl) (by kernel_rfl) (by kernel_rfl) (fun _ _ _ h => hP _ _ _ _ _ h) (Or.inl ⟨by rfl, ?_⟩) hS0 ?_
  rotate_left
  · intro V hV
    have c0 := (hV.cell (p := ⟨bt, 0, none⟩) hbtl).trans d0
    have c1 := (hV.cell (p := ⟨b, x * 6 + 2, none⟩) hbl).trans d1
    have c2 := (hV.cell (p := ⟨b, x * 6 + 2 + 1, none⟩) hbl).trans d2
    clear hV
    go_simp
    try with_reducible rfl
  simp only [Act.put, List.setIfInBounds_toArray, List.set_cons_zero, List.set_cons_succ]
  refine wpAnyH_take (i := 6) (oi := { dst := some 21, op := Op.fieldAddr 132 (Operand.tmp 20) 0, type := 0, pos := "groups.go:240", after := #[{ on := 5, ground := Ground.data }, { on := 12, ground := Ground.gcOnly Departure.lateStores }], guard := none }) (v := ?_) rfl (by kernel_rfl) (by kernel_rfl) (by kernel_rfl) (fun _ _ _ h => hP _ _ _ _ _ h) (Or.inl ⟨by rfl, ?_⟩) hS0 ?_
  rotate_left
  · intro V hV
    have c0 := (hV.cell (p := ⟨bt, 0, none⟩) hbtl).trans d0
    have c1 := (hV.cell (p := ⟨b, x * 6 + 2, none⟩) hbl).trans d1
    have c2 := (hV.cell (p := ⟨b, x * 6 + 2 + 1, none⟩) hbl).trans d2
    clear hV
    go_simp
    try with_reducible rfl
  simp only [Act.put, List.setIfInBounds_toArray, List.set_cons_zero, List.set_cons_succ]
  refine wpAnyH_take (i := 7) (oi := { dst := some 22, op := Op.indexAddr 130 (Operand.tmp 21) (Operand.tmp 19), type := 0, pos := "groups.go:240", after := #[{ on := 6, ground := Ground.data }, { on := 4, ground := Ground.data }, { on := 12, ground := Ground.gcOnly Departure.lateStores }], guard := none }) (v := ?_) rfl (by kernel_rfl) (by kernel_rfl) (by kernel_rfl) (fun _ _ _ h => hP _ _ _ _ _ h) (Or.inl ⟨by rfl, ?_⟩) hS0 ?_
  rotate_left
  · intro V hV
    have c0 := (hV.cell (p := ⟨bt, 0, none⟩) hbtl).trans d0
    have c1 := (hV.cell (p := ⟨b, x * 6 + 2, none⟩) hbl).trans d1
    have c2 := (hV.cell (p := ⟨b, x * 6 + 2 + 1, none⟩) hbl).trans d2
    clear hV
    go_simp
    try with_reducible rfl
  simp only [Act.put, List.setIfInBounds_toArray, List.set_cons_zero, List.set_cons_succ]
  refine wpAnyH_take (i := 8) (oi := { dst := some 23, op := Op.fieldAddr 129 (Operand.tmp 22) 2, type := 0, pos := "groups.go:240", after := #[{ on := 7, ground := Ground.data }, { on := 12, ground := Ground.gcOnly Departure.lateStores }], guard := none }) (v := ?_) rfl (by kernel_rfl) (by kernel_rfl) (by kernel_rfl) (fun _ _ _ h => hP _ _ _ _ _ h) (Or.inl ⟨by rfl, ?_⟩) hS0 ?_
  rotate_left
  · intro V hV
    have c0 := (hV.cell (p := ⟨bt, 0, none⟩) hbtl).trans d0
    have c1 := (hV.cell (p := ⟨b, x * 6 + 2, none⟩) hbl).trans d1
    have c2 := (hV.cell (p := ⟨b, x * 6 + 2 + 1, none⟩) hbl).trans d2
    clear hV
    go_simp
    try with_reducible rfl
  simp only [Act.put, List.setIfInBounds_toArray, List.set_cons_zero, List.set_cons_succ]
  refine wpAnyH_take (i := 9) (oi := { dst := some 24, op := Op.load 125 (Operand.tmp 23), type := 125, pos := "groups.go:240", after := #[{ on := 8, ground := Ground.data }, { on := 12, ground := Ground.gcOnly Departure.lateStores }], guard := none }) (v := ?_) rfl (by kernel_rfl) (by kernel_rfl) (by kernel_rfl) (fun _ _ _ h => hP _ _ _ _ _ h) (Or.inl ⟨by rfl, ?_⟩) hS0 ?_
  rotate_left
  · intro V hV
    have c0 := (hV.cell (p := ⟨bt, 0, none⟩) hbtl).trans d0
    have c1 := (hV.cell (p := ⟨b, x * 6 + 2, none⟩) hbl).trans d1
    have c2 := (hV.cell (p := ⟨b, x * 6 + 2 + 1, none⟩) hbl).trans d2
    clear hV
    go_simp
    try with_reducible rfl
  simp only [Act.put, List.setIfInBounds_toArray, List.set_cons_zero, List.set_cons_succ]
  refine wpAnyH_ready (rs := [2, 10, 11]) (by kernel_rfl) (by simp) ?_
  refine AllReadyH.cons (o := { dst := some 17, op := Op.call { callee := Callee.value (Operand.func 112), args := #[Operand.tmp 15, Operand.tmp 16], argTypes := #[70, 3] }, type := 125, pos := "groups.go:240", after := #[{ on := 0, ground := Ground.data }, { on := 1, ground := Ground.data }], guard := none }) rfl (fun K hK => ?_) ?_
  · go_simp
    refine (total_any b x t Wy _ (hTW.below F0.bel hbl) hW hS).mono ?_
    rintro e V1 ⟨rfl, hb⟩
    have F1 := F0.call hb
    refine hK.out _ _ F1.bel (fun _ => ?_)
    clear hK K
    clear hb
    try simp only [Act.put, List.setIfInBounds_toArray, List.set_cons_zero, List.set_cons_succ]
    refine wpAnyH_ready (rs := [10, 11]) (by kernel_rfl) (by simp) ?_
    refine AllReadyH.cons (o := { dst := some 9, op := Op.alloc 125, type := 0, pos := "groups.go:240", after := #[], guard := none }) rfl (fun K hK => ?_) ?_
    · go_simp
      have F2 := F1.al9
      refine hK.out _ _ F2.bel (fun _ => ?_)
      clear hK K
      generalize World.alloc V1 _ = V2 at F2 ⊢
      generalize V1.heap.size = n9 at F2 ⊢
      try simp only [Act.put, List.setIfInBounds_toArray, List.set_cons_zero, List.set_cons_succ]
      refine wpAnyH_ready (rs := [11]) (by kernel_rfl) (by simp) ?_
      refine AllReadyH.cons (o := { dst := some 10, op := Op.alloc 125, type := 0, pos := "groups.go:240", after := #[], guard := none }) rfl (fun K hK => ?_) ?_
      · go_simp
        have F3 := F2.al10
        refine hK.out _ _ F3.bel (fun _ => ?_)
        clear hK K
        generalize World.alloc V2 _ = V3 at F3 ⊢
        generalize V2.heap.size = n10 at F3 ⊢
        try simp only [Act.put, List.setIfInBounds_toArray, List.set_cons_zero, List.set_cons_succ]
        exact lack_tail hQ F3
      exact AllReadyH.nil
    refine AllReadyH.cons (o := { dst := some 10, op := Op.alloc 125, type := 0, pos := "groups.go:240", after := #[], guard := none }) rfl (fun K hK => ?_) ?_
    · go_simp
      have F2 := F1.al10
      refine hK.out _ _ F2.bel (fun _ => ?_)
      clear hK K
      generalize World.alloc V1 _ = V2 at F2 ⊢
      generalize V1.heap.size = n10 at F2 ⊢
      try simp only [Act.put, List.setIfInBounds_toArray, List.set_cons_zero, List.set_cons_succ]
      refine wpAnyH_ready (rs := [10]) (by kernel_rfl) (by simp) ?_
      refine AllReadyH.cons (o := { dst := some 9, op := Op.alloc 125, type := 0, pos := "groups.go:240", after := #[], guard := none }) rfl (fun K hK => ?_) ?_
      · go_simp
        have F3 := F2.al9
        refine hK.out _ _ F3.bel (fun _ => ?_)
        clear hK K
        generalize World.alloc V2 _ = V3 at F3 ⊢
        generalize V2.heap.size = n9 at F3 ⊢
        try simp only [Act.put, List.setIfInBounds_toArray, List.set_cons_zero, List.set_cons_succ]
        exact lack_tail hQ F3
      exact AllReadyH.nil
    exact AllReadyH.nil
  refine AllReadyH.cons (o := { dst := some 9, op := Op.alloc 125, type := 0, pos := "groups.go:240", after := #[], guard := none }) rfl (fun K hK => ?_) ?_
  · go_simp
    have F1 := F0.al9
    refine hK.out _ _ F1.bel (fun _ => ?_)
    clear hK K
    generalize World.alloc V0 _ = V1 at F1 ⊢
    generalize V0.heap.size = n9 at F1 ⊢
    try simp only [Act.put, List.setIfInBounds_toArray, List.set_cons_zero, List.set_cons_succ]
    refine wpAnyH_ready (rs := [2, 11]) (by kernel_rfl) (by simp) ?_
    refine AllReadyH.cons (o := { dst := some 17, op := Op.call { callee := Callee.value (Operand.func 112), args := #[Operand.tmp 15, Operand.tmp 16], argTypes := #[70, 3] }, type := 125, pos := "groups.go:240", after := #[{ on := 0, ground := Ground.data }, { on := 1, ground := Ground.data }], guard := none }) rfl (fun K hK => ?_) ?_
    · go_simp
      refine (total_any b x t Wy _ (hTW.below F1.bel hbl) hW hS).mono ?_
      rintro e V2 ⟨rfl, hb⟩
      have F2 := F1.call hb
      refine hK.out _ _ F2.bel (fun _ => ?_)
      clear hK K
      clear hb
      try simp only [Act.put, List.setIfInBounds_toArray, List.set_cons_zero, List.set_cons_succ]
      refine wpAnyH_ready (rs := [11]) (by kernel_rfl) (by simp) ?_
      refine AllReadyH.cons (o := { dst := some 10, op := Op.alloc 125, type := 0, pos := "groups.go:240", after := #[], guard := none }) rfl (fun K hK => ?_) ?_
      · go_simp
        have F3 := F2.al10
        refine hK.out _ _ F3.bel (fun _ => ?_)
        clear hK K
        generalize World.alloc V2 _ = V3 at F3 ⊢
        generalize V2.heap.size = n10 at F3 ⊢
        try simp only [Act.put, List.setIfInBounds_toArray, List.set_cons_zero, List.set_cons_succ]
        exact lack_tail hQ F3
      exact AllReadyH.nil
    refine AllReadyH.cons (o := { dst := some 10, op := Op.alloc 125, type := 0, pos := "groups.go:240", after := #[], guard := none }) rfl (fun K hK => ?_) ?_
    · go_simp
      have F2 := F1.al10
      refine hK.out _ _ F2.bel (fun _ => ?_)
      clear hK K
      generalize World.alloc V1 _ = V2 at F2 ⊢
      generalize V1.heap.size = n10 at F2 ⊢
      try simp only [Act.put, List.setIfInBounds_toArray, List.set_cons_zero, List.set_cons_succ]
      refine wpAnyH_ready (rs := [2]) (by kernel_rfl) (by simp) ?_
      refine AllReadyH.cons (o := { dst := some 17, op := Op.call { callee := Callee.value (Operand.func 112), args := #[Operand.tmp 15, Operand.tmp 16], argTypes := #[70, 3] }, type := 125, pos := "groups.go:240", after := #[{ on := 0, ground := Ground.data }, { on := 1, ground := Ground.data }], guard := none }) rfl (fun K hK => ?_) ?_
      · go_simp
        refine (total_any b x t Wy _ (hTW.below F2.bel hbl) hW hS).mono ?_
        rintro e V3 ⟨rfl, hb⟩
        have F3 := F2.call hb
        refine hK.out _ _ F3.bel (fun _ => ?_)
        clear hK K
        clear hb
        try simp only [Act.put, List.setIfInBounds_toArray, List.set_cons_zero, List.set_cons_succ]
        exact lack_tail hQ F3
      exact AllReadyH.nil
    exact AllReadyH.nil
  refine AllReadyH.cons (o := { dst := some 10, op := Op.alloc 125, type := 0, pos := "groups.go:240", after := #[], guard := none }) rfl (fun K hK => ?_) ?_
  · go_simp
    have F1 := F0.al10
    refine hK.out _ _ F1.bel (fun _ => ?_)
    clear hK K
    generalize World.alloc V0 _ = V1 at F1 ⊢
    generalize V0.heap.size = n10 at F1 ⊢
    try simp only [Act.put, List.setIfInBounds_toArray, List.set_cons_zero, List.set_cons_succ]
    refine wpAnyH_ready (rs := [2, 10]) (by kernel_rfl) (by simp) ?_
    refine AllReadyH.cons (o := { dst := some 17, op := Op.call { callee := Callee.value (Operand.func 112), args := #[Operand.tmp 15, Operand.tmp 16], argTypes := #[70, 3] }, type := 125, pos := "groups.go:240", after := #[{ on := 0, ground := Ground.data }, { on := 1, ground := Ground.data }], guard := none }) rfl (fun K hK => ?_) ?_
    · go_simp
      refine (total_any b x t Wy _ (hTW.below F1.bel hbl) hW hS).mono ?_
      rintro e V2 ⟨rfl, hb⟩
      have F2 := F1.call hb
      refine hK.out _ _ F2.bel (fun _ => ?_)
      clear hK K
      clear hb
      try simp only [Act.put, List.setIfInBounds_toArray, List.set_cons_zero, List.set_cons_succ]
      refine wpAnyH_ready (rs := [10]) (by kernel_rfl) (by simp) ?_
      refine AllReadyH.cons (o := { dst := some 9, op := Op.alloc 125, type := 0, pos := "groups.go:240", after := #[], guard := none }) rfl (fun K hK => ?_) ?_
      · go_simp
        have F3 := F2.al9
        refine hK.out _ _ F3.bel (fun _ => ?_)
        clear hK K
        generalize World.alloc V2 _ = V3 at F3 ⊢
        generalize V2.heap.size = n9 at F3 ⊢
        try simp only [Act.put, List.setIfInBounds_toArray, List.set_cons_zero, List.set_cons_succ]
        exact lack_tail hQ F3
      exact AllReadyH.nil
    refine AllReadyH.cons (o := { dst := some 9, op := Op.alloc 125, type := 0, pos := "groups.go:240", after := #[], guard := none }) rfl (fun K hK => ?_) ?_
    · go_simp
      have F2 := F1.al9
      refine hK.out _ _ F2.bel (fun _ => ?_)
      clear hK K
      generalize World.alloc V1 _ = V2 at F2 ⊢
      generalize V1.heap.size = n9 at F2 ⊢
      try simp only [Act.put, List.setIfInBounds_toArray, List.set_cons_zero, List.set_cons_succ]
      refine wpAnyH_ready (rs := [2]) (by kernel_rfl) (by simp) ?_
      refine AllReadyH.cons (o := { dst := some 17, op := Op.call { callee := Callee.value (Operand.func 112), args := #[Operand.tmp 15, Operand.tmp 16], argTypes := #[70, 3] }, type := 125, pos := "groups.go:240", after := #[{ on := 0, ground := Ground.data }, { on := 1, ground := Ground.data }], guard := none }) rfl (fun K hK => ?_) ?_
      · go_simp
        refine (total_any b x t Wy _ (hTW.below F2.bel hbl) hW hS).mono ?_
        rintro e V3 ⟨rfl, hb⟩
        have F3 := F2.call hb
        refine hK.out _ _ F3.bel (fun _ => ?_)
        clear hK K
        clear hb
        try simp only [Act.put, List.setIfInBounds_toArray, List.set_cons_zero, List.set_cons_succ]
        exact lack_tail hQ F3
      exact AllReadyH.nil
    exact AllReadyH.nil
  exact AllReadyH.nil
end Go.Proofs.YtghogbngmcolmaaGreat.Gr
namespace Go.Proofs.YtghogbngmcolmaaGreat.Gr
open Go.RowKit Go.Shelf
attribute [local go_sem] Oper.semAt_some
theorem keeps_of_below {W W' : World} (h : Below W.heap.size W W') : KeepsOthers W W' :=
  ⟨h.size, fun k _ hk _ => (h.block k (Array.getElem?_eq_some_iff.1 hk).1).trans hk⟩
theorem K2.of_below {b bt : Nat} {W W' : World} (h : Below W.heap.size W W') (h1 : b < W.heap.size) (h2 : bt < W.heap.size) : K2 b bt W W' := ⟨h.block b h1, h.block bt h2⟩
def lackB (t : Nat → Gp) (Wy : Nat → List (Fin 10)) (p q : Int) (y : Fin 10) : Bool :=
  passB (totTo t Wy y.val Gp.op 10) p (t y.val).lp || passB (totTo t Wy y.val Gp.oq 10) q (t y.val).lq
structure Lk (w W : World) (b : Nat) (p q g : Int) (f : Bool) : Prop where
  bel : Below w.heap.size w W
  bt : W.heap[w.heap.size]? = some (.cells #[.pointer (some ⟨b, 0, none⟩)] 70 (0, 0))
  bm : W.heap[w.heap.size + 1]? = some (.cells #[.int .i64 p, .int .i64 q] 125 (0, 0))
  r1 : W.heap[w.heap.size + 1 + 1]? = some (.cells #[.int .i64 g] 3 (0, 0))
  r2 : W.heap[w.heap.size + 1 + 1 + 1]? = some (.cells #[.bool f] 4 (0, 0))
theorem Lk.below {w W W' : World} {b : Nat} {p q g : Int} {f : Bool} (h : Lk w W b p q g f) (hb : Below W.heap.size W W') : Lk w W' b p q g f := by
  have h1 := (Array.getElem?_eq_some_iff.1 h.r2).1
  exact ⟨h.bel.trans (hb.mono h.bel.size), (hb.block _ (by omega)).trans h.bt, (hb.block _ (by omega)).trans h.bm, (hb.block _ (by omega)).trans h.r1, (hb.block _ h1).trans h.r2⟩
theorem Lk.own (w : World) (b : Nat) (p q g : Int) (f : Bool) {β : Type} : OwnFrom (β := β) (w.heap.size + 1 + 1 + 1 + 1 + 1 + 1) (fun _ W => Lk w W b p q g f) := fun s W W' row hs hg hr => by
  have h1 := (Array.getElem?_eq_some_iff.1 hs.r2).1
  have hk : ∀ k, k < w.heap.size + 1 + 1 + 1 + 1 → W'.heap[k]? = W.heap[k]? := fun k hk => hg.block k (by omega) (fun e => by have := (hr k e.symm).1; omega)
  refine ⟨hs.bel.grown hg (by omega) (fun k e => by have := (hr k e).1; omega), (hk _ (by omega)).trans hs.bt, (hk _ (by omega)).trans hs.bm, (hk _ (by omega)).trans hs.r1, (hk _ (by omega)).trans hs.r2⟩
theorem lk_start (w : World) (b : Nat) (p q g : Int) (o5 o6 : Obj) : Lk w ((((((w.alloc (.cells #[.pointer (some ⟨b, 0, none⟩)] 70)).alloc (.cells #[.int .i64 p, .int .i64 q] 125)).alloc (.cells #[.int .i64 g] 3)).alloc (.cells #[.bool false] 4)).alloc o5).alloc o6) b p q g false := by
  have A := al4 w (.cells #[.pointer (some ⟨b, 0, none⟩)] 70) (.cells #[.int .i64 p, .int .i64 q] 125) (.cells #[.int .i64 g] 3) (.cells #[.bool false] 4)
  have B := al4_below w (.cells #[.pointer (some ⟨b, 0, none⟩)] 70) (.cells #[.int .i64 p, .int .i64 q] 125) (.cells #[.int .i64 g] 3) (.cells #[.bool false] 4)
  have hs := World.size_alloc
  refine Lk.below ⟨B, A.1, A.2.1, A.2.2.1, A.2.2.2⟩ (((Below.refl _ _).alloc (Nat.le_refl _) _).alloc (by simp) _)
theorem lk_boxes (w : World) (o1 o2 o3 o4 o5 o6 : Obj) : ((((((w.alloc o1).alloc o2).alloc o3).alloc o4).alloc o5).alloc o6).heap[w.heap.size + 1 + 1 + 1 + 1]? = some o5 ∧ ((((((w.alloc o1).alloc o2).alloc o3).alloc o4).alloc o5).alloc o6).heap[w.heap.size + 1 + 1 + 1 + 1 + 1]? = some o6 := by
  have A := al2 ((((w.alloc o1).alloc o2).alloc o3).alloc o4) o5 o6
  simp only [World.size_alloc] at A
  exact A
theorem Lk.fin {w W : World} {b : Nat} {p q g : Int} {f : Bool} (h : Lk w W b p q g f) (g' : Int) (f' : Bool) : Lk w ((W.setCell ⟨w.heap.size + 1 + 1, 0, none⟩ (.int .i64 g')).setCell ⟨w.heap.size + 1 + 1 + 1, 0, none⟩ (.bool f')) b p q g' f' := by
  have e1 : (W.setCell ⟨w.heap.size + 1 + 1, 0, none⟩ (.int .i64 g')).heap[w.heap.size + 1 + 1]? = some (.cells #[.int .i64 g'] 3 (0, 0)) := by rw [heap_set h.r1]; rfl
  have e2 : (W.setCell ⟨w.heap.size + 1 + 1, 0, none⟩ (.int .i64 g')).heap[w.heap.size + 1 + 1 + 1]? = some (.cells #[.bool f] 4 (0, 0)) := by rw [setBlk _ _ _ _ (by omega)]; exact h.r2
  refine ⟨(h.bel.setCell (p := ⟨w.heap.size + 1 + 1, 0, none⟩) (by simp; omega) _).setCell (p := ⟨w.heap.size + 1 + 1 + 1, 0, none⟩) (by simp; omega) _, ?_, ?_, ?_, ?_⟩
  · rw [setBlk _ _ _ _ (by omega), setBlk _ _ _ _ (by omega)]; exact h.bt
  · rw [setBlk _ _ _ _ (by omega), setBlk _ _ _ _ (by omega)]; exact h.bm
  · rw [setBlk _ _ _ _ (by omega)]; exact e1
  · rw [heap_set e2]; rfl
set_option maxRecDepth 100000 in
set_option maxHeartbeats 400000 in
theorem lacking_any (b : Nat) (g p q : Int) (t : Nat → Gp) (Wy : Nat → List (Fin 10)) (xs : List (Fin 10)) (w : World) (hT : TAt w b t) (hW : Ways t Wy) (hS : Small t) (hL : Way t g (vals xs)) (hp : 0 ≤ p ∧ p ≤ 1000) (hq : 0 ≤ q ∧ q ≤ 1000) :
    Calls Tryz.prog 66 #[.pointer (some ⟨b, 0, none⟩), .int .i64 g, .agg #[.int .i64 p, .int .i64 q]] w fun e W' => (((∀ y ∈ xs, lackB t Wy p q y = false) ∧ e = .returned (.tuple #[.int .i64 0, .bool false])) ∨
      (∃ pre x rest, xs = pre ++ x :: rest ∧ (∀ y ∈ pre, lackB t Wy p q y = false) ∧ lackB t Wy p q x = true ∧ e = .returned (.tuple #[.int .i64 (x.val : Int), .bool true]))) ∧ Below w.heap.size w W' := by
  refine (callsIn_wide (n := 4)).1 ?_
  refine callsIn_of_wp_marks Tryz.func66 rfl trivial ?_ rfl
  simp only [Tryz.ntmps66, List.size_toArray, List.length_cons, List.length_nil, Nat.reduceAdd, Nat.reduceSub, Array.replicate_succ, Array.replicate_zero, List.push_toArray, List.append_toArray, List.nil_append, List.cons_append]
  gi_wp2_with (refine ⟨trivial, ?_⟩; gi_at_call 111; refine (callsIn_wide.2 (way_any b g _)).mono ?_; rintro e w' ⟨rfl, rfl⟩)
  have hLk := lk_start w b p q 0 (.cells #[.pointer (some ⟨b, 0, none⟩)] 70) (.cells #[.int .i64 g] 3)
  have hbx := lk_boxes w (.cells #[.pointer (some ⟨b, 0, none⟩)] 70) (.cells #[.int .i64 p, .int .i64 q] 125) (.cells #[.int .i64 0] 3) (.cells #[.bool false] 4) (.cells #[.pointer (some ⟨b, 0, none⟩)] 70) (.cells #[.int .i64 g] 3)
  have c5 := cell_box hbx.2
  have hbl := hT.lt
  refine wpIn_rangeFunc_ownF rfl (by omega) (gf := 140) (lb := #[.pointer (some ⟨w.heap.size + 1 + 1 + 1 + 1 + 1, 0, none⟩), .pointer (some ⟨w.heap.size + 1 + 1 + 1 + 1, 0, none⟩)]) rfl trivial (enters_of Tryz.func140 (by kernel_rfl) rfl)
    (way_stops 3 (by omega) (w.heap.size + 1 + 1 + 1 + 1 + 1) (w.heap.size + 1 + 1 + 1 + 1) b g t xs _ (by simp) c5.1 hbx.1 (hT.below hLk.bel hbl) hL) K2.t (K2.b (by simp; omega) (by simp)) (Below.refl _ _) (fun _ => rfl)
    (fun pre W => (∀ y ∈ pre, lackB t Wy p q y = false) ∧ Lk w W b p q 0 false ∧ w.heap.size + 1 + 1 + 1 + 1 + 1 + 1 ≤ W.heap.size)
    (fun c pre W => (c = .ret ∧ ∃ pre0 x, pre = pre0 ++ [x] ∧ (∀ y ∈ pre0, lackB t Wy p q y = false) ∧ lackB t Wy p q x = true ∧ Lk w W b p q (x.val : Int) true))
    (fun s W W' row hs hg hr => ⟨hs.1, Lk.own w b p q 0 false s W W' row hs.2.1 hg (fun r e => by have := hr r e; simpa using this), by have := hg.size; omega⟩)
    (fun c s W W' row hs hg hr => ⟨hs.1, by
      obtain ⟨pre0, x, h1, h2, h3, h4⟩ := hs.2
      exact ⟨pre0, x, h1, h2, h3, Lk.own w b p q (x.val : Int) true s W W' row h4 hg (fun r e => by have := hr r e; simpa using this)⟩⟩)
    ⟨by simp, hLk, by simp⟩
    (fun x => { tmps := #[.pointer (some ⟨b, 0, none⟩), .int .i64 g, .agg #[.int .i64 p, .int .i64 q], .pointer (some ⟨w.heap.size, 0, none⟩), undef, .pointer (some ⟨w.heap.size + 1, 0, none⟩), .pointer (some ⟨w.heap.size + 1 + 1, 0, none⟩), .pointer (some ⟨w.heap.size + 1 + 1 + 1, 0, none⟩), .int .i64 (x.val : Int), undef, undef, .pointer (some ⟨b, 0, none⟩), .int .i64 g, .func (.func 140) #[] #[.pointer (some ⟨w.heap.size + 1 + 1 + 1 + 1 + 1, 0, none⟩), .pointer (some ⟨w.heap.size + 1 + 1 + 1 + 1, 0, none⟩)], .int .i64 (x.val : Int), undef, undef, undef, undef, undef, undef, undef, undef, undef, undef, undef, undef, undef, undef, undef, undef, undef, undef, undef, undef, undef, undef, undef, undef, undef, undef, undef], defers := [] }) ?assign ?body ?done ?stop
  case assign =>
    intro l x W K hK
    gi_wp2
    exact hK
  case body =>
    rintro l pre x W ⟨hpre, hLk, hsz⟩ _
    have T1 : Hid (TAt W b t) := hT.below hLk.bel hbl
    have L1 : Hid (Lk w W b p q 0 false) := hLk
    have HP : Hid (∀ y ∈ pre, lackB t Wy p q y = false) := hpre
    have hmx : Tryz.prog.follows .mixedOrders = true := by kernel_rfl
    have d0 : W.cell? ⟨w.heap.size, 0, none⟩ = some (.pointer (some ⟨b, 0, none⟩)) := by rw [heap_cell hLk.bt]; rfl
    have d1 : W.cell? ⟨b, x.val * 6 + 2, none⟩ = some (.int .i64 (t x.val).lp) := T1.out.cell x.val 2 x.isLt (by omega)
    have d2 : W.cell? ⟨b, x.val * 6 + 2 + 1, none⟩ = some (.int .i64 (t x.val).lq) := T1.out.cell x.val 3 x.isLt (by omega)
    have d3 : W.cell? ⟨b, x.val * 6 + 3, none⟩ = some (.int .i64 (t x.val).lq) := d2
    have hxI : (x.val : Int) < 10 := by have := x.isLt; omega
    clear hpre hLk hL c5 hbx
    gi_wp2
    have B1 := totTo_bd Wy x.val (fun k hk => (hS k hk).1) 10 (by omega)
    have B2 := totTo_bd Wy x.val (fun k hk => (hS k hk).2) 10 (by omega)
    refine lack_reg (t := t) (Wy := Wy) (x := x.val) ?_ (fun _ _ _ _ _ h => h) T1.out hW hS x.isLt d0 ?_
    · rintro ⟨a, w, h⟩
      exact h
    intro n9 n10 V c15 c16 c17 c18 c19 c20 c21 c22 c23 c24 F
    have eL : lackB t Wy p q x = (passB (totTo t Wy x.val Gp.op 10) p (t x.val).lp || passB (totTo t Wy x.val Gp.oq 10) q (t x.val).lq) := rfl
    have L2 : Hid (Lk w V b p q 0 false) := L1.out.below F.bel
    have FB : Hid (Below W.heap.size W V) := F.bel
    have a0 : V.cell? ⟨n9, 0, none⟩ = some (.int .i64 (totTo t Wy x.val Gp.op 10)) := by rw [heap_cell F.c9]; rfl
    have a1 : V.cell? ⟨n9, 1, none⟩ = some (.int .i64 (totTo t Wy x.val Gp.oq 10)) := by rw [heap_cell F.c9]; rfl
    have b0 : V.cell? ⟨n10, 0, none⟩ = some (.int .i64 (t x.val).lp) := by rw [heap_cell F.c10]; rfl
    have b1 : V.cell? ⟨n10, 1, none⟩ = some (.int .i64 (t x.val).lq) := by rw [heap_cell F.c10]; rfl
    have m0 : V.cell? ⟨w.heap.size + 1, 0, none⟩ = some (.int .i64 p) := by rw [heap_cell L2.out.bm]; rfl
    have m1 : V.cell? ⟨w.heap.size + 1, 1, none⟩ = some (.int .i64 q) := by rw [heap_cell L2.out.bm]; rfl
    have r1 := cell_box L2.out.r1
    have r2 := cell_box L2.out.r2
    obtain ⟨r1c, r1f⟩ := r1
    obtain ⟨r2c, r2f⟩ := r2
    have EL : Hid (lackB t Wy p q x = (passB (totTo t Wy x.val Gp.op 10) p (t x.val).lp || passB (totTo t Wy x.val Gp.oq 10) q (t x.val).lq)) := eL
    clear F d0 d1 d2 d3 eL
    generalize totTo t Wy x.val Gp.op 10 = X at *
    generalize totTo t Wy x.val Gp.oq 10 = Y at *
    generalize (t x.val).lp = LP at *
    generalize (t x.val).lq = LQ at *
    have HB : Hid ((0 ≤ X ∧ X ≤ 100000000) ∧ (0 ≤ Y ∧ Y ≤ 100000000)) := ⟨⟨B1.1, by omega⟩, ⟨B2.1, by omega⟩⟩
    have HPQ : Hid ((0 ≤ p ∧ p ≤ 1000) ∧ (0 ≤ q ∧ q ≤ 1000)) := ⟨hp, hq⟩
    clear B1 B2 hp hq
    have hlt : Hid (w.heap.size + 1 + 1 + 1 + 1 + 1 + 1 ≤ V.heap.size) := by have := FB.out.size; exact Nat.le_trans hsz this
    cases h1 : passB X p LP
    · cases h2 : passB Y q LQ
      · have E0 : Hid (lackB t Wy p q x = false) := by rw [EL.out, h1, h2]; rfl
        clear EL
        gi_wp2_with (refine ⟨trivial, ?_⟩; gi_at_call 113; refine (CallsIn.inRound l (callsIn_wide.2 (passes_any _ _ _ _ (by first | exact HB.out.1 | exact HB.out.2) (by first | exact HPQ.out.1 | exact HPQ.out.2)))).mono ?_; rintro e w' ⟨rfl, rfl⟩; first | rw [h1] | rw [h2])
        exact ⟨keeps_of_below FB.out, K2.of_below FB.out (by have := T1.out.lt; omega) (by omega), fun y hy => (List.mem_append.1 hy).elim (HP.out y) (fun e => by simp at e; subst e; exact E0.out), L2.out, hlt.out⟩
      · have E0 : Hid (lackB t Wy p q x = true) := by rw [EL.out, h1, h2]; rfl
        clear EL
        gi_wp2_with (refine ⟨trivial, ?_⟩; gi_at_call 113; refine (CallsIn.inRound l (callsIn_wide.2 (passes_any _ _ _ _ (by first | exact HB.out.1 | exact HB.out.2) (by first | exact HPQ.out.1 | exact HPQ.out.2)))).mono ?_; rintro e w' ⟨rfl, rfl⟩; first | rw [h1] | rw [h2])
        exact ⟨((keeps_of_below FB.out).trans (KeepsOthers.setCell _ _ _)).trans (KeepsOthers.setCell _ _ _), rfl, pre, x, rfl, HP.out, E0.out, L2.out.fin _ _⟩
    · have E0 : Hid (lackB t Wy p q x = true) := by rw [EL.out, h1]; rfl
      clear EL
      gi_wp2_with (refine ⟨trivial, ?_⟩; gi_at_call 113; refine (CallsIn.inRound l (callsIn_wide.2 (passes_any X p LP _ HB.out.1 HPQ.out.1))).mono ?_; rintro e w' ⟨rfl, rfl⟩; rw [h1])
      refine ⟨trivial, ?_⟩
      gi_wp2
      exact ⟨((keeps_of_below FB.out).trans (KeepsOthers.setCell _ _ _)).trans (KeepsOthers.setCell _ _ _), rfl, pre, x, rfl, HP.out, E0.out, L2.out.fin _ _⟩
  case done =>
    rintro D ys W hD rfl ⟨hne, hLk, hsz⟩ hK
    have r1 := cell_box hLk.r1
    have r2 := cell_box hLk.r2
    obtain ⟨r1c, r1f⟩ := r1
    obtain ⟨r2c, r2f⟩ := r2
    gi_wp2
    have hF := hLk.fin 0 false
    have hK' := (KeepsOthers.setCell _ ⟨w.heap.size + 1 + 1 + 1, 0, none⟩ (.bool false)).same D _ ((KeepsOthers.setCell W ⟨w.heap.size + 1 + 1, 0, none⟩ (.int .i64 0)).same D _ hK rfl) rfl
    refine ⟨by simp, .inl ⟨_, _, rfl, run_takeDeferred hK', ?_⟩⟩
    have hg := grownBy_putObj' ((W.setCell ⟨w.heap.size + 1 + 1, 0, none⟩ (.int .i64 0)).setCell ⟨w.heap.size + 1 + 1 + 1, 0, none⟩ (.bool false)) D (.deferred none)
    have q1 := cell_kept (cell_box hF.r1).1 hg (fun r e => by cases e; exact ⟨_, hK', rfl⟩)
    have q2 := cell_kept (cell_box hF.r2).1 hg (fun r e => by cases e; exact ⟨_, hK', rfl⟩)
    refine ⟨.tuple #[.int .i64 0, .bool false], ?_, .inl ⟨hne, rfl⟩, hF.bel.trans (belowK_b (w := w) (Nat.le_refl _) _ D _ _ (by simp at hD; omega) hK' rfl rfl)⟩
    simp [results, Tryz.f66, go_sem, q1, q2]
  case stop =>
    rintro D c pre W hD hpre ⟨rfl, pre0, x, rfl, hne, hx, hF⟩ hK
    gi_wp2
    refine ⟨by simp, .inl ⟨_, _, rfl, run_takeDeferred hK, ?_⟩⟩
    have hg := grownBy_putObj' W D (.deferred none)
    have q1 := cell_kept (cell_box hF.r1).1 hg (fun r e => by cases e; exact ⟨_, hK, rfl⟩)
    have q2 := cell_kept (cell_box hF.r2).1 hg (fun r e => by cases e; exact ⟨_, hK, rfl⟩)
    obtain ⟨rest, hrest⟩ := hpre
    refine ⟨.tuple #[.int .i64 (x.val : Int), .bool true], ?_, .inr ⟨pre0, x, rest, by rw [← hrest]; simp, hne, hx, rfl⟩, hF.bel.trans (belowK_b (w := w) (Nat.le_refl _) W D _ _ (by simp at hD; omega) hK rfl rfl)⟩
    simp [results, Tryz.f66, go_sem, q1, q2]
end Go.Proofs.YtghogbngmcolmaaGreat.Gr
namespace Go.Proofs.YtghogbngmcolmaaGreat.Gr
open Go.RowKit Go.Shelf
structure Frm (b : Nat) (w w' : World) : Prop where
  os : w'.os = w.os
  tape : w'.tape = w.tape
  output : w'.output = w.output
  size : w.heap.size ≤ w'.heap.size
  block : ∀ k, k < w.heap.size → k ≠ b → w'.heap[k]? = w.heap[k]?
theorem Frm.of_below {b : Nat} {w w' : World} (h : Below w.heap.size w w') : Frm b w w' := ⟨h.os, h.tape, h.output, h.size, fun k hk _ => h.block k hk⟩
theorem Frm.setCell {b : Nat} {u w : World} (h : Frm b u w) (o : Nat) (v : Value) : Frm b u (w.setCell ⟨b, o, none⟩ v) :=
  ⟨h.os, h.tape, h.output, by simpa [World.setCell] using h.size, fun k hk hn => (setBlk _ _ _ _ hn).trans (h.block k hk hn)⟩
theorem Frm.drew {b : Nat} {u w : World} (h : Frm b u w) : Frm b u w.drew := ⟨h.os, h.tape, h.output, h.size, h.block⟩
def newGp (p : Int) : Gp := ⟨true, p, -1, -1, 0, 0⟩
def noGp : Gp := ⟨false, 0, 0, 0, 0, 0⟩
theorem TAt.put6 {w : World} {b : Nat} {t : Nat → Gp} (h : TAt w b t) (n : Nat) (hn : n < 10) (g : Gp) :
    TAt ((((((w.setCell ⟨b, n * 6, none⟩ (.bool g.there)).setCell ⟨b, n * 6 + 1, none⟩ (.int .i64 g.par)).setCell ⟨b, n * 6 + 2, none⟩ (.int .i64 g.lp)).setCell ⟨b, n * 6 + 3, none⟩ (.int .i64 g.lq)).setCell ⟨b, n * 6 + 4, none⟩ (.int .i64 g.op)).setCell ⟨b, n * 6 + 5, none⟩ (.int .i64 g.oq)) b (updT t n g) := by
  unfold TAt
  rw [heap_set (heap_set (heap_set (heap_set (heap_set (heap_set h (n * 6) _) (n * 6 + 1) _) (n * 6 + 2) _) (n * 6 + 3) _) (n * 6 + 4) _)]
  refine congrArg (fun c => some (Obj.cells c 132 (0, 0))) ?_
  refine encT_ext _ _ (by simp [encT_size]) fun m i hm hi => ?_
  have hsz := encT_size t
  by_cases e : m = n
  · subst e
    rw [updT_same]
    match i, hi with
    | 0, _ => simp [Array.getElem?_setIfInBounds, hsz, Gp.cell]; omega
    | 1, _ => simp [Array.getElem?_setIfInBounds, hsz, Gp.cell]; omega
    | 2, _ => simp [Array.getElem?_setIfInBounds, hsz, Gp.cell]; omega
    | 3, _ => simp [Array.getElem?_setIfInBounds, hsz, Gp.cell]; omega
    | 4, _ => simp [Array.getElem?_setIfInBounds, hsz, Gp.cell]; omega
    | 5, _ => simp [Array.getElem?_setIfInBounds, hsz, Gp.cell]; omega
  · rw [updT_ne _ _ _ _ e, Array.getElem?_setIfInBounds_ne (by omega), Array.getElem?_setIfInBounds_ne (by omega), Array.getElem?_setIfInBounds_ne (by omega), Array.getElem?_setIfInBounds_ne (by omega), Array.getElem?_setIfInBounds_ne (by omega), Array.getElem?_setIfInBounds_ne (by omega), encT_at t m i hm hi]
set_option maxRecDepth 100000 in
set_option maxHeartbeats 400000 in
theorem newGroup_any (p : Int) (w : World) : Calls Tryz.prog 98 #[.int .i64 p] w fun e w' => e = .returned (.agg #[.bool true, .int .i64 p, .int .i64 (-1), .int .i64 (-1), .int .i64 0, .int .i64 0]) ∧ Below w.heap.size w w' := by
  go_enter Tryz.func98, Tryz.ntmps98
  go_wp2
  refine bodyPost_ret (v := .agg #[.bool true, .int .i64 p, .int .i64 (-1), .int .i64 (-1), .int .i64 0, .int .i64 0]) (by simp [results, Tryz.results98, go_sem]) rfl ⟨rfl, (Below.refl _ _).alloc (Nat.le_refl _) _⟩
theorem tat_zero (w : World) : TAt (w.alloc (.cells (encT fun _ => noGp) 132)) w.heap.size (fun _ => noGp) := heap_alloc_new w _
theorem zero96 : encT (fun _ => noGp) = #[Value.bool false, Value.int IntKind.i64 0, Value.int IntKind.i64 0, Value.int IntKind.i64 0, Value.int IntKind.i64 0, Value.int IntKind.i64 0, Value.bool false, Value.int IntKind.i64 0, Value.int IntKind.i64 0, Value.int IntKind.i64 0, Value.int IntKind.i64 0, Value.int IntKind.i64 0, Value.bool false, Value.int IntKind.i64 0, Value.int IntKind.i64 0, Value.int IntKind.i64 0, Value.int IntKind.i64 0, Value.int IntKind.i64 0, Value.bool false, Value.int IntKind.i64 0, Value.int IntKind.i64 0, Value.int IntKind.i64 0, Value.int IntKind.i64 0, Value.int IntKind.i64 0, Value.bool false, Value.int IntKind.i64 0, Value.int IntKind.i64 0, Value.int IntKind.i64 0, Value.int IntKind.i64 0, Value.int IntKind.i64 0, Value.bool false, Value.int IntKind.i64 0, Value.int IntKind.i64 0, Value.int IntKind.i64 0, Value.int IntKind.i64 0, Value.int IntKind.i64 0, Value.bool false, Value.int IntKind.i64 0, Value.int IntKind.i64 0, Value.int IntKind.i64 0, Value.int IntKind.i64 0, Value.int IntKind.i64 0, Value.bool false, Value.int IntKind.i64 0, Value.int IntKind.i64 0, Value.int IntKind.i64 0, Value.int IntKind.i64 0, Value.int IntKind.i64 0, Value.bool false, Value.int IntKind.i64 0, Value.int IntKind.i64 0, Value.int IntKind.i64 0, Value.int IntKind.i64 0, Value.int IntKind.i64 0, Value.bool false, Value.int IntKind.i64 0, Value.int IntKind.i64 0, Value.int IntKind.i64 0, Value.int IntKind.i64 0, Value.int IntKind.i64 0] := by kernel_rfl
set_option maxRecDepth 100000 in
set_option maxHeartbeats 400000 in
theorem new_any (w : World) : Calls Tryz.prog 53 #[] w fun e w' => e = .returned (.pointer (some ⟨w.heap.size, 0, none⟩)) ∧ TAt w' w.heap.size (updT (fun _ => noGp) 0 (newGp (-1))) ∧ Below w.heap.size w w' := by
  have Z := tat_zero w
  rw [zero96] at Z
  go_enter Tryz.func53, Tryz.ntmps53
  go_wp2_with fail
  refine wp_gen (fun W => TAt W w.heap.size (fun _ => noGp) ∧ Below w.heap.size w W) ⟨Z, (Below.refl _ _).alloc (Nat.le_refl _) _⟩ ?_
  rintro W ⟨hT, hB⟩
  have HT : Hid (TAt W w.heap.size (fun _ => noGp)) := hT
  have HB : Hid (Below w.heap.size w W) := hB
  clear Z hT hB
  go_region_held3 (fun _ => True) (trivial) ((go_at_call 98; refine (newGroup_any _ _).mono ?_; rintro e w2 ⟨rfl, hb2⟩; have T2 : TAt w2 w.heap.size (fun _ => noGp) := HT.out.drew.below hb2 HT.out.lt; have c0 := T2.cell 0 0 (by omega) (by omega); have c1 := T2.cell 0 1 (by omega) (by omega); have c2 := T2.cell 0 2 (by omega) (by omega); have c3 := T2.cell 0 3 (by omega) (by omega); have c4 := T2.cell 0 4 (by omega) (by omega); have c5 := T2.cell 0 5 (by omega) (by omega); have cf := T2.frozen; simp only [Nat.zero_mul, Nat.zero_add] at c0 c1 c2 c3 c4 c5))
  have HT2 : Hid (TAt w2 w.heap.size (fun _ => noGp)) := T2
  have HB2 : Hid (Below w.heap.size w w2) := HB.out.trans ((Below.refl _ W).drew.trans (hb2.mono (by have := HB.out.size; exact this)))
  clear T2 c0 c1 c2 c3 c4 c5 cf hb2
  go_wp2
  go_ret
  refine ⟨rfl, HT2.out.put6 0 (by omega) (newGp (-1)), ?_⟩
  exact (((((HB2.out.setCell (Nat.le_refl _) _).setCell (Nat.le_refl _) _).setCell (Nat.le_refl _) _).setCell (Nat.le_refl _) _).setCell (Nat.le_refl _) _).setCell (Nat.le_refl _) _
def errV (k : Int) : Value := if k = 0 then .nilIface else .iface 60 (.int .i64 k)
theorem wr_zero {t : Nat → Gp} {g : Int} (h : wr t g = 0) : ∃ n : Nat, g = n ∧ n < 10 ∧ (t n).there = true := by
  unfold wr at h
  by_cases hb : g < 0 ∨ 10 ≤ g
  · rw [if_pos hb] at h; simp at h
  · rw [if_neg hb] at h
    obtain ⟨n, rfl⟩ := Int.eq_ofNat_of_zero_le (show 0 ≤ g by omega)
    refine ⟨n, rfl, by omega, ?_⟩
    rw [Int.toNat_natCast] at h
    cases hh : (t n).there
    · rw [hh] at h; simp at h
    · rfl
end Go.Proofs.YtghogbngmcolmaaGreat.Gr
namespace Go.Proofs.YtghogbngmcolmaaGreat.Gr
open Go.RowKit Go.Shelf
theorem updT_updT (t : Nat → Gp) (n : Nat) (g g' : Gp) : updT (updT t n g) n g' = updT t n g' := by
  funext k
  unfold updT
  split <;> rfl
def refE (t : Nat → Gp) (g p q : Int) : Int := if wr t g = 0 then (if fromB p q 0 = true then 0 else 1) else wr t g
theorem refuses_any (b : Nat) (g p q : Int) (t : Nat → Gp) (w : World) (h : TAt w b t) : Calls Tryz.prog 65 #[.pointer (some ⟨b, 0, none⟩), .int .i64 g, .agg #[.int .i64 p, .int .i64 q]] w fun e w' => e = .returned (errV (refE t g p q)) ∧ Below w.heap.size w w' := by
  unfold refE
  by_cases hw : wr t g = 0
  · rw [if_pos hw]
    obtain ⟨n, rfl, hn, hh⟩ := wr_zero hw
    cases hf : fromB p q 0
    · exact refuses_bound b n p q t w h hn hh hf
    · exact refuses_ok b n p q t w h hn hh hf
  · rw [if_neg hw]
    unfold wr at hw ⊢
    by_cases hb : g < 0 ∨ 10 ≤ g
    · rw [if_pos hb]; exact refuses_bad b g p q w hb
    · rw [if_neg hb] at hw ⊢
      obtain ⟨n, rfl⟩ := Int.eq_ofNat_of_zero_le (show 0 ≤ g by omega)
      rw [Int.toNat_natCast] at hw ⊢
      cases hh : (t n).there
      · exact refuses_none b n p q t w h (by omega) hh
      · rw [hh] at hw; simp at hw
theorem fromB_iff {p q l : Int} : fromB p q l = true ↔ (l ≤ p ∧ p ≤ 20 ∧ l ≤ q ∧ q ≤ 64) := by unfold fromB; exact decide_eq_true_iff
theorem refE_zero {t : Nat → Gp} {g p q : Int} (h : refE t g p q = 0) : ∃ n : Nat, g = n ∧ n < 10 ∧ (t n).there = true ∧ (0 ≤ p ∧ p ≤ 20) ∧ (0 ≤ q ∧ q ≤ 64) := by
  unfold refE at h
  by_cases hw : wr t g = 0
  · rw [if_pos hw] at h
    obtain ⟨n, e, hn, hh⟩ := wr_zero hw
    cases hf : fromB p q 0
    · rw [hf] at h; simp at h
    · have := fromB_iff.1 hf
      exact ⟨n, e, hn, hh, ⟨this.1, this.2.1⟩, this.2.2.1, this.2.2.2⟩
  · rw [if_neg hw] at h; exact absurd h hw
end Go.Proofs.YtghogbngmcolmaaGreat.Gr

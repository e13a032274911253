import Derived.Test.YtghogbngmcolmaaGreatQab
namespace Go.Proofs.YtghogbngmcolmaaGreat.Gr
open Go.RowKit Go.Shelf
theorem heap_alloc_new0 (w : World) (c : Array Value) (t : TypeId) : (w.alloc (.cells c t)).heap[w.heap.size]? = some (.cells c t (0, 0)) := heap_alloc_new w _
structure F3 (W V : World) (o9 o10 : Option Nat) : Prop where
  bel : Below W.heap.size W V
  c9 : ∀ n, o9 = some n → W.heap.size ≤ n ∧ V.heap[n]? = some (.cells #[.int .i64 0, .int .i64 0] 125 (0, 0))
  c10 : ∀ n, o10 = some n → W.heap.size ≤ n ∧ V.heap[n]? = some (.cells #[.int .i64 0, .int .i64 0] 125 (0, 0))
  ne : ∀ n m, o9 = some n → o10 = some m → n ≠ m
section
variable {W V : World} {o9 o10 : Option Nat}
theorem F3.al9 (h : F3 W V none o10) : F3 W (V.alloc (.cells #[.int .i64 0, .int .i64 0] 125)) (some V.heap.size) o10 :=
  ⟨h.bel.alloc h.bel.size _, fun n e => by cases e; exact ⟨h.bel.size, heap_alloc_new0 _ _ _⟩, fun n e => ⟨(h.c10 n e).1, (Below.heap_alloc _ _ _ (Array.getElem?_eq_some_iff.1 (h.c10 n e).2).1).trans (h.c10 n e).2⟩, fun n m e e' => by cases e; have := (Array.getElem?_eq_some_iff.1 (h.c10 m e').2).1; omega⟩
theorem F3.al10 (h : F3 W V o9 none) : F3 W (V.alloc (.cells #[.int .i64 0, .int .i64 0] 125)) o9 (some V.heap.size) :=
  ⟨h.bel.alloc h.bel.size _, fun n e => ⟨(h.c9 n e).1, (Below.heap_alloc _ _ _ (Array.getElem?_eq_some_iff.1 (h.c9 n e).2).1).trans (h.c9 n e).2⟩, fun n e => by cases e; exact ⟨h.bel.size, heap_alloc_new0 _ _ _⟩, fun n m e e' => by cases e'; have := (Array.getElem?_eq_some_iff.1 (h.c9 n e).2).1; omega⟩
theorem F3.call {V' : World} (h : F3 W V o9 o10) (hb : Below V.heap.size V V') : F3 W V' o9 o10 :=
  ⟨h.bel.trans (hb.mono h.bel.size), fun n e => ⟨(h.c9 n e).1, (hb.block _ (Array.getElem?_eq_some_iff.1 (h.c9 n e).2).1).trans (h.c9 n e).2⟩, fun n e => ⟨(h.c10 n e).1, (hb.block _ (Array.getElem?_eq_some_iff.1 (h.c10 n e).2).1).trans (h.c10 n e).2⟩, h.ne⟩
end
structure F4 (W V : World) (n9 n10 : Nat) (X Y lp lq : Int) : Prop where
  bel : Below W.heap.size W V
  l9 : W.heap.size ≤ n9
  l10 : W.heap.size ≤ n10
  ne : n9 ≠ n10
  c9 : V.heap[n9]? = some (.cells #[.int .i64 X, .int .i64 Y] 125 (0, 0))
  c10 : V.heap[n10]? = some (.cells #[.int .i64 lp, .int .i64 lq] 125 (0, 0))
def lackOps : Array Oper := #[{ dst := some 15, op := Op.load 70 (Operand.tmp 3), type := 70, pos := "groups.go:240", after := #[], guard := none },
  { dst := some 16, op := Op.move (Operand.tmp 8), type := 3, pos := "groups.go:240", after := #[], guard := none },
  { dst := some 17, op := Op.call { callee := Callee.value (Operand.func 112), args := #[Operand.tmp 15, Operand.tmp 16], argTypes := #[70, 3] }, type := 125, pos := "groups.go:240", after := #[{ on := 0, ground := Ground.data }, { on := 1, ground := Ground.data }], guard := none },
  { dst := some 18, op := Op.load 70 (Operand.tmp 3), type := 70, pos := "groups.go:240", after := #[{ on := 12, ground := Ground.gcOnly Departure.lateStores }], guard := none },
  { dst := some 19, op := Op.move (Operand.tmp 8), type := 3, pos := "groups.go:240", after := #[{ on := 12, ground := Ground.gcOnly Departure.lateStores }], guard := none },
  { dst := some 20, op := Op.nilCheck (Operand.tmp 18), type := 0, pos := "groups.go:240", after := #[{ on := 3, ground := Ground.data }, { on := 12, ground := Ground.gcOnly Departure.lateStores }], guard := none },
  { dst := some 21, op := Op.fieldAddr 132 (Operand.tmp 20) 0, type := 0, pos := "groups.go:240", after := #[{ on := 5, ground := Ground.data }, { on := 12, ground := Ground.gcOnly Departure.lateStores }], guard := none },
  { dst := some 22, op := Op.indexAddr 130 (Operand.tmp 21) (Operand.tmp 19), type := 0, pos := "groups.go:240", after := #[{ on := 6, ground := Ground.data }, { on := 4, ground := Ground.data }, { on := 12, ground := Ground.gcOnly Departure.lateStores }], guard := none },
  { dst := some 23, op := Op.fieldAddr 129 (Operand.tmp 22) 2, type := 0, pos := "groups.go:240", after := #[{ on := 7, ground := Ground.data }, { on := 12, ground := Ground.gcOnly Departure.lateStores }], guard := none },
  { dst := some 24, op := Op.load 125 (Operand.tmp 23), type := 125, pos := "groups.go:240", after := #[{ on := 8, ground := Ground.data }, { on := 12, ground := Ground.gcOnly Departure.lateStores }], guard := none },
  { dst := some 9, op := Op.alloc 125, type := 0, pos := "groups.go:240", after := #[], guard := none },
  { dst := some 10, op := Op.alloc 125, type := 0, pos := "groups.go:240", after := #[], guard := none },
  { dst := none, op := Op.store 125 (Operand.tmp 9) (Operand.tmp 17), type := 0, pos := "groups.go:240", after := #[{ on := 10, ground := Ground.data }, { on := 2, ground := Ground.data }, { on := 2, ground := Ground.chain }, { on := 0, ground := Ground.phase }, { on := 1, ground := Ground.phase }, { on := 2, ground := Ground.phase }, { on := 3, ground := Ground.textOnly Departure.lateStores }, { on := 4, ground := Ground.textOnly Departure.lateStores }, { on := 5, ground := Ground.textOnly Departure.lateStores }, { on := 6, ground := Ground.textOnly Departure.lateStores }, { on := 7, ground := Ground.textOnly Departure.lateStores }, { on := 8, ground := Ground.textOnly Departure.lateStores }, { on := 9, ground := Ground.textOnly Departure.lateStores }, { on := 10, ground := Ground.phase }, { on := 11, ground := Ground.phase }], guard := none },
  { dst := none, op := Op.store 125 (Operand.tmp 10) (Operand.tmp 24), type := 0, pos := "groups.go:240", after := #[{ on := 11, ground := Ground.data }, { on := 9, ground := Ground.data }, { on := 12, ground := Ground.chain }, { on := 0, ground := Ground.phase }, { on := 1, ground := Ground.phase }, { on := 2, ground := Ground.phase }, { on := 3, ground := Ground.phase }, { on := 4, ground := Ground.phase }, { on := 5, ground := Ground.phase }, { on := 6, ground := Ground.phase }, { on := 7, ground := Ground.phase }, { on := 8, ground := Ground.phase }, { on := 9, ground := Ground.phase }, { on := 10, ground := Ground.phase }, { on := 11, ground := Ground.phase }, { on := 12, ground := Ground.phase }], guard := none }]
set_option maxRecDepth 100000 in
set_option maxHeartbeats 1000000 in
theorem lack_tail {Q : Exit → Act → World → Prop} {W V : World} {bt x n9 n10 : Nat} {X Y lp lq : Int} {A0 A1 A2 A4 A5 A6 A7 A11 A12 A13 A14 c15 c16 c18 c19 c20 c21 c22 c23 : Value}
    (hQ : ∀ (n9 n10 : Nat) (V : World) (c15 c16 c17 c18 c19 c20 c21 c22 c23 c24 : Value), F4 W V n9 n10 X Y lp lq → Q .normal { tmps := #[A0, A1, A2, .pointer (some ⟨bt, 0, none⟩), A4, A5, A6, A7, .int .i64 (x : Int), .pointer (some ⟨n9, 0, none⟩), .pointer (some ⟨n10, 0, none⟩), A11, A12, A13, A14, c15, c16, c17, c18, c19, c20, c21, c22, c23, c24, undef, undef, undef, undef, undef, undef, undef, undef, undef, undef, undef, undef, undef, undef, undef, undef, undef], defers := [] } V)
    (F : F3 W V (some n9) (some n10)) :
    wpAnyH Tryz.prog .any lackOps Q (fun V => Below W.heap.size W V) 2 #[true, true, true, true, true, true, true, true, true, true, true, true, false, false] { tmps := #[A0, A1, A2, .pointer (some ⟨bt, 0, none⟩), A4, A5, A6, A7, .int .i64 (x : Int), .pointer (some ⟨n9, 0, none⟩), .pointer (some ⟨n10, 0, none⟩), A11, A12, A13, A14, c15, c16, .agg #[.int .i64 X, .int .i64 Y], c18, c19, c20, c21, c22, c23, .agg #[.int .i64 lp, .int .i64 lq], undef, undef, undef, undef, undef, undef, undef, undef, undef, undef, undef, undef, undef, undef, undef, undef, undef], defers := [] } V := by
  have k9 := F.c9 n9 rfl
  have k10 := F.c10 n10 rfl
  have hne := F.ne n9 n10 rfl rfl
  have e0 : V.cell? ⟨n9, 0, none⟩ = some (.int .i64 0) := by rw [heap_cell k9.2]; rfl
  have e1 : V.cell? ⟨n9, 1, none⟩ = some (.int .i64 0) := by rw [heap_cell k9.2]; rfl
  have ef : ∀ o, V.frozen? ⟨n9, o, none⟩ = false := fun o => heap_frozen k9.2 o
  have F4a : Hid (F4 W ((((V.setCell ⟨n9, 0, none⟩ (.int .i64 X)).setCell ⟨n9, 1, none⟩ (.int .i64 Y)).setCell ⟨n10, 0, none⟩ (.int .i64 lp)).setCell ⟨n10, 1, none⟩ (.int .i64 lq)) n9 n10 X Y lp lq) := by
    have s1 : (V.setCell ⟨n9, 0, none⟩ (.int .i64 X)).heap[n9]? = some (.cells #[.int .i64 X, .int .i64 0] 125 (0, 0)) := by rw [heap_set k9.2]; rfl
    have s2 : ((V.setCell ⟨n9, 0, none⟩ (.int .i64 X)).setCell ⟨n9, 1, none⟩ (.int .i64 Y)).heap[n9]? = some (.cells #[.int .i64 X, .int .i64 Y] 125 (0, 0)) := by rw [heap_set s1]; rfl
    have t0 : ((V.setCell ⟨n9, 0, none⟩ (.int .i64 X)).setCell ⟨n9, 1, none⟩ (.int .i64 Y)).heap[n10]? = some (.cells #[.int .i64 0, .int .i64 0] 125 (0, 0)) := by rw [setBlk _ _ _ _ (Ne.symm hne), setBlk _ _ _ _ (Ne.symm hne)]; exact k10.2
    have t1 : (((V.setCell ⟨n9, 0, none⟩ (.int .i64 X)).setCell ⟨n9, 1, none⟩ (.int .i64 Y)).setCell ⟨n10, 0, none⟩ (.int .i64 lp)).heap[n10]? = some (.cells #[.int .i64 lp, .int .i64 0] 125 (0, 0)) := by rw [heap_set t0]; rfl
    refine ⟨(((F.bel.setCell k9.1 _).setCell k9.1 _).setCell k10.1 _).setCell k10.1 _, k9.1, k10.1, hne, ?_, ?_⟩
    · rw [setBlk _ _ _ _ hne, setBlk _ _ _ _ hne]; exact s2
    · rw [heap_set t1]; rfl
  have B0 : Hid (Below W.heap.size W V) := F.bel
  have HK : Hid (W.heap.size ≤ n9 ∧ W.heap.size ≤ n10) := ⟨k9.1, k10.1⟩
  have g0 : V.cell? ⟨n10, 0, none⟩ = some (.int .i64 0) := by rw [heap_cell k10.2]; rfl
  have g1 : V.cell? ⟨n10, 1, none⟩ = some (.int .i64 0) := by rw [heap_cell k10.2]; rfl
  have gf : ∀ o, V.frozen? ⟨n10, o, none⟩ = false := fun o => heap_frozen k10.2 o
  have hne' : n10 ≠ n9 := Ne.symm hne
  clear F k9 k10
  refine wpAnyH_ready (rs := [12]) (by kernel_rfl) (by simp) ?_
  refine AllReadyH.cons (o := { dst := none, op := Op.store 125 (Operand.tmp 9) (Operand.tmp 17), type := 0, pos := "groups.go:240", after := #[{ on := 10, ground := Ground.data }, { on := 2, ground := Ground.data }, { on := 2, ground := Ground.chain }, { on := 0, ground := Ground.phase }, { on := 1, ground := Ground.phase }, { on := 2, ground := Ground.phase }, { on := 3, ground := Ground.textOnly Departure.lateStores }, { on := 4, ground := Ground.textOnly Departure.lateStores }, { on := 5, ground := Ground.textOnly Departure.lateStores }, { on := 6, ground := Ground.textOnly Departure.lateStores }, { on := 7, ground := Ground.textOnly Departure.lateStores }, { on := 8, ground := Ground.textOnly Departure.lateStores }, { on := 9, ground := Ground.textOnly Departure.lateStores }, { on := 10, ground := Ground.phase }, { on := 11, ground := Ground.phase }], guard := none }) rfl (fun K hK => ?_) AllReadyH.nil
  go_simp
  refine hK.out _ _ ((B0.out.setCell HK.out.1 _).setCell HK.out.1 _) (fun _ => ?_)
  clear hK K
  refine wpAnyH_ready (rs := [13]) (by kernel_rfl) (by simp) ?_
  refine AllReadyH.cons (o := { dst := none, op := Op.store 125 (Operand.tmp 10) (Operand.tmp 24), type := 0, pos := "groups.go:240", after := #[{ on := 11, ground := Ground.data }, { on := 9, ground := Ground.data }, { on := 12, ground := Ground.chain }, { on := 0, ground := Ground.phase }, { on := 1, ground := Ground.phase }, { on := 2, ground := Ground.phase }, { on := 3, ground := Ground.phase }, { on := 4, ground := Ground.phase }, { on := 5, ground := Ground.phase }, { on := 6, ground := Ground.phase }, { on := 7, ground := Ground.phase }, { on := 8, ground := Ground.phase }, { on := 9, ground := Ground.phase }, { on := 10, ground := Ground.phase }, { on := 11, ground := Ground.phase }, { on := 12, ground := Ground.phase }], guard := none }) rfl (fun K hK => ?_) AllReadyH.nil
  go_simp
  refine hK.out _ _ F4a.out.bel (fun _ => ?_)
  clear hK K
  exact wpAnyH_done (by kernel_rfl) (hQ _ _ _ _ _ _ _ _ _ _ _ _ _ F4a.out) _
set_option maxRecDepth 100000 in
set_option maxHeartbeats 4000000 in
theorem lack_reg {Q : Exit → Act → World → Prop} {W : World} {n l b bt x : Nat} {t : Nat → Gp} {Wy : Nat → List (Fin 10)} {A0 A1 A2 A4 A5 A6 A7 A11 A12 A13 A14 : Value} (hL : ¬ LetsOut Q) (hP : ∀ c (a : Act) d v w, Q (.panic c) (a.put d v) w → Q (.panic c) a w)
    (hTW : TAt W b t) (hW : Ways t Wy) (hS : Small t) (hx : x < 10) (d0 : W.cell? ⟨bt, 0, none⟩ = some (.pointer (some ⟨b, 0, none⟩)))
    (hQ : ∀ (n9 n10 : Nat) (V : World) (c15 c16 c17 c18 c19 c20 c21 c22 c23 c24 : Value), F4 W V n9 n10 (totTo t Wy x Gp.op 10) (totTo t Wy x Gp.oq 10) (t x).lp (t x).lq → Q .normal { tmps := #[A0, A1, A2, .pointer (some ⟨bt, 0, none⟩), A4, A5, A6, A7, .int .i64 (x : Int), .pointer (some ⟨n9, 0, none⟩), .pointer (some ⟨n10, 0, none⟩), A11, A12, A13, A14, c15, c16, c17, c18, c19, c20, c21, c22, c23, c24, undef, undef, undef, undef, undef, undef, undef, undef, undef, undef, undef, undef, undef, undef, undef, undef, undef], defers := [] } V) :
    (Code.region 3 lackOps true).wpIn (Fence.wide.inRound l) n Tryz.prog Q { tmps := #[A0, A1, A2, .pointer (some ⟨bt, 0, none⟩), A4, A5, A6, A7, .int .i64 (x : Int), undef, undef, A11, A12, A13, A14, undef, undef, undef, undef, undef, undef, undef, undef, undef, undef, undef, undef, undef, undef, undef, undef, undef, undef, undef, undef, undef, undef, undef, undef, undef, undef, undef], defers := [] } W := by
  have hbl := hTW.lt
  have hbtl : bt < W.heap.size := World.block_lt_of_cell? _ _ d0
  have d1 : W.cell? ⟨b, x * 6 + 2, none⟩ = some (.int .i64 (t x).lp) := hTW.cell x 2 hx (by omega)
  have d2 : W.cell? ⟨b, x * 6 + 2 + 1, none⟩ = some (.int .i64 (t x).lq) := hTW.cell x 3 hx (by omega)
  have hxI : (x : Int) < 10 := by omega
  have hS0 : Below W.heap.size W W.drew := (Below.refl _ _).drew
  have F0 : F3 W W.drew none none := ⟨hS0, by nofun, by nofun, by nofun⟩
  refine wpIn_region_round (S := fun V => Below W.heap.size W V) (by kernel_rfl) ?_ hL ?_
  · have hall : ∀ o ∈ lackOps.toList, ∀ c, o.op ≠ .defer c := by
      intro o ho c
      simp only [lackOps, List.mem_cons, List.not_mem_nil, or_false] at ho
      rcases ho with rfl | rfl | rfl | rfl | rfl | rfl | rfl | rfl | rfl | rfl | rfl | rfl | rfl | rfl <;> simp
    intro i o ho
    exact hall o (by simpa using Array.mem_of_getElem? ho)
  generalize W.drew = V0 at *
  dsimp only
  refine wpAnyH_take (i := 0) (oi := { dst := some 15, op := Op.load 70 (Operand.tmp 3), type := 70, pos := "groups.go:240", after := #[], guard := none }) (v := ?_) rfl (by kernel_rfl) (by kernel_rfl) (by kernel_rfl) (fun _ _ _ h => hP _ _ _ _ _ h) (Or.inl ⟨by rfl, ?_⟩) hS0 ?_
  rotate_left
  · intro V hV
    have c0 := (hV.cell (p := ⟨bt, 0, none⟩) hbtl).trans d0
    have c1 := (hV.cell (p := ⟨b, x * 6 + 2, none⟩) hbl).trans d1
    have c2 := (hV.cell (p := ⟨b, x * 6 + 2 + 1, none⟩) hbl).trans d2
    clear hV
    go_simp
    try with_reducible rfl
  simp only [Act.put, List.setIfInBounds_toArray, List.set_cons_zero, List.set_cons_succ]
  refine wpAnyH_take (i := 1) (oi := { dst := some 16, op := Op.move (Operand.tmp 8), type := 3, pos := "groups.go:240", after := #[], guard := none }) (v := ?_) rfl (by kernel_rfl) (by kernel_rfl) (by kernel_rfl) (fun _ _ _ h => hP _ _ _ _ _ h) (Or.inl ⟨by rfl, ?_⟩) hS0 ?_
  rotate_left
  · intro V hV
    have c0 := (hV.cell (p := ⟨bt, 0, none⟩) hbtl).trans d0
    have c1 := (hV.cell (p := ⟨b, x * 6 + 2, none⟩) hbl).trans d1
    have c2 := (hV.cell (p := ⟨b, x * 6 + 2 + 1, none⟩) hbl).trans d2
    clear hV
    go_simp
    try with_reducible rfl
  simp only [Act.put, List.setIfInBounds_toArray, List.set_cons_zero, List.set_cons_succ]
  refine wpAnyH_take (i := 3) (oi := { dst := some 18, op := Op.load 70 (Operand.tmp 3), type := 70, pos := "groups.go:240", after := #[{ on := 12, ground := Ground.gcOnly Departure.lateStores }], guard := none }) (v := ?_) rfl (by kernel_rfl) (by kernel_rfl) (by kernel_rfl) (fun _ _ _ h => hP _ _ _ _ _ h) (Or.inl ⟨by rfl, ?_⟩) hS0 ?_
  rotate_left
  · intro V hV
    have c0 := (hV.cell (p := ⟨bt, 0, none⟩) hbtl).trans d0
    have c1 := (hV.cell (p := ⟨b, x * 6 + 2, none⟩) hbl).trans d1
    have c2 := (hV.cell (p := ⟨b, x * 6 + 2 + 1, none⟩) hbl).trans d2
    clear hV
    go_simp
    try with_reducible rfl
  simp only [Act.put, List.setIfInBounds_toArray, List.set_cons_zero, List.set_cons_succ]
  refine wpAnyH_take (i := 4) (oi := { dst := some 19, op := Op.move (Operand.tmp 8), type := 3, pos := "groups.go:240", after := #[{ on := 12, ground := Ground.gcOnly Departure.lateStores }], guard := none }) (v := ?_) rfl (by kernel_rfl) (by kernel_rfl) (by kernel_rfl) (fun _ _ _ h => hP _ _ _ _ _ h) (Or.inl ⟨by rfl, ?_⟩) hS0 ?_
  rotate_left
  · intro V hV
    have c0 := (hV.cell (p := ⟨bt, 0, none⟩) hbtl).trans d0
    have c1 := (hV.cell (p := ⟨b, x * 6 + 2, none⟩) hbl).trans d1
    have c2 := (hV.cell (p := ⟨b, x * 6 + 2 + 1, none⟩) hbl).trans d2
    clear hV
    go_simp
    try with_reducible rfl
  simp only [Act.put, List.setIfInBounds_toArray, List.set_cons_zero, List.set_cons_succ]
  refine wpAnyH_take (i := 5) (oi := { dst := some 20, op := Op.nilCheck (Operand.tmp 18), type := 0, pos := "groups.go:240", after := #[{ on := 3, ground := Ground.data }, { on := 12, ground := Ground.gcOnly Departure.lateStores }], guard := none }) (v := ?_) rfl (by kernel_rfl) (by kernel_rfl) (by kernel_rfl) (fun _ _ _ h => hP _ _ _ _ _ h) (Or.inl ⟨by rfl, ?_⟩) hS0 ?_
  rotate_left
  · intro V hV
    have c0 := (hV.cell (p := ⟨bt, 0, none⟩) hbtl).trans d0
    have c1 := (hV.cell (p := ⟨b, x * 6 + 2, none⟩) hbl).trans d1
    have c2 := (hV.cell (p := ⟨b, x * 6 + 2 + 1, none⟩) hbl).trans d2
    clear hV
    go_simp
    try with_reducible rfl
  simp only [Act.put, List.setIfInBounds_toArray, List.set_cons_zero, List.set_cons_succ]
  refine wpAnyH_take (i := 6) (oi := { dst := some 21, op := Op.fieldAddr 132 (Operand.tmp 20) 0, type := 0, pos := "groups.go:240", after := #[{ on := 5, ground := Ground.data }, { on := 12, ground := Ground.gcOnly Departure.lateStores }], guard := none }) (v := ?_) rfl (by kernel_rfl) (by kernel_rfl) (by kernel_rfl) (fun _ _ _ h => hP _ _ _ _ _ h) (Or.inl ⟨by rfl, ?_⟩) hS0 ?_
  rotate_left
  · intro V hV
    have c0 := (hV.cell (p := ⟨bt, 0, none⟩) hbtl).trans d0
    have c1 := (hV.cell (p := ⟨b, x * 6 + 2, none⟩) hbl).trans d1
    have c2 := (hV.cell (p := ⟨b, x * 6 + 2 + 1, none⟩) hbl).trans d2
    clear hV
    go_simp
    try with_reducible rfl
  simp only [Act.put, List.setIfInBounds_toArray, List.set_cons_zero, List.set_cons_succ]
  refine wpAnyH_take (i := 7) (oi := { dst := some 22, op := Op.indexAddr 130 (Operand.tmp 21) (Operand.tmp 19), type := 0, pos := "groups.go:240", after := #[{ on := 6, ground := Ground.data }, { on := 4, ground := Ground.data }, { on := 12, ground := Ground.gcOnly Departure.lateStores }], guard := none }) (v := ?_) rfl (by kernel_rfl) (by kernel_rfl) (by kernel_rfl) (fun _ _ _ h => hP _ _ _ _ _ h) (Or.inl ⟨by rfl, ?_⟩) hS0 ?_
  rotate_left
  · intro V hV
    have c0 := (hV.cell (p := ⟨bt, 0, none⟩) hbtl).trans d0
    have c1 := (hV.cell (p := ⟨b, x * 6 + 2, none⟩) hbl).trans d1
    have c2 := (hV.cell (p := ⟨b, x * 6 + 2 + 1, none⟩) hbl).trans d2
    clear hV
    go_simp
    try with_reducible rfl
  simp only [Act.put, List.setIfInBounds_toArray, List.set_cons_zero, List.set_cons_succ]
  refine wpAnyH_take (i := 8) (oi := { dst := some 23, op := Op.fieldAddr 129 (Operand.tmp 22) 2, type := 0, pos := "groups.go:240", after := #[{ on := 7, ground := Ground.data }, { on := 12, ground := Ground.gcOnly Departure.lateStores }], guard := none }) (v := ?_) rfl (by kernel_rfl) (by kernel_rfl) (by kernel_rfl) (fun _ _ _ h => hP _ _ _ _ _ h) (Or.inl ⟨by rfl, ?_⟩) hS0 ?_
  rotate_left
  · intro V hV
    have c0 := (hV.cell (p := ⟨bt, 0, none⟩) hbtl).trans d0
    have c1 := (hV.cell (p := ⟨b, x * 6 + 2, none⟩) hbl).trans d1
    have c2 := (hV.cell (p := ⟨b, x * 6 + 2 + 1, none⟩) hbl).trans d2
    clear hV
    go_simp
    try with_reducible rfl
  simp only [Act.put, List.setIfInBounds_toArray, List.set_cons_zero, List.set_cons_succ]
  refine wpAnyH_take (i := 9) (oi := { dst := some 24, op := Op.load 125 (Operand.tmp 23), type := 125, pos := "groups.go:240", after := #[{ on := 8, ground := Ground.data }, { on := 12, ground := Ground.gcOnly Departure.lateStores }], guard := none }) (v := ?_) rfl (by kernel_rfl) (by kernel_rfl) (by kernel_rfl) (fun _ _ _ h => hP _ _ _ _ _ h) (Or.inl ⟨by rfl, ?_⟩) hS0 ?_
  rotate_left
  · intro V hV
    have c0 := (hV.cell (p := ⟨bt, 0, none⟩) hbtl).trans d0
    have c1 := (hV.cell (p := ⟨b, x * 6 + 2, none⟩) hbl).trans d1
    have c2 := (hV.cell (p := ⟨b, x * 6 + 2 + 1, none⟩) hbl).trans d2
    clear hV
    go_simp
    try with_reducible rfl
  simp only [Act.put, List.setIfInBounds_toArray, List.set_cons_zero, List.set_cons_succ]
  refine wpAnyH_ready (rs := [2, 10, 11]) (by kernel_rfl) (by simp) ?_
  refine AllReadyH.cons (o := { dst := some 17, op := Op.call { callee := Callee.value (Operand.func 112), args := #[Operand.tmp 15, Operand.tmp 16], argTypes := #[70, 3] }, type := 125, pos := "groups.go:240", after := #[{ on := 0, ground := Ground.data }, { on := 1, ground := Ground.data }], guard := none }) rfl (fun K hK => ?_) ?_
  · go_simp
    refine (total_any b x t Wy _ (hTW.below F0.bel hbl) hW hS).mono ?_
    rintro e V1 ⟨rfl, hb⟩
    have F1 := F0.call hb
    refine hK.out _ _ F1.bel (fun _ => ?_)
    clear hK K
    clear hb
    try simp only [Act.put, List.setIfInBounds_toArray, List.set_cons_zero, List.set_cons_succ]
    refine wpAnyH_ready (rs := [10, 11]) (by kernel_rfl) (by simp) ?_
    refine AllReadyH.cons (o := { dst := some 9, op := Op.alloc 125, type := 0, pos := "groups.go:240", after := #[], guard := none }) rfl (fun K hK => ?_) ?_
    · go_simp
      have F2 := F1.al9
      refine hK.out _ _ F2.bel (fun _ => ?_)
      clear hK K
      generalize World.alloc V1 _ = V2 at F2 ⊢
      generalize V1.heap.size = n9 at F2 ⊢
      try simp only [Act.put, List.setIfInBounds_toArray, List.set_cons_zero, List.set_cons_succ]
      refine wpAnyH_ready (rs := [11]) (by kernel_rfl) (by simp) ?_
      refine AllReadyH.cons (o := { dst := some 10, op := Op.alloc 125, type := 0, pos := "groups.go:240", after := #[], guard := none }) rfl (fun K hK => ?_) ?_
      · go_simp
        have F3 := F2.al10
        refine hK.out _ _ F3.bel (fun _ => ?_)
        clear hK K
        generalize World.alloc V2 _ = V3 at F3 ⊢
        generalize V2.heap.size = n10 at F3 ⊢
        try simp only [Act.put, List.setIfInBounds_toArray, List.set_cons_zero, List.set_cons_succ]
        exact lack_tail hQ F3
      exact AllReadyH.nil
    refine AllReadyH.cons (o := { dst := some 10, op := Op.alloc 125, type := 0, pos := "groups.go:240", after := #[], guard := none }) rfl (fun K hK => ?_) ?_
    · go_simp
      have F2 := F1.al10
      refine hK.out _ _ F2.bel (fun _ => ?_)
      clear hK K
      generalize World.alloc V1 _ = V2 at F2 ⊢
      generalize V1.heap.size = n10 at F2 ⊢
      try simp only [Act.put, List.setIfInBounds_toArray, List.set_cons_zero, List.set_cons_succ]
      refine wpAnyH_ready (rs := [10]) (by kernel_rfl) (by simp) ?_
      refine AllReadyH.cons (o := { dst := some 9, op := Op.alloc 125, type := 0, pos := "groups.go:240", after := #[], guard := none }) rfl (fun K hK => ?_) ?_
      · go_simp
        have F3 := F2.al9
        refine hK.out _ _ F3.bel (fun _ => ?_)
        clear hK K
        generalize World.alloc V2 _ = V3 at F3 ⊢
        generalize V2.heap.size = n9 at F3 ⊢
        try simp only [Act.put, List.setIfInBounds_toArray, List.set_cons_zero, List.set_cons_succ]
        exact lack_tail hQ F3
      exact AllReadyH.nil
    exact AllReadyH.nil
  refine AllReadyH.cons (o := { dst := some 9, op := Op.alloc 125, type := 0, pos := "groups.go:240", after := #[], guard := none }) rfl (fun K hK => ?_) ?_
  · go_simp
    have F1 := F0.al9
    refine hK.out _ _ F1.bel (fun _ => ?_)
    clear hK K
    generalize World.alloc V0 _ = V1 at F1 ⊢
    generalize V0.heap.size = n9 at F1 ⊢
    try simp only [Act.put, List.setIfInBounds_toArray, List.set_cons_zero, List.set_cons_succ]
    refine wpAnyH_ready (rs := [2, 11]) (by kernel_rfl) (by simp) ?_
    refine AllReadyH.cons (o := { dst := some 17, op := Op.call { callee := Callee.value (Operand.func 112), args := #[Operand.tmp 15, Operand.tmp 16], argTypes := #[70, 3] }, type := 125, pos := "groups.go:240", after := #[{ on := 0, ground := Ground.data }, { on := 1, ground := Ground.data }], guard := none }) rfl (fun K hK => ?_) ?_
    · go_simp
      refine (total_any b x t Wy _ (hTW.below F1.bel hbl) hW hS).mono ?_
      rintro e V2 ⟨rfl, hb⟩
      have F2 := F1.call hb
      refine hK.out _ _ F2.bel (fun _ => ?_)
      clear hK K
      clear hb
      try simp only [Act.put, List.setIfInBounds_toArray, List.set_cons_zero, List.set_cons_succ]
      refine wpAnyH_ready (rs := [11]) (by kernel_rfl) (by simp) ?_
      refine AllReadyH.cons (o := { dst := some 10, op := Op.alloc 125, type := 0, pos := "groups.go:240", after := #[], guard := none }) rfl (fun K hK => ?_) ?_
      · go_simp
        have F3 := F2.al10
        refine hK.out _ _ F3.bel (fun _ => ?_)
        clear hK K
        generalize World.alloc V2 _ = V3 at F3 ⊢
        generalize V2.heap.size = n10 at F3 ⊢
        try simp only [Act.put, List.setIfInBounds_toArray, List.set_cons_zero, List.set_cons_succ]
        exact lack_tail hQ F3
      exact AllReadyH.nil
    refine AllReadyH.cons (o := { dst := some 10, op := Op.alloc 125, type := 0, pos := "groups.go:240", after := #[], guard := none }) rfl (fun K hK => ?_) ?_
    · go_simp
      have F2 := F1.al10
      refine hK.out _ _ F2.bel (fun _ => ?_)
      clear hK K
      generalize World.alloc V1 _ = V2 at F2 ⊢
      generalize V1.heap.size = n10 at F2 ⊢
      try simp only [Act.put, List.setIfInBounds_toArray, List.set_cons_zero, List.set_cons_succ]
      refine wpAnyH_ready (rs := [2]) (by kernel_rfl) (by simp) ?_
      refine AllReadyH.cons (o := { dst := some 17, op := Op.call { callee := Callee.value (Operand.func 112), args := #[Operand.tmp 15, Operand.tmp 16], argTypes := #[70, 3] }, type := 125, pos := "groups.go:240", after := #[{ on := 0, ground := Ground.data }, { on := 1, ground := Ground.data }], guard := none }) rfl (fun K hK => ?_) ?_
      · go_simp
        refine (total_any b x t Wy _ (hTW.below F2.bel hbl) hW hS).mono ?_
        rintro e V3 ⟨rfl, hb⟩
        have F3 := F2.call hb
        refine hK.out _ _ F3.bel (fun _ => ?_)
        clear hK K
        clear hb
        try simp only [Act.put, List.setIfInBounds_toArray, List.set_cons_zero, List.set_cons_succ]
        exact lack_tail hQ F3
      exact AllReadyH.nil
    exact AllReadyH.nil
  refine AllReadyH.cons (o := { dst := some 10, op := Op.alloc 125, type := 0, pos := "groups.go:240", after := #[], guard := none }) rfl (fun K hK => ?_) ?_
  · go_simp
    have F1 := F0.al10
    refine hK.out _ _ F1.bel (fun _ => ?_)
    clear hK K
    generalize World.alloc V0 _ = V1 at F1 ⊢
    generalize V0.heap.size = n10 at F1 ⊢
    try simp only [Act.put, List.setIfInBounds_toArray, List.set_cons_zero, List.set_cons_succ]
    refine wpAnyH_ready (rs := [2, 10]) (by kernel_rfl) (by simp) ?_
    refine AllReadyH.cons (o := { dst := some 17, op := Op.call { callee := Callee.value (Operand.func 112), args := #[Operand.tmp 15, Operand.tmp 16], argTypes := #[70, 3] }, type := 125, pos := "groups.go:240", after := #[{ on := 0, ground := Ground.data }, { on := 1, ground := Ground.data }], guard := none }) rfl (fun K hK => ?_) ?_
    · go_simp
      refine (total_any b x t Wy _ (hTW.below F1.bel hbl) hW hS).mono ?_
      rintro e V2 ⟨rfl, hb⟩
      have F2 := F1.call hb
      refine hK.out _ _ F2.bel (fun _ => ?_)
      clear hK K
      clear hb
      try simp only [Act.put, List.setIfInBounds_toArray, List.set_cons_zero, List.set_cons_succ]
      refine wpAnyH_ready (rs := [10]) (by kernel_rfl) (by simp) ?_
      refine AllReadyH.cons (o := { dst := some 9, op := Op.alloc 125, type := 0, pos := "groups.go:240", after := #[], guard := none }) rfl (fun K hK => ?_) ?_
      · go_simp
        have F3 := F2.al9
        refine hK.out _ _ F3.bel (fun _ => ?_)
        clear hK K
        generalize World.alloc V2 _ = V3 at F3 ⊢
        generalize V2.heap.size = n9 at F3 ⊢
        try simp only [Act.put, List.setIfInBounds_toArray, List.set_cons_zero, List.set_cons_succ]
        exact lack_tail hQ F3
      exact AllReadyH.nil
    refine AllReadyH.cons (o := { dst := some 9, op := Op.alloc 125, type := 0, pos := "groups.go:240", after := #[], guard := none }) rfl (fun K hK => ?_) ?_
    · go_simp
      have F2 := F1.al9
      refine hK.out _ _ F2.bel (fun _ => ?_)
      clear hK K
      generalize World.alloc V1 _ = V2 at F2 ⊢
      generalize V1.heap.size = n9 at F2 ⊢
      try simp only [Act.put, List.setIfInBounds_toArray, List.set_cons_zero, List.set_cons_succ]
      refine wpAnyH_ready (rs := [2]) (by kernel_rfl) (by simp) ?_
      refine AllReadyH.cons (o := { dst := some 17, op := Op.call { callee := Callee.value (Operand.func 112), args := #[Operand.tmp 15, Operand.tmp 16], argTypes := #[70, 3] }, type := 125, pos := "groups.go:240", after := #[{ on := 0, ground := Ground.data }, { on := 1, ground := Ground.data }], guard := none }) rfl (fun K hK => ?_) ?_
      · go_simp
        refine (total_any b x t Wy _ (hTW.below F2.bel hbl) hW hS).mono ?_
        rintro e V3 ⟨rfl, hb⟩
        have F3 := F2.call hb
        refine hK.out _ _ F3.bel (fun _ => ?_)
        clear hK K
        clear hb
        try simp only [Act.put, List.setIfInBounds_toArray, List.set_cons_zero, List.set_cons_succ]
        exact lack_tail hQ F3
      exact AllReadyH.nil
    exact AllReadyH.nil
  exact AllReadyH.nil
end Go.Proofs.YtghogbngmcolmaaGreat.Gr

/- Lacks, of both trees; Add, of both; the law's start. -/
import Derived.Test.YtgabceeekkcekaaHs
import Derived.Test.YtgabceeekkcekaaAc
namespace Go.Proofs.Ytgabceeekkcekaa
open Go.RowKit Go.Shelf

theorem find_first {f : Fin 10 → Bool} : ∀ {pre : List (Fin 10)} {x : Fin 10} {rest : List (Fin 10)}, (∀ y ∈ pre, f y = false) → f x = true → (pre ++ x :: rest).find? f = some x
  | [], x, rest, _, h => by simp [h]
  | y :: pre, x, rest, h1, h2 => by
    rw [List.cons_append, List.find?_cons_of_neg (by rw [h1 y (by simp)]; simp)]
    exact find_first (fun z hz => h1 z (by simp [hz])) h2
theorem find_none {f : Fin 10 → Bool} {L : List (Fin 10)} (h : ∀ y ∈ L, f y = false) : L.find? f = none := by
  rw [List.find?_eq_none]
  intro x hx
  rw [h x hx]
  simp
/-- Who lacks room first. -/
def lkO (t : Nat → Gp) (Wy : Nat → List (Fin 10)) (g p q : Int) : Option (Fin 10) := if refE t g p q = 0 then (Wy g.toNat).find? (lackB t Wy p q) else none
section
variable {t : Nat → Gp} {Wy : Nat → List (Fin 10)} {c : Nat} {h : Nat → Bool} {G : Nat → Nat → Int}
theorem lacks_code (b : Nat) (g p q : Int) (w : World) (H : TAt w b t) (hT : Tree t Wy c) (hc : c ≤ 1000) :
    Calls Try.prog 33 #[.pointer (some ⟨b, 0, none⟩), .int .i64 g, .int .i64 p, .int .i64 q] w fun e w' => ((lkO t Wy g p q = none ∧ e = .returned (.tuple #[.int .i64 0, .bool false])) ∨ (∃ x : Fin 10, lkO t Wy g p q = some x ∧ e = .returned (.tuple #[.int .i64 (x.val : Int), .bool true]))) ∧ Below w.heap.size w w' := by
  unfold lkO
  by_cases hr : refE t g p q = 0
  · obtain ⟨n, rfl, hn, _⟩ := refE_zero hr
    rw [if_pos hr, Int.toNat_natCast]
    refine (lacks_ok b n p q t Wy w H hT.ways (hT.small hc) hn hr).mono ?_
    rintro e w' ⟨⟨hall, rfl⟩ | ⟨pre, x, rest, hW, hp, hx, rfl⟩, hb⟩
    · exact ⟨.inl ⟨find_none hall, rfl⟩, hb⟩
    · exact ⟨.inr ⟨x, by rw [hW]; exact find_first hp hx, rfl⟩, hb⟩
  · rw [if_neg hr]
    refine (lacks_ref b g p q t w H hr).mono ?_
    rintro e w' ⟨rfl, hb⟩
    exact ⟨.inl ⟨rfl, rfl⟩, hb⟩
theorem rlacks_code (m : Nat) (g p q : Int) (w : World) (H : UAt w m h G) (hT : Tree t Wy c) (hc : c ≤ 1000) (hR : Rel t Wy h G) (hl : Lims t) :
    Calls Try.prog 34 #[.pointer (some ⟨m, 0, none⟩), .int .i64 g, .int .i64 p, .int .i64 q] w fun e w' => ((lkO t Wy g p q = none ∧ e = .returned (.int .i64 (-1))) ∨ (∃ x : Fin 10, lkO t Wy g p q = some x ∧ e = .returned (.int .i64 (x.val : Int)))) ∧ Below w.heap.size w w' := by
  unfold lkO
  by_cases hr : refE t g p q = 0
  · obtain ⟨n, rfl, hn, _⟩ := refE_zero hr
    rw [if_pos hr, Int.toNat_natCast]
    refine (rlacks_any m n p q t Wy c h G w H hT hc hR hl hr).mono ?_
    rintro e w' ⟨⟨hall, rfl⟩ | ⟨pre, x, rest, hW, hp, hx, rfl⟩, hb⟩
    · exact ⟨.inl ⟨find_none hall, rfl⟩, hb⟩
    · exact ⟨.inr ⟨x, by rw [hW]; exact find_first hp hx, rfl⟩, hb⟩
  · rw [if_neg hr]
    refine (rlacks_ref m g p q t h G w H (fun k hk => (hR k hk).1) hr).mono ?_
    rintro e w' ⟨rfl, rfl⟩
    exact ⟨.inl ⟨rfl, rfl⟩, Below.refl _ _⟩

/-- What Add makes: a number and a code; the tree. -/
def addA (t : Nat → Gp) (Wy : Nat → List (Fin 10)) (g : Int) (n : Nat) (k : Int) (t' : Nat → Gp) : Prop :=
  (k = 0 ∧ wr t g = 0 ∧ (Wy g.toNat).length < 4 ∧ n < 10 ∧ (t n).there = false ∧ (∀ j, j < n → (t j).there = true) ∧ t' = updT t n (newGp g)) ∨
  (k = 4 ∧ n = 0 ∧ wr t g = 0 ∧ (Wy g.toNat).length < 4 ∧ (∀ j, j < 10 → (t j).there = true) ∧ t' = t) ∨
  (k = 7 ∧ n = 0 ∧ wr t g = 0 ∧ (Wy g.toNat).length = 4 ∧ t' = t) ∨
  (k = wr t g ∧ n = 0 ∧ wr t g ≠ 0 ∧ t' = t)
theorem addA_unique {g : Int} {n n' : Nat} {k k' : Int} {t1 t2 : Nat → Gp} (h1 : addA t Wy g n k t1) (h2 : addA t Wy g n' k' t2) : n = n' ∧ k = k' ∧ t1 = t2 := by
  rcases h1 with ⟨a0, a1, a2, a3, a4, a5, a6⟩ | ⟨a0, a1, a2, a3, a4, a5⟩ | ⟨a0, a1, a2, a3, a4⟩ | ⟨a0, a1, a2, a3⟩ <;>
  rcases h2 with ⟨b0, b1, b2, b3, b4, b5, b6⟩ | ⟨b0, b1, b2, b3, b4, b5⟩ | ⟨b0, b1, b2, b3, b4⟩ | ⟨b0, b1, b2, b3⟩
  case inl.inl =>
    have : n = n' := by
      rcases Nat.lt_trichotomy n n' with h | h | h
      · have := b5 n h; rw [a4] at this; cases this
      · exact h
      · have := a5 n' h; rw [b4] at this; cases this
    subst this
    exact ⟨rfl, by omega, by rw [a6, b6]⟩
  case inl.inr.inl => have := b4 n a3; rw [a4] at this; cases this
  case inr.inl.inl => have := a4 n' b3; rw [b4] at this; cases this
  all_goals (first | exact ⟨by omega, by omega, by simp_all⟩ | omega)
theorem add_code (b : Nat) (g : Int) (w : World) (H : TAt w b t) (hT : Tree t Wy c) :
    Calls Try.prog 23 #[.pointer (some ⟨b, 0, none⟩), .int .i64 g] w fun e w' => ∃ n k t', e = .returned (.tuple #[.int .i64 (n : Nat), errV k]) ∧ addA t Wy g n k t' ∧ TAt w' b t' ∧ Frm b w w' := by
  by_cases hw : wr t g = 0
  · obtain ⟨p, rfl, hp, hh⟩ := wr_zero hw
    by_cases hd : (Wy p).length < 4
    · refine (add_rest b p t (Wy p) w H (hT.ways p hp) hp hh hd).mono ?_
      rintro e w' (⟨n, hn, hf, hb, rfl, ht, hfr⟩ | ⟨ha, rfl, hb⟩)
      · exact ⟨n, 0, _, rfl, .inl ⟨rfl, hw, by rw [Int.toNat_natCast]; exact hd, hn, hf, hb, rfl⟩, ht, hfr⟩
      · exact ⟨0, 4, t, rfl, .inr (.inl ⟨rfl, rfl, hw, by rw [Int.toNat_natCast]; exact hd, ha, rfl⟩), H.below hb H.lt, Frm.of_below hb⟩
    · have h4 := hT.deep p hp
      refine (add_deep b p t (Wy p) w H (hT.ways p hp) hp hh (by omega) (by omega)).mono ?_
      rintro e w' ⟨rfl, hb⟩
      exact ⟨0, 7, t, rfl, .inr (.inr (.inl ⟨rfl, rfl, hw, by rw [Int.toNat_natCast]; omega, rfl⟩)), H.below hb H.lt, Frm.of_below hb⟩
  · refine (add_bad b g t w H hw).mono ?_
    rintro e w' ⟨rfl, rfl⟩
    exact ⟨0, wr t g, t, rfl, .inr (.inr (.inr ⟨rfl, rfl, hw, rfl⟩)), H, Frm.refl _ _⟩
theorem radd_code (m : Nat) (g : Int) (w : World) (H : UAt w m h G) (hT : Tree t Wy c) (hR : Rel t Wy h G) (hl : Lims t) :
    Calls Try.prog 24 #[.pointer (some ⟨m, 0, none⟩), .int .i64 g] w fun e w' => ∃ n k t', e = .returned (.tuple #[.int .i64 (n : Nat), .int .i64 k]) ∧ addA t Wy g n k t' ∧ 0 ≤ k ∧ Frm m w w' ∧ ∃ Wy' h' G', UAt w' m h' G' ∧ Tree t' Wy' c ∧ Rel t' Wy' h' G' ∧ Lims t' := by
  by_cases hw : wr t g = 0
  · obtain ⟨p, rfl, hp, hh⟩ := wr_zero hw
    by_cases hd : (Wy p).length < 4
    · refine (radd_rest m p t Wy c h G w H hT hR hp hh hd).mono ?_
      rintro e w' (⟨n, hn, hf, hb, rfl, ht, hfr⟩ | ⟨ha, rfl, hb⟩)
      · exact ⟨n, 0, _, rfl, .inl ⟨rfl, hw, by rw [Int.toNat_natCast]; exact hd, hn, hf, hb, rfl⟩, by omega, hfr, addW Wy n hn p, _, _, ht, hT.add hn hf hp hh hd, rel_add hT hR hn hf, hl.upd n _ (by simp [newGp])⟩
      · exact ⟨0, 4, t, rfl, .inr (.inl ⟨rfl, rfl, hw, by rw [Int.toNat_natCast]; exact hd, ha, rfl⟩), by omega, Frm.of_below hb, Wy, h, G, H.below hb H.lt, hT, hR, hl⟩
    · have h4 := hT.deep p hp
      refine (radd_deep m p t Wy c h G w H hT hR hp hh (by omega)).mono ?_
      rintro e w' ⟨rfl, hb⟩
      exact ⟨0, 7, t, rfl, .inr (.inr (.inl ⟨rfl, rfl, hw, by rw [Int.toNat_natCast]; omega, rfl⟩)), by omega, Frm.of_below hb, Wy, h, G, H.below hb H.lt, hT, hR, hl⟩
  · refine (radd_bad m g t h G w H (fun k hk => (hR k hk).1) hw).mono ?_
    rintro e w' ⟨rfl, rfl⟩
    exact ⟨0, wr t g, t, rfl, .inr (.inr (.inr ⟨rfl, rfl, hw, rfl⟩)), wr_nn _ _, Frm.refl _ _, Wy, h, G, H, hT, hR, hl⟩
end
theorem sx_start {w W W' : World} (hT : TAt W' W.heap.size t0) (hb : Below w.heap.size w W) (hb' : Below W.heap.size W W') {W'' : World} (hu : UAt W'' W'.heap.size h0 G0) (hb'' : Below W'.heap.size W' W'') : Sx w W'' W.heap.size W'.heap.size t0 W0 0 h0 G0 :=
  ⟨(hb.trans (hb'.mono hb.size)).trans (hb''.mono (Nat.le_trans hb.size hb'.size)), hb.size, hT.lt, hT.below hb'' hT.lt, hu, tree0, rel0, lims0⟩
end Go.Proofs.Ytgabceeekkcekaa

/- Paths: what Split answers; Split. -/
import Derived.Test.YtnbgkckogccciaaDoorMc
import Derived.Test.YtnbgkckogccciaaDoorShm
import Derived.Lib.SplitLaws
import Derived.Lib.IndexBytes
namespace Go.Proofs.YtnbgkckogccciaaDoor
open Go.RowKit
open Tr (Fo Nd)
open Mo (Wh Mt Tb)

namespace Mo
/-- Bytes, cut at each '/'. -/
def cutL : List UInt8 → List (List UInt8)
  | [] => [[]]
  | c :: r => if c = 47 then [] :: cutL r else (match cutL r with
    | [] => [[c]]
    | h :: t => (c :: h) :: t)
theorem cutL_ne : ∀ l : List UInt8, cutL l ≠ []
  | [] => by simp [cutL]
  | c :: r => by
    unfold cutL
    split
    · simp
    · split <;> simp
theorem cutL_len : ∀ l : List UInt8, (cutL l).length ≤ l.length + 1
  | [] => by simp [cutL]
  | c :: r => by
    have ih := cutL_len r
    unfold cutL
    split
    · simp; omega
    · cases h : cutL r with
      | nil => simp
      | cons a t => rw [h] at ih; simp at ih ⊢; omega
theorem cutL_sl (r : List UInt8) : cutL (47 :: r) = [] :: cutL r := by
  conv => lhs; unfold cutL
  rw [if_pos rfl]
theorem cutL_ot {c : UInt8} {r h : List UInt8} {t : List (List UInt8)} (hc : c ≠ 47) (e : cutL r = h :: t) : cutL (c :: r) = (c :: h) :: t := by
  conv => lhs; unfold cutL
  rw [if_neg hc, e]
theorem cutL_app (a b : List UInt8) : cutL (a ++ 47 :: b) = cutL a ++ cutL b := by
  induction a with
  | nil => exact cutL_sl b
  | cons c r ih =>
    show cutL (c :: (r ++ 47 :: b)) = _
    by_cases h : c = 47
    · subst h
      rw [cutL_sl, cutL_sl, ih]
      rfl
    · cases hc : cutL r with
      | nil => exact absurd hc (cutL_ne r)
      | cons x t =>
        rw [cutL_ot h hc, cutL_ot h (ih.trans (by rw [hc]; rfl))]
        rfl
theorem cutL_no : ∀ l : List UInt8, (∀ c ∈ l, c ≠ 47) → cutL l = [l]
  | [], _ => rfl
  | c :: r, h => by
    rw [cutL_ot (h c (by simp)) (cutL_no r (fun x hx => h x (by simp [hx])))]
theorem splitK_cut : ∀ s : List UInt8, Lib.splitK [47] 0 (Lib.count s [47]) s = cutL s
  | [] => rfl
  | c :: r => by
    have ih := splitK_cut r
    by_cases h : c = 47
    · subst h
      rw [Lib.count_cons_eq, Nat.add_comm]
      have hi : Lib.index (47 :: r) [47] = 0 := by rw [Lib.index_one]; rfl
      rw [cutL_sl, ← ih]
      conv => lhs; unfold Lib.splitK
      rw [if_neg (by rw [hi]; decide), hi]
      rfl
    · rw [Lib.count_cons_ne c 47 r h]
      have e1 : Lib.index (c :: r) [47] = if Lib.index r [47] = -1 then -1 else Lib.index r [47] + 1 := by
        rw [Lib.index_one, Lib.index_one]
        conv => lhs; unfold Lib.indexByte
        rw [if_neg (by simpa using h)]
        by_cases d : Lib.indexByte r 47 = -1
        · rw [if_pos d, if_pos (by simpa using d)]
        · rw [if_neg d, if_neg (by simpa using d)]
      cases hk : Lib.count r [47] with
      | zero =>
        rw [hk] at ih
        rw [cutL_ot h ih.symm]
        rfl
      | succ k =>
        rw [hk] at ih
        by_cases d : Lib.index r [47] = -1
        · have e2 : Lib.splitK [47] 0 (k + 1) r = [r] := by
            conv => lhs; unfold Lib.splitK
            rw [if_pos (by simpa using d)]
          rw [cutL_ot h (ih.symm.trans e2)]
          conv => lhs; unfold Lib.splitK
          rw [if_pos (by rw [e1, if_pos d]; decide)]
        · have ge : -1 ≤ Lib.index r [47] := by rw [Lib.index_one]; exact Lib.indexByte_ge r 47
          obtain ⟨i, hi⟩ : ∃ i : Nat, Lib.index r [47] = i := ⟨(Lib.index r [47]).toNat, by omega⟩
          have e2 : Lib.splitK [47] 0 (k + 1) r = r.take i :: Lib.splitK [47] 0 k (r.drop (i + 1)) := by
            conv => lhs; unfold Lib.splitK
            rw [if_neg (by rw [hi]; simp), hi]
            rfl
          rw [cutL_ot h (ih.symm.trans e2)]
          conv => lhs; unfold Lib.splitK
          rw [if_neg (by rw [e1, if_neg d, hi]; simp; omega), e1, if_neg d, hi]
          rfl
def sl : ByteArray := ⟨#[47]⟩
def ba (l : List UInt8) : ByteArray := ⟨l.toArray⟩
theorem ba_data (l : List UInt8) : (ba l).data.toList = l := rfl
theorem ba_of (s : ByteArray) : ba s.data.toList = s := rfl
theorem splitB_cut (s : ByteArray) : Lib.splitB sl 0 (Lib.countB s sl) s = (cutL s.data.toList).map ba := by
  have e := Lib.splitB_data sl 0 (Lib.countB s sl) s
  rw [show Lib.splitK sl.data.toList 0 (Lib.countB s sl) s.data.toList = cutL s.data.toList from splitK_cut _] at e
  rw [← e, List.map_map]
  conv => lhs; rw [← List.map_id (Lib.splitB sl 0 (Lib.countB s sl) s)]
  rfl
/-- The pieces of a path behind its first sign. -/
def pcs (p : ByteArray) : List ByteArray := (cutL (p.data.toList.drop 1)).map ba
def okN (s : ByteArray) : Bool := isBk s || Tr.nameB s
def splE (p : ByteArray) : Int := if 60 < p.size ∨ p.data.toList.head? ≠ some 47 then 9 else if p.size = 1 then 0 else if (pcs p).all okN = true then 0 else 9
def splN (p : ByteArray) : List ByteArray := if splE p = 0 ∧ p.size ≠ 1 then pcs p else []
theorem splE_nn (p : ByteArray) : 0 ≤ splE p := by
  unfold splE
  repeat' split
  all_goals omega
theorem pcs_len (p : ByteArray) : (pcs p).length ≤ p.size + 1 := by
  unfold pcs
  rw [List.length_map]
  have := cutL_len (p.data.toList.drop 1)
  rw [List.length_drop] at this
  have h : p.data.toList.length = p.size := Array.length_toList
  omega
end Mo
theorem lsplit_any (s : ByteArray) (w : World) (hs : s.size ≤ 1000) :
    Calls Tryd.prog 51 #[.string s, .string ⟨#[47]⟩] w fun e w' => e = .returned (.slice (some ⟨w.heap.size, 0, none⟩) ((Mo.cutL s.data.toList).map Mo.ba).length ((Mo.cutL s.data.toList).map Mo.ba).length) ∧ w' = w.alloc (.cells (((Mo.cutL s.data.toList).map Mo.ba).map Value.string).toArray 9) := by
  have L := Tryd.lays221
  have hle := Lib.countB_le Mo.sl (by decide) s.size s (Nat.le_refl _)
  have hlen := Lib.splitB_all Mo.sl (by decide) 0 _ s rfl
  have hC : Calls Tryd.prog 65 #[.string s, .string Mo.sl] w fun e w' => e = .returned (.int .i64 (Lib.countB s Mo.sl)) ∧ w' = w :=
    (Any.strings_Count_one (ρ := Tryd.lays221_ren) { L with } s 47 w).mono fun e w' ⟨he, hw⟩ => ⟨by
      rw [he]
      show _ = Ending.returned (Value.int .i64 ((Lib.count s.data.toList [47] : Nat) : Int))
      rw [Lib.count_one]
      rfl, hw⟩
  have hI : ∀ (x : ByteArray) (c : Array Value), x.size ≤ s.size → Calls Tryd.prog 66 #[.string x, .string Mo.sl] (w.alloc (.cells c 9)) fun e w' => e = .returned (.int .i64 (Lib.indexB x Mo.sl)) ∧ w' = w.alloc (.cells c 9) := fun x c _ =>
    (Any.strings_Index_one (ρ := Tryd.lays221_ren) { L with } x 47 _).mono fun e w' ⟨he, hw⟩ => ⟨by
      rw [he]
      show _ = Ending.returned (Value.int .i64 (Lib.index x.data.toList [47]))
      rw [Lib.index_one], hw⟩
  have c := Any.strings_genSplit_core (ρ := Tryd.lays221_ren) L (by kernel_rfl) s Mo.sl 0 (-1) (Lib.countB s Mo.sl + 1) w (by omega) (by decide) (Nat.zero_le _) hI hC (by decide) (by decide) (by rw [if_pos (by decide)]; omega)
  rw [Nat.add_sub_cancel, hlen] at c
  have e2 : Lib.cellsOf (Lib.splitB Mo.sl 0 (Lib.countB s Mo.sl) s) (Lib.countB s Mo.sl + 1) = ((Lib.splitB Mo.sl 0 (Lib.countB s Mo.sl) s).map Value.string).toArray := by rw [← hlen]; exact Lib.cellsOf_full _
  rw [e2] at c
  rw [← Mo.splitB_cut, hlen]
  have C : Hid (Calls Tryd.prog 63 #[.string s, .string ⟨#[47]⟩, .int .i64 0, .int .i64 (-1)] w fun e w' => e = .returned (.slice (some ⟨w.heap.size, 0, none⟩) (Lib.countB s Mo.sl + 1) (Lib.countB s Mo.sl + 1)) ∧ w' = w.alloc (.cells ((Lib.splitB Mo.sl 0 (Lib.countB s Mo.sl) s).map Value.string).toArray 9)) := Hid.intro c
  clear c hle hlen hC hI e2
  generalize Lib.countB s Mo.sl + 1 = N at *
  go_enter Tryd.func51, Tryd.ntmps51
  go_wp2_with (go_at_call 63; refine C.out.mono ?_; rintro e w' ⟨rfl, hw⟩; rw [hw])
  go_ret
  exact ⟨rfl, rfl⟩
end Go.Proofs.YtnbgkckogccciaaDoor

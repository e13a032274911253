/- The library's strings.HasPrefix and strings.genSplit, laid at this program (by the kit's own tool). -/
import Derived.Shelf.LaysM
import Derived.Shelf.Strings.Search3
import Derived.Shelf.Strings.Count
import Derived.Shelf.Strings.Prefix
import Derived.Shelf.Strings.Split
import Derived.Test.YthdadmbpnoofoaaGreatDoorProg
import Derived.Test.YthdadmbpnoofoaaGreatDoorMc
import Derived.Lib.SplitLaws
import Derived.Lib.IndexBytes
namespace Go.Proofs
open Go.Shelf
def Tryz.lays99_ren : Go.Shelf.Ren := ⟨fun | 99 => 97 | 206 => 112 | n => n, fun | 9 => 9 | 4 => 4 | 3 => 3 | n => n, fun | n => n⟩
theorem Tryz.lays99 : Go.Proofs.Lays.n99 Tryz.prog Tryz.lays99_ren := {
  mixed := by kernel_rfl
  f99 := Tryz.func97.trans (congrArg some (by kernel_rfl))
  f206 := Tryz.func112.trans (congrArg some (by kernel_rfl))
  t3 := Tryz.underlying3
  a3 := Tryz.isAgg3
  z3 := Tryz.sizeOf3
  v3 := Tryz.zeroValue3
  t4 := Tryz.underlying4
  a4 := Tryz.isAgg4
  z4 := Tryz.sizeOf4
  v4 := Tryz.zeroValue4
  t9 := Tryz.underlying9
  a9 := Tryz.isAgg9
  z9 := Tryz.sizeOf9
  v9 := Tryz.zeroValue9 }
open Go.RowKit Go.Lib in
theorem Tryz.strings_HasPrefix (s p : ByteArray) (w : World) :
    Calls Tryz.prog 97 #[.string s, .string p] w fun e w' => e = .returned (.bool (Lib.hasPrefix s.data.toList p.data.toList)) ∧ w' = w := Any.strings_HasPrefix Tryz.lays99 s p w
def Tryz.lays221_ren : Go.Shelf.Ren := ⟨fun | 221 => 113 | 268 => 118 | 138 => 119 | 143 => 120 | 195 => 132 | 197 => 133 | 218 => 134 | 219 => 135 | 260 => 142 | 217 => 143 | 225 => 144 | 224 => 145 | 267 => 146 | 266 => 148 | 314 => 149 | n => n, fun | 9 => 9 | 3 => 3 | 31 => 28 | 4 => 4 | 0 => 0 | 105 => 182 | 21 => 21 | 5 => 5 | 46 => 167 | 119 => 193 | 139 => 196 | 138 => 195 | 146 => 197 | 51 => 180 | n => n, fun | 1 => 0 | 3 => 1 | 4 => 2 | n => n⟩
theorem Tryz.lays221 : Go.Proofs.Lays.n221 Tryz.prog Tryz.lays221_ren := {
  mixed := by kernel_rfl
  f138 := Tryz.func119.trans (congrArg some (by kernel_rfl))
  f143 := Tryz.func120.trans (congrArg some (by kernel_rfl))
  f195 := Tryz.func132.trans (congrArg some (by kernel_rfl))
  f197 := Tryz.func133.trans (congrArg some (by kernel_rfl))
  f217 := Tryz.func143.trans (congrArg some (by kernel_rfl))
  f218 := Tryz.func134.trans (congrArg some (by kernel_rfl))
  f219 := Tryz.func135.trans (congrArg some (by kernel_rfl))
  f221 := Tryz.func113.trans (congrArg some (by kernel_rfl))
  f224 := Tryz.func145.trans (congrArg some (by kernel_rfl))
  f225 := Tryz.func144.trans (congrArg some (by kernel_rfl))
  f260 := Tryz.func142.trans (congrArg some (by kernel_rfl))
  f266 := Tryz.func148.trans (congrArg some (by kernel_rfl))
  f267 := Tryz.func146.trans (congrArg some (by kernel_rfl))
  f268 := Tryz.func118.trans (congrArg some (by kernel_rfl))
  f314 := Tryz.func149.trans (congrArg some (by kernel_rfl))
  t0 := Tryz.underlying0
  a0 := Tryz.isAgg0
  z0 := Tryz.sizeOf0
  v0 := Tryz.zeroValue0
  t3 := Tryz.underlying3
  a3 := Tryz.isAgg3
  z3 := Tryz.sizeOf3
  v3 := Tryz.zeroValue3
  t4 := Tryz.underlying4
  a4 := Tryz.isAgg4
  z4 := Tryz.sizeOf4
  v4 := Tryz.zeroValue4
  t5 := Tryz.underlying5
  a5 := Tryz.isAgg5
  z5 := Tryz.sizeOf5
  v5 := Tryz.zeroValue5
  t9 := Tryz.underlying9
  a9 := Tryz.isAgg9
  z9 := Tryz.sizeOf9
  v9 := Tryz.zeroValue9
  t21 := Tryz.underlying21
  a21 := Tryz.isAgg21
  z21 := Tryz.sizeOf21
  v21 := Tryz.zeroValue21
  t31 := Tryz.underlying28
  a31 := Tryz.isAgg28
  z31 := Tryz.sizeOf28
  v31 := Tryz.zeroValue28
  t46 := Tryz.underlying167
  a46 := Tryz.isAgg167
  z46 := Tryz.sizeOf167
  v46 := Tryz.zeroValue167
  t51 := Tryz.underlying180
  a51 := Tryz.isAgg180
  z51 := Tryz.sizeOf180
  v51 := Tryz.zeroValue180
  t105 := Tryz.underlying182
  a105 := Tryz.isAgg182
  z105 := Tryz.sizeOf182
  v105 := Tryz.zeroValue182
  t119 := Tryz.underlying193
  a119 := Tryz.isAgg193
  z119 := Tryz.sizeOf193
  t138 := Tryz.underlying195
  a138 := Tryz.isAgg195
  z138 := Tryz.sizeOf195
  v138 := Tryz.zeroValue195
  t139 := Tryz.underlying196
  a139 := Tryz.isAgg196
  z139 := Tryz.sizeOf196
  v139 := Tryz.zeroValue196
  t146 := Tryz.underlying197
  a146 := Tryz.isAgg197
  z146 := Tryz.sizeOf197
  v146 := Tryz.zeroValue197
  g1 := by kernel_rfl
  g3 := by kernel_rfl
  g4 := by kernel_rfl }
end Go.Proofs

/- Paths: what Split answers; Split. -/
namespace Go.Proofs.YthdadmbpnoofoaaGreatDoor
open Go.RowKit
open Tr (Fo Nd)
open Mo (Wh Mt Tb)

namespace Mo
/-- Bytes, cut at each '/'. -/
def cutL : List UInt8 → List (List UInt8)
  | [] => [[]]
  | c :: r => if c = 47 then [] :: cutL r else (match cutL r with
    | [] => [[c]]
    | h :: t => (c :: h) :: t)
theorem cutL_ne : ∀ l : List UInt8, cutL l ≠ []
  | [] => by simp [cutL]
  | c :: r => by
    unfold cutL
    split
    · simp
    · split <;> simp
theorem cutL_len : ∀ l : List UInt8, (cutL l).length ≤ l.length + 1
  | [] => by simp [cutL]
  | c :: r => by
    have ih := cutL_len r
    unfold cutL
    split
    · simp; omega
    · cases h : cutL r with
      | nil => simp
      | cons a t => rw [h] at ih; simp at ih ⊢; omega
theorem cutL_sl (r : List UInt8) : cutL (47 :: r) = [] :: cutL r := by
  conv => lhs; unfold cutL
  rw [if_pos rfl]
theorem cutL_ot {c : UInt8} {r h : List UInt8} {t : List (List UInt8)} (hc : c ≠ 47) (e : cutL r = h :: t) : cutL (c :: r) = (c :: h) :: t := by
  conv => lhs; unfold cutL
  rw [if_neg hc, e]
theorem cutL_app (a b : List UInt8) : cutL (a ++ 47 :: b) = cutL a ++ cutL b := by
  induction a with
  | nil => exact cutL_sl b
  | cons c r ih =>
    show cutL (c :: (r ++ 47 :: b)) = _
    by_cases h : c = 47
    · subst h
      rw [cutL_sl, cutL_sl, ih]
      rfl
    · cases hc : cutL r with
      | nil => exact absurd hc (cutL_ne r)
      | cons x t =>
        rw [cutL_ot h hc, cutL_ot h (ih.trans (by rw [hc]; rfl))]
        rfl
theorem cutL_no : ∀ l : List UInt8, (∀ c ∈ l, c ≠ 47) → cutL l = [l]
  | [], _ => rfl
  | c :: r, h => by
    rw [cutL_ot (h c (by simp)) (cutL_no r (fun x hx => h x (by simp [hx])))]
theorem splitK_cut : ∀ s : List UInt8, Lib.splitK [47] 0 (Lib.count s [47]) s = cutL s
  | [] => rfl
  | c :: r => by
    have ih := splitK_cut r
    by_cases h : c = 47
    · subst h
      rw [Lib.count_cons_eq, Nat.add_comm]
      have hi : Lib.index (47 :: r) [47] = 0 := by rw [Lib.index_one]; rfl
      rw [cutL_sl, ← ih]
      conv => lhs; unfold Lib.splitK
      rw [if_neg (by rw [hi]; decide), hi]
      rfl
    · rw [Lib.count_cons_ne c 47 r h]
      have e1 : Lib.index (c :: r) [47] = if Lib.index r [47] = -1 then -1 else Lib.index r [47] + 1 := by
        rw [Lib.index_one, Lib.index_one]
        conv => lhs; unfold Lib.indexByte
        rw [if_neg (by simpa using h)]
        by_cases d : Lib.indexByte r 47 = -1
        · rw [if_pos d, if_pos (by simpa using d)]
        · rw [if_neg d, if_neg (by simpa using d)]
      cases hk : Lib.count r [47] with
      | zero =>
        rw [hk] at ih
        rw [cutL_ot h ih.symm]
        rfl
      | succ k =>
        rw [hk] at ih
        by_cases d : Lib.index r [47] = -1
        · have e2 : Lib.splitK [47] 0 (k + 1) r = [r] := by
            conv => lhs; unfold Lib.splitK
            rw [if_pos (by simpa using d)]
          rw [cutL_ot h (ih.symm.trans e2)]
          conv => lhs; unfold Lib.splitK
          rw [if_pos (by rw [e1, if_pos d]; decide)]
        · have ge : -1 ≤ Lib.index r [47] := by rw [Lib.index_one]; exact Lib.indexByte_ge r 47
          obtain ⟨i, hi⟩ : ∃ i : Nat, Lib.index r [47] = i := ⟨(Lib.index r [47]).toNat, by omega⟩
          have e2 : Lib.splitK [47] 0 (k + 1) r = r.take i :: Lib.splitK [47] 0 k (r.drop (i + 1)) := by
            conv => lhs; unfold Lib.splitK
            rw [if_neg (by rw [hi]; simp), hi]
            rfl
          rw [cutL_ot h (ih.symm.trans e2)]
          conv => lhs; unfold Lib.splitK
          rw [if_neg (by rw [e1, if_neg d, hi]; simp; omega), e1, if_neg d, hi]
          rfl
def sl : ByteArray := ⟨#[47]⟩
def ba (l : List UInt8) : ByteArray := ⟨l.toArray⟩
theorem ba_data (l : List UInt8) : (ba l).data.toList = l := rfl
theorem ba_of (s : ByteArray) : ba s.data.toList = s := rfl
theorem splitB_cut (s : ByteArray) : Lib.splitB sl 0 (Lib.countB s sl) s = (cutL s.data.toList).map ba := by
  have e := Lib.splitB_data sl 0 (Lib.countB s sl) s
  rw [show Lib.splitK sl.data.toList 0 (Lib.countB s sl) s.data.toList = cutL s.data.toList from splitK_cut _] at e
  rw [← e, List.map_map]
  conv => lhs; rw [← List.map_id (Lib.splitB sl 0 (Lib.countB s sl) s)]
  rfl
/-- The pieces of a path behind its first sign. -/
def pcs (p : ByteArray) : List ByteArray := (cutL (p.data.toList.drop 1)).map ba
def okN (s : ByteArray) : Bool := isBk s || Tr.nameB s
def splE (p : ByteArray) : Int := if 60 < p.size ∨ p.data.toList.head? ≠ some 47 then 9 else if p.size = 1 then 0 else if (pcs p).all okN = true then 0 else 9
def splN (p : ByteArray) : List ByteArray := if splE p = 0 ∧ p.size ≠ 1 then pcs p else []
theorem splE_nn (p : ByteArray) : 0 ≤ splE p := by
  unfold splE
  repeat' split
  all_goals omega
theorem pcs_len (p : ByteArray) : (pcs p).length ≤ p.size + 1 := by
  unfold pcs
  rw [List.length_map]
  have := cutL_len (p.data.toList.drop 1)
  rw [List.length_drop] at this
  have h : p.data.toList.length = p.size := Array.length_toList
  omega
end Mo
theorem lsplit_any (s : ByteArray) (w : World) (hs : s.size ≤ 1000) :
    Calls Tryz.prog 98 #[.string s, .string ⟨#[47]⟩] w fun e w' => e = .returned (.slice (some ⟨w.heap.size, 0, none⟩) ((Mo.cutL s.data.toList).map Mo.ba).length ((Mo.cutL s.data.toList).map Mo.ba).length) ∧ w' = w.alloc (.cells (((Mo.cutL s.data.toList).map Mo.ba).map Value.string).toArray 9) := by
  have L := Tryz.lays221
  have hle := Lib.countB_le Mo.sl (by decide) s.size s (Nat.le_refl _)
  have hlen := Lib.splitB_all Mo.sl (by decide) 0 _ s rfl
  have hC : Calls Tryz.prog 119 #[.string s, .string Mo.sl] w fun e w' => e = .returned (.int .i64 (Lib.countB s Mo.sl)) ∧ w' = w :=
    (Any.strings_Count_one (ρ := Tryz.lays221_ren) { L with } s 47 w).mono fun e w' ⟨he, hw⟩ => ⟨by
      rw [he]
      show _ = Ending.returned (Value.int .i64 ((Lib.count s.data.toList [47] : Nat) : Int))
      rw [Lib.count_one]
      rfl, hw⟩
  have hI : ∀ (x : ByteArray) (c : Array Value), x.size ≤ s.size → Calls Tryz.prog 120 #[.string x, .string Mo.sl] (w.alloc (.cells c 9)) fun e w' => e = .returned (.int .i64 (Lib.indexB x Mo.sl)) ∧ w' = w.alloc (.cells c 9) := fun x c _ =>
    (Any.strings_Index_one (ρ := Tryz.lays221_ren) { L with } x 47 _).mono fun e w' ⟨he, hw⟩ => ⟨by
      rw [he]
      show _ = Ending.returned (Value.int .i64 (Lib.index x.data.toList [47]))
      rw [Lib.index_one], hw⟩
  have c := Any.strings_genSplit_core (ρ := Tryz.lays221_ren) L (by kernel_rfl) s Mo.sl 0 (-1) (Lib.countB s Mo.sl + 1) w (by omega) (by decide) (Nat.zero_le _) hI hC (by decide) (by decide) (by rw [if_pos (by decide)]; omega)
  rw [Nat.add_sub_cancel, hlen] at c
  have e2 : Lib.cellsOf (Lib.splitB Mo.sl 0 (Lib.countB s Mo.sl) s) (Lib.countB s Mo.sl + 1) = ((Lib.splitB Mo.sl 0 (Lib.countB s Mo.sl) s).map Value.string).toArray := by rw [← hlen]; exact Lib.cellsOf_full _
  rw [e2] at c
  rw [← Mo.splitB_cut, hlen]
  have C : Hid (Calls Tryz.prog 113 #[.string s, .string ⟨#[47]⟩, .int .i64 0, .int .i64 (-1)] w fun e w' => e = .returned (.slice (some ⟨w.heap.size, 0, none⟩) (Lib.countB s Mo.sl + 1) (Lib.countB s Mo.sl + 1)) ∧ w' = w.alloc (.cells ((Lib.splitB Mo.sl 0 (Lib.countB s Mo.sl) s).map Value.string).toArray 9)) := Hid.intro c
  clear c hle hlen hC hI e2
  generalize Lib.countB s Mo.sl + 1 = N at *
  go_enter Tryz.func98, Tryz.ntmps98
  go_wp2_with (go_at_call 113; refine C.out.mono ?_; rintro e w' ⟨rfl, hw⟩; rw [hw])
  go_ret
  exact ⟨rfl, rfl⟩
end Go.Proofs.YthdadmbpnoofoaaGreatDoor

import Derived.WalkKit
namespace Go.RowKit
theorem Hid.v{p:Prop}(h:Hid p):p:=h
end Go.RowKit
namespace Go.Proofs.YtpmmdkcfenjiaaaGreatDoor
theorem bB{p:Prop}(h:p:=by omega):p:=h
theorem bC{p:Prop}(h:p:=by kernel_rfl):p:=h
theorem bE{p:Prop}(h:p:=by decide):p:=h
open Go.RowKit
theorem hJ{p:Prop}(h:p):Hid p:=h
theorem hZ(n:Nat):(n:Int).toNat=n:=Int.toNat_natCast n
theorem hU{a:Type}(x:a):∃y,x=y:=⟨x,rfl⟩
theorem nJ.{u}{c:Prop}{d:Decidable c}{a:Sort u}{t e:a}(h:¬c:=by omega):ite c t e=e:=if_neg h
theorem nK.{u}{c:Prop}{d:Decidable c}{a:Sort u}{t e:a}(h:c:=by omega):ite c t e=t:=if_pos h
theorem sC{p n a w v}{P:_->Prop}{Q:_->_->Prop}(h:Calls p n a w fun e w'=>e=v/\P w')(k:∀w',P w'->Q v w'):Calls p n a w Q:=h.mono (by rintro e w' ⟨rfl,x⟩;exact k _ x)
abbrev aI:=@if_neg
abbrev aJ:=@if_pos
abbrev aK:=@And.intro
abbrev aL:=@Nat.le_refl
abbrev aQ:=@Below.refl
abbrev aZ:=@absurd
abbrev aX:=@Array.getElem?_eq_some_iff
abbrev aV:=@World.cell?_of_block
abbrev aW:=@List.getElem?_eq_getElem
abbrev aY:=@List.getElem?_eq_some_iff
abbrev aD:=@Nat.lt_of_lt_of_le
abbrev aU:=@Array.getElem?_setIfInBounds_ne
abbrev aG:=@Int.eq_ofNat_of_zero_le
abbrev aH:=@Nat.le_trans
abbrev aM:=@Array.getElem?_toList
abbrev aN:=@IntWalk.i64_in
abbrev aP:=@Nat.add_sub_cancel
abbrev aR:=@Array.getElem?_eq_none
abbrev aS:=@World.cell?_setCells_in
abbrev aT:=@decide_eq_false
abbrev aA:=@World.cell?_setCells_out
abbrev aB:=@Array.length_toList
abbrev aC:=@Nat.zero_le
abbrev aE:=@Array.getElem?_setIfInBounds_self_of_lt
abbrev aF:=@List.getD_eq_getElem?_getD
abbrev aO:=@decide_eq_true
abbrev bI:=@Nat.le_of_lt
abbrev bJ:=@Array.getElem?_push
abbrev bK:=@List.mem_of_getElem?
abbrev bL:=@Array.ext_getElem?
abbrev bQ:=@Ne.symm
abbrev bZ:=@World.block_lt_of_cell?
abbrev bX:=@List.mem_filter
abbrev bV:=@Nat.lt_irrefl
abbrev bW:=@List.length_filter_le
abbrev bY:=@Array.getElem?_setIfInBounds
abbrev bD:=@World
abbrev bU:=@ByteArray

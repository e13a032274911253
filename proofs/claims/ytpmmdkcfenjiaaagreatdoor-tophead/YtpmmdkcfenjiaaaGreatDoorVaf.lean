import Derived.RangeFuncNested
import Derived.RangeFuncBound
import Derived.Shelf.RegionOpen
import Derived.OwnWalkIn
import Derived.LoopNIn
import Derived.LoopIn
import Derived.Test.YtpmmdkcfenjiaaaGreatDoorVad
set_option maxRecDepth 100000
set_option maxHeartbeats 4000000
namespace Go.Proofs.YtpmmdkcfenjiaaaGreatDoor
open Go.RowKit
structure LO (w:bD)(L:List Nat)(v:Value)(wr:bD):Prop where
 bF:Below w.heap.size w wr
 own:wr.ownsRow w.heap.size 3 1 v L.length (rowOf L)
theorem LO.nil (w:bD):LO w [] (.slice none 0 0) w:=⟨aQ _ _,World.ownsRow_nil _ _ _ _⟩
theorem LO.more {w w1 wr:bD}{L:List Nat}{gg cap N x:Nat}{l:Value}(h:LO w L l wr)(hN:L.length=N)(hl:w1.ownsRow w.heap.size 3 1 (.slice (some ⟨gg,0,none⟩) (N+1) cap) (N+1) (rowOf L++[.int .i64 x]))(o:Obj)(hg:(wr.alloc o).grownBy w1 l.ownBlock):
  LO w (L++[x]) (.slice (some ⟨gg,0,none⟩) (N+1) cap) w1:=by
 have hs:=h.bF.size;refine⟨(h.bF.alloc hs o).grown hg (by simp;omega) (fun k e=>(h.own.lt k e).1),?_⟩;have e2:rowOf (L++[x])=rowOf L++[.int .i64 x]:=by simp[rowOf]
 rw[e2,show(L++[x]).length=N+1 by simp[hN]];exact hl
theorem LO.cells {u w:bD}{L:List Nat}{v:Value}(h:LO u L v w)(hl:0<L.length): ∃gg cap,v= .slice (some ⟨gg,0,none⟩) L.length cap/\gg<w.heap.size/\ ∀i,i<L.length->w.cell? ⟨gg,0+i,none⟩=some (.int .i64 ((L.getD i 0:Nat):Int)):=by
 have ho:=h.own;obtain⟨gg,cap,hv,_,hg⟩:=ho.form hl;refine⟨gg,cap,hv,hg,fun i hi=>?_⟩;rw[hv]at ho;rw[Nat.zero_add,ho.cellAt i (by omega)];exact JY _ _ _ (by rw[aF,aW hi];rfl)
end Go.Proofs.YtpmmdkcfenjiaaaGreatDoor
namespace Go.Proofs.YtpmmdkcfenjiaaaGreatDoor.Gr
open Go.RowKit
theorem cM {W:World}{b:Nat}{c:Array Value}{t:TypeId}(h:W.heap[b]? =some (.cells c t (0,0)))(o:Nat):W.cell? ⟨b,o,none⟩=c[o]? :=by simp[World.cell?,h]
theorem kQ {W:World}{b:Nat}{c:Array Value}{t:TypeId}(h:W.heap[b]? =some (.cells c t (0,0)))(o:Nat):W.frozen? ⟨b,o,none⟩=false:=by simp[World.frozen?,h]
theorem heap_set {W:World}{b:Nat}{c:Array Value}{t:TypeId}(h:W.heap[b]? =some (.cells c t (0,0)))(o:Nat)(v:Value):(W.setCell ⟨b,o,none⟩ v).heap[b]? =some (.cells (c.setIfInBounds o v) t (0,0)):=by
 simp[World.setCell,Array.getElem?_modify,h]
open Go.RowKit Go.Shelf
structure Gp where
 there:Bool
 par:Int
 lp:Int
 lq:Int
 op:Int
 oq:Int
def Gp.cell (g:Gp):Nat->Value
 |0=> .bool g.there
 |1=> .int .i64 g.par
 |2=> .int .i64 g.lp
 |3=> .int .i64 g.lq
 |4=> .int .i64 g.op
 |_=> .int .i64 g.oq
def sX (t:Nat->Gp):Array Value:=((List.range 60).map fun i=>(t (i/6)).cell (i%6)).toArray
theorem mX (t:Nat->Gp):(sX t).size=60:=by simp[sX]
theorem qo (t:Nat->Gp)(n j:Nat)(hn:n<10)(hj:j<6):(sX t)[n*6+j]? =some ((t n).cell j):=by
 have e1:(n*6+j)/6=n:=by omega
 have e2:(n*6+j)%6=j:=by omega
 have e3:n*6+j<60:=by omega
 simp[sX,e3,e1,e2]
theorem zU (t:Nat->Gp)(c:Array Value)(hs:c.size=60)(h: ∀n j,n<10->j<6->c[n*6+j]? =some ((t n).cell j)):c=sX t:=by
 apply Array.ext_getElem?;intro i;rcases Nat.lt_or_ge i 60 with hi|hi
 ·have e:i=i/6*6+i%6:=by omega
  rw[e,h (i/6) (i%6) (by omega) (by omega),qo t (i/6) (i%6) (by omega) (by omega)]
 ·rw[Array.getElem?_eq_none (by omega),Array.getElem?_eq_none (by rw[mX];omega)]
def bd (w:World)(b:Nat)(t:Nat->Gp):Prop:=w.heap[b]? =some (.cells (sX t) 135 (0,0))
def fX (t:Nat->Gp)(n:Nat)(g:Gp):Nat->Gp:=fun k=>if k=n then g else t k
theorem iJ (t:Nat->Gp)(n:Nat)(g:Gp):fX t n g n=g:=by simp[fX]
theorem mF (t:Nat->Gp)(n k:Nat)(g:Gp)(h:k≠n):fX t n g k=t k:=by simp[fX,h]
section
variable {w : World} {b : Nat} {t : Nat -> Gp}
theorem bd.cell (h:bd w b t)(n j:Nat)(hn:n<10)(hj:j<6):w.cell? ⟨b,n*6+j,none⟩=some ((t n).cell j):=by rw[cM h,qo t n j hn hj]
theorem bd.frozen (h:bd w b t)(o:Nat):w.frozen? ⟨b,o,none⟩=false:=kQ h o
theorem bd.drew (h:bd w b t):bd w.drew b t:=h
theorem bd.below {w':World}(h:bd w b t){B:Nat}(hB:Below B w w')(hb:b<B):bd w' b t:=(hB.block b hb).trans h
theorem bd.lt (h:bd w b t):b<w.heap.size:=(Array.getElem?_eq_some_iff.1 h).1
theorem bd.set (h:bd w b t)(n j:Nat)(hn:n<10)(hj:j<6)(v:Value)(g:Gp)(hg: ∀i,i<6->g.cell i=if i=j then v else(t n).cell i):bd (w.setCell ⟨b,n*6+j,none⟩ v) b (fX t n g):=by
 unfold bd;rw[heap_set h];refine congrArg (fun c=>some (Obj.cells c 135 (0,0))) ?_;refine zU _ _ (by simp[mX]) fun m i hm hi=>?_;by_cases e:m=n
 ·subst e;rw[iJ,hg i hi];by_cases e2:i=j
  ·subst e2;rw[Array.getElem?_setIfInBounds_self_of_lt (by rw[mX];omega),if_pos rfl]
  ·rw[Array.getElem?_setIfInBounds_ne (by omega),qo t m i hm hi,if_neg e2]
 ·rw[mF _ _ _ _ e,Array.getElem?_setIfInBounds_ne (by omega),qo t m i hm hi]
end
def valid (t:Nat->Gp)(g:Int):Prop:=0<=g/\g<10/\(t g.toNat).there=true
def Way (t:Nat->Gp):Int->List Nat->Prop
 |g,[]=> ¬valid t g
 |g,x::L=>g=x/\x<10/\(t x).there=true/\Way t (t x).par L
theorem Way.unique {t:Nat->Gp}: ∀{g:Int} {L M:List Nat},Way t g L->Way t g M->L=M
 |_,[],[],_,_=>rfl
 |g,[],x::M,h,⟨e,h1,h2,_⟩=>absurd ⟨by omega,by omega,by rw[e];exact h2⟩ h
 |g,x::L,[],⟨e,h1,h2,_⟩,h=>absurd ⟨by omega,by omega,by rw[e];exact h2⟩ h
 |g,x::L,y::M,⟨e,_,_,h⟩,⟨e',_,_,h'⟩=>by
  obtain rfl:x=y:=by omega
  rw[Way.unique h h']
theorem yJ (b:Nat)(g:Int)(w:World)(hg:g<0\/10<=g):Calls Tryz.prog 96 #[.pointer (some ⟨b,0,none⟩), .int .i64 g] w fun e w'=>e= .returned (.iface 100 (.int .i64 1))/\w'=w:=by
 by_cases h:g<0
 ·go_in
  go_wp2
  go_ret
  exact⟨rfl,rfl⟩
 ·have h1:decide (g<0)=false:=by simp;omega
  have h2:10<=g:=by omega
  clear h hg;go_in
  go_wp2
  go_ret
  exact⟨rfl,rfl⟩
theorem wS (b g:Nat)(t:Nat->Gp)(w:World)(h:bd w b t)(hg:g<10)(hh:(t g).there=false):Calls Tryz.prog 96 #[.pointer (some ⟨b,0,none⟩), .int .i64 g] w fun e w'=>e= .returned (.iface 100 (.int .i64 2))/\w'=w:=by
 have c:w.cell? ⟨b,g*6,none⟩=some (.bool false):=by have:=h.cell g 0 hg (by omega);rw[show(t g).cell 0= .bool (t g).there from rfl,hh]at this;exact this
 have h1:(g:Int)<10:=by omega
 have h2: ¬(10:Int)<=(g:Int):=by omega
 clear h hh;go_in
 go_wp2
 go_ret
 exact⟨rfl,rfl⟩
theorem vb (b g:Nat)(t:Nat->Gp)(w:World)(h:bd w b t)(hg:g<10)(hh:(t g).there=true):Calls Tryz.prog 96 #[.pointer (some ⟨b,0,none⟩), .int .i64 g] w fun e w'=>e= .returned .nilIface/\w'=w:=by
 have c:w.cell? ⟨b,g*6,none⟩=some (.bool true):=by have:=h.cell g 0 hg (by omega);rw[show(t g).cell 0= .bool (t g).there from rfl,hh]at this;exact this
 have h1:(g:Int)<10:=by omega
 have h2: ¬(10:Int)<=(g:Int):=by omega
 clear h hh;go_in
 go_wp2
 go_ret
 exact⟨rfl,rfl⟩
def wr (t:Nat->Gp)(g:Int):Int:=if g<0\/10<=g then 1 else if(t g.toNat).there=true then 0 else 2
theorem Hm (b:Nat)(g:Int)(t:Nat->Gp)(w:World)(h:bd w b t)(hg: ¬valid t g):Calls Tryz.prog 96 #[.pointer (some ⟨b,0,none⟩), .int .i64 g] w fun e w'=>(∃n,e= .returned (.iface 100 (.int .i64 n)))/\w'=w:=by
 by_cases hb:g<0\/10<=g
 ·exact(yJ b g w hb).mono fun e w' ⟨h1,h2⟩=>⟨⟨1,h1⟩,h2⟩
 ·obtain⟨n,rfl⟩:=Int.eq_ofNat_of_zero_le (show 0<=g by omega);have hf:(t n).there=false:=by
   cases hh:(t n).there
   ·rfl
   ·exact absurd ⟨by omega,by omega,hh⟩ hg
  exact(wS b n t w h (by omega) hf).mono fun e w' ⟨h1,h2⟩=>⟨⟨2,h1⟩,h2⟩
theorem CQ (b:Nat)(n:Int)(w:World):Calls Tryz.prog 216 #[.pointer (some ⟨b,0,none⟩), .int .i64 n] w fun e w'=>
  e= .returned (.func (.func 267) #[] #[.pointer (some ⟨w.heap.size+1,0,none⟩), .pointer (some ⟨w.heap.size,0,none⟩)])/\w'=(w.alloc (.cells #[.pointer (some ⟨b,0,none⟩)] 79)).alloc (.cells #[.int .i64 n] 3):=by
 go_in
 go_wp2
 go_ret
 exact⟨rfl,rfl⟩
attribute [local go_sem] Oper.semAt_some
def K2 (b bt:Nat)(W W':World):Prop:=W'.heap[b]? =W.heap[b]? /\W'.heap[bt]? =W.heap[bt]?
theorem K2.t {b bt:Nat}{A B C:World}(h:K2 b bt A B)(k:K2 b bt B C):K2 b bt A C:=⟨k.1.trans h.1,k.2.trans h.2⟩
theorem K2.b {b bt:Nat}{w:World}(h1:b<w.heap.size)(h2:bt<w.heap.size)(W:World)(l:Nat)(o o':Obj)(hl:w.heap.size<=l)(_:W.heap[l]? =some o)(_:o.isCells=false)(_:o.isWalk=false):K2 b bt W (W.putObj l o'):=
 ⟨World.putObj_heap_other (by omega),World.putObj_heap_other (by omega)⟩
def mD (xs:List (Fin 10)):List Nat:=xs.map Fin.val
def tG (t:Nat->Gp)(v:Value):Nat->Nat
 |0=>0
 |f+1=>match v with
  | .int _ g=>if 0<=g/\g<10/\(t g.toNat).there=true then 1+tG t (.int .i64 (t g.toNat).par) f else 0
  |_=>0
theorem vd {t:Nat->Gp}: ∀{g:Int} {L:List Nat} (f:Nat),Way t g L->L.length<=f->tG t (.int .i64 g) f=L.length
 |_,[],0,_,_=>rfl
 |g,[],f+1,h,_=>by
  unfold tG;exact if_neg h
 |g,x::L,0,_,hl=>by simp at hl
 |g,x::L,f+1,⟨e,hx,hh,h⟩,hl=>by
  have ih:=vd f h (by simpa using hl);subst e;unfold tG;have hv:(0:Int)<=(x:Int)/\(x:Int)<10/\(t (x:Int).toNat).there=true:=⟨by omega,by omega,by rw[hU];exact hh⟩;show(if(0:Int)<=(x:Int)/\(x:Int)<10/\(t (x:Int).toNat).there=true then 1+tG t (.int .i64 (t (x:Int).toNat).par) f else 0)=_;rw[if_pos hv,hU,ih,List.length_cons];omega
theorem MX (n:Nat)(hn:1<=n)(l bn bt b:Nat)(g0:Int)(t:Nat->Gp)(xs:List (Fin 10))(J Jx:List (Fin 10)->World->Prop)
  (hY: ∀pre x W,J pre W->pre.length<xs.length->YieldAt Fence.wide (n-1) Tryz.prog l #[.int .i64 (x.val:Int)] W fun e W'=>
   (e= .returned (.bool true)/\J (pre++[x]) W'/\K2 b bt W W')\/(e= .returned (.bool false)/\Jx (pre++[x]) W'))
  (W:World) (hbn:W.cell? ⟨bn,0,none⟩=some (.int .i64 g0)) (hbt:W.heap[bt]? =some (.cells #[.pointer (some ⟨b,0,none⟩)] 79 (0,0))) (hT:bd W b t) (hL:Way t g0 (mD xs)) (h0:J [] W):
  CallsIn Fence.wide n Tryz.prog 267 #[.func (.yield l) #[] #[], .pointer (some ⟨bn,0,none⟩), .pointer (some ⟨bt,0,none⟩)] W fun e W'=>(∃v,e= .returned v)/\
   ((∃ys,ys=xs/\J ys W')\/(∃pre,pre<+:xs/\Jx pre W')):=by
 refine callsIn_of_wp Tryz.func267 rfl trivial ?_ rfl;simp only[Tryz.ntmps267,List.size_toArray,List.length_cons,List.length_nil,Nat.reduceAdd,Nat.reduceSub,Array.replicate_succ,Array.replicate_zero,List.push_toArray,List.append_toArray,List.nil_append,List.cons_append]
 gi_wp2
 gi_loopw [4] (fun p wr=> ∃(pre rest:List (Fin 10)) (g:Int),p= .int .i64 g/\xs=pre++rest/\Hid (Way t g (mD rest)/\bd wr b t/\wr.heap[bt]? =some (.cells #[.pointer (some ⟨b,0,none⟩)] 79 (0,0))/\J pre wr))
  (fun p _=>tG t p xs.length)
 case atStart=>
  exact⟨[],xs,g0,rfl,rfl,hL,hT,hbt,h0⟩
 case round=>
  obtain⟨pre,rest,g,rfl,hx,H⟩:=hrel;have cb:wr.cell? ⟨bt,0,none⟩=some (.pointer (some ⟨b,0,none⟩)):=by rw[cM H.out.2.2.1];rfl
  cases rest with
  |nil=>
   gi_wp2_with (refine⟨trivial,?_⟩;gi_at_call 96;refine(callsIn_wide.2 (Hm b g t _ H.out.2.1 H.out.1)).mono ?_;rintro e w' ⟨⟨m,rfl⟩,rfl⟩)
   go_end0
   exact⟨⟨_,rfl⟩, .inl ⟨pre,by simp[hx],H.out.2.2.2⟩⟩
  |cons x rest=>
   obtain⟨e,hx10,hth,hrest⟩:=H.out.1;subst e;have hlen:(x::rest).length<=xs.length:=by rw[hx];simp
   obtain⟨fn,tmps,assign,body,hy,hR⟩:=hY pre x wr H.out.2.2.2 (by rw[hx];simp);have HT:Hid (bd wr b t):=H.out.2.1;have HB:Hid (wr.heap[bt]? =some (.cells #[.pointer (some ⟨b,0,none⟩)] 79 (0,0))):=H.out.2.2.1;have HR:Hid (Way t (t x.val).par (mD rest)):=hrest;have HTH:Hid ((t x.val).there=true):=hth;have HX:Hid (xs=pre++x::rest):=hx;clear hrest hth hx
   gi_wp2_with (refine⟨trivial,?_⟩;gi_at_call 96;refine(callsIn_wide.2 (vb b x.val t _ HT.out hx10 HTH.out)).mono ?_;rintro e w' ⟨rfl,rfl⟩)
   refine hR.mono ?_;rintro e W3 (⟨rfl,hJ3,hk3⟩|⟨rfl,hJx3⟩)
   ·have T3:Hid (bd W3 b t):=hk3.1.trans HT.out;have B3:Hid (W3.heap[bt]? =some (.cells #[.pointer (some ⟨b,0,none⟩)] 79 (0,0))):=hk3.2.trans HB.out;have c3:W3.cell? ⟨bt,0,none⟩=some (.pointer (some ⟨b,0,none⟩)):=by rw[cM B3.out];rfl
    have p3:W3.cell? ⟨b,x.val*6+1,none⟩=some (.int .i64 (t x.val).par):=T3.out.cell x.val 1 hx10 (by omega);have hxI:(x.val:Int)<10:=by omega
    have J3:Hid (J (pre++[x]) W3):=hJ3;clear hk3 hJ3
    gi_wp2
    go_roundw
    case rel=>exact⟨pre++[x],rest,_,rfl,by rw[HX.out];simp,HR.out,T3.out,B3.out,J3.out⟩
    case measure=>
     rw[vd xs.length HR.out (by simp[mD]at hlen|-;omega),vd xs.length (L:=mD (x::rest)) ⟨rfl,hx10,HTH.out,HR.out⟩ (by simpa[mD]using hlen)];simp[mD]
   ·gi_wp2
    refine bodyPost_ret (results_none rfl _ _ _) rfl ?_;exact⟨⟨_,rfl⟩, .inr ⟨pre++[x],⟨rest,by rw[HX.out];simp⟩,hJx3⟩⟩
theorem yW (n:Nat)(hn:1<=n)(bn bt b:Nat)(g0:Int)(t:Nat->Gp)(xs:List (Fin 10))(w:World)(hbnl:bn<w.heap.size)(hbn:w.cell? ⟨bn,0,none⟩=some (.int .i64 g0))(hbt:w.heap[bt]? =some (.cells #[.pointer (some ⟨b,0,none⟩)] 79 (0,0)))(hT:bd w b t)(hL:Way t g0 (mD xs)):
  SeqStopsK Fence.wide n Tryz.prog 267 #[.pointer (some ⟨bn,0,none⟩), .pointer (some ⟨bt,0,none⟩)] (fun x:Fin 10=>#[Value.int .i64 (x.val:Int)]) (K2 b bt) (fun ys=>ys=xs) (fun pre=>pre<+:xs) xs.length w:=fun l J Jx W hW _ _ hY h0=>
 MX n hn l bn bt b g0 t xs J Jx hY W ((hW.cell (p:=⟨bn,0,none⟩) hbnl).trans hbn) ((hW.block bt (Array.getElem?_eq_some_iff.1 hbt).1).trans hbt) ((hW.block b hT.lt).trans hT) hL h0
attribute [local go_sem] Oper.semAt_some
theorem gR {W:World}{B:Nat}{v:Value}{t:TypeId}(h:W.heap[B]? =some (.cells #[v] t (0,0))):W.cell? ⟨B,0,none⟩=some v/\W.frozen? ⟨B,0,none⟩=false:=by
 constructor<;>simp[World.cell?,World.frozen?,h]
theorem PZ (w:World)(o1 o2 o3 o4:Obj):((((w.alloc o1).alloc o2).alloc o3).alloc o4).heap[w.heap.size]? =some o1/\((((w.alloc o1).alloc o2).alloc o3).alloc o4).heap[w.heap.size+1]? =some o2/\((((w.alloc o1).alloc o2).alloc o3).alloc o4).heap[w.heap.size+1+1]? =some o3/\((((w.alloc o1).alloc o2).alloc o3).alloc o4).heap[w.heap.size+1+1+1]? =some o4:=by
 have e:((((w.alloc o1).alloc o2).alloc o3).alloc o4).heap=(((w.heap.push o1).push o2).push o3).push o4:=rfl;rw[e];refine⟨?_,?_,?_,?_⟩
 ·simp only[Array.getElem?_push,Array.size_push];rw[if_neg (by omega),if_neg (by omega),if_neg (by omega),if_pos trivial]
 ·simp only[Array.getElem?_push,Array.size_push];rw[if_neg (by omega),if_neg (by omega),if_pos trivial]
 ·simp only[Array.getElem?_push,Array.size_push];rw[if_neg (by omega),if_pos trivial]
 ·simp only[Array.getElem?_push,Array.size_push];rw[if_pos trivial]
theorem yw (w:World)(o1 o2 o3 o4:Obj):Below w.heap.size w ((((w.alloc o1).alloc o2).alloc o3).alloc o4):=
 ((((Below.refl _ w).alloc (Nat.le_refl _) _).alloc (by simp) _).alloc (by simp;omega) _).alloc (by simp;omega) _
theorem IE (b:Nat)(g other:Int)(t:Nat->Gp)(xs:List (Fin 10))(w:World)(hT:bd w b t)(hL:Way t g (mD xs)):
  Calls Tryz.prog 172 #[.pointer (some ⟨b,0,none⟩), .int .i64 g, .int .i64 other] w fun e W'=>e= .returned (.bool (decide (∃x∈xs,(x.val:Int)=other)))/\Below w.heap.size w W':=by
 refine(callsIn_wide (n:=4)).1 ?_;refine callsIn_of_wp_marks Tryz.func172 rfl trivial ?_ rfl;simp only[Tryz.ntmps172,List.size_toArray,List.length_cons,List.length_nil,Nat.reduceAdd,Nat.reduceSub,Array.replicate_succ,Array.replicate_zero,List.push_toArray,List.append_toArray,List.nil_append,List.cons_append]
 gi_wp2_with (refine⟨trivial,?_⟩;gi_at_call 216;refine(callsIn_wide.2 (CQ b g _)).mono ?_;rintro e w' ⟨rfl,rfl⟩)
 have hA:=PZ w (.cells #[.int .i64 other] 3) (.cells #[.bool false] 4) (.cells #[.pointer (some ⟨b,0,none⟩)] 79) (.cells #[.int .i64 g] 3);have hB0:=yw w (.cells #[.int .i64 other] 3) (.cells #[.bool false] 4) (.cells #[.pointer (some ⟨b,0,none⟩)] 79) (.cells #[.int .i64 g] 3);have c0:=gR hA.1;have c1:=gR hA.2.1;have c3:=gR hA.2.2.2;have hbl:=hT.lt;refine wpIn_rangeFunc_ownF rfl (by omega) (gf:=267) (lb:=#[.pointer (some ⟨w.heap.size+1+1+1,0,none⟩), .pointer (some ⟨w.heap.size+1+1,0,none⟩)]) rfl trivial (enters_of Tryz.func267 (by kernel_rfl) rfl)
  (yW 3 (by omega) (w.heap.size+1+1+1) (w.heap.size+1+1) b g t xs _ (by simp) c3.1 hA.2.2.1 (hT.below hB0 hbl) hL) K2.t (K2.b (by simp;omega) (by simp)) (Below.refl _ _) (fun _=>rfl)
  (fun pre W=>((∀y∈pre,(y.val:Int)≠other)/\W.cell? ⟨w.heap.size,0,none⟩=some (.int .i64 other)/\W.cell? ⟨w.heap.size+1,0,none⟩=some (.bool false)/\W.frozen? ⟨w.heap.size+1,0,none⟩=false)/\Below w.heap.size w W)
  (fun c pre W=>(c= .ret/\(∃y∈pre,(y.val:Int)=other)/\W.cell? ⟨w.heap.size+1,0,none⟩=some (.bool true))/\Below w.heap.size w W)
  (OwnFrom.and (Own.from (fun s A B row hs hg hr=>⟨hs.1,cell_kept hs.2.1 hg hr,cell_kept hs.2.2.1 hg hr,(frozen_kept hs.2.2.1 hg hr).trans hs.2.2.2⟩) _) (ownFrom_below (Nat.le_refl _) (by simp;omega)))
  (fun c=>OwnFrom.and (Own.from (fun s A B row hs hg hr=>⟨hs.1,hs.2.1,cell_kept hs.2.2 hg hr⟩) _) (ownFrom_below (Nat.le_refl _) (by simp;omega)))
  ⟨⟨by simp,c0.1,c1.1,c1.2⟩,hB0⟩
  (fun x=>{tmps:=#[.pointer (some ⟨b,0,none⟩), .int .i64 g, .int .i64 other,undef,undef, .pointer (some ⟨w.heap.size,0,none⟩), .pointer (some ⟨w.heap.size+1,0,none⟩), .int .i64 (x.val:Int), .pointer (some ⟨b,0,none⟩), .int .i64 g, .func (.func 267) #[] #[.pointer (some ⟨w.heap.size+1+1+1,0,none⟩), .pointer (some ⟨w.heap.size+1+1,0,none⟩)], .int .i64 (x.val:Int),undef,undef,undef],defers:=[]}) ?assign ?body ?done ?stop
 case assign=>
  intro l x W K hK
  gi_wp2
  exact hK
 case body=>
  rintro l pre x W ⟨⟨hp,hcw,hcr,hfr⟩,hB⟩ _
  gi_wp2
  ·rename_i hx;have hx':(x.val:Int)=other:=eq_of_beq hx;exact⟨KeepsOthers.setCell _ _ _,⟨rfl,⟨x,List.mem_append.2 (.inr (by simp)),hx'⟩,World.cell?_setCell_same' _ _ _ (by rw[hcr];rfl)⟩,hB.setCell (p:=⟨w.heap.size+1,0,none⟩) (by simp) _⟩
  ·rename_i hx;have hx':(x.val:Int)≠other:=by simpa using hx
   exact⟨KeepsOthers.refl _,⟨rfl,rfl⟩,⟨fun y hy=>(List.mem_append.1 hy).elim (hp y) (fun e=>by simp at e;subst e;exact hx'),hcw,hcr,hfr⟩,hB⟩
 case done=>
  rintro D ys W hD rfl ⟨⟨hne,_,hcr,hfr⟩,hB⟩ hK
  gi_wp2
  have hK':=(KeepsOthers.setCell W ⟨w.heap.size+1,0,none⟩ (.bool false)).same D _ hK rfl;refine⟨by simp, .inl ⟨_,_,rfl,run_takeDeferred hK',?_⟩⟩;have hc5:=cell_kept (World.cell?_setCell_same' W ⟨w.heap.size+1,0,none⟩ (.bool false) (by rw[hcr];rfl)) (grownBy_putObj' _ D (.deferred none)) (fun r e=>by cases e;exact⟨_,hK',rfl⟩);refine⟨.bool false,?_,by rw[decide_eq_false (fun⟨y,hy,e⟩=>hne y hy e)],(hB.setCell (p:=⟨w.heap.size+1,0,none⟩) (by simp) _).trans (belowK_b (w:=w) (Nat.le_refl _) _ D _ _ (by simp at hD;omega) hK' rfl rfl)⟩;simp[results,Tryz.f172,go_sem,hc5]
 case stop=>
  rintro D c pre W hD hpre ⟨⟨rfl,hin,hcr⟩,hB⟩ hK
  gi_wp2
  refine⟨by simp, .inl ⟨_,_,rfl,run_takeDeferred hK,?_⟩⟩;have hc5:=cell_kept hcr (grownBy_putObj' _ D (.deferred none)) (fun r e=>by cases e;exact⟨_,hK,rfl⟩);refine⟨.bool true,?_,by rw[decide_eq_true (hin.imp fun y hy=>⟨hpre.subset hy.1,hy.2⟩)],hB.trans (belowK_b (w:=w) (Nat.le_refl _) W D _ _ (by simp at hD;omega) hK rfl rfl)⟩;simp[results,Tryz.f172,go_sem,hc5]
theorem Rf (w:World)(o1 o2 o3:Obj):(((w.alloc o1).alloc o2).alloc o3).heap[w.heap.size]? =some o1/\(((w.alloc o1).alloc o2).alloc o3).heap[w.heap.size+1]? =some o2/\(((w.alloc o1).alloc o2).alloc o3).heap[w.heap.size+1+1]? =some o3:=by
 have e:(((w.alloc o1).alloc o2).alloc o3).heap=((w.heap.push o1).push o2).push o3:=rfl;rw[e];refine⟨?_,?_,?_⟩
 ·simp only[Array.getElem?_push,Array.size_push];rw[if_neg (by omega),if_neg (by omega),if_pos trivial]
 ·simp only[Array.getElem?_push,Array.size_push];rw[if_neg (by omega),if_pos trivial]
 ·simp only[Array.getElem?_push,Array.size_push];rw[if_pos trivial]
theorem Qh (w:World)(o1 o2:Obj):((w.alloc o1).alloc o2).heap[w.heap.size]? =some o1/\((w.alloc o1).alloc o2).heap[w.heap.size+1]? =some o2:=by
 have e:((w.alloc o1).alloc o2).heap=(w.heap.push o1).push o2:=rfl;rw[e];refine⟨?_,?_⟩
 ·simp only[Array.getElem?_push,Array.size_push];rw[if_neg (by omega),if_pos trivial]
 ·simp only[Array.getElem?_push,Array.size_push];rw[if_pos trivial]
section
attribute [local go_sem] Oper.semAt_some
end
def Gs (Wy:Nat->List (Fin 10))(k:Nat)(n:Int):Bool:=decide (∃x∈Wy k,(x.val:Int)=n)
def cU (t:Nat->Gp)(Wy:Nat->List (Fin 10))(n:Int)(sel:Gp->Int):Nat->Int
 |0=>0
 |k+1=>cU t Wy n sel k+if Gs Wy k n=true then sel (t k)else 0
def gQ (t:Nat->Gp)(Wy:Nat->List (Fin 10)):Prop:= ∀k:Nat,k<10->Way t (k:Int) (mD (Wy k))
def Small (t:Nat->Gp):Prop:= ∀k,k<10->(0<=(t k).op/\(t k).op<=1000000)/\(0<=(t k).oq/\(t k).oq<=1000000)
theorem oG {t:Nat->Gp}(Wy:Nat->List (Fin 10))(n:Int){sel:Gp->Int}(h: ∀k,k<10->0<=sel (t k)/\sel (t k)<=1000000): ∀k,k<=10->0<=cU t Wy n sel k/\cU t Wy n sel k<=1000000*k
 |0,_=>by simp[cU]
 |k+1,hk=>by
  have ih:=oG Wy n h k (by omega);have:=h k (by omega);unfold cU;split<;>omega
structure Ts (w W:World)(a c:Int):Prop where
 bF:Below w.heap.size w W
 res:W.heap[w.heap.size]? =some (.cells #[.int .i64 0, .int .i64 0] 130 (0,0))
 sum:W.heap[w.heap.size+1]? =some (.cells #[.int .i64 a, .int .i64 c] 130 (0,0))
theorem Ts.below {w W W':World}{a c:Int}(h:Ts w W a c)(hb:Below W.heap.size W W'):Ts w W' a c:=by
 have h1:=(Array.getElem?_eq_some_iff.1 h.sum).1;exact⟨h.bF.trans (hb.mono h.bF.size),(hb.block _ (by omega)).trans h.res,(hb.block _ h1).trans h.sum⟩
theorem Ts.drewN {w W:World}{a c:Int}(h:Ts w W a c)(n:Nat):Ts w (W.drewN n) a c:=⟨below_drewN h.bF n,h.res,h.sum⟩
theorem Ts.drew {w W:World}{a c:Int}(h:Ts w W a c):Ts w W.drew a c:=h.drewN 1
theorem Ts.QA {w W:World}{a c:Int}(h:Ts w W a c)(v:Int):Ts w (W.setCell ⟨w.heap.size+1,0,none⟩ (.int .i64 v)) v c:=
 ⟨h.bF.setCell (by simp) _,(dD _ _ _ _ (by omega)).trans h.res,by rw[heap_set h.sum];rfl⟩
theorem Ts.Qw {w W:World}{a c:Int}(h:Ts w W a c)(v:Int):Ts w (W.setCell ⟨w.heap.size+1,1,none⟩ (.int .i64 v)) a v:=
 ⟨h.bF.setCell (by simp) _,(dD _ _ _ _ (by omega)).trans h.res,by rw[heap_set h.sum];rfl⟩
theorem mY (b:Nat)(n:Int)(t:Nat->Gp)(Wy:Nat->List (Fin 10))(w:World)(hT:bd w b t)(hW:gQ t Wy)(hS:Small t):
  Calls Tryz.prog 97 #[.pointer (some ⟨b,0,none⟩), .int .i64 n] w fun e W'=>e= .returned (.agg #[.int .i64 (cU t Wy n Gp.op 10), .int .i64 (cU t Wy n Gp.oq 10)])/\Below w.heap.size w W':=by
 have HT:Hid (bd w b t):=hT;have hbl:=hT.lt;have HW:Hid (gQ t Wy):=hW;have HS:Hid (Small t):=hS;clear hT hW hS;go_in
 go_wp2_with fail
 have A2:=Qh w (.cells #[.int .i64 0, .int .i64 0] 130) (.cells #[.int .i64 0, .int .i64 0] 130);refine bw (fun W=>Ts w W 0 0) ⟨((Below.refl _ w).alloc (Nat.le_refl _) _).alloc (by simp) _,A2.1,A2.2⟩ ?_;intro W1 hT1;clear A2;go_loopw [7] (fun i wr=> ∃(k:Nat),i= .int .i64 k/\k<=10/\Hid (Ts w wr (cU t Wy n Gp.op k) (cU t Wy n Gp.oq k))) (fun i _=>10-(intOf i).toNat)
 case atStart=>exact⟨0,rfl,by omega,hT1⟩
 case round=>
  clear hT1;obtain⟨k,rfl,hk,H⟩:=hrel;by_cases hlt:k<10
  ·have hltI:(k:Int)<10:=by omega
   have T1:Hid (bd wr b t):=HT.out.below H.out.bF hbl;go_wp2_with fail
   refine(IE b k n t (Wy k) _ T1.out (HW.out k hlt)).mono ?_;rintro e W2 ⟨rfl,hb2⟩;have H2:Hid (Ts w W2 (cU t Wy n Gp.op k) (cU t Wy n Gp.oq k)):=H.out.below hb2;have T2:Hid (bd W2 b t):=T1.out.below hb2 T1.out.lt;rw[show decide (∃x∈Wy k,(x.val:Int)=n)=Gs Wy k n from rfl];have e1:cU t Wy n Gp.op (k+1)=cU t Wy n Gp.op k+if Gs Wy k n=true then(t k).op else 0:=rfl;have e2:cU t Wy n Gp.oq (k+1)=cU t Wy n Gp.oq k+if Gs Wy k n=true then(t k).oq else 0:=rfl;cases hu:Gs Wy k n
   ·rw[hu]at e1 e2;have E1:Hid (cU t Wy n Gp.op (k+1)=cU t Wy n Gp.op k):=by rw[e1];simp[Hid]
    have E2:Hid (cU t Wy n Gp.oq (k+1)=cU t Wy n Gp.oq k):=by rw[e2];simp[Hid]
    clear e1 e2 hu hb2;go_wp2
    go_roundw
    case rel=>exact⟨k+1,by go_num,by omega,by rw[E1.out,E2.out];exact H2.out⟩
    case measure=>simp[intOf];omega
   ·rw[hu,if_pos rfl]at e1 e2;have E1:Hid (cU t Wy n Gp.op (k+1)=cU t Wy n Gp.op k+(t k).op):=e1;have E2:Hid (cU t Wy n Gp.oq (k+1)=cU t Wy n Gp.oq k+(t k).oq):=e2;have b1:=oG Wy n (fun k hk=>(HS.out k hk).1) k hk;have b2:=oG Wy n (fun k hk=>(HS.out k hk).2) k hk;have s1:=HS.out k hlt;clear e1 e2 hu hb2;generalize cU t Wy n Gp.op k=X at*;generalize cU t Wy n Gp.oq k=Y at*;have d0:W2.cell? ⟨w.heap.size+1,0,none⟩=some (.int .i64 X):=by rw[cM H2.out.sum];rfl
    have d1:W2.cell? ⟨w.heap.size+1,1,none⟩=some (.int .i64 Y):=by rw[cM H2.out.sum];rfl
    have f0: ∀o,W2.frozen? ⟨w.heap.size+1,o,none⟩=false:=fun o=>kQ H2.out.sum o;have g0:W2.cell? ⟨b,k*6+4,none⟩=some (.int .i64 (t k).op):=T2.out.cell k 4 hlt (by omega);have g1:W2.cell? ⟨b,k*6+4+1,none⟩=some (.int .i64 (t k).oq):=T2.out.cell k 5 hlt (by omega);have hne:b≠w.heap.size+1:=by omega
    have hne':w.heap.size+1≠b:=by omega
    generalize (t k).op=P at*;generalize (t k).oq=R at*;go_wp2_with fail
    go_region
    go_wp2_with fail
    go_region
    go_wp2
    go_roundw
    case rel=>
     have Z:=((H2.out.QA (X+P)).drew.Qw (Y+R)).drew;refine⟨k+1,by go_num,by omega,?_⟩;rw[E1.out,E2.out];exact Z
    case measure=>simp[intOf];omega
  ·have hk10:k=10:=by omega
   subst hk10;have r0:wr.cell? ⟨w.heap.size,0,none⟩=some (.int .i64 0):=by rw[cM H.out.res];rfl
   have r1:wr.cell? ⟨w.heap.size,1,none⟩=some (.int .i64 0):=by rw[cM H.out.res];rfl
   have rf: ∀o,wr.frozen? ⟨w.heap.size,o,none⟩=false:=fun o=>kQ H.out.res o;have s0:wr.cell? ⟨w.heap.size+1,0,none⟩=some (.int .i64 (cU t Wy n Gp.op 10)):=by rw[cM H.out.sum];rfl
   have s1:wr.cell? ⟨w.heap.size+1,1,none⟩=some (.int .i64 (cU t Wy n Gp.oq 10)):=by rw[cM H.out.sum];rfl
   generalize hX:cU t Wy n Gp.op 10=X at s0;generalize hY:cU t Wy n Gp.oq 10=Y at s1;have HX:Hid (cU t Wy n Gp.op 10=X):=hX;have HY:Hid (cU t Wy n Gp.oq 10=Y):=hY;clear hX hY;go_wp2_with fail
   refine bodyPost_ret (v:= .agg #[.int .i64 X, .int .i64 Y]) (by simp[results,Tryz.results97,go_sem,r0,r1]) rfl ⟨by rw[HX.out,HY.out],?_⟩;exact(H.out.bF.setCell (p:=⟨w.heap.size,0,none⟩) (Nat.le_refl _) _).setCell (p:=⟨w.heap.size,1,none⟩) (Nat.le_refl _) _
def kA (p q l:Int):Bool:=decide (l<=p/\p<=20/\l<=q/\q<=64)
theorem Bh (p q l:Int)(w:World):Calls Tryz.prog 191 #[.agg #[.int .i64 p, .int .i64 q], .int .i64 l] w fun e w'=>e= .returned (.bool (kA p q l))/\Below w.heap.size w w':=by
 have HF:Hid (∀r:Bool,(r=true↔(l<=p/\p<=20/\l<=q/\q<=64))->r=kA p q l):=fun r hr=>by unfold kA;rw[Bool.eq_iff_iff,hr,decide_eq_true_eq]
 by_cases h1:l<=p
 ·have d1:decide (l<=p)=true:=by simp[h1]
  by_cases h2:p<=20
  ·have d2:decide (p<=20)=true:=by simp[h2]
   by_cases h3:l<=q
   ·have d3:decide (l<=q)=true:=by simp[h3]
    by_cases h4:q<=64
    ·have HH:Hid (l<=p/\p<=20/\l<=q/\q<=64):=⟨h1,h2,h3,h4⟩;go_in
     go_wp2
     go_ret
     exact⟨bN (HF.out _ (by simp;exact HH.out)),(Below.refl _ _).alloc (Nat.le_refl _) _⟩
    ·have d4:decide (q<=64)=false:=by simp;omega
     have HH:Hid (¬q<=64):=h4;clear h4;go_in
     go_wp2
     go_ret
     exact⟨bN (HF.out _ (by have:=HH.out;simp;omega)),(Below.refl _ _).alloc (Nat.le_refl _) _⟩
   ·have d3:decide (l<=q)=false:=by simp;omega
    have HH:Hid (¬l<=q):=h3;clear h3;go_in
    go_wp2
    go_ret
    exact⟨bN (HF.out _ (by have:=HH.out;simp;omega)),(Below.refl _ _).alloc (Nat.le_refl _) _⟩
  ·have d2:decide (p<=20)=false:=by simp;omega
   have HH:Hid (¬p<=20):=h2;clear h2;go_in
   go_wp2
   go_ret
   exact⟨bN (HF.out _ (by have:=HH.out;simp;omega)),(Below.refl _ _).alloc (Nat.le_refl _) _⟩
 ·have d1:decide (l<=p)=false:=by simp;omega
  have HH:Hid (¬l<=p):=h1;clear h1;go_in
  go_wp2
  go_ret
  exact⟨bN (HF.out _ (by have:=HH.out;simp;omega)),(Below.refl _ _).alloc (Nat.le_refl _) _⟩
def kB (h m l:Int):Bool:=decide (l≠ -1/\0<m/\l<h+m)
theorem qF (h m l:Int)(w:World)(hh:0<=h/\h<=100000000)(hm:0<=m/\m<=1000):Calls Tryz.prog 217 #[.int .i64 h, .int .i64 m, .int .i64 l] w fun e w'=>e= .returned (.bool (kB h m l))/\w'=w:=by
 have HF:Hid (∀r:Bool,(r=true↔(l≠ -1/\0<m/\l<h+m))->r=kB h m l):=fun r hr=>by unfold kB;rw[Bool.eq_iff_iff,hr,decide_eq_true_eq]
 obtain⟨hh0,hh1⟩:=hh;obtain⟨hm0,hm1⟩:=hm;by_cases h1:l= -1
 ·have HH:Hid (l= -1):=h1;have d1:(l != -1)=false:=by simp[h1]
  clear h1;go_in
  go_wp2
  go_ret
  exact⟨bN (HF.out _ (by simp[HH.out])),rfl⟩
 ·have HH:Hid (l≠ -1):=h1;have d1:(l != -1)=true:=by simp[h1]
  clear h1;by_cases h2:0<m
  ·by_cases h3:l<h+m
   ·go_in
    go_wp2
    go_ret
    exact⟨bN (HF.out _ (by have:=HH.out;simp;omega)),rfl⟩
   ·go_in
    go_wp2
    go_ret
    exact⟨bN (HF.out _ (by have:=HH.out;simp;omega)),rfl⟩
  ·have d2:decide (0<m)=false:=by simp;omega
   have HH2:Hid (¬0<m):=h2;clear h2;go_in
   go_wp2
   go_ret
   exact⟨bN (HF.out _ (by have:=HH2.out;simp;omega)),rfl⟩
theorem Cc (b:Nat)(g p q:Int)(w:World)(hg:g<0\/10<=g):Calls Tryz.prog 138 #[.pointer (some ⟨b,0,none⟩), .int .i64 g, .agg #[.int .i64 p, .int .i64 q]] w fun e w'=>e= .returned (.iface 100 (.int .i64 1))/\Below w.heap.size w w':=by
 have HG:Hid (g<0\/10<=g):=hg;clear hg;go_in
 go_wp2_with fail
 refine(yJ b g _ HG.out).mono ?_;rintro e w1 ⟨rfl,rfl⟩;go_wp2
 go_ret
 exact⟨rfl,(Below.refl _ _).alloc (Nat.le_refl _) _⟩
theorem AM (b g:Nat)(p q:Int)(t:Nat->Gp)(w:World)(h:bd w b t)(hg:g<10)(hh:(t g).there=false):Calls Tryz.prog 138 #[.pointer (some ⟨b,0,none⟩), .int .i64 g, .agg #[.int .i64 p, .int .i64 q]] w fun e w'=>e= .returned (.iface 100 (.int .i64 2))/\Below w.heap.size w w':=by
 have H:Hid (bd w b t/\(t g).there=false):=⟨h,hh⟩;clear h hh;go_in
 go_wp2_with fail
 refine(wS b g t _ (H.out.1.below ((Below.refl _ _).alloc (Nat.le_refl _) _) H.out.1.lt) hg H.out.2).mono ?_;rintro e w1 ⟨rfl,hw⟩;subst hw;go_wp2
 go_ret
 exact⟨rfl,(Below.refl _ _).alloc (Nat.le_refl _) _⟩
theorem Ff (b g:Nat)(p q:Int)(t:Nat->Gp)(w:World)(h:bd w b t)(hg:g<10)(hh:(t g).there=true)(hf:kA p q 0=true):Calls Tryz.prog 138 #[.pointer (some ⟨b,0,none⟩), .int .i64 g, .agg #[.int .i64 p, .int .i64 q]] w fun e w'=>e= .returned .nilIface/\Below w.heap.size w w':=by
 have H:Hid (bd w b t/\(t g).there=true/\kA p q 0=true):=⟨h,hh,hf⟩;clear h hh hf;go_in
 go_wp2_with fail
 refine(vb b g t _ (H.out.1.below ((Below.refl _ _).alloc (Nat.le_refl _) _) H.out.1.lt) hg H.out.2.1).mono ?_;rintro e w1 ⟨rfl,hw⟩;subst hw;go_wp2_with fail
 refine(Bh p q 0 _).mono ?_;rintro e w2 ⟨rfl,hb⟩;rw[H.out.2.2];have HB:Hid (Below w.heap.size w w2):=((Below.refl _ w).alloc (Nat.le_refl _) _).trans (hb.mono (by simp));clear hb;go_wp2
 go_ret
 exact⟨rfl,HB.out⟩
theorem zl (b g:Nat)(p q:Int)(t:Nat->Gp)(w:World)(h:bd w b t)(hg:g<10)(hh:(t g).there=true)(hf:kA p q 0=false):Calls Tryz.prog 138 #[.pointer (some ⟨b,0,none⟩), .int .i64 g, .agg #[.int .i64 p, .int .i64 q]] w fun e w'=>e= .returned (.iface 100 (.int .i64 1))/\Below w.heap.size w w':=by
 have H:Hid (bd w b t/\(t g).there=true/\kA p q 0=false):=⟨h,hh,hf⟩;clear h hh hf;go_in
 go_wp2_with fail
 refine(vb b g t _ (H.out.1.below ((Below.refl _ _).alloc (Nat.le_refl _) _) H.out.1.lt) hg H.out.2.1).mono ?_;rintro e w1 ⟨rfl,hw⟩;subst hw;go_wp2_with fail
 refine(Bh p q 0 _).mono ?_;rintro e w2 ⟨rfl,hb⟩;rw[H.out.2.2];have HB:Hid (Below w.heap.size w w2):=((Below.refl _ w).alloc (Nat.le_refl _) _).trans (hb.mono (by simp));clear hb;go_wp2
 go_ret
 exact⟨rfl,HB.out⟩
section
variable {P : Program} {ops : Array Oper} {Q : Exit -> Act -> World -> Prop} {md : Region.Mode} {S : World -> Prop}
theorem Cu {n l:Nat}{row:String}{args:Array Value}{w:World}{R:Value->World->Prop}(h:Rows P row args w R):RowsIn (Fence.wide.inRound l) n P row args w R:=by
 unfold RowsIn;intro c cs _;obtain⟨v,w',r,s⟩:=h c cs;exact⟨v,w',r,stepsIn_wide.2 s⟩
theorem Gm {n l i:Nat}{K:Act->World->Prop}{a:Act}{w:World}(hd: ∀(i:Nat) (o:Oper),ops[i]? =some o-> ∀c,o.op≠ .defer c)(hL: ¬LetsOut Q)(h:wpOp P ops Q i K a w):wpOpIn (Fence.wide.inRound l) n P ops Q i K a w:=by
 unfold wpOp at h;unfold wpOpIn;cases ho:ops[i]? with
 |none=>simp only[ho]at h|-;exact h
 |some o=>
  simp only[ho]at h|-;split
  ·rename_i hw;simp only[hw,if_true]at h;rcases h with h|⟨_,h⟩
   ·unfold Oper.wp at h;unfold Oper.wpIn;refine⟨fun _ _=>trivial,?_⟩;rw[Oper.semAt_eq _ _ _ (hd i o ho)];generalize (execOp a.eval o).run P w=r at*;have hdp:((Fence.wide.inRound l).depth.isSome=true->1<=n):=fun h=>by simp[Fence.wide]at h
    cases r with
    |ok x w'=>
     cases x<;>simp only[Oper.upon,Oper.uponIn]at h|- <;>
      first
       |exact h
       |exact⟨hdp,CallsIn.inRound l (callsIn_wide.2 h)⟩
       |exact⟨hdp,Cu h⟩
    |halt x w'=>cases x<;>simp only[Oper.upon,Oper.uponIn]at h|- <;>exact h
   ·exact absurd h hL
  ·rename_i hw;simp only[hw]at h;exact⟨fun _ _=>trivial,h⟩
theorem wQ {n l:Nat}(hd: ∀(i:Nat) (o:Oper),ops[i]? =some o-> ∀c,o.op≠ .defer c)(hL: ¬LetsOut Q): ∀(fuel:Nat) (listed:Array Bool) (a:Act) (w:World),wpAnyH P md ops Q S fuel listed a w->wpAnyIn (Fence.wide.inRound l) n P md ops Q fuel listed a w
 |0,_,_,_,h=>h
 |fuel+1,_,_,_,h=>⟨h.1,fun i hi=>wpOpIn_mono (fun a' w' h'=>wQ hd hL fuel _ a' w' h'.2) (Gm hd hL (h.2 i hi))⟩
theorem tZ {n l id:Nat}{a:Act}{w:World}(hm:P.follows .mixedOrders=true)(hd: ∀(i:Nat) (o:Oper),ops[i]? =some o-> ∀c,o.op≠ .defer c)(hL: ¬LetsOut Q)
  (h:wpAnyH P .any ops Q S ops.size (Array.replicate ops.size false) a w.drew):(Code.region id ops true).wpIn (Fence.wide.inRound l) n P Q a w:=
 wpIn_region_any hm (wQ hd hL _ _ _ _ h)
end
theorem pL (w:World)(c:Array Value)(t:TypeId):(w.alloc (.cells c t)).heap[w.heap.size]? =some (.cells c t (0,0)):=heap_alloc_new w _
structure F3 (W V:World)(o9 o10:Option Nat):Prop where
 bF:Below W.heap.size W V
 c9: ∀n,o9=some n->W.heap.size<=n/\V.heap[n]? =some (.cells #[.int .i64 0, .int .i64 0] 130 (0,0))
 rS: ∀n,o10=some n->W.heap.size<=n/\V.heap[n]? =some (.cells #[.int .i64 0, .int .i64 0] 130 (0,0))
 ne: ∀n m,o9=some n->o10=some m->n≠m
section
variable {W V : World} {o9 o10 : Option Nat}
theorem F3.IK (h:F3 W V none o10):F3 W (V.alloc (.cells #[.int .i64 0, .int .i64 0] 130)) (some V.heap.size) o10:=
 ⟨h.bF.alloc h.bF.size _,fun n e=>by cases e;exact⟨h.bF.size,pL _ _ _⟩,fun n e=>⟨(h.rS n e).1,(Below.heap_alloc _ _ _ (Array.getElem?_eq_some_iff.1 (h.rS n e).2).1).trans (h.rS n e).2⟩,fun n m e e'=>by cases e;have:=(Array.getElem?_eq_some_iff.1 (h.rS m e').2).1;omega⟩
theorem F3.Au (h:F3 W V o9 none):F3 W (V.alloc (.cells #[.int .i64 0, .int .i64 0] 130)) o9 (some V.heap.size):=
 ⟨h.bF.alloc h.bF.size _,fun n e=>⟨(h.c9 n e).1,(Below.heap_alloc _ _ _ (Array.getElem?_eq_some_iff.1 (h.c9 n e).2).1).trans (h.c9 n e).2⟩,fun n e=>by cases e;exact⟨h.bF.size,pL _ _ _⟩,fun n m e e'=>by cases e';have:=(Array.getElem?_eq_some_iff.1 (h.c9 n e).2).1;omega⟩
theorem F3.call {V':World}(h:F3 W V o9 o10)(hb:Below V.heap.size V V'):F3 W V' o9 o10:=
 ⟨h.bF.trans (hb.mono h.bF.size),fun n e=>⟨(h.c9 n e).1,(hb.block _ (Array.getElem?_eq_some_iff.1 (h.c9 n e).2).1).trans (h.c9 n e).2⟩,fun n e=>⟨(h.rS n e).1,(hb.block _ (Array.getElem?_eq_some_iff.1 (h.rS n e).2).1).trans (h.rS n e).2⟩,h.ne⟩
end
structure F4 (W V:World)(n9 n10:Nat)(X Y lp lq:Int):Prop where
 bF:Below W.heap.size W V
 l9:W.heap.size<=n9
 Rh:W.heap.size<=n10
 ne:n9≠n10
 c9:V.heap[n9]? =some (.cells #[.int .i64 X, .int .i64 Y] 130 (0,0))
 rS:V.heap[n10]? =some (.cells #[.int .i64 lp, .int .i64 lq] 130 (0,0))
def tL:Array Oper:=#[{dst:=some 15,op:=Op.load 79 (Operand.tmp 3),type:=79,pos:= "groups.go:240",after:=#[],guard:=none},
 {dst:=some 16,op:=Op.move (Operand.tmp 8),type:=3,pos:= "groups.go:240",after:=#[],guard:=none},
 {dst:=some 17,op:=Op.call {callee:=Callee.value (Operand.func 97),args:=#[Operand.tmp 15,Operand.tmp 16],argTypes:=#[79,3]},type:=130,pos:= "groups.go:240",after:=#[{on:=0,ground:=Ground.data},{on:=1,ground:=Ground.data}],guard:=none},
 {dst:=some 18,op:=Op.load 79 (Operand.tmp 3),type:=79,pos:= "groups.go:240",after:=#[{on:=12,ground:=Ground.gcOnly Departure.lateStores}],guard:=none},
 {dst:=some 19,op:=Op.move (Operand.tmp 8),type:=3,pos:= "groups.go:240",after:=#[{on:=12,ground:=Ground.gcOnly Departure.lateStores}],guard:=none},
 {dst:=some 20,op:=Op.nilCheck (Operand.tmp 18),type:=0,pos:= "groups.go:240",after:=#[{on:=3,ground:=Ground.data},{on:=12,ground:=Ground.gcOnly Departure.lateStores}],guard:=none},
 {dst:=some 21,op:=Op.fieldAddr 135 (Operand.tmp 20) 0,type:=0,pos:= "groups.go:240",after:=#[{on:=5,ground:=Ground.data},{on:=12,ground:=Ground.gcOnly Departure.lateStores}],guard:=none},
 {dst:=some 22,op:=Op.indexAddr 133 (Operand.tmp 21) (Operand.tmp 19),type:=0,pos:= "groups.go:240",after:=#[{on:=6,ground:=Ground.data},{on:=4,ground:=Ground.data},{on:=12,ground:=Ground.gcOnly Departure.lateStores}],guard:=none},
 {dst:=some 23,op:=Op.fieldAddr 132 (Operand.tmp 22) 2,type:=0,pos:= "groups.go:240",after:=#[{on:=7,ground:=Ground.data},{on:=12,ground:=Ground.gcOnly Departure.lateStores}],guard:=none},
 {dst:=some 24,op:=Op.load 130 (Operand.tmp 23),type:=130,pos:= "groups.go:240",after:=#[{on:=8,ground:=Ground.data},{on:=12,ground:=Ground.gcOnly Departure.lateStores}],guard:=none},
 {dst:=some 9,op:=Op.alloc 130,type:=0,pos:= "groups.go:240",after:=#[],guard:=none},
 {dst:=some 10,op:=Op.alloc 130,type:=0,pos:= "groups.go:240",after:=#[],guard:=none},
 {dst:=none,op:=Op.store 130 (Operand.tmp 9) (Operand.tmp 17),type:=0,pos:= "groups.go:240",after:=#[{on:=10,ground:=Ground.data},{on:=2,ground:=Ground.data},{on:=2,ground:=Ground.chain},{on:=0,ground:=Ground.phase},{on:=1,ground:=Ground.phase},{on:=2,ground:=Ground.phase},{on:=3,ground:=Ground.textOnly Departure.lateStores},{on:=4,ground:=Ground.textOnly Departure.lateStores},{on:=5,ground:=Ground.textOnly Departure.lateStores},{on:=6,ground:=Ground.textOnly Departure.lateStores},{on:=7,ground:=Ground.textOnly Departure.lateStores},{on:=8,ground:=Ground.textOnly Departure.lateStores},{on:=9,ground:=Ground.textOnly Departure.lateStores},{on:=10,ground:=Ground.phase},{on:=11,ground:=Ground.phase}],guard:=none},
 {dst:=none,op:=Op.store 130 (Operand.tmp 10) (Operand.tmp 24),type:=0,pos:= "groups.go:240",after:=#[{on:=11,ground:=Ground.data},{on:=9,ground:=Ground.data},{on:=12,ground:=Ground.chain},{on:=0,ground:=Ground.phase},{on:=1,ground:=Ground.phase},{on:=2,ground:=Ground.phase},{on:=3,ground:=Ground.phase},{on:=4,ground:=Ground.phase},{on:=5,ground:=Ground.phase},{on:=6,ground:=Ground.phase},{on:=7,ground:=Ground.phase},{on:=8,ground:=Ground.phase},{on:=9,ground:=Ground.phase},{on:=10,ground:=Ground.phase},{on:=11,ground:=Ground.phase},{on:=12,ground:=Ground.phase}],guard:=none}]
theorem lK {Q:Exit->Act->World->Prop}{W V:World}{bt x n9 n10:Nat}{X Y lp lq:Int}{A0 A1 A2 A4 A5 A6 A7 A11 A12 A13 A14 c15 c16 c18 c19 jy c21 c22 c23:Value}
  (hQ: ∀(n9 n10:Nat) (V:World) (c15 c16 c17 c18 c19 jy c21 c22 c23 c24:Value),F4 W V n9 n10 X Y lp lq->Q .normal {tmps:=#[A0,A1,A2, .pointer (some ⟨bt,0,none⟩),A4,A5,A6,A7, .int .i64 (x:Int), .pointer (some ⟨n9,0,none⟩), .pointer (some ⟨n10,0,none⟩),A11,A12,A13,A14,c15,c16,c17,c18,c19,jy,c21,c22,c23,c24,undef,undef,undef,undef,undef,undef,undef,undef,undef,undef,undef,undef,undef,undef,undef,undef,undef],defers:=[]} V)
  (F:F3 W V (some n9) (some n10)):
  wpAnyH Tryz.prog .any tL Q (fun V=>Below W.heap.size W V) 2 #[true,true,true,true,true,true,true,true,true,true,true,true,false,false] {tmps:=#[A0,A1,A2, .pointer (some ⟨bt,0,none⟩),A4,A5,A6,A7, .int .i64 (x:Int), .pointer (some ⟨n9,0,none⟩), .pointer (some ⟨n10,0,none⟩),A11,A12,A13,A14,c15,c16, .agg #[.int .i64 X, .int .i64 Y],c18,c19,jy,c21,c22,c23, .agg #[.int .i64 lp, .int .i64 lq],undef,undef,undef,undef,undef,undef,undef,undef,undef,undef,undef,undef,undef,undef,undef,undef,undef],defers:=[]} V:=by
 have k9:=F.c9 n9 rfl;have k10:=F.rS n10 rfl;have hne:=F.ne n9 n10 rfl rfl;have e0:V.cell? ⟨n9,0,none⟩=some (.int .i64 0):=by rw[cM k9.2];rfl
 have e1:V.cell? ⟨n9,1,none⟩=some (.int .i64 0):=by rw[cM k9.2];rfl
 have ef: ∀o,V.frozen? ⟨n9,o,none⟩=false:=fun o=>kQ k9.2 o;have F4a:Hid (F4 W ((((V.setCell ⟨n9,0,none⟩ (.int .i64 X)).setCell ⟨n9,1,none⟩ (.int .i64 Y)).setCell ⟨n10,0,none⟩ (.int .i64 lp)).setCell ⟨n10,1,none⟩ (.int .i64 lq)) n9 n10 X Y lp lq):=by
  have s1:(V.setCell ⟨n9,0,none⟩ (.int .i64 X)).heap[n9]? =some (.cells #[.int .i64 X, .int .i64 0] 130 (0,0)):=by rw[heap_set k9.2];rfl
  have s2:((V.setCell ⟨n9,0,none⟩ (.int .i64 X)).setCell ⟨n9,1,none⟩ (.int .i64 Y)).heap[n9]? =some (.cells #[.int .i64 X, .int .i64 Y] 130 (0,0)):=by rw[heap_set s1];rfl
  have t0:((V.setCell ⟨n9,0,none⟩ (.int .i64 X)).setCell ⟨n9,1,none⟩ (.int .i64 Y)).heap[n10]? =some (.cells #[.int .i64 0, .int .i64 0] 130 (0,0)):=by rw[dD _ _ _ _ (Ne.symm hne),dD _ _ _ _ (Ne.symm hne)];exact k10.2
  have t1:(((V.setCell ⟨n9,0,none⟩ (.int .i64 X)).setCell ⟨n9,1,none⟩ (.int .i64 Y)).setCell ⟨n10,0,none⟩ (.int .i64 lp)).heap[n10]? =some (.cells #[.int .i64 lp, .int .i64 0] 130 (0,0)):=by rw[heap_set t0];rfl
  refine⟨(((F.bF.setCell k9.1 _).setCell k9.1 _).setCell k10.1 _).setCell k10.1 _,k9.1,k10.1,hne,?_,?_⟩
  ·rw[dD _ _ _ _ hne,dD _ _ _ _ hne];exact s2
  ·rw[heap_set t1];rfl
 have B0:Hid (Below W.heap.size W V):=F.bF;have HK:Hid (W.heap.size<=n9/\W.heap.size<=n10):=⟨k9.1,k10.1⟩;have g0:V.cell? ⟨n10,0,none⟩=some (.int .i64 0):=by rw[cM k10.2];rfl
 have g1:V.cell? ⟨n10,1,none⟩=some (.int .i64 0):=by rw[cM k10.2];rfl
 have gf: ∀o,V.frozen? ⟨n10,o,none⟩=false:=fun o=>kQ k10.2 o;have hne':n10≠n9:=Ne.symm hne;clear F k9 k10;refine wpAnyH_ready (rs:=[12]) (by kernel_rfl) (by simp) ?_;refine AllReadyH.cons (o:={dst:=none,op:=Op.store 130 (Operand.tmp 9) (Operand.tmp 17),type:=0,pos:= "groups.go:240",after:=#[{on:=10,ground:=Ground.data},{on:=2,ground:=Ground.data},{on:=2,ground:=Ground.chain},{on:=0,ground:=Ground.phase},{on:=1,ground:=Ground.phase},{on:=2,ground:=Ground.phase},{on:=3,ground:=Ground.textOnly Departure.lateStores},{on:=4,ground:=Ground.textOnly Departure.lateStores},{on:=5,ground:=Ground.textOnly Departure.lateStores},{on:=6,ground:=Ground.textOnly Departure.lateStores},{on:=7,ground:=Ground.textOnly Departure.lateStores},{on:=8,ground:=Ground.textOnly Departure.lateStores},{on:=9,ground:=Ground.textOnly Departure.lateStores},{on:=10,ground:=Ground.phase},{on:=11,ground:=Ground.phase}],guard:=none}) rfl (fun K hK=>?_) AllReadyH.nil;go_simp
 refine hK.out _ _ ((B0.out.setCell HK.out.1 _).setCell HK.out.1 _) (fun _=>?_);clear hK K;refine wpAnyH_ready (rs:=[13]) (by kernel_rfl) (by simp) ?_;refine AllReadyH.cons (o:={dst:=none,op:=Op.store 130 (Operand.tmp 10) (Operand.tmp 24),type:=0,pos:= "groups.go:240",after:=#[{on:=11,ground:=Ground.data},{on:=9,ground:=Ground.data},{on:=12,ground:=Ground.chain},{on:=0,ground:=Ground.phase},{on:=1,ground:=Ground.phase},{on:=2,ground:=Ground.phase},{on:=3,ground:=Ground.phase},{on:=4,ground:=Ground.phase},{on:=5,ground:=Ground.phase},{on:=6,ground:=Ground.phase},{on:=7,ground:=Ground.phase},{on:=8,ground:=Ground.phase},{on:=9,ground:=Ground.phase},{on:=10,ground:=Ground.phase},{on:=11,ground:=Ground.phase},{on:=12,ground:=Ground.phase}],guard:=none}) rfl (fun K hK=>?_) AllReadyH.nil;go_simp
 refine hK.out _ _ F4a.out.bF (fun _=>?_);clear hK K;exact wpAnyH_done (by kernel_rfl) (hQ _ _ _ _ _ _ _ _ _ _ _ _ _ F4a.out) _
theorem KR {Q:Exit->Act->World->Prop}{W:World}{n l b bt x:Nat}{t:Nat->Gp}{Wy:Nat->List (Fin 10)}{A0 A1 A2 A4 A5 A6 A7 A11 A12 A13 A14:Value}(hL: ¬LetsOut Q)(hP: ∀c (a:Act) d v w,Q (.panic c) (a.put d v) w->Q (.panic c) a w)
  (hTW:bd W b t) (hW:gQ t Wy) (hS:Small t) (hx:x<10) (d0:W.cell? ⟨bt,0,none⟩=some (.pointer (some ⟨b,0,none⟩)))
  (hQ: ∀(n9 n10:Nat) (V:World) (c15 c16 c17 c18 c19 jy c21 c22 c23 c24:Value),F4 W V n9 n10 (cU t Wy x Gp.op 10) (cU t Wy x Gp.oq 10) (t x).lp (t x).lq->Q .normal {tmps:=#[A0,A1,A2, .pointer (some ⟨bt,0,none⟩),A4,A5,A6,A7, .int .i64 (x:Int), .pointer (some ⟨n9,0,none⟩), .pointer (some ⟨n10,0,none⟩),A11,A12,A13,A14,c15,c16,c17,c18,c19,jy,c21,c22,c23,c24,undef,undef,undef,undef,undef,undef,undef,undef,undef,undef,undef,undef,undef,undef,undef,undef,undef],defers:=[]} V):
  (Code.region 3 tL true).wpIn (Fence.wide.inRound l) n Tryz.prog Q {tmps:=#[A0,A1,A2, .pointer (some ⟨bt,0,none⟩),A4,A5,A6,A7, .int .i64 (x:Int),undef,undef,A11,A12,A13,A14,undef,undef,undef,undef,undef,undef,undef,undef,undef,undef,undef,undef,undef,undef,undef,undef,undef,undef,undef,undef,undef,undef,undef,undef,undef,undef,undef],defers:=[]} W:=by
 have hbl:=hTW.lt;have hbtl:bt<W.heap.size:=World.block_lt_of_cell? _ _ d0;have d1:W.cell? ⟨b,x*6+2,none⟩=some (.int .i64 (t x).lp):=hTW.cell x 2 hx (by omega);have d2:W.cell? ⟨b,x*6+2+1,none⟩=some (.int .i64 (t x).lq):=hTW.cell x 3 hx (by omega);have HC: ∀V,Below W.heap.size W V->V.cell? ⟨bt,0,none⟩=some (.pointer (some ⟨b,0,none⟩))/\V.cell? ⟨b,x*6+2,none⟩=some (.int .i64 (t x).lp)/\V.cell? ⟨b,x*6+2+1,none⟩=some (.int .i64 (t x).lq):=fun V h=>⟨(h.cell (p:=⟨bt,0,none⟩) hbtl).trans d0,(h.cell (p:=⟨b,x*6+2,none⟩) hbl).trans d1,(h.cell (p:=⟨b,x*6+2+1,none⟩) hbl).trans d2⟩;have hxI:(x:Int)<10:=by omega
 have hS0:Below W.heap.size W W.drew:=(Below.refl _ _).drew;have F0:F3 W W.drew none none:=⟨hS0,by nofun,by nofun,by nofun⟩;refine tZ (S:=fun V=>Below W.heap.size W V) (by kernel_rfl) ?_ hL ?_
 ·have hall: ∀o∈tL.toList,∀c,o.op≠ .defer c:=by
   intro o ho c;simp only[tL,List.mem_cons,List.not_mem_nil,or_false]at ho;rcases ho with rfl|rfl|rfl|rfl|rfl|rfl|rfl|rfl|rfl|rfl|rfl|rfl|rfl|rfl<;>simp
  intro i o ho;exact hall o (by simpa using Array.mem_of_getElem? ho)
 generalize W.drew=V0 at*;dsimp only;refine wpAnyH_take (i:=0) (oi:={dst:=some 15,op:=Op.load 79 (Operand.tmp 3),type:=79,pos:= "groups.go:240",after:=#[],guard:=none}) (v:=?_) rfl (by kernel_rfl) (by kernel_rfl) (by kernel_rfl) (fun _ _ _ h=>hP _ _ _ _ _ h) (Or.inl ⟨by rfl,?_⟩) hS0 ?_
 rotate_left
 ·intro V hV;obtain⟨c0,c1,c2⟩:=HC V hV;clear hV;go_simp
  try with_reducible rfl
 simp only[Act.put,List.setIfInBounds_toArray,List.set_cons_zero,List.set_cons_succ];refine wpAnyH_take (i:=1) (oi:={dst:=some 16,op:=Op.move (Operand.tmp 8),type:=3,pos:= "groups.go:240",after:=#[],guard:=none}) (v:=?_) rfl (by kernel_rfl) (by kernel_rfl) (by kernel_rfl) (fun _ _ _ h=>hP _ _ _ _ _ h) (Or.inl ⟨by rfl,?_⟩) hS0 ?_
 rotate_left
 ·intro V hV;obtain⟨c0,c1,c2⟩:=HC V hV;clear hV;go_simp
  try with_reducible rfl
 simp only[Act.put,List.setIfInBounds_toArray,List.set_cons_zero,List.set_cons_succ];refine wpAnyH_take (i:=3) (oi:={dst:=some 18,op:=Op.load 79 (Operand.tmp 3),type:=79,pos:= "groups.go:240",after:=#[{on:=12,ground:=Ground.gcOnly Departure.lateStores}],guard:=none}) (v:=?_) rfl (by kernel_rfl) (by kernel_rfl) (by kernel_rfl) (fun _ _ _ h=>hP _ _ _ _ _ h) (Or.inl ⟨by rfl,?_⟩) hS0 ?_
 rotate_left
 ·intro V hV;obtain⟨c0,c1,c2⟩:=HC V hV;clear hV;go_simp
  try with_reducible rfl
 simp only[Act.put,List.setIfInBounds_toArray,List.set_cons_zero,List.set_cons_succ];refine wpAnyH_take (i:=4) (oi:={dst:=some 19,op:=Op.move (Operand.tmp 8),type:=3,pos:= "groups.go:240",after:=#[{on:=12,ground:=Ground.gcOnly Departure.lateStores}],guard:=none}) (v:=?_) rfl (by kernel_rfl) (by kernel_rfl) (by kernel_rfl) (fun _ _ _ h=>hP _ _ _ _ _ h) (Or.inl ⟨by rfl,?_⟩) hS0 ?_
 rotate_left
 ·intro V hV;obtain⟨c0,c1,c2⟩:=HC V hV;clear hV;go_simp
  try with_reducible rfl
 simp only[Act.put,List.setIfInBounds_toArray,List.set_cons_zero,List.set_cons_succ];refine wpAnyH_take (i:=5) (oi:={dst:=some 20,op:=Op.nilCheck (Operand.tmp 18),type:=0,pos:= "groups.go:240",after:=#[{on:=3,ground:=Ground.data},{on:=12,ground:=Ground.gcOnly Departure.lateStores}],guard:=none}) (v:=?_) rfl (by kernel_rfl) (by kernel_rfl) (by kernel_rfl) (fun _ _ _ h=>hP _ _ _ _ _ h) (Or.inl ⟨by rfl,?_⟩) hS0 ?_
 rotate_left
 ·intro V hV;obtain⟨c0,c1,c2⟩:=HC V hV;clear hV;go_simp
  try with_reducible rfl
 simp only[Act.put,List.setIfInBounds_toArray,List.set_cons_zero,List.set_cons_succ];refine wpAnyH_take (i:=6) (oi:={dst:=some 21,op:=Op.fieldAddr 135 (Operand.tmp 20) 0,type:=0,pos:= "groups.go:240",after:=#[{on:=5,ground:=Ground.data},{on:=12,ground:=Ground.gcOnly Departure.lateStores}],guard:=none}) (v:=?_) rfl (by kernel_rfl) (by kernel_rfl) (by kernel_rfl) (fun _ _ _ h=>hP _ _ _ _ _ h) (Or.inl ⟨by rfl,?_⟩) hS0 ?_
 rotate_left
 ·intro V hV;obtain⟨c0,c1,c2⟩:=HC V hV;clear hV;go_simp
  try with_reducible rfl
 simp only[Act.put,List.setIfInBounds_toArray,List.set_cons_zero,List.set_cons_succ];refine wpAnyH_take (i:=7) (oi:={dst:=some 22,op:=Op.indexAddr 133 (Operand.tmp 21) (Operand.tmp 19),type:=0,pos:= "groups.go:240",after:=#[{on:=6,ground:=Ground.data},{on:=4,ground:=Ground.data},{on:=12,ground:=Ground.gcOnly Departure.lateStores}],guard:=none}) (v:=?_) rfl (by kernel_rfl) (by kernel_rfl) (by kernel_rfl) (fun _ _ _ h=>hP _ _ _ _ _ h) (Or.inl ⟨by rfl,?_⟩) hS0 ?_
 rotate_left
 ·intro V hV;obtain⟨c0,c1,c2⟩:=HC V hV;clear hV;go_simp
  try with_reducible rfl
 simp only[Act.put,List.setIfInBounds_toArray,List.set_cons_zero,List.set_cons_succ];refine wpAnyH_take (i:=8) (oi:={dst:=some 23,op:=Op.fieldAddr 132 (Operand.tmp 22) 2,type:=0,pos:= "groups.go:240",after:=#[{on:=7,ground:=Ground.data},{on:=12,ground:=Ground.gcOnly Departure.lateStores}],guard:=none}) (v:=?_) rfl (by kernel_rfl) (by kernel_rfl) (by kernel_rfl) (fun _ _ _ h=>hP _ _ _ _ _ h) (Or.inl ⟨by rfl,?_⟩) hS0 ?_
 rotate_left
 ·intro V hV;obtain⟨c0,c1,c2⟩:=HC V hV;clear hV;go_simp
  try with_reducible rfl
 simp only[Act.put,List.setIfInBounds_toArray,List.set_cons_zero,List.set_cons_succ];refine wpAnyH_take (i:=9) (oi:={dst:=some 24,op:=Op.load 130 (Operand.tmp 23),type:=130,pos:= "groups.go:240",after:=#[{on:=8,ground:=Ground.data},{on:=12,ground:=Ground.gcOnly Departure.lateStores}],guard:=none}) (v:=?_) rfl (by kernel_rfl) (by kernel_rfl) (by kernel_rfl) (fun _ _ _ h=>hP _ _ _ _ _ h) (Or.inl ⟨by rfl,?_⟩) hS0 ?_
 rotate_left
 ·intro V hV;obtain⟨c0,c1,c2⟩:=HC V hV;clear hV;go_simp
  try with_reducible rfl
 simp only[Act.put,List.setIfInBounds_toArray,List.set_cons_zero,List.set_cons_succ];refine wpAnyH_ready (rs:=[2,10,11]) (by kernel_rfl) (by simp) ?_;refine AllReadyH.cons (o:={dst:=some 17,op:=Op.call {callee:=Callee.value (Operand.func 97),args:=#[Operand.tmp 15,Operand.tmp 16],argTypes:=#[79,3]},type:=130,pos:= "groups.go:240",after:=#[{on:=0,ground:=Ground.data},{on:=1,ground:=Ground.data}],guard:=none}) rfl (fun K hK=>?_) ?_
 ·go_simp
  refine(mY b x t Wy _ (hTW.below F0.bF hbl) hW hS).mono ?_;rintro e V1 ⟨rfl,hb⟩;have F1:=F0.call hb;refine hK.out _ _ F1.bF (fun _=>?_);clear hK K;clear hb
  try simp only[Act.put,List.setIfInBounds_toArray,List.set_cons_zero,List.set_cons_succ]
  refine wpAnyH_ready (rs:=[10,11]) (by kernel_rfl) (by simp) ?_;refine AllReadyH.cons (o:={dst:=some 9,op:=Op.alloc 130,type:=0,pos:= "groups.go:240",after:=#[],guard:=none}) rfl (fun K hK=>?_) ?_
  ·go_simp
   have F2:=F1.IK;refine hK.out _ _ F2.bF (fun _=>?_);clear hK K;generalize World.alloc V1 _=V2 at F2|-;generalize V1.heap.size=n9 at F2|-
   try simp only[Act.put,List.setIfInBounds_toArray,List.set_cons_zero,List.set_cons_succ]
   refine wpAnyH_ready (rs:=[11]) (by kernel_rfl) (by simp) ?_;refine AllReadyH.cons (o:={dst:=some 10,op:=Op.alloc 130,type:=0,pos:= "groups.go:240",after:=#[],guard:=none}) rfl (fun K hK=>?_) ?_
   ·go_simp
    have F3:=F2.Au;refine hK.out _ _ F3.bF (fun _=>?_);clear hK K;generalize World.alloc V2 _=V3 at F3|-;generalize V2.heap.size=n10 at F3|-
    try simp only[Act.put,List.setIfInBounds_toArray,List.set_cons_zero,List.set_cons_succ]
    exact lK hQ F3
   exact AllReadyH.nil
  refine AllReadyH.cons (o:={dst:=some 10,op:=Op.alloc 130,type:=0,pos:= "groups.go:240",after:=#[],guard:=none}) rfl (fun K hK=>?_) ?_
  ·go_simp
   have F2:=F1.Au;refine hK.out _ _ F2.bF (fun _=>?_);clear hK K;generalize World.alloc V1 _=V2 at F2|-;generalize V1.heap.size=n10 at F2|-
   try simp only[Act.put,List.setIfInBounds_toArray,List.set_cons_zero,List.set_cons_succ]
   refine wpAnyH_ready (rs:=[10]) (by kernel_rfl) (by simp) ?_;refine AllReadyH.cons (o:={dst:=some 9,op:=Op.alloc 130,type:=0,pos:= "groups.go:240",after:=#[],guard:=none}) rfl (fun K hK=>?_) ?_
   ·go_simp
    have F3:=F2.IK;refine hK.out _ _ F3.bF (fun _=>?_);clear hK K;generalize World.alloc V2 _=V3 at F3|-;generalize V2.heap.size=n9 at F3|-
    try simp only[Act.put,List.setIfInBounds_toArray,List.set_cons_zero,List.set_cons_succ]
    exact lK hQ F3
   exact AllReadyH.nil
  exact AllReadyH.nil
 refine AllReadyH.cons (o:={dst:=some 9,op:=Op.alloc 130,type:=0,pos:= "groups.go:240",after:=#[],guard:=none}) rfl (fun K hK=>?_) ?_
 ·go_simp
  have F1:=F0.IK;refine hK.out _ _ F1.bF (fun _=>?_);clear hK K;generalize World.alloc V0 _=V1 at F1|-;generalize V0.heap.size=n9 at F1|-
  try simp only[Act.put,List.setIfInBounds_toArray,List.set_cons_zero,List.set_cons_succ]
  refine wpAnyH_ready (rs:=[2,11]) (by kernel_rfl) (by simp) ?_;refine AllReadyH.cons (o:={dst:=some 17,op:=Op.call {callee:=Callee.value (Operand.func 97),args:=#[Operand.tmp 15,Operand.tmp 16],argTypes:=#[79,3]},type:=130,pos:= "groups.go:240",after:=#[{on:=0,ground:=Ground.data},{on:=1,ground:=Ground.data}],guard:=none}) rfl (fun K hK=>?_) ?_
  ·go_simp
   refine(mY b x t Wy _ (hTW.below F1.bF hbl) hW hS).mono ?_;rintro e V2 ⟨rfl,hb⟩;have F2:=F1.call hb;refine hK.out _ _ F2.bF (fun _=>?_);clear hK K;clear hb
   try simp only[Act.put,List.setIfInBounds_toArray,List.set_cons_zero,List.set_cons_succ]
   refine wpAnyH_ready (rs:=[11]) (by kernel_rfl) (by simp) ?_;refine AllReadyH.cons (o:={dst:=some 10,op:=Op.alloc 130,type:=0,pos:= "groups.go:240",after:=#[],guard:=none}) rfl (fun K hK=>?_) ?_
   ·go_simp
    have F3:=F2.Au;refine hK.out _ _ F3.bF (fun _=>?_);clear hK K;generalize World.alloc V2 _=V3 at F3|-;generalize V2.heap.size=n10 at F3|-
    try simp only[Act.put,List.setIfInBounds_toArray,List.set_cons_zero,List.set_cons_succ]
    exact lK hQ F3
   exact AllReadyH.nil
  refine AllReadyH.cons (o:={dst:=some 10,op:=Op.alloc 130,type:=0,pos:= "groups.go:240",after:=#[],guard:=none}) rfl (fun K hK=>?_) ?_
  ·go_simp
   have F2:=F1.Au;refine hK.out _ _ F2.bF (fun _=>?_);clear hK K;generalize World.alloc V1 _=V2 at F2|-;generalize V1.heap.size=n10 at F2|-
   try simp only[Act.put,List.setIfInBounds_toArray,List.set_cons_zero,List.set_cons_succ]
   refine wpAnyH_ready (rs:=[2]) (by kernel_rfl) (by simp) ?_;refine AllReadyH.cons (o:={dst:=some 17,op:=Op.call {callee:=Callee.value (Operand.func 97),args:=#[Operand.tmp 15,Operand.tmp 16],argTypes:=#[79,3]},type:=130,pos:= "groups.go:240",after:=#[{on:=0,ground:=Ground.data},{on:=1,ground:=Ground.data}],guard:=none}) rfl (fun K hK=>?_) ?_
   ·go_simp
    refine(mY b x t Wy _ (hTW.below F2.bF hbl) hW hS).mono ?_;rintro e V3 ⟨rfl,hb⟩;have F3:=F2.call hb;refine hK.out _ _ F3.bF (fun _=>?_);clear hK K;clear hb
    try simp only[Act.put,List.setIfInBounds_toArray,List.set_cons_zero,List.set_cons_succ]
    exact lK hQ F3
   exact AllReadyH.nil
  exact AllReadyH.nil
 refine AllReadyH.cons (o:={dst:=some 10,op:=Op.alloc 130,type:=0,pos:= "groups.go:240",after:=#[],guard:=none}) rfl (fun K hK=>?_) ?_
 ·go_simp
  have F1:=F0.Au;refine hK.out _ _ F1.bF (fun _=>?_);clear hK K;generalize World.alloc V0 _=V1 at F1|-;generalize V0.heap.size=n10 at F1|-
  try simp only[Act.put,List.setIfInBounds_toArray,List.set_cons_zero,List.set_cons_succ]
  refine wpAnyH_ready (rs:=[2,10]) (by kernel_rfl) (by simp) ?_;refine AllReadyH.cons (o:={dst:=some 17,op:=Op.call {callee:=Callee.value (Operand.func 97),args:=#[Operand.tmp 15,Operand.tmp 16],argTypes:=#[79,3]},type:=130,pos:= "groups.go:240",after:=#[{on:=0,ground:=Ground.data},{on:=1,ground:=Ground.data}],guard:=none}) rfl (fun K hK=>?_) ?_
  ·go_simp
   refine(mY b x t Wy _ (hTW.below F1.bF hbl) hW hS).mono ?_;rintro e V2 ⟨rfl,hb⟩;have F2:=F1.call hb;refine hK.out _ _ F2.bF (fun _=>?_);clear hK K;clear hb
   try simp only[Act.put,List.setIfInBounds_toArray,List.set_cons_zero,List.set_cons_succ]
   refine wpAnyH_ready (rs:=[10]) (by kernel_rfl) (by simp) ?_;refine AllReadyH.cons (o:={dst:=some 9,op:=Op.alloc 130,type:=0,pos:= "groups.go:240",after:=#[],guard:=none}) rfl (fun K hK=>?_) ?_
   ·go_simp
    have F3:=F2.IK;refine hK.out _ _ F3.bF (fun _=>?_);clear hK K;generalize World.alloc V2 _=V3 at F3|-;generalize V2.heap.size=n9 at F3|-
    try simp only[Act.put,List.setIfInBounds_toArray,List.set_cons_zero,List.set_cons_succ]
    exact lK hQ F3
   exact AllReadyH.nil
  refine AllReadyH.cons (o:={dst:=some 9,op:=Op.alloc 130,type:=0,pos:= "groups.go:240",after:=#[],guard:=none}) rfl (fun K hK=>?_) ?_
  ·go_simp
   have F2:=F1.IK;refine hK.out _ _ F2.bF (fun _=>?_);clear hK K;generalize World.alloc V1 _=V2 at F2|-;generalize V1.heap.size=n9 at F2|-
   try simp only[Act.put,List.setIfInBounds_toArray,List.set_cons_zero,List.set_cons_succ]
   refine wpAnyH_ready (rs:=[2]) (by kernel_rfl) (by simp) ?_;refine AllReadyH.cons (o:={dst:=some 17,op:=Op.call {callee:=Callee.value (Operand.func 97),args:=#[Operand.tmp 15,Operand.tmp 16],argTypes:=#[79,3]},type:=130,pos:= "groups.go:240",after:=#[{on:=0,ground:=Ground.data},{on:=1,ground:=Ground.data}],guard:=none}) rfl (fun K hK=>?_) ?_
   ·go_simp
    refine(mY b x t Wy _ (hTW.below F2.bF hbl) hW hS).mono ?_;rintro e V3 ⟨rfl,hb⟩;have F3:=F2.call hb;refine hK.out _ _ F3.bF (fun _=>?_);clear hK K;clear hb
    try simp only[Act.put,List.setIfInBounds_toArray,List.set_cons_zero,List.set_cons_succ]
    exact lK hQ F3
   exact AllReadyH.nil
  exact AllReadyH.nil
 exact AllReadyH.nil
end Go.Proofs.YtpmmdkcfenjiaaaGreatDoor.Gr

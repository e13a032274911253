import Derived.RangeFuncNested
import Derived.RangeFuncBound
import Derived.Shelf.RegionOpen
import Derived.OwnWalkIn
import Derived.LoopNIn
import Derived.LoopIn
import Derived.Test.YtpmmdkcfenjiaaaGreatDoorUad
set_option maxRecDepth 100000
set_option maxHeartbeats 4000000
set_option linter.unusedVariables false
set_option linter.unusedSimpArgs false
namespace Go.Proofs.YtpmmdkcfenjiaaaGreatDoor
open Value renaming int->aa,pointer->ai,slice->aj,tuple->ao,iface->aq,bool->ar,agg->au,nilIface->ay
open IntKind renaming i64->az
open Ending renaming returned->bf
open Obj renaming cells->bg
open Option renaming some->bh,none->bj
open Tryz (prog)
open Go.RowKit
structure LO (w:bD)(L:List Nat)(v:Value)(wr:bD):Prop where
 cM:Below w.heap.size w wr
 own:wr.ownsRow w.heap.size 3 1 v L.length (rowOf L)
theorem LO.nil(w:bD):LO w [] (aj bj 0 0) w:=⟨aQ _ _,World.ownsRow_nil _ _ _ _⟩
theorem LO.more{w w1 wr:bD}{L:List Nat}{gg cap N x:Nat}{l:Value}(h:LO w L l wr)(hN:L.length=N)(hl:w1.ownsRow w.heap.size 3 1 (aj (bh ⟨gg,0,bj⟩) (N+1) cap) (N+1) (rowOf L++[aa az x]))(o:Obj)(hg:(wr.alloc o).grownBy w1 l.ownBlock):
  LO w (L++[x]) (aj (bh ⟨gg,0,bj⟩) (N+1) cap) w1:=by
 have hs:=h.cM.size;refine⟨(h.cM.alloc hs o).grown hg (by simp;omega) (λk e=>(h.own.lt k e).1),?_⟩;have e2:rowOf (L++[x])=rowOf L++[aa az x]:=by simp[rowOf]
 rw[e2,show(L++[x]).length=N+1 by simp[hN]];exact hl
theorem LO.cells{u w:bD}{L:List Nat}{v:Value}(h:LO u L v w)(hl:0<L.length):∃gg cap,v=aj (bh ⟨gg,0,bj⟩) L.length cap/\gg<w.heap.size/\∀i,i<L.length->w.cell? ⟨gg,0+i,bj⟩=bh (aa az ((L.getD i 0:Nat):Int)):=by
 have ho:=h.own;obtain⟨gg,cap,hv,_,hg⟩:=ho.form hl;refine⟨gg,cap,hv,hg,λi hi=>?_⟩;rw[hv]at ho;rw[Nat.zero_add,ho.cellAt i bu];exact Na _ _ _ (by rw[aF,aW hi];rfl)
end Go.Proofs.YtpmmdkcfenjiaaaGreatDoor
namespace Go.Proofs.YtpmmdkcfenjiaaaGreatDoor.Gr
open Value renaming int->aa,pointer->ai,slice->aj,tuple->ao,iface->aq,bool->ar,agg->au,nilIface->ay
open IntKind renaming i64->az
open Ending renaming returned->bf
open Obj renaming cells->bg
open Option renaming some->bh,none->bj
open Tryz (prog)
open Go.RowKit
theorem cZ{W:bD}{b:Nat}{c:Array Value}{t:TypeId}(h:W.heap[b]? =bh (bg c t (0,0)))(o:Nat):W.cell? ⟨b,o,bj⟩=c[o]? :=by simp[World.cell?,h]
theorem j4{W:bD}{b:Nat}{c:Array Value}{t:TypeId}(h:W.heap[b]? =bh (bg c t (0,0)))(o:Nat):W.frozen? ⟨b,o,bj⟩=false:=by simp[World.frozen?,h]
theorem heap_set{W:bD}{b:Nat}{c:Array Value}{t:TypeId}(h:W.heap[b]? =bh (bg c t (0,0)))(o:Nat)(v:Value):(W.setCell ⟨b,o,bj⟩ v).heap[b]? =bh (bg (c.setIfInBounds o v) t (0,0)):=by
 simp[World.setCell,Array.getElem?_modify,h]
open Go.RowKit Go.Shelf
structure Gp where
 there:Bool
 par:Int
 lp:Int
 lq:Int
 op:Int
 oq:Int
def Gp.cell(g:Gp):Nat->Value
 |0=>ar g.there
 |1=>aa az g.par
 |2=>aa az g.lp
 |3=>aa az g.lq
 |4=>aa az g.op
 |_=>aa az g.oq
def gi(t:Nat->Gp):Array Value:=((List.range 60).map λi=>(t (i/6)).cell (i%6)).toArray
theorem gv(t:Nat->Gp):(gi t).size=60:=by simp[gi]
theorem nu(t:Nat->Gp)(n j:Nat)(hn:n<10)(hj:j<6):(gi t)[n*6+j]? =bh ((t n).cell j):=by
 have e1:(n*6+j)/6=n:=bu
 have e2:(n*6+j)%6=j:=bu
 have e3:n*6+j<60:=bu
 simp[gi,e3,e1,e2]
theorem vZ(t:Nat->Gp)(c:Array Value)(hs:c.size=60)(h:∀n j,n<10->j<6->c[n*6+j]? =bh ((t n).cell j)):c=gi t:=by
 apply bL;intro i;rcases Nat.lt_or_ge i 60 with hi|hi
 .have e:i=i/6*6+i%6:=bu
  rw[e,h (i/6) (i%6) bu bu,nu t (i/6) (i%6) bu bu]
 .rw[aR bu,aR (by rw[gv];omega)]
def bP(w:bD)(b:Nat)(t:Nat->Gp):Prop:=w.heap[b]? =bh (bg (gi t) 135 (0,0))
def gm(t:Nat->Gp)(n:Nat)(g:Gp):Nat->Gp:=λk=>if k=n then g else t k
theorem fa(t:Nat->Gp)(n:Nat)(g:Gp):gm t n g n=g:=by simp[gm]
theorem fO(t:Nat->Gp)(n k:Nat)(g:Gp)(h:k≠n):gm t n g k=t k:=by simp[gm,h]
section
variable {w:bD}{b:Nat}{t:Nat->Gp}
theorem bP.cell(h:bP w b t)(n j:Nat)(hn:n<10)(hj:j<6):w.cell? ⟨b,n*6+j,bj⟩=bh ((t n).cell j):=by rw[cZ h,nu t n j hn hj]
theorem bP.frozen(h:bP w b t)(o:Nat):w.frozen? ⟨b,o,bj⟩=false:=j4 h o
theorem bP.drew(h:bP w b t):bP w.drew b t:=h
theorem bP.below{w':bD}(h:bP w b t){B:Nat}(hB:Below B w w')(hb:b<B):bP w' b t:=(hB.block b hb).trans h
theorem bP.lt(h:bP w b t):b<w.heap.size:=(aX.1 h).1
theorem bP.set(h:bP w b t)(n j:Nat)(hn:n<10)(hj:j<6)(v:Value)(g:Gp)(hg:∀i,i<6->g.cell i=if i=j then v else(t n).cell i):bP (w.setCell ⟨b,n*6+j,bj⟩ v) b (gm t n g):=by
 unfold bP;rw[heap_set h];refine congrArg (λc=>bh (bg c 135 (0,0))) ?_;refine vZ _ _ (by simp[gv]) λm i hm hi=>?_;by_cases e:m=n
 .subst e;rw[fa,hg i hi];by_cases e2:i=j
  .subst e2;rw[aE (by rw[gv];omega),aJ rfl]
  .rw[aU bu,nu t m i hm hi,aI e2]
 .rw[fO _ _ _ _ e,aU bu,nu t m i hm hi]
end
def valid(t:Nat->Gp)(g:Int):Prop:=0<=g/\g<10/\(t g.toNat).there=true
def Way(t:Nat->Gp):Int->List Nat->Prop
 |g,[]=>¬valid t g
 |g,x::L=>g=x/\x<10/\(t x).there=true/\Way t (t x).par L
theorem Way.unique{t:Nat->Gp}:∀{g:Int} {L M:List Nat},Way t g L->Way t g M->L=M
 |_,[],[],_,_=>rfl
 |g,[],x::M,h,⟨e,h1,h2,_⟩=>aZ ⟨by omega,bu,by rw[e];exact h2⟩ h
 |g,x::L,[],⟨e,h1,h2,_⟩,h=>aZ ⟨by omega,bu,by rw[e];exact h2⟩ h
 |g,x::L,y::M,⟨e,_,_,h⟩,⟨e',_,_,h'⟩=>by
  obtain rfl:x=y:=bu
  rw[Way.unique h h']
theorem uP(b:Nat)(g:Int)(w:bD)(hg:g<0\/10<=g):Calls prog 96 #[ai (bh ⟨b,0,bj⟩),aa az g] w λe w'=>e=bf (aq 100 (aa .i64 1))/\w'=w:=by
 by_cases h:g<0
 .go_in
  go_wp2
  go_ret
  exact⟨rfl,rfl⟩
 .have h1:decide (g<0)=false:=by simp;omega
  have h2:10<=g:=bu
  go_in
  go_wp2
  go_ret
  exact⟨rfl,rfl⟩
theorem sX(b g:Nat)(t:Nat->Gp)(w:bD)(h:bP w b t)(hg:g<10)(hh:(t g).there=false):Calls prog 96 #[ai (bh ⟨b,0,bj⟩),aa az g] w λe w'=>e=bf (aq 100 (aa .i64 2))/\w'=w:=by
 have c:w.cell? ⟨b,g*6,bj⟩=bh (ar false):=by have:=h.cell g 0 hg bu;rw[show(t g).cell 0=ar (t g).there from rfl,hh]at this;exact this
 have h1:(g:Int)<10:=bu
 have h2:¬(10:Int)<=(g:Int):=bu
 go_in
 go_wp2
 go_ret
 exact⟨rfl,rfl⟩
theorem iE(b g:Nat)(t:Nat->Gp)(w:bD)(h:bP w b t)(hg:g<10)(hh:(t g).there=true):Calls prog 96 #[ai (bh ⟨b,0,bj⟩),aa az g] w λe w'=>e=bf ay/\w'=w:=by
 have c:w.cell? ⟨b,g*6,bj⟩=bh (ar true):=by have:=h.cell g 0 hg bu;rw[show(t g).cell 0=ar (t g).there from rfl,hh]at this;exact this
 have h1:(g:Int)<10:=bu
 have h2:¬(10:Int)<=(g:Int):=bu
 go_in
 go_wp2
 go_ret
 exact⟨rfl,rfl⟩
def wr(t:Nat->Gp)(g:Int):Int:=if g<0\/10<=g then 1 else if(t g.toNat).there=true then 0 else 2
theorem KM(b:Nat)(g:Int)(t:Nat->Gp)(w:bD)(h:bP w b t)(hg:¬valid t g):Calls prog 96 #[ai (bh ⟨b,0,bj⟩),aa az g] w λe w'=>(∃n,e=bf (aq 100 (aa az n)))/\w'=w:=by
 by_cases hb:g<0\/10<=g
 .exact(uP b g w hb).mono λe w' ⟨h1,h2⟩=>⟨⟨1,h1⟩,h2⟩
 .obtain⟨n,rfl⟩:=aG (show 0<=g by omega);have hf:(t n).there=false:=by
   cases hh:(t n).there
   .rfl
   .exact aZ ⟨by omega,bu,hh⟩ hg
  exact(sX b n t w h bu hf).mono λe w' ⟨h1,h2⟩=>⟨⟨2,h1⟩,h2⟩
theorem zv(b:Nat)(n:Int)(w:bD):Calls prog 216 #[ai (bh ⟨b,0,bj⟩),aa az n] w λe w'=>
  e=bf (.func (.func 267) #[] #[ai (bh ⟨w.heap.size+1,0,bj⟩),ai (bh ⟨w.heap.size,0,bj⟩)])/\w'=(w.alloc (bg #[ai (bh ⟨b,0,bj⟩)] 79)).alloc (bg #[aa az n] 3):=by
 go_in
 go_wp2
 go_ret
 exact⟨rfl,rfl⟩
attribute [local go_sem] Oper.semAt_some
def K2(b bt:Nat)(W W':bD):Prop:=W'.heap[b]? =W.heap[b]? /\W'.heap[bt]? =W.heap[bt]?
theorem K2.t{b bt:Nat}{A B C:bD}(h:K2 b bt A B)(k:K2 b bt B C):K2 b bt A C:=⟨k.1.trans h.1,k.2.trans h.2⟩
theorem K2.b{b bt:Nat}{w:bD}(h1:b<w.heap.size)(h2:bt<w.heap.size)(W:bD)(l:Nat)(o o':Obj)(hl:w.heap.size<=l)(_:W.heap[l]? =bh o)(_:o.isCells=false)(_:o.isWalk=false):K2 b bt W (W.putObj l o'):=
 ⟨World.putObj_heap_other bu,World.putObj_heap_other bu⟩
def jM(xs:List (Fin 10)):List Nat:=xs.map Fin.val
def vx(t:Nat->Gp)(v:Value):Nat->Nat
 |0=>0
 |f+1=>match v with
  |aa _ g=>if 0<=g/\g<10/\(t g.toNat).there=true then 1+vx t (aa az (t g.toNat).par) f else 0
  |_=>0
theorem wP{t:Nat->Gp}:∀{g:Int} {L:List Nat} (f:Nat),Way t g L->L.length<=f->vx t (aa az g) f=L.length
 |_,[],0,_,_=>rfl
 |g,[],f+1,h,_=>by
  unfold vx;exact aI h
 |g,x::L,0,_,hl=>by simp at hl
 |g,x::L,f+1,⟨e,hx,hh,h⟩,hl=>by
  have ih:=wP f h (by simpa using hl);subst e;unfold vx;have hv:(0:Int)<=(x:Int)/\(x:Int)<10/\(t (x:Int).toNat).there=true:=⟨by omega,bu,by rw[hZ];exact hh⟩;show(if(0:Int)<=(x:Int)/\(x:Int)<10/\(t (x:Int).toNat).there=true then 1+vx t (aa az (t (x:Int).toNat).par) f else 0)=_;rw[aJ hv,hZ,ih,List.length_cons];omega
theorem Qw(n:Nat)(hn:1<=n)(l bn bt b:Nat)(g0:Int)(t:Nat->Gp)(xs:List (Fin 10))(J Jx:List (Fin 10)->bD->Prop)
  (hY:∀pre x W,J pre W->pre.length<xs.length->YieldAt Fence.wide (n-1) prog l #[aa az (x.val:Int)] W λe W'=>
   (e=bf (ar true)/\J (pre++[x]) W'/\K2 b bt W W')\/(e=bf (ar false)/\Jx (pre++[x]) W'))
  (W:bD) (hbn:W.cell? ⟨bn,0,bj⟩=bh (aa az g0)) (hbt:W.heap[bt]? =bh (bg #[ai (bh ⟨b,0,bj⟩)] 79 (0,0))) (hT:bP W b t) (hL:Way t g0 (jM xs)) (h0:J [] W):
  CallsIn Fence.wide n prog 267 #[.func (.yield l) #[] #[],ai (bh ⟨bn,0,bj⟩),ai (bh ⟨bt,0,bj⟩)] W λe W'=>(∃v,e=bf v)/\
   ((∃ys,ys=xs/\J ys W')\/(∃pre,pre<+:xs/\Jx pre W')):=by
 refine callsIn_of_wp Tryz.func267 rfl trivial ?_ rfl;simp only[Tryz.ntmps267,List.size_toArray,List.length_cons,List.length_nil,Nat.reduceAdd,Nat.reduceSub,Array.replicate_succ,Array.replicate_zero,List.push_toArray,List.append_toArray,List.nil_append,List.cons_append]
 gi_wp2
 gi_loopw [4] (λp wr=>∃(pre rest:List (Fin 10)) (g:Int),p=aa az g/\xs=pre++rest/\Hid (Way t g (jM rest)/\bP wr b t/\wr.heap[bt]? =bh (bg #[ai (bh ⟨b,0,bj⟩)] 79 (0,0))/\J pre wr))
  (λp _=>vx t p xs.length)
 case atStart=>
  exact⟨[],xs,g0,rfl,rfl,hL,hT,hbt,h0⟩
 case round=>
  obtain⟨pre,rest,g,rfl,hx,H⟩:=hrel;have cb:wr.cell? ⟨bt,0,bj⟩=bh (ai (bh ⟨b,0,bj⟩)):=by rw[cZ H.2.2.1];rfl
  cases rest with
  |nil=>
   gi_wp2_with (refine⟨trivial,?_⟩;gi_at_call 96;refine(callsIn_wide.2 (KM b g t _ H.2.1 H.1)).mono ?_;rintro e w' ⟨⟨m,rfl⟩,rfl⟩)
   go_end0
   exact⟨⟨_,rfl⟩, .inl ⟨pre,by simp[hx],H.2.2.2⟩⟩
  |cons x rest=>
   obtain⟨e,hx10,hth,hrest⟩:=H.1;subst e;have hlen:(x::rest).length<=xs.length:=by rw[hx];simp
   obtain⟨fn,tmps,assign,body,hy,hR⟩:=hY pre x wr H.2.2.2 (by rw[hx];simp);have HT:Hid (bP wr b t):=H.2.1;have HB:Hid (wr.heap[bt]? =bh (bg #[ai (bh ⟨b,0,bj⟩)] 79 (0,0))):=H.2.2.1;have HR:Hid (Way t (t x.val).par (jM rest)):=hrest;have HTH:Hid ((t x.val).there=true):=hth;have HX:Hid (xs=pre++x::rest):=hx
   gi_wp2_with (refine⟨trivial,?_⟩;gi_at_call 96;refine(callsIn_wide.2 (iE b x.val t _ HT.v hx10 HTH.v)).mono ?_;rintro e w' ⟨rfl,rfl⟩)
   refine hR.mono ?_;rintro e W3 (⟨rfl,hJ3,hk3⟩|⟨rfl,hJx3⟩)
   .have T3:Hid (bP W3 b t):=hk3.1.trans HT.v;have B3:Hid (W3.heap[bt]? =bh (bg #[ai (bh ⟨b,0,bj⟩)] 79 (0,0))):=hk3.2.trans HB.v;have c3:W3.cell? ⟨bt,0,bj⟩=bh (ai (bh ⟨b,0,bj⟩)):=by rw[cZ B3.v];rfl
    have p3:W3.cell? ⟨b,x.val*6+1,bj⟩=bh (aa az (t x.val).par):=T3.cell x.val 1 hx10 bu;have hxI:(x.val:Int)<10:=bu
    have J3:Hid (J (pre++[x]) W3):=hJ3
    gi_wp2
    go_roundw
    case rel=>exact⟨pre++[x],rest,_,rfl,by rw[HX.v];simp,HR.v,T3.v,B3.v,J3.v⟩
    case measure=>
     rw[wP xs.length HR.v (by simp[jM]at hlen|-;omega),wP xs.length (L:=jM (x::rest)) ⟨rfl,hx10,HTH.v,HR.v⟩ (by simpa[jM]using hlen)];simp[jM]
   .gi_wp2
    refine bodyPost_ret (results_none rfl _ _ _) rfl ?_;exact⟨⟨_,rfl⟩, .inr ⟨pre++[x],⟨rest,by rw[HX.v];simp⟩,hJx3⟩⟩
theorem uM(n:Nat)(hn:1<=n)(bn bt b:Nat)(g0:Int)(t:Nat->Gp)(xs:List (Fin 10))(w:bD)(hbnl:bn<w.heap.size)(hbn:w.cell? ⟨bn,0,bj⟩=bh (aa az g0))(hbt:w.heap[bt]? =bh (bg #[ai (bh ⟨b,0,bj⟩)] 79 (0,0)))(hT:bP w b t)(hL:Way t g0 (jM xs)):
  SeqStopsK Fence.wide n prog 267 #[ai (bh ⟨bn,0,bj⟩),ai (bh ⟨bt,0,bj⟩)] (λx:Fin 10=>#[aa az (x.val:Int)]) (K2 b bt) (λys=>ys=xs) (λpre=>pre<+:xs) xs.length w:=λl J Jx W hW _ _ hY h0=>
 Qw n hn l bn bt b g0 t xs J Jx hY W ((hW.cell (p:=⟨bn,0,bj⟩) hbnl).trans hbn) ((hW.block bt (aX.1 hbt).1).trans hbt) ((hW.block b hT.lt).trans hT) hL h0
attribute [local go_sem] Oper.semAt_some
theorem gK{W:bD}{B:Nat}{v:Value}{t:TypeId}(h:W.heap[B]? =bh (bg #[v] t (0,0))):W.cell? ⟨B,0,bj⟩=bh v/\W.frozen? ⟨B,0,bj⟩=false:=by
 constructor<;>simp[World.cell?,World.frozen?,h]
theorem Tn(w:bD)(o1 o2 o3 o4:Obj):((((w.alloc o1).alloc o2).alloc o3).alloc o4).heap[w.heap.size]? =bh o1/\((((w.alloc o1).alloc o2).alloc o3).alloc o4).heap[w.heap.size+1]? =bh o2/\((((w.alloc o1).alloc o2).alloc o3).alloc o4).heap[w.heap.size+1+1]? =bh o3/\((((w.alloc o1).alloc o2).alloc o3).alloc o4).heap[w.heap.size+1+1+1]? =bh o4:=by
 have e:((((w.alloc o1).alloc o2).alloc o3).alloc o4).heap=(((w.heap.push o1).push o2).push o3).push o4:=rfl;rw[e];refine⟨?_,?_,?_,?_⟩
 .simp only[bJ,Array.size_push];rw[nJ,nJ,nJ,aJ trivial]
 .simp only[bJ,Array.size_push];rw[nJ,nJ,aJ trivial]
 .simp only[bJ,Array.size_push];rw[nJ,aJ trivial]
 .simp only[bJ,Array.size_push];rw[aJ trivial]
theorem zJ(w:bD)(o1 o2 o3 o4:Obj):Below w.heap.size w ((((w.alloc o1).alloc o2).alloc o3).alloc o4):=
 ((((aQ _ w).alloc (aL _) _).alloc (by simp) _).alloc (by simp;omega) _).alloc (by simp;omega) _
theorem An(b:Nat)(g other:Int)(t:Nat->Gp)(xs:List (Fin 10))(w:bD)(hT:bP w b t)(hL:Way t g (jM xs)):
  Calls prog 172 #[ai (bh ⟨b,0,bj⟩),aa az g,aa az other] w λe W'=>e=bf (ar (decide (∃x∈xs,(x.val:Int)=other)))/\Below w.heap.size w W':=by
 refine(callsIn_wide (n:=4)).1 ?_;refine callsIn_of_wp_marks Tryz.func172 rfl trivial ?_ rfl;simp only[Tryz.ntmps172,List.size_toArray,List.length_cons,List.length_nil,Nat.reduceAdd,Nat.reduceSub,Array.replicate_succ,Array.replicate_zero,List.push_toArray,List.append_toArray,List.nil_append,List.cons_append]
 gi_wp2_with (refine⟨trivial,?_⟩;gi_at_call 216;refine(callsIn_wide.2 (zv b g _)).mono ?_;rintro e w' ⟨rfl,rfl⟩)
 have hA:=Tn w (bg #[aa az other] 3) (bg #[ar false] 4) (bg #[ai (bh ⟨b,0,bj⟩)] 79) (bg #[aa az g] 3);have hB0:=zJ w (bg #[aa az other] 3) (bg #[ar false] 4) (bg #[ai (bh ⟨b,0,bj⟩)] 79) (bg #[aa az g] 3);have c0:=gK hA.1;have c1:=gK hA.2.1;have c3:=gK hA.2.2.2;have hbl:=hT.lt;refine wpIn_rangeFunc_ownF rfl bu (gf:=267) (lb:=#[ai (bh ⟨w.heap.size+1+1+1,0,bj⟩),ai (bh ⟨w.heap.size+1+1,0,bj⟩)]) rfl trivial (enters_of Tryz.func267 bw rfl)
  (uM 3 bu (w.heap.size+1+1+1) (w.heap.size+1+1) b g t xs _ (by simp) c3.1 hA.2.2.1 (hT.below hB0 hbl) hL) K2.t (K2.b (by simp;omega) (by simp)) (aQ _ _) (λ_=>rfl)
  (λpre W=>((∀y∈pre,(y.val:Int)≠other)/\W.cell? ⟨w.heap.size,0,bj⟩=bh (aa az other)/\W.cell? ⟨w.heap.size+1,0,bj⟩=bh (ar false)/\W.frozen? ⟨w.heap.size+1,0,bj⟩=false)/\Below w.heap.size w W)
  (λc pre W=>(c= .ret/\(∃y∈pre,(y.val:Int)=other)/\W.cell? ⟨w.heap.size+1,0,bj⟩=bh (ar true))/\Below w.heap.size w W)
  (OwnFrom.and (Own.from (λs A B row hs hg hr=>⟨hs.1,cell_kept hs.2.1 hg hr,cell_kept hs.2.2.1 hg hr,(frozen_kept hs.2.2.1 hg hr).trans hs.2.2.2⟩) _) (ownFrom_below (aL _) (by simp;omega)))
  (λc=>OwnFrom.and (Own.from (λs A B row hs hg hr=>⟨hs.1,hs.2.1,cell_kept hs.2.2 hg hr⟩) _) (ownFrom_below (aL _) (by simp;omega)))
  ⟨⟨by simp,c0.1,c1.1,c1.2⟩,hB0⟩
  (λx=>{tmps:=#[ai (bh ⟨b,0,bj⟩),aa az g,aa az other,undef,undef,ai (bh ⟨w.heap.size,0,bj⟩),ai (bh ⟨w.heap.size+1,0,bj⟩),aa az (x.val:Int),ai (bh ⟨b,0,bj⟩),aa az g, .func (.func 267) #[] #[ai (bh ⟨w.heap.size+1+1+1,0,bj⟩),ai (bh ⟨w.heap.size+1+1,0,bj⟩)],aa az (x.val:Int),undef,undef,undef],defers:=[]}) ?assign ?body ?done ?stop
 case assign=>
  intro l x W K hK
  gi_wp2
  exact hK
 case body=>
  rintro l pre x W ⟨⟨hp,hcw,hcr,hfr⟩,hB⟩ _
  gi_wp2
  .rename_i hx;have hx':(x.val:Int)=other:=eq_of_beq hx;exact⟨KeepsOthers.setCell _ _ _,⟨rfl,⟨x,List.mem_append.2 (.inr (by simp)),hx'⟩,World.cell?_setCell_same' _ _ _ (by rw[hcr];rfl)⟩,hB.setCell (p:=⟨w.heap.size+1,0,bj⟩) (by simp) _⟩
  .rename_i hx;have hx':(x.val:Int)≠other:=by simpa using hx
   exact⟨KeepsOthers.refl _,⟨rfl,rfl⟩,⟨λy hy=>(List.mem_append.1 hy).elim (hp y) (λe=>by simp at e;subst e;exact hx'),hcw,hcr,hfr⟩,hB⟩
 case done=>
  rintro D ys W hD rfl ⟨⟨hne,_,hcr,hfr⟩,hB⟩ hK
  gi_wp2
  have hK':=(KeepsOthers.setCell W ⟨w.heap.size+1,0,bj⟩ (ar false)).same D _ hK rfl;refine⟨by simp, .inl ⟨_,_,rfl,run_takeDeferred hK',?_⟩⟩;have hc5:=cell_kept (World.cell?_setCell_same' W ⟨w.heap.size+1,0,bj⟩ (ar false) (by rw[hcr];rfl)) (grownBy_putObj' _ D (.deferred bj)) (λr e=>by cases e;exact⟨_,hK',rfl⟩);refine⟨ar false,?_,by rw[aT (λ⟨y,hy,e⟩=>hne y hy e)],(hB.setCell (p:=⟨w.heap.size+1,0,bj⟩) (by simp) _).trans (belowK_b (w:=w) (aL _) _ D _ _ (by simp at hD;omega) hK' rfl rfl)⟩;simp[results,Tryz.f172,go_sem,hc5]
 case stop=>
  rintro D c pre W hD hpre ⟨⟨rfl,hin,hcr⟩,hB⟩ hK
  gi_wp2
  refine⟨by simp, .inl ⟨_,_,rfl,run_takeDeferred hK,?_⟩⟩;have hc5:=cell_kept hcr (grownBy_putObj' _ D (.deferred bj)) (λr e=>by cases e;exact⟨_,hK,rfl⟩);refine⟨ar true,?_,by rw[aO (hin.imp λy hy=>⟨hpre.subset hy.1,hy.2⟩)],hB.trans (belowK_b (w:=w) (aL _) W D _ _ (by simp at hD;omega) hK rfl rfl)⟩;simp[results,Tryz.f172,go_sem,hc5]
theorem Ui(w:bD)(o1 o2 o3:Obj):(((w.alloc o1).alloc o2).alloc o3).heap[w.heap.size]? =bh o1/\(((w.alloc o1).alloc o2).alloc o3).heap[w.heap.size+1]? =bh o2/\(((w.alloc o1).alloc o2).alloc o3).heap[w.heap.size+1+1]? =bh o3:=by
 have e:(((w.alloc o1).alloc o2).alloc o3).heap=((w.heap.push o1).push o2).push o3:=rfl;rw[e];refine⟨?_,?_,?_⟩
 .simp only[bJ,Array.size_push];rw[nJ,nJ,aJ trivial]
 .simp only[bJ,Array.size_push];rw[nJ,aJ trivial]
 .simp only[bJ,Array.size_push];rw[aJ trivial]
theorem Is(w:bD)(o1 o2 o3:Obj):Below w.heap.size w (((w.alloc o1).alloc o2).alloc o3):=
 (((aQ _ w).alloc (aL _) _).alloc (by simp) _).alloc (by simp;omega) _
theorem Tm(w:bD)(o1 o2:Obj):((w.alloc o1).alloc o2).heap[w.heap.size]? =bh o1/\((w.alloc o1).alloc o2).heap[w.heap.size+1]? =bh o2:=by
 have e:((w.alloc o1).alloc o2).heap=(w.heap.push o1).push o2:=rfl;rw[e];refine⟨?_,?_⟩
 .simp only[bJ,Array.size_push];rw[nJ,aJ trivial]
 .simp only[bJ,Array.size_push];rw[aJ trivial]
section
attribute [local go_sem] Oper.semAt_some
theorem oz(b:Nat)(g:Int)(t:Nat->Gp)(xs:List (Fin 10))(w:bD)(hT:bP w b t)(hL:Way t g (jM xs))(hlen:xs.length<1000):
  Calls prog 186 #[ai (bh ⟨b,0,bj⟩),aa az g] w λe W'=>e=bf (aa az (xs.length:Nat))/\Below w.heap.size w W':=by
 refine(callsIn_wide (n:=4)).1 ?_;refine callsIn_of_wp_marks Tryz.func186 rfl trivial ?_ rfl;simp only[Tryz.ntmps186,List.size_toArray,List.length_cons,List.length_nil,Nat.reduceAdd,Nat.reduceSub,Array.replicate_succ,Array.replicate_zero,List.push_toArray,List.append_toArray,List.nil_append,List.cons_append]
 gi_wp2_with (refine⟨trivial,?_⟩;gi_at_call 216;refine(callsIn_wide.2 (zv b g _)).mono ?_;rintro e w' ⟨rfl,rfl⟩)
 have hA:=Ui w (bg #[aa az 0] 3) (bg #[ai (bh ⟨b,0,bj⟩)] 79) (bg #[aa az g] 3);have hB0:=Is w (bg #[aa az 0] 3) (bg #[ai (bh ⟨b,0,bj⟩)] 79) (bg #[aa az g] 3);have c0:=gK hA.1;have c2:=gK hA.2.2;have hbl:=hT.lt;refine wpIn_rangeFunc_ownF rfl bu (gf:=267) (lb:=#[ai (bh ⟨w.heap.size+1+1,0,bj⟩),ai (bh ⟨w.heap.size+1,0,bj⟩)]) rfl trivial (enters_of Tryz.func267 bw rfl)
  (uM 3 bu (w.heap.size+1+1) (w.heap.size+1) b g t xs _ (by simp) c2.1 hA.2.1 (hT.below hB0 hbl) hL) K2.t (K2.b (by simp;omega) (by simp)) (aQ _ _) (λ_=>rfl)
  (λpre W=>(W.cell? ⟨w.heap.size,0,bj⟩=bh (aa az (pre.length:Nat))/\W.frozen? ⟨w.heap.size,0,bj⟩=false)/\Below w.heap.size w W)
  (λ_ _ _=>False)
  (OwnFrom.and (Own.from (λs A B row hs hg hr=>⟨cell_kept hs.1 hg hr,(frozen_kept hs.1 hg hr).trans hs.2⟩) _) (ownFrom_below (aL _) (by simp;omega)))
  (λ_ _ _ _ _ hs _ _=>hs)
  ⟨⟨c0.1,c0.2⟩,hB0⟩
  (λx=>{tmps:=#[ai (bh ⟨b,0,bj⟩),aa az g,undef,undef,aa az 0,ai (bh ⟨w.heap.size,0,bj⟩),ai (bh ⟨b,0,bj⟩),aa az g, .func (.func 267) #[] #[ai (bh ⟨w.heap.size+1+1,0,bj⟩),ai (bh ⟨w.heap.size+1,0,bj⟩)],aa az (x.val:Int),undef,undef,undef],defers:=[]}) ?assign ?body ?done ?stop
 case assign=>
  intro l x W K hK
  gi_wp2
  simpa using hK
 case body=>
  rintro l pre x W ⟨⟨hc,hf⟩,hB⟩ hlt;have hpl:(pre.length:Int)<1000:=bu
  gi_wp2
  refine⟨KeepsOthers.setCell _ _ _,⟨dJ _ _ _ _ bu,dJ _ _ _ _ bu⟩,⟨?_,by rw[World.frozen?_setCell];exact hf⟩,hB.setCell (p:=⟨w.heap.size,0,bj⟩) (aL _) _⟩;rw[World.cell?_setCell_same' _ _ _ (by rw[hc];rfl)];simp
 case done=>
  rintro D ys W hD rfl ⟨⟨hc,_⟩,hB⟩ hK
  gi_wp2
  refine⟨by simp, .inl ⟨_,_,rfl,run_takeDeferred hK,?_⟩⟩;exact⟨_,results_tmp rfl _ _ _,rfl,hB.trans (belowK_b (w:=w) (aL _) W D _ _ (by simp at hD;omega) hK rfl rfl)⟩
 case stop=>
  rintro D c pre W _ _ h _;exact h.elim
end
def Kk(Wy:Nat->List (Fin 10))(k:Nat)(n:Int):Bool:=decide (∃x∈Wy k,(x.val:Int)=n)
def db(t:Nat->Gp)(Wy:Nat->List (Fin 10))(n:Int)(sel:Gp->Int):Nat->Int
 |0=>0
 |k+1=>db t Wy n sel k+if Kk Wy k n=true then sel (t k)else 0
def fF(t:Nat->Gp)(Wy:Nat->List (Fin 10)):Prop:=∀k:Nat,k<10->Way t (k:Int) (jM (Wy k))
def Small(t:Nat->Gp):Prop:=∀k,k<10->(0<=(t k).op/\(t k).op<=1000000)/\(0<=(t k).oq/\(t k).oq<=1000000)
theorem qe{t:Nat->Gp}(Wy:Nat->List (Fin 10))(n:Int){sel:Gp->Int}(h:∀k,k<10->0<=sel (t k)/\sel (t k)<=1000000):∀k,k<=10->0<=db t Wy n sel k/\db t Wy n sel k<=1000000*k
 |0,_=>by simp[db]
 |k+1,hk=>by
  have ih:=qe Wy n h k bu;have:=h k bu;unfold db;split<;>omega
structure Ts (w W:bD)(a c:Int):Prop where
 cM:Below w.heap.size w W
 res:W.heap[w.heap.size]? =bh (bg #[aa az 0,aa az 0] 130 (0,0))
 sum:W.heap[w.heap.size+1]? =bh (bg #[aa az a,aa az c] 130 (0,0))
theorem Ts.below{w W W':bD}{a c:Int}(h:Ts w W a c)(hb:Below W.heap.size W W'):Ts w W' a c:=by
 have h1:=(aX.1 h.sum).1;exact⟨h.cM.trans (hb.mono h.cM.size),(hb.block _ bu).trans h.res,(hb.block _ h1).trans h.sum⟩
theorem Ts.drewN{w W:bD}{a c:Int}(h:Ts w W a c)(n:Nat):Ts w (W.drewN n) a c:=⟨below_drewN h.cM n,h.res,h.sum⟩
theorem Ts.drew{w W:bD}{a c:Int}(h:Ts w W a c):Ts w W.drew a c:=h.drewN 1
theorem Ts.T0{w W:bD}{a c:Int}(h:Ts w W a c)(v:Int):Ts w (W.setCell ⟨w.heap.size+1,0,bj⟩ (aa az v)) v c:=
 ⟨h.cM.setCell (by simp) _,(dJ _ _ _ _ bu).trans h.res,by rw[heap_set h.sum];rfl⟩
theorem Ts.T5{w W:bD}{a c:Int}(h:Ts w W a c)(v:Int):Ts w (W.setCell ⟨w.heap.size+1,1,bj⟩ (aa az v)) a v:=
 ⟨h.cM.setCell (by simp) _,(dJ _ _ _ _ bu).trans h.res,by rw[heap_set h.sum];rfl⟩
theorem jO(b:Nat)(n:Int)(t:Nat->Gp)(Wy:Nat->List (Fin 10))(w:bD)(hT:bP w b t)(hW:fF t Wy)(hS:Small t):
  Calls prog 97 #[ai (bh ⟨b,0,bj⟩),aa az n] w λe W'=>e=bf (au #[aa az (db t Wy n Gp.op 10),aa az (db t Wy n Gp.oq 10)])/\Below w.heap.size w W':=by
 have HT:Hid (bP w b t):=hT;have hbl:=hT.lt;have HW:Hid (fF t Wy):=hW;have HS:Hid (Small t):=hS;go_in
 go_wp2_with fail
 have A2:=Tm w (bg #[aa az 0,aa az 0] 130) (bg #[aa az 0,aa az 0] 130);refine cG (λW=>Ts w W 0 0) ⟨((aQ _ w).alloc (aL _) _).alloc (by simp) _,A2.1,A2.2⟩ ?_;intro W1 hT1;go_loopw [7] (λi wr=>∃(k:Nat),i=aa az k/\k<=10/\Hid (Ts w wr (db t Wy n Gp.op k) (db t Wy n Gp.oq k))) (λi _=>10-(intOf i).toNat)
 case atStart=>exact⟨0,rfl,bu,hT1⟩
 case round=>
  obtain⟨k,rfl,hk,H⟩:=hrel;by_cases hlt:k<10
  .have hltI:(k:Int)<10:=bu
   have T1:Hid (bP wr b t):=HT.below H.cM hbl;go_wp2_with fail
   refine sC (An b k n t (Wy k) _ T1.v (HW.v k hlt)) ?_;rintro W2 hb2;have H2:Hid (Ts w W2 (db t Wy n Gp.op k) (db t Wy n Gp.oq k)):=H.below hb2;have T2:Hid (bP W2 b t):=T1.below hb2 T1.lt;rw[show decide (∃x∈Wy k,(x.val:Int)=n)=Kk Wy k n from rfl];have e1:db t Wy n Gp.op (k+1)=db t Wy n Gp.op k+if Kk Wy k n=true then(t k).op else 0:=rfl;have e2:db t Wy n Gp.oq (k+1)=db t Wy n Gp.oq k+if Kk Wy k n=true then(t k).oq else 0:=rfl;cases hu:Kk Wy k n
   .rw[hu]at e1 e2;have E1:Hid (db t Wy n Gp.op (k+1)=db t Wy n Gp.op k):=by rw[e1];simp[Hid]
    have E2:Hid (db t Wy n Gp.oq (k+1)=db t Wy n Gp.oq k):=by rw[e2];simp[Hid]
    go_wp2
    go_roundw
    case rel=>exact⟨k+1,by go_num,bu,by rw[E1.v,E2.v];exact H2.v⟩
    case measure=>simp[intOf];omega
   .rw[hu,aJ rfl]at e1 e2;have E1:Hid (db t Wy n Gp.op (k+1)=db t Wy n Gp.op k+(t k).op):=e1;have E2:Hid (db t Wy n Gp.oq (k+1)=db t Wy n Gp.oq k+(t k).oq):=e2;have b1:=qe Wy n (λk hk=>(HS.v k hk).1) k hk;have b2:=qe Wy n (λk hk=>(HS.v k hk).2) k hk;have s1:=HS.v k hlt;generalize db t Wy n Gp.op k=X at*;generalize db t Wy n Gp.oq k=Y at*;have d0:W2.cell? ⟨w.heap.size+1,0,bj⟩=bh (aa az X):=by rw[cZ H2.sum];rfl
    have d1:W2.cell? ⟨w.heap.size+1,1,bj⟩=bh (aa az Y):=by rw[cZ H2.sum];rfl
    have f0:∀o,W2.frozen? ⟨w.heap.size+1,o,bj⟩=false:=λo=>j4 H2.sum o;have g0:W2.cell? ⟨b,k*6+4,bj⟩=bh (aa az (t k).op):=T2.cell k 4 hlt bu;have g1:W2.cell? ⟨b,k*6+4+1,bj⟩=bh (aa az (t k).oq):=T2.cell k 5 hlt bu;have hne:b≠w.heap.size+1:=bu
    have hne':w.heap.size+1≠b:=bu
    generalize (t k).op=P at*;generalize (t k).oq=R at*;go_wp2_with fail
    go_region
    go_wp2_with fail
    go_region
    go_wp2
    go_roundw
    case rel=>
     have Z:=((H2.T0 (X+P)).drew.T5 (Y+R)).drew;refine⟨k+1,by go_num,bu,?_⟩;rw[E1.v,E2.v];exact Z
    case measure=>simp[intOf];omega
  .have hk10:k=10:=bu
   subst hk10;have r0:wr.cell? ⟨w.heap.size,0,bj⟩=bh (aa .i64 0):=by rw[cZ H.res];rfl
   have r1:wr.cell? ⟨w.heap.size,1,bj⟩=bh (aa .i64 0):=by rw[cZ H.res];rfl
   have rf:∀o,wr.frozen? ⟨w.heap.size,o,bj⟩=false:=λo=>j4 H.res o;have s0:wr.cell? ⟨w.heap.size+1,0,bj⟩=bh (aa az (db t Wy n Gp.op 10)):=by rw[cZ H.sum];rfl
   have s1:wr.cell? ⟨w.heap.size+1,1,bj⟩=bh (aa az (db t Wy n Gp.oq 10)):=by rw[cZ H.sum];rfl
   generalize hX:db t Wy n Gp.op 10=X at s0;generalize hY:db t Wy n Gp.oq 10=Y at s1;have HX:Hid (db t Wy n Gp.op 10=X):=hX;have HY:Hid (db t Wy n Gp.oq 10=Y):=hY;go_wp2_with fail
   refine bodyPost_ret (v:=au #[aa az X,aa az Y]) (by simp[results,Tryz.results97,go_sem,r0,r1]) rfl ⟨by rw[HX.v,HY.v],?_⟩;exact(H.cM.setCell (p:=⟨w.heap.size,0,bj⟩) (aL _) _).setCell (p:=⟨w.heap.size,1,bj⟩) (aL _) _
def js(p q l:Int):Bool:=decide (l<=p/\p<=20/\l<=q/\q<=64)
theorem sB(p q l:Int)(w:bD):Calls prog 191 #[au #[aa az p,aa az q],aa az l] w λe w'=>e=bf (ar (js p q l))/\Below w.heap.size w w':=by
 have HF:Hid (∀r:Bool,(r=true↔(l<=p/\p<=20/\l<=q/\q<=64))->r=js p q l):=λr hr=>by unfold js;rw[Bool.eq_iff_iff,hr,decide_eq_true_eq]
 by_cases h1:l<=p
 .have d1:decide (l<=p)=true:=by simp[h1]
  by_cases h2:p<=20
  .have d2:decide (p<=20)=true:=by simp[h2]
   by_cases h3:l<=q
   .have d3:decide (l<=q)=true:=by simp[h3]
    by_cases h4:q<=64
    .have HH:Hid (l<=p/\p<=20/\l<=q/\q<=64):=⟨h1,h2,h3,h4⟩;go_in
     go_wp2
     go_ret
     exact⟨cQ (HF.v _ (by simp;exact HH.v)),(aQ _ _).alloc (aL _) _⟩
    .have d4:decide (q<=64)=false:=by simp;omega
     have HH:Hid (¬q<=64):=h4;go_in
     go_wp2
     go_ret
     exact⟨cQ (HF.v _ (by have:=HH.v;simp;omega)),(aQ _ _).alloc (aL _) _⟩
   .have d3:decide (l<=q)=false:=by simp;omega
    have HH:Hid (¬l<=q):=h3;go_in
    go_wp2
    go_ret
    exact⟨cQ (HF.v _ (by have:=HH.v;simp;omega)),(aQ _ _).alloc (aL _) _⟩
  .have d2:decide (p<=20)=false:=by simp;omega
   have HH:Hid (¬p<=20):=h2;go_in
   go_wp2
   go_ret
   exact⟨cQ (HF.v _ (by have:=HH.v;simp;omega)),(aQ _ _).alloc (aL _) _⟩
 .have d1:decide (l<=p)=false:=by simp;omega
  have HH:Hid (¬l<=p):=h1;go_in
  go_wp2
  go_ret
  exact⟨cQ (HF.v _ (by have:=HH.v;simp;omega)),(aQ _ _).alloc (aL _) _⟩
def lU(h m l:Int):Bool:=decide (l≠ -1/\0<m/\l<h+m)
theorem sJ(h m l:Int)(w:bD)(hh:0<=h/\h<=100000000)(hm:0<=m/\m<=1000):Calls prog 217 #[aa az h,aa az m,aa az l] w λe w'=>e=bf (ar (lU h m l))/\w'=w:=by
 have HF:Hid (∀r:Bool,(r=true↔(l≠ -1/\0<m/\l<h+m))->r=lU h m l):=λr hr=>by unfold lU;rw[Bool.eq_iff_iff,hr,decide_eq_true_eq]
 obtain⟨hh0,hh1⟩:=hh;obtain⟨hm0,hm1⟩:=hm;by_cases h1:l= -1
 .have HH:Hid (l= -1):=h1;have d1:(l != -1)=false:=by simp[h1]
  go_in
  go_wp2
  go_ret
  exact⟨cQ (HF.v _ (by simp[HH.v])),rfl⟩
 .have HH:Hid (l≠ -1):=h1;have d1:(l != -1)=true:=by simp[h1]
  by_cases h2:0<m
  .by_cases h3:l<h+m
   .go_in
    go_wp2
    go_ret
    exact⟨cQ (HF.v _ (by have:=HH.v;simp;omega)),rfl⟩
   .go_in
    go_wp2
    go_ret
    exact⟨cQ (HF.v _ (by have:=HH.v;simp;omega)),rfl⟩
  .have d2:decide (0<m)=false:=by simp;omega
   have HH2:Hid (¬0<m):=h2;go_in
   go_wp2
   go_ret
   exact⟨cQ (HF.v _ (by have:=HH2.v;simp;omega)),rfl⟩
theorem D7(b:Nat)(g p q:Int)(w:bD)(hg:g<0\/10<=g):Calls prog 138 #[ai (bh ⟨b,0,bj⟩),aa az g,au #[aa az p,aa az q]] w λe w'=>e=bf (aq 100 (aa .i64 1))/\Below w.heap.size w w':=by
 have HG:Hid (g<0\/10<=g):=hg;go_in
 go_wp2_with fail
 refine sC (uP b g _ HG.v) ?_;rintro w1 rfl;go_wp2
 go_ret
 exact⟨rfl,(aQ _ _).alloc (aL _) _⟩
theorem CI(b g:Nat)(p q:Int)(t:Nat->Gp)(w:bD)(h:bP w b t)(hg:g<10)(hh:(t g).there=false):Calls prog 138 #[ai (bh ⟨b,0,bj⟩),aa az g,au #[aa az p,aa az q]] w λe w'=>e=bf (aq 100 (aa .i64 2))/\Below w.heap.size w w':=by
 have H:Hid (bP w b t/\(t g).there=false):=⟨h,hh⟩;go_in
 go_wp2_with fail
 refine sC (sX b g t _ (H.1.below ((aQ _ _).alloc (aL _) _) H.1.lt) hg H.2) ?_;rintro w1 hw;subst hw;go_wp2
 go_ret
 exact⟨rfl,(aQ _ _).alloc (aL _) _⟩
theorem Hk(b g:Nat)(p q:Int)(t:Nat->Gp)(w:bD)(h:bP w b t)(hg:g<10)(hh:(t g).there=true)(hf:js p q 0=true):Calls prog 138 #[ai (bh ⟨b,0,bj⟩),aa az g,au #[aa az p,aa az q]] w λe w'=>e=bf ay/\Below w.heap.size w w':=by
 have H:Hid (bP w b t/\(t g).there=true/\js p q 0=true):=⟨h,hh,hf⟩;go_in
 go_wp2_with fail
 refine sC (iE b g t _ (H.1.below ((aQ _ _).alloc (aL _) _) H.1.lt) hg H.2.1) ?_;rintro w1 hw;subst hw;go_wp2_with fail
 refine sC (sB p q 0 _) ?_;rintro w2 hb;rw[H.2.2];have HB:Hid (Below w.heap.size w w2):=((aQ _ w).alloc (aL _) _).trans (hb.mono (by simp));go_wp2
 go_ret
 exact⟨rfl,HB.v⟩
theorem Aw(b g:Nat)(p q:Int)(t:Nat->Gp)(w:bD)(h:bP w b t)(hg:g<10)(hh:(t g).there=true)(hf:js p q 0=false):Calls prog 138 #[ai (bh ⟨b,0,bj⟩),aa az g,au #[aa az p,aa az q]] w λe w'=>e=bf (aq 100 (aa .i64 1))/\Below w.heap.size w w':=by
 have H:Hid (bP w b t/\(t g).there=true/\js p q 0=false):=⟨h,hh,hf⟩;go_in
 go_wp2_with fail
 refine sC (iE b g t _ (H.1.below ((aQ _ _).alloc (aL _) _) H.1.lt) hg H.2.1) ?_;rintro w1 hw;subst hw;go_wp2_with fail
 refine sC (sB p q 0 _) ?_;rintro w2 hb;rw[H.2.2];have HB:Hid (Below w.heap.size w w2):=((aQ _ w).alloc (aL _) _).trans (hb.mono (by simp));go_wp2
 go_ret
 exact⟨rfl,HB.v⟩
section
variable {P:Program}{ops:Array Oper}{Q:Exit->Act->bD->Prop}{md:Region.Mode}{S:bD->Prop}
theorem Ea{n l:Nat}{row:String}{args:Array Value}{w:bD}{R:Value->bD->Prop}(h:Rows P row args w R):RowsIn (Fence.wide.inRound l) n P row args w R:=by
 unfold RowsIn;intro c cs _;obtain⟨v,w',r,s⟩:=h c cs;exact⟨v,w',r,stepsIn_wide.2 s⟩
theorem Kw{n l i:Nat}{K:Act->bD->Prop}{a:Act}{w:bD}(hd:∀(i:Nat) (o:Oper),ops[i]? =bh o->∀c,o.op≠ .defer c)(hL:¬LetsOut Q)(h:wpOp P ops Q i K a w):wpOpIn (Fence.wide.inRound l) n P ops Q i K a w:=by
 unfold wpOp at h;unfold wpOpIn;cases ho:ops[i]? with
 |none=>simp only[ho]at h|-;exact h
 |some o=>
  simp only[ho]at h|-;split
  .rename_i hw;simp only[hw,if_true]at h;rcases h with h|⟨_,h⟩
   .unfold Oper.wp at h;unfold Oper.wpIn;refine⟨λ_ _=>trivial,?_⟩;rw[Oper.semAt_eq _ _ _ (hd i o ho)];generalize (execOp a.eval o).run P w=r at*;have hdp:((Fence.wide.inRound l).depth.isSome=true->1<=n):=λh=>by simp[Fence.wide]at h
    cases r with
    |ok x w'=>
     cases x<;>simp only[Oper.upon,Oper.uponIn]at h|- <;>
      first
       |exact h
       |exact⟨hdp,CallsIn.inRound l (callsIn_wide.2 h)⟩
       |exact⟨hdp,Ea h⟩
    |halt x w'=>cases x<;>simp only[Oper.upon,Oper.uponIn]at h|- <;>exact h
   .exact aZ h hL
  .rename_i hw;simp only[hw]at h;exact⟨λ_ _=>trivial,h⟩
theorem yA{n l:Nat}(hd:∀(i:Nat) (o:Oper),ops[i]? =bh o->∀c,o.op≠ .defer c)(hL:¬LetsOut Q):∀(fuel:Nat) (listed:Array Bool) (a:Act) (w:bD),wpAnyH P md ops Q S fuel listed a w->wpAnyIn (Fence.wide.inRound l) n P md ops Q fuel listed a w
 |0,_,_,_,h=>h
 |fuel+1,_,_,_,h=>⟨h.1,λi hi=>wpOpIn_mono (λa' w' h'=>yA hd hL fuel _ a' w' h'.2) (Kw hd hL (h.2 i hi))⟩
theorem vz{n l id:Nat}{a:Act}{w:bD}(hm:P.follows .mixedOrders=true)(hd:∀(i:Nat) (o:Oper),ops[i]? =bh o->∀c,o.op≠ .defer c)(hL:¬LetsOut Q)
  (h:wpAnyH P .any ops Q S ops.size (Array.replicate ops.size false) a w.drew):(Code.region id ops true).wpIn (Fence.wide.inRound l) n P Q a w:=
 wpIn_region_any hm (yA hd hL _ _ _ _ h)
end
theorem qF(w:bD)(c:Array Value)(t:TypeId):(w.alloc (bg c t)).heap[w.heap.size]? =bh (bg c t (0,0)):=heap_alloc_new w _
structure F3 (W V:bD)(o9 o10:Option Nat):Prop where
 cM:Below W.heap.size W V
 c9:∀n,o9=bh n->W.heap.size<=n/\V.heap[n]? =bh (bg #[aa az 0,aa az 0] 130 (0,0))
 tw:∀n,o10=bh n->W.heap.size<=n/\V.heap[n]? =bh (bg #[aa az 0,aa az 0] 130 (0,0))
 ne:∀n m,o9=bh n->o10=bh m->n≠m
section
variable {W V:bD}{o9 o10:Option Nat}
theorem F3.It(h:F3 W V bj o10):F3 W (V.alloc (bg #[aa az 0,aa az 0] 130)) (bh V.heap.size) o10:=
 ⟨h.cM.alloc h.cM.size _,λn e=>by cases e;exact⟨h.cM.size,qF _ _ _⟩,λn e=>⟨(h.tw n e).1,(Below.heap_alloc _ _ _ (aX.1 (h.tw n e).2).1).trans (h.tw n e).2⟩,λn m e e'=>by cases e;have:=(aX.1 (h.tw m e').2).1;omega⟩
theorem F3.Bf(h:F3 W V o9 bj):F3 W (V.alloc (bg #[aa az 0,aa az 0] 130)) o9 (bh V.heap.size):=
 ⟨h.cM.alloc h.cM.size _,λn e=>⟨(h.c9 n e).1,(Below.heap_alloc _ _ _ (aX.1 (h.c9 n e).2).1).trans (h.c9 n e).2⟩,λn e=>by cases e;exact⟨h.cM.size,qF _ _ _⟩,λn m e e'=>by cases e';have:=(aX.1 (h.c9 n e).2).1;omega⟩
theorem F3.call{V':bD}(h:F3 W V o9 o10)(hb:Below V.heap.size V V'):F3 W V' o9 o10:=
 ⟨h.cM.trans (hb.mono h.cM.size),λn e=>⟨(h.c9 n e).1,(hb.block _ (aX.1 (h.c9 n e).2).1).trans (h.c9 n e).2⟩,λn e=>⟨(h.tw n e).1,(hb.block _ (aX.1 (h.tw n e).2).1).trans (h.tw n e).2⟩,h.ne⟩
end
structure F4 (W V:bD)(n9 n10:Nat)(X Y lp lq:Int):Prop where
 cM:Below W.heap.size W V
 l9:W.heap.size<=n9
 UD:W.heap.size<=n10
 ne:n9≠n10
 c9:V.heap[n9]? =bh (bg #[aa az X,aa az Y] 130 (0,0))
 tw:V.heap[n10]? =bh (bg #[aa az lp,aa az lq] 130 (0,0))
def u9:Array Oper:=#[{dst:=bh 15,op:=Op.load 79 (Operand.tmp 3),type:=79,pos:= "groups.go:240",after:=#[],guard:=bj},
 {dst:=bh 16,op:=Op.move (Operand.tmp 8),type:=3,pos:= "groups.go:240",after:=#[],guard:=bj},
 {dst:=bh 17,op:=Op.call {callee:=Callee.value (Operand.func 97),args:=#[Operand.tmp 15,Operand.tmp 16],argTypes:=#[79,3]},type:=130,pos:= "groups.go:240",after:=#[{on:=0,ground:=Ground.data},{on:=1,ground:=Ground.data}],guard:=bj},
 {dst:=bh 18,op:=Op.load 79 (Operand.tmp 3),type:=79,pos:= "groups.go:240",after:=#[{on:=12,ground:=Ground.gcOnly Departure.lateStores}],guard:=bj},
 {dst:=bh 19,op:=Op.move (Operand.tmp 8),type:=3,pos:= "groups.go:240",after:=#[{on:=12,ground:=Ground.gcOnly Departure.lateStores}],guard:=bj},
 {dst:=bh 20,op:=Op.nilCheck (Operand.tmp 18),type:=0,pos:= "groups.go:240",after:=#[{on:=3,ground:=Ground.data},{on:=12,ground:=Ground.gcOnly Departure.lateStores}],guard:=bj},
 {dst:=bh 21,op:=Op.fieldAddr 135 (Operand.tmp 20) 0,type:=0,pos:= "groups.go:240",after:=#[{on:=5,ground:=Ground.data},{on:=12,ground:=Ground.gcOnly Departure.lateStores}],guard:=bj},
 {dst:=bh 22,op:=Op.indexAddr 133 (Operand.tmp 21) (Operand.tmp 19),type:=0,pos:= "groups.go:240",after:=#[{on:=6,ground:=Ground.data},{on:=4,ground:=Ground.data},{on:=12,ground:=Ground.gcOnly Departure.lateStores}],guard:=bj},
 {dst:=bh 23,op:=Op.fieldAddr 132 (Operand.tmp 22) 2,type:=0,pos:= "groups.go:240",after:=#[{on:=7,ground:=Ground.data},{on:=12,ground:=Ground.gcOnly Departure.lateStores}],guard:=bj},
 {dst:=bh 24,op:=Op.load 130 (Operand.tmp 23),type:=130,pos:= "groups.go:240",after:=#[{on:=8,ground:=Ground.data},{on:=12,ground:=Ground.gcOnly Departure.lateStores}],guard:=bj},
 {dst:=bh 9,op:=Op.alloc 130,type:=0,pos:= "groups.go:240",after:=#[],guard:=bj},
 {dst:=bh 10,op:=Op.alloc 130,type:=0,pos:= "groups.go:240",after:=#[],guard:=bj},
 {dst:=bj,op:=Op.store 130 (Operand.tmp 9) (Operand.tmp 17),type:=0,pos:= "groups.go:240",after:=#[{on:=10,ground:=Ground.data},{on:=2,ground:=Ground.data},{on:=2,ground:=Ground.chain},{on:=0,ground:=Ground.phase},{on:=1,ground:=Ground.phase},{on:=2,ground:=Ground.phase},{on:=3,ground:=Ground.textOnly Departure.lateStores},{on:=4,ground:=Ground.textOnly Departure.lateStores},{on:=5,ground:=Ground.textOnly Departure.lateStores},{on:=6,ground:=Ground.textOnly Departure.lateStores},{on:=7,ground:=Ground.textOnly Departure.lateStores},{on:=8,ground:=Ground.textOnly Departure.lateStores},{on:=9,ground:=Ground.textOnly Departure.lateStores},{on:=10,ground:=Ground.phase},{on:=11,ground:=Ground.phase}],guard:=bj},
 {dst:=bj,op:=Op.store 130 (Operand.tmp 10) (Operand.tmp 24),type:=0,pos:= "groups.go:240",after:=#[{on:=11,ground:=Ground.data},{on:=9,ground:=Ground.data},{on:=12,ground:=Ground.chain},{on:=0,ground:=Ground.phase},{on:=1,ground:=Ground.phase},{on:=2,ground:=Ground.phase},{on:=3,ground:=Ground.phase},{on:=4,ground:=Ground.phase},{on:=5,ground:=Ground.phase},{on:=6,ground:=Ground.phase},{on:=7,ground:=Ground.phase},{on:=8,ground:=Ground.phase},{on:=9,ground:=Ground.phase},{on:=10,ground:=Ground.phase},{on:=11,ground:=Ground.phase},{on:=12,ground:=Ground.phase}],guard:=bj}]
theorem mv{Q:Exit->Act->bD->Prop}{W V:bD}{bt x n9 n10:Nat}{X Y lp lq:Int}{A0 A1 A2 A4 A5 A6 A7 A11 A12 A13 A14 c15 c16 c18 c19 c20 c21 c22 c23:Value}
  (hQ:∀(n9 n10:Nat) (V:bD) (c15 c16 c17 c18 c19 c20 c21 c22 c23 c24:Value),F4 W V n9 n10 X Y lp lq->Q .normal {tmps:=#[A0,A1,A2,ai (bh ⟨bt,0,bj⟩),A4,A5,A6,A7,aa az (x:Int),ai (bh ⟨n9,0,bj⟩),ai (bh ⟨n10,0,bj⟩),A11,A12,A13,A14,c15,c16,c17,c18,c19,c20,c21,c22,c23,c24,undef,undef,undef,undef,undef,undef,undef,undef,undef,undef,undef,undef,undef,undef,undef,undef,undef],defers:=[]} V)
  (F:F3 W V (bh n9) (bh n10)):
  wpAnyH prog .any u9 Q (λV=>Below W.heap.size W V) 2 #[true,true,true,true,true,true,true,true,true,true,true,true,false,false] {tmps:=#[A0,A1,A2,ai (bh ⟨bt,0,bj⟩),A4,A5,A6,A7,aa az (x:Int),ai (bh ⟨n9,0,bj⟩),ai (bh ⟨n10,0,bj⟩),A11,A12,A13,A14,c15,c16,au #[aa az X,aa az Y],c18,c19,c20,c21,c22,c23,au #[aa az lp,aa az lq],undef,undef,undef,undef,undef,undef,undef,undef,undef,undef,undef,undef,undef,undef,undef,undef,undef],defers:=[]} V:=by
 have k9:=F.c9 n9 rfl;have k10:=F.tw n10 rfl;have hne:=F.ne n9 n10 rfl rfl;have e0:V.cell? ⟨n9,0,bj⟩=bh (aa .i64 0):=by rw[cZ k9.2];rfl
 have e1:V.cell? ⟨n9,1,bj⟩=bh (aa .i64 0):=by rw[cZ k9.2];rfl
 have ef:∀o,V.frozen? ⟨n9,o,bj⟩=false:=λo=>j4 k9.2 o;have F4a:Hid (F4 W ((((V.setCell ⟨n9,0,bj⟩ (aa az X)).setCell ⟨n9,1,bj⟩ (aa az Y)).setCell ⟨n10,0,bj⟩ (aa az lp)).setCell ⟨n10,1,bj⟩ (aa az lq)) n9 n10 X Y lp lq):=by
  have s1:(V.setCell ⟨n9,0,bj⟩ (aa az X)).heap[n9]? =bh (bg #[aa az X,aa az 0] 130 (0,0)):=by rw[heap_set k9.2];rfl
  have s2:((V.setCell ⟨n9,0,bj⟩ (aa az X)).setCell ⟨n9,1,bj⟩ (aa az Y)).heap[n9]? =bh (bg #[aa az X,aa az Y] 130 (0,0)):=by rw[heap_set s1];rfl
  have t0:((V.setCell ⟨n9,0,bj⟩ (aa az X)).setCell ⟨n9,1,bj⟩ (aa az Y)).heap[n10]? =bh (bg #[aa az 0,aa az 0] 130 (0,0)):=by rw[dJ _ _ _ _ (bQ hne),dJ _ _ _ _ (bQ hne)];exact k10.2
  have t1:(((V.setCell ⟨n9,0,bj⟩ (aa az X)).setCell ⟨n9,1,bj⟩ (aa az Y)).setCell ⟨n10,0,bj⟩ (aa az lp)).heap[n10]? =bh (bg #[aa az lp,aa az 0] 130 (0,0)):=by rw[heap_set t0];rfl
  refine⟨(((F.cM.setCell k9.1 _).setCell k9.1 _).setCell k10.1 _).setCell k10.1 _,k9.1,k10.1,hne,?_,?_⟩
  .rw[dJ _ _ _ _ hne,dJ _ _ _ _ hne];exact s2
  .rw[heap_set t1];rfl
 have B0:Hid (Below W.heap.size W V):=F.cM;have HK:Hid (W.heap.size<=n9/\W.heap.size<=n10):=⟨k9.1,k10.1⟩;have g0:V.cell? ⟨n10,0,bj⟩=bh (aa .i64 0):=by rw[cZ k10.2];rfl
 have g1:V.cell? ⟨n10,1,bj⟩=bh (aa .i64 0):=by rw[cZ k10.2];rfl
 have gf:∀o,V.frozen? ⟨n10,o,bj⟩=false:=λo=>j4 k10.2 o;have hne':n10≠n9:=bQ hne;refine wpAnyH_ready (rs:=[12]) bw (by simp) ?_;refine AllReadyH.cons (o:={dst:=bj,op:=Op.store 130 (Operand.tmp 9) (Operand.tmp 17),type:=0,pos:= "groups.go:240",after:=#[{on:=10,ground:=Ground.data},{on:=2,ground:=Ground.data},{on:=2,ground:=Ground.chain},{on:=0,ground:=Ground.phase},{on:=1,ground:=Ground.phase},{on:=2,ground:=Ground.phase},{on:=3,ground:=Ground.textOnly Departure.lateStores},{on:=4,ground:=Ground.textOnly Departure.lateStores},{on:=5,ground:=Ground.textOnly Departure.lateStores},{on:=6,ground:=Ground.textOnly Departure.lateStores},{on:=7,ground:=Ground.textOnly Departure.lateStores},{on:=8,ground:=Ground.textOnly Departure.lateStores},{on:=9,ground:=Ground.textOnly Departure.lateStores},{on:=10,ground:=Ground.phase},{on:=11,ground:=Ground.phase}],guard:=bj}) rfl (λK hK=>?_) AllReadyH.nil;go_simp
 refine hK.out _ _ ((B0.setCell HK.1 _).setCell HK.1 _) (λ_=>?_);refine wpAnyH_ready (rs:=[13]) bw (by simp) ?_;refine AllReadyH.cons (o:={dst:=bj,op:=Op.store 130 (Operand.tmp 10) (Operand.tmp 24),type:=0,pos:= "groups.go:240",after:=#[{on:=11,ground:=Ground.data},{on:=9,ground:=Ground.data},{on:=12,ground:=Ground.chain},{on:=0,ground:=Ground.phase},{on:=1,ground:=Ground.phase},{on:=2,ground:=Ground.phase},{on:=3,ground:=Ground.phase},{on:=4,ground:=Ground.phase},{on:=5,ground:=Ground.phase},{on:=6,ground:=Ground.phase},{on:=7,ground:=Ground.phase},{on:=8,ground:=Ground.phase},{on:=9,ground:=Ground.phase},{on:=10,ground:=Ground.phase},{on:=11,ground:=Ground.phase},{on:=12,ground:=Ground.phase}],guard:=bj}) rfl (λK hK=>?_) AllReadyH.nil;go_simp
 refine hK.out _ _ F4a.cM (λ_=>?_);exact wpAnyH_done bw (hQ _ _ _ _ _ _ _ _ _ _ _ _ _ F4a.v) _
theorem Mg{Q:Exit->Act->bD->Prop}{W:bD}{n l b bt x:Nat}{t:Nat->Gp}{Wy:Nat->List (Fin 10)}{A0 A1 A2 A4 A5 A6 A7 A11 A12 A13 A14:Value}(hL:¬LetsOut Q)(hP:∀c (a:Act) d v w,Q (.panic c) (a.put d v) w->Q (.panic c) a w)
  (hTW:bP W b t) (hW:fF t Wy) (hS:Small t) (hx:x<10) (d0:W.cell? ⟨bt,0,bj⟩=bh (ai (bh ⟨b,0,bj⟩)))
  (hQ:∀(n9 n10:Nat) (V:bD) (c15 c16 c17 c18 c19 c20 c21 c22 c23 c24:Value),F4 W V n9 n10 (db t Wy x Gp.op 10) (db t Wy x Gp.oq 10) (t x).lp (t x).lq->Q .normal {tmps:=#[A0,A1,A2,ai (bh ⟨bt,0,bj⟩),A4,A5,A6,A7,aa az (x:Int),ai (bh ⟨n9,0,bj⟩),ai (bh ⟨n10,0,bj⟩),A11,A12,A13,A14,c15,c16,c17,c18,c19,c20,c21,c22,c23,c24,undef,undef,undef,undef,undef,undef,undef,undef,undef,undef,undef,undef,undef,undef,undef,undef,undef],defers:=[]} V):
  (Code.region 3 u9 true).wpIn (Fence.wide.inRound l) n prog Q {tmps:=#[A0,A1,A2,ai (bh ⟨bt,0,bj⟩),A4,A5,A6,A7,aa az (x:Int),undef,undef,A11,A12,A13,A14,undef,undef,undef,undef,undef,undef,undef,undef,undef,undef,undef,undef,undef,undef,undef,undef,undef,undef,undef,undef,undef,undef,undef,undef,undef,undef,undef],defers:=[]} W:=by
 have hbl:=hTW.lt;have hbtl:bt<W.heap.size:=bZ _ _ d0;have d1:W.cell? ⟨b,x*6+2,bj⟩=bh (aa az (t x).lp):=hTW.cell x 2 hx bu;have d2:W.cell? ⟨b,x*6+2+1,bj⟩=bh (aa az (t x).lq):=hTW.cell x 3 hx bu;have HC:∀V,Below W.heap.size W V->V.cell? ⟨bt,0,bj⟩=bh (ai (bh ⟨b,0,bj⟩))/\V.cell? ⟨b,x*6+2,bj⟩=bh (aa az (t x).lp)/\V.cell? ⟨b,x*6+2+1,bj⟩=bh (aa az (t x).lq):=λV h=>⟨(h.cell (p:=⟨bt,0,bj⟩) hbtl).trans d0,(h.cell (p:=⟨b,x*6+2,bj⟩) hbl).trans d1,(h.cell (p:=⟨b,x*6+2+1,bj⟩) hbl).trans d2⟩;have hxI:(x:Int)<10:=bu
 have hS0:Below W.heap.size W W.drew:=(aQ _ _).drew;have F0:F3 W W.drew bj none:=⟨hS0,by nofun,by nofun,by nofun⟩;refine vz (S:=λV=>Below W.heap.size W V) bw ?_ hL ?_
 .have hall:∀o∈u9.toList,∀c,o.op≠ .defer c:=by
   intro o ho c;simp only[u9,List.mem_cons,List.not_mem_nil,or_false]at ho;rcases ho with rfl|rfl|rfl|rfl|rfl|rfl|rfl|rfl|rfl|rfl|rfl|rfl|rfl|rfl<;>simp
  intro i o ho;exact hall o (by simpa using Array.mem_of_getElem? ho)
 generalize W.drew=V0 at*;dsimp only;refine wpAnyH_take (i:=0) (oi:={dst:=bh 15,op:=Op.load 79 (Operand.tmp 3),type:=79,pos:= "groups.go:240",after:=#[],guard:=bj}) (v:=?_) rfl bw bw bw (λ_ _ _ h=>hP _ _ _ _ _ h) (Or.inl ⟨by rfl,?_⟩) hS0 ?_
 rotate_left
 .intro V hV;obtain⟨c0,c1,c2⟩:=HC V hV;go_simp
  try with_reducible rfl
 simp only[Act.put,List.setIfInBounds_toArray,List.set_cons_zero,List.set_cons_succ];refine wpAnyH_take (i:=1) (oi:={dst:=bh 16,op:=Op.move (Operand.tmp 8),type:=3,pos:= "groups.go:240",after:=#[],guard:=bj}) (v:=?_) rfl bw bw bw (λ_ _ _ h=>hP _ _ _ _ _ h) (Or.inl ⟨by rfl,?_⟩) hS0 ?_
 rotate_left
 .intro V hV;obtain⟨c0,c1,c2⟩:=HC V hV;go_simp
  try with_reducible rfl
 simp only[Act.put,List.setIfInBounds_toArray,List.set_cons_zero,List.set_cons_succ];refine wpAnyH_take (i:=3) (oi:={dst:=bh 18,op:=Op.load 79 (Operand.tmp 3),type:=79,pos:= "groups.go:240",after:=#[{on:=12,ground:=Ground.gcOnly Departure.lateStores}],guard:=bj}) (v:=?_) rfl bw bw bw (λ_ _ _ h=>hP _ _ _ _ _ h) (Or.inl ⟨by rfl,?_⟩) hS0 ?_
 rotate_left
 .intro V hV;obtain⟨c0,c1,c2⟩:=HC V hV;go_simp
  try with_reducible rfl
 simp only[Act.put,List.setIfInBounds_toArray,List.set_cons_zero,List.set_cons_succ];refine wpAnyH_take (i:=4) (oi:={dst:=bh 19,op:=Op.move (Operand.tmp 8),type:=3,pos:= "groups.go:240",after:=#[{on:=12,ground:=Ground.gcOnly Departure.lateStores}],guard:=bj}) (v:=?_) rfl bw bw bw (λ_ _ _ h=>hP _ _ _ _ _ h) (Or.inl ⟨by rfl,?_⟩) hS0 ?_
 rotate_left
 .intro V hV;obtain⟨c0,c1,c2⟩:=HC V hV;go_simp
  try with_reducible rfl
 simp only[Act.put,List.setIfInBounds_toArray,List.set_cons_zero,List.set_cons_succ];refine wpAnyH_take (i:=5) (oi:={dst:=bh 20,op:=Op.nilCheck (Operand.tmp 18),type:=0,pos:= "groups.go:240",after:=#[{on:=3,ground:=Ground.data},{on:=12,ground:=Ground.gcOnly Departure.lateStores}],guard:=bj}) (v:=?_) rfl bw bw bw (λ_ _ _ h=>hP _ _ _ _ _ h) (Or.inl ⟨by rfl,?_⟩) hS0 ?_
 rotate_left
 .intro V hV;obtain⟨c0,c1,c2⟩:=HC V hV;go_simp
  try with_reducible rfl
 simp only[Act.put,List.setIfInBounds_toArray,List.set_cons_zero,List.set_cons_succ];refine wpAnyH_take (i:=6) (oi:={dst:=bh 21,op:=Op.fieldAddr 135 (Operand.tmp 20) 0,type:=0,pos:= "groups.go:240",after:=#[{on:=5,ground:=Ground.data},{on:=12,ground:=Ground.gcOnly Departure.lateStores}],guard:=bj}) (v:=?_) rfl bw bw bw (λ_ _ _ h=>hP _ _ _ _ _ h) (Or.inl ⟨by rfl,?_⟩) hS0 ?_
 rotate_left
 .intro V hV;obtain⟨c0,c1,c2⟩:=HC V hV;go_simp
  try with_reducible rfl
 simp only[Act.put,List.setIfInBounds_toArray,List.set_cons_zero,List.set_cons_succ];refine wpAnyH_take (i:=7) (oi:={dst:=bh 22,op:=Op.indexAddr 133 (Operand.tmp 21) (Operand.tmp 19),type:=0,pos:= "groups.go:240",after:=#[{on:=6,ground:=Ground.data},{on:=4,ground:=Ground.data},{on:=12,ground:=Ground.gcOnly Departure.lateStores}],guard:=bj}) (v:=?_) rfl bw bw bw (λ_ _ _ h=>hP _ _ _ _ _ h) (Or.inl ⟨by rfl,?_⟩) hS0 ?_
 rotate_left
 .intro V hV;obtain⟨c0,c1,c2⟩:=HC V hV;go_simp
  try with_reducible rfl
 simp only[Act.put,List.setIfInBounds_toArray,List.set_cons_zero,List.set_cons_succ];refine wpAnyH_take (i:=8) (oi:={dst:=bh 23,op:=Op.fieldAddr 132 (Operand.tmp 22) 2,type:=0,pos:= "groups.go:240",after:=#[{on:=7,ground:=Ground.data},{on:=12,ground:=Ground.gcOnly Departure.lateStores}],guard:=bj}) (v:=?_) rfl bw bw bw (λ_ _ _ h=>hP _ _ _ _ _ h) (Or.inl ⟨by rfl,?_⟩) hS0 ?_
 rotate_left
 .intro V hV;obtain⟨c0,c1,c2⟩:=HC V hV;go_simp
  try with_reducible rfl
 simp only[Act.put,List.setIfInBounds_toArray,List.set_cons_zero,List.set_cons_succ];refine wpAnyH_take (i:=9) (oi:={dst:=bh 24,op:=Op.load 130 (Operand.tmp 23),type:=130,pos:= "groups.go:240",after:=#[{on:=8,ground:=Ground.data},{on:=12,ground:=Ground.gcOnly Departure.lateStores}],guard:=bj}) (v:=?_) rfl bw bw bw (λ_ _ _ h=>hP _ _ _ _ _ h) (Or.inl ⟨by rfl,?_⟩) hS0 ?_
 rotate_left
 .intro V hV;obtain⟨c0,c1,c2⟩:=HC V hV;go_simp
  try with_reducible rfl
 simp only[Act.put,List.setIfInBounds_toArray,List.set_cons_zero,List.set_cons_succ];refine wpAnyH_ready (rs:=[2,10,11]) bw (by simp) ?_;refine AllReadyH.cons (o:={dst:=bh 17,op:=Op.call {callee:=Callee.value (Operand.func 97),args:=#[Operand.tmp 15,Operand.tmp 16],argTypes:=#[79,3]},type:=130,pos:= "groups.go:240",after:=#[{on:=0,ground:=Ground.data},{on:=1,ground:=Ground.data}],guard:=bj}) rfl (λK hK=>?_) ?_
 .go_simp
  refine sC (jO b x t Wy _ (hTW.below F0.cM hbl) hW hS) ?_;rintro V1 hb;have F1:=F0.call hb;refine hK.out _ _ F1.cM (λ_=>?_)
  try simp only[Act.put,List.setIfInBounds_toArray,List.set_cons_zero,List.set_cons_succ]
  refine wpAnyH_ready (rs:=[10,11]) bw (by simp) ?_;refine AllReadyH.cons (o:={dst:=bh 9,op:=Op.alloc 130,type:=0,pos:= "groups.go:240",after:=#[],guard:=bj}) rfl (λK hK=>?_) ?_
  .go_simp
   have F2:=F1.It;refine hK.out _ _ F2.cM (λ_=>?_);generalize World.alloc V1 _=V2 at F2|-;generalize V1.heap.size=n9 at F2|-
   try simp only[Act.put,List.setIfInBounds_toArray,List.set_cons_zero,List.set_cons_succ]
   refine wpAnyH_ready (rs:=[11]) bw (by simp) ?_;refine AllReadyH.cons (o:={dst:=bh 10,op:=Op.alloc 130,type:=0,pos:= "groups.go:240",after:=#[],guard:=bj}) rfl (λK hK=>?_) ?_
   .go_simp
    have F3:=F2.Bf;refine hK.out _ _ F3.cM (λ_=>?_);generalize World.alloc V2 _=V3 at F3|-;generalize V2.heap.size=n10 at F3|-
    try simp only[Act.put,List.setIfInBounds_toArray,List.set_cons_zero,List.set_cons_succ]
    exact mv hQ F3
   exact AllReadyH.nil
  refine AllReadyH.cons (o:={dst:=bh 10,op:=Op.alloc 130,type:=0,pos:= "groups.go:240",after:=#[],guard:=bj}) rfl (λK hK=>?_) ?_
  .go_simp
   have F2:=F1.Bf;refine hK.out _ _ F2.cM (λ_=>?_);generalize World.alloc V1 _=V2 at F2|-;generalize V1.heap.size=n10 at F2|-
   try simp only[Act.put,List.setIfInBounds_toArray,List.set_cons_zero,List.set_cons_succ]
   refine wpAnyH_ready (rs:=[10]) bw (by simp) ?_;refine AllReadyH.cons (o:={dst:=bh 9,op:=Op.alloc 130,type:=0,pos:= "groups.go:240",after:=#[],guard:=bj}) rfl (λK hK=>?_) ?_
   .go_simp
    have F3:=F2.It;refine hK.out _ _ F3.cM (λ_=>?_);generalize World.alloc V2 _=V3 at F3|-;generalize V2.heap.size=n9 at F3|-
    try simp only[Act.put,List.setIfInBounds_toArray,List.set_cons_zero,List.set_cons_succ]
    exact mv hQ F3
   exact AllReadyH.nil
  exact AllReadyH.nil
 refine AllReadyH.cons (o:={dst:=bh 9,op:=Op.alloc 130,type:=0,pos:= "groups.go:240",after:=#[],guard:=bj}) rfl (λK hK=>?_) ?_
 .go_simp
  have F1:=F0.It;refine hK.out _ _ F1.cM (λ_=>?_);generalize World.alloc V0 _=V1 at F1|-;generalize V0.heap.size=n9 at F1|-
  try simp only[Act.put,List.setIfInBounds_toArray,List.set_cons_zero,List.set_cons_succ]
  refine wpAnyH_ready (rs:=[2,11]) bw (by simp) ?_;refine AllReadyH.cons (o:={dst:=bh 17,op:=Op.call {callee:=Callee.value (Operand.func 97),args:=#[Operand.tmp 15,Operand.tmp 16],argTypes:=#[79,3]},type:=130,pos:= "groups.go:240",after:=#[{on:=0,ground:=Ground.data},{on:=1,ground:=Ground.data}],guard:=bj}) rfl (λK hK=>?_) ?_
  .go_simp
   refine sC (jO b x t Wy _ (hTW.below F1.cM hbl) hW hS) ?_;rintro V2 hb;have F2:=F1.call hb;refine hK.out _ _ F2.cM (λ_=>?_)
   try simp only[Act.put,List.setIfInBounds_toArray,List.set_cons_zero,List.set_cons_succ]
   refine wpAnyH_ready (rs:=[11]) bw (by simp) ?_;refine AllReadyH.cons (o:={dst:=bh 10,op:=Op.alloc 130,type:=0,pos:= "groups.go:240",after:=#[],guard:=bj}) rfl (λK hK=>?_) ?_
   .go_simp
    have F3:=F2.Bf;refine hK.out _ _ F3.cM (λ_=>?_);generalize World.alloc V2 _=V3 at F3|-;generalize V2.heap.size=n10 at F3|-
    try simp only[Act.put,List.setIfInBounds_toArray,List.set_cons_zero,List.set_cons_succ]
    exact mv hQ F3
   exact AllReadyH.nil
  refine AllReadyH.cons (o:={dst:=bh 10,op:=Op.alloc 130,type:=0,pos:= "groups.go:240",after:=#[],guard:=bj}) rfl (λK hK=>?_) ?_
  .go_simp
   have F2:=F1.Bf;refine hK.out _ _ F2.cM (λ_=>?_);generalize World.alloc V1 _=V2 at F2|-;generalize V1.heap.size=n10 at F2|-
   try simp only[Act.put,List.setIfInBounds_toArray,List.set_cons_zero,List.set_cons_succ]
   refine wpAnyH_ready (rs:=[2]) bw (by simp) ?_;refine AllReadyH.cons (o:={dst:=bh 17,op:=Op.call {callee:=Callee.value (Operand.func 97),args:=#[Operand.tmp 15,Operand.tmp 16],argTypes:=#[79,3]},type:=130,pos:= "groups.go:240",after:=#[{on:=0,ground:=Ground.data},{on:=1,ground:=Ground.data}],guard:=bj}) rfl (λK hK=>?_) ?_
   .go_simp
    refine sC (jO b x t Wy _ (hTW.below F2.cM hbl) hW hS) ?_;rintro V3 hb;have F3:=F2.call hb;refine hK.out _ _ F3.cM (λ_=>?_)
    try simp only[Act.put,List.setIfInBounds_toArray,List.set_cons_zero,List.set_cons_succ]
    exact mv hQ F3
   exact AllReadyH.nil
  exact AllReadyH.nil
 refine AllReadyH.cons (o:={dst:=bh 10,op:=Op.alloc 130,type:=0,pos:= "groups.go:240",after:=#[],guard:=bj}) rfl (λK hK=>?_) ?_
 .go_simp
  have F1:=F0.Bf;refine hK.out _ _ F1.cM (λ_=>?_);generalize World.alloc V0 _=V1 at F1|-;generalize V0.heap.size=n10 at F1|-
  try simp only[Act.put,List.setIfInBounds_toArray,List.set_cons_zero,List.set_cons_succ]
  refine wpAnyH_ready (rs:=[2,10]) bw (by simp) ?_;refine AllReadyH.cons (o:={dst:=bh 17,op:=Op.call {callee:=Callee.value (Operand.func 97),args:=#[Operand.tmp 15,Operand.tmp 16],argTypes:=#[79,3]},type:=130,pos:= "groups.go:240",after:=#[{on:=0,ground:=Ground.data},{on:=1,ground:=Ground.data}],guard:=bj}) rfl (λK hK=>?_) ?_
  .go_simp
   refine sC (jO b x t Wy _ (hTW.below F1.cM hbl) hW hS) ?_;rintro V2 hb;have F2:=F1.call hb;refine hK.out _ _ F2.cM (λ_=>?_)
   try simp only[Act.put,List.setIfInBounds_toArray,List.set_cons_zero,List.set_cons_succ]
   refine wpAnyH_ready (rs:=[10]) bw (by simp) ?_;refine AllReadyH.cons (o:={dst:=bh 9,op:=Op.alloc 130,type:=0,pos:= "groups.go:240",after:=#[],guard:=bj}) rfl (λK hK=>?_) ?_
   .go_simp
    have F3:=F2.It;refine hK.out _ _ F3.cM (λ_=>?_);generalize World.alloc V2 _=V3 at F3|-;generalize V2.heap.size=n9 at F3|-
    try simp only[Act.put,List.setIfInBounds_toArray,List.set_cons_zero,List.set_cons_succ]
    exact mv hQ F3
   exact AllReadyH.nil
  refine AllReadyH.cons (o:={dst:=bh 9,op:=Op.alloc 130,type:=0,pos:= "groups.go:240",after:=#[],guard:=bj}) rfl (λK hK=>?_) ?_
  .go_simp
   have F2:=F1.It;refine hK.out _ _ F2.cM (λ_=>?_);generalize World.alloc V1 _=V2 at F2|-;generalize V1.heap.size=n9 at F2|-
   try simp only[Act.put,List.setIfInBounds_toArray,List.set_cons_zero,List.set_cons_succ]
   refine wpAnyH_ready (rs:=[2]) bw (by simp) ?_;refine AllReadyH.cons (o:={dst:=bh 17,op:=Op.call {callee:=Callee.value (Operand.func 97),args:=#[Operand.tmp 15,Operand.tmp 16],argTypes:=#[79,3]},type:=130,pos:= "groups.go:240",after:=#[{on:=0,ground:=Ground.data},{on:=1,ground:=Ground.data}],guard:=bj}) rfl (λK hK=>?_) ?_
   .go_simp
    refine sC (jO b x t Wy _ (hTW.below F2.cM hbl) hW hS) ?_;rintro V3 hb;have F3:=F2.call hb;refine hK.out _ _ F3.cM (λ_=>?_)
    try simp only[Act.put,List.setIfInBounds_toArray,List.set_cons_zero,List.set_cons_succ]
    exact mv hQ F3
   exact AllReadyH.nil
  exact AllReadyH.nil
 exact AllReadyH.nil
attribute [local go_sem] Oper.semAt_some
theorem nE{W W':bD}(h:Below W.heap.size W W'):KeepsOthers W W':=
 ⟨h.size,λk _ hk _=>(h.block k (aX.1 hk).1).trans hk⟩
theorem K2.cC{b bt:Nat}{W W':bD}(h:Below W.heap.size W W')(h1:b<W.heap.size)(h2:bt<W.heap.size):K2 b bt W W':=⟨h.block b h1,h.block bt h2⟩
def gN(t:Nat->Gp)(Wy:Nat->List (Fin 10))(p q:Int)(y:Fin 10):Bool:=
 lU (db t Wy y.val Gp.op 10) p (t y.val).lp||lU (db t Wy y.val Gp.oq 10) q (t y.val).lq
structure Lk (w W:bD)(b:Nat)(p q g:Int)(f:Bool):Prop where
 cM:Below w.heap.size w W
 bt:W.heap[w.heap.size]? =bh (bg #[ai (bh ⟨b,0,bj⟩)] 79 (0,0))
 bm:W.heap[w.heap.size+1]? =bh (bg #[aa az p,aa az q] 130 (0,0))
 r1:W.heap[w.heap.size+1+1]? =bh (bg #[aa az g] 3 (0,0))
 r2:W.heap[w.heap.size+1+1+1]? =bh (bg #[ar f] 4 (0,0))
theorem Lk.below{w W W':bD}{b:Nat}{p q g:Int}{f:Bool}(h:Lk w W b p q g f)(hb:Below W.heap.size W W'):Lk w W' b p q g f:=by
 have h1:=(aX.1 h.r2).1;exact⟨h.cM.trans (hb.mono h.cM.size),(hb.block _ bu).trans h.bt,(hb.block _ bu).trans h.bm,(hb.block _ bu).trans h.r1,(hb.block _ h1).trans h.r2⟩
theorem Lk.own(w:bD)(b:Nat)(p q g:Int)(f:Bool){β:Type}:OwnFrom (β:=β) (w.heap.size+1+1+1+1+1+1) (λ_ W=>Lk w W b p q g f):=λs W W' row hs hg hr=>by
 have h1:=(aX.1 hs.r2).1;have hk:∀k,k<w.heap.size+1+1+1+1->W'.heap[k]? =W.heap[k]? :=λk hk=>hg.block k bu (λe=>by have:=(hr k e.symm).1;omega);refine⟨hs.cM.grown hg bu (λk e=>by have:=(hr k e).1;omega),(hk _ bu).trans hs.bt,(hk _ bu).trans hs.bm,(hk _ bu).trans hs.r1,(hk _ bu).trans hs.r2⟩
theorem Ms(w:bD)(b:Nat)(p q g:Int)(o5 o6:Obj):Lk w ((((((w.alloc (bg #[ai (bh ⟨b,0,bj⟩)] 79)).alloc (bg #[aa az p,aa az q] 130)).alloc (bg #[aa az g] 3)).alloc (bg #[ar false] 4)).alloc o5).alloc o6) b p q g false:=by
 have A:=Tn w (bg #[ai (bh ⟨b,0,bj⟩)] 79) (bg #[aa az p,aa az q] 130) (bg #[aa az g] 3) (bg #[ar false] 4);have B:=zJ w (bg #[ai (bh ⟨b,0,bj⟩)] 79) (bg #[aa az p,aa az q] 130) (bg #[aa az g] 3) (bg #[ar false] 4);have hs:=World.size_alloc;refine Lk.below ⟨B,A.1,A.2.1,A.2.2.1,A.2.2.2⟩ (((aQ _ _).alloc (aL _) _).alloc (by simp) _)
theorem Mr(w:bD)(o1 o2 o3 o4 o5 o6:Obj):((((((w.alloc o1).alloc o2).alloc o3).alloc o4).alloc o5).alloc o6).heap[w.heap.size+1+1+1+1]? =bh o5/\((((((w.alloc o1).alloc o2).alloc o3).alloc o4).alloc o5).alloc o6).heap[w.heap.size+1+1+1+1+1]? =bh o6:=by
 have A:=Tm ((((w.alloc o1).alloc o2).alloc o3).alloc o4) o5 o6;simp only[World.size_alloc]at A;exact A
theorem Lk.fin{w W:bD}{b:Nat}{p q g:Int}{f:Bool}(h:Lk w W b p q g f)(g':Int)(f':Bool):Lk w ((W.setCell ⟨w.heap.size+1+1,0,bj⟩ (aa az g')).setCell ⟨w.heap.size+1+1+1,0,bj⟩ (ar f')) b p q g' f':=by
 have e1:(W.setCell ⟨w.heap.size+1+1,0,bj⟩ (aa az g')).heap[w.heap.size+1+1]? =bh (bg #[aa az g'] 3 (0,0)):=by rw[heap_set h.r1];rfl
 have e2:(W.setCell ⟨w.heap.size+1+1,0,bj⟩ (aa az g')).heap[w.heap.size+1+1+1]? =bh (bg #[ar f] 4 (0,0)):=by rw[dJ _ _ _ _ bu];exact h.r2
 refine⟨(h.cM.setCell (p:=⟨w.heap.size+1+1,0,bj⟩) (by simp;omega) _).setCell (p:=⟨w.heap.size+1+1+1,0,bj⟩) (by simp;omega) _,?_,?_,?_,?_⟩
 .rw[dJ _ _ _ _ bu,dJ _ _ _ _ bu];exact h.bt
 .rw[dJ _ _ _ _ bu,dJ _ _ _ _ bu];exact h.bm
 .rw[dJ _ _ _ _ bu];exact e1
 .rw[heap_set e2];rfl
theorem qV(b:Nat)(g p q:Int)(t:Nat->Gp)(Wy:Nat->List (Fin 10))(xs:List (Fin 10))(w:bD)(hT:bP w b t)(hW:fF t Wy)(hS:Small t)(hL:Way t g (jM xs))(hp:0<=p/\p<=1000)(hq:0<=q/\q<=1000):
  Calls prog 139 #[ai (bh ⟨b,0,bj⟩),aa az g,au #[aa az p,aa az q]] w λe W'=>(((∀y∈xs,gN t Wy p q y=false)/\e=bf (ao #[aa az 0,ar false]))\/
   (∃pre x rest,xs=pre++x::rest/\(∀y∈pre,gN t Wy p q y=false)/\gN t Wy p q x=true/\e=bf (ao #[aa az (x.val:Int),ar true])))/\Below w.heap.size w W':=by
 refine(callsIn_wide (n:=4)).1 ?_;refine callsIn_of_wp_marks Tryz.func139 rfl trivial ?_ rfl;simp only[Tryz.ntmps139,List.size_toArray,List.length_cons,List.length_nil,Nat.reduceAdd,Nat.reduceSub,Array.replicate_succ,Array.replicate_zero,List.push_toArray,List.append_toArray,List.nil_append,List.cons_append]
 gi_wp2_with (refine⟨trivial,?_⟩;gi_at_call 216;refine(callsIn_wide.2 (zv b g _)).mono ?_;rintro e w' ⟨rfl,rfl⟩)
 have hLk:=Ms w b p q 0 (bg #[ai (bh ⟨b,0,bj⟩)] 79) (bg #[aa az g] 3);have hbx:=Mr w (bg #[ai (bh ⟨b,0,bj⟩)] 79) (bg #[aa az p,aa az q] 130) (bg #[aa az 0] 3) (bg #[ar false] 4) (bg #[ai (bh ⟨b,0,bj⟩)] 79) (bg #[aa az g] 3);have c5:=gK hbx.2;have hbl:=hT.lt;refine wpIn_rangeFunc_ownF rfl bu (gf:=267) (lb:=#[ai (bh ⟨w.heap.size+1+1+1+1+1,0,bj⟩),ai (bh ⟨w.heap.size+1+1+1+1,0,bj⟩)]) rfl trivial (enters_of Tryz.func267 bw rfl)
  (uM 3 bu (w.heap.size+1+1+1+1+1) (w.heap.size+1+1+1+1) b g t xs _ (by simp) c5.1 hbx.1 (hT.below hLk.cM hbl) hL) K2.t (K2.b (by simp;omega) (by simp)) (aQ _ _) (λ_=>rfl)
  (λpre W=>(∀y∈pre,gN t Wy p q y=false)/\Lk w W b p q 0 false/\w.heap.size+1+1+1+1+1+1<=W.heap.size)
  (λc pre W=>(c= .ret/\∃pre0 x,pre=pre0++[x]/\(∀y∈pre0,gN t Wy p q y=false)/\gN t Wy p q x=true/\Lk w W b p q (x.val:Int) true))
  (λs W W' row hs hg hr=>⟨hs.1,Lk.own w b p q 0 false s W W' row hs.2.1 hg (λr e=>by have:=hr r e;simpa using this),by have:=hg.size;omega⟩)
  (λc s W W' row hs hg hr=>⟨hs.1,by
   obtain⟨pre0,x,h1,h2,h3,h4⟩:=hs.2;exact⟨pre0,x,h1,h2,h3,Lk.own w b p q (x.val:Int) true s W W' row h4 hg (λr e=>by have:=hr r e;simpa using this)⟩⟩)
  ⟨by simp,hLk,by simp⟩
  (λx=>{tmps:=#[ai (bh ⟨b,0,bj⟩),aa az g,au #[aa az p,aa az q],ai (bh ⟨w.heap.size,0,bj⟩),undef,ai (bh ⟨w.heap.size+1,0,bj⟩),ai (bh ⟨w.heap.size+1+1,0,bj⟩),ai (bh ⟨w.heap.size+1+1+1,0,bj⟩),aa az (x.val:Int),undef,undef,ai (bh ⟨b,0,bj⟩),aa az g, .func (.func 267) #[] #[ai (bh ⟨w.heap.size+1+1+1+1+1,0,bj⟩),ai (bh ⟨w.heap.size+1+1+1+1,0,bj⟩)],aa az (x.val:Int),undef,undef,undef,undef,undef,undef,undef,undef,undef,undef,undef,undef,undef,undef,undef,undef,undef,undef,undef,undef,undef,undef,undef,undef,undef,undef,undef],defers:=[]}) ?assign ?body ?done ?stop
 case assign=>
  intro l x W K hK
  gi_wp2
  exact hK
 case body=>
  rintro l pre x W ⟨hpre,hLk,hsz⟩ _;have T1:Hid (bP W b t):=hT.below hLk.cM hbl;have L1:Hid (Lk w W b p q 0 false):=hLk;have HP:Hid (∀y∈pre,gN t Wy p q y=false):=hpre;have hmx:prog.follows .mixedOrders=true:=by kernel_rfl
  have d0:W.cell? ⟨w.heap.size,0,bj⟩=bh (ai (bh ⟨b,0,bj⟩)):=by rw[cZ hLk.bt];rfl
  have d1:W.cell? ⟨b,x.val*6+2,bj⟩=bh (aa az (t x.val).lp):=T1.cell x.val 2 x.isLt bu;have d2:W.cell? ⟨b,x.val*6+2+1,bj⟩=bh (aa az (t x.val).lq):=T1.cell x.val 3 x.isLt bu;have d3:W.cell? ⟨b,x.val*6+3,bj⟩=bh (aa az (t x.val).lq):=d2;have hxI:(x.val:Int)<10:=by have:=x.isLt;omega
  gi_wp2
  have B1:=qe Wy x.val (λk hk=>(hS k hk).1) 10 bu;have B2:=qe Wy x.val (λk hk=>(hS k hk).2) 10 bu;refine Mg (t:=t) (Wy:=Wy) (x:=x.val) ?_ (λ_ _ _ _ _ h=>h) T1.v hW hS x.isLt d0 ?_
  .rintro⟨a,w,h⟩;exact h
  intro n9 n10 V c15 c16 c17 c18 c19 c20 c21 c22 c23 c24 F;have eL:gN t Wy p q x=(lU (db t Wy x.val Gp.op 10) p (t x.val).lp||lU (db t Wy x.val Gp.oq 10) q (t x.val).lq):=rfl;have L2:Hid (Lk w V b p q 0 false):=L1.below F.cM;have FB:Hid (Below W.heap.size W V):=F.cM;have a0:V.cell? ⟨n9,0,bj⟩=bh (aa az (db t Wy x.val Gp.op 10)):=by rw[cZ F.c9];rfl
  have a1:V.cell? ⟨n9,1,bj⟩=bh (aa az (db t Wy x.val Gp.oq 10)):=by rw[cZ F.c9];rfl
  have b0:V.cell? ⟨n10,0,bj⟩=bh (aa az (t x.val).lp):=by rw[cZ F.tw];rfl
  have b1:V.cell? ⟨n10,1,bj⟩=bh (aa az (t x.val).lq):=by rw[cZ F.tw];rfl
  have m0:V.cell? ⟨w.heap.size+1,0,bj⟩=bh (aa az p):=by rw[cZ L2.bm];rfl
  have m1:V.cell? ⟨w.heap.size+1,1,bj⟩=bh (aa az q):=by rw[cZ L2.bm];rfl
  have r1:=gK L2.r1;have r2:=gK L2.r2;obtain⟨r1c,r1f⟩:=r1;obtain⟨r2c,r2f⟩:=r2;have EL:Hid (gN t Wy p q x=(lU (db t Wy x.val Gp.op 10) p (t x.val).lp||lU (db t Wy x.val Gp.oq 10) q (t x.val).lq)):=eL;generalize db t Wy x.val Gp.op 10=X at*;generalize db t Wy x.val Gp.oq 10=Y at*;generalize (t x.val).lp=LP at*;generalize (t x.val).lq=LQ at*;have HB:Hid ((0<=X/\X<=100000000)/\(0<=Y/\Y<=100000000)):=⟨⟨B1.1,bu⟩,⟨B2.1,bu⟩⟩;have HPQ:Hid ((0<=p/\p<=1000)/\(0<=q/\q<=1000)):=⟨hp,hq⟩;have hlt:Hid (w.heap.size+1+1+1+1+1+1<=V.heap.size):=by have:=FB.size;exact aH hsz this
  cases h1:lU X p LP
  .cases h2:lU Y q LQ
   .have E0:Hid (gN t Wy p q x=false):=by rw[EL.v,h1,h2];rfl
    gi_wp2_with (refine⟨trivial,?_⟩;gi_at_call 217;refine(CallsIn.inRound l (callsIn_wide.2 (sJ _ _ _ _ (by first|exact HB.1|exact HB.2) (by first|exact HPQ.1|exact HPQ.2)))).mono ?_;rintro e w' ⟨rfl,rfl⟩;first|rw[h1]|rw[h2])
    exact⟨nE FB.v,K2.cC FB.v (by have:=T1.lt;omega) bu,λy hy=>(List.mem_append.1 hy).elim (HP.v y) (λe=>by simp at e;subst e;exact E0.v),L2.v,hlt.v⟩
   .have E0:Hid (gN t Wy p q x=true):=by rw[EL.v,h1,h2];rfl
    gi_wp2_with (refine⟨trivial,?_⟩;gi_at_call 217;refine(CallsIn.inRound l (callsIn_wide.2 (sJ _ _ _ _ (by first|exact HB.1|exact HB.2) (by first|exact HPQ.1|exact HPQ.2)))).mono ?_;rintro e w' ⟨rfl,rfl⟩;first|rw[h1]|rw[h2])
    exact⟨((nE FB.v).trans (KeepsOthers.setCell _ _ _)).trans (KeepsOthers.setCell _ _ _),rfl,pre,x,rfl,HP.v,E0.v,L2.fin _ _⟩
  .have E0:Hid (gN t Wy p q x=true):=by rw[EL.v,h1];rfl
   gi_wp2_with (refine⟨trivial,?_⟩;gi_at_call 217;refine(CallsIn.inRound l (callsIn_wide.2 (sJ X p LP _ HB.1 HPQ.1))).mono ?_;rintro e w' ⟨rfl,rfl⟩;rw[h1])
   refine⟨trivial,?_⟩
   gi_wp2
   exact⟨((nE FB.v).trans (KeepsOthers.setCell _ _ _)).trans (KeepsOthers.setCell _ _ _),rfl,pre,x,rfl,HP.v,E0.v,L2.fin _ _⟩
 case done=>
  rintro D ys W hD rfl ⟨hne,hLk,hsz⟩ hK;have r1:=gK hLk.r1;have r2:=gK hLk.r2;obtain⟨r1c,r1f⟩:=r1;obtain⟨r2c,r2f⟩:=r2
  gi_wp2
  have hF:=hLk.fin 0 false;have hK':=(KeepsOthers.setCell _ ⟨w.heap.size+1+1+1,0,bj⟩ (ar false)).same D _ ((KeepsOthers.setCell W ⟨w.heap.size+1+1,0,bj⟩ (aa .i64 0)).same D _ hK rfl) rfl;refine⟨by simp, .inl ⟨_,_,rfl,run_takeDeferred hK',?_⟩⟩;have hg:=grownBy_putObj' ((W.setCell ⟨w.heap.size+1+1,0,bj⟩ (aa .i64 0)).setCell ⟨w.heap.size+1+1+1,0,bj⟩ (ar false)) D (.deferred bj);have q1:=cell_kept (gK hF.r1).1 hg (λr e=>by cases e;exact⟨_,hK',rfl⟩);have q2:=cell_kept (gK hF.r2).1 hg (λr e=>by cases e;exact⟨_,hK',rfl⟩);refine⟨ao #[aa az 0,ar false],?_, .inl ⟨hne,rfl⟩,hF.cM.trans (belowK_b (w:=w) (aL _) _ D _ _ (by simp at hD;omega) hK' rfl rfl)⟩;simp[results,Tryz.f139,go_sem,q1,q2]
 case stop=>
  rintro D c pre W hD hpre ⟨rfl,pre0,x,rfl,hne,hx,hF⟩ hK
  gi_wp2
  refine⟨by simp, .inl ⟨_,_,rfl,run_takeDeferred hK,?_⟩⟩;have hg:=grownBy_putObj' W D (.deferred bj);have q1:=cell_kept (gK hF.r1).1 hg (λr e=>by cases e;exact⟨_,hK,rfl⟩);have q2:=cell_kept (gK hF.r2).1 hg (λr e=>by cases e;exact⟨_,hK,rfl⟩);obtain⟨rest,hrest⟩:=hpre;refine⟨ao #[aa az (x.val:Int),ar true],?_, .inr ⟨pre0,x,rest,by rw[<-hrest];simp,hne,hx,rfl⟩,hF.cM.trans (belowK_b (w:=w) (aL _) W D _ _ (by simp at hD;omega) hK rfl rfl)⟩;simp[results,Tryz.f139,go_sem,q1,q2]
structure bE (b:Nat)(w w':bD):Prop where
 os:w'.os=w.os
 tape:w'.tape=w.tape
 output:w'.output=w.output
 size:w.heap.size<=w'.heap.size
 block:∀k,k<w.heap.size->k≠b->w'.heap[k]? =w.heap[k]?
theorem bE.cC{b:Nat}{w w':bD}(h:Below w.heap.size w w'):bE b w w':=⟨h.os,h.tape,h.output,h.size,λk hk _=>h.block k hk⟩
theorem bE.refl(b:Nat)(w:bD):bE b w w:=⟨rfl,rfl,rfl,aL _,λ_ _ _=>rfl⟩
theorem bE.trans{b:Nat}{u v w:bD}(h:bE b u v)(k:bE b v w):bE b u w:=
 ⟨k.os.trans h.os,k.tape.trans h.tape,k.output.trans h.output,aH h.size k.size,λj hj hn=>(k.block j (aD hj h.size) hn).trans (h.block j hj hn)⟩
theorem bE.setCell{b:Nat}{u w:bD}(h:bE b u w)(o:Nat)(v:Value):bE b u (w.setCell ⟨b,o,bj⟩ v):=
 ⟨h.os,h.tape,h.output,by simpa[World.setCell]using h.size,λk hk hn=>(dJ _ _ _ _ hn).trans (h.block k hk hn)⟩
theorem bE.drew{b:Nat}{u w:bD}(h:bE b u w):bE b u w.drew:=⟨h.os,h.tape,h.output,h.size,h.block⟩
theorem bE.below{b B:Nat}{u w w':bD}(h:bE b w w')(hb:Below B u w)(hB:B<=b)(hs:B<=w.heap.size):Below B u w':=
 hb.trans ⟨h.os,h.tape,h.output,h.size,λk hk=>h.block k bu bu⟩
def mS(p:Int):Gp:=⟨true,p,-1,-1,0,0⟩
def kS:Gp:=⟨false,0,0,0,0,0⟩
theorem bP.M7{w:bD}{b:Nat}{t:Nat->Gp}(h:bP w b t)(n:Nat)(hn:n<10)(g:Gp):
  bP ((((((w.setCell ⟨b,n*6,bj⟩ (ar g.there)).setCell ⟨b,n*6+1,bj⟩ (aa az g.par)).setCell ⟨b,n*6+2,bj⟩ (aa az g.lp)).setCell ⟨b,n*6+3,bj⟩ (aa az g.lq)).setCell ⟨b,n*6+4,bj⟩ (aa az g.op)).setCell ⟨b,n*6+5,bj⟩ (aa az g.oq)) b (gm t n g):=by
 unfold bP;rw[heap_set (heap_set (heap_set (heap_set (heap_set (heap_set h (n*6) _) (n*6+1) _) (n*6+2) _) (n*6+3) _) (n*6+4) _)];refine congrArg (λc=>bh (bg c 135 (0,0))) ?_;refine vZ _ _ (by simp[gv]) λm i hm hi=>?_;have hsz:=gv t;by_cases e:m=n
 .subst e;rw[fa]
  match i,hi with
  |0,_=>simp[bY,hsz,Gp.cell];omega
  |1,_=>simp[bY,hsz,Gp.cell];omega
  |2,_=>simp[bY,hsz,Gp.cell];omega
  |3,_=>simp[bY,hsz,Gp.cell];omega
  |4,_=>simp[bY,hsz,Gp.cell];omega
  |5,_=>simp[bY,hsz,Gp.cell];omega
 .rw[fO _ _ _ _ e,aU bu,aU bu,aU bu,aU bu,aU bu,aU bu,nu t m i hm hi]
theorem ue(p:Int)(w:bD):Calls prog 162 #[aa az p] w λe w'=>e=bf (au #[ar true,aa az p,aa az (-1),aa az (-1),aa az 0,aa az 0])/\Below w.heap.size w w':=by
 go_in
 go_wp2
 refine bodyPost_ret (v:=au #[ar true,aa az p,aa az (-1),aa az (-1),aa az 0,aa az 0]) (by simp[results,Tryz.results162,go_sem]) rfl ⟨rfl,(aQ _ _).alloc (aL _) _⟩
theorem sQ(w:bD):bP (w.alloc (bg (gi λ_=>kS) 135)) w.heap.size (λ_=>kS):=heap_alloc_new w _
theorem yJ:gi (λ_=>kS)=#[ar false,aa az 0,aa az 0,aa az 0,aa az 0,aa az 0,ar false,aa az 0,aa az 0,aa az 0,aa az 0,aa az 0,ar false,aa az 0,aa az 0,aa az 0,aa az 0,aa az 0,ar false,aa az 0,aa az 0,aa az 0,aa az 0,aa az 0,ar false,aa az 0,aa az 0,aa az 0,aa az 0,aa az 0,ar false,aa az 0,aa az 0,aa az 0,aa az 0,aa az 0,ar false,aa az 0,aa az 0,aa az 0,aa az 0,aa az 0,ar false,aa az 0,aa az 0,aa az 0,aa az 0,aa az 0,ar false,aa az 0,aa az 0,aa az 0,aa az 0,aa az 0,ar false,aa az 0,aa az 0,aa az 0,aa az 0,aa az 0]:=by kernel_rfl
theorem rD(w:bD):Calls prog 84 #[] w λe w'=>e=bf (ai (bh ⟨w.heap.size,0,bj⟩))/\bP w' w.heap.size (gm (λ_=>kS) 0 (mS (-1)))/\Below w.heap.size w w':=by
 have Z:=sQ w;rw[yJ]at Z;go_in
 go_wp2_with fail
 refine cG (λW=>bP W w.heap.size (λ_=>kS)/\Below w.heap.size w W) ⟨Z,(aQ _ _).alloc (aL _) _⟩ ?_;rintro W ⟨hT,hB⟩;have HT:Hid (bP W w.heap.size (λ_=>kS)):=hT;have HB:Hid (Below w.heap.size w W):=hB;go_region_held3 (λ_=>True) (trivial) ((go_at_call 162;refine sC (ue _ _) ?_;rintro w2 hb2;have T2:bP w2 w.heap.size (λ_=>kS):=HT.drew.below hb2 HT.lt;have c0:=T2.cell 0 0 bu bu;have c1:=T2.cell 0 1 bu bu;have c2:=T2.cell 0 2 bu bu;have c3:=T2.cell 0 3 bu bu;have c4:=T2.cell 0 4 bu bu;have c5:=T2.cell 0 5 bu bu;have cf:=T2.frozen;simp only[Nat.zero_mul,Nat.zero_add]at c0 c1 c2 c3 c4 c5))
 have HT2:Hid (bP w2 w.heap.size (λ_=>kS)):=T2;have HB2:Hid (Below w.heap.size w w2):=HB.trans ((aQ _ W).drew.trans (hb2.mono (by have:=HB.size;exact this)));go_wp2
 go_ret
 refine⟨rfl,HT2.M7 0 bu (mS (-1)),?_⟩;exact(((((HB2.setCell (aL _) _).setCell (aL _) _).setCell (aL _) _).setCell (aL _) _).setCell (aL _) _).setCell (aL _) _
def bG(k:Int):Value:=if k=0 then ay else aq 100 (aa .i64 k)
theorem jw(b:Nat)(g:Int)(t:Nat->Gp)(w:bD)(h:bP w b t):Calls prog 96 #[ai (bh ⟨b,0,bj⟩),aa az g] w λe w'=>e=bf (bG (wr t g))/\w'=w:=by
 unfold wr;by_cases hb:g<0\/10<=g
 .rw[aJ hb];exact uP b g w hb
 .rw[aI hb];obtain⟨n,rfl⟩:=aG (show 0<=g by omega);cases hh:(t n).there
  .rw[hZ,hh];exact sX b n t w h bu hh
  .rw[hZ,hh];exact iE b n t w h bu hh
theorem rS{t:Nat->Gp}{g:Int}(h:wr t g=0):∃n:Nat,g=n/\n<10/\(t n).there=true:=by
 unfold wr at h;by_cases hb:g<0\/10<=g
 .rw[aJ hb]at h;simp at h
 .rw[aI hb]at h;obtain⟨n,rfl⟩:=aG (show 0<=g by omega);refine⟨n,rfl,bu,?_⟩;rw[hZ]at h;cases hh:(t n).there
  .rw[hh]at h;simp at h
  .rfl
theorem uI(t:Nat->Gp)(n:Nat)(g g':Gp):gm (gm t n g) n g'=gm t n g':=by
 funext k;unfold gm;split<;>rfl
def eS(t:Nat->Gp)(g p q:Int):Int:=if wr t g=0 then(if js p q 0=true then 0 else 1)else wr t g
theorem iU(b:Nat)(g p q:Int)(t:Nat->Gp)(w:bD)(h:bP w b t):Calls prog 138 #[ai (bh ⟨b,0,bj⟩),aa az g,au #[aa az p,aa az q]] w λe w'=>e=bf (bG (eS t g p q))/\Below w.heap.size w w':=by
 unfold eS;by_cases hw:wr t g=0
 .rw[aJ hw];obtain⟨n,rfl,hn,hh⟩:=rS hw;cases hf:js p q 0
  .exact Aw b n p q t w h hn hh hf
  .exact Hk b n p q t w h hn hh hf
 .rw[aI hw];unfold wr at hw|-;by_cases hb:g<0\/10<=g
  .rw[aJ hb];exact D7 b g p q w hb
  .rw[aI hb]at hw|-;obtain⟨n,rfl⟩:=aG (show 0<=g by omega);rw[hZ]at hw|-;cases hh:(t n).there
   .exact CI b n p q t w h bu hh
   .rw[hh]at hw;simp at hw
theorem IY{p q l:Int}:js p q l=true↔(l<=p/\p<=20/\l<=q/\q<=64):=by unfold js;exact decide_eq_true_iff
theorem mD{t:Nat->Gp}{g p q:Int}(h:eS t g p q=0):∃n:Nat,g=n/\n<10/\(t n).there=true/\(0<=p/\p<=20)/\(0<=q/\q<=64):=by
 unfold eS at h;by_cases hw:wr t g=0
 .rw[aJ hw]at h;obtain⟨n,e,hn,hh⟩:=rS hw;cases hf:js p q 0
  .rw[hf]at h;simp at h
  .have:=IY.1 hf;exact⟨n,e,hn,hh,⟨this.1,this.2.1⟩,this.2.2.1,this.2.2.2⟩
 .rw[aI hw]at h;exact aZ h hw
theorem JA(b:Nat)(g p q:Int)(t:Nat->Gp)(w:bD)(h:bP w b t)(hw:wr t g≠0):Calls prog 115 #[ai (bh ⟨b,0,bj⟩),aa az g,aa az p,aa az q] w λe w'=>e=bf (bG (wr t g))/\w'=w:=by
 have HT:Hid (bP w b t):=h;have HW:Hid (bG (wr t g)=aq 100 (aa az (wr t g))):=aI hw;go_in
 go_wp2_with fail
 refine sC (jw b g t _ HT.v) ?_;rintro w1 hw1;subst w1;rw[HW.v];go_wp2
 go_ret
 exact⟨by rw[HW.v];rfl,rfl⟩
theorem D0(b n:Nat)(p q:Int)(t:Nat->Gp)(w:bD)(h:bP w b t)(hn:n<10)(hh:(t n).there=true)(hf:js p q (-1)=false):Calls prog 115 #[ai (bh ⟨b,0,bj⟩),aa az n,aa az p,aa az q] w λe w'=>e=bf (bG 1)/\Below w.heap.size w w':=by
 have HT:Hid (bP w b t/\(t n).there=true):=⟨h,hh⟩;have HF:Hid (js p q (-1)=false):=hf;go_in
 go_wp2_with fail
 refine sC (iE b n t _ HT.1 hn HT.2) ?_;rintro w1 hw1;subst w1;go_wp2_with fail
 refine sC (sB p q (-1) _) ?_;rintro w2 hb;rw[HF.v];have HB:Hid (Below w.heap.size w w2):=((aQ _ w).alloc (aL _) _).trans (hb.mono (by simp));go_wp2
 go_ret
 exact⟨rfl,HB.v⟩
theorem Mn(b n:Nat)(p q:Int)(t:Nat->Gp)(w:bD)(h:bP w b t)(hn:n<10)(hh:(t n).there=true)(hf:js p q (-1)=true):Calls prog 115 #[ai (bh ⟨b,0,bj⟩),aa az n,aa az p,aa az q] w λe w'=>e=bf (bG 0)/\bP w' b (gm t n {t n with lp:=p,lq:=q})/\bE b w w':=by
 have HT:Hid (bP w b t/\(t n).there=true):=⟨h,hh⟩;have HF:Hid (js p q (-1)=true):=hf;have hnI:(n:Int)<10:=bu
 go_in
 go_wp2_with fail
 refine sC (iE b n t _ HT.1 hn HT.2) ?_;rintro w1 hw1;subst w1;go_wp2_with fail
 refine sC (sB p q (-1) _) ?_;rintro w2 hb;rw[HF.v];have HB:Hid (Below w.heap.size w w2):=((aQ _ w).alloc (aL _) _).trans (hb.mono (by simp));have hbx:w2.heap[w.heap.size]? =bh (bg #[aa az p,aa az q] 130 (0,0)):=(hb.block _ (by simp)).trans (heap_alloc_new w _);have x0:w2.cell? ⟨w.heap.size,0,bj⟩=bh (aa az p):=cZ hbx 0;have x1:w2.cell? ⟨w.heap.size,1,bj⟩=bh (aa az q):=cZ hbx 1;have T2:Hid (bP w2 b t):=HT.1.below HB.v HT.1.lt;have y0:w2.cell? ⟨b,n*6+2,bj⟩=bh (aa az (t n).lp):=T2.cell n 2 hn bu;have y1:w2.cell? ⟨b,n*6+2+1,bj⟩=bh (aa az (t n).lq):=T2.cell n 3 hn bu;have yf:=T2.frozen;have ne1:b≠w.heap.size:=by have:=HT.1.lt;omega
 generalize (t n).lp=LP at y0;generalize (t n).lq=LQ at y1;go_wp2_with fail
 go_region_held3 (λw'=>w'.cell? ⟨w.heap.size,0,bj⟩=bh (aa az p)/\w'.cell? ⟨w.heap.size,1,bj⟩=bh (aa az q)) (go_keep) (fail)
 go_wp2
 go_ret
 refine⟨rfl,?_,(((bE.cC HB.v).setCell _ _).setCell _ _).drew⟩;have Z:=((T2.set n 2 hn bu (aa az p) {t n with lp:=p} (λi hi=>by match i,hi with|0,_=>rfl|1,_=>rfl|2,_=>rfl|3,_=>rfl|4,_=>rfl|5,_=>rfl)).set n 3 hn bu (aa az q) {t n with lp:=p,lq:=q} (λi hi=>by rw[fa];match i,hi with|0,_=>rfl|1,_=>rfl|2,_=>rfl|3,_=>rfl|4,_=>rfl|5,_=>rfl)).drew;rw[uI]at Z;exact Z
end Go.Proofs.YtpmmdkcfenjiaaaGreatDoor.Gr

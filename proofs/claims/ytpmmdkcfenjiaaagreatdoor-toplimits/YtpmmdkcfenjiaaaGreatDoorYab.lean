import Derived.Test.YtpmmdkcfenjiaaaGreatDoorYzz
import Derived.Test.YtpmmdkcfenjiaaaGreatDoorProg
import Derived.WalkSpells
import Derived.WalkLawsBesides
import Derived.Deep.Slices
import Derived.Deep.AppendLies
import Derived.Deep.RegionHeld3
import Derived.Handy
import Derived.StillTailTactics
import Derived.Deep.CutBlock
import Derived.Deep.DeepCutAuto
import Derived.RangeFuncNested
import Derived.RangeFuncBound
import Derived.Shelf.RegionOpen
import Derived.OwnWalkIn
import Derived.LoopNIn
import Derived.LoopIn
set_option maxRecDepth 100000
set_option maxHeartbeats 2000000
set_option linter.unusedVariables false
set_option linter.unusedSimpArgs false
namespace Go.Proofs.YtpmmdkcfenjiaaaGreatDoor
open Value renaming int->aa,pointer->ai,slice->aj,string->ak,tuple->ao,iface->aq,bool->ar,agg->au,nilIface->ay
open IntKind renaming i64->az,u64->bd
open Ending renaming returned->bf
open Obj renaming cells->bh
open Option renaming some->bj,none->bu
open Bool renaming true->bw,false->bA
open Tryz (prog)
open Go.RowKit
theorem cJ{P:Program}{c:Code}{Q:Exit->Act->bD->Prop}{a:Act}{W:bD}(F:bD->Prop)(h1:F W)(h2:∀W',F W'->Code.wp P c Q a W'):Code.wp P c Q a W:=h2 W h1
theorem cQ{w:bD}{b:Nat}{C:Array Value}{T:TypeId}(h:w.heap[b]? =bj (bh C T (0,0)))(i:Nat)(v:Value):(w.setCell ⟨b,i,bu⟩ v).heap[b]? =bj (bh (C.setIfInBounds i v) T (0,0)):=by
 simp[World.setCell,Array.getElem?_modify,h]
theorem cX{a b:Bool}(h:a=b):bf (ar a)=bf (ar b):=by rw[h]
structure bG (b:Nat)(w w':bD):Prop where
 os:w'.os=w.os
 tape:w'.tape=w.tape
 output:w'.output=w.output
 size:w.heap.size<=w'.heap.size
 block:∀k,k<w.heap.size->k≠b->w'.heap[k]? =w.heap[k]?
theorem bG.cL{b:Nat}{w w':bD}(h:Below w.heap.size w w'):bG b w w':=⟨h.os,h.tape,h.output,h.size,λk hk _=>h.block k hk⟩
theorem bG.refl(b:Nat)(w:bD):bG b w w:=⟨rfl,rfl,rfl,aL _,λ_ _ _=>rfl⟩
theorem bG.trans{b:Nat}{u v w:bD}(h:bG b u v)(k:bG b v w):bG b u w:=
 ⟨k.os.trans h.os,k.tape.trans h.tape,k.output.trans h.output,aH h.size k.size,λj hj hn=>(k.block j (aD hj h.size) hn).trans (h.block j hj hn)⟩
theorem dE{W:bD}(b c o:Nat)(v:Value)(h:b≠c):(W.setCell ⟨c,o,bu⟩ v).heap[b]? =W.heap[b]? :=Below.heap_setCell _ _ _ _ h
theorem bG.setCell{b:Nat}{u w:bD}(h:bG b u w)(o:Nat)(v:Value):bG b u (w.setCell ⟨b,o,bu⟩ v):=
 ⟨h.os,h.tape,h.output,by simpa[World.setCell]using h.size,λk hk hn=>(dE _ _ _ _ hn).trans (h.block k hk hn)⟩
theorem bG.drew{b:Nat}{u w:bD}(h:bG b u w):bG b u w.drew:=⟨h.os,h.tape,h.output,h.size,h.block⟩
theorem bG.drewN{b:Nat}{u w:bD}(h:bG b u w)(n:Nat):bG b u (w.drewN n):=⟨h.os,h.tape,h.output,h.size,h.block⟩
theorem bG.below{b B:Nat}{u w w':bD}(h:bG b w w')(hb:Below B u w)(hB:B<=b)(hs:B<=w.heap.size):Below B u w':=
 hb.trans ⟨h.os,h.tape,h.output,h.size,λk hk=>h.block k bB bB⟩
theorem bR{w:bD}{b:Nat}{C:Array Value}{T:TypeId}(h:w.heap[b]? =bj (bh C T (0,0)))(o:Nat):w.cell? ⟨b,o,bu⟩=C[o]? :=by simp[World.cell?,h]
theorem cE{w:bD}{b:Nat}{C:Array Value}{T:TypeId}(h:w.heap[b]? =bj (bh C T (0,0)))(o:Nat):w.frozen? ⟨b,o,bu⟩=bA:=by simp[World.frozen?,h]
theorem dm{w:bD}{b:Nat}{C:Array Value}{T:TypeId}(h:w.heap[b]? =bj (bh C T (0,0)))(i j:Nat)(v:Value)(e:i≠j):(w.setCell ⟨b,i,bu⟩ v).cell? ⟨b,j,bu⟩=w.cell? ⟨b,j,bu⟩:=by
 rw[bR (cQ h i v),bR h,aU e]
theorem dF{w:bD}{b:Nat}{C:Array Value}{T:TypeId}(h:w.heap[b]? =bj (bh C T (0,0)))(i:Nat)(v:Value)(hi:i<C.size):(w.setCell ⟨b,i,bu⟩ v).cell? ⟨b,i,bu⟩=bj v:=by
 rw[bR (cQ h i v),aE hi]
def bN(k:Int):Value:=if k=0 then ay else aq 100 (aa .i64 k)
theorem bF:bN 0=ay:=rfl
theorem bH{k:Int}(h:k≠0):bN k=aq 100 (aa .i64 k):=aI h
theorem QL(n:Int)(w:bD):(Instr.typeAssert (aq 100 (aa az n)) 34 100 bw).run prog w= .ok (ao #[aa az n,ar bw]) w:=by kernel_rfl
theorem Bv(a:Option Addr)(n c:Nat)(m:Int)(w:bD):Calls prog 38 #[aj a n c,aa az m] w λe w'=>e=bf (ar (decide ((n:Int)<=m)))/\w'=w:=by
 go_in
 go_wp2
 go_ret
 exact⟨rfl,rfl⟩
theorem sV(b o j:Nat):(⟨b,o,bu⟩:Addr).add j=⟨b,o+j,bu⟩:=by unfold Addr.add;split<;>simp_all
structure fk where
 kind:bU
 a:Int
 b:Int
 c:Int
 key:Nat
 on:Bool
 s:bU
 t:bU
def fk.cell(x:fk):Nat->Value
 |0=>ak x.kind
 |1=>aa az x.a
 |2=>aa az x.b
 |3=>aa az x.c
 |4=>aa bd x.key
 |5=>ar x.on
 |6=>ak x.s
 |_=>ak x.t
theorem Da:prog.cellsOf 29=8:=by kernel_rfl
theorem C9:prog.cellsOf 9=1:=by kernel_rfl
theorem C8:prog.cellsOf 3=1:=by kernel_rfl
theorem QY:prog.cellsOf 27=1:=by kernel_rfl
theorem Tm:prog.cellsOf 4=1:=by kernel_rfl
theorem Qb{α:Type}{l:List α}(h:l.length=8):∃a b c d e f g k,l=[a,b,c,d,e,f,g,k]:=by
 match l,h with
 |[a,b,c,d,e,f,g,k],_=>exact⟨a,b,c,d,e,f,g,k,rfl⟩
theorem Td{H:Type}{enc:TypeId×Value->H}{w:bD}{Wt:Nat}{spare:Nat->Bool}{held:Bool}{fuel:Nat}{cs:List Value}{x:DataW H×List MemPlace}(h:DataW.trod enc prog w Wt spare held fuel 29 cs=bj x):
  ∃y:fk,cs.length=8/\∀j,j<8->cs[j]? =bj (y.cell j):=by
 obtain⟨xs,n,_,_,hl,hlen,hf⟩:=DataW.trod_struct Tryz.underlying29 h;rw[Da]at hl;obtain⟨c0,c1,c2,c3,c4,c5,c6,c7,rfl⟩:=Qb hl;obtain⟨x0,x1,x2,x3,x4,x5,x6,x7,rfl⟩:=Qb (show xs.length=8 from hlen);have f0:DataW.trod enc prog w Wt spare held n 9 (([c0,c1,c2,c3,c4,c5,c6,c7].drop 0).take (prog.cellsOf 9))=bj x0:=hf 0 _ rfl;have f1:DataW.trod enc prog w Wt spare held n 3 (([c0,c1,c2,c3,c4,c5,c6,c7].drop 1).take (prog.cellsOf 3))=bj x1:=hf 1 _ rfl;have f2:DataW.trod enc prog w Wt spare held n 3 (([c0,c1,c2,c3,c4,c5,c6,c7].drop 2).take (prog.cellsOf 3))=bj x2:=hf 2 _ rfl;have f3:DataW.trod enc prog w Wt spare held n 3 (([c0,c1,c2,c3,c4,c5,c6,c7].drop 3).take (prog.cellsOf 3))=bj x3:=hf 3 _ rfl;have f4:DataW.trod enc prog w Wt spare held n 27 (([c0,c1,c2,c3,c4,c5,c6,c7].drop 4).take (prog.cellsOf 27))=bj x4:=hf 4 _ rfl;have f5:DataW.trod enc prog w Wt spare held n 4 (([c0,c1,c2,c3,c4,c5,c6,c7].drop 5).take (prog.cellsOf 4))=bj x5:=hf 5 _ rfl;have f6:DataW.trod enc prog w Wt spare held n 9 (([c0,c1,c2,c3,c4,c5,c6,c7].drop 6).take (prog.cellsOf 9))=bj x6:=hf 6 _ rfl;have f7:DataW.trod enc prog w Wt spare held n 9 (([c0,c1,c2,c3,c4,c5,c6,c7].drop 7).take (prog.cellsOf 9))=bj x7:=hf 7 _ rfl;rw[C9]at f0;rw[C8]at f1;rw[C8]at f2;rw[C8]at f3;rw[QY]at f4;rw[Tm]at f5;rw[C9]at f6;rw[C9]at f7;obtain⟨k0,e0,_⟩:=DataW.trod_string Tryz.underlying9 f0;obtain⟨k1,e1,_⟩:=DataW.trod_int Tryz.underlying3 f1
 obtain⟨k2,e2,_⟩:=DataW.trod_int Tryz.underlying3 f2;obtain⟨k3,e3,_⟩:=DataW.trod_int Tryz.underlying3 f3;obtain⟨k4,e4,_,w4⟩:=DataW.trod_int Tryz.underlying27 f4;obtain⟨k5,e5,_⟩:=DataW.trod_bool Tryz.underlying4 f5;obtain⟨k6,e6,_⟩:=DataW.trod_string Tryz.underlying9 f6;obtain⟨k7,e7,_⟩:=DataW.trod_string Tryz.underlying9 f7;have p4:0<=k4:=(bounds_u64 w4).1;refine⟨⟨k0,k1,k2,k3,k4.toNat,k5,k6,k7⟩,rfl,λj hj=>?_⟩;simp only[List.drop,List.take,List.cons.injEq,and_true]at e0 e1 e2 e3 e4 e5 e6 e7;subst e0 e1 e2 e3 e4 e5 e6 e7;have e4:((k4.toNat:Nat):Int)=k4:=Int.toNat_of_nonneg p4
 match j,hj with
 |0,_=>rfl
 |1,_=>rfl
 |2,_=>rfl
 |3,_=>rfl
 |4,_=>simp[fk.cell,e4]
 |5,_=>rfl
 |6,_=>rfl
 |7,_=>rfl
def vN(w:bD)(a:Option Addr)(len:Nat):Prop:=len<=maxLen/\(0<len->∃b o,∃ax:Nat->fk,a=bj ⟨b,o,bu⟩/\∀i,i<len->∀j,j<8->w.cell? ⟨b,o+i*8+j,bu⟩=bj ((ax i).cell j))
theorem QG{H:Type}{enc:TypeId×Value->H}{w:bD}{Wt:Nat}{spare:Nat->Bool}{held:Bool}{fuel:Nat}{a:Option Addr}{len cap:Nat}{x:DataW H×List MemPlace}(h:DataW.trod enc prog w Wt spare held fuel 22 [aj a len cap]=bj x):
  vN w a len:=by
 rcases Go.Deep.open_slice Tryz.underlying22 h with⟨hcs,_⟩|⟨ad,l,c,m,n,D,Pl,hcs,_,hl,hm,hmm,_,hel⟩
 .simp at hcs;obtain⟨rfl,rfl,rfl⟩:=hcs;exact⟨aC _,λh0=>aZ h0 bB⟩
 .simp at hcs;obtain⟨rfl,rfl,rfl⟩:=hcs;refine⟨by omega,λh0=>?_⟩;have hlm:len<=m:=by rw[hmm];split<;>omega
  have hex:∀i,i<len->∃y:fk,∀j,j<8->w.cell? (ad.add (i*8+j))=bj (y.cell j):=λi hi=>by
   obtain⟨cs',hc,ht⟩:=hel i bB;rw[Da]at hc;obtain⟨y,hl8,hy⟩:=Td ht;refine⟨y,λj hj=>?_⟩;have h8:=(World.cells?_some hc).2.2 j hj;rw[Go.Deep.add_add,hy j hj]at h8;exact h8
  obtain⟨b,o,spot⟩:=ad;have hspot:spot=none:=by
   obtain⟨y,hy⟩:=hex 0 h0;simpa[Addr.add]using World.cell?_spot (hy 0 bB)
  subst hspot;refine⟨b,o,λi=>if hi:i<len then Classical.choose (hex i hi)else⟨⟨#[]⟩,0,0,0,0,bA,⟨#[]⟩,⟨#[]⟩⟩,rfl,λi hi j hj=>?_⟩;have hc:=Classical.choose_spec (hex i hi) j hj;have ha:(⟨b,o,bu⟩:Addr).add (i*8+j)=⟨b,o+i*8+j,bu⟩:=by unfold Addr.add;split<;>simp_all<;>omega
  rw[ha]at hc;simp only[dif_pos hi];exact hc
structure jm (b r:Nat)(w w':bD):Prop where
 os:w'.os=w.os
 tape:w'.tape=w.tape
 output:w'.output=w.output
 size:w.heap.size<=w'.heap.size
 block:∀k,k<w.heap.size->k≠b->k≠r->w'.heap[k]? =w.heap[k]?
section
variable {b r:Nat}{u v w:bD}
theorem jm.refl(b r:Nat)(w:bD):jm b r w w:=⟨rfl,rfl,rfl,aL _,λ_ _ _ _=>rfl⟩
theorem jm.left(h:jm b r u v)(k:bG b v w):jm b r u w:=⟨k.os.trans h.os,k.tape.trans h.tape,k.output.trans h.output,aH h.size k.size,λj hj h1 h2=>(k.block j (aD hj h.size) h1).trans (h.block j hj h1 h2)⟩
theorem jm.right(h:jm b r u v)(k:bG r v w):jm b r u w:=⟨k.os.trans h.os,k.tape.trans h.tape,k.output.trans h.output,aH h.size k.size,λj hj h1 h2=>(k.block j (aD hj h.size) h2).trans (h.block j hj h1 h2)⟩
theorem jm.drew(h:jm b r u v):jm b r u v.drew:=⟨h.os,h.tape,h.output,h.size,h.block⟩
theorem jm.trans(h:jm b r u v)(k:jm b r v w):jm b r u w:=⟨k.os.trans h.os,k.tape.trans h.tape,k.output.trans h.output,aH h.size k.size,λj hj h1 h2=>(k.block j (aD hj h.size) h1 h2).trans (h.block j hj h1 h2)⟩
end
theorem cR{w:bD}{ba:Nat}{T:TypeId}{cs:Array Value}(h:w.heap[ba]? =bj (bh cs T (0,0)))(j:Nat)(v:Value)(e:cs[j]? =bj v):w.cell? ⟨ba,j,bu⟩=bj v:=by rw[bR h];exact e
def rowOf(L:List Nat):List Value:=L.map λ(x:Nat)=>aa az x
theorem Eg(L:List Nat)(t x:Nat)(h:L[t]? =bj x):(rowOf L)[t]? =bj (aa az x):=by simp[rowOf,h]
theorem Cq:(prog.info? 3).map (λi=>(i.zero,i.size,i.bytes))=bj (bj (aa .i64 0),1,8):=by kernel_rfl
theorem ib{w:bD}{Wt:Nat}{v:Value}{n:Nat}{xs:List Value}(h:w.ownsRow Wt 3 1 v n xs):∃a cap,v=aj a n cap:=by
 rcases h.2 with⟨rfl,rfl⟩|⟨g,cap,_,rfl,_⟩
 .exact⟨bu,0,rfl⟩
 .exact⟨_,cap,rfl⟩
namespace Wf
def K(i:Nat):Nat:=
 if i<1 then 0 else if i<121 then(if(i-1)%4=0 then 2 else if(i-1)%4=1 then 0 else 1)
 else if i<2101 then(if(i-121)%198<129 then 0 else if(i-121)%198<194 then 1 else if(i-121)%198=194 then 2 else 0)
 else if(i-2101)%2=0 then 2 else 0
def V(k:Nat)(z:Int):Value:=if k=0 then aa az z else if k=1 then aa bd z else ar (decide (z=1))
def up(x:Nat->Int)(i:Nat)(z:Int):Nat->Int:=λj=>if j=i then z else x j
def jK(f:Nat->Nat)(i v:Nat):Nat->Nat:=λj=>if j=i then v else f j
theorem ik(x:Nat->Int)(i:Nat)(z:Int):up x i z i=z:=aJ rfl
theorem cC(x:Nat->Int){i j:Nat}(z:Int)(h:j≠i:=by omega):up x i z j=x j:=aI h
structure SA (w:bD)(b:Nat)(x:Nat->Int):Prop where
 da:∃C,w.heap[b]? =bj (bh C 173 (0,0))/\C.size=2141
 eE:∀i,i<2141->w.cell? ⟨b,i,bu⟩=bj (V (K i) (x i))
section
variable {w w':bD}{b:Nat}{x:Nat->Int}
theorem SA.lt(h:SA w b x):b<w.heap.size:=by obtain⟨C,e,_⟩:=h.da;exact(aX.1 e).1
theorem SA.same(h:SA w b x)(e:w'.heap[b]? =w.heap[b]?):SA w' b x:=by
 obtain⟨C,f,g⟩:=h.da;exact⟨⟨C,e.trans f,g⟩,λi hi=>(aV e).trans (h.eE i hi)⟩
theorem SA.drewN(h:SA w b x)(n:Nat):SA (w.drewN n) b x:=⟨h.da,h.eE⟩
theorem SA.drew(h:SA w b x):SA w.drew b x:=⟨h.da,h.eE⟩
theorem SA.frozen(h:SA w b x)(i:Nat):w.frozen? ⟨b,i,bu⟩=bA:=by obtain⟨C,f,_⟩:=h.da;exact cE f i
theorem SA.set(h:SA w b x)(i:Nat)(z:Int)(v:Value)(hi:i<2141)(hv:v=V (K i) z):SA (w.setCell ⟨b,i,bu⟩ v) b (up x i z):=by
 obtain⟨C,f,g⟩:=h.da;refine⟨⟨_,cQ f i v,by rw[Array.size_setIfInBounds];exact g⟩,λj hj=>?_⟩;by_cases e:j=i
 .subst e;rw[dF f j v bB,ik,hv]
 .rw[dm f i j v (bQ e),cC _ _ e,h.eE j hj]
theorem SA.i(h:SA w b x)(i:Nat)(hi:i<2141/\K i=0):w.cell? ⟨b,i,bu⟩=bj (aa az (x i)):=by rw[h.eE i hi.1,hi.2];rfl
theorem SA.u(h:SA w b x)(i:Nat)(hi:i<2141/\K i=1):w.cell? ⟨b,i,bu⟩=bj (aa bd (x i)):=by rw[h.eE i hi.1,hi.2];rfl
theorem SA.bo(h:SA w b x)(i:Nat)(hi:i<2141/\K i=2):w.cell? ⟨b,i,bu⟩=bj (ar (decide (x i=1))):=by rw[h.eE i hi.1,hi.2];rfl
end
def Gn(o:Nat):Prop:=∃g,g<10/\o=121+g*198
theorem Gn.k{o:Nat}(h:Gn o)(i:Nat)(hi:i<129):o+i<2141/\K (o+i)=0:=by
 obtain⟨g,hg,rfl⟩:=h;refine⟨by omega,?_⟩;unfold K;rw[nJ,nJ,nK,nK]
theorem Gn.key{o:Nat}(h:Gn o)(i:Nat)(hi:i<64):o+129+i<2141/\K (o+129+i)=1:=by
 obtain⟨g,hg,rfl⟩:=h;refine⟨by omega,?_⟩;unfold K;rw[nJ,nJ,nK,nJ,nK]
structure Qv (x:Nat->Int)(o m:Nat)(h p:Nat->Nat):Prop where
 m:x o=m
 h:∀i,i<64->x (o+1+i)=h i
 p:∀i,i<64->x (o+65+i)=p i
section
variable {x:Nat->Int}{o m:Nat}{h p:Nat->Nat}
theorem Qv.sh(q:Qv x o m h p)(i n:Nat)(hi:i<64):Qv (up x (o+1+i) n) o m (jK h i n) p:=
 ⟨(cC _ _).trans q.m,λj hj=>by have:=q.h j hj;unfold up jK;grind,λj hj=>(cC _ _).trans (q.p j hj)⟩
theorem Qv.sp(q:Qv x o m h p)(i n:Nat)(hi:i<64):Qv (up x (o+65+i) n) o m h (jK p i n):=
 ⟨(cC _ _).trans q.m,λj hj=>(cC _ _).trans (q.h j hj),λj hj=>by have:=q.p j hj;unfold up jK;grind⟩
theorem Qv.sm(q:Qv x o m h p)(n:Nat):Qv (up x o n) o n h p:=
 ⟨ik _ _ _,λj hj=>(cC _ _).trans (q.h j hj),λj hj=>(cC _ _).trans (q.p j hj)⟩
theorem Qv.so(q:Qv x o m h p)(i:Nat)(z:Int)(hi:i<o\/o+129<=i):Qv (up x i z) o m h p:=
 ⟨(cC _ _).trans q.m,λj hj=>(cC _ _).trans (q.h j hj),λj hj=>(cC _ _).trans (q.p j hj)⟩
end
structure pU (m:Nat)(h p:Nat->Nat):Prop where
 le:m<=64
 at_:∀i,i<m->h i<64/\p (h i)=i+1
 D6:∀j,j<64->p j<=m/\(0<p j->h (p j-1)=j)
def QI(x:Nat->Int)(o:Nat):Prop:=∃m h p,Qv x o m h p/\pU m h p
section
variable {m:Nat}{h p:Nat->Nat}
theorem pU.swap(k:pU m h p){a c:Nat}(ha:a<m)(hc:c<m):pU m (jK (jK h a (h c)) c (h a)) (jK (jK p (h c) (a+1)) (h a) (c+1)):=by
 have xa:=k.at_ a ha;have xc:=k.at_ c hc;refine⟨k.le,λi hi=>?_,λj hj=>?_⟩
 .have xi:=k.at_ i hi;unfold jK;grind
 .have xj:=k.D6 j hj;unfold jK;grind
theorem uM:∀(l t:List Nat),l.Nodup->(∀x∈l,x∈t)->l.length<=t.length
 |[],_,_,_=>aC _
 |a::l,t,h,s=>by
  obtain⟨h1,h2⟩:=List.nodup_cons.1 h;have e:=List.length_erase_of_mem (s a (List.mem_cons_self ..));have:=uM l (t.erase a) h2 (λx hx=>(List.mem_erase_of_ne (by rintro rfl;exact h1 hx)).2 (s x (List.mem_cons_of_mem _ hx)));have:=List.length_pos_of_mem (s a (List.mem_cons_self ..));simp only[List.length_cons];omega
theorem pU.lt(k:pU m h p){j:Nat}(hj:j<64)(hn:p j=0):m<64:=by
 have hl:((List.range m).map h).Nodup:=by
  rw[List.nodup_iff_pairwise_ne,List.pairwise_map];refine List.Pairwise.imp_of_mem ?_ (List.nodup_iff_pairwise_ne.1 List.nodup_range);intro a b ha hb hab e;have a1:=(k.at_ a (by simpa using ha)).2;have b1:=(k.at_ b (by simpa using hb)).2;rw[e]at a1;omega
 have:=uM _ ((List.range 64).erase j) hl (λx hx=>by
  obtain⟨a,ha,rfl⟩:=List.mem_map.1 hx;have a1:=k.at_ a (by simpa using ha);exact(List.mem_erase_of_ne (by rintro rfl;omega)).2 (by simpa using a1.1))
 rw[List.length_erase_of_mem (by simpa using hj)]at this;simp at this;omega
theorem pU.put(k:pU m h p){j:Nat}(hj:j<64)(hn:p j=0):pU (m+1) (jK h m j) (jK p j (m+1)):=by
 refine⟨k.lt hj hn,λi hi=>?_,λl hl=>?_⟩
 .have:=k.at_ i;unfold jK;grind
 .have:=k.D6 l hl;unfold jK;grind
theorem pU.jf(k:pU (m+1) h p){j:Nat}(e:h m=j):pU m (jK h m 0) (jK p j 0):=by
 have xm:=k.at_ m bB;refine⟨by have:=k.le;omega,λi hi=>?_,λl hl=>?_⟩
 .have:=k.at_ i bB;unfold jK;grind
 .have:=k.D6 l hl;unfold jK;grind
theorem pU.VB(k:pU (m+1) h p){j a:Nat}(hj:j<64)(hp:p j=a+1)(e:h m≠j):pU m (jK (jK h m 0) a (h m)) (jK (jK p j 0) (h m) (a+1)):=by
 have xm:=k.at_ m bB;have xj:=k.D6 j hj;refine⟨by have:=k.le;omega,λi hi=>?_,λl hl=>?_⟩
 .have:=k.at_ i bB;unfold jK;grind
 .have:=k.D6 l hl;unfold jK;grind
end
structure Rs (o:Nat)(x x':Nat->Int):Prop where
 v:∀i,i<=o\/o+129<=i->x' i=x i
 has:∀j,j<64->(0<x' (o+65+j)↔0<x (o+65+j))
theorem Rs.refl(o:Nat)(x:Nat->Int):Rs o x x:=⟨λ_ _=>rfl,λ_ _=>Iff.rfl⟩
theorem Rs.trans{o:Nat}{x y z:Nat->Int}(h:Rs o x y)(k:Rs o y z):Rs o x z:=⟨λi hi=>(k.v i hi).trans (h.v i hi),λj hj=>(k.has j hj).trans (h.has j hj)⟩
theorem cG{f:Nat}{a:Array Value}{w:bD}{E:Ending}{Q:Ending->bD->Prop}(h:Calls prog f a w λe w'=>e=E/\w'=w)(q:Q E w):Calls prog f a w Q:=h.mono (by rintro _ _ ⟨rfl,rfl⟩;exact q)
def To(b:Nat)(w:bD)(P:(Nat->Int)->Prop)(w':bD):Prop:=∃x',SA w' b x'/\bG b w w'/\P x'
end Wf
namespace Wf
structure QS (w:bD)(b o:Nat)(x:Nat->Int)(m:Nat)(h p:Nat->Nat):Prop where
 sa:SA w b x
 io:Gn o
 q:Qv x o m h p
 k:pU m h p
section
variable {w w':bD}{b o m:Nat}{x:Nat->Int}{h p:Nat->Nat}
theorem QS.many(s:QS w b o x m h p):w.cell? ⟨b,o,bu⟩=bj (aa az m):=by rw[<-s.q.m];exact s.sa.i _ (s.io.k 0 bB)
theorem QS.heap(s:QS w b o x m h p)(i:Nat)(hi:i<64):w.cell? ⟨b,o+1+i,bu⟩=bj (aa az (h i)):=by rw[<-s.q.h i hi,Nat.add_assoc];exact s.sa.i _ (s.io.k _ bB)
theorem QS.place(s:QS w b o x m h p)(i:Nat)(hi:i<64):w.cell? ⟨b,o+65+i,bu⟩=bj (aa az (p i)):=by rw[<-s.q.p i hi,Nat.add_assoc];exact s.sa.i _ (s.io.k _ bB)
theorem QS.keys(s:QS w b o x m h p)(i:Nat)(hi:i<64):w.cell? ⟨b,o+129+i,bu⟩=bj (aa bd (x (o+129+i))):=s.sa.u _ (s.io.key i hi)
theorem QS.drewN(s:QS w b o x m h p)(n:Nat):QS (w.drewN n) b o x m h p:=⟨s.sa.drewN n,s.io,s.q,s.k⟩
end
def Qt(b o:Nat)(x:Nat->Int)(m:Nat)(w w':bD):Prop:=bG b w w'/\∃x' h' p',QS w' b o x' m h' p'/\Rs o x x'
theorem Qt.trans{b o m:Nat}{x x':Nat->Int}{u v w:bD}(f:bG b u v)(r:Rs o x x')(k:Qt b o x' m v w):Qt b o x m u w:=by
 obtain⟨g,y,h,p,s,t⟩:=k;exact⟨f.trans g,y,h,p,s,r.trans t⟩
section
variable (b o m:Nat)(x:Nat->Int)(h p:Nat->Nat)(w:bD)
theorem wI(j:Nat)(hj:j<64):Calls prog 297 #[aa az j] w λe w'=>e=bf (ar bw)/\w'=w:=by
 have hj':(j:Int)<64:=bB
 go_in
 go_wp2
 go_ret
 exact⟨rfl,rfl⟩
theorem GM(j:Nat)(s:QS w b o x m h p)(hj:j<64):Calls prog 298 #[ai (bj ⟨b,o,bu⟩),aa az j] w λe w'=>e=bf (ar (decide (0<p j)))/\w'=w:=by
 have c:=s.place j hj;have hj':(j:Int)<64:=bB
 go_in
 go_wp2
 go_ret
 exact⟨cX (by simp),rfl⟩
theorem wu(a j:Nat)(hs:SA w b x)(io:Gn o)(ha:a<64)(hj:j<64):Calls prog 293 #[ai (bj ⟨b,o,bu⟩),aa az a,aa az j] w λe w'=>e=bf (ao #[])/\SA w' b (up (up x (o+1+a) j) (o+65+j) (a+1:Nat))/\bG b w w':=by
 have k1:=io.k (1+a) bB;have k2:=io.k (65+j) bB;rw[<-Nat.add_assoc]at k1 k2;have c1:=hs.i _ k1;have c2:=hs.i _ k2;have hf:=hs.frozen;have ha':(a:Int)<64:=bB
 have hj':(j:Int)<64:=bB
 have H:=hJ (aK hs (aK k1 k2));go_in
 go_wp2
 go_end0
 exact⟨rfl,(H.1.set _ _ _ H.2.1.1 (by rw[H.2.1.2];rfl)).set _ _ _ H.2.2.1 (by rw[H.2.2.2];rfl),((bG.refl _ _).setCell _ _).setCell _ _⟩
theorem Bg(a c:Nat)(s:QS w b o x m h p)(ha:a<m)(hc:c<m):Calls prog 318 #[ai (bj ⟨b,o,bu⟩),aa az a,aa az c] w λe w'=>∃r n,e=bf (ar r)/\w'=w.drewN n:=by
 have le:=s.k.le;have c1:=s.heap a bB;have c2:=s.heap c bB;have h1:=(s.k.at_ a ha).1;have h2:=(s.k.at_ c hc).1;have c3:=s.keys _ h1;have c4:=s.keys _ h2;generalize h a=X at*;generalize h c=Y at*;generalize x (o+129+X)=kx at*;generalize x (o+129+Y)=ky at*;have l1:(a:Int)<64:=bB
 have l2:(c:Int)<64:=bB
 have l3:(X:Int)<64:=bB
 have l4:(Y:Int)<64:=bB
 obtain⟨t1,d1⟩:∃t,decide (kx<ky)=t:=⟨_,rfl⟩;obtain⟨t2,d2⟩:∃t,(kx==ky)=t:=⟨_,rfl⟩;cases t1<;>cases t2<;>
 .go_in
  go_wp2
  go_quiet (fail)
  go_wp2
  go_quiet (fail)
  go_wp2
  go_ret
  exact⟨_,_,rfl,World.drewN_drewN _ _ _⟩
theorem Ew(a c:Nat)(s:QS w b o x m h p)(ha:a<m)(hc:c<m):Calls prog 319 #[ai (bj ⟨b,o,bu⟩),aa az a,aa az c] w λe w'=>e=bf (ao #[])/\Qt b o x m w w':=by
 have le:=s.k.le;have c1:=s.heap a bB;have c2:=s.heap c bB;have HX:=hJ (s.k.at_ a ha);have HY:=hJ (s.k.at_ c hc);have l1:(a:Int)<64:=bB
 have l2:(c:Int)<64:=bB
 have H:=hJ s;go_in
 go_wp2
 go_quiet (fail)
 go_wp2_with fail
 refine sC (wu b o x _ a (h c) (H.sa.drewN _) H.io bB HY.1) ?_;rintro w1 ⟨h1,f1⟩;have H1:=hJ (aK h1 f1);go_wp2_with fail
 refine sC (wu b o _ _ c (h a) H1.1 H.io bB HX.1) ?_;rintro w2 ⟨h2,f2⟩;have FIN:Hid (Qt b o x m w w2):=hJ ⟨(((bG.refl _ _).drewN _).trans H1.2).trans f2,_,_,_,⟨h2,H.io,(((H.q.sh a _ bB).sp _ _ HY.1).sh c _ bB).sp _ _ HX.1,H.k.swap ha hc⟩,λi hi=>by
  have:=HX.1;have:=HY.1;rw[cC _ _,cC _ _,cC _ _,cC _ _],λj hj=>by
  have q1:=(((H.q.sh a (h c) bB).sp _ (a+1) HY.1).sh c (h a) bB).sp _ (c+1) HX.1;rw[q1.p j hj,H.q.p j hj];have:=HX.v;have:=HY.v;unfold jK;grind⟩
 go_wp2_with fail
 go_end0
 exact⟨rfl,FIN.v⟩
theorem Ee(a:Nat)(s:QS w b o x m h p)(ha:a<m):Calls prog 294 #[ai (bj ⟨b,o,bu⟩),aa az a] w λe w'=>e=bf (ao #[])/\Qt b o x m w w':=by
 have le:=s.k.le;go_in
 go_wp2
 go_loopw [1] (λi wr=>∃y:Nat,i=aa az y/\y<m/\Hid (Qt b o x m w wr)) (λi _=>(intOf i).toNat)
 case atStart=>exact⟨a,rfl,ha,bG.refl _ _,x,h,p,s,Rs.refl _ _⟩
 case round=>
  obtain⟨y,rfl,hy,H⟩:=hrel;by_cases h0:y=0
  .subst h0;go_wp2
   go_end0
   exact⟨rfl,H.v⟩
  .obtain⟨f,x',h',p',s,r⟩:=H.v;have S:=hJ (aK s (aK f r));have hp0:(0:Int)<(y:Int):=bB
   have E:Hid (((y:Int)-1)/2=(((y-1)/2:Nat):Int)):=hJ bB;have hu:(y-1)/2<m:=bB
   have AH:=hJ (Bg b o m x' h' p' wr y ((y-1)/2) s hy hu);rw[<-E.v]at AH;go_wp2_with fail
   refine AH.mono ?_;rintro e w1 ⟨r,n,rfl,rfl⟩;cases r
   .go_wp2_with fail
    refine bodyPost_ret (results_none rfl _ _ _) rfl ?_;exact⟨rfl,Qt.trans (S.2.1.drewN n) S.2.2 ⟨bG.refl _ _,x',h',p',S.1.drewN n,Rs.refl _ _⟩⟩
   .have SW:=hJ (Ew b o m x' h' p' (wr.drewN n) y ((y-1)/2) (S.1.drewN n) hy hu);rw[<-E.v]at SW;go_wp2_with fail
    refine sC SW.v ?_;rintro w2 q;have Q:=hJ (Qt.trans (S.2.1.drewN n) S.2.2 q);go_wp2
    go_roundw
    case rel=>exact⟨(y-1)/2,by rw[E.v],hu,Q⟩
    case measure=>simp[intOf];omega
theorem Ph(a:Nat)(s:QS w b o x m h p)(ha:a<m):Calls prog 295 #[ai (bj ⟨b,o,bu⟩),aa az a] w λe w'=>e=bf (ao #[])/\Qt b o x m w w':=by
 have le:=s.k.le;go_in
 go_wp2
 go_loopw [1] (λi wr=>∃y:Nat,i=aa az y/\y<m/\Hid (Qt b o x m w wr)) (λi _=>64-(intOf i).toNat)
 case atStart=>exact⟨a,rfl,ha,bG.refl _ _,x,h,p,s,Rs.refl _ _⟩
 case round=>
  obtain⟨y,rfl,hy,H⟩:=hrel;obtain⟨f,x',h',p',s,r⟩:=H.v;have S:=hJ (aK s (aK f r));go_wp2_with fail
  go_loopw [4,5] (λl c wq=>∃(ln cn n:Nat),l=aa az ln/\c=aa az cn/\ln<m/\y<=ln/\2*y+1<=cn/\cn<=2*y+3/\wq=wr.drewN n) (λ_ c _=>2*y+3-(intOf c).toNat)
  case atStart=>exact⟨y,2*y+1,0,rfl,by go_num,hy,bB,bB,bB,rfl⟩
  case round=>
   obtain⟨l,c,n,rfl,rfl,hl,hl2,hc1,hc2,rfl⟩:=hrel;have cm:=(S.1.drewN n).many;have END:Hid (Qt b o x m w (wr.drewN n)):=hJ (Qt.trans (S.2.1.drewN n) S.2.2 ⟨bG.refl _ _,x',h',p',S.1.drewN n,Rs.refl _ _⟩);by_cases k1:c<=2*y+2/\c<m
   .have d1:decide ((c:Int)<=2*(y:Int)+2)=bw:=by simp;omega
    have k2':(c:Int)<(m:Int):=bB
    have AH:=hJ (Bg b o m x' h' p' (wr.drewN n) c l (S.1.drewN n) k1.2 hl);go_wp2_with fail
    refine AH.mono ?_;rintro e w1 ⟨r,n1,rfl,rfl⟩;cases r
    .go_wp2
     go_roundw
     case rel=>exact⟨l,c+1,n+n1,rfl,by go_num,hl,hl2,bB,bB,by first|rfl|exact World.drewN_drewN _ _ _⟩
     case measure=>simp[intOf];omega
    .go_wp2
     go_roundw
     case rel=>exact⟨c,c+1,n+n1,rfl,by go_num,k1.2,bB,bB,bB,by first|rfl|exact World.drewN_drewN _ _ _⟩
     case measure=>simp[intOf];omega
   .have SW:=hJ (Ew b o m x' h' p' (wr.drewN n) y l (S.1.drewN n) hy hl);by_cases k3:l=y
    .subst k3;by_cases k4:c<=2*l+2
     .have d1:decide ((c:Int)<=2*(l:Int)+2)=bw:=by simp;omega
      have k2':¬(c:Int)<(m:Int):=bB
      go_wp2_with fail
      refine bodyPost_ret (results_none rfl _ _ _) rfl ?_;exact⟨rfl,END.v⟩
     .have d1:decide ((c:Int)<=2*(l:Int)+2)=bA:=by simp;omega
      go_wp2_with fail
      refine bodyPost_ret (results_none rfl _ _ _) rfl ?_;exact⟨rfl,END.v⟩
    .have k3':((l:Int)==(y:Int))=bA:=by simp;omega
     by_cases k4:c<=2*y+2
     case' pos=>
      have d1:decide ((c:Int)<=2*(y:Int)+2)=bw:=by simp;omega
      have k2':¬(c:Int)<(m:Int):=bB
     case' neg=>have d1:decide ((c:Int)<=2*(y:Int)+2)=bA:=by simp;omega
     all_goals
      go_wp2_with fail
      refine sC SW.v ?_;rintro w2 q;have Q:=hJ (Qt.trans (S.2.1.drewN n) S.2.2 q);go_wp2
      go_roundw
      case rel=>exact⟨l,rfl,hl,Q⟩
      case measure=>simp[intOf];omega
end
end Wf
namespace Wf
def Qc(b o:Nat)(x:Nat->Int)(w w':bD)(P:Nat->Prop):Prop:=bG b w w'/\∃x' m h p,QS w' b o x' m h p/\(∀i,i<o\/o+193<=i->x' i=x i)/\∀i,i<64->(0<x' (o+65+i)↔P i)
theorem Qc.of{b o m:Nat}{x y:Nat->Int}{w u v:bD}{P:Nat->Prop}(f:bG b w u)(k:Qt b o y m u v)(e:∀i,i<o\/o+193<=i->y i=x i)(hp:∀i,i<64->(0<y (o+65+i)↔P i)):Qc b o x w v P:=by
 obtain⟨g,z,h,p,s,r⟩:=k;exact⟨f.trans g,z,m,h,p,s,λi hi=>(r.v i bB).trans (e i hi),λi hi=>(r.has i hi).trans (hp i hi)⟩
section
variable (b o m:Nat)(x:Nat->Int)(h p:Nat->Nat)(w:bD)
theorem Ao(j:Nat)(s:QS w b o x m h p)(hj:j<64):Calls prog 274 #[ai (bj ⟨b,o,bu⟩),aa az j] w λe w'=>∃k E,e=bf (ao #[aa bd k,bN E])/\(E=0↔0<p j)/\w'=w:=by
 have BD:=hJ (wI w j hj);have HS:=hJ (GM b o m x h p w j s hj);have ck:=s.keys j hj;have hjI:(j:Int)<64:=bB
 generalize x (o+129+j)=kx at*;obtain⟨t,ht⟩:=hU (decide (0<p j));have T:=hJ ht;rw[ht]at HS;cases t
 .go_in
  go_wp2_with fail
  refine cG BD.v ?_;go_wp2_with fail
  refine cG HS.v ?_;go_wp2
  go_ret2
  exact⟨0,2,rfl,by have:=T.v;simp at this;omega,rfl⟩
 .go_in
  go_wp2_with fail
  refine cG BD.v ?_;go_wp2_with fail
  refine cG HS.v ?_;go_wp2
  go_ret2
  exact⟨kx,0,rfl,by have:=T.v;simp at this;omega,rfl⟩
theorem RH(s:QS w b o x m h p):Calls prog 299 #[ai (bj ⟨b,o,bu⟩)] w λe w'=>e=bf (aa az m)/\w'=w:=by
 have cm:=s.many;go_in
 go_wp2
 go_ret
 exact⟨rfl,rfl⟩
theorem ry(s:QS w b o x m h p):Calls prog 234 #[ai (bj ⟨b,o,bu⟩)] w λe w'=>∃(j:Nat) (k:Int) (n:Nat),e=bf (ao #[aa az j,aa bd k,ar (decide (0<m))])/\w'=w.drewN n/\(0<m->j<64/\0<p j):=by
 have cm:=s.many;by_cases h0:m=0
 .subst h0;go_in
  go_wp2
  go_ret3
  exact⟨0,0,0,rfl,rfl,bB⟩
 .have a0:=s.k.at_ 0 bB;have A0:=hJ a0;have ch:=s.heap 0 bB;have ck:=s.keys _ a0.1;have hne:((m:Int)==0)=bA:=by simp;omega
  have M0:Hid (decide (0<m)=bw):=hJ (by simp;omega);generalize h 0=J at*;have hJI:(J:Int)<64:=bB
  generalize x (o+129+J)=kx at*;go_in
  go_wp2
  go_quiet (fail)
  go_wp2
  go_ret3
  exact⟨J,kx,_,by rw[M0.v];rfl,rfl,λ_=>⟨A0.1,by have:=A0.2;omega⟩⟩
theorem Sb(j:Nat)(k:Int)(s:QS w b o x m h p)(hj:j<64)(hp:p j=0):Calls prog 276 #[ai (bj ⟨b,o,bu⟩),aa az j,aa bd k] w λe w'=>e=bf ay/\Qc b o x w w' (λi=>0<x (o+65+i)\/i=j):=by
 have BD:=hJ (wI w j hj);have HS:=hJ (GM b o m x h p w j s hj);rw[show decide (0<p j)=bA by simp;omega]at HS;have hm:=s.k.lt hj hp;have ck:=s.keys j hj;have cf:=s.sa.frozen;have cm:=s.many;have hjI:(j:Int)<64:=bB
 have S:=hJ (aK s hp);go_in
 go_wp2_with fail
 refine cG BD.v ?_;go_wp2_with fail
 refine cG HS.v ?_;go_wp2_with fail
 have k1:=S.1.io.key j hj;refine sC (wu b o _ _ m j (S.1.sa.set _ k _ k1.1 (by rw[k1.2];rfl)) S.1.io hm hj) ?_;rintro w1 ⟨h1,f1⟩;have q1:=((S.1.q.so (o+129+j) k bB).sh m j hm).sp j (m+1) hj;have cm1:w1.cell? ⟨b,o,bu⟩=bj (aa az m):=by rw[<-q1.m];exact h1.i _ (S.1.io.k 0 bB)
 have cf1:=h1.frozen;have S1:=hJ (aK h1 (aK (((bG.refl b w).setCell _ _).trans f1) q1));go_wp2_with fail
 have k0:=S.1.io.k 0 bB;have q2:=S1.2.2.sm (m+1);have s2:=S1.1.set o ((m+1:Nat):Int) (aa az ((m:Int)+1)) k0.1 (by rw[show K o=0 from k0.2];rfl);refine sC (Ee b o (m+1) _ _ _ _ m ⟨s2,S.1.io,q2,S.1.k.put hj S.2⟩ bB) ?_;rintro w2 q;have FIN:Hid (Qc b o x w w2 (λi=>0<x (o+65+i)\/i=j)):=hJ (Qc.of (S1.2.1.setCell _ _) q (λi hi=>by rw[cC _ _,cC _ _,cC _ _,cC _ _]) (λi hi=>by
  rw[q2.p i hi,S.1.q.p i hi];unfold jK;grind))
 go_wp2
 go_ret
 exact⟨rfl,FIN.v⟩
theorem Gv(j:Nat)(s:QS w b o x m h p)(hj:j<64)(hp:0<p j):Calls prog 272 #[ai (bj ⟨b,o,bu⟩),aa az j] w λe w'=>∃k,e=bf (ao #[aa bd k,ay])/\Qc b o x w w' (λi=>0<x (o+65+i)/\i≠j):=by
 have oj:=s.k.D6 j hj;have le:=s.k.le;obtain⟨m,rfl⟩:∃n,m=n+1:=⟨m-1,bB⟩;obtain⟨a,ha⟩:∃a,p j=a+1:=⟨p j-1,bB⟩;obtain⟨t,ht⟩:=hU (h m);have tm:=s.k.at_ m bB;rw[ht]at tm;have cm:=s.many;have cp:=s.place j hj;have cf:=s.sa.frozen;rw[ha]at cp oj;have KE:=hJ (Ao b o (m+1) x h p w j s hj);have S:=hJ (aK s (aK ha (aK ht (aK tm oj))));have am:a<=m:=bB
 have t64:t<64:=tm.1;have hjI:(j:Int)<64:=bB
 have hmI:(m:Int)<64:=bB
 have Iqq:=hJ s.io;clear s hp ha ht tm oj;go_in
 go_wp2_with fail
 refine KE.mono ?_;rintro e w1 ⟨k,E,rfl,hE,rfl⟩;obtain rfl:E=0:=hE.2 (by rw[S.2.1];omega);rw[bF];clear hE KE;go_wp2_with fail
 have k0:=Iqq.k 0 bB;refine cJ (λW=>SA W b (up x o m)/\bG b w1 W) ⟨S.1.sa.set o m _ k0.1 (by rw[show K o=0 from k0.2];rfl),(bG.refl _ _).setCell _ _⟩ ?_;rintro W ⟨hA,hO⟩;have Q0:Hid (Qv (up x o m) o m h p):=hJ (S.1.q.sm m);have am':W.cell? ⟨b,o,bu⟩=bj (aa az m):=by rw[<-Q0.m];exact hA.i _ k0
 have ah':W.cell? ⟨b,o+1+m,bu⟩=bj (aa az t):=by rw[<-S.2.2.1,<-Q0.h m bB,Nat.add_assoc];exact hA.i _ (Iqq.k _ bB)
 have A:=hJ (aK hA hO);clear hA hO cm cp cf k0;go_quiet (fail)
 go_wp2_with fail
 refine cJ (λW2=>SA W2 b (up x o m)/\bG b w1 W2) ⟨A.1.drewN nq,A.2.drewN nq⟩ ?_;clear ah' am' A;rintro W2 ⟨hA,hO⟩;have k1:=Iqq.k (1+m) bB;have k2:=Iqq.k (65+j) bB;have k3:=Iqq.key j hj;rw[<-Nat.add_assoc]at k1 k2;have cm:W2.cell? ⟨b,o,bu⟩=bj (aa az m):=by rw[<-Q0.m];exact hA.i _ (Iqq.k 0 bB)
 have c1:=hA.i _ k1;have c2:=hA.i _ k2;have c3:=hA.u _ k3;have cf:=hA.frozen;have A:Hid (SA ((((W2.setCell ⟨b,o+1+m,bu⟩ (aa .i64 0)).setCell ⟨b,o+65+j,bu⟩ (aa .i64 0)).setCell ⟨b,o+129+j,bu⟩ (aa .u64 0)).drew) b (up (up (up (up x o m) (o+1+m) (0:Nat)) (o+65+j) (0:Nat)) (o+129+j) 0)/\bG b w1 ((((W2.setCell ⟨b,o+1+m,bu⟩ (aa .i64 0)).setCell ⟨b,o+65+j,bu⟩ (aa .i64 0)).setCell ⟨b,o+129+j,bu⟩ (aa .u64 0)).drew)/\Qv (up (up (up (up x o m) (o+1+m) (0:Nat)) (o+65+j) (0:Nat)) (o+129+j) 0) o m (jK h m 0) (jK p j 0)):=
  hJ ⟨(((hA.set _ _ _ k1.1 (by rw[k1.2];rfl)).set _ _ _ k2.1 (by rw[k2.2];rfl)).set _ _ _ k3.1 (by rw[k3.2];rfl)).drew,(((hO.setCell _ _).setCell _ _).setCell _ _).drew,((Q0.sh m 0 bB).sp j 0 hj).so _ _ bB⟩
 clear hA hO k1 k2 k3;by_cases e:t=j
 .have kb:((t:Int) !=(j:Int))=bA:=by simp;omega
  go_region
  go_wp2
  go_ret2
  refine⟨_,rfl,A.2.1,_,m,_,_,⟨A.1,Iqq.v,A.2.2,S.1.k.jf (S.2.2.1.trans e)⟩,λi hi=>by rw[cC _ _,cC _ _,cC _ _,cC _ _],λi hi=>?_⟩;show _↔0<x (o+65+i)/\i≠j;rw[A.2.2.p i hi,S.1.q.p i hi];unfold jK;grind
 .have kb:((t:Int) !=(j:Int))=bw:=by rw[bne_iff_ne];omega
  go_region
  go_wp2_with fail
  refine sC (wu b o _ _ a t A.1 Iqq.v bB t64) ?_;rintro w2 ⟨h2,f2⟩;have q2:=(A.2.2.sh a t bB).sp t (a+1) t64;have kk:=S.1.k.VB hj S.2.1 (by rw[S.2.2.1];exact e);rw[S.2.2.1]at kk;have am2:a<m:=by
   refine Nat.lt_of_le_of_ne am (λq=>e ?_);have:=S.2.2.2.2.2 bB;rw[<-S.2.2.1,<-q];simpa using this
  have S2:=hJ (aK (A.2.1.trans f2) (aK q2 (QS.mk h2 Iqq.v q2 kk)));have RI:=hJ (Ee b o m _ _ _ _ a S2.2.2 am2);clear h2 f2 q2 kk c1 c2 c3 cf cm;go_wp2_with fail
  refine sC RI.v ?_;rintro w3 ⟨f3,x3,h3,p3,s3,r3⟩;have SI:=hJ (Ph b o m _ _ _ _ a s3 am2);have S3:=hJ (aK f3 r3);clear f3 s3 r3 RI;go_wp2_with fail
  refine sC SI.v ?_;rintro w4 q4;have FIN:Hid (Qc b o x w1 w4 (λi=>0<x (o+65+i)/\i≠j)):=hJ (Qc.of S2.1 (Qt.trans S3.1 S3.2 q4) (λi hi=>by rw[cC _ _,cC _ _,cC _ _,cC _ _,cC _ _,cC _ _]) (λi hi=>by
   show _↔0<x (o+65+i)/\i≠j;rw[S2.2.1.p i hi,S.1.q.p i hi];have:=S.2.2.2.1;unfold jK;grind))
  clear q4 SI;go_wp2
  go_ret2
  exact⟨_,rfl,FIN.v⟩
end
end Wf
namespace Wf
theorem qG{u:Nat}(hu:u<30):1+u*4<2141/\K (1+u*4)=2:=⟨by omega,by unfold K;rw[nJ,nK,nK]⟩
theorem oW{u:Nat}(hu:u<30):1+u*4+1<2141/\K (1+u*4+1)=0:=⟨by omega,by unfold K;rw[nJ,nK,nJ,nK]⟩
theorem iC{u:Nat}(hu:u<30)(f:Nat)(hf:f=2\/f=3):1+u*4+f<2141/\K (1+u*4+f)=1:=⟨by omega,by unfold K;rw[nJ,nK,nJ,nJ]⟩
theorem GU{g:Nat}(hg:g<10):121+g*198+193<2141/\K (121+g*198+193)=1:=⟨by omega,by unfold K;rw[nJ,nJ,nK,nJ,nK]⟩
theorem Dv{g:Nat}(hg:g<10):121+g*198+194<2141/\K (121+g*198+194)=2:=⟨by omega,by unfold K;rw[nJ,nJ,nK,nJ,nJ,nK]⟩
theorem oX{g:Nat}(hg:g<10)(f:Nat)(hf:195<=f/\f<198):121+g*198+f<2141/\K (121+g*198+f)=0:=⟨by omega,by unfold K;rw[nJ,nJ,nK,nJ,nJ,nJ]⟩
theorem sv{n:Nat}(hn:n<20):2101+n*2<2141/\K (2101+n*2)=2:=⟨by omega,by unfold K;rw[nJ,nJ,nJ,nK]⟩
theorem Cr{n:Nat}(hn:n<20):2101+n*2+1<2141/\K (2101+n*2+1)=0:=⟨by omega,by unfold K;rw[nJ,nJ,nJ,nJ]⟩
structure Iv (d:Nat->Nat)(e:Nat)(x:Nat->Int):Prop where
 q:∀g,g<10->QI x (121+g*198)
 rt:x 1=1
 par:∀u,u<30->u≠0->x (1+u*4)=1->∃g:Nat,g<10/\x (1+u*4+1)=g/\x (1+g*4)=1/\d g<d u/\0<x (1+u*4+2)
 mem:∀g j,g<10->j<64->0<x (121+g*198+65+j)->j<30/\j≠0/\x (1+j*4)=1/\x (1+j*4+1)=g
 ne:∀g u,g<10->u<10->u≠e->0<x (121+g*198+65+u)->0<x (121+u*198)
 pe:∀g,g<10->0<x (121+g*198+195)->0<x (121+g*198+196)/\x (1+g*4)=1
def Ch(g u:Nat)(x x':Nat->Int):Prop:=∀i,i<121+g*198\/121+g*198+194<=i->i≠1+u*4+3->i≠121+u*198+197->x' i=x i
theorem QI.same{x x':Nat->Int}{o:Nat}(h:QI x o)(e:∀i,o<=i->i<o+129->x' i=x i):QI x' o:=by
 obtain⟨m,hp,pp,q,k⟩:=h;exact⟨m,hp,pp,⟨(e _ bB bB).trans q.m,λi hi=>(e _ bB bB).trans (q.h i hi),λi hi=>(e _ bB bB).trans (q.p i hi)⟩,k⟩
theorem QI.pos{x:Nat->Int}{o j:Nat}(h:QI x o)(hj:j<64)(p:0<x (o+65+j)):0<x o:=by
 obtain⟨m,hp,pp,q,k⟩:=h;rw[q.p j hj]at p;rw[q.m];have:=(k.D6 j hj).1;omega
theorem Iv.kP{d:Nat->Nat}{e u g:Nat}{x x':Nat->Int}(h:Iv d e x)(he:e=u\/e=g)(c:Ch g u x x')(q:QI x' (121+g*198))(hg:g<10)(hu:u<30)(u0:u≠0)(hh:x (1+u*4)=1)(hi:x (1+u*4+1)=g)
  (ot:∀j,j<64->j≠u->(0<x' (121+g*198+65+j)↔0<x (121+g*198+65+j))) (me:u<10->0<x' (121+g*198+65+u)->0<x (121+u*198)):Iv d g x':=by
 have e1:∀v f,f<3->x' (1+v*4+f)=x (1+v*4+f)\/30<=v:=λv f hf=>by
  by_cases hv:v<30
  .exact .inl (c _ bB bB bB)
  .exact .inr bB
 have e0:∀v,v<30->x' (1+v*4)=x (1+v*4)/\x' (1+v*4+1)=x (1+v*4+1)/\x' (1+v*4+2)=x (1+v*4+2):=λv hv=>
  ⟨(e1 v 0 bB).resolve_right bB,(e1 v 1 bB).resolve_right bB,(e1 v 2 bB).resolve_right bB⟩
 refine⟨λk hk=>?_,(e0 0 bB).1.trans h.rt,λv hv v0 hv1=>?_,λk j hk hj p=>?_,λk v hk hv hne p=>?_,λk hk p=>?_⟩
 .by_cases ek:k=g
  .rw[ek];exact q
  .exact(h.q k hk).same λi h1 h2=>c i bB bB bB
 .rw[(e0 v hv).1]at hv1;obtain⟨k,k1,k2,k3,k4,k5⟩:=h.par v hv v0 hv1;exact⟨k,k1,by rw[(e0 v hv).2.1];exact k2,by rw[(e0 k bB).1];exact k3,k4,by rw[(e0 v hv).2.2];exact k5⟩
 .have old:0<x (121+k*198+65+j)->j<30/\j≠0/\x' (1+j*4)=1/\x' (1+j*4+1)=k:=λp=>by
   obtain⟨m1,m2,m3,m4⟩:=h.mem k j hk hj p;exact⟨m1,m2,by rw[(e0 j m1).1];exact m3,by rw[(e0 j m1).2.1];exact m4⟩
  by_cases ek:k=g
  .subst ek;by_cases ej:j=u
   .subst ej;exact⟨hu,u0,by rw[(e0 j hu).1];exact hh,by rw[(e0 j hu).2.1];exact hi⟩
   .exact old ((ot j hj ej).1 p)
  .exact old (by rw[<-c _ bB bB bB];exact p)
 .rw[c (121+v*198) bB bB bB];by_cases ek:k=g
  .subst ek;by_cases ev:v=u
   .subst ev;exact me hv p
   .exact h.ne k v hk hv bB ((ot v bB ev).1 p)
  .rw[c _ bB bB bB]at p;refine h.ne k v hk hv (λev=>ek ?_) p;obtain rfl:v=u:=bB
   have:=(h.mem k v hk bB p).2.2.2;omega
 .rw[c _ bB bB bB]at p;rw[c _ bB bB bB,(e0 k bB).1];exact h.pe k hk p
def Kc(i:Nat):Prop:=0<i/\i<121/\(i-1)%4≠3\/121<=i/\i<2101/\((i-121)%198<129\/(i-121)%198=195\/(i-121)%198=196)
theorem Iv.jj{d:Nat->Nat}{e:Nat}{x x':Nat->Int}(h:Iv d e x)(c:∀i,Kc i->x' i=x i):Iv d e x':=by
 have a:∀v f,v<30->f<3->x' (1+v*4+f)=x (1+v*4+f):=λv f hv hf=>c _ (by unfold Kc;omega);have q:∀g f,g<10->f<129\/f=195\/f=196->x' (121+g*198+f)=x (121+g*198+f):=λg f hg hf=>c _ (.inr ⟨by omega,bB,bB⟩);have q65:∀g j,g<10->j<64->x' (121+g*198+65+j)=x (121+g*198+65+j):=λg j hg hj=>by rw[Nat.add_assoc];exact q g _ hg bB
 refine⟨λk hk=>(h.q k hk).same λi h1 h2=>?_,(a 0 0 bB bB).trans h.rt,λv hv v0 hv1=>?_,λk j hk hj p=>?_,λk v hk hv hne p=>?_,λk hk p=>?_⟩
 .obtain⟨f,rfl⟩:∃f,i=121+k*198+f:=⟨i-(121+k*198),bB⟩;exact q k f hk bB
 .obtain⟨k,k1,k2,k3,k4,k5⟩:=h.par v hv v0 ((a v 0 hv bB).symm.trans hv1);exact⟨k,k1,(a v 1 hv bB).trans k2,(a k 0 bB bB).trans k3,k4,by rw[a v 2 hv bB];exact k5⟩
 .obtain⟨m1,m2,m3,m4⟩:=h.mem k j hk hj (by rw[<-q65 k j hk hj];exact p);exact⟨m1,m2,(a j 0 m1 bB).trans m3,(a j 1 m1 bB).trans m4⟩
 .have:=q v 0 hv bB;rw[Nat.add_zero]at this;rw[this];exact h.ne k v hk hv hne (by rw[<-q65 k v hk bB];exact p)
 .rw[q k 196 hk bB,show x' (1+k*4)=x (1+k*4)from a k 0 bB bB];exact h.pe k hk (by rw[<-q k 195 hk bB];exact p)
theorem Iv.any{d:Nat->Nat}{x:Nat->Int}(h:Iv d 0 x)(e:Nat):Iv d e x:=⟨h.q,h.rt,h.par,h.mem,λg u hg hu _ p=>h.ne g u hg hu (h.mem g u hg bB p).2.1 p,h.pe⟩
def vh(x:Nat->Int)(u:Nat):Bool:=if 10<=u then decide (x (2101+(u-10)*2)=1)else decide (0<x (121+u*198))&&(!decide (x (121+u*198+194)=1)&&(decide (x (121+u*198+195)=0)||decide (x (121+u*198+197)<x (121+u*198+195))))
theorem Se{x:Nat->Int}{u:Nat}(hu:u<10)(h:vh x u=bw):0<x (121+u*198):=by
 unfold vh at h;rw[nJ]at h;simp at h;exact h.1
section
variable (b:Nat)(d:Nat->Nat)(x:Nat->Int)(w:bD)
theorem L6(u:Nat)(h:SA w b x)(q:∀g,g<10->QI x (121+g*198))(hu:u<30):Calls prog 275 #[ai (bj ⟨b,0,bu⟩),aa az u] w λe w'=>e=bf (ar (vh x u))/\∃n,w'=w.drewN n:=by
 by_cases k:10<=u
 .obtain⟨n,rfl⟩:∃n,u=10+n:=⟨u-10,bB⟩;have c:=h.bo _ (sv (n:=n) bB);have k':(10:Int)<=((10+n:Nat):Int):=bB
  have e:Hid (vh x (10+n)=decide (x (2101+n*2)=1)):=hJ (by unfold vh;rw[nK,show 10+n-10=n by omega]);go_in
  go_wp2
  go_ret
  exact⟨cX e.symm,0,rfl⟩
 .have hu':u<10:=bB
  obtain⟨m,hp,pp,q1,q2⟩:=q u hu';have LE:=hJ (λn=>RH b (121+u*198) m x hp pp (w.drewN n) ⟨h.drewN n,⟨u,hu',rfl⟩,q1,q2⟩);have c1:=h.bo _ (Dv hu');have c2:=h.i _ (oX hu' 195 bB);have c3:=h.i _ (oX hu' 197 bB);have k':¬(10:Int)<=(u:Int):=bB
  have hgI:(u:Int)<10:=bB
  have e:Hid (vh x u=(decide (0<m)&&(!decide (x (121+u*198+194)=1)&&(decide (x (121+u*198+195)=0)||decide (x (121+u*198+197)<x (121+u*198+195)))))):=hJ (by unfold vh;rw[aI k,q1.m];simp);generalize x (121+u*198+194)=fz at*;generalize x (121+u*198+195)=qu at*;generalize x (121+u*198+197)=us at*;obtain⟨t1,d1⟩:∃t,decide (0<m)=t:=⟨_,rfl⟩;obtain⟨t2,d2⟩:∃t,decide (fz=1)=t:=⟨_,rfl⟩;rw[d1,d2]at e;rw[d2]at c1;by_cases d3:qu=0
  case' pos=>subst d3
  case' neg=>have d4:(qu==0)=bA:=by simpa using d3
  all_goals
   cases t1<;>cases t2<;>
   .go_in
    go_wp2
    go_quiet ((go_at_call 299;exact Calls.quiet_of_same (LE.v _)))
    go_wp2
    go_ret
    exact⟨cX (by rw[e.v];simp[*]),_,rfl⟩
end
end Wf
namespace Wf
def mx(T L:Int):Int:=if T<L then L else T
theorem Qd(T L:Int):(if T<L then L else T)=mx T L:=rfl
attribute [local go_sem] Qd
def Ln(b:Nat)(d:Nat->Nat)(u g:Nat)(x:Nat->Int)(r:Bool)(w w':bD):Prop:=bG b w w'/\∃x',SA w' b x'/\Iv d g x'/\Ch g u x x'/\(∀j,j<64->j≠u->(0<x' (121+g*198+65+j)↔0<x (121+g*198+65+j)))/\(0<x' (121+g*198+65+u)↔r=bw)
structure In (x:Nat->Int)(u g:Nat):Prop where
 lt:u<30
 pos:u≠0
 here:x (1+u*4)=1
 qD:g<10
 su:x (1+u*4+1)=g
section
variable {b:Nat}{d:Nat->Nat}{e u g:Nat}{x x1:Nat->Int}{w w1 w':bD}{r:Bool}
theorem Ln.same(i:Iv d e x)(he:e=u\/e=g)(n:In x u g)(h:SA w' b x)(f:bG b w w')(hr:0<x (121+g*198+65+u)↔r=bw)(rp:u<10->r=bw->0<x (121+u*198)):Ln b d u g x r w w':=
 ⟨f,x,h,i.kP he (λ_ _ _ _=>rfl) (i.q g n.qD) n.qD n.lt n.pos n.here n.su (λ_ _ _=>Iff.rfl) (λa p=>rp a (hr.1 p)),λ_ _ _ _=>rfl,λ_ _ _=>Iff.rfl,hr⟩
theorem Ln.of(i:Iv d e x)(he:e=u\/e=g)(n:In x u g)(c:Ch g u x x1){P:Nat->Prop}(f:bG b w w1)(k:Qc b (121+g*198) x1 w1 w' P)(ot:∀j,j<64->j≠u->(P j↔0<x (121+g*198+65+j)))(hr:P u↔r=bw)(rp:u<10->r=bw->0<x (121+u*198)):Ln b d u g x r w w':=by
 obtain⟨f2,x',m,h,p,s,o,t⟩:=k;have c':Ch g u x x':=λi a a2 a3=>(o i bB).trans (c i a a2 a3);have ot':∀j,j<64->j≠u->(0<x' (121+g*198+65+j)↔0<x (121+g*198+65+j)):=λj hj ne=>(t j hj).trans (ot j hj ne);have me:=(t u (by have:=n.lt;omega)).trans hr;exact⟨f.trans f2,x',s.sa,i.kP he c' ⟨m,h,p,s.q,s.k⟩ n.qD n.lt n.pos n.here n.su ot' (λa p=>rp a (me.1 p)),c',ot',me⟩
end
section
variable (b:Nat)(d:Nat->Nat)(x:Nat->Int)(w:bD)
theorem DL(u g e:Nat)(h:SA w b x)(i:Iv d e x)(he:e=u\/e=g)(n:In x u g):Calls prog 241 #[ai (bj ⟨b,0,bu⟩),aa az u] w λe w'=>e=bf (ao #[])/\Ln b d u g x (vh x u) w w':=by
 have c1:=h.i _ (oW n.lt);rw[n.su]at c1;have l1:(u:Int)<30:=by have:=n.lt;omega
 have l2:(g:Int)<10:=by have:=n.qD;omega
 obtain⟨m,hp,pp,q1,q2⟩:=i.q g n.qD;have QQ:Hid (∀w' y,SA w' b y->(∀i,121+g*198<=i->i<121+g*198+129->y i=x i)->QS w' b (121+g*198) y m hp pp):=hJ (λw' y hy ey=>⟨hy,⟨g,n.qD,rfl⟩,⟨(ey _ bB bB).trans q1.m,λi hi=>(ey _ bB bB).trans (q1.h i hi),λi hi=>(ey _ bB bB).trans (q1.p i hi)⟩,q2⟩);have HP:Hid (x (121+g*198+65+u)=pp u):=hJ (q1.p u bB);have RP:Hid (u<10->vh x u=bw->0<x (121+u*198)):=hJ Se;have H:=hJ (aK h (aK i (aK he n)));have RD:=hJ (λW (hW:SA W b x)=>L6 b x W u hW i.q n.lt);obtain⟨r,hr⟩:=hU (vh x u);rw[hr]at RP RD|-;clear h i he n q1 q2 hr;go_in
 go_wp2
 go_quiet (fail)
 go_wp2_with fail
 refine(Ao b _ m x hp pp _ u (QQ.v _ x (H.1.drewN _) (λ_ _ _=>rfl)) bB).mono ?_;rintro e1 w1 ⟨k,E,rfl,hE,hw1⟩;have S1:Hid (SA w1 b x/\bG b w w1):=hJ (by rw[hw1];exact⟨H.1.drewN _,(bG.refl b w).drewN _⟩);have HE:=hJ hE;clear hw1 hE;by_cases e0:E=0
 .subst e0;have PU:Hid (0<pp u):=hJ (HE.1 rfl);rw[bF];go_wp2_with fail
  go_quiet ((go_at_call 275;exact Calls.quiet_of (RD.v _ (S1.1.drewN _))))
  cases r
  .go_wp2_with fail
   refine(Gv b _ m x hp pp _ u (QQ.v _ x (S1.1.drewN _) (λ_ _ _=>rfl)) bB PU.v).mono ?_;rintro e2 w2 ⟨k2,rfl,q⟩;have FIN:Hid (Ln b d u g x bA w w2):=hJ (Ln.of H.2.1 H.2.2.1 H.2.2.2 (λ_ _ _ _=>rfl) (S1.2.drewN _) q (λj hj ne=>by simp[ne]) (by simp) RP.v);clear q;go_wp2_with fail
   go_end0
   exact⟨rfl,FIN.v⟩
  .go_wp2_with fail
   go_end0
   exact⟨rfl,Ln.same H.2.1 H.2.2.1 H.2.2.2 (S1.1.drewN _) (S1.2.drewN _) (by rw[HP.v];have:=PU.v;simp;omega) (λa _=>RP.v a trivial)⟩
 .have PU:Hid (pp u=0):=hJ (by have:=HE.v;omega);rw[bH e0];go_wp2_with fail
  go_quiet ((go_at_call 275;exact Calls.quiet_of (RD.v _ (S1.1.drewN _))))
  cases r
  .go_wp2_with fail
   go_end0
   exact⟨rfl,Ln.same H.2.1 H.2.2.1 H.2.2.2 (S1.1.drewN _) (S1.2.drewN _) (by rw[HP.v,PU.v];simp) RP.v⟩
  .go_wp2_with fail
   refine cJ (λW=>SA W b x/\bG b w W) ⟨S1.1.drewN _,S1.2.drewN _⟩ ?_;clear S1 c1 e0 HE;rintro W ⟨hS,hF⟩;have c2:=hS.u _ (iC H.2.2.2.lt 3 bB);have c3:=hS.u _ (GU H.2.2.2.qD);have cf:=hS.frozen;have S:=hJ (aK hS hF);clear hS hF;generalize x (1+u*4+3)=T at c2;generalize x (121+g*198+193)=L at c3;go_region
   go_wp2_with fail
   have k3:=iC H.2.2.2.lt 3 bB;refine cJ (λW2=>SA W2 b (up x (1+u*4+3) (mx T L))/\bG b w W2) ⟨(S.1.set _ _ _ k3.1 (by rw[k3.2];rfl)).drew,(S.2.setCell _ _).drew⟩ ?_;clear c2 c3 cf S;rintro W2 ⟨hS,hF⟩;have c2:W2.cell? ⟨b,1+u*4+3,bu⟩=bj (aa bd (mx T L)):=by rw[hS.u _ k3,ik]
   have S:=hJ (aK hS hF);generalize mx T L=TL at*;have PT:Hid (∀w5,Qc b (121+g*198) (up x (1+u*4+3) TL) W2.drew w5 (λi=>0<up x (1+u*4+3) TL (121+g*198+65+i)\/i=u)->Ln b d u g x bw w w5/\w5.cell? ⟨b,1+u*4+3,bu⟩=bj (aa bd TL)):=hJ (λw5 q=>by
    refine⟨Ln.of H.2.1 H.2.2.1 H.2.2.2 (λi _ a _=>cC _ _ a) S.2.drew q (λj hj ne=>by rw[cC _ _];simp[ne]) (by simp) (λa _=>RP.v a trivial),?_⟩;obtain⟨_,x',m',h',p',s,o,_⟩:=q;rw[s.sa.u _ k3,o _ bB,ik])
   have PP:=hJ (Sb b (121+g*198) m (up x (1+u*4+3) TL) hp pp W2.drew u TL (QQ.v _ _ S.1.drew (λi _ _=>cC _ _)) bB PU.v);clear hS hF k3;go_region_held3 (λw'=>w'.cell? ⟨b,1+u*4+3,bu⟩=bj (aa bd TL)) (first|exact c2|exact c5|go_keep) ((go_at_call 276;refine sC PP.v ?_;rintro w5 q;obtain⟨l5,c5⟩:=PT.v w5 q;have FIN:=hJ l5;clear q l5))
   go_wp2_with fail
   go_end0
   exact⟨rfl,FIN.v⟩
def Wk(x x':Nat->Int):Prop:=∀i,0<i/\i<121/\(i-1)%4≠3\/121<=i/\i<2101/\(i-121)%198=195->x' i=x i
theorem Wk.refl(x:Nat->Int):Wk x x:=λ_ _=>rfl
theorem Wk.trans{x y z:Nat->Int}(h:Wk x y)(k:Wk y z):Wk x z:=λi hi=>(k i hi).trans (h i hi)
theorem Ch.wk{g u:Nat}{x x':Nat->Int}(h:Ch g u x x')(hu:u<30)(hg:g<10):Wk x x':=λi hi=>h i bB bB bB
def Ps(u:Nat)(x x':Nat->Int):Prop:=10<=u->∀g:Nat,g<10->x (1+u*4+1)=g->(0<x' (121+g*198+65+u)↔x (2101+(u-10)*2)=1)
theorem qe(u:Nat)(h:SA w b x)(i:Iv d u x)(hu:u<30)(hh:x (1+u*4)=1):Calls prog 195 #[ai (bj ⟨b,0,bu⟩),aa az u] w λe w'=>e=bf (ao #[])/\To b w (λx'=>Iv d 0 x'/\Wk x x'/\Ps u x x') w':=by
 have H0:=hJ (aK h (aK i hh));go_in
 go_wp2
 go_loopw [1] (λi wr=>∃(v:Nat) (y:Nat->Int),i=aa az v/\v<30/\Hid (bG b w wr/\SA wr b y/\Iv d v y/\Wk x y/\y (1+v*4)=1/\(Ps u x y/\d v<d u\/v=u/\y=x))) (λi _=>d (intOf i).toNat)
 case atStart=>exact⟨u,x,rfl,hu,bG.refl _ _,H0.1,H0.2.1,Wk.refl _,H0.2.2, .inr ⟨rfl,rfl⟩⟩
 case round=>
  obtain⟨v,y,rfl,hv,H⟩:=hrel;by_cases h0:v=0
  .subst h0;go_wp2
   go_end0
   obtain⟨h1,h2,h3,h4,_,h6⟩:=H.v;exact⟨rfl,y,h2,h1,h3,h4,h6.elim (·.1) (λe=>by rw[<-e.1];exact λq=>aZ q bB)⟩
  .have k0:((v:Int) !=0)=bw:=by rw[bne_iff_ne];omega
   obtain⟨g,g1,g2,g3,g4,_⟩:=H.2.2.1.par v hv h0 H.2.2.2.2.1;have HG:=hJ (aK g2 g3);have NN:Hid (In y v g):=hJ ⟨hv,h0,H.2.2.2.2.1,g1,g2⟩;go_wp2_with fail
   refine sC (DL b d y _ v g v H.2.1 H.2.2.1 (.inl rfl) NN.v) ?_;rintro w1 ⟨f1,y1,s1,i1,c1,o1,m1⟩;have c0:w1.cell? ⟨b,1+v*4+1,bu⟩=bj (aa az (g:Int)):=by rw[s1.i _ (oW hv),c1 _ bB bB bB,HG.1]
   have S1:Hid (bG b w w1/\SA w1 b y1/\Iv d g y1/\Wk x y1/\y1 (1+g*4)=1/\(Ps u x y1/\d g<d u\/g=u/\y1=x)):=hJ (by
    obtain⟨h1,h2,h3,h4,h5,h6⟩:=H.v;refine⟨h1.trans f1,s1,i1,h4.trans (c1.wk hv g1),(c1 _ bB bB bB).trans HG.2, .inl ?_⟩;rcases h6 with⟨h6,h7⟩|⟨rfl,rfl⟩
    .refine⟨λq k hk e=>(Iff.trans ?_ (h6 q k hk e)),bB⟩;have uv:u≠v:=λe=>by subst e;omega
     by_cases kg:k=g
     .subst kg;exact o1 u bB uv
     .rw[c1 _ bB bB bB]
    .refine⟨λq k hk e=>?_,g4⟩;obtain rfl:k=g:=by have:=HG.1;omega
     rw[m1];unfold vh;rw[aJ q];simp)
   have hvI:(v:Int)<30:=bB
   go_wp2
   go_roundw
   case rel=>exact⟨g,y1,rfl,bB,S1⟩
   case measure=>simp[intOf];exact g4
def bi(t:Bool):Int:=if t then 1 else 0
theorem Ib(t:Bool):ar t=V 2 (bi t):=by cases t<;>rfl
theorem rE(n:Nat)(on:Bool)(h:SA w b x)(i:Iv d 0 x)(hn:n<20)(hh:x (1+(10+n)*4)=1):Calls prog 192 #[ai (bj ⟨b,0,bu⟩),aa az n,ar on] w λe w'=>e=bf (ao #[])/\To b w (λx'=>Iv d 0 x'/\Wk x x'/\∀g:Nat,g<10->x (1+(10+n)*4+1)=g->(0<x' (121+g*198+65+(10+n))↔on=bw)) w':=by
 have ka:=sv hn;have c1:=h.bo _ ka;have cf:=h.frozen;have hnI:(n:Int)<20:=bB
 have s1:=h.set _ (bi on) (ar on) ka.1 (by rw[ka.2];exact Ib on);have i1:Iv d (10+n) (up x (2101+n*2) (bi on)):=(i.jj (λj hj=>cC _ _ (by unfold Kc at hj;omega))).any _;have ST:=hJ (qe b d _ _ (10+n) s1 i1 bB (by rw[cC _ _];exact hh));rw[show((10+n:Nat):Int)=10+(n:Int)by omega]at ST;go_in
 go_wp2_with fail
 refine sC ST.v ?_;rintro w1 ⟨x',s,f,i',k,p⟩;have FIN:Hid (To b w (λx'=>Iv d 0 x'/\Wk x x'/\∀g:Nat,g<10->x (1+(10+n)*4+1)=g->(0<x' (121+g*198+65+(10+n))↔on=bw)) w1):=hJ ⟨x',s,((bG.refl b w).setCell _ _).trans f,i',λj a1=>(k j a1).trans (cC _ _),λg hg e=>by
  have:=p bB g hg (by rw[cC _ _];exact e);rw[show 10+n-10=n by omega,ik]at this;rw[this];cases on<;>simp[bi]⟩
 go_wp2_with fail
 go_end0
 exact⟨rfl,FIN.v⟩
end
end Wf
namespace Wf
attribute [local go_sem] Qd
section
variable (b:Nat)(d:Nat->Nat)(x:Nat->Int)(w:bD)
def NQ(x:Nat->Int):Prop:=∀g,g<10->¬0<x (121+g*198+195)
theorem NH(o m:Nat)(h p:Nat->Nat)(j:Nat)(s:QS w b o x m h p)(hj:j<64):Calls prog 272 #[ai (bj ⟨b,o,bu⟩),aa az j] w λe w'=>∃k E,e=bf (ao #[aa bd k,bN E])/\Qc b o x w w' (λi=>0<x (o+65+i)/\i≠j):=by
 by_cases c:0<p j
 .exact(Gv b o m x h p w j s hj c).mono λe w' ⟨k,a,q⟩=>⟨k,0,a,q⟩
 .have KE:=hJ (Ao b o m x h p w j s hj);have S:=hJ s;go_in
  go_wp2_with fail
  refine KE.mono ?_;rintro e w1 ⟨k,E,rfl,hE,rfl⟩;have e0:E≠0:=bB
  have HE:=hJ (bH e0);rw[bH e0];go_wp2
  go_ret2
  refine⟨0,E,by rw[HE.v];rfl,bG.refl _ _,x,m,h,p,S.v,λ_ _=>rfl,λi hi=>⟨λq=>⟨q,?_⟩,λq=>q.1⟩⟩;rintro rfl;rw[S.q.p i hj]at q;omega
theorem R7{u g:Nat}{x1:Nat->Int}{w1 w2:bD}{d:Nat->Nat}{b:Nat}{x:Nat->Int}{w:bD}(i:Iv d u x)(n:In x u g)(c:Ch g u x x1)(hq:∀j,j<64->x1 (121+g*198+65+j)=x (121+g*198+65+j))(f:bG b w w1)(q:Qc b (121+g*198) x1 w1 w2 (λi=>0<x1 (121+g*198+65+i)/\i≠u)):bG b w w2/\∃x2,SA w2 b x2/\Iv d g x2/\In x2 u g/\Wk x x2:=by
 obtain⟨f',x2,s2,i2,c2,_,_⟩:Ln b d u g x bA w w2:=Ln.of i (.inl rfl) n c f q (λj hj ne=>by rw[hq j hj];simp[ne]) (by simp) (λ_ e=>by cases e);have:=n.lt;have:=n.qD;exact⟨f',x2,s2,i2,⟨n.lt,n.pos,(c2 _ bB bB bB).trans n.here,n.qD,(c2 _ bB bB bB).trans n.su⟩,c2.wk n.lt n.qD⟩
theorem R6(u g:Nat)(h:SA w b x)(i:Iv d u x)(n:In x u g):Calls prog 235 #[ai (bj ⟨b,0,bu⟩),aa az u] w λe w'=>e=bf (ao #[])/\To b w (λx'=>Iv d g x'/\Wk x x') w':=by
 have c1:=h.i _ (oW n.lt);rw[n.su]at c1;have l1:(u:Int)<30:=by have:=n.lt;omega
 have l2:(g:Int)<10:=by have:=n.qD;omega
 obtain⟨m,hp,pp,q1,q2⟩:=i.q g n.qD;obtain⟨_,_,_,_,_,wp⟩:=i.par u n.lt n.pos n.here;have gu:g≠u:=by
  obtain⟨k,_,e,_,lt,_⟩:=i.par u n.lt n.pos n.here;rw[n.su]at e;intro e2;subst e2;obtain rfl:k=g:=bB
  omega
 have CU:Hid (∀w' y,SA w' b y->(∀i,121+g*198<=i->i<121+g*198+129->y i=x i)->Calls prog 272 #[ai (bj ⟨b,121+g*198,bu⟩),aa az u] w' λe w''=>∃k E,e=bf (ao #[aa bd k,bN E])/\Qc b (121+g*198) y w' w'' (λi=>0<y (121+g*198+65+i)/\i≠u)):=hJ (λw' y hy ey=>NH b y w' _ m hp pp u ⟨hy,⟨g,n.qD,rfl⟩,⟨(ey _ bB bB).trans q1.m,λi hi=>(ey _ bB bB).trans (q1.h i hi),λi hi=>(ey _ bB bB).trans (q1.p i hi)⟩,q2⟩ bB);have H:=hJ (aK i (aK n (aK gu h)));have kt:=hJ (iC n.lt 3 bB);have kw:=hJ (iC n.lt 2 bB);have kf:=hJ (GU n.qD);have z1:¬x (1+u*4+2)=0:=bB
 go_in
 go_wp2
 go_quiet (fail)
 go_wp2_with fail
 refine cJ (λW=>SA W b x/\bG b w W) ⟨H.2.2.2.drewN _,(bG.refl b w).drewN _⟩ ?_;rintro W ⟨hS,hF⟩;have c2:=hS.u _ kt.v;have c3:=hS.u _ kf.v;have cf:=hS.frozen;have S:=hJ (aK hS hF);obtain⟨T,hT⟩:=hU (x (1+u*4+3));obtain⟨L,hL⟩:=hU (x (121+g*198+193));have HT:=hJ hT;rw[hT]at c2;rw[hL]at c3;go_region
 go_wp2_with fail
 refine cJ (λW=>SA W b (up x (121+g*198+193) (mx L T))/\bG b w W) ⟨(S.1.set _ _ _ kf.1 (by rw[kf.2];rfl)).drew,(S.2.setCell _ _).drew⟩ ?_;rintro W ⟨hS,hF⟩;have c2:=hS.u _ kt.v;have c3:=hS.u _ kw.v;rw[cC _ _]at c2 c3;rw[HT.v]at c2;have cf:=hS.frozen;have S:=hJ (aK hS hF);generalize mx L T=ML at*;obtain⟨wt,hw⟩:=hU (x (1+u*4+2));rw[hw]at c3 z1;by_cases t:10<=u
 case' pos=>
  have h10':¬(u:Int)<10:=bB
  go_region
  go_wp2_with fail
  generalize IntKind.u64.wrap (T+_)=TT at*;have S2:Hid (SA (W.setCell ⟨b,1+u*4+3,bu⟩ (aa bd TT)).drew b (up (up x (121+g*198+193) ML) (1+u*4+3) TT)/\bG b w (W.setCell ⟨b,1+u*4+3,bu⟩ (aa bd TT)).drew/\Ch g u x (up (up x (121+g*198+193) ML) (1+u*4+3) TT)):=hJ ⟨(S.1.set _ _ _ kt.1 (by rw[kt.2];rfl)).drew,(S.2.setCell _ _).drew,λi a1 a2 a3=>by rw[cC _ _ a2,cC _ _]⟩;have EQ:Hid (∀i,121+g*198<=i->i<121+g*198+129->up (up x (121+g*198+193) ML) (1+u*4+3) TT i=x i):=hJ (λi a1 a2=>by rw[cC _ _,cC _ _])
 case' neg=>
  have h10:u<10:=bB
  have h10':(u:Int)<10:=bB
  have kq:=hJ (oX h10 195 bB);have ku:=hJ (oX h10 197 bB);have c4:=hS.i _ kq.v;have c5:=hS.i _ ku.v;generalize up x (121+g*198+193) ML (121+u*198+195)=qu at c4;generalize up x (121+g*198+193) ML (121+u*198+197)=us at c5;by_cases q0:0<qu
  case' pos=>
   go_region
   go_wp2_with fail
   go_region
   go_wp2_with fail
   generalize IntKind.u64.wrap (T+_)=TT at*;generalize wrap64 (us+1)=UU at*;have S2:Hid (SA ((W.setCell ⟨b,1+u*4+3,bu⟩ (aa bd TT)).setCell ⟨b,121+u*198+197,bu⟩ (aa az UU)).drew.drew b (up (up (up x (121+g*198+193) ML) (1+u*4+3) TT) (121+u*198+197) UU)/\bG b w ((W.setCell ⟨b,1+u*4+3,bu⟩ (aa bd TT)).setCell ⟨b,121+u*198+197,bu⟩ (aa az UU)).drew.drew/\Ch g u x (up (up (up x (121+g*198+193) ML) (1+u*4+3) TT) (121+u*198+197) UU)):=hJ ⟨((S.1.set _ _ _ kt.1 (by rw[kt.2];rfl)).set _ _ _ ku.1 (by rw[ku.2];rfl)).drew.drew,((S.2.setCell _ _).setCell _ _).drew.drew,λi a1 a2 a3=>by rw[cC _ _ a3,cC _ _ a2,cC _ _]⟩;have EQ:Hid (∀i,121+g*198<=i->i<121+g*198+129->up (up (up x (121+g*198+193) ML) (1+u*4+3) TT) (121+u*198+197) UU i=x i):=hJ (λi a1 a2=>by rw[cC _ _,cC _ _,cC _ _])
  case' neg=>
   go_region
   go_wp2_with fail
   generalize IntKind.u64.wrap (T+_)=TT at*;have S2:Hid (SA (W.setCell ⟨b,1+u*4+3,bu⟩ (aa bd TT)).drew b (up (up x (121+g*198+193) ML) (1+u*4+3) TT)/\bG b w (W.setCell ⟨b,1+u*4+3,bu⟩ (aa bd TT)).drew/\Ch g u x (up (up x (121+g*198+193) ML) (1+u*4+3) TT)):=hJ ⟨(S.1.set _ _ _ kt.1 (by rw[kt.2];rfl)).drew,(S.2.setCell _ _).drew,λi a1 a2 a3=>by rw[cC _ _ a2,cC _ _]⟩;have EQ:Hid (∀i,121+g*198<=i->i<121+g*198+129->up (up x (121+g*198+193) ML) (1+u*4+3) TT i=x i):=hJ (λi a1 a2=>by rw[cC _ _,cC _ _])
 all_goals
  refine(CU.v _ _ S2.1 EQ.v).mono ?_;rintro e w2 ⟨k,E,rfl,q⟩;obtain⟨f2,x2,s2,i2,n2,k2⟩:=R7 H.1 H.2.1 S2.2.2 (λj hj=>EQ.v _ bB bB) S2.2.1 q;have LN:=hJ (DL b d x2 w2 u g g s2 i2 (.inr rfl) n2);have S3:=hJ (aK f2 k2);go_wp2_with fail
  refine sC LN.v ?_;rintro w3 ⟨f3,x3,s3,i3,c3',_,_⟩;have FIN:Hid (To b w (λx'=>Iv d g x'/\Wk x x') w3):=hJ ⟨x3,s3,S3.1.trans f3,i3,S3.2.trans (c3'.wk H.2.1.lt H.2.1.qD)⟩;go_wp2_with fail
  go_end0
  exact⟨rfl,FIN.v⟩
theorem Sl(n:Nat)(h:SA w b x)(i:Iv d 0 x)(hn:n<20)(hh:x (1+(10+n)*4)=1):Calls prog 171 #[ai (bj ⟨b,0,bu⟩),aa az n] w λe w'=>e=bf (ao #[])/\To b w (λx'=>Iv d 0 x'/\Wk x x') w':=by
 have kr:=Cr hn;have c1:=h.i _ kr;have cf:=h.frozen;have hnI:(n:Int)<20:=bB
 have H:=hJ (aK h (aK i (aK hh kr)));generalize x (2101+n*2+1)=r at c1;go_in
 go_wp2
 go_region
 go_wp2_with fail
 generalize wrap64 (r+1)=rr at*;have H0:Hid (bG b w (w.setCell ⟨b,2101+n*2+1,bu⟩ (aa az rr)).drew/\SA (w.setCell ⟨b,2101+n*2+1,bu⟩ (aa az rr)).drew b (up x (2101+n*2+1) rr)/\Iv d (10+n) (up x (2101+n*2+1) rr)/\Wk x (up x (2101+n*2+1) rr)/\up x (2101+n*2+1) rr (1+(10+n)*4)=1):=hJ ⟨((bG.refl b w).setCell _ _).drew,(H.1.set _ _ _ H.2.2.2.1 (by rw[H.2.2.2.2];rfl)).drew,(H.2.1.jj (λj hj=>cC _ _ (by unfold Kc at hj;omega))).any _,λj hj=>cC _ _,by rw[cC _ _];exact H.2.2.1⟩;generalize (w.setCell ⟨b,2101+n*2+1,bu⟩ (aa az rr)).drew=W0 at*;go_loopw [4] (λi wr=>∃(v:Nat) (y:Nat->Int),i=aa az v/\v<30/\Hid (bG b w wr/\SA wr b y/\Iv d v y/\Wk x y/\y (1+v*4)=1)) (λi _=>d (intOf i).toNat)
 case atStart=>exact⟨10+n,_,by go_num,bB,H0⟩
 case round=>
  obtain⟨v,y,rfl,hv,H⟩:=hrel;by_cases h0:v=0
  .subst h0;go_wp2
   go_end0
   obtain⟨h1,h2,h3,h4,_⟩:=H.v;exact⟨rfl,y,h2,h1,h3,h4⟩
  .have k0:((v:Int) !=0)=bw:=by rw[bne_iff_ne];omega
   obtain⟨g,g1,g2,g3,g4,_⟩:=H.2.2.1.par v hv h0 H.2.2.2.2;have HG:=hJ (aK g2 g3);have PY:=hJ (R6 b d y wr v g H.2.1 H.2.2.1 ⟨hv,h0,H.2.2.2.2,g1,g2⟩);go_wp2_with fail
   refine sC PY.v ?_;rintro w1 ⟨y1,s1,f1,i1,k1⟩;have c0:w1.cell? ⟨b,1+v*4+1,bu⟩=bj (aa az (g:Int)):=by rw[s1.i _ (oW hv),k1 _ bB,HG.1]
   have S1:Hid (bG b w w1/\SA w1 b y1/\Iv d g y1/\Wk x y1/\y1 (1+g*4)=1):=hJ ⟨H.1.trans f1,s1,i1,H.2.2.2.1.trans k1,(k1 _ bB).trans HG.2⟩;have hvI:(v:Int)<30:=bB
   go_wp2
   go_roundw
   case rel=>exact⟨g,y1,rfl,bB,S1⟩
   case measure=>simp[intOf];exact g4
theorem Ud(d:Nat->Nat):∀n,∃D,∀u,u<n->d u<=D
 |0=>⟨0,λu h=>aZ h bB⟩
 |n+1=>by
  obtain⟨D,h⟩:=Ud d n;refine⟨D+d n,λu hu=>?_⟩;by_cases e:u=n
  .subst e;omega
  .have:=h u bB;omega
theorem O1(h:SA w b x)(i:Iv d 0 x):Calls prog 170 #[ai (bj ⟨b,0,bu⟩)] w λe w'=>∃r:Int,e=bf (aa az r)/\(∃n,w'=w.drewN n)/\(r= -1/\¬0<x 121\/∃n:Nat,r=n/\n<20/\x (1+(10+n)*4)=1):=by
 obtain⟨D,hD⟩:=Ud d 30;have H:=hJ (aK h (aK i hD));clear h i hD;go_in
 go_wp2_with fail
 go_loopw [3] (λj wr=>∃(v:Nat),j=aa az v/\v<30/\Hid ((∃n,wr=w.drewN n)/\x (1+v*4)=1/\(v=0\/∃g,g<10/\0<x (121+g*198+65+v)))) (λj _=>D-d (intOf j).toNat)
 case atStart=>exact⟨0,rfl,bB,⟨0,rfl⟩,H.2.1.rt, .inl rfl⟩
 case round=>
  obtain⟨v,rfl,hv,I⟩:=hrel;by_cases h10:v<10
  .have k0:(v:Int)<10:=bB
   obtain⟨m,hp,pp,q1,q2⟩:=H.2.1.q v h10;have Fqq:=hJ (ry b (121+v*198) m x hp pp wr ⟨by obtain⟨n,e⟩:=I.1;rw[e];exact H.1.drewN n,⟨v,h10,rfl⟩,q1,q2⟩);have QP:=hJ (aK q1.m q1.p);clear q1 q2;by_cases m0:0<m
   .rw[aO m0]at Fqq;go_wp2_with fail
    refine Fqq.mono ?_;rintro e w1 ⟨j,k,n1,rfl,hw1,hj⟩;have S1:Hid ((∃n,w1=w.drewN n)/\j<30/\x (1+j*4)=1/\0<x (121+v*198+65+j)/\d v<d j/\d j<=D):=hJ (by
     obtain⟨n,hn⟩:=I.1;obtain⟨j1,j2⟩:=hj m0;have p:0<x (121+v*198+65+j):=by rw[QP.2 j j1];omega
     obtain⟨a1,a2,a3,a4⟩:=H.2.1.mem v j h10 j1 p;obtain⟨g,b1,b2,b3,b4,_⟩:=H.2.1.par j a1 a2 a3;obtain rfl:g=v:=bB
     exact⟨⟨n+n1,by rw[hw1,hn,World.drewN_drewN]⟩,a1,a3,p,b4,H.2.2 j a1⟩)
    clear hw1 hj;go_wp2
    go_roundw
    case rel=>exact⟨j,rfl,S1.2.1,S1.1,S1.2.2.1, .inr ⟨v,h10,S1.2.2.2.1⟩⟩
    case measure=>have:=S1.2.2.2.2;simp[intOf];omega
   .rw[aT m0]at Fqq;go_wp2_with fail
    refine Fqq.mono ?_;rintro e w1 ⟨j,k,n1,rfl,hw1,_⟩;have S1:Hid ((∃n,w1=w.drewN n)/\¬0<x 121):=hJ (by
     obtain⟨n,hn⟩:=I.1;refine⟨⟨n+n1,by rw[hw1,hn,World.drewN_drewN]⟩,?_⟩;rcases I.2.2 with e|⟨g,hg,p⟩
     .subst e;have e1:x 121=m:=QP.1;omega
     .have:=H.2.1.ne g v hg h10 (H.2.1.mem g v hg bB p).2.1 p;have:=QP.1;omega)
    clear hw1;go_wp2
    go_ret
    exact⟨-1,rfl,S1.1, .inl ⟨rfl,S1.2⟩⟩
  .have k0:¬(v:Int)<10:=bB
   obtain⟨n,rfl⟩:∃n,v=10+n:=⟨v-10,bB⟩;go_wp2
   go_ret
   exact⟨_,rfl,I.1, .inr ⟨n,bB,bB,I.2.1⟩⟩
theorem Ma(h:SA w b x)(i:Iv d 0 x):Calls prog 169 #[ai (bj ⟨b,0,bu⟩)] w λe w'=>e=bf (ao #[])/\To b w (λx'=>Iv d 0 x'/\Wk x x'/\(NQ x->x'=x)) w':=by
 have H:=hJ (aK h i);go_in
 go_wp2_with fail
 go_loopw [4] (λj wr=>∃(k:Nat) (y:Nat->Int),j=aa az k/\k<=10/\Hid (bG b w wr/\SA wr b y/\Iv d 0 y/\Wk x y/\(NQ x->y=x))) (λj _=>10-(intOf j).toNat)
 case atStart=>exact⟨0,x,rfl,bB,bG.refl _ _,H.1,H.2,Wk.refl _,λ_=>rfl⟩
 case round=>
  obtain⟨k,y,rfl,hk,H⟩:=hrel;by_cases h10:k<10
  .have k0:(k:Int)<10:=bB
   have ku:=hJ (oX h10 197 bB);have c0:=H.2.1.i 0 ⟨by omega,rfl⟩;have c1:=H.2.1.i _ (oX h10 195 bB);have c2:=H.2.1.i _ (oX h10 196 bB);have c3:=H.2.1.i _ ku.v;have cf:=H.2.1.frozen;have PE:=hJ (H.2.2.1.pe k h10);have QE:Hid (x (121+k*198+195)=y (121+k*198+195)):=hJ (H.2.2.2.1 _ bB).symm;generalize y (121+k*198+195)=qu at*;generalize y (121+k*198+197)=us at*;generalize y 0=N at*;by_cases q0:0<qu
   .have p0:=PE.v q0;have HH:=hJ p0.2;have p1:¬y (121+k*198+196)=0:=bB
    generalize y (121+k*198+196)=pe at*;obtain⟨t,ht⟩:=hU ((N.tmod pe==0));cases t
    .go_wp2_with fail
     go_quiet (fail)
     go_wp2
     go_roundw
     case rel=>exact⟨k+1,y,by go_num,bB,H.1.drewN _,H.2.1.drewN _,H.2.2⟩
     case measure=>simp[intOf];omega
    .have ST:Hid (∀nq,Calls prog 195 #[ai (bj ⟨b,0,bu⟩),aa az k] ((wr.drewN nq).setCell ⟨b,121+k*198+197,bu⟩ (aa .i64 0)) λe w'=>e=bf (ao #[])/\To b ((wr.drewN nq).setCell ⟨b,121+k*198+197,bu⟩ (aa .i64 0)) (λx'=>Iv d 0 x'/\Wk (up y (121+k*198+197) 0) x'/\Ps k (up y (121+k*198+197) 0) x') w'):=hJ (λnq=>qe b d _ _ k ((H.2.1.drewN nq).set _ 0 _ ku.1 (by rw[ku.2];rfl)) ((H.2.2.1.jj (λj hj=>cC _ _ (by unfold Kc at hj;omega))).any k) bB (by rw[cC _ _];exact HH.v));go_wp2_with fail
     go_quiet (fail)
     go_wp2_with fail
     refine sC (ST.v _) ?_;rintro w1 ⟨y1,s1,f1,i1,k1,_⟩;have S1:Hid (bG b w w1/\SA w1 b y1/\Iv d 0 y1/\Wk x y1/\(NQ x->y1=x)):=hJ ⟨((H.1.drewN _).setCell _ _).trans f1,s1,i1,H.2.2.2.1.trans (λj hj=>(k1 j hj).trans (cC _ _)),λq=>aZ q0 (by have:=q k h10;rw[QE.v]at this;exact this)⟩;go_wp2
     go_roundw
     case rel=>exact⟨k+1,y1,by go_num,bB,S1⟩
     case measure=>simp[intOf];omega
   .have q1:decide ((0:Int)<qu)=bA:=by simp;omega
    go_wp2_with fail
    go_quiet (fail)
    go_wp2
    go_roundw
    case rel=>exact⟨k+1,y,by go_num,bB,H.1.drewN _,H.2.1.drewN _,H.2.2⟩
    case measure=>simp[intOf];omega
  .have k0:¬(k:Int)<10:=bB
   go_wp2_with fail
   go_end0
   exact⟨rfl,y,H.2.1,H.1,H.2.2⟩
theorem Uv(h:SA w b x)(i:Iv d 0 x):Calls prog 95 #[ai (bj ⟨b,0,bu⟩)] w λe w'=>∃r:Int,e=bf (aa az r)/\(r= -1/\(NQ x->¬0<x 121)\/∃n:Nat,r=n/\n<20/\x (1+(10+n)*4)=1)/\To b w (λx'=>Iv d 0 x'/\Wk x x') w':=by
 have RN:=hJ (Ma b d x w h i);go_in
 go_wp2_with fail
 refine sC RN.v ?_;rintro w1 ⟨x1,s1,f1,i1,k1,n1⟩;have c0:=s1.i 0 ⟨by omega,rfl⟩;have cf:=s1.frozen;have S1:=hJ (aK s1 (aK f1 (aK i1 (aK k1 n1))));generalize x1 0=N at c0;go_wp2_with fail
 generalize wrap64 (N+1)=NN at*;have s2:=S1.1.set 0 NN (aa az NN) bB rfl;have i2:Iv d 0 (up x1 0 NN):=S1.2.2.1.jj (λj hj=>cC _ _ (by unfold Kc at hj;omega));have F2:=hJ (aK (S1.2.1.setCell 0 (aa az NN)) (aK s2 i2));refine(O1 b d _ _ s2 i2).mono ?_;rintro e w2 ⟨r,rfl,hw2,hr⟩;have S2:Hid (SA w2 b (up x1 0 NN)/\bG b w w2):=hJ (by obtain⟨n,e⟩:=hw2;rw[e];exact⟨s2.drewN n,F2.1.drewN n⟩);have HR:=hJ hr;have KK:Hid (Wk x (up x1 0 NN)):=hJ (S1.2.2.2.1.trans (λj hj=>cC _ _));rcases hr with⟨rfl,h0⟩|⟨n,rfl,hn,hh⟩
 .have HH:=hJ h0;go_wp2
  go_ret
  exact⟨-1,rfl, .inl ⟨rfl,λq=>by have:=HH.v;rw[cC _ _,S1.2.2.2.2 q]at this;exact this⟩,_,S2.1,S2.2,F2.2.2,KK.v⟩
 .have z:((n:Int) != -1)=bw:=by rw[bne_iff_ne];omega
  have RU:=hJ (Sl b d _ w2 n S2.1 F2.2.2 hn hh);have HH:=hJ hh;go_wp2_with fail
  refine sC RU.v ?_;rintro w3 ⟨x3,s3,f3,i3,k3⟩;have FIN:Hid (To b w (λx'=>Iv d 0 x'/\Wk x x') w3):=hJ ⟨x3,s3,S2.2.trans f3,i3,KK.trans k3⟩;go_wp2
  go_ret
  exact⟨n,rfl, .inr ⟨n,rfl,hn,by rw[<-KK.v _ bB];exact HH.v⟩,FIN.v⟩
end
end Wf
namespace Wf
structure M where
 here:Nat->Bool
 top:Nat->Bool
 nq:Bool
 rd:Bool
def fb(f:Nat->Bool)(i:Nat)(v:Bool):Nat->Bool:=λj=>if j=i then v else f j
theorem vX(f:Nat->Bool)(i:Nat)(v:Bool):fb f i v i=v:=aJ rfl
theorem tq(f:Nat->Bool){i j:Nat}(v:Bool)(h:j≠i):fb f i v j=f j:=aI h
structure Rp (m:M)(x:Nat->Int):Prop where
 here:∀u,u<30->(x (1+u*4)=1↔m.here u=bw)
 top:∀u,u<30->m.here u=bw->m.top u=bw->x (1+u*4+1)=0
 nq:m.nq=bw->NQ x
 rd:m.rd=bw->0<x 121
def Fair(w:bD)(b:Nat)(m:M):Prop:=∃x d,SA w b x/\Iv d 0 x/\Rp m x
theorem Fair.lt{w:bD}{b:Nat}{m:M}(h:Fair w b m):b<w.heap.size:=by obtain⟨x,d,s,_⟩:=h;exact s.lt
theorem Fair.same{w w':bD}{b:Nat}{m:M}(h:Fair w b m)(e:w'.heap[b]? =w.heap[b]?):Fair w' b m:=by obtain⟨x,d,s,i⟩:=h;exact⟨x,d,s.same e,i⟩
theorem Rp.wk{m:M}{x x':Nat->Int}(h:Rp m x)(k:Wk x x')(r:Bool)(hr:r=bw->0<x' 121):Rp {m with rd:=r} x':=
 ⟨λu hu=>by rw[k _ bB];exact h.here u hu,λu hu a t=>by rw[k _ bB];exact h.top u hu a t,λq g hg=>by rw[k _ bB];exact h.nq q g hg,hr⟩
theorem Iv.put{d:Nat->Nat}{x x':Nat->Int}{u g:Nat}(h:Iv d 0 x)(hu:u<30)(u0:u≠0)(no:∀k,k<10->¬0<x (121+k*198+65+u))(na:∀v,v<30->v≠0->x (1+v*4)=1->x (1+v*4+1)≠u)(hg:g<10)(gu:g≠u)(gh:x (1+g*4)=1)(e:∀i,i<1+u*4\/1+u*4+4<=i->x' i=x i)(e0:x' (1+u*4)=1)(e1:x' (1+u*4+1)=g)(e2:0<x' (1+u*4+2))(pq:u<10->¬0<x (121+u*198+195)):Iv (λv=>if v=u then d g+1 else d v) 0 x':=by
 refine⟨λk hk=>(h.q k hk).same λi h1 h2=>e i bB,(e _ bB).trans h.rt,λv hv v0 hv1=>?_,λk j hk hj p=>?_,λk v hk hv hne p=>?_,λk hk p=>?_⟩
 .by_cases ev:v=u
  .subst ev;exact⟨g,hg,e1,(e _ bB).trans gh,by show(if g=v then _ else d g)<(if v=v then _ else _);rw[aI gu,aJ rfl];omega,e2⟩
  .rw[e _ bB]at hv1;obtain⟨k,k1,k2,k3,k4,k5⟩:=h.par v hv v0 hv1;have ku:k≠u:=λe=>na v hv v0 hv1 (by rw[k2,e]);exact⟨k,k1,(e _ bB).trans k2,(e _ bB).trans k3,by show(if k=u then _ else d k)<(if v=u then _ else d v);rw[aI ku,aI ev];exact k4,by rw[e _ bB];exact k5⟩
 .rw[e _ bB]at p;obtain⟨m1,m2,m3,m4⟩:=h.mem k j hk hj p;have ju:j≠u:=λq=>no k hk (by rw[<-q];exact p);exact⟨m1,m2,(e _ bB).trans m3,(e _ bB).trans m4⟩
 .rw[e _ bB]at p|-;exact h.ne k v hk hv hne p
 .rw[e _ bB]at p;have ku:k≠u:=λq=>pq bB (by rw[<-q];exact p);rw[e _ bB,e _ bB];exact h.pe k hk p
theorem Iv.drop{d:Nat->Nat}{x x':Nat->Int}{u:Nat}(h:Iv d 0 x)(hu:u<30)(u0:u≠0)(no:∀k,k<10->¬0<x (121+k*198+65+u))(na:∀v,v<30->v≠0->x (1+v*4)=1->x (1+v*4+1)≠u)(e:∀i,i<2101->i<1+u*4\/1+u*4+4<=i->i<121+u*198\/121+u*198+198<=i->x' i=x i)(e0:x' (1+u*4)≠1)(z:u<10->∀i,i<198->x' (121+u*198+i)=0):Iv d 0 x':=by
 have z0:u<10->∀i,121+u*198<=i->i<121+u*198+198->x' i=0:=λa i b c=>by
  have:=z a (i-(121+u*198)) bB;rwa [show 121+u*198+(i-(121+u*198))=i by omega]at this
 refine⟨λk hk=>?_,(e _ bB bB bB).trans h.rt,λv hv v0 hv1=>?_,λk j hk hj p=>?_,λk v hk hv hne p=>?_,λk hk p=>?_⟩
 .by_cases ku:k=u
  .subst ku;exact⟨0,λ_=>0,λ_=>0,⟨z0 hk _ bB bB,λi hi=>z0 hk _ bB bB,λi hi=>z0 hk _ bB bB⟩,bB,λi hi=>aZ hi bB,λj hj=>⟨by omega,λq=>aZ q bB⟩⟩
  .exact(h.q k hk).same λi h1 h2=>e i bB bB bB
 .have ev:v≠u:=λq=>e0 (by rw[<-q];exact hv1);rw[e _ bB bB bB]at hv1;obtain⟨k,k1,k2,k3,k4,k5⟩:=h.par v hv v0 hv1;have ku:k≠u:=λe=>na v hv v0 hv1 (by rw[k2,e]);exact⟨k,k1,(e _ bB bB bB).trans k2,(e _ bB bB bB).trans k3,k4,by rw[e _ bB bB bB];exact k5⟩
 .have ku:k≠u:=λq=>by subst q;rw[z0 hk _ bB bB]at p;omega
  rw[e _ bB bB bB]at p;obtain⟨m1,m2,m3,m4⟩:=h.mem k j hk hj p;have ju:j≠u:=λq=>no k hk (by rw[<-q];exact p);exact⟨m1,m2,(e _ bB bB bB).trans m3,(e _ bB bB bB).trans m4⟩
 .have ku:k≠u:=λq=>by subst q;rw[z0 hk _ bB bB]at p;omega
  rw[e _ bB bB bB]at p;have vu:v≠u:=λq=>no k hk (by rw[<-q];exact p);rw[e _ bB bB bB];exact h.ne k v hk hv hne p
 .have ku:k≠u:=λq=>by subst q;rw[z0 hk _ bB bB]at p;omega
  rw[e _ bB bB bB]at p;rw[e _ bB bB bB,e _ bB bB bB];exact h.pe k hk p
def mZ(m:M)(z:Int):Int:=if z<0\/10<=z then 1 else if m.here z.toNat then 0 else 2
def kC(m:M)(z:Int):Int:=if z<0\/20<=z then 1 else if m.here (10+z.toNat)then 0 else 2
theorem rA{m:M}{z:Int}(h:mZ m z=0):∃n:Nat,z=n/\n<10/\m.here n=bw:=by
 unfold mZ at h;split at h
 .omega
 .obtain⟨n,rfl⟩:=aG (show 0<=z by omega);refine⟨n,rfl,bB,?_⟩;rw[hZ]at h;split at h
  .assumption
  .omega
theorem rJ{m:M}{z:Int}(h:kC m z=0):∃n:Nat,z=n/\n<20/\m.here (10+n)=bw:=by
 unfold kC at h;split at h
 .omega
 .obtain⟨n,rfl⟩:=aG (show 0<=z by omega);refine⟨n,rfl,bB,?_⟩;rw[hZ]at h;split at h
  .assumption
  .omega
section
variable (b:Nat)(m:M)(w:bD)
theorem Fair.cell{w:bD}{b:Nat}{m:M}(h:Fair w b m)(u:Nat)(hu:u<30):w.cell? ⟨b,1+u*4,bu⟩=bj (ar (m.here u)):=by
 obtain⟨x,d,s,_,r⟩:=h;rw[s.bo _ (qG hu)];have:=r.here u hu;cases e:m.here u<;>simp_all
theorem mv(z:Int)(h:Fair w b m):Calls prog 189 #[ai (bj ⟨b,0,bu⟩),aa az z] w λe w'=>e=bf (bN (mZ m z))/\w'=w:=by
 by_cases k:z<0
 .have E:Hid (mZ m z=1):=hJ (aJ (.inl k));go_in
  go_wp2
  go_ret
  rw[E.v];exact⟨rfl,rfl⟩
 .have k0:decide (z<0)=bA:=by simp;omega
  by_cases k1:10<=z
  .have E:Hid (mZ m z=1):=hJ (aJ (.inr k1));go_in
   go_wp2
   go_ret
   rw[E.v];exact⟨rfl,rfl⟩
  .obtain⟨n,rfl⟩:=aG (show 0<=z by omega);have c:=h.cell n bB;have E:Hid (mZ m n=if m.here n then 0 else 2):=hJ (nJ);have hn:(n:Int)<30:=bB
   generalize m.here n=t at*;cases t<;>
   .go_in
    go_wp2
    go_ret
    rw[E.v];exact⟨rfl,rfl⟩
theorem mY(z:Int)(h:Fair w b m):Calls prog 135 #[ai (bj ⟨b,0,bu⟩),aa az z] w λe w'=>e=bf (bN (kC m z))/\w'=w:=by
 by_cases k:z<0
 .have E:Hid (kC m z=1):=hJ (aJ (.inl k));go_in
  go_wp2
  go_ret
  rw[E.v];exact⟨rfl,rfl⟩
 .have k0:decide (z<0)=bA:=by simp;omega
  by_cases k1:20<=z
  .have E:Hid (kC m z=1):=hJ (aJ (.inr k1));go_in
   go_wp2
   go_ret
   rw[E.v];exact⟨rfl,rfl⟩
  .obtain⟨n,rfl⟩:=aG (show 0<=z by omega);have c:=h.cell (10+n) bB;have E:Hid (kC m n=if m.here (10+n)then 0 else 2):=hJ (nJ);have hn:10+(n:Int)<30:=bB
   have hn0:(0:Int)<=10+(n:Int):=bB
   have hw:IntKind.i64.wrap (10+(n:Int))=10+(n:Int):=aN _ ⟨by omega,bB⟩;generalize m.here (10+n)=t at*;cases t<;>
   .go_in
    go_wp2
    go_ret
    rw[E.v];exact⟨rfl,rfl⟩
theorem wW(g x:Int):Calls prog 193 #[aa az g,aa bd x] w λe w'=>e=bf (au #[ar bw,aa az g,aa bd x,aa bd 0])/\Below w.heap.size w w':=by
 go_in
 go_wp2
 refine bodyPost_ret (v:=au #[ar bw,aa az g,aa bd x,aa bd 0]) (by simp[results,Tryz.results193,go_sem]) rfl ⟨rfl,(aQ _ _).alloc (aL _) _⟩
theorem SA.four{w:bD}{b:Nat}{x:Nat->Int}(h:SA w b x)(u:Nat)(hu:u<30)(t:Bool)(g wt tm:Int):SA ((((w.setCell ⟨b,1+u*4,bu⟩ (ar t)).setCell ⟨b,1+u*4+1,bu⟩ (aa az g)).setCell ⟨b,1+u*4+2,bu⟩ (aa bd wt)).setCell ⟨b,1+u*4+3,bu⟩ (aa bd tm)) b (up (up (up (up x (1+u*4) (bi t)) (1+u*4+1) g) (1+u*4+2) wt) (1+u*4+3) tm):=
 have a0:=qG hu;have a1:=oW hu;have a2:=iC hu 2 bB;have a3:=iC hu 3 bB
 (((h.set _ _ _ a0.1 (by rw[a0.2];exact Ib t)).set _ _ _ a1.1 (by rw[a1.2];rfl)).set _ _ _ a2.1 (by rw[a2.2];rfl)).set _ _ _ a3.1 (by rw[a3.2];rfl)
def qs(m:M)(u:Nat)(g:Int):M:=if m.here u=bA/\mZ m g=0 then{m with here:=fb m.here u bw,top:=fb m.top u (decide (g=0))}else m
theorem Rp.new{m:M}{x x':Nat->Int}(h:Rp m x){u:Nat}{g:Int}(hu:u<30)(u0:u≠0)(e:∀i,i<1+u*4\/1+u*4+4<=i->x' i=x i)(e0:x' (1+u*4)=1)(e1:x' (1+u*4+1)=g):Rp {m with here:=fb m.here u bw,top:=fb m.top u (decide (g=0))} x':=by
 refine⟨λv hv=>?_,λv hv a t=>?_,λq k hk=>by rw[e _ bB];exact h.nq q k hk,λq=>by rw[e _ bB];exact h.rd q⟩
 .by_cases ev:v=u
  .subst ev;show _↔fb m.here v bw v=bw;rw[vX];simp[e0]
  .show _↔fb m.here u bw v=bw;rw[tq _ _ ev,e _ bB];exact h.here v hv
 .by_cases ev:v=u
  .subst ev;rw[e1];have t':fb m.top v (decide (g=0)) v=bw:=t;rw[vX]at t';simpa using t'
  .have a':fb m.here u bw v=bw:=a;have t':fb m.top u (decide (g=0)) v=bw:=t;rw[tq _ _ ev]at a' t';rw[e _ bB];exact h.top v hv a' t'
theorem vU(u:Nat)(z g wt:Int)(hz:z=u)(h:Fair w b m)(hu:u<30)(hw:1<=wt/\wt<=1000):Calls prog 187 #[ai (bj ⟨b,0,bu⟩),aa az z,aa az g,aa az wt] w λe w'=>(∃E,e=bf (bN E))/\Fair w' b (qs m u g)/\bG b w w':=by
 subst hz;have d1:decide (wt<1)=bA:=by simp;omega
 have d2:¬(1000:Int)<wt:=bB
 have c1:=h.cell u hu;have hlt:(u:Int)<30:=bB
 have WG:=hJ (mv b m w g h);have H:=hJ h;have HW:=hJ hw;obtain⟨t,ht⟩:=hU (m.here u);rw[ht]at c1;have T:=hJ ht;cases t
 .have u0:u≠0:=by
   rintro rfl;obtain⟨x,d,_,i,r⟩:=H.v;have:=(r.here 0 bB).1 i.rt;rw[T.v]at this;cases this
  go_in
  go_wp2_with fail
  refine cG WG.v ?_;by_cases e:mZ m g=0
  .have E:=hJ e;obtain⟨k,rfl,hk,hh⟩:=rA e;have HK:=hJ hh;have HL:=hJ H.lt;rw[e,bF];go_wp2_with fail
   obtain⟨x,d,s,i,r⟩:=H.v;have SI:=hJ (aK s (aK i r));go_region_held3 (λ_=>True) (trivial) ((go_at_call 193;refine(wW _ _ _).mono ?_;rintro e w2 ⟨rfl,b2⟩;have s2:SA w2 b x:=SI.1.drew.same (b2.block b HL.v);have t0:=s2.bo _ (qG hu);have t1:=s2.i _ (oW hu);have t2:=s2.u _ (iC hu 2 bB);have t3:=s2.u _ (iC hu 3 bB);have cf:=s2.frozen;have B2:=hJ (aK s2 ((bG.refl b w).drew.trans (bG.cL b2)))))
   generalize hwt:IntKind.u64.wrap wt=ww at*;have FIN:Hid (Fair ((((w2.setCell ⟨b,1+u*4,bu⟩ (ar bw)).setCell ⟨b,1+u*4+1,bu⟩ (aa az (k:Int))).setCell ⟨b,1+u*4+2,bu⟩ (aa bd ww)).setCell ⟨b,1+u*4+3,bu⟩ (aa .u64 0)) b (qs m u k)/\bG b w ((((w2.setCell ⟨b,1+u*4,bu⟩ (ar bw)).setCell ⟨b,1+u*4+1,bu⟩ (aa az (k:Int))).setCell ⟨b,1+u*4+2,bu⟩ (aa bd ww)).setCell ⟨b,1+u*4+3,bu⟩ (aa .u64 0))):=hJ (by
    obtain⟨s,i,r⟩:=SI.v;obtain⟨s2,b2⟩:=B2.v;have uh:¬x (1+u*4)=1:=λq=>by have:=(r.here u hu).1 q;rw[T.v]at this;cases this
    have kh:=(r.here k bB).2 HK.v;have ku:k≠u:=λq=>uh (by rw[<-q];exact kh);have w0:0<ww:=by
     rw[<-hwt,IntWalk.u64_in _ ⟨by have:=HW.v;omega,by have:=HW.v;omega⟩];have:=HW.v;omega
    have e:∀i,i<1+u*4\/1+u*4+4<=i->up (up (up (up x (1+u*4) (bi bw)) (1+u*4+1) k) (1+u*4+2) ww) (1+u*4+3) 0 i=x i:=λi hi=>by rw[cC _ _,cC _ _,cC _ _,cC _ _]
    have e0:up (up (up (up x (1+u*4) (bi bw)) (1+u*4+1) k) (1+u*4+2) ww) (1+u*4+3) 0 (1+u*4)=1:=by rw[cC _ _,cC _ _,cC _ _,ik];rfl
    have e1:up (up (up (up x (1+u*4) (bi bw)) (1+u*4+1) k) (1+u*4+2) ww) (1+u*4+3) 0 (1+u*4+1)=k:=by rw[cC _ _,cC _ _,ik]
    unfold qs;rw[aJ ⟨T.v,E.v⟩];refine⟨⟨_,_,s2.four u hu bw k ww 0,i.put hu u0 (λq hq p=>uh (i.mem q u hq bB p).2.2.1) (λv hv v0 hv1 q=>?_) hk ku kh e e0 e1 (by rw[cC _ _,ik];exact w0) (λq p=>uh (i.pe u q p).2),r.new hu u0 e e0 e1⟩,(((b2.setCell _ _).setCell _ _).setCell _ _).setCell _ _⟩;obtain⟨j,_,j2,j3,_⟩:=i.par v hv v0 hv1;rw[q]at j2;exact uh (by rw[show u=j by omega];exact j3))
   go_wp2
   go_ret
   exact⟨⟨0,rfl⟩,FIN.v⟩
  .have E0:Hid (qs m u g=m):=hJ (aI λq=>e q.2);have EV:=hJ (bH e);rw[bH e];go_wp2
   go_ret
   rw[E0.v];exact⟨⟨mZ m g,by rw[EV.v];rfl⟩,H.v,bG.refl b w⟩
 .have E0:Hid (qs m u g=m):=hJ (aI λq=>by have:=q.1;rw[T.v]at this;cases this);go_in
  go_wp2
  go_ret
  rw[E0.v];exact⟨⟨3,rfl⟩,H.v,bG.refl b w⟩
def dH(m:M)(z g:Int):M:=if 0<=z/\z<20 then qs m (10+z.toNat) g else m
theorem Fm(z g wt:Int)(h:Fair w b m)(hw:1<=wt/\wt<=1000):Calls prog 143 #[ai (bj ⟨b,0,bu⟩),aa az z,aa az g,aa az wt] w λe w'=>(∃E,e=bf (bN E))/\Fair w' b (dH m z g)/\bG b w w':=by
 have H:=hJ h;by_cases k:0<=z/\z<20
 .obtain⟨n,rfl⟩:=aG k.1;have AD:=hJ (vU b m w (10+n) (10+(n:Int)) g wt bB h bB hw);have E:Hid (dH m n g=qs m (10+n) g):=hJ (aJ k);have k1:¬(20:Int)<=(n:Int):=bB
  have hwr:IntKind.i64.wrap (10+(n:Int))=10+(n:Int):=aN _ ⟨by omega,bB⟩;rw[E.v];go_in
  go_wp2_with fail
  refine AD.mono ?_;rintro e w1 ⟨⟨E1,rfl⟩,f1,r1⟩;have FIN:=hJ (aK f1 r1);go_wp2
  go_ret
  exact⟨⟨E1,rfl⟩,FIN.v⟩
 .have E:Hid (dH m z g=m):=hJ (aI k);rw[E.v];by_cases k0:z<0
  case' pos=>have k1:decide (z<0)=bw:=by simpa using k0
  case' neg=>
   have k1:decide (z<0)=bA:=by simpa using k0
   have k2:20<=z:=bB
  all_goals
   go_in
   go_wp2
   go_ret
   exact⟨⟨1,rfl⟩,H.v,bG.refl b w⟩
end
end Wf
namespace Wf
def ti(m:M)(z:Int):M:=if kC m z=0 then{m with here:=fb m.here (10+z.toNat) bA,rd:=false}else m
def wE(m:M)(z:Int)(on:Bool):M:={m with rd:=on&&(decide (kC m z=0)&&m.top (10+z.toNat))}
def jb(m:M)(z:Int)(on:Bool)(m':M):Prop:=m'=wE m z on
def JL(m:M)(z:Int)(m':M):Prop:=m'=ti m z
def SG(m m':M):Prop:=∀n,m'.here (10+n)=bw->m.here (10+n)=bw
theorem SG.refl(m:M):SG m m:=λ_ h=>h
def zU(m:M)(r:Int)(m':M):Prop:=m'={m with rd:=false}/\(r= -1/\¬(m.nq=bw/\m.rd=bw)\/∃n:Nat,r=n/\n<20/\m.here (10+n)=bw)
theorem Rp.gone{m:M}{x x':Nat->Int}(h:Rp m x){u:Nat}(e:∀i,i<2101->i<1+u*4\/1+u*4+4<=i->i<121+u*198\/121+u*198+198<=i->x' i=x i)(e0:x' (1+u*4)≠1)(hu:u<30)(z:u<10->∀i,i<198->x' (121+u*198+i)=0):Rp {m with here:=fb m.here u bA,rd:=false} x':=by
 refine⟨λv hv=>?_,λv hv a t=>?_,λq k hk=>?_,λq=>by cases q⟩
 .by_cases ev:v=u
  .subst ev;show _↔fb m.here v bA v=bw;rw[vX];simp[e0]
  .show _↔fb m.here u bA v=bw;rw[tq _ _ ev,e _ bB bB bB];exact h.here v hv
 .have a':fb m.here u bA v=bw:=a;by_cases ev:v=u
  .subst ev;rw[vX]at a';cases a'
  .rw[tq _ _ ev]at a';rw[e _ bB bB bB];exact h.top v hv a' t
 .by_cases ku:k=u
  .subst ku;rw[z hk 195 bB];omega
  .rw[e _ bB bB bB];exact h.nq q k hk
section
variable (b:Nat)(m:M)(w:bD)
theorem Di(z:Int)(h:Fair w b m):Calls prog 223 #[ai (bj ⟨b,0,bu⟩),aa az z] w λe w'=>(∃E,e=bf (bN E))/\Fair w' b (ti m z)/\bG b w w':=by
 have WT:=hJ (mY b m w z h);have H:=hJ h;by_cases e:kC m z=0
 .have E:Hid (ti m z={m with here:=fb m.here (10+z.toNat) bA,rd:=false}):=hJ (aJ e);rw[e,bF]at WT;obtain⟨n,rfl,hn,hh⟩:=rJ e;rw[E.v,hZ];obtain⟨x,d,s,i,r⟩:=h;have SI:=hJ (aK i r);have RO:=hJ (rE b d x w n bA s i hn ((r.here _ bB).2 hh));have hnI:(n:Int)<20:=bB
  have h30:(10:Int)+(n:Int)<30:=bB
  have h00:(0:Int)<=10+(n:Int):=bB
  have hwr:IntKind.i64.wrap (10+(n:Int))=10+(n:Int):=aN _ ⟨by omega,bB⟩;go_in
  go_wp2_with fail
  refine cG WT.v ?_;go_wp2_with fail
  refine RO.mono ?_;rintro e w1 ⟨rfl,x1,s1,f1,i1,k1,p1⟩;have hu:10+n<30:=bB
  have c0:=s1.bo _ (qG hu);have c1:=s1.i _ (oW hu);have c2:=s1.u _ (iC hu 2 bB);have c3:=s1.u _ (iC hu 3 bB);have c4:=s1.bo _ (sv hn);have c5:=s1.i _ (Cr hn);have cf:=s1.frozen;have S1:=hJ (aK s1 (aK f1 (aK i1 (aK k1 p1))));go_wp2_with fail
  go_region
  generalize hW2:World.drew _=W2;have F2:Hid (Fair W2 b {m with here:=fb m.here (10+n) bA,rd:=false}/\bG b w W2):=hJ (by
   obtain⟨s1,f1,i1,k1,p1⟩:=S1.v;have a4:=sv hn;have a5:=Cr hn;have s2:=(((s1.four (10+n) hu bA 0 0 0).set _ (bi bA) (ar bA) a4.1 (by rw[a4.2];exact Ib bA)).set _ 0 (aa .i64 0) a5.1 (by rw[a5.2];rfl)).drew;rw[<-hW2];have r1:=SI.2.wk k1 bA (λq=>by cases q);have ee:∀j,j<2101->j<1+(10+n)*4\/1+(10+n)*4+4<=j->j<121+(10+n)*198\/121+(10+n)*198+198<=j->up (up (up (up (up (up x1 (1+(10+n)*4) (bi bA)) (1+(10+n)*4+1) 0) (1+(10+n)*4+2) 0) (1+(10+n)*4+3) 0) (2101+n*2) (bi bA)) (2101+n*2+1) 0 j=x1 j:=λj a1 a2 a3=>by rw[cC _ _,cC _ _,cC _ _,cC _ _,cC _ _,cC _ _]
   have e0:up (up (up (up (up (up x1 (1+(10+n)*4) (bi bA)) (1+(10+n)*4+1) 0) (1+(10+n)*4+2) 0) (1+(10+n)*4+3) 0) (2101+n*2) (bi bA)) (2101+n*2+1) 0 (1+(10+n)*4)≠1:=by rw[cC _ _,cC _ _,cC _ _,cC _ _,cC _ _,ik];decide
   refine⟨⟨_,d,s2,i1.drop hu bB (λk hk q=>?_) (λv hv v0 hv1 q=>?_) ee e0 (λq=>aZ q bB),r1.gone ee e0 hu (λq=>aZ q bB)⟩,((((((f1.setCell _ _).setCell _ _).setCell _ _).setCell _ _).setCell _ _).setCell _ _).drew⟩
   .have:=(p1 k hk (by rw[<-k1 _ bB];exact(i1.mem k _ hk bB q).2.2.2)).1 q;cases this
   .obtain⟨j,j1,j2,_⟩:=i1.par v hv v0 hv1;omega)
  go_wp2
  go_ret
  exact⟨⟨0,rfl⟩,F2.v⟩
 .have E:Hid (ti m z=m):=hJ (aI e);have EV:=hJ (bH e);rw[bH e]at WT;rw[E.v];go_in
  go_wp2_with fail
  refine cG WT.v ?_;go_wp2
  go_ret
  exact⟨⟨kC m z,by rw[EV.v];rfl⟩,H.v,bG.refl b w⟩
theorem Fb(z:Int)(on:Bool)(h:Fair w b m):Calls prog 118 #[ai (bj ⟨b,0,bu⟩),aa az z,ar on] w λe w'=>(∃E,e=bf (bN E))/\Fair w' b (wE m z on)/\bG b w w':=by
 have WT:=hJ (mY b m w z h);obtain⟨x,d,s,i,r⟩:=h;have SI:=hJ (aK s (aK i r));by_cases e:kC m z=0
 .have e':=hJ e;rw[e,bF]at WT;obtain⟨n,rfl,hn,hh⟩:=rJ e;have HH:=hJ hh;have RO:=hJ (rE b d x w n on s i hn ((r.here _ bB).2 hh));go_in
  go_wp2_with fail
  refine cG WT.v ?_;go_wp2_with fail
  refine RO.mono ?_;rintro e w1 ⟨rfl,x1,s1,f1,i1,k1,p1⟩;have FIN:Hid (Fair w1 b (wE m n on)/\bG b w w1):=hJ ⟨⟨x1,d,s1,i1,SI.2.2.wk k1 _ (λq=>by
   simp only[Bool.and_eq_true]at q;have t:=SI.2.2.top (10+n) bB HH.v q.2.2;exact(i1.q 0 bB).pos (j:=10+n) bB ((p1 0 bB t).2 q.1))⟩,f1⟩
  go_wp2
  go_ret
  exact⟨⟨0,rfl⟩,FIN.v⟩
 .have EV:=hJ (aK (bH e) e);rw[bH e]at WT;go_in
  go_wp2_with fail
  refine cG WT.v ?_;go_wp2
  go_ret
  exact⟨⟨kC m z,by rw[EV.1];rfl⟩,⟨x,d,SI.1,SI.2.1,SI.2.2.wk (Wk.refl x) _ (λq=>by simp[EV.2]at q)⟩,bG.refl b w⟩
theorem Pt(h:Fair w b m):Calls prog 95 #[ai (bj ⟨b,0,bu⟩)] w λe w'=>∃r m',e=bf (aa az r)/\zU m r m'/\Fair w' b m'/\bG b w w':=by
 obtain⟨x,d,s,i,r⟩:=h;refine(Uv b d x w s i).mono ?_;rintro e w' ⟨z,rfl,hz,x',s',f',i',k'⟩;refine⟨z,_,rfl,⟨rfl,?_⟩,⟨x',d,s',i',r.wk k' bA (λq=>by cases q)⟩,f'⟩;rcases hz with⟨rfl,q⟩|⟨n,rfl,hn,hh⟩
 .exact .inl ⟨rfl,λa=>q (r.nq a.1) (r.rd a.2)⟩
 .exact .inr ⟨n,rfl,hn,(r.here _ bB).1 hh⟩
def m0:M:=⟨λu=>decide (u=0),λ_=>bA,bw,bA⟩
def zA:Array Value:=((List.range 2141).map λi=>V (K i) 0).toArray
theorem zP(i:Nat)(h:i<2141):zA[i]? =bj (V (K i) 0):=by simp[zA,h]
theorem zero_eq:Tryz.zeroCells173=zA:=by kernel_rfl
theorem sA:Calls prog 85 #[] w λe w'=>e=bf (ai (bj ⟨w.heap.size,0,bu⟩))/\Fair w' w.heap.size m0/\Below w.heap.size w w'/\w.heap.size<w'.heap.size:=by
 have Z:(w.alloc (bh Tryz.zeroCells173 173)).heap[w.heap.size]? =bj (bh zA 173 (0,0)):=by
  rw[zero_eq];exact heap_alloc_new w _
 have Z2:(w.alloc (bh ((((Tryz.zeroCells173.setIfInBounds 1 (ar bw)).setIfInBounds 2 (aa az (-1))).setIfInBounds 3 (aa IntKind.u64 0)).setIfInBounds 4 (aa IntKind.u64 0)) 173)).heap[w.heap.size]? =bj (bh ((((zA.setIfInBounds 1 (ar bw)).setIfInBounds 2 (aa az (-1))).setIfInBounds 3 (aa IntKind.u64 0)).setIfInBounds 4 (aa IntKind.u64 0)) 173 (0,0)):=by
  rw[zero_eq];exact heap_alloc_new w _
 have FIN:Hid (Fair (w.alloc (bh ((((Tryz.zeroCells173.setIfInBounds 1 (ar bw)).setIfInBounds 2 (aa az (-1))).setIfInBounds 3 (aa IntKind.u64 0)).setIfInBounds 4 (aa IntKind.u64 0)) 173)) w.heap.size m0):=hJ (by
  have h0:SA (w.alloc (bh Tryz.zeroCells173 173)) w.heap.size (λ_=>0):=⟨⟨_,Z,by simp[zA]⟩,λi hi=>by rw[bR Z,zP i hi]⟩;have h:=h0.four 0 bB bw (-1) 0 0;have e:∀i,i=0\/5<=i->up (up (up (up (λ_=>0) (1+0*4) (bi bw)) (1+0*4+1) (-1)) (1+0*4+2) 0) (1+0*4+3) 0 i=0:=λi hi=>by rw[cC _ _,cC _ _,cC _ _,cC _ _]
  have e1:up (up (up (up (λ_=>0) (1+0*4) (bi bw)) (1+0*4+1) (-1)) (1+0*4+2) 0) (1+0*4+3) 0 1=1:=rfl;refine Fair.same (w:=((((w.alloc (bh Tryz.zeroCells173 173)).setCell ⟨w.heap.size,1+0*4,bu⟩ (ar bw)).setCell ⟨w.heap.size,1+0*4+1,bu⟩ (aa az (-1))).setCell ⟨w.heap.size,1+0*4+2,bu⟩ (aa .u64 0)).setCell ⟨w.heap.size,1+0*4+3,bu⟩ (aa .u64 0)) ⟨_,λ_=>0,h,⟨λg hg=>?_,e1,λu hu u0 p=>?_,λg j hg hj p=>?_,λg u hg hu _ p=>?_,λg hg p=>?_⟩,⟨λu hu=>?_,λu hu a t=>(by cases t),λ_ g hg=>?_,λq=>(by cases q)⟩⟩ ?_
  .exact⟨0,λ_=>0,λ_=>0,⟨e _ bB,λi hi=>e _ bB,λi hi=>e _ bB⟩,bB,λi hi=>aZ hi bB,λj hj=>⟨by omega,λq=>aZ q bB⟩⟩
  .rw[e _ bB]at p;omega
  .rw[e _ bB]at p;omega
  .rw[e _ bB]at p;omega
  .rw[e _ bB]at p;omega
  .show _↔decide (u=0)=bw;by_cases u0:u=0
   .subst u0;simp[e1]
   .rw[e _ bB];simp[u0]
  .rw[e _ bB];omega
  .rw[Z2,cQ (cQ (cQ (cQ Z 1 _) 2 _) 3 _) 4 _])
 go_in
 go_wp2
 go_ret
 exact⟨rfl,FIN.v,(aQ _ _).alloc (aL _) _,by simp⟩
end
end Wf
def jx(n:Nat)(f:Nat->Int):Array Value:=((List.range n).map λi=>aa az (f i)).toArray
def kQ(f:Nat->Int)(i:Nat)(v:Int):Nat->Int:=λj=>if j=i then v else f j
theorem vE(f:Nat->Int)(i:Nat)(v:Int):kQ f i v i=v:=by simp[kQ]
theorem AV(f:Nat->Int)(i:Nat)(v:Int)(j:Nat)(h:j≠i):kQ f i v j=f j:=by simp[kQ,h]
theorem zW(n:Nat)(f:Nat->Int)(i:Nat)(h:i<n):(jx n f)[i]? =bj (aa az (f i)):=by simp[jx,h]
theorem No(n:Nat)(f:Nat->Int)(i:Nat)(v:Int)(h:i<n):(jx n f).setIfInBounds i (aa az v)=jx n (kQ f i v):=by
 apply bL;intro j;rcases Nat.lt_or_ge j n with hj|hj
 .rw[zW n _ j hj];by_cases e:j=i
  .subst e;rw[aE (by simp[jx,hj]),vE]
  .rw[aU bB,zW n f j hj,AV _ _ _ _ e]
 .rw[aR (by simp[jx];omega),aR (by simp[jx];omega)]
def lB(w:bD)(b n:Nat)(T:TypeId)(f:Nat->Int):Prop:=w.heap[b]? =bj (bh (jx n f) T (0,0))
section
variable {w:bD}{b n:Nat}{T:TypeId}
theorem lB.cell{f:Nat->Int}(h:lB w b n T f)(i:Nat)(hi:i<n):w.cell? ⟨b,i,bu⟩=bj (aa az (f i)):=by rw[bR h,zW n f i hi]
theorem lB.frozen{f:Nat->Int}(h:lB w b n T f)(i:Nat):w.frozen? ⟨b,i,bu⟩=bA:=cE h i
theorem lB.set{f:Nat->Int}(h:lB w b n T f)(i:Nat)(v:Int)(hi:i<n):lB (w.setCell ⟨b,i,bu⟩ (aa az v)) b n T (kQ f i v):=by
 unfold lB;rw[cQ h,No n f i v hi]
theorem lB.same{w':bD}{f:Nat->Int}(h:lB w b n T f)(e:w'.heap[b]? =w.heap[b]?):lB w' b n T f:=e.trans h
theorem lB.lt{f:Nat->Int}(h:lB w b n T f):b<w.heap.size:=(aX.1 h).1
end
namespace Sg
structure S1 where
 wt:Bool
 hd:Bool
 hw:Int
def gB:Nat->S1:=λ_=>⟨bA,bA,0⟩
def put(X:Nat->S1)(n:Nat)(x:S1):Nat->S1:=λm=>if m=n then x else X m
theorem bM(X:Nat->S1)(n:Nat)(x:S1):put X n x n=x:=aJ rfl
theorem bP(X:Nat->S1)(n:Nat)(x:S1)(m:Nat)(h:m≠n):put X n x m=X m:=aI h
theorem gM(X:Nat->S1)(n:Nat)(x y:S1):put (put X n x) n y=put X n y:=by
 funext m;unfold put;split<;>rfl
def pV(z h:Int):Bool:=decide (h=1)||(decide (z=3)&&decide (h=0))
def cN(z:Int):Int:=if z<1\/8<z then 1 else 0
def lf(z:Int):Int:=if cN z≠0 then 1 else if z=1 then 8 else 0
def jC(z h:Int):Int:=if cN z≠0 then 1 else if h<0\/2<h then 1 else if z=1 then 8 else 0
def mO(X:Nat->S1)(z:Int):Nat->S1:=if cN z=0 then put X z.toNat ⟨!pV z (X z.toNat).hw,(X z.toNat).hd,(X z.toNat).hw⟩else X
def oD(X:Nat->S1)(z:Int)(on:Bool):Nat->S1:=if lf z=0 then put X z.toNat ⟨(X z.toNat).wt,on,(X z.toNat).hw⟩else X
def mK(X:Nat->S1)(z h:Int):Nat->S1:=if jC z h=0 then put X z.toNat ⟨(X z.toNat).wt&& !pV z h,(X z.toNat).hd,h⟩else X
def ok(X:Nat->S1)(h:Int)(n:Nat):Bool:=(X n).wt&& !(X n).hd&&decide ((X n).hw=h)
def ft(X:Nat->S1)(h:Int)(n:Nat):Prop:=(n=0/\∀j,1<=j->j<=8->ok X h j=bA)\/(1<=n/\n<=8/\ok X h n=bw/\∀j,1<=j->j<n->ok X h j=bA)
theorem ft.unique{X:Nat->S1}{h:Int}{n m:Nat}(a:ft X h n)(b:ft X h m):n=m:=by
 rcases a with⟨a0,a1⟩|⟨a1,a2,a3,a4⟩
 .rcases b with⟨b0,_⟩|⟨b1,b2,b3,_⟩
  .omega
  .rw[a1 m b1 b2]at b3;cases b3
 .rcases b with⟨b0,b1⟩|⟨b1,b2,b3,b4⟩
  .rw[b1 n a1 a2]at a3;cases a3
  .rcases Nat.lt_trichotomy n m with c|c|c
   .rw[b4 n a1 c]at a3;cases a3
   .exact c
   .rw[a4 m b1 c]at b3;cases b3
theorem ft.le{X:Nat->S1}{h:Int}{n:Nat}(a:ft X h n):n<=8:=by
 rcases a with⟨a,_⟩|⟨_,a,_⟩<;>omega
def vm(X:Nat->S1)(n:Nat):Nat->S1:=if n=0 then X else put X n ⟨bA,(X n).hd,(X n).hw⟩
def qy(X:Nat->S1):Nat->S1:=λn=>⟨bA,(X n).hd,(X n).hw⟩
theorem yT{z:Int}(h:z<1\/8<z):cN z=1:=aJ h
theorem fD{z:Int}(h1:1<=z)(h2:z<=8):cN z=0:=nJ
theorem Qa{z:Int}(h:cN z=0):1<=z/\z<=8:=by
 unfold cN at h;split at h<;>omega
theorem V9{z:Int}(h:lf z=0):1<z/\z<=8:=by
 unfold lf at h;by_cases c:cN z=0
 .have:=Qa c;rw[aI (λd=>d c)]at h;by_cases d:z=1
  .rw[aJ d]at h;omega
  .omega
 .rw[aJ c]at h;omega
theorem TM{z k:Int}(h:jC z k=0):1<z/\z<=8/\0<=k/\k<=2:=by
 unfold jC at h;by_cases c:cN z=0
 .have:=Qa c;rw[aI (λd=>d c)]at h;by_cases e:k<0\/2<k
  .rw[aJ e]at h;omega
  .rw[aI e]at h;by_cases d:z=1
   .rw[aJ d]at h;omega
   .omega
 .rw[aJ c]at h;omega
def eE(x:S1):Nat->Value
 |0=>ar x.wt
 |1=>ar x.hd
 |_=>aa az x.hw
end Sg
open Sg (S1)
structure CX (w:bD)(b:Nat)(X:Nat->S1):Prop where
 da:∃C T,w.heap[b]? =bj (bh C T (0,0))/\C.size=24
 eE:∀i,i<8->∀j,j<3->w.cell? ⟨b,i*3+j,bu⟩=bj (Sg.eE (X (i+1)) j)
section
variable {w w':bD}{b:Nat}{X:Nat->S1}
theorem CX.lt(h:CX w b X):b<w.heap.size:=by
 obtain⟨C,T,e,_⟩:=h.da;exact(aX.1 e).1
theorem CX.frozen(h:CX w b X)(o:Nat):w.frozen? ⟨b,o,bu⟩=bA:=by
 obtain⟨C,T,e,_⟩:=h.da;exact cE e o
theorem CX.same(h:CX w b X)(e:w'.heap[b]? =w.heap[b]?):CX w' b X:=by
 have hc:∀o,w'.cell? ⟨b,o,bu⟩=w.cell? ⟨b,o,bu⟩:=λo=>aV e;exact⟨by rw[e];exact h.da,λi hi j hj=>(hc _).trans (h.eE i hi j hj)⟩
theorem CX.drew(h:CX w b X):CX w.drew b X:=h.same rfl
theorem CX.below{B:Nat}(h:CX w b X)(k:Below B w w')(hb:b<B):CX w' b X:=h.same (k.block b hb)
theorem CX.wt(h:CX w b X)(i:Nat)(hi:i<8):w.cell? ⟨b,i*3,bu⟩=bj (ar (X (i+1)).wt):=h.eE i hi 0 bB
theorem CX.hd(h:CX w b X)(i:Nat)(hi:i<8):w.cell? ⟨b,i*3+1,bu⟩=bj (ar (X (i+1)).hd):=h.eE i hi 1 bB
theorem CX.hw(h:CX w b X)(i:Nat)(hi:i<8):w.cell? ⟨b,i*3+2,bu⟩=bj (aa az (X (i+1)).hw):=h.eE i hi 2 bB
theorem CX.set(h:CX w b X)(i j:Nat)(hi:i<8)(hj:j<3)(x:S1)(hx:∀k,k<3->k≠j->Sg.eE x k=Sg.eE (X (i+1)) k):CX (w.setCell ⟨b,i*3+j,bu⟩ (Sg.eE x j)) b (Sg.put X (i+1) x):=by
 obtain⟨C,T,e,hC⟩:=h.da;refine⟨⟨_,T,cQ e _ _,by simpa using hC⟩,λm hm k hk=>?_⟩;by_cases c:m=i
 .subst c;rw[Sg.bM];by_cases d:k=j
  .subst d;exact dF e _ _ bB
  .rw[dm e _ _ _ bB,h.eE m hm k hk,hx k hk d]
 .rw[Sg.bP _ _ _ _ bB,dm e _ _ _ bB,h.eE m hm k hk]
theorem CX.setW(h:CX w b X)(i:Nat)(hi:i<8)(v:Bool):CX (w.setCell ⟨b,i*3,bu⟩ (ar v)) b (Sg.put X (i+1) ⟨v,(X (i+1)).hd,(X (i+1)).hw⟩):=
 h.set i 0 hi bB ⟨v,(X (i+1)).hd,(X (i+1)).hw⟩ (λk hk hn=>by match k,hk,hn with|1,_,_=>rfl|2,_,_=>rfl)
theorem CX.VP(h:CX w b X)(i:Nat)(hi:i<8)(v:Bool):CX (w.setCell ⟨b,i*3+1,bu⟩ (ar v)) b (Sg.put X (i+1) ⟨(X (i+1)).wt,v,(X (i+1)).hw⟩):=
 h.set i 1 hi bB ⟨(X (i+1)).wt,v,(X (i+1)).hw⟩ (λk hk hn=>by match k,hk,hn with|0,_,_=>rfl|2,_,_=>rfl)
theorem CX.VQ(h:CX w b X)(i:Nat)(hi:i<8)(v:Int):CX (w.setCell ⟨b,i*3+2,bu⟩ (aa az v)) b (Sg.put X (i+1) ⟨(X (i+1)).wt,(X (i+1)).hd,v⟩):=
 h.set i 2 hi bB ⟨(X (i+1)).wt,(X (i+1)).hd,v⟩ (λk hk hn=>by match k,hk,hn with|0,_,_=>rfl|1,_,_=>rfl|2,_,h=>exact aZ rfl h)
end
theorem zk(b:Nat)(z:Int)(w:bD)(h1:1<=z)(h2:z<=8):
  Calls prog 173 #[ai (bj ⟨b,0,bu⟩),aa az z] w λe w'=>e=bf (ao #[ai (bj ⟨b,(z.toNat-1)*3,bu⟩),ay])/\w'=w:=by
 have:z=1\/z=2\/z=3\/z=4\/z=5\/z=6\/z=7\/z=8:=bB
 rcases this with rfl|rfl|rfl|rfl|rfl|rfl|rfl|rfl
 all_goals
  go_in
  go_wp2
  go_ret2
  exact⟨rfl,rfl⟩
theorem Er(b:Nat)(z:Int)(w:bD)(h:z<1\/8<z):
  Calls prog 173 #[ai (bj ⟨b,0,bu⟩),aa az z] w λe w'=>e=bf (ao #[ai bu,aq 100 (aa .i64 1)])/\w'=w:=by
 by_cases c:z<1
 .clear h;go_in
  go_wp2
  go_ret2
  exact⟨rfl,rfl⟩
 .have c2:8<z:=bB
  go_in
  go_wp2
  go_ret2
  exact⟨rfl,rfl⟩
theorem GO(b o:Nat)(z k:Int)(w:bD)(c:w.cell? ⟨b,o+2,bu⟩=bj (aa .i64 k)):
  Calls prog 174 #[ai (bj ⟨b,o,bu⟩),aa az z] w λe w'=>e=bf (ar (Sg.pV z k))/\w'=w:=by
 by_cases k1:k=1
 .have E:Hid (Sg.pV z k=bw):=hJ (by unfold Sg.pV;simp[k1]);rw[E.v];have k1':(k==1)=bw:=by simp[k1]
  go_in
  go_wp2
  go_ret
  exact⟨rfl,rfl⟩
 .have k1':(k==1)=bA:=by simp[k1]
  by_cases z3:z=3
  .have E:Hid (Sg.pV z k=(k==0)):=hJ (by unfold Sg.pV;simp[k1,z3];rfl);rw[E.v];subst z3;go_in
   go_wp2
   go_ret
   exact⟨rfl,rfl⟩
  .have E:Hid (Sg.pV z k=bA):=hJ (by unfold Sg.pV;simp[k1,z3]);rw[E.v];have z3':(z==3)=bA:=by simp[z3]
   go_in
   go_wp2
   go_ret
   exact⟨rfl,rfl⟩
theorem Sg.Cn{z:Int}(h1:1<=z)(h2:z<=8):∃i:Nat,i<8/\z.toNat=i+1/\z.toNat-1=i:=⟨z.toNat-1,bB,bB,rfl⟩
theorem xM(b:Nat)(z:Int)(X:Nat->S1)(w:bD)(h:CX w b X):
  Calls prog 98 #[ai (bj ⟨b,0,bu⟩),aa az z] w λe w'=>e=bf (bN (Sg.cN z))/\CX w' b (Sg.mO X z)/\bG b w w':=by
 have HF:=hJ h;by_cases c:z<1\/8<z
 .have E:Hid (Sg.cN z=1/\Sg.mO X z=X):=hJ ⟨Sg.yT c,aI (by rw[Sg.yT c];decide)⟩;have C:=hJ c;go_in
  go_wp2_with fail
  refine sC (Er b z _ C.v) ?_;rintro w1 hw1;subst w1;go_wp2
  go_ret
  rw[E.1,E.2];exact⟨rfl,HF.v,bG.refl _ _⟩
 .have z1:1<=z:=bB
  have z8:z<=8:=bB
  obtain⟨i,hi,hz,hz'⟩:=Sg.Cn z1 z8;have c2:=h.hw i hi;have fz:=h.frozen (i*3);have is:=h.wt i hi;have E:Hid (Sg.cN z=0/\Sg.mO X z=Sg.put X (i+1) ⟨!Sg.pV z (X (i+1)).hw,(X (i+1)).hd,(X (i+1)).hw⟩):=hJ ⟨Sg.fD z1 z8,by unfold Sg.mO;rw[aJ (Sg.fD z1 z8),hz]⟩;have SG:Hid (∀W,Calls prog 173 #[ai (bj ⟨b,0,bu⟩),aa az z] W λe w'=>e=bf (ao #[ai (bj ⟨b,i*3,bu⟩),ay])/\w'=W):=hJ (λW=>by
   have:=zk b z W z1 z8;rw[hz']at this;exact this)
  obtain⟨K,hK⟩:=hU ((X (i+1)).hw);rw[hK]at c2;have HK:=hJ hK;go_in
  go_wp2_with fail
  refine sC (SG.v _) ?_;rintro w1 hw1;subst w1;go_wp2_with fail
  refine sC (GO b (i*3) z K _ c2) ?_;rintro w1 hw1;subst w1;go_wp2
  go_ret
  rw[E.1,E.2];refine⟨rfl,?_,(bG.refl _ _).setCell _ _⟩;have:=HF.setW i hi (!Sg.pV z (X (i+1)).hw);rw[HK.v]at this|-;exact this
theorem Jw(b:Nat)(z:Int)(on:Bool)(X:Nat->S1)(w:bD)(h:CX w b X):
  Calls prog 100 #[ai (bj ⟨b,0,bu⟩),aa az z,ar on] w λe w'=>e=bf (bN (Sg.lf z))/\CX w' b (Sg.oD X z on)/\bG b w w':=by
 have HF:=hJ h;by_cases c:z<1\/8<z
 .have e0:Sg.lf z=1:=by unfold Sg.lf;rw[Sg.yT c];rfl
  have E:Hid (Sg.lf z=1/\Sg.oD X z on=X):=hJ ⟨e0,aI (by rw[e0];decide)⟩;have C:=hJ c;clear c h e0;go_in
  go_wp2_with fail
  refine sC (Er b z _ C.v) ?_;rintro w1 hw1;subst w1;go_wp2
  go_ret
  rw[E.1,E.2];exact⟨rfl,HF.v,bG.refl _ _⟩
 .have z1:1<=z:=bB
  have z8:z<=8:=bB
  obtain⟨i,hi,hz,hz'⟩:=Sg.Cn z1 z8;have fz:=h.frozen (i*3+1);have is:=h.hd i hi;have SG:Hid (∀W,Calls prog 173 #[ai (bj ⟨b,0,bu⟩),aa az z] W λe w'=>e=bf (ao #[ai (bj ⟨b,i*3,bu⟩),ay])/\w'=W):=hJ (λW=>by
   have:=zk b z W z1 z8;rw[hz']at this;exact this)
  by_cases k1:z=1
  .have e0:Sg.lf z=8:=by unfold Sg.lf;rw[Sg.fD z1 z8,aI (λd=>d rfl),aJ k1]
   have E:Hid (Sg.lf z=8/\Sg.oD X z on=X):=hJ ⟨e0,aI (by rw[e0];decide)⟩;have k1':(z==1)=bw:=by simp[k1]
   clear c h z1 z8 hz hz' k1 e0;go_in
   go_wp2_with fail
   refine sC (SG.v _) ?_;rintro w1 hw1;subst w1;go_wp2
   go_ret
   rw[E.1,E.2];exact⟨rfl,HF.v,bG.refl _ _⟩
  .have e0:Sg.lf z=0:=by unfold Sg.lf;rw[Sg.fD z1 z8,aI (λd=>d rfl),aI k1]
   have E:Hid (Sg.lf z=0/\Sg.oD X z on=Sg.put X (i+1) ⟨(X (i+1)).wt,on,(X (i+1)).hw⟩):=hJ ⟨e0,by unfold Sg.oD;rw[aJ e0,hz]⟩;have k1':(z==1)=bA:=by simp[k1]
   clear c h z1 z8 hz hz' k1 e0;go_in
   go_wp2_with fail
   refine sC (SG.v _) ?_;rintro w1 hw1;subst w1;go_wp2
   go_ret
   rw[E.1,E.2];exact⟨rfl,HF.VP i hi on,(bG.refl _ _).setCell _ _⟩
theorem TQ(b:Nat)(z k:Int)(X:Nat->S1)(w:bD)(h:CX w b X)(E0:Sg.jC z k≠0):
  Calls prog 102 #[ai (bj ⟨b,0,bu⟩),aa az z,aa az k] w λe w'=>e=bf (bN (Sg.jC z k))/\CX w' b (Sg.mK X z k)/\bG b w w':=by
 have HF:=hJ h;have EF:Hid (Sg.mK X z k=X):=hJ (aI E0);have N0:=hJ E0;clear E0;by_cases c:z<1\/8<z
 .have e0:Hid (Sg.jC z k=1):=hJ (by unfold Sg.jC;rw[Sg.yT c];rfl);have C:=hJ c;clear c h;go_in
  go_wp2_with fail
  refine sC (Er b z _ C.v) ?_;rintro w1 hw1;subst w1;go_wp2
  go_ret
  rw[e0.v,EF.v];exact⟨rfl,HF.v,bG.refl _ _⟩
 .have z1:1<=z:=bB
  have z8:z<=8:=bB
  obtain⟨i,hi,hz,hz'⟩:=Sg.Cn z1 z8;have SG:Hid (∀W,Calls prog 173 #[ai (bj ⟨b,0,bu⟩),aa az z] W λe w'=>e=bf (ao #[ai (bj ⟨b,i*3,bu⟩),ay])/\w'=W):=hJ (λW=>by
   have:=zk b z W z1 z8;rw[hz']at this;exact this)
  by_cases d:k<0\/2<k
  .have e0:Hid (Sg.jC z k=1):=hJ (by unfold Sg.jC;rw[Sg.fD z1 z8,aI (λd=>d rfl),aJ d]);have d0:(k !=0)=bw:=by simp;omega
   have d1:(k !=1)=bw:=by simp;omega
   have d2:(k !=2)=bw:=by simp;omega
   have n0:¬k=0:=bB
   have n1:¬k=1:=bB
   have n2:¬k=2:=bB
   clear c h z1 z8 hz hz' d;go_in
   go_wp2_with fail
   refine sC (SG.v _) ?_;rintro w1 hw1;subst w1;go_wp2
   go_ret
   rw[e0.v,EF.v];exact⟨rfl,HF.v,bG.refl _ _⟩
  .by_cases k1:z=1
   .have e0:Hid (Sg.jC z k=8):=hJ (by unfold Sg.jC;rw[Sg.fD z1 z8,aI (λd=>d rfl),aI d,aJ k1]);have k1':(z==1)=bw:=by simp[k1]
    have kk:k=0\/k=1\/k=2:=bB
    clear c h z1 z8 hz hz' k1 d;rcases kk with rfl|rfl|rfl
    all_goals
     go_in
     go_wp2_with fail
     refine sC (SG.v _) ?_;rintro w1 hw1;subst w1;go_wp2
     go_ret
     rw[e0.v,EF.v];exact⟨rfl,HF.v,bG.refl _ _⟩
   .exact aZ (show Sg.jC z k=0 by unfold Sg.jC;rw[Sg.fD z1 z8,aI (λd=>d rfl),aI d,aI k1]) N0.v
theorem Rr(b:Nat)(z k:Int)(X:Nat->S1)(w:bD)(h:CX w b X)(E0:Sg.jC z k=0):
  Calls prog 102 #[ai (bj ⟨b,0,bu⟩),aa az z,aa az k] w λe w'=>e=bf (bN (Sg.jC z k))/\CX w' b (Sg.mK X z k)/\bG b w w':=by
 have HF:=hJ h;obtain⟨z1,z8,k0,k2⟩:=Sg.TM E0;obtain⟨i,hi,hz,hz'⟩:=Sg.Cn (show 1<=z by omega) z8;have E:Hid (Sg.jC z k=0/\Sg.mK X z k=Sg.put X (i+1) ⟨(X (i+1)).wt&& !Sg.pV z k,(X (i+1)).hd,k⟩):=hJ ⟨E0,by unfold Sg.mK;rw[aJ E0,hz]⟩;have SG:Hid (∀W,Calls prog 173 #[ai (bj ⟨b,0,bu⟩),aa az z] W λe w'=>e=bf (ao #[ai (bj ⟨b,i*3,bu⟩),ay])/\w'=W):=hJ (λW=>by
  have:=zk b z W bB z8;rw[hz']at this;exact this)
 have fz:=h.frozen (i*3+2);have is:=h.hw i hi;have k1':(z==1)=bA:=by simp;omega
 have kk:k=0\/k=1\/k=2:=bB
 obtain⟨Y,hY⟩:=hU (Sg.put X (i+1) ⟨(X (i+1)).wt,(X (i+1)).hd,k⟩);have S1:=hJ (h.VQ i hi k);rw[hY]at S1;have F1:Hid (bG b w (w.setCell ⟨b,i*3+2,bu⟩ (aa .i64 k))):=hJ ((bG.refl _ _).setCell _ _);have FIN:Hid (∀W,CX W b Y->Sg.pV z k=bw->CX (W.setCell ⟨b,i*3,bu⟩ (ar bA)) b (Sg.mK X z k)):=hJ (λW hW hg=>by
  have:=hW.setW i hi bA;rw[<-hY,Sg.bM,Sg.gM]at this;rw[E.2,hg,Bool.not_true,Bool.and_false];exact this)
 have FI2:Hid (∀W,CX W b Y->Sg.pV z k=bA->CX W b (Sg.mK X z k)):=hJ (λW hW hg=>by
  rw[E.2,hg,Bool.not_false,Bool.and_true,hY];exact hW)
 have IG:Hid (∀W,CX W b Y->W.cell? ⟨b,i*3+2,bu⟩=bj (aa .i64 k)):=hJ (λW hW=>by
  have:=hW.hw i hi;rw[<-hY,Sg.bM]at this;exact this)
 obtain⟨G,hG⟩:=hU (Sg.pV z k);have HG:=hJ hG;rcases kk with rfl|rfl|rfl
 all_goals
  go_in
  go_wp2_with fail
  refine sC (SG.v _) ?_;rintro w1 hw1;subst w1;go_upto_region 9 with fail
  refine cJ (λW'=>CX W' b Y/\bG b w W') ⟨S1.v,F1.v⟩ ?_;rintro W1 ⟨f1,g1⟩;have P1:=hJ f1;have G1:=hJ g1;have fy:=f1.frozen (i*3);have iy:=f1.wt i hi;go_wp2_with fail
  refine sC (GO b (i*3) z _ _ (IG.v _ P1.v)) ?_;rintro w1 hw1;subst w1;rw[HG.v];cases G
  .go_wp2
   go_ret
   rw[E.1];exact⟨rfl,FI2.v _ P1.v HG.v,G1.v⟩
  .go_wp2
   go_ret
   rw[E.1];exact⟨rfl,FIN.v _ P1.v HG.v,G1.setCell _ _⟩
theorem Rq(b:Nat)(z k:Int)(X:Nat->S1)(w:bD)(h:CX w b X):
  Calls prog 102 #[ai (bj ⟨b,0,bu⟩),aa az z,aa az k] w λe w'=>e=bf (bN (Sg.jC z k))/\CX w' b (Sg.mK X z k)/\bG b w w':=by
 by_cases c:Sg.jC z k=0
 .exact Rr b z k X w h c
 .exact TQ b z k X w h c
section
variable {P:Program}
theorem Ja(w:bD)(b o n:Nat)(ty e:TypeId)(cs:Array Value)(hc:∀j,j<cs.size->w.cell? ⟨b,o+j,bu⟩=cs[j]?)
  (hu:P.underlying ty=bj (.array n e)) (hi:(P.info? ty).map (·.size)=bj cs.size):(loadVar ty ⟨b,o,bu⟩).run P w= .ok (au cs) w:=by
 have hl:=run_loadCells_list (P:=P) w ⟨b,o,bu⟩ cs.toList (λj v hv=>by
  rw[aM]at hv;rw[sV,hc j (aX.1 hv).1,hv])
 rw[aB,Array.toArray_toList]at hl;obtain⟨i,hq,hs⟩:=Option.map_eq_some_iff.1 hi;have ha:(isAgg ty).run P w= .ok bw w:=by unfold isAgg;rw[Sem.run_bind,run_underlying hu w];simp
 simp[loadVar,Sem.run_bind,ha,sizeOf,typeInfo,hq,hs,hl]
theorem jw{ops:Array Oper}{rest:List Oper}{x:Oper}{a:Act}{w:bD}{Q:Exit->Act->bD->Prop}(hgd:x.guard=bu)(ty:TypeId)(y:Operand)(ho:x.op= .load ty y)
  (b o:Nat) (hx:a.eval y=ai (bj ⟨b,o,bu⟩)) (cs:Array Value) (n:Nat) (e:TypeId) (hc:∀j,j<cs.size->w.cell? ⟨b,o+j,bu⟩=cs[j]?)
  (hu:P.underlying ty=bj (.array n e)) (hi:(P.info? ty).map (·.size)=bj cs.size)
  (h:wpList P ops Q rest (a.put x.dst (au cs)) w):wpList P ops Q (x::rest) a w:=
 wpList_plain hgd λ_ hK=>by
  have:=Ja w b o n ty e cs hc hu hi;unfold Oper.wp execOp;simp only[ho,hx,Instr.loadAt,Instr.sureAddr,Sem.run_bind,Sem.run_pure,Result.andThen_ok,this];exact hK _ _ h
end
def gS(X:Nat->S1):Array Value:=((List.range 24).map λo=>Sg.eE (X (o/3+1)) (o%3)).toArray
theorem nA(X:Nat->S1):(gS X).size=24:=by simp[gS]
theorem zZ(X:Nat->S1)(o:Nat)(h:o<24):(gS X)[o]? =bj (Sg.eE (X (o/3+1)) (o%3)):=by simp[gS,h]
theorem QN(X:Nat->S1)(x:Nat)(h:x<8):(gS X).extract (x*3) (x*3+3)=#[ar (X (x+1)).wt,ar (X (x+1)).hd,aa az (X (x+1)).hw]:=by
 apply bL;intro i;rw[Array.getElem?_extract];by_cases hi:i<3
 .rw[aJ (by rw[nA];omega),zZ X _ bB,show(x*3+i)/3=x by omega,show(x*3+i)%3=i by omega]
  match i,hi with
  |0,_=>rfl
  |1,_=>rfl
  |2,_=>rfl
 .rw[aI (by rw[nA];omega),aR (by simp;omega)]
theorem CX.all{w:bD}{b:Nat}{X:Nat->S1}(h:CX w b X)(j:Nat)(hj:j<(gS X).size):w.cell? ⟨b,0+j,bu⟩=(gS X)[j]? :=by
 rw[nA]at hj;rw[zZ X j hj];have:=h.eE (j/3) bB (j%3) bB;rw[show j/3*3+j%3=0+j by omega]at this;exact this
theorem CX.LG{w:bD}{b:Nat}{X:Nat->S1}{T:TypeId}(h:w.heap[b]? =bj (bh (gS X) T (0,0))):CX w b X:=
 ⟨⟨_,T,h,nA X⟩,λi hi j hj=>by
  rw[bR h,zZ X _ bB,show(i*3+j)/3=i by omega,show(i*3+j)%3=j by omega]⟩
theorem CX.congr{w:bD}{b:Nat}{X Y:Nat->S1}(h:CX w b X)(e:∀n,1<=n->n<=8->X n=Y n):CX w b Y:=
 ⟨h.da,λi hi j hj=>by rw[<-e (i+1) bB bB];exact h.eE i hi j hj⟩
theorem KM(X:Nat->S1)(x:Nat)(h:x<8)(w:bD):Sem.run prog (Instr.index 233 (au (gS X)) (aa az x)) w= .ok (au #[ar (X (x+1)).wt,ar (X (x+1)).hd,aa az (X (x+1)).hw]) w:=by
 have hu:prog.underlying 233=bj (.array 8 232):=by kernel_rfl
 have hx:=QN X x h;have h1:(x:Int)<8:=bB
 simp[Instr.index,Sem.run_bind,run_underlying hu,go_sem,hx];intro c;omega
theorem JY(X:Nat->S1):prog.built 235 [(0,au (gS X))]=bj (gS X):=by kernel_rfl
theorem CW:prog.built 235 []=bj (gS Sg.gB):=by kernel_rfl
section
variable {ops:Array Oper}{rest:List Oper}{x:Oper}{a:Act}{w:bD}{Q:Exit->Act->bD->Prop}
theorem Gm(A:Array Value){y:Operand}(hgd:x.guard=bu)(ho:x.op= .build 235 #[(0,y)])(hy:a.eval y=au A)(hb:prog.built 235 [(0,au A)]=bj A)(h:wpList prog ops Q rest (a.put x.dst (au A)) w):wpList prog ops Q (x::rest) a w:=
 wpList_build hgd 235 #[(0,y)] ho (by simp[hy,hb]) (by simpa[hy,hb]using h)
theorem Fl(hgd:x.guard=bu)(ho:x.op= .build 235 #[])(h:wpList prog ops Q rest (a.put x.dst (au (gS Sg.gB))) w):wpList prog ops Q (x::rest) a w:=
 wpList_build hgd 235 #[] ho (by simp[CW]) (by simpa[CW]using h)
end
def Sg.nZ(n:Nat):Bool:=decide (0<n)
theorem ry(b:Nat)(k:Int)(X:Nat->S1)(w:bD)(h:CX w b X):
  Calls prog 176 #[ai (bj ⟨b,0,bu⟩),aa az k] w λe w'=>∃n:Nat,e=bf (ao #[aa az n,ar (Sg.nZ n)])/\Sg.ft X k n/\Below w.heap.size w w':=by
 have HS:=hJ h;have hsz:Hid ((prog.info? 233).map (·.size)=bj (gS X).size):=hJ (by rw[nA];kernel_rfl);go_in
 go_wp2_with (refine jw rfl 233 _ rfl b 0 rfl (gS X) 8 232 HS.all bC hsz.v ?_)
 go_loopw [12] (λi wr=>∃(x:Nat),i=aa az x/\x<=8/\Hid (Below w.heap.size w wr/\∀j,1<=j->j<x+1->Sg.ok X k j=bA)) (λi _=>8-(intOf i).toNat)
 case atStart=>exact⟨0,rfl,bB,aQ _ _,λj h1 h2=>bB⟩
 case round=>
  obtain⟨x,rfl,hx8,HN⟩:=hrel;by_cases hx:x<8
  .have hxI:(x:Int)<8:=bB
   have hix:=KM X x hx wr;have HKB:Hid (Sg.ok X k (x+1)=((X (x+1)).wt&& !(X (x+1)).hd&&decide ((X (x+1)).hw=k))):=hJ rfl;generalize (X (x+1)).wt=ww at*;generalize (X (x+1)).hd=hh at*;generalize (X (x+1)).hw=kk at*;have BL:Hid (∀o,Below w.heap.size w (wr.alloc o)):=hJ (λo=>HN.1.alloc HN.1.size o);have NX:Hid (Sg.ok X k (x+1)=bA->∀j,1<=j->j<x+1+1->Sg.ok X k j=bA):=hJ (λc j h1 hj=>by
    by_cases e:j=x+1
    .rw[e];exact c
    .exact HN.2 j h1 bB)
   cases ww
   .go_wp2
    go_roundw
    case rel=>exact⟨x+1,by go_num,bB,BL.v _,NX.v (by rw[HKB.v];rfl)⟩
    case measure=>simp[intOf];omega
   .cases hh
    .by_cases hi:kk=k
     .subst hi;go_wp2
      go_ret2
      exact⟨x+1,rfl, .inr ⟨by omega,bB,by rw[HKB.v];simp,HN.2⟩,BL.v _⟩
     .have hi':(kk==k)=bA:=by simp;exact hi
      go_wp2
      go_roundw
      case rel=>exact⟨x+1,by go_num,bB,BL.v _,NX.v (by rw[HKB.v,aT hi];simp)⟩
      case measure=>simp[intOf];omega
    .go_wp2
     go_roundw
     case rel=>exact⟨x+1,by go_num,bB,BL.v _,NX.v (by rw[HKB.v];rfl)⟩
     case measure=>simp[intOf];omega
  .have hxI:¬(x:Int)<8:=bB
   go_wp2
   go_ret2
   exact⟨0,rfl, .inl ⟨rfl,λj h1 h2=>HN.2 j h1 bB⟩,HN.1⟩
theorem Dj(b:Nat)(X:Nat->S1)(w:bD)(h:CX w b X):
  Calls prog 175 #[ai (bj ⟨b,0,bu⟩)] w λe w'=>∃n:Nat,e=bf (ao #[aa az n,ar (Sg.nZ n)])/\Sg.ft X 0 n/\Below w.heap.size w w':=by
 have HF:=hJ h;go_in
 go_wp2_with fail
 refine(ry b 0 X _ HF.v).mono ?_;rintro e w1 ⟨n,rfl,hn,hb⟩;have HN:=hJ hn;have HB:=hJ hb;go_wp2
 go_ret2
 exact⟨n,rfl,HN.v,HB.v⟩
theorem Pq(b:Nat)(X:Nat->S1)(w:bD)(h:CX w b X):
  Calls prog 103 #[ai (bj ⟨b,0,bu⟩)] w λe w'=>∃n:Nat,e=bf (ao #[aa az n,ar (Sg.nZ n)])/\Sg.ft X 2 n/\CX w' b (Sg.vm X n)/\bG b w w':=by
 have HF:=hJ h;go_in
 go_wp2_with fail
 refine(ry b 2 X _ HF.v).mono ?_;rintro e w1 ⟨n,rfl,hn,hb⟩;have HN:=hJ hn;have HB:=hJ (bG.cL (b:=b) hb);have H1:=hJ (HF.below hb HF.lt);have n8:=hn.le;have nn:n=0\/n=1\/n=2\/n=3\/n=4\/n=5\/n=6\/n=7\/n=8:=bB
 have FIN:Hid (∀i,i<8->n=i+1->CX (w1.setCell ⟨b,i*3,bu⟩ (ar bA)) b (Sg.vm X n)):=hJ (λi hi e=>by
  have:=H1.setW i hi bA;unfold Sg.vm;rw[nJ,e];exact this)
 have CL:Hid (∀i,i<8->n=i+1->w1.cell? ⟨b,i*3,bu⟩=bj (ar (X (i+1)).wt)/\w1.frozen? ⟨b,i*3,bu⟩=bA):=hJ (λi hi _=>⟨H1.wt i hi,H1.frozen _⟩);rcases nn with rfl|rfl|rfl|rfl|rfl|rfl|rfl|rfl|rfl
 .rw[show Sg.nZ 0=bA from rfl];go_wp2
  go_ret2
  exact⟨0,rfl,HN.v,H1.v,HB.v⟩
 .have c0:w1.cell? ⟨b,0,bu⟩=bj (ar (X 1).wt):=(CL.v 0 bB rfl).1;have fz:w1.frozen? ⟨b,0,bu⟩=bA:=(CL.v 0 bB rfl).2;rw[show Sg.nZ 1=bw from rfl];go_wp2
  go_ret2
  exact⟨1,rfl,HN.v,FIN.v 0 bB rfl,HB.setCell _ _⟩
 .have c0:w1.cell? ⟨b,3,bu⟩=bj (ar (X 2).wt):=(CL.v 1 bB rfl).1;have fz:w1.frozen? ⟨b,3,bu⟩=bA:=(CL.v 1 bB rfl).2;rw[show Sg.nZ 2=bw from rfl];go_wp2
  go_ret2
  exact⟨2,rfl,HN.v,FIN.v 1 bB rfl,HB.setCell _ _⟩
 .have c0:w1.cell? ⟨b,6,bu⟩=bj (ar (X 3).wt):=(CL.v 2 bB rfl).1;have fz:w1.frozen? ⟨b,6,bu⟩=bA:=(CL.v 2 bB rfl).2;rw[show Sg.nZ 3=bw from rfl];go_wp2
  go_ret2
  exact⟨3,rfl,HN.v,FIN.v 2 bB rfl,HB.setCell _ _⟩
 .have c0:w1.cell? ⟨b,9,bu⟩=bj (ar (X 4).wt):=(CL.v 3 bB rfl).1;have fz:w1.frozen? ⟨b,9,bu⟩=bA:=(CL.v 3 bB rfl).2;rw[show Sg.nZ 4=bw from rfl];go_wp2
  go_ret2
  exact⟨4,rfl,HN.v,FIN.v 3 bB rfl,HB.setCell _ _⟩
 .have c0:w1.cell? ⟨b,12,bu⟩=bj (ar (X 5).wt):=(CL.v 4 bB rfl).1;have fz:w1.frozen? ⟨b,12,bu⟩=bA:=(CL.v 4 bB rfl).2;rw[show Sg.nZ 5=bw from rfl];go_wp2
  go_ret2
  exact⟨5,rfl,HN.v,FIN.v 4 bB rfl,HB.setCell _ _⟩
 .have c0:w1.cell? ⟨b,15,bu⟩=bj (ar (X 6).wt):=(CL.v 5 bB rfl).1;have fz:w1.frozen? ⟨b,15,bu⟩=bA:=(CL.v 5 bB rfl).2;rw[show Sg.nZ 6=bw from rfl];go_wp2
  go_ret2
  exact⟨6,rfl,HN.v,FIN.v 5 bB rfl,HB.setCell _ _⟩
 .have c0:w1.cell? ⟨b,18,bu⟩=bj (ar (X 7).wt):=(CL.v 6 bB rfl).1;have fz:w1.frozen? ⟨b,18,bu⟩=bA:=(CL.v 6 bB rfl).2;rw[show Sg.nZ 7=bw from rfl];go_wp2
  go_ret2
  exact⟨7,rfl,HN.v,FIN.v 6 bB rfl,HB.setCell _ _⟩
 .have c0:w1.cell? ⟨b,21,bu⟩=bj (ar (X 8).wt):=(CL.v 7 bB rfl).1;have fz:w1.frozen? ⟨b,21,bu⟩=bA:=(CL.v 7 bB rfl).2;rw[show Sg.nZ 8=bw from rfl];go_wp2
  go_ret2
  exact⟨8,rfl,HN.v,FIN.v 7 bB rfl,HB.setCell _ _⟩
def Sg.jo(X:Nat->S1)(k:Nat):Nat->S1:=λn=>if n<=k/\0<n then⟨bA,(X n).hd,(X n).hw⟩else X n
theorem Sg.Nv(X:Nat->S1):Sg.jo X 0=X:=by
 funext n;unfold Sg.jo;rw[nJ]
theorem Sg.Nu(X:Nat->S1)(k:Nat):Sg.put (Sg.jo X k) (k+1) ⟨bA,(Sg.jo X k (k+1)).hd,(Sg.jo X k (k+1)).hw⟩=Sg.jo X (k+1):=by
 funext n;unfold Sg.put;by_cases e:n=k+1
 .rw[aJ e,e];unfold Sg.jo;rw[nJ,nK]
 .rw[aI e];unfold Sg.jo;by_cases c:n<=k/\0<n
  .rw[aJ c,nK]
  .rw[aI c,nJ]
theorem Sg.J6(X:Nat->S1)(n:Nat)(h1:1<=n)(h8:n<=8):Sg.jo X 8 n=Sg.qy X n:=by
 unfold Sg.jo Sg.qy;rw[aJ ⟨h8,bB⟩]
theorem J9(b:Nat)(X:Nat->S1)(w:bD)(h:CX w b X):
  Calls prog 145 #[ai (bj ⟨b,0,bu⟩)] w λe w'=>e=bf (ai (bj ⟨w.heap.size,0,bu⟩))/\CX w' w.heap.size (Sg.qy X)/\Below w.heap.size w w'/\w.heap.size<w'.heap.size:=by
 have HS:=hJ h;clear h;have hsz:Hid ((prog.info? 233).map (·.size)=bj (gS X).size):=hJ (by rw[nA];kernel_rfl);have BT:Hid (prog.built 235 [(0,au (gS X))]=bj (gS X)):=hJ (JY X);have ST:Hid (CX (w.alloc (bh (gS X) 235)) w.heap.size X/\Below w.heap.size w (w.alloc (bh (gS X) 235))):=hJ ⟨CX.LG (heap_alloc_new w _),(aQ _ _).alloc (aL _) _⟩;obtain⟨A,hA⟩:=hU (gS X);have AL:Hid (∀j,j<A.size->w.cell? ⟨b,0+j,bu⟩=A[j]?):=hJ (by rw[<-hA];exact HS.all);rw[hA]at hsz BT ST;clear hA;go_in
 go_upto_region 2 with(first|(refine jw rfl 233 _ rfl b 0 rfl A 8 232 AL.v bC hsz.v ?_)|(refine Gm A rfl rfl rfl BT.v ?_))
 refine cJ (λW'=>CX W' w.heap.size X/\Below w.heap.size w W') ST.v ?_;rintro W1 ⟨f1,b1⟩;have S0:Hid (CX W1 w.heap.size (Sg.jo X 0)/\Below w.heap.size w W1):=hJ ⟨by rw[Sg.Nv];exact f1,b1⟩;clear f1 b1;obtain⟨c,hc⟩:=hU (w.heap.size);have HC:=hJ hc;rw[hc]at S0|-;clear hc ST AL hsz BT;go_wp2
 go_loopw [11] (λi wr=>∃(x:Nat),i=aa az x/\x<=8/\Hid (CX wr c (Sg.jo X x)/\Below c w wr)) (λi _=>8-(intOf i).toNat)
 case atStart=>exact⟨0,rfl,bB,S0⟩
 case round=>
  clear S0;obtain⟨x,rfl,hx8,HN⟩:=hrel;by_cases hx:x<8
  .have hxI:(x:Int)<8:=bB
   have c0:=HN.1.wt x hx;have fz:=HN.1.frozen (x*3);have NX:Hid (CX (wr.setCell ⟨c,x*3,bu⟩ (ar bA)) c (Sg.jo X (x+1))/\Below c w (wr.setCell ⟨c,x*3,bu⟩ (ar bA))):=hJ ⟨by
    have:=HN.1.setW x hx bA;rw[Sg.Nu]at this;exact this,HN.2.setCell (aL _) _⟩
   go_wp2
   go_roundw
   case rel=>exact⟨x+1,by go_num,bB,NX⟩
   case measure=>simp[intOf];omega
  .have hxI:¬(x:Int)<8:=bB
   obtain rfl:x=8:=bB
   go_wp2
   go_ret
   rw[HC.v];exact⟨rfl,HN.1.congr (Sg.J6 X),HN.2,HN.1.lt⟩
theorem ng(b:Nat):∀(vs:List Value) (o:Nat) (w:bD) (k:Nat),k≠b->(w.setCells b o vs).heap[k]? =w.heap[k]?
 |[],_,_,_,_=>rfl
 |v::r,o,w,k,h=>by
  rw[World.setCells];exact(ng b r (o+1) _ k h).trans (dE _ _ _ _ h)
theorem eP(b:Nat){T:TypeId}:∀(vs:List Value) (o:Nat) (w:bD) (C:Array Value),w.heap[b]? =bj (bh C T (0,0))->∃C',(w.setCells b o vs).heap[b]? =bj (bh C' T (0,0))/\C'.size=C.size
 |[],_,_,C,h=>⟨C,h,rfl⟩
 |v::r,o,w,C,h=>by
  rw[World.setCells];obtain⟨C',h1,h2⟩:=eP b r (o+1) _ _ (cQ h o v);exact⟨C',h1,by rw[h2];simp⟩
theorem bG.setCells{b:Nat}:∀(vs:List Value) (o:Nat) {u w:bD},bG b u w->bG b u (w.setCells b o vs)
 |[],_,_,_,h=>h
 |v::r,o,u,w,h=>by rw[World.setCells];exact bG.setCells r (o+1) (h.setCell o v)
namespace Wf
def St(b:Nat)(m:M)(w:bD)(e:Ending)(w':bD):Prop:=∃E m',e=bf (bN E)/\SG m m'/\Fair w' b m'/\bG b w w'
theorem St.no{b:Nat}{m:M}{w:bD}(E:Int)(h:Fair w b m):St b m w (bf (bN E)) w:=⟨E,m,rfl,SG.refl m,h,bG.refl b w⟩
theorem Iv.quo{d:Nat->Nat}{x x':Nat->Int}{n:Nat}(h:Iv d 0 x)(hn:n<10)(hh:x (1+n*4)=1)(e:∀i,i<121+n*198+195\/121+n*198+198<=i->x' i=x i)(p:0<x' (121+n*198+195)->0<x' (121+n*198+196)):Iv d 0 x':=by
 refine⟨λk hk=>(h.q k hk).same λi h1 h2=>e i bB,(e _ bB).trans h.rt,λv hv v0 hv1=>?_,λk j hk hj p=>?_,λk v hk hv hne p=>?_,λk hk q=>?_⟩
 .rw[e _ bB]at hv1;obtain⟨k,k1,k2,k3,k4,k5⟩:=h.par v hv v0 hv1;exact⟨k,k1,(e _ bB).trans k2,(e _ bB).trans k3,k4,by rw[e _ bB];exact k5⟩
 .rw[e _ bB]at p;obtain⟨m1,m2,m3,m4⟩:=h.mem k j hk hj p;exact⟨m1,m2,(e _ bB).trans m3,(e _ bB).trans m4⟩
 .rw[e _ bB]at p|-;exact h.ne k v hk hv hne p
 .by_cases kn:k=n
  .subst kn;exact⟨p q,(e _ bB).trans hh⟩
  .rw[e _ bB]at q;rw[e _ bB,e _ bB];exact h.pe k hk q
def Hp(x:Nat->Int)(i:Nat):Value:=V (K (1+i)) (x (1+i))
def wZ(x:Nat->Int):Array Value:=((List.range 120).map (Hp x)).toArray
theorem tQ(x:Nat->Int):(wZ x).size=120:=by simp[wZ]
theorem My(x:Nat->Int)(i:Nat)(h:i<120):(wZ x)[i]? =bj (Hp x i):=by simp[wZ,h]
def Qw(x:Nat->Int)(u:Nat):Array Value:=#[ar (decide (x (1+u*4)=1)),aa az (x (1+u*4+1)),aa bd (x (1+u*4+2)),aa bd (x (1+u*4+3))]
theorem Ft(x:Nat->Int)(u:Nat)(h:u<30)(w:bD):Sem.run prog (Instr.index 163 (au (wZ x)) (aa az u)) w= .ok (au (Qw x u)) w:=by
 have hu:prog.underlying 163=bj (.array 30 162):=by kernel_rfl
 have hx:(wZ x).extract (u*4) (u*4+4)=Qw x u:=by
  apply bL;intro i;rw[Array.getElem?_extract];by_cases hi:i<4
  .rw[aJ (by rw[tQ];omega),My x _ bB];have a:∀f,1+(u*4+f)=1+u*4+f:=λf=>bB
   match i,hi with
   |0,_=>unfold Hp;rw[a,show K (1+u*4+0)=2 from(qG h).2];rfl
   |1,_=>unfold Hp;rw[a,(oW h).2];rfl
   |2,_=>unfold Hp;rw[a,(iC h 2 bB).2];rfl
   |3,_=>unfold Hp;rw[a,(iC h 3 bB).2];rfl
  .rw[aI (by rw[tQ];omega),aR (by simp[Qw];omega)]
 have h1:(u:Int)<30:=bB
 simp[Instr.index,Sem.run_bind,run_underlying hu,go_sem,hx];intro c;omega
section
variable (b:Nat)(m:M)(w:bD)
theorem Sc(z:Int)(h:Fair w b m):Calls prog 58 #[ai (bj ⟨b,0,bu⟩),aa az z] w λe w'=>(∃r,e=bf (ao #[aa az r,bN (kC m z)]))/\w'=w:=by
 have WT:=hJ (mY b m w z h);by_cases e:kC m z=0
 .have E:=hJ e;rw[e,bF]at WT;obtain⟨n,rfl,hn,hh⟩:=rJ e;obtain⟨x,d,s,_⟩:=h;have c:=s.i _ (Cr hn);have hnI:(n:Int)<20:=bB
  go_in
  go_wp2_with fail
  refine cG WT.v ?_;go_wp2
  go_ret2
  exact⟨⟨_,by rw[E.v];rfl⟩,rfl⟩
 .have E:=hJ (bH e);rw[bH e]at WT;go_in
  go_wp2_with fail
  refine cG WT.v ?_;go_wp2
  go_ret2
  exact⟨⟨0,by rw[E.v];rfl⟩,rfl⟩
theorem sP(z:Int)(h:Fair w b m):Calls prog 194 #[ai (bj ⟨b,0,bu⟩),aa az z] w λe w'=>∃E,e=bf (bN E)/\w'=w/\(E=0->∃n:Nat,z=n/\n≠0/\n<10/\m.here n=bw):=by
 have WG:=hJ (mv b m w z h);by_cases e:mZ m z=0
 .have Z:=hJ (rA e);rw[e,bF]at WG;by_cases z0:z=0
  .subst z0;go_in
   go_wp2_with fail
   refine cG WG.v ?_;go_wp2
   go_ret
   exact⟨8,rfl,rfl,λq=>aZ q bE⟩
  .have z1:(z==0)=bA:=by simpa using z0
   go_in
   go_wp2_with fail
   refine cG WG.v ?_;go_wp2
   go_ret
   refine⟨0,rfl,rfl,λ_=>?_⟩;obtain⟨n,rfl,a,c⟩:=Z.v;exact⟨n,rfl,bB,a,c⟩
 .have E:=hJ (aK (bH e) e);rw[bH e]at WG;go_in
  go_wp2_with fail
  refine cG WG.v ?_;go_wp2
  go_ret
  exact⟨mZ m z,by rw[E.1];rfl,rfl,λq=>aZ q E.2⟩
theorem zj{b:Nat}{m:M}{w w1 w2:bD}{x x1:Nat->Int}{d:Nat->Nat}(r:Rp m x)(nq:Bool)(k:∀i,0<i->i<121->x1 i=x i)(hq:nq=bw->m.nq=bw/\∀g,g<10->x1 (121+g*198+195)=x (121+g*198+195))(f:bG b w w1)(t:To b w1 (λx'=>Iv d 0 x'/\Wk x1 x'/\True) w2):∃m',SG m m'/\Fair w2 b m'/\bG b w w2:=by
 obtain⟨x2,s2,f2,i2,k2,_⟩:=t;refine⟨{m with nq:=nq,rd:=false},λ_ h=>h,⟨x2,d,s2,i2,λu hu=>?_,λu hu a c=>?_,λq g hg=>?_,λq=>by cases q⟩,f.trans f2⟩
 .rw[k2 _ bB,k _ bB bB];exact r.here u hu
 .rw[k2 _ bB,k _ bB bB];exact r.top u hu a c
 .rw[k2 _ bB,(hq q).2 g hg];exact r.nq (hq q).1 g hg
theorem IA(z:Int)(on:Bool)(h:Fair w b m):Calls prog 119 #[ai (bj ⟨b,0,bu⟩),aa az z,ar on] w (St b m w):=by
 have WL:=hJ (sP b m w z h);have H:=hJ h;go_in
 go_wp2_with fail
 refine WL.mono ?_;rintro e w1 ⟨E,rfl,rfl,hE⟩;by_cases e0:E=0
 .subst e0;obtain⟨n,rfl,n0,hn,hh⟩:=hE rfl;obtain⟨x,d,s,i,r⟩:=H.v;have kf:=Dv hn;have c1:=s.bo _ kf;have cf:=s.frozen;have hnI:(n:Int)<10:=bB
  have ST:=hJ (qe b d _ _ n (s.set _ (bi on) (ar on) kf.1 (by rw[kf.2];exact Ib on)) ((i.jj (x':=up x (121+n*198+194) (bi on)) (λj hj=>cC _ _ (by unfold Kc at hj;omega))).any n) bB (by rw[cC _ _];exact(r.here n bB).2 hh));have R:=hJ r;rw[bF];go_wp2_with fail
  refine ST.mono ?_;rintro e w2 ⟨rfl,x2,s2,f2,i2,k2,_⟩;have FIN:=hJ (zj (w:=w1) (m:=m) R.v m.nq (λj a c=>cC x (i:=121+n*198+194) (bi on) bB) (λq=>⟨q,λg hg=>cC _ _⟩) ((bG.refl b w1).setCell _ _) ⟨x2,s2,f2,i2,k2,trivial⟩);go_wp2
  go_ret
  obtain⟨m',a⟩:=FIN.v;exact⟨0,m',rfl,a⟩
 .have EV:=hJ (bH e0);rw[bH e0];go_wp2
  go_ret
  exact⟨E,m,by rw[EV.v];rfl,SG.refl m,H.v,bG.refl b w1⟩
theorem L4(z q p:Int)(h:Fair w b m):Calls prog 120 #[ai (bj ⟨b,0,bu⟩),aa az z,aa az q,aa az p] w (St b m w):=by
 have WL:=hJ (sP b m w z h);have H:=hJ h;go_in
 go_wp2_with fail
 refine WL.mono ?_;rintro e w1 ⟨E,rfl,rfl,hE⟩;by_cases e0:E=0
 .subst e0;rw[bF];obtain⟨n,rfl,n0,hn,hh⟩:=hE rfl;by_cases ok:0<=q/\q<=p/\1<=p/\p<=100
  .obtain⟨x,d,s,i,r⟩:=H.v;have k1:=oX hn 195 bB;have k2:=oX hn 196 bB;have k3:=oX hn 197 bB;have c1:=s.i _ k1;have c2:=s.i _ k2;have c3:=s.i _ k3;have cf:=s.frozen;have hnI:(n:Int)<10:=bB
   have d0:decide (q<0)=bA:=by simp;omega
   have d1:decide (p<q)=bA:=by simp;omega
   have d2:decide (p<1)=bA:=by simp;omega
   have d3:¬(100:Int)<p:=bB
   have hx:=(r.here n bB).2 hh;have EE:∀j,j<121+n*198+195\/121+n*198+198<=j->up (up (up x (121+n*198+195) q) (121+n*198+196) p) (121+n*198+197) 0 j=x j:=λj hj=>by rw[cC _ _,cC _ _,cC _ _]
   have ST:=hJ (qe b d _ _ n (((s.set _ q (aa az q) k1.1 (by rw[k1.2];rfl)).set _ p (aa az p) k2.1 (by rw[k2.2];rfl)).set _ 0 (aa .i64 0) k3.1 (by rw[k3.2];rfl)) ((i.quo hn hx EE (λ_=>by rw[cC _ _,ik];omega)).any n) bB ((EE _ bB).trans hx));have R:=hJ (aK r EE);go_wp2_with fail
   refine ST.mono ?_;rintro e w2 ⟨rfl,x2,s2,f2,i2,k2,_⟩;have FIN:=hJ (zj (w:=w1) (m:=m) R.1 bA (λj a c=>R.2 j bB) (λq=>by cases q) ((((bG.refl b w1).setCell _ _).setCell _ _).setCell _ _) ⟨x2,s2,f2,i2,k2,trivial⟩);go_wp2
   go_ret
   obtain⟨m',a⟩:=FIN.v;exact⟨0,m',rfl,a⟩
  .clear hE hh WL;by_cases h1:q<0
   .go_wp2
    go_ret
    exact St.no 1 H.v
   .have d1:decide (q<0)=bA:=by simp;omega
    by_cases h2:p<q
    .go_wp2
     go_ret
     exact St.no 1 H.v
    .have d2:decide (p<q)=bA:=by simp;omega
     by_cases h3:p<1
     .go_wp2
      go_ret
      exact St.no 1 H.v
     .have d3:decide (p<1)=bA:=by simp;omega
      have h4:100<p:=bB
      go_wp2
      go_ret
      exact St.no 1 H.v
 .have EV:=hJ (bH e0);rw[bH e0];go_wp2
  go_ret
  exact⟨E,m,by rw[EV.v];rfl,SG.refl m,H.v,bG.refl b w1⟩
end
end Wf
namespace Wf
theorem QJ(m:M){u:Nat}(g:Int)(hu:u<10):SG m (qs m u g):=λn h=>by
 unfold qs at h;split at h
 .have h':fb m.here u bw (10+n)=bw:=h;rwa [tq _ _ bB]at h'
 .exact h
theorem Sx(n:Nat):(10+(n:Int)).toNat=10+n:=bB
attribute [local go_sem] Sx
section
variable (b:Nat)(m:M)(w:bD)
theorem CE(z g wt:Int)(h:Fair w b m):Calls prog 112 #[ai (bj ⟨b,0,bu⟩),aa az z,aa az g,aa az wt] w (St b m w):=by
 have H:=hJ h;by_cases k:0<=z/\z<10
 .obtain⟨n,rfl⟩:=aG k.1;have k1:¬(10:Int)<=(n:Int):=bB
  have AD:Hid (Calls prog 187 #[ai (bj ⟨b,0,bu⟩),aa az n,aa az g,aa az wt] w (St b m w)):=hJ (by
   by_cases hw:1<=wt/\wt<=1000
   .refine(vU b m w n n g wt rfl h bB hw).mono ?_;rintro _ w1 ⟨⟨E,rfl⟩,f,r⟩;exact⟨E,_,rfl,QJ m g bB,f,r⟩
   .clear h;by_cases w0:wt<1
    case' pos=>have w1:decide (wt<1)=bw:=by simpa using w0
    case' neg=>
     have w1:decide (wt<1)=bA:=by simpa using w0
     have w2:(1000:Int)<wt:=bB
    all_goals
     go_in
     go_wp2
     go_ret
     exact St.no 1 H.v)
  go_in
  go_wp2_with fail
  refine AD.mono ?_;rintro e w1 ⟨E,m',rfl,f1⟩;have FIN:=hJ f1;go_wp2
  go_ret
  exact⟨E,m',rfl,FIN.v⟩
 .by_cases k0:z<0
  case' pos=>have k1:decide (z<0)=bw:=by simpa using k0
  case' neg=>
   have k1:decide (z<0)=bA:=by simpa using k0
   have k2:10<=z:=bB
  all_goals
   go_in
   go_wp2
   go_ret
   exact St.no 1 H.v
def VZ(g:Nat)(x:Nat->Int)(w:bD)(e:Ending)(w':bD):Prop:=∃r,e=bf (ar r)/\Below w.heap.size w w'/\(r=bA->∀v,v<30->x (1+v*4)=1->x (1+v*4+1)≠g)
theorem Ky(g:Nat)(x:Nat->Int)(h:SA w b x):Calls prog 190 #[ai (bj ⟨b,0,bu⟩),aa az g] w (VZ g x w):=by
 have LD:Hid (∀j,j<(wZ x).size->w.cell? ⟨b,1+j,bu⟩=(wZ x)[j]?):=hJ (λj hj=>by rw[tQ]at hj;rw[My x j hj,h.eE _ bB];rfl);have hsz:Hid ((prog.info? 163).map (·.size)=bj (wZ x).size):=hJ (by rw[tQ];kernel_rfl);go_in
 go_wp2_with (refine jw rfl 163 _ rfl b 1 rfl (wZ x) 30 162 LD.v bC hsz.v ?_)
 go_loopw [11] (λi wr=>∃(u:Nat),i=aa az u/\u<=30/\Hid (Below w.heap.size w wr/\∀v,v<u->x (1+v*4)=1->x (1+v*4+1)≠g)) (λi _=>30-(intOf i).toNat)
 case atStart=>exact⟨0,rfl,bB,aQ _ _,λj h1=>bB⟩
 case round=>
  obtain⟨u,rfl,hu30,HN⟩:=hrel;by_cases hu:u<30
  .have huI:(u:Int)<30:=bB
   have hix:=Ft x u hu wr;unfold Qw at hix;have BL:Hid (∀o,Below w.heap.size w (wr.alloc o)):=hJ (λo=>HN.1.alloc HN.1.size o);have NX:Hid ((x (1+u*4)=1->x (1+u*4+1)≠g)->∀v,v<u+1->x (1+v*4)=1->x (1+v*4+1)≠g):=hJ (λc v hv=>by
    by_cases e:v=u
    .rw[e];exact c
    .exact HN.2 v bB)
   obtain⟨t,ht⟩:=hU (decide (x (1+u*4)=1));have T:=hJ ht;rw[ht]at hix;generalize hi:x (1+u*4+1)=ii at*;generalize x (1+u*4+2)=wt at*;generalize x (1+u*4+3)=tm at*;cases t
   .go_wp2
    go_roundw
    case rel=>exact⟨u+1,by go_num,bB,BL.v _,NX.v (λq=>aZ T.v (by simp[q]))⟩
    case measure=>simp[intOf];omega
   .by_cases ig:ii=(g:Int)
    .rw[ig]at hix;go_wp2
     go_ret
     exact⟨bw,rfl,BL.v _,λq=>by cases q⟩
    .have ig':(ii==(g:Int))=bA:=by simpa using ig
     go_wp2
     go_roundw
     case rel=>exact⟨u+1,by go_num,bB,BL.v _,NX.v (λ_=>ig)⟩
     case measure=>simp[intOf];omega
  .have huI:¬(u:Int)<30:=bB
   go_wp2
   go_ret
   exact⟨bA,rfl,HN.1,λ_ v hv=>HN.2 v bB⟩
def zG:List Value:=(List.range 198).map λi=>V (K (121+i)) 0
theorem QB:Tryz.zeroCells169.toList=zG:=by kernel_rfl
theorem SA.TA{w:bD}{b:Nat}{x:Nat->Int}(h:SA w b x)(g:Nat)(hg:g<10):SA (w.setCells b (121+g*198) zG) b (λi=>if 121+g*198<=i/\i<121+g*198+198 then 0 else x i)/\(storeCells ⟨b,121+g*198,bu⟩ zG).run prog w= .ok () (w.setCells b (121+g*198) zG):=by
 obtain⟨C,f,z⟩:=h.da;obtain⟨C',e',z'⟩:=eP b zG (121+g*198) w C f;have len:zG.length=198:=by simp[zG]
 have is:∀j,j<198->(w.cell? ⟨b,121+g*198+j,bu⟩).isSome=bw:=λj hj=>by rw[h.eE _ bB];rfl
 refine⟨⟨⟨C',e',z'.trans z⟩,λi hi=>?_⟩,?_⟩
 .by_cases c:121+g*198<=i/\i<121+g*198+198
  .obtain⟨j,rfl⟩:∃j,i=121+g*198+j:=⟨i-(121+g*198),bB⟩;rw[aJ c,aS b zG (121+g*198) w (λi hi=>is i bB) j bB];have hj:j<198:=bB
   have e:K (121+g*198+j)=K (121+j):=by
    have e1:(121+g*198+j-121)%198=j:=bB
    have e2:(121+j-121)%198=j:=bB
    unfold K;rw[aI (show¬121+g*198+j<1 by omega),aI (show¬121+g*198+j<121 by omega),aJ (show 121+g*198+j<2101 by omega),e1,aI (show¬121+j<1 by omega),aI (show¬121+j<121 by omega),aJ (show 121+j<2101 by omega),e2]
   rw[e];simp[zG]
  .rw[aI c,aA b zG (121+g*198) w ⟨b,i,bu⟩ (λ_ _=>by show i<_\/_<=i;omega),h.eE i hi]
 .exact run_storeCells_cells (P:=prog) b (121+g*198) zG 0 w (λj hj=>by rw[len]at hj;exact is j hj) (λj _=>h.frozen _) (λv hv=>by
   obtain⟨i,_,rfl⟩:=List.mem_map.1 hv;unfold V;split
   .rfl
   .split<;>rfl)
theorem Cc(z:Int)(h:Fair w b m):Calls prog 114 #[ai (bj ⟨b,0,bu⟩),aa az z] w (St b m w):=by
 have WG:=hJ (mv b m w z h);have H:=hJ h;by_cases e:mZ m z=0
 .rw[e,bF]at WG;obtain⟨g,rfl,hg,hh⟩:=rA e;obtain⟨x,d,s,i,r⟩:=h;have HO:=hJ (Ky b w g x s);have SI:=hJ (aK s (aK i (aK r hh)));by_cases g0:g=0
  .subst g0;go_in
   go_wp2_with fail
   refine cG WG.v ?_;go_wp2
   go_ret
   exact St.no 5 H.v
  .have gz:((g:Int)==0)=bA:=by simp;omega
   have hgI:(g:Int)<10:=bB
   have hg30:(g:Int)<30:=bB
   go_in
   go_wp2_with fail
   refine cG WG.v ?_;go_wp2_with fail
   refine HO.mono ?_;rintro e w1 ⟨t,rfl,b1,hr⟩;have s1:=SI.1.same (b1.block b SI.1.lt);have S1:=hJ (aK (bG.cL (b:=b) b1) (aK s1 hr));cases t
   .have c0:=s1.bo _ (qG (u:=g) bB);have c1:=s1.i _ (oW (u:=g) bB);have c2:=s1.u _ (iC (u:=g) bB 2 bB);have c3:=s1.u _ (iC (u:=g) bB 3 bB);have cf:=s1.frozen;have h4:=s1.four g bB bA 0 0 0;have st:=(h4.drew.TA g hg).2;rw[<-QB]at st;have G4:=hJ (h4.drew.TA g hg).1;go_wp2_with fail
    go_region
    generalize hW2:World.setCells _ _ _ _=W2;have F2:Hid (∃m',SG m m'/\Fair W2 b m'/\bG b w W2):=hJ (by
     obtain⟨f1,_,na⟩:=S1.v;obtain⟨s,i,r,hh⟩:=SI.v;have na:=na (by trivial);have q:=G4.v;rw[<-QB]at q;rw[<-hW2];have hx:=(r.here g bB).2 hh;have e:∀j,j<2101->j<1+g*4\/1+g*4+4<=j->j<121+g*198\/121+g*198+198<=j->(if 121+g*198<=j/\j<121+g*198+198 then 0 else up (up (up (up x (1+g*4) (bi bA)) (1+g*4+1) 0) (1+g*4+2) 0) (1+g*4+3) 0 j)=x j:=λj a1 a2 a3=>by rw[nJ,cC _ _,cC _ _,cC _ _,cC _ _]
     have e0:(if 121+g*198<=1+g*4/\1+g*4<121+g*198+198 then 0 else up (up (up (up x (1+g*4) (bi bA)) (1+g*4+1) 0) (1+g*4+2) 0) (1+g*4+3) 0 (1+g*4))≠(1:Int):=by rw[nJ,cC _ _,cC _ _,cC _ _,ik];decide
     have z0:g<10->∀i,i<198->(if 121+g*198<=121+g*198+i/\121+g*198+i<121+g*198+198 then 0 else up (up (up (up x (1+g*4) (bi bA)) (1+g*4+1) 0) (1+g*4+2) 0) (1+g*4+3) 0 (121+g*198+i))=(0:Int):=λ_ i hi=>nK;refine⟨{m with here:=fb m.here g bA,rd:=false},λn a=>?_,⟨_,d,q,i.drop bB g0 (λk hk p=>?_) (λv hv _ hv1=>na v hv hv1) e e0 z0,r.gone e e0 bB z0⟩,((((f1.setCell _ _).setCell _ _).setCell _ _).setCell _ _).drew.setCells _ _⟩
     .have a':fb m.here g bA (10+n)=bw:=a;rwa [tq _ _ bB]at a'
     .have many:=i.ne k g hk hg g0 p;obtain⟨mm,hp,pp,q1,q2⟩:=i.q g hg;rw[q1.m]at many;have a0:=q2.at_ 0 bB;have l0:0<x (121+g*198+65+hp 0):=by rw[q1.p _ a0.1];omega
      obtain⟨v1,v2,v3,v4⟩:=i.mem g (hp 0) hg a0.1 l0;exact na _ v1 v3 v4)
    go_wp2
    go_ret
    obtain⟨m',a⟩:=F2.v;exact⟨0,m',rfl,a⟩
   .clear s1 b1 hr HO WG;go_wp2
    go_ret
    exact⟨5,m,rfl,SG.refl m,⟨x,d,S1.2.1,SI.2.1,SI.2.2.1⟩,S1.1⟩
 .have EV:=hJ (bH e);rw[bH e]at WG;go_in
  go_wp2_with fail
  refine cG WG.v ?_;go_wp2
  go_ret
  exact⟨mZ m z,m,by rw[EV.v];rfl,SG.refl m,H.v,bG.refl b w⟩
theorem D0(z zg:Int)(h:Fair w b m):Calls prog 117 #[ai (bj ⟨b,0,bu⟩),aa az z,aa az zg] w (St b m w):=by
 have WT:=hJ (mY b m w z h);have WG:=hJ (mv b m w zg h);have H:=hJ h;by_cases e:kC m z=0
 .rw[e,bF]at WT;by_cases eg:mZ m zg=0
  .rw[eg,bF]at WG;obtain⟨n,rfl,hn,hh⟩:=rJ e;obtain⟨G,rfl,hG,hGh⟩:=rA eg;obtain⟨x,d,s,i,r⟩:=h;have hnI:(n:Int)<20:=bB
   have h30:(10:Int)+(n:Int)<30:=bB
   have h00:(0:Int)<=10+(n:Int):=bB
   have hwr:IntKind.i64.wrap (10+(n:Int))=10+(n:Int):=aN _ ⟨by omega,bB⟩;have hu:10+n<30:=bB
   have ca:=s.bo _ (sv hn);have hx:=(r.here (10+n) hu).2 hh;have RO:=hJ (rE b d x w n bA s i hn hx);have SI:=hJ (aK i (aK r (aK hx ((r.here G bB).2 hGh))));obtain⟨aw,haw⟩:=hU (decide (x (2101+n*2)=1));rw[haw]at ca;go_in
   go_wp2_with fail
   refine cG WT.v ?_;go_wp2_with fail
   refine cG WG.v ?_;go_wp2_with fail
   refine sC RO.v ?_;rintro w1 ⟨x1,s1,f1,i1,k1,p1⟩;have cw:=s1.u _ (iC hu 2 bB);have S1:=hJ (aK s1 (aK f1 (aK i1 (aK k1 p1))));have HL:=hJ s1.lt;have WP:Hid (0<x1 (1+(10+n)*4+2)):=hJ (by
    obtain⟨_,_,_,_,_,q⟩:=i1.par (10+n) hu bB (by rw[k1 _ bB];exact SI.2.2.1);exact q)
   obtain⟨wt,hwt⟩:=hU (x1 (1+(10+n)*4+2));have HW:=hJ hwt;rw[hwt]at cw WP;go_wp2_with fail
   go_region_held3 (λw'=>w'.cell? ⟨b,1+(10+n)*4+2,bu⟩=bj (aa bd wt)) (first|go_keep|exact B3.v) ((go_at_call 193;refine sC (wW _ _ _) ?_;rintro w2 b2;have s2:SA w2 b x1:=S1.1.drew.same (b2.block b HL.v);have t0:=s2.bo _ (qG hu);have t1:=s2.i _ (oW hu);have t2:=s2.u _ (iC hu 2 bB);have t3:=s2.u _ (iC hu 3 bB);rw[HW.v]at t2;have cf:=s2.frozen;have B2:=hJ (aK s2 (S1.2.1.drew.trans (bG.cL b2)));have B3:Hid (((((w2.setCell ⟨b,1+(10+n)*4,bu⟩ (ar bw)).setCell ⟨b,1+(10+n)*4+1,bu⟩ (aa az (G:Int))).setCell ⟨b,1+(10+n)*4+2,bu⟩ (aa bd wt)).setCell ⟨b,1+(10+n)*4+3,bu⟩ (aa .u64 0)).cell? ⟨b,1+(10+n)*4+2,bu⟩=bj (aa bd wt)):=hJ (by rw[(s2.four (10+n) hu bw G wt 0).u _ (iC hu 2 bB),cC _ _,ik])))
   have A2:Hid (SA ((((w2.setCell ⟨b,1+(10+n)*4,bu⟩ (ar bw)).setCell ⟨b,1+(10+n)*4+1,bu⟩ (aa az (G:Int))).setCell ⟨b,1+(10+n)*4+2,bu⟩ (aa bd wt)).setCell ⟨b,1+(10+n)*4+3,bu⟩ (aa .u64 0)) b (up (up (up (up x1 (1+(10+n)*4) (bi bw)) (1+(10+n)*4+1) G) (1+(10+n)*4+2) wt) (1+(10+n)*4+3) 0)/\bG b w ((((w2.setCell ⟨b,1+(10+n)*4,bu⟩ (ar bw)).setCell ⟨b,1+(10+n)*4+1,bu⟩ (aa az (G:Int))).setCell ⟨b,1+(10+n)*4+2,bu⟩ (aa bd wt)).setCell ⟨b,1+(10+n)*4+3,bu⟩ (aa .u64 0))):=hJ ⟨B2.1.four (10+n) hu bw G wt 0,(((B2.2.setCell _ _).setCell _ _).setCell _ _).setCell _ _⟩;generalize (((w2.setCell ⟨b,1+(10+n)*4,bu⟩ (ar bw)).setCell ⟨b,1+(10+n)*4+1,bu⟩ (aa az (G:Int))).setCell ⟨b,1+(10+n)*4+2,bu⟩ (aa bd wt)).setCell ⟨b,1+(10+n)*4+3,bu⟩ (aa .u64 0)=W3 at*;have E3:Hid (∀j,j<1+(10+n)*4\/1+(10+n)*4+4<=j->up (up (up (up x1 (1+(10+n)*4) (bi bw)) (1+(10+n)*4+1) G) (1+(10+n)*4+2) wt) (1+(10+n)*4+3) 0 j=x1 j):=hJ (λj hj=>by rw[cC _ _,cC _ _,cC _ _,cC _ _]);have E0:Hid (up (up (up (up x1 (1+(10+n)*4) (bi bw)) (1+(10+n)*4+1) G) (1+(10+n)*4+2) wt) (1+(10+n)*4+3) 0 (1+(10+n)*4)=1):=hJ (by rw[cC _ _,cC _ _,cC _ _,ik];rfl);have R2:=hJ (rE b _ _ W3 n aw A2.1 (S1.2.2.1.put hu bB (g:=G) (λk hk q=>by
     have:=(S1.2.2.2.2 k hk (by rw[<-S1.2.2.2.1 _ bB];exact(S1.2.2.1.mem k _ hk bB q).2.2.2)).1 q;simp at this) (λv hv v0 hv1 q=>by
     obtain⟨j,j1,j2,_⟩:=S1.2.2.1.par v hv v0 hv1;omega) hG bB (by rw[S1.2.2.2.1 _ bB];exact SI.2.2.2) E3.v E0.v (by rw[cC _ _,cC _ _,ik]) (by rw[cC _ _,ik];exact WP.v) (λq=>aZ q bB)) hn E0.v)
   go_wp2_with fail
   refine sC R2.v ?_;rintro w4 ⟨x4,s4,f4,i4,k4,_⟩;have FIN:Hid (∃m',SG m m'/\Fair w4 b m'/\bG b w w4):=hJ (by
    have r1:=SI.2.1.wk S1.2.2.2.1 bA (λq=>by cases q);have r2:=(r1.new hu bB E3.v E0.v (g:=G) (by rw[cC _ _,cC _ _,ik])).wk k4 bA (λq=>by cases q);refine⟨_,λj a=>?_,⟨x4,_,s4,i4,r2⟩,A2.2.trans f4⟩;have a':fb m.here (10+n) bw (10+j)=bw:=a;by_cases e:j=n
    .subst e;exact(SI.2.1.here _ hu).1 SI.2.2.1
    .rwa [tq _ _ bB]at a')
   go_wp2
   go_ret
   obtain⟨m',a⟩:=FIN.v;exact⟨0,m',rfl,a⟩
  .have EV:=hJ (bH eg);rw[bH eg]at WG;go_in
   go_wp2_with fail
   refine cG WT.v ?_;go_wp2_with fail
   refine cG WG.v ?_;go_wp2
   go_ret
   exact⟨mZ m zg,m,by rw[EV.v];rfl,SG.refl m,H.v,bG.refl b w⟩
 .have EV:=hJ (bH e);rw[bH e]at WT;go_in
  go_wp2_with fail
  refine cG WT.v ?_;go_wp2
  go_ret
  exact⟨kC m z,m,by rw[EV.v];rfl,SG.refl m,H.v,bG.refl b w⟩
end
end Wf
structure LO (w:bD)(L:List Nat)(v:Value)(wr:bD):Prop where
 cU:Below w.heap.size w wr
 own:wr.ownsRow w.heap.size 3 1 v L.length (rowOf L)
theorem LO.nil(w:bD):LO w [] (aj bu 0 0) w:=⟨aQ _ _,World.ownsRow_nil _ _ _ _⟩
theorem LO.more{w w1 wr:bD}{L:List Nat}{gg cap N x:Nat}{l:Value}(h:LO w L l wr)(hN:L.length=N)(hl:w1.ownsRow w.heap.size 3 1 (aj (bj ⟨gg,0,bu⟩) (N+1) cap) (N+1) (rowOf L++[aa az x]))(o:Obj)(hg:(wr.alloc o).grownBy w1 l.ownBlock):
  LO w (L++[x]) (aj (bj ⟨gg,0,bu⟩) (N+1) cap) w1:=by
 have hs:=h.cU.size;refine⟨(h.cU.alloc hs o).grown hg (by simp;omega) (λk e=>(h.own.lt k e).1),?_⟩;have e2:rowOf (L++[x])=rowOf L++[aa az x]:=by simp[rowOf]
 rw[e2,show(L++[x]).length=N+1 by simp[hN]];exact hl
theorem LO.cells{u w:bD}{L:List Nat}{v:Value}(h:LO u L v w)(hl:0<L.length):∃gg cap,v=aj (bj ⟨gg,0,bu⟩) L.length cap/\gg<w.heap.size/\∀i,i<L.length->w.cell? ⟨gg,0+i,bu⟩=bj (aa az ((L.getD i 0:Nat):Int)):=by
 have ho:=h.own;obtain⟨gg,cap,hv,_,hg⟩:=ho.form hl;refine⟨gg,cap,hv,hg,λi hi=>?_⟩;rw[hv]at ho;rw[Nat.zero_add,ho.cellAt i bB];exact Eg _ _ _ (by rw[aF,aW hi];rfl)
end Go.Proofs.YtpmmdkcfenjiaaaGreatDoor
namespace Go.Proofs.YtpmmdkcfenjiaaaGreatDoor.Gr
open Value renaming int->aa,pointer->ai,slice->aj,string->ak,tuple->ao,iface->aq,bool->ar,agg->au,nilIface->ay
open IntKind renaming i64->az,u64->bd
open Ending renaming returned->bf
open Obj renaming cells->bh
open Option renaming some->bj,none->bu
open Bool renaming true->bw,false->bA
open Tryz (prog)
open Go.RowKit
theorem cO{W:bD}{b:Nat}{c:Array Value}{t:TypeId}(h:W.heap[b]? =bj (bh c t (0,0)))(o:Nat):W.cell? ⟨b,o,bu⟩=c[o]? :=by simp[World.cell?,h]
theorem iH{W:bD}{b:Nat}{c:Array Value}{t:TypeId}(h:W.heap[b]? =bj (bh c t (0,0)))(o:Nat):W.frozen? ⟨b,o,bu⟩=bA:=by simp[World.frozen?,h]
theorem heap_set{W:bD}{b:Nat}{c:Array Value}{t:TypeId}(h:W.heap[b]? =bj (bh c t (0,0)))(o:Nat)(v:Value):(W.setCell ⟨b,o,bu⟩ v).heap[b]? =bj (bh (c.setIfInBounds o v) t (0,0)):=by
 simp[World.setCell,Array.getElem?_modify,h]
open Go.RowKit Go.Shelf
structure Gp where
 there:Bool
 par:Int
 lp:Int
 lq:Int
 op:Int
 oq:Int
def Gp.cell(g:Gp):Nat->Value
 |0=>ar g.there
 |1=>aa az g.par
 |2=>aa az g.lp
 |3=>aa az g.lq
 |4=>aa az g.op
 |_=>aa az g.oq
def gH(t:Nat->Gp):Array Value:=((List.range 60).map λi=>(t (i/6)).cell (i%6)).toArray
theorem gK(t:Nat->Gp):(gH t).size=60:=by simp[gH]
theorem oB(t:Nat->Gp)(n j:Nat)(hn:n<10)(hj:j<6):(gH t)[n*6+j]? =bj ((t n).cell j):=by
 have e1:(n*6+j)/6=n:=bB
 have e2:(n*6+j)%6=j:=bB
 have e3:n*6+j<60:=bB
 simp[gH,e3,e1,e2]
theorem xp(t:Nat->Gp)(c:Array Value)(hs:c.size=60)(h:∀n j,n<10->j<6->c[n*6+j]? =bj ((t n).cell j)):c=gH t:=by
 apply bL;intro i;rcases Nat.lt_or_ge i 60 with hi|hi
 .have e:i=i/6*6+i%6:=bB
  rw[e,h (i/6) (i%6) bB bB,oB t (i/6) (i%6) bB bB]
 .rw[aR bB,aR (by rw[gK];omega)]
def bT(w:bD)(b:Nat)(t:Nat->Gp):Prop:=w.heap[b]? =bj (bh (gH t) 135 (0,0))
def eS(t:Nat->Gp)(n:Nat)(g:Gp):Nat->Gp:=λk=>if k=n then g else t k
theorem dk(t:Nat->Gp)(n:Nat)(g:Gp):eS t n g n=g:=by simp[eS]
theorem dw(t:Nat->Gp)(n k:Nat)(g:Gp)(h:k≠n):eS t n g k=t k:=by simp[eS,h]
section
variable {w:bD}{b:Nat}{t:Nat->Gp}
theorem bT.cell(h:bT w b t)(n j:Nat)(hn:n<10)(hj:j<6):w.cell? ⟨b,n*6+j,bu⟩=bj ((t n).cell j):=by rw[cO h,oB t n j hn hj]
theorem bT.frozen(h:bT w b t)(o:Nat):w.frozen? ⟨b,o,bu⟩=bA:=iH h o
theorem bT.drew(h:bT w b t):bT w.drew b t:=h
theorem bT.below{w':bD}(h:bT w b t){B:Nat}(hB:Below B w w')(hb:b<B):bT w' b t:=(hB.block b hb).trans h
theorem bT.lt(h:bT w b t):b<w.heap.size:=(aX.1 h).1
theorem bT.set(h:bT w b t)(n j:Nat)(hn:n<10)(hj:j<6)(v:Value)(g:Gp)(hg:∀i,i<6->g.cell i=if i=j then v else(t n).cell i):bT (w.setCell ⟨b,n*6+j,bu⟩ v) b (eS t n g):=by
 unfold bT;rw[heap_set h];refine congrArg (λc=>bj (bh c 135 (0,0))) ?_;refine xp _ _ (by simp[gK]) λm i hm hi=>?_;by_cases e:m=n
 .subst e;rw[dk,hg i hi];by_cases e2:i=j
  .subst e2;rw[aE (by rw[gK];omega),aJ rfl]
  .rw[aU bB,oB t m i hm hi,aI e2]
 .rw[dw _ _ _ _ e,aU bB,oB t m i hm hi]
end
def valid(t:Nat->Gp)(g:Int):Prop:=0<=g/\g<10/\(t g.toNat).there=bw
def Way(t:Nat->Gp):Int->List Nat->Prop
 |g,[]=>¬valid t g
 |g,x::L=>g=x/\x<10/\(t x).there=bw/\Way t (t x).par L
theorem Way.unique{t:Nat->Gp}:∀{g:Int} {L M:List Nat},Way t g L->Way t g M->L=M
 |_,[],[],_,_=>rfl
 |g,[],x::M,h,⟨e,h1,h2,_⟩=>aZ ⟨by omega,bB,by rw[e];exact h2⟩ h
 |g,x::L,[],⟨e,h1,h2,_⟩,h=>aZ ⟨by omega,bB,by rw[e];exact h2⟩ h
 |g,x::L,y::M,⟨e,_,_,h⟩,⟨e',_,_,h'⟩=>by
  obtain rfl:x=y:=bB
  rw[Way.unique h h']
theorem vM(b:Nat)(g:Int)(w:bD)(hg:g<0\/10<=g):Calls prog 96 #[ai (bj ⟨b,0,bu⟩),aa az g] w λe w'=>e=bf (aq 100 (aa .i64 1))/\w'=w:=by
 by_cases h:g<0
 .go_in
  go_wp2
  go_ret
  exact⟨rfl,rfl⟩
 .have h1:decide (g<0)=bA:=by simp;omega
  have h2:10<=g:=bB
  go_in
  go_wp2
  go_ret
  exact⟨rfl,rfl⟩
theorem tR(b g:Nat)(t:Nat->Gp)(w:bD)(h:bT w b t)(hg:g<10)(hh:(t g).there=bA):Calls prog 96 #[ai (bj ⟨b,0,bu⟩),aa az g] w λe w'=>e=bf (aq 100 (aa .i64 2))/\w'=w:=by
 have c:w.cell? ⟨b,g*6,bu⟩=bj (ar bA):=by have:=h.cell g 0 hg bB;rw[show(t g).cell 0=ar (t g).there from rfl,hh]at this;exact this
 have h1:(g:Int)<10:=bB
 have h2:¬(10:Int)<=(g:Int):=bB
 go_in
 go_wp2
 go_ret
 exact⟨rfl,rfl⟩
theorem iE(b g:Nat)(t:Nat->Gp)(w:bD)(h:bT w b t)(hg:g<10)(hh:(t g).there=bw):Calls prog 96 #[ai (bj ⟨b,0,bu⟩),aa az g] w λe w'=>e=bf ay/\w'=w:=by
 have c:w.cell? ⟨b,g*6,bu⟩=bj (ar bw):=by have:=h.cell g 0 hg bB;rw[show(t g).cell 0=ar (t g).there from rfl,hh]at this;exact this
 have h1:(g:Int)<10:=bB
 have h2:¬(10:Int)<=(g:Int):=bB
 go_in
 go_wp2
 go_ret
 exact⟨rfl,rfl⟩
def wr(t:Nat->Gp)(g:Int):Int:=if g<0\/10<=g then 1 else if(t g.toNat).there=bw then 0 else 2
theorem M7(b:Nat)(g:Int)(t:Nat->Gp)(w:bD)(h:bT w b t)(hg:¬valid t g):Calls prog 96 #[ai (bj ⟨b,0,bu⟩),aa az g] w λe w'=>(∃n,e=bf (aq 100 (aa az n)))/\w'=w:=by
 by_cases hb:g<0\/10<=g
 .exact(vM b g w hb).mono λe w' ⟨h1,h2⟩=>⟨⟨1,h1⟩,h2⟩
 .obtain⟨n,rfl⟩:=aG (show 0<=g by omega);have hf:(t n).there=bA:=by
   cases hh:(t n).there
   .rfl
   .exact aZ ⟨by omega,bB,hh⟩ hg
  exact(tR b n t w h bB hf).mono λe w' ⟨h1,h2⟩=>⟨⟨2,h1⟩,h2⟩
theorem AZ(b:Nat)(n:Int)(w:bD):Calls prog 216 #[ai (bj ⟨b,0,bu⟩),aa az n] w λe w'=>
  e=bf (.func (.func 267) #[] #[ai (bj ⟨w.heap.size+1,0,bu⟩),ai (bj ⟨w.heap.size,0,bu⟩)])/\w'=(w.alloc (bh #[ai (bj ⟨b,0,bu⟩)] 79)).alloc (bh #[aa az n] 3):=by
 go_in
 go_wp2
 go_ret
 exact⟨rfl,rfl⟩
end Go.Proofs.YtpmmdkcfenjiaaaGreatDoor.Gr

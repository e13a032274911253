import Derived.Test.YtpmmdkcfenjiaaaGreatDoorXzz
import Derived.Test.YtpmmdkcfenjiaaaGreatDoorProg
import Derived.WalkSpells
import Derived.WalkLawsBesides
import Derived.Deep.Slices
import Derived.Deep.AppendLies
import Derived.Deep.RegionHeld3
import Derived.Handy
import Derived.StillTailTactics
import Derived.Deep.CutBlock
import Derived.Deep.DeepCutAuto
import Derived.RangeFuncNested
import Derived.RangeFuncBound
import Derived.Shelf.RegionOpen
import Derived.OwnWalkIn
import Derived.LoopNIn
import Derived.LoopIn
set_option maxRecDepth 100000
set_option maxHeartbeats 2000000
set_option linter.unusedVariables false
set_option linter.unusedSimpArgs false
namespace Go.Proofs.YtpmmdkcfenjiaaaGreatDoor
open Value renaming int->aa,pointer->ai,slice->aj,string->ak,tuple->ao,iface->aq,bool->ar,agg->au,nilIface->az
open IntKind renaming i64->bf,u64->bj
open Ending renaming returned->bw
open Obj renaming cells->bA
open Option renaming some->bB,none->bC
open Bool renaming true->bE,false->bF
open Tryz (prog)
open Go.RowKit
theorem cR{P:Program}{c:Code}{Q:Exit->Act->bD->Prop}{a:Act}{W:bD}(F:bD->Prop)(h1:F W)(h2:∀W',F W'->Code.wp P c Q a W'):Code.wp P c Q a W:=h2 W h1
theorem cT{w:bD}{b:Nat}{C:Array Value}{T:TypeId}(h:w.heap[b]? =bB (bA C T (0,0)))(i:Nat)(v:Value):(w.setCell ⟨b,i,bC⟩ v).heap[b]? =bB (bA (C.setIfInBounds i v) T (0,0)):=by
 simp[World.setCell,Array.getElem?_modify,h]
theorem da{a b:Bool}(h:a=b):bw (ar a)=bw (ar b):=by rw[h]
structure bO (b:Nat)(w w':bD):Prop where
 os:w'.os=w.os
 tape:w'.tape=w.tape
 output:w'.output=w.output
 size:w.heap.size<=w'.heap.size
 block:∀k,k<w.heap.size->k≠b->w'.heap[k]? =w.heap[k]?
theorem bO.cO{b:Nat}{w w':bD}(h:Below w.heap.size w w'):bO b w w':=⟨h.os,h.tape,h.output,h.size,λk hk _=>h.block k hk⟩
theorem bO.refl(b:Nat)(w:bD):bO b w w:=⟨rfl,rfl,rfl,aL _,λ_ _ _=>rfl⟩
theorem bO.trans{b:Nat}{u v w:bD}(h:bO b u v)(k:bO b v w):bO b u w:=
 ⟨k.os.trans h.os,k.tape.trans h.tape,k.output.trans h.output,aH h.size k.size,λj hj hn=>(k.block j (aD hj h.size) hn).trans (h.block j hj hn)⟩
theorem dS{W:bD}(b c o:Nat)(v:Value)(h:b≠c):(W.setCell ⟨c,o,bC⟩ v).heap[b]? =W.heap[b]? :=Below.heap_setCell _ _ _ _ h
theorem bO.setCell{b:Nat}{u w:bD}(h:bO b u w)(o:Nat)(v:Value):bO b u (w.setCell ⟨b,o,bC⟩ v):=
 ⟨h.os,h.tape,h.output,by simpa[World.setCell]using h.size,λk hk hn=>(dS _ _ _ _ hn).trans (h.block k hk hn)⟩
theorem bO.drew{b:Nat}{u w:bD}(h:bO b u w):bO b u w.drew:=⟨h.os,h.tape,h.output,h.size,h.block⟩
theorem bO.drewN{b:Nat}{u w:bD}(h:bO b u w)(n:Nat):bO b u (w.drewN n):=⟨h.os,h.tape,h.output,h.size,h.block⟩
theorem bO.below{b B:Nat}{u w w':bD}(h:bO b w w')(hb:Below B u w)(hB:B<=b)(hs:B<=w.heap.size):Below B u w':=
 hb.trans ⟨h.os,h.tape,h.output,h.size,λk hk=>h.block k bG bG⟩
theorem cA{w:bD}{b:Nat}{C:Array Value}{T:TypeId}(h:w.heap[b]? =bB (bA C T (0,0)))(o:Nat):w.cell? ⟨b,o,bC⟩=C[o]? :=by simp[World.cell?,h]
theorem cL{w:bD}{b:Nat}{C:Array Value}{T:TypeId}(h:w.heap[b]? =bB (bA C T (0,0)))(o:Nat):w.frozen? ⟨b,o,bC⟩=bF:=by simp[World.frozen?,h]
theorem dw{w:bD}{b:Nat}{C:Array Value}{T:TypeId}(h:w.heap[b]? =bB (bA C T (0,0)))(i j:Nat)(v:Value)(e:i≠j):(w.setCell ⟨b,i,bC⟩ v).cell? ⟨b,j,bC⟩=w.cell? ⟨b,j,bC⟩:=by
 rw[cA (cT h i v),cA h,aU e]
theorem dH{w:bD}{b:Nat}{C:Array Value}{T:TypeId}(h:w.heap[b]? =bB (bA C T (0,0)))(i:Nat)(v:Value)(hi:i<C.size):(w.setCell ⟨b,i,bC⟩ v).cell? ⟨b,i,bC⟩=bB v:=by
 rw[cA (cT h i v),aE hi]
def bS(k:Int):Value:=if k=0 then az else aq 100 (aa .i64 k)
theorem bN:bS 0=az:=rfl
theorem bP{k:Int}(h:k≠0):bS k=aq 100 (aa .i64 k):=aI h
theorem Qf(n:Int)(w:bD):(Instr.typeAssert (aq 100 (aa bf n)) 34 100 bE).run prog w= .ok (ao #[aa bf n,ar bE]) w:=by kernel_rfl
theorem Bj(a:Option Addr)(n c:Nat)(m:Int)(w:bD):Calls prog 38 #[aj a n c,aa bf m] w λe w'=>e=bw (ar (decide ((n:Int)<=m)))/\w'=w:=by
 go_in
 go_wp2
 go_ret
 exact⟨rfl,rfl⟩
theorem sV(b o j:Nat):(⟨b,o,bC⟩:Addr).add j=⟨b,o+j,bC⟩:=by unfold Addr.add;split<;>simp_all
structure fp where
 kind:bU
 a:Int
 b:Int
 c:Int
 key:Nat
 on:Bool
 s:bU
 t:bU
def fp.cell(x:fp):Nat->Value
 |0=>ak x.kind
 |1=>aa bf x.a
 |2=>aa bf x.b
 |3=>aa bf x.c
 |4=>aa bj x.key
 |5=>ar x.on
 |6=>ak x.s
 |_=>ak x.t
theorem CS:prog.cellsOf 29=8:=by kernel_rfl
theorem CQ:prog.cellsOf 9=1:=by kernel_rfl
theorem CM:prog.cellsOf 3=1:=by kernel_rfl
theorem Qq:prog.cellsOf 27=1:=by kernel_rfl
theorem Sf:prog.cellsOf 4=1:=by kernel_rfl
theorem Po{α:Type}{l:List α}(h:l.length=8):∃a b c d e f g k,l=[a,b,c,d,e,f,g,k]:=by
 match l,h with
 |[a,b,c,d,e,f,g,k],_=>exact⟨a,b,c,d,e,f,g,k,rfl⟩
theorem R8{H:Type}{enc:TypeId×Value->H}{w:bD}{VK:Nat}{spare:Nat->Bool}{held:Bool}{fuel:Nat}{cs:List Value}{x:DataW H×List MemPlace}(h:DataW.trod enc prog w VK spare held fuel 29 cs=bB x):
  ∃y:fp,cs.length=8/\∀j,j<8->cs[j]? =bB (y.cell j):=by
 obtain⟨xs,n,_,_,hl,hlen,hf⟩:=DataW.trod_struct Tryz.underlying29 h;rw[CS]at hl;obtain⟨c0,c1,c2,c3,c4,c5,c6,c7,rfl⟩:=Po hl;obtain⟨x0,x1,x2,x3,x4,x5,x6,x7,rfl⟩:=Po (show xs.length=8 from hlen);have f0:DataW.trod enc prog w VK spare held n 9 (([c0,c1,c2,c3,c4,c5,c6,c7].drop 0).take (prog.cellsOf 9))=bB x0:=hf 0 _ rfl;have f1:DataW.trod enc prog w VK spare held n 3 (([c0,c1,c2,c3,c4,c5,c6,c7].drop 1).take (prog.cellsOf 3))=bB x1:=hf 1 _ rfl;have f2:DataW.trod enc prog w VK spare held n 3 (([c0,c1,c2,c3,c4,c5,c6,c7].drop 2).take (prog.cellsOf 3))=bB x2:=hf 2 _ rfl;have f3:DataW.trod enc prog w VK spare held n 3 (([c0,c1,c2,c3,c4,c5,c6,c7].drop 3).take (prog.cellsOf 3))=bB x3:=hf 3 _ rfl;have f4:DataW.trod enc prog w VK spare held n 27 (([c0,c1,c2,c3,c4,c5,c6,c7].drop 4).take (prog.cellsOf 27))=bB x4:=hf 4 _ rfl;have f5:DataW.trod enc prog w VK spare held n 4 (([c0,c1,c2,c3,c4,c5,c6,c7].drop 5).take (prog.cellsOf 4))=bB x5:=hf 5 _ rfl;have f6:DataW.trod enc prog w VK spare held n 9 (([c0,c1,c2,c3,c4,c5,c6,c7].drop 6).take (prog.cellsOf 9))=bB x6:=hf 6 _ rfl;have f7:DataW.trod enc prog w VK spare held n 9 (([c0,c1,c2,c3,c4,c5,c6,c7].drop 7).take (prog.cellsOf 9))=bB x7:=hf 7 _ rfl;rw[CQ]at f0;rw[CM]at f1;rw[CM]at f2;rw[CM]at f3;rw[Qq]at f4;rw[Sf]at f5;rw[CQ]at f6;rw[CQ]at f7;obtain⟨k0,e0,_⟩:=DataW.trod_string Tryz.underlying9 f0;obtain⟨k1,e1,_⟩:=DataW.trod_int Tryz.underlying3 f1
 obtain⟨k2,e2,_⟩:=DataW.trod_int Tryz.underlying3 f2;obtain⟨k3,e3,_⟩:=DataW.trod_int Tryz.underlying3 f3;obtain⟨k4,e4,_,w4⟩:=DataW.trod_int Tryz.underlying27 f4;obtain⟨k5,e5,_⟩:=DataW.trod_bool Tryz.underlying4 f5;obtain⟨k6,e6,_⟩:=DataW.trod_string Tryz.underlying9 f6;obtain⟨k7,e7,_⟩:=DataW.trod_string Tryz.underlying9 f7;have p4:0<=k4:=(bounds_u64 w4).1;refine⟨⟨k0,k1,k2,k3,k4.toNat,k5,k6,k7⟩,rfl,λj hj=>?_⟩;simp only[List.drop,List.take,List.cons.injEq,and_true]at e0 e1 e2 e3 e4 e5 e6 e7;subst e0 e1 e2 e3 e4 e5 e6 e7;have e4:((k4.toNat:Nat):Int)=k4:=Int.toNat_of_nonneg p4
 match j,hj with
 |0,_=>rfl
 |1,_=>rfl
 |2,_=>rfl
 |3,_=>rfl
 |4,_=>simp[fp.cell,e4]
 |5,_=>rfl
 |6,_=>rfl
 |7,_=>rfl
def vK(w:bD)(a:Option Addr)(len:Nat):Prop:=len<=maxLen/\(0<len->∃b o,∃ax:Nat->fp,a=bB ⟨b,o,bC⟩/\∀i,i<len->∀j,j<8->w.cell? ⟨b,o+i*8+j,bC⟩=bB ((ax i).cell j))
theorem Qa{H:Type}{enc:TypeId×Value->H}{w:bD}{VK:Nat}{spare:Nat->Bool}{held:Bool}{fuel:Nat}{a:Option Addr}{len cap:Nat}{x:DataW H×List MemPlace}(h:DataW.trod enc prog w VK spare held fuel 22 [aj a len cap]=bB x):
  vK w a len:=by
 rcases Go.Deep.open_slice Tryz.underlying22 h with⟨hcs,_⟩|⟨ad,l,c,m,n,D,Pl,hcs,_,hl,hm,hmm,_,hel⟩
 .simp at hcs;obtain⟨rfl,rfl,rfl⟩:=hcs;exact⟨aC _,λh0=>aZ h0 bG⟩
 .simp at hcs;obtain⟨rfl,rfl,rfl⟩:=hcs;refine⟨by omega,λh0=>?_⟩;have hlm:len<=m:=by rw[hmm];split<;>omega
  have hex:∀i,i<len->∃y:fp,∀j,j<8->w.cell? (ad.add (i*8+j))=bB (y.cell j):=λi hi=>by
   obtain⟨cs',hc,ht⟩:=hel i bG;rw[CS]at hc;obtain⟨y,hl8,hy⟩:=R8 ht;refine⟨y,λj hj=>?_⟩;have h8:=(World.cells?_some hc).2.2 j hj;rw[Go.Deep.add_add,hy j hj]at h8;exact h8
  obtain⟨b,o,spot⟩:=ad;have hspot:spot=none:=by
   obtain⟨y,hy⟩:=hex 0 h0;simpa[Addr.add]using World.cell?_spot (hy 0 bG)
  subst hspot;refine⟨b,o,λi=>if hi:i<len then Classical.choose (hex i hi)else⟨⟨#[]⟩,0,0,0,0,bF,⟨#[]⟩,⟨#[]⟩⟩,rfl,λi hi j hj=>?_⟩;have hc:=Classical.choose_spec (hex i hi) j hj;have ha:(⟨b,o,bC⟩:Addr).add (i*8+j)=⟨b,o+i*8+j,bC⟩:=by unfold Addr.add;split<;>simp_all<;>omega
  rw[ha]at hc;simp only[dif_pos hi];exact hc
structure jm (b r:Nat)(w w':bD):Prop where
 os:w'.os=w.os
 tape:w'.tape=w.tape
 output:w'.output=w.output
 size:w.heap.size<=w'.heap.size
 block:∀k,k<w.heap.size->k≠b->k≠r->w'.heap[k]? =w.heap[k]?
section
variable {b r:Nat}{u v w:bD}
theorem jm.refl(b r:Nat)(w:bD):jm b r w w:=⟨rfl,rfl,rfl,aL _,λ_ _ _ _=>rfl⟩
theorem jm.left(h:jm b r u v)(k:bO b v w):jm b r u w:=⟨k.os.trans h.os,k.tape.trans h.tape,k.output.trans h.output,aH h.size k.size,λj hj h1 h2=>(k.block j (aD hj h.size) h1).trans (h.block j hj h1 h2)⟩
theorem jm.right(h:jm b r u v)(k:bO r v w):jm b r u w:=⟨k.os.trans h.os,k.tape.trans h.tape,k.output.trans h.output,aH h.size k.size,λj hj h1 h2=>(k.block j (aD hj h.size) h2).trans (h.block j hj h1 h2)⟩
theorem jm.drew(h:jm b r u v):jm b r u v.drew:=⟨h.os,h.tape,h.output,h.size,h.block⟩
theorem jm.trans(h:jm b r u v)(k:jm b r v w):jm b r u w:=⟨k.os.trans h.os,k.tape.trans h.tape,k.output.trans h.output,aH h.size k.size,λj hj h1 h2=>(k.block j (aD hj h.size) h1 h2).trans (h.block j hj h1 h2)⟩
end
theorem cU{w:bD}{ba:Nat}{T:TypeId}{cs:Array Value}(h:w.heap[ba]? =bB (bA cs T (0,0)))(j:Nat)(v:Value)(e:cs[j]? =bB v):w.cell? ⟨ba,j,bC⟩=bB v:=by rw[cA h];exact e
def rowOf(L:List Nat):List Value:=L.map λ(x:Nat)=>aa bf x
theorem OG(L:List Nat)(t x:Nat)(h:L[t]? =bB x):(rowOf L)[t]? =bB (aa bf x):=by simp[rowOf,h]
theorem Cf:(prog.info? 3).map (λi=>(i.zero,i.size,i.bytes))=bB (bB (aa .i64 0),1,8):=by kernel_rfl
theorem ij{w:bD}{VK:Nat}{v:Value}{n:Nat}{xs:List Value}(h:w.ownsRow VK 3 1 v n xs):∃a cap,v=aj a n cap:=by
 rcases h.2 with⟨rfl,rfl⟩|⟨g,cap,_,rfl,_⟩
 .exact⟨bC,0,rfl⟩
 .exact⟨_,cap,rfl⟩
namespace Wf
def K(i:Nat):Nat:=
 if i<1 then 0 else if i<121 then(if(i-1)%4=0 then 2 else if(i-1)%4=1 then 0 else 1)
 else if i<2101 then(if(i-121)%198<129 then 0 else if(i-121)%198<194 then 1 else if(i-121)%198=194 then 2 else 0)
 else if(i-2101)%2=0 then 2 else 0
def V(k:Nat)(z:Int):Value:=if k=0 then aa bf z else if k=1 then aa bj z else ar (decide (z=1))
def up(x:Nat->Int)(i:Nat)(z:Int):Nat->Int:=λj=>if j=i then z else x j
def jI(f:Nat->Nat)(i v:Nat):Nat->Nat:=λj=>if j=i then v else f j
theorem iu(x:Nat->Int)(i:Nat)(z:Int):up x i z i=z:=aJ rfl
theorem cG(x:Nat->Int){i j:Nat}(z:Int)(h:j≠i:=by omega):up x i z j=x j:=aI h
structure SA (w:bD)(b:Nat)(x:Nat->Int):Prop where
 dk:∃C,w.heap[b]? =bB (bA C 173 (0,0))/\C.size=2141
 eF:∀i,i<2141->w.cell? ⟨b,i,bC⟩=bB (V (K i) (x i))
section
variable {w w':bD}{b:Nat}{x:Nat->Int}
theorem SA.lt(h:SA w b x):b<w.heap.size:=by obtain⟨C,e,_⟩:=h.dk;exact(aX.1 e).1
theorem SA.same(h:SA w b x)(e:w'.heap[b]? =w.heap[b]?):SA w' b x:=by
 obtain⟨C,f,g⟩:=h.dk;exact⟨⟨C,e.trans f,g⟩,λi hi=>(aV e).trans (h.eF i hi)⟩
theorem SA.drewN(h:SA w b x)(n:Nat):SA (w.drewN n) b x:=⟨h.dk,h.eF⟩
theorem SA.drew(h:SA w b x):SA w.drew b x:=⟨h.dk,h.eF⟩
theorem SA.frozen(h:SA w b x)(i:Nat):w.frozen? ⟨b,i,bC⟩=bF:=by obtain⟨C,f,_⟩:=h.dk;exact cL f i
theorem SA.set(h:SA w b x)(i:Nat)(z:Int)(v:Value)(hi:i<2141)(hv:v=V (K i) z):SA (w.setCell ⟨b,i,bC⟩ v) b (up x i z):=by
 obtain⟨C,f,g⟩:=h.dk;refine⟨⟨_,cT f i v,by rw[Array.size_setIfInBounds];exact g⟩,λj hj=>?_⟩;by_cases e:j=i
 .subst e;rw[dH f j v bG,iu,hv]
 .rw[dw f i j v (bQ e),cG _ _ e,h.eF j hj]
theorem SA.i(h:SA w b x)(i:Nat)(hi:i<2141/\K i=0):w.cell? ⟨b,i,bC⟩=bB (aa bf (x i)):=by rw[h.eF i hi.1,hi.2];rfl
theorem SA.u(h:SA w b x)(i:Nat)(hi:i<2141/\K i=1):w.cell? ⟨b,i,bC⟩=bB (aa bj (x i)):=by rw[h.eF i hi.1,hi.2];rfl
theorem SA.bo(h:SA w b x)(i:Nat)(hi:i<2141/\K i=2):w.cell? ⟨b,i,bC⟩=bB (ar (decide (x i=1))):=by rw[h.eF i hi.1,hi.2];rfl
end
def FV(o:Nat):Prop:=∃g,g<10/\o=121+g*198
theorem FV.k{o:Nat}(h:FV o)(i:Nat)(hi:i<129):o+i<2141/\K (o+i)=0:=by
 obtain⟨g,hg,rfl⟩:=h;refine⟨by omega,?_⟩;unfold K;rw[nJ,nJ,nK,nK]
theorem FV.key{o:Nat}(h:FV o)(i:Nat)(hi:i<64):o+129+i<2141/\K (o+129+i)=1:=by
 obtain⟨g,hg,rfl⟩:=h;refine⟨by omega,?_⟩;unfold K;rw[nJ,nJ,nK,nJ,nK]
structure Qv (x:Nat->Int)(o m:Nat)(h p:Nat->Nat):Prop where
 m:x o=m
 h:∀i,i<64->x (o+1+i)=h i
 p:∀i,i<64->x (o+65+i)=p i
section
variable {x:Nat->Int}{o m:Nat}{h p:Nat->Nat}
theorem Qv.sh(q:Qv x o m h p)(i n:Nat)(hi:i<64):Qv (up x (o+1+i) n) o m (jI h i n) p:=
 ⟨(cG _ _).trans q.m,λj hj=>by have:=q.h j hj;unfold up jI;grind,λj hj=>(cG _ _).trans (q.p j hj)⟩
theorem Qv.sp(q:Qv x o m h p)(i n:Nat)(hi:i<64):Qv (up x (o+65+i) n) o m h (jI p i n):=
 ⟨(cG _ _).trans q.m,λj hj=>(cG _ _).trans (q.h j hj),λj hj=>by have:=q.p j hj;unfold up jI;grind⟩
theorem Qv.sm(q:Qv x o m h p)(n:Nat):Qv (up x o n) o n h p:=
 ⟨iu _ _ _,λj hj=>(cG _ _).trans (q.h j hj),λj hj=>(cG _ _).trans (q.p j hj)⟩
theorem Qv.so(q:Qv x o m h p)(i:Nat)(z:Int)(hi:i<o\/o+129<=i):Qv (up x i z) o m h p:=
 ⟨(cG _ _).trans q.m,λj hj=>(cG _ _).trans (q.h j hj),λj hj=>(cG _ _).trans (q.p j hj)⟩
end
structure pO (m:Nat)(h p:Nat->Nat):Prop where
 le:m<=64
 at_:∀i,i<m->h i<64/\p (h i)=i+1
 DN:∀j,j<64->p j<=m/\(0<p j->h (p j-1)=j)
def QI(x:Nat->Int)(o:Nat):Prop:=∃m h p,Qv x o m h p/\pO m h p
section
variable {m:Nat}{h p:Nat->Nat}
theorem pO.swap(k:pO m h p){a c:Nat}(ha:a<m)(hc:c<m):pO m (jI (jI h a (h c)) c (h a)) (jI (jI p (h c) (a+1)) (h a) (c+1)):=by
 have xa:=k.at_ a ha;have xc:=k.at_ c hc;refine⟨k.le,λi hi=>?_,λj hj=>?_⟩
 .have xi:=k.at_ i hi;unfold jI;grind
 .have xj:=k.DN j hj;unfold jI;grind
theorem uN:∀(l t:List Nat),l.Nodup->(∀x∈l,x∈t)->l.length<=t.length
 |[],_,_,_=>aC _
 |a::l,t,h,s=>by
  obtain⟨h1,h2⟩:=List.nodup_cons.1 h;have e:=List.length_erase_of_mem (s a (List.mem_cons_self ..));have:=uN l (t.erase a) h2 (λx hx=>(List.mem_erase_of_ne (by rintro rfl;exact h1 hx)).2 (s x (List.mem_cons_of_mem _ hx)));have:=List.length_pos_of_mem (s a (List.mem_cons_self ..));simp only[List.length_cons];omega
theorem pO.lt(k:pO m h p){j:Nat}(hj:j<64)(hn:p j=0):m<64:=by
 have hl:((List.range m).map h).Nodup:=by
  rw[List.nodup_iff_pairwise_ne,List.pairwise_map];refine List.Pairwise.imp_of_mem ?_ (List.nodup_iff_pairwise_ne.1 List.nodup_range);intro a b ha hb hab e;have a1:=(k.at_ a (by simpa using ha)).2;have b1:=(k.at_ b (by simpa using hb)).2;rw[e]at a1;omega
 have:=uN _ ((List.range 64).erase j) hl (λx hx=>by
  obtain⟨a,ha,rfl⟩:=List.mem_map.1 hx;have a1:=k.at_ a (by simpa using ha);exact(List.mem_erase_of_ne (by rintro rfl;omega)).2 (by simpa using a1.1))
 rw[List.length_erase_of_mem (by simpa using hj)]at this;simp at this;omega
theorem pO.put(k:pO m h p){j:Nat}(hj:j<64)(hn:p j=0):pO (m+1) (jI h m j) (jI p j (m+1)):=by
 refine⟨k.lt hj hn,λi hi=>?_,λl hl=>?_⟩
 .have:=k.at_ i;unfold jI;grind
 .have:=k.DN l hl;unfold jI;grind
theorem pO.ji(k:pO (m+1) h p){j:Nat}(e:h m=j):pO m (jI h m 0) (jI p j 0):=by
 have xm:=k.at_ m bG;refine⟨by have:=k.le;omega,λi hi=>?_,λl hl=>?_⟩
 .have:=k.at_ i bG;unfold jI;grind
 .have:=k.DN l hl;unfold jI;grind
theorem pO.U1(k:pO (m+1) h p){j a:Nat}(hj:j<64)(hp:p j=a+1)(e:h m≠j):pO m (jI (jI h m 0) a (h m)) (jI (jI p j 0) (h m) (a+1)):=by
 have xm:=k.at_ m bG;have xj:=k.DN j hj;refine⟨by have:=k.le;omega,λi hi=>?_,λl hl=>?_⟩
 .have:=k.at_ i bG;unfold jI;grind
 .have:=k.DN l hl;unfold jI;grind
end
structure Rs (o:Nat)(x x':Nat->Int):Prop where
 v:∀i,i<=o\/o+129<=i->x' i=x i
 has:∀j,j<64->(0<x' (o+65+j)↔0<x (o+65+j))
theorem Rs.refl(o:Nat)(x:Nat->Int):Rs o x x:=⟨λ_ _=>rfl,λ_ _=>Iff.rfl⟩
theorem Rs.trans{o:Nat}{x y z:Nat->Int}(h:Rs o x y)(k:Rs o y z):Rs o x z:=⟨λi hi=>(k.v i hi).trans (h.v i hi),λj hj=>(k.has j hj).trans (h.has j hj)⟩
theorem cN{f:Nat}{a:Array Value}{w:bD}{E:Ending}{Q:Ending->bD->Prop}(h:Calls prog f a w λe w'=>e=E/\w'=w)(q:Q E w):Calls prog f a w Q:=h.mono (by rintro _ _ ⟨rfl,rfl⟩;exact q)
def To(b:Nat)(w:bD)(P:(Nat->Int)->Prop)(w':bD):Prop:=∃x',SA w' b x'/\bO b w w'/\P x'
end Wf
namespace Wf
structure QS (w:bD)(b o:Nat)(x:Nat->Int)(m:Nat)(h p:Nat->Nat):Prop where
 sa:SA w b x
 io:FV o
 q:Qv x o m h p
 k:pO m h p
section
variable {w w':bD}{b o m:Nat}{x:Nat->Int}{h p:Nat->Nat}
theorem QS.many(s:QS w b o x m h p):w.cell? ⟨b,o,bC⟩=bB (aa bf m):=by rw[<-s.q.m];exact s.sa.i _ (s.io.k 0 bG)
theorem QS.heap(s:QS w b o x m h p)(i:Nat)(hi:i<64):w.cell? ⟨b,o+1+i,bC⟩=bB (aa bf (h i)):=by rw[<-s.q.h i hi,Nat.add_assoc];exact s.sa.i _ (s.io.k _ bG)
theorem QS.place(s:QS w b o x m h p)(i:Nat)(hi:i<64):w.cell? ⟨b,o+65+i,bC⟩=bB (aa bf (p i)):=by rw[<-s.q.p i hi,Nat.add_assoc];exact s.sa.i _ (s.io.k _ bG)
theorem QS.keys(s:QS w b o x m h p)(i:Nat)(hi:i<64):w.cell? ⟨b,o+129+i,bC⟩=bB (aa bj (x (o+129+i))):=s.sa.u _ (s.io.key i hi)
theorem QS.drewN(s:QS w b o x m h p)(n:Nat):QS (w.drewN n) b o x m h p:=⟨s.sa.drewN n,s.io,s.q,s.k⟩
end
def Qt(b o:Nat)(x:Nat->Int)(m:Nat)(w w':bD):Prop:=bO b w w'/\∃x' h' p',QS w' b o x' m h' p'/\Rs o x x'
theorem Qt.trans{b o m:Nat}{x x':Nat->Int}{u v w:bD}(f:bO b u v)(r:Rs o x x')(k:Qt b o x' m v w):Qt b o x m u w:=by
 obtain⟨g,y,h,p,s,t⟩:=k;exact⟨f.trans g,y,h,p,s,r.trans t⟩
section
variable (b o m:Nat)(x:Nat->Int)(h p:Nat->Nat)(w:bD)
theorem wH(j:Nat)(hj:j<64):Calls prog 297 #[aa bf j] w λe w'=>e=bw (ar bE)/\w'=w:=by
 have hj':(j:Int)<64:=bG
 go_in
 go_wp2
 go_ret
 exact⟨rfl,rfl⟩
theorem Gm(j:Nat)(s:QS w b o x m h p)(hj:j<64):Calls prog 298 #[ai (bB ⟨b,o,bC⟩),aa bf j] w λe w'=>e=bw (ar (decide (0<p j)))/\w'=w:=by
 have c:=s.place j hj;have hj':(j:Int)<64:=bG
 go_in
 go_wp2
 go_ret
 exact⟨da (by simp),rfl⟩
theorem wu(a j:Nat)(hs:SA w b x)(io:FV o)(ha:a<64)(hj:j<64):Calls prog 293 #[ai (bB ⟨b,o,bC⟩),aa bf a,aa bf j] w λe w'=>e=bw (ao #[])/\SA w' b (up (up x (o+1+a) j) (o+65+j) (a+1:Nat))/\bO b w w':=by
 have k1:=io.k (1+a) bG;have k2:=io.k (65+j) bG;rw[<-Nat.add_assoc]at k1 k2;have c1:=hs.i _ k1;have c2:=hs.i _ k2;have hf:=hs.frozen;have ha':(a:Int)<64:=bG
 have hj':(j:Int)<64:=bG
 have H:=hJ (aK hs (aK k1 k2));go_in
 go_wp2
 go_end0
 exact⟨rfl,(H.1.set _ _ _ H.2.1.1 (by rw[H.2.1.2];rfl)).set _ _ _ H.2.2.1 (by rw[H.2.2.2];rfl),((bO.refl _ _).setCell _ _).setCell _ _⟩
theorem AU(a c:Nat)(s:QS w b o x m h p)(ha:a<m)(hc:c<m):Calls prog 318 #[ai (bB ⟨b,o,bC⟩),aa bf a,aa bf c] w λe w'=>∃r n,e=bw (ar r)/\w'=w.drewN n:=by
 have le:=s.k.le;have c1:=s.heap a bG;have c2:=s.heap c bG;have h1:=(s.k.at_ a ha).1;have h2:=(s.k.at_ c hc).1;have c3:=s.keys _ h1;have c4:=s.keys _ h2;generalize h a=X at*;generalize h c=Y at*;generalize x (o+129+X)=kx at*;generalize x (o+129+Y)=ky at*;have l1:(a:Int)<64:=bG
 have l2:(c:Int)<64:=bG
 have l3:(X:Int)<64:=bG
 have l4:(Y:Int)<64:=bG
 obtain⟨t1,d1⟩:∃t,decide (kx<ky)=t:=⟨_,rfl⟩;obtain⟨t2,d2⟩:∃t,(kx==ky)=t:=⟨_,rfl⟩;cases t1<;>cases t2<;>
 .go_in
  go_wp2
  go_quiet (fail)
  go_wp2
  go_quiet (fail)
  go_wp2
  go_ret
  exact⟨_,_,rfl,World.drewN_drewN _ _ _⟩
theorem Ek(a c:Nat)(s:QS w b o x m h p)(ha:a<m)(hc:c<m):Calls prog 319 #[ai (bB ⟨b,o,bC⟩),aa bf a,aa bf c] w λe w'=>e=bw (ao #[])/\Qt b o x m w w':=by
 have le:=s.k.le;have c1:=s.heap a bG;have c2:=s.heap c bG;have HX:=hJ (s.k.at_ a ha);have HY:=hJ (s.k.at_ c hc);have l1:(a:Int)<64:=bG
 have l2:(c:Int)<64:=bG
 have H:=hJ s;go_in
 go_wp2
 go_quiet (fail)
 go_wp2_with fail
 refine sC (wu b o x _ a (h c) (H.sa.drewN _) H.io bG HY.1) ?_;rintro w1 ⟨h1,f1⟩;have H1:=hJ (aK h1 f1);go_wp2_with fail
 refine sC (wu b o _ _ c (h a) H1.1 H.io bG HX.1) ?_;rintro w2 ⟨h2,f2⟩;have FIN:Hid (Qt b o x m w w2):=hJ ⟨(((bO.refl _ _).drewN _).trans H1.2).trans f2,_,_,_,⟨h2,H.io,(((H.q.sh a _ bG).sp _ _ HY.1).sh c _ bG).sp _ _ HX.1,H.k.swap ha hc⟩,λi hi=>by
  have:=HX.1;have:=HY.1;rw[cG _ _,cG _ _,cG _ _,cG _ _],λj hj=>by
  have q1:=(((H.q.sh a (h c) bG).sp _ (a+1) HY.1).sh c (h a) bG).sp _ (c+1) HX.1;rw[q1.p j hj,H.q.p j hj];have:=HX.v;have:=HY.v;unfold jI;grind⟩
 go_wp2_with fail
 go_end0
 exact⟨rfl,FIN.v⟩
theorem DY(a:Nat)(s:QS w b o x m h p)(ha:a<m):Calls prog 294 #[ai (bB ⟨b,o,bC⟩),aa bf a] w λe w'=>e=bw (ao #[])/\Qt b o x m w w':=by
 have le:=s.k.le;go_in
 go_wp2
 go_loopw [1] (λi wr=>∃y:Nat,i=aa bf y/\y<m/\Hid (Qt b o x m w wr)) (λi _=>(intOf i).toNat)
 case atStart=>exact⟨a,rfl,ha,bO.refl _ _,x,h,p,s,Rs.refl _ _⟩
 case round=>
  obtain⟨y,rfl,hy,H⟩:=hrel;by_cases h0:y=0
  .subst h0;go_wp2
   go_end0
   exact⟨rfl,H.v⟩
  .obtain⟨f,x',h',p',s,r⟩:=H.v;have S:=hJ (aK s (aK f r));have hp0:(0:Int)<(y:Int):=bG
   have E:Hid (((y:Int)-1)/2=(((y-1)/2:Nat):Int)):=hJ bG;have hu:(y-1)/2<m:=bG
   have AH:=hJ (AU b o m x' h' p' wr y ((y-1)/2) s hy hu);rw[<-E.v]at AH;go_wp2_with fail
   refine AH.mono ?_;rintro e w1 ⟨r,n,rfl,rfl⟩;cases r
   .go_wp2_with fail
    refine bodyPost_ret (results_none rfl _ _ _) rfl ?_;exact⟨rfl,Qt.trans (S.2.1.drewN n) S.2.2 ⟨bO.refl _ _,x',h',p',S.1.drewN n,Rs.refl _ _⟩⟩
   .have SW:=hJ (Ek b o m x' h' p' (wr.drewN n) y ((y-1)/2) (S.1.drewN n) hy hu);rw[<-E.v]at SW;go_wp2_with fail
    refine sC SW.v ?_;rintro w2 q;have Q:=hJ (Qt.trans (S.2.1.drewN n) S.2.2 q);go_wp2
    go_roundw
    case rel=>exact⟨(y-1)/2,by rw[E.v],hu,Q⟩
    case measure=>simp[intOf];omega
theorem OM(a:Nat)(s:QS w b o x m h p)(ha:a<m):Calls prog 295 #[ai (bB ⟨b,o,bC⟩),aa bf a] w λe w'=>e=bw (ao #[])/\Qt b o x m w w':=by
 have le:=s.k.le;go_in
 go_wp2
 go_loopw [1] (λi wr=>∃y:Nat,i=aa bf y/\y<m/\Hid (Qt b o x m w wr)) (λi _=>64-(intOf i).toNat)
 case atStart=>exact⟨a,rfl,ha,bO.refl _ _,x,h,p,s,Rs.refl _ _⟩
 case round=>
  obtain⟨y,rfl,hy,H⟩:=hrel;obtain⟨f,x',h',p',s,r⟩:=H.v;have S:=hJ (aK s (aK f r));go_wp2_with fail
  go_loopw [4,5] (λl c wq=>∃(ln cn n:Nat),l=aa bf ln/\c=aa bf cn/\ln<m/\y<=ln/\2*y+1<=cn/\cn<=2*y+3/\wq=wr.drewN n) (λ_ c _=>2*y+3-(intOf c).toNat)
  case atStart=>exact⟨y,2*y+1,0,rfl,by go_num,hy,bG,bG,bG,rfl⟩
  case round=>
   obtain⟨l,c,n,rfl,rfl,hl,hl2,hc1,hc2,rfl⟩:=hrel;have cm:=(S.1.drewN n).many;have END:Hid (Qt b o x m w (wr.drewN n)):=hJ (Qt.trans (S.2.1.drewN n) S.2.2 ⟨bO.refl _ _,x',h',p',S.1.drewN n,Rs.refl _ _⟩);by_cases k1:c<=2*y+2/\c<m
   .have d1:decide ((c:Int)<=2*(y:Int)+2)=bE:=by simp;omega
    have k2':(c:Int)<(m:Int):=bG
    have AH:=hJ (AU b o m x' h' p' (wr.drewN n) c l (S.1.drewN n) k1.2 hl);go_wp2_with fail
    refine AH.mono ?_;rintro e w1 ⟨r,n1,rfl,rfl⟩;cases r
    .go_wp2
     go_roundw
     case rel=>exact⟨l,c+1,n+n1,rfl,by go_num,hl,hl2,bG,bG,by first|rfl|exact World.drewN_drewN _ _ _⟩
     case measure=>simp[intOf];omega
    .go_wp2
     go_roundw
     case rel=>exact⟨c,c+1,n+n1,rfl,by go_num,k1.2,bG,bG,bG,by first|rfl|exact World.drewN_drewN _ _ _⟩
     case measure=>simp[intOf];omega
   .have SW:=hJ (Ek b o m x' h' p' (wr.drewN n) y l (S.1.drewN n) hy hl);by_cases k3:l=y
    .subst k3;by_cases k4:c<=2*l+2
     .have d1:decide ((c:Int)<=2*(l:Int)+2)=bE:=by simp;omega
      have k2':¬(c:Int)<(m:Int):=bG
      go_wp2_with fail
      refine bodyPost_ret (results_none rfl _ _ _) rfl ?_;exact⟨rfl,END.v⟩
     .have d1:decide ((c:Int)<=2*(l:Int)+2)=bF:=by simp;omega
      go_wp2_with fail
      refine bodyPost_ret (results_none rfl _ _ _) rfl ?_;exact⟨rfl,END.v⟩
    .have k3':((l:Int)==(y:Int))=bF:=by simp;omega
     by_cases k4:c<=2*y+2
     case' pos=>
      have d1:decide ((c:Int)<=2*(y:Int)+2)=bE:=by simp;omega
      have k2':¬(c:Int)<(m:Int):=bG
     case' neg=>have d1:decide ((c:Int)<=2*(y:Int)+2)=bF:=by simp;omega
     all_goals
      go_wp2_with fail
      refine sC SW.v ?_;rintro w2 q;have Q:=hJ (Qt.trans (S.2.1.drewN n) S.2.2 q);go_wp2
      go_roundw
      case rel=>exact⟨l,rfl,hl,Q⟩
      case measure=>simp[intOf];omega
end
end Wf
namespace Wf
def Qc(b o:Nat)(x:Nat->Int)(w w':bD)(P:Nat->Prop):Prop:=bO b w w'/\∃x' m h p,QS w' b o x' m h p/\(∀i,i<o\/o+193<=i->x' i=x i)/\∀i,i<64->(0<x' (o+65+i)↔P i)
theorem Qc.of{b o m:Nat}{x y:Nat->Int}{w u v:bD}{P:Nat->Prop}(f:bO b w u)(k:Qt b o y m u v)(e:∀i,i<o\/o+193<=i->y i=x i)(hp:∀i,i<64->(0<y (o+65+i)↔P i)):Qc b o x w v P:=by
 obtain⟨g,z,h,p,s,r⟩:=k;exact⟨f.trans g,z,m,h,p,s,λi hi=>(r.v i bG).trans (e i hi),λi hi=>(r.has i hi).trans (hp i hi)⟩
section
variable (b o m:Nat)(x:Nat->Int)(h p:Nat->Nat)(w:bD)
theorem Ag(j:Nat)(s:QS w b o x m h p)(hj:j<64):Calls prog 274 #[ai (bB ⟨b,o,bC⟩),aa bf j] w λe w'=>∃k E,e=bw (ao #[aa bj k,bS E])/\(E=0↔0<p j)/\w'=w:=by
 have BD:=hJ (wH w j hj);have HS:=hJ (Gm b o m x h p w j s hj);have ck:=s.keys j hj;have hjI:(j:Int)<64:=bG
 generalize x (o+129+j)=kx at*;obtain⟨t,ht⟩:=hU (decide (0<p j));have T:=hJ ht;rw[ht]at HS;cases t
 .go_in
  go_wp2_with fail
  refine cN BD.v ?_;go_wp2_with fail
  refine cN HS.v ?_;go_wp2
  go_ret2
  exact⟨0,2,rfl,by have:=T.v;simp at this;omega,rfl⟩
 .go_in
  go_wp2_with fail
  refine cN BD.v ?_;go_wp2_with fail
  refine cN HS.v ?_;go_wp2
  go_ret2
  exact⟨kx,0,rfl,by have:=T.v;simp at this;omega,rfl⟩
theorem QW(s:QS w b o x m h p):Calls prog 299 #[ai (bB ⟨b,o,bC⟩)] w λe w'=>e=bw (aa bf m)/\w'=w:=by
 have cm:=s.many;go_in
 go_wp2
 go_ret
 exact⟨rfl,rfl⟩
theorem rq(s:QS w b o x m h p):Calls prog 234 #[ai (bB ⟨b,o,bC⟩)] w λe w'=>∃(j:Nat) (k:Int) (n:Nat),e=bw (ao #[aa bf j,aa bj k,ar (decide (0<m))])/\w'=w.drewN n/\(0<m->j<64/\0<p j):=by
 have cm:=s.many;by_cases h0:m=0
 .subst h0;go_in
  go_wp2
  go_ret3
  exact⟨0,0,0,rfl,rfl,bG⟩
 .have a0:=s.k.at_ 0 bG;have A0:=hJ a0;have ch:=s.heap 0 bG;have ck:=s.keys _ a0.1;have hne:((m:Int)==0)=bF:=by simp;omega
  have M0:Hid (decide (0<m)=bE):=hJ (by simp;omega);generalize h 0=J at*;have hJI:(J:Int)<64:=bG
  generalize x (o+129+J)=kx at*;go_in
  go_wp2
  go_quiet (fail)
  go_wp2
  go_ret3
  exact⟨J,kx,_,by rw[M0.v];rfl,rfl,λ_=>⟨A0.1,by have:=A0.2;omega⟩⟩
theorem Ri(j:Nat)(k:Int)(s:QS w b o x m h p)(hj:j<64)(hp:p j=0):Calls prog 276 #[ai (bB ⟨b,o,bC⟩),aa bf j,aa bj k] w λe w'=>e=bw az/\Qc b o x w w' (λi=>0<x (o+65+i)\/i=j):=by
 have BD:=hJ (wH w j hj);have HS:=hJ (Gm b o m x h p w j s hj);rw[show decide (0<p j)=bF by simp;omega]at HS;have hm:=s.k.lt hj hp;have ck:=s.keys j hj;have cf:=s.sa.frozen;have cm:=s.many;have hjI:(j:Int)<64:=bG
 have S:=hJ (aK s hp);go_in
 go_wp2_with fail
 refine cN BD.v ?_;go_wp2_with fail
 refine cN HS.v ?_;go_wp2_with fail
 have k1:=S.1.io.key j hj;refine sC (wu b o _ _ m j (S.1.sa.set _ k _ k1.1 (by rw[k1.2];rfl)) S.1.io hm hj) ?_;rintro w1 ⟨h1,f1⟩;have q1:=((S.1.q.so (o+129+j) k bG).sh m j hm).sp j (m+1) hj;have cm1:w1.cell? ⟨b,o,bC⟩=bB (aa bf m):=by rw[<-q1.m];exact h1.i _ (S.1.io.k 0 bG)
 have cf1:=h1.frozen;have S1:=hJ (aK h1 (aK (((bO.refl b w).setCell _ _).trans f1) q1));go_wp2_with fail
 have k0:=S.1.io.k 0 bG;have q2:=S1.2.2.sm (m+1);have s2:=S1.1.set o ((m+1:Nat):Int) (aa bf ((m:Int)+1)) k0.1 (by rw[show K o=0 from k0.2];rfl);refine sC (DY b o (m+1) _ _ _ _ m ⟨s2,S.1.io,q2,S.1.k.put hj S.2⟩ bG) ?_;rintro w2 q;have FIN:Hid (Qc b o x w w2 (λi=>0<x (o+65+i)\/i=j)):=hJ (Qc.of (S1.2.1.setCell _ _) q (λi hi=>by rw[cG _ _,cG _ _,cG _ _,cG _ _]) (λi hi=>by
  rw[q2.p i hi,S.1.q.p i hi];unfold jI;grind))
 go_wp2
 go_ret
 exact⟨rfl,FIN.v⟩
theorem Gd(j:Nat)(s:QS w b o x m h p)(hj:j<64)(hp:0<p j):Calls prog 272 #[ai (bB ⟨b,o,bC⟩),aa bf j] w λe w'=>∃k,e=bw (ao #[aa bj k,az])/\Qc b o x w w' (λi=>0<x (o+65+i)/\i≠j):=by
 have oj:=s.k.DN j hj;have le:=s.k.le;obtain⟨m,rfl⟩:∃n,m=n+1:=⟨m-1,bG⟩;obtain⟨a,ha⟩:∃a,p j=a+1:=⟨p j-1,bG⟩;obtain⟨t,ht⟩:=hU (h m);have tm:=s.k.at_ m bG;rw[ht]at tm;have cm:=s.many;have cp:=s.place j hj;have cf:=s.sa.frozen;rw[ha]at cp oj;have KE:=hJ (Ag b o (m+1) x h p w j s hj);have S:=hJ (aK s (aK ha (aK ht (aK tm oj))));have am:a<=m:=bG
 have t64:t<64:=tm.1;have hjI:(j:Int)<64:=bG
 have hmI:(m:Int)<64:=bG
 have Iqq:=hJ s.io;clear s hp ha ht tm oj;go_in
 go_wp2_with fail
 refine KE.mono ?_;rintro e w1 ⟨k,E,rfl,hE,rfl⟩;obtain rfl:E=0:=hE.2 (by rw[S.2.1];omega);rw[bN];clear hE KE;go_wp2_with fail
 have k0:=Iqq.k 0 bG;refine cR (λW=>SA W b (up x o m)/\bO b w1 W) ⟨S.1.sa.set o m _ k0.1 (by rw[show K o=0 from k0.2];rfl),(bO.refl _ _).setCell _ _⟩ ?_;rintro W ⟨hA,hO⟩;have Q0:Hid (Qv (up x o m) o m h p):=hJ (S.1.q.sm m);have am':W.cell? ⟨b,o,bC⟩=bB (aa bf m):=by rw[<-Q0.m];exact hA.i _ k0
 have ah':W.cell? ⟨b,o+1+m,bC⟩=bB (aa bf t):=by rw[<-S.2.2.1,<-Q0.h m bG,Nat.add_assoc];exact hA.i _ (Iqq.k _ bG)
 have A:=hJ (aK hA hO);clear hA hO cm cp cf k0;go_quiet (fail)
 go_wp2_with fail
 refine cR (λW2=>SA W2 b (up x o m)/\bO b w1 W2) ⟨A.1.drewN nq,A.2.drewN nq⟩ ?_;clear ah' am' A;rintro W2 ⟨hA,hO⟩;have k1:=Iqq.k (1+m) bG;have k2:=Iqq.k (65+j) bG;have k3:=Iqq.key j hj;rw[<-Nat.add_assoc]at k1 k2;have cm:W2.cell? ⟨b,o,bC⟩=bB (aa bf m):=by rw[<-Q0.m];exact hA.i _ (Iqq.k 0 bG)
 have c1:=hA.i _ k1;have c2:=hA.i _ k2;have c3:=hA.u _ k3;have cf:=hA.frozen;have A:Hid (SA ((((W2.setCell ⟨b,o+1+m,bC⟩ (aa .i64 0)).setCell ⟨b,o+65+j,bC⟩ (aa .i64 0)).setCell ⟨b,o+129+j,bC⟩ (aa .u64 0)).drew) b (up (up (up (up x o m) (o+1+m) (0:Nat)) (o+65+j) (0:Nat)) (o+129+j) 0)/\bO b w1 ((((W2.setCell ⟨b,o+1+m,bC⟩ (aa .i64 0)).setCell ⟨b,o+65+j,bC⟩ (aa .i64 0)).setCell ⟨b,o+129+j,bC⟩ (aa .u64 0)).drew)/\Qv (up (up (up (up x o m) (o+1+m) (0:Nat)) (o+65+j) (0:Nat)) (o+129+j) 0) o m (jI h m 0) (jI p j 0)):=
  hJ ⟨(((hA.set _ _ _ k1.1 (by rw[k1.2];rfl)).set _ _ _ k2.1 (by rw[k2.2];rfl)).set _ _ _ k3.1 (by rw[k3.2];rfl)).drew,(((hO.setCell _ _).setCell _ _).setCell _ _).drew,((Q0.sh m 0 bG).sp j 0 hj).so _ _ bG⟩
 clear hA hO k1 k2 k3;by_cases e:t=j
 .have kb:((t:Int) !=(j:Int))=bF:=by simp;omega
  go_region
  go_wp2
  go_ret2
  refine⟨_,rfl,A.2.1,_,m,_,_,⟨A.1,Iqq.v,A.2.2,S.1.k.ji (S.2.2.1.trans e)⟩,λi hi=>by rw[cG _ _,cG _ _,cG _ _,cG _ _],λi hi=>?_⟩;show _↔0<x (o+65+i)/\i≠j;rw[A.2.2.p i hi,S.1.q.p i hi];unfold jI;grind
 .have kb:((t:Int) !=(j:Int))=bE:=by rw[bne_iff_ne];omega
  go_region
  go_wp2_with fail
  refine sC (wu b o _ _ a t A.1 Iqq.v bG t64) ?_;rintro w2 ⟨h2,f2⟩;have q2:=(A.2.2.sh a t bG).sp t (a+1) t64;have kk:=S.1.k.U1 hj S.2.1 (by rw[S.2.2.1];exact e);rw[S.2.2.1]at kk;have am2:a<m:=by
   refine Nat.lt_of_le_of_ne am (λq=>e ?_);have:=S.2.2.2.2.2 bG;rw[<-S.2.2.1,<-q];simpa using this
  have S2:=hJ (aK (A.2.1.trans f2) (aK q2 (QS.mk h2 Iqq.v q2 kk)));have RI:=hJ (DY b o m _ _ _ _ a S2.2.2 am2);clear h2 f2 q2 kk c1 c2 c3 cf cm;go_wp2_with fail
  refine sC RI.v ?_;rintro w3 ⟨f3,x3,h3,p3,s3,r3⟩;have SI:=hJ (OM b o m _ _ _ _ a s3 am2);have S3:=hJ (aK f3 r3);clear f3 s3 r3 RI;go_wp2_with fail
  refine sC SI.v ?_;rintro w4 q4;have FIN:Hid (Qc b o x w1 w4 (λi=>0<x (o+65+i)/\i≠j)):=hJ (Qc.of S2.1 (Qt.trans S3.1 S3.2 q4) (λi hi=>by rw[cG _ _,cG _ _,cG _ _,cG _ _,cG _ _,cG _ _]) (λi hi=>by
   show _↔0<x (o+65+i)/\i≠j;rw[S2.2.1.p i hi,S.1.q.p i hi];have:=S.2.2.2.1;unfold jI;grind))
  clear q4 SI;go_wp2
  go_ret2
  exact⟨_,rfl,FIN.v⟩
end
end Wf
namespace Wf
theorem qA{u:Nat}(hu:u<30):1+u*4<2141/\K (1+u*4)=2:=⟨by omega,by unfold K;rw[nJ,nK,nK]⟩
theorem oU{u:Nat}(hu:u<30):1+u*4+1<2141/\K (1+u*4+1)=0:=⟨by omega,by unfold K;rw[nJ,nK,nJ,nK]⟩
theorem iF{u:Nat}(hu:u<30)(f:Nat)(hf:f=2\/f=3):1+u*4+f<2141/\K (1+u*4+f)=1:=⟨by omega,by unfold K;rw[nJ,nK,nJ,nJ]⟩
theorem Gt{g:Nat}(hg:g<10):121+g*198+193<2141/\K (121+g*198+193)=1:=⟨by omega,by unfold K;rw[nJ,nJ,nK,nJ,nK]⟩
theorem Dk{g:Nat}(hg:g<10):121+g*198+194<2141/\K (121+g*198+194)=2:=⟨by omega,by unfold K;rw[nJ,nJ,nK,nJ,nJ,nK]⟩
theorem oV{g:Nat}(hg:g<10)(f:Nat)(hf:195<=f/\f<198):121+g*198+f<2141/\K (121+g*198+f)=0:=⟨by omega,by unfold K;rw[nJ,nJ,nK,nJ,nJ,nJ]⟩
theorem sq{n:Nat}(hn:n<20):2101+n*2<2141/\K (2101+n*2)=2:=⟨by omega,by unfold K;rw[nJ,nJ,nJ,nK]⟩
theorem Cg{n:Nat}(hn:n<20):2101+n*2+1<2141/\K (2101+n*2+1)=0:=⟨by omega,by unfold K;rw[nJ,nJ,nJ,nJ]⟩
structure Iv (d:Nat->Nat)(e:Nat)(x:Nat->Int):Prop where
 q:∀g,g<10->QI x (121+g*198)
 rt:x 1=1
 par:∀u,u<30->u≠0->x (1+u*4)=1->∃g:Nat,g<10/\x (1+u*4+1)=g/\x (1+g*4)=1/\d g<d u/\0<x (1+u*4+2)
 mem:∀g j,g<10->j<64->0<x (121+g*198+65+j)->j<30/\j≠0/\x (1+j*4)=1/\x (1+j*4+1)=g
 ne:∀g u,g<10->u<10->u≠e->0<x (121+g*198+65+u)->0<x (121+u*198)
 pe:∀g,g<10->0<x (121+g*198+195)->0<x (121+g*198+196)/\x (1+g*4)=1
def Ch(g u:Nat)(x x':Nat->Int):Prop:=∀i,i<121+g*198\/121+g*198+194<=i->i≠1+u*4+3->i≠121+u*198+197->x' i=x i
theorem QI.same{x x':Nat->Int}{o:Nat}(h:QI x o)(e:∀i,o<=i->i<o+129->x' i=x i):QI x' o:=by
 obtain⟨m,hp,pp,q,k⟩:=h;exact⟨m,hp,pp,⟨(e _ bG bG).trans q.m,λi hi=>(e _ bG bG).trans (q.h i hi),λi hi=>(e _ bG bG).trans (q.p i hi)⟩,k⟩
theorem QI.pos{x:Nat->Int}{o j:Nat}(h:QI x o)(hj:j<64)(p:0<x (o+65+j)):0<x o:=by
 obtain⟨m,hp,pp,q,k⟩:=h;rw[q.p j hj]at p;rw[q.m];have:=(k.DN j hj).1;omega
theorem Iv.jN{d:Nat->Nat}{e u g:Nat}{x x':Nat->Int}(h:Iv d e x)(he:e=u\/e=g)(c:Ch g u x x')(q:QI x' (121+g*198))(hg:g<10)(hu:u<30)(u0:u≠0)(hh:x (1+u*4)=1)(hi:x (1+u*4+1)=g)
  (ot:∀j,j<64->j≠u->(0<x' (121+g*198+65+j)↔0<x (121+g*198+65+j))) (me:u<10->0<x' (121+g*198+65+u)->0<x (121+u*198)):Iv d g x':=by
 have e1:∀v f,f<3->x' (1+v*4+f)=x (1+v*4+f)\/30<=v:=λv f hf=>by
  by_cases hv:v<30
  .exact .inl (c _ bG bG bG)
  .exact .inr bG
 have e0:∀v,v<30->x' (1+v*4)=x (1+v*4)/\x' (1+v*4+1)=x (1+v*4+1)/\x' (1+v*4+2)=x (1+v*4+2):=λv hv=>
  ⟨(e1 v 0 bG).resolve_right bG,(e1 v 1 bG).resolve_right bG,(e1 v 2 bG).resolve_right bG⟩
 refine⟨λk hk=>?_,(e0 0 bG).1.trans h.rt,λv hv v0 hv1=>?_,λk j hk hj p=>?_,λk v hk hv hne p=>?_,λk hk p=>?_⟩
 .by_cases ek:k=g
  .rw[ek];exact q
  .exact(h.q k hk).same λi h1 h2=>c i bG bG bG
 .rw[(e0 v hv).1]at hv1;obtain⟨k,k1,k2,k3,k4,k5⟩:=h.par v hv v0 hv1;exact⟨k,k1,by rw[(e0 v hv).2.1];exact k2,by rw[(e0 k bG).1];exact k3,k4,by rw[(e0 v hv).2.2];exact k5⟩
 .have old:0<x (121+k*198+65+j)->j<30/\j≠0/\x' (1+j*4)=1/\x' (1+j*4+1)=k:=λp=>by
   obtain⟨m1,m2,m3,m4⟩:=h.mem k j hk hj p;exact⟨m1,m2,by rw[(e0 j m1).1];exact m3,by rw[(e0 j m1).2.1];exact m4⟩
  by_cases ek:k=g
  .subst ek;by_cases ej:j=u
   .subst ej;exact⟨hu,u0,by rw[(e0 j hu).1];exact hh,by rw[(e0 j hu).2.1];exact hi⟩
   .exact old ((ot j hj ej).1 p)
  .exact old (by rw[<-c _ bG bG bG];exact p)
 .rw[c (121+v*198) bG bG bG];by_cases ek:k=g
  .subst ek;by_cases ev:v=u
   .subst ev;exact me hv p
   .exact h.ne k v hk hv bG ((ot v bG ev).1 p)
  .rw[c _ bG bG bG]at p;refine h.ne k v hk hv (λev=>ek ?_) p;obtain rfl:v=u:=bG
   have:=(h.mem k v hk bG p).2.2.2;omega
 .rw[c _ bG bG bG]at p;rw[c _ bG bG bG,(e0 k bG).1];exact h.pe k hk p
def Kc(i:Nat):Prop:=0<i/\i<121/\(i-1)%4≠3\/121<=i/\i<2101/\((i-121)%198<129\/(i-121)%198=195\/(i-121)%198=196)
theorem Iv.jl{d:Nat->Nat}{e:Nat}{x x':Nat->Int}(h:Iv d e x)(c:∀i,Kc i->x' i=x i):Iv d e x':=by
 have a:∀v f,v<30->f<3->x' (1+v*4+f)=x (1+v*4+f):=λv f hv hf=>c _ (by unfold Kc;omega);have q:∀g f,g<10->f<129\/f=195\/f=196->x' (121+g*198+f)=x (121+g*198+f):=λg f hg hf=>c _ (.inr ⟨by omega,bG,bG⟩);have q65:∀g j,g<10->j<64->x' (121+g*198+65+j)=x (121+g*198+65+j):=λg j hg hj=>by rw[Nat.add_assoc];exact q g _ hg bG
 refine⟨λk hk=>(h.q k hk).same λi h1 h2=>?_,(a 0 0 bG bG).trans h.rt,λv hv v0 hv1=>?_,λk j hk hj p=>?_,λk v hk hv hne p=>?_,λk hk p=>?_⟩
 .obtain⟨f,rfl⟩:∃f,i=121+k*198+f:=⟨i-(121+k*198),bG⟩;exact q k f hk bG
 .obtain⟨k,k1,k2,k3,k4,k5⟩:=h.par v hv v0 ((a v 0 hv bG).symm.trans hv1);exact⟨k,k1,(a v 1 hv bG).trans k2,(a k 0 bG bG).trans k3,k4,by rw[a v 2 hv bG];exact k5⟩
 .obtain⟨m1,m2,m3,m4⟩:=h.mem k j hk hj (by rw[<-q65 k j hk hj];exact p);exact⟨m1,m2,(a j 0 m1 bG).trans m3,(a j 1 m1 bG).trans m4⟩
 .have:=q v 0 hv bG;rw[Nat.add_zero]at this;rw[this];exact h.ne k v hk hv hne (by rw[<-q65 k v hk bG];exact p)
 .rw[q k 196 hk bG,show x' (1+k*4)=x (1+k*4)from a k 0 bG bG];exact h.pe k hk (by rw[<-q k 195 hk bG];exact p)
theorem Iv.any{d:Nat->Nat}{x:Nat->Int}(h:Iv d 0 x)(e:Nat):Iv d e x:=⟨h.q,h.rt,h.par,h.mem,λg u hg hu _ p=>h.ne g u hg hu (h.mem g u hg bG p).2.1 p,h.pe⟩
def vk(x:Nat->Int)(u:Nat):Bool:=if 10<=u then decide (x (2101+(u-10)*2)=1)else decide (0<x (121+u*198))&&(!decide (x (121+u*198+194)=1)&&(decide (x (121+u*198+195)=0)||decide (x (121+u*198+197)<x (121+u*198+195))))
theorem Rk{x:Nat->Int}{u:Nat}(hu:u<10)(h:vk x u=bE):0<x (121+u*198):=by
 unfold vk at h;rw[nJ]at h;simp at h;exact h.1
section
variable (b:Nat)(d:Nat->Nat)(x:Nat->Int)(w:bD)
theorem Lm(u:Nat)(h:SA w b x)(q:∀g,g<10->QI x (121+g*198))(hu:u<30):Calls prog 275 #[ai (bB ⟨b,0,bC⟩),aa bf u] w λe w'=>e=bw (ar (vk x u))/\∃n,w'=w.drewN n:=by
 by_cases k:10<=u
 .obtain⟨n,rfl⟩:∃n,u=10+n:=⟨u-10,bG⟩;have c:=h.bo _ (sq (n:=n) bG);have k':(10:Int)<=((10+n:Nat):Int):=bG
  have e:Hid (vk x (10+n)=decide (x (2101+n*2)=1)):=hJ (by unfold vk;rw[nK,show 10+n-10=n by omega]);go_in
  go_wp2
  go_ret
  exact⟨da e.symm,0,rfl⟩
 .have hu':u<10:=bG
  obtain⟨m,hp,pp,q1,q2⟩:=q u hu';have LE:=hJ (λn=>QW b (121+u*198) m x hp pp (w.drewN n) ⟨h.drewN n,⟨u,hu',rfl⟩,q1,q2⟩);have c1:=h.bo _ (Dk hu');have c2:=h.i _ (oV hu' 195 bG);have c3:=h.i _ (oV hu' 197 bG);have k':¬(10:Int)<=(u:Int):=bG
  have hgI:(u:Int)<10:=bG
  have e:Hid (vk x u=(decide (0<m)&&(!decide (x (121+u*198+194)=1)&&(decide (x (121+u*198+195)=0)||decide (x (121+u*198+197)<x (121+u*198+195)))))):=hJ (by unfold vk;rw[aI k,q1.m];simp);generalize x (121+u*198+194)=fz at*;generalize x (121+u*198+195)=qu at*;generalize x (121+u*198+197)=us at*;obtain⟨t1,d1⟩:∃t,decide (0<m)=t:=⟨_,rfl⟩;obtain⟨t2,d2⟩:∃t,decide (fz=1)=t:=⟨_,rfl⟩;rw[d1,d2]at e;rw[d2]at c1;by_cases d3:qu=0
  case' pos=>subst d3
  case' neg=>have d4:(qu==0)=bF:=by simpa using d3
  all_goals
   cases t1<;>cases t2<;>
   .go_in
    go_wp2
    go_quiet ((go_at_call 299;exact Calls.quiet_of_same (LE.v _)))
    go_wp2
    go_ret
    exact⟨da (by rw[e.v];simp[*]),_,rfl⟩
end
end Wf
namespace Wf
def mx(T L:Int):Int:=if T<L then L else T
theorem Pq(T L:Int):(if T<L then L else T)=mx T L:=rfl
attribute [local go_sem] Pq
def Ln(b:Nat)(d:Nat->Nat)(u g:Nat)(x:Nat->Int)(r:Bool)(w w':bD):Prop:=bO b w w'/\∃x',SA w' b x'/\Iv d g x'/\Ch g u x x'/\(∀j,j<64->j≠u->(0<x' (121+g*198+65+j)↔0<x (121+g*198+65+j)))/\(0<x' (121+g*198+65+u)↔r=bE)
structure In (x:Nat->Int)(u g:Nat):Prop where
 lt:u<30
 pos:u≠0
 here:x (1+u*4)=1
 qw:g<10
 sj:x (1+u*4+1)=g
section
variable {b:Nat}{d:Nat->Nat}{e u g:Nat}{x x1:Nat->Int}{w w1 w':bD}{r:Bool}
theorem Ln.same(i:Iv d e x)(he:e=u\/e=g)(n:In x u g)(h:SA w' b x)(f:bO b w w')(hr:0<x (121+g*198+65+u)↔r=bE)(rp:u<10->r=bE->0<x (121+u*198)):Ln b d u g x r w w':=
 ⟨f,x,h,i.jN he (λ_ _ _ _=>rfl) (i.q g n.qw) n.qw n.lt n.pos n.here n.sj (λ_ _ _=>Iff.rfl) (λa p=>rp a (hr.1 p)),λ_ _ _ _=>rfl,λ_ _ _=>Iff.rfl,hr⟩
theorem Ln.of(i:Iv d e x)(he:e=u\/e=g)(n:In x u g)(c:Ch g u x x1){P:Nat->Prop}(f:bO b w w1)(k:Qc b (121+g*198) x1 w1 w' P)(ot:∀j,j<64->j≠u->(P j↔0<x (121+g*198+65+j)))(hr:P u↔r=bE)(rp:u<10->r=bE->0<x (121+u*198)):Ln b d u g x r w w':=by
 obtain⟨f2,x',m,h,p,s,o,t⟩:=k;have c':Ch g u x x':=λi a a2 a3=>(o i bG).trans (c i a a2 a3);have ot':∀j,j<64->j≠u->(0<x' (121+g*198+65+j)↔0<x (121+g*198+65+j)):=λj hj ne=>(t j hj).trans (ot j hj ne);have me:=(t u (by have:=n.lt;omega)).trans hr;exact⟨f.trans f2,x',s.sa,i.jN he c' ⟨m,h,p,s.q,s.k⟩ n.qw n.lt n.pos n.here n.sj ot' (λa p=>rp a (me.1 p)),c',ot',me⟩
end
section
variable (b:Nat)(d:Nat->Nat)(x:Nat->Int)(w:bD)
theorem Dy(u g e:Nat)(h:SA w b x)(i:Iv d e x)(he:e=u\/e=g)(n:In x u g):Calls prog 241 #[ai (bB ⟨b,0,bC⟩),aa bf u] w λe w'=>e=bw (ao #[])/\Ln b d u g x (vk x u) w w':=by
 have c1:=h.i _ (oU n.lt);rw[n.sj]at c1;have l1:(u:Int)<30:=by have:=n.lt;omega
 have l2:(g:Int)<10:=by have:=n.qw;omega
 obtain⟨m,hp,pp,q1,q2⟩:=i.q g n.qw;have QQ:Hid (∀w' y,SA w' b y->(∀i,121+g*198<=i->i<121+g*198+129->y i=x i)->QS w' b (121+g*198) y m hp pp):=hJ (λw' y hy ey=>⟨hy,⟨g,n.qw,rfl⟩,⟨(ey _ bG bG).trans q1.m,λi hi=>(ey _ bG bG).trans (q1.h i hi),λi hi=>(ey _ bG bG).trans (q1.p i hi)⟩,q2⟩);have HP:Hid (x (121+g*198+65+u)=pp u):=hJ (q1.p u bG);have RP:Hid (u<10->vk x u=bE->0<x (121+u*198)):=hJ Rk;have H:=hJ (aK h (aK i (aK he n)));have RD:=hJ (λW (hW:SA W b x)=>Lm b x W u hW i.q n.lt);obtain⟨r,hr⟩:=hU (vk x u);rw[hr]at RP RD|-;clear h i he n q1 q2 hr;go_in
 go_wp2
 go_quiet (fail)
 go_wp2_with fail
 refine(Ag b _ m x hp pp _ u (QQ.v _ x (H.1.drewN _) (λ_ _ _=>rfl)) bG).mono ?_;rintro e1 w1 ⟨k,E,rfl,hE,hw1⟩;have S1:Hid (SA w1 b x/\bO b w w1):=hJ (by rw[hw1];exact⟨H.1.drewN _,(bO.refl b w).drewN _⟩);have HE:=hJ hE;clear hw1 hE;by_cases e0:E=0
 .subst e0;have PU:Hid (0<pp u):=hJ (HE.1 rfl);rw[bN];go_wp2_with fail
  go_quiet ((go_at_call 275;exact Calls.quiet_of (RD.v _ (S1.1.drewN _))))
  cases r
  .go_wp2_with fail
   refine(Gd b _ m x hp pp _ u (QQ.v _ x (S1.1.drewN _) (λ_ _ _=>rfl)) bG PU.v).mono ?_;rintro e2 w2 ⟨k2,rfl,q⟩;have FIN:Hid (Ln b d u g x bF w w2):=hJ (Ln.of H.2.1 H.2.2.1 H.2.2.2 (λ_ _ _ _=>rfl) (S1.2.drewN _) q (λj hj ne=>by simp[ne]) (by simp) RP.v);clear q;go_wp2_with fail
   go_end0
   exact⟨rfl,FIN.v⟩
  .go_wp2_with fail
   go_end0
   exact⟨rfl,Ln.same H.2.1 H.2.2.1 H.2.2.2 (S1.1.drewN _) (S1.2.drewN _) (by rw[HP.v];have:=PU.v;simp;omega) (λa _=>RP.v a trivial)⟩
 .have PU:Hid (pp u=0):=hJ (by have:=HE.v;omega);rw[bP e0];go_wp2_with fail
  go_quiet ((go_at_call 275;exact Calls.quiet_of (RD.v _ (S1.1.drewN _))))
  cases r
  .go_wp2_with fail
   go_end0
   exact⟨rfl,Ln.same H.2.1 H.2.2.1 H.2.2.2 (S1.1.drewN _) (S1.2.drewN _) (by rw[HP.v,PU.v];simp) RP.v⟩
  .go_wp2_with fail
   refine cR (λW=>SA W b x/\bO b w W) ⟨S1.1.drewN _,S1.2.drewN _⟩ ?_;clear S1 c1 e0 HE;rintro W ⟨hS,hF⟩;have c2:=hS.u _ (iF H.2.2.2.lt 3 bG);have c3:=hS.u _ (Gt H.2.2.2.qw);have cf:=hS.frozen;have S:=hJ (aK hS hF);clear hS hF;generalize x (1+u*4+3)=T at c2;generalize x (121+g*198+193)=L at c3;go_region
   go_wp2_with fail
   have k3:=iF H.2.2.2.lt 3 bG;refine cR (λW2=>SA W2 b (up x (1+u*4+3) (mx T L))/\bO b w W2) ⟨(S.1.set _ _ _ k3.1 (by rw[k3.2];rfl)).drew,(S.2.setCell _ _).drew⟩ ?_;clear c2 c3 cf S;rintro W2 ⟨hS,hF⟩;have c2:W2.cell? ⟨b,1+u*4+3,bC⟩=bB (aa bj (mx T L)):=by rw[hS.u _ k3,iu]
   have S:=hJ (aK hS hF);generalize mx T L=TL at*;have PT:Hid (∀w5,Qc b (121+g*198) (up x (1+u*4+3) TL) W2.drew w5 (λi=>0<up x (1+u*4+3) TL (121+g*198+65+i)\/i=u)->Ln b d u g x bE w w5/\w5.cell? ⟨b,1+u*4+3,bC⟩=bB (aa bj TL)):=hJ (λw5 q=>by
    refine⟨Ln.of H.2.1 H.2.2.1 H.2.2.2 (λi _ a _=>cG _ _ a) S.2.drew q (λj hj ne=>by rw[cG _ _];simp[ne]) (by simp) (λa _=>RP.v a trivial),?_⟩;obtain⟨_,x',m',h',p',s,o,_⟩:=q;rw[s.sa.u _ k3,o _ bG,iu])
   have PP:=hJ (Ri b (121+g*198) m (up x (1+u*4+3) TL) hp pp W2.drew u TL (QQ.v _ _ S.1.drew (λi _ _=>cG _ _)) bG PU.v);clear hS hF k3;go_region_held3 (λw'=>w'.cell? ⟨b,1+u*4+3,bC⟩=bB (aa bj TL)) (first|exact c2|exact c5|go_keep) ((go_at_call 276;refine sC PP.v ?_;rintro w5 q;obtain⟨l5,c5⟩:=PT.v w5 q;have FIN:=hJ l5;clear q l5))
   go_wp2_with fail
   go_end0
   exact⟨rfl,FIN.v⟩
def Wk(x x':Nat->Int):Prop:=∀i,0<i/\i<121/\(i-1)%4≠3\/121<=i/\i<2101/\(i-121)%198=195->x' i=x i
theorem Wk.refl(x:Nat->Int):Wk x x:=λ_ _=>rfl
theorem Wk.trans{x y z:Nat->Int}(h:Wk x y)(k:Wk y z):Wk x z:=λi hi=>(k i hi).trans (h i hi)
theorem Ch.wk{g u:Nat}{x x':Nat->Int}(h:Ch g u x x')(hu:u<30)(hg:g<10):Wk x x':=λi hi=>h i bG bG bG
def Ps(u:Nat)(x x':Nat->Int):Prop:=10<=u->∀g:Nat,g<10->x (1+u*4+1)=g->(0<x' (121+g*198+65+u)↔x (2101+(u-10)*2)=1)
theorem pY(u:Nat)(h:SA w b x)(i:Iv d u x)(hu:u<30)(hh:x (1+u*4)=1):Calls prog 195 #[ai (bB ⟨b,0,bC⟩),aa bf u] w λe w'=>e=bw (ao #[])/\To b w (λx'=>Iv d 0 x'/\Wk x x'/\Ps u x x') w':=by
 have H0:=hJ (aK h (aK i hh));go_in
 go_wp2
 go_loopw [1] (λi wr=>∃(v:Nat) (y:Nat->Int),i=aa bf v/\v<30/\Hid (bO b w wr/\SA wr b y/\Iv d v y/\Wk x y/\y (1+v*4)=1/\(Ps u x y/\d v<d u\/v=u/\y=x))) (λi _=>d (intOf i).toNat)
 case atStart=>exact⟨u,x,rfl,hu,bO.refl _ _,H0.1,H0.2.1,Wk.refl _,H0.2.2, .inr ⟨rfl,rfl⟩⟩
 case round=>
  obtain⟨v,y,rfl,hv,H⟩:=hrel;by_cases h0:v=0
  .subst h0;go_wp2
   go_end0
   obtain⟨h1,h2,h3,h4,_,h6⟩:=H.v;exact⟨rfl,y,h2,h1,h3,h4,h6.elim (·.1) (λe=>by rw[<-e.1];exact λq=>aZ q bG)⟩
  .have k0:((v:Int) !=0)=bE:=by rw[bne_iff_ne];omega
   obtain⟨g,g1,g2,g3,g4,_⟩:=H.2.2.1.par v hv h0 H.2.2.2.2.1;have HG:=hJ (aK g2 g3);have NN:Hid (In y v g):=hJ ⟨hv,h0,H.2.2.2.2.1,g1,g2⟩;go_wp2_with fail
   refine sC (Dy b d y _ v g v H.2.1 H.2.2.1 (.inl rfl) NN.v) ?_;rintro w1 ⟨f1,y1,s1,i1,c1,o1,m1⟩;have c0:w1.cell? ⟨b,1+v*4+1,bC⟩=bB (aa bf (g:Int)):=by rw[s1.i _ (oU hv),c1 _ bG bG bG,HG.1]
   have S1:Hid (bO b w w1/\SA w1 b y1/\Iv d g y1/\Wk x y1/\y1 (1+g*4)=1/\(Ps u x y1/\d g<d u\/g=u/\y1=x)):=hJ (by
    obtain⟨h1,h2,h3,h4,h5,h6⟩:=H.v;refine⟨h1.trans f1,s1,i1,h4.trans (c1.wk hv g1),(c1 _ bG bG bG).trans HG.2, .inl ?_⟩;rcases h6 with⟨h6,h7⟩|⟨rfl,rfl⟩
    .refine⟨λq k hk e=>(Iff.trans ?_ (h6 q k hk e)),bG⟩;have uv:u≠v:=λe=>by subst e;omega
     by_cases kg:k=g
     .subst kg;exact o1 u bG uv
     .rw[c1 _ bG bG bG]
    .refine⟨λq k hk e=>?_,g4⟩;obtain rfl:k=g:=by have:=HG.1;omega
     rw[m1];unfold vk;rw[aJ q];simp)
   have hvI:(v:Int)<30:=bG
   go_wp2
   go_roundw
   case rel=>exact⟨g,y1,rfl,bG,S1⟩
   case measure=>simp[intOf];exact g4
def bi(t:Bool):Int:=if t then 1 else 0
theorem Hi(t:Bool):ar t=V 2 (bi t):=by cases t<;>rfl
theorem rD(n:Nat)(on:Bool)(h:SA w b x)(i:Iv d 0 x)(hn:n<20)(hh:x (1+(10+n)*4)=1):Calls prog 192 #[ai (bB ⟨b,0,bC⟩),aa bf n,ar on] w λe w'=>e=bw (ao #[])/\To b w (λx'=>Iv d 0 x'/\Wk x x'/\∀g:Nat,g<10->x (1+(10+n)*4+1)=g->(0<x' (121+g*198+65+(10+n))↔on=bE)) w':=by
 have ka:=sq hn;have c1:=h.bo _ ka;have cf:=h.frozen;have hnI:(n:Int)<20:=bG
 have s1:=h.set _ (bi on) (ar on) ka.1 (by rw[ka.2];exact Hi on);have i1:Iv d (10+n) (up x (2101+n*2) (bi on)):=(i.jl (λj hj=>cG _ _ (by unfold Kc at hj;omega))).any _;have ST:=hJ (pY b d _ _ (10+n) s1 i1 bG (by rw[cG _ _];exact hh));rw[show((10+n:Nat):Int)=10+(n:Int)by omega]at ST;go_in
 go_wp2_with fail
 refine sC ST.v ?_;rintro w1 ⟨x',s,f,i',k,p⟩;have FIN:Hid (To b w (λx'=>Iv d 0 x'/\Wk x x'/\∀g:Nat,g<10->x (1+(10+n)*4+1)=g->(0<x' (121+g*198+65+(10+n))↔on=bE)) w1):=hJ ⟨x',s,((bO.refl b w).setCell _ _).trans f,i',λj a1=>(k j a1).trans (cG _ _),λg hg e=>by
  have:=p bG g hg (by rw[cG _ _];exact e);rw[show 10+n-10=n by omega,iu]at this;rw[this];cases on<;>simp[bi]⟩
 go_wp2_with fail
 go_end0
 exact⟨rfl,FIN.v⟩
end
end Wf
namespace Wf
attribute [local go_sem] Pq
section
variable (b:Nat)(d:Nat->Nat)(x:Nat->Int)(w:bD)
def NQ(x:Nat->Int):Prop:=∀g,g<10->¬0<x (121+g*198+195)
theorem M6(o m:Nat)(h p:Nat->Nat)(j:Nat)(s:QS w b o x m h p)(hj:j<64):Calls prog 272 #[ai (bB ⟨b,o,bC⟩),aa bf j] w λe w'=>∃k E,e=bw (ao #[aa bj k,bS E])/\Qc b o x w w' (λi=>0<x (o+65+i)/\i≠j):=by
 by_cases c:0<p j
 .exact(Gd b o m x h p w j s hj c).mono λe w' ⟨k,a,q⟩=>⟨k,0,a,q⟩
 .have KE:=hJ (Ag b o m x h p w j s hj);have S:=hJ s;go_in
  go_wp2_with fail
  refine KE.mono ?_;rintro e w1 ⟨k,E,rfl,hE,rfl⟩;have e0:E≠0:=bG
  have HE:=hJ (bP e0);rw[bP e0];go_wp2
  go_ret2
  refine⟨0,E,by rw[HE.v];rfl,bO.refl _ _,x,m,h,p,S.v,λ_ _=>rfl,λi hi=>⟨λq=>⟨q,?_⟩,λq=>q.1⟩⟩;rintro rfl;rw[S.q.p i hj]at q;omega
theorem Rc{u g:Nat}{x1:Nat->Int}{w1 w2:bD}{d:Nat->Nat}{b:Nat}{x:Nat->Int}{w:bD}(i:Iv d u x)(n:In x u g)(c:Ch g u x x1)(hq:∀j,j<64->x1 (121+g*198+65+j)=x (121+g*198+65+j))(f:bO b w w1)(q:Qc b (121+g*198) x1 w1 w2 (λi=>0<x1 (121+g*198+65+i)/\i≠u)):bO b w w2/\∃x2,SA w2 b x2/\Iv d g x2/\In x2 u g/\Wk x x2:=by
 obtain⟨f',x2,s2,i2,c2,_,_⟩:Ln b d u g x bF w w2:=Ln.of i (.inl rfl) n c f q (λj hj ne=>by rw[hq j hj];simp[ne]) (by simp) (λ_ e=>by cases e);have:=n.lt;have:=n.qw;exact⟨f',x2,s2,i2,⟨n.lt,n.pos,(c2 _ bG bG bG).trans n.here,n.qw,(c2 _ bG bG bG).trans n.sj⟩,c2.wk n.lt n.qw⟩
theorem Rb(u g:Nat)(h:SA w b x)(i:Iv d u x)(n:In x u g):Calls prog 235 #[ai (bB ⟨b,0,bC⟩),aa bf u] w λe w'=>e=bw (ao #[])/\To b w (λx'=>Iv d g x'/\Wk x x') w':=by
 have c1:=h.i _ (oU n.lt);rw[n.sj]at c1;have l1:(u:Int)<30:=by have:=n.lt;omega
 have l2:(g:Int)<10:=by have:=n.qw;omega
 obtain⟨m,hp,pp,q1,q2⟩:=i.q g n.qw;obtain⟨_,_,_,_,_,wp⟩:=i.par u n.lt n.pos n.here;have gu:g≠u:=by
  obtain⟨k,_,e,_,lt,_⟩:=i.par u n.lt n.pos n.here;rw[n.sj]at e;intro e2;subst e2;obtain rfl:k=g:=bG
  omega
 have CU:Hid (∀w' y,SA w' b y->(∀i,121+g*198<=i->i<121+g*198+129->y i=x i)->Calls prog 272 #[ai (bB ⟨b,121+g*198,bC⟩),aa bf u] w' λe w''=>∃k E,e=bw (ao #[aa bj k,bS E])/\Qc b (121+g*198) y w' w'' (λi=>0<y (121+g*198+65+i)/\i≠u)):=hJ (λw' y hy ey=>M6 b y w' _ m hp pp u ⟨hy,⟨g,n.qw,rfl⟩,⟨(ey _ bG bG).trans q1.m,λi hi=>(ey _ bG bG).trans (q1.h i hi),λi hi=>(ey _ bG bG).trans (q1.p i hi)⟩,q2⟩ bG);have H:=hJ (aK i (aK n (aK gu h)));have kt:=hJ (iF n.lt 3 bG);have kw:=hJ (iF n.lt 2 bG);have kf:=hJ (Gt n.qw);have z1:¬x (1+u*4+2)=0:=bG
 go_in
 go_wp2
 go_quiet (fail)
 go_wp2_with fail
 refine cR (λW=>SA W b x/\bO b w W) ⟨H.2.2.2.drewN _,(bO.refl b w).drewN _⟩ ?_;rintro W ⟨hS,hF⟩;have c2:=hS.u _ kt.v;have c3:=hS.u _ kf.v;have cf:=hS.frozen;have S:=hJ (aK hS hF);obtain⟨T,hT⟩:=hU (x (1+u*4+3));obtain⟨L,hL⟩:=hU (x (121+g*198+193));have HT:=hJ hT;rw[hT]at c2;rw[hL]at c3;go_region
 go_wp2_with fail
 refine cR (λW=>SA W b (up x (121+g*198+193) (mx L T))/\bO b w W) ⟨(S.1.set _ _ _ kf.1 (by rw[kf.2];rfl)).drew,(S.2.setCell _ _).drew⟩ ?_;rintro W ⟨hS,hF⟩;have c2:=hS.u _ kt.v;have c3:=hS.u _ kw.v;rw[cG _ _]at c2 c3;rw[HT.v]at c2;have cf:=hS.frozen;have S:=hJ (aK hS hF);generalize mx L T=ML at*;obtain⟨wt,hw⟩:=hU (x (1+u*4+2));rw[hw]at c3 z1;by_cases t:10<=u
 case' pos=>
  have h10':¬(u:Int)<10:=bG
  go_region
  go_wp2_with fail
  generalize IntKind.u64.wrap (T+_)=TT at*;have S2:Hid (SA (W.setCell ⟨b,1+u*4+3,bC⟩ (aa bj TT)).drew b (up (up x (121+g*198+193) ML) (1+u*4+3) TT)/\bO b w (W.setCell ⟨b,1+u*4+3,bC⟩ (aa bj TT)).drew/\Ch g u x (up (up x (121+g*198+193) ML) (1+u*4+3) TT)):=hJ ⟨(S.1.set _ _ _ kt.1 (by rw[kt.2];rfl)).drew,(S.2.setCell _ _).drew,λi a1 a2 a3=>by rw[cG _ _ a2,cG _ _]⟩;have EQ:Hid (∀i,121+g*198<=i->i<121+g*198+129->up (up x (121+g*198+193) ML) (1+u*4+3) TT i=x i):=hJ (λi a1 a2=>by rw[cG _ _,cG _ _])
 case' neg=>
  have h10:u<10:=bG
  have h10':(u:Int)<10:=bG
  have kq:=hJ (oV h10 195 bG);have ku:=hJ (oV h10 197 bG);have c4:=hS.i _ kq.v;have c5:=hS.i _ ku.v;generalize up x (121+g*198+193) ML (121+u*198+195)=qu at c4;generalize up x (121+g*198+193) ML (121+u*198+197)=us at c5;by_cases q0:0<qu
  case' pos=>
   go_region
   go_wp2_with fail
   go_region
   go_wp2_with fail
   generalize IntKind.u64.wrap (T+_)=TT at*;generalize wrap64 (us+1)=UU at*;have S2:Hid (SA ((W.setCell ⟨b,1+u*4+3,bC⟩ (aa bj TT)).setCell ⟨b,121+u*198+197,bC⟩ (aa bf UU)).drew.drew b (up (up (up x (121+g*198+193) ML) (1+u*4+3) TT) (121+u*198+197) UU)/\bO b w ((W.setCell ⟨b,1+u*4+3,bC⟩ (aa bj TT)).setCell ⟨b,121+u*198+197,bC⟩ (aa bf UU)).drew.drew/\Ch g u x (up (up (up x (121+g*198+193) ML) (1+u*4+3) TT) (121+u*198+197) UU)):=hJ ⟨((S.1.set _ _ _ kt.1 (by rw[kt.2];rfl)).set _ _ _ ku.1 (by rw[ku.2];rfl)).drew.drew,((S.2.setCell _ _).setCell _ _).drew.drew,λi a1 a2 a3=>by rw[cG _ _ a3,cG _ _ a2,cG _ _]⟩;have EQ:Hid (∀i,121+g*198<=i->i<121+g*198+129->up (up (up x (121+g*198+193) ML) (1+u*4+3) TT) (121+u*198+197) UU i=x i):=hJ (λi a1 a2=>by rw[cG _ _,cG _ _,cG _ _])
  case' neg=>
   go_region
   go_wp2_with fail
   generalize IntKind.u64.wrap (T+_)=TT at*;have S2:Hid (SA (W.setCell ⟨b,1+u*4+3,bC⟩ (aa bj TT)).drew b (up (up x (121+g*198+193) ML) (1+u*4+3) TT)/\bO b w (W.setCell ⟨b,1+u*4+3,bC⟩ (aa bj TT)).drew/\Ch g u x (up (up x (121+g*198+193) ML) (1+u*4+3) TT)):=hJ ⟨(S.1.set _ _ _ kt.1 (by rw[kt.2];rfl)).drew,(S.2.setCell _ _).drew,λi a1 a2 a3=>by rw[cG _ _ a2,cG _ _]⟩;have EQ:Hid (∀i,121+g*198<=i->i<121+g*198+129->up (up x (121+g*198+193) ML) (1+u*4+3) TT i=x i):=hJ (λi a1 a2=>by rw[cG _ _,cG _ _])
 all_goals
  refine(CU.v _ _ S2.1 EQ.v).mono ?_;rintro e w2 ⟨k,E,rfl,q⟩;obtain⟨f2,x2,s2,i2,n2,k2⟩:=Rc H.1 H.2.1 S2.2.2 (λj hj=>EQ.v _ bG bG) S2.2.1 q;have LN:=hJ (Dy b d x2 w2 u g g s2 i2 (.inr rfl) n2);have S3:=hJ (aK f2 k2);go_wp2_with fail
  refine sC LN.v ?_;rintro w3 ⟨f3,x3,s3,i3,c3',_,_⟩;have FIN:Hid (To b w (λx'=>Iv d g x'/\Wk x x') w3):=hJ ⟨x3,s3,S3.1.trans f3,i3,S3.2.trans (c3'.wk H.2.1.lt H.2.1.qw)⟩;go_wp2_with fail
  go_end0
  exact⟨rfl,FIN.v⟩
theorem Rr(n:Nat)(h:SA w b x)(i:Iv d 0 x)(hn:n<20)(hh:x (1+(10+n)*4)=1):Calls prog 171 #[ai (bB ⟨b,0,bC⟩),aa bf n] w λe w'=>e=bw (ao #[])/\To b w (λx'=>Iv d 0 x'/\Wk x x') w':=by
 have kr:=Cg hn;have c1:=h.i _ kr;have cf:=h.frozen;have hnI:(n:Int)<20:=bG
 have H:=hJ (aK h (aK i (aK hh kr)));generalize x (2101+n*2+1)=r at c1;go_in
 go_wp2
 go_region
 go_wp2_with fail
 generalize wrap64 (r+1)=rr at*;have H0:Hid (bO b w (w.setCell ⟨b,2101+n*2+1,bC⟩ (aa bf rr)).drew/\SA (w.setCell ⟨b,2101+n*2+1,bC⟩ (aa bf rr)).drew b (up x (2101+n*2+1) rr)/\Iv d (10+n) (up x (2101+n*2+1) rr)/\Wk x (up x (2101+n*2+1) rr)/\up x (2101+n*2+1) rr (1+(10+n)*4)=1):=hJ ⟨((bO.refl b w).setCell _ _).drew,(H.1.set _ _ _ H.2.2.2.1 (by rw[H.2.2.2.2];rfl)).drew,(H.2.1.jl (λj hj=>cG _ _ (by unfold Kc at hj;omega))).any _,λj hj=>cG _ _,by rw[cG _ _];exact H.2.2.1⟩;generalize (w.setCell ⟨b,2101+n*2+1,bC⟩ (aa bf rr)).drew=W0 at*;go_loopw [4] (λi wr=>∃(v:Nat) (y:Nat->Int),i=aa bf v/\v<30/\Hid (bO b w wr/\SA wr b y/\Iv d v y/\Wk x y/\y (1+v*4)=1)) (λi _=>d (intOf i).toNat)
 case atStart=>exact⟨10+n,_,by go_num,bG,H0⟩
 case round=>
  obtain⟨v,y,rfl,hv,H⟩:=hrel;by_cases h0:v=0
  .subst h0;go_wp2
   go_end0
   obtain⟨h1,h2,h3,h4,_⟩:=H.v;exact⟨rfl,y,h2,h1,h3,h4⟩
  .have k0:((v:Int) !=0)=bE:=by rw[bne_iff_ne];omega
   obtain⟨g,g1,g2,g3,g4,_⟩:=H.2.2.1.par v hv h0 H.2.2.2.2;have HG:=hJ (aK g2 g3);have PY:=hJ (Rb b d y wr v g H.2.1 H.2.2.1 ⟨hv,h0,H.2.2.2.2,g1,g2⟩);go_wp2_with fail
   refine sC PY.v ?_;rintro w1 ⟨y1,s1,f1,i1,k1⟩;have c0:w1.cell? ⟨b,1+v*4+1,bC⟩=bB (aa bf (g:Int)):=by rw[s1.i _ (oU hv),k1 _ bG,HG.1]
   have S1:Hid (bO b w w1/\SA w1 b y1/\Iv d g y1/\Wk x y1/\y1 (1+g*4)=1):=hJ ⟨H.1.trans f1,s1,i1,H.2.2.2.1.trans k1,(k1 _ bG).trans HG.2⟩;have hvI:(v:Int)<30:=bG
   go_wp2
   go_roundw
   case rel=>exact⟨g,y1,rfl,bG,S1⟩
   case measure=>simp[intOf];exact g4
theorem Tm(d:Nat->Nat):∀n,∃D,∀u,u<n->d u<=D
 |0=>⟨0,λu h=>aZ h bG⟩
 |n+1=>by
  obtain⟨D,h⟩:=Tm d n;refine⟨D+d n,λu hu=>?_⟩;by_cases e:u=n
  .subst e;omega
  .have:=h u bG;omega
theorem Ov(h:SA w b x)(i:Iv d 0 x):Calls prog 170 #[ai (bB ⟨b,0,bC⟩)] w λe w'=>∃r:Int,e=bw (aa bf r)/\(∃n,w'=w.drewN n)/\(r= -1/\¬0<x 121\/∃n:Nat,r=n/\n<20/\x (1+(10+n)*4)=1):=by
 obtain⟨D,hD⟩:=Tm d 30;have H:=hJ (aK h (aK i hD));clear h i hD;go_in
 go_wp2_with fail
 go_loopw [3] (λj wr=>∃(v:Nat),j=aa bf v/\v<30/\Hid ((∃n,wr=w.drewN n)/\x (1+v*4)=1/\(v=0\/∃g,g<10/\0<x (121+g*198+65+v)))) (λj _=>D-d (intOf j).toNat)
 case atStart=>exact⟨0,rfl,bG,⟨0,rfl⟩,H.2.1.rt, .inl rfl⟩
 case round=>
  obtain⟨v,rfl,hv,I⟩:=hrel;by_cases h10:v<10
  .have k0:(v:Int)<10:=bG
   obtain⟨m,hp,pp,q1,q2⟩:=H.2.1.q v h10;have Fqq:=hJ (rq b (121+v*198) m x hp pp wr ⟨by obtain⟨n,e⟩:=I.1;rw[e];exact H.1.drewN n,⟨v,h10,rfl⟩,q1,q2⟩);have QP:=hJ (aK q1.m q1.p);clear q1 q2;by_cases m0:0<m
   .rw[aO m0]at Fqq;go_wp2_with fail
    refine Fqq.mono ?_;rintro e w1 ⟨j,k,n1,rfl,hw1,hj⟩;have S1:Hid ((∃n,w1=w.drewN n)/\j<30/\x (1+j*4)=1/\0<x (121+v*198+65+j)/\d v<d j/\d j<=D):=hJ (by
     obtain⟨n,hn⟩:=I.1;obtain⟨j1,j2⟩:=hj m0;have p:0<x (121+v*198+65+j):=by rw[QP.2 j j1];omega
     obtain⟨a1,a2,a3,a4⟩:=H.2.1.mem v j h10 j1 p;obtain⟨g,b1,b2,b3,b4,_⟩:=H.2.1.par j a1 a2 a3;obtain rfl:g=v:=bG
     exact⟨⟨n+n1,by rw[hw1,hn,World.drewN_drewN]⟩,a1,a3,p,b4,H.2.2 j a1⟩)
    clear hw1 hj;go_wp2
    go_roundw
    case rel=>exact⟨j,rfl,S1.2.1,S1.1,S1.2.2.1, .inr ⟨v,h10,S1.2.2.2.1⟩⟩
    case measure=>have:=S1.2.2.2.2;simp[intOf];omega
   .rw[aT m0]at Fqq;go_wp2_with fail
    refine Fqq.mono ?_;rintro e w1 ⟨j,k,n1,rfl,hw1,_⟩;have S1:Hid ((∃n,w1=w.drewN n)/\¬0<x 121):=hJ (by
     obtain⟨n,hn⟩:=I.1;refine⟨⟨n+n1,by rw[hw1,hn,World.drewN_drewN]⟩,?_⟩;rcases I.2.2 with e|⟨g,hg,p⟩
     .subst e;have e1:x 121=m:=QP.1;omega
     .have:=H.2.1.ne g v hg h10 (H.2.1.mem g v hg bG p).2.1 p;have:=QP.1;omega)
    clear hw1;go_wp2
    go_ret
    exact⟨-1,rfl,S1.1, .inl ⟨rfl,S1.2⟩⟩
  .have k0:¬(v:Int)<10:=bG
   obtain⟨n,rfl⟩:∃n,v=10+n:=⟨v-10,bG⟩;go_wp2
   go_ret
   exact⟨_,rfl,I.1, .inr ⟨n,bG,bG,I.2.1⟩⟩
theorem Lp(h:SA w b x)(i:Iv d 0 x):Calls prog 169 #[ai (bB ⟨b,0,bC⟩)] w λe w'=>e=bw (ao #[])/\To b w (λx'=>Iv d 0 x'/\Wk x x'/\(NQ x->x'=x)) w':=by
 have H:=hJ (aK h i);go_in
 go_wp2_with fail
 go_loopw [4] (λj wr=>∃(k:Nat) (y:Nat->Int),j=aa bf k/\k<=10/\Hid (bO b w wr/\SA wr b y/\Iv d 0 y/\Wk x y/\(NQ x->y=x))) (λj _=>10-(intOf j).toNat)
 case atStart=>exact⟨0,x,rfl,bG,bO.refl _ _,H.1,H.2,Wk.refl _,λ_=>rfl⟩
 case round=>
  obtain⟨k,y,rfl,hk,H⟩:=hrel;by_cases h10:k<10
  .have k0:(k:Int)<10:=bG
   have ku:=hJ (oV h10 197 bG);have c0:=H.2.1.i 0 ⟨by omega,rfl⟩;have c1:=H.2.1.i _ (oV h10 195 bG);have c2:=H.2.1.i _ (oV h10 196 bG);have c3:=H.2.1.i _ ku.v;have cf:=H.2.1.frozen;have PE:=hJ (H.2.2.1.pe k h10);have QE:Hid (x (121+k*198+195)=y (121+k*198+195)):=hJ (H.2.2.2.1 _ bG).symm;generalize y (121+k*198+195)=qu at*;generalize y (121+k*198+197)=us at*;generalize y 0=N at*;by_cases q0:0<qu
   .have p0:=PE.v q0;have HH:=hJ p0.2;have p1:¬y (121+k*198+196)=0:=bG
    generalize y (121+k*198+196)=pe at*;obtain⟨t,ht⟩:=hU ((N.tmod pe==0));cases t
    .go_wp2_with fail
     go_quiet (fail)
     go_wp2
     go_roundw
     case rel=>exact⟨k+1,y,by go_num,bG,H.1.drewN _,H.2.1.drewN _,H.2.2⟩
     case measure=>simp[intOf];omega
    .have ST:Hid (∀nq,Calls prog 195 #[ai (bB ⟨b,0,bC⟩),aa bf k] ((wr.drewN nq).setCell ⟨b,121+k*198+197,bC⟩ (aa .i64 0)) λe w'=>e=bw (ao #[])/\To b ((wr.drewN nq).setCell ⟨b,121+k*198+197,bC⟩ (aa .i64 0)) (λx'=>Iv d 0 x'/\Wk (up y (121+k*198+197) 0) x'/\Ps k (up y (121+k*198+197) 0) x') w'):=hJ (λnq=>pY b d _ _ k ((H.2.1.drewN nq).set _ 0 _ ku.1 (by rw[ku.2];rfl)) ((H.2.2.1.jl (λj hj=>cG _ _ (by unfold Kc at hj;omega))).any k) bG (by rw[cG _ _];exact HH.v));go_wp2_with fail
     go_quiet (fail)
     go_wp2_with fail
     refine sC (ST.v _) ?_;rintro w1 ⟨y1,s1,f1,i1,k1,_⟩;have S1:Hid (bO b w w1/\SA w1 b y1/\Iv d 0 y1/\Wk x y1/\(NQ x->y1=x)):=hJ ⟨((H.1.drewN _).setCell _ _).trans f1,s1,i1,H.2.2.2.1.trans (λj hj=>(k1 j hj).trans (cG _ _)),λq=>aZ q0 (by have:=q k h10;rw[QE.v]at this;exact this)⟩;go_wp2
     go_roundw
     case rel=>exact⟨k+1,y1,by go_num,bG,S1⟩
     case measure=>simp[intOf];omega
   .have q1:decide ((0:Int)<qu)=bF:=by simp;omega
    go_wp2_with fail
    go_quiet (fail)
    go_wp2
    go_roundw
    case rel=>exact⟨k+1,y,by go_num,bG,H.1.drewN _,H.2.1.drewN _,H.2.2⟩
    case measure=>simp[intOf];omega
  .have k0:¬(k:Int)<10:=bG
   go_wp2_with fail
   go_end0
   exact⟨rfl,y,H.2.1,H.1,H.2.2⟩
theorem TV(h:SA w b x)(i:Iv d 0 x):Calls prog 95 #[ai (bB ⟨b,0,bC⟩)] w λe w'=>∃r:Int,e=bw (aa bf r)/\(r= -1/\(NQ x->¬0<x 121)\/∃n:Nat,r=n/\n<20/\x (1+(10+n)*4)=1)/\To b w (λx'=>Iv d 0 x'/\Wk x x') w':=by
 have RN:=hJ (Lp b d x w h i);go_in
 go_wp2_with fail
 refine sC RN.v ?_;rintro w1 ⟨x1,s1,f1,i1,k1,n1⟩;have c0:=s1.i 0 ⟨by omega,rfl⟩;have cf:=s1.frozen;have S1:=hJ (aK s1 (aK f1 (aK i1 (aK k1 n1))));generalize x1 0=N at c0;go_wp2_with fail
 generalize wrap64 (N+1)=NN at*;have s2:=S1.1.set 0 NN (aa bf NN) bG rfl;have i2:Iv d 0 (up x1 0 NN):=S1.2.2.1.jl (λj hj=>cG _ _ (by unfold Kc at hj;omega));have F2:=hJ (aK (S1.2.1.setCell 0 (aa bf NN)) (aK s2 i2));refine(Ov b d _ _ s2 i2).mono ?_;rintro e w2 ⟨r,rfl,hw2,hr⟩;have S2:Hid (SA w2 b (up x1 0 NN)/\bO b w w2):=hJ (by obtain⟨n,e⟩:=hw2;rw[e];exact⟨s2.drewN n,F2.1.drewN n⟩);have HR:=hJ hr;have KK:Hid (Wk x (up x1 0 NN)):=hJ (S1.2.2.2.1.trans (λj hj=>cG _ _));rcases hr with⟨rfl,h0⟩|⟨n,rfl,hn,hh⟩
 .have HH:=hJ h0;go_wp2
  go_ret
  exact⟨-1,rfl, .inl ⟨rfl,λq=>by have:=HH.v;rw[cG _ _,S1.2.2.2.2 q]at this;exact this⟩,_,S2.1,S2.2,F2.2.2,KK.v⟩
 .have z:((n:Int) != -1)=bE:=by rw[bne_iff_ne];omega
  have RU:=hJ (Rr b d _ w2 n S2.1 F2.2.2 hn hh);have HH:=hJ hh;go_wp2_with fail
  refine sC RU.v ?_;rintro w3 ⟨x3,s3,f3,i3,k3⟩;have FIN:Hid (To b w (λx'=>Iv d 0 x'/\Wk x x') w3):=hJ ⟨x3,s3,S2.2.trans f3,i3,KK.trans k3⟩;go_wp2
  go_ret
  exact⟨n,rfl, .inr ⟨n,rfl,hn,by rw[<-KK.v _ bG];exact HH.v⟩,FIN.v⟩
end
end Wf
namespace Wf
structure M where
 here:Nat->Bool
 top:Nat->Bool
 nq:Bool
 rd:Bool
def fb(f:Nat->Bool)(i:Nat)(v:Bool):Nat->Bool:=λj=>if j=i then v else f j
theorem vW(f:Nat->Bool)(i:Nat)(v:Bool):fb f i v i=v:=aJ rfl
theorem tn(f:Nat->Bool){i j:Nat}(v:Bool)(h:j≠i):fb f i v j=f j:=aI h
structure Rp (m:M)(x:Nat->Int):Prop where
 here:∀u,u<30->(x (1+u*4)=1↔m.here u=bE)
 top:∀u,u<30->m.here u=bE->m.top u=bE->x (1+u*4+1)=0
 nq:m.nq=bE->NQ x
 rd:m.rd=bE->0<x 121
def Fair(w:bD)(b:Nat)(m:M):Prop:=∃x d,SA w b x/\Iv d 0 x/\Rp m x
theorem Fair.lt{w:bD}{b:Nat}{m:M}(h:Fair w b m):b<w.heap.size:=by obtain⟨x,d,s,_⟩:=h;exact s.lt
theorem Fair.same{w w':bD}{b:Nat}{m:M}(h:Fair w b m)(e:w'.heap[b]? =w.heap[b]?):Fair w' b m:=by obtain⟨x,d,s,i⟩:=h;exact⟨x,d,s.same e,i⟩
theorem Rp.wk{m:M}{x x':Nat->Int}(h:Rp m x)(k:Wk x x')(r:Bool)(hr:r=bE->0<x' 121):Rp {m with rd:=r} x':=
 ⟨λu hu=>by rw[k _ bG];exact h.here u hu,λu hu a t=>by rw[k _ bG];exact h.top u hu a t,λq g hg=>by rw[k _ bG];exact h.nq q g hg,hr⟩
theorem Iv.put{d:Nat->Nat}{x x':Nat->Int}{u g:Nat}(h:Iv d 0 x)(hu:u<30)(u0:u≠0)(no:∀k,k<10->¬0<x (121+k*198+65+u))(na:∀v,v<30->v≠0->x (1+v*4)=1->x (1+v*4+1)≠u)(hg:g<10)(gu:g≠u)(gh:x (1+g*4)=1)(e:∀i,i<1+u*4\/1+u*4+4<=i->x' i=x i)(e0:x' (1+u*4)=1)(e1:x' (1+u*4+1)=g)(e2:0<x' (1+u*4+2))(pq:u<10->¬0<x (121+u*198+195)):Iv (λv=>if v=u then d g+1 else d v) 0 x':=by
 refine⟨λk hk=>(h.q k hk).same λi h1 h2=>e i bG,(e _ bG).trans h.rt,λv hv v0 hv1=>?_,λk j hk hj p=>?_,λk v hk hv hne p=>?_,λk hk p=>?_⟩
 .by_cases ev:v=u
  .subst ev;exact⟨g,hg,e1,(e _ bG).trans gh,by show(if g=v then _ else d g)<(if v=v then _ else _);rw[aI gu,aJ rfl];omega,e2⟩
  .rw[e _ bG]at hv1;obtain⟨k,k1,k2,k3,k4,k5⟩:=h.par v hv v0 hv1;have ku:k≠u:=λe=>na v hv v0 hv1 (by rw[k2,e]);exact⟨k,k1,(e _ bG).trans k2,(e _ bG).trans k3,by show(if k=u then _ else d k)<(if v=u then _ else d v);rw[aI ku,aI ev];exact k4,by rw[e _ bG];exact k5⟩
 .rw[e _ bG]at p;obtain⟨m1,m2,m3,m4⟩:=h.mem k j hk hj p;have ju:j≠u:=λq=>no k hk (by rw[<-q];exact p);exact⟨m1,m2,(e _ bG).trans m3,(e _ bG).trans m4⟩
 .rw[e _ bG]at p|-;exact h.ne k v hk hv hne p
 .rw[e _ bG]at p;have ku:k≠u:=λq=>pq bG (by rw[<-q];exact p);rw[e _ bG,e _ bG];exact h.pe k hk p
theorem Iv.drop{d:Nat->Nat}{x x':Nat->Int}{u:Nat}(h:Iv d 0 x)(hu:u<30)(u0:u≠0)(no:∀k,k<10->¬0<x (121+k*198+65+u))(na:∀v,v<30->v≠0->x (1+v*4)=1->x (1+v*4+1)≠u)(e:∀i,i<2101->i<1+u*4\/1+u*4+4<=i->i<121+u*198\/121+u*198+198<=i->x' i=x i)(e0:x' (1+u*4)≠1)(z:u<10->∀i,i<198->x' (121+u*198+i)=0):Iv d 0 x':=by
 have z0:u<10->∀i,121+u*198<=i->i<121+u*198+198->x' i=0:=λa i b c=>by
  have:=z a (i-(121+u*198)) bG;rwa [show 121+u*198+(i-(121+u*198))=i by omega]at this
 refine⟨λk hk=>?_,(e _ bG bG bG).trans h.rt,λv hv v0 hv1=>?_,λk j hk hj p=>?_,λk v hk hv hne p=>?_,λk hk p=>?_⟩
 .by_cases ku:k=u
  .subst ku;exact⟨0,λ_=>0,λ_=>0,⟨z0 hk _ bG bG,λi hi=>z0 hk _ bG bG,λi hi=>z0 hk _ bG bG⟩,bG,λi hi=>aZ hi bG,λj hj=>⟨by omega,λq=>aZ q bG⟩⟩
  .exact(h.q k hk).same λi h1 h2=>e i bG bG bG
 .have ev:v≠u:=λq=>e0 (by rw[<-q];exact hv1);rw[e _ bG bG bG]at hv1;obtain⟨k,k1,k2,k3,k4,k5⟩:=h.par v hv v0 hv1;have ku:k≠u:=λe=>na v hv v0 hv1 (by rw[k2,e]);exact⟨k,k1,(e _ bG bG bG).trans k2,(e _ bG bG bG).trans k3,k4,by rw[e _ bG bG bG];exact k5⟩
 .have ku:k≠u:=λq=>by subst q;rw[z0 hk _ bG bG]at p;omega
  rw[e _ bG bG bG]at p;obtain⟨m1,m2,m3,m4⟩:=h.mem k j hk hj p;have ju:j≠u:=λq=>no k hk (by rw[<-q];exact p);exact⟨m1,m2,(e _ bG bG bG).trans m3,(e _ bG bG bG).trans m4⟩
 .have ku:k≠u:=λq=>by subst q;rw[z0 hk _ bG bG]at p;omega
  rw[e _ bG bG bG]at p;have vu:v≠u:=λq=>no k hk (by rw[<-q];exact p);rw[e _ bG bG bG];exact h.ne k v hk hv hne p
 .have ku:k≠u:=λq=>by subst q;rw[z0 hk _ bG bG]at p;omega
  rw[e _ bG bG bG]at p;rw[e _ bG bG bG,e _ bG bG bG];exact h.pe k hk p
def mS(m:M)(z:Int):Int:=if z<0\/10<=z then 1 else if m.here z.toNat then 0 else 2
def mH(m:M)(z:Int):Int:=if z<0\/20<=z then 1 else if m.here (10+z.toNat)then 0 else 2
theorem ry{m:M}{z:Int}(h:mS m z=0):∃n:Nat,z=n/\n<10/\m.here n=bE:=by
 unfold mS at h;split at h
 .omega
 .obtain⟨n,rfl⟩:=aG (show 0<=z by omega);refine⟨n,rfl,bG,?_⟩;rw[hZ]at h;split at h
  .assumption
  .omega
theorem rI{m:M}{z:Int}(h:mH m z=0):∃n:Nat,z=n/\n<20/\m.here (10+n)=bE:=by
 unfold mH at h;split at h
 .omega
 .obtain⟨n,rfl⟩:=aG (show 0<=z by omega);refine⟨n,rfl,bG,?_⟩;rw[hZ]at h;split at h
  .assumption
  .omega
section
variable (b:Nat)(m:M)(w:bD)
theorem Fair.cell{w:bD}{b:Nat}{m:M}(h:Fair w b m)(u:Nat)(hu:u<30):w.cell? ⟨b,1+u*4,bC⟩=bB (ar (m.here u)):=by
 obtain⟨x,d,s,_,r⟩:=h;rw[s.bo _ (qA hu)];have:=r.here u hu;cases e:m.here u<;>simp_all
theorem lZ(z:Int)(h:Fair w b m):Calls prog 189 #[ai (bB ⟨b,0,bC⟩),aa bf z] w λe w'=>e=bw (bS (mS m z))/\w'=w:=by
 by_cases k:z<0
 .have E:Hid (mS m z=1):=hJ (aJ (.inl k));go_in
  go_wp2
  go_ret
  rw[E.v];exact⟨rfl,rfl⟩
 .have k0:decide (z<0)=bF:=by simp;omega
  by_cases k1:10<=z
  .have E:Hid (mS m z=1):=hJ (aJ (.inr k1));go_in
   go_wp2
   go_ret
   rw[E.v];exact⟨rfl,rfl⟩
  .obtain⟨n,rfl⟩:=aG (show 0<=z by omega);have c:=h.cell n bG;have E:Hid (mS m n=if m.here n then 0 else 2):=hJ (nJ);have hn:(n:Int)<30:=bG
   generalize m.here n=t at*;cases t<;>
   .go_in
    go_wp2
    go_ret
    rw[E.v];exact⟨rfl,rfl⟩
theorem mQ(z:Int)(h:Fair w b m):Calls prog 135 #[ai (bB ⟨b,0,bC⟩),aa bf z] w λe w'=>e=bw (bS (mH m z))/\w'=w:=by
 by_cases k:z<0
 .have E:Hid (mH m z=1):=hJ (aJ (.inl k));go_in
  go_wp2
  go_ret
  rw[E.v];exact⟨rfl,rfl⟩
 .have k0:decide (z<0)=bF:=by simp;omega
  by_cases k1:20<=z
  .have E:Hid (mH m z=1):=hJ (aJ (.inr k1));go_in
   go_wp2
   go_ret
   rw[E.v];exact⟨rfl,rfl⟩
  .obtain⟨n,rfl⟩:=aG (show 0<=z by omega);have c:=h.cell (10+n) bG;have E:Hid (mH m n=if m.here (10+n)then 0 else 2):=hJ (nJ);have hn:10+(n:Int)<30:=bG
   have hn0:(0:Int)<=10+(n:Int):=bG
   have hw:IntKind.i64.wrap (10+(n:Int))=10+(n:Int):=aN _ ⟨by omega,bG⟩;generalize m.here (10+n)=t at*;cases t<;>
   .go_in
    go_wp2
    go_ret
    rw[E.v];exact⟨rfl,rfl⟩
theorem wS(g x:Int):Calls prog 193 #[aa bf g,aa bj x] w λe w'=>e=bw (au #[ar bE,aa bf g,aa bj x,aa bj 0])/\Below w.heap.size w w':=by
 go_in
 go_wp2
 refine bodyPost_ret (v:=au #[ar bE,aa bf g,aa bj x,aa bj 0]) (by simp[results,Tryz.results193,go_sem]) rfl ⟨rfl,(aQ _ _).alloc (aL _) _⟩
theorem SA.four{w:bD}{b:Nat}{x:Nat->Int}(h:SA w b x)(u:Nat)(hu:u<30)(t:Bool)(g wt tm:Int):SA ((((w.setCell ⟨b,1+u*4,bC⟩ (ar t)).setCell ⟨b,1+u*4+1,bC⟩ (aa bf g)).setCell ⟨b,1+u*4+2,bC⟩ (aa bj wt)).setCell ⟨b,1+u*4+3,bC⟩ (aa bj tm)) b (up (up (up (up x (1+u*4) (bi t)) (1+u*4+1) g) (1+u*4+2) wt) (1+u*4+3) tm):=
 have a0:=qA hu;have a1:=oU hu;have a2:=iF hu 2 bG;have a3:=iF hu 3 bG
 (((h.set _ _ _ a0.1 (by rw[a0.2];exact Hi t)).set _ _ _ a1.1 (by rw[a1.2];rfl)).set _ _ _ a2.1 (by rw[a2.2];rfl)).set _ _ _ a3.1 (by rw[a3.2];rfl)
def sU(m:M)(u:Nat)(g:Int):M:=if m.here u=bF/\mS m g=0 then{m with here:=fb m.here u bE,top:=fb m.top u (decide (g=0))}else m
theorem Rp.new{m:M}{x x':Nat->Int}(h:Rp m x){u:Nat}{g:Int}(hu:u<30)(u0:u≠0)(e:∀i,i<1+u*4\/1+u*4+4<=i->x' i=x i)(e0:x' (1+u*4)=1)(e1:x' (1+u*4+1)=g):Rp {m with here:=fb m.here u bE,top:=fb m.top u (decide (g=0))} x':=by
 refine⟨λv hv=>?_,λv hv a t=>?_,λq k hk=>by rw[e _ bG];exact h.nq q k hk,λq=>by rw[e _ bG];exact h.rd q⟩
 .by_cases ev:v=u
  .subst ev;show _↔fb m.here v bE v=bE;rw[vW];simp[e0]
  .show _↔fb m.here u bE v=bE;rw[tn _ _ ev,e _ bG];exact h.here v hv
 .by_cases ev:v=u
  .subst ev;rw[e1];have t':fb m.top v (decide (g=0)) v=bE:=t;rw[vW]at t';simpa using t'
  .have a':fb m.here u bE v=bE:=a;have t':fb m.top u (decide (g=0)) v=bE:=t;rw[tn _ _ ev]at a' t';rw[e _ bG];exact h.top v hv a' t'
theorem vS(u:Nat)(z g wt:Int)(hz:z=u)(h:Fair w b m)(hu:u<30)(hw:1<=wt/\wt<=1000):Calls prog 187 #[ai (bB ⟨b,0,bC⟩),aa bf z,aa bf g,aa bf wt] w λe w'=>(∃E,e=bw (bS E))/\Fair w' b (sU m u g)/\bO b w w':=by
 subst hz;have d1:decide (wt<1)=bF:=by simp;omega
 have d2:¬(1000:Int)<wt:=bG
 have c1:=h.cell u hu;have hlt:(u:Int)<30:=bG
 have WG:=hJ (lZ b m w g h);have H:=hJ h;have HW:=hJ hw;obtain⟨t,ht⟩:=hU (m.here u);rw[ht]at c1;have T:=hJ ht;cases t
 .have u0:u≠0:=by
   rintro rfl;obtain⟨x,d,_,i,r⟩:=H.v;have:=(r.here 0 bG).1 i.rt;rw[T.v]at this;cases this
  go_in
  go_wp2_with fail
  refine cN WG.v ?_;by_cases e:mS m g=0
  .have E:=hJ e;obtain⟨k,rfl,hk,hh⟩:=ry e;have HK:=hJ hh;have HL:=hJ H.lt;rw[e,bN];go_wp2_with fail
   obtain⟨x,d,s,i,r⟩:=H.v;have SI:=hJ (aK s (aK i r));go_region_held3 (λ_=>True) (trivial) ((go_at_call 193;refine(wS _ _ _).mono ?_;rintro e w2 ⟨rfl,b2⟩;have s2:SA w2 b x:=SI.1.drew.same (b2.block b HL.v);have t0:=s2.bo _ (qA hu);have t1:=s2.i _ (oU hu);have t2:=s2.u _ (iF hu 2 bG);have t3:=s2.u _ (iF hu 3 bG);have cf:=s2.frozen;have B2:=hJ (aK s2 ((bO.refl b w).drew.trans (bO.cO b2)))))
   generalize hwt:IntKind.u64.wrap wt=ww at*;have FIN:Hid (Fair ((((w2.setCell ⟨b,1+u*4,bC⟩ (ar bE)).setCell ⟨b,1+u*4+1,bC⟩ (aa bf (k:Int))).setCell ⟨b,1+u*4+2,bC⟩ (aa bj ww)).setCell ⟨b,1+u*4+3,bC⟩ (aa .u64 0)) b (sU m u k)/\bO b w ((((w2.setCell ⟨b,1+u*4,bC⟩ (ar bE)).setCell ⟨b,1+u*4+1,bC⟩ (aa bf (k:Int))).setCell ⟨b,1+u*4+2,bC⟩ (aa bj ww)).setCell ⟨b,1+u*4+3,bC⟩ (aa .u64 0))):=hJ (by
    obtain⟨s,i,r⟩:=SI.v;obtain⟨s2,b2⟩:=B2.v;have uh:¬x (1+u*4)=1:=λq=>by have:=(r.here u hu).1 q;rw[T.v]at this;cases this
    have kh:=(r.here k bG).2 HK.v;have ku:k≠u:=λq=>uh (by rw[<-q];exact kh);have w0:0<ww:=by
     rw[<-hwt,IntWalk.u64_in _ ⟨by have:=HW.v;omega,by have:=HW.v;omega⟩];have:=HW.v;omega
    have e:∀i,i<1+u*4\/1+u*4+4<=i->up (up (up (up x (1+u*4) (bi bE)) (1+u*4+1) k) (1+u*4+2) ww) (1+u*4+3) 0 i=x i:=λi hi=>by rw[cG _ _,cG _ _,cG _ _,cG _ _]
    have e0:up (up (up (up x (1+u*4) (bi bE)) (1+u*4+1) k) (1+u*4+2) ww) (1+u*4+3) 0 (1+u*4)=1:=by rw[cG _ _,cG _ _,cG _ _,iu];rfl
    have e1:up (up (up (up x (1+u*4) (bi bE)) (1+u*4+1) k) (1+u*4+2) ww) (1+u*4+3) 0 (1+u*4+1)=k:=by rw[cG _ _,cG _ _,iu]
    unfold sU;rw[aJ ⟨T.v,E.v⟩];refine⟨⟨_,_,s2.four u hu bE k ww 0,i.put hu u0 (λq hq p=>uh (i.mem q u hq bG p).2.2.1) (λv hv v0 hv1 q=>?_) hk ku kh e e0 e1 (by rw[cG _ _,iu];exact w0) (λq p=>uh (i.pe u q p).2),r.new hu u0 e e0 e1⟩,(((b2.setCell _ _).setCell _ _).setCell _ _).setCell _ _⟩;obtain⟨j,_,j2,j3,_⟩:=i.par v hv v0 hv1;rw[q]at j2;exact uh (by rw[show u=j by omega];exact j3))
   go_wp2
   go_ret
   exact⟨⟨0,rfl⟩,FIN.v⟩
  .have E0:Hid (sU m u g=m):=hJ (aI λq=>e q.2);have EV:=hJ (bP e);rw[bP e];go_wp2
   go_ret
   rw[E0.v];exact⟨⟨mS m g,by rw[EV.v];rfl⟩,H.v,bO.refl b w⟩
 .have E0:Hid (sU m u g=m):=hJ (aI λq=>by have:=q.1;rw[T.v]at this;cases this);go_in
  go_wp2
  go_ret
  rw[E0.v];exact⟨⟨3,rfl⟩,H.v,bO.refl b w⟩
def eA(m:M)(z g:Int):M:=if 0<=z/\z<20 then sU m (10+z.toNat) g else m
theorem EU(z g wt:Int)(h:Fair w b m)(hw:1<=wt/\wt<=1000):Calls prog 143 #[ai (bB ⟨b,0,bC⟩),aa bf z,aa bf g,aa bf wt] w λe w'=>(∃E,e=bw (bS E))/\Fair w' b (eA m z g)/\bO b w w':=by
 have H:=hJ h;by_cases k:0<=z/\z<20
 .obtain⟨n,rfl⟩:=aG k.1;have AD:=hJ (vS b m w (10+n) (10+(n:Int)) g wt bG h bG hw);have E:Hid (eA m n g=sU m (10+n) g):=hJ (aJ k);have k1:¬(20:Int)<=(n:Int):=bG
  have hwr:IntKind.i64.wrap (10+(n:Int))=10+(n:Int):=aN _ ⟨by omega,bG⟩;rw[E.v];go_in
  go_wp2_with fail
  refine AD.mono ?_;rintro e w1 ⟨⟨E1,rfl⟩,f1,r1⟩;have FIN:=hJ (aK f1 r1);go_wp2
  go_ret
  exact⟨⟨E1,rfl⟩,FIN.v⟩
 .have E:Hid (eA m z g=m):=hJ (aI k);rw[E.v];by_cases k0:z<0
  case' pos=>have k1:decide (z<0)=bE:=by simpa using k0
  case' neg=>
   have k1:decide (z<0)=bF:=by simpa using k0
   have k2:20<=z:=bG
  all_goals
   go_in
   go_wp2
   go_ret
   exact⟨⟨1,rfl⟩,H.v,bO.refl b w⟩
end
end Wf
namespace Wf
def Ce(m:M)(z:Int):M:=if mH m z=0 then{m with here:=fb m.here (10+z.toNat) bF,rd:=false}else m
def wD(m:M)(z:Int)(on:Bool):M:={m with rd:=on&&(decide (mH m z=0)&&m.top (10+z.toNat))}
def jw(m:M)(z:Int)(on:Bool)(m':M):Prop:=m'=wD m z on
def Jq(m:M)(z:Int)(m':M):Prop:=m'=Ce m z
def SG(m m':M):Prop:=∀n,m'.here (10+n)=bE->m.here (10+n)=bE
theorem SG.refl(m:M):SG m m:=λ_ h=>h
def Ct(m:M)(r:Int)(m':M):Prop:=m'={m with rd:=false}/\(r= -1/\¬(m.nq=bE/\m.rd=bE)\/∃n:Nat,r=n/\n<20/\m.here (10+n)=bE)
theorem Rp.gone{m:M}{x x':Nat->Int}(h:Rp m x){u:Nat}(e:∀i,i<2101->i<1+u*4\/1+u*4+4<=i->i<121+u*198\/121+u*198+198<=i->x' i=x i)(e0:x' (1+u*4)≠1)(hu:u<30)(z:u<10->∀i,i<198->x' (121+u*198+i)=0):Rp {m with here:=fb m.here u bF,rd:=false} x':=by
 refine⟨λv hv=>?_,λv hv a t=>?_,λq k hk=>?_,λq=>by cases q⟩
 .by_cases ev:v=u
  .subst ev;show _↔fb m.here v bF v=bE;rw[vW];simp[e0]
  .show _↔fb m.here u bF v=bE;rw[tn _ _ ev,e _ bG bG bG];exact h.here v hv
 .have a':fb m.here u bF v=bE:=a;by_cases ev:v=u
  .subst ev;rw[vW]at a';cases a'
  .rw[tn _ _ ev]at a';rw[e _ bG bG bG];exact h.top v hv a' t
 .by_cases ku:k=u
  .subst ku;rw[z hk 195 bG];omega
  .rw[e _ bG bG bG];exact h.nq q k hk
section
variable (b:Nat)(m:M)(w:bD)
theorem C8(z:Int)(h:Fair w b m):Calls prog 223 #[ai (bB ⟨b,0,bC⟩),aa bf z] w λe w'=>(∃E,e=bw (bS E))/\Fair w' b (Ce m z)/\bO b w w':=by
 have WT:=hJ (mQ b m w z h);have H:=hJ h;by_cases e:mH m z=0
 .have E:Hid (Ce m z={m with here:=fb m.here (10+z.toNat) bF,rd:=false}):=hJ (aJ e);rw[e,bN]at WT;obtain⟨n,rfl,hn,hh⟩:=rI e;rw[E.v,hZ];obtain⟨x,d,s,i,r⟩:=h;have SI:=hJ (aK i r);have RO:=hJ (rD b d x w n bF s i hn ((r.here _ bG).2 hh));have hnI:(n:Int)<20:=bG
  have h30:(10:Int)+(n:Int)<30:=bG
  have h00:(0:Int)<=10+(n:Int):=bG
  have hwr:IntKind.i64.wrap (10+(n:Int))=10+(n:Int):=aN _ ⟨by omega,bG⟩;go_in
  go_wp2_with fail
  refine cN WT.v ?_;go_wp2_with fail
  refine RO.mono ?_;rintro e w1 ⟨rfl,x1,s1,f1,i1,k1,p1⟩;have hu:10+n<30:=bG
  have c0:=s1.bo _ (qA hu);have c1:=s1.i _ (oU hu);have c2:=s1.u _ (iF hu 2 bG);have c3:=s1.u _ (iF hu 3 bG);have c4:=s1.bo _ (sq hn);have c5:=s1.i _ (Cg hn);have cf:=s1.frozen;have S1:=hJ (aK s1 (aK f1 (aK i1 (aK k1 p1))));go_wp2_with fail
  go_region
  generalize hW2:World.drew _=W2;have F2:Hid (Fair W2 b {m with here:=fb m.here (10+n) bF,rd:=false}/\bO b w W2):=hJ (by
   obtain⟨s1,f1,i1,k1,p1⟩:=S1.v;have a4:=sq hn;have a5:=Cg hn;have s2:=(((s1.four (10+n) hu bF 0 0 0).set _ (bi bF) (ar bF) a4.1 (by rw[a4.2];exact Hi bF)).set _ 0 (aa .i64 0) a5.1 (by rw[a5.2];rfl)).drew;rw[<-hW2];have r1:=SI.2.wk k1 bF (λq=>by cases q);have ee:∀j,j<2101->j<1+(10+n)*4\/1+(10+n)*4+4<=j->j<121+(10+n)*198\/121+(10+n)*198+198<=j->up (up (up (up (up (up x1 (1+(10+n)*4) (bi bF)) (1+(10+n)*4+1) 0) (1+(10+n)*4+2) 0) (1+(10+n)*4+3) 0) (2101+n*2) (bi bF)) (2101+n*2+1) 0 j=x1 j:=λj a1 a2 a3=>by rw[cG _ _,cG _ _,cG _ _,cG _ _,cG _ _,cG _ _]
   have e0:up (up (up (up (up (up x1 (1+(10+n)*4) (bi bF)) (1+(10+n)*4+1) 0) (1+(10+n)*4+2) 0) (1+(10+n)*4+3) 0) (2101+n*2) (bi bF)) (2101+n*2+1) 0 (1+(10+n)*4)≠1:=by rw[cG _ _,cG _ _,cG _ _,cG _ _,cG _ _,iu];decide
   refine⟨⟨_,d,s2,i1.drop hu bG (λk hk q=>?_) (λv hv v0 hv1 q=>?_) ee e0 (λq=>aZ q bG),r1.gone ee e0 hu (λq=>aZ q bG)⟩,((((((f1.setCell _ _).setCell _ _).setCell _ _).setCell _ _).setCell _ _).setCell _ _).drew⟩
   .have:=(p1 k hk (by rw[<-k1 _ bG];exact(i1.mem k _ hk bG q).2.2.2)).1 q;cases this
   .obtain⟨j,j1,j2,_⟩:=i1.par v hv v0 hv1;omega)
  go_wp2
  go_ret
  exact⟨⟨0,rfl⟩,F2.v⟩
 .have E:Hid (Ce m z=m):=hJ (aI e);have EV:=hJ (bP e);rw[bP e]at WT;rw[E.v];go_in
  go_wp2_with fail
  refine cN WT.v ?_;go_wp2
  go_ret
  exact⟨⟨mH m z,by rw[EV.v];rfl⟩,H.v,bO.refl b w⟩
theorem Ez(z:Int)(on:Bool)(h:Fair w b m):Calls prog 118 #[ai (bB ⟨b,0,bC⟩),aa bf z,ar on] w λe w'=>(∃E,e=bw (bS E))/\Fair w' b (wD m z on)/\bO b w w':=by
 have WT:=hJ (mQ b m w z h);obtain⟨x,d,s,i,r⟩:=h;have SI:=hJ (aK s (aK i r));by_cases e:mH m z=0
 .have e':=hJ e;rw[e,bN]at WT;obtain⟨n,rfl,hn,hh⟩:=rI e;have HH:=hJ hh;have RO:=hJ (rD b d x w n on s i hn ((r.here _ bG).2 hh));go_in
  go_wp2_with fail
  refine cN WT.v ?_;go_wp2_with fail
  refine RO.mono ?_;rintro e w1 ⟨rfl,x1,s1,f1,i1,k1,p1⟩;have FIN:Hid (Fair w1 b (wD m n on)/\bO b w w1):=hJ ⟨⟨x1,d,s1,i1,SI.2.2.wk k1 _ (λq=>by
   simp only[Bool.and_eq_true]at q;have t:=SI.2.2.top (10+n) bG HH.v q.2.2;exact(i1.q 0 bG).pos (j:=10+n) bG ((p1 0 bG t).2 q.1))⟩,f1⟩
  go_wp2
  go_ret
  exact⟨⟨0,rfl⟩,FIN.v⟩
 .have EV:=hJ (aK (bP e) e);rw[bP e]at WT;go_in
  go_wp2_with fail
  refine cN WT.v ?_;go_wp2
  go_ret
  exact⟨⟨mH m z,by rw[EV.1];rfl⟩,⟨x,d,SI.1,SI.2.1,SI.2.2.wk (Wk.refl x) _ (λq=>by simp[EV.2]at q)⟩,bO.refl b w⟩
theorem OT(h:Fair w b m):Calls prog 95 #[ai (bB ⟨b,0,bC⟩)] w λe w'=>∃r m',e=bw (aa bf r)/\Ct m r m'/\Fair w' b m'/\bO b w w':=by
 obtain⟨x,d,s,i,r⟩:=h;refine(TV b d x w s i).mono ?_;rintro e w' ⟨z,rfl,hz,x',s',f',i',k'⟩;refine⟨z,_,rfl,⟨rfl,?_⟩,⟨x',d,s',i',r.wk k' bF (λq=>by cases q)⟩,f'⟩;rcases hz with⟨rfl,q⟩|⟨n,rfl,hn,hh⟩
 .exact .inl ⟨rfl,λa=>q (r.nq a.1) (r.rd a.2)⟩
 .exact .inr ⟨n,rfl,hn,(r.here _ bG).1 hh⟩
def m0:M:=⟨λu=>decide (u=0),λ_=>bF,bE,bF⟩
def zA:Array Value:=((List.range 2141).map λi=>V (K i) 0).toArray
theorem zJ(i:Nat)(h:i<2141):zA[i]? =bB (V (K i) 0):=by simp[zA,h]
theorem zero_eq:Tryz.zeroCells173=zA:=by kernel_rfl
theorem su:Calls prog 85 #[] w λe w'=>e=bw (ai (bB ⟨w.heap.size,0,bC⟩))/\Fair w' w.heap.size m0/\Below w.heap.size w w'/\w.heap.size<w'.heap.size:=by
 have Z:(w.alloc (bA Tryz.zeroCells173 173)).heap[w.heap.size]? =bB (bA zA 173 (0,0)):=by
  rw[zero_eq];exact heap_alloc_new w _
 have Z2:(w.alloc (bA ((((Tryz.zeroCells173.setIfInBounds 1 (ar bE)).setIfInBounds 2 (aa bf (-1))).setIfInBounds 3 (aa IntKind.u64 0)).setIfInBounds 4 (aa IntKind.u64 0)) 173)).heap[w.heap.size]? =bB (bA ((((zA.setIfInBounds 1 (ar bE)).setIfInBounds 2 (aa bf (-1))).setIfInBounds 3 (aa IntKind.u64 0)).setIfInBounds 4 (aa IntKind.u64 0)) 173 (0,0)):=by
  rw[zero_eq];exact heap_alloc_new w _
 have FIN:Hid (Fair (w.alloc (bA ((((Tryz.zeroCells173.setIfInBounds 1 (ar bE)).setIfInBounds 2 (aa bf (-1))).setIfInBounds 3 (aa IntKind.u64 0)).setIfInBounds 4 (aa IntKind.u64 0)) 173)) w.heap.size m0):=hJ (by
  have h0:SA (w.alloc (bA Tryz.zeroCells173 173)) w.heap.size (λ_=>0):=⟨⟨_,Z,by simp[zA]⟩,λi hi=>by rw[cA Z,zJ i hi]⟩;have h:=h0.four 0 bG bE (-1) 0 0;have e:∀i,i=0\/5<=i->up (up (up (up (λ_=>0) (1+0*4) (bi bE)) (1+0*4+1) (-1)) (1+0*4+2) 0) (1+0*4+3) 0 i=0:=λi hi=>by rw[cG _ _,cG _ _,cG _ _,cG _ _]
  have e1:up (up (up (up (λ_=>0) (1+0*4) (bi bE)) (1+0*4+1) (-1)) (1+0*4+2) 0) (1+0*4+3) 0 1=1:=rfl;refine Fair.same (w:=((((w.alloc (bA Tryz.zeroCells173 173)).setCell ⟨w.heap.size,1+0*4,bC⟩ (ar bE)).setCell ⟨w.heap.size,1+0*4+1,bC⟩ (aa bf (-1))).setCell ⟨w.heap.size,1+0*4+2,bC⟩ (aa .u64 0)).setCell ⟨w.heap.size,1+0*4+3,bC⟩ (aa .u64 0)) ⟨_,λ_=>0,h,⟨λg hg=>?_,e1,λu hu u0 p=>?_,λg j hg hj p=>?_,λg u hg hu _ p=>?_,λg hg p=>?_⟩,⟨λu hu=>?_,λu hu a t=>(by cases t),λ_ g hg=>?_,λq=>(by cases q)⟩⟩ ?_
  .exact⟨0,λ_=>0,λ_=>0,⟨e _ bG,λi hi=>e _ bG,λi hi=>e _ bG⟩,bG,λi hi=>aZ hi bG,λj hj=>⟨by omega,λq=>aZ q bG⟩⟩
  .rw[e _ bG]at p;omega
  .rw[e _ bG]at p;omega
  .rw[e _ bG]at p;omega
  .rw[e _ bG]at p;omega
  .show _↔decide (u=0)=bE;by_cases u0:u=0
   .subst u0;simp[e1]
   .rw[e _ bG];simp[u0]
  .rw[e _ bG];omega
  .rw[Z2,cT (cT (cT (cT Z 1 _) 2 _) 3 _) 4 _])
 go_in
 go_wp2
 go_ret
 exact⟨rfl,FIN.v,(aQ _ _).alloc (aL _) _,by simp⟩
end
end Wf
namespace Sg
structure S1 where
 wt:Bool
 hd:Bool
 hw:Int
def gC:Nat->S1:=λ_=>⟨bF,bF,0⟩
def put(X:Nat->S1)(n:Nat)(x:S1):Nat->S1:=λm=>if m=n then x else X m
theorem bR(X:Nat->S1)(n:Nat)(x:S1):put X n x n=x:=aJ rfl
theorem cr(X:Nat->S1)(n:Nat)(x:S1)(m:Nat)(h:m≠n):put X n x m=X m:=aI h
theorem gO(X:Nat->S1)(n:Nat)(x y:S1):put (put X n x) n y=put X n y:=by
 funext m;unfold put;split<;>rfl
def pQ(z h:Int):Bool:=decide (h=1)||(decide (z=3)&&decide (h=0))
def cQ(z:Int):Int:=if z<1\/8<z then 1 else 0
def kW(z:Int):Int:=if cQ z≠0 then 1 else if z=1 then 8 else 0
def jD(z h:Int):Int:=if cQ z≠0 then 1 else if h<0\/2<h then 1 else if z=1 then 8 else 0
def mE(X:Nat->S1)(z:Int):Nat->S1:=if cQ z=0 then put X z.toNat ⟨!pQ z (X z.toNat).hw,(X z.toNat).hd,(X z.toNat).hw⟩else X
def oB(X:Nat->S1)(z:Int)(on:Bool):Nat->S1:=if kW z=0 then put X z.toNat ⟨(X z.toNat).wt,on,(X z.toNat).hw⟩else X
def mu(X:Nat->S1)(z h:Int):Nat->S1:=if jD z h=0 then put X z.toNat ⟨(X z.toNat).wt&& !pQ z h,(X z.toNat).hd,h⟩else X
def ok(X:Nat->S1)(h:Int)(n:Nat):Bool:=(X n).wt&& !(X n).hd&&decide ((X n).hw=h)
def fw(X:Nat->S1)(h:Int)(n:Nat):Prop:=(n=0/\∀j,1<=j->j<=8->ok X h j=bF)\/(1<=n/\n<=8/\ok X h n=bE/\∀j,1<=j->j<n->ok X h j=bF)
theorem fw.unique{X:Nat->S1}{h:Int}{n m:Nat}(a:fw X h n)(b:fw X h m):n=m:=by
 rcases a with⟨a0,a1⟩|⟨a1,a2,a3,a4⟩
 .rcases b with⟨b0,_⟩|⟨b1,b2,b3,_⟩
  .omega
  .rw[a1 m b1 b2]at b3;cases b3
 .rcases b with⟨b0,b1⟩|⟨b1,b2,b3,b4⟩
  .rw[b1 n a1 a2]at a3;cases a3
  .rcases Nat.lt_trichotomy n m with c|c|c
   .rw[b4 n a1 c]at a3;cases a3
   .exact c
   .rw[a4 m b1 c]at b3;cases b3
theorem fw.le{X:Nat->S1}{h:Int}{n:Nat}(a:fw X h n):n<=8:=by
 rcases a with⟨a,_⟩|⟨_,a,_⟩<;>omega
def vp(X:Nat->S1)(n:Nat):Nat->S1:=if n=0 then X else put X n ⟨bF,(X n).hd,(X n).hw⟩
def qo(X:Nat->S1):Nat->S1:=λn=>⟨bF,(X n).hd,(X n).hw⟩
theorem yL{z:Int}(h:z<1\/8<z):cQ z=1:=aJ h
theorem fE{z:Int}(h1:1<=z)(h2:z<=8):cQ z=0:=nJ
theorem Pn{z:Int}(h:cQ z=0):1<=z/\z<=8:=by
 unfold cQ at h;split at h<;>omega
theorem Vs{z:Int}(h:kW z=0):1<z/\z<=8:=by
 unfold kW at h;by_cases c:cQ z=0
 .have:=Pn c;rw[aI (λd=>d c)]at h;by_cases d:z=1
  .rw[aJ d]at h;omega
  .omega
 .rw[aJ c]at h;omega
theorem SM{z k:Int}(h:jD z k=0):1<z/\z<=8/\0<=k/\k<=2:=by
 unfold jD at h;by_cases c:cQ z=0
 .have:=Pn c;rw[aI (λd=>d c)]at h;by_cases e:k<0\/2<k
  .rw[aJ e]at h;omega
  .rw[aI e]at h;by_cases d:z=1
   .rw[aJ d]at h;omega
   .omega
 .rw[aJ c]at h;omega
def eF(x:S1):Nat->Value
 |0=>ar x.wt
 |1=>ar x.hd
 |_=>aa bf x.hw
end Sg
open Sg (S1)
structure CX (w:bD)(b:Nat)(X:Nat->S1):Prop where
 dk:∃C T,w.heap[b]? =bB (bA C T (0,0))/\C.size=24
 eF:∀i,i<8->∀j,j<3->w.cell? ⟨b,i*3+j,bC⟩=bB (Sg.eF (X (i+1)) j)
section
variable {w w':bD}{b:Nat}{X:Nat->S1}
theorem CX.lt(h:CX w b X):b<w.heap.size:=by
 obtain⟨C,T,e,_⟩:=h.dk;exact(aX.1 e).1
theorem CX.frozen(h:CX w b X)(o:Nat):w.frozen? ⟨b,o,bC⟩=bF:=by
 obtain⟨C,T,e,_⟩:=h.dk;exact cL e o
theorem CX.same(h:CX w b X)(e:w'.heap[b]? =w.heap[b]?):CX w' b X:=by
 have hc:∀o,w'.cell? ⟨b,o,bC⟩=w.cell? ⟨b,o,bC⟩:=λo=>aV e;exact⟨by rw[e];exact h.dk,λi hi j hj=>(hc _).trans (h.eF i hi j hj)⟩
theorem CX.drew(h:CX w b X):CX w.drew b X:=h.same rfl
theorem CX.below{B:Nat}(h:CX w b X)(k:Below B w w')(hb:b<B):CX w' b X:=h.same (k.block b hb)
theorem CX.wt(h:CX w b X)(i:Nat)(hi:i<8):w.cell? ⟨b,i*3,bC⟩=bB (ar (X (i+1)).wt):=h.eF i hi 0 bG
theorem CX.hd(h:CX w b X)(i:Nat)(hi:i<8):w.cell? ⟨b,i*3+1,bC⟩=bB (ar (X (i+1)).hd):=h.eF i hi 1 bG
theorem CX.hw(h:CX w b X)(i:Nat)(hi:i<8):w.cell? ⟨b,i*3+2,bC⟩=bB (aa bf (X (i+1)).hw):=h.eF i hi 2 bG
theorem CX.set(h:CX w b X)(i j:Nat)(hi:i<8)(hj:j<3)(x:S1)(hx:∀k,k<3->k≠j->Sg.eF x k=Sg.eF (X (i+1)) k):CX (w.setCell ⟨b,i*3+j,bC⟩ (Sg.eF x j)) b (Sg.put X (i+1) x):=by
 obtain⟨C,T,e,hC⟩:=h.dk;refine⟨⟨_,T,cT e _ _,by simpa using hC⟩,λm hm k hk=>?_⟩;by_cases c:m=i
 .subst c;rw[Sg.bR];by_cases d:k=j
  .subst d;exact dH e _ _ bG
  .rw[dw e _ _ _ bG,h.eF m hm k hk,hx k hk d]
 .rw[Sg.cr _ _ _ _ bG,dw e _ _ _ bG,h.eF m hm k hk]
theorem CX.setW(h:CX w b X)(i:Nat)(hi:i<8)(v:Bool):CX (w.setCell ⟨b,i*3,bC⟩ (ar v)) b (Sg.put X (i+1) ⟨v,(X (i+1)).hd,(X (i+1)).hw⟩):=
 h.set i 0 hi bG ⟨v,(X (i+1)).hd,(X (i+1)).hw⟩ (λk hk hn=>by match k,hk,hn with|1,_,_=>rfl|2,_,_=>rfl)
theorem CX.Vd(h:CX w b X)(i:Nat)(hi:i<8)(v:Bool):CX (w.setCell ⟨b,i*3+1,bC⟩ (ar v)) b (Sg.put X (i+1) ⟨(X (i+1)).wt,v,(X (i+1)).hw⟩):=
 h.set i 1 hi bG ⟨(X (i+1)).wt,v,(X (i+1)).hw⟩ (λk hk hn=>by match k,hk,hn with|0,_,_=>rfl|2,_,_=>rfl)
theorem CX.Ve(h:CX w b X)(i:Nat)(hi:i<8)(v:Int):CX (w.setCell ⟨b,i*3+2,bC⟩ (aa bf v)) b (Sg.put X (i+1) ⟨(X (i+1)).wt,(X (i+1)).hd,v⟩):=
 h.set i 2 hi bG ⟨(X (i+1)).wt,(X (i+1)).hd,v⟩ (λk hk hn=>by match k,hk,hn with|0,_,_=>rfl|1,_,_=>rfl|2,_,h=>exact aZ rfl h)
end
theorem y8(b:Nat)(z:Int)(w:bD)(h1:1<=z)(h2:z<=8):
  Calls prog 173 #[ai (bB ⟨b,0,bC⟩),aa bf z] w λe w'=>e=bw (ao #[ai (bB ⟨b,(z.toNat-1)*3,bC⟩),az])/\w'=w:=by
 have:z=1\/z=2\/z=3\/z=4\/z=5\/z=6\/z=7\/z=8:=bG
 rcases this with rfl|rfl|rfl|rfl|rfl|rfl|rfl|rfl
 all_goals
  go_in
  go_wp2
  go_ret2
  exact⟨rfl,rfl⟩
theorem Ef(b:Nat)(z:Int)(w:bD)(h:z<1\/8<z):
  Calls prog 173 #[ai (bB ⟨b,0,bC⟩),aa bf z] w λe w'=>e=bw (ao #[ai bC,aq 100 (aa .i64 1)])/\w'=w:=by
 by_cases c:z<1
 .clear h;go_in
  go_wp2
  go_ret2
  exact⟨rfl,rfl⟩
 .have c2:8<z:=bG
  go_in
  go_wp2
  go_ret2
  exact⟨rfl,rfl⟩
theorem Gn(b o:Nat)(z k:Int)(w:bD)(c:w.cell? ⟨b,o+2,bC⟩=bB (aa .i64 k)):
  Calls prog 174 #[ai (bB ⟨b,o,bC⟩),aa bf z] w λe w'=>e=bw (ar (Sg.pQ z k))/\w'=w:=by
 by_cases k1:k=1
 .have E:Hid (Sg.pQ z k=bE):=hJ (by unfold Sg.pQ;simp[k1]);rw[E.v];have k1':(k==1)=bE:=by simp[k1]
  go_in
  go_wp2
  go_ret
  exact⟨rfl,rfl⟩
 .have k1':(k==1)=bF:=by simp[k1]
  by_cases z3:z=3
  .have E:Hid (Sg.pQ z k=(k==0)):=hJ (by unfold Sg.pQ;simp[k1,z3];rfl);rw[E.v];subst z3;go_in
   go_wp2
   go_ret
   exact⟨rfl,rfl⟩
  .have E:Hid (Sg.pQ z k=bF):=hJ (by unfold Sg.pQ;simp[k1,z3]);rw[E.v];have z3':(z==3)=bF:=by simp[z3]
   go_in
   go_wp2
   go_ret
   exact⟨rfl,rfl⟩
theorem Sg.Cb{z:Int}(h1:1<=z)(h2:z<=8):∃i:Nat,i<8/\z.toNat=i+1/\z.toNat-1=i:=⟨z.toNat-1,bG,bG,rfl⟩
theorem xF(b:Nat)(z:Int)(X:Nat->S1)(w:bD)(h:CX w b X):
  Calls prog 98 #[ai (bB ⟨b,0,bC⟩),aa bf z] w λe w'=>e=bw (bS (Sg.cQ z))/\CX w' b (Sg.mE X z)/\bO b w w':=by
 have HF:=hJ h;by_cases c:z<1\/8<z
 .have E:Hid (Sg.cQ z=1/\Sg.mE X z=X):=hJ ⟨Sg.yL c,aI (by rw[Sg.yL c];decide)⟩;have C:=hJ c;go_in
  go_wp2_with fail
  refine sC (Ef b z _ C.v) ?_;rintro w1 hw1;subst w1;go_wp2
  go_ret
  rw[E.1,E.2];exact⟨rfl,HF.v,bO.refl _ _⟩
 .have z1:1<=z:=bG
  have z8:z<=8:=bG
  obtain⟨i,hi,hz,hz'⟩:=Sg.Cb z1 z8;have c2:=h.hw i hi;have fz:=h.frozen (i*3);have is:=h.wt i hi;have E:Hid (Sg.cQ z=0/\Sg.mE X z=Sg.put X (i+1) ⟨!Sg.pQ z (X (i+1)).hw,(X (i+1)).hd,(X (i+1)).hw⟩):=hJ ⟨Sg.fE z1 z8,by unfold Sg.mE;rw[aJ (Sg.fE z1 z8),hz]⟩;have SG:Hid (∀W,Calls prog 173 #[ai (bB ⟨b,0,bC⟩),aa bf z] W λe w'=>e=bw (ao #[ai (bB ⟨b,i*3,bC⟩),az])/\w'=W):=hJ (λW=>by
   have:=y8 b z W z1 z8;rw[hz']at this;exact this)
  obtain⟨K,hK⟩:=hU ((X (i+1)).hw);rw[hK]at c2;have HK:=hJ hK;go_in
  go_wp2_with fail
  refine sC (SG.v _) ?_;rintro w1 hw1;subst w1;go_wp2_with fail
  refine sC (Gn b (i*3) z K _ c2) ?_;rintro w1 hw1;subst w1;go_wp2
  go_ret
  rw[E.1,E.2];refine⟨rfl,?_,(bO.refl _ _).setCell _ _⟩;have:=HF.setW i hi (!Sg.pQ z (X (i+1)).hw);rw[HK.v]at this|-;exact this
theorem Jc(b:Nat)(z:Int)(on:Bool)(X:Nat->S1)(w:bD)(h:CX w b X):
  Calls prog 100 #[ai (bB ⟨b,0,bC⟩),aa bf z,ar on] w λe w'=>e=bw (bS (Sg.kW z))/\CX w' b (Sg.oB X z on)/\bO b w w':=by
 have HF:=hJ h;by_cases c:z<1\/8<z
 .have e0:Sg.kW z=1:=by unfold Sg.kW;rw[Sg.yL c];rfl
  have E:Hid (Sg.kW z=1/\Sg.oB X z on=X):=hJ ⟨e0,aI (by rw[e0];decide)⟩;have C:=hJ c;clear c h e0;go_in
  go_wp2_with fail
  refine sC (Ef b z _ C.v) ?_;rintro w1 hw1;subst w1;go_wp2
  go_ret
  rw[E.1,E.2];exact⟨rfl,HF.v,bO.refl _ _⟩
 .have z1:1<=z:=bG
  have z8:z<=8:=bG
  obtain⟨i,hi,hz,hz'⟩:=Sg.Cb z1 z8;have fz:=h.frozen (i*3+1);have is:=h.hd i hi;have SG:Hid (∀W,Calls prog 173 #[ai (bB ⟨b,0,bC⟩),aa bf z] W λe w'=>e=bw (ao #[ai (bB ⟨b,i*3,bC⟩),az])/\w'=W):=hJ (λW=>by
   have:=y8 b z W z1 z8;rw[hz']at this;exact this)
  by_cases k1:z=1
  .have e0:Sg.kW z=8:=by unfold Sg.kW;rw[Sg.fE z1 z8,aI (λd=>d rfl),aJ k1]
   have E:Hid (Sg.kW z=8/\Sg.oB X z on=X):=hJ ⟨e0,aI (by rw[e0];decide)⟩;have k1':(z==1)=bE:=by simp[k1]
   clear c h z1 z8 hz hz' k1 e0;go_in
   go_wp2_with fail
   refine sC (SG.v _) ?_;rintro w1 hw1;subst w1;go_wp2
   go_ret
   rw[E.1,E.2];exact⟨rfl,HF.v,bO.refl _ _⟩
  .have e0:Sg.kW z=0:=by unfold Sg.kW;rw[Sg.fE z1 z8,aI (λd=>d rfl),aI k1]
   have E:Hid (Sg.kW z=0/\Sg.oB X z on=Sg.put X (i+1) ⟨(X (i+1)).wt,on,(X (i+1)).hw⟩):=hJ ⟨e0,by unfold Sg.oB;rw[aJ e0,hz]⟩;have k1':(z==1)=bF:=by simp[k1]
   clear c h z1 z8 hz hz' k1 e0;go_in
   go_wp2_with fail
   refine sC (SG.v _) ?_;rintro w1 hw1;subst w1;go_wp2
   go_ret
   rw[E.1,E.2];exact⟨rfl,HF.Vd i hi on,(bO.refl _ _).setCell _ _⟩
theorem SR(b:Nat)(z k:Int)(X:Nat->S1)(w:bD)(h:CX w b X)(E0:Sg.jD z k≠0):
  Calls prog 102 #[ai (bB ⟨b,0,bC⟩),aa bf z,aa bf k] w λe w'=>e=bw (bS (Sg.jD z k))/\CX w' b (Sg.mu X z k)/\bO b w w':=by
 have HF:=hJ h;have EF:Hid (Sg.mu X z k=X):=hJ (aI E0);have N0:=hJ E0;clear E0;by_cases c:z<1\/8<z
 .have e0:Hid (Sg.jD z k=1):=hJ (by unfold Sg.jD;rw[Sg.yL c];rfl);have C:=hJ c;clear c h;go_in
  go_wp2_with fail
  refine sC (Ef b z _ C.v) ?_;rintro w1 hw1;subst w1;go_wp2
  go_ret
  rw[e0.v,EF.v];exact⟨rfl,HF.v,bO.refl _ _⟩
 .have z1:1<=z:=bG
  have z8:z<=8:=bG
  obtain⟨i,hi,hz,hz'⟩:=Sg.Cb z1 z8;have SG:Hid (∀W,Calls prog 173 #[ai (bB ⟨b,0,bC⟩),aa bf z] W λe w'=>e=bw (ao #[ai (bB ⟨b,i*3,bC⟩),az])/\w'=W):=hJ (λW=>by
   have:=y8 b z W z1 z8;rw[hz']at this;exact this)
  by_cases d:k<0\/2<k
  .have e0:Hid (Sg.jD z k=1):=hJ (by unfold Sg.jD;rw[Sg.fE z1 z8,aI (λd=>d rfl),aJ d]);have d0:(k !=0)=bE:=by simp;omega
   have d1:(k !=1)=bE:=by simp;omega
   have d2:(k !=2)=bE:=by simp;omega
   have n0:¬k=0:=bG
   have n1:¬k=1:=bG
   have n2:¬k=2:=bG
   clear c h z1 z8 hz hz' d;go_in
   go_wp2_with fail
   refine sC (SG.v _) ?_;rintro w1 hw1;subst w1;go_wp2
   go_ret
   rw[e0.v,EF.v];exact⟨rfl,HF.v,bO.refl _ _⟩
  .by_cases k1:z=1
   .have e0:Hid (Sg.jD z k=8):=hJ (by unfold Sg.jD;rw[Sg.fE z1 z8,aI (λd=>d rfl),aI d,aJ k1]);have k1':(z==1)=bE:=by simp[k1]
    have kk:k=0\/k=1\/k=2:=bG
    clear c h z1 z8 hz hz' k1 d;rcases kk with rfl|rfl|rfl
    all_goals
     go_in
     go_wp2_with fail
     refine sC (SG.v _) ?_;rintro w1 hw1;subst w1;go_wp2
     go_ret
     rw[e0.v,EF.v];exact⟨rfl,HF.v,bO.refl _ _⟩
   .exact aZ (show Sg.jD z k=0 by unfold Sg.jD;rw[Sg.fE z1 z8,aI (λd=>d rfl),aI d,aI k1]) N0.v
theorem QO(b:Nat)(z k:Int)(X:Nat->S1)(w:bD)(h:CX w b X)(E0:Sg.jD z k=0):
  Calls prog 102 #[ai (bB ⟨b,0,bC⟩),aa bf z,aa bf k] w λe w'=>e=bw (bS (Sg.jD z k))/\CX w' b (Sg.mu X z k)/\bO b w w':=by
 have HF:=hJ h;obtain⟨z1,z8,k0,k2⟩:=Sg.SM E0;obtain⟨i,hi,hz,hz'⟩:=Sg.Cb (show 1<=z by omega) z8;have E:Hid (Sg.jD z k=0/\Sg.mu X z k=Sg.put X (i+1) ⟨(X (i+1)).wt&& !Sg.pQ z k,(X (i+1)).hd,k⟩):=hJ ⟨E0,by unfold Sg.mu;rw[aJ E0,hz]⟩;have SG:Hid (∀W,Calls prog 173 #[ai (bB ⟨b,0,bC⟩),aa bf z] W λe w'=>e=bw (ao #[ai (bB ⟨b,i*3,bC⟩),az])/\w'=W):=hJ (λW=>by
  have:=y8 b z W bG z8;rw[hz']at this;exact this)
 have fz:=h.frozen (i*3+2);have is:=h.hw i hi;have k1':(z==1)=bF:=by simp;omega
 have kk:k=0\/k=1\/k=2:=bG
 obtain⟨Y,hY⟩:=hU (Sg.put X (i+1) ⟨(X (i+1)).wt,(X (i+1)).hd,k⟩);have S1:=hJ (h.Ve i hi k);rw[hY]at S1;have F1:Hid (bO b w (w.setCell ⟨b,i*3+2,bC⟩ (aa .i64 k))):=hJ ((bO.refl _ _).setCell _ _);have FIN:Hid (∀W,CX W b Y->Sg.pQ z k=bE->CX (W.setCell ⟨b,i*3,bC⟩ (ar bF)) b (Sg.mu X z k)):=hJ (λW hW hg=>by
  have:=hW.setW i hi bF;rw[<-hY,Sg.bR,Sg.gO]at this;rw[E.2,hg,Bool.not_true,Bool.and_false];exact this)
 have FI2:Hid (∀W,CX W b Y->Sg.pQ z k=bF->CX W b (Sg.mu X z k)):=hJ (λW hW hg=>by
  rw[E.2,hg,Bool.not_false,Bool.and_true,hY];exact hW)
 have IG:Hid (∀W,CX W b Y->W.cell? ⟨b,i*3+2,bC⟩=bB (aa .i64 k)):=hJ (λW hW=>by
  have:=hW.hw i hi;rw[<-hY,Sg.bR]at this;exact this)
 obtain⟨G,hG⟩:=hU (Sg.pQ z k);have HG:=hJ hG;rcases kk with rfl|rfl|rfl
 all_goals
  go_in
  go_wp2_with fail
  refine sC (SG.v _) ?_;rintro w1 hw1;subst w1;go_upto_region 9 with fail
  refine cR (λW'=>CX W' b Y/\bO b w W') ⟨S1.v,F1.v⟩ ?_;rintro W1 ⟨f1,g1⟩;have P1:=hJ f1;have G1:=hJ g1;have fy:=f1.frozen (i*3);have iy:=f1.wt i hi;go_wp2_with fail
  refine sC (Gn b (i*3) z _ _ (IG.v _ P1.v)) ?_;rintro w1 hw1;subst w1;rw[HG.v];cases G
  .go_wp2
   go_ret
   rw[E.1];exact⟨rfl,FI2.v _ P1.v HG.v,G1.v⟩
  .go_wp2
   go_ret
   rw[E.1];exact⟨rfl,FIN.v _ P1.v HG.v,G1.setCell _ _⟩
theorem QN(b:Nat)(z k:Int)(X:Nat->S1)(w:bD)(h:CX w b X):
  Calls prog 102 #[ai (bB ⟨b,0,bC⟩),aa bf z,aa bf k] w λe w'=>e=bw (bS (Sg.jD z k))/\CX w' b (Sg.mu X z k)/\bO b w w':=by
 by_cases c:Sg.jD z k=0
 .exact QO b z k X w h c
 .exact SR b z k X w h c
section
variable {P:Program}
theorem IN(w:bD)(b o n:Nat)(ty e:TypeId)(cs:Array Value)(hc:∀j,j<cs.size->w.cell? ⟨b,o+j,bC⟩=cs[j]?)
  (hu:P.underlying ty=bB (.array n e)) (hi:(P.info? ty).map (·.size)=bB cs.size):(loadVar ty ⟨b,o,bC⟩).run P w= .ok (au cs) w:=by
 have hl:=run_loadCells_list (P:=P) w ⟨b,o,bC⟩ cs.toList (λj v hv=>by
  rw[aM]at hv;rw[sV,hc j (aX.1 hv).1,hv])
 rw[aB,Array.toArray_toList]at hl;obtain⟨i,hq,hs⟩:=Option.map_eq_some_iff.1 hi;have ha:(isAgg ty).run P w= .ok bE w:=by unfold isAgg;rw[Sem.run_bind,run_underlying hu w];simp
 simp[loadVar,Sem.run_bind,ha,sizeOf,typeInfo,hq,hs,hl]
theorem jv{ops:Array Oper}{rest:List Oper}{x:Oper}{a:Act}{w:bD}{Q:Exit->Act->bD->Prop}(hgd:x.guard=bC)(ty:TypeId)(y:Operand)(ho:x.op= .load ty y)
  (b o:Nat) (hx:a.eval y=ai (bB ⟨b,o,bC⟩)) (cs:Array Value) (n:Nat) (e:TypeId) (hc:∀j,j<cs.size->w.cell? ⟨b,o+j,bC⟩=cs[j]?)
  (hu:P.underlying ty=bB (.array n e)) (hi:(P.info? ty).map (·.size)=bB cs.size)
  (h:wpList P ops Q rest (a.put x.dst (au cs)) w):wpList P ops Q (x::rest) a w:=
 wpList_plain hgd λ_ hK=>by
  have:=IN w b o n ty e cs hc hu hi;unfold Oper.wp execOp;simp only[ho,hx,Instr.loadAt,Instr.sureAddr,Sem.run_bind,Sem.run_pure,Result.andThen_ok,this];exact hK _ _ h
end
def gR(X:Nat->S1):Array Value:=((List.range 24).map λo=>Sg.eF (X (o/3+1)) (o%3)).toArray
theorem nj(X:Nat->S1):(gR X).size=24:=by simp[gR]
theorem zR(X:Nat->S1)(o:Nat)(h:o<24):(gR X)[o]? =bB (Sg.eF (X (o/3+1)) (o%3)):=by simp[gR,h]
theorem Qh(X:Nat->S1)(x:Nat)(h:x<8):(gR X).extract (x*3) (x*3+3)=#[ar (X (x+1)).wt,ar (X (x+1)).hd,aa bf (X (x+1)).hw]:=by
 apply bL;intro i;rw[Array.getElem?_extract];by_cases hi:i<3
 .rw[aJ (by rw[nj];omega),zR X _ bG,show(x*3+i)/3=x by omega,show(x*3+i)%3=i by omega]
  match i,hi with
  |0,_=>rfl
  |1,_=>rfl
  |2,_=>rfl
 .rw[aI (by rw[nj];omega),aR (by simp;omega)]
theorem CX.all{w:bD}{b:Nat}{X:Nat->S1}(h:CX w b X)(j:Nat)(hj:j<(gR X).size):w.cell? ⟨b,0+j,bC⟩=(gR X)[j]? :=by
 rw[nj]at hj;rw[zR X j hj];have:=h.eF (j/3) bG (j%3) bG;rw[show j/3*3+j%3=0+j by omega]at this;exact this
theorem CX.Lb{w:bD}{b:Nat}{X:Nat->S1}{T:TypeId}(h:w.heap[b]? =bB (bA (gR X) T (0,0))):CX w b X:=
 ⟨⟨_,T,h,nj X⟩,λi hi j hj=>by
  rw[cA h,zR X _ bG,show(i*3+j)/3=i by omega,show(i*3+j)%3=j by omega]⟩
theorem CX.congr{w:bD}{b:Nat}{X Y:Nat->S1}(h:CX w b X)(e:∀n,1<=n->n<=8->X n=Y n):CX w b Y:=
 ⟨h.dk,λi hi j hj=>by rw[<-e (i+1) bG bG];exact h.eF i hi j hj⟩
theorem Ke(X:Nat->S1)(x:Nat)(h:x<8)(w:bD):Sem.run prog (Instr.index 233 (au (gR X)) (aa bf x)) w= .ok (au #[ar (X (x+1)).wt,ar (X (x+1)).hd,aa bf (X (x+1)).hw]) w:=by
 have hu:prog.underlying 233=bB (.array 8 232):=by kernel_rfl
 have hx:=Qh X x h;have h1:(x:Int)<8:=bG
 simp[Instr.index,Sem.run_bind,run_underlying hu,go_sem,hx];intro c;omega
theorem JC(X:Nat->S1):prog.built 235 [(0,au (gR X))]=bB (gR X):=by kernel_rfl
theorem CD:prog.built 235 []=bB (gR Sg.gC):=by kernel_rfl
section
variable {ops:Array Oper}{rest:List Oper}{x:Oper}{a:Act}{w:bD}{Q:Exit->Act->bD->Prop}
theorem FQ(A:Array Value){y:Operand}(hgd:x.guard=bC)(ho:x.op= .build 235 #[(0,y)])(hy:a.eval y=au A)(hb:prog.built 235 [(0,au A)]=bB A)(h:wpList prog ops Q rest (a.put x.dst (au A)) w):wpList prog ops Q (x::rest) a w:=
 wpList_build hgd 235 #[(0,y)] ho (by simp[hy,hb]) (by simpa[hy,hb]using h)
theorem ES(hgd:x.guard=bC)(ho:x.op= .build 235 #[])(h:wpList prog ops Q rest (a.put x.dst (au (gR Sg.gC))) w):wpList prog ops Q (x::rest) a w:=
 wpList_build hgd 235 #[] ho (by simp[CD]) (by simpa[CD]using h)
end
def Sg.nS(n:Nat):Bool:=decide (0<n)
theorem rq(b:Nat)(k:Int)(X:Nat->S1)(w:bD)(h:CX w b X):
  Calls prog 176 #[ai (bB ⟨b,0,bC⟩),aa bf k] w λe w'=>∃n:Nat,e=bw (ao #[aa bf n,ar (Sg.nS n)])/\Sg.fw X k n/\Below w.heap.size w w':=by
 have HS:=hJ h;have hsz:Hid ((prog.info? 233).map (·.size)=bB (gR X).size):=hJ (by rw[nj];kernel_rfl);go_in
 go_wp2_with (refine jv rfl 233 _ rfl b 0 rfl (gR X) 8 232 HS.all bH hsz.v ?_)
 go_loopw [12] (λi wr=>∃(x:Nat),i=aa bf x/\x<=8/\Hid (Below w.heap.size w wr/\∀j,1<=j->j<x+1->Sg.ok X k j=bF)) (λi _=>8-(intOf i).toNat)
 case atStart=>exact⟨0,rfl,bG,aQ _ _,λj h1 h2=>bG⟩
 case round=>
  obtain⟨x,rfl,hx8,HN⟩:=hrel;by_cases hx:x<8
  .have hxI:(x:Int)<8:=bG
   have hix:=Ke X x hx wr;have HKB:Hid (Sg.ok X k (x+1)=((X (x+1)).wt&& !(X (x+1)).hd&&decide ((X (x+1)).hw=k))):=hJ rfl;generalize (X (x+1)).wt=ww at*;generalize (X (x+1)).hd=hh at*;generalize (X (x+1)).hw=kk at*;have BL:Hid (∀o,Below w.heap.size w (wr.alloc o)):=hJ (λo=>HN.1.alloc HN.1.size o);have NX:Hid (Sg.ok X k (x+1)=bF->∀j,1<=j->j<x+1+1->Sg.ok X k j=bF):=hJ (λc j h1 hj=>by
    by_cases e:j=x+1
    .rw[e];exact c
    .exact HN.2 j h1 bG)
   cases ww
   .go_wp2
    go_roundw
    case rel=>exact⟨x+1,by go_num,bG,BL.v _,NX.v (by rw[HKB.v];rfl)⟩
    case measure=>simp[intOf];omega
   .cases hh
    .by_cases hi:kk=k
     .subst hi;go_wp2
      go_ret2
      exact⟨x+1,rfl, .inr ⟨by omega,bG,by rw[HKB.v];simp,HN.2⟩,BL.v _⟩
     .have hi':(kk==k)=bF:=by simp;exact hi
      go_wp2
      go_roundw
      case rel=>exact⟨x+1,by go_num,bG,BL.v _,NX.v (by rw[HKB.v,aT hi];simp)⟩
      case measure=>simp[intOf];omega
    .go_wp2
     go_roundw
     case rel=>exact⟨x+1,by go_num,bG,BL.v _,NX.v (by rw[HKB.v];rfl)⟩
     case measure=>simp[intOf];omega
  .have hxI:¬(x:Int)<8:=bG
   go_wp2
   go_ret2
   exact⟨0,rfl, .inl ⟨rfl,λj h1 h2=>HN.2 j h1 bG⟩,HN.1⟩
theorem C9(b:Nat)(X:Nat->S1)(w:bD)(h:CX w b X):
  Calls prog 175 #[ai (bB ⟨b,0,bC⟩)] w λe w'=>∃n:Nat,e=bw (ao #[aa bf n,ar (Sg.nS n)])/\Sg.fw X 0 n/\Below w.heap.size w w':=by
 have HF:=hJ h;go_in
 go_wp2_with fail
 refine(rq b 0 X _ HF.v).mono ?_;rintro e w1 ⟨n,rfl,hn,hb⟩;have HN:=hJ hn;have HB:=hJ hb;go_wp2
 go_ret2
 exact⟨n,rfl,HN.v,HB.v⟩
theorem OS(b:Nat)(X:Nat->S1)(w:bD)(h:CX w b X):
  Calls prog 103 #[ai (bB ⟨b,0,bC⟩)] w λe w'=>∃n:Nat,e=bw (ao #[aa bf n,ar (Sg.nS n)])/\Sg.fw X 2 n/\CX w' b (Sg.vp X n)/\bO b w w':=by
 have HF:=hJ h;go_in
 go_wp2_with fail
 refine(rq b 2 X _ HF.v).mono ?_;rintro e w1 ⟨n,rfl,hn,hb⟩;have HN:=hJ hn;have HB:=hJ (bO.cO (b:=b) hb);have H1:=hJ (HF.below hb HF.lt);have n8:=hn.le;have nn:n=0\/n=1\/n=2\/n=3\/n=4\/n=5\/n=6\/n=7\/n=8:=bG
 have FIN:Hid (∀i,i<8->n=i+1->CX (w1.setCell ⟨b,i*3,bC⟩ (ar bF)) b (Sg.vp X n)):=hJ (λi hi e=>by
  have:=H1.setW i hi bF;unfold Sg.vp;rw[nJ,e];exact this)
 have CL:Hid (∀i,i<8->n=i+1->w1.cell? ⟨b,i*3,bC⟩=bB (ar (X (i+1)).wt)/\w1.frozen? ⟨b,i*3,bC⟩=bF):=hJ (λi hi _=>⟨H1.wt i hi,H1.frozen _⟩);rcases nn with rfl|rfl|rfl|rfl|rfl|rfl|rfl|rfl|rfl
 .rw[show Sg.nS 0=bF from rfl];go_wp2
  go_ret2
  exact⟨0,rfl,HN.v,H1.v,HB.v⟩
 .have c0:w1.cell? ⟨b,0,bC⟩=bB (ar (X 1).wt):=(CL.v 0 bG rfl).1;have fz:w1.frozen? ⟨b,0,bC⟩=bF:=(CL.v 0 bG rfl).2;rw[show Sg.nS 1=bE from rfl];go_wp2
  go_ret2
  exact⟨1,rfl,HN.v,FIN.v 0 bG rfl,HB.setCell _ _⟩
 .have c0:w1.cell? ⟨b,3,bC⟩=bB (ar (X 2).wt):=(CL.v 1 bG rfl).1;have fz:w1.frozen? ⟨b,3,bC⟩=bF:=(CL.v 1 bG rfl).2;rw[show Sg.nS 2=bE from rfl];go_wp2
  go_ret2
  exact⟨2,rfl,HN.v,FIN.v 1 bG rfl,HB.setCell _ _⟩
 .have c0:w1.cell? ⟨b,6,bC⟩=bB (ar (X 3).wt):=(CL.v 2 bG rfl).1;have fz:w1.frozen? ⟨b,6,bC⟩=bF:=(CL.v 2 bG rfl).2;rw[show Sg.nS 3=bE from rfl];go_wp2
  go_ret2
  exact⟨3,rfl,HN.v,FIN.v 2 bG rfl,HB.setCell _ _⟩
 .have c0:w1.cell? ⟨b,9,bC⟩=bB (ar (X 4).wt):=(CL.v 3 bG rfl).1;have fz:w1.frozen? ⟨b,9,bC⟩=bF:=(CL.v 3 bG rfl).2;rw[show Sg.nS 4=bE from rfl];go_wp2
  go_ret2
  exact⟨4,rfl,HN.v,FIN.v 3 bG rfl,HB.setCell _ _⟩
 .have c0:w1.cell? ⟨b,12,bC⟩=bB (ar (X 5).wt):=(CL.v 4 bG rfl).1;have fz:w1.frozen? ⟨b,12,bC⟩=bF:=(CL.v 4 bG rfl).2;rw[show Sg.nS 5=bE from rfl];go_wp2
  go_ret2
  exact⟨5,rfl,HN.v,FIN.v 4 bG rfl,HB.setCell _ _⟩
 .have c0:w1.cell? ⟨b,15,bC⟩=bB (ar (X 6).wt):=(CL.v 5 bG rfl).1;have fz:w1.frozen? ⟨b,15,bC⟩=bF:=(CL.v 5 bG rfl).2;rw[show Sg.nS 6=bE from rfl];go_wp2
  go_ret2
  exact⟨6,rfl,HN.v,FIN.v 5 bG rfl,HB.setCell _ _⟩
 .have c0:w1.cell? ⟨b,18,bC⟩=bB (ar (X 7).wt):=(CL.v 6 bG rfl).1;have fz:w1.frozen? ⟨b,18,bC⟩=bF:=(CL.v 6 bG rfl).2;rw[show Sg.nS 7=bE from rfl];go_wp2
  go_ret2
  exact⟨7,rfl,HN.v,FIN.v 6 bG rfl,HB.setCell _ _⟩
 .have c0:w1.cell? ⟨b,21,bC⟩=bB (ar (X 8).wt):=(CL.v 7 bG rfl).1;have fz:w1.frozen? ⟨b,21,bC⟩=bF:=(CL.v 7 bG rfl).2;rw[show Sg.nS 8=bE from rfl];go_wp2
  go_ret2
  exact⟨8,rfl,HN.v,FIN.v 7 bG rfl,HB.setCell _ _⟩
def Sg.jo(X:Nat->S1)(k:Nat):Nat->S1:=λn=>if n<=k/\0<n then⟨bF,(X n).hd,(X n).hw⟩else X n
theorem Sg.MP(X:Nat->S1):Sg.jo X 0=X:=by
 funext n;unfold Sg.jo;rw[nJ]
theorem Sg.MO(X:Nat->S1)(k:Nat):Sg.put (Sg.jo X k) (k+1) ⟨bF,(Sg.jo X k (k+1)).hd,(Sg.jo X k (k+1)).hw⟩=Sg.jo X (k+1):=by
 funext n;unfold Sg.put;by_cases e:n=k+1
 .rw[aJ e,e];unfold Sg.jo;rw[nJ,nK]
 .rw[aI e];unfold Sg.jo;by_cases c:n<=k/\0<n
  .rw[aJ c,nK]
  .rw[aI c,nJ]
theorem Sg.JI(X:Nat->S1)(n:Nat)(h1:1<=n)(h8:n<=8):Sg.jo X 8 n=Sg.qo X n:=by
 unfold Sg.jo Sg.qo;rw[aJ ⟨h8,bG⟩]
theorem JM(b:Nat)(X:Nat->S1)(w:bD)(h:CX w b X):
  Calls prog 145 #[ai (bB ⟨b,0,bC⟩)] w λe w'=>e=bw (ai (bB ⟨w.heap.size,0,bC⟩))/\CX w' w.heap.size (Sg.qo X)/\Below w.heap.size w w'/\w.heap.size<w'.heap.size:=by
 have HS:=hJ h;clear h;have hsz:Hid ((prog.info? 233).map (·.size)=bB (gR X).size):=hJ (by rw[nj];kernel_rfl);have BT:Hid (prog.built 235 [(0,au (gR X))]=bB (gR X)):=hJ (JC X);have ST:Hid (CX (w.alloc (bA (gR X) 235)) w.heap.size X/\Below w.heap.size w (w.alloc (bA (gR X) 235))):=hJ ⟨CX.Lb (heap_alloc_new w _),(aQ _ _).alloc (aL _) _⟩;obtain⟨A,hA⟩:=hU (gR X);have AL:Hid (∀j,j<A.size->w.cell? ⟨b,0+j,bC⟩=A[j]?):=hJ (by rw[<-hA];exact HS.all);rw[hA]at hsz BT ST;clear hA;go_in
 go_upto_region 2 with(first|(refine jv rfl 233 _ rfl b 0 rfl A 8 232 AL.v bH hsz.v ?_)|(refine FQ A rfl rfl rfl BT.v ?_))
 refine cR (λW'=>CX W' w.heap.size X/\Below w.heap.size w W') ST.v ?_;rintro W1 ⟨f1,b1⟩;have S0:Hid (CX W1 w.heap.size (Sg.jo X 0)/\Below w.heap.size w W1):=hJ ⟨by rw[Sg.MP];exact f1,b1⟩;clear f1 b1;obtain⟨c,hc⟩:=hU (w.heap.size);have HC:=hJ hc;rw[hc]at S0|-;clear hc ST AL hsz BT;go_wp2
 go_loopw [11] (λi wr=>∃(x:Nat),i=aa bf x/\x<=8/\Hid (CX wr c (Sg.jo X x)/\Below c w wr)) (λi _=>8-(intOf i).toNat)
 case atStart=>exact⟨0,rfl,bG,S0⟩
 case round=>
  clear S0;obtain⟨x,rfl,hx8,HN⟩:=hrel;by_cases hx:x<8
  .have hxI:(x:Int)<8:=bG
   have c0:=HN.1.wt x hx;have fz:=HN.1.frozen (x*3);have NX:Hid (CX (wr.setCell ⟨c,x*3,bC⟩ (ar bF)) c (Sg.jo X (x+1))/\Below c w (wr.setCell ⟨c,x*3,bC⟩ (ar bF))):=hJ ⟨by
    have:=HN.1.setW x hx bF;rw[Sg.MO]at this;exact this,HN.2.setCell (aL _) _⟩
   go_wp2
   go_roundw
   case rel=>exact⟨x+1,by go_num,bG,NX⟩
   case measure=>simp[intOf];omega
  .have hxI:¬(x:Int)<8:=bG
   obtain rfl:x=8:=bG
   go_wp2
   go_ret
   rw[HC.v];exact⟨rfl,HN.1.congr (Sg.JI X),HN.2,HN.1.lt⟩
theorem mT(b:Nat):∀(vs:List Value) (o:Nat) (w:bD) (k:Nat),k≠b->(w.setCells b o vs).heap[k]? =w.heap[k]?
 |[],_,_,_,_=>rfl
 |v::r,o,w,k,h=>by
  rw[World.setCells];exact(mT b r (o+1) _ k h).trans (dS _ _ _ _ h)
theorem ed(b:Nat){T:TypeId}:∀(vs:List Value) (o:Nat) (w:bD) (C:Array Value),w.heap[b]? =bB (bA C T (0,0))->∃C',(w.setCells b o vs).heap[b]? =bB (bA C' T (0,0))/\C'.size=C.size
 |[],_,_,C,h=>⟨C,h,rfl⟩
 |v::r,o,w,C,h=>by
  rw[World.setCells];obtain⟨C',h1,h2⟩:=ed b r (o+1) _ _ (cT h o v);exact⟨C',h1,by rw[h2];simp⟩
theorem bO.setCells{b:Nat}:∀(vs:List Value) (o:Nat) {u w:bD},bO b u w->bO b u (w.setCells b o vs)
 |[],_,_,_,h=>h
 |v::r,o,u,w,h=>by rw[World.setCells];exact bO.setCells r (o+1) (h.setCell o v)
namespace Wf
def St(b:Nat)(m:M)(w:bD)(e:Ending)(w':bD):Prop:=∃E m',e=bw (bS E)/\SG m m'/\Fair w' b m'/\bO b w w'
theorem St.no{b:Nat}{m:M}{w:bD}(E:Int)(h:Fair w b m):St b m w (bw (bS E)) w:=⟨E,m,rfl,SG.refl m,h,bO.refl b w⟩
theorem Iv.quo{d:Nat->Nat}{x x':Nat->Int}{n:Nat}(h:Iv d 0 x)(hn:n<10)(hh:x (1+n*4)=1)(e:∀i,i<121+n*198+195\/121+n*198+198<=i->x' i=x i)(p:0<x' (121+n*198+195)->0<x' (121+n*198+196)):Iv d 0 x':=by
 refine⟨λk hk=>(h.q k hk).same λi h1 h2=>e i bG,(e _ bG).trans h.rt,λv hv v0 hv1=>?_,λk j hk hj p=>?_,λk v hk hv hne p=>?_,λk hk q=>?_⟩
 .rw[e _ bG]at hv1;obtain⟨k,k1,k2,k3,k4,k5⟩:=h.par v hv v0 hv1;exact⟨k,k1,(e _ bG).trans k2,(e _ bG).trans k3,k4,by rw[e _ bG];exact k5⟩
 .rw[e _ bG]at p;obtain⟨m1,m2,m3,m4⟩:=h.mem k j hk hj p;exact⟨m1,m2,(e _ bG).trans m3,(e _ bG).trans m4⟩
 .rw[e _ bG]at p|-;exact h.ne k v hk hv hne p
 .by_cases kn:k=n
  .subst kn;exact⟨p q,(e _ bG).trans hh⟩
  .rw[e _ bG]at q;rw[e _ bG,e _ bG];exact h.pe k hk q
def G6(x:Nat->Int)(i:Nat):Value:=V (K (1+i)) (x (1+i))
def wV(x:Nat->Int):Array Value:=((List.range 120).map (G6 x)).toArray
theorem tR(x:Nat->Int):(wV x).size=120:=by simp[wV]
theorem L4(x:Nat->Int)(i:Nat)(h:i<120):(wV x)[i]? =bB (G6 x i):=by simp[wV,h]
def PS(x:Nat->Int)(u:Nat):Array Value:=#[ar (decide (x (1+u*4)=1)),aa bf (x (1+u*4+1)),aa bj (x (1+u*4+2)),aa bj (x (1+u*4+3))]
theorem Fa(x:Nat->Int)(u:Nat)(h:u<30)(w:bD):Sem.run prog (Instr.index 163 (au (wV x)) (aa bf u)) w= .ok (au (PS x u)) w:=by
 have hu:prog.underlying 163=bB (.array 30 162):=by kernel_rfl
 have hx:(wV x).extract (u*4) (u*4+4)=PS x u:=by
  apply bL;intro i;rw[Array.getElem?_extract];by_cases hi:i<4
  .rw[aJ (by rw[tR];omega),L4 x _ bG];have a:∀f,1+(u*4+f)=1+u*4+f:=λf=>bG
   match i,hi with
   |0,_=>unfold G6;rw[a,show K (1+u*4+0)=2 from(qA h).2];rfl
   |1,_=>unfold G6;rw[a,(oU h).2];rfl
   |2,_=>unfold G6;rw[a,(iF h 2 bG).2];rfl
   |3,_=>unfold G6;rw[a,(iF h 3 bG).2];rfl
  .rw[aI (by rw[tR];omega),aR (by simp[PS];omega)]
 have h1:(u:Int)<30:=bG
 simp[Instr.index,Sem.run_bind,run_underlying hu,go_sem,hx];intro c;omega
section
variable (b:Nat)(m:M)(w:bD)
theorem Vk(z:Int)(h:Fair w b m):Calls prog 58 #[ai (bB ⟨b,0,bC⟩),aa bf z] w λe w'=>(∃r,e=bw (ao #[aa bf r,bS (mH m z)]))/\w'=w:=by
 have WT:=hJ (mQ b m w z h);by_cases e:mH m z=0
 .have E:=hJ e;rw[e,bN]at WT;obtain⟨n,rfl,hn,hh⟩:=rI e;obtain⟨x,d,s,_⟩:=h;have c:=s.i _ (Cg hn);have hnI:(n:Int)<20:=bG
  go_in
  go_wp2_with fail
  refine cN WT.v ?_;go_wp2
  go_ret2
  exact⟨⟨_,by rw[E.v];rfl⟩,rfl⟩
 .have E:=hJ (bP e);rw[bP e]at WT;go_in
  go_wp2_with fail
  refine cN WT.v ?_;go_wp2
  go_ret2
  exact⟨⟨0,by rw[E.v];rfl⟩,rfl⟩
theorem sM(z:Int)(h:Fair w b m):Calls prog 194 #[ai (bB ⟨b,0,bC⟩),aa bf z] w λe w'=>∃E,e=bw (bS E)/\w'=w/\(E=0->∃n:Nat,z=n/\n≠0/\n<10/\m.here n=bE):=by
 have WG:=hJ (lZ b m w z h);by_cases e:mS m z=0
 .have Z:=hJ (ry e);rw[e,bN]at WG;by_cases z0:z=0
  .subst z0;go_in
   go_wp2_with fail
   refine cN WG.v ?_;go_wp2
   go_ret
   exact⟨8,rfl,rfl,λq=>aZ q bM⟩
  .have z1:(z==0)=bF:=by simpa using z0
   go_in
   go_wp2_with fail
   refine cN WG.v ?_;go_wp2
   go_ret
   refine⟨0,rfl,rfl,λ_=>?_⟩;obtain⟨n,rfl,a,c⟩:=Z.v;exact⟨n,rfl,bG,a,c⟩
 .have E:=hJ (aK (bP e) e);rw[bP e]at WG;go_in
  go_wp2_with fail
  refine cN WG.v ?_;go_wp2
  go_ret
  exact⟨mS m z,by rw[E.1];rfl,rfl,λq=>aZ q E.2⟩
theorem yZ{b:Nat}{m:M}{w w1 w2:bD}{x x1:Nat->Int}{d:Nat->Nat}(r:Rp m x)(nq:Bool)(k:∀i,0<i->i<121->x1 i=x i)(hq:nq=bE->m.nq=bE/\∀g,g<10->x1 (121+g*198+195)=x (121+g*198+195))(f:bO b w w1)(t:To b w1 (λx'=>Iv d 0 x'/\Wk x1 x'/\True) w2):∃m',SG m m'/\Fair w2 b m'/\bO b w w2:=by
 obtain⟨x2,s2,f2,i2,k2,_⟩:=t;refine⟨{m with nq:=nq,rd:=false},λ_ h=>h,⟨x2,d,s2,i2,λu hu=>?_,λu hu a c=>?_,λq g hg=>?_,λq=>by cases q⟩,f.trans f2⟩
 .rw[k2 _ bG,k _ bG bG];exact r.here u hu
 .rw[k2 _ bG,k _ bG bG];exact r.top u hu a c
 .rw[k2 _ bG,(hq q).2 g hg];exact r.nq (hq q).1 g hg
theorem Ib(z:Int)(on:Bool)(h:Fair w b m):Calls prog 119 #[ai (bB ⟨b,0,bC⟩),aa bf z,ar on] w (St b m w):=by
 have WL:=hJ (sM b m w z h);have H:=hJ h;go_in
 go_wp2_with fail
 refine WL.mono ?_;rintro e w1 ⟨E,rfl,rfl,hE⟩;by_cases e0:E=0
 .subst e0;obtain⟨n,rfl,n0,hn,hh⟩:=hE rfl;obtain⟨x,d,s,i,r⟩:=H.v;have kf:=Dk hn;have c1:=s.bo _ kf;have cf:=s.frozen;have hnI:(n:Int)<10:=bG
  have ST:=hJ (pY b d _ _ n (s.set _ (bi on) (ar on) kf.1 (by rw[kf.2];exact Hi on)) ((i.jl (x':=up x (121+n*198+194) (bi on)) (λj hj=>cG _ _ (by unfold Kc at hj;omega))).any n) bG (by rw[cG _ _];exact(r.here n bG).2 hh));have R:=hJ r;rw[bN];go_wp2_with fail
  refine ST.mono ?_;rintro e w2 ⟨rfl,x2,s2,f2,i2,k2,_⟩;have FIN:=hJ (yZ (w:=w1) (m:=m) R.v m.nq (λj a c=>cG x (i:=121+n*198+194) (bi on) bG) (λq=>⟨q,λg hg=>cG _ _⟩) ((bO.refl b w1).setCell _ _) ⟨x2,s2,f2,i2,k2,trivial⟩);go_wp2
  go_ret
  obtain⟨m',a⟩:=FIN.v;exact⟨0,m',rfl,a⟩
 .have EV:=hJ (bP e0);rw[bP e0];go_wp2
  go_ret
  exact⟨E,m,by rw[EV.v];rfl,SG.refl m,H.v,bO.refl b w1⟩
theorem Lj(z q p:Int)(h:Fair w b m):Calls prog 120 #[ai (bB ⟨b,0,bC⟩),aa bf z,aa bf q,aa bf p] w (St b m w):=by
 have WL:=hJ (sM b m w z h);have H:=hJ h;go_in
 go_wp2_with fail
 refine WL.mono ?_;rintro e w1 ⟨E,rfl,rfl,hE⟩;by_cases e0:E=0
 .subst e0;rw[bN];obtain⟨n,rfl,n0,hn,hh⟩:=hE rfl;by_cases ok:0<=q/\q<=p/\1<=p/\p<=100
  .obtain⟨x,d,s,i,r⟩:=H.v;have k1:=oV hn 195 bG;have k2:=oV hn 196 bG;have k3:=oV hn 197 bG;have c1:=s.i _ k1;have c2:=s.i _ k2;have c3:=s.i _ k3;have cf:=s.frozen;have hnI:(n:Int)<10:=bG
   have d0:decide (q<0)=bF:=by simp;omega
   have d1:decide (p<q)=bF:=by simp;omega
   have d2:decide (p<1)=bF:=by simp;omega
   have d3:¬(100:Int)<p:=bG
   have hx:=(r.here n bG).2 hh;have EE:∀j,j<121+n*198+195\/121+n*198+198<=j->up (up (up x (121+n*198+195) q) (121+n*198+196) p) (121+n*198+197) 0 j=x j:=λj hj=>by rw[cG _ _,cG _ _,cG _ _]
   have ST:=hJ (pY b d _ _ n (((s.set _ q (aa bf q) k1.1 (by rw[k1.2];rfl)).set _ p (aa bf p) k2.1 (by rw[k2.2];rfl)).set _ 0 (aa .i64 0) k3.1 (by rw[k3.2];rfl)) ((i.quo hn hx EE (λ_=>by rw[cG _ _,iu];omega)).any n) bG ((EE _ bG).trans hx));have R:=hJ (aK r EE);go_wp2_with fail
   refine ST.mono ?_;rintro e w2 ⟨rfl,x2,s2,f2,i2,k2,_⟩;have FIN:=hJ (yZ (w:=w1) (m:=m) R.1 bF (λj a c=>R.2 j bG) (λq=>by cases q) ((((bO.refl b w1).setCell _ _).setCell _ _).setCell _ _) ⟨x2,s2,f2,i2,k2,trivial⟩);go_wp2
   go_ret
   obtain⟨m',a⟩:=FIN.v;exact⟨0,m',rfl,a⟩
  .clear hE hh WL;by_cases h1:q<0
   .go_wp2
    go_ret
    exact St.no 1 H.v
   .have d1:decide (q<0)=bF:=by simp;omega
    by_cases h2:p<q
    .go_wp2
     go_ret
     exact St.no 1 H.v
    .have d2:decide (p<q)=bF:=by simp;omega
     by_cases h3:p<1
     .go_wp2
      go_ret
      exact St.no 1 H.v
     .have d3:decide (p<1)=bF:=by simp;omega
      have h4:100<p:=bG
      go_wp2
      go_ret
      exact St.no 1 H.v
 .have EV:=hJ (bP e0);rw[bP e0];go_wp2
  go_ret
  exact⟨E,m,by rw[EV.v];rfl,SG.refl m,H.v,bO.refl b w1⟩
end
end Wf
namespace Wf
theorem Qd(m:M){u:Nat}(g:Int)(hu:u<10):SG m (sU m u g):=λn h=>by
 unfold sU at h;split at h
 .have h':fb m.here u bE (10+n)=bE:=h;rwa [tn _ _ bG]at h'
 .exact h
theorem RB(n:Nat):(10+(n:Int)).toNat=10+n:=bG
attribute [local go_sem] RB
section
variable (b:Nat)(m:M)(w:bD)
theorem Cu(z g wt:Int)(h:Fair w b m):Calls prog 112 #[ai (bB ⟨b,0,bC⟩),aa bf z,aa bf g,aa bf wt] w (St b m w):=by
 have H:=hJ h;by_cases k:0<=z/\z<10
 .obtain⟨n,rfl⟩:=aG k.1;have k1:¬(10:Int)<=(n:Int):=bG
  have AD:Hid (Calls prog 187 #[ai (bB ⟨b,0,bC⟩),aa bf n,aa bf g,aa bf wt] w (St b m w)):=hJ (by
   by_cases hw:1<=wt/\wt<=1000
   .refine(vS b m w n n g wt rfl h bG hw).mono ?_;rintro _ w1 ⟨⟨E,rfl⟩,f,r⟩;exact⟨E,_,rfl,Qd m g bG,f,r⟩
   .clear h;by_cases w0:wt<1
    case' pos=>have w1:decide (wt<1)=bE:=by simpa using w0
    case' neg=>
     have w1:decide (wt<1)=bF:=by simpa using w0
     have w2:(1000:Int)<wt:=bG
    all_goals
     go_in
     go_wp2
     go_ret
     exact St.no 1 H.v)
  go_in
  go_wp2_with fail
  refine AD.mono ?_;rintro e w1 ⟨E,m',rfl,f1⟩;have FIN:=hJ f1;go_wp2
  go_ret
  exact⟨E,m',rfl,FIN.v⟩
 .by_cases k0:z<0
  case' pos=>have k1:decide (z<0)=bE:=by simpa using k0
  case' neg=>
   have k1:decide (z<0)=bF:=by simpa using k0
   have k2:10<=z:=bG
  all_goals
   go_in
   go_wp2
   go_ret
   exact St.no 1 H.v
def Vl(g:Nat)(x:Nat->Int)(w:bD)(e:Ending)(w':bD):Prop:=∃r,e=bw (ar r)/\Below w.heap.size w w'/\(r=bF->∀v,v<30->x (1+v*4)=1->x (1+v*4+1)≠g)
theorem Ka(g:Nat)(x:Nat->Int)(h:SA w b x):Calls prog 190 #[ai (bB ⟨b,0,bC⟩),aa bf g] w (Vl g x w):=by
 have LD:Hid (∀j,j<(wV x).size->w.cell? ⟨b,1+j,bC⟩=(wV x)[j]?):=hJ (λj hj=>by rw[tR]at hj;rw[L4 x j hj,h.eF _ bG];rfl);have hsz:Hid ((prog.info? 163).map (·.size)=bB (wV x).size):=hJ (by rw[tR];kernel_rfl);go_in
 go_wp2_with (refine jv rfl 163 _ rfl b 1 rfl (wV x) 30 162 LD.v bH hsz.v ?_)
 go_loopw [11] (λi wr=>∃(u:Nat),i=aa bf u/\u<=30/\Hid (Below w.heap.size w wr/\∀v,v<u->x (1+v*4)=1->x (1+v*4+1)≠g)) (λi _=>30-(intOf i).toNat)
 case atStart=>exact⟨0,rfl,bG,aQ _ _,λj h1=>bG⟩
 case round=>
  obtain⟨u,rfl,hu30,HN⟩:=hrel;by_cases hu:u<30
  .have huI:(u:Int)<30:=bG
   have hix:=Fa x u hu wr;unfold PS at hix;have BL:Hid (∀o,Below w.heap.size w (wr.alloc o)):=hJ (λo=>HN.1.alloc HN.1.size o);have NX:Hid ((x (1+u*4)=1->x (1+u*4+1)≠g)->∀v,v<u+1->x (1+v*4)=1->x (1+v*4+1)≠g):=hJ (λc v hv=>by
    by_cases e:v=u
    .rw[e];exact c
    .exact HN.2 v bG)
   obtain⟨t,ht⟩:=hU (decide (x (1+u*4)=1));have T:=hJ ht;rw[ht]at hix;generalize hi:x (1+u*4+1)=ii at*;generalize x (1+u*4+2)=wt at*;generalize x (1+u*4+3)=tm at*;cases t
   .go_wp2
    go_roundw
    case rel=>exact⟨u+1,by go_num,bG,BL.v _,NX.v (λq=>aZ T.v (by simp[q]))⟩
    case measure=>simp[intOf];omega
   .by_cases ig:ii=(g:Int)
    .rw[ig]at hix;go_wp2
     go_ret
     exact⟨bE,rfl,BL.v _,λq=>by cases q⟩
    .have ig':(ii==(g:Int))=bF:=by simpa using ig
     go_wp2
     go_roundw
     case rel=>exact⟨u+1,by go_num,bG,BL.v _,NX.v (λ_=>ig)⟩
     case measure=>simp[intOf];omega
  .have huI:¬(u:Int)<30:=bG
   go_wp2
   go_ret
   exact⟨bF,rfl,HN.1,λ_ v hv=>HN.2 v bG⟩
def zG:List Value:=(List.range 198).map λi=>V (K (121+i)) 0
theorem P7:Tryz.zeroCells169.toList=zG:=by kernel_rfl
theorem SA.Sw{w:bD}{b:Nat}{x:Nat->Int}(h:SA w b x)(g:Nat)(hg:g<10):SA (w.setCells b (121+g*198) zG) b (λi=>if 121+g*198<=i/\i<121+g*198+198 then 0 else x i)/\(storeCells ⟨b,121+g*198,bC⟩ zG).run prog w= .ok () (w.setCells b (121+g*198) zG):=by
 obtain⟨C,f,z⟩:=h.dk;obtain⟨C',e',z'⟩:=ed b zG (121+g*198) w C f;have len:zG.length=198:=by simp[zG]
 have is:∀j,j<198->(w.cell? ⟨b,121+g*198+j,bC⟩).isSome=bE:=λj hj=>by rw[h.eF _ bG];rfl
 refine⟨⟨⟨C',e',z'.trans z⟩,λi hi=>?_⟩,?_⟩
 .by_cases c:121+g*198<=i/\i<121+g*198+198
  .obtain⟨j,rfl⟩:∃j,i=121+g*198+j:=⟨i-(121+g*198),bG⟩;rw[aJ c,aS b zG (121+g*198) w (λi hi=>is i bG) j bG];have hj:j<198:=bG
   have e:K (121+g*198+j)=K (121+j):=by
    have e1:(121+g*198+j-121)%198=j:=bG
    have e2:(121+j-121)%198=j:=bG
    unfold K;rw[aI (show¬121+g*198+j<1 by omega),aI (show¬121+g*198+j<121 by omega),aJ (show 121+g*198+j<2101 by omega),e1,aI (show¬121+j<1 by omega),aI (show¬121+j<121 by omega),aJ (show 121+j<2101 by omega),e2]
   rw[e];simp[zG]
  .rw[aI c,aA b zG (121+g*198) w ⟨b,i,bC⟩ (λ_ _=>by show i<_\/_<=i;omega),h.eF i hi]
 .exact run_storeCells_cells (P:=prog) b (121+g*198) zG 0 w (λj hj=>by rw[len]at hj;exact is j hj) (λj _=>h.frozen _) (λv hv=>by
   obtain⟨i,_,rfl⟩:=List.mem_map.1 hv;unfold V;split
   .rfl
   .split<;>rfl)
theorem BM(z:Int)(h:Fair w b m):Calls prog 114 #[ai (bB ⟨b,0,bC⟩),aa bf z] w (St b m w):=by
 have WG:=hJ (lZ b m w z h);have H:=hJ h;by_cases e:mS m z=0
 .rw[e,bN]at WG;obtain⟨g,rfl,hg,hh⟩:=ry e;obtain⟨x,d,s,i,r⟩:=h;have HO:=hJ (Ka b w g x s);have SI:=hJ (aK s (aK i (aK r hh)));by_cases g0:g=0
  .subst g0;go_in
   go_wp2_with fail
   refine cN WG.v ?_;go_wp2
   go_ret
   exact St.no 5 H.v
  .have gz:((g:Int)==0)=bF:=by simp;omega
   have hgI:(g:Int)<10:=bG
   have hg30:(g:Int)<30:=bG
   go_in
   go_wp2_with fail
   refine cN WG.v ?_;go_wp2_with fail
   refine HO.mono ?_;rintro e w1 ⟨t,rfl,b1,hr⟩;have s1:=SI.1.same (b1.block b SI.1.lt);have S1:=hJ (aK (bO.cO (b:=b) b1) (aK s1 hr));cases t
   .have c0:=s1.bo _ (qA (u:=g) bG);have c1:=s1.i _ (oU (u:=g) bG);have c2:=s1.u _ (iF (u:=g) bG 2 bG);have c3:=s1.u _ (iF (u:=g) bG 3 bG);have cf:=s1.frozen;have h4:=s1.four g bG bF 0 0 0;have st:=(h4.drew.Sw g hg).2;rw[<-P7]at st;have G4:=hJ (h4.drew.Sw g hg).1;go_wp2_with fail
    go_region
    generalize hW2:World.setCells _ _ _ _=W2;have F2:Hid (∃m',SG m m'/\Fair W2 b m'/\bO b w W2):=hJ (by
     obtain⟨f1,_,na⟩:=S1.v;obtain⟨s,i,r,hh⟩:=SI.v;have na:=na (by trivial);have q:=G4.v;rw[<-P7]at q;rw[<-hW2];have hx:=(r.here g bG).2 hh;have e:∀j,j<2101->j<1+g*4\/1+g*4+4<=j->j<121+g*198\/121+g*198+198<=j->(if 121+g*198<=j/\j<121+g*198+198 then 0 else up (up (up (up x (1+g*4) (bi bF)) (1+g*4+1) 0) (1+g*4+2) 0) (1+g*4+3) 0 j)=x j:=λj a1 a2 a3=>by rw[nJ,cG _ _,cG _ _,cG _ _,cG _ _]
     have e0:(if 121+g*198<=1+g*4/\1+g*4<121+g*198+198 then 0 else up (up (up (up x (1+g*4) (bi bF)) (1+g*4+1) 0) (1+g*4+2) 0) (1+g*4+3) 0 (1+g*4))≠(1:Int):=by rw[nJ,cG _ _,cG _ _,cG _ _,iu];decide
     have z0:g<10->∀i,i<198->(if 121+g*198<=121+g*198+i/\121+g*198+i<121+g*198+198 then 0 else up (up (up (up x (1+g*4) (bi bF)) (1+g*4+1) 0) (1+g*4+2) 0) (1+g*4+3) 0 (121+g*198+i))=(0:Int):=λ_ i hi=>nK;refine⟨{m with here:=fb m.here g bF,rd:=false},λn a=>?_,⟨_,d,q,i.drop bG g0 (λk hk p=>?_) (λv hv _ hv1=>na v hv hv1) e e0 z0,r.gone e e0 bG z0⟩,((((f1.setCell _ _).setCell _ _).setCell _ _).setCell _ _).drew.setCells _ _⟩
     .have a':fb m.here g bF (10+n)=bE:=a;rwa [tn _ _ bG]at a'
     .have many:=i.ne k g hk hg g0 p;obtain⟨mm,hp,pp,q1,q2⟩:=i.q g hg;rw[q1.m]at many;have a0:=q2.at_ 0 bG;have l0:0<x (121+g*198+65+hp 0):=by rw[q1.p _ a0.1];omega
      obtain⟨v1,v2,v3,v4⟩:=i.mem g (hp 0) hg a0.1 l0;exact na _ v1 v3 v4)
    go_wp2
    go_ret
    obtain⟨m',a⟩:=F2.v;exact⟨0,m',rfl,a⟩
   .clear s1 b1 hr HO WG;go_wp2
    go_ret
    exact⟨5,m,rfl,SG.refl m,⟨x,d,S1.2.1,SI.2.1,SI.2.2.1⟩,S1.1⟩
 .have EV:=hJ (bP e);rw[bP e]at WG;go_in
  go_wp2_with fail
  refine cN WG.v ?_;go_wp2
  go_ret
  exact⟨mS m z,m,by rw[EV.v];rfl,SG.refl m,H.v,bO.refl b w⟩
theorem DL(z zg:Int)(h:Fair w b m):Calls prog 117 #[ai (bB ⟨b,0,bC⟩),aa bf z,aa bf zg] w (St b m w):=by
 have WT:=hJ (mQ b m w z h);have WG:=hJ (lZ b m w zg h);have H:=hJ h;by_cases e:mH m z=0
 .rw[e,bN]at WT;by_cases eg:mS m zg=0
  .rw[eg,bN]at WG;obtain⟨n,rfl,hn,hh⟩:=rI e;obtain⟨G,rfl,hG,hGh⟩:=ry eg;obtain⟨x,d,s,i,r⟩:=h;have hnI:(n:Int)<20:=bG
   have h30:(10:Int)+(n:Int)<30:=bG
   have h00:(0:Int)<=10+(n:Int):=bG
   have hwr:IntKind.i64.wrap (10+(n:Int))=10+(n:Int):=aN _ ⟨by omega,bG⟩;have hu:10+n<30:=bG
   have ca:=s.bo _ (sq hn);have hx:=(r.here (10+n) hu).2 hh;have RO:=hJ (rD b d x w n bF s i hn hx);have SI:=hJ (aK i (aK r (aK hx ((r.here G bG).2 hGh))));obtain⟨aw,haw⟩:=hU (decide (x (2101+n*2)=1));rw[haw]at ca;go_in
   go_wp2_with fail
   refine cN WT.v ?_;go_wp2_with fail
   refine cN WG.v ?_;go_wp2_with fail
   refine sC RO.v ?_;rintro w1 ⟨x1,s1,f1,i1,k1,p1⟩;have cw:=s1.u _ (iF hu 2 bG);have S1:=hJ (aK s1 (aK f1 (aK i1 (aK k1 p1))));have HL:=hJ s1.lt;have WP:Hid (0<x1 (1+(10+n)*4+2)):=hJ (by
    obtain⟨_,_,_,_,_,q⟩:=i1.par (10+n) hu bG (by rw[k1 _ bG];exact SI.2.2.1);exact q)
   obtain⟨wt,hwt⟩:=hU (x1 (1+(10+n)*4+2));have HW:=hJ hwt;rw[hwt]at cw WP;go_wp2_with fail
   go_region_held3 (λw'=>w'.cell? ⟨b,1+(10+n)*4+2,bC⟩=bB (aa bj wt)) (first|go_keep|exact B3.v) ((go_at_call 193;refine sC (wS _ _ _) ?_;rintro w2 b2;have s2:SA w2 b x1:=S1.1.drew.same (b2.block b HL.v);have t0:=s2.bo _ (qA hu);have t1:=s2.i _ (oU hu);have t2:=s2.u _ (iF hu 2 bG);have t3:=s2.u _ (iF hu 3 bG);rw[HW.v]at t2;have cf:=s2.frozen;have B2:=hJ (aK s2 (S1.2.1.drew.trans (bO.cO b2)));have B3:Hid (((((w2.setCell ⟨b,1+(10+n)*4,bC⟩ (ar bE)).setCell ⟨b,1+(10+n)*4+1,bC⟩ (aa bf (G:Int))).setCell ⟨b,1+(10+n)*4+2,bC⟩ (aa bj wt)).setCell ⟨b,1+(10+n)*4+3,bC⟩ (aa .u64 0)).cell? ⟨b,1+(10+n)*4+2,bC⟩=bB (aa bj wt)):=hJ (by rw[(s2.four (10+n) hu bE G wt 0).u _ (iF hu 2 bG),cG _ _,iu])))
   have A2:Hid (SA ((((w2.setCell ⟨b,1+(10+n)*4,bC⟩ (ar bE)).setCell ⟨b,1+(10+n)*4+1,bC⟩ (aa bf (G:Int))).setCell ⟨b,1+(10+n)*4+2,bC⟩ (aa bj wt)).setCell ⟨b,1+(10+n)*4+3,bC⟩ (aa .u64 0)) b (up (up (up (up x1 (1+(10+n)*4) (bi bE)) (1+(10+n)*4+1) G) (1+(10+n)*4+2) wt) (1+(10+n)*4+3) 0)/\bO b w ((((w2.setCell ⟨b,1+(10+n)*4,bC⟩ (ar bE)).setCell ⟨b,1+(10+n)*4+1,bC⟩ (aa bf (G:Int))).setCell ⟨b,1+(10+n)*4+2,bC⟩ (aa bj wt)).setCell ⟨b,1+(10+n)*4+3,bC⟩ (aa .u64 0))):=hJ ⟨B2.1.four (10+n) hu bE G wt 0,(((B2.2.setCell _ _).setCell _ _).setCell _ _).setCell _ _⟩;generalize (((w2.setCell ⟨b,1+(10+n)*4,bC⟩ (ar bE)).setCell ⟨b,1+(10+n)*4+1,bC⟩ (aa bf (G:Int))).setCell ⟨b,1+(10+n)*4+2,bC⟩ (aa bj wt)).setCell ⟨b,1+(10+n)*4+3,bC⟩ (aa .u64 0)=W3 at*;have E3:Hid (∀j,j<1+(10+n)*4\/1+(10+n)*4+4<=j->up (up (up (up x1 (1+(10+n)*4) (bi bE)) (1+(10+n)*4+1) G) (1+(10+n)*4+2) wt) (1+(10+n)*4+3) 0 j=x1 j):=hJ (λj hj=>by rw[cG _ _,cG _ _,cG _ _,cG _ _]);have E0:Hid (up (up (up (up x1 (1+(10+n)*4) (bi bE)) (1+(10+n)*4+1) G) (1+(10+n)*4+2) wt) (1+(10+n)*4+3) 0 (1+(10+n)*4)=1):=hJ (by rw[cG _ _,cG _ _,cG _ _,iu];rfl);have R2:=hJ (rD b _ _ W3 n aw A2.1 (S1.2.2.1.put hu bG (g:=G) (λk hk q=>by
     have:=(S1.2.2.2.2 k hk (by rw[<-S1.2.2.2.1 _ bG];exact(S1.2.2.1.mem k _ hk bG q).2.2.2)).1 q;simp at this) (λv hv v0 hv1 q=>by
     obtain⟨j,j1,j2,_⟩:=S1.2.2.1.par v hv v0 hv1;omega) hG bG (by rw[S1.2.2.2.1 _ bG];exact SI.2.2.2) E3.v E0.v (by rw[cG _ _,cG _ _,iu]) (by rw[cG _ _,iu];exact WP.v) (λq=>aZ q bG)) hn E0.v)
   go_wp2_with fail
   refine sC R2.v ?_;rintro w4 ⟨x4,s4,f4,i4,k4,_⟩;have FIN:Hid (∃m',SG m m'/\Fair w4 b m'/\bO b w w4):=hJ (by
    have r1:=SI.2.1.wk S1.2.2.2.1 bF (λq=>by cases q);have r2:=(r1.new hu bG E3.v E0.v (g:=G) (by rw[cG _ _,cG _ _,iu])).wk k4 bF (λq=>by cases q);refine⟨_,λj a=>?_,⟨x4,_,s4,i4,r2⟩,A2.2.trans f4⟩;have a':fb m.here (10+n) bE (10+j)=bE:=a;by_cases e:j=n
    .subst e;exact(SI.2.1.here _ hu).1 SI.2.2.1
    .rwa [tn _ _ bG]at a')
   go_wp2
   go_ret
   obtain⟨m',a⟩:=FIN.v;exact⟨0,m',rfl,a⟩
  .have EV:=hJ (bP eg);rw[bP eg]at WG;go_in
   go_wp2_with fail
   refine cN WT.v ?_;go_wp2_with fail
   refine cN WG.v ?_;go_wp2
   go_ret
   exact⟨mS m zg,m,by rw[EV.v];rfl,SG.refl m,H.v,bO.refl b w⟩
 .have EV:=hJ (bP e);rw[bP e]at WT;go_in
  go_wp2_with fail
  refine cN WT.v ?_;go_wp2
  go_ret
  exact⟨mH m z,m,by rw[EV.v];rfl,SG.refl m,H.v,bO.refl b w⟩
end
end Wf
structure LO (w:bD)(L:List Nat)(v:Value)(wr:bD):Prop where
 cZ:Below w.heap.size w wr
 own:wr.ownsRow w.heap.size 3 1 v L.length (rowOf L)
theorem LO.nil(w:bD):LO w [] (aj bC 0 0) w:=⟨aQ _ _,World.ownsRow_nil _ _ _ _⟩
theorem LO.more{w w1 wr:bD}{L:List Nat}{gg cap N x:Nat}{l:Value}(h:LO w L l wr)(hN:L.length=N)(hl:w1.ownsRow w.heap.size 3 1 (aj (bB ⟨gg,0,bC⟩) (N+1) cap) (N+1) (rowOf L++[aa bf x]))(o:Obj)(hg:(wr.alloc o).grownBy w1 l.ownBlock):
  LO w (L++[x]) (aj (bB ⟨gg,0,bC⟩) (N+1) cap) w1:=by
 have hs:=h.cZ.size;refine⟨(h.cZ.alloc hs o).grown hg (by simp;omega) (λk e=>(h.own.lt k e).1),?_⟩;have e2:rowOf (L++[x])=rowOf L++[aa bf x]:=by simp[rowOf]
 rw[e2,show(L++[x]).length=N+1 by simp[hN]];exact hl
theorem LO.cells{u w:bD}{L:List Nat}{v:Value}(h:LO u L v w)(hl:0<L.length):∃gg cap,v=aj (bB ⟨gg,0,bC⟩) L.length cap/\gg<w.heap.size/\∀i,i<L.length->w.cell? ⟨gg,0+i,bC⟩=bB (aa bf ((L.getD i 0:Nat):Int)):=by
 have ho:=h.own;obtain⟨gg,cap,hv,_,hg⟩:=ho.form hl;refine⟨gg,cap,hv,hg,λi hi=>?_⟩;rw[hv]at ho;rw[Nat.zero_add,ho.cellAt i bG];exact OG _ _ _ (by rw[aF,aW hi];rfl)
end Go.Proofs.YtpmmdkcfenjiaaaGreatDoor
namespace Go.Proofs.YtpmmdkcfenjiaaaGreatDoor.Gr
open Value renaming int->aa,pointer->ai,slice->aj,string->ak,tuple->ao,iface->aq,bool->ar,agg->au,nilIface->az
open IntKind renaming i64->bf,u64->bj
open Ending renaming returned->bw
open Obj renaming cells->bA
open Option renaming some->bB,none->bC
open Bool renaming true->bE,false->bF
open Tryz (prog)
open Go.RowKit
theorem dv{W:bD}{b:Nat}{c:Array Value}{t:TypeId}(h:W.heap[b]? =bB (bA c t (0,0)))(o:Nat):W.cell? ⟨b,o,bC⟩=c[o]? :=by simp[World.cell?,h]
theorem kU{W:bD}{b:Nat}{c:Array Value}{t:TypeId}(h:W.heap[b]? =bB (bA c t (0,0)))(o:Nat):W.frozen? ⟨b,o,bC⟩=bF:=by simp[World.frozen?,h]
theorem heap_set{W:bD}{b:Nat}{c:Array Value}{t:TypeId}(h:W.heap[b]? =bB (bA c t (0,0)))(o:Nat)(v:Value):(W.setCell ⟨b,o,bC⟩ v).heap[b]? =bB (bA (c.setIfInBounds o v) t (0,0)):=by
 simp[World.setCell,Array.getElem?_modify,h]
open Go.RowKit Go.Shelf
structure Gp where
 there:Bool
 par:Int
 lp:Int
 lq:Int
 op:Int
 oq:Int
def Gp.cell(g:Gp):Nat->Value
 |0=>ar g.there
 |1=>aa bf g.par
 |2=>aa bf g.lp
 |3=>aa bf g.lq
 |4=>aa bf g.op
 |_=>aa bf g.oq
def gH(t:Nat->Gp):Array Value:=((List.range 60).map λi=>(t (i/6)).cell (i%6)).toArray
theorem gL(t:Nat->Gp):(gH t).size=60:=by simp[gH]
theorem oz(t:Nat->Gp)(n j:Nat)(hn:n<10)(hj:j<6):(gH t)[n*6+j]? =bB ((t n).cell j):=by
 have e1:(n*6+j)/6=n:=bG
 have e2:(n*6+j)%6=j:=bG
 have e3:n*6+j<60:=bG
 simp[gH,e3,e1,e2]
theorem xd(t:Nat->Gp)(c:Array Value)(hs:c.size=60)(h:∀n j,n<10->j<6->c[n*6+j]? =bB ((t n).cell j)):c=gH t:=by
 apply bL;intro i;rcases Nat.lt_or_ge i 60 with hi|hi
 .have e:i=i/6*6+i%6:=bG
  rw[e,h (i/6) (i%6) bG bG,oz t (i/6) (i%6) bG bG]
 .rw[aR bG,aR (by rw[gL];omega)]
def cC(w:bD)(b:Nat)(t:Nat->Gp):Prop:=w.heap[b]? =bB (bA (gH t) 135 (0,0))
def fK(t:Nat->Gp)(n:Nat)(g:Gp):Nat->Gp:=λk=>if k=n then g else t k
theorem eG(t:Nat->Gp)(n:Nat)(g:Gp):fK t n g n=g:=by simp[fK]
theorem fc(t:Nat->Gp)(n k:Nat)(g:Gp)(h:k≠n):fK t n g k=t k:=by simp[fK,h]
section
variable {w:bD}{b:Nat}{t:Nat->Gp}
theorem cC.cell(h:cC w b t)(n j:Nat)(hn:n<10)(hj:j<6):w.cell? ⟨b,n*6+j,bC⟩=bB ((t n).cell j):=by rw[dv h,oz t n j hn hj]
theorem cC.frozen(h:cC w b t)(o:Nat):w.frozen? ⟨b,o,bC⟩=bF:=kU h o
theorem cC.drew(h:cC w b t):cC w.drew b t:=h
theorem cC.below{w':bD}(h:cC w b t){B:Nat}(hB:Below B w w')(hb:b<B):cC w' b t:=(hB.block b hb).trans h
theorem cC.lt(h:cC w b t):b<w.heap.size:=(aX.1 h).1
theorem cC.set(h:cC w b t)(n j:Nat)(hn:n<10)(hj:j<6)(v:Value)(g:Gp)(hg:∀i,i<6->g.cell i=if i=j then v else(t n).cell i):cC (w.setCell ⟨b,n*6+j,bC⟩ v) b (fK t n g):=by
 unfold cC;rw[heap_set h];refine congrArg (λc=>bB (bA c 135 (0,0))) ?_;refine xd _ _ (by simp[gL]) λm i hm hi=>?_;by_cases e:m=n
 .subst e;rw[eG,hg i hi];by_cases e2:i=j
  .subst e2;rw[aE (by rw[gL];omega),aJ rfl]
  .rw[aU bG,oz t m i hm hi,aI e2]
 .rw[fc _ _ _ _ e,aU bG,oz t m i hm hi]
end
def valid(t:Nat->Gp)(g:Int):Prop:=0<=g/\g<10/\(t g.toNat).there=bE
def Way(t:Nat->Gp):Int->List Nat->Prop
 |g,[]=>¬valid t g
 |g,x::L=>g=x/\x<10/\(t x).there=bE/\Way t (t x).par L
theorem Way.unique{t:Nat->Gp}:∀{g:Int} {L M:List Nat},Way t g L->Way t g M->L=M
 |_,[],[],_,_=>rfl
 |g,[],x::M,h,⟨e,h1,h2,_⟩=>aZ ⟨by omega,bG,by rw[e];exact h2⟩ h
 |g,x::L,[],⟨e,h1,h2,_⟩,h=>aZ ⟨by omega,bG,by rw[e];exact h2⟩ h
 |g,x::L,y::M,⟨e,_,_,h⟩,⟨e',_,_,h'⟩=>by
  obtain rfl:x=y:=bG
  rw[Way.unique h h']
theorem vJ(b:Nat)(g:Int)(w:bD)(hg:g<0\/10<=g):Calls prog 96 #[ai (bB ⟨b,0,bC⟩),aa bf g] w λe w'=>e=bw (aq 100 (aa .i64 1))/\w'=w:=by
 by_cases h:g<0
 .go_in
  go_wp2
  go_ret
  exact⟨rfl,rfl⟩
 .have h1:decide (g<0)=bF:=by simp;omega
  have h2:10<=g:=bG
  go_in
  go_wp2
  go_ret
  exact⟨rfl,rfl⟩
theorem tS(b g:Nat)(t:Nat->Gp)(w:bD)(h:cC w b t)(hg:g<10)(hh:(t g).there=bF):Calls prog 96 #[ai (bB ⟨b,0,bC⟩),aa bf g] w λe w'=>e=bw (aq 100 (aa .i64 2))/\w'=w:=by
 have c:w.cell? ⟨b,g*6,bC⟩=bB (ar bF):=by have:=h.cell g 0 hg bG;rw[show(t g).cell 0=ar (t g).there from rfl,hh]at this;exact this
 have h1:(g:Int)<10:=bG
 have h2:¬(10:Int)<=(g:Int):=bG
 go_in
 go_wp2
 go_ret
 exact⟨rfl,rfl⟩
theorem jc(b g:Nat)(t:Nat->Gp)(w:bD)(h:cC w b t)(hg:g<10)(hh:(t g).there=bE):Calls prog 96 #[ai (bB ⟨b,0,bC⟩),aa bf g] w λe w'=>e=bw az/\w'=w:=by
 have c:w.cell? ⟨b,g*6,bC⟩=bB (ar bE):=by have:=h.cell g 0 hg bG;rw[show(t g).cell 0=ar (t g).there from rfl,hh]at this;exact this
 have h1:(g:Int)<10:=bG
 have h2:¬(10:Int)<=(g:Int):=bG
 go_in
 go_wp2
 go_ret
 exact⟨rfl,rfl⟩
def wr(t:Nat->Gp)(g:Int):Int:=if g<0\/10<=g then 1 else if(t g.toNat).there=bE then 0 else 2
theorem Ml(b:Nat)(g:Int)(t:Nat->Gp)(w:bD)(h:cC w b t)(hg:¬valid t g):Calls prog 96 #[ai (bB ⟨b,0,bC⟩),aa bf g] w λe w'=>(∃n,e=bw (aq 100 (aa bf n)))/\w'=w:=by
 by_cases hb:g<0\/10<=g
 .exact(vJ b g w hb).mono λe w' ⟨h1,h2⟩=>⟨⟨1,h1⟩,h2⟩
 .obtain⟨n,rfl⟩:=aG (show 0<=g by omega);have hf:(t n).there=bF:=by
   cases hh:(t n).there
   .rfl
   .exact aZ ⟨by omega,bG,hh⟩ hg
  exact(tS b n t w h bG hf).mono λe w' ⟨h1,h2⟩=>⟨⟨2,h1⟩,h2⟩
theorem AM(b:Nat)(n:Int)(w:bD):Calls prog 216 #[ai (bB ⟨b,0,bC⟩),aa bf n] w λe w'=>
  e=bw (.func (.func 267) #[] #[ai (bB ⟨w.heap.size+1,0,bC⟩),ai (bB ⟨w.heap.size,0,bC⟩)])/\w'=(w.alloc (bA #[ai (bB ⟨b,0,bC⟩)] 79)).alloc (bA #[aa bf n] 3):=by
 go_in
 go_wp2
 go_ret
 exact⟨rfl,rfl⟩
attribute [local go_sem] Oper.semAt_some
def K2(b bt:Nat)(W W':bD):Prop:=W'.heap[b]? =W.heap[b]? /\W'.heap[bt]? =W.heap[bt]?
theorem K2.t{b bt:Nat}{A B C:bD}(h:K2 b bt A B)(k:K2 b bt B C):K2 b bt A C:=⟨k.1.trans h.1,k.2.trans h.2⟩
theorem K2.b{b bt:Nat}{w:bD}(h1:b<w.heap.size)(h2:bt<w.heap.size)(W:bD)(l:Nat)(o o':Obj)(hl:w.heap.size<=l)(_:W.heap[l]? =bB o)(_:o.isCells=bF)(_:o.isWalk=bF):K2 b bt W (W.putObj l o'):=
 ⟨World.putObj_heap_other bG,World.putObj_heap_other bG⟩
def kA(xs:List (Fin 10)):List Nat:=xs.map Fin.val
def wF(t:Nat->Gp)(v:Value):Nat->Nat
 |0=>0
 |f+1=>match v with
  |aa _ g=>if 0<=g/\g<10/\(t g.toNat).there=bE then 1+wF t (aa bf (t g.toNat).par) f else 0
  |_=>0
theorem xT{t:Nat->Gp}:∀{g:Int} {L:List Nat} (f:Nat),Way t g L->L.length<=f->wF t (aa bf g) f=L.length
 |_,[],0,_,_=>rfl
 |g,[],f+1,h,_=>by
  unfold wF;exact aI h
 |g,x::L,0,_,hl=>by simp at hl
 |g,x::L,f+1,⟨e,hx,hh,h⟩,hl=>by
  have ih:=xT f h (by simpa using hl);subst e;unfold wF;have hv:(0:Int)<=(x:Int)/\(x:Int)<10/\(t (x:Int).toNat).there=bE:=⟨by omega,bG,by rw[hZ];exact hh⟩;show(if(0:Int)<=(x:Int)/\(x:Int)<10/\(t (x:Int).toNat).there=bE then 1+wF t (aa bf (t (x:Int).toNat).par) f else 0)=_;rw[aJ hv,hZ,ih,List.length_cons];omega
theorem RX(n:Nat)(hn:1<=n)(l bn bt b:Nat)(g0:Int)(t:Nat->Gp)(xs:List (Fin 10))(J Jx:List (Fin 10)->bD->Prop)
  (hY:∀pre x W,J pre W->pre.length<xs.length->YieldAt Fence.wide (n-1) prog l #[aa bf (x.val:Int)] W λe W'=>
   (e=bw (ar bE)/\J (pre++[x]) W'/\K2 b bt W W')\/(e=bw (ar bF)/\Jx (pre++[x]) W'))
  (W:bD) (hbn:W.cell? ⟨bn,0,bC⟩=bB (aa bf g0)) (hbt:W.heap[bt]? =bB (bA #[ai (bB ⟨b,0,bC⟩)] 79 (0,0))) (hT:cC W b t) (hL:Way t g0 (kA xs)) (h0:J [] W):
  CallsIn Fence.wide n prog 267 #[.func (.yield l) #[] #[],ai (bB ⟨bn,0,bC⟩),ai (bB ⟨bt,0,bC⟩)] W λe W'=>(∃v,e=bw v)/\
   ((∃ys,ys=xs/\J ys W')\/(∃pre,pre<+:xs/\Jx pre W')):=by
 refine callsIn_of_wp Tryz.func267 rfl trivial ?_ rfl;simp only[Tryz.ntmps267,List.size_toArray,List.length_cons,List.length_nil,Nat.reduceAdd,Nat.reduceSub,Array.replicate_succ,Array.replicate_zero,List.push_toArray,List.append_toArray,List.nil_append,List.cons_append]
 gi_wp2
 gi_loopw [4] (λp wr=>∃(pre rest:List (Fin 10)) (g:Int),p=aa bf g/\xs=pre++rest/\Hid (Way t g (kA rest)/\cC wr b t/\wr.heap[bt]? =bB (bA #[ai (bB ⟨b,0,bC⟩)] 79 (0,0))/\J pre wr))
  (λp _=>wF t p xs.length)
 case atStart=>
  exact⟨[],xs,g0,rfl,rfl,hL,hT,hbt,h0⟩
 case round=>
  obtain⟨pre,rest,g,rfl,hx,H⟩:=hrel;have cb:wr.cell? ⟨bt,0,bC⟩=bB (ai (bB ⟨b,0,bC⟩)):=by rw[dv H.2.2.1];rfl
  cases rest with
  |nil=>
   gi_wp2_with (refine⟨trivial,?_⟩;gi_at_call 96;refine(callsIn_wide.2 (Ml b g t _ H.2.1 H.1)).mono ?_;rintro e w' ⟨⟨m,rfl⟩,rfl⟩)
   go_end0
   exact⟨⟨_,rfl⟩, .inl ⟨pre,by simp[hx],H.2.2.2⟩⟩
  |cons x rest=>
   obtain⟨e,hx10,hth,hrest⟩:=H.1;subst e;have hlen:(x::rest).length<=xs.length:=by rw[hx];simp
   obtain⟨fn,tmps,assign,body,hy,hR⟩:=hY pre x wr H.2.2.2 (by rw[hx];simp);have HT:Hid (cC wr b t):=H.2.1;have HB:Hid (wr.heap[bt]? =bB (bA #[ai (bB ⟨b,0,bC⟩)] 79 (0,0))):=H.2.2.1;have HR:Hid (Way t (t x.val).par (kA rest)):=hrest;have HTH:Hid ((t x.val).there=bE):=hth;have HX:Hid (xs=pre++x::rest):=hx
   gi_wp2_with (refine⟨trivial,?_⟩;gi_at_call 96;refine(callsIn_wide.2 (jc b x.val t _ HT.v hx10 HTH.v)).mono ?_;rintro e w' ⟨rfl,rfl⟩)
   refine hR.mono ?_;rintro e W3 (⟨rfl,hJ3,hk3⟩|⟨rfl,hJx3⟩)
   .have T3:Hid (cC W3 b t):=hk3.1.trans HT.v;have B3:Hid (W3.heap[bt]? =bB (bA #[ai (bB ⟨b,0,bC⟩)] 79 (0,0))):=hk3.2.trans HB.v;have c3:W3.cell? ⟨bt,0,bC⟩=bB (ai (bB ⟨b,0,bC⟩)):=by rw[dv B3.v];rfl
    have p3:W3.cell? ⟨b,x.val*6+1,bC⟩=bB (aa bf (t x.val).par):=T3.cell x.val 1 hx10 bG;have hxI:(x.val:Int)<10:=bG
    have J3:Hid (J (pre++[x]) W3):=hJ3
    gi_wp2
    go_roundw
    case rel=>exact⟨pre++[x],rest,_,rfl,by rw[HX.v];simp,HR.v,T3.v,B3.v,J3.v⟩
    case measure=>
     rw[xT xs.length HR.v (by simp[kA]at hlen|-;omega),xT xs.length (L:=kA (x::rest)) ⟨rfl,hx10,HTH.v,HR.v⟩ (by simpa[kA]using hlen)];simp[kA]
   .gi_wp2
    refine bodyPost_ret (results_none rfl _ _ _) rfl ?_;exact⟨⟨_,rfl⟩, .inr ⟨pre++[x],⟨rest,by rw[HX.v];simp⟩,hJx3⟩⟩
theorem vF(n:Nat)(hn:1<=n)(bn bt b:Nat)(g0:Int)(t:Nat->Gp)(xs:List (Fin 10))(w:bD)(hbnl:bn<w.heap.size)(hbn:w.cell? ⟨bn,0,bC⟩=bB (aa bf g0))(hbt:w.heap[bt]? =bB (bA #[ai (bB ⟨b,0,bC⟩)] 79 (0,0)))(hT:cC w b t)(hL:Way t g0 (kA xs)):
  SeqStopsK Fence.wide n prog 267 #[ai (bB ⟨bn,0,bC⟩),ai (bB ⟨bt,0,bC⟩)] (λx:Fin 10=>#[aa bf (x.val:Int)]) (K2 b bt) (λys=>ys=xs) (λpre=>pre<+:xs) xs.length w:=λl J Jx W hW _ _ hY h0=>
 RX n hn l bn bt b g0 t xs J Jx hY W ((hW.cell (p:=⟨bn,0,bC⟩) hbnl).trans hbn) ((hW.block bt (aX.1 hbt).1).trans hbt) ((hW.block b hT.lt).trans hT) hL h0
end Go.Proofs.YtpmmdkcfenjiaaaGreatDoor.Gr

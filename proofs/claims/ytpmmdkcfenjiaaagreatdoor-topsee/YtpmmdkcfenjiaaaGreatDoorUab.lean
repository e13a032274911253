import Derived.Test.YtpmmdkcfenjiaaaGreatDoorUzz
import Derived.Test.YtpmmdkcfenjiaaaGreatDoorProg
import Derived.WalkSpells
import Derived.WalkLawsBesides
import Derived.BigQuiet
import Derived.Deep.Slices
import Derived.Deep.AppendLies
import Derived.Deep.RegionHeld3
import Derived.Handy
import Derived.StillTailTactics
set_option maxRecDepth 100000
set_option maxHeartbeats 2000000
set_option linter.unusedVariables false
set_option linter.unusedSimpArgs false
namespace Go.Proofs.YtpmmdkcfenjiaaaGreatDoor
open Value renaming int->aa,pointer->ai,slice->aj,string->ak,tuple->ao,iface->aq,bool->ar,agg->au,nilIface->ay
open IntKind renaming i64->az,u64->bd
open Ending renaming returned->bf
open Obj renaming cells->bg
open Option renaming some->bh,none->bj
open Tryz (prog)
open Go.RowKit
theorem cG{P:Program}{c:Code}{Q:Exit->Act->bD->Prop}{a:Act}{W:bD}(F:bD->Prop)(h1:F W)(h2:∀W',F W'->Code.wp P c Q a W'):Code.wp P c Q a W:=h2 W h1
theorem cE{w:bD}{b:Nat}{C:Array Value}{T:TypeId}(h:w.heap[b]? =bh (bg C T (0,0)))(i:Nat)(v:Value):(w.setCell ⟨b,i,bj⟩ v).heap[b]? =bh (bg (C.setIfInBounds i v) T (0,0)):=by
 simp[World.setCell,Array.getElem?_modify,h]
theorem cQ{a b:Bool}(h:a=b):bf (ar a)=bf (ar b):=by rw[h]
structure bE (b:Nat)(w w':bD):Prop where
 os:w'.os=w.os
 tape:w'.tape=w.tape
 output:w'.output=w.output
 size:w.heap.size<=w'.heap.size
 block:∀k,k<w.heap.size->k≠b->w'.heap[k]? =w.heap[k]?
theorem bE.cC{b:Nat}{w w':bD}(h:Below w.heap.size w w'):bE b w w':=⟨h.os,h.tape,h.output,h.size,λk hk _=>h.block k hk⟩
theorem bE.refl(b:Nat)(w:bD):bE b w w:=⟨rfl,rfl,rfl,aL _,λ_ _ _=>rfl⟩
theorem bE.trans{b:Nat}{u v w:bD}(h:bE b u v)(k:bE b v w):bE b u w:=
 ⟨k.os.trans h.os,k.tape.trans h.tape,k.output.trans h.output,aH h.size k.size,λj hj hn=>(k.block j (aD hj h.size) hn).trans (h.block j hj hn)⟩
theorem dJ{W:bD}(b c o:Nat)(v:Value)(h:b≠c):(W.setCell ⟨c,o,bj⟩ v).heap[b]? =W.heap[b]? :=Below.heap_setCell _ _ _ _ h
theorem bE.setCell{b:Nat}{u w:bD}(h:bE b u w)(o:Nat)(v:Value):bE b u (w.setCell ⟨b,o,bj⟩ v):=
 ⟨h.os,h.tape,h.output,by simpa[World.setCell]using h.size,λk hk hn=>(dJ _ _ _ _ hn).trans (h.block k hk hn)⟩
theorem bE.drew{b:Nat}{u w:bD}(h:bE b u w):bE b u w.drew:=⟨h.os,h.tape,h.output,h.size,h.block⟩
theorem bE.drewN{b:Nat}{u w:bD}(h:bE b u w)(n:Nat):bE b u (w.drewN n):=⟨h.os,h.tape,h.output,h.size,h.block⟩
theorem bE.below{b B:Nat}{u w w':bD}(h:bE b w w')(hb:Below B u w)(hB:B<=b)(hs:B<=w.heap.size):Below B u w':=
 hb.trans ⟨h.os,h.tape,h.output,h.size,λk hk=>h.block k bu bu⟩
theorem bO{w:bD}{b:Nat}{C:Array Value}{T:TypeId}(h:w.heap[b]? =bh (bg C T (0,0)))(o:Nat):w.cell? ⟨b,o,bj⟩=C[o]? :=by simp[World.cell?,h]
theorem cv{w:bD}{b:Nat}{C:Array Value}{T:TypeId}(h:w.heap[b]? =bh (bg C T (0,0)))(o:Nat):w.frozen? ⟨b,o,bj⟩=false:=by simp[World.frozen?,h]
theorem da{w:bD}{b:Nat}{C:Array Value}{T:TypeId}(h:w.heap[b]? =bh (bg C T (0,0)))(i j:Nat)(v:Value)(e:i≠j):(w.setCell ⟨b,i,bj⟩ v).cell? ⟨b,j,bj⟩=w.cell? ⟨b,j,bj⟩:=by
 rw[bO (cE h i v),bO h,aU e]
theorem du{w:bD}{b:Nat}{C:Array Value}{T:TypeId}(h:w.heap[b]? =bh (bg C T (0,0)))(i:Nat)(v:Value)(hi:i<C.size):(w.setCell ⟨b,i,bj⟩ v).cell? ⟨b,i,bj⟩=bh v:=by
 rw[bO (cE h i v),aE hi]
def bG(k:Int):Value:=if k=0 then ay else aq 100 (aa .i64 k)
theorem bB:bG 0=ay:=rfl
theorem bC{k:Int}(h:k≠0):bG k=aq 100 (aa .i64 k):=aI h
theorem OP(n:Int)(w:bD):(Instr.typeAssert (aq 100 (aa az n)) 34 100 true).run prog w= .ok (ao #[aa az n,ar true]) w:=by kernel_rfl
theorem zY(a:Option Addr)(n c:Nat)(m:Int)(w:bD):Calls prog 38 #[aj a n c,aa az m] w λe w'=>e=bf (ar (decide ((n:Int)<=m)))/\w'=w:=by
 go_in
 go_wp2
 go_ret
 exact⟨rfl,rfl⟩
theorem rZ(b o j:Nat):(⟨b,o,bj⟩:Addr).add j=⟨b,o+j,bj⟩:=by unfold Addr.add;split<;>simp_all
structure gD where
 kind:bU
 a:Int
 b:Int
 c:Int
 key:Nat
 on:Bool
 s:bU
 t:bU
def gD.cell(x:gD):Nat->Value
 |0=>ak x.kind
 |1=>aa az x.a
 |2=>aa az x.b
 |3=>aa az x.c
 |4=>aa bd x.key
 |5=>ar x.on
 |6=>ak x.s
 |_=>ak x.t
theorem Bs:prog.cellsOf 29=8:=by kernel_rfl
theorem Br:prog.cellsOf 9=1:=by kernel_rfl
theorem Bq:prog.cellsOf 3=1:=by kernel_rfl
theorem OZ:prog.cellsOf 27=1:=by kernel_rfl
theorem QL:prog.cellsOf 4=1:=by kernel_rfl
theorem Oa{α:Type}{l:List α}(h:l.length=8):∃a b c d e f g k,l=[a,b,c,d,e,f,g,k]:=by
 match l,h with
 |[a,b,c,d,e,f,g,k],_=>exact⟨a,b,c,d,e,f,g,k,rfl⟩
theorem QC{H:Type}{enc:TypeId×Value->H}{w:bD}{UE:Nat}{spare:Nat->Bool}{held:Bool}{fuel:Nat}{cs:List Value}{x:DataW H×List MemPlace}(h:DataW.trod enc prog w UE spare held fuel 29 cs=bh x):
  ∃y:gD,cs.length=8/\∀j,j<8->cs[j]? =bh (y.cell j):=by
 obtain⟨xs,n,_,_,hl,hlen,hf⟩:=DataW.trod_struct Tryz.underlying29 h;rw[Bs]at hl;obtain⟨c0,c1,c2,c3,c4,c5,c6,c7,rfl⟩:=Oa hl;obtain⟨x0,x1,x2,x3,x4,x5,x6,x7,rfl⟩:=Oa (show xs.length=8 from hlen);have f0:DataW.trod enc prog w UE spare held n 9 (([c0,c1,c2,c3,c4,c5,c6,c7].drop 0).take (prog.cellsOf 9))=bh x0:=hf 0 _ rfl;have f1:DataW.trod enc prog w UE spare held n 3 (([c0,c1,c2,c3,c4,c5,c6,c7].drop 1).take (prog.cellsOf 3))=bh x1:=hf 1 _ rfl;have f2:DataW.trod enc prog w UE spare held n 3 (([c0,c1,c2,c3,c4,c5,c6,c7].drop 2).take (prog.cellsOf 3))=bh x2:=hf 2 _ rfl;have f3:DataW.trod enc prog w UE spare held n 3 (([c0,c1,c2,c3,c4,c5,c6,c7].drop 3).take (prog.cellsOf 3))=bh x3:=hf 3 _ rfl;have f4:DataW.trod enc prog w UE spare held n 27 (([c0,c1,c2,c3,c4,c5,c6,c7].drop 4).take (prog.cellsOf 27))=bh x4:=hf 4 _ rfl;have f5:DataW.trod enc prog w UE spare held n 4 (([c0,c1,c2,c3,c4,c5,c6,c7].drop 5).take (prog.cellsOf 4))=bh x5:=hf 5 _ rfl;have f6:DataW.trod enc prog w UE spare held n 9 (([c0,c1,c2,c3,c4,c5,c6,c7].drop 6).take (prog.cellsOf 9))=bh x6:=hf 6 _ rfl;have f7:DataW.trod enc prog w UE spare held n 9 (([c0,c1,c2,c3,c4,c5,c6,c7].drop 7).take (prog.cellsOf 9))=bh x7:=hf 7 _ rfl;rw[Br]at f0;rw[Bq]at f1;rw[Bq]at f2;rw[Bq]at f3;rw[OZ]at f4;rw[QL]at f5;rw[Br]at f6;rw[Br]at f7;obtain⟨k0,e0,_⟩:=DataW.trod_string Tryz.underlying9 f0;obtain⟨k1,e1,_⟩:=DataW.trod_int Tryz.underlying3 f1
 obtain⟨k2,e2,_⟩:=DataW.trod_int Tryz.underlying3 f2;obtain⟨k3,e3,_⟩:=DataW.trod_int Tryz.underlying3 f3;obtain⟨k4,e4,_,w4⟩:=DataW.trod_int Tryz.underlying27 f4;obtain⟨k5,e5,_⟩:=DataW.trod_bool Tryz.underlying4 f5;obtain⟨k6,e6,_⟩:=DataW.trod_string Tryz.underlying9 f6;obtain⟨k7,e7,_⟩:=DataW.trod_string Tryz.underlying9 f7;have p4:0<=k4:=(bounds_u64 w4).1;refine⟨⟨k0,k1,k2,k3,k4.toNat,k5,k6,k7⟩,rfl,λj hj=>?_⟩;simp only[List.drop,List.take,List.cons.injEq,and_true]at e0 e1 e2 e3 e4 e5 e6 e7;subst e0 e1 e2 e3 e4 e5 e6 e7;have e4:((k4.toNat:Nat):Int)=k4:=Int.toNat_of_nonneg p4
 match j,hj with
 |0,_=>rfl
 |1,_=>rfl
 |2,_=>rfl
 |3,_=>rfl
 |4,_=>simp[gD.cell,e4]
 |5,_=>rfl
 |6,_=>rfl
 |7,_=>rfl
def uQ(w:bD)(a:Option Addr)(len:Nat):Prop:=len<=maxLen/\(0<len->∃b o,∃ax:Nat->gD,a=bh ⟨b,o,bj⟩/\∀i,i<len->∀j,j<8->w.cell? ⟨b,o+i*8+j,bj⟩=bh ((ax i).cell j))
theorem OL{H:Type}{enc:TypeId×Value->H}{w:bD}{UE:Nat}{spare:Nat->Bool}{held:Bool}{fuel:Nat}{a:Option Addr}{len cap:Nat}{x:DataW H×List MemPlace}(h:DataW.trod enc prog w UE spare held fuel 22 [aj a len cap]=bh x):
  uQ w a len:=by
 rcases Go.Deep.open_slice Tryz.underlying22 h with⟨hcs,_⟩|⟨ad,l,c,m,n,D,Pl,hcs,_,hl,hm,hmm,_,hel⟩
 .simp at hcs;obtain⟨rfl,rfl,rfl⟩:=hcs;exact⟨aC _,λh0=>aZ h0 bu⟩
 .simp at hcs;obtain⟨rfl,rfl,rfl⟩:=hcs;refine⟨by omega,λh0=>?_⟩;have hlm:len<=m:=by rw[hmm];split<;>omega
  have hex:∀i,i<len->∃y:gD,∀j,j<8->w.cell? (ad.add (i*8+j))=bh (y.cell j):=λi hi=>by
   obtain⟨cs',hc,ht⟩:=hel i bu;rw[Bs]at hc;obtain⟨y,hl8,hy⟩:=QC ht;refine⟨y,λj hj=>?_⟩;have h8:=(World.cells?_some hc).2.2 j hj;rw[Go.Deep.add_add,hy j hj]at h8;exact h8
  obtain⟨b,o,spot⟩:=ad;have hspot:spot=none:=by
   obtain⟨y,hy⟩:=hex 0 h0;simpa[Addr.add]using World.cell?_spot (hy 0 bu)
  subst hspot;refine⟨b,o,λi=>if hi:i<len then Classical.choose (hex i hi)else⟨⟨#[]⟩,0,0,0,0,false,⟨#[]⟩,⟨#[]⟩⟩,rfl,λi hi j hj=>?_⟩;have hc:=Classical.choose_spec (hex i hi) j hj;have ha:(⟨b,o,bj⟩:Addr).add (i*8+j)=⟨b,o+i*8+j,bj⟩:=by unfold Addr.add;split<;>simp_all<;>omega
  rw[ha]at hc;simp only[dif_pos hi];exact hc
structure iP (b r:Nat)(w w':bD):Prop where
 os:w'.os=w.os
 tape:w'.tape=w.tape
 output:w'.output=w.output
 size:w.heap.size<=w'.heap.size
 block:∀k,k<w.heap.size->k≠b->k≠r->w'.heap[k]? =w.heap[k]?
section
variable {b r:Nat}{u v w:bD}
theorem iP.refl(b r:Nat)(w:bD):iP b r w w:=⟨rfl,rfl,rfl,aL _,λ_ _ _ _=>rfl⟩
theorem iP.left(h:iP b r u v)(k:bE b v w):iP b r u w:=⟨k.os.trans h.os,k.tape.trans h.tape,k.output.trans h.output,aH h.size k.size,λj hj h1 h2=>(k.block j (aD hj h.size) h1).trans (h.block j hj h1 h2)⟩
theorem iP.right(h:iP b r u v)(k:bE r v w):iP b r u w:=⟨k.os.trans h.os,k.tape.trans h.tape,k.output.trans h.output,aH h.size k.size,λj hj h1 h2=>(k.block j (aD hj h.size) h2).trans (h.block j hj h1 h2)⟩
theorem iP.drew(h:iP b r u v):iP b r u v.drew:=⟨h.os,h.tape,h.output,h.size,h.block⟩
theorem iP.trans(h:iP b r u v)(k:iP b r v w):iP b r u w:=⟨k.os.trans h.os,k.tape.trans h.tape,k.output.trans h.output,aH h.size k.size,λj hj h1 h2=>(k.block j (aD hj h.size) h1 h2).trans (h.block j hj h1 h2)⟩
end
theorem cH{w:bD}{ba:Nat}{T:TypeId}{cs:Array Value}(h:w.heap[ba]? =bh (bg cs T (0,0)))(j:Nat)(v:Value)(e:cs[j]? =bh v):w.cell? ⟨ba,j,bj⟩=bh v:=by rw[bO h];exact e
def rowOf(L:List Nat):List Value:=L.map λ(x:Nat)=>aa az x
theorem Na(L:List Nat)(t x:Nat)(h:L[t]? =bh x):(rowOf L)[t]? =bh (aa az x):=by simp[rowOf,h]
theorem xM:(prog.info? 3).map (λi=>(i.zero,i.size,i.bytes))=bh (bh (aa .i64 0),1,8):=by kernel_rfl
theorem fG{w:bD}{UE:Nat}{v:Value}{n:Nat}{xs:List Value}(h:w.ownsRow UE 3 1 v n xs):∃a cap,v=aj a n cap:=by
 rcases h.2 with⟨rfl,rfl⟩|⟨g,cap,_,rfl,_⟩
 .exact⟨bj,0,rfl⟩
 .exact⟨_,cap,rfl⟩
namespace Wf
def K(i:Nat):Nat:=
 if i<1 then 0 else if i<121 then(if(i-1)%4=0 then 2 else if(i-1)%4=1 then 0 else 1)
 else if i<2101 then(if(i-121)%198<129 then 0 else if(i-121)%198<194 then 1 else if(i-121)%198=194 then 2 else 0)
 else if(i-2101)%2=0 then 2 else 0
def V(k:Nat)(z:Int):Value:=if k=0 then aa az z else if k=1 then aa bd z else ar (decide (z=1))
def up(x:Nat->Int)(i:Nat)(z:Int):Nat->Int:=λj=>if j=i then z else x j
def jj(f:Nat->Nat)(i v:Nat):Nat->Nat:=λj=>if j=i then v else f j
theorem gU(x:Nat->Int)(i:Nat)(z:Int):up x i z i=z:=aJ rfl
theorem cq(x:Nat->Int){i j:Nat}(z:Int)(h:j≠i:=by omega):up x i z j=x j:=aI h
structure SA (w:bD)(b:Nat)(x:Nat->Int):Prop where
 cU:∃C,w.heap[b]? =bh (bg C 173 (0,0))/\C.size=2141
 dQ:∀i,i<2141->w.cell? ⟨b,i,bj⟩=bh (V (K i) (x i))
section
variable {w w':bD}{b:Nat}{x:Nat->Int}
theorem SA.lt(h:SA w b x):b<w.heap.size:=by obtain⟨C,e,_⟩:=h.cU;exact(aX.1 e).1
theorem SA.same(h:SA w b x)(e:w'.heap[b]? =w.heap[b]?):SA w' b x:=by
 obtain⟨C,f,g⟩:=h.cU;exact⟨⟨C,e.trans f,g⟩,λi hi=>(aV e).trans (h.dQ i hi)⟩
theorem SA.drewN(h:SA w b x)(n:Nat):SA (w.drewN n) b x:=⟨h.cU,h.dQ⟩
theorem SA.drew(h:SA w b x):SA w.drew b x:=⟨h.cU,h.dQ⟩
theorem SA.frozen(h:SA w b x)(i:Nat):w.frozen? ⟨b,i,bj⟩=false:=by obtain⟨C,f,_⟩:=h.cU;exact cv f i
theorem SA.set(h:SA w b x)(i:Nat)(z:Int)(v:Value)(hi:i<2141)(hv:v=V (K i) z):SA (w.setCell ⟨b,i,bj⟩ v) b (up x i z):=by
 obtain⟨C,f,g⟩:=h.cU;refine⟨⟨_,cE f i v,by rw[Array.size_setIfInBounds];exact g⟩,λj hj=>?_⟩;by_cases e:j=i
 .subst e;rw[du f j v bu,gU,hv]
 .rw[da f i j v (bQ e),cq _ _ e,h.dQ j hj]
theorem SA.i(h:SA w b x)(i:Nat)(hi:i<2141/\K i=0):w.cell? ⟨b,i,bj⟩=bh (aa az (x i)):=by rw[h.dQ i hi.1,hi.2];rfl
theorem SA.u(h:SA w b x)(i:Nat)(hi:i<2141/\K i=1):w.cell? ⟨b,i,bj⟩=bh (aa bd (x i)):=by rw[h.dQ i hi.1,hi.2];rfl
theorem SA.bo(h:SA w b x)(i:Nat)(hi:i<2141/\K i=2):w.cell? ⟨b,i,bj⟩=bh (ar (decide (x i=1))):=by rw[h.dQ i hi.1,hi.2];rfl
end
def Ek(o:Nat):Prop:=∃g,g<10/\o=121+g*198
theorem Ek.k{o:Nat}(h:Ek o)(i:Nat)(hi:i<129):o+i<2141/\K (o+i)=0:=by
 obtain⟨g,hg,rfl⟩:=h;refine⟨by omega,?_⟩;unfold K;rw[nJ,nJ,nK,nK]
theorem Ek.key{o:Nat}(h:Ek o)(i:Nat)(hi:i<64):o+129+i<2141/\K (o+129+i)=1:=by
 obtain⟨g,hg,rfl⟩:=h;refine⟨by omega,?_⟩;unfold K;rw[nJ,nJ,nK,nJ,nK]
structure Qv (x:Nat->Int)(o m:Nat)(h p:Nat->Nat):Prop where
 m:x o=m
 h:∀i,i<64->x (o+1+i)=h i
 p:∀i,i<64->x (o+65+i)=p i
section
variable {x:Nat->Int}{o m:Nat}{h p:Nat->Nat}
theorem Qv.sh(q:Qv x o m h p)(i n:Nat)(hi:i<64):Qv (up x (o+1+i) n) o m (jj h i n) p:=
 ⟨(cq _ _).trans q.m,λj hj=>by have:=q.h j hj;unfold up jj;grind,λj hj=>(cq _ _).trans (q.p j hj)⟩
theorem Qv.sp(q:Qv x o m h p)(i n:Nat)(hi:i<64):Qv (up x (o+65+i) n) o m h (jj p i n):=
 ⟨(cq _ _).trans q.m,λj hj=>(cq _ _).trans (q.h j hj),λj hj=>by have:=q.p j hj;unfold up jj;grind⟩
theorem Qv.sm(q:Qv x o m h p)(n:Nat):Qv (up x o n) o n h p:=
 ⟨gU _ _ _,λj hj=>(cq _ _).trans (q.h j hj),λj hj=>(cq _ _).trans (q.p j hj)⟩
theorem Qv.so(q:Qv x o m h p)(i:Nat)(z:Int)(hi:i<o\/o+129<=i):Qv (up x i z) o m h p:=
 ⟨(cq _ _).trans q.m,λj hj=>(cq _ _).trans (q.h j hj),λj hj=>(cq _ _).trans (q.p j hj)⟩
end
structure oR (m:Nat)(h p:Nat->Nat):Prop where
 le:m<=64
 at_:∀i,i<m->h i<64/\p (h i)=i+1
 Cv:∀j,j<64->p j<=m/\(0<p j->h (p j-1)=j)
def QI(x:Nat->Int)(o:Nat):Prop:=∃m h p,Qv x o m h p/\oR m h p
section
variable {m:Nat}{h p:Nat->Nat}
theorem oR.swap(k:oR m h p){a c:Nat}(ha:a<m)(hc:c<m):oR m (jj (jj h a (h c)) c (h a)) (jj (jj p (h c) (a+1)) (h a) (c+1)):=by
 have xa:=k.at_ a ha;have xc:=k.at_ c hc;refine⟨k.le,λi hi=>?_,λj hj=>?_⟩
 .have xi:=k.at_ i hi;unfold jj;grind
 .have xj:=k.Cv j hj;unfold jj;grind
theorem tQ:∀(l t:List Nat),l.Nodup->(∀x∈l,x∈t)->l.length<=t.length
 |[],_,_,_=>aC _
 |a::l,t,h,s=>by
  obtain⟨h1,h2⟩:=List.nodup_cons.1 h;have e:=List.length_erase_of_mem (s a (List.mem_cons_self ..));have:=tQ l (t.erase a) h2 (λx hx=>(List.mem_erase_of_ne (by rintro rfl;exact h1 hx)).2 (s x (List.mem_cons_of_mem _ hx)));have:=List.length_pos_of_mem (s a (List.mem_cons_self ..));simp only[List.length_cons];omega
theorem oR.lt(k:oR m h p){j:Nat}(hj:j<64)(hn:p j=0):m<64:=by
 have hl:((List.range m).map h).Nodup:=by
  rw[List.nodup_iff_pairwise_ne,List.pairwise_map];refine List.Pairwise.imp_of_mem ?_ (List.nodup_iff_pairwise_ne.1 List.nodup_range);intro a b ha hb hab e;have a1:=(k.at_ a (by simpa using ha)).2;have b1:=(k.at_ b (by simpa using hb)).2;rw[e]at a1;omega
 have:=tQ _ ((List.range 64).erase j) hl (λx hx=>by
  obtain⟨a,ha,rfl⟩:=List.mem_map.1 hx;have a1:=k.at_ a (by simpa using ha);exact(List.mem_erase_of_ne (by rintro rfl;omega)).2 (by simpa using a1.1))
 rw[List.length_erase_of_mem (by simpa using hj)]at this;simp at this;omega
theorem oR.put(k:oR m h p){j:Nat}(hj:j<64)(hn:p j=0):oR (m+1) (jj h m j) (jj p j (m+1)):=by
 refine⟨k.lt hj hn,λi hi=>?_,λl hl=>?_⟩
 .have:=k.at_ i;unfold jj;grind
 .have:=k.Cv l hl;unfold jj;grind
theorem oR.iH(k:oR (m+1) h p){j:Nat}(e:h m=j):oR m (jj h m 0) (jj p j 0):=by
 have xm:=k.at_ m bu;refine⟨by have:=k.le;omega,λi hi=>?_,λl hl=>?_⟩
 .have:=k.at_ i bu;unfold jj;grind
 .have:=k.Cv l hl;unfold jj;grind
theorem oR.TJ(k:oR (m+1) h p){j a:Nat}(hj:j<64)(hp:p j=a+1)(e:h m≠j):oR m (jj (jj h m 0) a (h m)) (jj (jj p j 0) (h m) (a+1)):=by
 have xm:=k.at_ m bu;have xj:=k.Cv j hj;refine⟨by have:=k.le;omega,λi hi=>?_,λl hl=>?_⟩
 .have:=k.at_ i bu;unfold jj;grind
 .have:=k.Cv l hl;unfold jj;grind
end
structure Rs (o:Nat)(x x':Nat->Int):Prop where
 v:∀i,i<=o\/o+129<=i->x' i=x i
 has:∀j,j<64->(0<x' (o+65+j)↔0<x (o+65+j))
theorem Rs.refl(o:Nat)(x:Nat->Int):Rs o x x:=⟨λ_ _=>rfl,λ_ _=>Iff.rfl⟩
theorem Rs.trans{o:Nat}{x y z:Nat->Int}(h:Rs o x y)(k:Rs o y z):Rs o x z:=⟨λi hi=>(k.v i hi).trans (h.v i hi),λj hj=>(k.has j hj).trans (h.has j hj)⟩
theorem cr{f:Nat}{a:Array Value}{w:bD}{E:Ending}{Q:Ending->bD->Prop}(h:Calls prog f a w λe w'=>e=E/\w'=w)(q:Q E w):Calls prog f a w Q:=h.mono (by rintro _ _ ⟨rfl,rfl⟩;exact q)
def To(b:Nat)(w:bD)(P:(Nat->Int)->Prop)(w':bD):Prop:=∃x',SA w' b x'/\bE b w w'/\P x'
end Wf
namespace Wf
structure QS (w:bD)(b o:Nat)(x:Nat->Int)(m:Nat)(h p:Nat->Nat):Prop where
 sa:SA w b x
 io:Ek o
 q:Qv x o m h p
 k:oR m h p
section
variable {w w':bD}{b o m:Nat}{x:Nat->Int}{h p:Nat->Nat}
theorem QS.many(s:QS w b o x m h p):w.cell? ⟨b,o,bj⟩=bh (aa az m):=by rw[<-s.q.m];exact s.sa.i _ (s.io.k 0 bu)
theorem QS.heap(s:QS w b o x m h p)(i:Nat)(hi:i<64):w.cell? ⟨b,o+1+i,bj⟩=bh (aa az (h i)):=by rw[<-s.q.h i hi,Nat.add_assoc];exact s.sa.i _ (s.io.k _ bu)
theorem QS.place(s:QS w b o x m h p)(i:Nat)(hi:i<64):w.cell? ⟨b,o+65+i,bj⟩=bh (aa az (p i)):=by rw[<-s.q.p i hi,Nat.add_assoc];exact s.sa.i _ (s.io.k _ bu)
theorem QS.keys(s:QS w b o x m h p)(i:Nat)(hi:i<64):w.cell? ⟨b,o+129+i,bj⟩=bh (aa bd (x (o+129+i))):=s.sa.u _ (s.io.key i hi)
theorem QS.drewN(s:QS w b o x m h p)(n:Nat):QS (w.drewN n) b o x m h p:=⟨s.sa.drewN n,s.io,s.q,s.k⟩
end
def Qt(b o:Nat)(x:Nat->Int)(m:Nat)(w w':bD):Prop:=bE b w w'/\∃x' h' p',QS w' b o x' m h' p'/\Rs o x x'
theorem Qt.trans{b o m:Nat}{x x':Nat->Int}{u v w:bD}(f:bE b u v)(r:Rs o x x')(k:Qt b o x' m v w):Qt b o x m u w:=by
 obtain⟨g,y,h,p,s,t⟩:=k;exact⟨f.trans g,y,h,p,s,r.trans t⟩
section
variable (b o m:Nat)(x:Nat->Int)(h p:Nat->Nat)(w:bD)
theorem vC(j:Nat)(hj:j<64):Calls prog 297 #[aa az j] w λe w'=>e=bf (ar true)/\w'=w:=by
 have hj':(j:Int)<64:=bu
 go_in
 go_wp2
 go_ret
 exact⟨rfl,rfl⟩
theorem Ey(j:Nat)(s:QS w b o x m h p)(hj:j<64):Calls prog 298 #[ai (bh ⟨b,o,bj⟩),aa az j] w λe w'=>e=bf (ar (decide (0<p j)))/\w'=w:=by
 have c:=s.place j hj;have hj':(j:Int)<64:=bu
 go_in
 go_wp2
 go_ret
 exact⟨cQ (by simp),rfl⟩
theorem vp(a j:Nat)(hs:SA w b x)(io:Ek o)(ha:a<64)(hj:j<64):Calls prog 293 #[ai (bh ⟨b,o,bj⟩),aa az a,aa az j] w λe w'=>e=bf (ao #[])/\SA w' b (up (up x (o+1+a) j) (o+65+j) (a+1:Nat))/\bE b w w':=by
 have k1:=io.k (1+a) bu;have k2:=io.k (65+j) bu;rw[<-Nat.add_assoc]at k1 k2;have c1:=hs.i _ k1;have c2:=hs.i _ k2;have hf:=hs.frozen;have ha':(a:Int)<64:=bu
 have hj':(j:Int)<64:=bu
 have H:=hJ (aK hs (aK k1 k2));go_in
 go_wp2
 go_end0
 exact⟨rfl,(H.1.set _ _ _ H.2.1.1 (by rw[H.2.1.2];rfl)).set _ _ _ H.2.2.1 (by rw[H.2.2.2];rfl),((bE.refl _ _).setCell _ _).setCell _ _⟩
theorem zH(a c:Nat)(s:QS w b o x m h p)(ha:a<m)(hc:c<m):Calls prog 318 #[ai (bh ⟨b,o,bj⟩),aa az a,aa az c] w λe w'=>∃r n,e=bf (ar r)/\w'=w.drewN n:=by
 have le:=s.k.le;have c1:=s.heap a bu;have c2:=s.heap c bu;have h1:=(s.k.at_ a ha).1;have h2:=(s.k.at_ c hc).1;have c3:=s.keys _ h1;have c4:=s.keys _ h2;generalize h a=X at*;generalize h c=Y at*;generalize x (o+129+X)=kx at*;generalize x (o+129+Y)=ky at*;have l1:(a:Int)<64:=bu
 have l2:(c:Int)<64:=bu
 have l3:(X:Int)<64:=bu
 have l4:(Y:Int)<64:=bu
 obtain⟨t1,d1⟩:∃t,decide (kx<ky)=t:=⟨_,rfl⟩;obtain⟨t2,d2⟩:∃t,(kx==ky)=t:=⟨_,rfl⟩;cases t1<;>cases t2<;>
 .go_in
  go_wp2
  go_quiet (fail)
  go_wp2
  go_quiet (fail)
  go_wp2
  go_ret
  exact⟨_,_,rfl,World.drewN_drewN _ _ _⟩
theorem Db(a c:Nat)(s:QS w b o x m h p)(ha:a<m)(hc:c<m):Calls prog 319 #[ai (bh ⟨b,o,bj⟩),aa az a,aa az c] w λe w'=>e=bf (ao #[])/\Qt b o x m w w':=by
 have le:=s.k.le;have c1:=s.heap a bu;have c2:=s.heap c bu;have HX:=hJ (s.k.at_ a ha);have HY:=hJ (s.k.at_ c hc);have l1:(a:Int)<64:=bu
 have l2:(c:Int)<64:=bu
 have H:=hJ s;go_in
 go_wp2
 go_quiet (fail)
 go_wp2_with fail
 refine sC (vp b o x _ a (h c) (H.sa.drewN _) H.io bu HY.1) ?_;rintro w1 ⟨h1,f1⟩;have H1:=hJ (aK h1 f1);go_wp2_with fail
 refine sC (vp b o _ _ c (h a) H1.1 H.io bu HX.1) ?_;rintro w2 ⟨h2,f2⟩;have FIN:Hid (Qt b o x m w w2):=hJ ⟨(((bE.refl _ _).drewN _).trans H1.2).trans f2,_,_,_,⟨h2,H.io,(((H.q.sh a _ bu).sp _ _ HY.1).sh c _ bu).sp _ _ HX.1,H.k.swap ha hc⟩,λi hi=>by
  have:=HX.1;have:=HY.1;rw[cq _ _,cq _ _,cq _ _,cq _ _],λj hj=>by
  have q1:=(((H.q.sh a (h c) bu).sp _ (a+1) HY.1).sh c (h a) bu).sp _ (c+1) HX.1;rw[q1.p j hj,H.q.p j hj];have:=HX.v;have:=HY.v;unfold jj;grind⟩
 go_wp2_with fail
 go_end0
 exact⟨rfl,FIN.v⟩
theorem CJ(a:Nat)(s:QS w b o x m h p)(ha:a<m):Calls prog 294 #[ai (bh ⟨b,o,bj⟩),aa az a] w λe w'=>e=bf (ao #[])/\Qt b o x m w w':=by
 have le:=s.k.le;go_in
 go_wp2
 go_loopw [1] (λi wr=>∃y:Nat,i=aa az y/\y<m/\Hid (Qt b o x m w wr)) (λi _=>(intOf i).toNat)
 case atStart=>exact⟨a,rfl,ha,bE.refl _ _,x,h,p,s,Rs.refl _ _⟩
 case round=>
  obtain⟨y,rfl,hy,H⟩:=hrel;by_cases h0:y=0
  .subst h0;go_wp2
   go_end0
   exact⟨rfl,H.v⟩
  .obtain⟨f,x',h',p',s,r⟩:=H.v;have S:=hJ (aK s (aK f r));have hp0:(0:Int)<(y:Int):=bu
   have E:Hid (((y:Int)-1)/2=(((y-1)/2:Nat):Int)):=hJ bu;have hu:(y-1)/2<m:=bu
   have AH:=hJ (zH b o m x' h' p' wr y ((y-1)/2) s hy hu);rw[<-E.v]at AH;go_wp2_with fail
   refine AH.mono ?_;rintro e w1 ⟨r,n,rfl,rfl⟩;cases r
   .go_wp2_with fail
    refine bodyPost_ret (results_none rfl _ _ _) rfl ?_;exact⟨rfl,Qt.trans (S.2.1.drewN n) S.2.2 ⟨bE.refl _ _,x',h',p',S.1.drewN n,Rs.refl _ _⟩⟩
   .have SW:=hJ (Db b o m x' h' p' (wr.drewN n) y ((y-1)/2) (S.1.drewN n) hy hu);rw[<-E.v]at SW;go_wp2_with fail
    refine sC SW.v ?_;rintro w2 q;have Q:=hJ (Qt.trans (S.2.1.drewN n) S.2.2 q);go_wp2
    go_roundw
    case rel=>exact⟨(y-1)/2,by rw[E.v],hu,Q⟩
    case measure=>simp[intOf];omega
theorem Nh(a:Nat)(s:QS w b o x m h p)(ha:a<m):Calls prog 295 #[ai (bh ⟨b,o,bj⟩),aa az a] w λe w'=>e=bf (ao #[])/\Qt b o x m w w':=by
 have le:=s.k.le;go_in
 go_wp2
 go_loopw [1] (λi wr=>∃y:Nat,i=aa az y/\y<m/\Hid (Qt b o x m w wr)) (λi _=>64-(intOf i).toNat)
 case atStart=>exact⟨a,rfl,ha,bE.refl _ _,x,h,p,s,Rs.refl _ _⟩
 case round=>
  obtain⟨y,rfl,hy,H⟩:=hrel;obtain⟨f,x',h',p',s,r⟩:=H.v;have S:=hJ (aK s (aK f r));go_wp2_with fail
  go_loopw [4,5] (λl c wq=>∃(ln cn n:Nat),l=aa az ln/\c=aa az cn/\ln<m/\y<=ln/\2*y+1<=cn/\cn<=2*y+3/\wq=wr.drewN n) (λ_ c _=>2*y+3-(intOf c).toNat)
  case atStart=>exact⟨y,2*y+1,0,rfl,by go_num,hy,bu,bu,bu,rfl⟩
  case round=>
   obtain⟨l,c,n,rfl,rfl,hl,hl2,hc1,hc2,rfl⟩:=hrel;have cm:=(S.1.drewN n).many;have END:Hid (Qt b o x m w (wr.drewN n)):=hJ (Qt.trans (S.2.1.drewN n) S.2.2 ⟨bE.refl _ _,x',h',p',S.1.drewN n,Rs.refl _ _⟩);by_cases k1:c<=2*y+2/\c<m
   .have d1:decide ((c:Int)<=2*(y:Int)+2)=true:=by simp;omega
    have k2':(c:Int)<(m:Int):=bu
    have AH:=hJ (zH b o m x' h' p' (wr.drewN n) c l (S.1.drewN n) k1.2 hl);go_wp2_with fail
    refine AH.mono ?_;rintro e w1 ⟨r,n1,rfl,rfl⟩;cases r
    .go_wp2
     go_roundw
     case rel=>exact⟨l,c+1,n+n1,rfl,by go_num,hl,hl2,bu,bu,by first|rfl|exact World.drewN_drewN _ _ _⟩
     case measure=>simp[intOf];omega
    .go_wp2
     go_roundw
     case rel=>exact⟨c,c+1,n+n1,rfl,by go_num,k1.2,bu,bu,bu,by first|rfl|exact World.drewN_drewN _ _ _⟩
     case measure=>simp[intOf];omega
   .have SW:=hJ (Db b o m x' h' p' (wr.drewN n) y l (S.1.drewN n) hy hl);by_cases k3:l=y
    .subst k3;by_cases k4:c<=2*l+2
     .have d1:decide ((c:Int)<=2*(l:Int)+2)=true:=by simp;omega
      have k2':¬(c:Int)<(m:Int):=bu
      go_wp2_with fail
      refine bodyPost_ret (results_none rfl _ _ _) rfl ?_;exact⟨rfl,END.v⟩
     .have d1:decide ((c:Int)<=2*(l:Int)+2)=false:=by simp;omega
      go_wp2_with fail
      refine bodyPost_ret (results_none rfl _ _ _) rfl ?_;exact⟨rfl,END.v⟩
    .have k3':((l:Int)==(y:Int))=false:=by simp;omega
     by_cases k4:c<=2*y+2
     case' pos=>
      have d1:decide ((c:Int)<=2*(y:Int)+2)=true:=by simp;omega
      have k2':¬(c:Int)<(m:Int):=bu
     case' neg=>have d1:decide ((c:Int)<=2*(y:Int)+2)=false:=by simp;omega
     all_goals
      go_wp2_with fail
      refine sC SW.v ?_;rintro w2 q;have Q:=hJ (Qt.trans (S.2.1.drewN n) S.2.2 q);go_wp2
      go_roundw
      case rel=>exact⟨l,rfl,hl,Q⟩
      case measure=>simp[intOf];omega
end
end Wf
namespace Wf
def Qc(b o:Nat)(x:Nat->Int)(w w':bD)(P:Nat->Prop):Prop:=bE b w w'/\∃x' m h p,QS w' b o x' m h p/\(∀i,i<o\/o+193<=i->x' i=x i)/\∀i,i<64->(0<x' (o+65+i)↔P i)
theorem Qc.of{b o m:Nat}{x y:Nat->Int}{w u v:bD}{P:Nat->Prop}(f:bE b w u)(k:Qt b o y m u v)(e:∀i,i<o\/o+193<=i->y i=x i)(hp:∀i,i<64->(0<y (o+65+i)↔P i)):Qc b o x w v P:=by
 obtain⟨g,z,h,p,s,r⟩:=k;exact⟨f.trans g,z,m,h,p,s,λi hi=>(r.v i bu).trans (e i hi),λi hi=>(r.has i hi).trans (hp i hi)⟩
section
variable (b o m:Nat)(x:Nat->Int)(h p:Nat->Nat)(w:bD)
theorem za(j:Nat)(s:QS w b o x m h p)(hj:j<64):Calls prog 274 #[ai (bh ⟨b,o,bj⟩),aa az j] w λe w'=>∃k E,e=bf (ao #[aa bd k,bG E])/\(E=0↔0<p j)/\w'=w:=by
 have BD:=hJ (vC w j hj);have HS:=hJ (Ey b o m x h p w j s hj);have ck:=s.keys j hj;have hjI:(j:Int)<64:=bu
 generalize x (o+129+j)=kx at*;obtain⟨t,ht⟩:=hU (decide (0<p j));have T:=hJ ht;rw[ht]at HS;cases t
 .go_in
  go_wp2_with fail
  refine cr BD.v ?_;go_wp2_with fail
  refine cr HS.v ?_;go_wp2
  go_ret2
  exact⟨0,2,rfl,by have:=T.v;simp at this;omega,rfl⟩
 .go_in
  go_wp2_with fail
  refine cr BD.v ?_;go_wp2_with fail
  refine cr HS.v ?_;go_wp2
  go_ret2
  exact⟨kx,0,rfl,by have:=T.v;simp at this;omega,rfl⟩
theorem Pv(s:QS w b o x m h p):Calls prog 299 #[ai (bh ⟨b,o,bj⟩)] w λe w'=>e=bf (aa az m)/\w'=w:=by
 have cm:=s.many;go_in
 go_wp2
 go_ret
 exact⟨rfl,rfl⟩
theorem qC(s:QS w b o x m h p):Calls prog 234 #[ai (bh ⟨b,o,bj⟩)] w λe w'=>∃(j:Nat) (k:Int) (n:Nat),e=bf (ao #[aa az j,aa bd k,ar (decide (0<m))])/\w'=w.drewN n/\(0<m->j<64/\0<p j):=by
 have cm:=s.many;by_cases h0:m=0
 .subst h0;go_in
  go_wp2
  go_ret3
  exact⟨0,0,0,rfl,rfl,bu⟩
 .have a0:=s.k.at_ 0 bu;have A0:=hJ a0;have ch:=s.heap 0 bu;have ck:=s.keys _ a0.1;have hne:((m:Int)==0)=false:=by simp;omega
  have M0:Hid (decide (0<m)=true):=hJ (by simp;omega);generalize h 0=J at*;have hJI:(J:Int)<64:=bu
  generalize x (o+129+J)=kx at*;go_in
  go_wp2
  go_quiet (fail)
  go_wp2
  go_ret3
  exact⟨J,kx,_,by rw[M0.v];rfl,rfl,λ_=>⟨A0.1,by have:=A0.2;omega⟩⟩
theorem P6(j:Nat)(k:Int)(s:QS w b o x m h p)(hj:j<64)(hp:p j=0):Calls prog 276 #[ai (bh ⟨b,o,bj⟩),aa az j,aa bd k] w λe w'=>e=bf ay/\Qc b o x w w' (λi=>0<x (o+65+i)\/i=j):=by
 have BD:=hJ (vC w j hj);have HS:=hJ (Ey b o m x h p w j s hj);rw[show decide (0<p j)=false by simp;omega]at HS;have hm:=s.k.lt hj hp;have ck:=s.keys j hj;have cf:=s.sa.frozen;have cm:=s.many;have hjI:(j:Int)<64:=bu
 have S:=hJ (aK s hp);go_in
 go_wp2_with fail
 refine cr BD.v ?_;go_wp2_with fail
 refine cr HS.v ?_;go_wp2_with fail
 have k1:=S.1.io.key j hj;refine sC (vp b o _ _ m j (S.1.sa.set _ k _ k1.1 (by rw[k1.2];rfl)) S.1.io hm hj) ?_;rintro w1 ⟨h1,f1⟩;have q1:=((S.1.q.so (o+129+j) k bu).sh m j hm).sp j (m+1) hj;have cm1:w1.cell? ⟨b,o,bj⟩=bh (aa az m):=by rw[<-q1.m];exact h1.i _ (S.1.io.k 0 bu)
 have cf1:=h1.frozen;have S1:=hJ (aK h1 (aK (((bE.refl b w).setCell _ _).trans f1) q1));go_wp2_with fail
 have k0:=S.1.io.k 0 bu;have q2:=S1.2.2.sm (m+1);have s2:=S1.1.set o ((m+1:Nat):Int) (aa az ((m:Int)+1)) k0.1 (by rw[show K o=0 from k0.2];rfl);refine sC (CJ b o (m+1) _ _ _ _ m ⟨s2,S.1.io,q2,S.1.k.put hj S.2⟩ bu) ?_;rintro w2 q;have FIN:Hid (Qc b o x w w2 (λi=>0<x (o+65+i)\/i=j)):=hJ (Qc.of (S1.2.1.setCell _ _) q (λi hi=>by rw[cq _ _,cq _ _,cq _ _,cq _ _]) (λi hi=>by
  rw[q2.p i hi,S.1.q.p i hi];unfold jj;grind))
 go_wp2
 go_ret
 exact⟨rfl,FIN.v⟩
theorem Er(j:Nat)(s:QS w b o x m h p)(hj:j<64)(hp:0<p j):Calls prog 272 #[ai (bh ⟨b,o,bj⟩),aa az j] w λe w'=>∃k,e=bf (ao #[aa bd k,ay])/\Qc b o x w w' (λi=>0<x (o+65+i)/\i≠j):=by
 have oj:=s.k.Cv j hj;have le:=s.k.le;obtain⟨m,rfl⟩:∃n,m=n+1:=⟨m-1,bu⟩;obtain⟨a,ha⟩:∃a,p j=a+1:=⟨p j-1,bu⟩;obtain⟨t,ht⟩:=hU (h m);have tm:=s.k.at_ m bu;rw[ht]at tm;have cm:=s.many;have cp:=s.place j hj;have cf:=s.sa.frozen;rw[ha]at cp oj;have KE:=hJ (za b o (m+1) x h p w j s hj);have S:=hJ (aK s (aK ha (aK ht (aK tm oj))));have am:a<=m:=bu
 have t64:t<64:=tm.1;have hjI:(j:Int)<64:=bu
 have hmI:(m:Int)<64:=bu
 have Iqq:=hJ s.io;clear s hp ha ht tm oj;go_in
 go_wp2_with fail
 refine KE.mono ?_;rintro e w1 ⟨k,E,rfl,hE,rfl⟩;obtain rfl:E=0:=hE.2 (by rw[S.2.1];omega);rw[bB];clear hE KE;go_wp2_with fail
 have k0:=Iqq.k 0 bu;refine cG (λW=>SA W b (up x o m)/\bE b w1 W) ⟨S.1.sa.set o m _ k0.1 (by rw[show K o=0 from k0.2];rfl),(bE.refl _ _).setCell _ _⟩ ?_;rintro W ⟨hA,hO⟩;have Q0:Hid (Qv (up x o m) o m h p):=hJ (S.1.q.sm m);have am':W.cell? ⟨b,o,bj⟩=bh (aa az m):=by rw[<-Q0.m];exact hA.i _ k0
 have ah':W.cell? ⟨b,o+1+m,bj⟩=bh (aa az t):=by rw[<-S.2.2.1,<-Q0.h m bu,Nat.add_assoc];exact hA.i _ (Iqq.k _ bu)
 have A:=hJ (aK hA hO);clear hA hO cm cp cf k0;go_quiet (fail)
 go_wp2_with fail
 refine cG (λW2=>SA W2 b (up x o m)/\bE b w1 W2) ⟨A.1.drewN nq,A.2.drewN nq⟩ ?_;clear ah' am' A;rintro W2 ⟨hA,hO⟩;have k1:=Iqq.k (1+m) bu;have k2:=Iqq.k (65+j) bu;have k3:=Iqq.key j hj;rw[<-Nat.add_assoc]at k1 k2;have cm:W2.cell? ⟨b,o,bj⟩=bh (aa az m):=by rw[<-Q0.m];exact hA.i _ (Iqq.k 0 bu)
 have c1:=hA.i _ k1;have c2:=hA.i _ k2;have c3:=hA.u _ k3;have cf:=hA.frozen;have A:Hid (SA ((((W2.setCell ⟨b,o+1+m,bj⟩ (aa .i64 0)).setCell ⟨b,o+65+j,bj⟩ (aa .i64 0)).setCell ⟨b,o+129+j,bj⟩ (aa .u64 0)).drew) b (up (up (up (up x o m) (o+1+m) (0:Nat)) (o+65+j) (0:Nat)) (o+129+j) 0)/\bE b w1 ((((W2.setCell ⟨b,o+1+m,bj⟩ (aa .i64 0)).setCell ⟨b,o+65+j,bj⟩ (aa .i64 0)).setCell ⟨b,o+129+j,bj⟩ (aa .u64 0)).drew)/\Qv (up (up (up (up x o m) (o+1+m) (0:Nat)) (o+65+j) (0:Nat)) (o+129+j) 0) o m (jj h m 0) (jj p j 0)):=
  hJ ⟨(((hA.set _ _ _ k1.1 (by rw[k1.2];rfl)).set _ _ _ k2.1 (by rw[k2.2];rfl)).set _ _ _ k3.1 (by rw[k3.2];rfl)).drew,(((hO.setCell _ _).setCell _ _).setCell _ _).drew,((Q0.sh m 0 bu).sp j 0 hj).so _ _ bu⟩
 clear hA hO k1 k2 k3;by_cases e:t=j
 .have kb:((t:Int) !=(j:Int))=false:=by simp;omega
  go_region
  go_wp2
  go_ret2
  refine⟨_,rfl,A.2.1,_,m,_,_,⟨A.1,Iqq.v,A.2.2,S.1.k.iH (S.2.2.1.trans e)⟩,λi hi=>by rw[cq _ _,cq _ _,cq _ _,cq _ _],λi hi=>?_⟩;show _↔0<x (o+65+i)/\i≠j;rw[A.2.2.p i hi,S.1.q.p i hi];unfold jj;grind
 .have kb:((t:Int) !=(j:Int))=true:=by rw[bne_iff_ne];omega
  go_region
  go_wp2_with fail
  refine sC (vp b o _ _ a t A.1 Iqq.v bu t64) ?_;rintro w2 ⟨h2,f2⟩;have q2:=(A.2.2.sh a t bu).sp t (a+1) t64;have kk:=S.1.k.TJ hj S.2.1 (by rw[S.2.2.1];exact e);rw[S.2.2.1]at kk;have am2:a<m:=by
   refine Nat.lt_of_le_of_ne am (λq=>e ?_);have:=S.2.2.2.2.2 bu;rw[<-S.2.2.1,<-q];simpa using this
  have S2:=hJ (aK (A.2.1.trans f2) (aK q2 (QS.mk h2 Iqq.v q2 kk)));have RI:=hJ (CJ b o m _ _ _ _ a S2.2.2 am2);clear h2 f2 q2 kk c1 c2 c3 cf cm;go_wp2_with fail
  refine sC RI.v ?_;rintro w3 ⟨f3,x3,h3,p3,s3,r3⟩;have SI:=hJ (Nh b o m _ _ _ _ a s3 am2);have S3:=hJ (aK f3 r3);clear f3 s3 r3 RI;go_wp2_with fail
  refine sC SI.v ?_;rintro w4 q4;have FIN:Hid (Qc b o x w1 w4 (λi=>0<x (o+65+i)/\i≠j)):=hJ (Qc.of S2.1 (Qt.trans S3.1 S3.2 q4) (λi hi=>by rw[cq _ _,cq _ _,cq _ _,cq _ _,cq _ _,cq _ _]) (λi hi=>by
   show _↔0<x (o+65+i)/\i≠j;rw[S2.2.1.p i hi,S.1.q.p i hi];have:=S.2.2.2.1;unfold jj;grind))
  clear q4 SI;go_wp2
  go_ret2
  exact⟨_,rfl,FIN.v⟩
end
end Wf
namespace Wf
theorem pP{u:Nat}(hu:u<30):1+u*4<2141/\K (1+u*4)=2:=⟨by omega,by unfold K;rw[nJ,nK,nK]⟩
theorem nY{u:Nat}(hu:u<30):1+u*4+1<2141/\K (1+u*4+1)=0:=⟨by omega,by unfold K;rw[nJ,nK,nJ,nK]⟩
theorem ie{u:Nat}(hu:u<30)(f:Nat)(hf:f=2\/f=3):1+u*4+f<2141/\K (1+u*4+f)=1:=⟨by omega,by unfold K;rw[nJ,nK,nJ,nJ]⟩
theorem EH{g:Nat}(hg:g<10):121+g*198+193<2141/\K (121+g*198+193)=1:=⟨by omega,by unfold K;rw[nJ,nJ,nK,nJ,nK]⟩
theorem BU{g:Nat}(hg:g<10):121+g*198+194<2141/\K (121+g*198+194)=2:=⟨by omega,by unfold K;rw[nJ,nJ,nK,nJ,nJ,nK]⟩
theorem nZ{g:Nat}(hg:g<10)(f:Nat)(hf:195<=f/\f<198):121+g*198+f<2141/\K (121+g*198+f)=0:=⟨by omega,by unfold K;rw[nJ,nJ,nK,nJ,nJ,nJ]⟩
theorem rB{n:Nat}(hn:n<20):2101+n*2<2141/\K (2101+n*2)=2:=⟨by omega,by unfold K;rw[nJ,nJ,nJ,nK]⟩
theorem AP{n:Nat}(hn:n<20):2101+n*2+1<2141/\K (2101+n*2+1)=0:=⟨by omega,by unfold K;rw[nJ,nJ,nJ,nJ]⟩
structure Iv (d:Nat->Nat)(e:Nat)(x:Nat->Int):Prop where
 q:∀g,g<10->QI x (121+g*198)
 rt:x 1=1
 par:∀u,u<30->u≠0->x (1+u*4)=1->∃g:Nat,g<10/\x (1+u*4+1)=g/\x (1+g*4)=1/\d g<d u/\0<x (1+u*4+2)
 mem:∀g j,g<10->j<64->0<x (121+g*198+65+j)->j<30/\j≠0/\x (1+j*4)=1/\x (1+j*4+1)=g
 ne:∀g u,g<10->u<10->u≠e->0<x (121+g*198+65+u)->0<x (121+u*198)
 pe:∀g,g<10->0<x (121+g*198+195)->0<x (121+g*198+196)/\x (1+g*4)=1
def Ch(g u:Nat)(x x':Nat->Int):Prop:=∀i,i<121+g*198\/121+g*198+194<=i->i≠1+u*4+3->i≠121+u*198+197->x' i=x i
theorem QI.same{x x':Nat->Int}{o:Nat}(h:QI x o)(e:∀i,o<=i->i<o+129->x' i=x i):QI x' o:=by
 obtain⟨m,hp,pp,q,k⟩:=h;exact⟨m,hp,pp,⟨(e _ bu bu).trans q.m,λi hi=>(e _ bu bu).trans (q.h i hi),λi hi=>(e _ bu bu).trans (q.p i hi)⟩,k⟩
theorem QI.pos{x:Nat->Int}{o j:Nat}(h:QI x o)(hj:j<64)(p:0<x (o+65+j)):0<x o:=by
 obtain⟨m,hp,pp,q,k⟩:=h;rw[q.p j hj]at p;rw[q.m];have:=(k.Cv j hj).1;omega
theorem Iv.jU{d:Nat->Nat}{e u g:Nat}{x x':Nat->Int}(h:Iv d e x)(he:e=u\/e=g)(c:Ch g u x x')(q:QI x' (121+g*198))(hg:g<10)(hu:u<30)(u0:u≠0)(hh:x (1+u*4)=1)(hi:x (1+u*4+1)=g)
  (ot:∀j,j<64->j≠u->(0<x' (121+g*198+65+j)↔0<x (121+g*198+65+j))) (me:u<10->0<x' (121+g*198+65+u)->0<x (121+u*198)):Iv d g x':=by
 have e1:∀v f,f<3->x' (1+v*4+f)=x (1+v*4+f)\/30<=v:=λv f hf=>by
  by_cases hv:v<30
  .exact .inl (c _ bu bu bu)
  .exact .inr bu
 have e0:∀v,v<30->x' (1+v*4)=x (1+v*4)/\x' (1+v*4+1)=x (1+v*4+1)/\x' (1+v*4+2)=x (1+v*4+2):=λv hv=>
  ⟨(e1 v 0 bu).resolve_right bu,(e1 v 1 bu).resolve_right bu,(e1 v 2 bu).resolve_right bu⟩
 refine⟨λk hk=>?_,(e0 0 bu).1.trans h.rt,λv hv v0 hv1=>?_,λk j hk hj p=>?_,λk v hk hv hne p=>?_,λk hk p=>?_⟩
 .by_cases ek:k=g
  .rw[ek];exact q
  .exact(h.q k hk).same λi h1 h2=>c i bu bu bu
 .rw[(e0 v hv).1]at hv1;obtain⟨k,k1,k2,k3,k4,k5⟩:=h.par v hv v0 hv1;exact⟨k,k1,by rw[(e0 v hv).2.1];exact k2,by rw[(e0 k bu).1];exact k3,k4,by rw[(e0 v hv).2.2];exact k5⟩
 .have old:0<x (121+k*198+65+j)->j<30/\j≠0/\x' (1+j*4)=1/\x' (1+j*4+1)=k:=λp=>by
   obtain⟨m1,m2,m3,m4⟩:=h.mem k j hk hj p;exact⟨m1,m2,by rw[(e0 j m1).1];exact m3,by rw[(e0 j m1).2.1];exact m4⟩
  by_cases ek:k=g
  .subst ek;by_cases ej:j=u
   .subst ej;exact⟨hu,u0,by rw[(e0 j hu).1];exact hh,by rw[(e0 j hu).2.1];exact hi⟩
   .exact old ((ot j hj ej).1 p)
  .exact old (by rw[<-c _ bu bu bu];exact p)
 .rw[c (121+v*198) bu bu bu];by_cases ek:k=g
  .subst ek;by_cases ev:v=u
   .subst ev;exact me hv p
   .exact h.ne k v hk hv bu ((ot v bu ev).1 p)
  .rw[c _ bu bu bu]at p;refine h.ne k v hk hv (λev=>ek ?_) p;obtain rfl:v=u:=bu
   have:=(h.mem k v hk bu p).2.2.2;omega
 .rw[c _ bu bu bu]at p;rw[c _ bu bu bu,(e0 k bu).1];exact h.pe k hk p
def Kc(i:Nat):Prop:=0<i/\i<121/\(i-1)%4≠3\/121<=i/\i<2101/\((i-121)%198<129\/(i-121)%198=195\/(i-121)%198=196)
theorem Iv.jm{d:Nat->Nat}{e:Nat}{x x':Nat->Int}(h:Iv d e x)(c:∀i,Kc i->x' i=x i):Iv d e x':=by
 have a:∀v f,v<30->f<3->x' (1+v*4+f)=x (1+v*4+f):=λv f hv hf=>c _ (by unfold Kc;omega);have q:∀g f,g<10->f<129\/f=195\/f=196->x' (121+g*198+f)=x (121+g*198+f):=λg f hg hf=>c _ (.inr ⟨by omega,bu,bu⟩);have q65:∀g j,g<10->j<64->x' (121+g*198+65+j)=x (121+g*198+65+j):=λg j hg hj=>by rw[Nat.add_assoc];exact q g _ hg bu
 refine⟨λk hk=>(h.q k hk).same λi h1 h2=>?_,(a 0 0 bu bu).trans h.rt,λv hv v0 hv1=>?_,λk j hk hj p=>?_,λk v hk hv hne p=>?_,λk hk p=>?_⟩
 .obtain⟨f,rfl⟩:∃f,i=121+k*198+f:=⟨i-(121+k*198),bu⟩;exact q k f hk bu
 .obtain⟨k,k1,k2,k3,k4,k5⟩:=h.par v hv v0 ((a v 0 hv bu).symm.trans hv1);exact⟨k,k1,(a v 1 hv bu).trans k2,(a k 0 bu bu).trans k3,k4,by rw[a v 2 hv bu];exact k5⟩
 .obtain⟨m1,m2,m3,m4⟩:=h.mem k j hk hj (by rw[<-q65 k j hk hj];exact p);exact⟨m1,m2,(a j 0 m1 bu).trans m3,(a j 1 m1 bu).trans m4⟩
 .have:=q v 0 hv bu;rw[Nat.add_zero]at this;rw[this];exact h.ne k v hk hv hne (by rw[<-q65 k v hk bu];exact p)
 .rw[q k 196 hk bu,show x' (1+k*4)=x (1+k*4)from a k 0 bu bu];exact h.pe k hk (by rw[<-q k 195 hk bu];exact p)
theorem Iv.any{d:Nat->Nat}{x:Nat->Int}(h:Iv d 0 x)(e:Nat):Iv d e x:=⟨h.q,h.rt,h.par,h.mem,λg u hg hu _ p=>h.ne g u hg hu (h.mem g u hg bu p).2.1 p,h.pe⟩
def uw(x:Nat->Int)(u:Nat):Bool:=if 10<=u then decide (x (2101+(u-10)*2)=1)else decide (0<x (121+u*198))&&(!decide (x (121+u*198+194)=1)&&(decide (x (121+u*198+195)=0)||decide (x (121+u*198+197)<x (121+u*198+195))))
theorem P8{x:Nat->Int}{u:Nat}(hu:u<10)(h:uw x u=true):0<x (121+u*198):=by
 unfold uw at h;rw[nJ]at h;simp at h;exact h.1
section
variable (b:Nat)(d:Nat->Nat)(x:Nat->Int)(w:bD)
theorem JU(u:Nat)(h:SA w b x)(q:∀g,g<10->QI x (121+g*198))(hu:u<30):Calls prog 275 #[ai (bh ⟨b,0,bj⟩),aa az u] w λe w'=>e=bf (ar (uw x u))/\∃n,w'=w.drewN n:=by
 by_cases k:10<=u
 .obtain⟨n,rfl⟩:∃n,u=10+n:=⟨u-10,bu⟩;have c:=h.bo _ (rB (n:=n) bu);have k':(10:Int)<=((10+n:Nat):Int):=bu
  have e:Hid (uw x (10+n)=decide (x (2101+n*2)=1)):=hJ (by unfold uw;rw[nK,show 10+n-10=n by omega]);go_in
  go_wp2
  go_ret
  exact⟨cQ e.symm,0,rfl⟩
 .have hu':u<10:=bu
  obtain⟨m,hp,pp,q1,q2⟩:=q u hu';have LE:=hJ (λn=>Pv b (121+u*198) m x hp pp (w.drewN n) ⟨h.drewN n,⟨u,hu',rfl⟩,q1,q2⟩);have c1:=h.bo _ (BU hu');have c2:=h.i _ (nZ hu' 195 bu);have c3:=h.i _ (nZ hu' 197 bu);have k':¬(10:Int)<=(u:Int):=bu
  have hgI:(u:Int)<10:=bu
  have e:Hid (uw x u=(decide (0<m)&&(!decide (x (121+u*198+194)=1)&&(decide (x (121+u*198+195)=0)||decide (x (121+u*198+197)<x (121+u*198+195)))))):=hJ (by unfold uw;rw[aI k,q1.m];simp);generalize x (121+u*198+194)=fz at*;generalize x (121+u*198+195)=qu at*;generalize x (121+u*198+197)=us at*;obtain⟨t1,d1⟩:∃t,decide (0<m)=t:=⟨_,rfl⟩;obtain⟨t2,d2⟩:∃t,decide (fz=1)=t:=⟨_,rfl⟩;rw[d1,d2]at e;rw[d2]at c1;by_cases d3:qu=0
  case' pos=>subst d3
  case' neg=>have d4:(qu==0)=false:=by simpa using d3
  all_goals
   cases t1<;>cases t2<;>
   .go_in
    go_wp2
    go_quiet ((go_at_call 299;exact Calls.quiet_of_same (LE.v _)))
    go_wp2
    go_ret
    exact⟨cQ (by rw[e.v];simp[*]),_,rfl⟩
end
end Wf
namespace Wf
def mx(T L:Int):Int:=if T<L then L else T
theorem Ob(T L:Int):(if T<L then L else T)=mx T L:=rfl
attribute [local go_sem] Ob
def Ln(b:Nat)(d:Nat->Nat)(u g:Nat)(x:Nat->Int)(r:Bool)(w w':bD):Prop:=bE b w w'/\∃x',SA w' b x'/\Iv d g x'/\Ch g u x x'/\(∀j,j<64->j≠u->(0<x' (121+g*198+65+j)↔0<x (121+g*198+65+j)))/\(0<x' (121+g*198+65+u)↔r=true)
structure In (x:Nat->Int)(u g:Nat):Prop where
 lt:u<30
 pos:u≠0
 here:x (1+u*4)=1
 pM:g<10
 rz:x (1+u*4+1)=g
section
variable {b:Nat}{d:Nat->Nat}{e u g:Nat}{x x1:Nat->Int}{w w1 w':bD}{r:Bool}
theorem Ln.same(i:Iv d e x)(he:e=u\/e=g)(n:In x u g)(h:SA w' b x)(f:bE b w w')(hr:0<x (121+g*198+65+u)↔r=true)(rp:u<10->r=true->0<x (121+u*198)):Ln b d u g x r w w':=
 ⟨f,x,h,i.jU he (λ_ _ _ _=>rfl) (i.q g n.pM) n.pM n.lt n.pos n.here n.rz (λ_ _ _=>Iff.rfl) (λa p=>rp a (hr.1 p)),λ_ _ _ _=>rfl,λ_ _ _=>Iff.rfl,hr⟩
theorem Ln.of(i:Iv d e x)(he:e=u\/e=g)(n:In x u g)(c:Ch g u x x1){P:Nat->Prop}(f:bE b w w1)(k:Qc b (121+g*198) x1 w1 w' P)(ot:∀j,j<64->j≠u->(P j↔0<x (121+g*198+65+j)))(hr:P u↔r=true)(rp:u<10->r=true->0<x (121+u*198)):Ln b d u g x r w w':=by
 obtain⟨f2,x',m,h,p,s,o,t⟩:=k;have c':Ch g u x x':=λi a a2 a3=>(o i bu).trans (c i a a2 a3);have ot':∀j,j<64->j≠u->(0<x' (121+g*198+65+j)↔0<x (121+g*198+65+j)):=λj hj ne=>(t j hj).trans (ot j hj ne);have me:=(t u (by have:=n.lt;omega)).trans hr;exact⟨f.trans f2,x',s.sa,i.jU he c' ⟨m,h,p,s.q,s.k⟩ n.pM n.lt n.pos n.here n.rz ot' (λa p=>rp a (me.1 p)),c',ot',me⟩
end
section
variable (b:Nat)(d:Nat->Nat)(x:Nat->Int)(w:bD)
theorem Cj(u g e:Nat)(h:SA w b x)(i:Iv d e x)(he:e=u\/e=g)(n:In x u g):Calls prog 241 #[ai (bh ⟨b,0,bj⟩),aa az u] w λe w'=>e=bf (ao #[])/\Ln b d u g x (uw x u) w w':=by
 have c1:=h.i _ (nY n.lt);rw[n.rz]at c1;have l1:(u:Int)<30:=by have:=n.lt;omega
 have l2:(g:Int)<10:=by have:=n.pM;omega
 obtain⟨m,hp,pp,q1,q2⟩:=i.q g n.pM;have QQ:Hid (∀w' y,SA w' b y->(∀i,121+g*198<=i->i<121+g*198+129->y i=x i)->QS w' b (121+g*198) y m hp pp):=hJ (λw' y hy ey=>⟨hy,⟨g,n.pM,rfl⟩,⟨(ey _ bu bu).trans q1.m,λi hi=>(ey _ bu bu).trans (q1.h i hi),λi hi=>(ey _ bu bu).trans (q1.p i hi)⟩,q2⟩);have HP:Hid (x (121+g*198+65+u)=pp u):=hJ (q1.p u bu);have RP:Hid (u<10->uw x u=true->0<x (121+u*198)):=hJ P8;have H:=hJ (aK h (aK i (aK he n)));have RD:=hJ (λW (hW:SA W b x)=>JU b x W u hW i.q n.lt);obtain⟨r,hr⟩:=hU (uw x u);rw[hr]at RP RD|-;clear h i he n q1 q2 hr;go_in
 go_wp2
 go_quiet (fail)
 go_wp2_with fail
 refine(za b _ m x hp pp _ u (QQ.v _ x (H.1.drewN _) (λ_ _ _=>rfl)) bu).mono ?_;rintro e1 w1 ⟨k,E,rfl,hE,hw1⟩;have S1:Hid (SA w1 b x/\bE b w w1):=hJ (by rw[hw1];exact⟨H.1.drewN _,(bE.refl b w).drewN _⟩);have HE:=hJ hE;clear hw1 hE;by_cases e0:E=0
 .subst e0;have PU:Hid (0<pp u):=hJ (HE.1 rfl);rw[bB];go_wp2_with fail
  go_quiet ((go_at_call 275;exact Calls.quiet_of (RD.v _ (S1.1.drewN _))))
  cases r
  .go_wp2_with fail
   refine(Er b _ m x hp pp _ u (QQ.v _ x (S1.1.drewN _) (λ_ _ _=>rfl)) bu PU.v).mono ?_;rintro e2 w2 ⟨k2,rfl,q⟩;have FIN:Hid (Ln b d u g x false w w2):=hJ (Ln.of H.2.1 H.2.2.1 H.2.2.2 (λ_ _ _ _=>rfl) (S1.2.drewN _) q (λj hj ne=>by simp[ne]) (by simp) RP.v);clear q;go_wp2_with fail
   go_end0
   exact⟨rfl,FIN.v⟩
  .go_wp2_with fail
   go_end0
   exact⟨rfl,Ln.same H.2.1 H.2.2.1 H.2.2.2 (S1.1.drewN _) (S1.2.drewN _) (by rw[HP.v];have:=PU.v;simp;omega) (λa _=>RP.v a trivial)⟩
 .have PU:Hid (pp u=0):=hJ (by have:=HE.v;omega);rw[bC e0];go_wp2_with fail
  go_quiet ((go_at_call 275;exact Calls.quiet_of (RD.v _ (S1.1.drewN _))))
  cases r
  .go_wp2_with fail
   go_end0
   exact⟨rfl,Ln.same H.2.1 H.2.2.1 H.2.2.2 (S1.1.drewN _) (S1.2.drewN _) (by rw[HP.v,PU.v];simp) RP.v⟩
  .go_wp2_with fail
   refine cG (λW=>SA W b x/\bE b w W) ⟨S1.1.drewN _,S1.2.drewN _⟩ ?_;clear S1 c1 e0 HE;rintro W ⟨hS,hF⟩;have c2:=hS.u _ (ie H.2.2.2.lt 3 bu);have c3:=hS.u _ (EH H.2.2.2.pM);have cf:=hS.frozen;have S:=hJ (aK hS hF);clear hS hF;generalize x (1+u*4+3)=T at c2;generalize x (121+g*198+193)=L at c3;go_region
   go_wp2_with fail
   have k3:=ie H.2.2.2.lt 3 bu;refine cG (λW2=>SA W2 b (up x (1+u*4+3) (mx T L))/\bE b w W2) ⟨(S.1.set _ _ _ k3.1 (by rw[k3.2];rfl)).drew,(S.2.setCell _ _).drew⟩ ?_;clear c2 c3 cf S;rintro W2 ⟨hS,hF⟩;have c2:W2.cell? ⟨b,1+u*4+3,bj⟩=bh (aa bd (mx T L)):=by rw[hS.u _ k3,gU]
   have S:=hJ (aK hS hF);generalize mx T L=TL at*;have PT:Hid (∀w5,Qc b (121+g*198) (up x (1+u*4+3) TL) W2.drew w5 (λi=>0<up x (1+u*4+3) TL (121+g*198+65+i)\/i=u)->Ln b d u g x true w w5/\w5.cell? ⟨b,1+u*4+3,bj⟩=bh (aa bd TL)):=hJ (λw5 q=>by
    refine⟨Ln.of H.2.1 H.2.2.1 H.2.2.2 (λi _ a _=>cq _ _ a) S.2.drew q (λj hj ne=>by rw[cq _ _];simp[ne]) (by simp) (λa _=>RP.v a trivial),?_⟩;obtain⟨_,x',m',h',p',s,o,_⟩:=q;rw[s.sa.u _ k3,o _ bu,gU])
   have PP:=hJ (P6 b (121+g*198) m (up x (1+u*4+3) TL) hp pp W2.drew u TL (QQ.v _ _ S.1.drew (λi _ _=>cq _ _)) bu PU.v);clear hS hF k3;go_region_held3 (λw'=>w'.cell? ⟨b,1+u*4+3,bj⟩=bh (aa bd TL)) (first|exact c2|exact c5|go_keep) ((go_at_call 276;refine sC PP.v ?_;rintro w5 q;obtain⟨l5,c5⟩:=PT.v w5 q;have FIN:=hJ l5;clear q l5))
   go_wp2_with fail
   go_end0
   exact⟨rfl,FIN.v⟩
def Wk(x x':Nat->Int):Prop:=∀i,0<i/\i<121/\(i-1)%4≠3\/121<=i/\i<2101/\(i-121)%198=195->x' i=x i
theorem Wk.refl(x:Nat->Int):Wk x x:=λ_ _=>rfl
theorem Wk.trans{x y z:Nat->Int}(h:Wk x y)(k:Wk y z):Wk x z:=λi hi=>(k i hi).trans (h i hi)
theorem Ch.wk{g u:Nat}{x x':Nat->Int}(h:Ch g u x x')(hu:u<30)(hg:g<10):Wk x x':=λi hi=>h i bu bu bu
def Ps(u:Nat)(x x':Nat->Int):Prop:=10<=u->∀g:Nat,g<10->x (1+u*4+1)=g->(0<x' (121+g*198+65+u)↔x (2101+(u-10)*2)=1)
theorem ph(u:Nat)(h:SA w b x)(i:Iv d u x)(hu:u<30)(hh:x (1+u*4)=1):Calls prog 195 #[ai (bh ⟨b,0,bj⟩),aa az u] w λe w'=>e=bf (ao #[])/\To b w (λx'=>Iv d 0 x'/\Wk x x'/\Ps u x x') w':=by
 have H0:=hJ (aK h (aK i hh));go_in
 go_wp2
 go_loopw [1] (λi wr=>∃(v:Nat) (y:Nat->Int),i=aa az v/\v<30/\Hid (bE b w wr/\SA wr b y/\Iv d v y/\Wk x y/\y (1+v*4)=1/\(Ps u x y/\d v<d u\/v=u/\y=x))) (λi _=>d (intOf i).toNat)
 case atStart=>exact⟨u,x,rfl,hu,bE.refl _ _,H0.1,H0.2.1,Wk.refl _,H0.2.2, .inr ⟨rfl,rfl⟩⟩
 case round=>
  obtain⟨v,y,rfl,hv,H⟩:=hrel;by_cases h0:v=0
  .subst h0;go_wp2
   go_end0
   obtain⟨h1,h2,h3,h4,_,h6⟩:=H.v;exact⟨rfl,y,h2,h1,h3,h4,h6.elim (·.1) (λe=>by rw[<-e.1];exact λq=>aZ q bu)⟩
  .have k0:((v:Int) !=0)=true:=by rw[bne_iff_ne];omega
   obtain⟨g,g1,g2,g3,g4,_⟩:=H.2.2.1.par v hv h0 H.2.2.2.2.1;have HG:=hJ (aK g2 g3);have NN:Hid (In y v g):=hJ ⟨hv,h0,H.2.2.2.2.1,g1,g2⟩;go_wp2_with fail
   refine sC (Cj b d y _ v g v H.2.1 H.2.2.1 (.inl rfl) NN.v) ?_;rintro w1 ⟨f1,y1,s1,i1,c1,o1,m1⟩;have c0:w1.cell? ⟨b,1+v*4+1,bj⟩=bh (aa az (g:Int)):=by rw[s1.i _ (nY hv),c1 _ bu bu bu,HG.1]
   have S1:Hid (bE b w w1/\SA w1 b y1/\Iv d g y1/\Wk x y1/\y1 (1+g*4)=1/\(Ps u x y1/\d g<d u\/g=u/\y1=x)):=hJ (by
    obtain⟨h1,h2,h3,h4,h5,h6⟩:=H.v;refine⟨h1.trans f1,s1,i1,h4.trans (c1.wk hv g1),(c1 _ bu bu bu).trans HG.2, .inl ?_⟩;rcases h6 with⟨h6,h7⟩|⟨rfl,rfl⟩
    .refine⟨λq k hk e=>(Iff.trans ?_ (h6 q k hk e)),bu⟩;have uv:u≠v:=λe=>by subst e;omega
     by_cases kg:k=g
     .subst kg;exact o1 u bu uv
     .rw[c1 _ bu bu bu]
    .refine⟨λq k hk e=>?_,g4⟩;obtain rfl:k=g:=by have:=HG.1;omega
     rw[m1];unfold uw;rw[aJ q];simp)
   have hvI:(v:Int)<30:=bu
   go_wp2
   go_roundw
   case rel=>exact⟨g,y1,rfl,bu,S1⟩
   case measure=>simp[intOf];exact g4
def bi(t:Bool):Int:=if t then 1 else 0
theorem FU(t:Bool):ar t=V 2 (bi t):=by cases t<;>rfl
theorem qI(n:Nat)(on:Bool)(h:SA w b x)(i:Iv d 0 x)(hn:n<20)(hh:x (1+(10+n)*4)=1):Calls prog 192 #[ai (bh ⟨b,0,bj⟩),aa az n,ar on] w λe w'=>e=bf (ao #[])/\To b w (λx'=>Iv d 0 x'/\Wk x x'/\∀g:Nat,g<10->x (1+(10+n)*4+1)=g->(0<x' (121+g*198+65+(10+n))↔on=true)) w':=by
 have ka:=rB hn;have c1:=h.bo _ ka;have cf:=h.frozen;have hnI:(n:Int)<20:=bu
 have s1:=h.set _ (bi on) (ar on) ka.1 (by rw[ka.2];exact FU on);have i1:Iv d (10+n) (up x (2101+n*2) (bi on)):=(i.jm (λj hj=>cq _ _ (by unfold Kc at hj;omega))).any _;have ST:=hJ (ph b d _ _ (10+n) s1 i1 bu (by rw[cq _ _];exact hh));rw[show((10+n:Nat):Int)=10+(n:Int)by omega]at ST;go_in
 go_wp2_with fail
 refine sC ST.v ?_;rintro w1 ⟨x',s,f,i',k,p⟩;have FIN:Hid (To b w (λx'=>Iv d 0 x'/\Wk x x'/\∀g:Nat,g<10->x (1+(10+n)*4+1)=g->(0<x' (121+g*198+65+(10+n))↔on=true)) w1):=hJ ⟨x',s,((bE.refl b w).setCell _ _).trans f,i',λj a1=>(k j a1).trans (cq _ _),λg hg e=>by
  have:=p bu g hg (by rw[cq _ _];exact e);rw[show 10+n-10=n by omega,gU]at this;rw[this];cases on<;>simp[bi]⟩
 go_wp2_with fail
 go_end0
 exact⟨rfl,FIN.v⟩
end
end Wf
namespace Wf
attribute [local go_sem] Ob
section
variable (b:Nat)(d:Nat->Nat)(x:Nat->Int)(w:bD)
def NQ(x:Nat->Int):Prop:=∀g,g<10->¬0<x (121+g*198+195)
theorem Lp(o m:Nat)(h p:Nat->Nat)(j:Nat)(s:QS w b o x m h p)(hj:j<64):Calls prog 272 #[ai (bh ⟨b,o,bj⟩),aa az j] w λe w'=>∃k E,e=bf (ao #[aa bd k,bG E])/\Qc b o x w w' (λi=>0<x (o+65+i)/\i≠j):=by
 by_cases c:0<p j
 .exact(Er b o m x h p w j s hj c).mono λe w' ⟨k,a,q⟩=>⟨k,0,a,q⟩
 .have KE:=hJ (za b o m x h p w j s hj);have S:=hJ s;go_in
  go_wp2_with fail
  refine KE.mono ?_;rintro e w1 ⟨k,E,rfl,hE,rfl⟩;have e0:E≠0:=bu
  have HE:=hJ (bC e0);rw[bC e0];go_wp2
  go_ret2
  refine⟨0,E,by rw[HE.v];rfl,bE.refl _ _,x,m,h,p,S.v,λ_ _=>rfl,λi hi=>⟨λq=>⟨q,?_⟩,λq=>q.1⟩⟩;rintro rfl;rw[S.q.p i hj]at q;omega
theorem PW{u g:Nat}{x1:Nat->Int}{w1 w2:bD}{d:Nat->Nat}{b:Nat}{x:Nat->Int}{w:bD}(i:Iv d u x)(n:In x u g)(c:Ch g u x x1)(hq:∀j,j<64->x1 (121+g*198+65+j)=x (121+g*198+65+j))(f:bE b w w1)(q:Qc b (121+g*198) x1 w1 w2 (λi=>0<x1 (121+g*198+65+i)/\i≠u)):bE b w w2/\∃x2,SA w2 b x2/\Iv d g x2/\In x2 u g/\Wk x x2:=by
 obtain⟨f',x2,s2,i2,c2,_,_⟩:Ln b d u g x false w w2:=Ln.of i (.inl rfl) n c f q (λj hj ne=>by rw[hq j hj];simp[ne]) (by simp) (λ_ e=>by cases e);have:=n.lt;have:=n.pM;exact⟨f',x2,s2,i2,⟨n.lt,n.pos,(c2 _ bu bu bu).trans n.here,n.pM,(c2 _ bu bu bu).trans n.rz⟩,c2.wk n.lt n.pM⟩
theorem PS(u g:Nat)(h:SA w b x)(i:Iv d u x)(n:In x u g):Calls prog 235 #[ai (bh ⟨b,0,bj⟩),aa az u] w λe w'=>e=bf (ao #[])/\To b w (λx'=>Iv d g x'/\Wk x x') w':=by
 have c1:=h.i _ (nY n.lt);rw[n.rz]at c1;have l1:(u:Int)<30:=by have:=n.lt;omega
 have l2:(g:Int)<10:=by have:=n.pM;omega
 obtain⟨m,hp,pp,q1,q2⟩:=i.q g n.pM;obtain⟨_,_,_,_,_,wp⟩:=i.par u n.lt n.pos n.here;have gu:g≠u:=by
  obtain⟨k,_,e,_,lt,_⟩:=i.par u n.lt n.pos n.here;rw[n.rz]at e;intro e2;subst e2;obtain rfl:k=g:=bu
  omega
 have CU:Hid (∀w' y,SA w' b y->(∀i,121+g*198<=i->i<121+g*198+129->y i=x i)->Calls prog 272 #[ai (bh ⟨b,121+g*198,bj⟩),aa az u] w' λe w''=>∃k E,e=bf (ao #[aa bd k,bG E])/\Qc b (121+g*198) y w' w'' (λi=>0<y (121+g*198+65+i)/\i≠u)):=hJ (λw' y hy ey=>Lp b y w' _ m hp pp u ⟨hy,⟨g,n.pM,rfl⟩,⟨(ey _ bu bu).trans q1.m,λi hi=>(ey _ bu bu).trans (q1.h i hi),λi hi=>(ey _ bu bu).trans (q1.p i hi)⟩,q2⟩ bu);have H:=hJ (aK i (aK n (aK gu h)));have kt:=hJ (ie n.lt 3 bu);have kw:=hJ (ie n.lt 2 bu);have kf:=hJ (EH n.pM);have z1:¬x (1+u*4+2)=0:=bu
 go_in
 go_wp2
 go_quiet (fail)
 go_wp2_with fail
 refine cG (λW=>SA W b x/\bE b w W) ⟨H.2.2.2.drewN _,(bE.refl b w).drewN _⟩ ?_;rintro W ⟨hS,hF⟩;have c2:=hS.u _ kt.v;have c3:=hS.u _ kf.v;have cf:=hS.frozen;have S:=hJ (aK hS hF);obtain⟨T,hT⟩:=hU (x (1+u*4+3));obtain⟨L,hL⟩:=hU (x (121+g*198+193));have HT:=hJ hT;rw[hT]at c2;rw[hL]at c3;go_region
 go_wp2_with fail
 refine cG (λW=>SA W b (up x (121+g*198+193) (mx L T))/\bE b w W) ⟨(S.1.set _ _ _ kf.1 (by rw[kf.2];rfl)).drew,(S.2.setCell _ _).drew⟩ ?_;rintro W ⟨hS,hF⟩;have c2:=hS.u _ kt.v;have c3:=hS.u _ kw.v;rw[cq _ _]at c2 c3;rw[HT.v]at c2;have cf:=hS.frozen;have S:=hJ (aK hS hF);generalize mx L T=ML at*;obtain⟨wt,hw⟩:=hU (x (1+u*4+2));rw[hw]at c3 z1;by_cases t:10<=u
 case' pos=>
  have h10':¬(u:Int)<10:=bu
  go_region
  go_wp2_with fail
  generalize IntKind.u64.wrap (T+_)=TT at*;have S2:Hid (SA (W.setCell ⟨b,1+u*4+3,bj⟩ (aa bd TT)).drew b (up (up x (121+g*198+193) ML) (1+u*4+3) TT)/\bE b w (W.setCell ⟨b,1+u*4+3,bj⟩ (aa bd TT)).drew/\Ch g u x (up (up x (121+g*198+193) ML) (1+u*4+3) TT)):=hJ ⟨(S.1.set _ _ _ kt.1 (by rw[kt.2];rfl)).drew,(S.2.setCell _ _).drew,λi a1 a2 a3=>by rw[cq _ _ a2,cq _ _]⟩;have EQ:Hid (∀i,121+g*198<=i->i<121+g*198+129->up (up x (121+g*198+193) ML) (1+u*4+3) TT i=x i):=hJ (λi a1 a2=>by rw[cq _ _,cq _ _])
 case' neg=>
  have h10:u<10:=bu
  have h10':(u:Int)<10:=bu
  have kq:=hJ (nZ h10 195 bu);have ku:=hJ (nZ h10 197 bu);have c4:=hS.i _ kq.v;have c5:=hS.i _ ku.v;generalize up x (121+g*198+193) ML (121+u*198+195)=qu at c4;generalize up x (121+g*198+193) ML (121+u*198+197)=us at c5;by_cases q0:0<qu
  case' pos=>
   go_region
   go_wp2_with fail
   go_region
   go_wp2_with fail
   generalize IntKind.u64.wrap (T+_)=TT at*;generalize wrap64 (us+1)=UU at*;have S2:Hid (SA ((W.setCell ⟨b,1+u*4+3,bj⟩ (aa bd TT)).setCell ⟨b,121+u*198+197,bj⟩ (aa az UU)).drew.drew b (up (up (up x (121+g*198+193) ML) (1+u*4+3) TT) (121+u*198+197) UU)/\bE b w ((W.setCell ⟨b,1+u*4+3,bj⟩ (aa bd TT)).setCell ⟨b,121+u*198+197,bj⟩ (aa az UU)).drew.drew/\Ch g u x (up (up (up x (121+g*198+193) ML) (1+u*4+3) TT) (121+u*198+197) UU)):=hJ ⟨((S.1.set _ _ _ kt.1 (by rw[kt.2];rfl)).set _ _ _ ku.1 (by rw[ku.2];rfl)).drew.drew,((S.2.setCell _ _).setCell _ _).drew.drew,λi a1 a2 a3=>by rw[cq _ _ a3,cq _ _ a2,cq _ _]⟩;have EQ:Hid (∀i,121+g*198<=i->i<121+g*198+129->up (up (up x (121+g*198+193) ML) (1+u*4+3) TT) (121+u*198+197) UU i=x i):=hJ (λi a1 a2=>by rw[cq _ _,cq _ _,cq _ _])
  case' neg=>
   go_region
   go_wp2_with fail
   generalize IntKind.u64.wrap (T+_)=TT at*;have S2:Hid (SA (W.setCell ⟨b,1+u*4+3,bj⟩ (aa bd TT)).drew b (up (up x (121+g*198+193) ML) (1+u*4+3) TT)/\bE b w (W.setCell ⟨b,1+u*4+3,bj⟩ (aa bd TT)).drew/\Ch g u x (up (up x (121+g*198+193) ML) (1+u*4+3) TT)):=hJ ⟨(S.1.set _ _ _ kt.1 (by rw[kt.2];rfl)).drew,(S.2.setCell _ _).drew,λi a1 a2 a3=>by rw[cq _ _ a2,cq _ _]⟩;have EQ:Hid (∀i,121+g*198<=i->i<121+g*198+129->up (up x (121+g*198+193) ML) (1+u*4+3) TT i=x i):=hJ (λi a1 a2=>by rw[cq _ _,cq _ _])
 all_goals
  refine(CU.v _ _ S2.1 EQ.v).mono ?_;rintro e w2 ⟨k,E,rfl,q⟩;obtain⟨f2,x2,s2,i2,n2,k2⟩:=PW H.1 H.2.1 S2.2.2 (λj hj=>EQ.v _ bu bu) S2.2.1 q;have LN:=hJ (Cj b d x2 w2 u g g s2 i2 (.inr rfl) n2);have S3:=hJ (aK f2 k2);go_wp2_with fail
  refine sC LN.v ?_;rintro w3 ⟨f3,x3,s3,i3,c3',_,_⟩;have FIN:Hid (To b w (λx'=>Iv d g x'/\Wk x x') w3):=hJ ⟨x3,s3,S3.1.trans f3,i3,S3.2.trans (c3'.wk H.2.1.lt H.2.1.pM)⟩;go_wp2_with fail
  go_end0
  exact⟨rfl,FIN.v⟩
theorem Qf(n:Nat)(h:SA w b x)(i:Iv d 0 x)(hn:n<20)(hh:x (1+(10+n)*4)=1):Calls prog 171 #[ai (bh ⟨b,0,bj⟩),aa az n] w λe w'=>e=bf (ao #[])/\To b w (λx'=>Iv d 0 x'/\Wk x x') w':=by
 have kr:=AP hn;have c1:=h.i _ kr;have cf:=h.frozen;have hnI:(n:Int)<20:=bu
 have H:=hJ (aK h (aK i (aK hh kr)));generalize x (2101+n*2+1)=r at c1;go_in
 go_wp2
 go_region
 go_wp2_with fail
 generalize wrap64 (r+1)=rr at*;have H0:Hid (bE b w (w.setCell ⟨b,2101+n*2+1,bj⟩ (aa az rr)).drew/\SA (w.setCell ⟨b,2101+n*2+1,bj⟩ (aa az rr)).drew b (up x (2101+n*2+1) rr)/\Iv d (10+n) (up x (2101+n*2+1) rr)/\Wk x (up x (2101+n*2+1) rr)/\up x (2101+n*2+1) rr (1+(10+n)*4)=1):=hJ ⟨((bE.refl b w).setCell _ _).drew,(H.1.set _ _ _ H.2.2.2.1 (by rw[H.2.2.2.2];rfl)).drew,(H.2.1.jm (λj hj=>cq _ _ (by unfold Kc at hj;omega))).any _,λj hj=>cq _ _,by rw[cq _ _];exact H.2.2.1⟩;generalize (w.setCell ⟨b,2101+n*2+1,bj⟩ (aa az rr)).drew=W0 at*;go_loopw [4] (λi wr=>∃(v:Nat) (y:Nat->Int),i=aa az v/\v<30/\Hid (bE b w wr/\SA wr b y/\Iv d v y/\Wk x y/\y (1+v*4)=1)) (λi _=>d (intOf i).toNat)
 case atStart=>exact⟨10+n,_,by go_num,bu,H0⟩
 case round=>
  obtain⟨v,y,rfl,hv,H⟩:=hrel;by_cases h0:v=0
  .subst h0;go_wp2
   go_end0
   obtain⟨h1,h2,h3,h4,_⟩:=H.v;exact⟨rfl,y,h2,h1,h3,h4⟩
  .have k0:((v:Int) !=0)=true:=by rw[bne_iff_ne];omega
   obtain⟨g,g1,g2,g3,g4,_⟩:=H.2.2.1.par v hv h0 H.2.2.2.2;have HG:=hJ (aK g2 g3);have PY:=hJ (PS b d y wr v g H.2.1 H.2.2.1 ⟨hv,h0,H.2.2.2.2,g1,g2⟩);go_wp2_with fail
   refine sC PY.v ?_;rintro w1 ⟨y1,s1,f1,i1,k1⟩;have c0:w1.cell? ⟨b,1+v*4+1,bj⟩=bh (aa az (g:Int)):=by rw[s1.i _ (nY hv),k1 _ bu,HG.1]
   have S1:Hid (bE b w w1/\SA w1 b y1/\Iv d g y1/\Wk x y1/\y1 (1+g*4)=1):=hJ ⟨H.1.trans f1,s1,i1,H.2.2.2.1.trans k1,(k1 _ bu).trans HG.2⟩;have hvI:(v:Int)<30:=bu
   go_wp2
   go_roundw
   case rel=>exact⟨g,y1,rfl,bu,S1⟩
   case measure=>simp[intOf];exact g4
theorem Rv(d:Nat->Nat):∀n,∃D,∀u,u<n->d u<=D
 |0=>⟨0,λu h=>aZ h bu⟩
 |n+1=>by
  obtain⟨D,h⟩:=Rv d n;refine⟨D+d n,λu hu=>?_⟩;by_cases e:u=n
  .subst e;omega
  .have:=h u bu;omega
theorem MR(h:SA w b x)(i:Iv d 0 x):Calls prog 170 #[ai (bh ⟨b,0,bj⟩)] w λe w'=>∃r:Int,e=bf (aa az r)/\(∃n,w'=w.drewN n)/\(r= -1/\¬0<x 121\/∃n:Nat,r=n/\n<20/\x (1+(10+n)*4)=1):=by
 obtain⟨D,hD⟩:=Rv d 30;have H:=hJ (aK h (aK i hD));clear h i hD;go_in
 go_wp2_with fail
 go_loopw [3] (λj wr=>∃(v:Nat),j=aa az v/\v<30/\Hid ((∃n,wr=w.drewN n)/\x (1+v*4)=1/\(v=0\/∃g,g<10/\0<x (121+g*198+65+v)))) (λj _=>D-d (intOf j).toNat)
 case atStart=>exact⟨0,rfl,bu,⟨0,rfl⟩,H.2.1.rt, .inl rfl⟩
 case round=>
  obtain⟨v,rfl,hv,I⟩:=hrel;by_cases h10:v<10
  .have k0:(v:Int)<10:=bu
   obtain⟨m,hp,pp,q1,q2⟩:=H.2.1.q v h10;have Fqq:=hJ (qC b (121+v*198) m x hp pp wr ⟨by obtain⟨n,e⟩:=I.1;rw[e];exact H.1.drewN n,⟨v,h10,rfl⟩,q1,q2⟩);have QP:=hJ (aK q1.m q1.p);clear q1 q2;by_cases m0:0<m
   .rw[aO m0]at Fqq;go_wp2_with fail
    refine Fqq.mono ?_;rintro e w1 ⟨j,k,n1,rfl,hw1,hj⟩;have S1:Hid ((∃n,w1=w.drewN n)/\j<30/\x (1+j*4)=1/\0<x (121+v*198+65+j)/\d v<d j/\d j<=D):=hJ (by
     obtain⟨n,hn⟩:=I.1;obtain⟨j1,j2⟩:=hj m0;have p:0<x (121+v*198+65+j):=by rw[QP.2 j j1];omega
     obtain⟨a1,a2,a3,a4⟩:=H.2.1.mem v j h10 j1 p;obtain⟨g,b1,b2,b3,b4,_⟩:=H.2.1.par j a1 a2 a3;obtain rfl:g=v:=bu
     exact⟨⟨n+n1,by rw[hw1,hn,World.drewN_drewN]⟩,a1,a3,p,b4,H.2.2 j a1⟩)
    clear hw1 hj;go_wp2
    go_roundw
    case rel=>exact⟨j,rfl,S1.2.1,S1.1,S1.2.2.1, .inr ⟨v,h10,S1.2.2.2.1⟩⟩
    case measure=>have:=S1.2.2.2.2;simp[intOf];omega
   .rw[aT m0]at Fqq;go_wp2_with fail
    refine Fqq.mono ?_;rintro e w1 ⟨j,k,n1,rfl,hw1,_⟩;have S1:Hid ((∃n,w1=w.drewN n)/\¬0<x 121):=hJ (by
     obtain⟨n,hn⟩:=I.1;refine⟨⟨n+n1,by rw[hw1,hn,World.drewN_drewN]⟩,?_⟩;rcases I.2.2 with e|⟨g,hg,p⟩
     .subst e;have e1:x 121=m:=QP.1;omega
     .have:=H.2.1.ne g v hg h10 (H.2.1.mem g v hg bu p).2.1 p;have:=QP.1;omega)
    clear hw1;go_wp2
    go_ret
    exact⟨-1,rfl,S1.1, .inl ⟨rfl,S1.2⟩⟩
  .have k0:¬(v:Int)<10:=bu
   obtain⟨n,rfl⟩:∃n,v=10+n:=⟨v-10,bu⟩;go_wp2
   go_ret
   exact⟨_,rfl,I.1, .inr ⟨n,bu,bu,I.2.1⟩⟩
theorem JW(h:SA w b x)(i:Iv d 0 x):Calls prog 169 #[ai (bh ⟨b,0,bj⟩)] w λe w'=>e=bf (ao #[])/\To b w (λx'=>Iv d 0 x'/\Wk x x'/\(NQ x->x'=x)) w':=by
 have H:=hJ (aK h i);go_in
 go_wp2_with fail
 go_loopw [4] (λj wr=>∃(k:Nat) (y:Nat->Int),j=aa az k/\k<=10/\Hid (bE b w wr/\SA wr b y/\Iv d 0 y/\Wk x y/\(NQ x->y=x))) (λj _=>10-(intOf j).toNat)
 case atStart=>exact⟨0,x,rfl,bu,bE.refl _ _,H.1,H.2,Wk.refl _,λ_=>rfl⟩
 case round=>
  obtain⟨k,y,rfl,hk,H⟩:=hrel;by_cases h10:k<10
  .have k0:(k:Int)<10:=bu
   have ku:=hJ (nZ h10 197 bu);have c0:=H.2.1.i 0 ⟨by omega,rfl⟩;have c1:=H.2.1.i _ (nZ h10 195 bu);have c2:=H.2.1.i _ (nZ h10 196 bu);have c3:=H.2.1.i _ ku.v;have cf:=H.2.1.frozen;have PE:=hJ (H.2.2.1.pe k h10);have QE:Hid (x (121+k*198+195)=y (121+k*198+195)):=hJ (H.2.2.2.1 _ bu).symm;generalize y (121+k*198+195)=qu at*;generalize y (121+k*198+197)=us at*;generalize y 0=N at*;by_cases q0:0<qu
   .have p0:=PE.v q0;have HH:=hJ p0.2;have p1:¬y (121+k*198+196)=0:=bu
    generalize y (121+k*198+196)=pe at*;obtain⟨t,ht⟩:=hU ((N.tmod pe==0));cases t
    .go_wp2_with fail
     go_quiet (fail)
     go_wp2
     go_roundw
     case rel=>exact⟨k+1,y,by go_num,bu,H.1.drewN _,H.2.1.drewN _,H.2.2⟩
     case measure=>simp[intOf];omega
    .have ST:Hid (∀nq,Calls prog 195 #[ai (bh ⟨b,0,bj⟩),aa az k] ((wr.drewN nq).setCell ⟨b,121+k*198+197,bj⟩ (aa .i64 0)) λe w'=>e=bf (ao #[])/\To b ((wr.drewN nq).setCell ⟨b,121+k*198+197,bj⟩ (aa .i64 0)) (λx'=>Iv d 0 x'/\Wk (up y (121+k*198+197) 0) x'/\Ps k (up y (121+k*198+197) 0) x') w'):=hJ (λnq=>ph b d _ _ k ((H.2.1.drewN nq).set _ 0 _ ku.1 (by rw[ku.2];rfl)) ((H.2.2.1.jm (λj hj=>cq _ _ (by unfold Kc at hj;omega))).any k) bu (by rw[cq _ _];exact HH.v));go_wp2_with fail
     go_quiet (fail)
     go_wp2_with fail
     refine sC (ST.v _) ?_;rintro w1 ⟨y1,s1,f1,i1,k1,_⟩;have S1:Hid (bE b w w1/\SA w1 b y1/\Iv d 0 y1/\Wk x y1/\(NQ x->y1=x)):=hJ ⟨((H.1.drewN _).setCell _ _).trans f1,s1,i1,H.2.2.2.1.trans (λj hj=>(k1 j hj).trans (cq _ _)),λq=>aZ q0 (by have:=q k h10;rw[QE.v]at this;exact this)⟩;go_wp2
     go_roundw
     case rel=>exact⟨k+1,y1,by go_num,bu,S1⟩
     case measure=>simp[intOf];omega
   .have q1:decide ((0:Int)<qu)=false:=by simp;omega
    go_wp2_with fail
    go_quiet (fail)
    go_wp2
    go_roundw
    case rel=>exact⟨k+1,y,by go_num,bu,H.1.drewN _,H.2.1.drewN _,H.2.2⟩
    case measure=>simp[intOf];omega
  .have k0:¬(k:Int)<10:=bu
   go_wp2_with fail
   go_end0
   exact⟨rfl,y,H.2.1,H.1,H.2.2⟩
theorem R6(h:SA w b x)(i:Iv d 0 x):Calls prog 95 #[ai (bh ⟨b,0,bj⟩)] w λe w'=>∃r:Int,e=bf (aa az r)/\(r= -1/\(NQ x->¬0<x 121)\/∃n:Nat,r=n/\n<20/\x (1+(10+n)*4)=1)/\To b w (λx'=>Iv d 0 x'/\Wk x x') w':=by
 have RN:=hJ (JW b d x w h i);go_in
 go_wp2_with fail
 refine sC RN.v ?_;rintro w1 ⟨x1,s1,f1,i1,k1,n1⟩;have c0:=s1.i 0 ⟨by omega,rfl⟩;have cf:=s1.frozen;have S1:=hJ (aK s1 (aK f1 (aK i1 (aK k1 n1))));generalize x1 0=N at c0;go_wp2_with fail
 generalize wrap64 (N+1)=NN at*;have s2:=S1.1.set 0 NN (aa az NN) bu rfl;have i2:Iv d 0 (up x1 0 NN):=S1.2.2.1.jm (λj hj=>cq _ _ (by unfold Kc at hj;omega));have F2:=hJ (aK (S1.2.1.setCell 0 (aa az NN)) (aK s2 i2));refine(MR b d _ _ s2 i2).mono ?_;rintro e w2 ⟨r,rfl,hw2,hr⟩;have S2:Hid (SA w2 b (up x1 0 NN)/\bE b w w2):=hJ (by obtain⟨n,e⟩:=hw2;rw[e];exact⟨s2.drewN n,F2.1.drewN n⟩);have HR:=hJ hr;have KK:Hid (Wk x (up x1 0 NN)):=hJ (S1.2.2.2.1.trans (λj hj=>cq _ _));rcases hr with⟨rfl,h0⟩|⟨n,rfl,hn,hh⟩
 .have HH:=hJ h0;go_wp2
  go_ret
  exact⟨-1,rfl, .inl ⟨rfl,λq=>by have:=HH.v;rw[cq _ _,S1.2.2.2.2 q]at this;exact this⟩,_,S2.1,S2.2,F2.2.2,KK.v⟩
 .have z:((n:Int) != -1)=true:=by rw[bne_iff_ne];omega
  have RU:=hJ (Qf b d _ w2 n S2.1 F2.2.2 hn hh);have HH:=hJ hh;go_wp2_with fail
  refine sC RU.v ?_;rintro w3 ⟨x3,s3,f3,i3,k3⟩;have FIN:Hid (To b w (λx'=>Iv d 0 x'/\Wk x x') w3):=hJ ⟨x3,s3,S2.2.trans f3,i3,KK.trans k3⟩;go_wp2
  go_ret
  exact⟨n,rfl, .inr ⟨n,rfl,hn,by rw[<-KK.v _ bu];exact HH.v⟩,FIN.v⟩
end
end Wf
namespace Wf
structure M where
 here:Nat->Bool
 top:Nat->Bool
 nq:Bool
 rd:Bool
def fb(f:Nat->Bool)(i:Nat)(v:Bool):Nat->Bool:=λj=>if j=i then v else f j
theorem u6(f:Nat->Bool)(i:Nat)(v:Bool):fb f i v i=v:=aJ rfl
theorem sA(f:Nat->Bool){i j:Nat}(v:Bool)(h:j≠i):fb f i v j=f j:=aI h
structure Rp (m:M)(x:Nat->Int):Prop where
 here:∀u,u<30->(x (1+u*4)=1↔m.here u=true)
 top:∀u,u<30->m.here u=true->m.top u=true->x (1+u*4+1)=0
 nq:m.nq=true->NQ x
 rd:m.rd=true->0<x 121
def Fair(w:bD)(b:Nat)(m:M):Prop:=∃x d,SA w b x/\Iv d 0 x/\Rp m x
theorem Fair.lt{w:bD}{b:Nat}{m:M}(h:Fair w b m):b<w.heap.size:=by obtain⟨x,d,s,_⟩:=h;exact s.lt
theorem Fair.same{w w':bD}{b:Nat}{m:M}(h:Fair w b m)(e:w'.heap[b]? =w.heap[b]?):Fair w' b m:=by obtain⟨x,d,s,i⟩:=h;exact⟨x,d,s.same e,i⟩
theorem Rp.wk{m:M}{x x':Nat->Int}(h:Rp m x)(k:Wk x x')(r:Bool)(hr:r=true->0<x' 121):Rp {m with rd:=r} x':=
 ⟨λu hu=>by rw[k _ bu];exact h.here u hu,λu hu a t=>by rw[k _ bu];exact h.top u hu a t,λq g hg=>by rw[k _ bu];exact h.nq q g hg,hr⟩
theorem Iv.put{d:Nat->Nat}{x x':Nat->Int}{u g:Nat}(h:Iv d 0 x)(hu:u<30)(u0:u≠0)(no:∀k,k<10->¬0<x (121+k*198+65+u))(na:∀v,v<30->v≠0->x (1+v*4)=1->x (1+v*4+1)≠u)(hg:g<10)(gu:g≠u)(gh:x (1+g*4)=1)(e:∀i,i<1+u*4\/1+u*4+4<=i->x' i=x i)(e0:x' (1+u*4)=1)(e1:x' (1+u*4+1)=g)(e2:0<x' (1+u*4+2))(pq:u<10->¬0<x (121+u*198+195)):Iv (λv=>if v=u then d g+1 else d v) 0 x':=by
 refine⟨λk hk=>(h.q k hk).same λi h1 h2=>e i bu,(e _ bu).trans h.rt,λv hv v0 hv1=>?_,λk j hk hj p=>?_,λk v hk hv hne p=>?_,λk hk p=>?_⟩
 .by_cases ev:v=u
  .subst ev;exact⟨g,hg,e1,(e _ bu).trans gh,by show(if g=v then _ else d g)<(if v=v then _ else _);rw[aI gu,aJ rfl];omega,e2⟩
  .rw[e _ bu]at hv1;obtain⟨k,k1,k2,k3,k4,k5⟩:=h.par v hv v0 hv1;have ku:k≠u:=λe=>na v hv v0 hv1 (by rw[k2,e]);exact⟨k,k1,(e _ bu).trans k2,(e _ bu).trans k3,by show(if k=u then _ else d k)<(if v=u then _ else d v);rw[aI ku,aI ev];exact k4,by rw[e _ bu];exact k5⟩
 .rw[e _ bu]at p;obtain⟨m1,m2,m3,m4⟩:=h.mem k j hk hj p;have ju:j≠u:=λq=>no k hk (by rw[<-q];exact p);exact⟨m1,m2,(e _ bu).trans m3,(e _ bu).trans m4⟩
 .rw[e _ bu]at p|-;exact h.ne k v hk hv hne p
 .rw[e _ bu]at p;have ku:k≠u:=λq=>pq bu (by rw[<-q];exact p);rw[e _ bu,e _ bu];exact h.pe k hk p
theorem Iv.drop{d:Nat->Nat}{x x':Nat->Int}{u:Nat}(h:Iv d 0 x)(hu:u<30)(u0:u≠0)(no:∀k,k<10->¬0<x (121+k*198+65+u))(na:∀v,v<30->v≠0->x (1+v*4)=1->x (1+v*4+1)≠u)(e:∀i,i<2101->i<1+u*4\/1+u*4+4<=i->i<121+u*198\/121+u*198+198<=i->x' i=x i)(e0:x' (1+u*4)≠1)(z:u<10->∀i,i<198->x' (121+u*198+i)=0):Iv d 0 x':=by
 have z0:u<10->∀i,121+u*198<=i->i<121+u*198+198->x' i=0:=λa i b c=>by
  have:=z a (i-(121+u*198)) bu;rwa [show 121+u*198+(i-(121+u*198))=i by omega]at this
 refine⟨λk hk=>?_,(e _ bu bu bu).trans h.rt,λv hv v0 hv1=>?_,λk j hk hj p=>?_,λk v hk hv hne p=>?_,λk hk p=>?_⟩
 .by_cases ku:k=u
  .subst ku;exact⟨0,λ_=>0,λ_=>0,⟨z0 hk _ bu bu,λi hi=>z0 hk _ bu bu,λi hi=>z0 hk _ bu bu⟩,bu,λi hi=>aZ hi bu,λj hj=>⟨by omega,λq=>aZ q bu⟩⟩
  .exact(h.q k hk).same λi h1 h2=>e i bu bu bu
 .have ev:v≠u:=λq=>e0 (by rw[<-q];exact hv1);rw[e _ bu bu bu]at hv1;obtain⟨k,k1,k2,k3,k4,k5⟩:=h.par v hv v0 hv1;have ku:k≠u:=λe=>na v hv v0 hv1 (by rw[k2,e]);exact⟨k,k1,(e _ bu bu bu).trans k2,(e _ bu bu bu).trans k3,k4,by rw[e _ bu bu bu];exact k5⟩
 .have ku:k≠u:=λq=>by subst q;rw[z0 hk _ bu bu]at p;omega
  rw[e _ bu bu bu]at p;obtain⟨m1,m2,m3,m4⟩:=h.mem k j hk hj p;have ju:j≠u:=λq=>no k hk (by rw[<-q];exact p);exact⟨m1,m2,(e _ bu bu bu).trans m3,(e _ bu bu bu).trans m4⟩
 .have ku:k≠u:=λq=>by subst q;rw[z0 hk _ bu bu]at p;omega
  rw[e _ bu bu bu]at p;have vu:v≠u:=λq=>no k hk (by rw[<-q];exact p);rw[e _ bu bu bu];exact h.ne k v hk hv hne p
 .have ku:k≠u:=λq=>by subst q;rw[z0 hk _ bu bu]at p;omega
  rw[e _ bu bu bu]at p;rw[e _ bu bu bu,e _ bu bu bu];exact h.pe k hk p
def lX(m:M)(z:Int):Int:=if z<0\/10<=z then 1 else if m.here z.toNat then 0 else 2
def lL(m:M)(z:Int):Int:=if z<0\/20<=z then 1 else if m.here (10+z.toNat)then 0 else 2
theorem qE{m:M}{z:Int}(h:lX m z=0):∃n:Nat,z=n/\n<10/\m.here n=true:=by
 unfold lX at h;split at h
 .omega
 .obtain⟨n,rfl⟩:=aG (show 0<=z by omega);refine⟨n,rfl,bu,?_⟩;rw[hZ]at h;split at h
  .assumption
  .omega
theorem qN{m:M}{z:Int}(h:lL m z=0):∃n:Nat,z=n/\n<20/\m.here (10+n)=true:=by
 unfold lL at h;split at h
 .omega
 .obtain⟨n,rfl⟩:=aG (show 0<=z by omega);refine⟨n,rfl,bu,?_⟩;rw[hZ]at h;split at h
  .assumption
  .omega
section
variable (b:Nat)(m:M)(w:bD)
theorem Fair.cell{w:bD}{b:Nat}{m:M}(h:Fair w b m)(u:Nat)(hu:u<30):w.cell? ⟨b,1+u*4,bj⟩=bh (ar (m.here u)):=by
 obtain⟨x,d,s,_,r⟩:=h;rw[s.bo _ (pP hu)];have:=r.here u hu;cases e:m.here u<;>simp_all
theorem lr(z:Int)(h:Fair w b m):Calls prog 189 #[ai (bh ⟨b,0,bj⟩),aa az z] w λe w'=>e=bf (bG (lX m z))/\w'=w:=by
 by_cases k:z<0
 .have E:Hid (lX m z=1):=hJ (aJ (.inl k));go_in
  go_wp2
  go_ret
  rw[E.v];exact⟨rfl,rfl⟩
 .have k0:decide (z<0)=false:=by simp;omega
  by_cases k1:10<=z
  .have E:Hid (lX m z=1):=hJ (aJ (.inr k1));go_in
   go_wp2
   go_ret
   rw[E.v];exact⟨rfl,rfl⟩
  .obtain⟨n,rfl⟩:=aG (show 0<=z by omega);have c:=h.cell n bu;have E:Hid (lX m n=if m.here n then 0 else 2):=hJ (nJ);have hn:(n:Int)<30:=bu
   generalize m.here n=t at*;cases t<;>
   .go_in
    go_wp2
    go_ret
    rw[E.v];exact⟨rfl,rfl⟩
theorem lW(z:Int)(h:Fair w b m):Calls prog 135 #[ai (bh ⟨b,0,bj⟩),aa az z] w λe w'=>e=bf (bG (lL m z))/\w'=w:=by
 by_cases k:z<0
 .have E:Hid (lL m z=1):=hJ (aJ (.inl k));go_in
  go_wp2
  go_ret
  rw[E.v];exact⟨rfl,rfl⟩
 .have k0:decide (z<0)=false:=by simp;omega
  by_cases k1:20<=z
  .have E:Hid (lL m z=1):=hJ (aJ (.inr k1));go_in
   go_wp2
   go_ret
   rw[E.v];exact⟨rfl,rfl⟩
  .obtain⟨n,rfl⟩:=aG (show 0<=z by omega);have c:=h.cell (10+n) bu;have E:Hid (lL m n=if m.here (10+n)then 0 else 2):=hJ (nJ);have hn:10+(n:Int)<30:=bu
   have hn0:(0:Int)<=10+(n:Int):=bu
   have hw:IntKind.i64.wrap (10+(n:Int))=10+(n:Int):=aN _ ⟨by omega,bu⟩;generalize m.here (10+n)=t at*;cases t<;>
   .go_in
    go_wp2
    go_ret
    rw[E.v];exact⟨rfl,rfl⟩
theorem vM(g x:Int):Calls prog 193 #[aa az g,aa bd x] w λe w'=>e=bf (au #[ar true,aa az g,aa bd x,aa bd 0])/\Below w.heap.size w w':=by
 go_in
 go_wp2
 refine bodyPost_ret (v:=au #[ar true,aa az g,aa bd x,aa bd 0]) (by simp[results,Tryz.results193,go_sem]) rfl ⟨rfl,(aQ _ _).alloc (aL _) _⟩
theorem SA.four{w:bD}{b:Nat}{x:Nat->Int}(h:SA w b x)(u:Nat)(hu:u<30)(t:Bool)(g wt tm:Int):SA ((((w.setCell ⟨b,1+u*4,bj⟩ (ar t)).setCell ⟨b,1+u*4+1,bj⟩ (aa az g)).setCell ⟨b,1+u*4+2,bj⟩ (aa bd wt)).setCell ⟨b,1+u*4+3,bj⟩ (aa bd tm)) b (up (up (up (up x (1+u*4) (bi t)) (1+u*4+1) g) (1+u*4+2) wt) (1+u*4+3) tm):=
 have a0:=pP hu;have a1:=nY hu;have a2:=ie hu 2 bu;have a3:=ie hu 3 bu
 (((h.set _ _ _ a0.1 (by rw[a0.2];exact FU t)).set _ _ _ a1.1 (by rw[a1.2];rfl)).set _ _ _ a2.1 (by rw[a2.2];rfl)).set _ _ _ a3.1 (by rw[a3.2];rfl)
def rY(m:M)(u:Nat)(g:Int):M:=if m.here u=false/\lX m g=0 then{m with here:=fb m.here u true,top:=fb m.top u (decide (g=0))}else m
theorem Rp.new{m:M}{x x':Nat->Int}(h:Rp m x){u:Nat}{g:Int}(hu:u<30)(u0:u≠0)(e:∀i,i<1+u*4\/1+u*4+4<=i->x' i=x i)(e0:x' (1+u*4)=1)(e1:x' (1+u*4+1)=g):Rp {m with here:=fb m.here u true,top:=fb m.top u (decide (g=0))} x':=by
 refine⟨λv hv=>?_,λv hv a t=>?_,λq k hk=>by rw[e _ bu];exact h.nq q k hk,λq=>by rw[e _ bu];exact h.rd q⟩
 .by_cases ev:v=u
  .subst ev;show _↔fb m.here v true v=true;rw[u6];simp[e0]
  .show _↔fb m.here u true v=true;rw[sA _ _ ev,e _ bu];exact h.here v hv
 .by_cases ev:v=u
  .subst ev;rw[e1];have t':fb m.top v (decide (g=0)) v=true:=t;rw[u6]at t';simpa using t'
  .have a':fb m.here u true v=true:=a;have t':fb m.top u (decide (g=0)) v=true:=t;rw[sA _ _ ev]at a' t';rw[e _ bu];exact h.top v hv a' t'
theorem uY(u:Nat)(z g wt:Int)(hz:z=u)(h:Fair w b m)(hu:u<30)(hw:1<=wt/\wt<=1000):Calls prog 187 #[ai (bh ⟨b,0,bj⟩),aa az z,aa az g,aa az wt] w λe w'=>(∃E,e=bf (bG E))/\Fair w' b (rY m u g)/\bE b w w':=by
 subst hz;have d1:decide (wt<1)=false:=by simp;omega
 have d2:¬(1000:Int)<wt:=bu
 have c1:=h.cell u hu;have hlt:(u:Int)<30:=bu
 have WG:=hJ (lr b m w g h);have H:=hJ h;have HW:=hJ hw;obtain⟨t,ht⟩:=hU (m.here u);rw[ht]at c1;have T:=hJ ht;cases t
 .have u0:u≠0:=by
   rintro rfl;obtain⟨x,d,_,i,r⟩:=H.v;have:=(r.here 0 bu).1 i.rt;rw[T.v]at this;cases this
  go_in
  go_wp2_with fail
  refine cr WG.v ?_;by_cases e:lX m g=0
  .have E:=hJ e;obtain⟨k,rfl,hk,hh⟩:=qE e;have HK:=hJ hh;have HL:=hJ H.lt;rw[e,bB];go_wp2_with fail
   obtain⟨x,d,s,i,r⟩:=H.v;have SI:=hJ (aK s (aK i r));go_region_held3 (λ_=>True) (trivial) ((go_at_call 193;refine(vM _ _ _).mono ?_;rintro e w2 ⟨rfl,b2⟩;have s2:SA w2 b x:=SI.1.drew.same (b2.block b HL.v);have t0:=s2.bo _ (pP hu);have t1:=s2.i _ (nY hu);have t2:=s2.u _ (ie hu 2 bu);have t3:=s2.u _ (ie hu 3 bu);have cf:=s2.frozen;have B2:=hJ (aK s2 ((bE.refl b w).drew.trans (bE.cC b2)))))
   generalize hwt:IntKind.u64.wrap wt=ww at*;have FIN:Hid (Fair ((((w2.setCell ⟨b,1+u*4,bj⟩ (ar true)).setCell ⟨b,1+u*4+1,bj⟩ (aa az (k:Int))).setCell ⟨b,1+u*4+2,bj⟩ (aa bd ww)).setCell ⟨b,1+u*4+3,bj⟩ (aa .u64 0)) b (rY m u k)/\bE b w ((((w2.setCell ⟨b,1+u*4,bj⟩ (ar true)).setCell ⟨b,1+u*4+1,bj⟩ (aa az (k:Int))).setCell ⟨b,1+u*4+2,bj⟩ (aa bd ww)).setCell ⟨b,1+u*4+3,bj⟩ (aa .u64 0))):=hJ (by
    obtain⟨s,i,r⟩:=SI.v;obtain⟨s2,b2⟩:=B2.v;have uh:¬x (1+u*4)=1:=λq=>by have:=(r.here u hu).1 q;rw[T.v]at this;cases this
    have kh:=(r.here k bu).2 HK.v;have ku:k≠u:=λq=>uh (by rw[<-q];exact kh);have w0:0<ww:=by
     rw[<-hwt,IntWalk.u64_in _ ⟨by have:=HW.v;omega,by have:=HW.v;omega⟩];have:=HW.v;omega
    have e:∀i,i<1+u*4\/1+u*4+4<=i->up (up (up (up x (1+u*4) (bi true)) (1+u*4+1) k) (1+u*4+2) ww) (1+u*4+3) 0 i=x i:=λi hi=>by rw[cq _ _,cq _ _,cq _ _,cq _ _]
    have e0:up (up (up (up x (1+u*4) (bi true)) (1+u*4+1) k) (1+u*4+2) ww) (1+u*4+3) 0 (1+u*4)=1:=by rw[cq _ _,cq _ _,cq _ _,gU];rfl
    have e1:up (up (up (up x (1+u*4) (bi true)) (1+u*4+1) k) (1+u*4+2) ww) (1+u*4+3) 0 (1+u*4+1)=k:=by rw[cq _ _,cq _ _,gU]
    unfold rY;rw[aJ ⟨T.v,E.v⟩];refine⟨⟨_,_,s2.four u hu true k ww 0,i.put hu u0 (λq hq p=>uh (i.mem q u hq bu p).2.2.1) (λv hv v0 hv1 q=>?_) hk ku kh e e0 e1 (by rw[cq _ _,gU];exact w0) (λq p=>uh (i.pe u q p).2),r.new hu u0 e e0 e1⟩,(((b2.setCell _ _).setCell _ _).setCell _ _).setCell _ _⟩;obtain⟨j,_,j2,j3,_⟩:=i.par v hv v0 hv1;rw[q]at j2;exact uh (by rw[show u=j by omega];exact j3))
   go_wp2
   go_ret
   exact⟨⟨0,rfl⟩,FIN.v⟩
  .have E0:Hid (rY m u g=m):=hJ (aI λq=>e q.2);have EV:=hJ (bC e);rw[bC e];go_wp2
   go_ret
   rw[E0.v];exact⟨⟨lX m g,by rw[EV.v];rfl⟩,H.v,bE.refl b w⟩
 .have E0:Hid (rY m u g=m):=hJ (aI λq=>by have:=q.1;rw[T.v]at this;cases this);go_in
  go_wp2
  go_ret
  rw[E0.v];exact⟨⟨3,rfl⟩,H.v,bE.refl b w⟩
def dZ(m:M)(z g:Int):M:=if 0<=z/\z<20 then rY m (10+z.toNat) g else m
theorem Dz(z g wt:Int)(h:Fair w b m)(hw:1<=wt/\wt<=1000):Calls prog 143 #[ai (bh ⟨b,0,bj⟩),aa az z,aa az g,aa az wt] w λe w'=>(∃E,e=bf (bG E))/\Fair w' b (dZ m z g)/\bE b w w':=by
 have H:=hJ h;by_cases k:0<=z/\z<20
 .obtain⟨n,rfl⟩:=aG k.1;have AD:=hJ (uY b m w (10+n) (10+(n:Int)) g wt bu h bu hw);have E:Hid (dZ m n g=rY m (10+n) g):=hJ (aJ k);have k1:¬(20:Int)<=(n:Int):=bu
  have hwr:IntKind.i64.wrap (10+(n:Int))=10+(n:Int):=aN _ ⟨by omega,bu⟩;rw[E.v];go_in
  go_wp2_with fail
  refine AD.mono ?_;rintro e w1 ⟨⟨E1,rfl⟩,f1,r1⟩;have FIN:=hJ (aK f1 r1);go_wp2
  go_ret
  exact⟨⟨E1,rfl⟩,FIN.v⟩
 .have E:Hid (dZ m z g=m):=hJ (aI k);rw[E.v];by_cases k0:z<0
  case' pos=>have k1:decide (z<0)=true:=by simpa using k0
  case' neg=>
   have k1:decide (z<0)=false:=by simpa using k0
   have k2:20<=z:=bu
  all_goals
   go_in
   go_wp2
   go_ret
   exact⟨⟨1,rfl⟩,H.v,bE.refl b w⟩
end
end Wf

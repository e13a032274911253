import Derived.Test.YtpmmdkcfenjiaaaGreatDoorVzz
import Derived.Test.YtpmmdkcfenjiaaaGreatDoorProg
import Derived.WalkSpells
import Derived.WalkLawsBesides
import Derived.BigQuiet
import Derived.Deep.Slices
import Derived.Deep.AppendLies
import Derived.Deep.RegionHeld3
import Derived.Handy
set_option maxRecDepth 100000
set_option maxHeartbeats 1000000
namespace Go.Proofs.YtpmmdkcfenjiaaaGreatDoor
open Go.RowKit
theorem bw {P:Program}{c:Code}{Q:Exit->Act->bD->Prop}{a:Act}{W:bD}(F:bD->Prop)(h1:F W)(h2: ∀W',F W'->Code.wp P c Q a W'):Code.wp P c Q a W:=h2 W h1
theorem bC {w:bD}{b:Nat}{C:Array Value}{T:TypeId}(h:w.heap[b]? =some (.cells C T (0,0)))(i:Nat)(v:Value):(w.setCell ⟨b,i,none⟩ v).heap[b]? =some (.cells (C.setIfInBounds i v) T (0,0)):=by
 simp[World.setCell,Array.getElem?_modify,h]
theorem bN {a b:Bool}(h:a=b):Ending.returned (.bool a)= .returned (.bool b):=by rw[h]
structure af (b:Nat)(w w':bD):Prop where
 os:w'.os=w.os
 tape:w'.tape=w.tape
 output:w'.output=w.output
 size:w.heap.size<=w'.heap.size
 block: ∀k,k<w.heap.size->k≠b->w'.heap[k]? =w.heap[k]?
theorem af.bB {b:Nat}{w w':bD}(h:Below w.heap.size w w'):af b w w':=⟨h.os,h.tape,h.output,h.size,fun k hk _=>h.block k hk⟩
theorem af.refl (b:Nat)(w:bD):af b w w:=⟨rfl,rfl,rfl,aL _,fun _ _ _=>rfl⟩
theorem af.trans {b:Nat}{u v w:bD}(h:af b u v)(k:af b v w):af b u w:=
 ⟨k.os.trans h.os,k.tape.trans h.tape,k.output.trans h.output,aH h.size k.size,fun j hj hn=>(k.block j (aD hj h.size) hn).trans (h.block j hj hn)⟩
theorem dD {W:bD}(b c o:Nat)(v:Value)(h:b≠c):(W.setCell ⟨c,o,none⟩ v).heap[b]? =W.heap[b]? :=Below.heap_setCell _ _ _ _ h
theorem af.setCell {b:Nat}{u w:bD}(h:af b u w)(o:Nat)(v:Value):af b u (w.setCell ⟨b,o,none⟩ v):=
 ⟨h.os,h.tape,h.output,by simpa[World.setCell]using h.size,fun k hk hn=>(dD _ _ _ _ hn).trans (h.block k hk hn)⟩
theorem af.drew {b:Nat}{u w:bD}(h:af b u w):af b u w.drew:=⟨h.os,h.tape,h.output,h.size,h.block⟩
theorem af.drewN {b:Nat}{u w:bD}(h:af b u w)(n:Nat):af b u (w.drewN n):=⟨h.os,h.tape,h.output,h.size,h.block⟩
theorem af.below {b B:Nat}{u w w':bD}(h:af b w w')(hb:Below B u w)(hB:B<=b)(hs:B<=w.heap.size):Below B u w':=
 hb.trans ⟨h.os,h.tape,h.output,h.size,fun k hk=>h.block k (by omega) (by omega)⟩
theorem au {w:bD}{b:Nat}{C:Array Value}{T:TypeId}(h:w.heap[b]? =some (.cells C T (0,0)))(o:Nat):w.cell? ⟨b,o,none⟩=C[o]? :=by simp[World.cell?,h]
theorem bf {w:bD}{b:Nat}{C:Array Value}{T:TypeId}(h:w.heap[b]? =some (.cells C T (0,0)))(o:Nat):w.frozen? ⟨b,o,none⟩=false:=by simp[World.frozen?,h]
theorem cC {w:bD}{b:Nat}{C:Array Value}{T:TypeId}(h:w.heap[b]? =some (.cells C T (0,0)))(i j:Nat)(v:Value)(e:i≠j):(w.setCell ⟨b,i,none⟩ v).cell? ⟨b,j,none⟩=w.cell? ⟨b,j,none⟩:=by
 rw[au (bC h i v),au h,aU e]
theorem cL {w:bD}{b:Nat}{C:Array Value}{T:TypeId}(h:w.heap[b]? =some (.cells C T (0,0)))(i:Nat)(v:Value)(hi:i<C.size):(w.setCell ⟨b,i,none⟩ v).cell? ⟨b,i,none⟩=some v:=by
 rw[au (bC h i v),aE hi]
def aq (k:Int):Value:=if k=0 then .nilIface else .iface 100 (.int .i64 k)
theorem aa:aq 0= .nilIface:=rfl
theorem aj {k:Int}(h:k≠0):aq k= .iface 100 (.int .i64 k):=aI h
theorem Ng (n:Int)(w:bD):(Instr.typeAssert (.iface 100 (.int .i64 n)) 34 100 true).run Tryz.prog w= .ok (.tuple #[.int .i64 n, .bool true]) w:=by kernel_rfl
theorem yy (a:Option Addr)(n c:Nat)(m:Int)(w:bD):Calls Tryz.prog 38 #[.slice a n c, .int .i64 m] w fun e w'=>e= .returned (.bool (decide ((n:Int)<=m)))/\w'=w:=by
 go_in
 go_wp2
 go_ret
 exact⟨rfl,rfl⟩
theorem qG (b o j:Nat):(⟨b,o,none⟩:Addr).add j=⟨b,o+j,none⟩:=by unfold Addr.add;split<;>simp_all
structure eQ where
 kind:bU
 a:Int
 b:Int
 c:Int
 key:Nat
 on:Bool
 s:bU
 t:bU
def eQ.cell (x:eQ):Nat->Value
 |0=> .string x.kind
 |1=> .int .i64 x.a
 |2=> .int .i64 x.b
 |3=> .int .i64 x.c
 |4=> .int .u64 x.key
 |5=> .bool x.on
 |6=> .string x.s
 |_=> .string x.t
theorem AI:Tryz.prog.cellsOf 29=8:=by kernel_rfl
theorem zS:Tryz.prog.cellsOf 9=1:=by kernel_rfl
theorem Aa:Tryz.prog.cellsOf 3=1:=by kernel_rfl
theorem Nz:Tryz.prog.cellsOf 27=1:=by kernel_rfl
theorem NJ:Tryz.prog.cellsOf 4=1:=by kernel_rfl
theorem LG {α:Type}{l:List α}(h:l.length=8): ∃a b c d e f g k,l=[a,b,c,d,e,f,g,k]:=by
 match l,h with
 |[a,b,c,d,e,f,g,k],_=>exact⟨a,b,c,d,e,f,g,k,rfl⟩
theorem OU {H:Type}{enc:TypeId×Value->H}{w:bD}{base:Nat}{spare:Nat->Bool}{held:Bool}{fuel:Nat}{cs:List Value}{x:DataW H×List MemPlace}(h:DataW.trod enc Tryz.prog w base spare held fuel 29 cs=some x):
  ∃y:eQ,cs.length=8/\ ∀j,j<8->cs[j]? =some (y.cell j):=by
 obtain⟨xs,n,_,_,hl,hlen,hf⟩:=DataW.trod_struct Tryz.underlying29 h;rw[AI]at hl;obtain⟨c0,c1,c2,c3,c4,c5,c6,c7,rfl⟩:=LG hl;obtain⟨x0,x1,x2,x3,x4,x5,x6,x7,rfl⟩:=LG (show xs.length=8 from hlen);have f0:DataW.trod enc Tryz.prog w base spare held n 9 (([c0,c1,c2,c3,c4,c5,c6,c7].drop 0).take (Tryz.prog.cellsOf 9))=some x0:=hf 0 _ rfl;have f1:DataW.trod enc Tryz.prog w base spare held n 3 (([c0,c1,c2,c3,c4,c5,c6,c7].drop 1).take (Tryz.prog.cellsOf 3))=some x1:=hf 1 _ rfl;have f2:DataW.trod enc Tryz.prog w base spare held n 3 (([c0,c1,c2,c3,c4,c5,c6,c7].drop 2).take (Tryz.prog.cellsOf 3))=some x2:=hf 2 _ rfl;have f3:DataW.trod enc Tryz.prog w base spare held n 3 (([c0,c1,c2,c3,c4,c5,c6,c7].drop 3).take (Tryz.prog.cellsOf 3))=some x3:=hf 3 _ rfl;have f4:DataW.trod enc Tryz.prog w base spare held n 27 (([c0,c1,c2,c3,c4,c5,c6,c7].drop 4).take (Tryz.prog.cellsOf 27))=some x4:=hf 4 _ rfl;have f5:DataW.trod enc Tryz.prog w base spare held n 4 (([c0,c1,c2,c3,c4,c5,c6,c7].drop 5).take (Tryz.prog.cellsOf 4))=some x5:=hf 5 _ rfl;have f6:DataW.trod enc Tryz.prog w base spare held n 9 (([c0,c1,c2,c3,c4,c5,c6,c7].drop 6).take (Tryz.prog.cellsOf 9))=some x6:=hf 6 _ rfl;have f7:DataW.trod enc Tryz.prog w base spare held n 9 (([c0,c1,c2,c3,c4,c5,c6,c7].drop 7).take (Tryz.prog.cellsOf 9))=some x7:=hf 7 _ rfl;rw[zS]at f0;rw[Aa]at f1;rw[Aa]at f2;rw[Aa]at f3;rw[Nz]at f4;rw[NJ]at f5;rw[zS]at f6;rw[zS]at f7;obtain⟨k0,e0,_⟩:=DataW.trod_string Tryz.underlying9 f0;obtain⟨k1,e1,_⟩:=DataW.trod_int Tryz.underlying3 f1
 obtain⟨k2,e2,_⟩:=DataW.trod_int Tryz.underlying3 f2;obtain⟨k3,e3,_⟩:=DataW.trod_int Tryz.underlying3 f3;obtain⟨k4,e4,_,w4⟩:=DataW.trod_int Tryz.underlying27 f4;obtain⟨k5,e5,_⟩:=DataW.trod_bool Tryz.underlying4 f5;obtain⟨k6,e6,_⟩:=DataW.trod_string Tryz.underlying9 f6;obtain⟨k7,e7,_⟩:=DataW.trod_string Tryz.underlying9 f7;have p4:0<=k4:=(bounds_u64 w4).1;refine⟨⟨k0,k1,k2,k3,k4.toNat,k5,k6,k7⟩,rfl,fun j hj=>?_⟩;simp only[List.drop,List.take,List.cons.injEq,and_true]at e0 e1 e2 e3 e4 e5 e6 e7;subst e0 e1 e2 e3 e4 e5 e6 e7;have e4:((k4.toNat:Nat):Int)=k4:=Int.toNat_of_nonneg p4
 match j,hj with
 |0,_=>rfl
 |1,_=>rfl
 |2,_=>rfl
 |3,_=>rfl
 |4,_=>simp[eQ.cell,e4]
 |5,_=>rfl
 |6,_=>rfl
 |7,_=>rfl
def tK (w:bD)(a:Option Addr)(len:Nat):Prop:=len<=maxLen/\(0<len-> ∃b o,∃ax:Nat->eQ,a=some ⟨b,o,none⟩/\ ∀i,i<len-> ∀j,j<8->w.cell? ⟨b,o+i*8+j,none⟩=some ((ax i).cell j))
theorem Mk {H:Type}{enc:TypeId×Value->H}{w:bD}{base:Nat}{spare:Nat->Bool}{held:Bool}{fuel:Nat}{a:Option Addr}{len cap:Nat}{x:DataW H×List MemPlace}(h:DataW.trod enc Tryz.prog w base spare held fuel 22 [.slice a len cap]=some x):
  tK w a len:=by
 rcases Go.Deep.open_slice Tryz.underlying22 h with⟨hcs,_⟩|⟨ad,l,c,m,n,D,Pl,hcs,_,hl,hm,hmm,_,hel⟩
 ·simp at hcs;obtain⟨rfl,rfl,rfl⟩:=hcs;exact⟨aC _,fun h0=>aZ h0 (by omega)⟩
 ·simp at hcs;obtain⟨rfl,rfl,rfl⟩:=hcs;refine⟨by omega,fun h0=>?_⟩;have hlm:len<=m:=by rw[hmm];split<;>omega
  have hex: ∀i,i<len-> ∃y:eQ,∀j,j<8->w.cell? (ad.add (i*8+j))=some (y.cell j):=fun i hi=>by
   obtain⟨cs',hc,ht⟩:=hel i (by omega);rw[AI]at hc;obtain⟨y,hl8,hy⟩:=OU ht;refine⟨y,fun j hj=>?_⟩;have h8:=(World.cells?_some hc).2.2 j hj;rw[Go.Deep.add_add,hy j hj]at h8;exact h8
  obtain⟨b,o,spot⟩:=ad;have hspot:spot=none:=by
   obtain⟨y,hy⟩:=hex 0 h0;simpa[Addr.add]using World.cell?_spot (hy 0 (by omega))
  subst hspot;refine⟨b,o,fun i=>if hi:i<len then Classical.choose (hex i hi)else⟨⟨#[]⟩,0,0,0,0,false,⟨#[]⟩,⟨#[]⟩⟩,rfl,fun i hi j hj=>?_⟩;have hc:=Classical.choose_spec (hex i hi) j hj;have ha:(⟨b,o,none⟩:Addr).add (i*8+j)=⟨b,o+i*8+j,none⟩:=by unfold Addr.add;split<;>simp_all<;>omega
  rw[ha]at hc;simp only[dif_pos hi];exact hc
structure gZ (b r:Nat)(w w':bD):Prop where
 os:w'.os=w.os
 tape:w'.tape=w.tape
 output:w'.output=w.output
 size:w.heap.size<=w'.heap.size
 block: ∀k,k<w.heap.size->k≠b->k≠r->w'.heap[k]? =w.heap[k]?
section
variable {b r : Nat} {u v w : bD}
theorem gZ.refl (b r:Nat)(w:bD):gZ b r w w:=⟨rfl,rfl,rfl,aL _,fun _ _ _ _=>rfl⟩
theorem gZ.left (h:gZ b r u v)(k:af b v w):gZ b r u w:=⟨k.os.trans h.os,k.tape.trans h.tape,k.output.trans h.output,aH h.size k.size,fun j hj h1 h2=>(k.block j (aD hj h.size) h1).trans (h.block j hj h1 h2)⟩
theorem gZ.right (h:gZ b r u v)(k:af r v w):gZ b r u w:=⟨k.os.trans h.os,k.tape.trans h.tape,k.output.trans h.output,aH h.size k.size,fun j hj h1 h2=>(k.block j (aD hj h.size) h2).trans (h.block j hj h1 h2)⟩
theorem gZ.drew (h:gZ b r u v):gZ b r u v.drew:=⟨h.os,h.tape,h.output,h.size,h.block⟩
theorem gZ.trans (h:gZ b r u v)(k:gZ b r v w):gZ b r u w:=⟨k.os.trans h.os,k.tape.trans h.tape,k.output.trans h.output,aH h.size k.size,fun j hj h1 h2=>(k.block j (aD hj h.size) h1 h2).trans (h.block j hj h1 h2)⟩
end
theorem bA {w:bD}{ba:Nat}{T:TypeId}{cs:Array Value}(h:w.heap[ba]? =some (.cells cs T (0,0)))(j:Nat)(v:Value)(e:cs[j]? =some v):w.cell? ⟨ba,j,none⟩=some v:=by rw[au h];exact e
def rowOf (L:List Nat):List Value:=L.map fun(x:Nat)=>Value.int .i64 x
theorem JY (L:List Nat)(t x:Nat)(h:L[t]? =some x):(rowOf L)[t]? =some (.int .i64 x):=by simp[rowOf,h]
theorem vG:(Tryz.prog.info? 3).map (fun i=>(i.zero,i.size,i.bytes))=some (some (.int .i64 0),1,8):=by kernel_rfl
theorem fC {w:bD}{base:Nat}{v:Value}{n:Nat}{xs:List Value}(h:w.ownsRow base 3 1 v n xs): ∃a cap,v= .slice a n cap:=by
 rcases h.2 with⟨rfl,rfl⟩|⟨g,cap,_,rfl,_⟩
 ·exact⟨none,0,rfl⟩
 ·exact⟨_,cap,rfl⟩
namespace Wf
def K (i:Nat):Nat:=
 if i<1 then 0 else if i<121 then(if(i-1)%4=0 then 2 else if(i-1)%4=1 then 0 else 1)
 else if i<2101 then(if(i-121)%198<129 then 0 else if(i-121)%198<194 then 1 else if(i-121)%198=194 then 2 else 0)
 else if(i-2101)%2=0 then 2 else 0
def V (k:Nat)(z:Int):Value:=if k=0 then .int .i64 z else if k=1 then .int .u64 z else .bool (decide (z=1))
def up (x:Nat->Int)(i:Nat)(z:Int):Nat->Int:=fun j=>if j=i then z else x j
def iF (f:Nat->Nat)(i v:Nat):Nat->Nat:=fun j=>if j=i then v else f j
theorem j8 (x:Nat->Int)(i:Nat)(z:Int):up x i z i=z:=aJ rfl
theorem bu (x:Nat->Int){i j:Nat}(z:Int)(h:j≠i):up x i z j=x j:=aI h
structure SA (w:bD)(b:Nat)(x:Nat->Int):Prop where
 cv: ∃C,w.heap[b]? =some (.cells C 173 (0,0))/\C.size=2141
 dC: ∀i,i<2141->w.cell? ⟨b,i,none⟩=some (V (K i) (x i))
section
variable {w w' : bD} {b : Nat} {x : Nat -> Int}
theorem SA.lt (h:SA w b x):b<w.heap.size:=by obtain⟨C,e,_⟩:=h.cv;exact(aX.1 e).1
theorem SA.same (h:SA w b x)(e:w'.heap[b]? =w.heap[b]?):SA w' b x:=by
 obtain⟨C,f,g⟩:=h.cv;exact⟨⟨C,e.trans f,g⟩,fun i hi=>(aV e).trans (h.dC i hi)⟩
theorem SA.drewN (h:SA w b x)(n:Nat):SA (w.drewN n) b x:=⟨h.cv,h.dC⟩
theorem SA.drew (h:SA w b x):SA w.drew b x:=⟨h.cv,h.dC⟩
theorem SA.frozen (h:SA w b x)(i:Nat):w.frozen? ⟨b,i,none⟩=false:=by obtain⟨C,f,_⟩:=h.cv;exact bf f i
theorem SA.set (h:SA w b x)(i:Nat)(z:Int)(v:Value)(hi:i<2141)(hv:v=V (K i) z):SA (w.setCell ⟨b,i,none⟩ v) b (up x i z):=by
 obtain⟨C,f,g⟩:=h.cv;refine⟨⟨_,bC f i v,by rw[Array.size_setIfInBounds];exact g⟩,fun j hj=>?_⟩;by_cases e:j=i
 ·subst e;rw[cL f j v (by omega),j8,hv]
 ·rw[cC f i j v (bQ e),bu _ _ e,h.dC j hj]
theorem SA.i (h:SA w b x)(i:Nat)(hi:i<2141/\K i=0):w.cell? ⟨b,i,none⟩=some (.int .i64 (x i)):=by rw[h.dC i hi.1,hi.2];rfl
theorem SA.u (h:SA w b x)(i:Nat)(hi:i<2141/\K i=1):w.cell? ⟨b,i,none⟩=some (.int .u64 (x i)):=by rw[h.dC i hi.1,hi.2];rfl
theorem SA.bo (h:SA w b x)(i:Nat)(hi:i<2141/\K i=2):w.cell? ⟨b,i,none⟩=some (.bool (decide (x i=1))):=by rw[h.dC i hi.1,hi.2];rfl
end
def Dt (o:Nat):Prop:= ∃g,g<10/\o=121+g*198
theorem Dt.k {o:Nat}(h:Dt o)(i:Nat)(hi:i<129):o+i<2141/\K (o+i)=0:=by
 obtain⟨g,hg,rfl⟩:=h;refine⟨by omega,?_⟩;unfold K;rw[aI (by omega),aI (by omega),aJ (by omega),aJ (by omega)]
theorem Dt.key {o:Nat}(h:Dt o)(i:Nat)(hi:i<64):o+129+i<2141/\K (o+129+i)=1:=by
 obtain⟨g,hg,rfl⟩:=h;refine⟨by omega,?_⟩;unfold K;rw[aI (by omega),aI (by omega),aJ (by omega),aI (by omega),aJ (by omega)]
structure Qv (x:Nat->Int)(o m:Nat)(h p:Nat->Nat):Prop where
 m:x o=m
 h: ∀i,i<64->x (o+1+i)=h i
 p: ∀i,i<64->x (o+65+i)=p i
section
variable {x : Nat -> Int} {o m : Nat} {h p : Nat -> Nat}
theorem Qv.sh (q:Qv x o m h p)(i n:Nat)(hi:i<64):Qv (up x (o+1+i) n) o m (iF h i n) p:=
 ⟨(bu _ _ (by omega)).trans q.m,fun j hj=>by have:=q.h j hj;unfold up iF;grind,fun j hj=>(bu _ _ (by omega)).trans (q.p j hj)⟩
theorem Qv.sp (q:Qv x o m h p)(i n:Nat)(hi:i<64):Qv (up x (o+65+i) n) o m h (iF p i n):=
 ⟨(bu _ _ (by omega)).trans q.m,fun j hj=>(bu _ _ (by omega)).trans (q.h j hj),fun j hj=>by have:=q.p j hj;unfold up iF;grind⟩
theorem Qv.sm (q:Qv x o m h p)(n:Nat):Qv (up x o n) o n h p:=
 ⟨j8 _ _ _,fun j hj=>(bu _ _ (by omega)).trans (q.h j hj),fun j hj=>(bu _ _ (by omega)).trans (q.p j hj)⟩
theorem Qv.so (q:Qv x o m h p)(i:Nat)(z:Int)(hi:i<o\/o+129<=i):Qv (up x i z) o m h p:=
 ⟨(bu _ _ (by omega)).trans q.m,fun j hj=>(bu _ _ (by omega)).trans (q.h j hj),fun j hj=>(bu _ _ (by omega)).trans (q.p j hj)⟩
end
structure nT (m:Nat)(h p:Nat->Nat):Prop where
 le:m<=64
 at_: ∀i,i<m->h i<64/\p (h i)=i+1
 AG: ∀j,j<64->p j<=m/\(0<p j->h (p j-1)=j)
def QI (x:Nat->Int)(o:Nat):Prop:= ∃m h p,Qv x o m h p/\nT m h p
section
variable {m : Nat} {h p : Nat -> Nat}
theorem nT.swap (k:nT m h p){a c:Nat}(ha:a<m)(hc:c<m):nT m (iF (iF h a (h c)) c (h a)) (iF (iF p (h c) (a+1)) (h a) (c+1)):=by
 have xa:=k.at_ a ha;have xc:=k.at_ c hc;refine⟨k.le,fun i hi=>?_,fun j hj=>?_⟩
 ·have xi:=k.at_ i hi;unfold iF;grind
 ·have xj:=k.AG j hj;unfold iF;grind
theorem sB: ∀(l t:List Nat),l.Nodup->(∀x∈l,x∈t)->l.length<=t.length
 |[],_,_,_=>aC _
 |a::l,t,h,s=>by
  obtain⟨h1,h2⟩:=List.nodup_cons.1 h;have e:=List.length_erase_of_mem (s a (List.mem_cons_self ..));have:=sB l (t.erase a) h2 (fun x hx=>(List.mem_erase_of_ne (by rintro rfl;exact h1 hx)).2 (s x (List.mem_cons_of_mem _ hx)));have:=List.length_pos_of_mem (s a (List.mem_cons_self ..));simp only[List.length_cons];omega
theorem nT.lt (k:nT m h p){j:Nat}(hj:j<64)(hn:p j=0):m<64:=by
 have hl:((List.range m).map h).Nodup:=by
  rw[List.nodup_iff_pairwise_ne,List.pairwise_map];refine List.Pairwise.imp_of_mem ?_ (List.nodup_iff_pairwise_ne.1 List.nodup_range);intro a b ha hb hab e;have a1:=(k.at_ a (by simpa using ha)).2;have b1:=(k.at_ b (by simpa using hb)).2;rw[e]at a1;omega
 have:=sB _ ((List.range 64).erase j) hl (fun x hx=>by
  obtain⟨a,ha,rfl⟩:=List.mem_map.1 hx;have a1:=k.at_ a (by simpa using ha);exact(List.mem_erase_of_ne (by rintro rfl;omega)).2 (by simpa using a1.1))
 rw[List.length_erase_of_mem (by simpa using hj)]at this;simp at this;omega
theorem nT.put (k:nT m h p){j:Nat}(hj:j<64)(hn:p j=0):nT (m+1) (iF h m j) (iF p j (m+1)):=by
 refine⟨k.lt hj hn,fun i hi=>?_,fun l hl=>?_⟩
 ·have:=k.at_ i;unfold iF;grind
 ·have:=k.AG l hl;unfold iF;grind
theorem nT.gX (k:nT (m+1) h p){j:Nat}(e:h m=j):nT m (iF h m 0) (iF p j 0):=by
 have xm:=k.at_ m (by omega);refine⟨by have:=k.le;omega,fun i hi=>?_,fun l hl=>?_⟩
 ·have:=k.at_ i (by omega);unfold iF;grind
 ·have:=k.AG l hl;unfold iF;grind
theorem nT.QG (k:nT (m+1) h p){j a:Nat}(hj:j<64)(hp:p j=a+1)(e:h m≠j):nT m (iF (iF h m 0) a (h m)) (iF (iF p j 0) (h m) (a+1)):=by
 have xm:=k.at_ m (by omega);have xj:=k.AG j hj;refine⟨by have:=k.le;omega,fun i hi=>?_,fun l hl=>?_⟩
 ·have:=k.at_ i (by omega);unfold iF;grind
 ·have:=k.AG l hl;unfold iF;grind
end
structure Rs (o:Nat)(x x':Nat->Int):Prop where
 out: ∀i,i<=o\/o+129<=i->x' i=x i
 has: ∀j,j<64->(0<x' (o+65+j)↔0<x (o+65+j))
theorem Rs.refl (o:Nat)(x:Nat->Int):Rs o x x:=⟨fun _ _=>rfl,fun _ _=>Iff.rfl⟩
theorem Rs.trans {o:Nat}{x y z:Nat->Int}(h:Rs o x y)(k:Rs o y z):Rs o x z:=⟨fun i hi=>(k.out i hi).trans (h.out i hi),fun j hj=>(k.has j hj).trans (h.has j hj)⟩
theorem bM {f:Nat}{a:Array Value}{w:bD}{E:Ending}{Q:Ending->bD->Prop}(h:Calls Tryz.prog f a w fun e w'=>e=E/\w'=w)(q:Q E w):Calls Tryz.prog f a w Q:=h.mono (by rintro _ _ ⟨rfl,rfl⟩;exact q)
def To (b:Nat)(w:bD)(P:(Nat->Int)->Prop)(w':bD):Prop:= ∃x',SA w' b x'/\af b w w'/\P x'
end Wf
namespace Wf
structure QS (w:bD)(b o:Nat)(x:Nat->Int)(m:Nat)(h p:Nat->Nat):Prop where
 sa:SA w b x
 io:Dt o
 q:Qv x o m h p
 k:nT m h p
section
variable {w w' : bD} {b o m : Nat} {x : Nat -> Int} {h p : Nat -> Nat}
theorem QS.many (s:QS w b o x m h p):w.cell? ⟨b,o,none⟩=some (.int .i64 m):=by rw[<-s.q.m];exact s.sa.i _ (s.io.k 0 (by omega))
theorem QS.heap (s:QS w b o x m h p)(i:Nat)(hi:i<64):w.cell? ⟨b,o+1+i,none⟩=some (.int .i64 (h i)):=by rw[<-s.q.h i hi,Nat.add_assoc];exact s.sa.i _ (s.io.k _ (by omega))
theorem QS.place (s:QS w b o x m h p)(i:Nat)(hi:i<64):w.cell? ⟨b,o+65+i,none⟩=some (.int .i64 (p i)):=by rw[<-s.q.p i hi,Nat.add_assoc];exact s.sa.i _ (s.io.k _ (by omega))
theorem QS.keys (s:QS w b o x m h p)(i:Nat)(hi:i<64):w.cell? ⟨b,o+129+i,none⟩=some (.int .u64 (x (o+129+i))):=s.sa.u _ (s.io.key i hi)
theorem QS.drewN (s:QS w b o x m h p)(n:Nat):QS (w.drewN n) b o x m h p:=⟨s.sa.drewN n,s.io,s.q,s.k⟩
end
def Qt (b o:Nat)(x:Nat->Int)(m:Nat)(w w':bD):Prop:=af b w w'/\ ∃x' h' p',QS w' b o x' m h' p'/\Rs o x x'
theorem Qt.trans {b o m:Nat}{x x':Nat->Int}{u v w:bD}(f:af b u v)(r:Rs o x x')(k:Qt b o x' m v w):Qt b o x m u w:=by
 obtain⟨g,y,h,p,s,t⟩:=k;exact⟨f.trans g,y,h,p,s,r.trans t⟩
section
variable (b o m : Nat) (x : Nat -> Int) (h p : Nat -> Nat) (w : bD)
theorem uq (j:Nat)(hj:j<64):Calls Tryz.prog 297 #[.int .i64 j] w fun e w'=>e= .returned (.bool true)/\w'=w:=by
 have hj':(j:Int)<64:=by omega
 go_in
 go_wp2
 go_ret
 exact⟨rfl,rfl⟩
theorem Df (j:Nat)(s:QS w b o x m h p)(hj:j<64):Calls Tryz.prog 298 #[.pointer (some ⟨b,o,none⟩), .int .i64 j] w fun e w'=>e= .returned (.bool (decide (0<p j)))/\w'=w:=by
 have c:=s.place j hj;have hj':(j:Int)<64:=by omega
 clear s;go_in
 go_wp2
 go_ret
 exact⟨bN (by simp),rfl⟩
theorem tT (a j:Nat)(hs:SA w b x)(io:Dt o)(ha:a<64)(hj:j<64):Calls Tryz.prog 293 #[.pointer (some ⟨b,o,none⟩), .int .i64 a, .int .i64 j] w fun e w'=>e= .returned (.tuple #[])/\SA w' b (up (up x (o+1+a) j) (o+65+j) (a+1:Nat))/\af b w w':=by
 have k1:=io.k (1+a) (by omega);have k2:=io.k (65+j) (by omega);rw[<-Nat.add_assoc]at k1 k2;have c1:=hs.i _ k1;have c2:=hs.i _ k2;have hf:=hs.frozen;have ha':(a:Int)<64:=by omega
 have hj':(j:Int)<64:=by omega
 have H:=hZ (aK hs (aK k1 k2));clear hs k1 k2;go_in
 go_wp2
 go_end0
 exact⟨rfl,(H.out.1.set _ _ _ H.out.2.1.1 (by rw[H.out.2.1.2];rfl)).set _ _ _ H.out.2.2.1 (by rw[H.out.2.2.2];rfl),((af.refl _ _).setCell _ _).setCell _ _⟩
theorem yY (a c:Nat)(s:QS w b o x m h p)(ha:a<m)(hc:c<m):Calls Tryz.prog 318 #[.pointer (some ⟨b,o,none⟩), .int .i64 a, .int .i64 c] w fun e w'=> ∃r n,e= .returned (.bool r)/\w'=w.drewN n:=by
 have le:=s.k.le;have c1:=s.heap a (by omega);have c2:=s.heap c (by omega);have h1:=(s.k.at_ a ha).1;have h2:=(s.k.at_ c hc).1;have c3:=s.keys _ h1;have c4:=s.keys _ h2;generalize h a=X at*;generalize h c=Y at*;generalize x (o+129+X)=kx at*;generalize x (o+129+Y)=ky at*;have l1:(a:Int)<64:=by omega
 have l2:(c:Int)<64:=by omega
 have l3:(X:Int)<64:=by omega
 have l4:(Y:Int)<64:=by omega
 clear s;obtain⟨t1,d1⟩: ∃t,decide (kx<ky)=t:=⟨_,rfl⟩;obtain⟨t2,d2⟩: ∃t,(kx==ky)=t:=⟨_,rfl⟩;cases t1<;>cases t2<;>
 ·go_in
  go_wp2
  go_quiet (fail)
  go_wp2
  go_quiet (fail)
  go_wp2
  go_ret
  exact⟨_,_,rfl,World.drewN_drewN _ _ _⟩
theorem Bq (a c:Nat)(s:QS w b o x m h p)(ha:a<m)(hc:c<m):Calls Tryz.prog 319 #[.pointer (some ⟨b,o,none⟩), .int .i64 a, .int .i64 c] w fun e w'=>e= .returned (.tuple #[])/\Qt b o x m w w':=by
 have le:=s.k.le;have c1:=s.heap a (by omega);have c2:=s.heap c (by omega);have HX:=hZ (s.k.at_ a ha);have HY:=hZ (s.k.at_ c hc);have l1:(a:Int)<64:=by omega
 have l2:(c:Int)<64:=by omega
 have H:=hZ s;clear s;go_in
 go_wp2
 go_quiet (fail)
 go_wp2_with fail
 refine(tT b o x _ a (h c) (H.out.sa.drewN _) H.out.io (by omega) HY.out.1).mono ?_;rintro e w1 ⟨rfl,h1,f1⟩;have H1:=hZ (aK h1 f1);clear h1 f1;go_wp2_with fail
 refine(tT b o _ _ c (h a) H1.out.1 H.out.io (by omega) HX.out.1).mono ?_;rintro e w2 ⟨rfl,h2,f2⟩;have FIN:Hid (Qt b o x m w w2):=hZ ⟨(((af.refl _ _).drewN _).trans H1.out.2).trans f2,_,_,_,⟨h2,H.out.io,(((H.out.q.sh a _ (by omega)).sp _ _ HY.out.1).sh c _ (by omega)).sp _ _ HX.out.1,H.out.k.swap ha hc⟩,fun i hi=>by
  have:=HX.out.1;have:=HY.out.1;rw[bu _ _ (by omega),bu _ _ (by omega),bu _ _ (by omega),bu _ _ (by omega)],fun j hj=>by
  have q1:=(((H.out.q.sh a (h c) (by omega)).sp _ (a+1) HY.out.1).sh c (h a) (by omega)).sp _ (c+1) HX.out.1;rw[q1.p j hj,H.out.q.p j hj];have:=HX.out;have:=HY.out;unfold iF;grind⟩
 clear h2 f2;go_wp2_with fail
 go_end0
 exact⟨rfl,FIN.out⟩
theorem AZ (a:Nat)(s:QS w b o x m h p)(ha:a<m):Calls Tryz.prog 294 #[.pointer (some ⟨b,o,none⟩), .int .i64 a] w fun e w'=>e= .returned (.tuple #[])/\Qt b o x m w w':=by
 have le:=s.k.le;go_in
 go_wp2
 go_loopw [1] (fun i wr=> ∃y:Nat,i= .int .i64 y/\y<m/\Hid (Qt b o x m w wr)) (fun i _=>(intOf i).toNat)
 case atStart=>exact⟨a,rfl,ha,af.refl _ _,x,h,p,s,Rs.refl _ _⟩
 case round=>
  clear s;obtain⟨y,rfl,hy,H⟩:=hrel;by_cases h0:y=0
  ·subst h0;go_wp2
   go_end0
   exact⟨rfl,H.out⟩
  ·obtain⟨f,x',h',p',s,r⟩:=H.out;have S:=hZ (aK s (aK f r));have hp0:(0:Int)<(y:Int):=by omega
   have E:Hid (((y:Int)-1)/2=(((y-1)/2:Nat):Int)):=hZ (by omega);have hu:(y-1)/2<m:=by omega
   have AH:=hZ (yY b o m x' h' p' wr y ((y-1)/2) s hy hu);rw[<-E.out]at AH;clear s f r;go_wp2_with fail
   refine AH.out.mono ?_;rintro e w1 ⟨r,n,rfl,rfl⟩;cases r
   ·go_wp2_with fail
    refine bodyPost_ret (results_none rfl _ _ _) rfl ?_;exact⟨rfl,Qt.trans (S.out.2.1.drewN n) S.out.2.2 ⟨af.refl _ _,x',h',p',S.out.1.drewN n,Rs.refl _ _⟩⟩
   ·have SW:=hZ (Bq b o m x' h' p' (wr.drewN n) y ((y-1)/2) (S.out.1.drewN n) hy hu);rw[<-E.out]at SW;go_wp2_with fail
    refine SW.out.mono ?_;rintro e w2 ⟨rfl,q⟩;have Q:=hZ (Qt.trans (S.out.2.1.drewN n) S.out.2.2 q);clear q;go_wp2
    go_roundw
    case rel=>exact⟨(y-1)/2,by rw[E.out],hu,Q⟩
    case measure=>simp[intOf];omega
theorem I4 (a:Nat)(s:QS w b o x m h p)(ha:a<m):Calls Tryz.prog 295 #[.pointer (some ⟨b,o,none⟩), .int .i64 a] w fun e w'=>e= .returned (.tuple #[])/\Qt b o x m w w':=by
 have le:=s.k.le;go_in
 go_wp2
 go_loopw [1] (fun i wr=> ∃y:Nat,i= .int .i64 y/\y<m/\Hid (Qt b o x m w wr)) (fun i _=>64-(intOf i).toNat)
 case atStart=>exact⟨a,rfl,ha,af.refl _ _,x,h,p,s,Rs.refl _ _⟩
 case round=>
  clear s;obtain⟨y,rfl,hy,H⟩:=hrel;obtain⟨f,x',h',p',s,r⟩:=H.out;have S:=hZ (aK s (aK f r));clear s f r;go_wp2_with fail
  go_loopw [4,5] (fun l c wq=> ∃(ln cn n:Nat),l= .int .i64 ln/\c= .int .i64 cn/\ln<m/\y<=ln/\2*y+1<=cn/\cn<=2*y+3/\wq=wr.drewN n) (fun _ c _=>2*y+3-(intOf c).toNat)
  case atStart=>exact⟨y,2*y+1,0,rfl,by go_num,hy,by omega,by omega,by omega,rfl⟩
  case round=>
   obtain⟨l,c,n,rfl,rfl,hl,hl2,hc1,hc2,rfl⟩:=hrel;have cm:=(S.out.1.drewN n).many;have END:Hid (Qt b o x m w (wr.drewN n)):=hZ (Qt.trans (S.out.2.1.drewN n) S.out.2.2 ⟨af.refl _ _,x',h',p',S.out.1.drewN n,Rs.refl _ _⟩);by_cases k1:c<=2*y+2/\c<m
   ·have d1:decide ((c:Int)<=2*(y:Int)+2)=true:=by simp;omega
    have k2':(c:Int)<(m:Int):=by omega
    have AH:=hZ (yY b o m x' h' p' (wr.drewN n) c l (S.out.1.drewN n) k1.2 hl);go_wp2_with fail
    refine AH.out.mono ?_;rintro e w1 ⟨r,n1,rfl,rfl⟩;cases r
    ·go_wp2
     go_roundw
     case rel=>exact⟨l,c+1,n+n1,rfl,by go_num,hl,hl2,by omega,by omega,by first|rfl|exact World.drewN_drewN _ _ _⟩
     case measure=>simp[intOf];omega
    ·go_wp2
     go_roundw
     case rel=>exact⟨c,c+1,n+n1,rfl,by go_num,k1.2,by omega,by omega,by omega,by first|rfl|exact World.drewN_drewN _ _ _⟩
     case measure=>simp[intOf];omega
   ·have SW:=hZ (Bq b o m x' h' p' (wr.drewN n) y l (S.out.1.drewN n) hy hl);by_cases k3:l=y
    ·subst k3;by_cases k4:c<=2*l+2
     ·have d1:decide ((c:Int)<=2*(l:Int)+2)=true:=by simp;omega
      have k2': ¬(c:Int)<(m:Int):=by omega
      go_wp2_with fail
      refine bodyPost_ret (results_none rfl _ _ _) rfl ?_;exact⟨rfl,END.out⟩
     ·have d1:decide ((c:Int)<=2*(l:Int)+2)=false:=by simp;omega
      go_wp2_with fail
      refine bodyPost_ret (results_none rfl _ _ _) rfl ?_;exact⟨rfl,END.out⟩
    ·have k3':((l:Int)==(y:Int))=false:=by simp;omega
     by_cases k4:c<=2*y+2
     case' pos=>
      have d1:decide ((c:Int)<=2*(y:Int)+2)=true:=by simp;omega
      have k2': ¬(c:Int)<(m:Int):=by omega
     case' neg=>have d1:decide ((c:Int)<=2*(y:Int)+2)=false:=by simp;omega
     all_goals
      go_wp2_with fail
      refine SW.out.mono ?_;rintro e w2 ⟨rfl,q⟩;have Q:=hZ (Qt.trans (S.out.2.1.drewN n) S.out.2.2 q);clear q;go_wp2
      go_roundw
      case rel=>exact⟨l,rfl,hl,Q⟩
      case measure=>simp[intOf];omega
end
end Wf
namespace Wf
def Qc (b o:Nat)(x:Nat->Int)(w w':bD)(P:Nat->Prop):Prop:=af b w w'/\ ∃x' m h p,QS w' b o x' m h p/\(∀i,i<o\/o+193<=i->x' i=x i)/\ ∀i,i<64->(0<x' (o+65+i)↔P i)
theorem Qc.of {b o m:Nat}{x y:Nat->Int}{w u v:bD}{P:Nat->Prop}(f:af b w u)(k:Qt b o y m u v)(e: ∀i,i<o\/o+193<=i->y i=x i)(hp: ∀i,i<64->(0<y (o+65+i)↔P i)):Qc b o x w v P:=by
 obtain⟨g,z,h,p,s,r⟩:=k;exact⟨f.trans g,z,m,h,p,s,fun i hi=>(r.out i (by omega)).trans (e i hi),fun i hi=>(r.has i hi).trans (hp i hi)⟩
section
variable (b o m : Nat) (x : Nat -> Int) (h p : Nat -> Nat) (w : bD)
theorem xt (j:Nat)(s:QS w b o x m h p)(hj:j<64):Calls Tryz.prog 274 #[.pointer (some ⟨b,o,none⟩), .int .i64 j] w fun e w'=> ∃k E,e= .returned (.tuple #[.int .u64 k,aq E])/\(E=0↔0<p j)/\w'=w:=by
 have BD:=hZ (uq w j hj);have HS:=hZ (Df b o m x h p w j s hj);have ck:=s.keys j hj;have hjI:(j:Int)<64:=by omega
 clear s;generalize x (o+129+j)=kx at*;obtain⟨t,ht⟩:=nJ (decide (0<p j));have T:=hZ ht;rw[ht]at HS;clear ht;cases t
 ·go_in
  go_wp2_with fail
  refine bM BD.out ?_;go_wp2_with fail
  refine bM HS.out ?_;go_wp2
  go_ret2
  exact⟨0,2,rfl,by have:=T.out;simp at this;omega,rfl⟩
 ·go_in
  go_wp2_with fail
  refine bM BD.out ?_;go_wp2_with fail
  refine bM HS.out ?_;go_wp2
  go_ret2
  exact⟨kx,0,rfl,by have:=T.out;simp at this;omega,rfl⟩
theorem M9 (s:QS w b o x m h p):Calls Tryz.prog 299 #[.pointer (some ⟨b,o,none⟩)] w fun e w'=>e= .returned (.int .i64 m)/\w'=w:=by
 have cm:=s.many;clear s;go_in
 go_wp2
 go_ret
 exact⟨rfl,rfl⟩
theorem pG (s:QS w b o x m h p):Calls Tryz.prog 234 #[.pointer (some ⟨b,o,none⟩)] w fun e w'=> ∃(j:Nat) (k:Int) (n:Nat),e= .returned (.tuple #[.int .i64 j, .int .u64 k, .bool (decide (0<m))])/\w'=w.drewN n/\(0<m->j<64/\0<p j):=by
 have cm:=s.many;by_cases h0:m=0
 ·subst h0;clear s;go_in
  go_wp2
  go_ret3
  exact⟨0,0,0,rfl,rfl,by omega⟩
 ·have a0:=s.k.at_ 0 (by omega);have A0:=hZ a0;have ch:=s.heap 0 (by omega);have ck:=s.keys _ a0.1;have hne:((m:Int)==0)=false:=by simp;omega
  have M0:Hid (decide (0<m)=true):=hZ (by simp;omega);generalize h 0=J at*;have hJI:(J:Int)<64:=by omega
  generalize x (o+129+J)=kx at*;clear s a0 h0;go_in
  go_wp2
  go_quiet (fail)
  go_wp2
  go_ret3
  exact⟨J,kx,_,by rw[M0.out];rfl,rfl,fun _=>⟨A0.out.1,by have:=A0.out.2;omega⟩⟩
theorem M7 (j:Nat)(k:Int)(s:QS w b o x m h p)(hj:j<64)(hp:p j=0):Calls Tryz.prog 276 #[.pointer (some ⟨b,o,none⟩), .int .i64 j, .int .u64 k] w fun e w'=>e= .returned .nilIface/\Qc b o x w w' (fun i=>0<x (o+65+i)\/i=j):=by
 have BD:=hZ (uq w j hj);have HS:=hZ (Df b o m x h p w j s hj);rw[show decide (0<p j)=false by simp;omega]at HS;have hm:=s.k.lt hj hp;have ck:=s.keys j hj;have cf:=s.sa.frozen;have cm:=s.many;have hjI:(j:Int)<64:=by omega
 have S:=hZ (aK s hp);clear s hp;go_in
 go_wp2_with fail
 refine bM BD.out ?_;go_wp2_with fail
 refine bM HS.out ?_;go_wp2_with fail
 have k1:=S.out.1.io.key j hj;refine(tT b o _ _ m j (S.out.1.sa.set _ k _ k1.1 (by rw[k1.2];rfl)) S.out.1.io hm hj).mono ?_;rintro e w1 ⟨rfl,h1,f1⟩;have q1:=((S.out.1.q.so (o+129+j) k (by omega)).sh m j hm).sp j (m+1) hj;have cm1:w1.cell? ⟨b,o,none⟩=some (.int .i64 m):=by rw[<-q1.m];exact h1.i _ (S.out.1.io.k 0 (by omega))
 have cf1:=h1.frozen;have S1:=hZ (aK h1 (aK (((af.refl b w).setCell _ _).trans f1) q1));clear h1 f1 q1 ck cf cm k1;go_wp2_with fail
 have k0:=S.out.1.io.k 0 (by omega);have q2:=S1.out.2.2.sm (m+1);have s2:=S1.out.1.set o ((m+1:Nat):Int) (.int .i64 ((m:Int)+1)) k0.1 (by rw[show K o=0 from k0.2];rfl);refine(AZ b o (m+1) _ _ _ _ m ⟨s2,S.out.1.io,q2,S.out.1.k.put hj S.out.2⟩ (by omega)).mono ?_;rintro e w2 ⟨rfl,q⟩;have FIN:Hid (Qc b o x w w2 (fun i=>0<x (o+65+i)\/i=j)):=hZ (Qc.of (S1.out.2.1.setCell _ _) q (fun i hi=>by rw[bu _ _ (by omega),bu _ _ (by omega),bu _ _ (by omega),bu _ _ (by omega)]) (fun i hi=>by
  rw[q2.p i hi,S.out.1.q.p i hi];unfold iF;grind))
 clear q s2 q2 k0;go_wp2
 go_ret
 exact⟨rfl,FIN.out⟩
theorem C8 (j:Nat)(s:QS w b o x m h p)(hj:j<64)(hp:0<p j):Calls Tryz.prog 272 #[.pointer (some ⟨b,o,none⟩), .int .i64 j] w fun e w'=> ∃k,e= .returned (.tuple #[.int .u64 k, .nilIface])/\Qc b o x w w' (fun i=>0<x (o+65+i)/\i≠j):=by
 have oj:=s.k.AG j hj;have le:=s.k.le;obtain⟨m,rfl⟩: ∃n,m=n+1:=⟨m-1,by omega⟩;obtain⟨a,ha⟩: ∃a,p j=a+1:=⟨p j-1,by omega⟩;obtain⟨t,ht⟩:=nJ (h m);have tm:=s.k.at_ m (by omega);rw[ht]at tm;have cm:=s.many;have cp:=s.place j hj;have cf:=s.sa.frozen;rw[ha]at cp oj;have KE:=hZ (xt b o (m+1) x h p w j s hj);have S:=hZ (aK s (aK ha (aK ht (aK tm oj))));have am:a<=m:=by omega
 have t64:t<64:=tm.1;have hjI:(j:Int)<64:=by omega
 have hmI:(m:Int)<64:=by omega
 have Iqq:=hZ s.io;clear s hp ha ht tm oj;go_in
 go_wp2_with fail
 refine KE.out.mono ?_;rintro e w1 ⟨k,E,rfl,hE,rfl⟩;obtain rfl:E=0:=hE.2 (by rw[S.out.2.1];omega);rw[aa];clear hE KE;go_wp2_with fail
 have k0:=Iqq.out.k 0 (by omega);refine bw (fun W=>SA W b (up x o m)/\af b w1 W) ⟨S.out.1.sa.set o m _ k0.1 (by rw[show K o=0 from k0.2];rfl),(af.refl _ _).setCell _ _⟩ ?_;rintro W ⟨hA,hO⟩;have Q0:Hid (Qv (up x o m) o m h p):=hZ (S.out.1.q.sm m);have am':W.cell? ⟨b,o,none⟩=some (.int .i64 m):=by rw[<-Q0.out.m];exact hA.i _ k0
 have ah':W.cell? ⟨b,o+1+m,none⟩=some (.int .i64 t):=by rw[<-S.out.2.2.1,<-Q0.out.h m (by omega),Nat.add_assoc];exact hA.i _ (Iqq.out.k _ (by omega))
 have A:=hZ (aK hA hO);clear hA hO cm cp cf k0;go_quiet (fail)
 go_wp2_with fail
 refine bw (fun W2=>SA W2 b (up x o m)/\af b w1 W2) ⟨A.out.1.drewN nq,A.out.2.drewN nq⟩ ?_;clear ah' am' A;rintro W2 ⟨hA,hO⟩;have k1:=Iqq.out.k (1+m) (by omega);have k2:=Iqq.out.k (65+j) (by omega);have k3:=Iqq.out.key j hj;rw[<-Nat.add_assoc]at k1 k2;have cm:W2.cell? ⟨b,o,none⟩=some (.int .i64 m):=by rw[<-Q0.out.m];exact hA.i _ (Iqq.out.k 0 (by omega))
 have c1:=hA.i _ k1;have c2:=hA.i _ k2;have c3:=hA.u _ k3;have cf:=hA.frozen;have A:Hid (SA ((((W2.setCell ⟨b,o+1+m,none⟩ (.int .i64 0)).setCell ⟨b,o+65+j,none⟩ (.int .i64 0)).setCell ⟨b,o+129+j,none⟩ (.int .u64 0)).drew) b (up (up (up (up x o m) (o+1+m) (0:Nat)) (o+65+j) (0:Nat)) (o+129+j) 0)/\af b w1 ((((W2.setCell ⟨b,o+1+m,none⟩ (.int .i64 0)).setCell ⟨b,o+65+j,none⟩ (.int .i64 0)).setCell ⟨b,o+129+j,none⟩ (.int .u64 0)).drew)/\Qv (up (up (up (up x o m) (o+1+m) (0:Nat)) (o+65+j) (0:Nat)) (o+129+j) 0) o m (iF h m 0) (iF p j 0)):=
  hZ ⟨(((hA.set _ _ _ k1.1 (by rw[k1.2];rfl)).set _ _ _ k2.1 (by rw[k2.2];rfl)).set _ _ _ k3.1 (by rw[k3.2];rfl)).drew,(((hO.setCell _ _).setCell _ _).setCell _ _).drew,((Q0.out.sh m 0 (by omega)).sp j 0 hj).so _ _ (by omega)⟩
 clear hA hO k1 k2 k3;by_cases e:t=j
 ·have kb:((t:Int) !=(j:Int))=false:=by simp;omega
  go_region
  go_wp2
  go_ret2
  refine⟨_,rfl,A.out.2.1,_,m,_,_,⟨A.out.1,Iqq.out,A.out.2.2,S.out.1.k.gX (S.out.2.2.1.trans e)⟩,fun i hi=>by rw[bu _ _ (by omega),bu _ _ (by omega),bu _ _ (by omega),bu _ _ (by omega)],fun i hi=>?_⟩;show _↔0<x (o+65+i)/\i≠j;rw[A.out.2.2.p i hi,S.out.1.q.p i hi];unfold iF;grind
 ·have kb:((t:Int) !=(j:Int))=true:=by rw[bne_iff_ne];omega
  go_region
  go_wp2_with fail
  refine(tT b o _ _ a t A.out.1 Iqq.out (by omega) t64).mono ?_;rintro e2 w2 ⟨rfl,h2,f2⟩;have q2:=(A.out.2.2.sh a t (by omega)).sp t (a+1) t64;have kk:=S.out.1.k.QG hj S.out.2.1 (by rw[S.out.2.2.1];exact e);rw[S.out.2.2.1]at kk;have am2:a<m:=by
   refine Nat.lt_of_le_of_ne am (fun q=>e ?_);have:=S.out.2.2.2.2.2 (by omega);rw[<-S.out.2.2.1,<-q];simpa using this
  have S2:=hZ (aK (A.out.2.1.trans f2) (aK q2 (QS.mk h2 Iqq.out q2 kk)));have RI:=hZ (AZ b o m _ _ _ _ a S2.out.2.2 am2);clear h2 f2 q2 kk c1 c2 c3 cf cm;go_wp2_with fail
  refine RI.out.mono ?_;rintro e3 w3 ⟨rfl,f3,x3,h3,p3,s3,r3⟩;have SI:=hZ (I4 b o m _ _ _ _ a s3 am2);have S3:=hZ (aK f3 r3);clear f3 s3 r3 RI;go_wp2_with fail
  refine SI.out.mono ?_;rintro e4 w4 ⟨rfl,q4⟩;have FIN:Hid (Qc b o x w1 w4 (fun i=>0<x (o+65+i)/\i≠j)):=hZ (Qc.of S2.out.1 (Qt.trans S3.out.1 S3.out.2 q4) (fun i hi=>by rw[bu _ _ (by omega),bu _ _ (by omega),bu _ _ (by omega),bu _ _ (by omega),bu _ _ (by omega),bu _ _ (by omega)]) (fun i hi=>by
   show _↔0<x (o+65+i)/\i≠j;rw[S2.out.2.1.p i hi,S.out.1.q.p i hi];have:=S.out.2.2.2.1;unfold iF;grind))
  clear q4 SI;go_wp2
  go_ret2
  exact⟨_,rfl,FIN.out⟩
end
end Wf
namespace Wf
theorem wB {u:Nat}(hu:u<30):1+u*4<2141/\K (1+u*4)=2:=⟨by omega,by unfold K;rw[aI (by omega),aJ (by omega),aJ (by omega)]⟩
theorem qP {u:Nat}(hu:u<30):1+u*4+1<2141/\K (1+u*4+1)=0:=⟨by omega,by unfold K;rw[aI (by omega),aJ (by omega),aI (by omega),aJ (by omega)]⟩
theorem kS {u:Nat}(hu:u<30)(f:Nat)(hf:f=2\/f=3):1+u*4+f<2141/\K (1+u*4+f)=1:=⟨by omega,by unfold K;rw[aI (by omega),aJ (by omega),aI (by omega),aI (by omega)]⟩
theorem CM {g:Nat}(hg:g<10):121+g*198+193<2141/\K (121+g*198+193)=1:=⟨by omega,by unfold K;rw[aI (by omega),aI (by omega),aJ (by omega),aI (by omega),aJ (by omega)]⟩
theorem JI {g:Nat}(hg:g<10):121+g*198+194<2141/\K (121+g*198+194)=2:=⟨by omega,by unfold K;rw[aI (by omega),aI (by omega),aJ (by omega),aI (by omega),aI (by omega),aJ (by omega)]⟩
theorem rB {g:Nat}(hg:g<10)(f:Nat)(hf:195<=f/\f<198):121+g*198+f<2141/\K (121+g*198+f)=0:=⟨by omega,by unfold K;rw[aI (by omega),aI (by omega),aJ (by omega),aI (by omega),aI (by omega),aI (by omega)]⟩
theorem tf {n:Nat}(hn:n<20):2101+n*2<2141/\K (2101+n*2)=2:=⟨by omega,by unfold K;rw[aI (by omega),aI (by omega),aI (by omega),aJ (by omega)]⟩
theorem Fs {n:Nat}(hn:n<20):2101+n*2+1<2141/\K (2101+n*2+1)=0:=⟨by omega,by unfold K;rw[aI (by omega),aI (by omega),aI (by omega),aI (by omega)]⟩
structure Iv (d:Nat->Nat)(e:Nat)(x:Nat->Int):Prop where
 q: ∀g,g<10->QI x (121+g*198)
 rt:x 1=1
 par: ∀u,u<30->u≠0->x (1+u*4)=1-> ∃g:Nat,g<10/\x (1+u*4+1)=g/\x (1+g*4)=1/\d g<d u/\0<x (1+u*4+2)
 mem: ∀g j,g<10->j<64->0<x (121+g*198+65+j)->j<30/\j≠0/\x (1+j*4)=1/\x (1+j*4+1)=g
 ne: ∀g u,g<10->u<10->u≠e->0<x (121+g*198+65+u)->0<x (121+u*198)
 pe: ∀g,g<10->0<x (121+g*198+195)->0<x (121+g*198+196)/\x (1+g*4)=1
def Ch (g u:Nat)(x x':Nat->Int):Prop:= ∀i,i<121+g*198\/121+g*198+194<=i->i≠1+u*4+3->i≠121+u*198+197->x' i=x i
theorem QI.same {x x':Nat->Int}{o:Nat}(h:QI x o)(e: ∀i,o<=i->i<o+129->x' i=x i):QI x' o:=by
 obtain⟨m,hp,pp,q,k⟩:=h;exact⟨m,hp,pp,⟨(e _ (by omega) (by omega)).trans q.m,fun i hi=>(e _ (by omega) (by omega)).trans (q.h i hi),fun i hi=>(e _ (by omega) (by omega)).trans (q.p i hi)⟩,k⟩
theorem QI.pos {x:Nat->Int}{o j:Nat}(h:QI x o)(hj:j<64)(p:0<x (o+65+j)):0<x o:=by
 obtain⟨m,hp,pp,q,k⟩:=h;rw[q.p j hj]at p;rw[q.m];have:=(k.AG j hj).1;omega
theorem Iv.jE {d:Nat->Nat}{e u g:Nat}{x x':Nat->Int}(h:Iv d e x)(he:e=u\/e=g)(c:Ch g u x x')(q:QI x' (121+g*198))(hg:g<10)(hu:u<30)(u0:u≠0)(hh:x (1+u*4)=1)(hi:x (1+u*4+1)=g)
  (ot: ∀j,j<64->j≠u->(0<x' (121+g*198+65+j)↔0<x (121+g*198+65+j))) (me:u<10->0<x' (121+g*198+65+u)->0<x (121+u*198)):Iv d g x':=by
 have e1: ∀v f,f<3->x' (1+v*4+f)=x (1+v*4+f)\/30<=v:=fun v f hf=>by
  by_cases hv:v<30
  ·exact .inl (c _ (by omega) (by omega) (by omega))
  ·exact .inr (by omega)
 have e0: ∀v,v<30->x' (1+v*4)=x (1+v*4)/\x' (1+v*4+1)=x (1+v*4+1)/\x' (1+v*4+2)=x (1+v*4+2):=fun v hv=>
  ⟨(e1 v 0 (by omega)).resolve_right (by omega),(e1 v 1 (by omega)).resolve_right (by omega),(e1 v 2 (by omega)).resolve_right (by omega)⟩
 refine⟨fun k hk=>?_,(e0 0 (by omega)).1.trans h.rt,fun v hv v0 hv1=>?_,fun k j hk hj p=>?_,fun k v hk hv hne p=>?_,fun k hk p=>?_⟩
 ·by_cases ek:k=g
  ·rw[ek];exact q
  ·exact(h.q k hk).same fun i h1 h2=>c i (by omega) (by omega) (by omega)
 ·rw[(e0 v hv).1]at hv1;obtain⟨k,k1,k2,k3,k4,k5⟩:=h.par v hv v0 hv1;exact⟨k,k1,by rw[(e0 v hv).2.1];exact k2,by rw[(e0 k (by omega)).1];exact k3,k4,by rw[(e0 v hv).2.2];exact k5⟩
 ·have old:0<x (121+k*198+65+j)->j<30/\j≠0/\x' (1+j*4)=1/\x' (1+j*4+1)=k:=fun p=>by
   obtain⟨m1,m2,m3,m4⟩:=h.mem k j hk hj p;exact⟨m1,m2,by rw[(e0 j m1).1];exact m3,by rw[(e0 j m1).2.1];exact m4⟩
  by_cases ek:k=g
  ·subst ek;by_cases ej:j=u
   ·subst ej;exact⟨hu,u0,by rw[(e0 j hu).1];exact hh,by rw[(e0 j hu).2.1];exact hi⟩
   ·exact old ((ot j hj ej).1 p)
  ·exact old (by rw[<-c _ (by omega) (by omega) (by omega)];exact p)
 ·rw[c (121+v*198) (by omega) (by omega) (by omega)];by_cases ek:k=g
  ·subst ek;by_cases ev:v=u
   ·subst ev;exact me hv p
   ·exact h.ne k v hk hv (by omega) ((ot v (by omega) ev).1 p)
  ·rw[c _ (by omega) (by omega) (by omega)]at p;refine h.ne k v hk hv (fun ev=>ek ?_) p;obtain rfl:v=u:=by omega
   have:=(h.mem k v hk (by omega) p).2.2.2;omega
 ·rw[c _ (by omega) (by omega) (by omega)]at p;rw[c _ (by omega) (by omega) (by omega),(e0 k (by omega)).1];exact h.pe k hk p
def Kc (i:Nat):Prop:=0<i/\i<121/\(i-1)%4≠3\/121<=i/\i<2101/\((i-121)%198<129\/(i-121)%198=195\/(i-121)%198=196)
theorem Iv.iC {d:Nat->Nat}{e:Nat}{x x':Nat->Int}(h:Iv d e x)(c: ∀i,Kc i->x' i=x i):Iv d e x':=by
 have a: ∀v f,v<30->f<3->x' (1+v*4+f)=x (1+v*4+f):=fun v f hv hf=>c _ (by unfold Kc;omega);have q: ∀g f,g<10->f<129\/f=195\/f=196->x' (121+g*198+f)=x (121+g*198+f):=fun g f hg hf=>c _ (.inr ⟨by omega,by omega,by omega⟩);have q65: ∀g j,g<10->j<64->x' (121+g*198+65+j)=x (121+g*198+65+j):=fun g j hg hj=>by rw[Nat.add_assoc];exact q g _ hg (by omega)
 refine⟨fun k hk=>(h.q k hk).same fun i h1 h2=>?_,(a 0 0 (by omega) (by omega)).trans h.rt,fun v hv v0 hv1=>?_,fun k j hk hj p=>?_,fun k v hk hv hne p=>?_,fun k hk p=>?_⟩
 ·obtain⟨f,rfl⟩: ∃f,i=121+k*198+f:=⟨i-(121+k*198),by omega⟩;exact q k f hk (by omega)
 ·obtain⟨k,k1,k2,k3,k4,k5⟩:=h.par v hv v0 ((a v 0 hv (by omega)).symm.trans hv1);exact⟨k,k1,(a v 1 hv (by omega)).trans k2,(a k 0 (by omega) (by omega)).trans k3,k4,by rw[a v 2 hv (by omega)];exact k5⟩
 ·obtain⟨m1,m2,m3,m4⟩:=h.mem k j hk hj (by rw[<-q65 k j hk hj];exact p);exact⟨m1,m2,(a j 0 m1 (by omega)).trans m3,(a j 1 m1 (by omega)).trans m4⟩
 ·have:=q v 0 hv (by omega);rw[Nat.add_zero]at this;rw[this];exact h.ne k v hk hv hne (by rw[<-q65 k v hk (by omega)];exact p)
 ·rw[q k 196 hk (by omega),show x' (1+k*4)=x (1+k*4)from a k 0 (by omega) (by omega)];exact h.pe k hk (by rw[<-q k 195 hk (by omega)];exact p)
theorem Iv.any {d:Nat->Nat}{x:Nat->Int}(h:Iv d 0 x)(e:Nat):Iv d e x:=⟨h.q,h.rt,h.par,h.mem,fun g u hg hu _ p=>h.ne g u hg hu (h.mem g u hg (by omega) p).2.1 p,h.pe⟩
def s9 (x:Nat->Int)(u:Nat):Bool:=if 10<=u then decide (x (2101+(u-10)*2)=1)else decide (0<x (121+u*198))&&(!decide (x (121+u*198+194)=1)&&(decide (x (121+u*198+195)=0)||decide (x (121+u*198+197)<x (121+u*198+195))))
theorem MV {x:Nat->Int}{u:Nat}(hu:u<10)(h:s9 x u=true):0<x (121+u*198):=by
 unfold s9 at h;rw[aI (by omega)]at h;simp at h;exact h.1
section
variable (b : Nat) (d : Nat -> Nat) (x : Nat -> Int) (w : bD)
theorem IQ (u:Nat)(h:SA w b x)(q: ∀g,g<10->QI x (121+g*198))(hu:u<30):Calls Tryz.prog 275 #[.pointer (some ⟨b,0,none⟩), .int .i64 u] w fun e w'=>e= .returned (.bool (s9 x u))/\ ∃n,w'=w.drewN n:=by
 by_cases k:10<=u
 ·obtain⟨n,rfl⟩: ∃n,u=10+n:=⟨u-10,by omega⟩;have c:=h.bo _ (tf (n:=n) (by omega));have k':(10:Int)<=((10+n:Nat):Int):=by omega
  have e:Hid (s9 x (10+n)=decide (x (2101+n*2)=1)):=hZ (by unfold s9;rw[aJ (by omega),show 10+n-10=n by omega]);clear h q;go_in
  go_wp2
  go_ret
  exact⟨bN e.out.symm,0,rfl⟩
 ·have hu':u<10:=by omega
  obtain⟨m,hp,pp,q1,q2⟩:=q u hu';have LE:=hZ (fun n=>M9 b (121+u*198) m x hp pp (w.drewN n) ⟨h.drewN n,⟨u,hu',rfl⟩,q1,q2⟩);have c1:=h.bo _ (JI hu');have c2:=h.i _ (rB hu' 195 (by omega));have c3:=h.i _ (rB hu' 197 (by omega));have k': ¬(10:Int)<=(u:Int):=by omega
  have hgI:(u:Int)<10:=by omega
  have e:Hid (s9 x u=(decide (0<m)&&(!decide (x (121+u*198+194)=1)&&(decide (x (121+u*198+195)=0)||decide (x (121+u*198+197)<x (121+u*198+195)))))):=hZ (by unfold s9;rw[aI k,q1.m];simp);clear h q q1 q2;generalize x (121+u*198+194)=fz at*;generalize x (121+u*198+195)=qu at*;generalize x (121+u*198+197)=us at*;obtain⟨t1,d1⟩: ∃t,decide (0<m)=t:=⟨_,rfl⟩;obtain⟨t2,d2⟩: ∃t,decide (fz=1)=t:=⟨_,rfl⟩;rw[d1,d2]at e;rw[d2]at c1;clear d2;by_cases d3:qu=0
  case' pos=>subst d3
  case' neg=>have d4:(qu==0)=false:=by simpa using d3
  all_goals
   cases t1<;>cases t2<;>
   ·go_in
    go_wp2
    go_quiet ((go_at_call 299;exact Calls.quiet_of_same (LE.out _)))
    go_wp2
    go_ret
    exact⟨bN (by rw[e.out];simp[*]),_,rfl⟩
end
end Wf
namespace Wf
def mx (T L:Int):Int:=if T<L then L else T
theorem Lj (T L:Int):(if T<L then L else T)=mx T L:=rfl
attribute [local go_sem] Lj
def Ln (b:Nat)(d:Nat->Nat)(u g:Nat)(x:Nat->Int)(r:Bool)(w w':bD):Prop:=af b w w'/\ ∃x',SA w' b x'/\Iv d g x'/\Ch g u x x'/\(∀j,j<64->j≠u->(0<x' (121+g*198+65+j)↔0<x (121+g*198+65+j)))/\(0<x' (121+g*198+65+u)↔r=true)
structure In (x:Nat->Int)(u g:Nat):Prop where
 lt:u<30
 pos:u≠0
 here:x (1+u*4)=1
 oR:g<10
 qs:x (1+u*4+1)=g
section
variable {b : Nat} {d : Nat -> Nat} {e u g : Nat} {x x1 : Nat -> Int} {w w1 w' : bD} {r : Bool}
theorem Ln.same (i:Iv d e x)(he:e=u\/e=g)(n:In x u g)(h:SA w' b x)(f:af b w w')(hr:0<x (121+g*198+65+u)↔r=true)(rp:u<10->r=true->0<x (121+u*198)):Ln b d u g x r w w':=
 ⟨f,x,h,i.jE he (fun _ _ _ _=>rfl) (i.q g n.oR) n.oR n.lt n.pos n.here n.qs (fun _ _ _=>Iff.rfl) (fun a p=>rp a (hr.1 p)),fun _ _ _ _=>rfl,fun _ _ _=>Iff.rfl,hr⟩
theorem Ln.of (i:Iv d e x)(he:e=u\/e=g)(n:In x u g)(c:Ch g u x x1){P:Nat->Prop}(f:af b w w1)(k:Qc b (121+g*198) x1 w1 w' P)(ot: ∀j,j<64->j≠u->(P j↔0<x (121+g*198+65+j)))(hr:P u↔r=true)(rp:u<10->r=true->0<x (121+u*198)):Ln b d u g x r w w':=by
 obtain⟨f2,x',m,h,p,s,o,t⟩:=k;have c':Ch g u x x':=fun i a a2 a3=>(o i (by omega)).trans (c i a a2 a3);have ot': ∀j,j<64->j≠u->(0<x' (121+g*198+65+j)↔0<x (121+g*198+65+j)):=fun j hj ne=>(t j hj).trans (ot j hj ne);have me:=(t u (by have:=n.lt;omega)).trans hr;exact⟨f.trans f2,x',s.sa,i.jE he c' ⟨m,h,p,s.q,s.k⟩ n.oR n.lt n.pos n.here n.qs ot' (fun a p=>rp a (me.1 p)),c',ot',me⟩
end
section
variable (b : Nat) (d : Nat -> Nat) (x : Nat -> Int) (w : bD)
theorem Ad (u g e:Nat)(h:SA w b x)(i:Iv d e x)(he:e=u\/e=g)(n:In x u g):Calls Tryz.prog 241 #[.pointer (some ⟨b,0,none⟩), .int .i64 u] w fun e w'=>e= .returned (.tuple #[])/\Ln b d u g x (s9 x u) w w':=by
 have c1:=h.i _ (qP n.lt);rw[n.qs]at c1;have l1:(u:Int)<30:=by have:=n.lt;omega
 have l2:(g:Int)<10:=by have:=n.oR;omega
 obtain⟨m,hp,pp,q1,q2⟩:=i.q g n.oR;have QQ:Hid (∀w' y,SA w' b y->(∀i,121+g*198<=i->i<121+g*198+129->y i=x i)->QS w' b (121+g*198) y m hp pp):=hZ (fun w' y hy ey=>⟨hy,⟨g,n.oR,rfl⟩,⟨(ey _ (by omega) (by omega)).trans q1.m,fun i hi=>(ey _ (by omega) (by omega)).trans (q1.h i hi),fun i hi=>(ey _ (by omega) (by omega)).trans (q1.p i hi)⟩,q2⟩);have HP:Hid (x (121+g*198+65+u)=pp u):=hZ (q1.p u (by omega));have RP:Hid (u<10->s9 x u=true->0<x (121+u*198)):=hZ MV;have H:=hZ (aK h (aK i (aK he n)));have RD:=hZ (fun W (hW:SA W b x)=>IQ b x W u hW i.q n.lt);obtain⟨r,hr⟩:=nJ (s9 x u);rw[hr]at RP RD|-;clear h i he n q1 q2 hr;go_in
 go_wp2
 go_quiet (fail)
 go_wp2_with fail
 refine(xt b _ m x hp pp _ u (QQ.out _ x (H.out.1.drewN _) (fun _ _ _=>rfl)) (by omega)).mono ?_;rintro e1 w1 ⟨k,E,rfl,hE,hw1⟩;have S1:Hid (SA w1 b x/\af b w w1):=hZ (by rw[hw1];exact⟨H.out.1.drewN _,(af.refl b w).drewN _⟩);have HE:=hZ hE;clear hw1 hE;by_cases e0:E=0
 ·subst e0;have PU:Hid (0<pp u):=hZ (HE.out.1 rfl);rw[aa];go_wp2_with fail
  go_quiet ((go_at_call 275;exact Calls.quiet_of (RD.out _ (S1.out.1.drewN _))))
  cases r
  ·go_wp2_with fail
   refine(C8 b _ m x hp pp _ u (QQ.out _ x (S1.out.1.drewN _) (fun _ _ _=>rfl)) (by omega) PU.out).mono ?_;rintro e2 w2 ⟨k2,rfl,q⟩;have FIN:Hid (Ln b d u g x false w w2):=hZ (Ln.of H.out.2.1 H.out.2.2.1 H.out.2.2.2 (fun _ _ _ _=>rfl) (S1.out.2.drewN _) q (fun j hj ne=>by simp[ne]) (by simp) RP.out);clear q;go_wp2_with fail
   go_end0
   exact⟨rfl,FIN.out⟩
  ·go_wp2_with fail
   go_end0
   exact⟨rfl,Ln.same H.out.2.1 H.out.2.2.1 H.out.2.2.2 (S1.out.1.drewN _) (S1.out.2.drewN _) (by rw[HP.out];have:=PU.out;simp;omega) (fun a _=>RP.out a trivial)⟩
 ·have PU:Hid (pp u=0):=hZ (by have:=HE.out;omega);rw[aj e0];go_wp2_with fail
  go_quiet ((go_at_call 275;exact Calls.quiet_of (RD.out _ (S1.out.1.drewN _))))
  cases r
  ·go_wp2_with fail
   go_end0
   exact⟨rfl,Ln.same H.out.2.1 H.out.2.2.1 H.out.2.2.2 (S1.out.1.drewN _) (S1.out.2.drewN _) (by rw[HP.out,PU.out];simp) RP.out⟩
  ·go_wp2_with fail
   refine bw (fun W=>SA W b x/\af b w W) ⟨S1.out.1.drewN _,S1.out.2.drewN _⟩ ?_;clear S1 c1 e0 HE;rintro W ⟨hS,hF⟩;have c2:=hS.u _ (kS H.out.2.2.2.lt 3 (by omega));have c3:=hS.u _ (CM H.out.2.2.2.oR);have cf:=hS.frozen;have S:=hZ (aK hS hF);clear hS hF;generalize x (1+u*4+3)=T at c2;generalize x (121+g*198+193)=L at c3;go_region
   go_wp2_with fail
   have k3:=kS H.out.2.2.2.lt 3 (by omega);refine bw (fun W2=>SA W2 b (up x (1+u*4+3) (mx T L))/\af b w W2) ⟨(S.out.1.set _ _ _ k3.1 (by rw[k3.2];rfl)).drew,(S.out.2.setCell _ _).drew⟩ ?_;clear c2 c3 cf S;rintro W2 ⟨hS,hF⟩;have c2:W2.cell? ⟨b,1+u*4+3,none⟩=some (.int .u64 (mx T L)):=by rw[hS.u _ k3,j8]
   have S:=hZ (aK hS hF);generalize mx T L=TL at*;have PT:Hid (∀w5,Qc b (121+g*198) (up x (1+u*4+3) TL) W2.drew w5 (fun i=>0<up x (1+u*4+3) TL (121+g*198+65+i)\/i=u)->Ln b d u g x true w w5/\w5.cell? ⟨b,1+u*4+3,none⟩=some (.int .u64 TL)):=hZ (fun w5 q=>by
    refine⟨Ln.of H.out.2.1 H.out.2.2.1 H.out.2.2.2 (fun i _ a _=>bu _ _ a) S.out.2.drew q (fun j hj ne=>by rw[bu _ _ (by omega)];simp[ne]) (by simp) (fun a _=>RP.out a trivial),?_⟩;obtain⟨_,x',m',h',p',s,o,_⟩:=q;rw[s.sa.u _ k3,o _ (by omega),j8])
   have PP:=hZ (M7 b (121+g*198) m (up x (1+u*4+3) TL) hp pp W2.drew u TL (QQ.out _ _ S.out.1.drew (fun i _ _=>bu _ _ (by omega))) (by omega) PU.out);clear hS hF k3;go_region_held3 (fun w'=>w'.cell? ⟨b,1+u*4+3,none⟩=some (.int .u64 TL)) (first|exact c2|exact c5|go_keep) ((go_at_call 276;refine PP.out.mono ?_;rintro e w5 ⟨rfl,q⟩;obtain⟨l5,c5⟩:=PT.out w5 q;have FIN:=hZ l5;clear q l5))
   go_wp2_with fail
   go_end0
   exact⟨rfl,FIN.out⟩
def Wk (x x':Nat->Int):Prop:= ∀i,0<i/\i<121/\(i-1)%4≠3\/121<=i/\i<2101/\(i-121)%198=195->x' i=x i
theorem Wk.refl (x:Nat->Int):Wk x x:=fun _ _=>rfl
theorem Wk.trans {x y z:Nat->Int}(h:Wk x y)(k:Wk y z):Wk x z:=fun i hi=>(k i hi).trans (h i hi)
theorem Ch.wk {g u:Nat}{x x':Nat->Int}(h:Ch g u x x')(hu:u<30)(hg:g<10):Wk x x':=fun i hi=>h i (by omega) (by omega) (by omega)
def Ps (u:Nat)(x x':Nat->Int):Prop:=10<=u-> ∀g:Nat,g<10->x (1+u*4+1)=g->(0<x' (121+g*198+65+u)↔x (2101+(u-10)*2)=1)
theorem vT (u:Nat)(h:SA w b x)(i:Iv d u x)(hu:u<30)(hh:x (1+u*4)=1):Calls Tryz.prog 195 #[.pointer (some ⟨b,0,none⟩), .int .i64 u] w fun e w'=>e= .returned (.tuple #[])/\To b w (fun x'=>Iv d 0 x'/\Wk x x'/\Ps u x x') w':=by
 have H0:=hZ (aK h (aK i hh));clear h i hh;go_in
 go_wp2
 go_loopw [1] (fun i wr=> ∃(v:Nat) (y:Nat->Int),i= .int .i64 v/\v<30/\Hid (af b w wr/\SA wr b y/\Iv d v y/\Wk x y/\y (1+v*4)=1/\(Ps u x y/\d v<d u\/v=u/\y=x))) (fun i _=>d (intOf i).toNat)
 case atStart=>exact⟨u,x,rfl,hu,af.refl _ _,H0.out.1,H0.out.2.1,Wk.refl _,H0.out.2.2, .inr ⟨rfl,rfl⟩⟩
 case round=>
  clear H0;obtain⟨v,y,rfl,hv,H⟩:=hrel;by_cases h0:v=0
  ·subst h0;go_wp2
   go_end0
   obtain⟨h1,h2,h3,h4,_,h6⟩:=H.out;exact⟨rfl,y,h2,h1,h3,h4,h6.elim (·.1) (fun e=>by rw[<-e.1];exact fun q=>aZ q (by omega))⟩
  ·have k0:((v:Int) !=0)=true:=by rw[bne_iff_ne];omega
   obtain⟨g,g1,g2,g3,g4,_⟩:=H.out.2.2.1.par v hv h0 H.out.2.2.2.2.1;have HG:=hZ (aK g2 g3);have NN:Hid (In y v g):=hZ ⟨hv,h0,H.out.2.2.2.2.1,g1,g2⟩;clear g2 g3;go_wp2_with fail
   refine(Ad b d y _ v g v H.out.2.1 H.out.2.2.1 (.inl rfl) NN.out).mono ?_;rintro e w1 ⟨rfl,f1,y1,s1,i1,c1,o1,m1⟩;have c0:w1.cell? ⟨b,1+v*4+1,none⟩=some (.int .i64 (g:Int)):=by rw[s1.i _ (qP hv),c1 _ (by omega) (by omega) (by omega),HG.out.1]
   have S1:Hid (af b w w1/\SA w1 b y1/\Iv d g y1/\Wk x y1/\y1 (1+g*4)=1/\(Ps u x y1/\d g<d u\/g=u/\y1=x)):=hZ (by
    obtain⟨h1,h2,h3,h4,h5,h6⟩:=H.out;refine⟨h1.trans f1,s1,i1,h4.trans (c1.wk hv g1),(c1 _ (by omega) (by omega) (by omega)).trans HG.out.2, .inl ?_⟩;rcases h6 with⟨h6,h7⟩|⟨rfl,rfl⟩
    ·refine⟨fun q k hk e=>(Iff.trans ?_ (h6 q k hk e)),by omega⟩;have uv:u≠v:=fun e=>by subst e;omega
     by_cases kg:k=g
     ·subst kg;exact o1 u (by omega) uv
     ·rw[c1 _ (by omega) (by omega) (by omega)]
    ·refine⟨fun q k hk e=>?_,g4⟩;obtain rfl:k=g:=by have:=HG.out.1;omega
     rw[m1];unfold s9;rw[aJ q];simp)
   have hvI:(v:Int)<30:=by omega
   clear f1 s1 i1 c1 o1 m1;go_wp2
   go_roundw
   case rel=>exact⟨g,y1,rfl,by omega,S1⟩
   case measure=>simp[intOf];exact g4
def bi (t:Bool):Int:=if t then 1 else 0
theorem JC (t:Bool):Value.bool t=V 2 (bi t):=by cases t<;>rfl
theorem yL (n:Nat)(on:Bool)(h:SA w b x)(i:Iv d 0 x)(hn:n<20)(hh:x (1+(10+n)*4)=1):Calls Tryz.prog 192 #[.pointer (some ⟨b,0,none⟩), .int .i64 n, .bool on] w fun e w'=>e= .returned (.tuple #[])/\To b w (fun x'=>Iv d 0 x'/\Wk x x'/\ ∀g:Nat,g<10->x (1+(10+n)*4+1)=g->(0<x' (121+g*198+65+(10+n))↔on=true)) w':=by
 have ka:=tf hn;have c1:=h.bo _ ka;have cf:=h.frozen;have hnI:(n:Int)<20:=by omega
 have s1:=h.set _ (bi on) (.bool on) ka.1 (by rw[ka.2];exact JC on);have i1:Iv d (10+n) (up x (2101+n*2) (bi on)):=(i.iC (fun j hj=>bu _ _ (by unfold Kc at hj;omega))).any _;have ST:=hZ (vT b d _ _ (10+n) s1 i1 (by omega) (by rw[bu _ _ (by omega)];exact hh));rw[show((10+n:Nat):Int)=10+(n:Int)by omega]at ST;clear h i s1 i1 ka;go_in
 go_wp2_with fail
 refine ST.out.mono ?_;rintro e w1 ⟨rfl,x',s,f,i',k,p⟩;have FIN:Hid (To b w (fun x'=>Iv d 0 x'/\Wk x x'/\ ∀g:Nat,g<10->x (1+(10+n)*4+1)=g->(0<x' (121+g*198+65+(10+n))↔on=true)) w1):=hZ ⟨x',s,((af.refl b w).setCell _ _).trans f,i',fun j a1=>(k j a1).trans (bu _ _ (by omega)),fun g hg e=>by
  have:=p (by omega) g hg (by rw[bu _ _ (by omega)];exact e);rw[show 10+n-10=n by omega,j8]at this;rw[this];cases on<;>simp[bi]⟩
 clear s f i' k p ST;go_wp2_with fail
 go_end0
 exact⟨rfl,FIN.out⟩
end
end Wf

import Derived.Test.YtpmmdkcfenjiaaaGreatDoorUae
set_option maxRecDepth 100000
set_option maxHeartbeats 1000000
set_option linter.unusedVariables false
set_option linter.unusedSimpArgs false
namespace Go.Proofs.YtpmmdkcfenjiaaaGreatDoor
open Value renaming int->aa,pointer->ai,slice->aj,string->ak,tuple->ao,iface->aq,bool->ar,agg->au
open IntKind renaming i64->az,u8->bc
open Ending renaming returned->bf
open Obj renaming cells->bg
open Option renaming some->bh,none->bj
open Tryz (prog)
open Go.RowKit
namespace Tr
structure Nd where
 kind:Nat
 cJ:Nat
 held:Nat
 size:Nat
 tree:Nat
 up:Nat
 dS:Nat->bU
 cR:Nat->Nat
 dA:Nat->Int
structure Fo where
 nd:Nat->Nd
 root:Nat->Nat
 trees:Nat
def Nd.no:Nd:=⟨0,0,0,0,0,0,λ_=>⟨#[]⟩,λ_=>0,λ_=>0⟩
def Fo.put(F:Fo)(n:Nat)(x:Nd):Fo:={F with nd:=λm=>if m=n then x else F.nd m}
theorem bF(F:Fo)(n:Nat)(x:Nd):(F.put n x).nd n=x:=aJ rfl
theorem bM(F:Fo)(n:Nat)(x:Nd)(m:Nat)(h:m≠n):(F.put n x).nd m=F.nd m:=aI h
def f0:Fo:=⟨λ_=>Nd.no,λ_=>0,0⟩
def cA(F:Fo)(z:Int):Int:=if z<0\/39<z then 1 else if(F.nd z.toNat).kind=0 then 2 else 0
def cD(F:Fo)(z:Int)(k:Nat):Int:=if cA F z≠0 then cA F z else if(F.nd z.toNat).kind=k then 0 else 11
theorem gO{F:Fo}{z:Int}(h:cA F z=0):∃n:Nat,z=n/\n<40/\(F.nd n).kind≠0:=by grind [cA]
theorem eZ{F:Fo}{z:Int}{k:Nat}(h:cD F z k=0):∃n:Nat,z=n/\n<40/\(F.nd n).kind≠0/\(F.nd n).kind=k:=by grind [cD,cA]
end Tr
open Tr (Fo Nd)
def iw(x:Nd)(j:Nat):Value:=
 if j=0 then aa az (x.kind:Int)else if j=1 then aa az (x.cJ:Int)else if j=2 then aa az (x.held:Int)else if j=3 then aa az (x.size:Int)else if j=4 then aa az (x.tree:Int)else if j=5 then aa az (x.up:Int)
 else if j<22 then(if j%2=0 then ak (x.dS ((j-6)/2))else aa az (x.cR ((j-6)/2):Int))else aa bc (x.dA (j-22))
def jr(F:Fo)(o:Nat):Value:=if o<2480 then iw (F.nd (o/62)) (o%62)else if o<2484 then aa az (F.root (o-2480):Int)else aa az (F.trees:Int)
structure bN (w:bD)(b:Nat)(F:Fo):Prop where
 cU:∃C,w.heap[b]? =bh (bg C 208 (0,0))/\C.size=2485
 cell:∀o,o<2485->w.cell? ⟨b,o,bj⟩=bh (jr F o)
section
variable {w w':bD}{b:Nat}{F F':Fo}
theorem bN.drewN(h:bN w b F)(n:Nat):bN (w.drewN n) b F:=⟨h.cU,h.cell⟩
theorem bN.drew(h:bN w b F):bN w.drew b F:=⟨h.cU,h.cell⟩
theorem bN.frozen(h:bN w b F)(o:Nat):w.frozen? ⟨b,o,bj⟩=false:=by obtain⟨C,h1,_⟩:=h.cU;exact cv h1 o
theorem bN.lt(h:bN w b F):b<w.heap.size:=by obtain⟨C,h1,_⟩:=h.cU;exact(aX.1 h1).1
theorem bN.same(h:bN w b F)(e:w'.heap[b]? =w.heap[b]?):bN w' b F:=⟨by rw[e];exact h.cU,λo ho=>(aV e).trans (h.cell o ho)⟩
theorem bN.below(h:bN w b F)(k:Below w.heap.size w w'):bN w' b F:=h.same (k.block b h.lt)
theorem bN.nd(h:bN w b F)(n j:Nat)(hn:n<40)(hj:j<62):w.cell? ⟨b,n*62+j,bj⟩=bh (iw (F.nd n) j):=by
 rw[h.cell _ bu,jr,nK,show(n*62+j)/62=n by omega,show(n*62+j)%62=j by omega]
theorem bN.si(h:bN w b F)(n:Nat)(hn:n<40):w.cell? ⟨b,n*62,bj⟩=bh (aa az ((F.nd n).kind:Int)):=h.nd n 0 hn bu
theorem bN.tB(h:bN w b F)(n:Nat)(hn:n<40):w.cell? ⟨b,n*62+1,bj⟩=bh (aa az ((F.nd n).cJ:Int)):=h.nd n 1 hn bu
theorem bN.xA(h:bN w b F)(n:Nat)(hn:n<40):w.cell? ⟨b,n*62+2,bj⟩=bh (aa az ((F.nd n).held:Int)):=h.nd n 2 hn bu
theorem bN.mK(h:bN w b F)(n:Nat)(hn:n<40):w.cell? ⟨b,n*62+3,bj⟩=bh (aa az ((F.nd n).size:Int)):=h.nd n 3 hn bu
theorem bN.sq(h:bN w b F)(n:Nat)(hn:n<40):w.cell? ⟨b,n*62+4,bj⟩=bh (aa az ((F.nd n).tree:Int)):=h.nd n 4 hn bu
theorem bN.Tq(h:bN w b F)(n:Nat)(hn:n<40):w.cell? ⟨b,n*62+5,bj⟩=bh (aa az ((F.nd n).up:Int)):=h.nd n 5 hn bu
theorem zL(x:Nd)(i:Nat)(hi:i<8):iw x (6+i*2)=ak (x.dS i):=by grind [iw]
theorem zK(x:Nd)(i:Nat)(hi:i<8):iw x (6+i*2+1)=aa az (x.cR i:Int):=by grind [iw]
theorem qA(x:Nd)(i:Nat):iw x (22+i)=aa bc (x.dA i):=by grind [iw]
theorem bN.vW(h:bN w b F)(n i:Nat)(hn:n<40)(hi:i<8):w.cell? ⟨b,n*62+6+i*2,bj⟩=bh (ak ((F.nd n).dS i)):=by
 rw[show n*62+6+i*2=n*62+(6+i*2)by omega,h.nd n _ hn bu,zL _ i hi]
theorem bN.tA(h:bN w b F)(n i:Nat)(hn:n<40)(hi:i<8):w.cell? ⟨b,n*62+6+i*2+1,bj⟩=bh (aa az ((F.nd n).cR i:Int)):=by
 rw[show n*62+6+i*2+1=n*62+(6+i*2+1)by omega,h.nd n _ hn bu,zK _ i hi]
theorem bN.TF(h:bN w b F)(n i:Nat)(hn:n<40)(hi:i<40):w.cell? ⟨b,n*62+22+i,bj⟩=bh (aa bc ((F.nd n).dA i)):=by
 rw[show n*62+22+i=n*62+(22+i)by omega,h.nd n _ hn bu,qA]
theorem bN.NR(h:bN w b F)(t:Nat)(ht:t<4):w.cell? ⟨b,2480+t,bj⟩=bh (aa az (F.root t:Int)):=by
 rw[h.cell _ bu,jr,nJ,nK,show 2480+t-2480=t by omega]
theorem bN.Bp(h:bN w b F):w.cell? ⟨b,2484,bj⟩=bh (aa az (F.trees:Int)):=h.cell 2484 bu
theorem bN.set(h:bN w b F)(o:Nat)(ho:o<2485)(v:Value)(hv:∀i,i<2485->jr F' i=if i=o then v else jr F i):bN (w.setCell ⟨b,o,bj⟩ v) b F':=by
 obtain⟨C,h1,h2⟩:=h.cU;refine⟨⟨_,cE h1 _ v,by simpa using h2⟩,λi hi=>?_⟩;rw[hv i hi];by_cases e:i=o
 .subst e;rw[du h1 _ v bu,aJ rfl]
 .rw[da h1 _ _ v (bQ e),aI e];exact h.cell i hi
theorem bN.jT(h:bN w b F)(n j:Nat)(hn:n<40)(hj:j<62)(v:Value)(x:Nd)(hx:∀i,i<62->iw x i=if i=j then v else iw (F.nd n) i):bN (w.setCell ⟨b,n*62+j,bj⟩ v) b (F.put n x):=by
 refine h.set (n*62+j) bu v (λo ho=>?_);unfold jr;by_cases c:o<2480
 .rw[aJ c,aJ c];by_cases d:o/62=n
  .rw[d,Tr.bF,hx (o%62) bu];grind
  .rw[Tr.bM _ _ _ _ d,nJ]
 .rw[aI c,aI c,aI (show¬o=n*62+j by omega)];rfl
theorem bN.congr(h:bN w b F)(e:∀o,o<2485->jr F' o=jr F o):bN w b F':=⟨h.cU,λo ho=>by rw[e o ho];exact h.cell o ho⟩
end
section
variable {w:bD}{b:Nat}{F:Fo}
theorem bN.wG(h:bN w b F)(n v:Nat)(hn:n<40):bN (w.setCell ⟨b,n*62+1,bj⟩ (aa az (v:Int))) b (F.put n {F.nd n with cJ:=v}):=h.jT n 1 hn bu _ _ (λi _=>by
 by_cases c:i=1
 .subst c;rfl
 .rw[aI c];unfold iw;rw[aI c,aI c])
theorem bN.Fl(h:bN w b F)(n v:Nat)(hn:n<40):bN (w.setCell ⟨b,n*62+2,bj⟩ (aa az (v:Int))) b (F.put n {F.nd n with held:=v}):=h.jT n 2 hn bu _ _ (λi _=>by
 by_cases c:i=2
 .subst c;rfl
 .rw[aI c];unfold iw;rw[aI c,aI c])
theorem bN.zn(h:bN w b F)(n v:Nat)(hn:n<40):bN (w.setCell ⟨b,n*62+3,bj⟩ (aa az (v:Int))) b (F.put n {F.nd n with size:=v}):=h.jT n 3 hn bu _ _ (λi _=>by
 by_cases c:i=3
 .subst c;rfl
 .rw[aI c];unfold iw;rw[aI c,aI c])
theorem bN.SR(h:bN w b F)(n v:Nat)(hn:n<40):bN (w.setCell ⟨b,n*62+5,bj⟩ (aa az (v:Int))) b (F.put n {F.nd n with up:=v}):=h.jT n 5 hn bu _ _ (λi _=>by
 by_cases c:i=5
 .subst c;rfl
 .rw[aI c];unfold iw;rw[aI c,aI c])
def gY{α:Type}(f:Nat->α)(i:Nat)(v:α):Nat->α:=λj=>if j=i then v else f j
theorem qg{α:Type}(f:Nat->α)(i:Nat)(v:α):gY f i v i=v:=aJ rfl
theorem uG{α:Type}(f:Nat->α)(i:Nat)(v:α)(j:Nat)(h:j≠i):gY f i v j=f j:=aI h
theorem bN.RY(h:bN w b F)(n i:Nat)(v:bU)(hn:n<40)(hi:i<8):bN (w.setCell ⟨b,n*62+6+i*2,bj⟩ (ak v)) b (F.put n {F.nd n with dS:=gY (F.nd n).dS i v}):=by
 rw[show n*62+6+i*2=n*62+(6+i*2)by omega];refine h.jT n (6+i*2) hn bu _ _ (λj hj=>?_);grind [zL,gY,qg,iw]
theorem bN.RW(h:bN w b F)(n i v:Nat)(hn:n<40)(hi:i<8):bN (w.setCell ⟨b,n*62+6+i*2+1,bj⟩ (aa az (v:Int))) b (F.put n {F.nd n with cR:=gY (F.nd n).cR i v}):=by
 rw[show n*62+6+i*2+1=n*62+(6+i*2+1)by omega];refine h.jT n (6+i*2+1) hn bu _ _ (λj hj=>?_);grind [zK,gY,qg,iw]
theorem bN.Qh(h:bN w b F)(t v:Nat)(ht:t<4):bN (w.setCell ⟨b,2480+t,bj⟩ (aa az (v:Int))) b {F with root:=gY F.root t v}:=by
 refine h.set (2480+t) bu _ (λo ho=>?_);grind [jr,gY]
theorem bN.Nf(h:bN w b F)(v:Nat):bN (w.setCell ⟨b,2484,bj⟩ (aa az (v:Int))) b {F with trees:=v}:=by
 refine h.set 2484 bu _ (λo ho=>?_);grind [jr]
end
def eY(b:Nat)(z E:Int):Value:=if E=0 then ai (bh ⟨b,z.toNat*62,bj⟩)else ai bj
theorem gy(b n:Nat):eY b (n:Int) 0=ai (bh ⟨b,n*62,bj⟩):=by unfold eY;rw[aJ rfl,hZ]
theorem gT{b:Nat}{z E:Int}(h:E≠0):eY b z E=ai none:=aI h
theorem gX(b:Nat)(z:Int)(F:Fo)(w:bD)(h:bN w b F):
  Calls prog 266 #[ai (bh ⟨b,0,bj⟩),aa az z] w λe w'=>e=bf (ao #[eY b z (Tr.cA F z),bG (Tr.cA F z)])/\w'=w:=by
 by_cases c:z<0\/39<z
 .have E:Hid (Tr.cA F z=1):=hJ (aJ c);have E2:Hid (eY b z 1=ai bj):=hJ (gT bA);by_cases c1:z<0
  .clear c;go_in
   go_wp2
   go_ret2
   rw[E.v,E2.v];exact⟨rfl,rfl⟩
  .have c2:decide (40<=z)=true:=by simp;omega
   have c3:decide (z<0)=false:=by simp;omega
   go_in
   go_wp2
   go_ret2
   rw[E.v,E2.v];exact⟨rfl,rfl⟩
 .obtain⟨n,rfl⟩:=aG (show 0<=z by omega);have n40:n<40:=bu
  have nI:(n:Int)<40:=bu
  have c2:decide (40<=(n:Int))=false:=by simp;omega
  have c0:=h.si n n40;by_cases k0:(F.nd n).kind=0
  .have E:Hid (Tr.cA F (n:Int)=2):=hJ (by unfold Tr.cA;rw[aI c,hZ,aJ k0]);have E2:Hid (eY b (n:Int) 2=ai bj):=hJ (gT bA);rw[k0]at c0;have c0':w.cell? ⟨b,n*62,bj⟩=bh (aa .i64 0):=c0;go_in
   go_wp2
   go_ret2
   rw[E.v,E2.v];exact⟨rfl,rfl⟩
  .have E:Hid (Tr.cA F (n:Int)=0):=hJ (by unfold Tr.cA;rw[aI c,hZ,aI k0]);have E2:Hid (eY b (n:Int) 0=ai (bh ⟨b,n*62,bj⟩)):=hJ (gy b n);have k0':(((F.nd n).kind:Int)==0)=false:=by simp;omega
   generalize (F.nd n).kind=kk at*;go_in
   go_wp2
   go_ret2
   rw[E.v,E2.v];exact⟨rfl,rfl⟩
theorem vO(b:Nat)(z:Int)(k:Nat)(F:Fo)(w:bD)(h:bN w b F):
  Calls prog 283 #[ai (bh ⟨b,0,bj⟩),aa az z,aa az (k:Int)] w λe w'=>e=bf (ao #[eY b z (Tr.cD F z k),bG (Tr.cD F z k)])/\w'=w:=by
 have HF:=hJ h;by_cases c:Tr.cA F z=0
 .obtain⟨n,rfl,n40,_⟩:=Tr.gO c;have c0:=h.si n n40;have EP:Hid (Tr.cA F (n:Int)=0):=hJ c;by_cases d:(F.nd n).kind=k
  .have E:Hid (Tr.cD F (n:Int) k=0):=hJ (by unfold Tr.cD;rw[aI (λe=>e c),hZ,aJ d]);have E2:Hid (eY b (n:Int) 0=ai (bh ⟨b,n*62,bj⟩)):=hJ (gy b n);rw[d]at c0;go_in
   go_wp2_with fail
   refine sC (gX b n F _ HF.v) ?_;rintro w1 hw;subst w1;rw[EP.v,E2.v,bB];go_wp2
   go_ret2
   rw[E.v,E2.v];exact⟨rfl,rfl⟩
  .have E:Hid (Tr.cD F (n:Int) k=11):=hJ (by unfold Tr.cD;rw[aI (λe=>e c),hZ,aI d]);have E2:Hid (eY b (n:Int) 0=ai (bh ⟨b,n*62,bj⟩)/\eY b (n:Int) 11=ai bj):=hJ ⟨gy b n,gT bA⟩;have d':(((F.nd n).kind:Int)==(k:Int))=false:=by simp;omega
   generalize (F.nd n).kind=kk at*;go_in
   go_wp2_with fail
   refine sC (gX b n F _ HF.v) ?_;rintro w1 hw;subst w1;rw[EP.v,E2.1,bB];go_wp2
   go_ret2
   rw[E.v,E2.2];exact⟨rfl,rfl⟩
 .have E:Hid (Tr.cD F z k=Tr.cA F z):=hJ (aJ c);have E2:Hid (eY b z (Tr.cA F z)=ai bj/\bG (Tr.cA F z)=aq 100 (aa az (Tr.cA F z))):=hJ ⟨gT c,bC c⟩;go_in
  go_wp2_with fail
  refine sC (gX b z F _ HF.v) ?_;rintro w1 hw;subst w1;rw[E2.1,E2.2];go_wp2
  go_ret2
  rw[E.v,E2.1,E2.2];exact⟨rfl,rfl⟩
theorem kV(b:Nat)(z:Int)(F:Fo)(w:bD)(h:bN w b F):
  Calls prog 254 #[ai (bh ⟨b,0,bj⟩),aa az z] w λe w'=>e=bf (ao #[eY b z (Tr.cD F z 2),bG (Tr.cD F z 2)])/\w'=w:=by
 have HF:=hJ (vO b z 2 F w h);obtain⟨v1,hv1⟩:∃v,eY b z (Tr.cD F z 2)=v:=⟨_,rfl⟩;obtain⟨v2,hv2⟩:∃v,bG (Tr.cD F z 2)=v:=⟨_,rfl⟩;rw[hv1,hv2]at HF|-;go_in
 go_wp2_with fail
 refine sC HF.v ?_;rintro w1 hw;subst w1;go_wp2
 go_ret2
 exact⟨rfl,rfl⟩
theorem iq(b:Nat)(z:Int)(F:Fo)(w:bD)(h:bN w b F):
  Calls prog 258 #[ai (bh ⟨b,0,bj⟩),aa az z] w λe w'=>e=bf (ao #[eY b z (Tr.cD F z 1),bG (Tr.cD F z 1)])/\w'=w:=by
 have HF:=hJ (vO b z 1 F w h);obtain⟨v1,hv1⟩:∃v,eY b z (Tr.cD F z 1)=v:=⟨_,rfl⟩;obtain⟨v2,hv2⟩:∃v,bG (Tr.cD F z 1)=v:=⟨_,rfl⟩;rw[hv1,hv2]at HF|-;go_in
 go_wp2_with fail
 refine sC HF.v ?_;rintro w1 hw;subst w1;go_wp2
 go_ret2
 exact⟨rfl,rfl⟩
def dg(x:Nd):Array Value:=((List.range 62).map (iw x)).toArray
theorem Cu(x:Nd)(i:Nat)(h:i<62):(dg x)[i]? =bh (iw x i):=by simp[dg,h]
theorem mT(x:Nd):(dg x).size=62:=by simp[dg]
theorem iT(x:Nd):(dg x).toList.length=62:=by simp[dg]
theorem oC(x:Nd):(dg x).all (·.oneCell')=true:=by
 rw[Array.all_eq_true_iff_forall_mem];intro v hv;simp only[dg,List.mem_toArray,List.mem_map]at hv;obtain⟨o,_,rfl⟩:=hv;unfold iw
 repeat' split
 all_goals rfl
section
variable {w:bD}{b:Nat}{F:Fo}
theorem kW(b:Nat):∀(vs:List Value) (o:Nat) (w:bD) (C:Array Value) {T:TypeId},w.heap[b]? =bh (bg C T (0,0))->∃C',(w.setCells b o vs).heap[b]? =bh (bg C' T (0,0))/\C'.size=C.size
 |[],_,_,C,_,h=>⟨C,h,rfl⟩
 |v::r,o,w,C,_,h=>by
  obtain⟨C',h1,h2⟩:=kW b r (o+1) _ _ (cE h o v);exact⟨C',h1,by simpa using h2⟩
theorem bN.setNode(h:bN w b F)(n:Nat)(hn:n<40)(x:Nd):bN (w.setCells b (n*62) (dg x).toList) b (F.put n x):=by
 obtain⟨C,h1,h2⟩:=h.cU;obtain⟨C',k1,k2⟩:=kW b (dg x).toList (n*62) w C h1;refine⟨⟨C',k1,bu⟩,λo ho=>?_⟩;by_cases c:n*62<=o/\o<n*62+62
 .obtain⟨j,rfl,hj⟩:∃j,o=n*62+j/\j<62:=⟨o-n*62,bu,bu⟩;rw[aS b (dg x).toList (n*62) w (λi hi=>by rw[iT]at hi;rw[h.cell _ bu];rfl) j (by rw[iT];exact hj),<-aW (by rw[iT];exact hj),aM,Cu x j hj];unfold jr;rw[nK,show(n*62+j)/62=n by omega,show(n*62+j)%62=j by omega,Tr.bF]
 .rw[aA b _ (n*62) w ⟨b,o,bj⟩ (λ_ _=>by rw[iT];show o<_\/_<=o;omega),h.cell o ho];unfold jr;by_cases d:o<2480
  .rw[aJ d,aJ d,Tr.bM _ _ _ _ bu]
  .rw[aI d,aI d];rfl
theorem bN.there(h:bN w b F)(n:Nat)(hn:n<40)(x:Nd):w.there b (n*62) (dg x).size:=λj hj=>by
 rw[mT]at hj;exact⟨by rw[h.cell _ bu];rfl,h.frozen _⟩
theorem oA(x:Nd):(prog.info? 204).map (·.size)=bh (dg x).size:=by rw[mT];kernel_rfl
end
section
variable {ops:Array Oper}{rest:List Oper}{x:Oper}{a:Act}{w:bD}{Q:Exit->Act->bD->Prop}
theorem wQ(hgd:x.guard=bj)(ho:x.op= .build 204 #[])(h:wpList prog ops Q rest (a.put x.dst (au (dg Nd.no))) w):wpList prog ops Q (x::rest) a w:=
 wpList_plain hgd λ_ hK=>by
  unfold Oper.wp execOp;simp only[ho];simp[go_sem];exact hK _ _ h
end
def Tr.lB(F:Fo)(n:Nat):Fo:=if(F.nd n).cJ=0/\(F.nd n).held=0 then F.put n Nd.no else F
theorem Tr.Fq{F:Fo}{n:Nat}(h:(F.nd n).cJ=0/\(F.nd n).held=0):Tr.lB F n=F.put n Nd.no:=aJ h
theorem Tr.Dd{F:Fo}{n:Nat}(h:¬((F.nd n).cJ=0/\(F.nd n).held=0)):Tr.lB F n=F:=aI h
theorem sU(b n:Nat)(F:Fo)(w:bD)(h:bN w b F)(hn:n<40):
  Calls prog 253 #[ai (bh ⟨b,0,bj⟩),aa az (n:Int)] w λe w'=>e=bf (ao #[])/\bN w' b (Tr.lB F n)/\bE b w w':=by
 have nI:(n:Int)<40:=bu
 have c1:=h.tB n hn;have c2:=h.xA n hn;by_cases l0:(F.nd n).cJ=0
 .rw[l0]at c1;have c1':w.cell? ⟨b,n*62+1,bj⟩=bh (aa .i64 0):=c1;by_cases h0:(F.nd n).held=0
  .rw[h0]at c2;have c2':w.cell? ⟨b,n*62+2,bj⟩=bh (aa .i64 0):=c2;have FIN:Hid (bN (w.setCells b (n*62) (dg Nd.no).toList) b (Tr.lB F n)/\bE b w (w.setCells b (n*62) (dg Nd.no).toList)):=hJ ⟨by rw[Tr.Fq ⟨l0,h0⟩];exact h.setNode n hn _,bE.setCells _ _ (bE.refl b w)⟩;have TH:=hJ (h.there n hn Nd.no);have HS:=hJ (oA Nd.no);have H1:=hJ (oC Nd.no);obtain⟨A,hA⟩:=hU (dg Nd.no);rw[hA]at FIN TH HS H1;go_in
   go_wp2_with (first|(refine wQ rfl rfl ?_;rw[hA])|(refine wpList_store_mid rfl 204 _ _ rfl b (n*62) A rfl rfl TH.v HS.v H1.v ?_))
   go_end0
   exact⟨rfl,FIN.v⟩
  .have h0':(((F.nd n).held:Int)==0)=false:=by simp;omega
   have FIN:Hid (bN w b (Tr.lB F n)):=hJ (by rw[Tr.Dd (λc=>h0 c.2)];exact h);generalize (F.nd n).held=hh at*;go_in
   go_wp2
   go_end0
   exact⟨rfl,FIN.v,bE.refl _ _⟩
 .have l0':(((F.nd n).cJ:Int)==0)=false:=by simp;omega
  have FIN:Hid (bN w b (Tr.lB F n)):=hJ (by rw[Tr.Dd (λc=>l0 c.1)];exact h);generalize (F.nd n).cJ=ll at*;go_in
  go_wp2
  go_end0
  exact⟨rfl,FIN.v,bE.refl _ _⟩
def Tr.dB(F:Fo)(z:Int):Fo:=if Tr.cA F z=0 then F.put z.toNat {F.nd z.toNat with held:=(F.nd z.toNat).held+1}else F
theorem qL(b:Nat)(z:Int)(F:Fo)(w:bD)(h:bN w b F)(hb:∀n,n<40->(F.nd n).held<2^60):
  Calls prog 231 #[ai (bh ⟨b,0,bj⟩),aa az z] w λe w'=>e=bf (bG (Tr.cA F z))/\bN w' b (Tr.dB F z)/\bE b w w':=by
 have HF:=hJ h;by_cases c:Tr.cA F z=0
 .obtain⟨n,rfl,n40,_⟩:=Tr.gO c;have c0:=h.xA n n40;have cf:=h.frozen;have hl:=hb n n40;have EP:Hid (Tr.cA F (n:Int)=0/\eY b (n:Int) 0=ai (bh ⟨b,n*62,bj⟩)):=hJ ⟨c,gy b n⟩;have FIN:Hid (bN (w.setCell ⟨b,n*62+2,bj⟩ (aa az (((F.nd n).held+1:Nat):Int))) b (Tr.dB F (n:Int))):=hJ (by
   unfold Tr.dB;rw[aJ c,hZ];exact h.Fl n _ n40)
  generalize (F.nd n).held=hh at*;have hw:IntKind.i64.wrap ((hh:Int)+1)=(hh:Int)+1:=aN _ ⟨by omega,bu⟩;go_in
  go_wp2_with fail
  refine sC (gX b n F _ HF.v) ?_;rintro w1 hw1;subst w1;rw[EP.1,EP.2,bB];go_wp2
  go_ret
  rw[EP.1];exact⟨rfl,FIN.v,(bE.refl b w).setCell _ _⟩
 .have E2:Hid (eY b z (Tr.cA F z)=ai bj/\bG (Tr.cA F z)=aq 100 (aa az (Tr.cA F z))/\Tr.dB F z=F):=hJ ⟨gT c,bC c,aI c⟩;go_in
  go_wp2_with fail
  refine sC (gX b z F _ HF.v) ?_;rintro w1 hw;subst w1;rw[E2.1,E2.2.1];go_wp2
  go_ret
  rw[E2.2.1,E2.2.2];exact⟨rfl,HF.v,bE.refl _ _⟩
def Tr.letE(F:Fo)(z:Int):Int:=if Tr.cA F z=0 then(if(F.nd z.toNat).held=0 then 8 else 0)else Tr.cA F z
def Tr.dq(F:Fo)(z:Int):Fo:=if Tr.letE F z=0 then Tr.lB (F.put z.toNat {F.nd z.toNat with held:=(F.nd z.toNat).held-1}) z.toNat else F
theorem sR(b:Nat)(z:Int)(F:Fo)(w:bD)(h:bN w b F)(hb:∀n,n<40->(F.nd n).held<2^60):
  Calls prog 226 #[ai (bh ⟨b,0,bj⟩),aa az z] w λe w'=>e=bf (bG (Tr.letE F z))/\bN w' b (Tr.dq F z)/\bE b w w':=by
 have HF:=hJ h;by_cases c:Tr.cA F z=0
 .obtain⟨n,rfl,n40,_⟩:=Tr.gO c;have c0:=h.xA n n40;have cf:=h.frozen;have hl:=hb n n40;have EP:Hid (Tr.cA F (n:Int)=0/\eY b (n:Int) 0=ai (bh ⟨b,n*62,bj⟩)):=hJ ⟨c,gy b n⟩;by_cases h0:(F.nd n).held=0
  .have E:Hid (Tr.letE F (n:Int)=8/\Tr.dq F (n:Int)=F):=hJ (by
    have e:Tr.letE F (n:Int)=8:=by unfold Tr.letE;rw[aJ c,hZ,aJ h0]
    exact⟨e,by unfold Tr.dq;rw[e];exact aI bA⟩)
   rw[h0]at c0;have c0':w.cell? ⟨b,n*62+2,bj⟩=bh (aa .i64 0):=c0;go_in
   go_wp2_with fail
   refine sC (gX b n F _ HF.v) ?_;rintro w1 hw1;subst w1;rw[EP.1,EP.2,bB];go_wp2
   go_ret
   rw[E.1,E.2];exact⟨rfl,HF.v,bE.refl _ _⟩
  .obtain⟨hh,hhe⟩:∃hh,(F.nd n).held=hh+1:=⟨(F.nd n).held-1,bu⟩;have E:Hid (Tr.letE F (n:Int)=0/\Tr.dq F (n:Int)=Tr.lB (F.put n {F.nd n with held:=hh}) n):=hJ (by
    have e:Tr.letE F (n:Int)=0:=by unfold Tr.letE;rw[aJ c,hZ,aI h0]
    exact⟨e,by unfold Tr.dq;rw[e,aJ rfl,hZ,hhe];rfl⟩)
   have S1:Hid (bN (w.setCell ⟨b,n*62+2,bj⟩ (aa az (hh:Int))) b (F.put n {F.nd n with held:=hh})/\bE b w (w.setCell ⟨b,n*62+2,bj⟩ (aa az (hh:Int)))):=hJ ⟨h.Fl n _ n40,(bE.refl b w).setCell _ _⟩;rw[hhe]at c0 hl;obtain⟨zz,hzz⟩:=hU (((hh+1:Nat):Int));have hw:IntKind.i64.wrap (zz-1)=(hh:Int):=by rw[<-hzz,aN _ ⟨by omega,bu⟩];omega
   have hz0:(zz==0)=false:=by simp;omega
   rw[hzz]at c0;go_in
   go_wp2_with fail
   refine sC (gX b n F _ HF.v) ?_;rintro w1 hw1;subst w1;rw[EP.1,EP.2,bB];go_wp2_with fail
   refine sC (sU b n _ _ S1.1 n40) ?_;rintro w2 ⟨h2,f2⟩;have S2:=hJ (aK h2 (S1.2.trans f2));go_wp2
   go_ret
   rw[E.1,E.2];exact⟨rfl,S2.v⟩
 .have E2:Hid (eY b z (Tr.cA F z)=ai bj/\bG (Tr.cA F z)=aq 100 (aa az (Tr.cA F z))/\Tr.letE F z=Tr.cA F z/\Tr.dq F z=F):=hJ (by
   have e:Tr.letE F z=Tr.cA F z:=aI c;exact⟨gT c,bC c,e,by unfold Tr.dq;rw[e];exact aI c⟩)
  go_in
  go_wp2_with fail
  refine sC (gX b z F _ HF.v) ?_;rintro w1 hw;subst w1;rw[E2.1,E2.2.1];go_wp2
  go_ret
  rw[E2.2.2.1,E2.2.1,E2.2.2.2];exact⟨rfl,HF.v,bE.refl _ _⟩
def Tr.tG(F:Fo):Nat->Nat
 |0=>0
 |n+1=>Tr.tG F n+if(F.nd n).kind=0 then 0 else 1
theorem Tr.O6(F:Fo)(n:Nat):Tr.tG F n<=n:=by
 induction n with
 |zero=>exact aL 0
 |succ n ih=>show Tr.tG F n+_<=n+1;split<;>omega
theorem Te(b:Nat)(F:Fo)(w:bD)(h:bN w b F):
  Calls prog 79 #[ai (bh ⟨b,0,bj⟩)] w λe w'=>e=bf (aa az (Tr.tG F 40:Int))/\w'=w:=by
 have HF:=hJ h;go_in
 go_wp2
 go_loopw [3,4,5] (λs x i wr=>∃(n:Nat),i=aa az n/\s=aa az (Tr.tG F n:Int)/\n<=40/\wr=w) (λ_ _ i _=>40-(intOf i).toNat)
 case atStart=>exact⟨0,rfl,rfl,bu,rfl⟩
 case round=>
  obtain⟨n,rfl,rfl,hn,hwr⟩:=hrel;subst wr;by_cases hlt:n<40
  .have hltI:(n:Int)<40:=bu
   have c0:=HF.si n hlt;have lc:=Tr.O6 F n;have LS:Hid (Tr.tG F (n+1)=Tr.tG F n+if(F.nd n).kind=0 then 0 else 1):=hJ rfl;by_cases k0:(F.nd n).kind=0
   .rw[aJ k0]at LS;rw[k0]at c0;have c0':w.cell? ⟨b,n*62,bj⟩=bh (aa .i64 0):=c0;go_wp2
    go_roundw
    case rel=>exact⟨n+1,by go_num,by rw[LS.v];rfl,bu,by first|rfl|trivial⟩
    case measure=>simp[intOf];omega
   .rw[aI k0]at LS;have k0':(((F.nd n).kind:Int)==0)=false:=by simp;omega
    generalize (F.nd n).kind=kk at*;generalize Tr.tG F n=cn at*;go_wp2
    go_roundw
    case rel=>exact⟨n+1,by go_num,by rw[LS.v];go_num,bu,by first|rfl|trivial⟩
    case measure=>simp[intOf];omega
  .have hltI:¬(n:Int)<40:=bu
   obtain rfl:n=40:=bu
   go_wp2
   go_ret
   exact⟨rfl,rfl⟩
def Tr.gq(F:Fo)(n:Nat)(E:Int):Prop:=(E=0/\n<40/\(F.nd n).kind=0/\∀m,m<n->(F.nd m).kind≠0)\/(E=4/\n=0/\∀m,m<40->(F.nd m).kind≠0)
theorem Tr.gq.unique{F:Fo}{n m:Nat}{E G:Int}(h:Tr.gq F n E)(k:Tr.gq F m G):n=m/\E=G:=by grind [Tr.gq]
theorem uD(b:Nat)(F:Fo)(w:bD)(h:bN w b F):
  Calls prog 164 #[ai (bh ⟨b,0,bj⟩)] w λe w'=>∃(n:Nat) (E:Int),e=bf (ao #[aa az (n:Int),bG E])/\Tr.gq F n E/\w'=w:=by
 have HF:=hJ h;go_in
 go_wp2
 go_loopw [4,5] (λx i wr=>∃(n:Nat),i=aa az n/\n<=40/\Hid (∀m,m<n->(F.nd m).kind≠0)/\wr=w) (λ_ i _=>40-(intOf i).toNat)
 case atStart=>exact⟨0,rfl,bu,λm hm=>bu,rfl⟩
 case round=>
  obtain⟨n,rfl,hn,HN,hwr⟩:=hrel;subst wr;by_cases hlt:n<40
  .have hltI:(n:Int)<40:=bu
   have c0:=HF.si n hlt;by_cases k0:(F.nd n).kind=0
   .have FIN:Hid (Tr.gq F n 0):=hJ (.inl ⟨rfl,hlt,k0,HN.v⟩);rw[k0]at c0;have c0':w.cell? ⟨b,n*62,bj⟩=bh (aa .i64 0):=c0;go_wp2
    go_ret2
    exact⟨n,0,rfl,FIN.v,rfl⟩
   .have NX:Hid (∀m,m<n+1->(F.nd m).kind≠0):=hJ (λm hm=>by
     by_cases e:m=n
     .subst e;exact k0
     .exact HN.v m bu)
    have k0':(((F.nd n).kind:Int)==0)=false:=by simp;omega
    generalize (F.nd n).kind=kk at*;go_wp2
    go_roundw
    case rel=>exact⟨n+1,by go_num,bu,NX,by first|rfl|trivial⟩
    case measure=>simp[intOf];omega
  .have hltI:¬(n:Int)<40:=bu
   obtain rfl:n=40:=bu
   go_wp2
   go_ret2
   exact⟨0,4,rfl, .inr ⟨rfl,rfl,HN.v⟩,rfl⟩
def Tr.yn(F:Fo)(z:Int):Nat:=if Tr.cA F z=0 then(F.nd z.toNat).tree else 0
theorem Kg(b:Nat)(z:Int)(F:Fo)(w:bD)(h:bN w b F):
  Calls prog 284 #[ai (bh ⟨b,0,bj⟩),aa az z] w λe w'=>e=bf (ao #[aa az (Tr.yn F z:Int),bG (Tr.cA F z)])/\w'=w:=by
 have HF:=hJ h;by_cases c:Tr.cA F z=0
 .obtain⟨n,rfl,n40,_⟩:=Tr.gO c;have c0:=h.sq n n40;have EP:Hid (Tr.cA F (n:Int)=0/\eY b (n:Int) 0=ai (bh ⟨b,n*62,bj⟩)/\Tr.yn F (n:Int)=(F.nd n).tree):=hJ ⟨c,gy b n,by unfold Tr.yn;rw[aJ c,hZ]⟩;generalize (F.nd n).tree=ff at*;go_in
  go_wp2_with fail
  refine sC (gX b n F _ HF.v) ?_;rintro w1 hw1;subst w1;rw[EP.1,EP.2.1,bB];go_wp2
  go_ret2
  rw[EP.1,EP.2.2];exact⟨rfl,rfl⟩
 .have E2:Hid (eY b z (Tr.cA F z)=ai bj/\bG (Tr.cA F z)=aq 100 (aa az (Tr.cA F z))/\Tr.yn F z=0):=hJ ⟨gT c,bC c,aI c⟩;go_in
  go_wp2_with fail
  refine sC (gX b z F _ HF.v) ?_;rintro w1 hw;subst w1;rw[E2.1,E2.2.1];go_wp2
  go_ret2
  rw[E2.2.1,E2.2.2];exact⟨rfl,rfl⟩
def Tr.ga(F:Fo)(z:Int):Int:=if z<0\/3<z then 1 else if F.trees<=z.toNat then 2 else 0
def Tr.fB(F:Fo)(z:Int):Nat:=if Tr.ga F z=0 then F.root z.toNat else 0
theorem Kf(b:Nat)(z:Int)(F:Fo)(w:bD)(h:bN w b F):
  Calls prog 230 #[ai (bh ⟨b,0,bj⟩),aa az z] w λe w'=>e=bf (ao #[aa az (Tr.fB F z:Int),bG (Tr.ga F z)])/\w'=w:=by
 by_cases c:z<0\/3<z
 .have E:Hid (Tr.ga F z=1/\Tr.fB F z=0):=hJ (by
   have e:Tr.ga F z=1:=aJ c;exact⟨e,by unfold Tr.fB;rw[e];exact aI bA⟩)
  by_cases c1:z<0
  .clear c;go_in
   go_wp2
   go_ret2
   rw[E.1,E.2];exact⟨rfl,rfl⟩
  .have c2:decide (4<=z)=true:=by simp;omega
   have c3:decide (z<0)=false:=by simp;omega
   go_in
   go_wp2
   go_ret2
   rw[E.1,E.2];exact⟨rfl,rfl⟩
 .obtain⟨n,rfl⟩:=aG (show 0<=z by omega);have n4:n<4:=bu
  have nI:(n:Int)<4:=bu
  have c2:decide (4<=(n:Int))=false:=by simp;omega
  have c0:=h.NR n n4;have c1:=h.Bp;by_cases k0:F.trees<=n
  .have E:Hid (Tr.ga F (n:Int)=2/\Tr.fB F (n:Int)=0):=hJ (by
    have e:Tr.ga F (n:Int)=2:=by unfold Tr.ga;rw[aI c,hZ,aJ k0]
    exact⟨e,by unfold Tr.fB;rw[e];exact aI bA⟩)
   have k1:(F.trees:Int)<=(n:Int):=bu
   generalize F.trees=tt at*;go_in
   go_wp2
   go_ret2
   rw[E.1,E.2];exact⟨rfl,rfl⟩
  .have E:Hid (Tr.ga F (n:Int)=0/\Tr.fB F (n:Int)=F.root n):=hJ (by
    have e:Tr.ga F (n:Int)=0:=by unfold Tr.ga;rw[aI c,hZ,aI k0]
    exact⟨e,by unfold Tr.fB;rw[e,aJ rfl,hZ]⟩)
   have k1:¬(F.trees:Int)<=(n:Int):=bu
   generalize F.trees=tt at*;generalize F.root n=rr at*;go_in
   go_wp2
   go_ret2
   rw[E.1,E.2];exact⟨rfl,rfl⟩
def Tr.fp(x:Nd)(s:bU)(z:Int):Prop:=(∃i:Nat,z=i/\i<x.size/\(x.dS i).toList=s.toList/\∀j,j<i->(x.dS j).toList≠s.toList)\/(z= -1/\∀j,j<x.size->(x.dS j).toList≠s.toList)
theorem Tr.fp.unique{x:Nd}{s:bU}{y z:Int}(h:Tr.fp x s y)(k:Tr.fp x s z):y=z:=by grind [Tr.fp]
theorem Ed(bx k:Nat)(nm s:bU)(w:bD)(h:w.cell? ⟨bx,0,bj⟩=bh (ak s))(hb:bx<w.heap.size):
  Calls prog 305 #[au #[ak nm,aa az (k:Int)],ai (bh ⟨bx,0,bj⟩)] w λe w'=>e=bf (ar (nm.toList==s.toList))/\Below w.heap.size w w':=by
 have hne:bx≠w.heap.size:=bu
 go_in
 go_wp2
 go_ret
 exact⟨rfl,(aQ _ _).alloc (aL _) _⟩
theorem H7(bx b n m c:Nat)(s:bU)(F:Fo)(w:bD)(h:bN w b F)(hx:w.cell? ⟨bx,0,bj⟩=bh (ak s))(hn:n<40)(hm:(F.nd n).size=m)(hm8:m<=8):
  Calls prog 304 #[aj (bh ⟨b,n*62+6,bj⟩) m c, .func (.func 305) #[] #[ai (bh ⟨bx,0,bj⟩)]] w λe w'=>∃z:Int,e=bf (aa az z)/\Tr.fp (F.nd n) s z/\Below w.heap.size w w':=by
 have HF:=hJ (aK h (aK hx (bZ _ _ hx)));have HM:=hJ hm;go_in
 go_wp2_with fail
 go_loopw [5,8] (λx i wr=>∃(j:Nat),i=aa az j/\j<=m/\Hid (Below w.heap.size w wr/\∀y,y<j->((F.nd n).dS y).toList≠s.toList)) (λ_ i _=>m-(intOf i).toNat)
 case atStart=>exact⟨0,rfl,bu,aQ _ _,λy hy=>bu⟩
 case round=>
  obtain⟨j,rfl,hj,R⟩:=hrel;by_cases hlt:j<m
  .have hltI:(j:Int)<(m:Int):=bu
   have c0:=(HF.1.below R.1).vW n j hn bu;have c1:=(HF.1.below R.1).tA n j hn bu;obtain⟨nm,hnm⟩:=hU ((F.nd n).dS j);have HNM:=hJ hnm;rw[hnm]at c0;generalize (F.nd n).cR j=kk at*;go_wp2_with fail
   refine sC (Ed bx kk nm s _ ((R.1.cell HF.2.2).trans HF.2.1) (aD HF.2.2 R.1.size)) ?_;rintro w1 b1;have B1:=hJ (R.1.trans (b1.mono R.1.size));by_cases e:nm.toList=s.toList
   .have e':(nm.toList==s.toList)=true:=by simpa using e
    have FIN:Hid (Tr.fp (F.nd n) s (j:Int)):=hJ (.inl ⟨j,rfl,by rw[HM.v];exact hlt,by rw[HNM.v];exact e,R.2⟩);rw[e'];go_wp2
    go_ret
    exact⟨_,rfl,FIN.v,B1.v⟩
   .have e':(nm.toList==s.toList)=false:=by simpa using e
    have NX:Hid (∀y,y<j+1->((F.nd n).dS y).toList≠s.toList):=hJ (λy hy=>by
     by_cases d:y=j
     .subst d;rw[HNM.v];exact e
     .exact R.2 y bu)
    rw[e'];go_wp2
    go_roundw
    case rel=>exact⟨j+1,by go_num,bu,B1.v,NX.v⟩
    case measure=>simp[intOf];omega
  .have hltI:¬(j:Int)<(m:Int):=bu
   have FIN:Hid (Tr.fp (F.nd n) s (-1)):=hJ (.inr ⟨rfl,λy hy=>R.2 y (by rw[HM.v]at hy;omega)⟩);go_wp2
   go_ret
   exact⟨_,rfl,FIN.v,R.1⟩
theorem qb(b n:Nat)(F:Fo)(w:bD)(h:bN w b F)(hn:n<40)(hm8:(F.nd n).size<=8):
  Calls prog 264 #[ai (bh ⟨b,n*62,bj⟩)] w λe w'=>e=bf (aj (bh ⟨b,n*62+6,bj⟩) (F.nd n).size 8)/\∃k,w'=w.drewN k:=by
 have c0:=h.mK n hn;generalize (F.nd n).size=sz at*;have h1:(sz:Int)<=8:=bu
 go_in
 go_wp2
 go_quiet (fail)
 go_wp2
 go_ret
 exact⟨rfl,_,rfl⟩
theorem Ta(w:bD)(v:Value)(T:TypeId):(w.alloc (bg #[v] T)).cell? ⟨w.heap.size,0,bj⟩=bh v:=by
 rw[bO (heap_alloc_new w (bg #[v] T))];rfl
theorem sS(b n:Nat)(s:bU)(F:Fo)(w:bD)(h:bN w b F)(hn:n<40)(hm8:(F.nd n).size<=8):
  Calls prog 282 #[ai (bh ⟨b,n*62,bj⟩),ak s] w λe w'=>∃z:Int,e=bf (aa az z)/\Tr.fp (F.nd n) s z/\Below w.heap.size w w':=by
 have S1:Hid (∀T,bN (w.alloc (bg #[ak s] T)) b F/\Below w.heap.size w (w.alloc (bg #[ak s] T))):=hJ (λT=>by
  have bb:Below w.heap.size w (w.alloc (bg #[ak s] T)):=(aQ _ _).alloc (aL _) _;exact⟨h.below bb,bb⟩)
 go_in
 go_wp2_with fail
 refine sC (qb b n F _ (S1.v _).1 hn hm8) ?_;rintro w1 ⟨k,hw⟩;subst w1;obtain⟨sz,hsz⟩:=hU ((F.nd n).size);have HSZ:=hJ hsz;rw[hsz]at hm8|-;go_wp2_with fail
 refine(H7 w.heap.size b n sz 8 s F _ ((S1.v _).1.drewN k) (Ta w _ _) hn HSZ.v hm8).mono ?_;rintro e w2 ⟨z,rfl,hp,b2⟩;have FIN:Hid (Tr.fp (F.nd n) s z/\Below w.heap.size w w2):=hJ ⟨hp,by
  have a:=(S1.v 9).2;have c:Below w.heap.size w ((w.alloc (bg #[ak s] 9)).drewN k):=⟨a.os,a.tape,a.output,a.size,a.block⟩;exact c.trans (b2.mono c.size)⟩
 go_wp2
 go_ret
 exact⟨z,rfl,FIN.v⟩
def Tr.j5(F:Fo):Prop:=∀n,n<40->(F.nd n).kind=2->(F.nd n).size<=8
def Tr.kA(F:Fo)(z:Int)(s:bU)(K:Nat)(E:Int):Prop:=
 (Tr.cD F z 2≠0/\K=0/\E=Tr.cD F z 2)\/(Tr.cD F z 2=0/\((∃i:Nat,Tr.fp (F.nd z.toNat) s i/\K=(F.nd z.toNat).cR i/\E=0)\/(Tr.fp (F.nd z.toNat) s (-1)/\K=0/\E=2)))
theorem Tr.fp.cases{x:Nd}{s:bU}{z:Int}(h:Tr.fp x s z):(∃i:Nat,z=i/\i<x.size)\/z= -1:=by grind [Tr.fp]
theorem uC(b:Nat)(z:Int)(s:bU)(F:Fo)(w:bD)(h:bN w b F)(hs:Tr.j5 F):
  Calls prog 251 #[ai (bh ⟨b,0,bj⟩),aa az z,ak s] w λe w'=>∃(K:Nat) (E:Int),e=bf (ao #[aa az (K:Int),bG E])/\Tr.kA F z s K E/\Below w.heap.size w w':=by
 have HF:=hJ h;by_cases c:Tr.cD F z 2=0
 .obtain⟨n,rfl,n40,_,k2⟩:=Tr.eZ c;have hm8:=hs n n40 k2;have EP:Hid (Tr.cD F (n:Int) 2=0/\eY b (n:Int) 0=ai (bh ⟨b,n*62,bj⟩)):=hJ ⟨c,gy b n⟩;go_in
  go_wp2_with fail
  refine sC (kV b n F _ HF.v) ?_;rintro w1 hw1;subst w1;rw[EP.1,EP.2,bB];go_wp2_with fail
  refine(sS b n s F _ HF.v n40 hm8).mono ?_;rintro e w2 ⟨y,rfl,hp,b2⟩;have HP:=hJ (aK hp b2);rcases hp.cases with⟨i,rfl,hi⟩|rfl
  .have c0:=(HF.below b2).tA n i n40 bu;have iI:(i:Int)<8:=bu
   have FIN:Hid (Tr.kA F (n:Int) s ((F.nd n).cR i) 0):=hJ (.inr ⟨EP.1, .inl ⟨i,by rw[hZ];exact hp,by rw[hZ],rfl⟩⟩);generalize (F.nd n).cR i=kk at*;go_wp2
   go_ret2
   exact⟨kk,0,rfl,FIN.v,HP.2⟩
  .have FIN:Hid (Tr.kA F (n:Int) s 0 2):=hJ (.inr ⟨EP.1, .inr ⟨by rw[hZ];exact hp,rfl,rfl⟩⟩);go_wp2
   go_ret2
   exact⟨0,2,rfl,FIN.v,HP.2⟩
 .have E2:Hid (eY b z (Tr.cD F z 2)=ai bj/\bG (Tr.cD F z 2)=aq 100 (aa az (Tr.cD F z 2))/\Tr.kA F z s 0 (Tr.cD F z 2)):=hJ ⟨gT c,bC c, .inl ⟨c,rfl,rfl⟩⟩;go_in
  go_wp2_with fail
  refine sC (kV b z F _ HF.v) ?_;rintro w1 hw;subst w1;rw[E2.1,E2.2.1];go_wp2
  go_ret2
  exact⟨0,_,by rw[E2.2.1];rfl,E2.2.2,aQ _ _⟩
def Tr.okB(c:Nat):Bool:=(decide (97<=c)&&decide (c<=122))||(decide (48<=c)&&decide (c<=57))||decide (c=46)
theorem Ec(c:Nat)(w:bD):Calls prog 303 #[aa bc (c:Int)] w λe w'=>e=bf (ar (Tr.okB c))/\w'=w:=by
 have E1:∀a:Nat,decide ((a:Int)<=(c:Int))=decide (a<=c):=λa=>by simp
 by_cases c1:97<=c
 .have d1:(97:Int)<=(c:Int):=bu
  by_cases c2:c<=122
  .have d2:(c:Int)<=122:=bu
   have HO:Hid (Tr.okB c=true):=hJ (by unfold Tr.okB;simp[c1,c2]);go_in
   go_wp2
   go_ret
   exact⟨cQ (by rw[HO.v]),rfl⟩
  .have d2:decide ((c:Int)<=122)=false:=by simp;omega
   have d3:(48:Int)<=(c:Int):=bu
   have d4:decide ((c:Int)<=57)=false:=by simp;omega
   have HO:Hid (Tr.okB c=false):=hJ (by unfold Tr.okB;simp;omega);have d5:((c:Int)==46)=false:=by simp;omega
   go_in
   go_wp2
   go_ret
   exact⟨cQ (by rw[HO.v]),rfl⟩
 .have d1:decide ((97:Int)<=(c:Int))=false:=by simp;omega
  by_cases c3:48<=c/\c<=57
  .have d3:(48:Int)<=(c:Int):=bu
   have d4:(c:Int)<=57:=bu
   have HO:Hid (Tr.okB c=true):=hJ (by unfold Tr.okB;simp;omega);go_in
   go_wp2
   go_ret
   exact⟨cQ (by rw[HO.v]),rfl⟩
  .by_cases c5:c=46
   .subst c5;have HO:Hid (Tr.okB 46=true):=hJ bA;go_in
    go_wp2
    go_ret
    exact⟨cQ (by rw[HO.v]),rfl⟩
   .have d5:((c:Int)==46)=false:=by simp;omega
    have HO:Hid (Tr.okB c=false):=hJ (by unfold Tr.okB;simp;omega);by_cases c6:48<=c
    .have d3:(48:Int)<=(c:Int):=bu
     have d4:decide ((c:Int)<=57)=false:=by simp;omega
     go_in
     go_wp2
     go_ret
     exact⟨cQ (by rw[HO.v]),rfl⟩
    .have d3:decide ((48:Int)<=(c:Int))=false:=by simp;omega
     go_in
     go_wp2
     go_ret
     exact⟨cQ (by rw[HO.v]),rfl⟩
def Tr.oX(s:bU):Nat->Bool
 |0=>true
 |n+1=>Tr.oX s n&&Tr.okB (s[n]!).toNat
theorem Tr.DA{s:bU}{j:Nat}(h:Tr.okB (s[j]!).toNat=false):∀n,j<n->Tr.oX s n=false:=by
 intro n
 induction n with
 |zero=>intro hj;omega
 |succ n ih=>
  grind [Tr.oX,Tr.okB]
def Tr.fM(s:bU):Bool:=decide (1<=s.size)&&decide (s.size<=8)&& !(s.toList==[46])&& !(s.toList==[46,46])&&Tr.oX s s.size
theorem uy(s:bU)(w:bD):Calls prog 280 #[ak s] w λe w'=>e=bf (ar (Tr.fM s))/\w'=w:=by
 by_cases c1:s.size=0
 .have HO:Hid (Tr.fM s=false):=hJ (by unfold Tr.fM;simp[c1]);have d1:(s.size:Int)<1:=bu
  go_in
  go_wp2
  go_ret
  exact⟨cQ (by rw[HO.v]),rfl⟩
 .have d1:decide ((s.size:Int)<1)=false:=by simp;omega
  by_cases c2:8<s.size
  .have HO:Hid (Tr.fM s=false):=hJ (by unfold Tr.fM;simp;omega);have d2:(8:Int)<(s.size:Int):=bu
   go_in
   go_wp2
   go_ret
   exact⟨cQ (by rw[HO.v]),rfl⟩
  .have d2:decide ((8:Int)<(s.size:Int))=false:=by simp;omega
   by_cases c3:(s.toList==[46])=true
   .have HO:Hid (Tr.fM s=false):=hJ (by unfold Tr.fM;rw[c3];simp);go_in
    go_wp2
    go_ret
    exact⟨cQ (by rw[HO.v]),rfl⟩
   .have d3:(s.toList==[46])=false:=by simpa using c3
    by_cases c4:(s.toList==[46,46])=true
    .have HO:Hid (Tr.fM s=false):=hJ (by unfold Tr.fM;rw[c4];simp);go_in
     go_wp2
     go_ret
     exact⟨cQ (by rw[HO.v]),rfl⟩
    .have d4:(s.toList==[46,46])=false:=by simpa using c4
     have HO:Hid (Tr.fM s=Tr.oX s s.size):=hJ (by unfold Tr.fM;rw[d3,d4,aO (show 1<=s.size by omega),aO (show s.size<=8 by omega)];simp);have hs8:s.size<=8:=bu
     go_in
     go_wp2_with fail
     go_loopw [3,22] (λx i wr=>∃(j:Nat),i=aa az j/\j<=s.size/\Hid (Tr.oX s j=true)/\wr=w) (λ_ i _=>s.size-(intOf i).toNat)
     case atStart=>exact⟨0,rfl,bu,rfl,rfl⟩
     case round=>
      obtain⟨j,rfl,hj,R,hwr⟩:=hrel;subst wr;by_cases hlt:j<s.size
      .have hltI:(j:Int)<(s.size:Int):=bu
       have HB:Hid (Tr.okB (s[j]!).toNat=Tr.okB (s[j]'hlt).toNat):=hJ (by rw[getElem!_pos s j hlt]);go_wp2_with fail
       refine sC (Ec (s[j]'hlt).toNat _) ?_;rintro w1 hw1;subst w1;cases ho:Tr.okB (s[j]'hlt).toNat
       .have NO:=hJ (Tr.DA (s:=s) (j:=j) (by rw[HB.v];exact ho) s.size hlt);go_wp2
        go_ret
        exact⟨cQ (by rw[HO.v,NO.v]),rfl⟩
       .have NX:Hid (Tr.oX s (j+1)=true):=hJ (by
         show(Tr.oX s j&&Tr.okB (s[j]!).toNat)=true;rw[R.v,HB.v,ho];rfl)
        go_wp2
        go_roundw
        case rel=>exact⟨j+1,by go_num,bu,NX,by first|rfl|trivial⟩
        case measure=>simp[intOf];omega
      .have hltI:¬(j:Int)<(s.size:Int):=bu
       have hje:j=s.size:=bu
       have FIN:Hid (Tr.oX s s.size=true):=hJ (by rw[<-hje];exact R.v);go_wp2
       go_ret
       exact⟨cQ (by rw[HO.v,FIN.v]),rfl⟩
def Tr.nU(x:Nd)(s:bU)(E:Int):Prop:=(Tr.fM s=false/\E=9)\/(Tr.fM s=true/\((∃i:Nat,Tr.fp x s i/\E=3)\/(Tr.fp x s (-1)/\((x.size=8/\E=4)\/(x.size≠8/\E=0)))))
theorem uE(b n:Nat)(s:bU)(F:Fo)(w:bD)(h:bN w b F)(hn:n<40)(hm8:(F.nd n).size<=8):
  Calls prog 256 #[ai (bh ⟨b,n*62,bj⟩),ak s] w λe w'=>∃E,e=bf (bG E)/\Tr.nU (F.nd n) s E/\Below w.heap.size w w':=by
 have HF:=hJ h;go_in
 go_wp2_with fail
 refine sC (uy s _) ?_;rintro w1 hw1;subst w1;cases hb:Tr.fM s
 .have FIN:Hid (Tr.nU (F.nd n) s 9):=hJ (.inl ⟨hb,rfl⟩);go_wp2
  go_ret
  exact⟨9,rfl,FIN.v,aQ _ _⟩
 .have HB:=hJ hb;go_wp2_with fail
  refine(sS b n s F _ HF.v hn hm8).mono ?_;rintro e w2 ⟨y,rfl,hp,b2⟩;have B2:=hJ b2;rcases hp.cases with⟨i,rfl,hi⟩|rfl
  .have FIN:Hid (Tr.nU (F.nd n) s 3):=hJ (.inr ⟨HB.v, .inl ⟨i,hp,rfl⟩⟩);go_wp2
   go_ret
   exact⟨3,rfl,FIN.v,B2.v⟩
  .have c0:=(HF.below b2).mK n hn;by_cases s8:(F.nd n).size=8
   .have FIN:Hid (Tr.nU (F.nd n) s 4):=hJ (.inr ⟨HB.v, .inr ⟨hp, .inl ⟨s8,rfl⟩⟩⟩);rw[s8]at c0;have c0':w2.cell? ⟨b,n*62+3,bj⟩=bh (aa .i64 8):=c0;go_wp2
    go_ret
    exact⟨4,rfl,FIN.v,B2.v⟩
   .have FIN:Hid (Tr.nU (F.nd n) s 0):=hJ (.inr ⟨HB.v, .inr ⟨hp, .inr ⟨s8,rfl⟩⟩⟩);have s8':(((F.nd n).size:Int)==8)=false:=by simp;omega
    generalize (F.nd n).size=sz at*;go_wp2
    go_ret
    exact⟨0,rfl,FIN.v,B2.v⟩
def Tr.nW(F:Fo)(z:Int)(s:bU)(E:Int):Prop:=(Tr.cD F z 2≠0/\E=Tr.cD F z 2)\/(Tr.cD F z 2=0/\Tr.nU (F.nd z.toNat) s E)
theorem rm(b:Nat)(z:Int)(s:bU)(F:Fo)(w:bD)(h:bN w b F)(hs:Tr.j5 F):
  Calls prog 259 #[ai (bh ⟨b,0,bj⟩),aa az z,ak s] w λe w'=>∃E,e=bf (ao #[eY b z E,bG E])/\Tr.nW F z s E/\Below w.heap.size w w':=by
 have HF:=hJ h;by_cases c:Tr.cD F z 2=0
 .obtain⟨n,rfl,n40,_,k2⟩:=Tr.eZ c;have hm8:=hs n n40 k2;have EP:Hid (Tr.cD F (n:Int) 2=0/\eY b (n:Int) 0=ai (bh ⟨b,n*62,bj⟩)):=hJ ⟨c,gy b n⟩;go_in
  go_wp2_with fail
  refine sC (kV b n F _ HF.v) ?_;rintro w1 hw1;subst w1;rw[EP.1,EP.2,bB];go_wp2_with fail
  refine(uE b n s F _ HF.v n40 hm8).mono ?_;rintro e w2 ⟨E,rfl,hr,b2⟩;have FIN:Hid (Tr.nW F (n:Int) s E/\Below w.heap.size w w2):=hJ ⟨.inr ⟨EP.1,by rw[hZ];exact hr⟩,b2⟩;by_cases e0:E=0
  .subst e0;rw[bB];go_wp2
   go_ret2
   exact⟨0,by rw[EP.2];rfl,FIN.v⟩
  .have E2:Hid (eY b (n:Int) E=ai bj/\bG E=aq 100 (aa az E)):=hJ ⟨gT e0,bC e0⟩;rw[E2.2];go_wp2
   go_ret2
   exact⟨E,by rw[E2.1,E2.2];rfl,FIN.v⟩
 .have E2:Hid (eY b z (Tr.cD F z 2)=ai bj/\bG (Tr.cD F z 2)=aq 100 (aa az (Tr.cD F z 2))/\Tr.nW F z s (Tr.cD F z 2)):=hJ ⟨gT c,bC c, .inl ⟨c,rfl⟩⟩;go_in
  go_wp2_with fail
  refine sC (kV b z F _ HF.v) ?_;rintro w1 hw;subst w1;rw[E2.1,E2.2.1];go_wp2
  go_ret2
  exact⟨_,by rw[E2.1,E2.2.1];rfl,E2.2.2,aQ _ _⟩

import Derived.Test.YtpmmdkcfenjiaaaGreatDoorXab
set_option maxRecDepth 100000
set_option maxHeartbeats 1000000
set_option linter.unusedVariables false
set_option linter.unusedSimpArgs false
namespace Go.Proofs.YtpmmdkcfenjiaaaGreatDoor
open Value renaming int->aa,pointer->ai,string->ak,tuple->ao,iface->aq
open IntKind renaming i64->bf
open Ending renaming returned->bw
open Obj renaming cells->bA
open Option renaming some->bB,none->bC
open Bool renaming true->bE,false->bF
open Tryz (prog)
open Go.RowKit
variable {E z:Int}{n:Nat}{s:bU}
namespace Tr
structure Nd where
 kind:Nat
 cW:Nat
 held:Nat
 size:Nat
 tree:Nat
 up:Nat
 eN:Nat->bU
 db:Nat->Nat
 dc:Nat->Int
structure Fo where
 nd:Nat->Nd
 root:Nat->Nat
 trees:Nat
def Nd.no:Nd:=⟨0,0,0,0,0,0,λ_=>⟨#[]⟩,λ_=>0,λ_=>0⟩
def Fo.put(F:Fo)(n:Nat)(x:Nd):Fo:={F with nd:=λm=>if m=n then x else F.nd m}
theorem bR(F:Fo)(n:Nat)(x:Nd):(F.put n x).nd n=x:=aJ rfl
theorem cr(F:Fo)(n:Nat)(x:Nd)(m:Nat)(h:m≠n):(F.put n x).nd m=F.nd m:=aI h
def f0:Fo:=⟨λ_=>Nd.no,λ_=>0,0⟩
def cM(F:Fo)(z:Int):Int:=if z<0\/39<z then 1 else if(F.nd z.toNat).kind=0 then 2 else 0
def cQ(F:Fo)(z:Int)(k:Nat):Int:=if cM F z≠0 then cM F z else if(F.nd z.toNat).kind=k then 0 else 11
theorem ic{F:Fo}(h:cM F z=0):∃n:Nat,z=n/\n<40/\(F.nd n).kind≠0:=by grind [cM]
theorem fE{F:Fo}{k:Nat}(h:cQ F z k=0):∃n:Nat,z=n/\n<40/\(F.nd n).kind≠0/\(F.nd n).kind=k:=by grind [cQ,cM]
end Tr
open Tr (Fo Nd)
def iU(x:Nd)(j:Nat):Value:=
 if j=0 then aa bf (x.kind:Int)else if j=1 then aa bf (x.cW:Int)else if j=2 then aa bf (x.held:Int)else if j=3 then aa bf (x.size:Int)else if j=4 then aa bf (x.tree:Int)else if j=5 then aa bf (x.up:Int)
 else if j<22 then(if j%2=0 then ak (x.eN ((j-6)/2))else aa bf (x.db ((j-6)/2):Int))else aa .u8 (x.dc (j-22))
def jQ(F:Fo)(o:Nat):Value:=if o<2480 then iU (F.nd (o/62)) (o%62)else if o<2484 then aa bf (F.root (o-2480):Int)else aa bf (F.trees:Int)
structure cv (w:bD)(b:Nat)(F:Fo):Prop where
 dk:∃C,w.heap[b]? =bB (bA C 208 (0,0))/\C.size=2485
 cell:∀o,o<2485->w.cell? ⟨b,o,bC⟩=bB (jQ F o)
section
variable {w w':bD}{b:Nat}{F F':Fo}
theorem cv.drewN(h:cv w b F)(n:Nat):cv (w.drewN n) b F:=⟨h.dk,h.cell⟩
theorem cv.drew(h:cv w b F):cv w.drew b F:=⟨h.dk,h.cell⟩
theorem cv.frozen(h:cv w b F)(o:Nat):w.frozen? ⟨b,o,bC⟩=bF:=by obtain⟨C,h1,_⟩:=h.dk;exact cL h1 o
theorem cv.lt(h:cv w b F):b<w.heap.size:=by obtain⟨C,h1,_⟩:=h.dk;exact(aX.1 h1).1
theorem cv.same(h:cv w b F)(e:w'.heap[b]? =w.heap[b]?):cv w' b F:=⟨by rw[e];exact h.dk,λo ho=>(aV e).trans (h.cell o ho)⟩
theorem cv.below(h:cv w b F)(k:Below w.heap.size w w'):cv w' b F:=h.same (k.block b h.lt)
theorem cv.nd(h:cv w b F)(n j:Nat)(hn:n<40)(hj:j<62):w.cell? ⟨b,n*62+j,bC⟩=bB (iU (F.nd n) j):=by
 rw[h.cell _ bG,jQ,nK,show(n*62+j)/62=n by omega,show(n*62+j)%62=j by omega]
theorem cv.sZ(h:cv w b F)(n:Nat)(hn:n<40):w.cell? ⟨b,n*62,bC⟩=bB (aa bf ((F.nd n).kind:Int)):=h.nd n 0 hn bG
theorem cv.uz(h:cv w b F)(n:Nat)(hn:n<40):w.cell? ⟨b,n*62+1,bC⟩=bB (aa bf ((F.nd n).cW:Int)):=h.nd n 1 hn bG
theorem cv.yz(h:cv w b F)(n:Nat)(hn:n<40):w.cell? ⟨b,n*62+2,bC⟩=bB (aa bf ((F.nd n).held:Int)):=h.nd n 2 hn bG
theorem cv.nM(h:cv w b F)(n:Nat)(hn:n<40):w.cell? ⟨b,n*62+3,bC⟩=bB (aa bf ((F.nd n).size:Int)):=h.nd n 3 hn bG
theorem cv.s9(h:cv w b F)(n:Nat)(hn:n<40):w.cell? ⟨b,n*62+4,bC⟩=bB (aa bf ((F.nd n).tree:Int)):=h.nd n 4 hn bG
theorem cv.UP(h:cv w b F)(n:Nat)(hn:n<40):w.cell? ⟨b,n*62+5,bC⟩=bB (aa bf ((F.nd n).up:Int)):=h.nd n 5 hn bG
theorem AY(x:Nd)(i:Nat)(hi:i<8):iU x (6+i*2)=ak (x.eN i):=by grind [iU]
theorem AX(x:Nd)(i:Nat)(hi:i<8):iU x (6+i*2+1)=aa bf (x.db i:Int):=by grind [iU]
theorem rk(x:Nd)(i:Nat):iU x (22+i)=aa .u8 (x.dc i):=by grind [iU]
theorem cv.wZ(h:cv w b F)(n i:Nat)(hn:n<40)(hi:i<8):w.cell? ⟨b,n*62+6+i*2,bC⟩=bB (ak ((F.nd n).eN i)):=by
 rw[show n*62+6+i*2=n*62+(6+i*2)by omega,h.nd n _ hn bG,AY _ i hi]
theorem cv.uy(h:cv w b F)(n i:Nat)(hn:n<40)(hi:i<8):w.cell? ⟨b,n*62+6+i*2+1,bC⟩=bB (aa bf ((F.nd n).db i:Int)):=by
 rw[show n*62+6+i*2+1=n*62+(6+i*2+1)by omega,h.nd n _ hn bG,AX _ i hi]
theorem cv.UZ(h:cv w b F)(n i:Nat)(hn:n<40)(hi:i<40):w.cell? ⟨b,n*62+22+i,bC⟩=bB (aa .u8 ((F.nd n).dc i)):=by
 rw[show n*62+22+i=n*62+(22+i)by omega,h.nd n _ hn bG,rk]
theorem cv.Pd(h:cv w b F)(t:Nat)(ht:t<4):w.cell? ⟨b,2480+t,bC⟩=bB (aa bf (F.root t:Int)):=by
 rw[h.cell _ bG,jQ,nJ,nK,show 2480+t-2480=t by omega]
theorem cv.CK(h:cv w b F):w.cell? ⟨b,2484,bC⟩=bB (aa bf (F.trees:Int)):=h.cell 2484 bG
theorem cv.set(h:cv w b F)(o:Nat)(ho:o<2485)(v:Value)(hv:∀i,i<2485->jQ F' i=if i=o then v else jQ F i):cv (w.setCell ⟨b,o,bC⟩ v) b F':=by
 obtain⟨C,h1,h2⟩:=h.dk;refine⟨⟨_,cT h1 _ v,by simpa using h2⟩,λi hi=>?_⟩;rw[hv i hi];by_cases e:i=o
 .subst e;rw[dH h1 _ v bG,aJ rfl]
 .rw[dw h1 _ _ v (bQ e),aI e];exact h.cell i hi
theorem cv.kM(h:cv w b F)(n j:Nat)(hn:n<40)(hj:j<62)(v:Value)(x:Nd)(hx:∀i,i<62->iU x i=if i=j then v else iU (F.nd n) i):cv (w.setCell ⟨b,n*62+j,bC⟩ v) b (F.put n x):=by
 refine h.set (n*62+j) bG v (λo ho=>?_);unfold jQ;by_cases c:o<2480
 .rw[aJ c,aJ c];by_cases d:o/62=n
  .rw[d,Tr.bR,hx (o%62) bG];grind
  .rw[Tr.cr _ _ _ _ d,nJ]
 .rw[aI c,aI c,aI (show¬o=n*62+j by omega)];rfl
theorem cv.congr(h:cv w b F)(e:∀o,o<2485->jQ F' o=jQ F o):cv w b F':=⟨h.dk,λo ho=>by rw[e o ho];exact h.cell o ho⟩
end
section
variable {w:bD}{b:Nat}{F:Fo}
theorem cv.xJ(h:cv w b F)(n v:Nat)(hn:n<40):cv (w.setCell ⟨b,n*62+1,bC⟩ (aa bf (v:Int))) b (F.put n {F.nd n with cW:=v}):=h.kM n 1 hn bG _ _ (λi _=>by
 by_cases c:i=1
 .subst c;rfl
 .rw[aI c];unfold iU;rw[aI c,aI c])
theorem cv.GP(h:cv w b F)(n v:Nat)(hn:n<40):cv (w.setCell ⟨b,n*62+2,bC⟩ (aa bf (v:Int))) b (F.put n {F.nd n with held:=v}):=h.kM n 2 hn bG _ _ (λi _=>by
 by_cases c:i=2
 .subst c;rfl
 .rw[aI c];unfold iU;rw[aI c,aI c])
theorem cv.Av(h:cv w b F)(n v:Nat)(hn:n<40):cv (w.setCell ⟨b,n*62+3,bC⟩ (aa bf (v:Int))) b (F.put n {F.nd n with size:=v}):=h.kM n 3 hn bG _ _ (λi _=>by
 by_cases c:i=3
 .subst c;rfl
 .rw[aI c];unfold iU;rw[aI c,aI c])
theorem cv.Us(h:cv w b F)(n v:Nat)(hn:n<40):cv (w.setCell ⟨b,n*62+5,bC⟩ (aa bf (v:Int))) b (F.put n {F.nd n with up:=v}):=h.kM n 5 hn bG _ _ (λi _=>by
 by_cases c:i=5
 .subst c;rfl
 .rw[aI c];unfold iU;rw[aI c,aI c])
def iB{α:Type}(f:Nat->α)(i:Nat)(v:α):Nat->α:=λj=>if j=i then v else f j
theorem qO{α:Type}(f:Nat->α)(i:Nat)(v:α):iB f i v i=v:=aJ rfl
theorem vz{α:Type}(f:Nat->α)(i:Nat)(v:α)(j:Nat)(h:j≠i):iB f i v j=f j:=aI h
theorem cv.TJ(h:cv w b F)(n i:Nat)(v:bU)(hn:n<40)(hi:i<8):cv (w.setCell ⟨b,n*62+6+i*2,bC⟩ (ak v)) b (F.put n {F.nd n with eN:=iB (F.nd n).eN i v}):=by
 rw[show n*62+6+i*2=n*62+(6+i*2)by omega];refine h.kM n (6+i*2) hn bG _ _ (λj hj=>?_);grind [AY,iB,qO,iU]
theorem cv.TG(h:cv w b F)(n i v:Nat)(hn:n<40)(hi:i<8):cv (w.setCell ⟨b,n*62+6+i*2+1,bC⟩ (aa bf (v:Int))) b (F.put n {F.nd n with db:=iB (F.nd n).db i v}):=by
 rw[show n*62+6+i*2+1=n*62+(6+i*2+1)by omega];refine h.kM n (6+i*2+1) hn bG _ _ (λj hj=>?_);grind [AX,iB,qO,iU]
theorem cv.Rv(h:cv w b F)(t v:Nat)(ht:t<4):cv (w.setCell ⟨b,2480+t,bC⟩ (aa bf (v:Int))) b {F with root:=iB F.root t v}:=by
 refine h.set (2480+t) bG _ (λo ho=>?_);grind [jQ,iB]
theorem cv.OL(h:cv w b F)(v:Nat):cv (w.setCell ⟨b,2484,bC⟩ (aa bf (v:Int))) b {F with trees:=v}:=by
 refine h.set 2484 bG _ (λo ho=>?_);grind [jQ]
end
def fD(b:Nat)(z E:Int):Value:=if E=0 then ai (bB ⟨b,z.toNat*62,bC⟩)else ai bC
theorem gN(b n:Nat):fD b (n:Int) 0=ai (bB ⟨b,n*62,bC⟩):=by unfold fD;rw[aJ rfl,hZ]
theorem ir{b:Nat}(h:E≠0):fD b z E=ai none:=aI h
theorem iA(b:Nat)(z:Int)(F:Fo)(w:bD)(h:cv w b F):
  Calls prog 266 #[ai (bB ⟨b,0,bC⟩),aa bf z] w λe w'=>e=bw (ao #[fD b z (Tr.cM F z),bS (Tr.cM F z)])/\w'=w:=by
 by_cases c:z<0\/39<z
 .have E:Hid (Tr.cM F z=1):=hJ (aJ c);have E2:Hid (fD b z 1=ai bC):=hJ (ir bM);by_cases c1:z<0
  .clear c;go_in
   go_wp2
   go_ret2
   rw[E.v,E2.v];exact⟨rfl,rfl⟩
  .have c2:decide (40<=z)=bE:=by simp;omega
   have c3:decide (z<0)=bF:=by simp;omega
   go_in
   go_wp2
   go_ret2
   rw[E.v,E2.v];exact⟨rfl,rfl⟩
 .obtain⟨n,rfl⟩:=aG (show 0<=z by omega);have n40:n<40:=bG
  have nI:(n:Int)<40:=bG
  have c2:decide (40<=(n:Int))=bF:=by simp;omega
  have c0:=h.sZ n n40;by_cases k0:(F.nd n).kind=0
  .have E:Hid (Tr.cM F (n:Int)=2):=hJ (by unfold Tr.cM;rw[aI c,hZ,aJ k0]);have E2:Hid (fD b (n:Int) 2=ai bC):=hJ (ir bM);rw[k0]at c0;have c0':w.cell? ⟨b,n*62,bC⟩=bB (aa .i64 0):=c0;go_in
   go_wp2
   go_ret2
   rw[E.v,E2.v];exact⟨rfl,rfl⟩
  .have E:Hid (Tr.cM F (n:Int)=0):=hJ (by unfold Tr.cM;rw[aI c,hZ,aI k0]);have E2:Hid (fD b (n:Int) 0=ai (bB ⟨b,n*62,bC⟩)):=hJ (gN b n);have k0':(((F.nd n).kind:Int)==0)=bF:=by simp;omega
   generalize (F.nd n).kind=kk at*;go_in
   go_wp2
   go_ret2
   rw[E.v,E2.v];exact⟨rfl,rfl⟩
theorem wU(b:Nat)(z:Int)(k:Nat)(F:Fo)(w:bD)(h:cv w b F):
  Calls prog 283 #[ai (bB ⟨b,0,bC⟩),aa bf z,aa bf (k:Int)] w λe w'=>e=bw (ao #[fD b z (Tr.cQ F z k),bS (Tr.cQ F z k)])/\w'=w:=by
 have HF:=hJ h;by_cases c:Tr.cM F z=0
 .obtain⟨n,rfl,n40,_⟩:=Tr.ic c;have c0:=h.sZ n n40;have EP:Hid (Tr.cM F (n:Int)=0):=hJ c;by_cases d:(F.nd n).kind=k
  .have E:Hid (Tr.cQ F (n:Int) k=0):=hJ (by unfold Tr.cQ;rw[aI (λe=>e c),hZ,aJ d]);have E2:Hid (fD b (n:Int) 0=ai (bB ⟨b,n*62,bC⟩)):=hJ (gN b n);rw[d]at c0;go_in
   go_wp2_with fail
   refine sC (iA b n F _ HF.v) ?_;rintro w1 hw;subst w1;rw[EP.v,E2.v,bN];go_wp2
   go_ret2
   rw[E.v,E2.v];exact⟨rfl,rfl⟩
  .have E:Hid (Tr.cQ F (n:Int) k=11):=hJ (by unfold Tr.cQ;rw[aI (λe=>e c),hZ,aI d]);have E2:Hid (fD b (n:Int) 0=ai (bB ⟨b,n*62,bC⟩)/\fD b (n:Int) 11=ai bC):=hJ ⟨gN b n,ir bM⟩;have d':(((F.nd n).kind:Int)==(k:Int))=bF:=by simp;omega
   generalize (F.nd n).kind=kk at*;go_in
   go_wp2_with fail
   refine sC (iA b n F _ HF.v) ?_;rintro w1 hw;subst w1;rw[EP.v,E2.1,bN];go_wp2
   go_ret2
   rw[E.v,E2.2];exact⟨rfl,rfl⟩
 .have E:Hid (Tr.cQ F z k=Tr.cM F z):=hJ (aJ c);have E2:Hid (fD b z (Tr.cM F z)=ai bC/\bS (Tr.cM F z)=aq 100 (aa bf (Tr.cM F z))):=hJ ⟨ir c,bP c⟩;go_in
  go_wp2_with fail
  refine sC (iA b z F _ HF.v) ?_;rintro w1 hw;subst w1;rw[E2.1,E2.2];go_wp2
  go_ret2
  rw[E.v,E2.1,E2.2];exact⟨rfl,rfl⟩
theorem lQ(b:Nat)(z:Int)(F:Fo)(w:bD)(h:cv w b F):
  Calls prog 254 #[ai (bB ⟨b,0,bC⟩),aa bf z] w λe w'=>e=bw (ao #[fD b z (Tr.cQ F z 2),bS (Tr.cQ F z 2)])/\w'=w:=by
 have HF:=hJ (wU b z 2 F w h);obtain⟨v1,hv1⟩:∃v,fD b z (Tr.cQ F z 2)=v:=⟨_,rfl⟩;obtain⟨v2,hv2⟩:∃v,bS (Tr.cQ F z 2)=v:=⟨_,rfl⟩;rw[hv1,hv2]at HF|-;go_in
 go_wp2_with fail
 refine sC HF.v ?_;rintro w1 hw;subst w1;go_wp2
 go_ret2
 exact⟨rfl,rfl⟩
theorem iR(b:Nat)(z:Int)(F:Fo)(w:bD)(h:cv w b F):
  Calls prog 258 #[ai (bB ⟨b,0,bC⟩),aa bf z] w λe w'=>e=bw (ao #[fD b z (Tr.cQ F z 1),bS (Tr.cQ F z 1)])/\w'=w:=by
 have HF:=hJ (wU b z 1 F w h);obtain⟨v1,hv1⟩:∃v,fD b z (Tr.cQ F z 1)=v:=⟨_,rfl⟩;obtain⟨v2,hv2⟩:∃v,bS (Tr.cQ F z 1)=v:=⟨_,rfl⟩;rw[hv1,hv2]at HF|-;go_in
 go_wp2_with fail
 refine sC HF.v ?_;rintro w1 hw;subst w1;go_wp2
 go_ret2
 exact⟨rfl,rfl⟩
def dA(x:Nd):Array Value:=((List.range 62).map (iU x)).toArray
theorem DM(x:Nd)(i:Nat)(h:i<62):(dA x)[i]? =bB (iU x i):=by simp[dA,h]
theorem nW(x:Nd):(dA x).size=62:=by simp[dA]
theorem jr(x:Nd):(dA x).toList.length=62:=by simp[dA]
theorem pA(x:Nd):(dA x).all (·.oneCell')=bE:=by
 rw[Array.all_eq_true_iff_forall_mem];intro v hv;simp only[dA,List.mem_toArray,List.mem_map]at hv;obtain⟨o,_,rfl⟩:=hv;unfold iU
 repeat' split
 all_goals rfl
section
variable {w:bD}{b:Nat}{F:Fo}
theorem lR(b:Nat):∀(vs:List Value) (o:Nat) (w:bD) (C:Array Value) {T:TypeId},w.heap[b]? =bB (bA C T (0,0))->∃C',(w.setCells b o vs).heap[b]? =bB (bA C' T (0,0))/\C'.size=C.size
 |[],_,_,C,_,h=>⟨C,h,rfl⟩
 |v::r,o,w,C,_,h=>by
  obtain⟨C',h1,h2⟩:=lR b r (o+1) _ _ (cT h o v);exact⟨C',h1,by simpa using h2⟩
theorem cv.setNode(h:cv w b F)(n:Nat)(hn:n<40)(x:Nd):cv (w.setCells b (n*62) (dA x).toList) b (F.put n x):=by
 obtain⟨C,h1,h2⟩:=h.dk;obtain⟨C',k1,k2⟩:=lR b (dA x).toList (n*62) w C h1;refine⟨⟨C',k1,bG⟩,λo ho=>?_⟩;by_cases c:n*62<=o/\o<n*62+62
 .obtain⟨j,rfl,hj⟩:∃j,o=n*62+j/\j<62:=⟨o-n*62,bG,bG⟩;rw[aS b (dA x).toList (n*62) w (λi hi=>by rw[jr]at hi;rw[h.cell _ bG];rfl) j (by rw[jr];exact hj),<-aW (by rw[jr];exact hj),aM,DM x j hj];unfold jQ;rw[nK,show(n*62+j)/62=n by omega,show(n*62+j)%62=j by omega,Tr.bR]
 .rw[aA b _ (n*62) w ⟨b,o,bC⟩ (λ_ _=>by rw[jr];show o<_\/_<=o;omega),h.cell o ho];unfold jQ;by_cases d:o<2480
  .rw[aJ d,aJ d,Tr.cr _ _ _ _ bG]
  .rw[aI d,aI d];rfl
theorem cv.there(h:cv w b F)(n:Nat)(hn:n<40)(x:Nd):w.there b (n*62) (dA x).size:=λj hj=>by
 rw[nW]at hj;exact⟨by rw[h.cell _ bG];rfl,h.frozen _⟩
theorem px(x:Nd):(prog.info? 204).map (·.size)=bB (dA x).size:=by rw[nW];kernel_rfl
end
section
variable {ops:Array Oper}{rest:List Oper}{x:Oper}{a:Act}{w:bD}{Q:Exit->Act->bD->Prop}
theorem xU(hgd:x.guard=bC)(ho:x.op= .build 204 #[])(h:wpList prog ops Q rest (a.put x.dst (.agg (dA Nd.no))) w):wpList prog ops Q (x::rest) a w:=
 wpList_plain hgd λ_ hK=>by
  unfold Oper.wp execOp;simp only[ho];simp[go_sem];exact hK _ _ h
end
def Tr.mj(F:Fo)(n:Nat):Fo:=if(F.nd n).cW=0/\(F.nd n).held=0 then F.put n Nd.no else F
theorem Tr.GX{F:Fo}(h:(F.nd n).cW=0/\(F.nd n).held=0):Tr.mj F n=F.put n Nd.no:=aJ h
theorem Tr.Em{F:Fo}(h:¬((F.nd n).cW=0/\(F.nd n).held=0)):Tr.mj F n=F:=aI h
theorem tQ(b n:Nat)(F:Fo)(w:bD)(h:cv w b F)(hn:n<40):
  Calls prog 253 #[ai (bB ⟨b,0,bC⟩),aa bf (n:Int)] w λe w'=>e=bw (ao #[])/\cv w' b (Tr.mj F n)/\bO b w w':=by
 have nI:(n:Int)<40:=bG
 have c1:=h.uz n hn;have c2:=h.yz n hn;by_cases l0:(F.nd n).cW=0
 .rw[l0]at c1;have c1':w.cell? ⟨b,n*62+1,bC⟩=bB (aa .i64 0):=c1;by_cases h0:(F.nd n).held=0
  .rw[h0]at c2;have c2':w.cell? ⟨b,n*62+2,bC⟩=bB (aa .i64 0):=c2;have FIN:Hid (cv (w.setCells b (n*62) (dA Nd.no).toList) b (Tr.mj F n)/\bO b w (w.setCells b (n*62) (dA Nd.no).toList)):=hJ ⟨by rw[Tr.GX ⟨l0,h0⟩];exact h.setNode n hn _,bO.setCells _ _ (bO.refl b w)⟩;have TH:=hJ (h.there n hn Nd.no);have HS:=hJ (px Nd.no);have H1:=hJ (pA Nd.no);obtain⟨A,hA⟩:=hU (dA Nd.no);rw[hA]at FIN TH HS H1;go_in
   go_wp2_with (first|(refine xU rfl rfl ?_;rw[hA])|(refine wpList_store_mid rfl 204 _ _ rfl b (n*62) A rfl rfl TH.v HS.v H1.v ?_))
   go_end0
   exact⟨rfl,FIN.v⟩
  .have h0':(((F.nd n).held:Int)==0)=bF:=by simp;omega
   have FIN:Hid (cv w b (Tr.mj F n)):=hJ (by rw[Tr.Em (λc=>h0 c.2)];exact h);generalize (F.nd n).held=hh at*;go_in
   go_wp2
   go_end0
   exact⟨rfl,FIN.v,bO.refl _ _⟩
 .have l0':(((F.nd n).cW:Int)==0)=bF:=by simp;omega
  have FIN:Hid (cv w b (Tr.mj F n)):=hJ (by rw[Tr.Em (λc=>l0 c.1)];exact h);generalize (F.nd n).cW=ll at*;go_in
  go_wp2
  go_end0
  exact⟨rfl,FIN.v,bO.refl _ _⟩
def Tr.dO(F:Fo)(z:Int):Fo:=if Tr.cM F z=0 then F.put z.toNat {F.nd z.toNat with held:=(F.nd z.toNat).held+1}else F
theorem rG(b:Nat)(z:Int)(F:Fo)(w:bD)(h:cv w b F)(hb:∀n,n<40->(F.nd n).held<2^60):
  Calls prog 231 #[ai (bB ⟨b,0,bC⟩),aa bf z] w λe w'=>e=bw (bS (Tr.cM F z))/\cv w' b (Tr.dO F z)/\bO b w w':=by
 have HF:=hJ h;by_cases c:Tr.cM F z=0
 .obtain⟨n,rfl,n40,_⟩:=Tr.ic c;have c0:=h.yz n n40;have cf:=h.frozen;have hl:=hb n n40;have EP:Hid (Tr.cM F (n:Int)=0/\fD b (n:Int) 0=ai (bB ⟨b,n*62,bC⟩)):=hJ ⟨c,gN b n⟩;have FIN:Hid (cv (w.setCell ⟨b,n*62+2,bC⟩ (aa bf (((F.nd n).held+1:Nat):Int))) b (Tr.dO F (n:Int))):=hJ (by
   unfold Tr.dO;rw[aJ c,hZ];exact h.GP n _ n40)
  generalize (F.nd n).held=hh at*;have hw:IntKind.i64.wrap ((hh:Int)+1)=(hh:Int)+1:=aN _ ⟨by omega,bG⟩;go_in
  go_wp2_with fail
  refine sC (iA b n F _ HF.v) ?_;rintro w1 hw1;subst w1;rw[EP.1,EP.2,bN];go_wp2
  go_ret
  rw[EP.1];exact⟨rfl,FIN.v,(bO.refl b w).setCell _ _⟩
 .have E2:Hid (fD b z (Tr.cM F z)=ai bC/\bS (Tr.cM F z)=aq 100 (aa bf (Tr.cM F z))/\Tr.dO F z=F):=hJ ⟨ir c,bP c,aI c⟩;go_in
  go_wp2_with fail
  refine sC (iA b z F _ HF.v) ?_;rintro w1 hw;subst w1;rw[E2.1,E2.2.1];go_wp2
  go_ret
  rw[E2.2.1,E2.2.2];exact⟨rfl,HF.v,bO.refl _ _⟩
def Tr.letE(F:Fo)(z:Int):Int:=if Tr.cM F z=0 then(if(F.nd z.toNat).held=0 then 8 else 0)else Tr.cM F z
def Tr.dF(F:Fo)(z:Int):Fo:=if Tr.letE F z=0 then Tr.mj (F.put z.toNat {F.nd z.toNat with held:=(F.nd z.toNat).held-1}) z.toNat else F
theorem tO(b:Nat)(z:Int)(F:Fo)(w:bD)(h:cv w b F)(hb:∀n,n<40->(F.nd n).held<2^60):
  Calls prog 226 #[ai (bB ⟨b,0,bC⟩),aa bf z] w λe w'=>e=bw (bS (Tr.letE F z))/\cv w' b (Tr.dF F z)/\bO b w w':=by
 have HF:=hJ h;by_cases c:Tr.cM F z=0
 .obtain⟨n,rfl,n40,_⟩:=Tr.ic c;have c0:=h.yz n n40;have cf:=h.frozen;have hl:=hb n n40;have EP:Hid (Tr.cM F (n:Int)=0/\fD b (n:Int) 0=ai (bB ⟨b,n*62,bC⟩)):=hJ ⟨c,gN b n⟩;by_cases h0:(F.nd n).held=0
  .have E:Hid (Tr.letE F (n:Int)=8/\Tr.dF F (n:Int)=F):=hJ (by
    have e:Tr.letE F (n:Int)=8:=by unfold Tr.letE;rw[aJ c,hZ,aJ h0]
    exact⟨e,by unfold Tr.dF;rw[e];exact aI bM⟩)
   rw[h0]at c0;have c0':w.cell? ⟨b,n*62+2,bC⟩=bB (aa .i64 0):=c0;go_in
   go_wp2_with fail
   refine sC (iA b n F _ HF.v) ?_;rintro w1 hw1;subst w1;rw[EP.1,EP.2,bN];go_wp2
   go_ret
   rw[E.1,E.2];exact⟨rfl,HF.v,bO.refl _ _⟩
  .obtain⟨hh,hhe⟩:∃hh,(F.nd n).held=hh+1:=⟨(F.nd n).held-1,bG⟩;have E:Hid (Tr.letE F (n:Int)=0/\Tr.dF F (n:Int)=Tr.mj (F.put n {F.nd n with held:=hh}) n):=hJ (by
    have e:Tr.letE F (n:Int)=0:=by unfold Tr.letE;rw[aJ c,hZ,aI h0]
    exact⟨e,by unfold Tr.dF;rw[e,aJ rfl,hZ,hhe];rfl⟩)
   have S1:Hid (cv (w.setCell ⟨b,n*62+2,bC⟩ (aa bf (hh:Int))) b (F.put n {F.nd n with held:=hh})/\bO b w (w.setCell ⟨b,n*62+2,bC⟩ (aa bf (hh:Int)))):=hJ ⟨h.GP n _ n40,(bO.refl b w).setCell _ _⟩;rw[hhe]at c0 hl;obtain⟨zz,hzz⟩:=hU (((hh+1:Nat):Int));have hw:IntKind.i64.wrap (zz-1)=(hh:Int):=by rw[<-hzz,aN _ ⟨by omega,bG⟩];omega
   have hz0:(zz==0)=bF:=by simp;omega
   rw[hzz]at c0;go_in
   go_wp2_with fail
   refine sC (iA b n F _ HF.v) ?_;rintro w1 hw1;subst w1;rw[EP.1,EP.2,bN];go_wp2_with fail
   refine sC (tQ b n _ _ S1.1 n40) ?_;rintro w2 ⟨h2,f2⟩;have S2:=hJ (aK h2 (S1.2.trans f2));go_wp2
   go_ret
   rw[E.1,E.2];exact⟨rfl,S2.v⟩
 .have E2:Hid (fD b z (Tr.cM F z)=ai bC/\bS (Tr.cM F z)=aq 100 (aa bf (Tr.cM F z))/\Tr.letE F z=Tr.cM F z/\Tr.dF F z=F):=hJ (by
   have e:Tr.letE F z=Tr.cM F z:=aI c;exact⟨ir c,bP c,e,by unfold Tr.dF;rw[e];exact aI c⟩)
  go_in
  go_wp2_with fail
  refine sC (iA b z F _ HF.v) ?_;rintro w1 hw;subst w1;rw[E2.1,E2.2.1];go_wp2
  go_ret
  rw[E2.2.2.1,E2.2.1,E2.2.2.2];exact⟨rfl,HF.v,bO.refl _ _⟩
def Tr.uF(F:Fo):Nat->Nat
 |0=>0
 |n+1=>Tr.uF F n+if(F.nd n).kind=0 then 0 else 1
theorem Tr.Qx(F:Fo)(n:Nat):Tr.uF F n<=n:=by
 induction n with
 |zero=>exact aL 0
 |succ n ih=>show Tr.uF F n+_<=n+1;split<;>omega
theorem Uy(b:Nat)(F:Fo)(w:bD)(h:cv w b F):
  Calls prog 79 #[ai (bB ⟨b,0,bC⟩)] w λe w'=>e=bw (aa bf (Tr.uF F 40:Int))/\w'=w:=by
 have HF:=hJ h;go_in
 go_wp2
 go_loopw [3,4,5] (λs x i wr=>∃(n:Nat),i=aa bf n/\s=aa bf (Tr.uF F n:Int)/\n<=40/\wr=w) (λ_ _ i _=>40-(intOf i).toNat)
 case atStart=>exact⟨0,rfl,rfl,bG,rfl⟩
 case round=>
  obtain⟨n,rfl,rfl,hn,hwr⟩:=hrel;subst wr;by_cases hlt:n<40
  .have hltI:(n:Int)<40:=bG
   have c0:=HF.sZ n hlt;have lc:=Tr.Qx F n;have LS:Hid (Tr.uF F (n+1)=Tr.uF F n+if(F.nd n).kind=0 then 0 else 1):=hJ rfl;by_cases k0:(F.nd n).kind=0
   .rw[aJ k0]at LS;rw[k0]at c0;have c0':w.cell? ⟨b,n*62,bC⟩=bB (aa .i64 0):=c0;go_wp2
    go_roundw
    case rel=>exact⟨n+1,by go_num,by rw[LS.v];rfl,bG,by first|rfl|trivial⟩
    case measure=>simp[intOf];omega
   .rw[aI k0]at LS;have k0':(((F.nd n).kind:Int)==0)=bF:=by simp;omega
    generalize (F.nd n).kind=kk at*;generalize Tr.uF F n=cn at*;go_wp2
    go_roundw
    case rel=>exact⟨n+1,by go_num,by rw[LS.v];go_num,bG,by first|rfl|trivial⟩
    case measure=>simp[intOf];omega
  .have hltI:¬(n:Int)<40:=bG
   obtain rfl:n=40:=bG
   go_wp2
   go_ret
   exact⟨rfl,rfl⟩
def Tr.gJ(F:Fo)(n:Nat)(E:Int):Prop:=(E=0/\n<40/\(F.nd n).kind=0/\∀m,m<n->(F.nd m).kind≠0)\/(E=4/\n=0/\∀m,m<40->(F.nd m).kind≠0)
theorem Tr.gJ.unique{F:Fo}{m:Nat}{G:Int}(h:Tr.gJ F n E)(k:Tr.gJ F m G):n=m/\E=G:=by grind [Tr.gJ]
theorem vt(b:Nat)(F:Fo)(w:bD)(h:cv w b F):
  Calls prog 164 #[ai (bB ⟨b,0,bC⟩)] w λe w'=>∃(n:Nat) (E:Int),e=bw (ao #[aa bf (n:Int),bS E])/\Tr.gJ F n E/\w'=w:=by
 have HF:=hJ h;go_in
 go_wp2
 go_loopw [4,5] (λx i wr=>∃(n:Nat),i=aa bf n/\n<=40/\Hid (∀m,m<n->(F.nd m).kind≠0)/\wr=w) (λ_ i _=>40-(intOf i).toNat)
 case atStart=>exact⟨0,rfl,bG,λm hm=>bG,rfl⟩
 case round=>
  obtain⟨n,rfl,hn,HN,hwr⟩:=hrel;subst wr;by_cases hlt:n<40
  .have hltI:(n:Int)<40:=bG
   have c0:=HF.sZ n hlt;by_cases k0:(F.nd n).kind=0
   .have FIN:Hid (Tr.gJ F n 0):=hJ (.inl ⟨rfl,hlt,k0,HN.v⟩);rw[k0]at c0;have c0':w.cell? ⟨b,n*62,bC⟩=bB (aa .i64 0):=c0;go_wp2
    go_ret2
    exact⟨n,0,rfl,FIN.v,rfl⟩
   .have NX:Hid (∀m,m<n+1->(F.nd m).kind≠0):=hJ (λm hm=>by
     by_cases e:m=n
     .subst e;exact k0
     .exact HN.v m bG)
    have k0':(((F.nd n).kind:Int)==0)=bF:=by simp;omega
    generalize (F.nd n).kind=kk at*;go_wp2
    go_roundw
    case rel=>exact⟨n+1,by go_num,bG,NX,by first|rfl|trivial⟩
    case measure=>simp[intOf];omega
  .have hltI:¬(n:Int)<40:=bG
   obtain rfl:n=40:=bG
   go_wp2
   go_ret2
   exact⟨0,4,rfl, .inr ⟨rfl,rfl,HN.v⟩,rfl⟩
def Tr.zm(F:Fo)(z:Int):Nat:=if Tr.cM F z=0 then(F.nd z.toNat).tree else 0
theorem LY(b:Nat)(z:Int)(F:Fo)(w:bD)(h:cv w b F):
  Calls prog 284 #[ai (bB ⟨b,0,bC⟩),aa bf z] w λe w'=>e=bw (ao #[aa bf (Tr.zm F z:Int),bS (Tr.cM F z)])/\w'=w:=by
 have HF:=hJ h;by_cases c:Tr.cM F z=0
 .obtain⟨n,rfl,n40,_⟩:=Tr.ic c;have c0:=h.s9 n n40;have EP:Hid (Tr.cM F (n:Int)=0/\fD b (n:Int) 0=ai (bB ⟨b,n*62,bC⟩)/\Tr.zm F (n:Int)=(F.nd n).tree):=hJ ⟨c,gN b n,by unfold Tr.zm;rw[aJ c,hZ]⟩;generalize (F.nd n).tree=ff at*;go_in
  go_wp2_with fail
  refine sC (iA b n F _ HF.v) ?_;rintro w1 hw1;subst w1;rw[EP.1,EP.2.1,bN];go_wp2
  go_ret2
  rw[EP.1,EP.2.2];exact⟨rfl,rfl⟩
 .have E2:Hid (fD b z (Tr.cM F z)=ai bC/\bS (Tr.cM F z)=aq 100 (aa bf (Tr.cM F z))/\Tr.zm F z=0):=hJ ⟨ir c,bP c,aI c⟩;go_in
  go_wp2_with fail
  refine sC (iA b z F _ HF.v) ?_;rintro w1 hw;subst w1;rw[E2.1,E2.2.1];go_wp2
  go_ret2
  rw[E2.2.1,E2.2.2];exact⟨rfl,rfl⟩
def Tr.gG(F:Fo)(z:Int):Int:=if z<0\/3<z then 1 else if F.trees<=z.toNat then 2 else 0
def Tr.fW(F:Fo)(z:Int):Nat:=if Tr.gG F z=0 then F.root z.toNat else 0
theorem LX(b:Nat)(z:Int)(F:Fo)(w:bD)(h:cv w b F):
  Calls prog 230 #[ai (bB ⟨b,0,bC⟩),aa bf z] w λe w'=>e=bw (ao #[aa bf (Tr.fW F z:Int),bS (Tr.gG F z)])/\w'=w:=by
 by_cases c:z<0\/3<z
 .have E:Hid (Tr.gG F z=1/\Tr.fW F z=0):=hJ (by
   have e:Tr.gG F z=1:=aJ c;exact⟨e,by unfold Tr.fW;rw[e];exact aI bM⟩)
  by_cases c1:z<0
  .clear c;go_in
   go_wp2
   go_ret2
   rw[E.1,E.2];exact⟨rfl,rfl⟩
  .have c2:decide (4<=z)=bE:=by simp;omega
   have c3:decide (z<0)=bF:=by simp;omega
   go_in
   go_wp2
   go_ret2
   rw[E.1,E.2];exact⟨rfl,rfl⟩
 .obtain⟨n,rfl⟩:=aG (show 0<=z by omega);have n4:n<4:=bG
  have nI:(n:Int)<4:=bG
  have c2:decide (4<=(n:Int))=bF:=by simp;omega
  have c0:=h.Pd n n4;have c1:=h.CK;by_cases k0:F.trees<=n
  .have E:Hid (Tr.gG F (n:Int)=2/\Tr.fW F (n:Int)=0):=hJ (by
    have e:Tr.gG F (n:Int)=2:=by unfold Tr.gG;rw[aI c,hZ,aJ k0]
    exact⟨e,by unfold Tr.fW;rw[e];exact aI bM⟩)
   have k1:(F.trees:Int)<=(n:Int):=bG
   generalize F.trees=tt at*;go_in
   go_wp2
   go_ret2
   rw[E.1,E.2];exact⟨rfl,rfl⟩
  .have E:Hid (Tr.gG F (n:Int)=0/\Tr.fW F (n:Int)=F.root n):=hJ (by
    have e:Tr.gG F (n:Int)=0:=by unfold Tr.gG;rw[aI c,hZ,aI k0]
    exact⟨e,by unfold Tr.fW;rw[e,aJ rfl,hZ]⟩)
   have k1:¬(F.trees:Int)<=(n:Int):=bG
   generalize F.trees=tt at*;generalize F.root n=rr at*;go_in
   go_wp2
   go_ret2
   rw[E.1,E.2];exact⟨rfl,rfl⟩
def Tr.fL(x:Nd)(s:bU)(z:Int):Prop:=(∃i:Nat,z=i/\i<x.size/\(x.eN i).toList=s.toList/\∀j,j<i->(x.eN j).toList≠s.toList)\/(z= -1/\∀j,j<x.size->(x.eN j).toList≠s.toList)
theorem Tr.fL.unique{x:Nd}{y:Int}(h:Tr.fL x s y)(k:Tr.fL x s z):y=z:=by grind [Tr.fL]
theorem FE(bx k:Nat)(nm s:bU)(w:bD)(h:w.cell? ⟨bx,0,bC⟩=bB (ak s))(hb:bx<w.heap.size):
  Calls prog 305 #[.agg #[ak nm,aa bf (k:Int)],ai (bB ⟨bx,0,bC⟩)] w λe w'=>e=bw (.bool (nm.toList==s.toList))/\Below w.heap.size w w':=by
 have hne:bx≠w.heap.size:=bG
 go_in
 go_wp2
 go_ret
 exact⟨rfl,(aQ _ _).alloc (aL _) _⟩
theorem Jg(bx b n m c:Nat)(s:bU)(F:Fo)(w:bD)(h:cv w b F)(hx:w.cell? ⟨bx,0,bC⟩=bB (ak s))(hn:n<40)(hm:(F.nd n).size=m)(hm8:m<=8):
  Calls prog 304 #[.slice (bB ⟨b,n*62+6,bC⟩) m c, .func (.func 305) #[] #[ai (bB ⟨bx,0,bC⟩)]] w λe w'=>∃z:Int,e=bw (aa bf z)/\Tr.fL (F.nd n) s z/\Below w.heap.size w w':=by
 have HF:=hJ (aK h (aK hx (bZ _ _ hx)));have HM:=hJ hm;go_in
 go_wp2_with fail
 go_loopw [5,8] (λx i wr=>∃(j:Nat),i=aa bf j/\j<=m/\Hid (Below w.heap.size w wr/\∀y,y<j->((F.nd n).eN y).toList≠s.toList)) (λ_ i _=>m-(intOf i).toNat)
 case atStart=>exact⟨0,rfl,bG,aQ _ _,λy hy=>bG⟩
 case round=>
  obtain⟨j,rfl,hj,R⟩:=hrel;by_cases hlt:j<m
  .have hltI:(j:Int)<(m:Int):=bG
   have c0:=(HF.1.below R.1).wZ n j hn bG;have c1:=(HF.1.below R.1).uy n j hn bG;obtain⟨nm,hnm⟩:=hU ((F.nd n).eN j);have HNM:=hJ hnm;rw[hnm]at c0;generalize (F.nd n).db j=kk at*;go_wp2_with fail
   refine sC (FE bx kk nm s _ ((R.1.cell HF.2.2).trans HF.2.1) (aD HF.2.2 R.1.size)) ?_;rintro w1 b1;have B1:=hJ (R.1.trans (b1.mono R.1.size));by_cases e:nm.toList=s.toList
   .have e':(nm.toList==s.toList)=bE:=by simpa using e
    have FIN:Hid (Tr.fL (F.nd n) s (j:Int)):=hJ (.inl ⟨j,rfl,by rw[HM.v];exact hlt,by rw[HNM.v];exact e,R.2⟩);rw[e'];go_wp2
    go_ret
    exact⟨_,rfl,FIN.v,B1.v⟩
   .have e':(nm.toList==s.toList)=bF:=by simpa using e
    have NX:Hid (∀y,y<j+1->((F.nd n).eN y).toList≠s.toList):=hJ (λy hy=>by
     by_cases d:y=j
     .subst d;rw[HNM.v];exact e
     .exact R.2 y bG)
    rw[e'];go_wp2
    go_roundw
    case rel=>exact⟨j+1,by go_num,bG,B1.v,NX.v⟩
    case measure=>simp[intOf];omega
  .have hltI:¬(j:Int)<(m:Int):=bG
   have FIN:Hid (Tr.fL (F.nd n) s (-1)):=hJ (.inr ⟨rfl,λy hy=>R.2 y (by rw[HM.v]at hy;omega)⟩);go_wp2
   go_ret
   exact⟨_,rfl,FIN.v,R.1⟩
theorem qL(b n:Nat)(F:Fo)(w:bD)(h:cv w b F)(hn:n<40)(hm8:(F.nd n).size<=8):
  Calls prog 264 #[ai (bB ⟨b,n*62,bC⟩)] w λe w'=>e=bw (.slice (bB ⟨b,n*62+6,bC⟩) (F.nd n).size 8)/\∃k,w'=w.drewN k:=by
 have c0:=h.nM n hn;generalize (F.nd n).size=sz at*;have h1:(sz:Int)<=8:=bG
 go_in
 go_wp2
 go_quiet (fail)
 go_wp2
 go_ret
 exact⟨rfl,_,rfl⟩
theorem Uv(w:bD)(v:Value)(T:TypeId):(w.alloc (bA #[v] T)).cell? ⟨w.heap.size,0,bC⟩=bB v:=by
 rw[cA (heap_alloc_new w (bA #[v] T))];rfl
theorem tP(b n:Nat)(s:bU)(F:Fo)(w:bD)(h:cv w b F)(hn:n<40)(hm8:(F.nd n).size<=8):
  Calls prog 282 #[ai (bB ⟨b,n*62,bC⟩),ak s] w λe w'=>∃z:Int,e=bw (aa bf z)/\Tr.fL (F.nd n) s z/\Below w.heap.size w w':=by
 have S1:Hid (∀T,cv (w.alloc (bA #[ak s] T)) b F/\Below w.heap.size w (w.alloc (bA #[ak s] T))):=hJ (λT=>by
  have bb:Below w.heap.size w (w.alloc (bA #[ak s] T)):=(aQ _ _).alloc (aL _) _;exact⟨h.below bb,bb⟩)
 go_in
 go_wp2_with fail
 refine sC (qL b n F _ (S1.v _).1 hn hm8) ?_;rintro w1 ⟨k,hw⟩;subst w1;obtain⟨sz,hsz⟩:=hU ((F.nd n).size);have HSZ:=hJ hsz;rw[hsz]at hm8|-;go_wp2_with fail
 refine(Jg w.heap.size b n sz 8 s F _ ((S1.v _).1.drewN k) (Uv w _ _) hn HSZ.v hm8).mono ?_;rintro e w2 ⟨z,rfl,hp,b2⟩;have FIN:Hid (Tr.fL (F.nd n) s z/\Below w.heap.size w w2):=hJ ⟨hp,by
  have a:=(S1.v 9).2;have c:Below w.heap.size w ((w.alloc (bA #[ak s] 9)).drewN k):=⟨a.os,a.tape,a.output,a.size,a.block⟩;exact c.trans (b2.mono c.size)⟩
 go_wp2
 go_ret
 exact⟨z,rfl,FIN.v⟩
def Tr.kV(F:Fo):Prop:=∀n,n<40->(F.nd n).kind=2->(F.nd n).size<=8
def Tr.lf(F:Fo)(z:Int)(s:bU)(K:Nat)(E:Int):Prop:=
 (Tr.cQ F z 2≠0/\K=0/\E=Tr.cQ F z 2)\/(Tr.cQ F z 2=0/\((∃i:Nat,Tr.fL (F.nd z.toNat) s i/\K=(F.nd z.toNat).db i/\E=0)\/(Tr.fL (F.nd z.toNat) s (-1)/\K=0/\E=2)))
theorem Tr.fL.cases{x:Nd}(h:Tr.fL x s z):(∃i:Nat,z=i/\i<x.size)\/z= -1:=by grind [Tr.fL]
theorem vr(b:Nat)(z:Int)(s:bU)(F:Fo)(w:bD)(h:cv w b F)(hs:Tr.kV F):
  Calls prog 251 #[ai (bB ⟨b,0,bC⟩),aa bf z,ak s] w λe w'=>∃(K:Nat) (E:Int),e=bw (ao #[aa bf (K:Int),bS E])/\Tr.lf F z s K E/\Below w.heap.size w w':=by
 have HF:=hJ h;by_cases c:Tr.cQ F z 2=0
 .obtain⟨n,rfl,n40,_,k2⟩:=Tr.fE c;have hm8:=hs n n40 k2;have EP:Hid (Tr.cQ F (n:Int) 2=0/\fD b (n:Int) 0=ai (bB ⟨b,n*62,bC⟩)):=hJ ⟨c,gN b n⟩;go_in
  go_wp2_with fail
  refine sC (lQ b n F _ HF.v) ?_;rintro w1 hw1;subst w1;rw[EP.1,EP.2,bN];go_wp2_with fail
  refine(tP b n s F _ HF.v n40 hm8).mono ?_;rintro e w2 ⟨y,rfl,hp,b2⟩;have HP:=hJ (aK hp b2);rcases hp.cases with⟨i,rfl,hi⟩|rfl
  .have c0:=(HF.below b2).uy n i n40 bG;have iI:(i:Int)<8:=bG
   have FIN:Hid (Tr.lf F (n:Int) s ((F.nd n).db i) 0):=hJ (.inr ⟨EP.1, .inl ⟨i,by rw[hZ];exact hp,by rw[hZ],rfl⟩⟩);generalize (F.nd n).db i=kk at*;go_wp2
   go_ret2
   exact⟨kk,0,rfl,FIN.v,HP.2⟩
  .have FIN:Hid (Tr.lf F (n:Int) s 0 2):=hJ (.inr ⟨EP.1, .inr ⟨by rw[hZ];exact hp,rfl,rfl⟩⟩);go_wp2
   go_ret2
   exact⟨0,2,rfl,FIN.v,HP.2⟩
 .have E2:Hid (fD b z (Tr.cQ F z 2)=ai bC/\bS (Tr.cQ F z 2)=aq 100 (aa bf (Tr.cQ F z 2))/\Tr.lf F z s 0 (Tr.cQ F z 2)):=hJ ⟨ir c,bP c, .inl ⟨c,rfl,rfl⟩⟩;go_in
  go_wp2_with fail
  refine sC (lQ b z F _ HF.v) ?_;rintro w1 hw;subst w1;rw[E2.1,E2.2.1];go_wp2
  go_ret2
  exact⟨0,_,by rw[E2.2.1];rfl,E2.2.2,aQ _ _⟩
def Tr.okB(c:Nat):Bool:=(decide (97<=c)&&decide (c<=122))||(decide (48<=c)&&decide (c<=57))||decide (c=46)
theorem FC(c:Nat)(w:bD):Calls prog 303 #[aa .u8 (c:Int)] w λe w'=>e=bw (.bool (Tr.okB c))/\w'=w:=by
 have E1:∀a:Nat,decide ((a:Int)<=(c:Int))=decide (a<=c):=λa=>by simp
 by_cases c1:97<=c
 .have d1:(97:Int)<=(c:Int):=bG
  by_cases c2:c<=122
  .have d2:(c:Int)<=122:=bG
   have HO:Hid (Tr.okB c=bE):=hJ (by unfold Tr.okB;simp[c1,c2]);go_in
   go_wp2
   go_ret
   exact⟨da (by rw[HO.v]),rfl⟩
  .have d2:decide ((c:Int)<=122)=bF:=by simp;omega
   have d3:(48:Int)<=(c:Int):=bG
   have d4:decide ((c:Int)<=57)=bF:=by simp;omega
   have HO:Hid (Tr.okB c=bF):=hJ (by unfold Tr.okB;simp;omega);have d5:((c:Int)==46)=bF:=by simp;omega
   go_in
   go_wp2
   go_ret
   exact⟨da (by rw[HO.v]),rfl⟩
 .have d1:decide ((97:Int)<=(c:Int))=bF:=by simp;omega
  by_cases c3:48<=c/\c<=57
  .have d3:(48:Int)<=(c:Int):=bG
   have d4:(c:Int)<=57:=bG
   have HO:Hid (Tr.okB c=bE):=hJ (by unfold Tr.okB;simp;omega);go_in
   go_wp2
   go_ret
   exact⟨da (by rw[HO.v]),rfl⟩
  .by_cases c5:c=46
   .subst c5;have HO:Hid (Tr.okB 46=bE):=hJ bM;go_in
    go_wp2
    go_ret
    exact⟨da (by rw[HO.v]),rfl⟩
   .have d5:((c:Int)==46)=bF:=by simp;omega
    have HO:Hid (Tr.okB c=bF):=hJ (by unfold Tr.okB;simp;omega);by_cases c6:48<=c
    .have d3:(48:Int)<=(c:Int):=bG
     have d4:decide ((c:Int)<=57)=bF:=by simp;omega
     go_in
     go_wp2
     go_ret
     exact⟨da (by rw[HO.v]),rfl⟩
    .have d3:decide ((48:Int)<=(c:Int))=bF:=by simp;omega
     go_in
     go_wp2
     go_ret
     exact⟨da (by rw[HO.v]),rfl⟩
def Tr.pU(s:bU):Nat->Bool
 |0=>bE
 |n+1=>Tr.pU s n&&Tr.okB (s[n]!).toNat
theorem Tr.EY{j:Nat}(h:Tr.okB (s[j]!).toNat=bF):∀n,j<n->Tr.pU s n=bF:=by
 intro n
 induction n with
 |zero=>intro hj;omega
 |succ n ih=>
  grind [Tr.pU,Tr.okB]
def Tr.gq(s:bU):Bool:=decide (1<=s.size)&&decide (s.size<=8)&& !(s.toList==[46])&& !(s.toList==[46,46])&&Tr.pU s s.size
theorem vm(s:bU)(w:bD):Calls prog 280 #[ak s] w λe w'=>e=bw (.bool (Tr.gq s))/\w'=w:=by
 by_cases c1:s.size=0
 .have HO:Hid (Tr.gq s=bF):=hJ (by unfold Tr.gq;simp[c1]);have d1:(s.size:Int)<1:=bG
  go_in
  go_wp2
  go_ret
  exact⟨da (by rw[HO.v]),rfl⟩
 .have d1:decide ((s.size:Int)<1)=bF:=by simp;omega
  by_cases c2:8<s.size
  .have HO:Hid (Tr.gq s=bF):=hJ (by unfold Tr.gq;simp;omega);have d2:(8:Int)<(s.size:Int):=bG
   go_in
   go_wp2
   go_ret
   exact⟨da (by rw[HO.v]),rfl⟩
  .have d2:decide ((8:Int)<(s.size:Int))=bF:=by simp;omega
   by_cases c3:(s.toList==[46])=bE
   .have HO:Hid (Tr.gq s=bF):=hJ (by unfold Tr.gq;rw[c3];simp);go_in
    go_wp2
    go_ret
    exact⟨da (by rw[HO.v]),rfl⟩
   .have d3:(s.toList==[46])=bF:=by simpa using c3
    by_cases c4:(s.toList==[46,46])=bE
    .have HO:Hid (Tr.gq s=bF):=hJ (by unfold Tr.gq;rw[c4];simp);go_in
     go_wp2
     go_ret
     exact⟨da (by rw[HO.v]),rfl⟩
    .have d4:(s.toList==[46,46])=bF:=by simpa using c4
     have HO:Hid (Tr.gq s=Tr.pU s s.size):=hJ (by unfold Tr.gq;rw[d3,d4,aO (show 1<=s.size by omega),aO (show s.size<=8 by omega)];simp);have hs8:s.size<=8:=bG
     go_in
     go_wp2_with fail
     go_loopw [3,22] (λx i wr=>∃(j:Nat),i=aa bf j/\j<=s.size/\Hid (Tr.pU s j=bE)/\wr=w) (λ_ i _=>s.size-(intOf i).toNat)
     case atStart=>exact⟨0,rfl,bG,rfl,rfl⟩
     case round=>
      obtain⟨j,rfl,hj,R,hwr⟩:=hrel;subst wr;by_cases hlt:j<s.size
      .have hltI:(j:Int)<(s.size:Int):=bG
       have HB:Hid (Tr.okB (s[j]!).toNat=Tr.okB (s[j]'hlt).toNat):=hJ (by rw[getElem!_pos s j hlt]);go_wp2_with fail
       refine sC (FC (s[j]'hlt).toNat _) ?_;rintro w1 hw1;subst w1;cases ho:Tr.okB (s[j]'hlt).toNat
       .have NO:=hJ (Tr.EY (s:=s) (j:=j) (by rw[HB.v];exact ho) s.size hlt);go_wp2
        go_ret
        exact⟨da (by rw[HO.v,NO.v]),rfl⟩
       .have NX:Hid (Tr.pU s (j+1)=bE):=hJ (by
         show(Tr.pU s j&&Tr.okB (s[j]!).toNat)=bE;rw[R.v,HB.v,ho];rfl)
        go_wp2
        go_roundw
        case rel=>exact⟨j+1,by go_num,bG,NX,by first|rfl|trivial⟩
        case measure=>simp[intOf];omega
      .have hltI:¬(j:Int)<(s.size:Int):=bG
       have hje:j=s.size:=bG
       have FIN:Hid (Tr.pU s s.size=bE):=hJ (by rw[<-hje];exact R.v);go_wp2
       go_ret
       exact⟨da (by rw[HO.v,FIN.v]),rfl⟩
def Tr.oR(x:Nd)(s:bU)(E:Int):Prop:=(Tr.gq s=bF/\E=9)\/(Tr.gq s=bE/\((∃i:Nat,Tr.fL x s i/\E=3)\/(Tr.fL x s (-1)/\((x.size=8/\E=4)\/(x.size≠8/\E=0)))))
theorem vv(b n:Nat)(s:bU)(F:Fo)(w:bD)(h:cv w b F)(hn:n<40)(hm8:(F.nd n).size<=8):
  Calls prog 256 #[ai (bB ⟨b,n*62,bC⟩),ak s] w λe w'=>∃E,e=bw (bS E)/\Tr.oR (F.nd n) s E/\Below w.heap.size w w':=by
 have HF:=hJ h;go_in
 go_wp2_with fail
 refine sC (vm s _) ?_;rintro w1 hw1;subst w1;cases hb:Tr.gq s
 .have FIN:Hid (Tr.oR (F.nd n) s 9):=hJ (.inl ⟨hb,rfl⟩);go_wp2
  go_ret
  exact⟨9,rfl,FIN.v,aQ _ _⟩
 .have HB:=hJ hb;go_wp2_with fail
  refine(tP b n s F _ HF.v hn hm8).mono ?_;rintro e w2 ⟨y,rfl,hp,b2⟩;have B2:=hJ b2;rcases hp.cases with⟨i,rfl,hi⟩|rfl
  .have FIN:Hid (Tr.oR (F.nd n) s 3):=hJ (.inr ⟨HB.v, .inl ⟨i,hp,rfl⟩⟩);go_wp2
   go_ret
   exact⟨3,rfl,FIN.v,B2.v⟩
  .have c0:=(HF.below b2).nM n hn;by_cases s8:(F.nd n).size=8
   .have FIN:Hid (Tr.oR (F.nd n) s 4):=hJ (.inr ⟨HB.v, .inr ⟨hp, .inl ⟨s8,rfl⟩⟩⟩);rw[s8]at c0;have c0':w2.cell? ⟨b,n*62+3,bC⟩=bB (aa .i64 8):=c0;go_wp2
    go_ret
    exact⟨4,rfl,FIN.v,B2.v⟩
   .have FIN:Hid (Tr.oR (F.nd n) s 0):=hJ (.inr ⟨HB.v, .inr ⟨hp, .inr ⟨s8,rfl⟩⟩⟩);have s8':(((F.nd n).size:Int)==8)=bF:=by simp;omega
    generalize (F.nd n).size=sz at*;go_wp2
    go_ret
    exact⟨0,rfl,FIN.v,B2.v⟩
def Tr.oS(F:Fo)(z:Int)(s:bU)(E:Int):Prop:=(Tr.cQ F z 2≠0/\E=Tr.cQ F z 2)\/(Tr.cQ F z 2=0/\Tr.oR (F.nd z.toNat) s E)
theorem rZ(b:Nat)(z:Int)(s:bU)(F:Fo)(w:bD)(h:cv w b F)(hs:Tr.kV F):
  Calls prog 259 #[ai (bB ⟨b,0,bC⟩),aa bf z,ak s] w λe w'=>∃E,e=bw (ao #[fD b z E,bS E])/\Tr.oS F z s E/\Below w.heap.size w w':=by
 have HF:=hJ h;by_cases c:Tr.cQ F z 2=0
 .obtain⟨n,rfl,n40,_,k2⟩:=Tr.fE c;have hm8:=hs n n40 k2;have EP:Hid (Tr.cQ F (n:Int) 2=0/\fD b (n:Int) 0=ai (bB ⟨b,n*62,bC⟩)):=hJ ⟨c,gN b n⟩;go_in
  go_wp2_with fail
  refine sC (lQ b n F _ HF.v) ?_;rintro w1 hw1;subst w1;rw[EP.1,EP.2,bN];go_wp2_with fail
  refine(vv b n s F _ HF.v n40 hm8).mono ?_;rintro e w2 ⟨E,rfl,hr,b2⟩;have FIN:Hid (Tr.oS F (n:Int) s E/\Below w.heap.size w w2):=hJ ⟨.inr ⟨EP.1,by rw[hZ];exact hr⟩,b2⟩;by_cases e0:E=0
  .subst e0;rw[bN];go_wp2
   go_ret2
   exact⟨0,by rw[EP.2];rfl,FIN.v⟩
  .have E2:Hid (fD b (n:Int) E=ai bC/\bS E=aq 100 (aa bf E)):=hJ ⟨ir e0,bP e0⟩;rw[E2.2];go_wp2
   go_ret2
   exact⟨E,by rw[E2.1,E2.2];rfl,FIN.v⟩
 .have E2:Hid (fD b z (Tr.cQ F z 2)=ai bC/\bS (Tr.cQ F z 2)=aq 100 (aa bf (Tr.cQ F z 2))/\Tr.oS F z s (Tr.cQ F z 2)):=hJ ⟨ir c,bP c, .inl ⟨c,rfl⟩⟩;go_in
  go_wp2_with fail
  refine sC (lQ b z F _ HF.v) ?_;rintro w1 hw;subst w1;rw[E2.1,E2.2.1];go_wp2
  go_ret2
  exact⟨_,by rw[E2.1,E2.2.1];rfl,E2.2.2,aQ _ _⟩

import Derived.Test.YtpmmdkcfenjiaaaGreatDoorYab
set_option maxRecDepth 100000
set_option maxHeartbeats 1000000
set_option linter.unusedVariables false
set_option linter.unusedSimpArgs false
namespace Go.Proofs.YtpmmdkcfenjiaaaGreatDoor
open Value renaming int->aa,pointer->ai,string->ak,tuple->ao,iface->aq
open IntKind renaming i64->az
open Ending renaming returned->bf
open Obj renaming cells->bh
open Option renaming some->bj,none->bu
open Bool renaming true->bw,false->bA
open Tryz (prog)
open Go.RowKit
variable {E z:Int}{n:Nat}{s:bU}
namespace Tr
structure Nd where
 kind:Nat
 cV:Nat
 held:Nat
 size:Nat
 tree:Nat
 up:Nat
 eJ:Nat->bU
 cY:Nat->Nat
 dO:Nat->Int
structure Fo where
 nd:Nat->Nd
 root:Nat->Nat
 trees:Nat
def Nd.no:Nd:=⟨0,0,0,0,0,0,λ_=>⟨#[]⟩,λ_=>0,λ_=>0⟩
def Fo.put(F:Fo)(n:Nat)(x:Nd):Fo:={F with nd:=λm=>if m=n then x else F.nd m}
theorem bM(F:Fo)(n:Nat)(x:Nd):(F.put n x).nd n=x:=aJ rfl
theorem bP(F:Fo)(n:Nat)(x:Nd)(m:Nat)(h:m≠n):(F.put n x).nd m=F.nd m:=aI h
def f0:Fo:=⟨λ_=>Nd.no,λ_=>0,0⟩
def cH(F:Fo)(z:Int):Int:=if z<0\/39<z then 1 else if(F.nd z.toNat).kind=0 then 2 else 0
def cN(F:Fo)(z:Int)(k:Nat):Int:=if cH F z≠0 then cH F z else if(F.nd z.toNat).kind=k then 0 else 11
theorem gZ{F:Fo}(h:cH F z=0):∃n:Nat,z=n/\n<40/\(F.nd n).kind≠0:=by grind [cH]
theorem fD{F:Fo}{k:Nat}(h:cN F z k=0):∃n:Nat,z=n/\n<40/\(F.nd n).kind≠0/\(F.nd n).kind=k:=by grind [cN,cH]
end Tr
open Tr (Fo Nd)
def iT(x:Nd)(j:Nat):Value:=
 if j=0 then aa az (x.kind:Int)else if j=1 then aa az (x.cV:Int)else if j=2 then aa az (x.held:Int)else if j=3 then aa az (x.size:Int)else if j=4 then aa az (x.tree:Int)else if j=5 then aa az (x.up:Int)
 else if j<22 then(if j%2=0 then ak (x.eJ ((j-6)/2))else aa az (x.cY ((j-6)/2):Int))else aa .u8 (x.dO (j-22))
def jQ(F:Fo)(o:Nat):Value:=if o<2480 then iT (F.nd (o/62)) (o%62)else if o<2484 then aa az (F.root (o-2480):Int)else aa az (F.trees:Int)
structure bS (w:bD)(b:Nat)(F:Fo):Prop where
 da:∃C,w.heap[b]? =bj (bh C 208 (0,0))/\C.size=2485
 cell:∀o,o<2485->w.cell? ⟨b,o,bu⟩=bj (jQ F o)
section
variable {w w':bD}{b:Nat}{F F':Fo}
theorem bS.drewN(h:bS w b F)(n:Nat):bS (w.drewN n) b F:=⟨h.da,h.cell⟩
theorem bS.drew(h:bS w b F):bS w.drew b F:=⟨h.da,h.cell⟩
theorem bS.frozen(h:bS w b F)(o:Nat):w.frozen? ⟨b,o,bu⟩=bA:=by obtain⟨C,h1,_⟩:=h.da;exact cE h1 o
theorem bS.lt(h:bS w b F):b<w.heap.size:=by obtain⟨C,h1,_⟩:=h.da;exact(aX.1 h1).1
theorem bS.same(h:bS w b F)(e:w'.heap[b]? =w.heap[b]?):bS w' b F:=⟨by rw[e];exact h.da,λo ho=>(aV e).trans (h.cell o ho)⟩
theorem bS.below(h:bS w b F)(k:Below w.heap.size w w'):bS w' b F:=h.same (k.block b h.lt)
theorem bS.nd(h:bS w b F)(n j:Nat)(hn:n<40)(hj:j<62):w.cell? ⟨b,n*62+j,bu⟩=bj (iT (F.nd n) j):=by
 rw[h.cell _ bB,jQ,nK,show(n*62+j)/62=n by omega,show(n*62+j)%62=j by omega]
theorem bS.sZ(h:bS w b F)(n:Nat)(hn:n<40):w.cell? ⟨b,n*62,bu⟩=bj (aa az ((F.nd n).kind:Int)):=h.nd n 0 hn bB
theorem bS.uy(h:bS w b F)(n:Nat)(hn:n<40):w.cell? ⟨b,n*62+1,bu⟩=bj (aa az ((F.nd n).cV:Int)):=h.nd n 1 hn bB
theorem bS.yH(h:bS w b F)(n:Nat)(hn:n<40):w.cell? ⟨b,n*62+2,bu⟩=bj (aa az ((F.nd n).held:Int)):=h.nd n 2 hn bB
theorem bS.nT(h:bS w b F)(n:Nat)(hn:n<40):w.cell? ⟨b,n*62+3,bu⟩=bj (aa az ((F.nd n).size:Int)):=h.nd n 3 hn bB
theorem bS.s9(h:bS w b F)(n:Nat)(hn:n<40):w.cell? ⟨b,n*62+4,bu⟩=bj (aa az ((F.nd n).tree:Int)):=h.nd n 4 hn bB
theorem bS.Vr(h:bS w b F)(n:Nat)(hn:n<40):w.cell? ⟨b,n*62+5,bu⟩=bj (aa az ((F.nd n).up:Int)):=h.nd n 5 hn bB
theorem Bj(x:Nd)(i:Nat)(hi:i<8):iT x (6+i*2)=ak (x.eJ i):=by grind [iT]
theorem Bi(x:Nd)(i:Nat)(hi:i<8):iT x (6+i*2+1)=aa az (x.cY i:Int):=by grind [iT]
theorem rq(x:Nd)(i:Nat):iT x (22+i)=aa .u8 (x.dO i):=by grind [iT]
theorem bS.xk(h:bS w b F)(n i:Nat)(hn:n<40)(hi:i<8):w.cell? ⟨b,n*62+6+i*2,bu⟩=bj (ak ((F.nd n).eJ i)):=by
 rw[show n*62+6+i*2=n*62+(6+i*2)by omega,h.nd n _ hn bB,Bj _ i hi]
theorem bS.ux(h:bS w b F)(n i:Nat)(hn:n<40)(hi:i<8):w.cell? ⟨b,n*62+6+i*2+1,bu⟩=bj (aa az ((F.nd n).cY i:Int)):=by
 rw[show n*62+6+i*2+1=n*62+(6+i*2+1)by omega,h.nd n _ hn bB,Bi _ i hi]
theorem bS.Vz(h:bS w b F)(n i:Nat)(hn:n<40)(hi:i<40):w.cell? ⟨b,n*62+22+i,bu⟩=bj (aa .u8 ((F.nd n).dO i)):=by
 rw[show n*62+22+i=n*62+(22+i)by omega,h.nd n _ hn bB,rq]
theorem bS.PW(h:bS w b F)(t:Nat)(ht:t<4):w.cell? ⟨b,2480+t,bu⟩=bj (aa az (F.root t:Int)):=by
 rw[h.cell _ bB,jQ,nJ,nK,show 2480+t-2480=t by omega]
theorem bS.C7(h:bS w b F):w.cell? ⟨b,2484,bu⟩=bj (aa az (F.trees:Int)):=h.cell 2484 bB
theorem bS.set(h:bS w b F)(o:Nat)(ho:o<2485)(v:Value)(hv:∀i,i<2485->jQ F' i=if i=o then v else jQ F i):bS (w.setCell ⟨b,o,bu⟩ v) b F':=by
 obtain⟨C,h1,h2⟩:=h.da;refine⟨⟨_,cQ h1 _ v,by simpa using h2⟩,λi hi=>?_⟩;rw[hv i hi];by_cases e:i=o
 .subst e;rw[dF h1 _ v bB,aJ rfl]
 .rw[dm h1 _ _ v (bQ e),aI e];exact h.cell i hi
theorem bS.kO(h:bS w b F)(n j:Nat)(hn:n<40)(hj:j<62)(v:Value)(x:Nd)(hx:∀i,i<62->iT x i=if i=j then v else iT (F.nd n) i):bS (w.setCell ⟨b,n*62+j,bu⟩ v) b (F.put n x):=by
 refine h.set (n*62+j) bB v (λo ho=>?_);unfold jQ;by_cases c:o<2480
 .rw[aJ c,aJ c];by_cases d:o/62=n
  .rw[d,Tr.bM,hx (o%62) bB];grind
  .rw[Tr.bP _ _ _ _ d,nJ]
 .rw[aI c,aI c,aI (show¬o=n*62+j by omega)];rfl
theorem bS.congr(h:bS w b F)(e:∀o,o<2485->jQ F' o=jQ F o):bS w b F':=⟨h.da,λo ho=>by rw[e o ho];exact h.cell o ho⟩
end
section
variable {w:bD}{b:Nat}{F:Fo}
theorem bS.xP(h:bS w b F)(n v:Nat)(hn:n<40):bS (w.setCell ⟨b,n*62+1,bu⟩ (aa az (v:Int))) b (F.put n {F.nd n with cV:=v}):=h.kO n 1 hn bB _ _ (λi _=>by
 by_cases c:i=1
 .subst c;rfl
 .rw[aI c];unfold iT;rw[aI c,aI c])
theorem bS.Hf(h:bS w b F)(n v:Nat)(hn:n<40):bS (w.setCell ⟨b,n*62+2,bu⟩ (aa az (v:Int))) b (F.put n {F.nd n with held:=v}):=h.kO n 2 hn bB _ _ (λi _=>by
 by_cases c:i=2
 .subst c;rfl
 .rw[aI c];unfold iT;rw[aI c,aI c])
theorem bS.AM(h:bS w b F)(n v:Nat)(hn:n<40):bS (w.setCell ⟨b,n*62+3,bu⟩ (aa az (v:Int))) b (F.put n {F.nd n with size:=v}):=h.kO n 3 hn bB _ _ (λi _=>by
 by_cases c:i=3
 .subst c;rfl
 .rw[aI c];unfold iT;rw[aI c,aI c])
theorem bS.U6(h:bS w b F)(n v:Nat)(hn:n<40):bS (w.setCell ⟨b,n*62+5,bu⟩ (aa az (v:Int))) b (F.put n {F.nd n with up:=v}):=h.kO n 5 hn bB _ _ (λi _=>by
 by_cases c:i=5
 .subst c;rfl
 .rw[aI c];unfold iT;rw[aI c,aI c])
def iu{α:Type}(f:Nat->α)(i:Nat)(v:α):Nat->α:=λj=>if j=i then v else f j
theorem qT{α:Type}(f:Nat->α)(i:Nat)(v:α):iu f i v i=v:=aJ rfl
theorem vC{α:Type}(f:Nat->α)(i:Nat)(v:α)(j:Nat)(h:j≠i):iu f i v j=f j:=aI h
theorem bS.Ur(h:bS w b F)(n i:Nat)(v:bU)(hn:n<40)(hi:i<8):bS (w.setCell ⟨b,n*62+6+i*2,bu⟩ (ak v)) b (F.put n {F.nd n with eJ:=iu (F.nd n).eJ i v}):=by
 rw[show n*62+6+i*2=n*62+(6+i*2)by omega];refine h.kO n (6+i*2) hn bB _ _ (λj hj=>?_);grind [Bj,iu,qT,iT]
theorem bS.Up(h:bS w b F)(n i v:Nat)(hn:n<40)(hi:i<8):bS (w.setCell ⟨b,n*62+6+i*2+1,bu⟩ (aa az (v:Int))) b (F.put n {F.nd n with cY:=iu (F.nd n).cY i v}):=by
 rw[show n*62+6+i*2+1=n*62+(6+i*2+1)by omega];refine h.kO n (6+i*2+1) hn bB _ _ (λj hj=>?_);grind [Bi,iu,qT,iT]
theorem bS.Sq(h:bS w b F)(t v:Nat)(ht:t<4):bS (w.setCell ⟨b,2480+t,bu⟩ (aa az (v:Int))) b {F with root:=iu F.root t v}:=by
 refine h.set (2480+t) bB _ (λo ho=>?_);grind [jQ,iu]
theorem bS.Pe(h:bS w b F)(v:Nat):bS (w.setCell ⟨b,2484,bu⟩ (aa az (v:Int))) b {F with trees:=v}:=by
 refine h.set 2484 bB _ (λo ho=>?_);grind [jQ]
end
def fC(b:Nat)(z E:Int):Value:=if E=0 then ai (bj ⟨b,z.toNat*62,bu⟩)else ai bu
theorem gL(b n:Nat):fC b (n:Int) 0=ai (bj ⟨b,n*62,bu⟩):=by unfold fC;rw[aJ rfl,hZ]
theorem ij{b:Nat}(h:E≠0):fC b z E=ai none:=aI h
theorem ir(b:Nat)(z:Int)(F:Fo)(w:bD)(h:bS w b F):
  Calls prog 266 #[ai (bj ⟨b,0,bu⟩),aa az z] w λe w'=>e=bf (ao #[fC b z (Tr.cH F z),bN (Tr.cH F z)])/\w'=w:=by
 by_cases c:z<0\/39<z
 .have E:Hid (Tr.cH F z=1):=hJ (aJ c);have E2:Hid (fC b z 1=ai bu):=hJ (ij bE);by_cases c1:z<0
  .clear c;go_in
   go_wp2
   go_ret2
   rw[E.v,E2.v];exact⟨rfl,rfl⟩
  .have c2:decide (40<=z)=bw:=by simp;omega
   have c3:decide (z<0)=bA:=by simp;omega
   go_in
   go_wp2
   go_ret2
   rw[E.v,E2.v];exact⟨rfl,rfl⟩
 .obtain⟨n,rfl⟩:=aG (show 0<=z by omega);have n40:n<40:=bB
  have nI:(n:Int)<40:=bB
  have c2:decide (40<=(n:Int))=bA:=by simp;omega
  have c0:=h.sZ n n40;by_cases k0:(F.nd n).kind=0
  .have E:Hid (Tr.cH F (n:Int)=2):=hJ (by unfold Tr.cH;rw[aI c,hZ,aJ k0]);have E2:Hid (fC b (n:Int) 2=ai bu):=hJ (ij bE);rw[k0]at c0;have c0':w.cell? ⟨b,n*62,bu⟩=bj (aa .i64 0):=c0;go_in
   go_wp2
   go_ret2
   rw[E.v,E2.v];exact⟨rfl,rfl⟩
  .have E:Hid (Tr.cH F (n:Int)=0):=hJ (by unfold Tr.cH;rw[aI c,hZ,aI k0]);have E2:Hid (fC b (n:Int) 0=ai (bj ⟨b,n*62,bu⟩)):=hJ (gL b n);have k0':(((F.nd n).kind:Int)==0)=bA:=by simp;omega
   generalize (F.nd n).kind=kk at*;go_in
   go_wp2
   go_ret2
   rw[E.v,E2.v];exact⟨rfl,rfl⟩
theorem wY(b:Nat)(z:Int)(k:Nat)(F:Fo)(w:bD)(h:bS w b F):
  Calls prog 283 #[ai (bj ⟨b,0,bu⟩),aa az z,aa az (k:Int)] w λe w'=>e=bf (ao #[fC b z (Tr.cN F z k),bN (Tr.cN F z k)])/\w'=w:=by
 have HF:=hJ h;by_cases c:Tr.cH F z=0
 .obtain⟨n,rfl,n40,_⟩:=Tr.gZ c;have c0:=h.sZ n n40;have EP:Hid (Tr.cH F (n:Int)=0):=hJ c;by_cases d:(F.nd n).kind=k
  .have E:Hid (Tr.cN F (n:Int) k=0):=hJ (by unfold Tr.cN;rw[aI (λe=>e c),hZ,aJ d]);have E2:Hid (fC b (n:Int) 0=ai (bj ⟨b,n*62,bu⟩)):=hJ (gL b n);rw[d]at c0;go_in
   go_wp2_with fail
   refine sC (ir b n F _ HF.v) ?_;rintro w1 hw;subst w1;rw[EP.v,E2.v,bF];go_wp2
   go_ret2
   rw[E.v,E2.v];exact⟨rfl,rfl⟩
  .have E:Hid (Tr.cN F (n:Int) k=11):=hJ (by unfold Tr.cN;rw[aI (λe=>e c),hZ,aI d]);have E2:Hid (fC b (n:Int) 0=ai (bj ⟨b,n*62,bu⟩)/\fC b (n:Int) 11=ai bu):=hJ ⟨gL b n,ij bE⟩;have d':(((F.nd n).kind:Int)==(k:Int))=bA:=by simp;omega
   generalize (F.nd n).kind=kk at*;go_in
   go_wp2_with fail
   refine sC (ir b n F _ HF.v) ?_;rintro w1 hw;subst w1;rw[EP.v,E2.1,bF];go_wp2
   go_ret2
   rw[E.v,E2.2];exact⟨rfl,rfl⟩
 .have E:Hid (Tr.cN F z k=Tr.cH F z):=hJ (aJ c);have E2:Hid (fC b z (Tr.cH F z)=ai bu/\bN (Tr.cH F z)=aq 100 (aa az (Tr.cH F z))):=hJ ⟨ij c,bH c⟩;go_in
  go_wp2_with fail
  refine sC (ir b z F _ HF.v) ?_;rintro w1 hw;subst w1;rw[E2.1,E2.2];go_wp2
  go_ret2
  rw[E.v,E2.1,E2.2];exact⟨rfl,rfl⟩
theorem lU(b:Nat)(z:Int)(F:Fo)(w:bD)(h:bS w b F):
  Calls prog 254 #[ai (bj ⟨b,0,bu⟩),aa az z] w λe w'=>e=bf (ao #[fC b z (Tr.cN F z 2),bN (Tr.cN F z 2)])/\w'=w:=by
 have HF:=hJ (wY b z 2 F w h);obtain⟨v1,hv1⟩:∃v,fC b z (Tr.cN F z 2)=v:=⟨_,rfl⟩;obtain⟨v2,hv2⟩:∃v,bN (Tr.cN F z 2)=v:=⟨_,rfl⟩;rw[hv1,hv2]at HF|-;go_in
 go_wp2_with fail
 refine sC HF.v ?_;rintro w1 hw;subst w1;go_wp2
 go_ret2
 exact⟨rfl,rfl⟩
theorem iQ(b:Nat)(z:Int)(F:Fo)(w:bD)(h:bS w b F):
  Calls prog 258 #[ai (bj ⟨b,0,bu⟩),aa az z] w λe w'=>e=bf (ao #[fC b z (Tr.cN F z 1),bN (Tr.cN F z 1)])/\w'=w:=by
 have HF:=hJ (wY b z 1 F w h);obtain⟨v1,hv1⟩:∃v,fC b z (Tr.cN F z 1)=v:=⟨_,rfl⟩;obtain⟨v2,hv2⟩:∃v,bN (Tr.cN F z 1)=v:=⟨_,rfl⟩;rw[hv1,hv2]at HF|-;go_in
 go_wp2_with fail
 refine sC HF.v ?_;rintro w1 hw;subst w1;go_wp2
 go_ret2
 exact⟨rfl,rfl⟩
def du(x:Nd):Array Value:=((List.range 62).map (iT x)).toArray
theorem D1(x:Nd)(i:Nat)(h:i<62):(du x)[i]? =bj (iT x i):=by simp[du,h]
theorem n7(x:Nd):(du x).size=62:=by simp[du]
theorem jr(x:Nd):(du x).toList.length=62:=by simp[du]
theorem pE(x:Nd):(du x).all (·.oneCell')=bw:=by
 rw[Array.all_eq_true_iff_forall_mem];intro v hv;simp only[du,List.mem_toArray,List.mem_map]at hv;obtain⟨o,_,rfl⟩:=hv;unfold iT
 repeat' split
 all_goals rfl
section
variable {w:bD}{b:Nat}{F:Fo}
theorem lV(b:Nat):∀(vs:List Value) (o:Nat) (w:bD) (C:Array Value) {T:TypeId},w.heap[b]? =bj (bh C T (0,0))->∃C',(w.setCells b o vs).heap[b]? =bj (bh C' T (0,0))/\C'.size=C.size
 |[],_,_,C,_,h=>⟨C,h,rfl⟩
 |v::r,o,w,C,_,h=>by
  obtain⟨C',h1,h2⟩:=lV b r (o+1) _ _ (cQ h o v);exact⟨C',h1,by simpa using h2⟩
theorem bS.setNode(h:bS w b F)(n:Nat)(hn:n<40)(x:Nd):bS (w.setCells b (n*62) (du x).toList) b (F.put n x):=by
 obtain⟨C,h1,h2⟩:=h.da;obtain⟨C',k1,k2⟩:=lV b (du x).toList (n*62) w C h1;refine⟨⟨C',k1,bB⟩,λo ho=>?_⟩;by_cases c:n*62<=o/\o<n*62+62
 .obtain⟨j,rfl,hj⟩:∃j,o=n*62+j/\j<62:=⟨o-n*62,bB,bB⟩;rw[aS b (du x).toList (n*62) w (λi hi=>by rw[jr]at hi;rw[h.cell _ bB];rfl) j (by rw[jr];exact hj),<-aW (by rw[jr];exact hj),aM,D1 x j hj];unfold jQ;rw[nK,show(n*62+j)/62=n by omega,show(n*62+j)%62=j by omega,Tr.bM]
 .rw[aA b _ (n*62) w ⟨b,o,bu⟩ (λ_ _=>by rw[jr];show o<_\/_<=o;omega),h.cell o ho];unfold jQ;by_cases d:o<2480
  .rw[aJ d,aJ d,Tr.bP _ _ _ _ bB]
  .rw[aI d,aI d];rfl
theorem bS.there(h:bS w b F)(n:Nat)(hn:n<40)(x:Nd):w.there b (n*62) (du x).size:=λj hj=>by
 rw[n7]at hj;exact⟨by rw[h.cell _ bB];rfl,h.frozen _⟩
theorem pC(x:Nd):(prog.info? 204).map (·.size)=bj (du x).size:=by rw[n7];kernel_rfl
end
section
variable {ops:Array Oper}{rest:List Oper}{x:Oper}{a:Act}{w:bD}{Q:Exit->Act->bD->Prop}
theorem x9(hgd:x.guard=bu)(ho:x.op= .build 204 #[])(h:wpList prog ops Q rest (a.put x.dst (.agg (du Nd.no))) w):wpList prog ops Q (x::rest) a w:=
 wpList_plain hgd λ_ hK=>by
  unfold Oper.wp execOp;simp only[ho];simp[go_sem];exact hK _ _ h
end
def Tr.mF(F:Fo)(n:Nat):Fo:=if(F.nd n).cV=0/\(F.nd n).held=0 then F.put n Nd.no else F
theorem Tr.Hi{F:Fo}(h:(F.nd n).cV=0/\(F.nd n).held=0):Tr.mF F n=F.put n Nd.no:=aJ h
theorem Tr.Ey{F:Fo}(h:¬((F.nd n).cV=0/\(F.nd n).held=0)):Tr.mF F n=F:=aI h
theorem tP(b n:Nat)(F:Fo)(w:bD)(h:bS w b F)(hn:n<40):
  Calls prog 253 #[ai (bj ⟨b,0,bu⟩),aa az (n:Int)] w λe w'=>e=bf (ao #[])/\bS w' b (Tr.mF F n)/\bG b w w':=by
 have nI:(n:Int)<40:=bB
 have c1:=h.uy n hn;have c2:=h.yH n hn;by_cases l0:(F.nd n).cV=0
 .rw[l0]at c1;have c1':w.cell? ⟨b,n*62+1,bu⟩=bj (aa .i64 0):=c1;by_cases h0:(F.nd n).held=0
  .rw[h0]at c2;have c2':w.cell? ⟨b,n*62+2,bu⟩=bj (aa .i64 0):=c2;have FIN:Hid (bS (w.setCells b (n*62) (du Nd.no).toList) b (Tr.mF F n)/\bG b w (w.setCells b (n*62) (du Nd.no).toList)):=hJ ⟨by rw[Tr.Hi ⟨l0,h0⟩];exact h.setNode n hn _,bG.setCells _ _ (bG.refl b w)⟩;have TH:=hJ (h.there n hn Nd.no);have HS:=hJ (pC Nd.no);have H1:=hJ (pE Nd.no);obtain⟨A,hA⟩:=hU (du Nd.no);rw[hA]at FIN TH HS H1;go_in
   go_wp2_with (first|(refine x9 rfl rfl ?_;rw[hA])|(refine wpList_store_mid rfl 204 _ _ rfl b (n*62) A rfl rfl TH.v HS.v H1.v ?_))
   go_end0
   exact⟨rfl,FIN.v⟩
  .have h0':(((F.nd n).held:Int)==0)=bA:=by simp;omega
   have FIN:Hid (bS w b (Tr.mF F n)):=hJ (by rw[Tr.Ey (λc=>h0 c.2)];exact h);generalize (F.nd n).held=hh at*;go_in
   go_wp2
   go_end0
   exact⟨rfl,FIN.v,bG.refl _ _⟩
 .have l0':(((F.nd n).cV:Int)==0)=bA:=by simp;omega
  have FIN:Hid (bS w b (Tr.mF F n)):=hJ (by rw[Tr.Ey (λc=>l0 c.1)];exact h);generalize (F.nd n).cV=ll at*;go_in
  go_wp2
  go_end0
  exact⟨rfl,FIN.v,bG.refl _ _⟩
def Tr.dP(F:Fo)(z:Int):Fo:=if Tr.cH F z=0 then F.put z.toNat {F.nd z.toNat with held:=(F.nd z.toNat).held+1}else F
theorem rH(b:Nat)(z:Int)(F:Fo)(w:bD)(h:bS w b F)(hb:∀n,n<40->(F.nd n).held<2^60):
  Calls prog 231 #[ai (bj ⟨b,0,bu⟩),aa az z] w λe w'=>e=bf (bN (Tr.cH F z))/\bS w' b (Tr.dP F z)/\bG b w w':=by
 have HF:=hJ h;by_cases c:Tr.cH F z=0
 .obtain⟨n,rfl,n40,_⟩:=Tr.gZ c;have c0:=h.yH n n40;have cf:=h.frozen;have hl:=hb n n40;have EP:Hid (Tr.cH F (n:Int)=0/\fC b (n:Int) 0=ai (bj ⟨b,n*62,bu⟩)):=hJ ⟨c,gL b n⟩;have FIN:Hid (bS (w.setCell ⟨b,n*62+2,bu⟩ (aa az (((F.nd n).held+1:Nat):Int))) b (Tr.dP F (n:Int))):=hJ (by
   unfold Tr.dP;rw[aJ c,hZ];exact h.Hf n _ n40)
  generalize (F.nd n).held=hh at*;have hw:IntKind.i64.wrap ((hh:Int)+1)=(hh:Int)+1:=aN _ ⟨by omega,bB⟩;go_in
  go_wp2_with fail
  refine sC (ir b n F _ HF.v) ?_;rintro w1 hw1;subst w1;rw[EP.1,EP.2,bF];go_wp2
  go_ret
  rw[EP.1];exact⟨rfl,FIN.v,(bG.refl b w).setCell _ _⟩
 .have E2:Hid (fC b z (Tr.cH F z)=ai bu/\bN (Tr.cH F z)=aq 100 (aa az (Tr.cH F z))/\Tr.dP F z=F):=hJ ⟨ij c,bH c,aI c⟩;go_in
  go_wp2_with fail
  refine sC (ir b z F _ HF.v) ?_;rintro w1 hw;subst w1;rw[E2.1,E2.2.1];go_wp2
  go_ret
  rw[E2.2.1,E2.2.2];exact⟨rfl,HF.v,bG.refl _ _⟩
def Tr.letE(F:Fo)(z:Int):Int:=if Tr.cH F z=0 then(if(F.nd z.toNat).held=0 then 8 else 0)else Tr.cH F z
def Tr.dD(F:Fo)(z:Int):Fo:=if Tr.letE F z=0 then Tr.mF (F.put z.toNat {F.nd z.toNat with held:=(F.nd z.toNat).held-1}) z.toNat else F
theorem tL(b:Nat)(z:Int)(F:Fo)(w:bD)(h:bS w b F)(hb:∀n,n<40->(F.nd n).held<2^60):
  Calls prog 226 #[ai (bj ⟨b,0,bu⟩),aa az z] w λe w'=>e=bf (bN (Tr.letE F z))/\bS w' b (Tr.dD F z)/\bG b w w':=by
 have HF:=hJ h;by_cases c:Tr.cH F z=0
 .obtain⟨n,rfl,n40,_⟩:=Tr.gZ c;have c0:=h.yH n n40;have cf:=h.frozen;have hl:=hb n n40;have EP:Hid (Tr.cH F (n:Int)=0/\fC b (n:Int) 0=ai (bj ⟨b,n*62,bu⟩)):=hJ ⟨c,gL b n⟩;by_cases h0:(F.nd n).held=0
  .have E:Hid (Tr.letE F (n:Int)=8/\Tr.dD F (n:Int)=F):=hJ (by
    have e:Tr.letE F (n:Int)=8:=by unfold Tr.letE;rw[aJ c,hZ,aJ h0]
    exact⟨e,by unfold Tr.dD;rw[e];exact aI bE⟩)
   rw[h0]at c0;have c0':w.cell? ⟨b,n*62+2,bu⟩=bj (aa .i64 0):=c0;go_in
   go_wp2_with fail
   refine sC (ir b n F _ HF.v) ?_;rintro w1 hw1;subst w1;rw[EP.1,EP.2,bF];go_wp2
   go_ret
   rw[E.1,E.2];exact⟨rfl,HF.v,bG.refl _ _⟩
  .obtain⟨hh,hhe⟩:∃hh,(F.nd n).held=hh+1:=⟨(F.nd n).held-1,bB⟩;have E:Hid (Tr.letE F (n:Int)=0/\Tr.dD F (n:Int)=Tr.mF (F.put n {F.nd n with held:=hh}) n):=hJ (by
    have e:Tr.letE F (n:Int)=0:=by unfold Tr.letE;rw[aJ c,hZ,aI h0]
    exact⟨e,by unfold Tr.dD;rw[e,aJ rfl,hZ,hhe];rfl⟩)
   have S1:Hid (bS (w.setCell ⟨b,n*62+2,bu⟩ (aa az (hh:Int))) b (F.put n {F.nd n with held:=hh})/\bG b w (w.setCell ⟨b,n*62+2,bu⟩ (aa az (hh:Int)))):=hJ ⟨h.Hf n _ n40,(bG.refl b w).setCell _ _⟩;rw[hhe]at c0 hl;obtain⟨zz,hzz⟩:=hU (((hh+1:Nat):Int));have hw:IntKind.i64.wrap (zz-1)=(hh:Int):=by rw[<-hzz,aN _ ⟨by omega,bB⟩];omega
   have hz0:(zz==0)=bA:=by simp;omega
   rw[hzz]at c0;go_in
   go_wp2_with fail
   refine sC (ir b n F _ HF.v) ?_;rintro w1 hw1;subst w1;rw[EP.1,EP.2,bF];go_wp2_with fail
   refine sC (tP b n _ _ S1.1 n40) ?_;rintro w2 ⟨h2,f2⟩;have S2:=hJ (aK h2 (S1.2.trans f2));go_wp2
   go_ret
   rw[E.1,E.2];exact⟨rfl,S2.v⟩
 .have E2:Hid (fC b z (Tr.cH F z)=ai bu/\bN (Tr.cH F z)=aq 100 (aa az (Tr.cH F z))/\Tr.letE F z=Tr.cH F z/\Tr.dD F z=F):=hJ (by
   have e:Tr.letE F z=Tr.cH F z:=aI c;exact⟨ij c,bH c,e,by unfold Tr.dD;rw[e];exact aI c⟩)
  go_in
  go_wp2_with fail
  refine sC (ir b z F _ HF.v) ?_;rintro w1 hw;subst w1;rw[E2.1,E2.2.1];go_wp2
  go_ret
  rw[E2.2.2.1,E2.2.1,E2.2.2.2];exact⟨rfl,HF.v,bG.refl _ _⟩
def Tr.uE(F:Fo):Nat->Nat
 |0=>0
 |n+1=>Tr.uE F n+if(F.nd n).kind=0 then 0 else 1
theorem Tr.Q7(F:Fo)(n:Nat):Tr.uE F n<=n:=by
 induction n with
 |zero=>exact aL 0
 |succ n ih=>show Tr.uE F n+_<=n+1;split<;>omega
theorem Vc(b:Nat)(F:Fo)(w:bD)(h:bS w b F):
  Calls prog 79 #[ai (bj ⟨b,0,bu⟩)] w λe w'=>e=bf (aa az (Tr.uE F 40:Int))/\w'=w:=by
 have HF:=hJ h;go_in
 go_wp2
 go_loopw [3,4,5] (λs x i wr=>∃(n:Nat),i=aa az n/\s=aa az (Tr.uE F n:Int)/\n<=40/\wr=w) (λ_ _ i _=>40-(intOf i).toNat)
 case atStart=>exact⟨0,rfl,rfl,bB,rfl⟩
 case round=>
  obtain⟨n,rfl,rfl,hn,hwr⟩:=hrel;subst wr;by_cases hlt:n<40
  .have hltI:(n:Int)<40:=bB
   have c0:=HF.sZ n hlt;have lc:=Tr.Q7 F n;have LS:Hid (Tr.uE F (n+1)=Tr.uE F n+if(F.nd n).kind=0 then 0 else 1):=hJ rfl;by_cases k0:(F.nd n).kind=0
   .rw[aJ k0]at LS;rw[k0]at c0;have c0':w.cell? ⟨b,n*62,bu⟩=bj (aa .i64 0):=c0;go_wp2
    go_roundw
    case rel=>exact⟨n+1,by go_num,by rw[LS.v];rfl,bB,by first|rfl|trivial⟩
    case measure=>simp[intOf];omega
   .rw[aI k0]at LS;have k0':(((F.nd n).kind:Int)==0)=bA:=by simp;omega
    generalize (F.nd n).kind=kk at*;generalize Tr.uE F n=cn at*;go_wp2
    go_roundw
    case rel=>exact⟨n+1,by go_num,by rw[LS.v];go_num,bB,by first|rfl|trivial⟩
    case measure=>simp[intOf];omega
  .have hltI:¬(n:Int)<40:=bB
   obtain rfl:n=40:=bB
   go_wp2
   go_ret
   exact⟨rfl,rfl⟩
def Tr.gJ(F:Fo)(n:Nat)(E:Int):Prop:=(E=0/\n<40/\(F.nd n).kind=0/\∀m,m<n->(F.nd m).kind≠0)\/(E=4/\n=0/\∀m,m<40->(F.nd m).kind≠0)
theorem Tr.gJ.unique{F:Fo}{m:Nat}{G:Int}(h:Tr.gJ F n E)(k:Tr.gJ F m G):n=m/\E=G:=by grind [Tr.gJ]
theorem vr(b:Nat)(F:Fo)(w:bD)(h:bS w b F):
  Calls prog 164 #[ai (bj ⟨b,0,bu⟩)] w λe w'=>∃(n:Nat) (E:Int),e=bf (ao #[aa az (n:Int),bN E])/\Tr.gJ F n E/\w'=w:=by
 have HF:=hJ h;go_in
 go_wp2
 go_loopw [4,5] (λx i wr=>∃(n:Nat),i=aa az n/\n<=40/\Hid (∀m,m<n->(F.nd m).kind≠0)/\wr=w) (λ_ i _=>40-(intOf i).toNat)
 case atStart=>exact⟨0,rfl,bB,λm hm=>bB,rfl⟩
 case round=>
  obtain⟨n,rfl,hn,HN,hwr⟩:=hrel;subst wr;by_cases hlt:n<40
  .have hltI:(n:Int)<40:=bB
   have c0:=HF.sZ n hlt;by_cases k0:(F.nd n).kind=0
   .have FIN:Hid (Tr.gJ F n 0):=hJ (.inl ⟨rfl,hlt,k0,HN.v⟩);rw[k0]at c0;have c0':w.cell? ⟨b,n*62,bu⟩=bj (aa .i64 0):=c0;go_wp2
    go_ret2
    exact⟨n,0,rfl,FIN.v,rfl⟩
   .have NX:Hid (∀m,m<n+1->(F.nd m).kind≠0):=hJ (λm hm=>by
     by_cases e:m=n
     .subst e;exact k0
     .exact HN.v m bB)
    have k0':(((F.nd n).kind:Int)==0)=bA:=by simp;omega
    generalize (F.nd n).kind=kk at*;go_wp2
    go_roundw
    case rel=>exact⟨n+1,by go_num,bB,NX,by first|rfl|trivial⟩
    case measure=>simp[intOf];omega
  .have hltI:¬(n:Int)<40:=bB
   obtain rfl:n=40:=bB
   go_wp2
   go_ret2
   exact⟨0,4,rfl, .inr ⟨rfl,rfl,HN.v⟩,rfl⟩
def Tr.zu(F:Fo)(z:Int):Nat:=if Tr.cH F z=0 then(F.nd z.toNat).tree else 0
theorem Mw(b:Nat)(z:Int)(F:Fo)(w:bD)(h:bS w b F):
  Calls prog 284 #[ai (bj ⟨b,0,bu⟩),aa az z] w λe w'=>e=bf (ao #[aa az (Tr.zu F z:Int),bN (Tr.cH F z)])/\w'=w:=by
 have HF:=hJ h;by_cases c:Tr.cH F z=0
 .obtain⟨n,rfl,n40,_⟩:=Tr.gZ c;have c0:=h.s9 n n40;have EP:Hid (Tr.cH F (n:Int)=0/\fC b (n:Int) 0=ai (bj ⟨b,n*62,bu⟩)/\Tr.zu F (n:Int)=(F.nd n).tree):=hJ ⟨c,gL b n,by unfold Tr.zu;rw[aJ c,hZ]⟩;generalize (F.nd n).tree=ff at*;go_in
  go_wp2_with fail
  refine sC (ir b n F _ HF.v) ?_;rintro w1 hw1;subst w1;rw[EP.1,EP.2.1,bF];go_wp2
  go_ret2
  rw[EP.1,EP.2.2];exact⟨rfl,rfl⟩
 .have E2:Hid (fC b z (Tr.cH F z)=ai bu/\bN (Tr.cH F z)=aq 100 (aa az (Tr.cH F z))/\Tr.zu F z=0):=hJ ⟨ij c,bH c,aI c⟩;go_in
  go_wp2_with fail
  refine sC (ir b z F _ HF.v) ?_;rintro w1 hw;subst w1;rw[E2.1,E2.2.1];go_wp2
  go_ret2
  rw[E2.2.1,E2.2.2];exact⟨rfl,rfl⟩
def Tr.gF(F:Fo)(z:Int):Int:=if z<0\/3<z then 1 else if F.trees<=z.toNat then 2 else 0
def Tr.fR(F:Fo)(z:Int):Nat:=if Tr.gF F z=0 then F.root z.toNat else 0
theorem Mu(b:Nat)(z:Int)(F:Fo)(w:bD)(h:bS w b F):
  Calls prog 230 #[ai (bj ⟨b,0,bu⟩),aa az z] w λe w'=>e=bf (ao #[aa az (Tr.fR F z:Int),bN (Tr.gF F z)])/\w'=w:=by
 by_cases c:z<0\/3<z
 .have E:Hid (Tr.gF F z=1/\Tr.fR F z=0):=hJ (by
   have e:Tr.gF F z=1:=aJ c;exact⟨e,by unfold Tr.fR;rw[e];exact aI bE⟩)
  by_cases c1:z<0
  .clear c;go_in
   go_wp2
   go_ret2
   rw[E.1,E.2];exact⟨rfl,rfl⟩
  .have c2:decide (4<=z)=bw:=by simp;omega
   have c3:decide (z<0)=bA:=by simp;omega
   go_in
   go_wp2
   go_ret2
   rw[E.1,E.2];exact⟨rfl,rfl⟩
 .obtain⟨n,rfl⟩:=aG (show 0<=z by omega);have n4:n<4:=bB
  have nI:(n:Int)<4:=bB
  have c2:decide (4<=(n:Int))=bA:=by simp;omega
  have c0:=h.PW n n4;have c1:=h.C7;by_cases k0:F.trees<=n
  .have E:Hid (Tr.gF F (n:Int)=2/\Tr.fR F (n:Int)=0):=hJ (by
    have e:Tr.gF F (n:Int)=2:=by unfold Tr.gF;rw[aI c,hZ,aJ k0]
    exact⟨e,by unfold Tr.fR;rw[e];exact aI bE⟩)
   have k1:(F.trees:Int)<=(n:Int):=bB
   generalize F.trees=tt at*;go_in
   go_wp2
   go_ret2
   rw[E.1,E.2];exact⟨rfl,rfl⟩
  .have E:Hid (Tr.gF F (n:Int)=0/\Tr.fR F (n:Int)=F.root n):=hJ (by
    have e:Tr.gF F (n:Int)=0:=by unfold Tr.gF;rw[aI c,hZ,aI k0]
    exact⟨e,by unfold Tr.fR;rw[e,aJ rfl,hZ]⟩)
   have k1:¬(F.trees:Int)<=(n:Int):=bB
   generalize F.trees=tt at*;generalize F.root n=rr at*;go_in
   go_wp2
   go_ret2
   rw[E.1,E.2];exact⟨rfl,rfl⟩
def Tr.fJ(x:Nd)(s:bU)(z:Int):Prop:=(∃i:Nat,z=i/\i<x.size/\(x.eJ i).toList=s.toList/\∀j,j<i->(x.eJ j).toList≠s.toList)\/(z= -1/\∀j,j<x.size->(x.eJ j).toList≠s.toList)
theorem Tr.fJ.unique{x:Nd}{y:Int}(h:Tr.fJ x s y)(k:Tr.fJ x s z):y=z:=by grind [Tr.fJ]
theorem Gh(bx k:Nat)(nm s:bU)(w:bD)(h:w.cell? ⟨bx,0,bu⟩=bj (ak s))(hb:bx<w.heap.size):
  Calls prog 305 #[.agg #[ak nm,aa az (k:Int)],ai (bj ⟨bx,0,bu⟩)] w λe w'=>e=bf (.bool (nm.toList==s.toList))/\Below w.heap.size w w':=by
 have hne:bx≠w.heap.size:=bB
 go_in
 go_wp2
 go_ret
 exact⟨rfl,(aQ _ _).alloc (aL _) _⟩
theorem JB(bx b n m c:Nat)(s:bU)(F:Fo)(w:bD)(h:bS w b F)(hx:w.cell? ⟨bx,0,bu⟩=bj (ak s))(hn:n<40)(hm:(F.nd n).size=m)(hm8:m<=8):
  Calls prog 304 #[.slice (bj ⟨b,n*62+6,bu⟩) m c, .func (.func 305) #[] #[ai (bj ⟨bx,0,bu⟩)]] w λe w'=>∃z:Int,e=bf (aa az z)/\Tr.fJ (F.nd n) s z/\Below w.heap.size w w':=by
 have HF:=hJ (aK h (aK hx (bZ _ _ hx)));have HM:=hJ hm;go_in
 go_wp2_with fail
 go_loopw [5,8] (λx i wr=>∃(j:Nat),i=aa az j/\j<=m/\Hid (Below w.heap.size w wr/\∀y,y<j->((F.nd n).eJ y).toList≠s.toList)) (λ_ i _=>m-(intOf i).toNat)
 case atStart=>exact⟨0,rfl,bB,aQ _ _,λy hy=>bB⟩
 case round=>
  obtain⟨j,rfl,hj,R⟩:=hrel;by_cases hlt:j<m
  .have hltI:(j:Int)<(m:Int):=bB
   have c0:=(HF.1.below R.1).xk n j hn bB;have c1:=(HF.1.below R.1).ux n j hn bB;obtain⟨nm,hnm⟩:=hU ((F.nd n).eJ j);have HNM:=hJ hnm;rw[hnm]at c0;generalize (F.nd n).cY j=kk at*;go_wp2_with fail
   refine sC (Gh bx kk nm s _ ((R.1.cell HF.2.2).trans HF.2.1) (aD HF.2.2 R.1.size)) ?_;rintro w1 b1;have B1:=hJ (R.1.trans (b1.mono R.1.size));by_cases e:nm.toList=s.toList
   .have e':(nm.toList==s.toList)=bw:=by simpa using e
    have FIN:Hid (Tr.fJ (F.nd n) s (j:Int)):=hJ (.inl ⟨j,rfl,by rw[HM.v];exact hlt,by rw[HNM.v];exact e,R.2⟩);rw[e'];go_wp2
    go_ret
    exact⟨_,rfl,FIN.v,B1.v⟩
   .have e':(nm.toList==s.toList)=bA:=by simpa using e
    have NX:Hid (∀y,y<j+1->((F.nd n).eJ y).toList≠s.toList):=hJ (λy hy=>by
     by_cases d:y=j
     .subst d;rw[HNM.v];exact e
     .exact R.2 y bB)
    rw[e'];go_wp2
    go_roundw
    case rel=>exact⟨j+1,by go_num,bB,B1.v,NX.v⟩
    case measure=>simp[intOf];omega
  .have hltI:¬(j:Int)<(m:Int):=bB
   have FIN:Hid (Tr.fJ (F.nd n) s (-1)):=hJ (.inr ⟨rfl,λy hy=>R.2 y (by rw[HM.v]at hy;omega)⟩);go_wp2
   go_ret
   exact⟨_,rfl,FIN.v,R.1⟩
theorem qR(b n:Nat)(F:Fo)(w:bD)(h:bS w b F)(hn:n<40)(hm8:(F.nd n).size<=8):
  Calls prog 264 #[ai (bj ⟨b,n*62,bu⟩)] w λe w'=>e=bf (.slice (bj ⟨b,n*62+6,bu⟩) (F.nd n).size 8)/\∃k,w'=w.drewN k:=by
 have c0:=h.nT n hn;generalize (F.nd n).size=sz at*;have h1:(sz:Int)<=8:=bB
 go_in
 go_wp2
 go_quiet (fail)
 go_wp2
 go_ret
 exact⟨rfl,_,rfl⟩
theorem U9(w:bD)(v:Value)(T:TypeId):(w.alloc (bh #[v] T)).cell? ⟨w.heap.size,0,bu⟩=bj v:=by
 rw[bR (heap_alloc_new w (bh #[v] T))];rfl
theorem tO(b n:Nat)(s:bU)(F:Fo)(w:bD)(h:bS w b F)(hn:n<40)(hm8:(F.nd n).size<=8):
  Calls prog 282 #[ai (bj ⟨b,n*62,bu⟩),ak s] w λe w'=>∃z:Int,e=bf (aa az z)/\Tr.fJ (F.nd n) s z/\Below w.heap.size w w':=by
 have S1:Hid (∀T,bS (w.alloc (bh #[ak s] T)) b F/\Below w.heap.size w (w.alloc (bh #[ak s] T))):=hJ (λT=>by
  have bb:Below w.heap.size w (w.alloc (bh #[ak s] T)):=(aQ _ _).alloc (aL _) _;exact⟨h.below bb,bb⟩)
 go_in
 go_wp2_with fail
 refine sC (qR b n F _ (S1.v _).1 hn hm8) ?_;rintro w1 ⟨k,hw⟩;subst w1;obtain⟨sz,hsz⟩:=hU ((F.nd n).size);have HSZ:=hJ hsz;rw[hsz]at hm8|-;go_wp2_with fail
 refine(JB w.heap.size b n sz 8 s F _ ((S1.v _).1.drewN k) (U9 w _ _) hn HSZ.v hm8).mono ?_;rintro e w2 ⟨z,rfl,hp,b2⟩;have FIN:Hid (Tr.fJ (F.nd n) s z/\Below w.heap.size w w2):=hJ ⟨hp,by
  have a:=(S1.v 9).2;have c:Below w.heap.size w ((w.alloc (bh #[ak s] 9)).drewN k):=⟨a.os,a.tape,a.output,a.size,a.block⟩;exact c.trans (b2.mono c.size)⟩
 go_wp2
 go_ret
 exact⟨z,rfl,FIN.v⟩
def Tr.kY(F:Fo):Prop:=∀n,n<40->(F.nd n).kind=2->(F.nd n).size<=8
def Tr.lA(F:Fo)(z:Int)(s:bU)(K:Nat)(E:Int):Prop:=
 (Tr.cN F z 2≠0/\K=0/\E=Tr.cN F z 2)\/(Tr.cN F z 2=0/\((∃i:Nat,Tr.fJ (F.nd z.toNat) s i/\K=(F.nd z.toNat).cY i/\E=0)\/(Tr.fJ (F.nd z.toNat) s (-1)/\K=0/\E=2)))
theorem Tr.fJ.cases{x:Nd}(h:Tr.fJ x s z):(∃i:Nat,z=i/\i<x.size)\/z= -1:=by grind [Tr.fJ]
theorem vq(b:Nat)(z:Int)(s:bU)(F:Fo)(w:bD)(h:bS w b F)(hs:Tr.kY F):
  Calls prog 251 #[ai (bj ⟨b,0,bu⟩),aa az z,ak s] w λe w'=>∃(K:Nat) (E:Int),e=bf (ao #[aa az (K:Int),bN E])/\Tr.lA F z s K E/\Below w.heap.size w w':=by
 have HF:=hJ h;by_cases c:Tr.cN F z 2=0
 .obtain⟨n,rfl,n40,_,k2⟩:=Tr.fD c;have hm8:=hs n n40 k2;have EP:Hid (Tr.cN F (n:Int) 2=0/\fC b (n:Int) 0=ai (bj ⟨b,n*62,bu⟩)):=hJ ⟨c,gL b n⟩;go_in
  go_wp2_with fail
  refine sC (lU b n F _ HF.v) ?_;rintro w1 hw1;subst w1;rw[EP.1,EP.2,bF];go_wp2_with fail
  refine(tO b n s F _ HF.v n40 hm8).mono ?_;rintro e w2 ⟨y,rfl,hp,b2⟩;have HP:=hJ (aK hp b2);rcases hp.cases with⟨i,rfl,hi⟩|rfl
  .have c0:=(HF.below b2).ux n i n40 bB;have iI:(i:Int)<8:=bB
   have FIN:Hid (Tr.lA F (n:Int) s ((F.nd n).cY i) 0):=hJ (.inr ⟨EP.1, .inl ⟨i,by rw[hZ];exact hp,by rw[hZ],rfl⟩⟩);generalize (F.nd n).cY i=kk at*;go_wp2
   go_ret2
   exact⟨kk,0,rfl,FIN.v,HP.2⟩
  .have FIN:Hid (Tr.lA F (n:Int) s 0 2):=hJ (.inr ⟨EP.1, .inr ⟨by rw[hZ];exact hp,rfl,rfl⟩⟩);go_wp2
   go_ret2
   exact⟨0,2,rfl,FIN.v,HP.2⟩
 .have E2:Hid (fC b z (Tr.cN F z 2)=ai bu/\bN (Tr.cN F z 2)=aq 100 (aa az (Tr.cN F z 2))/\Tr.lA F z s 0 (Tr.cN F z 2)):=hJ ⟨ij c,bH c, .inl ⟨c,rfl,rfl⟩⟩;go_in
  go_wp2_with fail
  refine sC (lU b z F _ HF.v) ?_;rintro w1 hw;subst w1;rw[E2.1,E2.2.1];go_wp2
  go_ret2
  exact⟨0,_,by rw[E2.2.1];rfl,E2.2.2,aQ _ _⟩
def Tr.okB(c:Nat):Bool:=(decide (97<=c)&&decide (c<=122))||(decide (48<=c)&&decide (c<=57))||decide (c=46)
theorem Gg(c:Nat)(w:bD):Calls prog 303 #[aa .u8 (c:Int)] w λe w'=>e=bf (.bool (Tr.okB c))/\w'=w:=by
 have E1:∀a:Nat,decide ((a:Int)<=(c:Int))=decide (a<=c):=λa=>by simp
 by_cases c1:97<=c
 .have d1:(97:Int)<=(c:Int):=bB
  by_cases c2:c<=122
  .have d2:(c:Int)<=122:=bB
   have HO:Hid (Tr.okB c=bw):=hJ (by unfold Tr.okB;simp[c1,c2]);go_in
   go_wp2
   go_ret
   exact⟨cX (by rw[HO.v]),rfl⟩
  .have d2:decide ((c:Int)<=122)=bA:=by simp;omega
   have d3:(48:Int)<=(c:Int):=bB
   have d4:decide ((c:Int)<=57)=bA:=by simp;omega
   have HO:Hid (Tr.okB c=bA):=hJ (by unfold Tr.okB;simp;omega);have d5:((c:Int)==46)=bA:=by simp;omega
   go_in
   go_wp2
   go_ret
   exact⟨cX (by rw[HO.v]),rfl⟩
 .have d1:decide ((97:Int)<=(c:Int))=bA:=by simp;omega
  by_cases c3:48<=c/\c<=57
  .have d3:(48:Int)<=(c:Int):=bB
   have d4:(c:Int)<=57:=bB
   have HO:Hid (Tr.okB c=bw):=hJ (by unfold Tr.okB;simp;omega);go_in
   go_wp2
   go_ret
   exact⟨cX (by rw[HO.v]),rfl⟩
  .by_cases c5:c=46
   .subst c5;have HO:Hid (Tr.okB 46=bw):=hJ bE;go_in
    go_wp2
    go_ret
    exact⟨cX (by rw[HO.v]),rfl⟩
   .have d5:((c:Int)==46)=bA:=by simp;omega
    have HO:Hid (Tr.okB c=bA):=hJ (by unfold Tr.okB;simp;omega);by_cases c6:48<=c
    .have d3:(48:Int)<=(c:Int):=bB
     have d4:decide ((c:Int)<=57)=bA:=by simp;omega
     go_in
     go_wp2
     go_ret
     exact⟨cX (by rw[HO.v]),rfl⟩
    .have d3:decide ((48:Int)<=(c:Int))=bA:=by simp;omega
     go_in
     go_wp2
     go_ret
     exact⟨cX (by rw[HO.v]),rfl⟩
def Tr.p8(s:bU):Nat->Bool
 |0=>bw
 |n+1=>Tr.p8 s n&&Tr.okB (s[n]!).toNat
theorem Tr.Fp{j:Nat}(h:Tr.okB (s[j]!).toNat=bA):∀n,j<n->Tr.p8 s n=bA:=by
 intro n
 induction n with
 |zero=>intro hj;omega
 |succ n ih=>
  grind [Tr.p8,Tr.okB]
def Tr.gd(s:bU):Bool:=decide (1<=s.size)&&decide (s.size<=8)&& !(s.toList==[46])&& !(s.toList==[46,46])&&Tr.p8 s s.size
theorem vl(s:bU)(w:bD):Calls prog 280 #[ak s] w λe w'=>e=bf (.bool (Tr.gd s))/\w'=w:=by
 by_cases c1:s.size=0
 .have HO:Hid (Tr.gd s=bA):=hJ (by unfold Tr.gd;simp[c1]);have d1:(s.size:Int)<1:=bB
  go_in
  go_wp2
  go_ret
  exact⟨cX (by rw[HO.v]),rfl⟩
 .have d1:decide ((s.size:Int)<1)=bA:=by simp;omega
  by_cases c2:8<s.size
  .have HO:Hid (Tr.gd s=bA):=hJ (by unfold Tr.gd;simp;omega);have d2:(8:Int)<(s.size:Int):=bB
   go_in
   go_wp2
   go_ret
   exact⟨cX (by rw[HO.v]),rfl⟩
  .have d2:decide ((8:Int)<(s.size:Int))=bA:=by simp;omega
   by_cases c3:(s.toList==[46])=bw
   .have HO:Hid (Tr.gd s=bA):=hJ (by unfold Tr.gd;rw[c3];simp);go_in
    go_wp2
    go_ret
    exact⟨cX (by rw[HO.v]),rfl⟩
   .have d3:(s.toList==[46])=bA:=by simpa using c3
    by_cases c4:(s.toList==[46,46])=bw
    .have HO:Hid (Tr.gd s=bA):=hJ (by unfold Tr.gd;rw[c4];simp);go_in
     go_wp2
     go_ret
     exact⟨cX (by rw[HO.v]),rfl⟩
    .have d4:(s.toList==[46,46])=bA:=by simpa using c4
     have HO:Hid (Tr.gd s=Tr.p8 s s.size):=hJ (by unfold Tr.gd;rw[d3,d4,aO (show 1<=s.size by omega),aO (show s.size<=8 by omega)];simp);have hs8:s.size<=8:=bB
     go_in
     go_wp2_with fail
     go_loopw [3,22] (λx i wr=>∃(j:Nat),i=aa az j/\j<=s.size/\Hid (Tr.p8 s j=bw)/\wr=w) (λ_ i _=>s.size-(intOf i).toNat)
     case atStart=>exact⟨0,rfl,bB,rfl,rfl⟩
     case round=>
      obtain⟨j,rfl,hj,R,hwr⟩:=hrel;subst wr;by_cases hlt:j<s.size
      .have hltI:(j:Int)<(s.size:Int):=bB
       have HB:Hid (Tr.okB (s[j]!).toNat=Tr.okB (s[j]'hlt).toNat):=hJ (by rw[getElem!_pos s j hlt]);go_wp2_with fail
       refine sC (Gg (s[j]'hlt).toNat _) ?_;rintro w1 hw1;subst w1;cases ho:Tr.okB (s[j]'hlt).toNat
       .have NO:=hJ (Tr.Fp (s:=s) (j:=j) (by rw[HB.v];exact ho) s.size hlt);go_wp2
        go_ret
        exact⟨cX (by rw[HO.v,NO.v]),rfl⟩
       .have NX:Hid (Tr.p8 s (j+1)=bw):=hJ (by
         show(Tr.p8 s j&&Tr.okB (s[j]!).toNat)=bw;rw[R.v,HB.v,ho];rfl)
        go_wp2
        go_roundw
        case rel=>exact⟨j+1,by go_num,bB,NX,by first|rfl|trivial⟩
        case measure=>simp[intOf];omega
      .have hltI:¬(j:Int)<(s.size:Int):=bB
       have hje:j=s.size:=bB
       have FIN:Hid (Tr.p8 s s.size=bw):=hJ (by rw[<-hje];exact R.v);go_wp2
       go_ret
       exact⟨cX (by rw[HO.v,FIN.v]),rfl⟩
def Tr.oT(x:Nd)(s:bU)(E:Int):Prop:=(Tr.gd s=bA/\E=9)\/(Tr.gd s=bw/\((∃i:Nat,Tr.fJ x s i/\E=3)\/(Tr.fJ x s (-1)/\((x.size=8/\E=4)\/(x.size≠8/\E=0)))))
theorem vx(b n:Nat)(s:bU)(F:Fo)(w:bD)(h:bS w b F)(hn:n<40)(hm8:(F.nd n).size<=8):
  Calls prog 256 #[ai (bj ⟨b,n*62,bu⟩),ak s] w λe w'=>∃E,e=bf (bN E)/\Tr.oT (F.nd n) s E/\Below w.heap.size w w':=by
 have HF:=hJ h;go_in
 go_wp2_with fail
 refine sC (vl s _) ?_;rintro w1 hw1;subst w1;cases hb:Tr.gd s
 .have FIN:Hid (Tr.oT (F.nd n) s 9):=hJ (.inl ⟨hb,rfl⟩);go_wp2
  go_ret
  exact⟨9,rfl,FIN.v,aQ _ _⟩
 .have HB:=hJ hb;go_wp2_with fail
  refine(tO b n s F _ HF.v hn hm8).mono ?_;rintro e w2 ⟨y,rfl,hp,b2⟩;have B2:=hJ b2;rcases hp.cases with⟨i,rfl,hi⟩|rfl
  .have FIN:Hid (Tr.oT (F.nd n) s 3):=hJ (.inr ⟨HB.v, .inl ⟨i,hp,rfl⟩⟩);go_wp2
   go_ret
   exact⟨3,rfl,FIN.v,B2.v⟩
  .have c0:=(HF.below b2).nT n hn;by_cases s8:(F.nd n).size=8
   .have FIN:Hid (Tr.oT (F.nd n) s 4):=hJ (.inr ⟨HB.v, .inr ⟨hp, .inl ⟨s8,rfl⟩⟩⟩);rw[s8]at c0;have c0':w2.cell? ⟨b,n*62+3,bu⟩=bj (aa .i64 8):=c0;go_wp2
    go_ret
    exact⟨4,rfl,FIN.v,B2.v⟩
   .have FIN:Hid (Tr.oT (F.nd n) s 0):=hJ (.inr ⟨HB.v, .inr ⟨hp, .inr ⟨s8,rfl⟩⟩⟩);have s8':(((F.nd n).size:Int)==8)=bA:=by simp;omega
    generalize (F.nd n).size=sz at*;go_wp2
    go_ret
    exact⟨0,rfl,FIN.v,B2.v⟩
def Tr.oU(F:Fo)(z:Int)(s:bU)(E:Int):Prop:=(Tr.cN F z 2≠0/\E=Tr.cN F z 2)\/(Tr.cN F z 2=0/\Tr.oT (F.nd z.toNat) s E)
theorem r8(b:Nat)(z:Int)(s:bU)(F:Fo)(w:bD)(h:bS w b F)(hs:Tr.kY F):
  Calls prog 259 #[ai (bj ⟨b,0,bu⟩),aa az z,ak s] w λe w'=>∃E,e=bf (ao #[fC b z E,bN E])/\Tr.oU F z s E/\Below w.heap.size w w':=by
 have HF:=hJ h;by_cases c:Tr.cN F z 2=0
 .obtain⟨n,rfl,n40,_,k2⟩:=Tr.fD c;have hm8:=hs n n40 k2;have EP:Hid (Tr.cN F (n:Int) 2=0/\fC b (n:Int) 0=ai (bj ⟨b,n*62,bu⟩)):=hJ ⟨c,gL b n⟩;go_in
  go_wp2_with fail
  refine sC (lU b n F _ HF.v) ?_;rintro w1 hw1;subst w1;rw[EP.1,EP.2,bF];go_wp2_with fail
  refine(vx b n s F _ HF.v n40 hm8).mono ?_;rintro e w2 ⟨E,rfl,hr,b2⟩;have FIN:Hid (Tr.oU F (n:Int) s E/\Below w.heap.size w w2):=hJ ⟨.inr ⟨EP.1,by rw[hZ];exact hr⟩,b2⟩;by_cases e0:E=0
  .subst e0;rw[bF];go_wp2
   go_ret2
   exact⟨0,by rw[EP.2];rfl,FIN.v⟩
  .have E2:Hid (fC b (n:Int) E=ai bu/\bN E=aq 100 (aa az E)):=hJ ⟨ij e0,bH e0⟩;rw[E2.2];go_wp2
   go_ret2
   exact⟨E,by rw[E2.1,E2.2];rfl,FIN.v⟩
 .have E2:Hid (fC b z (Tr.cN F z 2)=ai bu/\bN (Tr.cN F z 2)=aq 100 (aa az (Tr.cN F z 2))/\Tr.oU F z s (Tr.cN F z 2)):=hJ ⟨ij c,bH c, .inl ⟨c,rfl⟩⟩;go_in
  go_wp2_with fail
  refine sC (lU b z F _ HF.v) ?_;rintro w1 hw;subst w1;rw[E2.1,E2.2.1];go_wp2
  go_ret2
  exact⟨_,by rw[E2.1,E2.2.1];rfl,E2.2.2,aQ _ _⟩

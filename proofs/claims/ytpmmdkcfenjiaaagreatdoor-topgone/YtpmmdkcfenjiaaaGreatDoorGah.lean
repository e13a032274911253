import Derived.Test.YtpmmdkcfenjiaaaGreatDoorGab
set_option maxRecDepth 100000
set_option maxHeartbeats 1000000
set_option linter.unusedVariables false
set_option linter.unusedSimpArgs false
namespace Go.Proofs.YtpmmdkcfenjiaaaGreatDoor
open Value renaming int->aa,pointer->ai,string->ak,tuple->ao,iface->aq
open IntKind renaming i64->az
open Ending renaming returned->bf
open Obj renaming cells->bh
open Option renaming some->bj,none->bu
open Bool renaming true->bw,false->bA
open Tryz (prog)
open Go.RowKit
variable {E z:Int}{n:Nat}{s:bU}
namespace Tr
structure Nd where
 kind:Nat
 cW:Nat
 held:Nat
 size:Nat
 tree:Nat
 up:Nat
 eN:Nat->bU
 db:Nat->Nat
 dJ:Nat->Int
structure Fo where
 nd:Nat->Nd
 root:Nat->Nat
 trees:Nat
def Nd.no:Nd:=⟨0,0,0,0,0,0,λ_=>⟨#[]⟩,λ_=>0,λ_=>0⟩
def Fo.put(F:Fo)(n:Nat)(x:Nd):Fo:={F with nd:=λm=>if m=n then x else F.nd m}
theorem bG(F:Fo)(n:Nat)(x:Nd):(F.put n x).nd n=x:=aJ rfl
theorem bO(F:Fo)(n:Nat)(x:Nd)(m:Nat)(h:m≠n):(F.put n x).nd m=F.nd m:=aI h
def f0:Fo:=⟨λ_=>Nd.no,λ_=>0,0⟩
def cH(F:Fo)(z:Int):Int:=if z<0\/39<z then 1 else if(F.nd z.toNat).kind=0 then 2 else 0
def cL(F:Fo)(z:Int)(k:Nat):Int:=if cH F z≠0 then cH F z else if(F.nd z.toNat).kind=k then 0 else 11
theorem gZ{F:Fo}(h:cH F z=0):∃n:Nat,z=n/\n<40/\(F.nd n).kind≠0:=by grind [cH]
theorem fB{F:Fo}{k:Nat}(h:cL F z k=0):∃n:Nat,z=n/\n<40/\(F.nd n).kind≠0/\(F.nd n).kind=k:=by grind [cL,cH]
end Tr
open Tr (Fo Nd)
def iV(x:Nd)(j:Nat):Value:=
 if j=0 then aa az (x.kind:Int)else if j=1 then aa az (x.cW:Int)else if j=2 then aa az (x.held:Int)else if j=3 then aa az (x.size:Int)else if j=4 then aa az (x.tree:Int)else if j=5 then aa az (x.up:Int)
 else if j<22 then(if j%2=0 then ak (x.eN ((j-6)/2))else aa az (x.db ((j-6)/2):Int))else aa .u8 (x.dJ (j-22))
def jV(F:Fo)(o:Nat):Value:=if o<2480 then iV (F.nd (o/62)) (o%62)else if o<2484 then aa az (F.root (o-2480):Int)else aa az (F.trees:Int)
structure bR (w:bD)(b:Nat)(F:Fo):Prop where
 dk:∃C,w.heap[b]? =bj (bh C 208 (0,0))/\C.size=2485
 cell:∀o,o<2485->w.cell? ⟨b,o,bu⟩=bj (jV F o)
section
variable {w w':bD}{b:Nat}{F F':Fo}
theorem bR.drewN(h:bR w b F)(n:Nat):bR (w.drewN n) b F:=⟨h.dk,h.cell⟩
theorem bR.drew(h:bR w b F):bR w.drew b F:=⟨h.dk,h.cell⟩
theorem bR.frozen(h:bR w b F)(o:Nat):w.frozen? ⟨b,o,bu⟩=bA:=by obtain⟨C,h1,_⟩:=h.dk;exact cE h1 o
theorem bR.lt(h:bR w b F):b<w.heap.size:=by obtain⟨C,h1,_⟩:=h.dk;exact(aX.1 h1).1
theorem bR.same(h:bR w b F)(e:w'.heap[b]? =w.heap[b]?):bR w' b F:=⟨by rw[e];exact h.dk,λo ho=>(aV e).trans (h.cell o ho)⟩
theorem bR.below(h:bR w b F)(k:Below w.heap.size w w'):bR w' b F:=h.same (k.block b h.lt)
theorem bR.nd(h:bR w b F)(n j:Nat)(hn:n<40)(hj:j<62):w.cell? ⟨b,n*62+j,bu⟩=bj (iV (F.nd n) j):=by
 rw[h.cell _ bB,jV,nL,show(n*62+j)/62=n by omega,show(n*62+j)%62=j by omega]
theorem bR.tD(h:bR w b F)(n:Nat)(hn:n<40):w.cell? ⟨b,n*62,bu⟩=bj (aa az ((F.nd n).kind:Int)):=h.nd n 0 hn bB
theorem bR.uK(h:bR w b F)(n:Nat)(hn:n<40):w.cell? ⟨b,n*62+1,bu⟩=bj (aa az ((F.nd n).cW:Int)):=h.nd n 1 hn bB
theorem bR.yG(h:bR w b F)(n:Nat)(hn:n<40):w.cell? ⟨b,n*62+2,bu⟩=bj (aa az ((F.nd n).held:Int)):=h.nd n 2 hn bB
theorem bR.nX(h:bR w b F)(n:Nat)(hn:n<40):w.cell? ⟨b,n*62+3,bu⟩=bj (aa az ((F.nd n).size:Int)):=h.nd n 3 hn bB
theorem bR.tE(h:bR w b F)(n:Nat)(hn:n<40):w.cell? ⟨b,n*62+4,bu⟩=bj (aa az ((F.nd n).tree:Int)):=h.nd n 4 hn bB
theorem bR.Vt(h:bR w b F)(n:Nat)(hn:n<40):w.cell? ⟨b,n*62+5,bu⟩=bj (aa az ((F.nd n).up:Int)):=h.nd n 5 hn bB
theorem Bh(x:Nd)(i:Nat)(hi:i<8):iV x (6+i*2)=ak (x.eN i):=by grind [iV]
theorem Bg(x:Nd)(i:Nat)(hi:i<8):iV x (6+i*2+1)=aa az (x.db i:Int):=by grind [iV]
theorem rE(x:Nd)(i:Nat):iV x (22+i)=aa .u8 (x.dJ i):=by grind [iV]
theorem bR.xp(h:bR w b F)(n i:Nat)(hn:n<40)(hi:i<8):w.cell? ⟨b,n*62+6+i*2,bu⟩=bj (ak ((F.nd n).eN i)):=by
 rw[show n*62+6+i*2=n*62+(6+i*2)by omega,h.nd n _ hn bB,Bh _ i hi]
theorem bR.uJ(h:bR w b F)(n i:Nat)(hn:n<40)(hi:i<8):w.cell? ⟨b,n*62+6+i*2+1,bu⟩=bj (aa az ((F.nd n).db i:Int)):=by
 rw[show n*62+6+i*2+1=n*62+(6+i*2+1)by omega,h.nd n _ hn bB,Bg _ i hi]
theorem bR.VA(h:bR w b F)(n i:Nat)(hn:n<40)(hi:i<40):w.cell? ⟨b,n*62+22+i,bu⟩=bj (aa .u8 ((F.nd n).dJ i)):=by
 rw[show n*62+22+i=n*62+(22+i)by omega,h.nd n _ hn bB,rE]
theorem bR.PX(h:bR w b F)(t:Nat)(ht:t<4):w.cell? ⟨b,2480+t,bu⟩=bj (aa az (F.root t:Int)):=by
 rw[h.cell _ bB,jV,nK,nL,show 2480+t-2480=t by omega]
theorem bR.C9(h:bR w b F):w.cell? ⟨b,2484,bu⟩=bj (aa az (F.trees:Int)):=h.cell 2484 bB
theorem bR.set(h:bR w b F)(o:Nat)(ho:o<2485)(v:Value)(hv:∀i,i<2485->jV F' i=if i=o then v else jV F i):bR (w.setCell ⟨b,o,bu⟩ v) b F':=by
 obtain⟨C,h1,h2⟩:=h.dk;refine⟨⟨_,cO h1 _ v,by simpa using h2⟩,λi hi=>?_⟩;rw[hv i hi];by_cases e:i=o
 .subst e;rw[dE h1 _ v bB,aJ rfl]
 .rw[du h1 _ _ v (bQ e),aI e];exact h.cell i hi
theorem bR.kT(h:bR w b F)(n j:Nat)(hn:n<40)(hj:j<62)(v:Value)(x:Nd)(hx:∀i,i<62->iV x i=if i=j then v else iV (F.nd n) i):bR (w.setCell ⟨b,n*62+j,bu⟩ v) b (F.put n x):=by
 refine h.set (n*62+j) bB v (λo ho=>?_);unfold jV;by_cases c:o<2480
 .rw[aJ c,aJ c];by_cases d:o/62=n
  .rw[d,Tr.bG,hx (o%62) bB];grind
  .rw[Tr.bO _ _ _ _ d,nK]
 .rw[aI c,aI c,aI (show¬o=n*62+j by omega)];rfl
theorem bR.congr(h:bR w b F)(e:∀o,o<2485->jV F' o=jV F o):bR w b F':=⟨h.dk,λo ho=>by rw[e o ho];exact h.cell o ho⟩
end
section
variable {w:bD}{b:Nat}{F:Fo}
theorem bR.xQ(h:bR w b F)(n v:Nat)(hn:n<40):bR (w.setCell ⟨b,n*62+1,bu⟩ (aa az (v:Int))) b (F.put n {F.nd n with cW:=v}):=h.kT n 1 hn bB _ _ (λi _=>by
 by_cases c:i=1
 .subst c;rfl
 .rw[aI c];unfold iV;rw[aI c,aI c])
theorem bR.Hh(h:bR w b F)(n v:Nat)(hn:n<40):bR (w.setCell ⟨b,n*62+2,bu⟩ (aa az (v:Int))) b (F.put n {F.nd n with held:=v}):=h.kT n 2 hn bB _ _ (λi _=>by
 by_cases c:i=2
 .subst c;rfl
 .rw[aI c];unfold iV;rw[aI c,aI c])
theorem bR.AJ(h:bR w b F)(n v:Nat)(hn:n<40):bR (w.setCell ⟨b,n*62+3,bu⟩ (aa az (v:Int))) b (F.put n {F.nd n with size:=v}):=h.kT n 3 hn bB _ _ (λi _=>by
 by_cases c:i=3
 .subst c;rfl
 .rw[aI c];unfold iV;rw[aI c,aI c])
theorem bR.U8(h:bR w b F)(n v:Nat)(hn:n<40):bR (w.setCell ⟨b,n*62+5,bu⟩ (aa az (v:Int))) b (F.put n {F.nd n with up:=v}):=h.kT n 5 hn bB _ _ (λi _=>by
 by_cases c:i=5
 .subst c;rfl
 .rw[aI c];unfold iV;rw[aI c,aI c])
def ir{α:Type}(f:Nat->α)(i:Nat)(v:α):Nat->α:=λj=>if j=i then v else f j
theorem rh{α:Type}(f:Nat->α)(i:Nat)(v:α):ir f i v i=v:=aJ rfl
theorem vG{α:Type}(f:Nat->α)(i:Nat)(v:α)(j:Nat)(h:j≠i):ir f i v j=f j:=aI h
theorem bR.Ur(h:bR w b F)(n i:Nat)(v:bU)(hn:n<40)(hi:i<8):bR (w.setCell ⟨b,n*62+6+i*2,bu⟩ (ak v)) b (F.put n {F.nd n with eN:=ir (F.nd n).eN i v}):=by
 rw[show n*62+6+i*2=n*62+(6+i*2)by omega];refine h.kT n (6+i*2) hn bB _ _ (λj hj=>?_);grind [Bh,ir,rh,iV]
theorem bR.Up(h:bR w b F)(n i v:Nat)(hn:n<40)(hi:i<8):bR (w.setCell ⟨b,n*62+6+i*2+1,bu⟩ (aa az (v:Int))) b (F.put n {F.nd n with db:=ir (F.nd n).db i v}):=by
 rw[show n*62+6+i*2+1=n*62+(6+i*2+1)by omega];refine h.kT n (6+i*2+1) hn bB _ _ (λj hj=>?_);grind [Bg,ir,rh,iV]
theorem bR.Sr(h:bR w b F)(t v:Nat)(ht:t<4):bR (w.setCell ⟨b,2480+t,bu⟩ (aa az (v:Int))) b {F with root:=ir F.root t v}:=by
 refine h.set (2480+t) bB _ (λo ho=>?_);grind [jV,ir]
theorem bR.Pe(h:bR w b F)(v:Nat):bR (w.setCell ⟨b,2484,bu⟩ (aa az (v:Int))) b {F with trees:=v}:=by
 refine h.set 2484 bB _ (λo ho=>?_);grind [jV]
end
def fw(b:Nat)(z E:Int):Value:=if E=0 then ai (bj ⟨b,z.toNat*62,bu⟩)else ai bu
theorem gM(b n:Nat):fw b (n:Int) 0=ai (bj ⟨b,n*62,bu⟩):=by unfold fw;rw[aJ rfl,hU]
theorem ij{b:Nat}(h:E≠0):fw b z E=ai none:=aI h
theorem iq(b:Nat)(z:Int)(F:Fo)(w:bD)(h:bR w b F):
  Calls prog 266 #[ai (bj ⟨b,0,bu⟩),aa az z] w λe w'=>e=bf (ao #[fw b z (Tr.cH F z),bN (Tr.cH F z)])/\w'=w:=by
 by_cases c:z<0\/39<z
 .have E:Hid (Tr.cH F z=1):=hZ (aJ c);have E2:Hid (fw b z 1=ai bu):=hZ (ij bE);by_cases c1:z<0
  .clear c;go_in
   go_wp2
   go_ret2
   rw[E.v,E2.v];exact⟨rfl,rfl⟩
  .have c2:decide (40<=z)=bw:=by simp;omega
   have c3:decide (z<0)=bA:=by simp;omega
   go_in
   go_wp2
   go_ret2
   rw[E.v,E2.v];exact⟨rfl,rfl⟩
 .obtain⟨n,rfl⟩:=aG (show 0<=z by omega);have n40:n<40:=bB
  have nI:(n:Int)<40:=bB
  have c2:decide (40<=(n:Int))=bA:=by simp;omega
  have c0:=h.tD n n40;by_cases k0:(F.nd n).kind=0
  .have E:Hid (Tr.cH F (n:Int)=2):=hZ (by unfold Tr.cH;rw[aI c,hU,aJ k0]);have E2:Hid (fw b (n:Int) 2=ai bu):=hZ (ij bE);rw[k0]at c0;have c0':w.cell? ⟨b,n*62,bu⟩=bj (aa .i64 0):=c0;go_in
   go_wp2
   go_ret2
   rw[E.v,E2.v];exact⟨rfl,rfl⟩
  .have E:Hid (Tr.cH F (n:Int)=0):=hZ (by unfold Tr.cH;rw[aI c,hU,aI k0]);have E2:Hid (fw b (n:Int) 0=ai (bj ⟨b,n*62,bu⟩)):=hZ (gM b n);have k0':(((F.nd n).kind:Int)==0)=bA:=by simp;omega
   generalize (F.nd n).kind=kk at*;go_in
   go_wp2
   go_ret2
   rw[E.v,E2.v];exact⟨rfl,rfl⟩
theorem xb(b:Nat)(z:Int)(k:Nat)(F:Fo)(w:bD)(h:bR w b F):
  Calls prog 283 #[ai (bj ⟨b,0,bu⟩),aa az z,aa az (k:Int)] w λe w'=>e=bf (ao #[fw b z (Tr.cL F z k),bN (Tr.cL F z k)])/\w'=w:=by
 have HF:=hZ h;by_cases c:Tr.cH F z=0
 .obtain⟨n,rfl,n40,_⟩:=Tr.gZ c;have c0:=h.tD n n40;have EP:Hid (Tr.cH F (n:Int)=0):=hZ c;by_cases d:(F.nd n).kind=k
  .have E:Hid (Tr.cL F (n:Int) k=0):=hZ (by unfold Tr.cL;rw[aI (λe=>e c),hU,aJ d]);have E2:Hid (fw b (n:Int) 0=ai (bj ⟨b,n*62,bu⟩)):=hZ (gM b n);rw[d]at c0;go_in
   go_wp2_with fail
   refine sC (iq b n F _ HF.v) ?_;rintro w1 hw;subst w1;rw[EP.v,E2.v,bF];go_wp2
   go_ret2
   rw[E.v,E2.v];exact⟨rfl,rfl⟩
  .have E:Hid (Tr.cL F (n:Int) k=11):=hZ (by unfold Tr.cL;rw[aI (λe=>e c),hU,aI d]);have E2:Hid (fw b (n:Int) 0=ai (bj ⟨b,n*62,bu⟩)/\fw b (n:Int) 11=ai bu):=hZ ⟨gM b n,ij bE⟩;have d':(((F.nd n).kind:Int)==(k:Int))=bA:=by simp;omega
   generalize (F.nd n).kind=kk at*;go_in
   go_wp2_with fail
   refine sC (iq b n F _ HF.v) ?_;rintro w1 hw;subst w1;rw[EP.v,E2.1,bF];go_wp2
   go_ret2
   rw[E.v,E2.2];exact⟨rfl,rfl⟩
 .have E:Hid (Tr.cL F z k=Tr.cH F z):=hZ (aJ c);have E2:Hid (fw b z (Tr.cH F z)=ai bu/\bN (Tr.cH F z)=aq 100 (aa az (Tr.cH F z))):=hZ ⟨ij c,bM c⟩;go_in
  go_wp2_with fail
  refine sC (iq b z F _ HF.v) ?_;rintro w1 hw;subst w1;rw[E2.1,E2.2];go_wp2
  go_ret2
  rw[E.v,E2.1,E2.2];exact⟨rfl,rfl⟩
theorem mi(b:Nat)(z:Int)(F:Fo)(w:bD)(h:bR w b F):
  Calls prog 254 #[ai (bj ⟨b,0,bu⟩),aa az z] w λe w'=>e=bf (ao #[fw b z (Tr.cL F z 2),bN (Tr.cL F z 2)])/\w'=w:=by
 have HF:=hZ (xb b z 2 F w h);obtain⟨v1,hv1⟩:∃v,fw b z (Tr.cL F z 2)=v:=⟨_,rfl⟩;obtain⟨v2,hv2⟩:∃v,bN (Tr.cL F z 2)=v:=⟨_,rfl⟩;rw[hv1,hv2]at HF|-;go_in
 go_wp2_with fail
 refine sC HF.v ?_;rintro w1 hw;subst w1;go_wp2
 go_ret2
 exact⟨rfl,rfl⟩
theorem iS(b:Nat)(z:Int)(F:Fo)(w:bD)(h:bR w b F):
  Calls prog 258 #[ai (bj ⟨b,0,bu⟩),aa az z] w λe w'=>e=bf (ao #[fw b z (Tr.cL F z 1),bN (Tr.cL F z 1)])/\w'=w:=by
 have HF:=hZ (xb b z 1 F w h);obtain⟨v1,hv1⟩:∃v,fw b z (Tr.cL F z 1)=v:=⟨_,rfl⟩;obtain⟨v2,hv2⟩:∃v,bN (Tr.cL F z 1)=v:=⟨_,rfl⟩;rw[hv1,hv2]at HF|-;go_in
 go_wp2_with fail
 refine sC HF.v ?_;rintro w1 hw;subst w1;go_wp2
 go_ret2
 exact⟨rfl,rfl⟩
def dw(x:Nd):Array Value:=((List.range 62).map (iV x)).toArray
theorem D7(x:Nd)(i:Nat)(h:i<62):(dw x)[i]? =bj (iV x i):=by simp[dw,h]
theorem ov(x:Nd):(dw x).size=62:=by simp[dw]
theorem jv(x:Nd):(dw x).toList.length=62:=by simp[dw]
theorem pL(x:Nd):(dw x).all (·.oneCell')=bw:=by
 rw[Array.all_eq_true_iff_forall_mem];intro v hv;simp only[dw,List.mem_toArray,List.mem_map]at hv;obtain⟨o,_,rfl⟩:=hv;unfold iV
 repeat' split
 all_goals rfl
section
variable {w:bD}{b:Nat}{F:Fo}
theorem mj(b:Nat):∀(vs:List Value) (o:Nat) (w:bD) (C:Array Value) {T:TypeId},w.heap[b]? =bj (bh C T (0,0))->∃C',(w.setCells b o vs).heap[b]? =bj (bh C' T (0,0))/\C'.size=C.size
 |[],_,_,C,_,h=>⟨C,h,rfl⟩
 |v::r,o,w,C,_,h=>by
  obtain⟨C',h1,h2⟩:=mj b r (o+1) _ _ (cO h o v);exact⟨C',h1,by simpa using h2⟩
theorem bR.setNode(h:bR w b F)(n:Nat)(hn:n<40)(x:Nd):bR (w.setCells b (n*62) (dw x).toList) b (F.put n x):=by
 obtain⟨C,h1,h2⟩:=h.dk;obtain⟨C',k1,k2⟩:=mj b (dw x).toList (n*62) w C h1;refine⟨⟨C',k1,bB⟩,λo ho=>?_⟩;by_cases c:n*62<=o/\o<n*62+62
 .obtain⟨j,rfl,hj⟩:∃j,o=n*62+j/\j<62:=⟨o-n*62,bB,bB⟩;rw[aS b (dw x).toList (n*62) w (λi hi=>by rw[jv]at hi;rw[h.cell _ bB];rfl) j (by rw[jv];exact hj),<-aW (by rw[jv];exact hj),aM,D7 x j hj];unfold jV;rw[nL,show(n*62+j)/62=n by omega,show(n*62+j)%62=j by omega,Tr.bG]
 .rw[aA b _ (n*62) w ⟨b,o,bu⟩ (λ_ _=>by rw[jv];show o<_\/_<=o;omega),h.cell o ho];unfold jV;by_cases d:o<2480
  .rw[aJ d,aJ d,Tr.bO _ _ _ _ bB]
  .rw[aI d,aI d];rfl
theorem bR.there(h:bR w b F)(n:Nat)(hn:n<40)(x:Nd):w.there b (n*62) (dw x).size:=λj hj=>by
 rw[ov]at hj;exact⟨by rw[h.cell _ bB];rfl,h.frozen _⟩
theorem pJ(x:Nd):(prog.info? 204).map (·.size)=bj (dw x).size:=by rw[ov];kernel_rfl
end
section
variable {ops:Array Oper}{rest:List Oper}{x:Oper}{a:Act}{w:bD}{Q:Exit->Act->bD->Prop}
theorem yc(hgd:x.guard=bu)(ho:x.op= .build 204 #[])(h:wpList prog ops Q rest (a.put x.dst (.agg (dw Nd.no))) w):wpList prog ops Q (x::rest) a w:=
 wpList_plain hgd λ_ hK=>by
  unfold Oper.wp execOp;simp only[ho];simp[go_sem];exact hK _ _ h
end
def Tr.mM(F:Fo)(n:Nat):Fo:=if(F.nd n).cW=0/\(F.nd n).held=0 then F.put n Nd.no else F
theorem Tr.Hn{F:Fo}(h:(F.nd n).cW=0/\(F.nd n).held=0):Tr.mM F n=F.put n Nd.no:=aJ h
theorem Tr.ES{F:Fo}(h:¬((F.nd n).cW=0/\(F.nd n).held=0)):Tr.mM F n=F:=aI h
theorem ug(b n:Nat)(F:Fo)(w:bD)(h:bR w b F)(hn:n<40):
  Calls prog 253 #[ai (bj ⟨b,0,bu⟩),aa az (n:Int)] w λe w'=>e=bf (ao #[])/\bR w' b (Tr.mM F n)/\bH b w w':=by
 have nI:(n:Int)<40:=bB
 have c1:=h.uK n hn;have c2:=h.yG n hn;by_cases l0:(F.nd n).cW=0
 .rw[l0]at c1;have c1':w.cell? ⟨b,n*62+1,bu⟩=bj (aa .i64 0):=c1;by_cases h0:(F.nd n).held=0
  .rw[h0]at c2;have c2':w.cell? ⟨b,n*62+2,bu⟩=bj (aa .i64 0):=c2;have FIN:Hid (bR (w.setCells b (n*62) (dw Nd.no).toList) b (Tr.mM F n)/\bH b w (w.setCells b (n*62) (dw Nd.no).toList)):=hZ ⟨by rw[Tr.Hn ⟨l0,h0⟩];exact h.setNode n hn _,bH.setCells _ _ (bH.refl b w)⟩;have TH:=hZ (h.there n hn Nd.no);have HS:=hZ (pJ Nd.no);have H1:=hZ (pL Nd.no);obtain⟨A,hA⟩:=nJ (dw Nd.no);rw[hA]at FIN TH HS H1;go_in
   go_wp2_with (first|(refine yc rfl rfl ?_;rw[hA])|(refine wpList_store_mid rfl 204 _ _ rfl b (n*62) A rfl rfl TH.v HS.v H1.v ?_))
   go_end0
   exact⟨rfl,FIN.v⟩
  .have h0':(((F.nd n).held:Int)==0)=bA:=by simp;omega
   have FIN:Hid (bR w b (Tr.mM F n)):=hZ (by rw[Tr.ES (λc=>h0 c.2)];exact h);generalize (F.nd n).held=hh at*;go_in
   go_wp2
   go_end0
   exact⟨rfl,FIN.v,bH.refl _ _⟩
 .have l0':(((F.nd n).cW:Int)==0)=bA:=by simp;omega
  have FIN:Hid (bR w b (Tr.mM F n)):=hZ (by rw[Tr.ES (λc=>l0 c.1)];exact h);generalize (F.nd n).cW=ll at*;go_in
  go_wp2
  go_end0
  exact⟨rfl,FIN.v,bH.refl _ _⟩
def Tr.dK(F:Fo)(z:Int):Fo:=if Tr.cH F z=0 then F.put z.toNat {F.nd z.toNat with held:=(F.nd z.toNat).held+1}else F
theorem rR(b:Nat)(z:Int)(F:Fo)(w:bD)(h:bR w b F)(hb:∀n,n<40->(F.nd n).held<2^60):
  Calls prog 231 #[ai (bj ⟨b,0,bu⟩),aa az z] w λe w'=>e=bf (bN (Tr.cH F z))/\bR w' b (Tr.dK F z)/\bH b w w':=by
 have HF:=hZ h;by_cases c:Tr.cH F z=0
 .obtain⟨n,rfl,n40,_⟩:=Tr.gZ c;have c0:=h.yG n n40;have cf:=h.frozen;have hl:=hb n n40;have EP:Hid (Tr.cH F (n:Int)=0/\fw b (n:Int) 0=ai (bj ⟨b,n*62,bu⟩)):=hZ ⟨c,gM b n⟩;have FIN:Hid (bR (w.setCell ⟨b,n*62+2,bu⟩ (aa az (((F.nd n).held+1:Nat):Int))) b (Tr.dK F (n:Int))):=hZ (by
   unfold Tr.dK;rw[aJ c,hU];exact h.Hh n _ n40)
  generalize (F.nd n).held=hh at*;have hw:IntKind.i64.wrap ((hh:Int)+1)=(hh:Int)+1:=aN _ ⟨by omega,bB⟩;go_in
  go_wp2_with fail
  refine sC (iq b n F _ HF.v) ?_;rintro w1 hw1;subst w1;rw[EP.1,EP.2,bF];go_wp2
  go_ret
  rw[EP.1];exact⟨rfl,FIN.v,(bH.refl b w).setCell _ _⟩
 .have E2:Hid (fw b z (Tr.cH F z)=ai bu/\bN (Tr.cH F z)=aq 100 (aa az (Tr.cH F z))/\Tr.dK F z=F):=hZ ⟨ij c,bM c,aI c⟩;go_in
  go_wp2_with fail
  refine sC (iq b z F _ HF.v) ?_;rintro w1 hw;subst w1;rw[E2.1,E2.2.1];go_wp2
  go_ret
  rw[E2.2.1,E2.2.2];exact⟨rfl,HF.v,bH.refl _ _⟩
def Tr.letE(F:Fo)(z:Int):Int:=if Tr.cH F z=0 then(if(F.nd z.toNat).held=0 then 8 else 0)else Tr.cH F z
def Tr.dC(F:Fo)(z:Int):Fo:=if Tr.letE F z=0 then Tr.mM (F.put z.toNat {F.nd z.toNat with held:=(F.nd z.toNat).held-1}) z.toNat else F
theorem ue(b:Nat)(z:Int)(F:Fo)(w:bD)(h:bR w b F)(hb:∀n,n<40->(F.nd n).held<2^60):
  Calls prog 226 #[ai (bj ⟨b,0,bu⟩),aa az z] w λe w'=>e=bf (bN (Tr.letE F z))/\bR w' b (Tr.dC F z)/\bH b w w':=by
 have HF:=hZ h;by_cases c:Tr.cH F z=0
 .obtain⟨n,rfl,n40,_⟩:=Tr.gZ c;have c0:=h.yG n n40;have cf:=h.frozen;have hl:=hb n n40;have EP:Hid (Tr.cH F (n:Int)=0/\fw b (n:Int) 0=ai (bj ⟨b,n*62,bu⟩)):=hZ ⟨c,gM b n⟩;by_cases h0:(F.nd n).held=0
  .have E:Hid (Tr.letE F (n:Int)=8/\Tr.dC F (n:Int)=F):=hZ (by
    have e:Tr.letE F (n:Int)=8:=by unfold Tr.letE;rw[aJ c,hU,aJ h0]
    exact⟨e,by unfold Tr.dC;rw[e];exact aI bE⟩)
   rw[h0]at c0;have c0':w.cell? ⟨b,n*62+2,bu⟩=bj (aa .i64 0):=c0;go_in
   go_wp2_with fail
   refine sC (iq b n F _ HF.v) ?_;rintro w1 hw1;subst w1;rw[EP.1,EP.2,bF];go_wp2
   go_ret
   rw[E.1,E.2];exact⟨rfl,HF.v,bH.refl _ _⟩
  .obtain⟨hh,hhe⟩:∃hh,(F.nd n).held=hh+1:=⟨(F.nd n).held-1,bB⟩;have E:Hid (Tr.letE F (n:Int)=0/\Tr.dC F (n:Int)=Tr.mM (F.put n {F.nd n with held:=hh}) n):=hZ (by
    have e:Tr.letE F (n:Int)=0:=by unfold Tr.letE;rw[aJ c,hU,aI h0]
    exact⟨e,by unfold Tr.dC;rw[e,aJ rfl,hU,hhe];rfl⟩)
   have S1:Hid (bR (w.setCell ⟨b,n*62+2,bu⟩ (aa az (hh:Int))) b (F.put n {F.nd n with held:=hh})/\bH b w (w.setCell ⟨b,n*62+2,bu⟩ (aa az (hh:Int)))):=hZ ⟨h.Hh n _ n40,(bH.refl b w).setCell _ _⟩;rw[hhe]at c0 hl;obtain⟨zz,hzz⟩:=nJ (((hh+1:Nat):Int));have hw:IntKind.i64.wrap (zz-1)=(hh:Int):=by rw[<-hzz,aN _ ⟨by omega,bB⟩];omega
   have hz0:(zz==0)=bA:=by simp;omega
   rw[hzz]at c0;go_in
   go_wp2_with fail
   refine sC (iq b n F _ HF.v) ?_;rintro w1 hw1;subst w1;rw[EP.1,EP.2,bF];go_wp2_with fail
   refine sC (ug b n _ _ S1.1 n40) ?_;rintro w2 ⟨h2,f2⟩;have S2:=hZ (aK h2 (S1.2.trans f2));go_wp2
   go_ret
   rw[E.1,E.2];exact⟨rfl,S2.v⟩
 .have E2:Hid (fw b z (Tr.cH F z)=ai bu/\bN (Tr.cH F z)=aq 100 (aa az (Tr.cH F z))/\Tr.letE F z=Tr.cH F z/\Tr.dC F z=F):=hZ (by
   have e:Tr.letE F z=Tr.cH F z:=aI c;exact⟨ij c,bM c,e,by unfold Tr.dC;rw[e];exact aI c⟩)
  go_in
  go_wp2_with fail
  refine sC (iq b z F _ HF.v) ?_;rintro w1 hw;subst w1;rw[E2.1,E2.2.1];go_wp2
  go_ret
  rw[E2.2.2.1,E2.2.1,E2.2.2.2];exact⟨rfl,HF.v,bH.refl _ _⟩
def Tr.tH(F:Fo):Nat->Nat
 |0=>0
 |n+1=>Tr.tH F n+if(F.nd n).kind=0 then 0 else 1
theorem Tr.Re(F:Fo)(n:Nat):Tr.tH F n<=n:=by
 induction n with
 |zero=>exact aL 0
 |succ n ih=>show Tr.tH F n+_<=n+1;split<;>omega
theorem JF(b:Nat)(F:Fo)(w:bD)(h:bR w b F):
  Calls prog 79 #[ai (bj ⟨b,0,bu⟩)] w λe w'=>e=bf (aa az (Tr.tH F 40:Int))/\w'=w:=by
 have HF:=hZ h;go_in
 go_wp2
 go_loopw [3,4,5] (λs x i wr=>∃(n:Nat),i=aa az n/\s=aa az (Tr.tH F n:Int)/\n<=40/\wr=w) (λ_ _ i _=>40-(intOf i).toNat)
 case atStart=>exact⟨0,rfl,rfl,bB,rfl⟩
 case round=>
  obtain⟨n,rfl,rfl,hn,hwr⟩:=hrel;subst wr;by_cases hlt:n<40
  .have hltI:(n:Int)<40:=bB
   have c0:=HF.tD n hlt;have lc:=Tr.Re F n;have LS:Hid (Tr.tH F (n+1)=Tr.tH F n+if(F.nd n).kind=0 then 0 else 1):=hZ rfl;by_cases k0:(F.nd n).kind=0
   .rw[aJ k0]at LS;rw[k0]at c0;have c0':w.cell? ⟨b,n*62,bu⟩=bj (aa .i64 0):=c0;go_wp2
    go_roundw
    case rel=>exact⟨n+1,by go_num,by rw[LS.v];rfl,bB,by first|rfl|trivial⟩
    case measure=>simp[intOf];omega
   .rw[aI k0]at LS;have k0':(((F.nd n).kind:Int)==0)=bA:=by simp;omega
    generalize (F.nd n).kind=kk at*;generalize Tr.tH F n=cn at*;go_wp2
    go_roundw
    case rel=>exact⟨n+1,by go_num,by rw[LS.v];go_num,bB,by first|rfl|trivial⟩
    case measure=>simp[intOf];omega
  .have hltI:¬(n:Int)<40:=bB
   obtain rfl:n=40:=bB
   go_wp2
   go_ret
   exact⟨rfl,rfl⟩
def Tr.gK(F:Fo)(n:Nat)(E:Int):Prop:=(E=0/\n<40/\(F.nd n).kind=0/\∀m,m<n->(F.nd m).kind≠0)\/(E=4/\n=0/\∀m,m<40->(F.nd m).kind≠0)
theorem Tr.gK.unique{F:Fo}{m:Nat}{G:Int}(h:Tr.gK F n E)(k:Tr.gK F m G):n=m/\E=G:=by grind [Tr.gK]
theorem vC(b:Nat)(F:Fo)(w:bD)(h:bR w b F):
  Calls prog 164 #[ai (bj ⟨b,0,bu⟩)] w λe w'=>∃(n:Nat) (E:Int),e=bf (ao #[aa az (n:Int),bN E])/\Tr.gK F n E/\w'=w:=by
 have HF:=hZ h;go_in
 go_wp2
 go_loopw [4,5] (λx i wr=>∃(n:Nat),i=aa az n/\n<=40/\Hid (∀m,m<n->(F.nd m).kind≠0)/\wr=w) (λ_ i _=>40-(intOf i).toNat)
 case atStart=>exact⟨0,rfl,bB,λm hm=>bB,rfl⟩
 case round=>
  obtain⟨n,rfl,hn,HN,hwr⟩:=hrel;subst wr;by_cases hlt:n<40
  .have hltI:(n:Int)<40:=bB
   have c0:=HF.tD n hlt;by_cases k0:(F.nd n).kind=0
   .have FIN:Hid (Tr.gK F n 0):=hZ (.inl ⟨rfl,hlt,k0,HN.v⟩);rw[k0]at c0;have c0':w.cell? ⟨b,n*62,bu⟩=bj (aa .i64 0):=c0;go_wp2
    go_ret2
    exact⟨n,0,rfl,FIN.v,rfl⟩
   .have NX:Hid (∀m,m<n+1->(F.nd m).kind≠0):=hZ (λm hm=>by
     by_cases e:m=n
     .subst e;exact k0
     .exact HN.v m bB)
    have k0':(((F.nd n).kind:Int)==0)=bA:=by simp;omega
    generalize (F.nd n).kind=kk at*;go_wp2
    go_roundw
    case rel=>exact⟨n+1,by go_num,bB,NX,by first|rfl|trivial⟩
    case measure=>simp[intOf];omega
  .have hltI:¬(n:Int)<40:=bB
   obtain rfl:n=40:=bB
   go_wp2
   go_ret2
   exact⟨0,4,rfl, .inr ⟨rfl,rfl,HN.v⟩,rfl⟩
def Tr.zw(F:Fo)(z:Int):Nat:=if Tr.cH F z=0 then(F.nd z.toNat).tree else 0
theorem Mu(b:Nat)(z:Int)(F:Fo)(w:bD)(h:bR w b F):
  Calls prog 284 #[ai (bj ⟨b,0,bu⟩),aa az z] w λe w'=>e=bf (ao #[aa az (Tr.zw F z:Int),bN (Tr.cH F z)])/\w'=w:=by
 have HF:=hZ h;by_cases c:Tr.cH F z=0
 .obtain⟨n,rfl,n40,_⟩:=Tr.gZ c;have c0:=h.tE n n40;have EP:Hid (Tr.cH F (n:Int)=0/\fw b (n:Int) 0=ai (bj ⟨b,n*62,bu⟩)/\Tr.zw F (n:Int)=(F.nd n).tree):=hZ ⟨c,gM b n,by unfold Tr.zw;rw[aJ c,hU]⟩;generalize (F.nd n).tree=ff at*;go_in
  go_wp2_with fail
  refine sC (iq b n F _ HF.v) ?_;rintro w1 hw1;subst w1;rw[EP.1,EP.2.1,bF];go_wp2
  go_ret2
  rw[EP.1,EP.2.2];exact⟨rfl,rfl⟩
 .have E2:Hid (fw b z (Tr.cH F z)=ai bu/\bN (Tr.cH F z)=aq 100 (aa az (Tr.cH F z))/\Tr.zw F z=0):=hZ ⟨ij c,bM c,aI c⟩;go_in
  go_wp2_with fail
  refine sC (iq b z F _ HF.v) ?_;rintro w1 hw;subst w1;rw[E2.1,E2.2.1];go_wp2
  go_ret2
  rw[E2.2.1,E2.2.2];exact⟨rfl,rfl⟩
def Tr.gF(F:Fo)(z:Int):Int:=if z<0\/3<z then 1 else if F.trees<=z.toNat then 2 else 0
def Tr.fQ(F:Fo)(z:Int):Nat:=if Tr.gF F z=0 then F.root z.toNat else 0
theorem Ms(b:Nat)(z:Int)(F:Fo)(w:bD)(h:bR w b F):
  Calls prog 230 #[ai (bj ⟨b,0,bu⟩),aa az z] w λe w'=>e=bf (ao #[aa az (Tr.fQ F z:Int),bN (Tr.gF F z)])/\w'=w:=by
 by_cases c:z<0\/3<z
 .have E:Hid (Tr.gF F z=1/\Tr.fQ F z=0):=hZ (by
   have e:Tr.gF F z=1:=aJ c;exact⟨e,by unfold Tr.fQ;rw[e];exact aI bE⟩)
  by_cases c1:z<0
  .clear c;go_in
   go_wp2
   go_ret2
   rw[E.1,E.2];exact⟨rfl,rfl⟩
  .have c2:decide (4<=z)=bw:=by simp;omega
   have c3:decide (z<0)=bA:=by simp;omega
   go_in
   go_wp2
   go_ret2
   rw[E.1,E.2];exact⟨rfl,rfl⟩
 .obtain⟨n,rfl⟩:=aG (show 0<=z by omega);have n4:n<4:=bB
  have nI:(n:Int)<4:=bB
  have c2:decide (4<=(n:Int))=bA:=by simp;omega
  have c0:=h.PX n n4;have c1:=h.C9;by_cases k0:F.trees<=n
  .have E:Hid (Tr.gF F (n:Int)=2/\Tr.fQ F (n:Int)=0):=hZ (by
    have e:Tr.gF F (n:Int)=2:=by unfold Tr.gF;rw[aI c,hU,aJ k0]
    exact⟨e,by unfold Tr.fQ;rw[e];exact aI bE⟩)
   have k1:(F.trees:Int)<=(n:Int):=bB
   generalize F.trees=tt at*;go_in
   go_wp2
   go_ret2
   rw[E.1,E.2];exact⟨rfl,rfl⟩
  .have E:Hid (Tr.gF F (n:Int)=0/\Tr.fQ F (n:Int)=F.root n):=hZ (by
    have e:Tr.gF F (n:Int)=0:=by unfold Tr.gF;rw[aI c,hU,aI k0]
    exact⟨e,by unfold Tr.fQ;rw[e,aJ rfl,hU]⟩)
   have k1:¬(F.trees:Int)<=(n:Int):=bB
   generalize F.trees=tt at*;generalize F.root n=rr at*;go_in
   go_wp2
   go_ret2
   rw[E.1,E.2];exact⟨rfl,rfl⟩
def Tr.fJ(x:Nd)(s:bU)(z:Int):Prop:=(∃i:Nat,z=i/\i<x.size/\(x.eN i).toList=s.toList/\∀j,j<i->(x.eN j).toList≠s.toList)\/(z= -1/\∀j,j<x.size->(x.eN j).toList≠s.toList)
theorem Tr.fJ.unique{x:Nd}{y:Int}(h:Tr.fJ x s y)(k:Tr.fJ x s z):y=z:=by grind [Tr.fJ]
theorem Gh(bx k:Nat)(nm s:bU)(w:bD)(h:w.cell? ⟨bx,0,bu⟩=bj (ak s))(hb:bx<w.heap.size):
  Calls prog 305 #[.agg #[ak nm,aa az (k:Int)],ai (bj ⟨bx,0,bu⟩)] w λe w'=>e=bf (.bool (nm.toList==s.toList))/\Below w.heap.size w w':=by
 have hne:bx≠w.heap.size:=bB
 go_in
 go_wp2
 go_ret
 exact⟨rfl,(aQ _ _).alloc (aL _) _⟩
theorem JE(bx b n m c:Nat)(s:bU)(F:Fo)(w:bD)(h:bR w b F)(hx:w.cell? ⟨bx,0,bu⟩=bj (ak s))(hn:n<40)(hm:(F.nd n).size=m)(hm8:m<=8):
  Calls prog 304 #[.slice (bj ⟨b,n*62+6,bu⟩) m c, .func (.func 305) #[] #[ai (bj ⟨bx,0,bu⟩)]] w λe w'=>∃z:Int,e=bf (aa az z)/\Tr.fJ (F.nd n) s z/\Below w.heap.size w w':=by
 have HF:=hZ (aK h (aK hx (bZ _ _ hx)));have HM:=hZ hm;go_in
 go_wp2_with fail
 go_loopw [5,8] (λx i wr=>∃(j:Nat),i=aa az j/\j<=m/\Hid (Below w.heap.size w wr/\∀y,y<j->((F.nd n).eN y).toList≠s.toList)) (λ_ i _=>m-(intOf i).toNat)
 case atStart=>exact⟨0,rfl,bB,aQ _ _,λy hy=>bB⟩
 case round=>
  obtain⟨j,rfl,hj,R⟩:=hrel;by_cases hlt:j<m
  .have hltI:(j:Int)<(m:Int):=bB
   have c0:=(HF.1.below R.1).xp n j hn bB;have c1:=(HF.1.below R.1).uJ n j hn bB;obtain⟨nm,hnm⟩:=nJ ((F.nd n).eN j);have HNM:=hZ hnm;rw[hnm]at c0;generalize (F.nd n).db j=kk at*;go_wp2_with fail
   refine sC (Gh bx kk nm s _ ((R.1.cell HF.2.2).trans HF.2.1) (aD HF.2.2 R.1.size)) ?_;rintro w1 b1;have B1:=hZ (R.1.trans (b1.mono R.1.size));by_cases e:nm.toList=s.toList
   .have e':(nm.toList==s.toList)=bw:=by simpa using e
    have FIN:Hid (Tr.fJ (F.nd n) s (j:Int)):=hZ (.inl ⟨j,rfl,by rw[HM.v];exact hlt,by rw[HNM.v];exact e,R.2⟩);rw[e'];go_wp2
    go_ret
    exact⟨_,rfl,FIN.v,B1.v⟩
   .have e':(nm.toList==s.toList)=bA:=by simpa using e
    have NX:Hid (∀y,y<j+1->((F.nd n).eN y).toList≠s.toList):=hZ (λy hy=>by
     by_cases d:y=j
     .subst d;rw[HNM.v];exact e
     .exact R.2 y bB)
    rw[e'];go_wp2
    go_roundw
    case rel=>exact⟨j+1,by go_num,bB,B1.v,NX.v⟩
    case measure=>simp[intOf];omega
  .have hltI:¬(j:Int)<(m:Int):=bB
   have FIN:Hid (Tr.fJ (F.nd n) s (-1)):=hZ (.inr ⟨rfl,λy hy=>R.2 y (by rw[HM.v]at hy;omega)⟩);go_wp2
   go_ret
   exact⟨_,rfl,FIN.v,R.1⟩
theorem qZ(b n:Nat)(F:Fo)(w:bD)(h:bR w b F)(hn:n<40)(hm8:(F.nd n).size<=8):
  Calls prog 264 #[ai (bj ⟨b,n*62,bu⟩)] w λe w'=>e=bf (.slice (bj ⟨b,n*62+6,bu⟩) (F.nd n).size 8)/\∃k,w'=w.drewN k:=by
 have c0:=h.nX n hn;generalize (F.nd n).size=sz at*;have h1:(sz:Int)<=8:=bB
 go_in
 go_wp2
 go_quiet (fail)
 go_wp2
 go_ret
 exact⟨rfl,_,rfl⟩
theorem Vb(w:bD)(v:Value)(T:TypeId):(w.alloc (bh #[v] T)).cell? ⟨w.heap.size,0,bu⟩=bj v:=by
 rw[bS (heap_alloc_new w (bh #[v] T))];rfl
theorem uf(b n:Nat)(s:bU)(F:Fo)(w:bD)(h:bR w b F)(hn:n<40)(hm8:(F.nd n).size<=8):
  Calls prog 282 #[ai (bj ⟨b,n*62,bu⟩),ak s] w λe w'=>∃z:Int,e=bf (aa az z)/\Tr.fJ (F.nd n) s z/\Below w.heap.size w w':=by
 have S1:Hid (∀T,bR (w.alloc (bh #[ak s] T)) b F/\Below w.heap.size w (w.alloc (bh #[ak s] T))):=hZ (λT=>by
  have bb:Below w.heap.size w (w.alloc (bh #[ak s] T)):=(aQ _ _).alloc (aL _) _;exact⟨h.below bb,bb⟩)
 go_in
 go_wp2_with fail
 refine sC (qZ b n F _ (S1.v _).1 hn hm8) ?_;rintro w1 ⟨k,hw⟩;subst w1;obtain⟨sz,hsz⟩:=nJ ((F.nd n).size);have HSZ:=hZ hsz;rw[hsz]at hm8|-;go_wp2_with fail
 refine(JE w.heap.size b n sz 8 s F _ ((S1.v _).1.drewN k) (Vb w _ _) hn HSZ.v hm8).mono ?_;rintro e w2 ⟨z,rfl,hp,b2⟩;have FIN:Hid (Tr.fJ (F.nd n) s z/\Below w.heap.size w w2):=hZ ⟨hp,by
  have a:=(S1.v 9).2;have c:Below w.heap.size w ((w.alloc (bh #[ak s] 9)).drewN k):=⟨a.os,a.tape,a.output,a.size,a.block⟩;exact c.trans (b2.mono c.size)⟩
 go_wp2
 go_ret
 exact⟨z,rfl,FIN.v⟩
def Tr.lr(F:Fo):Prop:=∀n,n<40->(F.nd n).kind=2->(F.nd n).size<=8
def Tr.lF(F:Fo)(z:Int)(s:bU)(K:Nat)(E:Int):Prop:=
 (Tr.cL F z 2≠0/\K=0/\E=Tr.cL F z 2)\/(Tr.cL F z 2=0/\((∃i:Nat,Tr.fJ (F.nd z.toNat) s i/\K=(F.nd z.toNat).db i/\E=0)\/(Tr.fJ (F.nd z.toNat) s (-1)/\K=0/\E=2)))
theorem Tr.fJ.cases{x:Nd}(h:Tr.fJ x s z):(∃i:Nat,z=i/\i<x.size)\/z= -1:=by grind [Tr.fJ]
theorem vA(b:Nat)(z:Int)(s:bU)(F:Fo)(w:bD)(h:bR w b F)(hs:Tr.lr F):
  Calls prog 251 #[ai (bj ⟨b,0,bu⟩),aa az z,ak s] w λe w'=>∃(K:Nat) (E:Int),e=bf (ao #[aa az (K:Int),bN E])/\Tr.lF F z s K E/\Below w.heap.size w w':=by
 have HF:=hZ h;by_cases c:Tr.cL F z 2=0
 .obtain⟨n,rfl,n40,_,k2⟩:=Tr.fB c;have hm8:=hs n n40 k2;have EP:Hid (Tr.cL F (n:Int) 2=0/\fw b (n:Int) 0=ai (bj ⟨b,n*62,bu⟩)):=hZ ⟨c,gM b n⟩;go_in
  go_wp2_with fail
  refine sC (mi b n F _ HF.v) ?_;rintro w1 hw1;subst w1;rw[EP.1,EP.2,bF];go_wp2_with fail
  refine(uf b n s F _ HF.v n40 hm8).mono ?_;rintro e w2 ⟨y,rfl,hp,b2⟩;have HP:=hZ (aK hp b2);rcases hp.cases with⟨i,rfl,hi⟩|rfl
  .have c0:=(HF.below b2).uJ n i n40 bB;have iI:(i:Int)<8:=bB
   have FIN:Hid (Tr.lF F (n:Int) s ((F.nd n).db i) 0):=hZ (.inr ⟨EP.1, .inl ⟨i,by rw[hU];exact hp,by rw[hU],rfl⟩⟩);generalize (F.nd n).db i=kk at*;go_wp2
   go_ret2
   exact⟨kk,0,rfl,FIN.v,HP.2⟩
  .have FIN:Hid (Tr.lF F (n:Int) s 0 2):=hZ (.inr ⟨EP.1, .inr ⟨by rw[hU];exact hp,rfl,rfl⟩⟩);go_wp2
   go_ret2
   exact⟨0,2,rfl,FIN.v,HP.2⟩
 .have E2:Hid (fw b z (Tr.cL F z 2)=ai bu/\bN (Tr.cL F z 2)=aq 100 (aa az (Tr.cL F z 2))/\Tr.lF F z s 0 (Tr.cL F z 2)):=hZ ⟨ij c,bM c, .inl ⟨c,rfl,rfl⟩⟩;go_in
  go_wp2_with fail
  refine sC (mi b z F _ HF.v) ?_;rintro w1 hw;subst w1;rw[E2.1,E2.2.1];go_wp2
  go_ret2
  exact⟨0,_,by rw[E2.2.1];rfl,E2.2.2,aQ _ _⟩
def Tr.okB(c:Nat):Bool:=(decide (97<=c)&&decide (c<=122))||(decide (48<=c)&&decide (c<=57))||decide (c=46)
theorem Gg(c:Nat)(w:bD):Calls prog 303 #[aa .u8 (c:Int)] w λe w'=>e=bf (.bool (Tr.okB c))/\w'=w:=by
 have E1:∀a:Nat,decide ((a:Int)<=(c:Int))=decide (a<=c):=λa=>by simp
 by_cases c1:97<=c
 .have d1:(97:Int)<=(c:Int):=bB
  by_cases c2:c<=122
  .have d2:(c:Int)<=122:=bB
   have HO:Hid (Tr.okB c=bw):=hZ (by unfold Tr.okB;simp[c1,c2]);go_in
   go_wp2
   go_ret
   exact⟨da (by rw[HO.v]),rfl⟩
  .have d2:decide ((c:Int)<=122)=bA:=by simp;omega
   have d3:(48:Int)<=(c:Int):=bB
   have d4:decide ((c:Int)<=57)=bA:=by simp;omega
   have HO:Hid (Tr.okB c=bA):=hZ (by unfold Tr.okB;simp;omega);have d5:((c:Int)==46)=bA:=by simp;omega
   go_in
   go_wp2
   go_ret
   exact⟨da (by rw[HO.v]),rfl⟩
 .have d1:decide ((97:Int)<=(c:Int))=bA:=by simp;omega
  by_cases c3:48<=c/\c<=57
  .have d3:(48:Int)<=(c:Int):=bB
   have d4:(c:Int)<=57:=bB
   have HO:Hid (Tr.okB c=bw):=hZ (by unfold Tr.okB;simp;omega);go_in
   go_wp2
   go_ret
   exact⟨da (by rw[HO.v]),rfl⟩
  .by_cases c5:c=46
   .subst c5;have HO:Hid (Tr.okB 46=bw):=hZ bE;go_in
    go_wp2
    go_ret
    exact⟨da (by rw[HO.v]),rfl⟩
   .have d5:((c:Int)==46)=bA:=by simp;omega
    have HO:Hid (Tr.okB c=bA):=hZ (by unfold Tr.okB;simp;omega);by_cases c6:48<=c
    .have d3:(48:Int)<=(c:Int):=bB
     have d4:decide ((c:Int)<=57)=bA:=by simp;omega
     go_in
     go_wp2
     go_ret
     exact⟨da (by rw[HO.v]),rfl⟩
    .have d3:decide ((48:Int)<=(c:Int))=bA:=by simp;omega
     go_in
     go_wp2
     go_ret
     exact⟨da (by rw[HO.v]),rfl⟩
def Tr.qi(s:bU):Nat->Bool
 |0=>bw
 |n+1=>Tr.qi s n&&Tr.okB (s[n]!).toNat
theorem Tr.Fu{j:Nat}(h:Tr.okB (s[j]!).toNat=bA):∀n,j<n->Tr.qi s n=bA:=by
 intro n
 induction n with
 |zero=>intro hj;omega
 |succ n ih=>
  grind [Tr.qi,Tr.okB]
def Tr.gd(s:bU):Bool:=decide (1<=s.size)&&decide (s.size<=8)&& !(s.toList==[46])&& !(s.toList==[46,46])&&Tr.qi s s.size
theorem vv(s:bU)(w:bD):Calls prog 280 #[ak s] w λe w'=>e=bf (.bool (Tr.gd s))/\w'=w:=by
 by_cases c1:s.size=0
 .have HO:Hid (Tr.gd s=bA):=hZ (by unfold Tr.gd;simp[c1]);have d1:(s.size:Int)<1:=bB
  go_in
  go_wp2
  go_ret
  exact⟨da (by rw[HO.v]),rfl⟩
 .have d1:decide ((s.size:Int)<1)=bA:=by simp;omega
  by_cases c2:8<s.size
  .have HO:Hid (Tr.gd s=bA):=hZ (by unfold Tr.gd;simp;omega);have d2:(8:Int)<(s.size:Int):=bB
   go_in
   go_wp2
   go_ret
   exact⟨da (by rw[HO.v]),rfl⟩
  .have d2:decide ((8:Int)<(s.size:Int))=bA:=by simp;omega
   by_cases c3:(s.toList==[46])=bw
   .have HO:Hid (Tr.gd s=bA):=hZ (by unfold Tr.gd;rw[c3];simp);go_in
    go_wp2
    go_ret
    exact⟨da (by rw[HO.v]),rfl⟩
   .have d3:(s.toList==[46])=bA:=by simpa using c3
    by_cases c4:(s.toList==[46,46])=bw
    .have HO:Hid (Tr.gd s=bA):=hZ (by unfold Tr.gd;rw[c4];simp);go_in
     go_wp2
     go_ret
     exact⟨da (by rw[HO.v]),rfl⟩
    .have d4:(s.toList==[46,46])=bA:=by simpa using c4
     have HO:Hid (Tr.gd s=Tr.qi s s.size):=hZ (by unfold Tr.gd;rw[d3,d4,aO (show 1<=s.size by omega),aO (show s.size<=8 by omega)];simp);have hs8:s.size<=8:=bB
     go_in
     go_wp2_with fail
     go_loopw [3,22] (λx i wr=>∃(j:Nat),i=aa az j/\j<=s.size/\Hid (Tr.qi s j=bw)/\wr=w) (λ_ i _=>s.size-(intOf i).toNat)
     case atStart=>exact⟨0,rfl,bB,rfl,rfl⟩
     case round=>
      obtain⟨j,rfl,hj,R,hwr⟩:=hrel;subst wr;by_cases hlt:j<s.size
      .have hltI:(j:Int)<(s.size:Int):=bB
       have HB:Hid (Tr.okB (s[j]!).toNat=Tr.okB (s[j]'hlt).toNat):=hZ (by rw[getElem!_pos s j hlt]);go_wp2_with fail
       refine sC (Gg (s[j]'hlt).toNat _) ?_;rintro w1 hw1;subst w1;cases ho:Tr.okB (s[j]'hlt).toNat
       .have NO:=hZ (Tr.Fu (s:=s) (j:=j) (by rw[HB.v];exact ho) s.size hlt);go_wp2
        go_ret
        exact⟨da (by rw[HO.v,NO.v]),rfl⟩
       .have NX:Hid (Tr.qi s (j+1)=bw):=hZ (by
         show(Tr.qi s j&&Tr.okB (s[j]!).toNat)=bw;rw[R.v,HB.v,ho];rfl)
        go_wp2
        go_roundw
        case rel=>exact⟨j+1,by go_num,bB,NX,by first|rfl|trivial⟩
        case measure=>simp[intOf];omega
      .have hltI:¬(j:Int)<(s.size:Int):=bB
       have hje:j=s.size:=bB
       have FIN:Hid (Tr.qi s s.size=bw):=hZ (by rw[<-hje];exact R.v);go_wp2
       go_ret
       exact⟨da (by rw[HO.v,FIN.v]),rfl⟩
def Tr.ph(x:Nd)(s:bU)(E:Int):Prop:=(Tr.gd s=bA/\E=9)\/(Tr.gd s=bw/\((∃i:Nat,Tr.fJ x s i/\E=3)\/(Tr.fJ x s (-1)/\((x.size=8/\E=4)\/(x.size≠8/\E=0)))))
theorem vD(b n:Nat)(s:bU)(F:Fo)(w:bD)(h:bR w b F)(hn:n<40)(hm8:(F.nd n).size<=8):
  Calls prog 256 #[ai (bj ⟨b,n*62,bu⟩),ak s] w λe w'=>∃E,e=bf (bN E)/\Tr.ph (F.nd n) s E/\Below w.heap.size w w':=by
 have HF:=hZ h;go_in
 go_wp2_with fail
 refine sC (vv s _) ?_;rintro w1 hw1;subst w1;cases hb:Tr.gd s
 .have FIN:Hid (Tr.ph (F.nd n) s 9):=hZ (.inl ⟨hb,rfl⟩);go_wp2
  go_ret
  exact⟨9,rfl,FIN.v,aQ _ _⟩
 .have HB:=hZ hb;go_wp2_with fail
  refine(uf b n s F _ HF.v hn hm8).mono ?_;rintro e w2 ⟨y,rfl,hp,b2⟩;have B2:=hZ b2;rcases hp.cases with⟨i,rfl,hi⟩|rfl
  .have FIN:Hid (Tr.ph (F.nd n) s 3):=hZ (.inr ⟨HB.v, .inl ⟨i,hp,rfl⟩⟩);go_wp2
   go_ret
   exact⟨3,rfl,FIN.v,B2.v⟩
  .have c0:=(HF.below b2).nX n hn;by_cases s8:(F.nd n).size=8
   .have FIN:Hid (Tr.ph (F.nd n) s 4):=hZ (.inr ⟨HB.v, .inr ⟨hp, .inl ⟨s8,rfl⟩⟩⟩);rw[s8]at c0;have c0':w2.cell? ⟨b,n*62+3,bu⟩=bj (aa .i64 8):=c0;go_wp2
    go_ret
    exact⟨4,rfl,FIN.v,B2.v⟩
   .have FIN:Hid (Tr.ph (F.nd n) s 0):=hZ (.inr ⟨HB.v, .inr ⟨hp, .inr ⟨s8,rfl⟩⟩⟩);have s8':(((F.nd n).size:Int)==8)=bA:=by simp;omega
    generalize (F.nd n).size=sz at*;go_wp2
    go_ret
    exact⟨0,rfl,FIN.v,B2.v⟩
def Tr.po(F:Fo)(z:Int)(s:bU)(E:Int):Prop:=(Tr.cL F z 2≠0/\E=Tr.cL F z 2)\/(Tr.cL F z 2=0/\Tr.ph (F.nd z.toNat) s E)
theorem sv(b:Nat)(z:Int)(s:bU)(F:Fo)(w:bD)(h:bR w b F)(hs:Tr.lr F):
  Calls prog 259 #[ai (bj ⟨b,0,bu⟩),aa az z,ak s] w λe w'=>∃E,e=bf (ao #[fw b z E,bN E])/\Tr.po F z s E/\Below w.heap.size w w':=by
 have HF:=hZ h;by_cases c:Tr.cL F z 2=0
 .obtain⟨n,rfl,n40,_,k2⟩:=Tr.fB c;have hm8:=hs n n40 k2;have EP:Hid (Tr.cL F (n:Int) 2=0/\fw b (n:Int) 0=ai (bj ⟨b,n*62,bu⟩)):=hZ ⟨c,gM b n⟩;go_in
  go_wp2_with fail
  refine sC (mi b n F _ HF.v) ?_;rintro w1 hw1;subst w1;rw[EP.1,EP.2,bF];go_wp2_with fail
  refine(vD b n s F _ HF.v n40 hm8).mono ?_;rintro e w2 ⟨E,rfl,hr,b2⟩;have FIN:Hid (Tr.po F (n:Int) s E/\Below w.heap.size w w2):=hZ ⟨.inr ⟨EP.1,by rw[hU];exact hr⟩,b2⟩;by_cases e0:E=0
  .subst e0;rw[bF];go_wp2
   go_ret2
   exact⟨0,by rw[EP.2];rfl,FIN.v⟩
  .have E2:Hid (fw b (n:Int) E=ai bu/\bN E=aq 100 (aa az E)):=hZ ⟨ij e0,bM e0⟩;rw[E2.2];go_wp2
   go_ret2
   exact⟨E,by rw[E2.1,E2.2];rfl,FIN.v⟩
 .have E2:Hid (fw b z (Tr.cL F z 2)=ai bu/\bN (Tr.cL F z 2)=aq 100 (aa az (Tr.cL F z 2))/\Tr.po F z s (Tr.cL F z 2)):=hZ ⟨ij c,bM c, .inl ⟨c,rfl⟩⟩;go_in
  go_wp2_with fail
  refine sC (mi b z F _ HF.v) ?_;rintro w1 hw;subst w1;rw[E2.1,E2.2.1];go_wp2
  go_ret2
  exact⟨_,by rw[E2.1,E2.2.1];rfl,E2.2.2,aQ _ _⟩

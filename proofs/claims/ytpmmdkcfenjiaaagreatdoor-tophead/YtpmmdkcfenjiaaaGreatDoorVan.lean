import Derived.Test.YtpmmdkcfenjiaaaGreatDoorVae
set_option maxRecDepth 100000
set_option maxHeartbeats 1000000
namespace Go.Proofs.YtpmmdkcfenjiaaaGreatDoor
open Go.RowKit
namespace Tr
structure Nd where
 kind:Nat
 bE:Nat
 held:Nat
 size:Nat
 tree:Nat
 up:Nat
 dz:Nat->bU
 bO:Nat->Nat
 cX:Nat->Int
structure Fo where
 nd:Nat->Nd
 root:Nat->Nat
 trees:Nat
def Nd.no:Nd:=⟨0,0,0,0,0,0,fun _=>⟨#[]⟩,fun _=>0,fun _=>0⟩
def Fo.put (F:Fo)(n:Nat)(x:Nd):Fo:={F with nd:=fun m=>if m=n then x else F.nd m}
theorem ai (F:Fo)(n:Nat)(x:Nd):(F.put n x).nd n=x:=aJ rfl
theorem ao (F:Fo)(n:Nat)(x:Nd)(m:Nat)(h:m≠n):(F.put n x).nd m=F.nd m:=aI h
def f0:Fo:=⟨fun _=>Nd.no,fun _=>0,0⟩
def bh (F:Fo)(z:Int):Int:=if z<0\/39<z then 1 else if(F.nd z.toNat).kind=0 then 2 else 0
def bj (F:Fo)(z:Int)(k:Nat):Int:=if bh F z≠0 then bh F z else if(F.nd z.toNat).kind=k then 0 else 11
theorem fW {F:Fo}{z:Int}(h:bh F z=0): ∃n:Nat,z=n/\n<40/\(F.nd n).kind≠0:=by grind [bh]
theorem dY {F:Fo}{z:Int}{k:Nat}(h:bj F z k=0): ∃n:Nat,z=n/\n<40/\(F.nd n).kind≠0/\(F.nd n).kind=k:=by grind [bj,bh]
end Tr
open Tr (Fo Nd)
def gK (x:Nd)(j:Nat):Value:=
 if j=0 then .int .i64 (x.kind:Int)else if j=1 then .int .i64 (x.bE:Int)else if j=2 then .int .i64 (x.held:Int)else if j=3 then .int .i64 (x.size:Int)else if j=4 then .int .i64 (x.tree:Int)else if j=5 then .int .i64 (x.up:Int)
 else if j<22 then(if j%2=0 then .string (x.dz ((j-6)/2))else .int .i64 (x.bO ((j-6)/2):Int))else .int .u8 (x.cX (j-22))
def iK (F:Fo)(o:Nat):Value:=if o<2480 then gK (F.nd (o/62)) (o%62)else if o<2484 then .int .i64 (F.root (o-2480):Int)else .int .i64 (F.trees:Int)
structure ar (w:bD)(b:Nat)(F:Fo):Prop where
 cv: ∃C,w.heap[b]? =some (.cells C 208 (0,0))/\C.size=2485
 cell: ∀o,o<2485->w.cell? ⟨b,o,none⟩=some (iK F o)
section
variable {w w' : bD} {b : Nat} {F F' : Fo}
theorem ar.drewN (h:ar w b F)(n:Nat):ar (w.drewN n) b F:=⟨h.cv,h.cell⟩
theorem ar.drew (h:ar w b F):ar w.drew b F:=⟨h.cv,h.cell⟩
theorem ar.frozen (h:ar w b F)(o:Nat):w.frozen? ⟨b,o,none⟩=false:=by obtain⟨C,h1,_⟩:=h.cv;exact bf h1 o
theorem ar.lt (h:ar w b F):b<w.heap.size:=by obtain⟨C,h1,_⟩:=h.cv;exact(aX.1 h1).1
theorem ar.same (h:ar w b F)(e:w'.heap[b]? =w.heap[b]?):ar w' b F:=⟨by rw[e];exact h.cv,fun o ho=>(aV e).trans (h.cell o ho)⟩
theorem ar.below (h:ar w b F)(k:Below w.heap.size w w'):ar w' b F:=h.same (k.block b h.lt)
theorem ar.nd (h:ar w b F)(n j:Nat)(hn:n<40)(hj:j<62):w.cell? ⟨b,n*62+j,none⟩=some (gK (F.nd n) j):=by
 rw[h.cell _ (by omega),iK,aJ (by omega),show(n*62+j)/62=n by omega,show(n*62+j)%62=j by omega]
theorem ar.rj (h:ar w b F)(n:Nat)(hn:n<40):w.cell? ⟨b,n*62,none⟩=some (.int .i64 ((F.nd n).kind:Int)):=h.nd n 0 hn (by omega)
theorem ar.rR (h:ar w b F)(n:Nat)(hn:n<40):w.cell? ⟨b,n*62+1,none⟩=some (.int .i64 ((F.nd n).bE:Int)):=h.nd n 1 hn (by omega)
theorem ar.vY (h:ar w b F)(n:Nat)(hn:n<40):w.cell? ⟨b,n*62+2,none⟩=some (.int .i64 ((F.nd n).held:Int)):=h.nd n 2 hn (by omega)
theorem ar.lO (h:ar w b F)(n:Nat)(hn:n<40):w.cell? ⟨b,n*62+3,none⟩=some (.int .i64 ((F.nd n).size:Int)):=h.nd n 3 hn (by omega)
theorem ar.qJ (h:ar w b F)(n:Nat)(hn:n<40):w.cell? ⟨b,n*62+4,none⟩=some (.int .i64 ((F.nd n).tree:Int)):=h.nd n 4 hn (by omega)
theorem ar.P3 (h:ar w b F)(n:Nat)(hn:n<40):w.cell? ⟨b,n*62+5,none⟩=some (.int .i64 ((F.nd n).up:Int)):=h.nd n 5 hn (by omega)
theorem yZ (x:Nd)(i:Nat)(hi:i<8):gK x (6+i*2)= .string (x.dz i):=by grind [gK]
theorem yH (x:Nd)(i:Nat)(hi:i<8):gK x (6+i*2+1)= .int .i64 (x.bO i:Int):=by grind [gK]
theorem pE (x:Nd)(i:Nat):gK x (22+i)= .int .u8 (x.cX i):=by grind [gK]
theorem ar.uM (h:ar w b F)(n i:Nat)(hn:n<40)(hi:i<8):w.cell? ⟨b,n*62+6+i*2,none⟩=some (.string ((F.nd n).dz i)):=by
 rw[show n*62+6+i*2=n*62+(6+i*2)by omega,h.nd n _ hn (by omega),yZ _ i hi]
theorem ar.rO (h:ar w b F)(n i:Nat)(hn:n<40)(hi:i<8):w.cell? ⟨b,n*62+6+i*2+1,none⟩=some (.int .i64 ((F.nd n).bO i:Int)):=by
 rw[show n*62+6+i*2+1=n*62+(6+i*2+1)by omega,h.nd n _ hn (by omega),yH _ i hi]
theorem ar.Qi (h:ar w b F)(n i:Nat)(hn:n<40)(hi:i<40):w.cell? ⟨b,n*62+22+i,none⟩=some (.int .u8 ((F.nd n).cX i)):=by
 rw[show n*62+22+i=n*62+(22+i)by omega,h.nd n _ hn (by omega),pE]
theorem ar.Lm (h:ar w b F)(t:Nat)(ht:t<4):w.cell? ⟨b,2480+t,none⟩=some (.int .i64 (F.root t:Int)):=by
 rw[h.cell _ (by omega),iK,aI (by omega),aJ (by omega),show 2480+t-2480=t by omega]
theorem ar.Bv (h:ar w b F):w.cell? ⟨b,2484,none⟩=some (.int .i64 (F.trees:Int)):=h.cell 2484 (by omega)
theorem ar.set (h:ar w b F)(o:Nat)(ho:o<2485)(v:Value)(hv: ∀i,i<2485->iK F' i=if i=o then v else iK F i):ar (w.setCell ⟨b,o,none⟩ v) b F':=by
 obtain⟨C,h1,h2⟩:=h.cv;refine⟨⟨_,bC h1 _ v,by simpa using h2⟩,fun i hi=>?_⟩;rw[hv i hi];by_cases e:i=o
 ·subst e;rw[cL h1 _ v (by omega),aJ rfl]
 ·rw[cC h1 _ _ v (bQ e),aI e];exact h.cell i hi
theorem ar.kJ (h:ar w b F)(n j:Nat)(hn:n<40)(hj:j<62)(v:Value)(x:Nd)(hx: ∀i,i<62->gK x i=if i=j then v else gK (F.nd n) i):ar (w.setCell ⟨b,n*62+j,none⟩ v) b (F.put n x):=by
 refine h.set (n*62+j) (by omega) v (fun o ho=>?_);unfold iK;by_cases c:o<2480
 ·rw[aJ c,aJ c];by_cases d:o/62=n
  ·rw[d,Tr.ai,hx (o%62) (by omega)];grind
  ·rw[Tr.ao _ _ _ _ d,aI (by omega)]
 ·rw[aI c,aI c,aI (show¬o=n*62+j by omega)];rfl
theorem ar.congr (h:ar w b F)(e: ∀o,o<2485->iK F' o=iK F o):ar w b F':=⟨h.cv,fun o ho=>by rw[e o ho];exact h.cell o ho⟩
end
section
variable {w : bD} {b : Nat} {F : Fo}
theorem ar.vl (h:ar w b F)(n v:Nat)(hn:n<40):ar (w.setCell ⟨b,n*62+1,none⟩ (.int .i64 (v:Int))) b (F.put n {F.nd n with bE:=v}):=h.kJ n 1 hn (by omega) _ _ (fun i _=>by
 by_cases c:i=1
 ·subst c;rfl
 ·rw[aI c];unfold gK;rw[aI c,aI c])
theorem ar.Dm (h:ar w b F)(n v:Nat)(hn:n<40):ar (w.setCell ⟨b,n*62+2,none⟩ (.int .i64 (v:Int))) b (F.put n {F.nd n with held:=v}):=h.kJ n 2 hn (by omega) _ _ (fun i _=>by
 by_cases c:i=2
 ·subst c;rfl
 ·rw[aI c];unfold gK;rw[aI c,aI c])
theorem ar.xq (h:ar w b F)(n v:Nat)(hn:n<40):ar (w.setCell ⟨b,n*62+3,none⟩ (.int .i64 (v:Int))) b (F.put n {F.nd n with size:=v}):=h.kJ n 3 hn (by omega) _ _ (fun i _=>by
 by_cases c:i=3
 ·subst c;rfl
 ·rw[aI c];unfold gK;rw[aI c,aI c])
theorem ar.PD (h:ar w b F)(n v:Nat)(hn:n<40):ar (w.setCell ⟨b,n*62+5,none⟩ (.int .i64 (v:Int))) b (F.put n {F.nd n with up:=v}):=h.kJ n 5 hn (by omega) _ _ (fun i _=>by
 by_cases c:i=5
 ·subst c;rfl
 ·rw[aI c];unfold gK;rw[aI c,aI c])
def gi {α:Type}(f:Nat->α)(i:Nat)(v:α):Nat->α:=fun j=>if j=i then v else f j
theorem oJ {α:Type}(f:Nat->α)(i:Nat)(v:α):gi f i v i=v:=aJ rfl
theorem sP {α:Type}(f:Nat->α)(i:Nat)(v:α)(j:Nat)(h:j≠i):gi f i v j=f j:=aI h
theorem ar.OJ (h:ar w b F)(n i:Nat)(v:bU)(hn:n<40)(hi:i<8):ar (w.setCell ⟨b,n*62+6+i*2,none⟩ (.string v)) b (F.put n {F.nd n with dz:=gi (F.nd n).dz i v}):=by
 rw[show n*62+6+i*2=n*62+(6+i*2)by omega];refine h.kJ n (6+i*2) hn (by omega) _ _ (fun j hj=>?_);grind [yZ,gi,oJ,gK]
theorem ar.OY (h:ar w b F)(n i v:Nat)(hn:n<40)(hi:i<8):ar (w.setCell ⟨b,n*62+6+i*2+1,none⟩ (.int .i64 (v:Int))) b (F.put n {F.nd n with bO:=gi (F.nd n).bO i v}):=by
 rw[show n*62+6+i*2+1=n*62+(6+i*2+1)by omega];refine h.kJ n (6+i*2+1) hn (by omega) _ _ (fun j hj=>?_);grind [yH,gi,oJ,gK]
theorem ar.Nl (h:ar w b F)(t v:Nat)(ht:t<4):ar (w.setCell ⟨b,2480+t,none⟩ (.int .i64 (v:Int))) b {F with root:=gi F.root t v}:=by
 refine h.set (2480+t) (by omega) _ (fun o ho=>?_);grind [iK,gi]
theorem ar.JR (h:ar w b F)(v:Nat):ar (w.setCell ⟨b,2484,none⟩ (.int .i64 (v:Int))) b {F with trees:=v}:=by
 refine h.set 2484 (by omega) _ (fun o ho=>?_);grind [iK]
end
def dW (b:Nat)(z E:Int):Value:=if E=0 then .pointer (some ⟨b,z.toNat*62,none⟩)else .pointer none
theorem fE (b n:Nat):dW b (n:Int) 0= .pointer (some ⟨b,n*62,none⟩):=by unfold dW;rw[aJ rfl,hU]
theorem fY {b:Nat}{z E:Int}(h:E≠0):dW b z E= .pointer none:=aI h
theorem ga (b:Nat)(z:Int)(F:Fo)(w:bD)(h:ar w b F):
  Calls Tryz.prog 266 #[.pointer (some ⟨b,0,none⟩), .int .i64 z] w fun e w'=>e= .returned (.tuple #[dW b z (Tr.bh F z),aq (Tr.bh F z)])/\w'=w:=by
 by_cases c:z<0\/39<z
 ·have E:Hid (Tr.bh F z=1):=hZ (aJ c);have E2:Hid (dW b z 1= .pointer none):=hZ (fY (by decide));by_cases c1:z<0
  ·clear c;go_in
   go_wp2
   go_ret2
   rw[E.out,E2.out];exact⟨rfl,rfl⟩
  ·have c2:decide (40<=z)=true:=by simp;omega
   have c3:decide (z<0)=false:=by simp;omega
   clear c;go_in
   go_wp2
   go_ret2
   rw[E.out,E2.out];exact⟨rfl,rfl⟩
 ·obtain⟨n,rfl⟩:=aG (show 0<=z by omega);have n40:n<40:=by omega
  have nI:(n:Int)<40:=by omega
  have c2:decide (40<=(n:Int))=false:=by simp;omega
  have c0:=h.rj n n40;by_cases k0:(F.nd n).kind=0
  ·have E:Hid (Tr.bh F (n:Int)=2):=hZ (by unfold Tr.bh;rw[aI c,hU,aJ k0]);have E2:Hid (dW b (n:Int) 2= .pointer none):=hZ (fY (by decide));rw[k0]at c0;have c0':w.cell? ⟨b,n*62,none⟩=some (.int .i64 0):=c0;clear h c c0 k0;go_in
   go_wp2
   go_ret2
   rw[E.out,E2.out];exact⟨rfl,rfl⟩
  ·have E:Hid (Tr.bh F (n:Int)=0):=hZ (by unfold Tr.bh;rw[aI c,hU,aI k0]);have E2:Hid (dW b (n:Int) 0= .pointer (some ⟨b,n*62,none⟩)):=hZ (fE b n);have k0':(((F.nd n).kind:Int)==0)=false:=by simp;omega
   generalize (F.nd n).kind=kk at*;clear h c k0;go_in
   go_wp2
   go_ret2
   rw[E.out,E2.out];exact⟨rfl,rfl⟩
theorem uC (b:Nat)(z:Int)(k:Nat)(F:Fo)(w:bD)(h:ar w b F):
  Calls Tryz.prog 283 #[.pointer (some ⟨b,0,none⟩), .int .i64 z, .int .i64 (k:Int)] w fun e w'=>e= .returned (.tuple #[dW b z (Tr.bj F z k),aq (Tr.bj F z k)])/\w'=w:=by
 have HF:=hZ h;by_cases c:Tr.bh F z=0
 ·obtain⟨n,rfl,n40,_⟩:=Tr.fW c;have c0:=h.rj n n40;have EP:Hid (Tr.bh F (n:Int)=0):=hZ c;by_cases d:(F.nd n).kind=k
  ·have E:Hid (Tr.bj F (n:Int) k=0):=hZ (by unfold Tr.bj;rw[aI (fun e=>e c),hU,aJ d]);have E2:Hid (dW b (n:Int) 0= .pointer (some ⟨b,n*62,none⟩)):=hZ (fE b n);rw[d]at c0;clear h c d;go_in
   go_wp2_with fail
   refine(ga b n F _ HF.out).mono ?_;rintro e w1 ⟨rfl,hw⟩;subst w1;rw[EP.out,E2.out,aa];go_wp2
   go_ret2
   rw[E.out,E2.out];exact⟨rfl,rfl⟩
  ·have E:Hid (Tr.bj F (n:Int) k=11):=hZ (by unfold Tr.bj;rw[aI (fun e=>e c),hU,aI d]);have E2:Hid (dW b (n:Int) 0= .pointer (some ⟨b,n*62,none⟩)/\dW b (n:Int) 11= .pointer none):=hZ ⟨fE b n,fY (by decide)⟩;have d':(((F.nd n).kind:Int)==(k:Int))=false:=by simp;omega
   generalize (F.nd n).kind=kk at*;clear h c d;go_in
   go_wp2_with fail
   refine(ga b n F _ HF.out).mono ?_;rintro e w1 ⟨rfl,hw⟩;subst w1;rw[EP.out,E2.out.1,aa];go_wp2
   go_ret2
   rw[E.out,E2.out.2];exact⟨rfl,rfl⟩
 ·have E:Hid (Tr.bj F z k=Tr.bh F z):=hZ (aJ c);have E2:Hid (dW b z (Tr.bh F z)= .pointer none/\aq (Tr.bh F z)= .iface 100 (.int .i64 (Tr.bh F z))):=hZ ⟨fY c,aj c⟩;clear h c;go_in
  go_wp2_with fail
  refine(ga b z F _ HF.out).mono ?_;rintro e w1 ⟨rfl,hw⟩;subst w1;rw[E2.out.1,E2.out.2];go_wp2
  go_ret2
  rw[E.out,E2.out.1,E2.out.2];exact⟨rfl,rfl⟩
theorem j6 (b:Nat)(z:Int)(F:Fo)(w:bD)(h:ar w b F):
  Calls Tryz.prog 254 #[.pointer (some ⟨b,0,none⟩), .int .i64 z] w fun e w'=>e= .returned (.tuple #[dW b z (Tr.bj F z 2),aq (Tr.bj F z 2)])/\w'=w:=by
 have HF:=hZ (uC b z 2 F w h);clear h;obtain⟨v1,hv1⟩: ∃v,dW b z (Tr.bj F z 2)=v:=⟨_,rfl⟩;obtain⟨v2,hv2⟩: ∃v,aq (Tr.bj F z 2)=v:=⟨_,rfl⟩;rw[hv1,hv2]at HF|-;clear hv1 hv2;go_in
 go_wp2_with fail
 refine HF.out.mono ?_;rintro e w1 ⟨rfl,hw⟩;subst w1;go_wp2
 go_ret2
 exact⟨rfl,rfl⟩
theorem gD (b:Nat)(z:Int)(F:Fo)(w:bD)(h:ar w b F):
  Calls Tryz.prog 258 #[.pointer (some ⟨b,0,none⟩), .int .i64 z] w fun e w'=>e= .returned (.tuple #[dW b z (Tr.bj F z 1),aq (Tr.bj F z 1)])/\w'=w:=by
 have HF:=hZ (uC b z 1 F w h);clear h;obtain⟨v1,hv1⟩: ∃v,dW b z (Tr.bj F z 1)=v:=⟨_,rfl⟩;obtain⟨v2,hv2⟩: ∃v,aq (Tr.bj F z 1)=v:=⟨_,rfl⟩;rw[hv1,hv2]at HF|-;clear hv1 hv2;go_in
 go_wp2_with fail
 refine HF.out.mono ?_;rintro e w1 ⟨rfl,hw⟩;subst w1;go_wp2
 go_ret2
 exact⟨rfl,rfl⟩
def cD (x:Nd):Array Value:=((List.range 62).map (gK x)).toArray
theorem A8 (x:Nd)(i:Nat)(h:i<62):(cD x)[i]? =some (gK x i):=by simp[cD,h]
theorem lP (x:Nd):(cD x).size=62:=by simp[cD]
theorem gY (x:Nd):(cD x).toList.length=62:=by simp[cD]
theorem np (x:Nd):(cD x).all (·.oneCell')=true:=by
 rw[Array.all_eq_true_iff_forall_mem];intro v hv;simp only[cD,List.mem_toArray,List.mem_map]at hv;obtain⟨o,_,rfl⟩:=hv;unfold gK
 repeat' split
 all_goals rfl
section
variable {w : bD} {b : Nat} {F : Fo}
theorem jX (b:Nat): ∀(vs:List Value) (o:Nat) (w:bD) (C:Array Value) {T:TypeId},w.heap[b]? =some (.cells C T (0,0))-> ∃C',(w.setCells b o vs).heap[b]? =some (.cells C' T (0,0))/\C'.size=C.size
 |[],_,_,C,_,h=>⟨C,h,rfl⟩
 |v::r,o,w,C,_,h=>by
  obtain⟨C',h1,h2⟩:=jX b r (o+1) _ _ (bC h o v);exact⟨C',h1,by simpa using h2⟩
theorem ar.setNode (h:ar w b F)(n:Nat)(hn:n<40)(x:Nd):ar (w.setCells b (n*62) (cD x).toList) b (F.put n x):=by
 obtain⟨C,h1,h2⟩:=h.cv;obtain⟨C',k1,k2⟩:=jX b (cD x).toList (n*62) w C h1;refine⟨⟨C',k1,by omega⟩,fun o ho=>?_⟩;by_cases c:n*62<=o/\o<n*62+62
 ·obtain⟨j,rfl,hj⟩: ∃j,o=n*62+j/\j<62:=⟨o-n*62,by omega,by omega⟩;rw[aS b (cD x).toList (n*62) w (fun i hi=>by rw[gY]at hi;rw[h.cell _ (by omega)];rfl) j (by rw[gY];exact hj),<-aW (by rw[gY];exact hj),aM,A8 x j hj];unfold iK;rw[aJ (by omega),show(n*62+j)/62=n by omega,show(n*62+j)%62=j by omega,Tr.ai]
 ·rw[aA b _ (n*62) w ⟨b,o,none⟩ (fun _ _=>by rw[gY];show o<_\/_<=o;omega),h.cell o ho];unfold iK;by_cases d:o<2480
  ·rw[aJ d,aJ d,Tr.ao _ _ _ _ (by omega)]
  ·rw[aI d,aI d];rfl
theorem ar.there (h:ar w b F)(n:Nat)(hn:n<40)(x:Nd):w.there b (n*62) (cD x).size:=fun j hj=>by
 rw[lP]at hj;exact⟨by rw[h.cell _ (by omega)];rfl,h.frozen _⟩
theorem nK (x:Nd):(Tryz.prog.info? 204).map (·.size)=some (cD x).size:=by rw[lP];kernel_rfl
end
section
variable {ops : Array Oper} {rest : List Oper} {x : Oper} {a : Act} {w : bD} {Q : Exit -> Act -> bD -> Prop}
theorem vv (hgd:x.guard=none)(ho:x.op= .build 204 #[])(h:wpList Tryz.prog ops Q rest (a.put x.dst (.agg (cD Nd.no))) w):wpList Tryz.prog ops Q (x::rest) a w:=
 wpList_plain hgd fun _ hK=>by
  unfold Oper.wp execOp;simp only[ho];simp[go_sem];exact hK _ _ h
end
def Tr.kV (F:Fo)(n:Nat):Fo:=if(F.nd n).bE=0/\(F.nd n).held=0 then F.put n Nd.no else F
theorem Tr.CW {F:Fo}{n:Nat}(h:(F.nd n).bE=0/\(F.nd n).held=0):Tr.kV F n=F.put n Nd.no:=aJ h
theorem Tr.AQ {F:Fo}{n:Nat}(h: ¬((F.nd n).bE=0/\(F.nd n).held=0)):Tr.kV F n=F:=aI h
theorem rA (b n:Nat)(F:Fo)(w:bD)(h:ar w b F)(hn:n<40):
  Calls Tryz.prog 253 #[.pointer (some ⟨b,0,none⟩), .int .i64 (n:Int)] w fun e w'=>e= .returned (.tuple #[])/\ar w' b (Tr.kV F n)/\af b w w':=by
 have nI:(n:Int)<40:=by omega
 have c1:=h.rR n hn;have c2:=h.vY n hn;by_cases l0:(F.nd n).bE=0
 ·rw[l0]at c1;have c1':w.cell? ⟨b,n*62+1,none⟩=some (.int .i64 0):=c1;by_cases h0:(F.nd n).held=0
  ·rw[h0]at c2;have c2':w.cell? ⟨b,n*62+2,none⟩=some (.int .i64 0):=c2;have FIN:Hid (ar (w.setCells b (n*62) (cD Nd.no).toList) b (Tr.kV F n)/\af b w (w.setCells b (n*62) (cD Nd.no).toList)):=hZ ⟨by rw[Tr.CW ⟨l0,h0⟩];exact h.setNode n hn _,af.setCells _ _ (af.refl b w)⟩;have TH:=hZ (h.there n hn Nd.no);have HS:=hZ (nK Nd.no);have H1:=hZ (np Nd.no);obtain⟨A,hA⟩:=nJ (cD Nd.no);rw[hA]at FIN TH HS H1;clear h l0 h0 c1 c2;go_in
   go_wp2_with (first|(refine vv rfl rfl ?_;rw[hA])|(refine wpList_store_mid rfl 204 _ _ rfl b (n*62) A rfl rfl TH.out HS.out H1.out ?_))
   go_end0
   exact⟨rfl,FIN.out⟩
  ·have h0':(((F.nd n).held:Int)==0)=false:=by simp;omega
   have FIN:Hid (ar w b (Tr.kV F n)):=hZ (by rw[Tr.AQ (fun c=>h0 c.2)];exact h);generalize (F.nd n).held=hh at*;clear h l0 h0 c1;go_in
   go_wp2_with fail
   go_end0
   exact⟨rfl,FIN.out,af.refl _ _⟩
 ·have l0':(((F.nd n).bE:Int)==0)=false:=by simp;omega
  have FIN:Hid (ar w b (Tr.kV F n)):=hZ (by rw[Tr.AQ (fun c=>l0 c.1)];exact h);generalize (F.nd n).bE=ll at*;clear h l0;go_in
  go_wp2_with fail
  go_end0
  exact⟨rfl,FIN.out,af.refl _ _⟩
def Tr.dc (F:Fo)(z:Int):Fo:=if Tr.bh F z=0 then F.put z.toNat {F.nd z.toNat with held:=(F.nd z.toNat).held+1}else F
theorem pK (b:Nat)(z:Int)(F:Fo)(w:bD)(h:ar w b F)(hb: ∀n,n<40->(F.nd n).held<2^60):
  Calls Tryz.prog 231 #[.pointer (some ⟨b,0,none⟩), .int .i64 z] w fun e w'=>e= .returned (aq (Tr.bh F z))/\ar w' b (Tr.dc F z)/\af b w w':=by
 have HF:=hZ h;by_cases c:Tr.bh F z=0
 ·obtain⟨n,rfl,n40,_⟩:=Tr.fW c;have c0:=h.vY n n40;have cf:=h.frozen;have hl:=hb n n40;have EP:Hid (Tr.bh F (n:Int)=0/\dW b (n:Int) 0= .pointer (some ⟨b,n*62,none⟩)):=hZ ⟨c,fE b n⟩;have FIN:Hid (ar (w.setCell ⟨b,n*62+2,none⟩ (.int .i64 (((F.nd n).held+1:Nat):Int))) b (Tr.dc F (n:Int))):=hZ (by
   unfold Tr.dc;rw[aJ c,hU];exact h.Dm n _ n40)
  generalize (F.nd n).held=hh at*;have hw:IntKind.i64.wrap ((hh:Int)+1)=(hh:Int)+1:=aN _ ⟨by omega,by omega⟩;clear h c hb;go_in
  go_wp2_with fail
  refine(ga b n F _ HF.out).mono ?_;rintro e w1 ⟨rfl,hw1⟩;subst w1;rw[EP.out.1,EP.out.2,aa];go_wp2
  go_ret
  rw[EP.out.1];exact⟨rfl,FIN.out,(af.refl b w).setCell _ _⟩
 ·have E2:Hid (dW b z (Tr.bh F z)= .pointer none/\aq (Tr.bh F z)= .iface 100 (.int .i64 (Tr.bh F z))/\Tr.dc F z=F):=hZ ⟨fY c,aj c,aI c⟩;clear h c hb;go_in
  go_wp2_with fail
  refine(ga b z F _ HF.out).mono ?_;rintro e w1 ⟨rfl,hw⟩;subst w1;rw[E2.out.1,E2.out.2.1];go_wp2
  go_ret
  rw[E2.out.2.1,E2.out.2.2];exact⟨rfl,HF.out,af.refl _ _⟩
def Tr.letE (F:Fo)(z:Int):Int:=if Tr.bh F z=0 then(if(F.nd z.toNat).held=0 then 8 else 0)else Tr.bh F z
def Tr.cZ (F:Fo)(z:Int):Fo:=if Tr.letE F z=0 then Tr.kV (F.put z.toNat {F.nd z.toNat with held:=(F.nd z.toNat).held-1}) z.toNat else F
theorem qR (b:Nat)(z:Int)(F:Fo)(w:bD)(h:ar w b F)(hb: ∀n,n<40->(F.nd n).held<2^60):
  Calls Tryz.prog 226 #[.pointer (some ⟨b,0,none⟩), .int .i64 z] w fun e w'=>e= .returned (aq (Tr.letE F z))/\ar w' b (Tr.cZ F z)/\af b w w':=by
 have HF:=hZ h;by_cases c:Tr.bh F z=0
 ·obtain⟨n,rfl,n40,_⟩:=Tr.fW c;have c0:=h.vY n n40;have cf:=h.frozen;have hl:=hb n n40;have EP:Hid (Tr.bh F (n:Int)=0/\dW b (n:Int) 0= .pointer (some ⟨b,n*62,none⟩)):=hZ ⟨c,fE b n⟩;by_cases h0:(F.nd n).held=0
  ·have E:Hid (Tr.letE F (n:Int)=8/\Tr.cZ F (n:Int)=F):=hZ (by
    have e:Tr.letE F (n:Int)=8:=by unfold Tr.letE;rw[aJ c,hU,aJ h0]
    exact⟨e,by unfold Tr.cZ;rw[e];exact aI (by decide)⟩)
   rw[h0]at c0;have c0':w.cell? ⟨b,n*62+2,none⟩=some (.int .i64 0):=c0;clear h c hb c0 h0;go_in
   go_wp2_with fail
   refine(ga b n F _ HF.out).mono ?_;rintro e w1 ⟨rfl,hw1⟩;subst w1;rw[EP.out.1,EP.out.2,aa];go_wp2
   go_ret
   rw[E.out.1,E.out.2];exact⟨rfl,HF.out,af.refl _ _⟩
  ·obtain⟨hh,hhe⟩: ∃hh,(F.nd n).held=hh+1:=⟨(F.nd n).held-1,by omega⟩;have E:Hid (Tr.letE F (n:Int)=0/\Tr.cZ F (n:Int)=Tr.kV (F.put n {F.nd n with held:=hh}) n):=hZ (by
    have e:Tr.letE F (n:Int)=0:=by unfold Tr.letE;rw[aJ c,hU,aI h0]
    exact⟨e,by unfold Tr.cZ;rw[e,aJ rfl,hU,hhe];rfl⟩)
   have S1:Hid (ar (w.setCell ⟨b,n*62+2,none⟩ (.int .i64 (hh:Int))) b (F.put n {F.nd n with held:=hh})/\af b w (w.setCell ⟨b,n*62+2,none⟩ (.int .i64 (hh:Int)))):=hZ ⟨h.Dm n _ n40,(af.refl b w).setCell _ _⟩;rw[hhe]at c0 hl;obtain⟨zz,hzz⟩:=nJ (((hh+1:Nat):Int));have hw:IntKind.i64.wrap (zz-1)=(hh:Int):=by rw[<-hzz,aN _ ⟨by omega,by omega⟩];omega
   have hz0:(zz==0)=false:=by simp;omega
   rw[hzz]at c0;clear h c hb h0 hhe hzz;go_in
   go_wp2_with fail
   refine(ga b n F _ HF.out).mono ?_;rintro e w1 ⟨rfl,hw1⟩;subst w1;rw[EP.out.1,EP.out.2,aa];go_wp2_with fail
   refine(rA b n _ _ S1.out.1 n40).mono ?_;rintro e w2 ⟨rfl,h2,f2⟩;have S2:=hZ (aK h2 (S1.out.2.trans f2));clear h2 f2 c0 cf;go_wp2
   go_ret
   rw[E.out.1,E.out.2];exact⟨rfl,S2.out⟩
 ·have E2:Hid (dW b z (Tr.bh F z)= .pointer none/\aq (Tr.bh F z)= .iface 100 (.int .i64 (Tr.bh F z))/\Tr.letE F z=Tr.bh F z/\Tr.cZ F z=F):=hZ (by
   have e:Tr.letE F z=Tr.bh F z:=aI c;exact⟨fY c,aj c,e,by unfold Tr.cZ;rw[e];exact aI c⟩)
  clear h c hb;go_in
  go_wp2_with fail
  refine(ga b z F _ HF.out).mono ?_;rintro e w1 ⟨rfl,hw⟩;subst w1;rw[E2.out.1,E2.out.2.1];go_wp2
  go_ret
  rw[E2.out.2.2.1,E2.out.2.1,E2.out.2.2.2];exact⟨rfl,HF.out,af.refl _ _⟩
def Tr.td (F:Fo):Nat->Nat
 |0=>0
 |n+1=>Tr.td F n+if(F.nd n).kind=0 then 0 else 1
theorem Tr.LX (F:Fo)(n:Nat):Tr.td F n<=n:=by
 induction n with
 |zero=>exact aL 0
 |succ n ih=>show Tr.td F n+_<=n+1;split<;>omega
theorem Pg (b:Nat)(F:Fo)(w:bD)(h:ar w b F):
  Calls Tryz.prog 79 #[.pointer (some ⟨b,0,none⟩)] w fun e w'=>e= .returned (.int .i64 (Tr.td F 40:Int))/\w'=w:=by
 have HF:=hZ h;clear h;go_in
 go_wp2_with fail
 go_loopw [3,4,5] (fun s x i wr=> ∃(n:Nat),i= .int .i64 n/\s= .int .i64 (Tr.td F n:Int)/\n<=40/\wr=w) (fun _ _ i _=>40-(intOf i).toNat)
 case atStart=>exact⟨0,rfl,rfl,by omega,rfl⟩
 case round=>
  obtain⟨n,rfl,rfl,hn,hwr⟩:=hrel;subst wr;by_cases hlt:n<40
  ·have hltI:(n:Int)<40:=by omega
   have c0:=HF.out.rj n hlt;have lc:=Tr.LX F n;have LS:Hid (Tr.td F (n+1)=Tr.td F n+if(F.nd n).kind=0 then 0 else 1):=hZ rfl;by_cases k0:(F.nd n).kind=0
   ·rw[aJ k0]at LS;rw[k0]at c0;have c0':w.cell? ⟨b,n*62,none⟩=some (.int .i64 0):=c0;clear c0 k0;go_wp2
    go_roundw
    case rel=>exact⟨n+1,by go_num,by rw[LS.out];rfl,by omega,by first|rfl|trivial⟩
    case measure=>simp[intOf];omega
   ·rw[aI k0]at LS;have k0':(((F.nd n).kind:Int)==0)=false:=by simp;omega
    generalize (F.nd n).kind=kk at*;generalize Tr.td F n=cn at*;clear k0;go_wp2
    go_roundw
    case rel=>exact⟨n+1,by go_num,by rw[LS.out];go_num,by omega,by first|rfl|trivial⟩
    case measure=>simp[intOf];omega
  ·have hltI: ¬(n:Int)<40:=by omega
   obtain rfl:n=40:=by omega
   go_wp2
   go_ret
   exact⟨rfl,rfl⟩
def Tr.fF (F:Fo)(n:Nat)(E:Int):Prop:=(E=0/\n<40/\(F.nd n).kind=0/\ ∀m,m<n->(F.nd m).kind≠0)\/(E=4/\n=0/\ ∀m,m<40->(F.nd m).kind≠0)
theorem Tr.fF.unique {F:Fo}{n m:Nat}{E G:Int}(h:Tr.fF F n E)(k:Tr.fF F m G):n=m/\E=G:=by grind [Tr.fF]
theorem sR (b:Nat)(F:Fo)(w:bD)(h:ar w b F):
  Calls Tryz.prog 164 #[.pointer (some ⟨b,0,none⟩)] w fun e w'=> ∃(n:Nat) (E:Int),e= .returned (.tuple #[.int .i64 (n:Int),aq E])/\Tr.fF F n E/\w'=w:=by
 have HF:=hZ h;clear h;go_in
 go_wp2_with fail
 go_loopw [4,5] (fun x i wr=> ∃(n:Nat),i= .int .i64 n/\n<=40/\Hid (∀m,m<n->(F.nd m).kind≠0)/\wr=w) (fun _ i _=>40-(intOf i).toNat)
 case atStart=>exact⟨0,rfl,by omega,fun m hm=>by omega,rfl⟩
 case round=>
  obtain⟨n,rfl,hn,HN,hwr⟩:=hrel;subst wr;by_cases hlt:n<40
  ·have hltI:(n:Int)<40:=by omega
   have c0:=HF.out.rj n hlt;by_cases k0:(F.nd n).kind=0
   ·have FIN:Hid (Tr.fF F n 0):=hZ (.inl ⟨rfl,hlt,k0,HN.out⟩);rw[k0]at c0;have c0':w.cell? ⟨b,n*62,none⟩=some (.int .i64 0):=c0;clear c0 k0;go_wp2
    go_ret2
    exact⟨n,0,rfl,FIN.out,rfl⟩
   ·have NX:Hid (∀m,m<n+1->(F.nd m).kind≠0):=hZ (fun m hm=>by
     by_cases e:m=n
     ·subst e;exact k0
     ·exact HN.out m (by omega))
    have k0':(((F.nd n).kind:Int)==0)=false:=by simp;omega
    generalize (F.nd n).kind=kk at*;clear k0;go_wp2
    go_roundw
    case rel=>exact⟨n+1,by go_num,by omega,NX,by first|rfl|trivial⟩
    case measure=>simp[intOf];omega
  ·have hltI: ¬(n:Int)<40:=by omega
   obtain rfl:n=40:=by omega
   go_wp2
   go_ret2
   exact⟨0,4,rfl, .inr ⟨rfl,rfl,HN.out⟩,rfl⟩
def Tr.wK (F:Fo)(z:Int):Nat:=if Tr.bh F z=0 then(F.nd z.toNat).tree else 0
theorem Hz (b:Nat)(z:Int)(F:Fo)(w:bD)(h:ar w b F):
  Calls Tryz.prog 284 #[.pointer (some ⟨b,0,none⟩), .int .i64 z] w fun e w'=>e= .returned (.tuple #[.int .i64 (Tr.wK F z:Int),aq (Tr.bh F z)])/\w'=w:=by
 have HF:=hZ h;by_cases c:Tr.bh F z=0
 ·obtain⟨n,rfl,n40,_⟩:=Tr.fW c;have c0:=h.qJ n n40;have EP:Hid (Tr.bh F (n:Int)=0/\dW b (n:Int) 0= .pointer (some ⟨b,n*62,none⟩)/\Tr.wK F (n:Int)=(F.nd n).tree):=hZ ⟨c,fE b n,by unfold Tr.wK;rw[aJ c,hU]⟩;generalize (F.nd n).tree=ff at*;clear h c;go_in
  go_wp2_with fail
  refine(ga b n F _ HF.out).mono ?_;rintro e w1 ⟨rfl,hw1⟩;subst w1;rw[EP.out.1,EP.out.2.1,aa];go_wp2
  go_ret2
  rw[EP.out.1,EP.out.2.2];exact⟨rfl,rfl⟩
 ·have E2:Hid (dW b z (Tr.bh F z)= .pointer none/\aq (Tr.bh F z)= .iface 100 (.int .i64 (Tr.bh F z))/\Tr.wK F z=0):=hZ ⟨fY c,aj c,aI c⟩;clear h c;go_in
  go_wp2_with fail
  refine(ga b z F _ HF.out).mono ?_;rintro e w1 ⟨rfl,hw⟩;subst w1;rw[E2.out.1,E2.out.2.1];go_wp2
  go_ret2
  rw[E2.out.2.1,E2.out.2.2];exact⟨rfl,rfl⟩
def Tr.jo (F:Fo)(z:Int):Int:=if z<0\/3<z then 1 else if F.trees<=z.toNat then 2 else 0
def Tr.jl (F:Fo)(z:Int):Nat:=if Tr.jo F z=0 then F.root z.toNat else 0
theorem Ho (b:Nat)(z:Int)(F:Fo)(w:bD)(h:ar w b F):
  Calls Tryz.prog 230 #[.pointer (some ⟨b,0,none⟩), .int .i64 z] w fun e w'=>e= .returned (.tuple #[.int .i64 (Tr.jl F z:Int),aq (Tr.jo F z)])/\w'=w:=by
 by_cases c:z<0\/3<z
 ·have E:Hid (Tr.jo F z=1/\Tr.jl F z=0):=hZ (by
   have e:Tr.jo F z=1:=aJ c;exact⟨e,by unfold Tr.jl;rw[e];exact aI (by decide)⟩)
  by_cases c1:z<0
  ·clear c;go_in
   go_wp2
   go_ret2
   rw[E.out.1,E.out.2];exact⟨rfl,rfl⟩
  ·have c2:decide (4<=z)=true:=by simp;omega
   have c3:decide (z<0)=false:=by simp;omega
   clear c;go_in
   go_wp2
   go_ret2
   rw[E.out.1,E.out.2];exact⟨rfl,rfl⟩
 ·obtain⟨n,rfl⟩:=aG (show 0<=z by omega);have n4:n<4:=by omega
  have nI:(n:Int)<4:=by omega
  have c2:decide (4<=(n:Int))=false:=by simp;omega
  have c0:=h.Lm n n4;have c1:=h.Bv;by_cases k0:F.trees<=n
  ·have E:Hid (Tr.jo F (n:Int)=2/\Tr.jl F (n:Int)=0):=hZ (by
    have e:Tr.jo F (n:Int)=2:=by unfold Tr.jo;rw[aI c,hU,aJ k0]
    exact⟨e,by unfold Tr.jl;rw[e];exact aI (by decide)⟩)
   have k1:(F.trees:Int)<=(n:Int):=by omega
   generalize F.trees=tt at*;clear h c k0;go_in
   go_wp2
   go_ret2
   rw[E.out.1,E.out.2];exact⟨rfl,rfl⟩
  ·have E:Hid (Tr.jo F (n:Int)=0/\Tr.jl F (n:Int)=F.root n):=hZ (by
    have e:Tr.jo F (n:Int)=0:=by unfold Tr.jo;rw[aI c,hU,aI k0]
    exact⟨e,by unfold Tr.jl;rw[e,aJ rfl,hU]⟩)
   have k1: ¬(F.trees:Int)<=(n:Int):=by omega
   generalize F.trees=tt at*;generalize F.root n=rr at*;clear h c k0;go_in
   go_wp2
   go_ret2
   rw[E.out.1,E.out.2];exact⟨rfl,rfl⟩
def Tr.eH (x:Nd)(s:bU)(z:Int):Prop:=(∃i:Nat,z=i/\i<x.size/\(x.dz i).toList=s.toList/\ ∀j,j<i->(x.dz j).toList≠s.toList)\/(z= -1/\ ∀j,j<x.size->(x.dz j).toList≠s.toList)
theorem Tr.eH.unique {x:Nd}{s:bU}{y z:Int}(h:Tr.eH x s y)(k:Tr.eH x s z):y=z:=by grind [Tr.eH]
theorem Ca (bx k:Nat)(nm s:bU)(w:bD)(h:w.cell? ⟨bx,0,none⟩=some (.string s))(hb:bx<w.heap.size):
  Calls Tryz.prog 305 #[.agg #[.string nm, .int .i64 (k:Int)], .pointer (some ⟨bx,0,none⟩)] w fun e w'=>e= .returned (.bool (nm.toList==s.toList))/\Below w.heap.size w w':=by
 have hne:bx≠w.heap.size:=by omega
 go_in
 go_wp2
 go_ret
 exact⟨rfl,(aQ _ _).alloc (aL _) _⟩
theorem D0 (bx b n m c:Nat)(s:bU)(F:Fo)(w:bD)(h:ar w b F)(hx:w.cell? ⟨bx,0,none⟩=some (.string s))(hn:n<40)(hm:(F.nd n).size=m)(hm8:m<=8):
  Calls Tryz.prog 304 #[.slice (some ⟨b,n*62+6,none⟩) m c, .func (.func 305) #[] #[.pointer (some ⟨bx,0,none⟩)]] w fun e w'=> ∃z:Int,e= .returned (.int .i64 z)/\Tr.eH (F.nd n) s z/\Below w.heap.size w w':=by
 have HF:=hZ (aK h (aK hx (bZ _ _ hx)));have HM:=hZ hm;clear h hx hm;go_in
 go_wp2_with fail
 go_loopw [5,8] (fun x i wr=> ∃(j:Nat),i= .int .i64 j/\j<=m/\Hid (Below w.heap.size w wr/\ ∀y,y<j->((F.nd n).dz y).toList≠s.toList)) (fun _ i _=>m-(intOf i).toNat)
 case atStart=>exact⟨0,rfl,by omega,aQ _ _,fun y hy=>by omega⟩
 case round=>
  obtain⟨j,rfl,hj,R⟩:=hrel;by_cases hlt:j<m
  ·have hltI:(j:Int)<(m:Int):=by omega
   have c0:=(HF.out.1.below R.out.1).uM n j hn (by omega);have c1:=(HF.out.1.below R.out.1).rO n j hn (by omega);obtain⟨nm,hnm⟩:=nJ ((F.nd n).dz j);have HNM:=hZ hnm;rw[hnm]at c0;generalize (F.nd n).bO j=kk at*;clear hnm;go_wp2_with fail
   refine(Ca bx kk nm s _ ((R.out.1.cell HF.out.2.2).trans HF.out.2.1) (aD HF.out.2.2 R.out.1.size)).mono ?_;rintro e w1 ⟨rfl,b1⟩;have B1:=hZ (R.out.1.trans (b1.mono R.out.1.size));clear b1 c0 c1;by_cases e:nm.toList=s.toList
   ·have e':(nm.toList==s.toList)=true:=by simpa using e
    have FIN:Hid (Tr.eH (F.nd n) s (j:Int)):=hZ (.inl ⟨j,rfl,by rw[HM.out];exact hlt,by rw[HNM.out];exact e,R.out.2⟩);rw[e'];clear e e';go_wp2
    go_ret
    exact⟨_,rfl,FIN.out,B1.out⟩
   ·have e':(nm.toList==s.toList)=false:=by simpa using e
    have NX:Hid (∀y,y<j+1->((F.nd n).dz y).toList≠s.toList):=hZ (fun y hy=>by
     by_cases d:y=j
     ·subst d;rw[HNM.out];exact e
     ·exact R.out.2 y (by omega))
    rw[e'];clear e e';go_wp2
    go_roundw
    case rel=>exact⟨j+1,by go_num,by omega,B1.out,NX.out⟩
    case measure=>simp[intOf];omega
  ·have hltI: ¬(j:Int)<(m:Int):=by omega
   have FIN:Hid (Tr.eH (F.nd n) s (-1)):=hZ (.inr ⟨rfl,fun y hy=>R.out.2 y (by rw[HM.out]at hy;omega)⟩);go_wp2
   go_ret
   exact⟨_,rfl,FIN.out,R.out.1⟩
theorem oZ (b n:Nat)(F:Fo)(w:bD)(h:ar w b F)(hn:n<40)(hm8:(F.nd n).size<=8):
  Calls Tryz.prog 264 #[.pointer (some ⟨b,n*62,none⟩)] w fun e w'=>e= .returned (.slice (some ⟨b,n*62+6,none⟩) (F.nd n).size 8)/\ ∃k,w'=w.drewN k:=by
 have c0:=h.lO n hn;generalize (F.nd n).size=sz at*;have h1:(sz:Int)<=8:=by omega
 clear h;go_in
 go_wp2_with fail
 go_quiet (fail)
 go_wp2
 go_ret
 exact⟨rfl,_,rfl⟩
theorem PS (w:bD)(v:Value)(T:TypeId):(w.alloc (.cells #[v] T)).cell? ⟨w.heap.size,0,none⟩=some v:=by
 rw[au (heap_alloc_new w (.cells #[v] T))];rfl
theorem qY (b n:Nat)(s:bU)(F:Fo)(w:bD)(h:ar w b F)(hn:n<40)(hm8:(F.nd n).size<=8):
  Calls Tryz.prog 282 #[.pointer (some ⟨b,n*62,none⟩), .string s] w fun e w'=> ∃z:Int,e= .returned (.int .i64 z)/\Tr.eH (F.nd n) s z/\Below w.heap.size w w':=by
 have S1:Hid (∀T,ar (w.alloc (.cells #[.string s] T)) b F/\Below w.heap.size w (w.alloc (.cells #[.string s] T))):=hZ (fun T=>by
  have bb:Below w.heap.size w (w.alloc (.cells #[.string s] T)):=(aQ _ _).alloc (aL _) _;exact⟨h.below bb,bb⟩)
 clear h;go_in
 go_wp2_with fail
 refine(oZ b n F _ (S1.out _).1 hn hm8).mono ?_;rintro e w1 ⟨rfl,k,hw⟩;subst w1;obtain⟨sz,hsz⟩:=nJ ((F.nd n).size);have HSZ:=hZ hsz;rw[hsz]at hm8|-;clear hsz;go_wp2_with fail
 refine(D0 w.heap.size b n sz 8 s F _ ((S1.out _).1.drewN k) (PS w _ _) hn HSZ.out hm8).mono ?_;rintro e w2 ⟨z,rfl,hp,b2⟩;have FIN:Hid (Tr.eH (F.nd n) s z/\Below w.heap.size w w2):=hZ ⟨hp,by
  have a:=(S1.out 9).2;have c:Below w.heap.size w ((w.alloc (.cells #[.string s] 9)).drewN k):=⟨a.os,a.tape,a.output,a.size,a.block⟩;exact c.trans (b2.mono c.size)⟩
 clear hp b2;go_wp2
 go_ret
 exact⟨z,rfl,FIN.out⟩
def Tr.jD (F:Fo):Prop:= ∀n,n<40->(F.nd n).kind=2->(F.nd n).size<=8
def Tr.jL (F:Fo)(z:Int)(s:bU)(K:Nat)(E:Int):Prop:=
 (Tr.bj F z 2≠0/\K=0/\E=Tr.bj F z 2)\/(Tr.bj F z 2=0/\((∃i:Nat,Tr.eH (F.nd z.toNat) s i/\K=(F.nd z.toNat).bO i/\E=0)\/(Tr.eH (F.nd z.toNat) s (-1)/\K=0/\E=2)))
theorem Tr.eH.cases {x:Nd}{s:bU}{z:Int}(h:Tr.eH x s z):(∃i:Nat,z=i/\i<x.size)\/z= -1:=by grind [Tr.eH]
theorem se (b:Nat)(z:Int)(s:bU)(F:Fo)(w:bD)(h:ar w b F)(hs:Tr.jD F):
  Calls Tryz.prog 251 #[.pointer (some ⟨b,0,none⟩), .int .i64 z, .string s] w fun e w'=> ∃(K:Nat) (E:Int),e= .returned (.tuple #[.int .i64 (K:Int),aq E])/\Tr.jL F z s K E/\Below w.heap.size w w':=by
 have HF:=hZ h;by_cases c:Tr.bj F z 2=0
 ·obtain⟨n,rfl,n40,_,k2⟩:=Tr.dY c;have hm8:=hs n n40 k2;have EP:Hid (Tr.bj F (n:Int) 2=0/\dW b (n:Int) 0= .pointer (some ⟨b,n*62,none⟩)):=hZ ⟨c,fE b n⟩;clear h c hs k2;go_in
  go_wp2_with fail
  refine(j6 b n F _ HF.out).mono ?_;rintro e w1 ⟨rfl,hw1⟩;subst w1;rw[EP.out.1,EP.out.2,aa];go_wp2_with fail
  refine(qY b n s F _ HF.out n40 hm8).mono ?_;rintro e w2 ⟨y,rfl,hp,b2⟩;have HP:=hZ (aK hp b2);rcases hp.cases with⟨i,rfl,hi⟩|rfl
  ·have c0:=(HF.out.below b2).rO n i n40 (by omega);have iI:(i:Int)<8:=by omega
   have FIN:Hid (Tr.jL F (n:Int) s ((F.nd n).bO i) 0):=hZ (.inr ⟨EP.out.1, .inl ⟨i,by rw[hU];exact hp,by rw[hU],rfl⟩⟩);generalize (F.nd n).bO i=kk at*;clear hp b2;go_wp2
   go_ret2
   exact⟨kk,0,rfl,FIN.out,HP.out.2⟩
  ·have FIN:Hid (Tr.jL F (n:Int) s 0 2):=hZ (.inr ⟨EP.out.1, .inr ⟨by rw[hU];exact hp,rfl,rfl⟩⟩);clear hp b2;go_wp2
   go_ret2
   exact⟨0,2,rfl,FIN.out,HP.out.2⟩
 ·have E2:Hid (dW b z (Tr.bj F z 2)= .pointer none/\aq (Tr.bj F z 2)= .iface 100 (.int .i64 (Tr.bj F z 2))/\Tr.jL F z s 0 (Tr.bj F z 2)):=hZ ⟨fY c,aj c, .inl ⟨c,rfl,rfl⟩⟩;clear h c hs;go_in
  go_wp2_with fail
  refine(j6 b z F _ HF.out).mono ?_;rintro e w1 ⟨rfl,hw⟩;subst w1;rw[E2.out.1,E2.out.2.1];go_wp2
  go_ret2
  exact⟨0,_,by rw[E2.out.2.1];rfl,E2.out.2.2,aQ _ _⟩
def Tr.okB (c:Nat):Bool:=(decide (97<=c)&&decide (c<=122))||(decide (48<=c)&&decide (c<=57))||decide (c=46)
theorem Cs (c:Nat)(w:bD):Calls Tryz.prog 303 #[.int .u8 (c:Int)] w fun e w'=>e= .returned (.bool (Tr.okB c))/\w'=w:=by
 have E1: ∀a:Nat,decide ((a:Int)<=(c:Int))=decide (a<=c):=fun a=>by simp
 by_cases c1:97<=c
 ·have d1:(97:Int)<=(c:Int):=by omega
  by_cases c2:c<=122
  ·have d2:(c:Int)<=122:=by omega
   have HO:Hid (Tr.okB c=true):=hZ (by unfold Tr.okB;simp[c1,c2]);clear E1;go_in
   go_wp2
   go_ret
   exact⟨bN (by rw[HO.out]),rfl⟩
  ·have d2:decide ((c:Int)<=122)=false:=by simp;omega
   have d3:(48:Int)<=(c:Int):=by omega
   have d4:decide ((c:Int)<=57)=false:=by simp;omega
   have HO:Hid (Tr.okB c=false):=hZ (by unfold Tr.okB;simp;omega);have d5:((c:Int)==46)=false:=by simp;omega
   clear E1;go_in
   go_wp2
   go_ret
   exact⟨bN (by rw[HO.out]),rfl⟩
 ·have d1:decide ((97:Int)<=(c:Int))=false:=by simp;omega
  by_cases c3:48<=c/\c<=57
  ·have d3:(48:Int)<=(c:Int):=by omega
   have d4:(c:Int)<=57:=by omega
   have HO:Hid (Tr.okB c=true):=hZ (by unfold Tr.okB;simp;omega);clear E1;go_in
   go_wp2
   go_ret
   exact⟨bN (by rw[HO.out]),rfl⟩
  ·by_cases c5:c=46
   ·subst c5;have HO:Hid (Tr.okB 46=true):=hZ (by decide);go_in
    go_wp2
    go_ret
    exact⟨bN (by rw[HO.out]),rfl⟩
   ·have d5:((c:Int)==46)=false:=by simp;omega
    have HO:Hid (Tr.okB c=false):=hZ (by unfold Tr.okB;simp;omega);clear E1;by_cases c6:48<=c
    ·have d3:(48:Int)<=(c:Int):=by omega
     have d4:decide ((c:Int)<=57)=false:=by simp;omega
     go_in
     go_wp2
     go_ret
     exact⟨bN (by rw[HO.out]),rfl⟩
    ·have d3:decide ((48:Int)<=(c:Int))=false:=by simp;omega
     go_in
     go_wp2
     go_ret
     exact⟨bN (by rw[HO.out]),rfl⟩
def Tr.n7 (s:bU):Nat->Bool
 |0=>true
 |n+1=>Tr.n7 s n&&Tr.okB (s[n]!).toNat
theorem Tr.Cf {s:bU}{j:Nat}(h:Tr.okB (s[j]!).toNat=false): ∀n,j<n->Tr.n7 s n=false:=by
 intro n
 induction n with
 |zero=>intro hj;omega
 |succ n ih=>
  grind [Tr.n7,Tr.okB]
def Tr.eX (s:bU):Bool:=decide (1<=s.size)&&decide (s.size<=8)&& !(s.toList==[46])&& !(s.toList==[46,46])&&Tr.n7 s s.size
theorem sq (s:bU)(w:bD):Calls Tryz.prog 280 #[.string s] w fun e w'=>e= .returned (.bool (Tr.eX s))/\w'=w:=by
 by_cases c1:s.size=0
 ·have HO:Hid (Tr.eX s=false):=hZ (by unfold Tr.eX;simp[c1]);have d1:(s.size:Int)<1:=by omega
  clear c1;go_in
  go_wp2
  go_ret
  exact⟨bN (by rw[HO.out]),rfl⟩
 ·have d1:decide ((s.size:Int)<1)=false:=by simp;omega
  by_cases c2:8<s.size
  ·have HO:Hid (Tr.eX s=false):=hZ (by unfold Tr.eX;simp;omega);have d2:(8:Int)<(s.size:Int):=by omega
   clear c1 c2;go_in
   go_wp2
   go_ret
   exact⟨bN (by rw[HO.out]),rfl⟩
  ·have d2:decide ((8:Int)<(s.size:Int))=false:=by simp;omega
   by_cases c3:(s.toList==[46])=true
   ·have HO:Hid (Tr.eX s=false):=hZ (by unfold Tr.eX;rw[c3];simp);clear c1 c2;go_in
    go_wp2
    go_ret
    exact⟨bN (by rw[HO.out]),rfl⟩
   ·have d3:(s.toList==[46])=false:=by simpa using c3
    by_cases c4:(s.toList==[46,46])=true
    ·have HO:Hid (Tr.eX s=false):=hZ (by unfold Tr.eX;rw[c4];simp);clear c1 c2 c3;go_in
     go_wp2
     go_ret
     exact⟨bN (by rw[HO.out]),rfl⟩
    ·have d4:(s.toList==[46,46])=false:=by simpa using c4
     have HO:Hid (Tr.eX s=Tr.n7 s s.size):=hZ (by unfold Tr.eX;rw[d3,d4,aO (show 1<=s.size by omega),aO (show s.size<=8 by omega)];simp);have hs8:s.size<=8:=by omega
     clear c1 c2 c3 c4;go_in
     go_wp2_with fail
     go_loopw [3,22] (fun x i wr=> ∃(j:Nat),i= .int .i64 j/\j<=s.size/\Hid (Tr.n7 s j=true)/\wr=w) (fun _ i _=>s.size-(intOf i).toNat)
     case atStart=>exact⟨0,rfl,by omega,rfl,rfl⟩
     case round=>
      obtain⟨j,rfl,hj,R,hwr⟩:=hrel;subst wr;by_cases hlt:j<s.size
      ·have hltI:(j:Int)<(s.size:Int):=by omega
       have HB:Hid (Tr.okB (s[j]!).toNat=Tr.okB (s[j]'hlt).toNat):=hZ (by rw[getElem!_pos s j hlt]);go_wp2_with fail
       refine(Cs (s[j]'hlt).toNat _).mono ?_;rintro e w1 ⟨rfl,hw1⟩;subst w1;cases ho:Tr.okB (s[j]'hlt).toNat
       ·have NO:=hZ (Tr.Cf (s:=s) (j:=j) (by rw[HB.out];exact ho) s.size hlt);clear ho;go_wp2
        go_ret
        exact⟨bN (by rw[HO.out,NO.out]),rfl⟩
       ·have NX:Hid (Tr.n7 s (j+1)=true):=hZ (by
         show(Tr.n7 s j&&Tr.okB (s[j]!).toNat)=true;rw[R.out,HB.out,ho];rfl)
        clear ho;go_wp2
        go_roundw
        case rel=>exact⟨j+1,by go_num,by omega,NX,by first|rfl|trivial⟩
        case measure=>simp[intOf];omega
      ·have hltI: ¬(j:Int)<(s.size:Int):=by omega
       have hje:j=s.size:=by omega
       have FIN:Hid (Tr.n7 s s.size=true):=hZ (by rw[<-hje];exact R.out);clear hje;go_wp2
       go_ret
       exact⟨bN (by rw[HO.out,FIN.out]),rfl⟩
def Tr.mV (x:Nd)(s:bU)(E:Int):Prop:=(Tr.eX s=false/\E=9)\/(Tr.eX s=true/\((∃i:Nat,Tr.eH x s i/\E=3)\/(Tr.eH x s (-1)/\((x.size=8/\E=4)\/(x.size≠8/\E=0)))))
theorem sH (b n:Nat)(s:bU)(F:Fo)(w:bD)(h:ar w b F)(hn:n<40)(hm8:(F.nd n).size<=8):
  Calls Tryz.prog 256 #[.pointer (some ⟨b,n*62,none⟩), .string s] w fun e w'=> ∃E,e= .returned (aq E)/\Tr.mV (F.nd n) s E/\Below w.heap.size w w':=by
 have HF:=hZ h;clear h;go_in
 go_wp2_with fail
 refine(sq s _).mono ?_;rintro e w1 ⟨rfl,hw1⟩;subst w1;cases hb:Tr.eX s
 ·have FIN:Hid (Tr.mV (F.nd n) s 9):=hZ (.inl ⟨hb,rfl⟩);clear hb;go_wp2
  go_ret
  exact⟨9,rfl,FIN.out,aQ _ _⟩
 ·have HB:=hZ hb;clear hb;go_wp2_with fail
  refine(qY b n s F _ HF.out hn hm8).mono ?_;rintro e w2 ⟨y,rfl,hp,b2⟩;have B2:=hZ b2;rcases hp.cases with⟨i,rfl,hi⟩|rfl
  ·have FIN:Hid (Tr.mV (F.nd n) s 3):=hZ (.inr ⟨HB.out, .inl ⟨i,hp,rfl⟩⟩);clear hp b2;go_wp2
   go_ret
   exact⟨3,rfl,FIN.out,B2.out⟩
  ·have c0:=(HF.out.below b2).lO n hn;by_cases s8:(F.nd n).size=8
   ·have FIN:Hid (Tr.mV (F.nd n) s 4):=hZ (.inr ⟨HB.out, .inr ⟨hp, .inl ⟨s8,rfl⟩⟩⟩);rw[s8]at c0;have c0':w2.cell? ⟨b,n*62+3,none⟩=some (.int .i64 8):=c0;clear hp b2 s8 c0 hm8;go_wp2
    go_ret
    exact⟨4,rfl,FIN.out,B2.out⟩
   ·have FIN:Hid (Tr.mV (F.nd n) s 0):=hZ (.inr ⟨HB.out, .inr ⟨hp, .inr ⟨s8,rfl⟩⟩⟩);have s8':(((F.nd n).size:Int)==8)=false:=by simp;omega
    generalize (F.nd n).size=sz at*;clear hp b2 s8;go_wp2
    go_ret
    exact⟨0,rfl,FIN.out,B2.out⟩
def Tr.mU (F:Fo)(z:Int)(s:bU)(E:Int):Prop:=(Tr.bj F z 2≠0/\E=Tr.bj F z 2)\/(Tr.bj F z 2=0/\Tr.mV (F.nd z.toNat) s E)
theorem pT (b:Nat)(z:Int)(s:bU)(F:Fo)(w:bD)(h:ar w b F)(hs:Tr.jD F):
  Calls Tryz.prog 259 #[.pointer (some ⟨b,0,none⟩), .int .i64 z, .string s] w fun e w'=> ∃E,e= .returned (.tuple #[dW b z E,aq E])/\Tr.mU F z s E/\Below w.heap.size w w':=by
 have HF:=hZ h;by_cases c:Tr.bj F z 2=0
 ·obtain⟨n,rfl,n40,_,k2⟩:=Tr.dY c;have hm8:=hs n n40 k2;have EP:Hid (Tr.bj F (n:Int) 2=0/\dW b (n:Int) 0= .pointer (some ⟨b,n*62,none⟩)):=hZ ⟨c,fE b n⟩;clear h c hs k2;go_in
  go_wp2_with fail
  refine(j6 b n F _ HF.out).mono ?_;rintro e w1 ⟨rfl,hw1⟩;subst w1;rw[EP.out.1,EP.out.2,aa];go_wp2_with fail
  refine(sH b n s F _ HF.out n40 hm8).mono ?_;rintro e w2 ⟨E,rfl,hr,b2⟩;have FIN:Hid (Tr.mU F (n:Int) s E/\Below w.heap.size w w2):=hZ ⟨.inr ⟨EP.out.1,by rw[hU];exact hr⟩,b2⟩;clear hr b2;by_cases e0:E=0
  ·subst e0;rw[aa];go_wp2
   go_ret2
   exact⟨0,by rw[EP.out.2];rfl,FIN.out⟩
  ·have E2:Hid (dW b (n:Int) E= .pointer none/\aq E= .iface 100 (.int .i64 E)):=hZ ⟨fY e0,aj e0⟩;rw[E2.out.2];clear e0;go_wp2
   go_ret2
   exact⟨E,by rw[E2.out.1,E2.out.2];rfl,FIN.out⟩
 ·have E2:Hid (dW b z (Tr.bj F z 2)= .pointer none/\aq (Tr.bj F z 2)= .iface 100 (.int .i64 (Tr.bj F z 2))/\Tr.mU F z s (Tr.bj F z 2)):=hZ ⟨fY c,aj c, .inl ⟨c,rfl⟩⟩;clear h c hs;go_in
  go_wp2_with fail
  refine(j6 b z F _ HF.out).mono ?_;rintro e w1 ⟨rfl,hw⟩;subst w1;rw[E2.out.1,E2.out.2.1];go_wp2
  go_ret2
  exact⟨_,by rw[E2.out.1,E2.out.2.1];rfl,E2.out.2.2,aQ _ _⟩

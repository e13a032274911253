import Derived.Test.YtpmmdkcfenjiaaaGreatDoorYai
set_option maxRecDepth 100000
set_option maxHeartbeats 2000000
set_option linter.unusedVariables false
set_option linter.unusedSimpArgs false
namespace Go.Proofs.YtpmmdkcfenjiaaaGreatDoor
open Value renaming int->aa,pointer->ai,slice->aj,string->ak,tuple->ao,iface->aq,bool->ar,agg->au
open IntKind renaming i64->az,u8->bc
open Ending renaming returned->bf
open Obj renaming cells->bh
open Option renaming some->bj,none->bu
open Bool renaming true->bw,false->bA
open Tryz (prog)
open Go.RowKit
variable {E z:Int}{B b c t:Nat}{w:bD}
namespace Pp
structure Pi where
 tx:bU
 reads:Nat
 writes:Nat
def Pi.no:Pi:=⟨⟨#[]⟩,0,0⟩
def put(S:Nat->Pi)(n:Nat)(x:Pi):Nat->Pi:=λm=>if m=n then x else S m
theorem bM(S:Nat->Pi)(n:Nat)(x:Pi):put S n x n=x:=aJ rfl
theorem bP(S:Nat->Pi)(n:Nat)(x:Pi)(m:Nat)(h:m≠n):put S n x m=S m:=aI h
theorem gM(S:Nat->Pi)(n:Nat)(x y:Pi):put (put S n x) n y=put S n y:=by
 funext m;unfold put;split<;>rfl
def mG(x:Pi):Bool:=decide (0<x.reads\/0<x.writes)
def kT(x:Pi)(wr:Bool):Nat:=if wr then x.writes else x.reads
def j4(S:Nat->Pi)(z:Int):Int:=if z<0\/7<z then 1 else if mG (S z.toNat)then 0 else 2
def im(S:Nat->Pi)(z:Int)(wr:Bool):Int:=if j4 S z≠0 then j4 S z else if kT (S z.toNat) wr=0 then 8 else 0
theorem Ha{S:Nat->Pi}(h:j4 S z=0):∃n:Nat,z=n/\n<8/\mG (S n)=bw:=by
 unfold j4 at h;by_cases c:z<0\/7<z
 .rw[aJ c]at h;omega
 .rw[aI c]at h;refine⟨z.toNat,bB,bB,?_⟩;by_cases d:mG (S z.toNat)=bw
  .exact d
  .rw[aI d]at h;omega
theorem D9{S:Nat->Pi}{wr:Bool}(h:im S z wr=0):∃n:Nat,z=n/\n<8/\mG (S n)=bw/\kT (S n) wr≠0:=by
 unfold im at h;by_cases c:j4 S z≠0
 .rw[aJ c]at h;exact aZ h c
 .rw[aI c]at h;obtain⟨n,rfl,hn,ht⟩:=Ha (by omega:j4 S z=0);refine⟨n,rfl,hn,ht,λd=>?_⟩;rw[hZ,aJ d]at h;omega
def fp(t:bU):List Value:=t.data.toList.map λx=>aa bc (x.toNat:Int)
theorem kv(t:bU):(fp t).length=t.size:=by simp[fp]
end Pp
open Pp (Pi)
structure dW (w:bD)(b:Nat)(S:Nat->Pi):Prop where
 da:∃C T,w.heap[b]? =bj (bh C T (0,0))/\C.size=120
 dO:∀n,n<8->∀j v,(Pp.fp (S n).tx)[j]? =bj v->w.cell? ⟨b,n*15+j,bu⟩=bj v
 many:∀n,n<8->w.cell? ⟨b,n*15+12,bu⟩=bj (aa az ((S n).tx.size:Int))
 reads:∀n,n<8->w.cell? ⟨b,n*15+13,bu⟩=bj (aa az ((S n).reads:Int))
 writes:∀n,n<8->w.cell? ⟨b,n*15+14,bu⟩=bj (aa az ((S n).writes:Int))
 small:∀n,n<8->(S n).tx.size<=12
section
variable {w w':bD}{b:Nat}{S:Nat->Pi}
theorem dW.lt(h:dW w b S):b<w.heap.size:=by
 obtain⟨C,T,e,_⟩:=h.da;exact(aX.1 e).1
theorem dW.frozen(h:dW w b S)(o:Nat):w.frozen? ⟨b,o,bu⟩=bA:=by
 obtain⟨C,T,e,_⟩:=h.da;exact cE e o
theorem dW.GQ(h:dW w b S)(o:Nat)(ho:o<120):(w.cell? ⟨b,o,bu⟩).isSome=bw:=by
 obtain⟨C,T,e,hC⟩:=h.da;rw[bR e,Array.getElem?_eq_getElem bB];rfl
theorem dW.same(h:dW w b S)(e:w'.heap[b]? =w.heap[b]?):dW w' b S:=by
 have hc:∀o,w'.cell? ⟨b,o,bu⟩=w.cell? ⟨b,o,bu⟩:=λo=>aV e;exact⟨by rw[e];exact h.da,λn hn j v hv=>(hc _).trans (h.dO n hn j v hv),λn hn=>(hc _).trans (h.many n hn),λn hn=>(hc _).trans (h.reads n hn),λn hn=>(hc _).trans (h.writes n hn),h.small⟩
theorem dW.drew(h:dW w b S):dW w.drew b S:=h.same rfl
theorem dW.drewN(h:dW w b S)(n:Nat):dW (w.drewN n) b S:=h.same rfl
theorem dW.below(h:dW w b S)(k:Below B w w')(hb:b<B):dW w' b S:=h.same (k.block b hb)
theorem dW.mS(h:dW w b S)(k:bG c w w')(hb:b≠c):dW w' b S:=h.same (k.block b h.lt hb)
end
def lS(b:Nat)(z E:Int):Value:=if E=0 then ai (bj ⟨b,z.toNat*15,bu⟩)else ai bu
theorem sE(b n:Nat):lS b (n:Int) 0=ai (bj ⟨b,n*15,bu⟩):=by unfold lS;rw[aJ rfl,hZ]
theorem oJ(h:E≠0):lS b z E=ai none:=aI h
theorem qd(b n:Nat)(S:Nat->Pi)(w:bD)(h:dW w b S)(hn:n<8):
  Calls prog 159 #[ai (bj ⟨b,n*15,bu⟩)] w λe w'=>e=bf (ar (Pp.mG (S n)))/\w'=w:=by
 have c1:=h.reads n hn;have c2:=h.writes n hn;unfold Pp.mG;generalize (S n).reads=r at c1|-;generalize (S n).writes=u at c2|-;by_cases r0:0<r
 .have r1:(0:Int)<(r:Int):=bB
  go_in
  go_wp2
  go_ret
  exact⟨cX (by simp[r0]),rfl⟩
 .have r1:¬(0:Int)<(r:Int):=bB
  go_in
  go_wp2
  go_ret
  exact⟨cX (by simp),rfl⟩
theorem zb(b o:Nat)(wr:Bool)(w:bD):
  Calls prog 270 #[ai (bj ⟨b,o,bu⟩),ar wr] w λe w'=>e=bf (ai (bj ⟨b,o+(if wr then 14 else 13),bu⟩))/\w'=w:=by
 cases wr
 .go_in
  go_wp2
  go_ret
  exact⟨rfl,rfl⟩
 .go_in
  go_wp2
  go_ret
  exact⟨rfl,rfl⟩
theorem uZ(b:Nat)(z:Int)(S:Nat->Pi)(w:bD)(h:dW w b S):
  Calls prog 289 #[ai (bj ⟨b,0,bu⟩),aa az z] w λe w'=>e=bf (ao #[lS b z (Pp.j4 S z),bN (Pp.j4 S z)])/\w'=w:=by
 have HF:=hJ h;by_cases c:z<0\/7<z
 .have E:Hid (Pp.j4 S z=1):=hJ (aJ c);have E2:Hid (lS b z 1=ai bu):=hJ (oJ bE);by_cases c1:z<0
  .clear c h;go_in
   go_wp2
   go_ret2
   rw[E.v,E2.v];exact⟨rfl,rfl⟩
  .have c2:8<=z:=bB
   go_in
   go_wp2
   go_ret2
   rw[E.v,E2.v];exact⟨rfl,rfl⟩
 .obtain⟨n,rfl⟩:∃n:Nat,z=n:=⟨z.toNat,bB⟩;have n8:n<8:=bB
  have n8i:(n:Int)<8:=bB
  have E:Pp.j4 S (n:Int)=if Pp.mG (S n)then 0 else 2:=by unfold Pp.j4;rw[aI c,hZ]
  by_cases d:Pp.mG (S n)=bw
  .have E1:Hid (Pp.j4 S (n:Int)=0/\lS b (n:Int) 0=ai (bj ⟨b,n*15,bu⟩)/\Pp.mG (S n)=bw):=hJ ⟨by rw[E,aJ d],sE b n,d⟩;go_in
   go_wp2_with fail
   refine sC (qd b n S _ HF.v n8) ?_;rintro w1 hw1;subst w1;rw[E1.2.2];go_wp2
   go_ret2
   rw[E1.1,E1.2.1];exact⟨rfl,rfl⟩
  .have E1:Hid (Pp.j4 S (n:Int)=2/\lS b (n:Int) 2=ai bu/\Pp.mG (S n)=bA):=hJ ⟨by rw[E,aI d],oJ bE,by simpa using d⟩;go_in
   go_wp2_with fail
   refine sC (qd b n S _ HF.v n8) ?_;rintro w1 hw1;subst w1;rw[E1.2.2];go_wp2
   go_ret2
   rw[E1.1,E1.2.1];exact⟨rfl,rfl⟩
theorem jv(b:Nat)(z:Int)(wr:Bool)(S:Nat->Pi)(w:bD)(h:dW w b S):
  Calls prog 269 #[ai (bj ⟨b,0,bu⟩),aa az z,ar wr] w λe w'=>e=bf (ao #[lS b z (Pp.im S z wr),bN (Pp.im S z wr)])/\w'=w:=by
 have HF:=hJ h;by_cases c:Pp.j4 S z=0
 .obtain⟨n,rfl,n8,_⟩:=Pp.Ha c;have c0:w.cell? ⟨b,n*15+(if wr then 14 else 13),bu⟩=bj (aa az (Pp.kT (S n) wr:Int)):=by
   cases wr
   .exact h.reads n n8
   .exact h.writes n n8
  have EP:Hid (Pp.j4 S (n:Int)=0/\lS b (n:Int) 0=ai (bj ⟨b,n*15,bu⟩)):=hJ ⟨c,sE b n⟩;have EO:Pp.im S (n:Int) wr=if Pp.kT (S n) wr=0 then 8 else 0:=by unfold Pp.im;rw[aI (λd=>d c),hZ]
  obtain⟨o,ho⟩:=hU ((if wr then 14 else 13));have T:Hid (∀W:bD,Calls prog 270 #[ai (bj ⟨b,n*15,bu⟩),ar wr] W λe w'=>e=bf (ai (bj ⟨b,n*15+o,bu⟩))/\w'=W):=hJ (λW=>by
   have:=zb b (n*15) wr W;rw[ho]at this;exact this)
  rw[ho]at c0;by_cases d:Pp.kT (S n) wr=0
  .have FIN:Hid (Pp.im S (n:Int) wr=8/\lS b (n:Int) 8=ai bu):=hJ ⟨by rw[EO,aJ d],oJ bE⟩;rw[d]at c0;have c1:w.cell? ⟨b,n*15+o,bu⟩=bj (aa .i64 0):=c0;go_in
   go_wp2_with fail
   refine sC (uZ b n S _ HF.v) ?_;rintro w1 hw1;subst w1;rw[EP.1,EP.2,bF];go_wp2_with fail
   refine sC (T.v _) ?_;rintro w1 hw1;subst w1;go_wp2
   go_ret2
   rw[FIN.1,FIN.2];exact⟨rfl,rfl⟩
  .have FIN:Hid (Pp.im S (n:Int) wr=0):=hJ (by rw[EO,aI d]);generalize Pp.kT (S n) wr=k at d c0;have d1:¬(k:Int)=0:=bB
   go_in
   go_wp2_with fail
   refine sC (uZ b n S _ HF.v) ?_;rintro w1 hw1;subst w1;rw[EP.1,EP.2,bF];go_wp2_with fail
   refine sC (T.v _) ?_;rintro w1 hw1;subst w1;go_wp2
   go_ret2
   rw[FIN.v,EP.2];exact⟨rfl,rfl⟩
 .have E2:Hid (lS b z (Pp.j4 S z)=ai bu/\bN (Pp.j4 S z)=aq 100 (aa az (Pp.j4 S z))/\Pp.im S z wr=Pp.j4 S z):=hJ ⟨oJ c,bH c,aJ c⟩;go_in
  go_wp2_with fail
  refine sC (uZ b z S _ HF.v) ?_;rintro w1 hw1;subst w1;rw[E2.1,E2.2.1];go_wp2
  go_ret2
  rw[E2.2.2,E2.1,E2.2.1];exact⟨rfl,rfl⟩
theorem Pp.jA{b:Nat}:∀(vs:List Value) (o:Nat) {u w:bD},bG b u w->bG b u (w.setCells b o vs)
 |[],_,_,_,h=>h
 |v::r,o,u,w,h=>by rw[World.setCells];exact Pp.jA r (o+1) (h.setCell o v)
theorem Pp.jy(b:Nat):∀(vs:List Value) (o:Nat) (w:bD) (C:Array Value) {T:TypeId},w.heap[b]? =bj (bh C T (0,0))->∃C',(w.setCells b o vs).heap[b]? =bj (bh C' T (0,0))/\C'.size=C.size
 |[],_,_,C,_,h=>⟨C,h,rfl⟩
 |v::r,o,w,C,_,h=>by
  rw[World.setCells];obtain⟨C',h1,h2⟩:=Pp.jy b r (o+1) _ _ (cQ h o v);exact⟨C',h1,by simpa using h2⟩
def Pp.mP(x:Pi)(wr:Bool)(k:Nat):Pi:=if wr then{x with writes:=k}else{x with reads:=k}
def Pp.oA(r u:Nat):Array Value:=#[aa bc 0,aa bc 0,aa bc 0,aa bc 0,aa bc 0,aa bc 0,aa bc 0,aa bc 0,aa bc 0,aa bc 0,aa bc 0,aa bc 0,aa az 0,aa az (r:Int),aa az (u:Int)]
section
variable {w:bD}{b:Nat}{S:Nat->Pi}
theorem Pp.py{t:bU}{j:Nat}{v:Value}(h:(Pp.fp t)[j]? =bj v):j<t.size:=by
 have:=(aY.1 h).1;rw[Pp.kv]at this;exact this
theorem dW.mP(h:dW w b S)(n:Nat)(hn:n<8)(wr:Bool)(k:Nat):dW (w.setCell ⟨b,n*15+(if wr then 14 else 13),bu⟩ (aa az (k:Int))) b (Pp.put S n (Pp.mP (S n) wr k)):=by
 obtain⟨C,T,h1,h2⟩:=h.da;have ne:∀o,o≠n*15+(if wr then 14 else 13)->(w.setCell ⟨b,n*15+(if wr then 14 else 13),bu⟩ (aa az (k:Int))).cell? ⟨b,o,bu⟩=w.cell? ⟨b,o,bu⟩:=λo ho=>dm h1 _ _ _ (bQ ho);have eq:(w.setCell ⟨b,n*15+(if wr then 14 else 13),bu⟩ (aa az (k:Int))).cell? ⟨b,n*15+(if wr then 14 else 13),bu⟩=bj (aa az (k:Int)):=dF h1 _ _ (by split<;>omega);have tx:(Pp.mP (S n) wr k).tx=(S n).tx:=by cases wr<;>rfl
 refine⟨⟨_,T,cQ h1 _ _,by simpa using h2⟩,λm hm j v hv=>?_,λm hm=>?_,λm hm=>?_,λm hm=>?_,λm hm=>?_⟩
 .by_cases c:m=n
  .subst c;rw[Pp.bM,tx]at hv;have:=Pp.py hv;have:=h.small m hm;rw[ne _ (by split<;>omega)];exact h.dO m hm j v hv
  .rw[Pp.bP _ _ _ _ c]at hv;have:=Pp.py hv;have:=h.small m hm;rw[ne _ (by split<;>omega)];exact h.dO m hm j v hv
 .rw[ne _ (by split<;>omega),h.many m hm];by_cases c:m=n
  .subst c;rw[Pp.bM,tx]
  .rw[Pp.bP _ _ _ _ c]
 .by_cases c:m=n
  .subst c;rw[Pp.bM];cases wr
   .exact eq
   .rw[ne _ (by simp)];exact h.reads m hm
  .rw[Pp.bP _ _ _ _ c,ne _ (by split<;>omega),h.reads m hm]
 .by_cases c:m=n
  .subst c;rw[Pp.bM];cases wr
   .rw[ne _ (by simp)];exact h.writes m hm
   .exact eq
  .rw[Pp.bP _ _ _ _ c,ne _ (by split<;>omega),h.writes m hm]
 .by_cases c:m=n
  .subst c;rw[Pp.bM,tx];exact h.small m hm
  .rw[Pp.bP _ _ _ _ c];exact h.small m hm
theorem dW.Qq(h:dW w b S)(n:Nat)(hn:n<8)(r u:Nat):dW (w.setCells b (n*15) (Pp.oA r u).toList) b (Pp.put S n ⟨⟨#[]⟩,r,u⟩):=by
 obtain⟨C,T,h1,h2⟩:=h.da;obtain⟨C',k1,k2⟩:=Pp.jy b (Pp.oA r u).toList (n*15) w C h1;have out:∀o,o<n*15\/n*15+15<=o->(w.setCells b (n*15) (Pp.oA r u).toList).cell? ⟨b,o,bu⟩=w.cell? ⟨b,o,bu⟩:=λo ho=>aA b _ (n*15) w ⟨b,o,bu⟩ (λ_ _=>by show o<_\/_<=o;exact ho);have su:∀j (hj:j<15),(w.setCells b (n*15) (Pp.oA r u).toList).cell? ⟨b,n*15+j,bu⟩=bj ((Pp.oA r u).toList[j]'hj):=λj hj=>aS b (Pp.oA r u).toList (n*15) w (λi hi=>h.GQ _ (by have:i<15:=hi;omega)) j hj;refine⟨⟨C',T,k1,bB⟩,λm hm j v hv=>?_,λm hm=>?_,λm hm=>?_,λm hm=>?_,λm hm=>?_⟩
 .by_cases c:m=n
  .subst c;rw[Pp.bM]at hv;exact aZ (Pp.py hv) (by show¬j<0;omega)
  .rw[Pp.bP _ _ _ _ c]at hv;have:=Pp.py hv;have:=h.small m hm;rw[out _ bB];exact h.dO m hm j v hv
 .by_cases c:m=n
  .subst c;rw[Pp.bM];exact su 12 bB
  .rw[Pp.bP _ _ _ _ c,out _ bB];exact h.many m hm
 .by_cases c:m=n
  .subst c;rw[Pp.bM];exact su 13 bB
  .rw[Pp.bP _ _ _ _ c,out _ bB];exact h.reads m hm
 .by_cases c:m=n
  .subst c;rw[Pp.bM];exact su 14 bB
  .rw[Pp.bP _ _ _ _ c,out _ bB];exact h.writes m hm
 .by_cases c:m=n
  .subst c;rw[Pp.bM];exact aC _
  .rw[Pp.bP _ _ _ _ c];exact h.small m hm
theorem dW.Hl(h:dW w b S)(n:Nat)(hn:n<8)(r u:Nat):w.there b (n*15) (Pp.oA r u).size:=λj hj=>by
 have:j<15:=hj;exact⟨h.GQ _ bB,h.frozen _⟩
theorem Pp.Bp(r u:Nat):(prog.info? 119).map (·.size)=bj (Pp.oA r u).size:=by
 show _=bj 15;kernel_rfl
theorem Pp.G8(r u:Nat):(Pp.oA r u).all (·.oneCell')=bw:=by simp[Pp.oA,Value.oneCell']
end
section
variable {ops:Array Oper}{rest:List Oper}{x:Oper}{a:Act}{w:bD}{Q:Exit->Act->bD->Prop}
theorem Pp.MX(hgd:x.guard=bu)(ho:x.op= .build 119 #[])(h:wpList prog ops Q rest (a.put x.dst (au (Pp.oA 0 0))) w):wpList prog ops Q (x::rest) a w:=
 wpList_plain hgd λ_ hK=>by
  unfold Oper.wp execOp;simp only[ho];simp[go_sem];exact hK _ _ h
theorem Pp.MZ(hgd:x.guard=bu)(ho:x.op= .build 119 #[(2, .const (aa .i64 1)),(3, .const (aa .i64 1))])(h:wpList prog ops Q rest (a.put x.dst (au (Pp.oA 1 1))) w):wpList prog ops Q (x::rest) a w:=
 wpList_plain hgd λ_ hK=>by
  unfold Oper.wp execOp;simp only[ho];simp[go_sem];exact hK _ _ h
end
def Pp.less(x:Pi)(wr:Bool):Pi:=if Pp.mG (Pp.mP x wr (Pp.kT x wr-1))then Pp.mP x wr (Pp.kT x wr-1)else Pi.no
def Pp.qz(S:Nat->Pi)(z:Int)(wr:Bool):Nat->Pi:=if Pp.im S z wr=0 then Pp.put S z.toNat (Pp.less (S z.toNat) wr)else S
theorem dW.kT{w:bD}{b:Nat}{S:Nat->Pi}(h:dW w b S)(n:Nat)(hn:n<8)(wr:Bool):w.cell? ⟨b,n*15+(if wr then 14 else 13),bu⟩=bj (aa az (Pp.kT (S n) wr:Int)):=by
 cases wr
 .exact h.reads n hn
 .exact h.writes n hn
theorem LJ(b:Nat)(z:Int)(wr:Bool)(S:Nat->Pi)(w:bD)(h:dW w b S)(hb:∀n,n<8->Pp.kT (S n) wr<2^60):
  Calls prog 227 #[ai (bj ⟨b,0,bu⟩),aa az z,ar wr] w λe w'=>e=bf (bN (Pp.im S z wr))/\dW w' b (Pp.qz S z wr)/\bG b w w':=by
 have HF:=hJ h;by_cases c:Pp.im S z wr=0
 .obtain⟨n,rfl,n8,_,t0⟩:=Pp.D9 c;have EP:Hid (Pp.im S (n:Int) wr=0/\lS b (n:Int) 0=ai (bj ⟨b,n*15,bu⟩)):=hJ ⟨c,sE b n⟩;have ED:Pp.qz S (n:Int) wr=Pp.put S n (Pp.less (S n) wr):=by unfold Pp.qz;rw[aJ c,hZ]
  have c0:=h.kT n n8 wr;have hl:=hb n n8;have T:=hJ (zb b (n*15) wr);have S1:Hid (dW (w.setCell ⟨b,n*15+(if wr then 14 else 13),bu⟩ (aa az ((Pp.kT (S n) wr-1:Nat):Int))) b (Pp.put S n (Pp.mP (S n) wr (Pp.kT (S n) wr-1)))):=hJ (h.mP n n8 wr _);have cf:=h.frozen;have HL:Hid (Pp.less (S n) wr=if Pp.mG (Pp.mP (S n) wr (Pp.kT (S n) wr-1))then Pp.mP (S n) wr (Pp.kT (S n) wr-1)else Pi.no):=hJ rfl;generalize hX:Pp.mP (S n) wr (Pp.kT (S n) wr-1)=X at S1 HL;generalize (if wr then 14 else 13)=o at c0 T S1;generalize Pp.kT (S n) wr=k at*;obtain⟨q,rfl⟩:∃q,k=q+1:=⟨k-1,bB⟩;have hw:IntKind.i64.wrap ((q+1:Nat)-1:Int)=(q:Int):=(aN _ ⟨by omega,bB⟩).trans bB;rw[aP]at S1;obtain⟨k1,hk1⟩:=hU (((q+1:Nat):Int));rw[hk1]at c0 hw;go_in
  go_wp2_with fail
  refine sC (jv b n wr S _ HF.v) ?_;rintro w1 hw1;subst w1;rw[EP.1,EP.2,bF];go_wp2_with fail
  refine sC (T.v _) ?_;rintro w1 hw1;subst w1;go_wp2_with fail
  have TH:=hJ (qd b n _ _ S1.v n8);rw[Pp.bM]at TH;refine sC TH.v ?_;rintro w1 hw1;subst w1;have F1:Hid (bG b w (w.setCell ⟨b,n*15+o,bu⟩ (aa az (q:Int)))):=hJ ((bG.refl b w).setCell _ _);cases hth:Pp.mG X
  .have TH:=hJ (S1.Hl n n8 0 0);have HS:=hJ (Pp.Bp 0 0);have H1:=hJ (Pp.G8 0 0);have FIN:Hid (dW ((w.setCell ⟨b,n*15+o,bu⟩ (aa az (q:Int))).setCells b (n*15) (Pp.oA 0 0).toList) b (Pp.qz S (n:Int) wr)/\bG b w ((w.setCell ⟨b,n*15+o,bu⟩ (aa az (q:Int))).setCells b (n*15) (Pp.oA 0 0).toList)):=hJ (by
    have:=S1.Qq n n8 0 0;rw[Pp.gM]at this;rw[ED,HL.v,hth,aI bE];exact⟨this,Pp.jA _ _ F1.v⟩)
   obtain⟨A,hA⟩:=hU (Pp.oA 0 0);rw[hA]at FIN TH HS H1;generalize w.setCell ⟨b,n*15+o,bu⟩ (aa az (q:Int))=W at*;go_wp2_with (first|(refine Pp.MX rfl rfl ?_;rw[hA])|(refine wpList_store_mid rfl 119 _ _ rfl b (n*15) A rfl rfl TH.v HS.v H1.v ?_))
   go_ret
   rw[EP.1];exact⟨rfl,FIN.v⟩
  .have FIN:Hid (dW (w.setCell ⟨b,n*15+o,bu⟩ (aa az (q:Int))) b (Pp.qz S (n:Int) wr)):=hJ (by
    rw[ED,HL.v,hth,aJ rfl];exact S1.v)
   generalize w.setCell ⟨b,n*15+o,bu⟩ (aa az (q:Int))=W at*;go_wp2
   go_ret
   rw[EP.1];exact⟨rfl,FIN.v,F1.v⟩
 .have E2:Hid (lS b z (Pp.im S z wr)=ai bu/\bN (Pp.im S z wr)=aq 100 (aa az (Pp.im S z wr))/\Pp.qz S z wr=S):=hJ ⟨oJ c,bH c,aI c⟩;go_in
  go_wp2_with fail
  refine sC (jv b z wr S _ HF.v) ?_;rintro w1 hw1;subst w1;rw[E2.1,E2.2.1];go_wp2
  go_ret
  rw[E2.2.2,E2.2.1];exact⟨rfl,HF.v,bG.refl _ _⟩
theorem Pp.z7(t:bU)(a e:Nat):Pp.fp (t.extract a e)=((Pp.fp t).drop a).take (e-a):=by
 unfold Pp.fp;rw[ByteArray.data_extract,Array.toList_extract,List.extract,List.map_take,List.map_drop]
theorem Pp.QV(s t:bU):Pp.fp (s++t)=Pp.fp s++Pp.fp t:=by
 unfold Pp.fp;rw[ByteArray.data_append,Array.toList_append,List.map_append]
section
variable {P:Program}
theorem Pp.Cf(w:bD)(dT sT ty elem:TypeId)(b o dLen dCap:Nat)(t:bU)(hu:P.underlying dT=bj (.slice elem))(hz:∀w,(Go.sizeOf elem).run P w= .ok 1 w)
  (hc:∀j,j<min t.size dLen->(w.cell? ⟨b,o+j,bu⟩).isSome=bw) (hf:∀j,j<min t.size dLen->w.frozen? ⟨b,o+j,bu⟩=bA):
  (Builtin.copy_ #[dT,sT] ty #[aj (bj ⟨b,o,bu⟩) dLen dCap,ak t]).run P w= .ok (goInt ((min t.size dLen:Nat):Int)) (w.setCells b o (Pp.fp (t.extract 0 (min t.size dLen)))):=by
 have hl:(Pp.fp (t.extract 0 (min t.size dLen))).length=min t.size dLen:=by rw[Pp.kv,ByteArray.size_extract];omega
 have hst:=run_storeCells_cells (P:=P) b o (Pp.fp (t.extract 0 (min t.size dLen))) 0 w (by rw[hl];simpa using hc) (by rw[hl];simpa using hf) (by
  intro v hv;obtain⟨x,_,rfl⟩:=List.mem_map.1 hv;rfl)
 have hm:Nat.min t.size dLen=min t.size dLen:=rfl;have ht:List.take (min t.size dLen) (List.map (λx:UInt8=>aa bc (x.toNat:Int)) t.data.toList)=Pp.fp (t.extract 0 (min t.size dLen)):=by
  rw[Pp.z7,List.drop_zero,Nat.sub_zero];rfl
 simp[Builtin.copy_,run_underlying hu,Builtin.lenOf,Builtin.firstCells,hz,hm];rw[ht,hst];rfl
theorem Pp.Ek(w:bD)(ty:TypeId)(d:Option Addr)(dLen dCap:Nat):(Builtin.copy_ #[316,9] ty #[aj d dLen dCap,ak ⟨#[]⟩]).run prog w= .ok (goInt 0) w:=by
 have hu:prog.underlying 316=bj (.slice 5):=by kernel_rfl
 have hz:∀w,(Go.sizeOf 5).run prog w= .ok 1 w:=λw=>by rfl
 have e0:ByteArray.size ⟨#[]⟩=0:=rfl;cases d<;>simp[Builtin.copy_,run_underlying hu,Builtin.lenOf,Builtin.firstCells,hz,e0,storeCells]
theorem Pp.pH{ops:Array Oper}{o:Oper}{a:Act}{K:Act->bD->Prop}{Q:Exit->Act->bD->Prop}{E:Prop}
  (hg:o.guard=bu) (d x:Operand) (dT sT:TypeId) (hop:o.op=Op.call {callee:=Callee.builtin Builtin.copy,args:=#[d,x],argTypes:=#[dT,sT]})
  (v1 v2 r:Value) (W:bD) (hd:a.eval d=v1) (hx:a.eval x=v2) (hrun:(Builtin.copy_ #[dT,sT] o.type #[v1,v2]).run P w= .ok r W) (hK:K (a.put o.dst r) W):
  if Region.wanted o (yielded ops a.tmps)=bw then Oper.wp P o a w K Q else E:=by
 have hw:Region.wanted o (yielded ops a.tmps)=bw:=by simp[Region.wanted,hg]
 rw[aJ hw];unfold Oper.wp;simp[execOp,hop,resolve,invoke,builtin,hd,hx,hrun,Result.andThen];exact hK
end
section
variable {w:bD}{b:Nat}{S:Nat->Pi}
theorem dW.wrote(h:dW w b S)(n:Nat)(hn:n<8)(t:bU)(ht:(S n).tx.size+t.size<=12):
  dW ((w.setCells b (n*15+(S n).tx.size) (Pp.fp t)).setCell ⟨b,n*15+12,bu⟩ (aa az (((S n).tx.size+t.size:Nat):Int))) b (Pp.put S n {S n with tx:=(S n).tx++t}):=by
 obtain⟨C,T,h1,h2⟩:=h.da;obtain⟨C',k1,k2⟩:=Pp.jy b (Pp.fp t) (n*15+(S n).tx.size) w C h1;have hl:=Pp.kv t;have ne:∀o,o≠n*15+12->((w.setCells b (n*15+(S n).tx.size) (Pp.fp t)).setCell ⟨b,n*15+12,bu⟩ (aa az (((S n).tx.size+t.size:Nat):Int))).cell? ⟨b,o,bu⟩=(w.setCells b (n*15+(S n).tx.size) (Pp.fp t)).cell? ⟨b,o,bu⟩:=λo ho=>dm k1 _ _ _ (bQ ho);have out:∀o,o<n*15+(S n).tx.size\/n*15+(S n).tx.size+t.size<=o->(w.setCells b (n*15+(S n).tx.size) (Pp.fp t)).cell? ⟨b,o,bu⟩=w.cell? ⟨b,o,bu⟩:=λo ho=>aA b _ _ w ⟨b,o,bu⟩ (λ_ _=>by rw[hl];exact ho);have su:∀j (hj:j<(Pp.fp t).length),(w.setCells b (n*15+(S n).tx.size) (Pp.fp t)).cell? ⟨b,n*15+(S n).tx.size+j,bu⟩=bj ((Pp.fp t)[j]):=λj hj=>aS b (Pp.fp t) _ w (λi hi=>h.GQ _ (by rw[hl]at hi;omega)) j hj;refine⟨⟨_,T,cQ k1 _ _,by simp;omega⟩,λm hm j v hv=>?_,λm hm=>?_,λm hm=>?_,λm hm=>?_,λm hm=>?_⟩
 .by_cases c:m=n
  .subst c;rw[Pp.bM]at hv;have hj:=Pp.py hv;rw[ByteArray.size_append]at hj;rw[ne _ bB];have hv:(Pp.fp (S m).tx++Pp.fp t)[j]? =bj v:=by rw[<-Pp.QV];exact hv
   by_cases d:j<(S m).tx.size
   .rw[List.getElem?_append_left (by rw[Pp.kv];exact d)]at hv;rw[out _ bB];exact h.dO m hm j v hv
   .rw[List.getElem?_append_right (by rw[Pp.kv];omega),Pp.kv]at hv;have:=su (j-(S m).tx.size) (by rw[hl];omega);rw[show m*15+(S m).tx.size+(j-(S m).tx.size)=m*15+j by omega,<-aW,hv]at this;exact this
  .rw[Pp.bP _ _ _ _ c]at hv;have:=Pp.py hv;have:=h.small m hm;rw[ne _ bB,out _ bB];exact h.dO m hm j v hv
 .by_cases c:m=n
  .subst c;rw[Pp.bM,dF k1 _ _ bB];show _=bj (aa az ((((S m).tx++t).size:Nat):Int));rw[ByteArray.size_append]
  .rw[Pp.bP _ _ _ _ c,ne _ bB,out _ bB];exact h.many m hm
 .rw[ne _ bB,out _ bB,h.reads m hm];by_cases c:m=n
  .subst c;rw[Pp.bM]
  .rw[Pp.bP _ _ _ _ c]
 .rw[ne _ bB,out _ bB,h.writes m hm];by_cases c:m=n
  .subst c;rw[Pp.bM]
  .rw[Pp.bP _ _ _ _ c]
 .by_cases c:m=n
  .subst c;rw[Pp.bM];show((S m).tx++t).size<=12;rw[ByteArray.size_append];exact ht
  .rw[Pp.bP _ _ _ _ c];exact h.small m hm
end
def Pp.dR(S:Nat->Pi)(z:Int)(s:bU):Int:=if Pp.im S z bw≠0 then Pp.im S z bw else if(S z.toNat).reads=0 then 12 else if s.size≠0/\(S z.toNat).tx.size=12 then 13 else 0
def Pp.iS(S:Nat->Pi)(z:Int)(s:bU):Nat:=if Pp.dR S z s=0 then min s.size (12-(S z.toNat).tx.size)else 0
def Pp.eY(S:Nat->Pi)(z:Int)(s:bU):Nat->Pi:=if Pp.dR S z s=0 then Pp.put S z.toNat {S z.toNat with tx:=(S z.toNat).tx++s.extract 0 (Pp.iS S z s)}else S
theorem Jk(b:Nat)(z:Int)(s:bU)(S:Nat->Pi)(w:bD)(h:dW w b S)(hs:s.size<2^60):
  Calls prog 247 #[ai (bj ⟨b,0,bu⟩),aa az z,ak s] w λe w'=>e=bf (ao #[aa az (Pp.iS S z s:Int),bN (Pp.dR S z s)])/\dW w' b (Pp.eY S z s)/\bG b w w':=by
 have HF:=hJ h;by_cases c:Pp.im S z bw=0
 .obtain⟨n,rfl,n8,_,t0⟩:=Pp.D9 c;have EP:Hid (Pp.im S (n:Int) bw=0/\lS b (n:Int) 0=ai (bj ⟨b,n*15,bu⟩)):=hJ ⟨c,sE b n⟩;have EW:Pp.dR S (n:Int) s=if(S n).reads=0 then 12 else if s.size≠0/\(S n).tx.size=12 then 13 else 0:=by unfold Pp.dR;rw[aI (λd=>d c),hZ]
  have c1:=h.many n n8;have c2:=h.reads n n8;have no:∀E,E≠0->Pp.dR S (n:Int) s=E->Pp.iS S (n:Int) s=0/\Pp.eY S (n:Int) s=S:=λE e0 e=>⟨by unfold Pp.iS;rw[e,aI e0],by unfold Pp.eY;rw[e,aI e0]⟩;by_cases r0:(S n).reads=0
  .have e:Pp.dR S (n:Int) s=12:=by rw[EW,aJ r0]
   have FIN:Hid (Pp.dR S (n:Int) s=12/\Pp.iS S (n:Int) s=0/\Pp.eY S (n:Int) s=S):=hJ ⟨e,no 12 bE e⟩;rw[r0]at c2;have c2':w.cell? ⟨b,n*15+13,bu⟩=bj (aa .i64 0):=c2;go_in
   go_wp2_with fail
   refine sC (jv b n bw S _ HF.v) ?_;rintro w1 hw1;subst w1;rw[EP.1,EP.2,bF];go_wp2
   go_ret2
   rw[FIN.1,FIN.2.1,FIN.2.2];exact⟨rfl,HF.v,bG.refl _ _⟩
  .have r1:(((S n).reads:Int)==0)=bA:=by simp;omega
   by_cases s0:s.size=0
   .obtain rfl:s=⟨#[]⟩:=by
     apply ByteArray.ext;exact Array.eq_empty_of_size_eq_zero s0
    have e:Pp.dR S (n:Int) ⟨#[]⟩=0:=by rw[EW,aI r0,aI (λd=>d.1 s0)]
    have FIN:Hid (Pp.dR S (n:Int) ⟨#[]⟩=0/\Pp.iS S (n:Int) ⟨#[]⟩=0):=hJ ⟨e,by unfold Pp.iS;rw[aJ e,s0,Nat.zero_min]⟩;have FI2:Hid (dW (w.setCell ⟨b,n*15+12,bu⟩ (aa az ((S n).tx.size:Int))) b (Pp.eY S (n:Int) ⟨#[]⟩)):=hJ (by
     have q:=h.wrote n n8 ⟨#[]⟩ (by have:=h.small n n8;rw[s0];omega);unfold Pp.eY;rw[aJ e,hZ,FIN.2];exact q)
    have sm:=h.small n n8;generalize (S n).reads=rr at*;generalize (S n).tx.size=mm at*;have z12:mm<=12:=sm;have cf:=h.drew.frozen;have ad0:IntKind.i64.wrap (mm:Int)=(mm:Int):=aN _ ⟨by omega,bB⟩;have z12I:(mm:Int)<=12:=bB
    have EMP:=hJ Pp.Ek;go_in
    go_wp2_with fail
    refine sC (jv b n bw S _ HF.v) ?_;rintro w1 hw1;subst w1;rw[EP.1,EP.2,bF];go_upto_region 8 with fail
    go_region_law (refine Pp.pH rfl _ _ 316 9 rfl (aj (bj (if 12=mm then⟨b,n*15,bu⟩else⟨b,n*15+mm,bu⟩)) (12-mm) (12-mm)) (ak ⟨#[]⟩) _ _ (by simp[Act.eval,Act.put]) (by simp[Act.eval,Act.put]) (EMP.v _ _ _ _ _) ?_)
    generalize (if 12=mm then(⟨b,n*15,bu⟩:Addr)else⟨b,n*15+mm,bu⟩)=ad;go_wp2
    go_ret2
    rw[FIN.1,FIN.2];exact⟨rfl,FI2.drew,((bG.refl b w).setCell _ _).drew⟩
   .have sl:(s.toList==[])=bA:=by
     rw[beq_eq_false_iff_ne];intro e;rw[ByteArray.toList_eq]at e;apply s0;show s.data.size=0;rw[<-aB,e];rfl
    by_cases m12:(S n).tx.size=12
    .have e:Pp.dR S (n:Int) s=13:=by rw[EW,aI r0,aJ ⟨s0,m12⟩]
     have FIN:Hid (Pp.dR S (n:Int) s=13/\Pp.iS S (n:Int) s=0/\Pp.eY S (n:Int) s=S):=hJ ⟨e,no 13 bE e⟩;rw[m12]at c1;have c1':w.cell? ⟨b,n*15+12,bu⟩=bj (aa .i64 12):=c1;generalize (S n).reads=rr at*;go_in
     go_wp2_with fail
     refine sC (jv b n bw S _ HF.v) ?_;rintro w1 hw1;subst w1;rw[EP.1,EP.2,bF];go_wp2
     go_ret2
     rw[FIN.1,FIN.2.1,FIN.2.2];exact⟨rfl,HF.v,bG.refl _ _⟩
    .have e:Pp.dR S (n:Int) s=0:=by rw[EW,aI r0,aI (λd=>m12 d.2)]
     have sm:=h.small n n8;obtain⟨k,hk⟩:=hU (min s.size (12-(S n).tx.size));have eK:Pp.iS S (n:Int) s=k:=by unfold Pp.iS;rw[aJ e,hZ,hk]
     have FIN:Hid (Pp.dR S (n:Int) s=0/\Pp.iS S (n:Int) s=k):=hJ ⟨e,eK⟩;have MID:Hid (∀V,dW V b S->bG b w V->(V.setCells b (n*15+(S n).tx.size) (Pp.fp (s.extract 0 k))).cell? ⟨b,n*15+12,bu⟩=bj (aa az ((S n).tx.size:Int))/\(∀o,(V.setCells b (n*15+(S n).tx.size) (Pp.fp (s.extract 0 k))).frozen? ⟨b,o,bu⟩=bA)
       /\dW ((V.setCells b (n*15+(S n).tx.size) (Pp.fp (s.extract 0 k))).setCell ⟨b,n*15+12,bu⟩ (aa az (((S n).tx.size+k:Nat):Int))) b (Pp.eY S (n:Int) s)/\bG b w (V.setCells b (n*15+(S n).tx.size) (Pp.fp (s.extract 0 k)))):=hJ (λV hV fV=>by
      have z:(s.extract 0 k).size=k:=by rw[ByteArray.size_extract];omega
      have q:=hV.wrote n n8 (s.extract 0 k) (by rw[z];omega);rw[z]at q;obtain⟨C,T,h1,_⟩:=hV.da;obtain⟨C',k1,_⟩:=Pp.jy b (Pp.fp (s.extract 0 k)) (n*15+(S n).tx.size) V C h1;refine⟨?_,λo=>cE k1 o,?_,Pp.jA _ _ fV⟩
      .rw[aA b _ _ V ⟨b,n*15+12,bu⟩ (λ_ _=>by rw[Pp.kv,z];show n*15+12<_\/_<=n*15+12;omega)];exact hV.many n n8
      .unfold Pp.eY;rw[aJ e,hZ,eK];exact q)
     have CP:Hid (∀V ty,dW V b S->(Builtin.copy_ #[316,9] ty #[aj (bj ⟨b,n*15+(S n).tx.size,bu⟩) (12-(S n).tx.size) (12-(S n).tx.size),ak s]).run prog V= .ok (goInt (k:Int)) (V.setCells b (n*15+(S n).tx.size) (Pp.fp (s.extract 0 k)))):=hJ (λV ty hV=>by
      have:=Pp.Cf (P:=prog) V 316 9 ty 5 b (n*15+(S n).tx.size) (12-(S n).tx.size) (12-(S n).tx.size) s bC (λw=>by rfl) (λj hj=>hV.GQ _ bB) (λj _=>hV.frozen _);rw[hk]at this;exact this)
     generalize (S n).reads=rr at*;generalize (S n).tx.size=mm at*;have mlt:mm<12:=bB
     have mltI:(mm:Int)<12:=bB
     have mleI:(mm:Int)<=12:=bB
     have mn0:¬12=mm:=bB
     have mn0':¬mm=12:=bB
     have mn1:¬12-mm=0:=bB
     have mn2:¬(mm:Int)=12:=bB
     have mn3:((mm:Int)==12)=bA:=by simp;omega
     have ad:IntKind.i64.wrap ((mm:Int)+(k:Int))=((mm+k:Nat):Int):=(aN _ ⟨by omega,bB⟩).trans bB;generalize Pp.fp (s.extract 0 k)=L at*;go_in
     go_wp2_with fail
     refine sC (jv b n bw S _ HF.v) ?_;rintro w1 hw1;subst w1;rw[EP.1,EP.2,bF];go_upto_region 8 with fail
     go_region_law (refine Pp.pH rfl _ _ 316 9 rfl (aj (bj ⟨b,n*15+mm,bu⟩) (12-mm) (12-mm)) (ak s) _ _ (by simp[Act.eval,Act.put]) (by simp[Act.eval,Act.put]) (CP.v _ _ HF.drew) ?_)
     have M:=MID.v _ HF.drew (bG.refl b w).drew;generalize w.drew.setCells b (n*15+mm) L=W at M|-;obtain⟨d1,d2,d3,d4⟩:=M;have FI3:=hJ d3;have FI4:=hJ d4;go_wp2
     go_ret2
     rw[FIN.1,FIN.2];exact⟨rfl,FI3.v,FI4.setCell _ _⟩
 .have E2:Hid (lS b z (Pp.im S z bw)=ai bu/\bN (Pp.im S z bw)=aq 100 (aa az (Pp.im S z bw))/\Pp.dR S z s=Pp.im S z bw/\Pp.iS S z s=0/\Pp.eY S z s=S):=hJ (by
   have e:Pp.dR S z s=Pp.im S z bw:=aJ c;exact⟨oJ c,bH c,e,by unfold Pp.iS;rw[e,aI c],by unfold Pp.eY;rw[e,aI c]⟩)
  go_in
  go_wp2_with fail
  refine sC (jv b z bw S _ HF.v) ?_;rintro w1 hw1;subst w1;rw[E2.1,E2.2.1];go_wp2
  go_ret2
  rw[E2.2.2.1,E2.2.2.2.1,E2.2.2.2.2,E2.2.1];exact⟨rfl,HF.v,bG.refl _ _⟩
section
variable {w:bD}{b:Nat}{S:Nat->Pi}
theorem dW.VT(h:dW w b S)(n:Nat)(hn:n<8)(k:Nat)(hk:k<=(S n).tx.size):
  dW ((w.setCells b (n*15) (Pp.fp ((S n).tx.extract k (S n).tx.size))).setCell ⟨b,n*15+12,bu⟩ (aa az (((S n).tx.size-k:Nat):Int))) b (Pp.put S n {S n with tx:=(S n).tx.extract k (S n).tx.size}):=by
 obtain⟨t,ht⟩:=hU ((S n).tx.extract k (S n).tx.size);have hz:t.size=(S n).tx.size-k:=by rw[<-ht,ByteArray.size_extract,Nat.min_self]
 have h12:=h.small n hn;rw[ht,<-hz];obtain⟨C,T,h1,h2⟩:=h.da;obtain⟨C',k1,k2⟩:=Pp.jy b (Pp.fp t) (n*15) w C h1;have hl:=Pp.kv t;have ne:∀o,o≠n*15+12->((w.setCells b (n*15) (Pp.fp t)).setCell ⟨b,n*15+12,bu⟩ (aa az (t.size:Int))).cell? ⟨b,o,bu⟩=(w.setCells b (n*15) (Pp.fp t)).cell? ⟨b,o,bu⟩:=λo ho=>dm k1 _ _ _ (bQ ho);have out:∀o,o<n*15\/n*15+t.size<=o->(w.setCells b (n*15) (Pp.fp t)).cell? ⟨b,o,bu⟩=w.cell? ⟨b,o,bu⟩:=λo ho=>aA b _ _ w ⟨b,o,bu⟩ (λ_ _=>by rw[hl];exact ho);have su:∀j (hj:j<(Pp.fp t).length),(w.setCells b (n*15) (Pp.fp t)).cell? ⟨b,n*15+j,bu⟩=bj ((Pp.fp t)[j]):=λj hj=>aS b (Pp.fp t) _ w (λi hi=>h.GQ _ (by rw[hl]at hi;omega)) j hj;refine⟨⟨_,T,cQ k1 _ _,by simp;omega⟩,λm hm j v hv=>?_,λm hm=>?_,λm hm=>?_,λm hm=>?_,λm hm=>?_⟩
 .by_cases c:m=n
  .subst c;rw[Pp.bM]at hv;grind
  .rw[Pp.bP _ _ _ _ c]at hv;have:=Pp.py hv;have:=h.small m hm;rw[ne _ bB,out _ bB];exact h.dO m hm j v hv
 .by_cases c:m=n
  .subst c;rw[Pp.bM,dF k1 _ _ bB]
  .rw[Pp.bP _ _ _ _ c,ne _ bB,out _ bB];exact h.many m hm
 .rw[ne _ bB,out _ bB,h.reads m hm];by_cases c:m=n
  .subst c;rw[Pp.bM]
  .rw[Pp.bP _ _ _ _ c]
 .rw[ne _ bB,out _ bB,h.writes m hm];by_cases c:m=n
  .subst c;rw[Pp.bM]
  .rw[Pp.bP _ _ _ _ c]
 .by_cases c:m=n
  .subst c;rw[Pp.bM];show t.size<=12;omega
  .rw[Pp.bP _ _ _ _ c];exact h.small m hm
theorem Pp.Hd:∀(L:List UInt8) (r:bU),(L.map λx=>(x.toNat:Int)).foldl (λr n=>r.push (UInt8.ofNat n.toNat)) r=⟨r.data++L.toArray⟩
 |[],r=>by simp
 |x::L,r=>by
  rw[List.map_cons,List.foldl_cons,Pp.Hd L];simp[ByteArray.push]
def Pp.CY(t:bU):List Int:=t.data.toList.map λx=>(x.toNat:Int)
theorem Pp.QX(t:bU):(Pp.CY t).foldl (λr n=>r.push (UInt8.ofNat n.toNat)) ByteArray.empty=t:=by
 unfold Pp.CY;rw[Pp.Hd];cases t;simp[ByteArray.empty,ByteArray.emptyWithCapacity];rfl
theorem Pp.QW(t:bU):(Pp.CY t).map (Value.int bc)=Pp.fp t:=by simp[Pp.CY,Pp.fp,Function.comp_def]
theorem dW.Jb(h:dW w b S)(n k e:Nat)(hn:n<8)(hk:k<=e)(he:e<=(S n).tx.size)(ad:Addr)(had:k<e->ad=⟨b,n*15+k,bu⟩):(loadCells ad (e-k)).run prog w= .ok ((Pp.CY ((S n).tx.extract k e)).map (Value.int bc)).toArray w:=by
 rw[Pp.QW];have hl:(Pp.fp ((S n).tx.extract k e)).length=e-k:=by rw[Pp.kv,ByteArray.size_extract];omega
 have:=run_loadCells_list (P:=prog) w ad (Pp.fp ((S n).tx.extract k e)) (λj v hv=>by
  have hj:j<e-k:=by grind
  rw[had bB];have ea:(⟨b,n*15+k,bu⟩:Addr).add j=⟨b,n*15+(k+j),bu⟩:=by rw[sV,Nat.add_assoc]
  rw[ea];refine h.dO n hn (k+j) v ?_;rw[Pp.z7,List.getElem?_take_of_lt hj,List.getElem?_drop]at hv;exact hv)
 rw[hl]at this;exact this
theorem dW.Tq(h:dW w b S)(n k:Nat)(hn:n<8)(hk:k<=(S n).tx.size)(ad:Addr)(had:k<(S n).tx.size->ad=⟨b,n*15+k,bu⟩)(c:Nat)(ty:TypeId):
  (Builtin.copy_ #[316,316] ty #[aj (bj ⟨b,n*15,bu⟩) 12 12,aj (bj ad) ((S n).tx.size-k) c]).run prog w= .ok (goInt (((S n).tx.size-k:Nat):Int)) (w.setCells b (n*15) (Pp.fp ((S n).tx.extract k (S n).tx.size))):=by
 have h12:=h.small n hn;have hl:(Pp.fp ((S n).tx.extract k (S n).tx.size)).length=(S n).tx.size-k:=by rw[Pp.kv,ByteArray.size_extract,Nat.min_self]
 have:=run_copy_cells (P:=prog) w 316 316 ty 5 b (n*15) 12 12 ad ((S n).tx.size-k) c (Pp.fp ((S n).tx.extract k (S n).tx.size)) bC bC (by rw[hl];exact(Nat.min_eq_left bB).symm)
  (λj v hv=>by
   have hj:j<(S n).tx.size-k:=by grind
   rw[had bB,sV,Nat.add_assoc];refine h.dO n hn (k+j) v ?_;rw[Pp.z7,List.getElem?_take_of_lt hj,List.getElem?_drop]at hv;exact hv)
  (λj hj=>h.GQ _ bB) (λj _=>h.frozen _) (λv hv=>by
   obtain⟨x,_,rfl⟩:=List.mem_map.1 hv;rfl)
 rw[hl]at this;exact this
end
section
variable {ops:Array Oper}{rest:List Oper}{x:Oper}{a:Act}{C:bD->Prop}{Q:Act->Prop}
theorem Pp.tE(hgd:x.guard=bu)(y:Operand)(hop:x.op=Op.convert 316 9 y)
  (ad:Addr) (k c:Nat) (hd:a.eval y=aj (bj ad) k c) (ns:List Int) (t:bU) (ht:ns.foldl (λr n=>r.push (UInt8.ofNat n.toNat)) ByteArray.empty=t) (hl:∀w,C w->(loadCells ad k).run prog w= .ok (ns.map (Value.int bc)).toArray w)
  (h:wpQuiet prog ops C Q rest (a.put x.dst (ak t))):wpQuiet prog ops C Q (x::rest) a:=by
 have hw:Region.wanted x (yielded ops a.tmps)=bw:=by simp[Region.wanted,hgd]
 unfold wpQuiet;rw[aJ hw];refine⟨ak t,λw hC=>?_,h⟩;have hrun:=(run_convert_bytes_string (P:=prog) w 316 9 5 (bj ad) k c bC bC bC).trans (run_bytesToString w ad k c ns (hl w hC));rw[ht]at hrun;unfold Oper.quietAt;simp[execOp,hop,hd,hrun,Oper.quietUpon]
end
def Pp.eN(S:Nat->Pi)(z m:Int):Int:=if Pp.im S z bA≠0 then Pp.im S z bA else if m<0 then 1 else if 0<m/\(S z.toNat).tx.size=0/\0<(S z.toNat).writes then 13 else 0
def Pp.iN(S:Nat->Pi)(z m:Int):bU:=if Pp.eN S z m=0 then(S z.toNat).tx.extract 0 (min m.toNat (S z.toNat).tx.size)else⟨#[]⟩
def Pp.oK(S:Nat->Pi)(z m:Int):Nat->Pi:=if Pp.eN S z m=0 then Pp.put S z.toNat {S z.toNat with tx:=(S z.toNat).tx.extract (min m.toNat (S z.toNat).tx.size) (S z.toNat).tx.size}else S
theorem LY(b:Nat)(z m:Int)(S:Nat->Pi)(w:bD)(h:dW w b S):
  Calls prog 245 #[ai (bj ⟨b,0,bu⟩),aa az z,aa az m] w λe w'=>e=bf (ao #[ak (Pp.iN S z m),bN (Pp.eN S z m)])/\dW w' b (Pp.oK S z m)/\bG b w w':=by
 have HF:=hJ h;by_cases c:Pp.im S z bA=0
 .obtain⟨n,rfl,n8,_,t0⟩:=Pp.D9 c;have EP:Hid (Pp.im S (n:Int) bA=0/\lS b (n:Int) 0=ai (bj ⟨b,n*15,bu⟩)):=hJ ⟨c,sE b n⟩;have EW:Pp.eN S (n:Int) m=if m<0 then 1 else if 0<m/\(S n).tx.size=0/\0<(S n).writes then 13 else 0:=by unfold Pp.eN;rw[aI (λd=>d c),hZ]
  have c1:=h.many n n8;have c2:=h.writes n n8;have no:∀E,E≠0->Pp.eN S (n:Int) m=E->Pp.iN S (n:Int) m=⟨#[]⟩/\Pp.oK S (n:Int) m=S:=λE e0 e=>⟨by unfold Pp.iN;rw[e,aI e0],by unfold Pp.oK;rw[e,aI e0]⟩;by_cases m0:m<0
  .have e:Pp.eN S (n:Int) m=1:=by rw[EW,aJ m0]
   have FIN:Hid (Pp.eN S (n:Int) m=1/\Pp.iN S (n:Int) m=⟨#[]⟩/\Pp.oK S (n:Int) m=S):=hJ ⟨e,no 1 bE e⟩;clear h c EW no e t0 c1 c2;go_in
   go_wp2_with fail
   refine sC (jv b n bA S _ HF.v) ?_;rintro w1 hw1;subst w1;rw[EP.1,EP.2,bF];go_wp2
   go_ret2
   rw[FIN.1,FIN.2.1,FIN.2.2];exact⟨rfl,HF.v,bG.refl _ _⟩
  .by_cases ag:0<m/\(S n).tx.size=0/\0<(S n).writes
   .have e:Pp.eN S (n:Int) m=13:=by rw[EW,aI m0,aJ ag]
    have FIN:Hid (Pp.eN S (n:Int) m=13/\Pp.iN S (n:Int) m=⟨#[]⟩/\Pp.oK S (n:Int) m=S):=hJ ⟨e,no 13 bE e⟩;obtain⟨a1,a2,a3⟩:=ag;rw[a2]at c1;have c1':w.cell? ⟨b,n*15+12,bu⟩=bj (aa .i64 0):=c1;generalize (S n).writes=uu at*;have a3':(0:Int)<(uu:Int):=bB
    clear h c EW no e t0 c1 a2;go_in
    go_wp2_with fail
    refine sC (jv b n bA S _ HF.v) ?_;rintro w1 hw1;subst w1;rw[EP.1,EP.2,bF];go_wp2
    go_ret2
    rw[FIN.1,FIN.2.1,FIN.2.2];exact⟨rfl,HF.v,bG.refl _ _⟩
   .have e:Pp.eN S (n:Int) m=0:=by rw[EW,aI m0,aI ag]
    have h12:=h.small n n8;obtain⟨k,hk⟩:=hU (min m.toNat (S n).tx.size);have kle:k<=(S n).tx.size:=bB
    have FIN:Hid (Pp.eN S (n:Int) m=0/\Pp.iN S (n:Int) m=(S n).tx.extract 0 k):=hJ ⟨e,by unfold Pp.iN;rw[aJ e,hZ,hk]⟩;have LD:Hid (∀W,dW W b S->(loadCells ⟨b,n*15,bu⟩ k).run prog W= .ok ((Pp.CY ((S n).tx.extract 0 k)).map (Value.int bc)).toArray W):=hJ (λW hW=>hW.Jb n 0 k n8 (aC k) kle ⟨b,n*15,bu⟩ (λ_=>rfl));have CP:Hid (∀W ty,dW W b S->(Builtin.copy_ #[316,316] ty #[aj (bj ⟨b,n*15,bu⟩) 12 12,aj (bj (if 12=k then⟨b,n*15,bu⟩else⟨b,n*15+k,bu⟩)) ((S n).tx.size-k) (12-k)]).run prog W= .ok (goInt (((S n).tx.size-k:Nat):Int)) (W.setCells b (n*15) (Pp.fp ((S n).tx.extract k (S n).tx.size)))):=hJ (λW ty hW=>hW.Tq n k n8 kle _ (λhlt=>nJ) _ _);have MID:Hid (∀V,dW V b S->dW ((V.setCells b (n*15) (Pp.fp ((S n).tx.extract k (S n).tx.size))).setCell ⟨b,n*15+12,bu⟩ (aa az (((S n).tx.size-k:Nat):Int))) b (Pp.oK S (n:Int) m)/\(∀o,(V.setCells b (n*15) (Pp.fp ((S n).tx.extract k (S n).tx.size))).frozen? ⟨b,o,bu⟩=bA)/\(V.setCells b (n*15) (Pp.fp ((S n).tx.extract k (S n).tx.size))).cell? ⟨b,n*15+12,bu⟩=bj (aa az ((S n).tx.size:Int))):=hJ (λV hV=>by
     unfold Pp.oK;rw[aJ e,hZ,hk];obtain⟨C,T,h1,_⟩:=hV.da;obtain⟨C',k1,_⟩:=Pp.jy b (Pp.fp ((S n).tx.extract k (S n).tx.size)) (n*15) V C h1;exact⟨hV.VT n n8 k kle,λo=>cE k1 o,by rw[aA b _ _ V ⟨b,n*15+12,bu⟩ (λ_ _=>by rw[Pp.kv,ByteArray.size_extract];show n*15+12<_\/_<=n*15+12;omega)];exact hV.many n n8⟩)
    have FR:Hid (∀V,bG b w V->bG b w (V.setCells b (n*15) (Pp.fp ((S n).tx.extract k (S n).tx.size)))):=hJ (λV hV=>Pp.jA _ _ hV);have SZ:Hid (((S n).tx.extract 0 k).size=k):=hJ (by rw[ByteArray.size_extract];omega);have ST:Hid ((Pp.CY ((S n).tx.extract 0 k)).foldl (λr n=>r.push (UInt8.ofNat n.toNat)) ByteArray.empty=(S n).tx.extract 0 k):=hJ (Pp.QX _);generalize Pp.fp ((S n).tx.extract k (S n).tx.size)=L at*;generalize (S n).tx.extract 0 k=g at*;generalize (S n).writes=uu at*;generalize (S n).tx.size=mm at*;have mk:min m (mm:Int)=(k:Int):=bB
    have mk2:(if(mm:Int)<m then(mm:Int)else m)=(k:Int):=by split<;>omega
    have kI:(k:Int)<=12:=bB
    have kmI:(k:Int)<=(mm:Int):=bB
    have mI:(mm:Int)<=12:=bB
    clear h c EW no e t0 hk;by_cases m1:0<m
    .by_cases s0:mm=0
     .have u1:¬(0:Int)<(uu:Int):=bB
      have s1:((mm:Int)==0)=bw:=by simp;omega
      have cf:=HF.frozen;clear ag s0;go_in
      go_wp2_with fail
      refine sC (jv b n bA S _ HF.v) ?_;rintro w1 hw1;subst w1;rw[EP.1,EP.2,bF];go_upto_region 8 with fail
      refine wp_region_quiet_lit bC bC ?_
      repeat (quiet_step (fail))
      refine Pp.tE rfl _ rfl ⟨b,n*15,bu⟩ k 12 rfl _ g ST.v (λw' hC=>by obtain⟨q,rfl⟩:=hC;exact LD.v _ (HF.drewN q)) ?_
      repeat (quiet_step (fail))
      refine wpQuiet_nil ?_;intro _ hw';obtain⟨nq,hw''⟩:=hw';subst hw'';have HD:=hJ (HF.drewN nq);have FD:=hJ ((bG.refl b w).drewN nq);have c1d:(w.drewN nq).cell? ⟨b,n*15+12,bu⟩=bj (aa az (mm:Int)):=c1;generalize w.drewN nq=W1 at HD FD c1d|-;clear c1 c2 cf;have sz:=SZ.v;have M:=MID.v _ HD.drew;have F2:=hJ (FR.v _ FD.drew);have CP2:=hJ (λty=>CP.v _ ty HD.drew);generalize W1.drew.setCells b (n*15) L=W at M F2 CP2;obtain⟨M0,cf2,d2⟩:=M;have M1:=hJ M0;clear M0 CP MID FR LD;go_upto_region 9 with fail
      go_region_law (refine Pp.pH rfl _ _ 316 316 rfl (aj (bj ⟨b,n*15,bu⟩) 12 12) (aj (bj (if 12=k then⟨b,n*15,bu⟩else⟨b,n*15+k,bu⟩)) (mm-k) (12-k)) _ _ (by simp[Act.eval,Act.put]) (by simp[Act.eval,Act.put]) (CP2.v _) ?_)
      generalize (if 12=k then(⟨b,n*15,bu⟩:Addr)else⟨b,n*15+k,bu⟩)=ad;go_wp2
      go_ret2
      rw[FIN.1,FIN.2];exact⟨rfl,M1.v,F2.setCell _ _⟩
     .have s1:((mm:Int)==0)=bA:=by simp;omega
      have cf:=HF.frozen;clear ag s0;go_in
      go_wp2_with fail
      refine sC (jv b n bA S _ HF.v) ?_;rintro w1 hw1;subst w1;rw[EP.1,EP.2,bF];go_upto_region 8 with fail
      refine wp_region_quiet_lit bC bC ?_
      repeat (quiet_step (fail))
      refine Pp.tE rfl _ rfl ⟨b,n*15,bu⟩ k 12 rfl _ g ST.v (λw' hC=>by obtain⟨q,rfl⟩:=hC;exact LD.v _ (HF.drewN q)) ?_
      repeat (quiet_step (fail))
      refine wpQuiet_nil ?_;intro _ hw';obtain⟨nq,hw''⟩:=hw';subst hw'';have HD:=hJ (HF.drewN nq);have FD:=hJ ((bG.refl b w).drewN nq);have c1d:(w.drewN nq).cell? ⟨b,n*15+12,bu⟩=bj (aa az (mm:Int)):=c1;generalize w.drewN nq=W1 at HD FD c1d|-;clear c1 c2 cf;have sz:=SZ.v;have M:=MID.v _ HD.drew;have F2:=hJ (FR.v _ FD.drew);have CP2:=hJ (λty=>CP.v _ ty HD.drew);generalize W1.drew.setCells b (n*15) L=W at M F2 CP2;obtain⟨M0,cf2,d2⟩:=M;have M1:=hJ M0;clear M0 CP MID FR LD;go_upto_region 9 with fail
      go_region_law (refine Pp.pH rfl _ _ 316 316 rfl (aj (bj ⟨b,n*15,bu⟩) 12 12) (aj (bj (if 12=k then⟨b,n*15,bu⟩else⟨b,n*15+k,bu⟩)) (mm-k) (12-k)) _ _ (by simp[Act.eval,Act.put]) (by simp[Act.eval,Act.put]) (CP2.v _) ?_)
      generalize (if 12=k then(⟨b,n*15,bu⟩:Addr)else⟨b,n*15+k,bu⟩)=ad;go_wp2
      go_ret2
      rw[FIN.1,FIN.2];exact⟨rfl,M1.v,F2.setCell _ _⟩
    .have cf:=HF.frozen;go_in
     go_wp2_with fail
     refine sC (jv b n bA S _ HF.v) ?_;rintro w1 hw1;subst w1;rw[EP.1,EP.2,bF];go_upto_region 8 with fail
     refine wp_region_quiet_lit bC bC ?_
     repeat (quiet_step (fail))
     refine Pp.tE rfl _ rfl ⟨b,n*15,bu⟩ k 12 rfl _ g ST.v (λw' hC=>by obtain⟨q,rfl⟩:=hC;exact LD.v _ (HF.drewN q)) ?_
     repeat (quiet_step (fail))
     refine wpQuiet_nil ?_;intro _ hw';obtain⟨nq,hw''⟩:=hw';subst hw'';have HD:=hJ (HF.drewN nq);have FD:=hJ ((bG.refl b w).drewN nq);have c1d:(w.drewN nq).cell? ⟨b,n*15+12,bu⟩=bj (aa az (mm:Int)):=c1;generalize w.drewN nq=W1 at HD FD c1d|-;clear c1 c2 cf;have sz:=SZ.v;have M:=MID.v _ HD.drew;have F2:=hJ (FR.v _ FD.drew);have CP2:=hJ (λty=>CP.v _ ty HD.drew);generalize W1.drew.setCells b (n*15) L=W at M F2 CP2;obtain⟨M0,cf2,d2⟩:=M;have M1:=hJ M0;clear M0 CP MID FR LD;go_upto_region 9 with fail
     go_region_law (refine Pp.pH rfl _ _ 316 316 rfl (aj (bj ⟨b,n*15,bu⟩) 12 12) (aj (bj (if 12=k then⟨b,n*15,bu⟩else⟨b,n*15+k,bu⟩)) (mm-k) (12-k)) _ _ (by simp[Act.eval,Act.put]) (by simp[Act.eval,Act.put]) (CP2.v _) ?_)
     generalize (if 12=k then(⟨b,n*15,bu⟩:Addr)else⟨b,n*15+k,bu⟩)=ad;go_wp2
     go_ret2
     rw[FIN.1,FIN.2];exact⟨rfl,M1.v,F2.setCell _ _⟩
 .have E2:Hid (lS b z (Pp.im S z bA)=ai bu/\bN (Pp.im S z bA)=aq 100 (aa az (Pp.im S z bA))/\Pp.eN S z m=Pp.im S z bA/\Pp.iN S z m=⟨#[]⟩/\Pp.oK S z m=S):=hJ (by
   have e:Pp.eN S z m=Pp.im S z bA:=aJ c;exact⟨oJ c,bH c,e,by unfold Pp.iN;rw[e,aI c],by unfold Pp.oK;rw[e,aI c]⟩)
  clear h c;go_in
  go_wp2_with fail
  refine sC (jv b z bA S _ HF.v) ?_;rintro w1 hw1;subst w1;rw[E2.1,E2.2.1];go_wp2
  go_ret2
  rw[E2.2.2.1,E2.2.2.2.1,E2.2.2.2.2,E2.2.1];exact⟨rfl,HF.v,bG.refl _ _⟩
namespace Fx
structure Fi where
 kind:Nat
 num:Nat
 wr:Bool
 pos:Nat
 refs:Nat
def Fi.no:Fi:=⟨0,0,bA,0,0⟩
def put(T:Nat->Fi)(n:Nat)(x:Fi):Nat->Fi:=λm=>if m=n then x else T m
theorem bM(T:Nat->Fi)(n:Nat)(x:Fi):put T n x n=x:=aJ rfl
theorem bP(T:Nat->Fi)(n:Nat)(x:Fi)(m:Nat)(h:m≠n):put T n x m=T m:=aI h
theorem gM(T:Nat->Fi)(n:Nat)(x y:Fi):put (put T n x) n y=put T n y:=by
 funext m;unfold put;split<;>rfl
def eE(x:Fi):Nat->Value
 |0=>aa az (x.kind:Int)
 |1=>aa az (x.num:Int)
 |2=>ar x.wr
 |3=>aa az (x.pos:Int)
 |_=>aa az (x.refs:Int)
def arr(x:Fi):Array Value:=#[aa az (x.kind:Int),aa az (x.num:Int),ar x.wr,aa az (x.pos:Int),aa az (x.refs:Int)]
def dy(T:Nat->Fi)(z:Int):Int:=if z<0\/23<z then 1 else if(T z.toNat).refs=0 then 2 else 0
theorem kX{T:Nat->Fi}(h:dy T z=0):∃n:Nat,z=n/\n<24/\(T n).refs≠0:=by
 unfold dy at h;by_cases c:z<0\/23<z
 .rw[aJ c]at h;omega
 .rw[aI c]at h;refine⟨z.toNat,bB,bB,λd=>?_⟩;rw[aJ d]at h;omega
def cW(T:Nat->Fi):Nat->Nat
 |0=>0
 |n+1=>cW T n+if(T n).refs=0 then 0 else 1
theorem nW(T:Nat->Fi):∀n,cW T n<=n
 |0=>aL 0
 |n+1=>by
  have:=nW T n;unfold cW;split<;>omega
theorem Dd(T:Nat->Fi):∀n,cW T n<n->∃m,m<n/\(T m).refs=0/\∀k,k<m->(T k).refs≠0
 |0,h=>aZ h (Nat.not_lt_zero _)
 |n+1,h=>by
  by_cases c:cW T n<n
  .obtain⟨m,h1,h2,h3⟩:=Dd T n c;exact⟨m,bB,h2,h3⟩
  .have hl:=nW T n;unfold cW at h;by_cases d:(T n).refs=0
   .refine⟨n,bB,d,λk hk e=>?_⟩;have:∀n,cW T n=n->∀k,k<n->(T k).refs≠0:=by
     intro n
     induction n with
     |zero=>intro _ k hk;omega
     |succ n ih=>
      intro hc k hk e;have hl:=nW T n;unfold cW at hc;by_cases g:(T n).refs=0
      .rw[aJ g]at hc;omega
      .by_cases j:k=n
       .subst j;exact g e
       .exact ih (by rw[aI g]at hc;omega) k bB e
    exact this n bB k hk e
   .rw[aI d]at h;omega
def ue(T:Nat->Fi)(n:Nat):Prop:=n<24/\(T n).refs=0/\∀k,k<n->(T k).refs≠0
theorem DP{T:Nat->Fi}(h:cW T 24<24):∃n,ue T n:=by
 obtain⟨m,h1,h2,h3⟩:=Dd T 24 h;exact⟨m,h1,h2,h3⟩
end Fx
open Fx (Fi)
structure eG (w:bD)(t b p:Nat)(T:Nat->Fi):Prop where
 da:∃C Ty,w.heap[t]? =bj (bh C Ty (0,0))/\C.size=122
 fo:w.cell? ⟨t,0,bu⟩=bj (ai (bj ⟨b,0,bu⟩))
 pi:w.cell? ⟨t,1,bu⟩=bj (ai (bj ⟨p,0,bu⟩))
 cell:∀n,n<24->∀i,i<5->w.cell? ⟨t,2+n*5+i,bu⟩=bj (Fx.eE (T n) i)
section
variable {w w':bD}{t b p:Nat}{T:Nat->Fi}
theorem eG.lt(h:eG w t b p T):t<w.heap.size:=by
 obtain⟨C,Ty,e,_⟩:=h.da;exact(aX.1 e).1
theorem eG.frozen(h:eG w t b p T)(o:Nat):w.frozen? ⟨t,o,bu⟩=bA:=by
 obtain⟨C,Ty,e,_⟩:=h.da;exact cE e o
theorem eG.same(h:eG w t b p T)(e:w'.heap[t]? =w.heap[t]?):eG w' t b p T:=by
 have hc:∀o,w'.cell? ⟨t,o,bu⟩=w.cell? ⟨t,o,bu⟩:=λo=>aV e;exact⟨by rw[e];exact h.da,(hc _).trans h.fo,(hc _).trans h.pi,λn hn i hi=>(hc _).trans (h.cell n hn i hi)⟩
theorem eG.drew(h:eG w t b p T):eG w.drew t b p T:=h.same rfl
theorem eG.below(h:eG w t b p T)(k:Below B w w')(hb:t<B):eG w' t b p T:=h.same (k.block t hb)
theorem eG.mS(h:eG w t b p T)(k:bG c w w')(hb:t≠c):eG w' t b p T:=h.same (k.block t h.lt hb)
theorem eG.kind(h:eG w t b p T)(n:Nat)(hn:n<24):w.cell? ⟨t,2+n*5,bu⟩=bj (aa az ((T n).kind:Int)):=h.cell n hn 0 bB
theorem eG.num(h:eG w t b p T)(n:Nat)(hn:n<24):w.cell? ⟨t,2+n*5+1,bu⟩=bj (aa az ((T n).num:Int)):=h.cell n hn 1 bB
theorem eG.wr(h:eG w t b p T)(n:Nat)(hn:n<24):w.cell? ⟨t,2+n*5+2,bu⟩=bj (ar (T n).wr):=h.cell n hn 2 bB
theorem eG.pos(h:eG w t b p T)(n:Nat)(hn:n<24):w.cell? ⟨t,2+n*5+3,bu⟩=bj (aa az ((T n).pos:Int)):=h.cell n hn 3 bB
theorem eG.refs(h:eG w t b p T)(n:Nat)(hn:n<24):w.cell? ⟨t,2+n*5+4,bu⟩=bj (aa az ((T n).refs:Int)):=h.cell n hn 4 bB
theorem eG.set(h:eG w t b p T)(n:Nat)(hn:n<24)(i:Nat)(hi:i<5)(x:Fi)(hx:∀j,j<5->j≠i->Fx.eE x j=Fx.eE (T n) j):eG (w.setCell ⟨t,2+n*5+i,bu⟩ (Fx.eE x i)) t b p (Fx.put T n x):=by
 obtain⟨C,Ty,h1,h2⟩:=h.da;have ne:∀o,o≠2+n*5+i->(w.setCell ⟨t,2+n*5+i,bu⟩ (Fx.eE x i)).cell? ⟨t,o,bu⟩=w.cell? ⟨t,o,bu⟩:=λo ho=>dm h1 _ _ _ (bQ ho);refine⟨⟨_,Ty,cQ h1 _ _,by simpa using h2⟩,(ne _ bB).trans h.fo,(ne _ bB).trans h.pi,λm hm j hj=>?_⟩;by_cases c:m=n
 .subst c;rw[Fx.bM];by_cases d:j=i
  .subst d;exact dF h1 _ _ bB
  .rw[ne _ bB,hx j hj d];exact h.cell m hm j hj
 .rw[Fx.bP _ _ _ _ c,ne _ bB];exact h.cell m hm j hj
theorem eG.sG(h:eG w t b p T)(n:Nat)(hn:n<24)(k:Nat):eG (w.setCell ⟨t,2+n*5+4,bu⟩ (aa az (k:Int))) t b p (Fx.put T n {T n with refs:=k}):=
 h.set n hn 4 bB {T n with refs:=k} (λj hj d=>by
  match j,hj,d with
  |0,_,_=>rfl
  |1,_,_=>rfl
  |2,_,_=>rfl
  |3,_,_=>rfl
  |4,_,d=>exact aZ rfl d)
theorem eG.setPos(h:eG w t b p T)(n:Nat)(hn:n<24)(k:Nat):eG (w.setCell ⟨t,2+n*5+3,bu⟩ (aa az (k:Int))) t b p (Fx.put T n {T n with pos:=k}):=
 h.set n hn 3 bB {T n with pos:=k} (λj hj d=>by
  match j,hj,d with
  |0,_,_=>rfl
  |1,_,_=>rfl
  |2,_,_=>rfl
  |3,_,d=>exact aZ rfl d
  |4,_,_=>rfl)
theorem eG.Mc(h:eG w t b p T)(n:Nat)(hn:n<24)(x:Fi):eG (w.setCells t (2+n*5) (Fx.arr x).toList) t b p (Fx.put T n x):=by
 obtain⟨C,Ty,h1,h2⟩:=h.da;obtain⟨C',k1,k2⟩:=Pp.jy t (Fx.arr x).toList (2+n*5) w C h1;have out:∀o,o<2+n*5\/2+n*5+5<=o->(w.setCells t (2+n*5) (Fx.arr x).toList).cell? ⟨t,o,bu⟩=w.cell? ⟨t,o,bu⟩:=λo ho=>aA t _ _ w ⟨t,o,bu⟩ (λ_ _=>by show o<_\/_<=o;exact ho);refine⟨⟨C',Ty,k1,bB⟩,(out _ bB).trans h.fo,(out _ bB).trans h.pi,λm hm j hj=>?_⟩;by_cases c:m=n
 .subst c;rw[Fx.bM,aS t (Fx.arr x).toList (2+m*5) w (λi hi=>by have:i<5:=hi;rw[h.cell m hm i this];rfl) j hj]
  match j,hj with
  |0,_=>rfl
  |1,_=>rfl
  |2,_=>rfl
  |3,_=>rfl
  |4,_=>rfl
 .rw[Fx.bP _ _ _ _ c,out _ bB];exact h.cell m hm j hj
end
def lO(t:Nat)(z E:Int):Value:=if E=0 then ai (bj ⟨t,2+z.toNat*5,bu⟩)else ai bu
theorem qh(t n:Nat):lO t (n:Int) 0=ai (bj ⟨t,2+n*5,bu⟩):=by unfold lO;rw[aJ rfl,hZ]
theorem oC(h:E≠0):lO t z E=ai none:=aI h
theorem eO(t b p:Nat)(z:Int)(T:Nat->Fi)(w:bD)(h:eG w t b p T):
  Calls prog 156 #[ai (bj ⟨t,0,bu⟩),aa az z] w λe w'=>e=bf (ao #[lO t z (Fx.dy T z),bN (Fx.dy T z)])/\w'=w:=by
 by_cases c:z<0\/23<z
 .have E:Hid (Fx.dy T z=1):=hJ (aJ c);have E2:Hid (lO t z 1=ai bu):=hJ (oC bE);by_cases c1:z<0
  .clear c h;go_in
   go_wp2
   go_ret2
   rw[E.v,E2.v];exact⟨rfl,rfl⟩
  .have c2:24<=z:=bB
   go_in
   go_wp2
   go_ret2
   rw[E.v,E2.v];exact⟨rfl,rfl⟩
 .obtain⟨n,rfl⟩:∃n:Nat,z=n:=⟨z.toNat,bB⟩;have n24:n<24:=bB
  have n24i:(n:Int)<24:=bB
  have E:Fx.dy T (n:Int)=if(T n).refs=0 then 2 else 0:=by unfold Fx.dy;rw[aI c,hZ]
  have c4:=h.refs n n24;by_cases d:(T n).refs=0
  .have E1:Hid (Fx.dy T (n:Int)=2/\lO t (n:Int) 2=ai bu):=hJ ⟨by rw[E,aJ d],oC bE⟩;rw[d]at c4;have c4':w.cell? ⟨t,2+n*5+4,bu⟩=bj (aa .i64 0):=c4;go_in
   go_wp2
   go_ret2
   rw[E1.1,E1.2];exact⟨rfl,rfl⟩
  .have E1:Hid (Fx.dy T (n:Int)=0/\lO t (n:Int) 0=ai (bj ⟨t,2+n*5,bu⟩)):=hJ ⟨by rw[E,aI d],qh t n⟩;generalize (T n).refs=rr at*;have d1:((rr:Int)==0)=bA:=by simp;omega
   go_in
   go_wp2
   go_ret2
   rw[E1.1,E1.2];exact⟨rfl,rfl⟩
theorem M9(t b p:Nat)(T:Nat->Fi)(w:bD)(h:eG w t b p T):
  Calls prog 81 #[ai (bj ⟨t,0,bu⟩)] w λe w'=>e=bf (aa az (Fx.cW T 24:Int))/\w'=w:=by
 have HF:=hJ h;go_in
 go_wp2_with fail
 go_loopw [3,4,5] (λc x i wr=>∃(n:Nat),i=aa az n/\c=aa az (Fx.cW T n:Int)/\n<=24/\wr=w) (λ_ _ i _=>24-(intOf i).toNat)
 case atStart=>exact⟨0,rfl,rfl,bB,rfl⟩
 case round=>
  obtain⟨n,rfl,rfl,hn,hwr⟩:=hrel;subst wr;by_cases hlt:n<24
  .have hltI:(n:Int)<24:=bB
   have lc:=Fx.nW T n;have LS:Fx.cW T (n+1)=Fx.cW T n+if(T n).refs=0 then 0 else 1:=rfl;have c4:=HF.refs n hlt;generalize Fx.cW T n=cn at*;by_cases d:(T n).refs=0
   .rw[aJ d]at LS;have LL:=hJ LS;have d1:¬(0:Int)<((T n).refs:Int):=bB
    generalize (T n).refs=rr at*;go_wp2
    go_roundw
    case rel=>exact⟨n+1,by go_num,by rw[LL.v];rfl,bB,by first|rfl|trivial⟩
    case measure=>simp[intOf];omega
   .rw[aI d]at LS;have LL:=hJ LS;have d1:(0:Int)<((T n).refs:Int):=bB
    generalize (T n).refs=rr at*;go_wp2
    go_roundw
    case rel=>exact⟨n+1,by go_num,by rw[LL.v];go_num,bB,by first|rfl|trivial⟩
    case measure=>simp[intOf];omega
  .have hltI:¬(n:Int)<24:=bB
   obtain rfl:n=24:=bB
   go_wp2
   go_ret
   exact⟨rfl,rfl⟩
theorem pM(t b p:Nat)(m:Int)(T:Nat->Fi)(w:bD)(h:eG w t b p T):
  Calls prog 197 #[ai (bj ⟨t,0,bu⟩),aa az m] w λe w'=>e=bf (ar (decide (m<=24-(Fx.cW T 24:Int))))/\w'=w:=by
 have HF:=hJ h;have lc:=Fx.nW T 24;have hw:IntKind.i64.wrap (24-(Fx.cW T 24:Int))=24-(Fx.cW T 24:Int):=aN _ ⟨by omega,bB⟩;go_in
 go_wp2_with fail
 refine(M9 t b p T _ HF.v).mono ?_;rintro e w1 ⟨rfl,hw1⟩;subst w1;go_wp2
 go_ret
 exact⟨rfl,rfl⟩
open Tr (Fo Nd)
structure dJ (t b p:Nat)(w w':bD):Prop where
 os:w'.os=w.os
 tape:w'.tape=w.tape
 output:w'.output=w.output
 size:w.heap.size<=w'.heap.size
 block:∀k,k<w.heap.size->k≠t->k≠b->k≠p->w'.heap[k]? =w.heap[k]?
section
variable {t b p:Nat}{u v w:bD}
theorem dJ.refl(t b p:Nat)(w:bD):dJ t b p w w:=⟨rfl,rfl,rfl,aL _,λ_ _ _ _ _=>rfl⟩
theorem dJ.trans(h:dJ t b p u v)(k:dJ t b p v w):dJ t b p u w:=⟨k.os.trans h.os,k.tape.trans h.tape,k.output.trans h.output,aH h.size k.size,λj hj h1 h2 h3=>(k.block j (aD hj h.size) h1 h2 h3).trans (h.block j hj h1 h2 h3)⟩
theorem dJ.tb(h:bG t v w):dJ t b p v w:=⟨h.os,h.tape,h.output,h.size,λj hj h1 _ _=>h.block j hj h1⟩
theorem dJ.fo(h:bG b v w):dJ t b p v w:=⟨h.os,h.tape,h.output,h.size,λj hj _ h2 _=>h.block j hj h2⟩
theorem dJ.pi(h:bG p v w):dJ t b p v w:=⟨h.os,h.tape,h.output,h.size,λj hj _ _ h3=>h.block j hj h3⟩
theorem dJ.below(h:Below v.heap.size v w):dJ t b p v w:=⟨h.os,h.tape,h.output,h.size,λj hj _ _ _=>h.block j hj⟩
end
theorem bG.fresh{bx:Nat}{W:bD}(f:bG t w W)(h:w.heap.size<=bx)(o:Nat)(v:Value):bG t w (W.setCell ⟨bx,o,bu⟩ v):=
 ⟨f.os,f.tape,f.output,by simpa[World.setCell]using f.size,λk hk hn=>(dE _ _ _ _ bB).trans (f.block k hk hn)⟩
def FX(w:bD)(t b p:Nat)(T:Nat->Fi)(F:Fo)(S:Nat->Pi):Prop:=eG w t b p T/\bS w b F/\dW w p S/\t≠b/\t≠p/\b≠p
section
variable {w w':bD}{t b p:Nat}{T T':Nat->Fi}{F F':Fo}{S S':Nat->Pi}
theorem FX.tb(h:FX w t b p T F S)(k:eG w' t b p T')(f:bG t w w'):FX w' t b p T' F S:=⟨k,h.2.1.same (f.block b h.2.1.lt (bQ h.2.2.2.1)),h.2.2.1.mS f (bQ h.2.2.2.2.1),h.2.2.2⟩
theorem FX.fo(h:FX w t b p T F S)(k:bS w' b F')(f:bG b w w'):FX w' t b p T F' S:=⟨h.1.mS f h.2.2.2.1,k,h.2.2.1.mS f (bQ h.2.2.2.2.2),h.2.2.2⟩
theorem FX.pi(h:FX w t b p T F S)(k:dW w' p S')(f:bG p w w'):FX w' t b p T F S':=⟨h.1.mS f h.2.2.2.2.1,h.2.1.same (f.block b h.2.1.lt h.2.2.2.2.2),k,h.2.2.2⟩
theorem FX.below(h:FX w t b p T F S)(f:Below w.heap.size w w'):FX w' t b p T F S:=⟨h.1.below f h.1.lt,h.2.1.below f,h.2.2.1.below f h.2.2.1.lt,h.2.2.2⟩
end
def Fx.gB:Nat->Fi:=λ_=>Fi.no
def Fx.zT:Array Value:=((List.range 122).map λo=>if o<2 then ai bu else if o%5=4 then ar bA else aa .i64 0).toArray
theorem Fx.Vk(o:Nat)(h:o<122):Fx.zT[o]? =bj (if o<2 then ai bu else if o%5=4 then ar bA else aa .i64 0):=by simp[Fx.zT,h]
theorem Fx.zeroV(w:bD):(zeroValue 212).run prog w= .ok (au Fx.zT) w:=by kernel_rfl
def Fx.mV(P0 P1:Value):Array Value:=(Fx.zT.setIfInBounds 0 P0).setIfInBounds 1 P1
theorem eG.new{p:Nat}{Ty:TypeId}(h:w.heap[t]? =bj (bh (Fx.mV (ai (bj ⟨b,0,bu⟩)) (ai (bj ⟨p,0,bu⟩))) Ty (0,0))):eG w t b p Fx.gB:=by
 have sz:Fx.zT.size=122:=by simp[Fx.zT]
 refine⟨⟨_,Ty,h,by simp[Fx.mV,sz]⟩,?_,?_,λn hn i hi=>?_⟩
 .rw[bR h];unfold Fx.mV;rw[aU bB,aE bB]
 .rw[bR h];unfold Fx.mV;rw[aE (by simp[sz])]
 .rw[bR h];unfold Fx.mV;rw[aU bB,aU bB,Fx.Vk _ bB,nJ]
  match i,hi with
  |0,_=>rw[nJ];rfl
  |1,_=>rw[nJ];rfl
  |2,_=>rw[nK];rfl
  |3,_=>rw[nJ];rfl
  |4,_=>rw[nJ];rfl
section
variable {ops:Array Oper}{rest:List Oper}{x:Oper}{a:Act}{w:bD}{Q:Exit->Act->bD->Prop}
theorem Fx.M6(hgd:x.guard=bu)(y0 y1:Operand)(P0 P1:Option Addr)(ho:x.op= .build 212 #[(0,y0),(1,y1)])(h0:a.eval y0=ai P0)(h1:a.eval y1=ai P1)(h:wpList prog ops Q rest (a.put x.dst (au (Fx.mV (ai P0) (ai P1)))) w):wpList prog ops Q (x::rest) a w:=
 wpList_plain hgd λ_ hK=>by
  unfold Oper.wp execOp;have hz:=Fx.zeroV w;simp only[ho,List.map_toArray,List.map_cons,List.map_nil,h0,h1];simp[go_sem,hz];exact hK _ _ h
end
theorem PN(b p:Nat)(w:bD):Calls prog 88 #[ai (bj ⟨b,0,bu⟩),ai (bj ⟨p,0,bu⟩)] w λe w'=>e=bf (ai (bj ⟨w.heap.size,0,bu⟩))/\eG w' w.heap.size b p Fx.gB/\Below w.heap.size w w':=by
 have FIN:Hid (eG (w.alloc (bh (Fx.mV (ai (bj ⟨b,0,bu⟩)) (ai (bj ⟨p,0,bu⟩))) 212)) w.heap.size b p Fx.gB/\Below w.heap.size w (w.alloc (bh (Fx.mV (ai (bj ⟨b,0,bu⟩)) (ai (bj ⟨p,0,bu⟩))) 212))):=hJ ⟨eG.new (heap_alloc_new w _),(aQ _ _).alloc (aL _) _⟩;obtain⟨A,hA⟩:=hU (Fx.mV (ai (bj ⟨b,0,bu⟩)) (ai (bj ⟨p,0,bu⟩)));rw[hA]at FIN;go_in
 go_wp2_with (refine Fx.M6 rfl _ _ _ _ rfl rfl rfl ?_;rw[hA])
 go_ret
 exact⟨rfl,FIN.v⟩
theorem yk(t b p:Nat)(x:Fi)(n:Nat)(T:Nat->Fi)(w:bD)(h:eG w t b p T)(hl:Fx.ue T n):
  Calls prog 243 #[ai (bj ⟨t,0,bu⟩),au #[aa az (x.kind:Int),aa az (x.num:Int),ar x.wr,aa az (x.pos:Int),aa az (x.refs:Int)]] w λe w'=>e=bf (aa az (n:Int))/\eG w' t b p (Fx.put T n {x with refs:=1})/\bG t w w':=by
 have HF:=hJ h;have HL:=hJ hl;have hlt:=h.lt;have NE:Hid (w.heap.size≠t):=hJ bB;obtain⟨kd,nm,wb,ps,rf⟩:=x;go_in
 go_upto_region 1 with fail
 refine cJ (λW'=>eG W' t b p T/\bG t w W'/\W'.heap[w.heap.size]? =bj (bh #[aa az (kd:Int),aa az (nm:Int),ar wb,aa az (ps:Int),aa az (rf:Int)] 197 (0,0))) (by
  have bb:=(aQ w.heap.size w).alloc (aL _) (bh #[aa az (kd:Int),aa az (nm:Int),ar wb,aa az (ps:Int),aa az (rf:Int)] 197);exact⟨HF.below bb HF.lt,bG.cL bb,heap_alloc_new w _⟩) ?_
 rintro W1 ⟨h1,f1,x1⟩;have H1:=hJ h1;have F1:=hJ f1;have X1:=hJ x1;obtain⟨bx,hbx⟩:=hU (w.heap.size);have HB:=hJ hbx;rw[hbx]at X1 NE|-;go_wp2_with fail
 go_loopw [5] (λi wr=>∃(k:Nat),i=aa az k/\k<=n/\wr=W1) (λi _=>n-(intOf i).toNat)
 case atStart=>exact⟨0,rfl,bB,rfl⟩
 case round=>
  obtain⟨k,rfl,hk,hwr⟩:=hrel;subst wr;have n24:n<24:=HL.1;have k24i:(k:Int)<24:=bB
  have c4:=H1.refs k bB;by_cases e:k=n
  .subst e;rw[HL.2.1]at c4;have c4':W1.cell? ⟨t,2+k*5+4,bu⟩=bj (aa .i64 0):=c4;have cx:=cR X1.v 4 (aa az (rf:Int)) rfl;have fx:=cE X1.v;have HS:eG (W1.setCell ⟨bx,4,bu⟩ (aa .i64 1)) t b p T/\bG t w (W1.setCell ⟨bx,4,bu⟩ (aa .i64 1))/\(W1.setCell ⟨bx,4,bu⟩ (aa .i64 1)).heap[bx]? =bj (bh #[aa az (kd:Int),aa az (nm:Int),ar wb,aa az (ps:Int),aa az 1] 197 (0,0)):=⟨H1.same (dE _ _ _ _ (bQ NE.v)),F1.fresh (Nat.le_of_eq HB.v) _ _,by rw[cQ X1.v];rfl⟩;go_upto_region 5 with fail
   generalize W1.setCell ⟨bx,4,bu⟩ (aa .i64 1)=W2 at HS|-;obtain⟨s1,s2,s3⟩:=HS;have x0:=cR s3 0 (aa az (kd:Int)) rfl;have x1:=cR s3 1 (aa az (nm:Int)) rfl;have x2:=cR s3 2 (ar wb) rfl;have x3:=cR s3 3 (aa az (ps:Int)) rfl;have x4:=cR s3 4 (aa .i64 1) rfl;have y0:=s1.kind k n24;have y1:=s1.num k n24;have y2:=s1.wr k n24;have y3:=s1.pos k n24;have y4:=s1.refs k n24;have yf:=s1.frozen;have FIN:Hid (eG (W2.setCells t (2+k*5) (Fx.arr ⟨kd,nm,wb,ps,1⟩).toList).drew t b p (Fx.put T k ⟨kd,nm,wb,ps,1⟩)/\bG t w (W2.setCells t (2+k*5) (Fx.arr ⟨kd,nm,wb,ps,1⟩).toList).drew):=hJ ⟨(s1.Mc k n24 _).drew,(Pp.jA _ _ s2).drew⟩;go_region
   go_wp2
   go_ret
   exact⟨rfl,FIN.v⟩
  .have d:=HL.2.2 k bB;generalize (T k).refs=rr at*;have d1:(0:Int)<(rr:Int):=bB
   go_wp2
   go_roundw
   case rel=>exact⟨k+1,by go_num,bB,by first|rfl|trivial⟩
   case measure=>simp[intOf];omega
def Fx.Sm(F:Fo)(S:Nat->Pi):Prop:=(∀n,n<40->(F.nd n).held<2^60)/\∀wr,∀n,n<8->Pp.kT (S n) wr<2^60
def Fx.uL(F:Fo)(x:Fi):Fo:=if x.kind=1 then Tr.dD F (x.num:Int)else F
def Fx.wU(S:Nat->Pi)(x:Fi):Nat->Pi:=if x.kind=1 then S else Pp.qz S (x.num:Int) (decide (x.kind=3))
theorem PM(t b p:Nat)(x:Fi)(T:Nat->Fi)(F:Fo)(S:Nat->Pi)(w:bD)(h:FX w t b p T F S)(hs:Fx.Sm F S):
  Calls prog 157 #[ai (bj ⟨t,0,bu⟩),au #[aa az (x.kind:Int),aa az (x.num:Int),ar x.wr,aa az (x.pos:Int),aa az (x.refs:Int)]] w λe w'=>e=bf (ao #[])/\FX w' t b p T (Fx.uL F x) (Fx.wU S x)/\dJ t b p w w':=by
 have HF:=hJ h;have HS:=hJ hs;have NE:Hid (w.heap.size≠t/\w.heap.size≠b/\w.heap.size≠p):=hJ ⟨Nat.ne_of_gt h.1.lt,Nat.ne_of_gt h.2.1.lt,Nat.ne_of_gt h.2.2.1.lt⟩;obtain⟨kd,nm,wb,ps,rf⟩:=x;have B0:Hid (FX (w.alloc (bh #[aa az (kd:Int),aa az (nm:Int),ar wb,aa az (ps:Int),aa az (rf:Int)] 197)) t b p T F S/\dJ t b p w (w.alloc (bh #[aa az (kd:Int),aa az (nm:Int),ar wb,aa az (ps:Int),aa az (rf:Int)] 197))/\(w.alloc (bh #[aa az (kd:Int),aa az (nm:Int),ar wb,aa az (ps:Int),aa az (rf:Int)] 197)).heap[w.heap.size]? =bj (bh #[aa az (kd:Int),aa az (nm:Int),ar wb,aa az (ps:Int),aa az (rf:Int)] 197 (0,0))):=hJ (by
  have bb:=(aQ w.heap.size w).alloc (aL _) (bh #[aa az (kd:Int),aa az (nm:Int),ar wb,aa az (ps:Int),aa az (rf:Int)] 197);exact⟨HF.below bb,dJ.below bb,heap_alloc_new w _⟩)
 by_cases k1:kd=1
 .subst k1;have EL:Hid (Fx.uL F ⟨1,nm,wb,ps,rf⟩=Tr.dD F (nm:Int)/\Fx.wU S ⟨1,nm,wb,ps,rf⟩=S):=hJ ⟨aJ rfl,aJ rfl⟩;go_in
  go_upto_region 1 with fail
  refine cJ (λW'=>FX W' t b p T F S/\dJ t b p w W'/\W'.heap[w.heap.size]? =bj (bh #[aa az ((1:Nat):Int),aa az (nm:Int),ar wb,aa az (ps:Int),aa az (rf:Int)] 197 (0,0))) B0.v ?_;rintro W1 ⟨h1,f1,x1⟩;have H1:=hJ h1;have F1:=hJ f1;have y0:=cR x1 0 (aa .i64 1) rfl;have y1:=cR x1 1 (aa az (nm:Int)) rfl;have y2:=h1.1.fo;have K0:=hJ (aK y2 y1);have X1:=hJ x1;generalize w.heap.size=bx at*;go_wp2
  go_region_held3 (λw'=>w'.cell? ⟨t,0,bu⟩=bj (ai (bj ⟨b,0,bu⟩))/\w'.cell? ⟨bx,1,bu⟩=bj (aa az (nm:Int))) (first|exact K0.v|exact K4.v) ((first|(go_at_call 226;refine sC (tL b nm F _ H1.2.1.drew HS.1) ?_;rintro w4 ⟨u4,f4⟩;have f4':bG b W1 w4:=⟨f4.os,f4.tape,f4.output,f4.size,f4.block⟩;have C4:=hJ (aK (H1.fo u4 f4') (F1.trans (dJ.fo f4')));have K4:=hJ (aK C4.1.1.fo (cR ((f4'.block bx (aX.1 X1.v).1 NE.2.1).trans X1.v) 1 (aa az (nm:Int)) rfl)))))
  go_wp2
  (try simp only[Exit.inBlock,Exit.then])
  refine bodyPost_ret (results_none rfl _ _ _) rfl ?_;rw[EL.1,EL.2];exact⟨rfl,C4.v⟩
 .have EL:Hid (Fx.uL F ⟨kd,nm,wb,ps,rf⟩=F/\Fx.wU S ⟨kd,nm,wb,ps,rf⟩=Pp.qz S (nm:Int) (decide (kd=3))):=hJ ⟨aI k1,aI k1⟩;have k1':((kd:Int)==1)=bA:=by simp;omega
  have k3:((kd:Int)==3)=decide (kd=3):=by
   by_cases d:kd=3
   .subst d;rfl
   .rw[aT d];simp;omega
  go_in
  go_upto_region 1 with fail
  refine cJ (λW'=>FX W' t b p T F S/\dJ t b p w W'/\W'.heap[w.heap.size]? =bj (bh #[aa az (kd:Int),aa az (nm:Int),ar wb,aa az (ps:Int),aa az (rf:Int)] 197 (0,0))) B0.v ?_;rintro W1 ⟨h1,f1,x1⟩;have H1:=hJ h1;have F1:=hJ f1;have y0:=cR x1 0 (aa az (kd:Int)) rfl;have y1:=cR x1 1 (aa az (nm:Int)) rfl;have y2:=h1.1.pi;have K0:=hJ (aK y2 (aK y1 y0));have X1:=hJ x1;generalize w.heap.size=bx at*;go_wp2
  go_region_held3 (λw'=>w'.cell? ⟨t,1,bu⟩=bj (ai (bj ⟨p,0,bu⟩))/\w'.cell? ⟨bx,1,bu⟩=bj (aa az (nm:Int))/\w'.cell? ⟨bx,0,bu⟩=bj (aa az (kd:Int))) (first|exact K0.v|exact K4.v) ((first|(go_at_call 227;refine sC (LJ p nm _ S _ H1.2.2.1.drew (HS.2 _)) ?_;rintro w4 ⟨u4,f4⟩;have f4':bG p W1 w4:=⟨f4.os,f4.tape,f4.output,f4.size,f4.block⟩;have C4:=hJ (aK (H1.pi u4 f4') (F1.trans (dJ.pi f4')));have K4:=hJ (aK C4.1.1.pi (aK (cR ((f4'.block bx (aX.1 X1.v).1 NE.2.2).trans X1.v) 1 (aa az (nm:Int)) rfl) (cR ((f4'.block bx (aX.1 X1.v).1 NE.2.2).trans X1.v) 0 (aa az (kd:Int)) rfl))))))
  go_wp2
  go_end0
  rw[EL.1,EL.2];exact⟨rfl,C4.v⟩
def Fx.j7(T:Nat->Fi)(z:Int):Nat->Fi:=if Fx.dy T z=0 then Fx.put T z.toNat {T z.toNat with refs:=(T z.toNat).refs+1}else T
theorem zO(t b p:Nat)(z:Int)(T:Nat->Fi)(w:bD)(h:eG w t b p T)(hr:∀n,n<24->(T n).refs<2^60):
  Calls prog 146 #[ai (bj ⟨t,0,bu⟩),aa az z] w λe w'=>e=bf (bN (Fx.dy T z))/\eG w' t b p (Fx.j7 T z)/\bG t w w':=by
 have HF:=hJ h;by_cases c:Fx.dy T z=0
 .obtain⟨n,rfl,n24,_⟩:=Fx.kX c;have EP:Hid (Fx.dy T (n:Int)=0/\lO t (n:Int) 0=ai (bj ⟨t,2+n*5,bu⟩)):=hJ ⟨c,qh t n⟩;have c0:=h.refs n n24;have hl:=hr n n24;have FIN:Hid (eG (w.setCell ⟨t,2+n*5+4,bu⟩ (aa az (((T n).refs+1:Nat):Int))) t b p (Fx.j7 T (n:Int))):=hJ (by
   unfold Fx.j7;rw[aJ c,hZ];exact h.sG n n24 _)
  have cf:=h.frozen;generalize (T n).refs=k at*;have hw:IntKind.i64.wrap ((k:Int)+1)=(k:Int)+1:=aN _ ⟨by omega,bB⟩;go_in
  go_wp2_with fail
  refine sC (eO t b p n T _ HF.v) ?_;rintro w1 hw1;subst w1;rw[EP.1,EP.2,bF];go_wp2
  go_ret
  rw[EP.1];exact⟨rfl,FIN.v,(bG.refl t w).setCell _ _⟩
 .have E2:Hid (lO t z (Fx.dy T z)=ai bu/\bN (Fx.dy T z)=aq 100 (aa az (Fx.dy T z))/\Fx.j7 T z=T):=hJ ⟨oC c,bH c,aI c⟩;go_in
  go_wp2_with fail
  refine sC (eO t b p z T _ HF.v) ?_;rintro w1 hw1;subst w1;rw[E2.1,E2.2.1];go_wp2
  go_ret
  rw[E2.2.2,E2.2.1];exact⟨rfl,HF.v,bG.refl _ _⟩
def Fx.te(T:Nat->Fi)(z:Int):Nat->Fi:=if Fx.dy T z=0 then Fx.put T z.toNat (if(T z.toNat).refs=1 then Fi.no else{T z.toNat with refs:=(T z.toNat).refs-1})else T
def Fx.td(T:Nat->Fi)(F:Fo)(z:Int):Fo:=if Fx.dy T z=0/\(T z.toNat).refs=1 then Fx.uL F (T z.toNat)else F
def Fx.uC(T:Nat->Fi)(S:Nat->Pi)(z:Int):Nat->Pi:=if Fx.dy T z=0/\(T z.toNat).refs=1 then Fx.wU S (T z.toNat)else S
theorem zN(t b p:Nat)(z:Int)(T:Nat->Fi)(F:Fo)(S:Nat->Pi)(w:bD)(h:FX w t b p T F S)(hs:Fx.Sm F S)(hr:∀n,n<24->(T n).refs<2^60):
  Calls prog 77 #[ai (bj ⟨t,0,bu⟩),aa az z] w λe w'=>e=bf (bN (Fx.dy T z))/\FX w' t b p (Fx.te T z) (Fx.td T F z) (Fx.uC T S z)/\dJ t b p w w':=by
 have HF:=hJ h;have HS:=hJ hs;by_cases c:Fx.dy T z=0
 .obtain⟨n,rfl,n24,r0⟩:=Fx.kX c;have EP:Hid (Fx.dy T (n:Int)=0/\lO t (n:Int) 0=ai (bj ⟨t,2+n*5,bu⟩)):=hJ ⟨c,qh t n⟩;have c0:=h.1.refs n n24;have hl:=hr n n24;have S1:Hid (FX (w.setCell ⟨t,2+n*5+4,bu⟩ (aa az (((T n).refs-1:Nat):Int))) t b p (Fx.put T n {T n with refs:=(T n).refs-1}) F S/\bG t w (w.setCell ⟨t,2+n*5+4,bu⟩ (aa az (((T n).refs-1:Nat):Int)))):=hJ ⟨h.tb (h.1.sG n n24 _) ((bG.refl t w).setCell _ _),(bG.refl t w).setCell _ _⟩;have cf:=h.1.frozen;have ET:Hid (Fx.te T (n:Int)=Fx.put T n (if(T n).refs=1 then Fi.no else{T n with refs:=(T n).refs-1})/\Fx.td T F (n:Int)=(if(T n).refs=1 then Fx.uL F (T n)else F)/\Fx.uC T S (n:Int)=(if(T n).refs=1 then Fx.wU S (T n)else S)):=hJ (by
   unfold Fx.te Fx.td Fx.uC;rw[hZ,aJ c];refine⟨rfl,?_,?_⟩
   .by_cases d:(T n).refs=1
    .rw[aJ ⟨c,d⟩,aJ d]
    .rw[aI (λe=>d e.2),aI d]
   .by_cases d:(T n).refs=1
    .rw[aJ ⟨c,d⟩,aJ d]
    .rw[aI (λe=>d e.2),aI d])
  by_cases r1:(T n).refs=1
  .rw[r1]at c0 S1;have c0':w.cell? ⟨t,2+n*5+4,bu⟩=bj (aa .i64 1):=c0;have S1':Hid (FX (w.setCell ⟨t,2+n*5+4,bu⟩ (aa .i64 0)) t b p (Fx.put T n {T n with refs:=0}) F S/\bG t w (w.setCell ⟨t,2+n*5+4,bu⟩ (aa .i64 0))):=S1;rw[aJ r1,aJ r1,aJ r1]at ET;go_in
   go_wp2_with fail
   refine sC (eO t b p n T _ HF.1) ?_;rintro w1 hw1;subst w1;rw[EP.1,EP.2,bF];have z0:=S1'.1.1.kind n n24;have z1:=S1'.1.1.num n n24;have z2:=S1'.1.1.wr n n24;have z3:=S1'.1.1.pos n n24;have z4:=S1'.1.1.refs n n24;rw[Fx.bM]at z0 z1 z2 z3 z4;have XL:Hid (Fx.uL F (T n)=Fx.uL F {T n with refs:=0}/\Fx.wU S (T n)=Fx.wU S {T n with refs:=0}):=hJ ⟨rfl,rfl⟩;obtain⟨x,hx⟩:=hU (({T n with refs:=0}:Fi));rw[hx]at z0 z1 z2 z3 z4 S1' XL;have hx4:x.refs=0:=by rw[<-hx]
   obtain⟨kd,nm,wb,ps,rf⟩:=x;obtain rfl:rf=0:=hx4;have z0':(w.setCell ⟨t,2+n*5+4,bu⟩ (aa .i64 0)).cell? ⟨t,2+n*5,bu⟩=bj (aa az (kd:Int)):=z0;have z1':(w.setCell ⟨t,2+n*5+4,bu⟩ (aa .i64 0)).cell? ⟨t,2+n*5+1,bu⟩=bj (aa az (nm:Int)):=z1;have z2':(w.setCell ⟨t,2+n*5+4,bu⟩ (aa .i64 0)).cell? ⟨t,2+n*5+2,bu⟩=bj (ar wb):=z2;have z3':(w.setCell ⟨t,2+n*5+4,bu⟩ (aa .i64 0)).cell? ⟨t,2+n*5+3,bu⟩=bj (aa az (ps:Int)):=z3;have z4':(w.setCell ⟨t,2+n*5+4,bu⟩ (aa .i64 0)).cell? ⟨t,2+n*5+4,bu⟩=bj (aa .i64 0):=z4;go_upto_region 5 with fail
   generalize w.setCell ⟨t,2+n*5+4,bu⟩ (aa .i64 0)=W1 at*;go_wp2_with fail
   refine sC (PM t b p ⟨kd,nm,wb,ps,0⟩ _ F S _ S1'.1 HS.v) ?_;rintro W2 ⟨h2,f2⟩;have H2:=hJ h2;have F2:=hJ ((dJ.tb S1'.2).trans f2);have FIN:Hid (FX (W2.setCells t (2+n*5) (Fx.arr Fi.no).toList) t b p (Fx.te T (n:Int)) (Fx.td T F (n:Int)) (Fx.uC T S (n:Int))/\dJ t b p w (W2.setCells t (2+n*5) (Fx.arr Fi.no).toList)):=hJ (by
    have q:=h2.1.Mc n n24 Fi.no;rw[Fx.gM]at q;rw[ET.1,ET.2.1,ET.2.2,XL.1,XL.2];have fr:=Pp.jA (Fx.arr Fi.no).toList (2+n*5) (bG.refl t W2);exact⟨h2.tb q fr,F2.trans (dJ.tb fr)⟩)
   have y0:=h2.1.kind n n24;have y1:=h2.1.num n n24;have y2:=h2.1.wr n n24;have y3:=h2.1.pos n n24;have y4:=h2.1.refs n n24;have yf:=h2.1.frozen;rw[Fx.bM]at y0 y1 y2 y3 y4;go_wp2
   go_ret
   rw[EP.1];exact⟨rfl,FIN.v⟩
  .rw[aI r1,aI r1,aI r1]at ET;generalize (T n).refs=k at*;obtain⟨q,rfl⟩:∃q,k=q+1:=⟨k-1,bB⟩;have q0:((q:Int)==0)=bA:=by simp;omega
   rw[aP]at S1 ET;have hw:IntKind.i64.wrap (((q+1:Nat):Int)-1)=(q:Int):=(aN _ ⟨by omega,bB⟩).trans bB;obtain⟨k1,hk1⟩:=hU (((q+1:Nat):Int));rw[hk1]at c0 hw;go_in
   go_wp2_with fail
   refine sC (eO t b p n T _ HF.1) ?_;rintro w1 hw1;subst w1;rw[EP.1,EP.2,bF];go_wp2
   go_ret
   rw[EP.1,ET.1,ET.2.1,ET.2.2];exact⟨rfl,S1.1,dJ.tb S1.2⟩
 .have E2:Hid (lO t z (Fx.dy T z)=ai bu/\bN (Fx.dy T z)=aq 100 (aa az (Fx.dy T z))/\Fx.te T z=T/\Fx.td T F z=F/\Fx.uC T S z=S):=hJ ⟨oC c,bH c,aI c,aI (λe=>c e.1),aI (λe=>c e.1)⟩;go_in
  go_wp2_with fail
  refine sC (eO t b p z T _ HF.1) ?_;rintro w1 hw1;subst w1;rw[E2.1,E2.2.1];go_wp2
  go_ret
  rw[E2.2.2.1,E2.2.2.2.1,E2.2.2.2.2,E2.2.1];exact⟨rfl,HF.v,dJ.refl _ _ _ _⟩
def Fx.vP(T:Nat->Fi)(F:Fo)(z:Int)(wr:Bool)(K:Nat)(E:Int)(T':Nat->Fi)(F':Fo):Prop:=
 (Tr.cN F z 1≠0/\K=0/\E=Tr.cN F z 1/\T'=T/\F'=F)
 \/(Tr.cN F z 1=0/\Fx.cW T 24=24/\K=0/\E=4/\T'=T/\F'=F)
 \/(Tr.cN F z 1=0/\Fx.cW T 24<24/\Fx.ue T K/\E=0/\T'=Fx.put T K ⟨1,z.toNat,wr,0,1⟩/\F'=Tr.dP F z)
theorem Cb(t b p:Nat)(z:Int)(wr:Bool)(T:Nat->Fi)(F:Fo)(S:Nat->Pi)(w:bD)(h:FX w t b p T F S)(hs:Fx.Sm F S):
  Calls prog 200 #[ai (bj ⟨t,0,bu⟩),aa az z,ar wr] w λe w'=>∃(K:Nat) (E:Int) (T':Nat->Fi) (F':Fo),e=bf (ao #[aa az (K:Int),bN E])/\Fx.vP T F z wr K E T' F'/\FX w' t b p T' F' S/\dJ t b p w w':=by
 have HF:=hJ h;have HS:=hJ hs;have y0:=h.1.fo;by_cases c:Tr.cH F z=0
 .obtain⟨n,rfl,n40,_⟩:=Tr.gZ c;have EP:Hid (Tr.cH F (n:Int)=0/\tW F (n:Int)=#[aa az ((F.nd n).kind:Int),aa az ((F.nd n).cV:Int),aa az ((F.nd n).held:Int),aa az ((F.nd n).size:Int)]):=hJ ⟨c,by unfold tW;rw[aJ c,hZ]⟩;have EI:Tr.cN F (n:Int) 1=if(F.nd n).kind=1 then 0 else 11:=by unfold Tr.cN;rw[aI (λd=>d c),hZ]
  by_cases k1:(F.nd n).kind=1
  .have e0:Tr.cN F (n:Int) 1=0:=by rw[EI,aJ k1]
   have lc:=Fx.nW T 24;rw[k1]at EP;have EP':Hid (Tr.cH F (n:Int)=0/\tW F (n:Int)=#[aa az 1,aa az ((F.nd n).cV:Int),aa az ((F.nd n).held:Int),aa az ((F.nd n).size:Int)]):=EP;generalize (F.nd n).cV=q1 at EP';generalize (F.nd n).held=q2 at EP';generalize (F.nd n).size=q3 at EP';by_cases r1:Fx.cW T 24=24
   .have rd:decide ((1:Int)<=24-(Fx.cW T 24:Int))=bA:=by simp;omega
    have FIN:Hid (Fx.vP T F (n:Int) wr 0 4 T F):=hJ (.inr (.inl ⟨e0,r1,rfl,rfl,rfl,rfl⟩));go_in
    go_wp2_with fail
    refine sC (qk b n F _ HF.2.1) ?_;rintro W1 b1;rw[EP'.1,EP'.2,bF];have H1:=hJ (HF.below b1);have F1:Hid (dJ t b p w W1):=hJ (dJ.below b1);go_upto_region 2 with fail
    refine cJ (λW'=>FX W' t b p T F S/\dJ t b p w W'/\W'.cell? ⟨W1.heap.size,0,bu⟩=bj (aa .i64 1)) (by
     have bb:=(aQ W1.heap.size W1).alloc (aL _) (bh #[aa az 1,aa az (q1:Int),aa az (q2:Int),aa az (q3:Int)] 156);exact⟨H1.below bb,F1.trans (dJ.below bb),cR (heap_alloc_new W1 _) 0 _ rfl⟩) ?_
    rintro W2 ⟨h2,f2,z0⟩;have H2:=hJ h2;have F2:=hJ f2;generalize W1.heap.size=bx at*;go_wp2_with fail
    refine sC (pM t b p 1 T _ H2.1) ?_;rintro W3 hW3;subst W3;rw[rd];go_wp2
    go_ret2
    exact⟨0,4,T,F,rfl,FIN.v,H2.v,F2.v⟩
   .have rd:decide ((1:Int)<=24-(Fx.cW T 24:Int))=bw:=by simp;omega
    obtain⟨K,hK⟩:=Fx.DP (T:=T) bB;have HK:=hJ hK;have FIN:Hid (Fx.vP T F (n:Int) wr K 0 (Fx.put T K ⟨1,n,wr,0,1⟩) (Tr.dP F (n:Int))):=hJ (.inr (.inr ⟨e0,bB,hK,rfl,by rw[hZ],rfl⟩));go_in
    go_wp2_with fail
    refine sC (qk b n F _ HF.2.1) ?_;rintro W1 b1;rw[EP'.1,EP'.2,bF];have H1:=hJ (HF.below b1);have F1:Hid (dJ t b p w W1):=hJ (dJ.below b1);go_upto_region 2 with fail
    refine cJ (λW'=>FX W' t b p T F S/\dJ t b p w W'/\W'.cell? ⟨W1.heap.size,0,bu⟩=bj (aa .i64 1)) (by
     have bb:=(aQ W1.heap.size W1).alloc (aL _) (bh #[aa az 1,aa az (q1:Int),aa az (q2:Int),aa az (q3:Int)] 156);exact⟨H1.below bb,F1.trans (dJ.below bb),cR (heap_alloc_new W1 _) 0 _ rfl⟩) ?_
    rintro W2 ⟨h2,f2,z0⟩;have H2:=hJ h2;have F2:=hJ f2;have y0:=h2.1.fo;generalize W1.heap.size=bx at*;go_wp2_with fail
    refine sC (pM t b p 1 T _ H2.1) ?_;rintro W3 hW3;subst W3;rw[rd];go_wp2_with fail
    refine sC (rH b n F _ H2.2.1 HS.1) ?_;rintro W3 ⟨h3,f3⟩;have H3:=hJ (H2.fo h3 f3);have F3:=hJ (F2.trans (dJ.fo f3));go_wp2_with fail
    refine sC (yk t b p ⟨1,n,wr,0,0⟩ K T _ H3.1 HK.v) ?_;rintro W4 ⟨h4,f4⟩;have H4:=hJ (H3.tb h4 f4);have F4:=hJ (F3.trans (dJ.tb f4));go_wp2
    go_ret2
    exact⟨K,0,_,_,rfl,FIN.v,H4.v,F4.v⟩
  .have e0:Tr.cN F (n:Int) 1=11:=by rw[EI,aI k1]
   have FIN:Hid (Fx.vP T F (n:Int) wr 0 11 T F):=hJ (.inl ⟨by rw[e0];decide,rfl,e0.symm,rfl,rfl⟩);have k1':(((F.nd n).kind:Int) !=1)=bw:=by simp;omega
   have k1'':(((F.nd n).kind:Int)==1)=bA:=by simp;omega
   generalize (F.nd n).kind=kk at*;generalize (F.nd n).cV=q1 at EP;generalize (F.nd n).held=q2 at EP;generalize (F.nd n).size=q3 at EP;go_in
   go_wp2_with fail
   refine sC (qk b n F _ HF.2.1) ?_;rintro W1 b1;rw[EP.1,EP.2,bF];have H1:=hJ (HF.below b1);have F1:Hid (dJ t b p w W1):=hJ (dJ.below b1);go_upto_region 2 with fail
   refine cJ (λW'=>FX W' t b p T F S/\dJ t b p w W'/\W'.cell? ⟨W1.heap.size,0,bu⟩=bj (aa az (kk:Int))) (by
    have bb:=(aQ W1.heap.size W1).alloc (aL _) (bh #[aa az (kk:Int),aa az (q1:Int),aa az (q2:Int),aa az (q3:Int)] 156);exact⟨H1.below bb,F1.trans (dJ.below bb),cR (heap_alloc_new W1 _) 0 _ rfl⟩) ?_
   rintro W2 ⟨h2,f2,z0⟩;have H2:=hJ h2;have F2:=hJ f2;generalize W1.heap.size=bx at*;go_wp2
   go_ret2
   exact⟨0,11,T,F,rfl,FIN.v,H2.v,F2.v⟩
 .have E2:Hid (bN (Tr.cH F z)=aq 100 (aa az (Tr.cH F z))/\tW F z=#[aa az 0,aa az 0,aa az 0,aa az 0]):=hJ ⟨bH c,aI c⟩;have FIN:Hid (Fx.vP T F z wr 0 (Tr.cH F z) T F):=hJ (by
   have e:Tr.cN F z 1=Tr.cH F z:=aJ c;exact .inl ⟨by rw[e];exact c,rfl,e.symm,rfl,rfl⟩)
  go_in
  go_wp2_with fail
  refine sC (qk b z F _ HF.2.1) ?_;rintro W1 b1;rw[E2.1,E2.2];have H1:=hJ (HF.below b1);have F1:Hid (dJ t b p w W1):=hJ (dJ.below b1);go_upto_region 2 with fail
  refine cJ (λW'=>FX W' t b p T F S/\dJ t b p w W') (by
   have bb:=(aQ W1.heap.size W1).alloc (aL _) (bh #[aa az 0,aa az 0,aa az 0,aa az 0] 156);exact⟨H1.below bb,F1.trans (dJ.below bb)⟩) ?_
  rintro W2 ⟨h2,f2⟩;have H2:=hJ h2;have F2:=hJ f2;go_wp2
  go_ret2
  exact⟨0,Tr.cH F z,T,F,by rw[E2.1];rfl,FIN.v,H2.v,F2.v⟩
def Fx.eN(T:Nat->Fi)(F:Fo)(S:Nat->Pi)(z m:Int):Int:=
 if Fx.dy T z≠0 then Fx.dy T z else if(T z.toNat).kind=3 then 8 else if(T z.toNat).kind=2 then Pp.eN S ((T z.toNat).num:Int) m else Tr.eN F ((T z.toNat).num:Int) ((T z.toNat).pos:Int) m
def Fx.tF(T:Nat->Fi)(F:Fo)(S:Nat->Pi)(z m:Int):bU:=
 if Fx.dy T z≠0 then⟨#[]⟩else if(T z.toNat).kind=3 then⟨#[]⟩else if(T z.toNat).kind=2 then Pp.iN S ((T z.toNat).num:Int) m else Tr.jH F ((T z.toNat).num:Int) ((T z.toNat).pos:Int) m
def Fx.iN(T:Nat->Fi)(F:Fo)(z m:Int):Nat->Fi:=
 if Fx.dy T z=0/\(T z.toNat).kind≠3/\(T z.toNat).kind≠2/\Tr.eN F ((T z.toNat).num:Int) ((T z.toNat).pos:Int) m=0 then Fx.put T z.toNat {T z.toNat with pos:=(T z.toNat).pos+(Tr.jH F ((T z.toNat).num:Int) ((T z.toNat).pos:Int) m).size}else T
def Fx.qN(T:Nat->Fi)(S:Nat->Pi)(z m:Int):Nat->Pi:=if Fx.dy T z=0/\(T z.toNat).kind=2 then Pp.oK S ((T z.toNat).num:Int) m else S
def Fx.dR(T:Nat->Fi)(F:Fo)(S:Nat->Pi)(z:Int)(s:bU):Int:=
 if Fx.dy T z≠0 then Fx.dy T z else if(T z.toNat).kind=3 then Pp.dR S ((T z.toNat).num:Int) s else if(T z.toNat).wr=bA then 8 else Tr.dR F ((T z.toNat).num:Int) ((T z.toNat).pos:Int) s
def Fx.iS(T:Nat->Fi)(F:Fo)(S:Nat->Pi)(z:Int)(s:bU):Nat:=
 if Fx.dy T z≠0 then 0 else if(T z.toNat).kind=3 then Pp.iS S ((T z.toNat).num:Int) s else if(T z.toNat).wr=bA then 0 else if Tr.dR F ((T z.toNat).num:Int) ((T z.toNat).pos:Int) s=0 then s.size else 0
def Fx.qV(T:Nat->Fi)(z:Int):Prop:=Fx.dy T z=0/\(T z.toNat).kind≠3/\(T z.toNat).wr=bw
def Fx.zD(T:Nat->Fi)(z:Int):Decidable (Fx.qV T z):=by unfold Fx.qV;exact inferInstance
def Fx.qW(T:Nat->Fi)(F:Fo)(z:Int)(s:bU):Nat->Fi:=
 haveI:=Fx.zD T z;if Fx.qV T z/\Tr.dR F ((T z.toNat).num:Int) ((T z.toNat).pos:Int) s=0 then Fx.put T z.toNat {T z.toNat with pos:=(T z.toNat).pos+s.size}else T
def Fx.eY(T:Nat->Fi)(F:Fo)(z:Int)(s:bU):Fo:=haveI:=Fx.zD T z;if Fx.qV T z then Tr.eY F ((T z.toNat).num:Int) ((T z.toNat).pos:Int) s else F
def Fx.yj(T:Nat->Fi)(S:Nat->Pi)(z:Int)(s:bU):Nat->Pi:=if Fx.dy T z=0/\(T z.toNat).kind=3 then Pp.eY S ((T z.toNat).num:Int) s else S
def Fx.Pz(T:Nat->Fi):Prop:=∀n,n<24->(T n).pos<2^60
theorem Tr.Sf{F:Fo}(h:Tr.ud F)(z a m:Int):(Tr.jH F z a m).size<=40:=by
 unfold Tr.jH;split
 .rename_i c;have i0:Tr.cN F z 1=0:=by
   unfold Tr.eN at c;grind
  obtain⟨n,rfl,n40,_,k1⟩:=Tr.fD i0;have z40:=h n n40 k1;rw[hZ];have:∀(L:List Int) (r:bU),(L.foldl (λr n=>r.push (UInt8.ofNat n.toNat)) r).size=r.size+L.length:=by
   intro L
   induction L with
   |nil=>intro r;rfl
   |cons x L ih=>intro r;rw[List.foldl_cons,ih,ByteArray.size_push,List.length_cons];omega
  unfold Tr.Ql;rw[this,Tr.wi];show 0+_<=40;omega
 .exact aC _
theorem Nb(t b p:Nat)(z m:Int)(T:Nat->Fi)(F:Fo)(S:Nat->Pi)(w:bD)(h:FX w t b p T F S)(hz:Tr.ud F)(hp:Fx.Pz T):
  Calls prog 202 #[ai (bj ⟨t,0,bu⟩),aa az z,aa az m] w λe w'=>e=bf (ao #[ak (Fx.tF T F S z m),bN (Fx.eN T F S z m)])/\FX w' t b p (Fx.iN T F z m) F (Fx.qN T S z m)/\dJ t b p w w':=by
 have HF:=hJ h;have HZ:=hJ hz;by_cases c:Fx.dy T z=0
 .obtain⟨n,rfl,n24,_⟩:=Fx.kX c;have EP:Hid (Fx.dy T (n:Int)=0/\lO t (n:Int) 0=ai (bj ⟨t,2+n*5,bu⟩)):=hJ ⟨c,qh t n⟩;have hps:=hp n n24;have c0:=h.1.kind n n24;have c1:=h.1.num n n24;have c3:=h.1.pos n n24;have cp:=h.1.pi;have cb:=h.1.fo;have cf:=h.1.frozen;have DE:Fx.eN T F S (n:Int) m=if(T n).kind=3 then 8 else if(T n).kind=2 then Pp.eN S ((T n).num:Int) m else Tr.eN F ((T n).num:Int) ((T n).pos:Int) m:=by unfold Fx.eN;rw[aI (λd=>d c),hZ]
  have DV:Fx.tF T F S (n:Int) m=if(T n).kind=3 then⟨#[]⟩else if(T n).kind=2 then Pp.iN S ((T n).num:Int) m else Tr.jH F ((T n).num:Int) ((T n).pos:Int) m:=by unfold Fx.tF;rw[aI (λd=>d c),hZ]
  by_cases k3:(T n).kind=3
  .have FIN:Hid (Fx.eN T F S (n:Int) m=8/\Fx.tF T F S (n:Int) m=⟨#[]⟩/\Fx.iN T F (n:Int) m=T/\Fx.qN T S (n:Int) m=S):=hJ ⟨by rw[DE,aJ k3],by rw[DV,aJ k3],aI (λd=>by rw[hZ]at d;exact d.2.1 k3),aI (λd=>by rw[hZ,k3]at d;exact aZ d.2 bE)⟩;rw[k3]at c0;have c0':w.cell? ⟨t,2+n*5,bu⟩=bj (aa .i64 3):=c0;go_in
   go_wp2_with fail
   refine sC (eO t b p n T _ HF.1) ?_;rintro w1 hw1;subst w1;rw[EP.1,EP.2,bF];go_wp2
   go_ret2
   rw[FIN.1,FIN.2.1,FIN.2.2.1,FIN.2.2.2];exact⟨rfl,HF.v,dJ.refl _ _ _ _⟩
  .by_cases k2:(T n).kind=2
   .have FIN:Hid (Fx.eN T F S (n:Int) m=Pp.eN S ((T n).num:Int) m/\Fx.tF T F S (n:Int) m=Pp.iN S ((T n).num:Int) m/\Fx.iN T F (n:Int) m=T/\Fx.qN T S (n:Int) m=Pp.oK S ((T n).num:Int) m):=hJ ⟨by rw[DE,aI k3,aJ k2],by rw[DV,aI k3,aJ k2],aI (λd=>by rw[hZ]at d;exact d.2.2.1 k2),by unfold Fx.qN;rw[hZ,aJ ⟨c,k2⟩]⟩;rw[k2]at c0;have c0':w.cell? ⟨t,2+n*5,bu⟩=bj (aa .i64 2):=c0;generalize (T n).num=nm at*;have K0:=hJ (aK cp c1);have NP:=hJ h.2.2.2;go_in
    go_wp2_with fail
    refine sC (eO t b p n T _ HF.1) ?_;rintro w1 hw1;subst w1;rw[EP.1,EP.2,bF];go_wp2_with fail
    go_region_held3 (λw'=>w'.cell? ⟨t,1,bu⟩=bj (ai (bj ⟨p,0,bu⟩))/\w'.cell? ⟨t,2+n*5+1,bu⟩=bj (aa az (nm:Int))) (first|exact K0.v|exact K4.v) ((first|(go_at_call 245;refine sC (LY p nm m S _ HF.2.2.1.drew) ?_;rintro w4 ⟨u4,f4⟩;have f4':bG p w w4:=⟨f4.os,f4.tape,f4.output,f4.size,f4.block⟩;have C4:=hJ (HF.pi u4 f4');have D4:Hid (dJ t b p w w4):=hJ (dJ.pi f4');have K4:=hJ (aK C4.1.pi ((aV (f4'.block t HF.1.lt NP.2.1)).trans K0.2)))))
    go_wp2
    go_ret2
    rw[FIN.1,FIN.2.1,FIN.2.2.1,FIN.2.2.2];exact⟨rfl,C4.v,D4.v⟩
   .have EP2:Hid (Fx.qN T S (n:Int) m=S):=hJ (aI (λd=>by rw[hZ]at d;exact k2 d.2));have FIN:Hid (Fx.eN T F S (n:Int) m=Tr.eN F ((T n).num:Int) ((T n).pos:Int) m/\Fx.tF T F S (n:Int) m=Tr.jH F ((T n).num:Int) ((T n).pos:Int) m):=hJ ⟨by rw[DE,aI k3,aI k2],by rw[DV,aI k3,aI k2]⟩;have ET:Fx.iN T F (n:Int) m=if Tr.eN F ((T n).num:Int) ((T n).pos:Int) m=0 then Fx.put T n {T n with pos:=(T n).pos+(Tr.jH F ((T n).num:Int) ((T n).pos:Int) m).size}else T:=by
     unfold Fx.iN;rw[hZ];by_cases d:Tr.eN F ((T n).num:Int) ((T n).pos:Int) m=0
     .rw[aJ d,aJ ⟨c,k3,k2,d⟩]
     .rw[aI d,aI (λe=>d e.2.2.2)]
    have k3':(((T n).kind:Int)==3)=bA:=by simp;omega
    have k2':(((T n).kind:Int)==2)=bA:=by simp;omega
    have ZS:Hid ((Tr.jH F ((T n).num:Int) ((T n).pos:Int) m).size<=40):=hJ (Tr.Sf hz _ _ _);have SP:Hid (∀V,FX V t b p T F S->FX (V.setCell ⟨t,2+n*5+3,bu⟩ (aa az (((T n).pos+(Tr.jH F ((T n).num:Int) ((T n).pos:Int) m).size:Nat):Int))) t b p (Fx.put T n {T n with pos:=(T n).pos+(Tr.jH F ((T n).num:Int) ((T n).pos:Int) m).size}) F S):=hJ (λV hV=>hV.tb (hV.1.setPos n n24 _) ((bG.refl t V).setCell _ _));generalize hTX:Fx.put T n {T n with pos:=(T n).pos+(Tr.jH F ((T n).num:Int) ((T n).pos:Int) m).size}=TX at ET SP;generalize (T n).kind=kd at*;generalize (T n).num=nm at*;generalize (T n).pos=ps at*;have K0:=hJ (aK cb (aK c1 c3));have TR:=hJ (Ms b nm ps m F w.drew HF.2.1.drew hz);by_cases e0:Tr.eN F (nm:Int) (ps:Int) m=0
    .rw[aJ e0]at ET;have EE:=hJ (aK e0 ET);generalize Tr.jH F (nm:Int) (ps:Int) m=RS at*;have ad:IntKind.i64.wrap ((ps:Int)+(RS.size:Int))=((ps+RS.size:Nat):Int):=by
      have:=ZS.v;exact(aN _ ⟨by omega,bB⟩).trans bB
     go_in
     go_wp2_with fail
     refine sC (eO t b p n T _ HF.1) ?_;rintro w1 hw1;subst w1;rw[EP.1,EP.2,bF];go_wp2_with fail
     go_region_held3 (λw'=>w'.cell? ⟨t,0,bu⟩=bj (ai (bj ⟨b,0,bu⟩))/\w'.cell? ⟨t,2+n*5+1,bu⟩=bj (aa az (nm:Int))/\w'.cell? ⟨t,2+n*5+3,bu⟩=bj (aa az (ps:Int))) (first|exact K0.v|exact K4.v) ((first|(go_at_call 246;refine sC TR.v ?_;rintro w4 ⟨u4,b4⟩;have b4':Below w.heap.size w w4:=⟨b4.os,b4.tape,b4.output,b4.size,b4.block⟩;have C4:=hJ (HF.below b4');have D4:Hid (dJ t b p w w4):=hJ (dJ.below b4');have K4:=hJ (aK C4.1.fo (aK ((aV (b4'.block t HF.1.lt)).trans K0.2.1) ((aV (b4'.block t HF.1.lt)).trans K0.2.2)));rw[EE.1,bF])))
     have x3:=K4.2.2;have xf:=C4.1.frozen;have X5:=hJ (SP.v _ C4.v);have D5:Hid (dJ t b p w (w4.setCell ⟨t,2+n*5+3,bu⟩ (aa az ((ps+RS.size:Nat):Int)))):=hJ (D4.trans (dJ.tb ((bG.refl t w4).setCell _ _)));go_wp2
     go_ret2
     rw[FIN.1,FIN.2,EP2.v,EE.1,EE.2];exact⟨rfl,X5.v,D5.v⟩
    .rw[aI e0]at ET;have EE:=hJ (aK (bH e0) ET);have VS:Hid (Tr.jH F (nm:Int) (ps:Int) m=⟨#[]⟩):=hJ (by unfold Tr.jH;rw[aI e0];rfl);go_in
     go_wp2_with fail
     refine sC (eO t b p n T _ HF.1) ?_;rintro w1 hw1;subst w1;rw[EP.1,EP.2,bF];go_wp2_with fail
     go_region_held3 (λw'=>w'.cell? ⟨t,0,bu⟩=bj (ai (bj ⟨b,0,bu⟩))/\w'.cell? ⟨t,2+n*5+1,bu⟩=bj (aa az (nm:Int))/\w'.cell? ⟨t,2+n*5+3,bu⟩=bj (aa az (ps:Int))) (first|exact K0.v|exact K4.v) ((first|(go_at_call 246;refine sC TR.v ?_;rintro w4 ⟨u4,b4⟩;have b4':Below w.heap.size w w4:=⟨b4.os,b4.tape,b4.output,b4.size,b4.block⟩;have C4:=hJ (HF.below b4');have D4:Hid (dJ t b p w w4):=hJ (dJ.below b4');have K4:=hJ (aK C4.1.fo (aK ((aV (b4'.block t HF.1.lt)).trans K0.2.1) ((aV (b4'.block t HF.1.lt)).trans K0.2.2)));rw[EE.1])))
     go_wp2
     go_ret2
     rw[FIN.1,FIN.2,EP2.v,EE.1,EE.2,VS.v];exact⟨rfl,C4.v,D4.v⟩
 .have E2:Hid (lO t z (Fx.dy T z)=ai bu/\bN (Fx.dy T z)=aq 100 (aa az (Fx.dy T z))/\Fx.eN T F S z m=Fx.dy T z/\Fx.tF T F S z m=⟨#[]⟩/\Fx.iN T F z m=T/\Fx.qN T S z m=S):=hJ ⟨oC c,bH c,aJ c,aJ c,aI (λe=>c e.1),aI (λe=>c e.1)⟩;go_in
  go_wp2_with fail
  refine sC (eO t b p z T _ HF.1) ?_;rintro w1 hw1;subst w1;rw[E2.1,E2.2.1];go_wp2
  go_ret2
  rw[E2.2.2.1,E2.2.2.2.1,E2.2.2.2.2.1,E2.2.2.2.2.2,E2.2.1];exact⟨rfl,HF.v,dJ.refl _ _ _ _⟩
theorem JI(t b p:Nat)(z:Int)(s:bU)(T:Nat->Fi)(F:Fo)(S:Nat->Pi)(w:bD)(h:FX w t b p T F S)(hs:s.size<2^59)(hp:Fx.Pz T):
  Calls prog 203 #[ai (bj ⟨t,0,bu⟩),aa az z,ak s] w λe w'=>e=bf (ao #[aa az (Fx.iS T F S z s:Int),bN (Fx.dR T F S z s)])/\FX w' t b p (Fx.qW T F z s) (Fx.eY T F z s) (Fx.yj T S z s)/\dJ t b p w w':=by
 have HF:=hJ h;have HL:=hJ hs;by_cases c:Fx.dy T z=0
 .obtain⟨n,rfl,n24,_⟩:=Fx.kX c;have EP:Hid (Fx.dy T (n:Int)=0/\lO t (n:Int) 0=ai (bj ⟨t,2+n*5,bu⟩)):=hJ ⟨c,qh t n⟩;have hps:=hp n n24;have c0:=h.1.kind n n24;have c1:=h.1.num n n24;have c2:=h.1.wr n n24;have c3:=h.1.pos n n24;have cp:=h.1.pi;have cb:=h.1.fo;have cf:=h.1.frozen;have DE:Fx.dR T F S (n:Int) s=if(T n).kind=3 then Pp.dR S ((T n).num:Int) s else if(T n).wr=bA then 8 else Tr.dR F ((T n).num:Int) ((T n).pos:Int) s:=by unfold Fx.dR;rw[aI (λd=>d c),hZ]
  have DK:Fx.iS T F S (n:Int) s=if(T n).kind=3 then Pp.iS S ((T n).num:Int) s else if(T n).wr=bA then 0 else if Tr.dR F ((T n).num:Int) ((T n).pos:Int) s=0 then s.size else 0:=by unfold Fx.iS;rw[aI (λd=>d c),hZ]
  by_cases k3:(T n).kind=3
  .have nb:¬Fx.qV T (n:Int):=λd=>by unfold Fx.qV at d;rw[hZ]at d;exact d.2.1 k3
   have FIN:Hid (Fx.dR T F S (n:Int) s=Pp.dR S ((T n).num:Int) s/\Fx.iS T F S (n:Int) s=Pp.iS S ((T n).num:Int) s/\Fx.qW T F (n:Int) s=T/\Fx.eY T F (n:Int) s=F/\Fx.yj T S (n:Int) s=Pp.eY S ((T n).num:Int) s):=hJ ⟨by rw[DE,aJ k3],by rw[DK,aJ k3],aI (λd=>nb d.1),aI nb,by unfold Fx.yj;rw[hZ,aJ ⟨c,k3⟩]⟩;rw[k3]at c0;have c0':w.cell? ⟨t,2+n*5,bu⟩=bj (aa .i64 3):=c0;generalize (T n).num=nm at*;have K0:=hJ (aK cp c1);have NP:=hJ h.2.2.2;go_in
   go_wp2_with fail
   refine sC (eO t b p n T _ HF.1) ?_;rintro w1 hw1;subst w1;rw[EP.1,EP.2,bF];go_wp2_with fail
   go_region_held3 (λw'=>w'.cell? ⟨t,1,bu⟩=bj (ai (bj ⟨p,0,bu⟩))/\w'.cell? ⟨t,2+n*5+1,bu⟩=bj (aa az (nm:Int))) (first|exact K0.v|exact K4.v) ((first|(go_at_call 247;refine sC (Jk p nm s S _ HF.2.2.1.drew (by have:=HL.v;omega)) ?_;rintro w4 ⟨u4,f4⟩;have f4':bG p w w4:=⟨f4.os,f4.tape,f4.output,f4.size,f4.block⟩;have C4:=hJ (HF.pi u4 f4');have D4:Hid (dJ t b p w w4):=hJ (dJ.pi f4');have K4:=hJ (aK C4.1.pi ((aV (f4'.block t HF.1.lt NP.2.1)).trans K0.2)))))
   go_wp2
   go_ret2
   rw[FIN.1,FIN.2.1,FIN.2.2.1,FIN.2.2.2.1,FIN.2.2.2.2];exact⟨rfl,C4.v,D4.v⟩
  .have k3':(((T n).kind:Int)==3)=bA:=by simp;omega
   have EP2:Hid (Fx.yj T S (n:Int) s=S):=hJ (aI (λd=>by rw[hZ]at d;exact k3 d.2));by_cases w0:(T n).wr=bA
   .have nb:¬Fx.qV T (n:Int):=λd=>by unfold Fx.qV at d;rw[hZ,w0]at d;exact aZ d.2.2 bE
    have FIN:Hid (Fx.dR T F S (n:Int) s=8/\Fx.iS T F S (n:Int) s=0/\Fx.qW T F (n:Int) s=T/\Fx.eY T F (n:Int) s=F):=hJ ⟨by rw[DE,aI k3,aJ w0],by rw[DK,aI k3,aJ w0],aI (λd=>nb d.1),aI nb⟩;rw[w0]at c2;generalize (T n).kind=kd at*;go_in
    go_wp2_with fail
    refine sC (eO t b p n T _ HF.1) ?_;rintro w1 hw1;subst w1;rw[EP.1,EP.2,bF];go_wp2
    go_ret2
    rw[FIN.1,FIN.2.1,FIN.2.2.1,FIN.2.2.2,EP2.v];exact⟨rfl,HF.v,dJ.refl _ _ _ _⟩
   .have w1':(T n).wr=bw:=by simpa using w0
    have yb:Fx.qV T (n:Int):=by unfold Fx.qV;rw[hZ];exact⟨c,k3,w1'⟩
    have FIN:Hid (Fx.dR T F S (n:Int) s=Tr.dR F ((T n).num:Int) ((T n).pos:Int) s/\Fx.eY T F (n:Int) s=Tr.eY F ((T n).num:Int) ((T n).pos:Int) s):=hJ ⟨by rw[DE,aI k3,aI w0],by unfold Fx.eY;rw[aJ yb,hZ]⟩;have DK2:Fx.iS T F S (n:Int) s=if Tr.dR F ((T n).num:Int) ((T n).pos:Int) s=0 then s.size else 0:=by rw[DK,aI k3,aI w0]
    have ET:Fx.qW T F (n:Int) s=if Tr.dR F ((T n).num:Int) ((T n).pos:Int) s=0 then Fx.put T n {T n with pos:=(T n).pos+s.size}else T:=by
     unfold Fx.qW;rw[hZ];by_cases d:Tr.dR F ((T n).num:Int) ((T n).pos:Int) s=0
     .rw[aJ d,aJ ⟨yb,d⟩]
     .rw[aI d,aI (λe=>d e.2)]
    have SP:Hid (∀V G,FX V t b p T G S->FX (V.setCell ⟨t,2+n*5+3,bu⟩ (aa az (((T n).pos+s.size:Nat):Int))) t b p (Fx.put T n {T n with pos:=(T n).pos+s.size}) G S):=hJ (λV G hV=>hV.tb (hV.1.setPos n n24 _) ((bG.refl t V).setCell _ _));generalize hTX:Fx.put T n {T n with pos:=(T n).pos+s.size}=TX at ET SP;rw[w1']at c2;generalize (T n).kind=kd at*;generalize (T n).num=nm at*;generalize (T n).pos=ps at*;have K0:=hJ (aK cb (aK c1 c3));have NP:=hJ h.2.2.2;have TW:=hJ (JC b nm ps s F w.drew HF.2.1.drew bB);by_cases e0:Tr.dR F (nm:Int) (ps:Int) s=0
    .rw[aJ e0]at ET DK2;have EE:=hJ (aK e0 (aK ET DK2));have ad:IntKind.i64.wrap ((ps:Int)+(s.size:Int))=((ps+s.size:Nat):Int):=(aN _ ⟨by omega,bB⟩).trans bB;go_in
     go_wp2_with fail
     refine sC (eO t b p n T _ HF.1) ?_;rintro w1 hw1;subst w1;rw[EP.1,EP.2,bF];go_wp2_with fail
     go_region_held3 (λw'=>w'.cell? ⟨t,0,bu⟩=bj (ai (bj ⟨b,0,bu⟩))/\w'.cell? ⟨t,2+n*5+1,bu⟩=bj (aa az (nm:Int))/\w'.cell? ⟨t,2+n*5+3,bu⟩=bj (aa az (ps:Int))) (first|exact K0.v|exact K4.v) ((first|(go_at_call 248;refine sC TW.v ?_;rintro w4 ⟨u4,f4⟩;have f4':bG b w w4:=⟨f4.os,f4.tape,f4.output,f4.size,f4.block⟩;have C4:=hJ (HF.fo u4 f4');have D4:Hid (dJ t b p w w4):=hJ (dJ.fo f4');have K4:=hJ (aK C4.1.fo (aK ((aV (f4'.block t HF.1.lt NP.1)).trans K0.2.1) ((aV (f4'.block t HF.1.lt NP.1)).trans K0.2.2)));rw[EE.1,bF])))
     have x3:=K4.2.2;have xf:=C4.1.frozen;have X5:=hJ (SP.v _ _ C4.v);have D5:Hid (dJ t b p w (w4.setCell ⟨t,2+n*5+3,bu⟩ (aa az ((ps+s.size:Nat):Int)))):=hJ (D4.trans (dJ.tb ((bG.refl t w4).setCell _ _)));go_wp2
     go_ret2
     rw[FIN.1,FIN.2,EP2.v,EE.1,EE.2.1,EE.2.2];exact⟨rfl,X5.v,D5.v⟩
    .rw[aI e0]at ET DK2;have EE:=hJ (aK (bH e0) (aK ET DK2));go_in
     go_wp2_with fail
     refine sC (eO t b p n T _ HF.1) ?_;rintro w1 hw1;subst w1;rw[EP.1,EP.2,bF];go_wp2_with fail
     go_region_held3 (λw'=>w'.cell? ⟨t,0,bu⟩=bj (ai (bj ⟨b,0,bu⟩))/\w'.cell? ⟨t,2+n*5+1,bu⟩=bj (aa az (nm:Int))/\w'.cell? ⟨t,2+n*5+3,bu⟩=bj (aa az (ps:Int))) (first|exact K0.v|exact K4.v) ((first|(go_at_call 248;refine sC TW.v ?_;rintro w4 ⟨u4,f4⟩;have f4':bG b w w4:=⟨f4.os,f4.tape,f4.output,f4.size,f4.block⟩;have C4:=hJ (HF.fo u4 f4');have D4:Hid (dJ t b p w w4):=hJ (dJ.fo f4');have K4:=hJ (aK C4.1.fo (aK ((aV (f4'.block t HF.1.lt NP.1)).trans K0.2.1) ((aV (f4'.block t HF.1.lt NP.1)).trans K0.2.2)));rw[EE.1])))
     go_wp2
     go_ret2
     rw[FIN.1,FIN.2,EP2.v,EE.1,EE.2.1,EE.2.2];exact⟨rfl,C4.v,D4.v⟩
 .have nb:¬Fx.qV T z:=λd=>c d.1;have E2:Hid (lO t z (Fx.dy T z)=ai bu/\bN (Fx.dy T z)=aq 100 (aa az (Fx.dy T z))/\Fx.dR T F S z s=Fx.dy T z/\Fx.iS T F S z s=0/\Fx.qW T F z s=T/\Fx.eY T F z s=F/\Fx.yj T S z s=S):=hJ ⟨oC c,bH c,aJ c,aJ c,aI (λe=>nb e.1),aI nb,aI (λe=>c e.1)⟩;go_in
  go_wp2_with fail
  refine sC (eO t b p z T _ HF.1) ?_;rintro w1 hw1;subst w1;rw[E2.1,E2.2.1];go_wp2
  go_ret2
  rw[E2.2.2.1,E2.2.2.2.1,E2.2.2.2.2.1,E2.2.2.2.2.2.1,E2.2.2.2.2.2.2,E2.2.1];exact⟨rfl,HF.v,dJ.refl _ _ _ _⟩
def Pp.gJ(S:Nat->Pi)(n:Nat)(E:Int):Prop:=(E=0/\n<8/\Pp.mG (S n)=bA/\∀m,m<n->Pp.mG (S m)=bw)\/(E=4/\n=0/\∀m,m<8->Pp.mG (S m)=bw)
def Pp.jX(S:Nat->Pi)(n:Nat)(E:Int):Nat->Pi:=if E=0 then Pp.put S n ⟨⟨#[]⟩,1,1⟩else S
theorem LX(b:Nat)(S:Nat->Pi)(w:bD)(h:dW w b S):
  Calls prog 244 #[ai (bj ⟨b,0,bu⟩)] w λe w'=>∃(n:Nat) (E:Int),e=bf (ao #[aa az (n:Int),bN E])/\Pp.gJ S n E/\dW w' b (Pp.jX S n E)/\bG b w w':=by
 have HF:=hJ h;go_in
 go_wp2_with fail
 go_loopw [4,5] (λx i wr=>∃(n:Nat),i=aa az n/\n<=8/\Hid (∀m,m<n->Pp.mG (S m)=bw)/\wr=w) (λ_ i _=>8-(intOf i).toNat)
 case atStart=>exact⟨0,rfl,bB,λm hm=>bB,rfl⟩
 case round=>
  obtain⟨n,rfl,hn,HN,hwr⟩:=hrel;subst wr;by_cases hlt:n<8
  .have hltI:(n:Int)<8:=bB
   go_wp2_with fail
   refine sC (qd b n S _ HF.v hlt) ?_;rintro w1 hw1;subst w1;cases hth:Pp.mG (S n)
   .have TH:=hJ (HF.Hl n hlt 1 1);have HS:=hJ (Pp.Bp 1 1);have H1:=hJ (Pp.G8 1 1);have FT:Hid (Pp.gJ S n 0):=hJ (.inl ⟨rfl,hlt,hth,HN.v⟩);have FIN:Hid (dW (w.setCells b (n*15) (Pp.oA 1 1).toList) b (Pp.jX S n 0)/\bG b w (w.setCells b (n*15) (Pp.oA 1 1).toList)):=hJ (by
     unfold Pp.jX;rw[aJ rfl];exact⟨HF.Qq n hlt 1 1,Pp.jA _ _ (bG.refl b w)⟩)
    obtain⟨A,hA⟩:=hU (Pp.oA 1 1);rw[hA]at FIN TH HS H1;go_wp2_with (first|(refine Pp.MZ rfl rfl ?_;rw[hA])|(refine wpList_store_mid rfl 119 _ _ rfl b (n*15) A rfl rfl TH.v HS.v H1.v ?_))
    go_ret2
    exact⟨n,0,rfl,FT.v,FIN.v⟩
   .have HN2:Hid (∀m,m<n+1->Pp.mG (S m)=bw):=hJ (λm hm=>by
     by_cases c:m=n
     .subst c;exact hth
     .exact HN.v m bB)
    go_wp2
    go_roundw
    case rel=>exact⟨n+1,by go_num,bB,HN2,by first|rfl|trivial⟩
    case measure=>simp[intOf];omega
  .have hltI:¬(n:Int)<8:=bB
   obtain rfl:n=8:=bB
   have FT:Hid (Pp.gJ S 0 4):=hJ (.inr ⟨rfl,rfl,HN.v⟩);have FF:Hid (Pp.jX S 0 4=S):=hJ (aI bE);go_wp2
   go_ret2
   exact⟨0,4,rfl,FT.v,by rw[FF.v];exact HF.v,bG.refl _ _⟩
theorem Fx.results3{fn:Func}{t u v:Tmp}(h:fn.results=#[.tmp t, .tmp u, .tmp v])(tmps:Array Value)(P:Program)(w:bD):
  (results fn tmps).run P w= .ok (ao #[tmps.getD t undef,tmps.getD u undef,tmps.getD v undef]) w:=by
 simp[results,h]
def Fx.fH(T:Nat->Fi)(z a:Int):Int:=if Fx.dy T z≠0 then Fx.dy T z else if(T z.toNat).kind≠1 then 11 else if a<0\/40<a then 1 else 0
def Fx.mN(T:Nat->Fi)(z a:Int):Nat->Fi:=if Fx.fH T z a=0 then Fx.put T z.toNat {T z.toNat with pos:=a.toNat}else T
theorem Nc(t b p:Nat)(z a:Int)(T:Nat->Fi)(w:bD)(h:eG w t b p T):
  Calls prog 204 #[ai (bj ⟨t,0,bu⟩),aa az z,aa az a] w λe w'=>e=bf (bN (Fx.fH T z a))/\eG w' t b p (Fx.mN T z a)/\bG t w w':=by
 have HF:=hJ h;by_cases c:Fx.dy T z=0
 .obtain⟨n,rfl,n24,_⟩:=Fx.kX c;have EP:Hid (Fx.dy T (n:Int)=0/\lO t (n:Int) 0=ai (bj ⟨t,2+n*5,bu⟩)):=hJ ⟨c,qh t n⟩;have DE:Fx.fH T (n:Int) a=if(T n).kind≠1 then 11 else if a<0\/40<a then 1 else 0:=by unfold Fx.fH;rw[aI (λd=>d c),hZ]
  have c0:=h.kind n n24;have c3:=h.pos n n24;have cf:=h.frozen;have no:∀E,E≠0->Fx.fH T (n:Int) a=E->Fx.mN T (n:Int) a=T:=λE e0 e=>by unfold Fx.mN;rw[e,aI e0]
  by_cases k1:(T n).kind=1
  .rw[k1]at c0;have c0':w.cell? ⟨t,2+n*5,bu⟩=bj (aa .i64 1):=c0;by_cases a0:a<0
   .have e:Fx.fH T (n:Int) a=1:=by rw[DE,aI (λd=>d k1),aJ (.inl a0)]
    have FIN:Hid (Fx.fH T (n:Int) a=1/\Fx.mN T (n:Int) a=T):=hJ ⟨e,no 1 bE e⟩;go_in
    go_wp2_with fail
    refine sC (eO t b p n T _ HF.v) ?_;rintro w1 hw1;subst w1;rw[EP.1,EP.2,bF];go_wp2
    go_ret
    rw[FIN.1,FIN.2];exact⟨rfl,HF.v,bG.refl _ _⟩
   .by_cases a4:40<a
    .have e:Fx.fH T (n:Int) a=1:=by rw[DE,aI (λd=>d k1),aJ (.inr a4)]
     have FIN:Hid (Fx.fH T (n:Int) a=1/\Fx.mN T (n:Int) a=T):=hJ ⟨e,no 1 bE e⟩;go_in
     go_wp2_with fail
     refine sC (eO t b p n T _ HF.v) ?_;rintro w1 hw1;subst w1;rw[EP.1,EP.2,bF];go_wp2
     go_ret
     rw[FIN.1,FIN.2];exact⟨rfl,HF.v,bG.refl _ _⟩
    .have e:Fx.fH T (n:Int) a=0:=by rw[DE,aI (λd=>d k1),nJ]
     obtain⟨q,rfl⟩:∃q:Nat,a=q:=⟨a.toNat,bB⟩;have FIN:Hid (Fx.fH T (n:Int) (q:Int)=0/\eG (w.setCell ⟨t,2+n*5+3,bu⟩ (aa az (q:Int))) t b p (Fx.mN T (n:Int) (q:Int))):=hJ ⟨e,by unfold Fx.mN;rw[aJ e,hZ,hZ];exact h.setPos n n24 q⟩;generalize (T n).pos=ps at*;go_in
     go_wp2_with fail
     refine sC (eO t b p n T _ HF.v) ?_;rintro w1 hw1;subst w1;rw[EP.1,EP.2,bF];go_wp2
     go_ret
     rw[FIN.1];exact⟨rfl,FIN.2,(bG.refl t w).setCell _ _⟩
  .have e:Fx.fH T (n:Int) a=11:=by rw[DE,aJ k1]
   have FIN:Hid (Fx.fH T (n:Int) a=11/\Fx.mN T (n:Int) a=T):=hJ ⟨e,no 11 bE e⟩;have k1':(((T n).kind:Int) !=1)=bw:=by simp;omega
   have k1'':(((T n).kind:Int)==1)=bA:=by simp;omega
   generalize (T n).kind=kd at*;go_in
   go_wp2_with fail
   refine sC (eO t b p n T _ HF.v) ?_;rintro w1 hw1;subst w1;rw[EP.1,EP.2,bF];go_wp2
   go_ret
   rw[FIN.1,FIN.2];exact⟨rfl,HF.v,bG.refl _ _⟩
 .have E2:Hid (lO t z (Fx.dy T z)=ai bu/\bN (Fx.dy T z)=aq 100 (aa az (Fx.dy T z))/\Fx.fH T z a=Fx.dy T z/\Fx.mN T z a=T):=hJ (by
   have e:Fx.fH T z a=Fx.dy T z:=aJ c;exact⟨oC c,bH c,e,by unfold Fx.mN;rw[e,aI c]⟩)
  go_in
  go_wp2_with fail
  refine sC (eO t b p z T _ HF.v) ?_;rintro w1 hw1;subst w1;rw[E2.1,E2.2.1];go_wp2
  go_ret
  rw[E2.2.2.1,E2.2.2.2,E2.2.1];exact⟨rfl,HF.v,bG.refl _ _⟩
def Fx.vR(T:Nat->Fi)(S:Nat->Pi)(A C:Nat)(E:Int)(T':Nat->Fi)(S':Nat->Pi):Prop:=
 (22<Fx.cW T 24/\A=0/\C=0/\E=4/\T'=T/\S'=S)
 \/(Fx.cW T 24<=22/\∃n e,Pp.gJ S n e/\((e≠0/\A=0/\C=0/\E=e/\T'=T/\S'=S)
  \/(e=0/\E=0/\Fx.ue T A/\Fx.ue (Fx.put T A ⟨2,n,bA,0,1⟩) C/\T'=Fx.put (Fx.put T A ⟨2,n,bA,0,1⟩) C ⟨3,n,bA,0,1⟩/\S'=Pp.jX S n 0)))
theorem Fx.OO{T:Nat->Fi}(x:Fi)(h:Fx.cW T 24<=22):∃a c,Fx.ue T a/\Fx.ue (Fx.put T a x) c:=by
 obtain⟨a,ha⟩:=Fx.DP (T:=T) bB;have ex:∀M,M<=a->Fx.cW (Fx.put T a x) M=Fx.cW T M:=by
  intro M
  induction M with
  |zero=>intro _;rfl
  |succ M ih2=>
   intro hM;show Fx.cW (Fx.put T a x) M+(if(Fx.put T a x M).refs=0 then 0 else 1)=Fx.cW T M+(if(T M).refs=0 then 0 else 1);rw[ih2 bB,Fx.bP _ _ _ _ bB]
 have cp:∀N,Fx.cW (Fx.put T a x) N<=Fx.cW T N+1:=by
  intro N
  induction N with
  |zero=>exact aC _
  |succ N ih=>
   show Fx.cW (Fx.put T a x) N+(if(Fx.put T a x N).refs=0 then 0 else 1)<=Fx.cW T N+(if(T N).refs=0 then 0 else 1)+1;by_cases c:N=a
   .rw[ex N bB]
    repeat' split
    all_goals omega
   .rw[Fx.bP _ _ _ _ c];omega
 have:=cp 24;obtain⟨c,hc⟩:=Fx.DP (T:=Fx.put T a x) bB;exact⟨a,c,ha,hc⟩
theorem Na(t b p:Nat)(T:Nat->Fi)(F:Fo)(S:Nat->Pi)(w:bD)(h:FX w t b p T F S):
  Calls prog 201 #[ai (bj ⟨t,0,bu⟩)] w λe w'=>∃(A C:Nat) (E:Int) (T':Nat->Fi) (S':Nat->Pi),e=bf (ao #[aa az (A:Int),aa az (C:Int),bN E])/\Fx.vR T S A C E T' S'/\FX w' t b p T' F S'/\dJ t b p w w':=by
 have HF:=hJ h;have lc:=Fx.nW T 24;have y1:=h.1.pi;by_cases r1:22<Fx.cW T 24
 .have rd:decide ((2:Int)<=24-(Fx.cW T 24:Int))=bA:=by simp;omega
  have FIN:Hid (Fx.vR T S 0 0 4 T S):=hJ (.inl ⟨r1,rfl,rfl,rfl,rfl,rfl⟩);go_in
  go_wp2_with fail
  refine sC (pM t b p 2 T _ HF.1) ?_;rintro W3 hW3;subst W3;rw[rd];go_wp2_with fail
  (try simp only[Exit.then]);refine bodyPost_ret (Fx.results3 rfl _ _ _) rfl ?_
  exact⟨0,0,4,T,S,rfl,FIN.v,HF.v,dJ.refl _ _ _ _⟩
 .have rd:decide ((2:Int)<=24-(Fx.cW T 24:Int))=bw:=by simp;omega
  have r2:Fx.cW T 24<=22:=bB
  have R2:=hJ r2;go_in
  go_wp2_with fail
  refine sC (pM t b p 2 T _ HF.1) ?_;rintro W3 hW3;subst W3;rw[rd];go_wp2_with fail
  refine(LX p S _ HF.2.2.1).mono ?_;rintro e W4 ⟨n,E4,rfl,hf,h4,f4⟩;by_cases e0:E4=0
  .subst e0;obtain⟨a,c,ha,hc⟩:=Fx.OO (T:=T) ⟨2,n,bA,0,1⟩ R2.v;have FIN:Hid (Fx.vR T S a c 0 (Fx.put (Fx.put T a ⟨2,n,bA,0,1⟩) c ⟨3,n,bA,0,1⟩) (Pp.jX S n 0)):=hJ (.inr ⟨R2.v,n,0,hf, .inr ⟨rfl,rfl,ha,hc,rfl,rfl⟩⟩);have HA:=hJ ha;have HC:=hJ hc;have H4:=hJ (HF.pi h4 f4);have F4:Hid (dJ t b p w W4):=hJ (dJ.pi f4);rw[bF];go_wp2_with fail
   refine sC (yk t b p ⟨2,n,bA,0,0⟩ a T _ H4.1 HA.v) ?_;rintro W5 ⟨h5,f5⟩;have H5:=hJ (H4.tb h5 f5);have F5:=hJ (F4.trans (dJ.tb f5));go_wp2_with fail
   refine sC (yk t b p ⟨3,n,bA,0,0⟩ c _ _ H5.1 HC.v) ?_;rintro W6 ⟨h6,f6⟩;have H6:=hJ (H5.tb h6 f6);have F6:=hJ (F5.trans (dJ.tb f6));go_wp2_with fail
   (try simp only[Exit.then]);refine bodyPost_ret (Fx.results3 rfl _ _ _) rfl ?_
   exact⟨a,c,0,_,_,rfl,FIN.v,H6.v,F6.v⟩
  .have eM:Pp.jX S n E4=S:=aI e0;rw[eM]at h4;have FIN:Hid (Fx.vR T S 0 0 E4 T S):=hJ (.inr ⟨R2.v,n,E4,hf, .inl ⟨e0,rfl,rfl,rfl,rfl,rfl⟩⟩);have H4:=hJ (HF.pi h4 f4);have F4:Hid (dJ t b p w W4):=hJ (dJ.pi f4);have EV:=hJ (bH e0);rw[EV.v];go_wp2_with fail
   (try simp only[Exit.then]);refine bodyPost_ret (Fx.results3 rfl _ _ _) rfl ?_
   exact⟨0,0,E4,T,S,by rw[EV.v];rfl,FIN.v,H4.v,F4.v⟩

import Derived.Test.YtpmmdkcfenjiaaaGreatDoorUao
set_option maxRecDepth 100000
set_option maxHeartbeats 2000000
set_option linter.unusedVariables false
set_option linter.unusedSimpArgs false
namespace Go.Proofs.YtpmmdkcfenjiaaaGreatDoor
open Value renaming int->aa,pointer->ai,slice->aj,string->ak,tuple->ao,iface->aq,bool->ar,agg->au
open IntKind renaming i64->az,u8->bc
open Ending renaming returned->bf
open Obj renaming cells->bg
open Option renaming some->bh,none->bj
open Tryz (prog)
open Go.RowKit
namespace Pp
structure Pi where
 tx:bU
 reads:Nat
 writes:Nat
def Pi.no:Pi:=⟨⟨#[]⟩,0,0⟩
def put(S:Nat->Pi)(n:Nat)(x:Pi):Nat->Pi:=λm=>if m=n then x else S m
theorem bF(S:Nat->Pi)(n:Nat)(x:Pi):put S n x n=x:=aJ rfl
theorem bM(S:Nat->Pi)(n:Nat)(x:Pi)(m:Nat)(h:m≠n):put S n x m=S m:=aI h
theorem gA(S:Nat->Pi)(n:Nat)(x y:Pi):put (put S n x) n y=put S n y:=by
 funext m;unfold put;split<;>rfl
def lC(x:Pi):Bool:=decide (0<x.reads\/0<x.writes)
def jX(x:Pi)(wr:Bool):Nat:=if wr then x.writes else x.reads
def jA(S:Nat->Pi)(z:Int):Int:=if z<0\/7<z then 1 else if lC (S z.toNat)then 0 else 2
def gW(S:Nat->Pi)(z:Int)(wr:Bool):Int:=if jA S z≠0 then jA S z else if jX (S z.toNat) wr=0 then 8 else 0
theorem Ff{S:Nat->Pi}{z:Int}(h:jA S z=0):∃n:Nat,z=n/\n<8/\lC (S n)=true:=by
 unfold jA at h;by_cases c:z<0\/7<z
 .rw[aJ c]at h;omega
 .rw[aI c]at h;refine⟨z.toNat,bu,bu,?_⟩;by_cases d:lC (S z.toNat)=true
  .exact d
  .rw[aI d]at h;omega
theorem Cx{S:Nat->Pi}{z:Int}{wr:Bool}(h:gW S z wr=0):∃n:Nat,z=n/\n<8/\lC (S n)=true/\jX (S n) wr≠0:=by
 unfold gW at h;by_cases c:jA S z≠0
 .rw[aJ c]at h;exact aZ h c
 .rw[aI c]at h;obtain⟨n,rfl,hn,ht⟩:=Ff (by omega:jA S z=0);refine⟨n,rfl,hn,ht,λd=>?_⟩;rw[hZ,aJ d]at h;omega
def eO(t:bU):List Value:=t.data.toList.map λx=>aa bc (x.toNat:Int)
theorem jG(t:bU):(eO t).length=t.size:=by simp[eO]
end Pp
open Pp (Pi)
structure dH (w:bD)(b:Nat)(S:Nat->Pi):Prop where
 cU:∃C T,w.heap[b]? =bh (bg C T (0,0))/\C.size=120
 dA:∀n,n<8->∀j v,(Pp.eO (S n).tx)[j]? =bh v->w.cell? ⟨b,n*15+j,bj⟩=bh v
 many:∀n,n<8->w.cell? ⟨b,n*15+12,bj⟩=bh (aa az ((S n).tx.size:Int))
 reads:∀n,n<8->w.cell? ⟨b,n*15+13,bj⟩=bh (aa az ((S n).reads:Int))
 writes:∀n,n<8->w.cell? ⟨b,n*15+14,bj⟩=bh (aa az ((S n).writes:Int))
 small:∀n,n<8->(S n).tx.size<=12
section
variable {w w':bD}{b:Nat}{S:Nat->Pi}
theorem dH.lt(h:dH w b S):b<w.heap.size:=by
 obtain⟨C,T,e,_⟩:=h.cU;exact(aX.1 e).1
theorem dH.frozen(h:dH w b S)(o:Nat):w.frozen? ⟨b,o,bj⟩=false:=by
 obtain⟨C,T,e,_⟩:=h.cU;exact cv e o
theorem dH.EC(h:dH w b S)(o:Nat)(ho:o<120):(w.cell? ⟨b,o,bj⟩).isSome=true:=by
 obtain⟨C,T,e,hC⟩:=h.cU;rw[bO e,Array.getElem?_eq_getElem bu];rfl
theorem dH.same(h:dH w b S)(e:w'.heap[b]? =w.heap[b]?):dH w' b S:=by
 have hc:∀o,w'.cell? ⟨b,o,bj⟩=w.cell? ⟨b,o,bj⟩:=λo=>aV e;exact⟨by rw[e];exact h.cU,λn hn j v hv=>(hc _).trans (h.dA n hn j v hv),λn hn=>(hc _).trans (h.many n hn),λn hn=>(hc _).trans (h.reads n hn),λn hn=>(hc _).trans (h.writes n hn),h.small⟩
theorem dH.drew(h:dH w b S):dH w.drew b S:=h.same rfl
theorem dH.drewN(h:dH w b S)(n:Nat):dH (w.drewN n) b S:=h.same rfl
theorem dH.below{B:Nat}(h:dH w b S)(k:Below B w w')(hb:b<B):dH w' b S:=h.same (k.block b hb)
theorem dH.lN{c:Nat}(h:dH w b S)(k:bE c w w')(hb:b≠c):dH w' b S:=h.same (k.block b h.lt hb)
end
def kT(b:Nat)(z E:Int):Value:=if E=0 then ai (bh ⟨b,z.toNat*15,bj⟩)else ai bj
theorem rG(b n:Nat):kT b (n:Int) 0=ai (bh ⟨b,n*15,bj⟩):=by unfold kT;rw[aJ rfl,hZ]
theorem nL{b:Nat}{z E:Int}(h:E≠0):kT b z E=ai none:=aI h
theorem pg(b n:Nat)(S:Nat->Pi)(w:bD)(h:dH w b S)(hn:n<8):
  Calls prog 159 #[ai (bh ⟨b,n*15,bj⟩)] w λe w'=>e=bf (ar (Pp.lC (S n)))/\w'=w:=by
 have c1:=h.reads n hn;have c2:=h.writes n hn;unfold Pp.lC;generalize (S n).reads=r at c1|-;generalize (S n).writes=u at c2|-;by_cases r0:0<r
 .have r1:(0:Int)<(r:Int):=bu
  go_in
  go_wp2
  go_ret
  exact⟨cQ (by simp[r0]),rfl⟩
 .have r1:¬(0:Int)<(r:Int):=bu
  go_in
  go_wp2
  go_ret
  exact⟨cQ (by simp),rfl⟩
theorem xX(b o:Nat)(wr:Bool)(w:bD):
  Calls prog 270 #[ai (bh ⟨b,o,bj⟩),ar wr] w λe w'=>e=bf (ai (bh ⟨b,o+(if wr then 14 else 13),bj⟩))/\w'=w:=by
 cases wr
 .go_in
  go_wp2
  go_ret
  exact⟨rfl,rfl⟩
 .go_in
  go_wp2
  go_ret
  exact⟨rfl,rfl⟩
theorem uk(b:Nat)(z:Int)(S:Nat->Pi)(w:bD)(h:dH w b S):
  Calls prog 289 #[ai (bh ⟨b,0,bj⟩),aa az z] w λe w'=>e=bf (ao #[kT b z (Pp.jA S z),bG (Pp.jA S z)])/\w'=w:=by
 have HF:=hJ h;by_cases c:z<0\/7<z
 .have E:Hid (Pp.jA S z=1):=hJ (aJ c);have E2:Hid (kT b z 1=ai bj):=hJ (nL bA);by_cases c1:z<0
  .clear c h;go_in
   go_wp2
   go_ret2
   rw[E.v,E2.v];exact⟨rfl,rfl⟩
  .have c2:8<=z:=bu
   go_in
   go_wp2
   go_ret2
   rw[E.v,E2.v];exact⟨rfl,rfl⟩
 .obtain⟨n,rfl⟩:∃n:Nat,z=n:=⟨z.toNat,bu⟩;have n8:n<8:=bu
  have n8i:(n:Int)<8:=bu
  have E:Pp.jA S (n:Int)=if Pp.lC (S n)then 0 else 2:=by unfold Pp.jA;rw[aI c,hZ]
  by_cases d:Pp.lC (S n)=true
  .have E1:Hid (Pp.jA S (n:Int)=0/\kT b (n:Int) 0=ai (bh ⟨b,n*15,bj⟩)/\Pp.lC (S n)=true):=hJ ⟨by rw[E,aJ d],rG b n,d⟩;go_in
   go_wp2_with fail
   refine sC (pg b n S _ HF.v n8) ?_;rintro w1 hw1;subst w1;rw[E1.2.2];go_wp2
   go_ret2
   rw[E1.1,E1.2.1];exact⟨rfl,rfl⟩
  .have E1:Hid (Pp.jA S (n:Int)=2/\kT b (n:Int) 2=ai bj/\Pp.lC (S n)=false):=hJ ⟨by rw[E,aI d],nL bA,by simpa using d⟩;go_in
   go_wp2_with fail
   refine sC (pg b n S _ HF.v n8) ?_;rintro w1 hw1;subst w1;rw[E1.2.2];go_wp2
   go_ret2
   rw[E1.1,E1.2.1];exact⟨rfl,rfl⟩
theorem iV(b:Nat)(z:Int)(wr:Bool)(S:Nat->Pi)(w:bD)(h:dH w b S):
  Calls prog 269 #[ai (bh ⟨b,0,bj⟩),aa az z,ar wr] w λe w'=>e=bf (ao #[kT b z (Pp.gW S z wr),bG (Pp.gW S z wr)])/\w'=w:=by
 have HF:=hJ h;by_cases c:Pp.jA S z=0
 .obtain⟨n,rfl,n8,_⟩:=Pp.Ff c;have c0:w.cell? ⟨b,n*15+(if wr then 14 else 13),bj⟩=bh (aa az (Pp.jX (S n) wr:Int)):=by
   cases wr
   .exact h.reads n n8
   .exact h.writes n n8
  have EP:Hid (Pp.jA S (n:Int)=0/\kT b (n:Int) 0=ai (bh ⟨b,n*15,bj⟩)):=hJ ⟨c,rG b n⟩;have EO:Pp.gW S (n:Int) wr=if Pp.jX (S n) wr=0 then 8 else 0:=by unfold Pp.gW;rw[aI (λd=>d c),hZ]
  obtain⟨o,ho⟩:=hU ((if wr then 14 else 13));have T:Hid (∀W:bD,Calls prog 270 #[ai (bh ⟨b,n*15,bj⟩),ar wr] W λe w'=>e=bf (ai (bh ⟨b,n*15+o,bj⟩))/\w'=W):=hJ (λW=>by
   have:=xX b (n*15) wr W;rw[ho]at this;exact this)
  rw[ho]at c0;by_cases d:Pp.jX (S n) wr=0
  .have FIN:Hid (Pp.gW S (n:Int) wr=8/\kT b (n:Int) 8=ai bj):=hJ ⟨by rw[EO,aJ d],nL bA⟩;rw[d]at c0;have c1:w.cell? ⟨b,n*15+o,bj⟩=bh (aa .i64 0):=c0;go_in
   go_wp2_with fail
   refine sC (uk b n S _ HF.v) ?_;rintro w1 hw1;subst w1;rw[EP.1,EP.2,bB];go_wp2_with fail
   refine sC (T.v _) ?_;rintro w1 hw1;subst w1;go_wp2
   go_ret2
   rw[FIN.1,FIN.2];exact⟨rfl,rfl⟩
  .have FIN:Hid (Pp.gW S (n:Int) wr=0):=hJ (by rw[EO,aI d]);generalize Pp.jX (S n) wr=k at d c0;have d1:¬(k:Int)=0:=bu
   go_in
   go_wp2_with fail
   refine sC (uk b n S _ HF.v) ?_;rintro w1 hw1;subst w1;rw[EP.1,EP.2,bB];go_wp2_with fail
   refine sC (T.v _) ?_;rintro w1 hw1;subst w1;go_wp2
   go_ret2
   rw[FIN.v,EP.2];exact⟨rfl,rfl⟩
 .have E2:Hid (kT b z (Pp.jA S z)=ai bj/\bG (Pp.jA S z)=aq 100 (aa az (Pp.jA S z))/\Pp.gW S z wr=Pp.jA S z):=hJ ⟨nL c,bC c,aJ c⟩;go_in
  go_wp2_with fail
  refine sC (uk b z S _ HF.v) ?_;rintro w1 hw1;subst w1;rw[E2.1,E2.2.1];go_wp2
  go_ret2
  rw[E2.2.2,E2.1,E2.2.1];exact⟨rfl,rfl⟩
theorem Pp.jc{b:Nat}:∀(vs:List Value) (o:Nat) {u w:bD},bE b u w->bE b u (w.setCells b o vs)
 |[],_,_,_,h=>h
 |v::r,o,u,w,h=>by rw[World.setCells];exact Pp.jc r (o+1) (h.setCell o v)
theorem Pp.ja(b:Nat):∀(vs:List Value) (o:Nat) (w:bD) (C:Array Value) {T:TypeId},w.heap[b]? =bh (bg C T (0,0))->∃C',(w.setCells b o vs).heap[b]? =bh (bg C' T (0,0))/\C'.size=C.size
 |[],_,_,C,_,h=>⟨C,h,rfl⟩
 |v::r,o,w,C,_,h=>by
  rw[World.setCells];obtain⟨C',h1,h2⟩:=Pp.ja b r (o+1) _ _ (cE h o v);exact⟨C',h1,by simpa using h2⟩
def Pp.lJ(x:Pi)(wr:Bool)(k:Nat):Pi:=if wr then{x with writes:=k}else{x with reads:=k}
def Pp.ng(r u:Nat):Array Value:=#[aa bc 0,aa bc 0,aa bc 0,aa bc 0,aa bc 0,aa bc 0,aa bc 0,aa bc 0,aa bc 0,aa bc 0,aa bc 0,aa bc 0,aa az 0,aa az (r:Int),aa az (u:Int)]
section
variable {w:bD}{b:Nat}{S:Nat->Pi}
theorem Pp.ow{t:bU}{j:Nat}{v:Value}(h:(Pp.eO t)[j]? =bh v):j<t.size:=by
 have:=(aY.1 h).1;rw[Pp.jG]at this;exact this
theorem dH.lJ(h:dH w b S)(n:Nat)(hn:n<8)(wr:Bool)(k:Nat):dH (w.setCell ⟨b,n*15+(if wr then 14 else 13),bj⟩ (aa az (k:Int))) b (Pp.put S n (Pp.lJ (S n) wr k)):=by
 obtain⟨C,T,h1,h2⟩:=h.cU;have ne:∀o,o≠n*15+(if wr then 14 else 13)->(w.setCell ⟨b,n*15+(if wr then 14 else 13),bj⟩ (aa az (k:Int))).cell? ⟨b,o,bj⟩=w.cell? ⟨b,o,bj⟩:=λo ho=>da h1 _ _ _ (bQ ho);have eq:(w.setCell ⟨b,n*15+(if wr then 14 else 13),bj⟩ (aa az (k:Int))).cell? ⟨b,n*15+(if wr then 14 else 13),bj⟩=bh (aa az (k:Int)):=du h1 _ _ (by split<;>omega);have tx:(Pp.lJ (S n) wr k).tx=(S n).tx:=by cases wr<;>rfl
 refine⟨⟨_,T,cE h1 _ _,by simpa using h2⟩,λm hm j v hv=>?_,λm hm=>?_,λm hm=>?_,λm hm=>?_,λm hm=>?_⟩
 .by_cases c:m=n
  .subst c;rw[Pp.bF,tx]at hv;have:=Pp.ow hv;have:=h.small m hm;rw[ne _ (by split<;>omega)];exact h.dA m hm j v hv
  .rw[Pp.bM _ _ _ _ c]at hv;have:=Pp.ow hv;have:=h.small m hm;rw[ne _ (by split<;>omega)];exact h.dA m hm j v hv
 .rw[ne _ (by split<;>omega),h.many m hm];by_cases c:m=n
  .subst c;rw[Pp.bF,tx]
  .rw[Pp.bM _ _ _ _ c]
 .by_cases c:m=n
  .subst c;rw[Pp.bF];cases wr
   .exact eq
   .rw[ne _ (by simp)];exact h.reads m hm
  .rw[Pp.bM _ _ _ _ c,ne _ (by split<;>omega),h.reads m hm]
 .by_cases c:m=n
  .subst c;rw[Pp.bF];cases wr
   .rw[ne _ (by simp)];exact h.writes m hm
   .exact eq
  .rw[Pp.bM _ _ _ _ c,ne _ (by split<;>omega),h.writes m hm]
 .by_cases c:m=n
  .subst c;rw[Pp.bF,tx];exact h.small m hm
  .rw[Pp.bM _ _ _ _ c];exact h.small m hm
theorem dH.Ov(h:dH w b S)(n:Nat)(hn:n<8)(r u:Nat):dH (w.setCells b (n*15) (Pp.ng r u).toList) b (Pp.put S n ⟨⟨#[]⟩,r,u⟩):=by
 obtain⟨C,T,h1,h2⟩:=h.cU;obtain⟨C',k1,k2⟩:=Pp.ja b (Pp.ng r u).toList (n*15) w C h1;have out:∀o,o<n*15\/n*15+15<=o->(w.setCells b (n*15) (Pp.ng r u).toList).cell? ⟨b,o,bj⟩=w.cell? ⟨b,o,bj⟩:=λo ho=>aA b _ (n*15) w ⟨b,o,bj⟩ (λ_ _=>by show o<_\/_<=o;exact ho);have rz:∀j (hj:j<15),(w.setCells b (n*15) (Pp.ng r u).toList).cell? ⟨b,n*15+j,bj⟩=bh ((Pp.ng r u).toList[j]'hj):=λj hj=>aS b (Pp.ng r u).toList (n*15) w (λi hi=>h.EC _ (by have:i<15:=hi;omega)) j hj;refine⟨⟨C',T,k1,bu⟩,λm hm j v hv=>?_,λm hm=>?_,λm hm=>?_,λm hm=>?_,λm hm=>?_⟩
 .by_cases c:m=n
  .subst c;rw[Pp.bF]at hv;exact aZ (Pp.ow hv) (by show¬j<0;omega)
  .rw[Pp.bM _ _ _ _ c]at hv;have:=Pp.ow hv;have:=h.small m hm;rw[out _ bu];exact h.dA m hm j v hv
 .by_cases c:m=n
  .subst c;rw[Pp.bF];exact rz 12 bu
  .rw[Pp.bM _ _ _ _ c,out _ bu];exact h.many m hm
 .by_cases c:m=n
  .subst c;rw[Pp.bF];exact rz 13 bu
  .rw[Pp.bM _ _ _ _ c,out _ bu];exact h.reads m hm
 .by_cases c:m=n
  .subst c;rw[Pp.bF];exact rz 14 bu
  .rw[Pp.bM _ _ _ _ c,out _ bu];exact h.writes m hm
 .by_cases c:m=n
  .subst c;rw[Pp.bF];exact aC _
  .rw[Pp.bM _ _ _ _ c];exact h.small m hm
theorem dH.Ft(h:dH w b S)(n:Nat)(hn:n<8)(r u:Nat):w.there b (n*15) (Pp.ng r u).size:=λj hj=>by
 have:j<15:=hj;exact⟨h.EC _ bu,h.frozen _⟩
theorem Pp.zQ(r u:Nat):(prog.info? 119).map (·.size)=bh (Pp.ng r u).size:=by
 show _=bh 15;kernel_rfl
theorem Pp.Fc(r u:Nat):(Pp.ng r u).all (·.oneCell')=true:=by simp[Pp.ng,Value.oneCell']
end
section
variable {ops:Array Oper}{rest:List Oper}{x:Oper}{a:Act}{w:bD}{Q:Exit->Act->bD->Prop}
theorem Pp.Kx(hgd:x.guard=bj)(ho:x.op= .build 119 #[])(h:wpList prog ops Q rest (a.put x.dst (au (Pp.ng 0 0))) w):wpList prog ops Q (x::rest) a w:=
 wpList_plain hgd λ_ hK=>by
  unfold Oper.wp execOp;simp only[ho];simp[go_sem];exact hK _ _ h
theorem Pp.Ky(hgd:x.guard=bj)(ho:x.op= .build 119 #[(2, .const (aa .i64 1)),(3, .const (aa .i64 1))])(h:wpList prog ops Q rest (a.put x.dst (au (Pp.ng 1 1))) w):wpList prog ops Q (x::rest) a w:=
 wpList_plain hgd λ_ hK=>by
  unfold Oper.wp execOp;simp only[ho];simp[go_sem];exact hK _ _ h
end
def Pp.less(x:Pi)(wr:Bool):Pi:=if Pp.lC (Pp.lJ x wr (Pp.jX x wr-1))then Pp.lJ x wr (Pp.jX x wr-1)else Pi.no
def Pp.pJ(S:Nat->Pi)(z:Int)(wr:Bool):Nat->Pi:=if Pp.gW S z wr=0 then Pp.put S z.toNat (Pp.less (S z.toNat) wr)else S
theorem dH.jX{w:bD}{b:Nat}{S:Nat->Pi}(h:dH w b S)(n:Nat)(hn:n<8)(wr:Bool):w.cell? ⟨b,n*15+(if wr then 14 else 13),bj⟩=bh (aa az (Pp.jX (S n) wr:Int)):=by
 cases wr
 .exact h.reads n hn
 .exact h.writes n hn
theorem JL(b:Nat)(z:Int)(wr:Bool)(S:Nat->Pi)(w:bD)(h:dH w b S)(hb:∀n,n<8->Pp.jX (S n) wr<2^60):
  Calls prog 227 #[ai (bh ⟨b,0,bj⟩),aa az z,ar wr] w λe w'=>e=bf (bG (Pp.gW S z wr))/\dH w' b (Pp.pJ S z wr)/\bE b w w':=by
 have HF:=hJ h;by_cases c:Pp.gW S z wr=0
 .obtain⟨n,rfl,n8,_,t0⟩:=Pp.Cx c;have EP:Hid (Pp.gW S (n:Int) wr=0/\kT b (n:Int) 0=ai (bh ⟨b,n*15,bj⟩)):=hJ ⟨c,rG b n⟩;have ED:Pp.pJ S (n:Int) wr=Pp.put S n (Pp.less (S n) wr):=by unfold Pp.pJ;rw[aJ c,hZ]
  have c0:=h.jX n n8 wr;have hl:=hb n n8;have T:=hJ (xX b (n*15) wr);have S1:Hid (dH (w.setCell ⟨b,n*15+(if wr then 14 else 13),bj⟩ (aa az ((Pp.jX (S n) wr-1:Nat):Int))) b (Pp.put S n (Pp.lJ (S n) wr (Pp.jX (S n) wr-1)))):=hJ (h.lJ n n8 wr _);have cf:=h.frozen;have HL:Hid (Pp.less (S n) wr=if Pp.lC (Pp.lJ (S n) wr (Pp.jX (S n) wr-1))then Pp.lJ (S n) wr (Pp.jX (S n) wr-1)else Pi.no):=hJ rfl;generalize hX:Pp.lJ (S n) wr (Pp.jX (S n) wr-1)=X at S1 HL;generalize (if wr then 14 else 13)=o at c0 T S1;generalize Pp.jX (S n) wr=k at*;obtain⟨q,rfl⟩:∃q,k=q+1:=⟨k-1,bu⟩;have hw:IntKind.i64.wrap ((q+1:Nat)-1:Int)=(q:Int):=(aN _ ⟨by omega,bu⟩).trans bu;rw[aP]at S1;obtain⟨k1,hk1⟩:=hU (((q+1:Nat):Int));rw[hk1]at c0 hw;go_in
  go_wp2_with fail
  refine sC (iV b n wr S _ HF.v) ?_;rintro w1 hw1;subst w1;rw[EP.1,EP.2,bB];go_wp2_with fail
  refine sC (T.v _) ?_;rintro w1 hw1;subst w1;go_wp2_with fail
  have TH:=hJ (pg b n _ _ S1.v n8);rw[Pp.bF]at TH;refine sC TH.v ?_;rintro w1 hw1;subst w1;have F1:Hid (bE b w (w.setCell ⟨b,n*15+o,bj⟩ (aa az (q:Int)))):=hJ ((bE.refl b w).setCell _ _);cases hth:Pp.lC X
  .have TH:=hJ (S1.Ft n n8 0 0);have HS:=hJ (Pp.zQ 0 0);have H1:=hJ (Pp.Fc 0 0);have FIN:Hid (dH ((w.setCell ⟨b,n*15+o,bj⟩ (aa az (q:Int))).setCells b (n*15) (Pp.ng 0 0).toList) b (Pp.pJ S (n:Int) wr)/\bE b w ((w.setCell ⟨b,n*15+o,bj⟩ (aa az (q:Int))).setCells b (n*15) (Pp.ng 0 0).toList)):=hJ (by
    have:=S1.Ov n n8 0 0;rw[Pp.gA]at this;rw[ED,HL.v,hth,aI bA];exact⟨this,Pp.jc _ _ F1.v⟩)
   obtain⟨A,hA⟩:=hU (Pp.ng 0 0);rw[hA]at FIN TH HS H1;generalize w.setCell ⟨b,n*15+o,bj⟩ (aa az (q:Int))=W at*;go_wp2_with (first|(refine Pp.Kx rfl rfl ?_;rw[hA])|(refine wpList_store_mid rfl 119 _ _ rfl b (n*15) A rfl rfl TH.v HS.v H1.v ?_))
   go_ret
   rw[EP.1];exact⟨rfl,FIN.v⟩
  .have FIN:Hid (dH (w.setCell ⟨b,n*15+o,bj⟩ (aa az (q:Int))) b (Pp.pJ S (n:Int) wr)):=hJ (by
    rw[ED,HL.v,hth,aJ rfl];exact S1.v)
   generalize w.setCell ⟨b,n*15+o,bj⟩ (aa az (q:Int))=W at*;go_wp2
   go_ret
   rw[EP.1];exact⟨rfl,FIN.v,F1.v⟩
 .have E2:Hid (kT b z (Pp.gW S z wr)=ai bj/\bG (Pp.gW S z wr)=aq 100 (aa az (Pp.gW S z wr))/\Pp.pJ S z wr=S):=hJ ⟨nL c,bC c,aI c⟩;go_in
  go_wp2_with fail
  refine sC (iV b z wr S _ HF.v) ?_;rintro w1 hw1;subst w1;rw[E2.1,E2.2.1];go_wp2
  go_ret
  rw[E2.2.2,E2.2.1];exact⟨rfl,HF.v,bE.refl _ _⟩
theorem Pp.yR(t:bU)(a e:Nat):Pp.eO (t.extract a e)=((Pp.eO t).drop a).take (e-a):=by
 unfold Pp.eO;rw[ByteArray.data_extract,Array.toList_extract,List.extract,List.map_take,List.map_drop]
theorem Pp.OW(s t:bU):Pp.eO (s++t)=Pp.eO s++Pp.eO t:=by
 unfold Pp.eO;rw[ByteArray.data_append,Array.toList_append,List.map_append]
section
variable {P:Program}
theorem Pp.Ax(w:bD)(dT sT ty elem:TypeId)(b o dLen dCap:Nat)(t:bU)(hu:P.underlying dT=bh (.slice elem))(hz:∀w,(Go.sizeOf elem).run P w= .ok 1 w)
  (hc:∀j,j<min t.size dLen->(w.cell? ⟨b,o+j,bj⟩).isSome=true) (hf:∀j,j<min t.size dLen->w.frozen? ⟨b,o+j,bj⟩=false):
  (Builtin.copy_ #[dT,sT] ty #[aj (bh ⟨b,o,bj⟩) dLen dCap,ak t]).run P w= .ok (goInt ((min t.size dLen:Nat):Int)) (w.setCells b o (Pp.eO (t.extract 0 (min t.size dLen)))):=by
 have hl:(Pp.eO (t.extract 0 (min t.size dLen))).length=min t.size dLen:=by rw[Pp.jG,ByteArray.size_extract];omega
 have hst:=run_storeCells_cells (P:=P) b o (Pp.eO (t.extract 0 (min t.size dLen))) 0 w (by rw[hl];simpa using hc) (by rw[hl];simpa using hf) (by
  intro v hv;obtain⟨x,_,rfl⟩:=List.mem_map.1 hv;rfl)
 have hm:Nat.min t.size dLen=min t.size dLen:=rfl;have ht:List.take (min t.size dLen) (List.map (λx:UInt8=>aa bc (x.toNat:Int)) t.data.toList)=Pp.eO (t.extract 0 (min t.size dLen)):=by
  rw[Pp.yR,List.drop_zero,Nat.sub_zero];rfl
 simp[Builtin.copy_,run_underlying hu,Builtin.lenOf,Builtin.firstCells,hz,hm];rw[ht,hst];rfl
theorem Pp.CV(w:bD)(ty:TypeId)(d:Option Addr)(dLen dCap:Nat):(Builtin.copy_ #[316,9] ty #[aj d dLen dCap,ak ⟨#[]⟩]).run prog w= .ok (goInt 0) w:=by
 have hu:prog.underlying 316=bh (.slice 5):=by kernel_rfl
 have hz:∀w,(Go.sizeOf 5).run prog w= .ok 1 w:=λw=>by rfl
 have e0:ByteArray.size ⟨#[]⟩=0:=rfl;cases d<;>simp[Builtin.copy_,run_underlying hu,Builtin.lenOf,Builtin.firstCells,hz,e0,storeCells]
theorem Pp.oG{ops:Array Oper}{o:Oper}{a:Act}{w:bD}{K:Act->bD->Prop}{Q:Exit->Act->bD->Prop}{E:Prop}
  (hg:o.guard=bj) (d x:Operand) (dT sT:TypeId) (hop:o.op=Op.call {callee:=Callee.builtin Builtin.copy,args:=#[d,x],argTypes:=#[dT,sT]})
  (v1 v2 r:Value) (W:bD) (hd:a.eval d=v1) (hx:a.eval x=v2) (hrun:(Builtin.copy_ #[dT,sT] o.type #[v1,v2]).run P w= .ok r W) (hK:K (a.put o.dst r) W):
  if Region.wanted o (yielded ops a.tmps)=true then Oper.wp P o a w K Q else E:=by
 have hw:Region.wanted o (yielded ops a.tmps)=true:=by simp[Region.wanted,hg]
 rw[aJ hw];unfold Oper.wp;simp[execOp,hop,resolve,invoke,builtin,hd,hx,hrun,Result.andThen];exact hK
end
section
variable {w:bD}{b:Nat}{S:Nat->Pi}
theorem dH.wrote(h:dH w b S)(n:Nat)(hn:n<8)(t:bU)(ht:(S n).tx.size+t.size<=12):
  dH ((w.setCells b (n*15+(S n).tx.size) (Pp.eO t)).setCell ⟨b,n*15+12,bj⟩ (aa az (((S n).tx.size+t.size:Nat):Int))) b (Pp.put S n {S n with tx:=(S n).tx++t}):=by
 obtain⟨C,T,h1,h2⟩:=h.cU;obtain⟨C',k1,k2⟩:=Pp.ja b (Pp.eO t) (n*15+(S n).tx.size) w C h1;have hl:=Pp.jG t;have ne:∀o,o≠n*15+12->((w.setCells b (n*15+(S n).tx.size) (Pp.eO t)).setCell ⟨b,n*15+12,bj⟩ (aa az (((S n).tx.size+t.size:Nat):Int))).cell? ⟨b,o,bj⟩=(w.setCells b (n*15+(S n).tx.size) (Pp.eO t)).cell? ⟨b,o,bj⟩:=λo ho=>da k1 _ _ _ (bQ ho);have out:∀o,o<n*15+(S n).tx.size\/n*15+(S n).tx.size+t.size<=o->(w.setCells b (n*15+(S n).tx.size) (Pp.eO t)).cell? ⟨b,o,bj⟩=w.cell? ⟨b,o,bj⟩:=λo ho=>aA b _ _ w ⟨b,o,bj⟩ (λ_ _=>by rw[hl];exact ho);have rz:∀j (hj:j<(Pp.eO t).length),(w.setCells b (n*15+(S n).tx.size) (Pp.eO t)).cell? ⟨b,n*15+(S n).tx.size+j,bj⟩=bh ((Pp.eO t)[j]):=λj hj=>aS b (Pp.eO t) _ w (λi hi=>h.EC _ (by rw[hl]at hi;omega)) j hj;refine⟨⟨_,T,cE k1 _ _,by simp;omega⟩,λm hm j v hv=>?_,λm hm=>?_,λm hm=>?_,λm hm=>?_,λm hm=>?_⟩
 .by_cases c:m=n
  .subst c;rw[Pp.bF]at hv;have hj:=Pp.ow hv;rw[ByteArray.size_append]at hj;rw[ne _ bu];have hv:(Pp.eO (S m).tx++Pp.eO t)[j]? =bh v:=by rw[<-Pp.OW];exact hv
   by_cases d:j<(S m).tx.size
   .rw[List.getElem?_append_left (by rw[Pp.jG];exact d)]at hv;rw[out _ bu];exact h.dA m hm j v hv
   .rw[List.getElem?_append_right (by rw[Pp.jG];omega),Pp.jG]at hv;have:=rz (j-(S m).tx.size) (by rw[hl];omega);rw[show m*15+(S m).tx.size+(j-(S m).tx.size)=m*15+j by omega,<-aW,hv]at this;exact this
  .rw[Pp.bM _ _ _ _ c]at hv;have:=Pp.ow hv;have:=h.small m hm;rw[ne _ bu,out _ bu];exact h.dA m hm j v hv
 .by_cases c:m=n
  .subst c;rw[Pp.bF,du k1 _ _ bu];show _=bh (aa az ((((S m).tx++t).size:Nat):Int));rw[ByteArray.size_append]
  .rw[Pp.bM _ _ _ _ c,ne _ bu,out _ bu];exact h.many m hm
 .rw[ne _ bu,out _ bu,h.reads m hm];by_cases c:m=n
  .subst c;rw[Pp.bF]
  .rw[Pp.bM _ _ _ _ c]
 .rw[ne _ bu,out _ bu,h.writes m hm];by_cases c:m=n
  .subst c;rw[Pp.bF]
  .rw[Pp.bM _ _ _ _ c]
 .by_cases c:m=n
  .subst c;rw[Pp.bF];show((S m).tx++t).size<=12;rw[ByteArray.size_append];exact ht
  .rw[Pp.bM _ _ _ _ c];exact h.small m hm
end
def Pp.dE(S:Nat->Pi)(z:Int)(s:bU):Int:=if Pp.gW S z true≠0 then Pp.gW S z true else if(S z.toNat).reads=0 then 12 else if s.size≠0/\(S z.toNat).tx.size=12 then 13 else 0
def Pp.iu(S:Nat->Pi)(z:Int)(s:bU):Nat:=if Pp.dE S z s=0 then min s.size (12-(S z.toNat).tx.size)else 0
def Pp.eA(S:Nat->Pi)(z:Int)(s:bU):Nat->Pi:=if Pp.dE S z s=0 then Pp.put S z.toNat {S z.toNat with tx:=(S z.toNat).tx++s.extract 0 (Pp.iu S z s)}else S
theorem Hj(b:Nat)(z:Int)(s:bU)(S:Nat->Pi)(w:bD)(h:dH w b S)(hs:s.size<2^60):
  Calls prog 247 #[ai (bh ⟨b,0,bj⟩),aa az z,ak s] w λe w'=>e=bf (ao #[aa az (Pp.iu S z s:Int),bG (Pp.dE S z s)])/\dH w' b (Pp.eA S z s)/\bE b w w':=by
 have HF:=hJ h;by_cases c:Pp.gW S z true=0
 .obtain⟨n,rfl,n8,_,t0⟩:=Pp.Cx c;have EP:Hid (Pp.gW S (n:Int) true=0/\kT b (n:Int) 0=ai (bh ⟨b,n*15,bj⟩)):=hJ ⟨c,rG b n⟩;have EW:Pp.dE S (n:Int) s=if(S n).reads=0 then 12 else if s.size≠0/\(S n).tx.size=12 then 13 else 0:=by unfold Pp.dE;rw[aI (λd=>d c),hZ]
  have c1:=h.many n n8;have c2:=h.reads n n8;have no:∀E,E≠0->Pp.dE S (n:Int) s=E->Pp.iu S (n:Int) s=0/\Pp.eA S (n:Int) s=S:=λE e0 e=>⟨by unfold Pp.iu;rw[e,aI e0],by unfold Pp.eA;rw[e,aI e0]⟩;by_cases r0:(S n).reads=0
  .have e:Pp.dE S (n:Int) s=12:=by rw[EW,aJ r0]
   have FIN:Hid (Pp.dE S (n:Int) s=12/\Pp.iu S (n:Int) s=0/\Pp.eA S (n:Int) s=S):=hJ ⟨e,no 12 bA e⟩;rw[r0]at c2;have c2':w.cell? ⟨b,n*15+13,bj⟩=bh (aa .i64 0):=c2;go_in
   go_wp2_with fail
   refine sC (iV b n true S _ HF.v) ?_;rintro w1 hw1;subst w1;rw[EP.1,EP.2,bB];go_wp2
   go_ret2
   rw[FIN.1,FIN.2.1,FIN.2.2];exact⟨rfl,HF.v,bE.refl _ _⟩
  .have r1:(((S n).reads:Int)==0)=false:=by simp;omega
   by_cases s0:s.size=0
   .obtain rfl:s=⟨#[]⟩:=by
     apply ByteArray.ext;exact Array.eq_empty_of_size_eq_zero s0
    have e:Pp.dE S (n:Int) ⟨#[]⟩=0:=by rw[EW,aI r0,aI (λd=>d.1 s0)]
    have FIN:Hid (Pp.dE S (n:Int) ⟨#[]⟩=0/\Pp.iu S (n:Int) ⟨#[]⟩=0):=hJ ⟨e,by unfold Pp.iu;rw[aJ e,s0,Nat.zero_min]⟩;have FI2:Hid (dH (w.setCell ⟨b,n*15+12,bj⟩ (aa az ((S n).tx.size:Int))) b (Pp.eA S (n:Int) ⟨#[]⟩)):=hJ (by
     have q:=h.wrote n n8 ⟨#[]⟩ (by have:=h.small n n8;rw[s0];omega);unfold Pp.eA;rw[aJ e,hZ,FIN.2];exact q)
    have sm:=h.small n n8;generalize (S n).reads=rr at*;generalize (S n).tx.size=mm at*;have z12:mm<=12:=sm;have cf:=h.drew.frozen;have ad0:IntKind.i64.wrap (mm:Int)=(mm:Int):=aN _ ⟨by omega,bu⟩;have z12I:(mm:Int)<=12:=bu
    have EMP:=hJ Pp.CV;go_in
    go_wp2_with fail
    refine sC (iV b n true S _ HF.v) ?_;rintro w1 hw1;subst w1;rw[EP.1,EP.2,bB];go_upto_region 8 with fail
    go_region_law (refine Pp.oG rfl _ _ 316 9 rfl (aj (bh (if 12=mm then⟨b,n*15,bj⟩else⟨b,n*15+mm,bj⟩)) (12-mm) (12-mm)) (ak ⟨#[]⟩) _ _ (by simp[Act.eval,Act.put]) (by simp[Act.eval,Act.put]) (EMP.v _ _ _ _ _) ?_)
    generalize (if 12=mm then(⟨b,n*15,bj⟩:Addr)else⟨b,n*15+mm,bj⟩)=ad;go_wp2
    go_ret2
    rw[FIN.1,FIN.2];exact⟨rfl,FI2.drew,((bE.refl b w).setCell _ _).drew⟩
   .have sl:(s.toList==[])=false:=by
     rw[beq_eq_false_iff_ne];intro e;rw[ByteArray.toList_eq]at e;apply s0;show s.data.size=0;rw[<-aB,e];rfl
    by_cases m12:(S n).tx.size=12
    .have e:Pp.dE S (n:Int) s=13:=by rw[EW,aI r0,aJ ⟨s0,m12⟩]
     have FIN:Hid (Pp.dE S (n:Int) s=13/\Pp.iu S (n:Int) s=0/\Pp.eA S (n:Int) s=S):=hJ ⟨e,no 13 bA e⟩;rw[m12]at c1;have c1':w.cell? ⟨b,n*15+12,bj⟩=bh (aa .i64 12):=c1;generalize (S n).reads=rr at*;go_in
     go_wp2_with fail
     refine sC (iV b n true S _ HF.v) ?_;rintro w1 hw1;subst w1;rw[EP.1,EP.2,bB];go_wp2
     go_ret2
     rw[FIN.1,FIN.2.1,FIN.2.2];exact⟨rfl,HF.v,bE.refl _ _⟩
    .have e:Pp.dE S (n:Int) s=0:=by rw[EW,aI r0,aI (λd=>m12 d.2)]
     have sm:=h.small n n8;obtain⟨k,hk⟩:=hU (min s.size (12-(S n).tx.size));have eK:Pp.iu S (n:Int) s=k:=by unfold Pp.iu;rw[aJ e,hZ,hk]
     have FIN:Hid (Pp.dE S (n:Int) s=0/\Pp.iu S (n:Int) s=k):=hJ ⟨e,eK⟩;have MID:Hid (∀V,dH V b S->bE b w V->(V.setCells b (n*15+(S n).tx.size) (Pp.eO (s.extract 0 k))).cell? ⟨b,n*15+12,bj⟩=bh (aa az ((S n).tx.size:Int))/\(∀o,(V.setCells b (n*15+(S n).tx.size) (Pp.eO (s.extract 0 k))).frozen? ⟨b,o,bj⟩=false)
       /\dH ((V.setCells b (n*15+(S n).tx.size) (Pp.eO (s.extract 0 k))).setCell ⟨b,n*15+12,bj⟩ (aa az (((S n).tx.size+k:Nat):Int))) b (Pp.eA S (n:Int) s)/\bE b w (V.setCells b (n*15+(S n).tx.size) (Pp.eO (s.extract 0 k)))):=hJ (λV hV fV=>by
      have z:(s.extract 0 k).size=k:=by rw[ByteArray.size_extract];omega
      have q:=hV.wrote n n8 (s.extract 0 k) (by rw[z];omega);rw[z]at q;obtain⟨C,T,h1,_⟩:=hV.cU;obtain⟨C',k1,_⟩:=Pp.ja b (Pp.eO (s.extract 0 k)) (n*15+(S n).tx.size) V C h1;refine⟨?_,λo=>cv k1 o,?_,Pp.jc _ _ fV⟩
      .rw[aA b _ _ V ⟨b,n*15+12,bj⟩ (λ_ _=>by rw[Pp.jG,z];show n*15+12<_\/_<=n*15+12;omega)];exact hV.many n n8
      .unfold Pp.eA;rw[aJ e,hZ,eK];exact q)
     have CP:Hid (∀V ty,dH V b S->(Builtin.copy_ #[316,9] ty #[aj (bh ⟨b,n*15+(S n).tx.size,bj⟩) (12-(S n).tx.size) (12-(S n).tx.size),ak s]).run prog V= .ok (goInt (k:Int)) (V.setCells b (n*15+(S n).tx.size) (Pp.eO (s.extract 0 k)))):=hJ (λV ty hV=>by
      have:=Pp.Ax (P:=prog) V 316 9 ty 5 b (n*15+(S n).tx.size) (12-(S n).tx.size) (12-(S n).tx.size) s bw (λw=>by rfl) (λj hj=>hV.EC _ bu) (λj _=>hV.frozen _);rw[hk]at this;exact this)
     generalize (S n).reads=rr at*;generalize (S n).tx.size=mm at*;have mlt:mm<12:=bu
     have mltI:(mm:Int)<12:=bu
     have mleI:(mm:Int)<=12:=bu
     have mn0:¬12=mm:=bu
     have mn0':¬mm=12:=bu
     have mn1:¬12-mm=0:=bu
     have mn2:¬(mm:Int)=12:=bu
     have mn3:((mm:Int)==12)=false:=by simp;omega
     have ad:IntKind.i64.wrap ((mm:Int)+(k:Int))=((mm+k:Nat):Int):=(aN _ ⟨by omega,bu⟩).trans bu;generalize Pp.eO (s.extract 0 k)=L at*;go_in
     go_wp2_with fail
     refine sC (iV b n true S _ HF.v) ?_;rintro w1 hw1;subst w1;rw[EP.1,EP.2,bB];go_upto_region 8 with fail
     go_region_law (refine Pp.oG rfl _ _ 316 9 rfl (aj (bh ⟨b,n*15+mm,bj⟩) (12-mm) (12-mm)) (ak s) _ _ (by simp[Act.eval,Act.put]) (by simp[Act.eval,Act.put]) (CP.v _ _ HF.drew) ?_)
     have M:=MID.v _ HF.drew (bE.refl b w).drew;generalize w.drew.setCells b (n*15+mm) L=W at M|-;obtain⟨d1,d2,d3,d4⟩:=M;have FI3:=hJ d3;have FI4:=hJ d4;go_wp2
     go_ret2
     rw[FIN.1,FIN.2];exact⟨rfl,FI3.v,FI4.setCell _ _⟩
 .have E2:Hid (kT b z (Pp.gW S z true)=ai bj/\bG (Pp.gW S z true)=aq 100 (aa az (Pp.gW S z true))/\Pp.dE S z s=Pp.gW S z true/\Pp.iu S z s=0/\Pp.eA S z s=S):=hJ (by
   have e:Pp.dE S z s=Pp.gW S z true:=aJ c;exact⟨nL c,bC c,e,by unfold Pp.iu;rw[e,aI c],by unfold Pp.eA;rw[e,aI c]⟩)
  go_in
  go_wp2_with fail
  refine sC (iV b z true S _ HF.v) ?_;rintro w1 hw1;subst w1;rw[E2.1,E2.2.1];go_wp2
  go_ret2
  rw[E2.2.2.1,E2.2.2.2.1,E2.2.2.2.2,E2.2.1];exact⟨rfl,HF.v,bE.refl _ _⟩
section
variable {w:bD}{b:Nat}{S:Nat->Pi}
theorem dH.Ua(h:dH w b S)(n:Nat)(hn:n<8)(k:Nat)(hk:k<=(S n).tx.size):
  dH ((w.setCells b (n*15) (Pp.eO ((S n).tx.extract k (S n).tx.size))).setCell ⟨b,n*15+12,bj⟩ (aa az (((S n).tx.size-k:Nat):Int))) b (Pp.put S n {S n with tx:=(S n).tx.extract k (S n).tx.size}):=by
 obtain⟨t,ht⟩:=hU ((S n).tx.extract k (S n).tx.size);have hz:t.size=(S n).tx.size-k:=by rw[<-ht,ByteArray.size_extract,Nat.min_self]
 have h12:=h.small n hn;rw[ht,<-hz];obtain⟨C,T,h1,h2⟩:=h.cU;obtain⟨C',k1,k2⟩:=Pp.ja b (Pp.eO t) (n*15) w C h1;have hl:=Pp.jG t;have ne:∀o,o≠n*15+12->((w.setCells b (n*15) (Pp.eO t)).setCell ⟨b,n*15+12,bj⟩ (aa az (t.size:Int))).cell? ⟨b,o,bj⟩=(w.setCells b (n*15) (Pp.eO t)).cell? ⟨b,o,bj⟩:=λo ho=>da k1 _ _ _ (bQ ho);have out:∀o,o<n*15\/n*15+t.size<=o->(w.setCells b (n*15) (Pp.eO t)).cell? ⟨b,o,bj⟩=w.cell? ⟨b,o,bj⟩:=λo ho=>aA b _ _ w ⟨b,o,bj⟩ (λ_ _=>by rw[hl];exact ho);have rz:∀j (hj:j<(Pp.eO t).length),(w.setCells b (n*15) (Pp.eO t)).cell? ⟨b,n*15+j,bj⟩=bh ((Pp.eO t)[j]):=λj hj=>aS b (Pp.eO t) _ w (λi hi=>h.EC _ (by rw[hl]at hi;omega)) j hj;refine⟨⟨_,T,cE k1 _ _,by simp;omega⟩,λm hm j v hv=>?_,λm hm=>?_,λm hm=>?_,λm hm=>?_,λm hm=>?_⟩
 .by_cases c:m=n
  .subst c;rw[Pp.bF]at hv;grind
  .rw[Pp.bM _ _ _ _ c]at hv;have:=Pp.ow hv;have:=h.small m hm;rw[ne _ bu,out _ bu];exact h.dA m hm j v hv
 .by_cases c:m=n
  .subst c;rw[Pp.bF,du k1 _ _ bu]
  .rw[Pp.bM _ _ _ _ c,ne _ bu,out _ bu];exact h.many m hm
 .rw[ne _ bu,out _ bu,h.reads m hm];by_cases c:m=n
  .subst c;rw[Pp.bF]
  .rw[Pp.bM _ _ _ _ c]
 .rw[ne _ bu,out _ bu,h.writes m hm];by_cases c:m=n
  .subst c;rw[Pp.bF]
  .rw[Pp.bM _ _ _ _ c]
 .by_cases c:m=n
  .subst c;rw[Pp.bF];show t.size<=12;omega
  .rw[Pp.bM _ _ _ _ c];exact h.small m hm
theorem Pp.Fh:∀(L:List UInt8) (r:bU),(L.map λx=>(x.toNat:Int)).foldl (λr n=>r.push (UInt8.ofNat n.toNat)) r=⟨r.data++L.toArray⟩
 |[],r=>by simp
 |x::L,r=>by
  rw[List.map_cons,List.foldl_cons,Pp.Fh L];simp[ByteArray.push]
def Pp.Bm(t:bU):List Int:=t.data.toList.map λx=>(x.toNat:Int)
theorem Pp.OY(t:bU):(Pp.Bm t).foldl (λr n=>r.push (UInt8.ofNat n.toNat)) ByteArray.empty=t:=by
 unfold Pp.Bm;rw[Pp.Fh];cases t;simp[ByteArray.empty,ByteArray.emptyWithCapacity];rfl
theorem Pp.OX(t:bU):(Pp.Bm t).map (Value.int bc)=Pp.eO t:=by simp[Pp.Bm,Pp.eO,Function.comp_def]
theorem dH.G9(h:dH w b S)(n k e:Nat)(hn:n<8)(hk:k<=e)(he:e<=(S n).tx.size)(ad:Addr)(had:k<e->ad=⟨b,n*15+k,bj⟩):(loadCells ad (e-k)).run prog w= .ok ((Pp.Bm ((S n).tx.extract k e)).map (Value.int bc)).toArray w:=by
 rw[Pp.OX];have hl:(Pp.eO ((S n).tx.extract k e)).length=e-k:=by rw[Pp.jG,ByteArray.size_extract];omega
 have:=run_loadCells_list (P:=prog) w ad (Pp.eO ((S n).tx.extract k e)) (λj v hv=>by
  have hj:j<e-k:=by grind
  rw[had bu];have ea:(⟨b,n*15+k,bj⟩:Addr).add j=⟨b,n*15+(k+j),bj⟩:=by rw[rZ,Nat.add_assoc]
  rw[ea];refine h.dA n hn (k+j) v ?_;rw[Pp.yR,List.getElem?_take_of_lt hj,List.getElem?_drop]at hv;exact hv)
 rw[hl]at this;exact this
theorem dH.QN(h:dH w b S)(n k:Nat)(hn:n<8)(hk:k<=(S n).tx.size)(ad:Addr)(had:k<(S n).tx.size->ad=⟨b,n*15+k,bj⟩)(c:Nat)(ty:TypeId):
  (Builtin.copy_ #[316,316] ty #[aj (bh ⟨b,n*15,bj⟩) 12 12,aj (bh ad) ((S n).tx.size-k) c]).run prog w= .ok (goInt (((S n).tx.size-k:Nat):Int)) (w.setCells b (n*15) (Pp.eO ((S n).tx.extract k (S n).tx.size))):=by
 have h12:=h.small n hn;have hl:(Pp.eO ((S n).tx.extract k (S n).tx.size)).length=(S n).tx.size-k:=by rw[Pp.jG,ByteArray.size_extract,Nat.min_self]
 have:=run_copy_cells (P:=prog) w 316 316 ty 5 b (n*15) 12 12 ad ((S n).tx.size-k) c (Pp.eO ((S n).tx.extract k (S n).tx.size)) bw bw (by rw[hl];exact(Nat.min_eq_left bu).symm)
  (λj v hv=>by
   have hj:j<(S n).tx.size-k:=by grind
   rw[had bu,rZ,Nat.add_assoc];refine h.dA n hn (k+j) v ?_;rw[Pp.yR,List.getElem?_take_of_lt hj,List.getElem?_drop]at hv;exact hv)
  (λj hj=>h.EC _ bu) (λj _=>h.frozen _) (λv hv=>by
   obtain⟨x,_,rfl⟩:=List.mem_map.1 hv;rfl)
 rw[hl]at this;exact this
end
section
variable {ops:Array Oper}{rest:List Oper}{x:Oper}{a:Act}{C:bD->Prop}{Q:Act->Prop}
theorem Pp.sL(hgd:x.guard=bj)(y:Operand)(hop:x.op=Op.convert 316 9 y)
  (ad:Addr) (k c:Nat) (hd:a.eval y=aj (bh ad) k c) (ns:List Int) (t:bU) (ht:ns.foldl (λr n=>r.push (UInt8.ofNat n.toNat)) ByteArray.empty=t) (hl:∀w,C w->(loadCells ad k).run prog w= .ok (ns.map (Value.int bc)).toArray w)
  (h:wpQuiet prog ops C Q rest (a.put x.dst (ak t))):wpQuiet prog ops C Q (x::rest) a:=by
 have hw:Region.wanted x (yielded ops a.tmps)=true:=by simp[Region.wanted,hgd]
 unfold wpQuiet;rw[aJ hw];refine⟨ak t,λw hC=>?_,h⟩;have hrun:=(run_convert_bytes_string (P:=prog) w 316 9 5 (bh ad) k c bw bw bw).trans (run_bytesToString w ad k c ns (hl w hC));rw[ht]at hrun;unfold Oper.quietAt;simp[execOp,hop,hd,hrun,Oper.quietUpon]
end
def Pp.dU(S:Nat->Pi)(z m:Int):Int:=if Pp.gW S z false≠0 then Pp.gW S z false else if m<0 then 1 else if 0<m/\(S z.toNat).tx.size=0/\0<(S z.toNat).writes then 13 else 0
def Pp.im(S:Nat->Pi)(z m:Int):bU:=if Pp.dU S z m=0 then(S z.toNat).tx.extract 0 (min m.toNat (S z.toNat).tx.size)else⟨#[]⟩
def Pp.nM(S:Nat->Pi)(z m:Int):Nat->Pi:=if Pp.dU S z m=0 then Pp.put S z.toNat {S z.toNat with tx:=(S z.toNat).tx.extract (min m.toNat (S z.toNat).tx.size) (S z.toNat).tx.size}else S
theorem JQ(b:Nat)(z m:Int)(S:Nat->Pi)(w:bD)(h:dH w b S):
  Calls prog 245 #[ai (bh ⟨b,0,bj⟩),aa az z,aa az m] w λe w'=>e=bf (ao #[ak (Pp.im S z m),bG (Pp.dU S z m)])/\dH w' b (Pp.nM S z m)/\bE b w w':=by
 have HF:=hJ h;by_cases c:Pp.gW S z false=0
 .obtain⟨n,rfl,n8,_,t0⟩:=Pp.Cx c;have EP:Hid (Pp.gW S (n:Int) false=0/\kT b (n:Int) 0=ai (bh ⟨b,n*15,bj⟩)):=hJ ⟨c,rG b n⟩;have EW:Pp.dU S (n:Int) m=if m<0 then 1 else if 0<m/\(S n).tx.size=0/\0<(S n).writes then 13 else 0:=by unfold Pp.dU;rw[aI (λd=>d c),hZ]
  have c1:=h.many n n8;have c2:=h.writes n n8;have no:∀E,E≠0->Pp.dU S (n:Int) m=E->Pp.im S (n:Int) m=⟨#[]⟩/\Pp.nM S (n:Int) m=S:=λE e0 e=>⟨by unfold Pp.im;rw[e,aI e0],by unfold Pp.nM;rw[e,aI e0]⟩;by_cases m0:m<0
  .have e:Pp.dU S (n:Int) m=1:=by rw[EW,aJ m0]
   have FIN:Hid (Pp.dU S (n:Int) m=1/\Pp.im S (n:Int) m=⟨#[]⟩/\Pp.nM S (n:Int) m=S):=hJ ⟨e,no 1 bA e⟩;clear h c EW no e t0 c1 c2;go_in
   go_wp2_with fail
   refine sC (iV b n false S _ HF.v) ?_;rintro w1 hw1;subst w1;rw[EP.1,EP.2,bB];go_wp2
   go_ret2
   rw[FIN.1,FIN.2.1,FIN.2.2];exact⟨rfl,HF.v,bE.refl _ _⟩
  .by_cases ag:0<m/\(S n).tx.size=0/\0<(S n).writes
   .have e:Pp.dU S (n:Int) m=13:=by rw[EW,aI m0,aJ ag]
    have FIN:Hid (Pp.dU S (n:Int) m=13/\Pp.im S (n:Int) m=⟨#[]⟩/\Pp.nM S (n:Int) m=S):=hJ ⟨e,no 13 bA e⟩;obtain⟨a1,a2,a3⟩:=ag;rw[a2]at c1;have c1':w.cell? ⟨b,n*15+12,bj⟩=bh (aa .i64 0):=c1;generalize (S n).writes=uu at*;have a3':(0:Int)<(uu:Int):=bu
    clear h c EW no e t0 c1 a2;go_in
    go_wp2_with fail
    refine sC (iV b n false S _ HF.v) ?_;rintro w1 hw1;subst w1;rw[EP.1,EP.2,bB];go_wp2
    go_ret2
    rw[FIN.1,FIN.2.1,FIN.2.2];exact⟨rfl,HF.v,bE.refl _ _⟩
   .have e:Pp.dU S (n:Int) m=0:=by rw[EW,aI m0,aI ag]
    have h12:=h.small n n8;obtain⟨k,hk⟩:=hU (min m.toNat (S n).tx.size);have kle:k<=(S n).tx.size:=bu
    have FIN:Hid (Pp.dU S (n:Int) m=0/\Pp.im S (n:Int) m=(S n).tx.extract 0 k):=hJ ⟨e,by unfold Pp.im;rw[aJ e,hZ,hk]⟩;have LD:Hid (∀W,dH W b S->(loadCells ⟨b,n*15,bj⟩ k).run prog W= .ok ((Pp.Bm ((S n).tx.extract 0 k)).map (Value.int bc)).toArray W):=hJ (λW hW=>hW.G9 n 0 k n8 (aC k) kle ⟨b,n*15,bj⟩ (λ_=>rfl));have CP:Hid (∀W ty,dH W b S->(Builtin.copy_ #[316,316] ty #[aj (bh ⟨b,n*15,bj⟩) 12 12,aj (bh (if 12=k then⟨b,n*15,bj⟩else⟨b,n*15+k,bj⟩)) ((S n).tx.size-k) (12-k)]).run prog W= .ok (goInt (((S n).tx.size-k:Nat):Int)) (W.setCells b (n*15) (Pp.eO ((S n).tx.extract k (S n).tx.size)))):=hJ (λW ty hW=>hW.QN n k n8 kle _ (λhlt=>nJ) _ _);have MID:Hid (∀V,dH V b S->dH ((V.setCells b (n*15) (Pp.eO ((S n).tx.extract k (S n).tx.size))).setCell ⟨b,n*15+12,bj⟩ (aa az (((S n).tx.size-k:Nat):Int))) b (Pp.nM S (n:Int) m)/\(∀o,(V.setCells b (n*15) (Pp.eO ((S n).tx.extract k (S n).tx.size))).frozen? ⟨b,o,bj⟩=false)/\(V.setCells b (n*15) (Pp.eO ((S n).tx.extract k (S n).tx.size))).cell? ⟨b,n*15+12,bj⟩=bh (aa az ((S n).tx.size:Int))):=hJ (λV hV=>by
     unfold Pp.nM;rw[aJ e,hZ,hk];obtain⟨C,T,h1,_⟩:=hV.cU;obtain⟨C',k1,_⟩:=Pp.ja b (Pp.eO ((S n).tx.extract k (S n).tx.size)) (n*15) V C h1;exact⟨hV.Ua n n8 k kle,λo=>cv k1 o,by rw[aA b _ _ V ⟨b,n*15+12,bj⟩ (λ_ _=>by rw[Pp.jG,ByteArray.size_extract];show n*15+12<_\/_<=n*15+12;omega)];exact hV.many n n8⟩)
    have FR:Hid (∀V,bE b w V->bE b w (V.setCells b (n*15) (Pp.eO ((S n).tx.extract k (S n).tx.size)))):=hJ (λV hV=>Pp.jc _ _ hV);have SZ:Hid (((S n).tx.extract 0 k).size=k):=hJ (by rw[ByteArray.size_extract];omega);have ST:Hid ((Pp.Bm ((S n).tx.extract 0 k)).foldl (λr n=>r.push (UInt8.ofNat n.toNat)) ByteArray.empty=(S n).tx.extract 0 k):=hJ (Pp.OY _);generalize Pp.eO ((S n).tx.extract k (S n).tx.size)=L at*;generalize (S n).tx.extract 0 k=g at*;generalize (S n).writes=uu at*;generalize (S n).tx.size=mm at*;have mk:min m (mm:Int)=(k:Int):=bu
    have mk2:(if(mm:Int)<m then(mm:Int)else m)=(k:Int):=by split<;>omega
    have kI:(k:Int)<=12:=bu
    have kmI:(k:Int)<=(mm:Int):=bu
    have mI:(mm:Int)<=12:=bu
    clear h c EW no e t0 hk;by_cases m1:0<m
    .by_cases s0:mm=0
     .have u1:¬(0:Int)<(uu:Int):=bu
      have s1:((mm:Int)==0)=true:=by simp;omega
      have cf:=HF.frozen;clear ag s0;go_in
      go_wp2_with fail
      refine sC (iV b n false S _ HF.v) ?_;rintro w1 hw1;subst w1;rw[EP.1,EP.2,bB];go_upto_region 8 with fail
      refine wp_region_quiet_lit bw bw ?_
      repeat (quiet_step (fail))
      refine Pp.sL rfl _ rfl ⟨b,n*15,bj⟩ k 12 rfl _ g ST.v (λw' hC=>by obtain⟨q,rfl⟩:=hC;exact LD.v _ (HF.drewN q)) ?_
      repeat (quiet_step (fail))
      refine wpQuiet_nil ?_;intro _ hw';obtain⟨nq,hw''⟩:=hw';subst hw'';have HD:=hJ (HF.drewN nq);have FD:=hJ ((bE.refl b w).drewN nq);have c1d:(w.drewN nq).cell? ⟨b,n*15+12,bj⟩=bh (aa az (mm:Int)):=c1;generalize w.drewN nq=W1 at HD FD c1d|-;clear c1 c2 cf;have sz:=SZ.v;have M:=MID.v _ HD.drew;have F2:=hJ (FR.v _ FD.drew);have CP2:=hJ (λty=>CP.v _ ty HD.drew);generalize W1.drew.setCells b (n*15) L=W at M F2 CP2;obtain⟨M0,cf2,d2⟩:=M;have M1:=hJ M0;clear M0 CP MID FR LD;go_upto_region 9 with fail
      go_region_law (refine Pp.oG rfl _ _ 316 316 rfl (aj (bh ⟨b,n*15,bj⟩) 12 12) (aj (bh (if 12=k then⟨b,n*15,bj⟩else⟨b,n*15+k,bj⟩)) (mm-k) (12-k)) _ _ (by simp[Act.eval,Act.put]) (by simp[Act.eval,Act.put]) (CP2.v _) ?_)
      generalize (if 12=k then(⟨b,n*15,bj⟩:Addr)else⟨b,n*15+k,bj⟩)=ad;go_wp2
      go_ret2
      rw[FIN.1,FIN.2];exact⟨rfl,M1.v,F2.setCell _ _⟩
     .have s1:((mm:Int)==0)=false:=by simp;omega
      have cf:=HF.frozen;clear ag s0;go_in
      go_wp2_with fail
      refine sC (iV b n false S _ HF.v) ?_;rintro w1 hw1;subst w1;rw[EP.1,EP.2,bB];go_upto_region 8 with fail
      refine wp_region_quiet_lit bw bw ?_
      repeat (quiet_step (fail))
      refine Pp.sL rfl _ rfl ⟨b,n*15,bj⟩ k 12 rfl _ g ST.v (λw' hC=>by obtain⟨q,rfl⟩:=hC;exact LD.v _ (HF.drewN q)) ?_
      repeat (quiet_step (fail))
      refine wpQuiet_nil ?_;intro _ hw';obtain⟨nq,hw''⟩:=hw';subst hw'';have HD:=hJ (HF.drewN nq);have FD:=hJ ((bE.refl b w).drewN nq);have c1d:(w.drewN nq).cell? ⟨b,n*15+12,bj⟩=bh (aa az (mm:Int)):=c1;generalize w.drewN nq=W1 at HD FD c1d|-;clear c1 c2 cf;have sz:=SZ.v;have M:=MID.v _ HD.drew;have F2:=hJ (FR.v _ FD.drew);have CP2:=hJ (λty=>CP.v _ ty HD.drew);generalize W1.drew.setCells b (n*15) L=W at M F2 CP2;obtain⟨M0,cf2,d2⟩:=M;have M1:=hJ M0;clear M0 CP MID FR LD;go_upto_region 9 with fail
      go_region_law (refine Pp.oG rfl _ _ 316 316 rfl (aj (bh ⟨b,n*15,bj⟩) 12 12) (aj (bh (if 12=k then⟨b,n*15,bj⟩else⟨b,n*15+k,bj⟩)) (mm-k) (12-k)) _ _ (by simp[Act.eval,Act.put]) (by simp[Act.eval,Act.put]) (CP2.v _) ?_)
      generalize (if 12=k then(⟨b,n*15,bj⟩:Addr)else⟨b,n*15+k,bj⟩)=ad;go_wp2
      go_ret2
      rw[FIN.1,FIN.2];exact⟨rfl,M1.v,F2.setCell _ _⟩
    .have cf:=HF.frozen;go_in
     go_wp2_with fail
     refine sC (iV b n false S _ HF.v) ?_;rintro w1 hw1;subst w1;rw[EP.1,EP.2,bB];go_upto_region 8 with fail
     refine wp_region_quiet_lit bw bw ?_
     repeat (quiet_step (fail))
     refine Pp.sL rfl _ rfl ⟨b,n*15,bj⟩ k 12 rfl _ g ST.v (λw' hC=>by obtain⟨q,rfl⟩:=hC;exact LD.v _ (HF.drewN q)) ?_
     repeat (quiet_step (fail))
     refine wpQuiet_nil ?_;intro _ hw';obtain⟨nq,hw''⟩:=hw';subst hw'';have HD:=hJ (HF.drewN nq);have FD:=hJ ((bE.refl b w).drewN nq);have c1d:(w.drewN nq).cell? ⟨b,n*15+12,bj⟩=bh (aa az (mm:Int)):=c1;generalize w.drewN nq=W1 at HD FD c1d|-;clear c1 c2 cf;have sz:=SZ.v;have M:=MID.v _ HD.drew;have F2:=hJ (FR.v _ FD.drew);have CP2:=hJ (λty=>CP.v _ ty HD.drew);generalize W1.drew.setCells b (n*15) L=W at M F2 CP2;obtain⟨M0,cf2,d2⟩:=M;have M1:=hJ M0;clear M0 CP MID FR LD;go_upto_region 9 with fail
     go_region_law (refine Pp.oG rfl _ _ 316 316 rfl (aj (bh ⟨b,n*15,bj⟩) 12 12) (aj (bh (if 12=k then⟨b,n*15,bj⟩else⟨b,n*15+k,bj⟩)) (mm-k) (12-k)) _ _ (by simp[Act.eval,Act.put]) (by simp[Act.eval,Act.put]) (CP2.v _) ?_)
     generalize (if 12=k then(⟨b,n*15,bj⟩:Addr)else⟨b,n*15+k,bj⟩)=ad;go_wp2
     go_ret2
     rw[FIN.1,FIN.2];exact⟨rfl,M1.v,F2.setCell _ _⟩
 .have E2:Hid (kT b z (Pp.gW S z false)=ai bj/\bG (Pp.gW S z false)=aq 100 (aa az (Pp.gW S z false))/\Pp.dU S z m=Pp.gW S z false/\Pp.im S z m=⟨#[]⟩/\Pp.nM S z m=S):=hJ (by
   have e:Pp.dU S z m=Pp.gW S z false:=aJ c;exact⟨nL c,bC c,e,by unfold Pp.im;rw[e,aI c],by unfold Pp.nM;rw[e,aI c]⟩)
  clear h c;go_in
  go_wp2_with fail
  refine sC (iV b z false S _ HF.v) ?_;rintro w1 hw1;subst w1;rw[E2.1,E2.2.1];go_wp2
  go_ret2
  rw[E2.2.2.1,E2.2.2.2.1,E2.2.2.2.2,E2.2.1];exact⟨rfl,HF.v,bE.refl _ _⟩
namespace Fx
structure Fi where
 kind:Nat
 num:Nat
 wr:Bool
 pos:Nat
 refs:Nat
def Fi.no:Fi:=⟨0,0,false,0,0⟩
def put(T:Nat->Fi)(n:Nat)(x:Fi):Nat->Fi:=λm=>if m=n then x else T m
theorem bF(T:Nat->Fi)(n:Nat)(x:Fi):put T n x n=x:=aJ rfl
theorem bM(T:Nat->Fi)(n:Nat)(x:Fi)(m:Nat)(h:m≠n):put T n x m=T m:=aI h
theorem gA(T:Nat->Fi)(n:Nat)(x y:Fi):put (put T n x) n y=put T n y:=by
 funext m;unfold put;split<;>rfl
def dQ(x:Fi):Nat->Value
 |0=>aa az (x.kind:Int)
 |1=>aa az (x.num:Int)
 |2=>ar x.wr
 |3=>aa az (x.pos:Int)
 |_=>aa az (x.refs:Int)
def arr(x:Fi):Array Value:=#[aa az (x.kind:Int),aa az (x.num:Int),ar x.wr,aa az (x.pos:Int),aa az (x.refs:Int)]
def dj(T:Nat->Fi)(z:Int):Int:=if z<0\/23<z then 1 else if(T z.toNat).refs=0 then 2 else 0
theorem jZ{T:Nat->Fi}{z:Int}(h:dj T z=0):∃n:Nat,z=n/\n<24/\(T n).refs≠0:=by
 unfold dj at h;by_cases c:z<0\/23<z
 .rw[aJ c]at h;omega
 .rw[aI c]at h;refine⟨z.toNat,bu,bu,λd=>?_⟩;rw[aJ d]at h;omega
def cL(T:Nat->Fi):Nat->Nat
 |0=>0
 |n+1=>cL T n+if(T n).refs=0 then 0 else 1
theorem mN(T:Nat->Fi):∀n,cL T n<=n
 |0=>aL 0
 |n+1=>by
  have:=mN T n;unfold cL;split<;>omega
theorem Bu(T:Nat->Fi):∀n,cL T n<n->∃m,m<n/\(T m).refs=0/\∀k,k<m->(T k).refs≠0
 |0,h=>aZ h (Nat.not_lt_zero _)
 |n+1,h=>by
  by_cases c:cL T n<n
  .obtain⟨m,h1,h2,h3⟩:=Bu T n c;exact⟨m,bu,h2,h3⟩
  .have hl:=mN T n;unfold cL at h;by_cases d:(T n).refs=0
   .refine⟨n,bu,d,λk hk e=>?_⟩;have:∀n,cL T n=n->∀k,k<n->(T k).refs≠0:=by
     intro n
     induction n with
     |zero=>intro _ k hk;omega
     |succ n ih=>
      intro hc k hk e;have hl:=mN T n;unfold cL at hc;by_cases g:(T n).refs=0
      .rw[aJ g]at hc;omega
      .by_cases j:k=n
       .subst j;exact g e
       .exact ih (by rw[aI g]at hc;omega) k bu e
    exact this n bu k hk e
   .rw[aI d]at h;omega
def ti(T:Nat->Fi)(n:Nat):Prop:=n<24/\(T n).refs=0/\∀k,k<n->(T k).refs≠0
theorem Cl{T:Nat->Fi}(h:cL T 24<24):∃n,ti T n:=by
 obtain⟨m,h1,h2,h3⟩:=Bu T 24 h;exact⟨m,h1,h2,h3⟩
end Fx
open Fx (Fi)
structure dR (w:bD)(t b p:Nat)(T:Nat->Fi):Prop where
 cU:∃C Ty,w.heap[t]? =bh (bg C Ty (0,0))/\C.size=122
 fo:w.cell? ⟨t,0,bj⟩=bh (ai (bh ⟨b,0,bj⟩))
 pi:w.cell? ⟨t,1,bj⟩=bh (ai (bh ⟨p,0,bj⟩))
 cell:∀n,n<24->∀i,i<5->w.cell? ⟨t,2+n*5+i,bj⟩=bh (Fx.dQ (T n) i)
section
variable {w w':bD}{t b p:Nat}{T:Nat->Fi}
theorem dR.lt(h:dR w t b p T):t<w.heap.size:=by
 obtain⟨C,Ty,e,_⟩:=h.cU;exact(aX.1 e).1
theorem dR.frozen(h:dR w t b p T)(o:Nat):w.frozen? ⟨t,o,bj⟩=false:=by
 obtain⟨C,Ty,e,_⟩:=h.cU;exact cv e o
theorem dR.same(h:dR w t b p T)(e:w'.heap[t]? =w.heap[t]?):dR w' t b p T:=by
 have hc:∀o,w'.cell? ⟨t,o,bj⟩=w.cell? ⟨t,o,bj⟩:=λo=>aV e;exact⟨by rw[e];exact h.cU,(hc _).trans h.fo,(hc _).trans h.pi,λn hn i hi=>(hc _).trans (h.cell n hn i hi)⟩
theorem dR.drew(h:dR w t b p T):dR w.drew t b p T:=h.same rfl
theorem dR.below{B:Nat}(h:dR w t b p T)(k:Below B w w')(hb:t<B):dR w' t b p T:=h.same (k.block t hb)
theorem dR.lN{c:Nat}(h:dR w t b p T)(k:bE c w w')(hb:t≠c):dR w' t b p T:=h.same (k.block t h.lt hb)
theorem dR.kind(h:dR w t b p T)(n:Nat)(hn:n<24):w.cell? ⟨t,2+n*5,bj⟩=bh (aa az ((T n).kind:Int)):=h.cell n hn 0 bu
theorem dR.num(h:dR w t b p T)(n:Nat)(hn:n<24):w.cell? ⟨t,2+n*5+1,bj⟩=bh (aa az ((T n).num:Int)):=h.cell n hn 1 bu
theorem dR.wr(h:dR w t b p T)(n:Nat)(hn:n<24):w.cell? ⟨t,2+n*5+2,bj⟩=bh (ar (T n).wr):=h.cell n hn 2 bu
theorem dR.pos(h:dR w t b p T)(n:Nat)(hn:n<24):w.cell? ⟨t,2+n*5+3,bj⟩=bh (aa az ((T n).pos:Int)):=h.cell n hn 3 bu
theorem dR.refs(h:dR w t b p T)(n:Nat)(hn:n<24):w.cell? ⟨t,2+n*5+4,bj⟩=bh (aa az ((T n).refs:Int)):=h.cell n hn 4 bu
theorem dR.set(h:dR w t b p T)(n:Nat)(hn:n<24)(i:Nat)(hi:i<5)(x:Fi)(hx:∀j,j<5->j≠i->Fx.dQ x j=Fx.dQ (T n) j):dR (w.setCell ⟨t,2+n*5+i,bj⟩ (Fx.dQ x i)) t b p (Fx.put T n x):=by
 obtain⟨C,Ty,h1,h2⟩:=h.cU;have ne:∀o,o≠2+n*5+i->(w.setCell ⟨t,2+n*5+i,bj⟩ (Fx.dQ x i)).cell? ⟨t,o,bj⟩=w.cell? ⟨t,o,bj⟩:=λo ho=>da h1 _ _ _ (bQ ho);refine⟨⟨_,Ty,cE h1 _ _,by simpa using h2⟩,(ne _ bu).trans h.fo,(ne _ bu).trans h.pi,λm hm j hj=>?_⟩;by_cases c:m=n
 .subst c;rw[Fx.bF];by_cases d:j=i
  .subst d;exact du h1 _ _ bu
  .rw[ne _ bu,hx j hj d];exact h.cell m hm j hj
 .rw[Fx.bM _ _ _ _ c,ne _ bu];exact h.cell m hm j hj
theorem dR.rI(h:dR w t b p T)(n:Nat)(hn:n<24)(k:Nat):dR (w.setCell ⟨t,2+n*5+4,bj⟩ (aa az (k:Int))) t b p (Fx.put T n {T n with refs:=k}):=
 h.set n hn 4 bu {T n with refs:=k} (λj hj d=>by
  match j,hj,d with
  |0,_,_=>rfl
  |1,_,_=>rfl
  |2,_,_=>rfl
  |3,_,_=>rfl
  |4,_,d=>exact aZ rfl d)
theorem dR.setPos(h:dR w t b p T)(n:Nat)(hn:n<24)(k:Nat):dR (w.setCell ⟨t,2+n*5+3,bj⟩ (aa az (k:Int))) t b p (Fx.put T n {T n with pos:=k}):=
 h.set n hn 3 bu {T n with pos:=k} (λj hj d=>by
  match j,hj,d with
  |0,_,_=>rfl
  |1,_,_=>rfl
  |2,_,_=>rfl
  |3,_,d=>exact aZ rfl d
  |4,_,_=>rfl)
theorem dR.JY(h:dR w t b p T)(n:Nat)(hn:n<24)(x:Fi):dR (w.setCells t (2+n*5) (Fx.arr x).toList) t b p (Fx.put T n x):=by
 obtain⟨C,Ty,h1,h2⟩:=h.cU;obtain⟨C',k1,k2⟩:=Pp.ja t (Fx.arr x).toList (2+n*5) w C h1;have out:∀o,o<2+n*5\/2+n*5+5<=o->(w.setCells t (2+n*5) (Fx.arr x).toList).cell? ⟨t,o,bj⟩=w.cell? ⟨t,o,bj⟩:=λo ho=>aA t _ _ w ⟨t,o,bj⟩ (λ_ _=>by show o<_\/_<=o;exact ho);refine⟨⟨C',Ty,k1,bu⟩,(out _ bu).trans h.fo,(out _ bu).trans h.pi,λm hm j hj=>?_⟩;by_cases c:m=n
 .subst c;rw[Fx.bF,aS t (Fx.arr x).toList (2+m*5) w (λi hi=>by have:i<5:=hi;rw[h.cell m hm i this];rfl) j hj]
  match j,hj with
  |0,_=>rfl
  |1,_=>rfl
  |2,_=>rfl
  |3,_=>rfl
  |4,_=>rfl
 .rw[Fx.bM _ _ _ _ c,out _ bu];exact h.cell m hm j hj
end
def kP(t:Nat)(z E:Int):Value:=if E=0 then ai (bh ⟨t,2+z.toNat*5,bj⟩)else ai bj
theorem px(t n:Nat):kP t (n:Int) 0=ai (bh ⟨t,2+n*5,bj⟩):=by unfold kP;rw[aJ rfl,hZ]
theorem nv{t:Nat}{z E:Int}(h:E≠0):kP t z E=ai none:=aI h
theorem dW(t b p:Nat)(z:Int)(T:Nat->Fi)(w:bD)(h:dR w t b p T):
  Calls prog 156 #[ai (bh ⟨t,0,bj⟩),aa az z] w λe w'=>e=bf (ao #[kP t z (Fx.dj T z),bG (Fx.dj T z)])/\w'=w:=by
 by_cases c:z<0\/23<z
 .have E:Hid (Fx.dj T z=1):=hJ (aJ c);have E2:Hid (kP t z 1=ai bj):=hJ (nv bA);by_cases c1:z<0
  .clear c h;go_in
   go_wp2
   go_ret2
   rw[E.v,E2.v];exact⟨rfl,rfl⟩
  .have c2:24<=z:=bu
   go_in
   go_wp2
   go_ret2
   rw[E.v,E2.v];exact⟨rfl,rfl⟩
 .obtain⟨n,rfl⟩:∃n:Nat,z=n:=⟨z.toNat,bu⟩;have n24:n<24:=bu
  have n24i:(n:Int)<24:=bu
  have E:Fx.dj T (n:Int)=if(T n).refs=0 then 2 else 0:=by unfold Fx.dj;rw[aI c,hZ]
  have c4:=h.refs n n24;by_cases d:(T n).refs=0
  .have E1:Hid (Fx.dj T (n:Int)=2/\kP t (n:Int) 2=ai bj):=hJ ⟨by rw[E,aJ d],nv bA⟩;rw[d]at c4;have c4':w.cell? ⟨t,2+n*5+4,bj⟩=bh (aa .i64 0):=c4;go_in
   go_wp2
   go_ret2
   rw[E1.1,E1.2];exact⟨rfl,rfl⟩
  .have E1:Hid (Fx.dj T (n:Int)=0/\kP t (n:Int) 0=ai (bh ⟨t,2+n*5,bj⟩)):=hJ ⟨by rw[E,aI d],px t n⟩;generalize (T n).refs=rr at*;have d1:((rr:Int)==0)=false:=by simp;omega
   go_in
   go_wp2
   go_ret2
   rw[E1.1,E1.2];exact⟨rfl,rfl⟩
theorem KN(t b p:Nat)(T:Nat->Fi)(w:bD)(h:dR w t b p T):
  Calls prog 81 #[ai (bh ⟨t,0,bj⟩)] w λe w'=>e=bf (aa az (Fx.cL T 24:Int))/\w'=w:=by
 have HF:=hJ h;go_in
 go_wp2_with fail
 go_loopw [3,4,5] (λc x i wr=>∃(n:Nat),i=aa az n/\c=aa az (Fx.cL T n:Int)/\n<=24/\wr=w) (λ_ _ i _=>24-(intOf i).toNat)
 case atStart=>exact⟨0,rfl,rfl,bu,rfl⟩
 case round=>
  obtain⟨n,rfl,rfl,hn,hwr⟩:=hrel;subst wr;by_cases hlt:n<24
  .have hltI:(n:Int)<24:=bu
   have lc:=Fx.mN T n;have LS:Fx.cL T (n+1)=Fx.cL T n+if(T n).refs=0 then 0 else 1:=rfl;have c4:=HF.refs n hlt;generalize Fx.cL T n=cn at*;by_cases d:(T n).refs=0
   .rw[aJ d]at LS;have LL:=hJ LS;have d1:¬(0:Int)<((T n).refs:Int):=bu
    generalize (T n).refs=rr at*;go_wp2
    go_roundw
    case rel=>exact⟨n+1,by go_num,by rw[LL.v];rfl,bu,by first|rfl|trivial⟩
    case measure=>simp[intOf];omega
   .rw[aI d]at LS;have LL:=hJ LS;have d1:(0:Int)<((T n).refs:Int):=bu
    generalize (T n).refs=rr at*;go_wp2
    go_roundw
    case rel=>exact⟨n+1,by go_num,by rw[LL.v];go_num,bu,by first|rfl|trivial⟩
    case measure=>simp[intOf];omega
  .have hltI:¬(n:Int)<24:=bu
   obtain rfl:n=24:=bu
   go_wp2
   go_ret
   exact⟨rfl,rfl⟩
theorem oL(t b p:Nat)(m:Int)(T:Nat->Fi)(w:bD)(h:dR w t b p T):
  Calls prog 197 #[ai (bh ⟨t,0,bj⟩),aa az m] w λe w'=>e=bf (ar (decide (m<=24-(Fx.cL T 24:Int))))/\w'=w:=by
 have HF:=hJ h;have lc:=Fx.mN T 24;have hw:IntKind.i64.wrap (24-(Fx.cL T 24:Int))=24-(Fx.cL T 24:Int):=aN _ ⟨by omega,bu⟩;go_in
 go_wp2_with fail
 refine(KN t b p T _ HF.v).mono ?_;rintro e w1 ⟨rfl,hw1⟩;subst w1;go_wp2
 go_ret
 exact⟨rfl,rfl⟩
open Tr (Fo Nd)
structure dw (t b p:Nat)(w w':bD):Prop where
 os:w'.os=w.os
 tape:w'.tape=w.tape
 output:w'.output=w.output
 size:w.heap.size<=w'.heap.size
 block:∀k,k<w.heap.size->k≠t->k≠b->k≠p->w'.heap[k]? =w.heap[k]?
section
variable {t b p:Nat}{u v w:bD}
theorem dw.refl(t b p:Nat)(w:bD):dw t b p w w:=⟨rfl,rfl,rfl,aL _,λ_ _ _ _ _=>rfl⟩
theorem dw.trans(h:dw t b p u v)(k:dw t b p v w):dw t b p u w:=⟨k.os.trans h.os,k.tape.trans h.tape,k.output.trans h.output,aH h.size k.size,λj hj h1 h2 h3=>(k.block j (aD hj h.size) h1 h2 h3).trans (h.block j hj h1 h2 h3)⟩
theorem dw.tb(h:bE t v w):dw t b p v w:=⟨h.os,h.tape,h.output,h.size,λj hj h1 _ _=>h.block j hj h1⟩
theorem dw.fo(h:bE b v w):dw t b p v w:=⟨h.os,h.tape,h.output,h.size,λj hj _ h2 _=>h.block j hj h2⟩
theorem dw.pi(h:bE p v w):dw t b p v w:=⟨h.os,h.tape,h.output,h.size,λj hj _ _ h3=>h.block j hj h3⟩
theorem dw.below(h:Below v.heap.size v w):dw t b p v w:=⟨h.os,h.tape,h.output,h.size,λj hj _ _ _=>h.block j hj⟩
end
theorem bE.fresh{t bx:Nat}{w W:bD}(f:bE t w W)(h:w.heap.size<=bx)(o:Nat)(v:Value):bE t w (W.setCell ⟨bx,o,bj⟩ v):=
 ⟨f.os,f.tape,f.output,by simpa[World.setCell]using f.size,λk hk hn=>(dJ _ _ _ _ bu).trans (f.block k hk hn)⟩
def FX(w:bD)(t b p:Nat)(T:Nat->Fi)(F:Fo)(S:Nat->Pi):Prop:=dR w t b p T/\bN w b F/\dH w p S/\t≠b/\t≠p/\b≠p
section
variable {w w':bD}{t b p:Nat}{T T':Nat->Fi}{F F':Fo}{S S':Nat->Pi}
theorem FX.tb(h:FX w t b p T F S)(k:dR w' t b p T')(f:bE t w w'):FX w' t b p T' F S:=⟨k,h.2.1.same (f.block b h.2.1.lt (bQ h.2.2.2.1)),h.2.2.1.lN f (bQ h.2.2.2.2.1),h.2.2.2⟩
theorem FX.fo(h:FX w t b p T F S)(k:bN w' b F')(f:bE b w w'):FX w' t b p T F' S:=⟨h.1.lN f h.2.2.2.1,k,h.2.2.1.lN f (bQ h.2.2.2.2.2),h.2.2.2⟩
theorem FX.pi(h:FX w t b p T F S)(k:dH w' p S')(f:bE p w w'):FX w' t b p T F S':=⟨h.1.lN f h.2.2.2.2.1,h.2.1.same (f.block b h.2.1.lt h.2.2.2.2.2),k,h.2.2.2⟩
theorem FX.below(h:FX w t b p T F S)(f:Below w.heap.size w w'):FX w' t b p T F S:=⟨h.1.below f h.1.lt,h.2.1.below f,h.2.2.1.below f h.2.2.1.lt,h.2.2.2⟩
end
def Fx.fS:Nat->Fi:=λ_=>Fi.no
def Fx.zT:Array Value:=((List.range 122).map λo=>if o<2 then ai bj else if o%5=4 then ar false else aa .i64 0).toArray
theorem Fx.Tk(o:Nat)(h:o<122):Fx.zT[o]? =bh (if o<2 then ai bj else if o%5=4 then ar false else aa .i64 0):=by simp[Fx.zT,h]
theorem Fx.zeroV(w:bD):(zeroValue 212).run prog w= .ok (au Fx.zT) w:=by kernel_rfl
def Fx.lR(P0 P1:Value):Array Value:=(Fx.zT.setIfInBounds 0 P0).setIfInBounds 1 P1
theorem dR.new{w:bD}{t b p:Nat}{Ty:TypeId}(h:w.heap[t]? =bh (bg (Fx.lR (ai (bh ⟨b,0,bj⟩)) (ai (bh ⟨p,0,bj⟩))) Ty (0,0))):dR w t b p Fx.fS:=by
 have sz:Fx.zT.size=122:=by simp[Fx.zT]
 refine⟨⟨_,Ty,h,by simp[Fx.lR,sz]⟩,?_,?_,λn hn i hi=>?_⟩
 .rw[bO h];unfold Fx.lR;rw[aU bu,aE bu]
 .rw[bO h];unfold Fx.lR;rw[aE (by simp[sz])]
 .rw[bO h];unfold Fx.lR;rw[aU bu,aU bu,Fx.Tk _ bu,nJ]
  match i,hi with
  |0,_=>rw[nJ];rfl
  |1,_=>rw[nJ];rfl
  |2,_=>rw[nK];rfl
  |3,_=>rw[nJ];rfl
  |4,_=>rw[nJ];rfl
section
variable {ops:Array Oper}{rest:List Oper}{x:Oper}{a:Act}{w:bD}{Q:Exit->Act->bD->Prop}
theorem Fx.KD(hgd:x.guard=bj)(y0 y1:Operand)(P0 P1:Option Addr)(ho:x.op= .build 212 #[(0,y0),(1,y1)])(h0:a.eval y0=ai P0)(h1:a.eval y1=ai P1)(h:wpList prog ops Q rest (a.put x.dst (au (Fx.lR (ai P0) (ai P1)))) w):wpList prog ops Q (x::rest) a w:=
 wpList_plain hgd λ_ hK=>by
  unfold Oper.wp execOp;have hz:=Fx.zeroV w;simp only[ho,List.map_toArray,List.map_cons,List.map_nil,h0,h1];simp[go_sem,hz];exact hK _ _ h
end
theorem ND(b p:Nat)(w:bD):Calls prog 88 #[ai (bh ⟨b,0,bj⟩),ai (bh ⟨p,0,bj⟩)] w λe w'=>e=bf (ai (bh ⟨w.heap.size,0,bj⟩))/\dR w' w.heap.size b p Fx.fS/\Below w.heap.size w w':=by
 have FIN:Hid (dR (w.alloc (bg (Fx.lR (ai (bh ⟨b,0,bj⟩)) (ai (bh ⟨p,0,bj⟩))) 212)) w.heap.size b p Fx.fS/\Below w.heap.size w (w.alloc (bg (Fx.lR (ai (bh ⟨b,0,bj⟩)) (ai (bh ⟨p,0,bj⟩))) 212))):=hJ ⟨dR.new (heap_alloc_new w _),(aQ _ _).alloc (aL _) _⟩;obtain⟨A,hA⟩:=hU (Fx.lR (ai (bh ⟨b,0,bj⟩)) (ai (bh ⟨p,0,bj⟩)));rw[hA]at FIN;go_in
 go_wp2_with (refine Fx.KD rfl _ _ _ _ rfl rfl rfl ?_;rw[hA])
 go_ret
 exact⟨rfl,FIN.v⟩
theorem wX(t b p:Nat)(x:Fi)(n:Nat)(T:Nat->Fi)(w:bD)(h:dR w t b p T)(hl:Fx.ti T n):
  Calls prog 243 #[ai (bh ⟨t,0,bj⟩),au #[aa az (x.kind:Int),aa az (x.num:Int),ar x.wr,aa az (x.pos:Int),aa az (x.refs:Int)]] w λe w'=>e=bf (aa az (n:Int))/\dR w' t b p (Fx.put T n {x with refs:=1})/\bE t w w':=by
 have HF:=hJ h;have HL:=hJ hl;have hlt:=h.lt;have NE:Hid (w.heap.size≠t):=hJ bu;obtain⟨kd,nm,wb,ps,rf⟩:=x;go_in
 go_upto_region 1 with fail
 refine cG (λW'=>dR W' t b p T/\bE t w W'/\W'.heap[w.heap.size]? =bh (bg #[aa az (kd:Int),aa az (nm:Int),ar wb,aa az (ps:Int),aa az (rf:Int)] 197 (0,0))) (by
  have bb:=(aQ w.heap.size w).alloc (aL _) (bg #[aa az (kd:Int),aa az (nm:Int),ar wb,aa az (ps:Int),aa az (rf:Int)] 197);exact⟨HF.below bb HF.lt,bE.cC bb,heap_alloc_new w _⟩) ?_
 rintro W1 ⟨h1,f1,x1⟩;have H1:=hJ h1;have F1:=hJ f1;have X1:=hJ x1;obtain⟨bx,hbx⟩:=hU (w.heap.size);have HB:=hJ hbx;rw[hbx]at X1 NE|-;go_wp2_with fail
 go_loopw [5] (λi wr=>∃(k:Nat),i=aa az k/\k<=n/\wr=W1) (λi _=>n-(intOf i).toNat)
 case atStart=>exact⟨0,rfl,bu,rfl⟩
 case round=>
  obtain⟨k,rfl,hk,hwr⟩:=hrel;subst wr;have n24:n<24:=HL.1;have k24i:(k:Int)<24:=bu
  have c4:=H1.refs k bu;by_cases e:k=n
  .subst e;rw[HL.2.1]at c4;have c4':W1.cell? ⟨t,2+k*5+4,bj⟩=bh (aa .i64 0):=c4;have cx:=cH X1.v 4 (aa az (rf:Int)) rfl;have fx:=cv X1.v;have HS:dR (W1.setCell ⟨bx,4,bj⟩ (aa .i64 1)) t b p T/\bE t w (W1.setCell ⟨bx,4,bj⟩ (aa .i64 1))/\(W1.setCell ⟨bx,4,bj⟩ (aa .i64 1)).heap[bx]? =bh (bg #[aa az (kd:Int),aa az (nm:Int),ar wb,aa az (ps:Int),aa az 1] 197 (0,0)):=⟨H1.same (dJ _ _ _ _ (bQ NE.v)),F1.fresh (Nat.le_of_eq HB.v) _ _,by rw[cE X1.v];rfl⟩;go_upto_region 5 with fail
   generalize W1.setCell ⟨bx,4,bj⟩ (aa .i64 1)=W2 at HS|-;obtain⟨s1,s2,s3⟩:=HS;have x0:=cH s3 0 (aa az (kd:Int)) rfl;have x1:=cH s3 1 (aa az (nm:Int)) rfl;have x2:=cH s3 2 (ar wb) rfl;have x3:=cH s3 3 (aa az (ps:Int)) rfl;have x4:=cH s3 4 (aa .i64 1) rfl;have y0:=s1.kind k n24;have y1:=s1.num k n24;have y2:=s1.wr k n24;have y3:=s1.pos k n24;have y4:=s1.refs k n24;have yf:=s1.frozen;have FIN:Hid (dR (W2.setCells t (2+k*5) (Fx.arr ⟨kd,nm,wb,ps,1⟩).toList).drew t b p (Fx.put T k ⟨kd,nm,wb,ps,1⟩)/\bE t w (W2.setCells t (2+k*5) (Fx.arr ⟨kd,nm,wb,ps,1⟩).toList).drew):=hJ ⟨(s1.JY k n24 _).drew,(Pp.jc _ _ s2).drew⟩;go_region
   go_wp2
   go_ret
   exact⟨rfl,FIN.v⟩
  .have d:=HL.2.2 k bu;generalize (T k).refs=rr at*;have d1:(0:Int)<(rr:Int):=bu
   go_wp2
   go_roundw
   case rel=>exact⟨k+1,by go_num,bu,by first|rfl|trivial⟩
   case measure=>simp[intOf];omega
def Fx.Sm(F:Fo)(S:Nat->Pi):Prop:=(∀n,n<40->(F.nd n).held<2^60)/\∀wr,∀n,n<8->Pp.jX (S n) wr<2^60
def Fx.tP(F:Fo)(x:Fi):Fo:=if x.kind=1 then Tr.dq F (x.num:Int)else F
def Fx.vK(S:Nat->Pi)(x:Fi):Nat->Pi:=if x.kind=1 then S else Pp.pJ S (x.num:Int) (decide (x.kind=3))
theorem NA(t b p:Nat)(x:Fi)(T:Nat->Fi)(F:Fo)(S:Nat->Pi)(w:bD)(h:FX w t b p T F S)(hs:Fx.Sm F S):
  Calls prog 157 #[ai (bh ⟨t,0,bj⟩),au #[aa az (x.kind:Int),aa az (x.num:Int),ar x.wr,aa az (x.pos:Int),aa az (x.refs:Int)]] w λe w'=>e=bf (ao #[])/\FX w' t b p T (Fx.tP F x) (Fx.vK S x)/\dw t b p w w':=by
 have HF:=hJ h;have HS:=hJ hs;have NE:Hid (w.heap.size≠t/\w.heap.size≠b/\w.heap.size≠p):=hJ ⟨Nat.ne_of_gt h.1.lt,Nat.ne_of_gt h.2.1.lt,Nat.ne_of_gt h.2.2.1.lt⟩;obtain⟨kd,nm,wb,ps,rf⟩:=x;have B0:Hid (FX (w.alloc (bg #[aa az (kd:Int),aa az (nm:Int),ar wb,aa az (ps:Int),aa az (rf:Int)] 197)) t b p T F S/\dw t b p w (w.alloc (bg #[aa az (kd:Int),aa az (nm:Int),ar wb,aa az (ps:Int),aa az (rf:Int)] 197))/\(w.alloc (bg #[aa az (kd:Int),aa az (nm:Int),ar wb,aa az (ps:Int),aa az (rf:Int)] 197)).heap[w.heap.size]? =bh (bg #[aa az (kd:Int),aa az (nm:Int),ar wb,aa az (ps:Int),aa az (rf:Int)] 197 (0,0))):=hJ (by
  have bb:=(aQ w.heap.size w).alloc (aL _) (bg #[aa az (kd:Int),aa az (nm:Int),ar wb,aa az (ps:Int),aa az (rf:Int)] 197);exact⟨HF.below bb,dw.below bb,heap_alloc_new w _⟩)
 by_cases k1:kd=1
 .subst k1;have EL:Hid (Fx.tP F ⟨1,nm,wb,ps,rf⟩=Tr.dq F (nm:Int)/\Fx.vK S ⟨1,nm,wb,ps,rf⟩=S):=hJ ⟨aJ rfl,aJ rfl⟩;go_in
  go_upto_region 1 with fail
  refine cG (λW'=>FX W' t b p T F S/\dw t b p w W'/\W'.heap[w.heap.size]? =bh (bg #[aa az ((1:Nat):Int),aa az (nm:Int),ar wb,aa az (ps:Int),aa az (rf:Int)] 197 (0,0))) B0.v ?_;rintro W1 ⟨h1,f1,x1⟩;have H1:=hJ h1;have F1:=hJ f1;have y0:=cH x1 0 (aa .i64 1) rfl;have y1:=cH x1 1 (aa az (nm:Int)) rfl;have y2:=h1.1.fo;have K0:=hJ (aK y2 y1);have X1:=hJ x1;generalize w.heap.size=bx at*;go_wp2
  go_region_held3 (λw'=>w'.cell? ⟨t,0,bj⟩=bh (ai (bh ⟨b,0,bj⟩))/\w'.cell? ⟨bx,1,bj⟩=bh (aa az (nm:Int))) (first|exact K0.v|exact K4.v) ((first|(go_at_call 226;refine sC (sR b nm F _ H1.2.1.drew HS.1) ?_;rintro w4 ⟨u4,f4⟩;have f4':bE b W1 w4:=⟨f4.os,f4.tape,f4.output,f4.size,f4.block⟩;have C4:=hJ (aK (H1.fo u4 f4') (F1.trans (dw.fo f4')));have K4:=hJ (aK C4.1.1.fo (cH ((f4'.block bx (aX.1 X1.v).1 NE.2.1).trans X1.v) 1 (aa az (nm:Int)) rfl)))))
  go_wp2
  (try simp only[Exit.inBlock,Exit.then])
  refine bodyPost_ret (results_none rfl _ _ _) rfl ?_;rw[EL.1,EL.2];exact⟨rfl,C4.v⟩
 .have EL:Hid (Fx.tP F ⟨kd,nm,wb,ps,rf⟩=F/\Fx.vK S ⟨kd,nm,wb,ps,rf⟩=Pp.pJ S (nm:Int) (decide (kd=3))):=hJ ⟨aI k1,aI k1⟩;have k1':((kd:Int)==1)=false:=by simp;omega
  have k3:((kd:Int)==3)=decide (kd=3):=by
   by_cases d:kd=3
   .subst d;rfl
   .rw[aT d];simp;omega
  go_in
  go_upto_region 1 with fail
  refine cG (λW'=>FX W' t b p T F S/\dw t b p w W'/\W'.heap[w.heap.size]? =bh (bg #[aa az (kd:Int),aa az (nm:Int),ar wb,aa az (ps:Int),aa az (rf:Int)] 197 (0,0))) B0.v ?_;rintro W1 ⟨h1,f1,x1⟩;have H1:=hJ h1;have F1:=hJ f1;have y0:=cH x1 0 (aa az (kd:Int)) rfl;have y1:=cH x1 1 (aa az (nm:Int)) rfl;have y2:=h1.1.pi;have K0:=hJ (aK y2 (aK y1 y0));have X1:=hJ x1;generalize w.heap.size=bx at*;go_wp2
  go_region_held3 (λw'=>w'.cell? ⟨t,1,bj⟩=bh (ai (bh ⟨p,0,bj⟩))/\w'.cell? ⟨bx,1,bj⟩=bh (aa az (nm:Int))/\w'.cell? ⟨bx,0,bj⟩=bh (aa az (kd:Int))) (first|exact K0.v|exact K4.v) ((first|(go_at_call 227;refine sC (JL p nm _ S _ H1.2.2.1.drew (HS.2 _)) ?_;rintro w4 ⟨u4,f4⟩;have f4':bE p W1 w4:=⟨f4.os,f4.tape,f4.output,f4.size,f4.block⟩;have C4:=hJ (aK (H1.pi u4 f4') (F1.trans (dw.pi f4')));have K4:=hJ (aK C4.1.1.pi (aK (cH ((f4'.block bx (aX.1 X1.v).1 NE.2.2).trans X1.v) 1 (aa az (nm:Int)) rfl) (cH ((f4'.block bx (aX.1 X1.v).1 NE.2.2).trans X1.v) 0 (aa az (kd:Int)) rfl))))))
  go_wp2
  go_end0
  rw[EL.1,EL.2];exact⟨rfl,C4.v⟩
def Fx.jB(T:Nat->Fi)(z:Int):Nat->Fi:=if Fx.dj T z=0 then Fx.put T z.toNat {T z.toNat with refs:=(T z.toNat).refs+1}else T
theorem yG(t b p:Nat)(z:Int)(T:Nat->Fi)(w:bD)(h:dR w t b p T)(hr:∀n,n<24->(T n).refs<2^60):
  Calls prog 146 #[ai (bh ⟨t,0,bj⟩),aa az z] w λe w'=>e=bf (bG (Fx.dj T z))/\dR w' t b p (Fx.jB T z)/\bE t w w':=by
 have HF:=hJ h;by_cases c:Fx.dj T z=0
 .obtain⟨n,rfl,n24,_⟩:=Fx.jZ c;have EP:Hid (Fx.dj T (n:Int)=0/\kP t (n:Int) 0=ai (bh ⟨t,2+n*5,bj⟩)):=hJ ⟨c,px t n⟩;have c0:=h.refs n n24;have hl:=hr n n24;have FIN:Hid (dR (w.setCell ⟨t,2+n*5+4,bj⟩ (aa az (((T n).refs+1:Nat):Int))) t b p (Fx.jB T (n:Int))):=hJ (by
   unfold Fx.jB;rw[aJ c,hZ];exact h.rI n n24 _)
  have cf:=h.frozen;generalize (T n).refs=k at*;have hw:IntKind.i64.wrap ((k:Int)+1)=(k:Int)+1:=aN _ ⟨by omega,bu⟩;go_in
  go_wp2_with fail
  refine sC (dW t b p n T _ HF.v) ?_;rintro w1 hw1;subst w1;rw[EP.1,EP.2,bB];go_wp2
  go_ret
  rw[EP.1];exact⟨rfl,FIN.v,(bE.refl t w).setCell _ _⟩
 .have E2:Hid (kP t z (Fx.dj T z)=ai bj/\bG (Fx.dj T z)=aq 100 (aa az (Fx.dj T z))/\Fx.jB T z=T):=hJ ⟨nv c,bC c,aI c⟩;go_in
  go_wp2_with fail
  refine sC (dW t b p z T _ HF.v) ?_;rintro w1 hw1;subst w1;rw[E2.1,E2.2.1];go_wp2
  go_ret
  rw[E2.2.2,E2.2.1];exact⟨rfl,HF.v,bE.refl _ _⟩
def Fx.sv(T:Nat->Fi)(z:Int):Nat->Fi:=if Fx.dj T z=0 then Fx.put T z.toNat (if(T z.toNat).refs=1 then Fi.no else{T z.toNat with refs:=(T z.toNat).refs-1})else T
def Fx.su(T:Nat->Fi)(F:Fo)(z:Int):Fo:=if Fx.dj T z=0/\(T z.toNat).refs=1 then Fx.tP F (T z.toNat)else F
def Fx.tE(T:Nat->Fi)(S:Nat->Pi)(z:Int):Nat->Pi:=if Fx.dj T z=0/\(T z.toNat).refs=1 then Fx.vK S (T z.toNat)else S
theorem yF(t b p:Nat)(z:Int)(T:Nat->Fi)(F:Fo)(S:Nat->Pi)(w:bD)(h:FX w t b p T F S)(hs:Fx.Sm F S)(hr:∀n,n<24->(T n).refs<2^60):
  Calls prog 77 #[ai (bh ⟨t,0,bj⟩),aa az z] w λe w'=>e=bf (bG (Fx.dj T z))/\FX w' t b p (Fx.sv T z) (Fx.su T F z) (Fx.tE T S z)/\dw t b p w w':=by
 have HF:=hJ h;have HS:=hJ hs;by_cases c:Fx.dj T z=0
 .obtain⟨n,rfl,n24,r0⟩:=Fx.jZ c;have EP:Hid (Fx.dj T (n:Int)=0/\kP t (n:Int) 0=ai (bh ⟨t,2+n*5,bj⟩)):=hJ ⟨c,px t n⟩;have c0:=h.1.refs n n24;have hl:=hr n n24;have S1:Hid (FX (w.setCell ⟨t,2+n*5+4,bj⟩ (aa az (((T n).refs-1:Nat):Int))) t b p (Fx.put T n {T n with refs:=(T n).refs-1}) F S/\bE t w (w.setCell ⟨t,2+n*5+4,bj⟩ (aa az (((T n).refs-1:Nat):Int)))):=hJ ⟨h.tb (h.1.rI n n24 _) ((bE.refl t w).setCell _ _),(bE.refl t w).setCell _ _⟩;have cf:=h.1.frozen;have ET:Hid (Fx.sv T (n:Int)=Fx.put T n (if(T n).refs=1 then Fi.no else{T n with refs:=(T n).refs-1})/\Fx.su T F (n:Int)=(if(T n).refs=1 then Fx.tP F (T n)else F)/\Fx.tE T S (n:Int)=(if(T n).refs=1 then Fx.vK S (T n)else S)):=hJ (by
   unfold Fx.sv Fx.su Fx.tE;rw[hZ,aJ c];refine⟨rfl,?_,?_⟩
   .by_cases d:(T n).refs=1
    .rw[aJ ⟨c,d⟩,aJ d]
    .rw[aI (λe=>d e.2),aI d]
   .by_cases d:(T n).refs=1
    .rw[aJ ⟨c,d⟩,aJ d]
    .rw[aI (λe=>d e.2),aI d])
  by_cases r1:(T n).refs=1
  .rw[r1]at c0 S1;have c0':w.cell? ⟨t,2+n*5+4,bj⟩=bh (aa .i64 1):=c0;have S1':Hid (FX (w.setCell ⟨t,2+n*5+4,bj⟩ (aa .i64 0)) t b p (Fx.put T n {T n with refs:=0}) F S/\bE t w (w.setCell ⟨t,2+n*5+4,bj⟩ (aa .i64 0))):=S1;rw[aJ r1,aJ r1,aJ r1]at ET;go_in
   go_wp2_with fail
   refine sC (dW t b p n T _ HF.1) ?_;rintro w1 hw1;subst w1;rw[EP.1,EP.2,bB];have z0:=S1'.1.1.kind n n24;have z1:=S1'.1.1.num n n24;have z2:=S1'.1.1.wr n n24;have z3:=S1'.1.1.pos n n24;have z4:=S1'.1.1.refs n n24;rw[Fx.bF]at z0 z1 z2 z3 z4;have XL:Hid (Fx.tP F (T n)=Fx.tP F {T n with refs:=0}/\Fx.vK S (T n)=Fx.vK S {T n with refs:=0}):=hJ ⟨rfl,rfl⟩;obtain⟨x,hx⟩:=hU (({T n with refs:=0}:Fi));rw[hx]at z0 z1 z2 z3 z4 S1' XL;have hx4:x.refs=0:=by rw[<-hx]
   obtain⟨kd,nm,wb,ps,rf⟩:=x;obtain rfl:rf=0:=hx4;have z0':(w.setCell ⟨t,2+n*5+4,bj⟩ (aa .i64 0)).cell? ⟨t,2+n*5,bj⟩=bh (aa az (kd:Int)):=z0;have z1':(w.setCell ⟨t,2+n*5+4,bj⟩ (aa .i64 0)).cell? ⟨t,2+n*5+1,bj⟩=bh (aa az (nm:Int)):=z1;have z2':(w.setCell ⟨t,2+n*5+4,bj⟩ (aa .i64 0)).cell? ⟨t,2+n*5+2,bj⟩=bh (ar wb):=z2;have z3':(w.setCell ⟨t,2+n*5+4,bj⟩ (aa .i64 0)).cell? ⟨t,2+n*5+3,bj⟩=bh (aa az (ps:Int)):=z3;have z4':(w.setCell ⟨t,2+n*5+4,bj⟩ (aa .i64 0)).cell? ⟨t,2+n*5+4,bj⟩=bh (aa .i64 0):=z4;go_upto_region 5 with fail
   generalize w.setCell ⟨t,2+n*5+4,bj⟩ (aa .i64 0)=W1 at*;go_wp2_with fail
   refine sC (NA t b p ⟨kd,nm,wb,ps,0⟩ _ F S _ S1'.1 HS.v) ?_;rintro W2 ⟨h2,f2⟩;have H2:=hJ h2;have F2:=hJ ((dw.tb S1'.2).trans f2);have FIN:Hid (FX (W2.setCells t (2+n*5) (Fx.arr Fi.no).toList) t b p (Fx.sv T (n:Int)) (Fx.su T F (n:Int)) (Fx.tE T S (n:Int))/\dw t b p w (W2.setCells t (2+n*5) (Fx.arr Fi.no).toList)):=hJ (by
    have q:=h2.1.JY n n24 Fi.no;rw[Fx.gA]at q;rw[ET.1,ET.2.1,ET.2.2,XL.1,XL.2];have fr:=Pp.jc (Fx.arr Fi.no).toList (2+n*5) (bE.refl t W2);exact⟨h2.tb q fr,F2.trans (dw.tb fr)⟩)
   have y0:=h2.1.kind n n24;have y1:=h2.1.num n n24;have y2:=h2.1.wr n n24;have y3:=h2.1.pos n n24;have y4:=h2.1.refs n n24;have yf:=h2.1.frozen;rw[Fx.bF]at y0 y1 y2 y3 y4;go_wp2
   go_ret
   rw[EP.1];exact⟨rfl,FIN.v⟩
  .rw[aI r1,aI r1,aI r1]at ET;generalize (T n).refs=k at*;obtain⟨q,rfl⟩:∃q,k=q+1:=⟨k-1,bu⟩;have q0:((q:Int)==0)=false:=by simp;omega
   rw[aP]at S1 ET;have hw:IntKind.i64.wrap (((q+1:Nat):Int)-1)=(q:Int):=(aN _ ⟨by omega,bu⟩).trans bu;obtain⟨k1,hk1⟩:=hU (((q+1:Nat):Int));rw[hk1]at c0 hw;go_in
   go_wp2_with fail
   refine sC (dW t b p n T _ HF.1) ?_;rintro w1 hw1;subst w1;rw[EP.1,EP.2,bB];go_wp2
   go_ret
   rw[EP.1,ET.1,ET.2.1,ET.2.2];exact⟨rfl,S1.1,dw.tb S1.2⟩
 .have E2:Hid (kP t z (Fx.dj T z)=ai bj/\bG (Fx.dj T z)=aq 100 (aa az (Fx.dj T z))/\Fx.sv T z=T/\Fx.su T F z=F/\Fx.tE T S z=S):=hJ ⟨nv c,bC c,aI c,aI (λe=>c e.1),aI (λe=>c e.1)⟩;go_in
  go_wp2_with fail
  refine sC (dW t b p z T _ HF.1) ?_;rintro w1 hw1;subst w1;rw[E2.1,E2.2.1];go_wp2
  go_ret
  rw[E2.2.2.1,E2.2.2.2.1,E2.2.2.2.2,E2.2.1];exact⟨rfl,HF.v,dw.refl _ _ _ _⟩
def Fx.uS(T:Nat->Fi)(F:Fo)(z:Int)(wr:Bool)(K:Nat)(E:Int)(T':Nat->Fi)(F':Fo):Prop:=
 (Tr.cD F z 1≠0/\K=0/\E=Tr.cD F z 1/\T'=T/\F'=F)
 \/(Tr.cD F z 1=0/\Fx.cL T 24=24/\K=0/\E=4/\T'=T/\F'=F)
 \/(Tr.cD F z 1=0/\Fx.cL T 24<24/\Fx.ti T K/\E=0/\T'=Fx.put T K ⟨1,z.toNat,wr,0,1⟩/\F'=Tr.dB F z)
theorem As(t b p:Nat)(z:Int)(wr:Bool)(T:Nat->Fi)(F:Fo)(S:Nat->Pi)(w:bD)(h:FX w t b p T F S)(hs:Fx.Sm F S):
  Calls prog 200 #[ai (bh ⟨t,0,bj⟩),aa az z,ar wr] w λe w'=>∃(K:Nat) (E:Int) (T':Nat->Fi) (F':Fo),e=bf (ao #[aa az (K:Int),bG E])/\Fx.uS T F z wr K E T' F'/\FX w' t b p T' F' S/\dw t b p w w':=by
 have HF:=hJ h;have HS:=hJ hs;have y0:=h.1.fo;by_cases c:Tr.cA F z=0
 .obtain⟨n,rfl,n40,_⟩:=Tr.gO c;have EP:Hid (Tr.cA F (n:Int)=0/\td F (n:Int)=#[aa az ((F.nd n).kind:Int),aa az ((F.nd n).cJ:Int),aa az ((F.nd n).held:Int),aa az ((F.nd n).size:Int)]):=hJ ⟨c,by unfold td;rw[aJ c,hZ]⟩;have EI:Tr.cD F (n:Int) 1=if(F.nd n).kind=1 then 0 else 11:=by unfold Tr.cD;rw[aI (λd=>d c),hZ]
  by_cases k1:(F.nd n).kind=1
  .have e0:Tr.cD F (n:Int) 1=0:=by rw[EI,aJ k1]
   have lc:=Fx.mN T 24;rw[k1]at EP;have EP':Hid (Tr.cA F (n:Int)=0/\td F (n:Int)=#[aa az 1,aa az ((F.nd n).cJ:Int),aa az ((F.nd n).held:Int),aa az ((F.nd n).size:Int)]):=EP;generalize (F.nd n).cJ=q1 at EP';generalize (F.nd n).held=q2 at EP';generalize (F.nd n).size=q3 at EP';by_cases r1:Fx.cL T 24=24
   .have rd:decide ((1:Int)<=24-(Fx.cL T 24:Int))=false:=by simp;omega
    have FIN:Hid (Fx.uS T F (n:Int) wr 0 4 T F):=hJ (.inr (.inl ⟨e0,r1,rfl,rfl,rfl,rfl⟩));go_in
    go_wp2_with fail
    refine sC (pB b n F _ HF.2.1) ?_;rintro W1 b1;rw[EP'.1,EP'.2,bB];have H1:=hJ (HF.below b1);have F1:Hid (dw t b p w W1):=hJ (dw.below b1);go_upto_region 2 with fail
    refine cG (λW'=>FX W' t b p T F S/\dw t b p w W'/\W'.cell? ⟨W1.heap.size,0,bj⟩=bh (aa .i64 1)) (by
     have bb:=(aQ W1.heap.size W1).alloc (aL _) (bg #[aa az 1,aa az (q1:Int),aa az (q2:Int),aa az (q3:Int)] 156);exact⟨H1.below bb,F1.trans (dw.below bb),cH (heap_alloc_new W1 _) 0 _ rfl⟩) ?_
    rintro W2 ⟨h2,f2,z0⟩;have H2:=hJ h2;have F2:=hJ f2;generalize W1.heap.size=bx at*;go_wp2_with fail
    refine sC (oL t b p 1 T _ H2.1) ?_;rintro W3 hW3;subst W3;rw[rd];go_wp2
    go_ret2
    exact⟨0,4,T,F,rfl,FIN.v,H2.v,F2.v⟩
   .have rd:decide ((1:Int)<=24-(Fx.cL T 24:Int))=true:=by simp;omega
    obtain⟨K,hK⟩:=Fx.Cl (T:=T) bu;have HK:=hJ hK;have FIN:Hid (Fx.uS T F (n:Int) wr K 0 (Fx.put T K ⟨1,n,wr,0,1⟩) (Tr.dB F (n:Int))):=hJ (.inr (.inr ⟨e0,bu,hK,rfl,by rw[hZ],rfl⟩));go_in
    go_wp2_with fail
    refine sC (pB b n F _ HF.2.1) ?_;rintro W1 b1;rw[EP'.1,EP'.2,bB];have H1:=hJ (HF.below b1);have F1:Hid (dw t b p w W1):=hJ (dw.below b1);go_upto_region 2 with fail
    refine cG (λW'=>FX W' t b p T F S/\dw t b p w W'/\W'.cell? ⟨W1.heap.size,0,bj⟩=bh (aa .i64 1)) (by
     have bb:=(aQ W1.heap.size W1).alloc (aL _) (bg #[aa az 1,aa az (q1:Int),aa az (q2:Int),aa az (q3:Int)] 156);exact⟨H1.below bb,F1.trans (dw.below bb),cH (heap_alloc_new W1 _) 0 _ rfl⟩) ?_
    rintro W2 ⟨h2,f2,z0⟩;have H2:=hJ h2;have F2:=hJ f2;have y0:=h2.1.fo;generalize W1.heap.size=bx at*;go_wp2_with fail
    refine sC (oL t b p 1 T _ H2.1) ?_;rintro W3 hW3;subst W3;rw[rd];go_wp2_with fail
    refine sC (qL b n F _ H2.2.1 HS.1) ?_;rintro W3 ⟨h3,f3⟩;have H3:=hJ (H2.fo h3 f3);have F3:=hJ (F2.trans (dw.fo f3));go_wp2_with fail
    refine sC (wX t b p ⟨1,n,wr,0,0⟩ K T _ H3.1 HK.v) ?_;rintro W4 ⟨h4,f4⟩;have H4:=hJ (H3.tb h4 f4);have F4:=hJ (F3.trans (dw.tb f4));go_wp2
    go_ret2
    exact⟨K,0,_,_,rfl,FIN.v,H4.v,F4.v⟩
  .have e0:Tr.cD F (n:Int) 1=11:=by rw[EI,aI k1]
   have FIN:Hid (Fx.uS T F (n:Int) wr 0 11 T F):=hJ (.inl ⟨by rw[e0];decide,rfl,e0.symm,rfl,rfl⟩);have k1':(((F.nd n).kind:Int) !=1)=true:=by simp;omega
   have k1'':(((F.nd n).kind:Int)==1)=false:=by simp;omega
   generalize (F.nd n).kind=kk at*;generalize (F.nd n).cJ=q1 at EP;generalize (F.nd n).held=q2 at EP;generalize (F.nd n).size=q3 at EP;go_in
   go_wp2_with fail
   refine sC (pB b n F _ HF.2.1) ?_;rintro W1 b1;rw[EP.1,EP.2,bB];have H1:=hJ (HF.below b1);have F1:Hid (dw t b p w W1):=hJ (dw.below b1);go_upto_region 2 with fail
   refine cG (λW'=>FX W' t b p T F S/\dw t b p w W'/\W'.cell? ⟨W1.heap.size,0,bj⟩=bh (aa az (kk:Int))) (by
    have bb:=(aQ W1.heap.size W1).alloc (aL _) (bg #[aa az (kk:Int),aa az (q1:Int),aa az (q2:Int),aa az (q3:Int)] 156);exact⟨H1.below bb,F1.trans (dw.below bb),cH (heap_alloc_new W1 _) 0 _ rfl⟩) ?_
   rintro W2 ⟨h2,f2,z0⟩;have H2:=hJ h2;have F2:=hJ f2;generalize W1.heap.size=bx at*;go_wp2
   go_ret2
   exact⟨0,11,T,F,rfl,FIN.v,H2.v,F2.v⟩
 .have E2:Hid (bG (Tr.cA F z)=aq 100 (aa az (Tr.cA F z))/\td F z=#[aa az 0,aa az 0,aa az 0,aa az 0]):=hJ ⟨bC c,aI c⟩;have FIN:Hid (Fx.uS T F z wr 0 (Tr.cA F z) T F):=hJ (by
   have e:Tr.cD F z 1=Tr.cA F z:=aJ c;exact .inl ⟨by rw[e];exact c,rfl,e.symm,rfl,rfl⟩)
  go_in
  go_wp2_with fail
  refine sC (pB b z F _ HF.2.1) ?_;rintro W1 b1;rw[E2.1,E2.2];have H1:=hJ (HF.below b1);have F1:Hid (dw t b p w W1):=hJ (dw.below b1);go_upto_region 2 with fail
  refine cG (λW'=>FX W' t b p T F S/\dw t b p w W') (by
   have bb:=(aQ W1.heap.size W1).alloc (aL _) (bg #[aa az 0,aa az 0,aa az 0,aa az 0] 156);exact⟨H1.below bb,F1.trans (dw.below bb)⟩) ?_
  rintro W2 ⟨h2,f2⟩;have H2:=hJ h2;have F2:=hJ f2;go_wp2
  go_ret2
  exact⟨0,Tr.cA F z,T,F,by rw[E2.1];rfl,FIN.v,H2.v,F2.v⟩

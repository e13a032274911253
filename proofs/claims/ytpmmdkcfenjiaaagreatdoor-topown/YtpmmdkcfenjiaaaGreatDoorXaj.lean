import Derived.Test.YtpmmdkcfenjiaaaGreatDoorXai
set_option maxRecDepth 100000
set_option maxHeartbeats 2000000
set_option linter.unusedVariables false
set_option linter.unusedSimpArgs false
namespace Go.Proofs.YtpmmdkcfenjiaaaGreatDoor
open Value renaming int->aa,pointer->ai,slice->aj,string->ak,tuple->ao,iface->aq,bool->ar,agg->au
open IntKind renaming i64->bf,u8->bh
open Ending renaming returned->bw
open Obj renaming cells->bA
open Option renaming some->bB,none->bC
open Bool renaming true->bE,false->bF
open Tryz (prog)
open Go.RowKit
variable {E z:Int}{B b c t:Nat}{w:bD}
namespace Pp
structure Pi where
 tx:bU
 reads:Nat
 writes:Nat
def Pi.no:Pi:=⟨⟨#[]⟩,0,0⟩
def put(S:Nat->Pi)(n:Nat)(x:Pi):Nat->Pi:=λm=>if m=n then x else S m
theorem bR(S:Nat->Pi)(n:Nat)(x:Pi):put S n x n=x:=aJ rfl
theorem cr(S:Nat->Pi)(n:Nat)(x:Pi)(m:Nat)(h:m≠n):put S n x m=S m:=aI h
theorem gO(S:Nat->Pi)(n:Nat)(x y:Pi):put (put S n x) n y=put S n y:=by
 funext m;unfold put;split<;>rfl
def ml(x:Pi):Bool:=decide (0<x.reads\/0<x.writes)
def kQ(x:Pi)(wr:Bool):Nat:=if wr then x.writes else x.reads
def jW(S:Nat->Pi)(z:Int):Int:=if z<0\/7<z then 1 else if ml (S z.toNat)then 0 else 2
def iw(S:Nat->Pi)(z:Int)(wr:Bool):Int:=if jW S z≠0 then jW S z else if kQ (S z.toNat) wr=0 then 8 else 0
theorem GI{S:Nat->Pi}(h:jW S z=0):∃n:Nat,z=n/\n<8/\ml (S n)=bE:=by
 unfold jW at h;by_cases c:z<0\/7<z
 .rw[aJ c]at h;omega
 .rw[aI c]at h;refine⟨z.toNat,bG,bG,?_⟩;by_cases d:ml (S z.toNat)=bE
  .exact d
  .rw[aI d]at h;omega
theorem DQ{S:Nat->Pi}{wr:Bool}(h:iw S z wr=0):∃n:Nat,z=n/\n<8/\ml (S n)=bE/\kQ (S n) wr≠0:=by
 unfold iw at h;by_cases c:jW S z≠0
 .rw[aJ c]at h;exact aZ h c
 .rw[aI c]at h;obtain⟨n,rfl,hn,ht⟩:=GI (by omega:jW S z=0);refine⟨n,rfl,hn,ht,λd=>?_⟩;rw[hZ,aJ d]at h;omega
def fj(t:bU):List Value:=t.data.toList.map λx=>aa bh (x.toNat:Int)
theorem km(t:bU):(fj t).length=t.size:=by simp[fj]
end Pp
open Pp (Pi)
structure dU (w:bD)(b:Nat)(S:Nat->Pi):Prop where
 dk:∃C T,w.heap[b]? =bB (bA C T (0,0))/\C.size=120
 dc:∀n,n<8->∀j v,(Pp.fj (S n).tx)[j]? =bB v->w.cell? ⟨b,n*15+j,bC⟩=bB v
 many:∀n,n<8->w.cell? ⟨b,n*15+12,bC⟩=bB (aa bf ((S n).tx.size:Int))
 reads:∀n,n<8->w.cell? ⟨b,n*15+13,bC⟩=bB (aa bf ((S n).reads:Int))
 writes:∀n,n<8->w.cell? ⟨b,n*15+14,bC⟩=bB (aa bf ((S n).writes:Int))
 small:∀n,n<8->(S n).tx.size<=12
section
variable {w w':bD}{b:Nat}{S:Nat->Pi}
theorem dU.lt(h:dU w b S):b<w.heap.size:=by
 obtain⟨C,T,e,_⟩:=h.dk;exact(aX.1 e).1
theorem dU.frozen(h:dU w b S)(o:Nat):w.frozen? ⟨b,o,bC⟩=bF:=by
 obtain⟨C,T,e,_⟩:=h.dk;exact cL e o
theorem dU.Gq(h:dU w b S)(o:Nat)(ho:o<120):(w.cell? ⟨b,o,bC⟩).isSome=bE:=by
 obtain⟨C,T,e,hC⟩:=h.dk;rw[cA e,Array.getElem?_eq_getElem bG];rfl
theorem dU.same(h:dU w b S)(e:w'.heap[b]? =w.heap[b]?):dU w' b S:=by
 have hc:∀o,w'.cell? ⟨b,o,bC⟩=w.cell? ⟨b,o,bC⟩:=λo=>aV e;exact⟨by rw[e];exact h.dk,λn hn j v hv=>(hc _).trans (h.dc n hn j v hv),λn hn=>(hc _).trans (h.many n hn),λn hn=>(hc _).trans (h.reads n hn),λn hn=>(hc _).trans (h.writes n hn),h.small⟩
theorem dU.drew(h:dU w b S):dU w.drew b S:=h.same rfl
theorem dU.drewN(h:dU w b S)(n:Nat):dU (w.drewN n) b S:=h.same rfl
theorem dU.below(h:dU w b S)(k:Below B w w')(hb:b<B):dU w' b S:=h.same (k.block b hb)
theorem dU.mK(h:dU w b S)(k:bO c w w')(hb:b≠c):dU w' b S:=h.same (k.block b h.lt hb)
end
def lN(b:Nat)(z E:Int):Value:=if E=0 then ai (bB ⟨b,z.toNat*15,bC⟩)else ai bC
theorem sA(b n:Nat):lN b (n:Int) 0=ai (bB ⟨b,n*15,bC⟩):=by unfold lN;rw[aJ rfl,hZ]
theorem oH(h:E≠0):lN b z E=ai none:=aI h
theorem pX(b n:Nat)(S:Nat->Pi)(w:bD)(h:dU w b S)(hn:n<8):
  Calls prog 159 #[ai (bB ⟨b,n*15,bC⟩)] w λe w'=>e=bw (ar (Pp.ml (S n)))/\w'=w:=by
 have c1:=h.reads n hn;have c2:=h.writes n hn;unfold Pp.ml;generalize (S n).reads=r at c1|-;generalize (S n).writes=u at c2|-;by_cases r0:0<r
 .have r1:(0:Int)<(r:Int):=bG
  go_in
  go_wp2
  go_ret
  exact⟨da (by simp[r0]),rfl⟩
 .have r1:¬(0:Int)<(r:Int):=bG
  go_in
  go_wp2
  go_ret
  exact⟨da (by simp),rfl⟩
theorem yU(b o:Nat)(wr:Bool)(w:bD):
  Calls prog 270 #[ai (bB ⟨b,o,bC⟩),ar wr] w λe w'=>e=bw (ai (bB ⟨b,o+(if wr then 14 else 13),bC⟩))/\w'=w:=by
 cases wr
 .go_in
  go_wp2
  go_ret
  exact⟨rfl,rfl⟩
 .go_in
  go_wp2
  go_ret
  exact⟨rfl,rfl⟩
theorem vd(b:Nat)(z:Int)(S:Nat->Pi)(w:bD)(h:dU w b S):
  Calls prog 289 #[ai (bB ⟨b,0,bC⟩),aa bf z] w λe w'=>e=bw (ao #[lN b z (Pp.jW S z),bS (Pp.jW S z)])/\w'=w:=by
 have HF:=hJ h;by_cases c:z<0\/7<z
 .have E:Hid (Pp.jW S z=1):=hJ (aJ c);have E2:Hid (lN b z 1=ai bC):=hJ (oH bM);by_cases c1:z<0
  .clear c h;go_in
   go_wp2
   go_ret2
   rw[E.v,E2.v];exact⟨rfl,rfl⟩
  .have c2:8<=z:=bG
   go_in
   go_wp2
   go_ret2
   rw[E.v,E2.v];exact⟨rfl,rfl⟩
 .obtain⟨n,rfl⟩:∃n:Nat,z=n:=⟨z.toNat,bG⟩;have n8:n<8:=bG
  have n8i:(n:Int)<8:=bG
  have E:Pp.jW S (n:Int)=if Pp.ml (S n)then 0 else 2:=by unfold Pp.jW;rw[aI c,hZ]
  by_cases d:Pp.ml (S n)=bE
  .have E1:Hid (Pp.jW S (n:Int)=0/\lN b (n:Int) 0=ai (bB ⟨b,n*15,bC⟩)/\Pp.ml (S n)=bE):=hJ ⟨by rw[E,aJ d],sA b n,d⟩;go_in
   go_wp2_with fail
   refine sC (pX b n S _ HF.v n8) ?_;rintro w1 hw1;subst w1;rw[E1.2.2];go_wp2
   go_ret2
   rw[E1.1,E1.2.1];exact⟨rfl,rfl⟩
  .have E1:Hid (Pp.jW S (n:Int)=2/\lN b (n:Int) 2=ai bC/\Pp.ml (S n)=bF):=hJ ⟨by rw[E,aI d],oH bM,by simpa using d⟩;go_in
   go_wp2_with fail
   refine sC (pX b n S _ HF.v n8) ?_;rintro w1 hw1;subst w1;rw[E1.2.2];go_wp2
   go_ret2
   rw[E1.1,E1.2.1];exact⟨rfl,rfl⟩
theorem jt(b:Nat)(z:Int)(wr:Bool)(S:Nat->Pi)(w:bD)(h:dU w b S):
  Calls prog 269 #[ai (bB ⟨b,0,bC⟩),aa bf z,ar wr] w λe w'=>e=bw (ao #[lN b z (Pp.iw S z wr),bS (Pp.iw S z wr)])/\w'=w:=by
 have HF:=hJ h;by_cases c:Pp.jW S z=0
 .obtain⟨n,rfl,n8,_⟩:=Pp.GI c;have c0:w.cell? ⟨b,n*15+(if wr then 14 else 13),bC⟩=bB (aa bf (Pp.kQ (S n) wr:Int)):=by
   cases wr
   .exact h.reads n n8
   .exact h.writes n n8
  have EP:Hid (Pp.jW S (n:Int)=0/\lN b (n:Int) 0=ai (bB ⟨b,n*15,bC⟩)):=hJ ⟨c,sA b n⟩;have EO:Pp.iw S (n:Int) wr=if Pp.kQ (S n) wr=0 then 8 else 0:=by unfold Pp.iw;rw[aI (λd=>d c),hZ]
  obtain⟨o,ho⟩:=hU ((if wr then 14 else 13));have T:Hid (∀W:bD,Calls prog 270 #[ai (bB ⟨b,n*15,bC⟩),ar wr] W λe w'=>e=bw (ai (bB ⟨b,n*15+o,bC⟩))/\w'=W):=hJ (λW=>by
   have:=yU b (n*15) wr W;rw[ho]at this;exact this)
  rw[ho]at c0;by_cases d:Pp.kQ (S n) wr=0
  .have FIN:Hid (Pp.iw S (n:Int) wr=8/\lN b (n:Int) 8=ai bC):=hJ ⟨by rw[EO,aJ d],oH bM⟩;rw[d]at c0;have c1:w.cell? ⟨b,n*15+o,bC⟩=bB (aa .i64 0):=c0;go_in
   go_wp2_with fail
   refine sC (vd b n S _ HF.v) ?_;rintro w1 hw1;subst w1;rw[EP.1,EP.2,bN];go_wp2_with fail
   refine sC (T.v _) ?_;rintro w1 hw1;subst w1;go_wp2
   go_ret2
   rw[FIN.1,FIN.2];exact⟨rfl,rfl⟩
  .have FIN:Hid (Pp.iw S (n:Int) wr=0):=hJ (by rw[EO,aI d]);generalize Pp.kQ (S n) wr=k at d c0;have d1:¬(k:Int)=0:=bG
   go_in
   go_wp2_with fail
   refine sC (vd b n S _ HF.v) ?_;rintro w1 hw1;subst w1;rw[EP.1,EP.2,bN];go_wp2_with fail
   refine sC (T.v _) ?_;rintro w1 hw1;subst w1;go_wp2
   go_ret2
   rw[FIN.v,EP.2];exact⟨rfl,rfl⟩
 .have E2:Hid (lN b z (Pp.jW S z)=ai bC/\bS (Pp.jW S z)=aq 100 (aa bf (Pp.jW S z))/\Pp.iw S z wr=Pp.jW S z):=hJ ⟨oH c,bP c,aJ c⟩;go_in
  go_wp2_with fail
  refine sC (vd b z S _ HF.v) ?_;rintro w1 hw1;subst w1;rw[E2.1,E2.2.1];go_wp2
  go_ret2
  rw[E2.2.2,E2.1,E2.2.1];exact⟨rfl,rfl⟩
theorem Pp.jA{b:Nat}:∀(vs:List Value) (o:Nat) {u w:bD},bO b u w->bO b u (w.setCells b o vs)
 |[],_,_,_,h=>h
 |v::r,o,u,w,h=>by rw[World.setCells];exact Pp.jA r (o+1) (h.setCell o v)
theorem Pp.jx(b:Nat):∀(vs:List Value) (o:Nat) (w:bD) (C:Array Value) {T:TypeId},w.heap[b]? =bB (bA C T (0,0))->∃C',(w.setCells b o vs).heap[b]? =bB (bA C' T (0,0))/\C'.size=C.size
 |[],_,_,C,_,h=>⟨C,h,rfl⟩
 |v::r,o,w,C,_,h=>by
  rw[World.setCells];obtain⟨C',h1,h2⟩:=Pp.jx b r (o+1) _ _ (cT h o v);exact⟨C',h1,by simpa using h2⟩
def Pp.mF(x:Pi)(wr:Bool)(k:Nat):Pi:=if wr then{x with writes:=k}else{x with reads:=k}
def Pp.ow(r u:Nat):Array Value:=#[aa bh 0,aa bh 0,aa bh 0,aa bh 0,aa bh 0,aa bh 0,aa bh 0,aa bh 0,aa bh 0,aa bh 0,aa bh 0,aa bh 0,aa bf 0,aa bf (r:Int),aa bf (u:Int)]
section
variable {w:bD}{b:Nat}{S:Nat->Pi}
theorem Pp.ph{t:bU}{j:Nat}{v:Value}(h:(Pp.fj t)[j]? =bB v):j<t.size:=by
 have:=(aY.1 h).1;rw[Pp.km]at this;exact this
theorem dU.mF(h:dU w b S)(n:Nat)(hn:n<8)(wr:Bool)(k:Nat):dU (w.setCell ⟨b,n*15+(if wr then 14 else 13),bC⟩ (aa bf (k:Int))) b (Pp.put S n (Pp.mF (S n) wr k)):=by
 obtain⟨C,T,h1,h2⟩:=h.dk;have ne:∀o,o≠n*15+(if wr then 14 else 13)->(w.setCell ⟨b,n*15+(if wr then 14 else 13),bC⟩ (aa bf (k:Int))).cell? ⟨b,o,bC⟩=w.cell? ⟨b,o,bC⟩:=λo ho=>dw h1 _ _ _ (bQ ho);have eq:(w.setCell ⟨b,n*15+(if wr then 14 else 13),bC⟩ (aa bf (k:Int))).cell? ⟨b,n*15+(if wr then 14 else 13),bC⟩=bB (aa bf (k:Int)):=dH h1 _ _ (by split<;>omega);have tx:(Pp.mF (S n) wr k).tx=(S n).tx:=by cases wr<;>rfl
 refine⟨⟨_,T,cT h1 _ _,by simpa using h2⟩,λm hm j v hv=>?_,λm hm=>?_,λm hm=>?_,λm hm=>?_,λm hm=>?_⟩
 .by_cases c:m=n
  .subst c;rw[Pp.bR,tx]at hv;have:=Pp.ph hv;have:=h.small m hm;rw[ne _ (by split<;>omega)];exact h.dc m hm j v hv
  .rw[Pp.cr _ _ _ _ c]at hv;have:=Pp.ph hv;have:=h.small m hm;rw[ne _ (by split<;>omega)];exact h.dc m hm j v hv
 .rw[ne _ (by split<;>omega),h.many m hm];by_cases c:m=n
  .subst c;rw[Pp.bR,tx]
  .rw[Pp.cr _ _ _ _ c]
 .by_cases c:m=n
  .subst c;rw[Pp.bR];cases wr
   .exact eq
   .rw[ne _ (by simp)];exact h.reads m hm
  .rw[Pp.cr _ _ _ _ c,ne _ (by split<;>omega),h.reads m hm]
 .by_cases c:m=n
  .subst c;rw[Pp.bR];cases wr
   .rw[ne _ (by simp)];exact h.writes m hm
   .exact eq
  .rw[Pp.cr _ _ _ _ c,ne _ (by split<;>omega),h.writes m hm]
 .by_cases c:m=n
  .subst c;rw[Pp.bR,tx];exact h.small m hm
  .rw[Pp.cr _ _ _ _ c];exact h.small m hm
theorem dU.PN(h:dU w b S)(n:Nat)(hn:n<8)(r u:Nat):dU (w.setCells b (n*15) (Pp.ow r u).toList) b (Pp.put S n ⟨⟨#[]⟩,r,u⟩):=by
 obtain⟨C,T,h1,h2⟩:=h.dk;obtain⟨C',k1,k2⟩:=Pp.jx b (Pp.ow r u).toList (n*15) w C h1;have out:∀o,o<n*15\/n*15+15<=o->(w.setCells b (n*15) (Pp.ow r u).toList).cell? ⟨b,o,bC⟩=w.cell? ⟨b,o,bC⟩:=λo ho=>aA b _ (n*15) w ⟨b,o,bC⟩ (λ_ _=>by show o<_\/_<=o;exact ho);have sj:∀j (hj:j<15),(w.setCells b (n*15) (Pp.ow r u).toList).cell? ⟨b,n*15+j,bC⟩=bB ((Pp.ow r u).toList[j]'hj):=λj hj=>aS b (Pp.ow r u).toList (n*15) w (λi hi=>h.Gq _ (by have:i<15:=hi;omega)) j hj;refine⟨⟨C',T,k1,bG⟩,λm hm j v hv=>?_,λm hm=>?_,λm hm=>?_,λm hm=>?_,λm hm=>?_⟩
 .by_cases c:m=n
  .subst c;rw[Pp.bR]at hv;exact aZ (Pp.ph hv) (by show¬j<0;omega)
  .rw[Pp.cr _ _ _ _ c]at hv;have:=Pp.ph hv;have:=h.small m hm;rw[out _ bG];exact h.dc m hm j v hv
 .by_cases c:m=n
  .subst c;rw[Pp.bR];exact sj 12 bG
  .rw[Pp.cr _ _ _ _ c,out _ bG];exact h.many m hm
 .by_cases c:m=n
  .subst c;rw[Pp.bR];exact sj 13 bG
  .rw[Pp.cr _ _ _ _ c,out _ bG];exact h.reads m hm
 .by_cases c:m=n
  .subst c;rw[Pp.bR];exact sj 14 bG
  .rw[Pp.cr _ _ _ _ c,out _ bG];exact h.writes m hm
 .by_cases c:m=n
  .subst c;rw[Pp.bR];exact aC _
  .rw[Pp.cr _ _ _ _ c];exact h.small m hm
theorem dU.GZ(h:dU w b S)(n:Nat)(hn:n<8)(r u:Nat):w.there b (n*15) (Pp.ow r u).size:=λj hj=>by
 have:j<15:=hj;exact⟨h.Gq _ bG,h.frozen _⟩
theorem Pp.Bc(r u:Nat):(prog.info? 119).map (·.size)=bB (Pp.ow r u).size:=by
 show _=bB 15;kernel_rfl
theorem Pp.GG(r u:Nat):(Pp.ow r u).all (·.oneCell')=bE:=by simp[Pp.ow,Value.oneCell']
end
section
variable {ops:Array Oper}{rest:List Oper}{x:Oper}{a:Act}{w:bD}{Q:Exit->Act->bD->Prop}
theorem Pp.Mh(hgd:x.guard=bC)(ho:x.op= .build 119 #[])(h:wpList prog ops Q rest (a.put x.dst (au (Pp.ow 0 0))) w):wpList prog ops Q (x::rest) a w:=
 wpList_plain hgd λ_ hK=>by
  unfold Oper.wp execOp;simp only[ho];simp[go_sem];exact hK _ _ h
theorem Pp.Mi(hgd:x.guard=bC)(ho:x.op= .build 119 #[(2, .const (aa .i64 1)),(3, .const (aa .i64 1))])(h:wpList prog ops Q rest (a.put x.dst (au (Pp.ow 1 1))) w):wpList prog ops Q (x::rest) a w:=
 wpList_plain hgd λ_ hK=>by
  unfold Oper.wp execOp;simp only[ho];simp[go_sem];exact hK _ _ h
end
def Pp.less(x:Pi)(wr:Bool):Pi:=if Pp.ml (Pp.mF x wr (Pp.kQ x wr-1))then Pp.mF x wr (Pp.kQ x wr-1)else Pi.no
def Pp.qq(S:Nat->Pi)(z:Int)(wr:Bool):Nat->Pi:=if Pp.iw S z wr=0 then Pp.put S z.toNat (Pp.less (S z.toNat) wr)else S
theorem dU.kQ{w:bD}{b:Nat}{S:Nat->Pi}(h:dU w b S)(n:Nat)(hn:n<8)(wr:Bool):w.cell? ⟨b,n*15+(if wr then 14 else 13),bC⟩=bB (aa bf (Pp.kQ (S n) wr:Int)):=by
 cases wr
 .exact h.reads n hn
 .exact h.writes n hn
theorem Ld(b:Nat)(z:Int)(wr:Bool)(S:Nat->Pi)(w:bD)(h:dU w b S)(hb:∀n,n<8->Pp.kQ (S n) wr<2^60):
  Calls prog 227 #[ai (bB ⟨b,0,bC⟩),aa bf z,ar wr] w λe w'=>e=bw (bS (Pp.iw S z wr))/\dU w' b (Pp.qq S z wr)/\bO b w w':=by
 have HF:=hJ h;by_cases c:Pp.iw S z wr=0
 .obtain⟨n,rfl,n8,_,t0⟩:=Pp.DQ c;have EP:Hid (Pp.iw S (n:Int) wr=0/\lN b (n:Int) 0=ai (bB ⟨b,n*15,bC⟩)):=hJ ⟨c,sA b n⟩;have ED:Pp.qq S (n:Int) wr=Pp.put S n (Pp.less (S n) wr):=by unfold Pp.qq;rw[aJ c,hZ]
  have c0:=h.kQ n n8 wr;have hl:=hb n n8;have T:=hJ (yU b (n*15) wr);have S1:Hid (dU (w.setCell ⟨b,n*15+(if wr then 14 else 13),bC⟩ (aa bf ((Pp.kQ (S n) wr-1:Nat):Int))) b (Pp.put S n (Pp.mF (S n) wr (Pp.kQ (S n) wr-1)))):=hJ (h.mF n n8 wr _);have cf:=h.frozen;have HL:Hid (Pp.less (S n) wr=if Pp.ml (Pp.mF (S n) wr (Pp.kQ (S n) wr-1))then Pp.mF (S n) wr (Pp.kQ (S n) wr-1)else Pi.no):=hJ rfl;generalize hX:Pp.mF (S n) wr (Pp.kQ (S n) wr-1)=X at S1 HL;generalize (if wr then 14 else 13)=o at c0 T S1;generalize Pp.kQ (S n) wr=k at*;obtain⟨q,rfl⟩:∃q,k=q+1:=⟨k-1,bG⟩;have hw:IntKind.i64.wrap ((q+1:Nat)-1:Int)=(q:Int):=(aN _ ⟨by omega,bG⟩).trans bG;rw[aP]at S1;obtain⟨k1,hk1⟩:=hU (((q+1:Nat):Int));rw[hk1]at c0 hw;go_in
  go_wp2_with fail
  refine sC (jt b n wr S _ HF.v) ?_;rintro w1 hw1;subst w1;rw[EP.1,EP.2,bN];go_wp2_with fail
  refine sC (T.v _) ?_;rintro w1 hw1;subst w1;go_wp2_with fail
  have TH:=hJ (pX b n _ _ S1.v n8);rw[Pp.bR]at TH;refine sC TH.v ?_;rintro w1 hw1;subst w1;have F1:Hid (bO b w (w.setCell ⟨b,n*15+o,bC⟩ (aa bf (q:Int)))):=hJ ((bO.refl b w).setCell _ _);cases hth:Pp.ml X
  .have TH:=hJ (S1.GZ n n8 0 0);have HS:=hJ (Pp.Bc 0 0);have H1:=hJ (Pp.GG 0 0);have FIN:Hid (dU ((w.setCell ⟨b,n*15+o,bC⟩ (aa bf (q:Int))).setCells b (n*15) (Pp.ow 0 0).toList) b (Pp.qq S (n:Int) wr)/\bO b w ((w.setCell ⟨b,n*15+o,bC⟩ (aa bf (q:Int))).setCells b (n*15) (Pp.ow 0 0).toList)):=hJ (by
    have:=S1.PN n n8 0 0;rw[Pp.gO]at this;rw[ED,HL.v,hth,aI bM];exact⟨this,Pp.jA _ _ F1.v⟩)
   obtain⟨A,hA⟩:=hU (Pp.ow 0 0);rw[hA]at FIN TH HS H1;generalize w.setCell ⟨b,n*15+o,bC⟩ (aa bf (q:Int))=W at*;go_wp2_with (first|(refine Pp.Mh rfl rfl ?_;rw[hA])|(refine wpList_store_mid rfl 119 _ _ rfl b (n*15) A rfl rfl TH.v HS.v H1.v ?_))
   go_ret
   rw[EP.1];exact⟨rfl,FIN.v⟩
  .have FIN:Hid (dU (w.setCell ⟨b,n*15+o,bC⟩ (aa bf (q:Int))) b (Pp.qq S (n:Int) wr)):=hJ (by
    rw[ED,HL.v,hth,aJ rfl];exact S1.v)
   generalize w.setCell ⟨b,n*15+o,bC⟩ (aa bf (q:Int))=W at*;go_wp2
   go_ret
   rw[EP.1];exact⟨rfl,FIN.v,F1.v⟩
 .have E2:Hid (lN b z (Pp.iw S z wr)=ai bC/\bS (Pp.iw S z wr)=aq 100 (aa bf (Pp.iw S z wr))/\Pp.qq S z wr=S):=hJ ⟨oH c,bP c,aI c⟩;go_in
  go_wp2_with fail
  refine sC (jt b z wr S _ HF.v) ?_;rintro w1 hw1;subst w1;rw[E2.1,E2.2.1];go_wp2
  go_ret
  rw[E2.2.2,E2.2.1];exact⟨rfl,HF.v,bO.refl _ _⟩
theorem Pp.zU(t:bU)(a e:Nat):Pp.fj (t.extract a e)=((Pp.fj t).drop a).take (e-a):=by
 unfold Pp.fj;rw[ByteArray.data_extract,Array.toList_extract,List.extract,List.map_take,List.map_drop]
theorem Pp.Qn(s t:bU):Pp.fj (s++t)=Pp.fj s++Pp.fj t:=by
 unfold Pp.fj;rw[ByteArray.data_append,Array.toList_append,List.map_append]
section
variable {P:Program}
theorem Pp.BQ(w:bD)(dT sT ty elem:TypeId)(b o dLen dCap:Nat)(t:bU)(hu:P.underlying dT=bB (.slice elem))(hz:∀w,(Go.sizeOf elem).run P w= .ok 1 w)
  (hc:∀j,j<min t.size dLen->(w.cell? ⟨b,o+j,bC⟩).isSome=bE) (hf:∀j,j<min t.size dLen->w.frozen? ⟨b,o+j,bC⟩=bF):
  (Builtin.copy_ #[dT,sT] ty #[aj (bB ⟨b,o,bC⟩) dLen dCap,ak t]).run P w= .ok (goInt ((min t.size dLen:Nat):Int)) (w.setCells b o (Pp.fj (t.extract 0 (min t.size dLen)))):=by
 have hl:(Pp.fj (t.extract 0 (min t.size dLen))).length=min t.size dLen:=by rw[Pp.km,ByteArray.size_extract];omega
 have hst:=run_storeCells_cells (P:=P) b o (Pp.fj (t.extract 0 (min t.size dLen))) 0 w (by rw[hl];simpa using hc) (by rw[hl];simpa using hf) (by
  intro v hv;obtain⟨x,_,rfl⟩:=List.mem_map.1 hv;rfl)
 have hm:Nat.min t.size dLen=min t.size dLen:=rfl;have ht:List.take (min t.size dLen) (List.map (λx:UInt8=>aa bh (x.toNat:Int)) t.data.toList)=Pp.fj (t.extract 0 (min t.size dLen)):=by
  rw[Pp.zU,List.drop_zero,Nat.sub_zero];rfl
 simp[Builtin.copy_,run_underlying hu,Builtin.lenOf,Builtin.firstCells,hz,hm];rw[ht,hst];rfl
theorem Pp.D9(w:bD)(ty:TypeId)(d:Option Addr)(dLen dCap:Nat):(Builtin.copy_ #[316,9] ty #[aj d dLen dCap,ak ⟨#[]⟩]).run prog w= .ok (goInt 0) w:=by
 have hu:prog.underlying 316=bB (.slice 5):=by kernel_rfl
 have hz:∀w,(Go.sizeOf 5).run prog w= .ok 1 w:=λw=>by rfl
 have e0:ByteArray.size ⟨#[]⟩=0:=rfl;cases d<;>simp[Builtin.copy_,run_underlying hu,Builtin.lenOf,Builtin.firstCells,hz,e0,storeCells]
theorem Pp.pD{ops:Array Oper}{o:Oper}{a:Act}{K:Act->bD->Prop}{Q:Exit->Act->bD->Prop}{E:Prop}
  (hg:o.guard=bC) (d x:Operand) (dT sT:TypeId) (hop:o.op=Op.call {callee:=Callee.builtin Builtin.copy,args:=#[d,x],argTypes:=#[dT,sT]})
  (v1 v2 r:Value) (W:bD) (hd:a.eval d=v1) (hx:a.eval x=v2) (hrun:(Builtin.copy_ #[dT,sT] o.type #[v1,v2]).run P w= .ok r W) (hK:K (a.put o.dst r) W):
  if Region.wanted o (yielded ops a.tmps)=bE then Oper.wp P o a w K Q else E:=by
 have hw:Region.wanted o (yielded ops a.tmps)=bE:=by simp[Region.wanted,hg]
 rw[aJ hw];unfold Oper.wp;simp[execOp,hop,resolve,invoke,builtin,hd,hx,hrun,Result.andThen];exact hK
end
section
variable {w:bD}{b:Nat}{S:Nat->Pi}
theorem dU.wrote(h:dU w b S)(n:Nat)(hn:n<8)(t:bU)(ht:(S n).tx.size+t.size<=12):
  dU ((w.setCells b (n*15+(S n).tx.size) (Pp.fj t)).setCell ⟨b,n*15+12,bC⟩ (aa bf (((S n).tx.size+t.size:Nat):Int))) b (Pp.put S n {S n with tx:=(S n).tx++t}):=by
 obtain⟨C,T,h1,h2⟩:=h.dk;obtain⟨C',k1,k2⟩:=Pp.jx b (Pp.fj t) (n*15+(S n).tx.size) w C h1;have hl:=Pp.km t;have ne:∀o,o≠n*15+12->((w.setCells b (n*15+(S n).tx.size) (Pp.fj t)).setCell ⟨b,n*15+12,bC⟩ (aa bf (((S n).tx.size+t.size:Nat):Int))).cell? ⟨b,o,bC⟩=(w.setCells b (n*15+(S n).tx.size) (Pp.fj t)).cell? ⟨b,o,bC⟩:=λo ho=>dw k1 _ _ _ (bQ ho);have out:∀o,o<n*15+(S n).tx.size\/n*15+(S n).tx.size+t.size<=o->(w.setCells b (n*15+(S n).tx.size) (Pp.fj t)).cell? ⟨b,o,bC⟩=w.cell? ⟨b,o,bC⟩:=λo ho=>aA b _ _ w ⟨b,o,bC⟩ (λ_ _=>by rw[hl];exact ho);have sj:∀j (hj:j<(Pp.fj t).length),(w.setCells b (n*15+(S n).tx.size) (Pp.fj t)).cell? ⟨b,n*15+(S n).tx.size+j,bC⟩=bB ((Pp.fj t)[j]):=λj hj=>aS b (Pp.fj t) _ w (λi hi=>h.Gq _ (by rw[hl]at hi;omega)) j hj;refine⟨⟨_,T,cT k1 _ _,by simp;omega⟩,λm hm j v hv=>?_,λm hm=>?_,λm hm=>?_,λm hm=>?_,λm hm=>?_⟩
 .by_cases c:m=n
  .subst c;rw[Pp.bR]at hv;have hj:=Pp.ph hv;rw[ByteArray.size_append]at hj;rw[ne _ bG];have hv:(Pp.fj (S m).tx++Pp.fj t)[j]? =bB v:=by rw[<-Pp.Qn];exact hv
   by_cases d:j<(S m).tx.size
   .rw[List.getElem?_append_left (by rw[Pp.km];exact d)]at hv;rw[out _ bG];exact h.dc m hm j v hv
   .rw[List.getElem?_append_right (by rw[Pp.km];omega),Pp.km]at hv;have:=sj (j-(S m).tx.size) (by rw[hl];omega);rw[show m*15+(S m).tx.size+(j-(S m).tx.size)=m*15+j by omega,<-aW,hv]at this;exact this
  .rw[Pp.cr _ _ _ _ c]at hv;have:=Pp.ph hv;have:=h.small m hm;rw[ne _ bG,out _ bG];exact h.dc m hm j v hv
 .by_cases c:m=n
  .subst c;rw[Pp.bR,dH k1 _ _ bG];show _=bB (aa bf ((((S m).tx++t).size:Nat):Int));rw[ByteArray.size_append]
  .rw[Pp.cr _ _ _ _ c,ne _ bG,out _ bG];exact h.many m hm
 .rw[ne _ bG,out _ bG,h.reads m hm];by_cases c:m=n
  .subst c;rw[Pp.bR]
  .rw[Pp.cr _ _ _ _ c]
 .rw[ne _ bG,out _ bG,h.writes m hm];by_cases c:m=n
  .subst c;rw[Pp.bR]
  .rw[Pp.cr _ _ _ _ c]
 .by_cases c:m=n
  .subst c;rw[Pp.bR];show((S m).tx++t).size<=12;rw[ByteArray.size_append];exact ht
  .rw[Pp.cr _ _ _ _ c];exact h.small m hm
end
def Pp.dQ(S:Nat->Pi)(z:Int)(s:bU):Int:=if Pp.iw S z bE≠0 then Pp.iw S z bE else if(S z.toNat).reads=0 then 12 else if s.size≠0/\(S z.toNat).tx.size=12 then 13 else 0
def Pp.iT(S:Nat->Pi)(z:Int)(s:bU):Nat:=if Pp.dQ S z s=0 then min s.size (12-(S z.toNat).tx.size)else 0
def Pp.eX(S:Nat->Pi)(z:Int)(s:bU):Nat->Pi:=if Pp.dQ S z s=0 then Pp.put S z.toNat {S z.toNat with tx:=(S z.toNat).tx++s.extract 0 (Pp.iT S z s)}else S
theorem I0(b:Nat)(z:Int)(s:bU)(S:Nat->Pi)(w:bD)(h:dU w b S)(hs:s.size<2^60):
  Calls prog 247 #[ai (bB ⟨b,0,bC⟩),aa bf z,ak s] w λe w'=>e=bw (ao #[aa bf (Pp.iT S z s:Int),bS (Pp.dQ S z s)])/\dU w' b (Pp.eX S z s)/\bO b w w':=by
 have HF:=hJ h;by_cases c:Pp.iw S z bE=0
 .obtain⟨n,rfl,n8,_,t0⟩:=Pp.DQ c;have EP:Hid (Pp.iw S (n:Int) bE=0/\lN b (n:Int) 0=ai (bB ⟨b,n*15,bC⟩)):=hJ ⟨c,sA b n⟩;have EW:Pp.dQ S (n:Int) s=if(S n).reads=0 then 12 else if s.size≠0/\(S n).tx.size=12 then 13 else 0:=by unfold Pp.dQ;rw[aI (λd=>d c),hZ]
  have c1:=h.many n n8;have c2:=h.reads n n8;have no:∀E,E≠0->Pp.dQ S (n:Int) s=E->Pp.iT S (n:Int) s=0/\Pp.eX S (n:Int) s=S:=λE e0 e=>⟨by unfold Pp.iT;rw[e,aI e0],by unfold Pp.eX;rw[e,aI e0]⟩;by_cases r0:(S n).reads=0
  .have e:Pp.dQ S (n:Int) s=12:=by rw[EW,aJ r0]
   have FIN:Hid (Pp.dQ S (n:Int) s=12/\Pp.iT S (n:Int) s=0/\Pp.eX S (n:Int) s=S):=hJ ⟨e,no 12 bM e⟩;rw[r0]at c2;have c2':w.cell? ⟨b,n*15+13,bC⟩=bB (aa .i64 0):=c2;go_in
   go_wp2_with fail
   refine sC (jt b n bE S _ HF.v) ?_;rintro w1 hw1;subst w1;rw[EP.1,EP.2,bN];go_wp2
   go_ret2
   rw[FIN.1,FIN.2.1,FIN.2.2];exact⟨rfl,HF.v,bO.refl _ _⟩
  .have r1:(((S n).reads:Int)==0)=bF:=by simp;omega
   by_cases s0:s.size=0
   .obtain rfl:s=⟨#[]⟩:=by
     apply ByteArray.ext;exact Array.eq_empty_of_size_eq_zero s0
    have e:Pp.dQ S (n:Int) ⟨#[]⟩=0:=by rw[EW,aI r0,aI (λd=>d.1 s0)]
    have FIN:Hid (Pp.dQ S (n:Int) ⟨#[]⟩=0/\Pp.iT S (n:Int) ⟨#[]⟩=0):=hJ ⟨e,by unfold Pp.iT;rw[aJ e,s0,Nat.zero_min]⟩;have FI2:Hid (dU (w.setCell ⟨b,n*15+12,bC⟩ (aa bf ((S n).tx.size:Int))) b (Pp.eX S (n:Int) ⟨#[]⟩)):=hJ (by
     have q:=h.wrote n n8 ⟨#[]⟩ (by have:=h.small n n8;rw[s0];omega);unfold Pp.eX;rw[aJ e,hZ,FIN.2];exact q)
    have sm:=h.small n n8;generalize (S n).reads=rr at*;generalize (S n).tx.size=mm at*;have z12:mm<=12:=sm;have cf:=h.drew.frozen;have ad0:IntKind.i64.wrap (mm:Int)=(mm:Int):=aN _ ⟨by omega,bG⟩;have z12I:(mm:Int)<=12:=bG
    have EMP:=hJ Pp.D9;go_in
    go_wp2_with fail
    refine sC (jt b n bE S _ HF.v) ?_;rintro w1 hw1;subst w1;rw[EP.1,EP.2,bN];go_upto_region 8 with fail
    go_region_law (refine Pp.pD rfl _ _ 316 9 rfl (aj (bB (if 12=mm then⟨b,n*15,bC⟩else⟨b,n*15+mm,bC⟩)) (12-mm) (12-mm)) (ak ⟨#[]⟩) _ _ (by simp[Act.eval,Act.put]) (by simp[Act.eval,Act.put]) (EMP.v _ _ _ _ _) ?_)
    generalize (if 12=mm then(⟨b,n*15,bC⟩:Addr)else⟨b,n*15+mm,bC⟩)=ad;go_wp2
    go_ret2
    rw[FIN.1,FIN.2];exact⟨rfl,FI2.drew,((bO.refl b w).setCell _ _).drew⟩
   .have sl:(s.toList==[])=bF:=by
     rw[beq_eq_false_iff_ne];intro e;rw[ByteArray.toList_eq]at e;apply s0;show s.data.size=0;rw[<-aB,e];rfl
    by_cases m12:(S n).tx.size=12
    .have e:Pp.dQ S (n:Int) s=13:=by rw[EW,aI r0,aJ ⟨s0,m12⟩]
     have FIN:Hid (Pp.dQ S (n:Int) s=13/\Pp.iT S (n:Int) s=0/\Pp.eX S (n:Int) s=S):=hJ ⟨e,no 13 bM e⟩;rw[m12]at c1;have c1':w.cell? ⟨b,n*15+12,bC⟩=bB (aa .i64 12):=c1;generalize (S n).reads=rr at*;go_in
     go_wp2_with fail
     refine sC (jt b n bE S _ HF.v) ?_;rintro w1 hw1;subst w1;rw[EP.1,EP.2,bN];go_wp2
     go_ret2
     rw[FIN.1,FIN.2.1,FIN.2.2];exact⟨rfl,HF.v,bO.refl _ _⟩
    .have e:Pp.dQ S (n:Int) s=0:=by rw[EW,aI r0,aI (λd=>m12 d.2)]
     have sm:=h.small n n8;obtain⟨k,hk⟩:=hU (min s.size (12-(S n).tx.size));have eK:Pp.iT S (n:Int) s=k:=by unfold Pp.iT;rw[aJ e,hZ,hk]
     have FIN:Hid (Pp.dQ S (n:Int) s=0/\Pp.iT S (n:Int) s=k):=hJ ⟨e,eK⟩;have MID:Hid (∀V,dU V b S->bO b w V->(V.setCells b (n*15+(S n).tx.size) (Pp.fj (s.extract 0 k))).cell? ⟨b,n*15+12,bC⟩=bB (aa bf ((S n).tx.size:Int))/\(∀o,(V.setCells b (n*15+(S n).tx.size) (Pp.fj (s.extract 0 k))).frozen? ⟨b,o,bC⟩=bF)
       /\dU ((V.setCells b (n*15+(S n).tx.size) (Pp.fj (s.extract 0 k))).setCell ⟨b,n*15+12,bC⟩ (aa bf (((S n).tx.size+k:Nat):Int))) b (Pp.eX S (n:Int) s)/\bO b w (V.setCells b (n*15+(S n).tx.size) (Pp.fj (s.extract 0 k)))):=hJ (λV hV fV=>by
      have z:(s.extract 0 k).size=k:=by rw[ByteArray.size_extract];omega
      have q:=hV.wrote n n8 (s.extract 0 k) (by rw[z];omega);rw[z]at q;obtain⟨C,T,h1,_⟩:=hV.dk;obtain⟨C',k1,_⟩:=Pp.jx b (Pp.fj (s.extract 0 k)) (n*15+(S n).tx.size) V C h1;refine⟨?_,λo=>cL k1 o,?_,Pp.jA _ _ fV⟩
      .rw[aA b _ _ V ⟨b,n*15+12,bC⟩ (λ_ _=>by rw[Pp.km,z];show n*15+12<_\/_<=n*15+12;omega)];exact hV.many n n8
      .unfold Pp.eX;rw[aJ e,hZ,eK];exact q)
     have CP:Hid (∀V ty,dU V b S->(Builtin.copy_ #[316,9] ty #[aj (bB ⟨b,n*15+(S n).tx.size,bC⟩) (12-(S n).tx.size) (12-(S n).tx.size),ak s]).run prog V= .ok (goInt (k:Int)) (V.setCells b (n*15+(S n).tx.size) (Pp.fj (s.extract 0 k)))):=hJ (λV ty hV=>by
      have:=Pp.BQ (P:=prog) V 316 9 ty 5 b (n*15+(S n).tx.size) (12-(S n).tx.size) (12-(S n).tx.size) s bH (λw=>by rfl) (λj hj=>hV.Gq _ bG) (λj _=>hV.frozen _);rw[hk]at this;exact this)
     generalize (S n).reads=rr at*;generalize (S n).tx.size=mm at*;have mlt:mm<12:=bG
     have mltI:(mm:Int)<12:=bG
     have mleI:(mm:Int)<=12:=bG
     have mn0:¬12=mm:=bG
     have mn0':¬mm=12:=bG
     have mn1:¬12-mm=0:=bG
     have mn2:¬(mm:Int)=12:=bG
     have mn3:((mm:Int)==12)=bF:=by simp;omega
     have ad:IntKind.i64.wrap ((mm:Int)+(k:Int))=((mm+k:Nat):Int):=(aN _ ⟨by omega,bG⟩).trans bG;generalize Pp.fj (s.extract 0 k)=L at*;go_in
     go_wp2_with fail
     refine sC (jt b n bE S _ HF.v) ?_;rintro w1 hw1;subst w1;rw[EP.1,EP.2,bN];go_upto_region 8 with fail
     go_region_law (refine Pp.pD rfl _ _ 316 9 rfl (aj (bB ⟨b,n*15+mm,bC⟩) (12-mm) (12-mm)) (ak s) _ _ (by simp[Act.eval,Act.put]) (by simp[Act.eval,Act.put]) (CP.v _ _ HF.drew) ?_)
     have M:=MID.v _ HF.drew (bO.refl b w).drew;generalize w.drew.setCells b (n*15+mm) L=W at M|-;obtain⟨d1,d2,d3,d4⟩:=M;have FI3:=hJ d3;have FI4:=hJ d4;go_wp2
     go_ret2
     rw[FIN.1,FIN.2];exact⟨rfl,FI3.v,FI4.setCell _ _⟩
 .have E2:Hid (lN b z (Pp.iw S z bE)=ai bC/\bS (Pp.iw S z bE)=aq 100 (aa bf (Pp.iw S z bE))/\Pp.dQ S z s=Pp.iw S z bE/\Pp.iT S z s=0/\Pp.eX S z s=S):=hJ (by
   have e:Pp.dQ S z s=Pp.iw S z bE:=aJ c;exact⟨oH c,bP c,e,by unfold Pp.iT;rw[e,aI c],by unfold Pp.eX;rw[e,aI c]⟩)
  go_in
  go_wp2_with fail
  refine sC (jt b z bE S _ HF.v) ?_;rintro w1 hw1;subst w1;rw[E2.1,E2.2.1];go_wp2
  go_ret2
  rw[E2.2.2.1,E2.2.2.2.1,E2.2.2.2.2,E2.2.1];exact⟨rfl,HF.v,bO.refl _ _⟩
section
variable {w:bD}{b:Nat}{S:Nat->Pi}
theorem dU.Vg(h:dU w b S)(n:Nat)(hn:n<8)(k:Nat)(hk:k<=(S n).tx.size):
  dU ((w.setCells b (n*15) (Pp.fj ((S n).tx.extract k (S n).tx.size))).setCell ⟨b,n*15+12,bC⟩ (aa bf (((S n).tx.size-k:Nat):Int))) b (Pp.put S n {S n with tx:=(S n).tx.extract k (S n).tx.size}):=by
 obtain⟨t,ht⟩:=hU ((S n).tx.extract k (S n).tx.size);have hz:t.size=(S n).tx.size-k:=by rw[<-ht,ByteArray.size_extract,Nat.min_self]
 have h12:=h.small n hn;rw[ht,<-hz];obtain⟨C,T,h1,h2⟩:=h.dk;obtain⟨C',k1,k2⟩:=Pp.jx b (Pp.fj t) (n*15) w C h1;have hl:=Pp.km t;have ne:∀o,o≠n*15+12->((w.setCells b (n*15) (Pp.fj t)).setCell ⟨b,n*15+12,bC⟩ (aa bf (t.size:Int))).cell? ⟨b,o,bC⟩=(w.setCells b (n*15) (Pp.fj t)).cell? ⟨b,o,bC⟩:=λo ho=>dw k1 _ _ _ (bQ ho);have out:∀o,o<n*15\/n*15+t.size<=o->(w.setCells b (n*15) (Pp.fj t)).cell? ⟨b,o,bC⟩=w.cell? ⟨b,o,bC⟩:=λo ho=>aA b _ _ w ⟨b,o,bC⟩ (λ_ _=>by rw[hl];exact ho);have sj:∀j (hj:j<(Pp.fj t).length),(w.setCells b (n*15) (Pp.fj t)).cell? ⟨b,n*15+j,bC⟩=bB ((Pp.fj t)[j]):=λj hj=>aS b (Pp.fj t) _ w (λi hi=>h.Gq _ (by rw[hl]at hi;omega)) j hj;refine⟨⟨_,T,cT k1 _ _,by simp;omega⟩,λm hm j v hv=>?_,λm hm=>?_,λm hm=>?_,λm hm=>?_,λm hm=>?_⟩
 .by_cases c:m=n
  .subst c;rw[Pp.bR]at hv;grind
  .rw[Pp.cr _ _ _ _ c]at hv;have:=Pp.ph hv;have:=h.small m hm;rw[ne _ bG,out _ bG];exact h.dc m hm j v hv
 .by_cases c:m=n
  .subst c;rw[Pp.bR,dH k1 _ _ bG]
  .rw[Pp.cr _ _ _ _ c,ne _ bG,out _ bG];exact h.many m hm
 .rw[ne _ bG,out _ bG,h.reads m hm];by_cases c:m=n
  .subst c;rw[Pp.bR]
  .rw[Pp.cr _ _ _ _ c]
 .rw[ne _ bG,out _ bG,h.writes m hm];by_cases c:m=n
  .subst c;rw[Pp.bR]
  .rw[Pp.cr _ _ _ _ c]
 .by_cases c:m=n
  .subst c;rw[Pp.bR];show t.size<=12;omega
  .rw[Pp.cr _ _ _ _ c];exact h.small m hm
theorem Pp.GM:∀(L:List UInt8) (r:bU),(L.map λx=>(x.toNat:Int)).foldl (λr n=>r.push (UInt8.ofNat n.toNat)) r=⟨r.data++L.toArray⟩
 |[],r=>by simp
 |x::L,r=>by
  rw[List.map_cons,List.foldl_cons,Pp.GM L];simp[ByteArray.push]
def Pp.CE(t:bU):List Int:=t.data.toList.map λx=>(x.toNat:Int)
theorem Pp.Qp(t:bU):(Pp.CE t).foldl (λr n=>r.push (UInt8.ofNat n.toNat)) ByteArray.empty=t:=by
 unfold Pp.CE;rw[Pp.GM];cases t;simp[ByteArray.empty,ByteArray.emptyWithCapacity];rfl
theorem Pp.Qo(t:bU):(Pp.CE t).map (Value.int bh)=Pp.fj t:=by simp[Pp.CE,Pp.fj,Function.comp_def]
theorem dU.IP(h:dU w b S)(n k e:Nat)(hn:n<8)(hk:k<=e)(he:e<=(S n).tx.size)(ad:Addr)(had:k<e->ad=⟨b,n*15+k,bC⟩):(loadCells ad (e-k)).run prog w= .ok ((Pp.CE ((S n).tx.extract k e)).map (Value.int bh)).toArray w:=by
 rw[Pp.Qo];have hl:(Pp.fj ((S n).tx.extract k e)).length=e-k:=by rw[Pp.km,ByteArray.size_extract];omega
 have:=run_loadCells_list (P:=prog) w ad (Pp.fj ((S n).tx.extract k e)) (λj v hv=>by
  have hj:j<e-k:=by grind
  rw[had bG];have ea:(⟨b,n*15+k,bC⟩:Addr).add j=⟨b,n*15+(k+j),bC⟩:=by rw[sV,Nat.add_assoc]
  rw[ea];refine h.dc n hn (k+j) v ?_;rw[Pp.zU,List.getElem?_take_of_lt hj,List.getElem?_drop]at hv;exact hv)
 rw[hl]at this;exact this
theorem dU.Sj(h:dU w b S)(n k:Nat)(hn:n<8)(hk:k<=(S n).tx.size)(ad:Addr)(had:k<(S n).tx.size->ad=⟨b,n*15+k,bC⟩)(c:Nat)(ty:TypeId):
  (Builtin.copy_ #[316,316] ty #[aj (bB ⟨b,n*15,bC⟩) 12 12,aj (bB ad) ((S n).tx.size-k) c]).run prog w= .ok (goInt (((S n).tx.size-k:Nat):Int)) (w.setCells b (n*15) (Pp.fj ((S n).tx.extract k (S n).tx.size))):=by
 have h12:=h.small n hn;have hl:(Pp.fj ((S n).tx.extract k (S n).tx.size)).length=(S n).tx.size-k:=by rw[Pp.km,ByteArray.size_extract,Nat.min_self]
 have:=run_copy_cells (P:=prog) w 316 316 ty 5 b (n*15) 12 12 ad ((S n).tx.size-k) c (Pp.fj ((S n).tx.extract k (S n).tx.size)) bH bH (by rw[hl];exact(Nat.min_eq_left bG).symm)
  (λj v hv=>by
   have hj:j<(S n).tx.size-k:=by grind
   rw[had bG,sV,Nat.add_assoc];refine h.dc n hn (k+j) v ?_;rw[Pp.zU,List.getElem?_take_of_lt hj,List.getElem?_drop]at hv;exact hv)
  (λj hj=>h.Gq _ bG) (λj _=>h.frozen _) (λv hv=>by
   obtain⟨x,_,rfl⟩:=List.mem_map.1 hv;rfl)
 rw[hl]at this;exact this
end
section
variable {ops:Array Oper}{rest:List Oper}{x:Oper}{a:Act}{C:bD->Prop}{Q:Act->Prop}
theorem Pp.tF(hgd:x.guard=bC)(y:Operand)(hop:x.op=Op.convert 316 9 y)
  (ad:Addr) (k c:Nat) (hd:a.eval y=aj (bB ad) k c) (ns:List Int) (t:bU) (ht:ns.foldl (λr n=>r.push (UInt8.ofNat n.toNat)) ByteArray.empty=t) (hl:∀w,C w->(loadCells ad k).run prog w= .ok (ns.map (Value.int bh)).toArray w)
  (h:wpQuiet prog ops C Q rest (a.put x.dst (ak t))):wpQuiet prog ops C Q (x::rest) a:=by
 have hw:Region.wanted x (yielded ops a.tmps)=bE:=by simp[Region.wanted,hgd]
 unfold wpQuiet;rw[aJ hw];refine⟨ak t,λw hC=>?_,h⟩;have hrun:=(run_convert_bytes_string (P:=prog) w 316 9 5 (bB ad) k c bH bH bH).trans (run_bytesToString w ad k c ns (hl w hC));rw[ht]at hrun;unfold Oper.quietAt;simp[execOp,hop,hd,hrun,Oper.quietUpon]
end
def Pp.eO(S:Nat->Pi)(z m:Int):Int:=if Pp.iw S z bF≠0 then Pp.iw S z bF else if m<0 then 1 else if 0<m/\(S z.toNat).tx.size=0/\0<(S z.toNat).writes then 13 else 0
def Pp.iP(S:Nat->Pi)(z m:Int):bU:=if Pp.eO S z m=0 then(S z.toNat).tx.extract 0 (min m.toNat (S z.toNat).tx.size)else⟨#[]⟩
def Pp.oI(S:Nat->Pi)(z m:Int):Nat->Pi:=if Pp.eO S z m=0 then Pp.put S z.toNat {S z.toNat with tx:=(S z.toNat).tx.extract (min m.toNat (S z.toNat).tx.size) (S z.toNat).tx.size}else S
theorem Lh(b:Nat)(z m:Int)(S:Nat->Pi)(w:bD)(h:dU w b S):
  Calls prog 245 #[ai (bB ⟨b,0,bC⟩),aa bf z,aa bf m] w λe w'=>e=bw (ao #[ak (Pp.iP S z m),bS (Pp.eO S z m)])/\dU w' b (Pp.oI S z m)/\bO b w w':=by
 have HF:=hJ h;by_cases c:Pp.iw S z bF=0
 .obtain⟨n,rfl,n8,_,t0⟩:=Pp.DQ c;have EP:Hid (Pp.iw S (n:Int) bF=0/\lN b (n:Int) 0=ai (bB ⟨b,n*15,bC⟩)):=hJ ⟨c,sA b n⟩;have EW:Pp.eO S (n:Int) m=if m<0 then 1 else if 0<m/\(S n).tx.size=0/\0<(S n).writes then 13 else 0:=by unfold Pp.eO;rw[aI (λd=>d c),hZ]
  have c1:=h.many n n8;have c2:=h.writes n n8;have no:∀E,E≠0->Pp.eO S (n:Int) m=E->Pp.iP S (n:Int) m=⟨#[]⟩/\Pp.oI S (n:Int) m=S:=λE e0 e=>⟨by unfold Pp.iP;rw[e,aI e0],by unfold Pp.oI;rw[e,aI e0]⟩;by_cases m0:m<0
  .have e:Pp.eO S (n:Int) m=1:=by rw[EW,aJ m0]
   have FIN:Hid (Pp.eO S (n:Int) m=1/\Pp.iP S (n:Int) m=⟨#[]⟩/\Pp.oI S (n:Int) m=S):=hJ ⟨e,no 1 bM e⟩;clear h c EW no e t0 c1 c2;go_in
   go_wp2_with fail
   refine sC (jt b n bF S _ HF.v) ?_;rintro w1 hw1;subst w1;rw[EP.1,EP.2,bN];go_wp2
   go_ret2
   rw[FIN.1,FIN.2.1,FIN.2.2];exact⟨rfl,HF.v,bO.refl _ _⟩
  .by_cases ag:0<m/\(S n).tx.size=0/\0<(S n).writes
   .have e:Pp.eO S (n:Int) m=13:=by rw[EW,aI m0,aJ ag]
    have FIN:Hid (Pp.eO S (n:Int) m=13/\Pp.iP S (n:Int) m=⟨#[]⟩/\Pp.oI S (n:Int) m=S):=hJ ⟨e,no 13 bM e⟩;obtain⟨a1,a2,a3⟩:=ag;rw[a2]at c1;have c1':w.cell? ⟨b,n*15+12,bC⟩=bB (aa .i64 0):=c1;generalize (S n).writes=uu at*;have a3':(0:Int)<(uu:Int):=bG
    clear h c EW no e t0 c1 a2;go_in
    go_wp2_with fail
    refine sC (jt b n bF S _ HF.v) ?_;rintro w1 hw1;subst w1;rw[EP.1,EP.2,bN];go_wp2
    go_ret2
    rw[FIN.1,FIN.2.1,FIN.2.2];exact⟨rfl,HF.v,bO.refl _ _⟩
   .have e:Pp.eO S (n:Int) m=0:=by rw[EW,aI m0,aI ag]
    have h12:=h.small n n8;obtain⟨k,hk⟩:=hU (min m.toNat (S n).tx.size);have kle:k<=(S n).tx.size:=bG
    have FIN:Hid (Pp.eO S (n:Int) m=0/\Pp.iP S (n:Int) m=(S n).tx.extract 0 k):=hJ ⟨e,by unfold Pp.iP;rw[aJ e,hZ,hk]⟩;have LD:Hid (∀W,dU W b S->(loadCells ⟨b,n*15,bC⟩ k).run prog W= .ok ((Pp.CE ((S n).tx.extract 0 k)).map (Value.int bh)).toArray W):=hJ (λW hW=>hW.IP n 0 k n8 (aC k) kle ⟨b,n*15,bC⟩ (λ_=>rfl));have CP:Hid (∀W ty,dU W b S->(Builtin.copy_ #[316,316] ty #[aj (bB ⟨b,n*15,bC⟩) 12 12,aj (bB (if 12=k then⟨b,n*15,bC⟩else⟨b,n*15+k,bC⟩)) ((S n).tx.size-k) (12-k)]).run prog W= .ok (goInt (((S n).tx.size-k:Nat):Int)) (W.setCells b (n*15) (Pp.fj ((S n).tx.extract k (S n).tx.size)))):=hJ (λW ty hW=>hW.Sj n k n8 kle _ (λhlt=>nJ) _ _);have MID:Hid (∀V,dU V b S->dU ((V.setCells b (n*15) (Pp.fj ((S n).tx.extract k (S n).tx.size))).setCell ⟨b,n*15+12,bC⟩ (aa bf (((S n).tx.size-k:Nat):Int))) b (Pp.oI S (n:Int) m)/\(∀o,(V.setCells b (n*15) (Pp.fj ((S n).tx.extract k (S n).tx.size))).frozen? ⟨b,o,bC⟩=bF)/\(V.setCells b (n*15) (Pp.fj ((S n).tx.extract k (S n).tx.size))).cell? ⟨b,n*15+12,bC⟩=bB (aa bf ((S n).tx.size:Int))):=hJ (λV hV=>by
     unfold Pp.oI;rw[aJ e,hZ,hk];obtain⟨C,T,h1,_⟩:=hV.dk;obtain⟨C',k1,_⟩:=Pp.jx b (Pp.fj ((S n).tx.extract k (S n).tx.size)) (n*15) V C h1;exact⟨hV.Vg n n8 k kle,λo=>cL k1 o,by rw[aA b _ _ V ⟨b,n*15+12,bC⟩ (λ_ _=>by rw[Pp.km,ByteArray.size_extract];show n*15+12<_\/_<=n*15+12;omega)];exact hV.many n n8⟩)
    have FR:Hid (∀V,bO b w V->bO b w (V.setCells b (n*15) (Pp.fj ((S n).tx.extract k (S n).tx.size)))):=hJ (λV hV=>Pp.jA _ _ hV);have SZ:Hid (((S n).tx.extract 0 k).size=k):=hJ (by rw[ByteArray.size_extract];omega);have ST:Hid ((Pp.CE ((S n).tx.extract 0 k)).foldl (λr n=>r.push (UInt8.ofNat n.toNat)) ByteArray.empty=(S n).tx.extract 0 k):=hJ (Pp.Qp _);generalize Pp.fj ((S n).tx.extract k (S n).tx.size)=L at*;generalize (S n).tx.extract 0 k=g at*;generalize (S n).writes=uu at*;generalize (S n).tx.size=mm at*;have mk:min m (mm:Int)=(k:Int):=bG
    have mk2:(if(mm:Int)<m then(mm:Int)else m)=(k:Int):=by split<;>omega
    have kI:(k:Int)<=12:=bG
    have kmI:(k:Int)<=(mm:Int):=bG
    have mI:(mm:Int)<=12:=bG
    clear h c EW no e t0 hk;by_cases m1:0<m
    .by_cases s0:mm=0
     .have u1:¬(0:Int)<(uu:Int):=bG
      have s1:((mm:Int)==0)=bE:=by simp;omega
      have cf:=HF.frozen;clear ag s0;go_in
      go_wp2_with fail
      refine sC (jt b n bF S _ HF.v) ?_;rintro w1 hw1;subst w1;rw[EP.1,EP.2,bN];go_upto_region 8 with fail
      refine wp_region_quiet_lit bH bH ?_
      repeat (quiet_step (fail))
      refine Pp.tF rfl _ rfl ⟨b,n*15,bC⟩ k 12 rfl _ g ST.v (λw' hC=>by obtain⟨q,rfl⟩:=hC;exact LD.v _ (HF.drewN q)) ?_
      repeat (quiet_step (fail))
      refine wpQuiet_nil ?_;intro _ hw';obtain⟨nq,hw''⟩:=hw';subst hw'';have HD:=hJ (HF.drewN nq);have FD:=hJ ((bO.refl b w).drewN nq);have c1d:(w.drewN nq).cell? ⟨b,n*15+12,bC⟩=bB (aa bf (mm:Int)):=c1;generalize w.drewN nq=W1 at HD FD c1d|-;clear c1 c2 cf;have sz:=SZ.v;have M:=MID.v _ HD.drew;have F2:=hJ (FR.v _ FD.drew);have CP2:=hJ (λty=>CP.v _ ty HD.drew);generalize W1.drew.setCells b (n*15) L=W at M F2 CP2;obtain⟨M0,cf2,d2⟩:=M;have M1:=hJ M0;clear M0 CP MID FR LD;go_upto_region 9 with fail
      go_region_law (refine Pp.pD rfl _ _ 316 316 rfl (aj (bB ⟨b,n*15,bC⟩) 12 12) (aj (bB (if 12=k then⟨b,n*15,bC⟩else⟨b,n*15+k,bC⟩)) (mm-k) (12-k)) _ _ (by simp[Act.eval,Act.put]) (by simp[Act.eval,Act.put]) (CP2.v _) ?_)
      generalize (if 12=k then(⟨b,n*15,bC⟩:Addr)else⟨b,n*15+k,bC⟩)=ad;go_wp2
      go_ret2
      rw[FIN.1,FIN.2];exact⟨rfl,M1.v,F2.setCell _ _⟩
     .have s1:((mm:Int)==0)=bF:=by simp;omega
      have cf:=HF.frozen;clear ag s0;go_in
      go_wp2_with fail
      refine sC (jt b n bF S _ HF.v) ?_;rintro w1 hw1;subst w1;rw[EP.1,EP.2,bN];go_upto_region 8 with fail
      refine wp_region_quiet_lit bH bH ?_
      repeat (quiet_step (fail))
      refine Pp.tF rfl _ rfl ⟨b,n*15,bC⟩ k 12 rfl _ g ST.v (λw' hC=>by obtain⟨q,rfl⟩:=hC;exact LD.v _ (HF.drewN q)) ?_
      repeat (quiet_step (fail))
      refine wpQuiet_nil ?_;intro _ hw';obtain⟨nq,hw''⟩:=hw';subst hw'';have HD:=hJ (HF.drewN nq);have FD:=hJ ((bO.refl b w).drewN nq);have c1d:(w.drewN nq).cell? ⟨b,n*15+12,bC⟩=bB (aa bf (mm:Int)):=c1;generalize w.drewN nq=W1 at HD FD c1d|-;clear c1 c2 cf;have sz:=SZ.v;have M:=MID.v _ HD.drew;have F2:=hJ (FR.v _ FD.drew);have CP2:=hJ (λty=>CP.v _ ty HD.drew);generalize W1.drew.setCells b (n*15) L=W at M F2 CP2;obtain⟨M0,cf2,d2⟩:=M;have M1:=hJ M0;clear M0 CP MID FR LD;go_upto_region 9 with fail
      go_region_law (refine Pp.pD rfl _ _ 316 316 rfl (aj (bB ⟨b,n*15,bC⟩) 12 12) (aj (bB (if 12=k then⟨b,n*15,bC⟩else⟨b,n*15+k,bC⟩)) (mm-k) (12-k)) _ _ (by simp[Act.eval,Act.put]) (by simp[Act.eval,Act.put]) (CP2.v _) ?_)
      generalize (if 12=k then(⟨b,n*15,bC⟩:Addr)else⟨b,n*15+k,bC⟩)=ad;go_wp2
      go_ret2
      rw[FIN.1,FIN.2];exact⟨rfl,M1.v,F2.setCell _ _⟩
    .have cf:=HF.frozen;go_in
     go_wp2_with fail
     refine sC (jt b n bF S _ HF.v) ?_;rintro w1 hw1;subst w1;rw[EP.1,EP.2,bN];go_upto_region 8 with fail
     refine wp_region_quiet_lit bH bH ?_
     repeat (quiet_step (fail))
     refine Pp.tF rfl _ rfl ⟨b,n*15,bC⟩ k 12 rfl _ g ST.v (λw' hC=>by obtain⟨q,rfl⟩:=hC;exact LD.v _ (HF.drewN q)) ?_
     repeat (quiet_step (fail))
     refine wpQuiet_nil ?_;intro _ hw';obtain⟨nq,hw''⟩:=hw';subst hw'';have HD:=hJ (HF.drewN nq);have FD:=hJ ((bO.refl b w).drewN nq);have c1d:(w.drewN nq).cell? ⟨b,n*15+12,bC⟩=bB (aa bf (mm:Int)):=c1;generalize w.drewN nq=W1 at HD FD c1d|-;clear c1 c2 cf;have sz:=SZ.v;have M:=MID.v _ HD.drew;have F2:=hJ (FR.v _ FD.drew);have CP2:=hJ (λty=>CP.v _ ty HD.drew);generalize W1.drew.setCells b (n*15) L=W at M F2 CP2;obtain⟨M0,cf2,d2⟩:=M;have M1:=hJ M0;clear M0 CP MID FR LD;go_upto_region 9 with fail
     go_region_law (refine Pp.pD rfl _ _ 316 316 rfl (aj (bB ⟨b,n*15,bC⟩) 12 12) (aj (bB (if 12=k then⟨b,n*15,bC⟩else⟨b,n*15+k,bC⟩)) (mm-k) (12-k)) _ _ (by simp[Act.eval,Act.put]) (by simp[Act.eval,Act.put]) (CP2.v _) ?_)
     generalize (if 12=k then(⟨b,n*15,bC⟩:Addr)else⟨b,n*15+k,bC⟩)=ad;go_wp2
     go_ret2
     rw[FIN.1,FIN.2];exact⟨rfl,M1.v,F2.setCell _ _⟩
 .have E2:Hid (lN b z (Pp.iw S z bF)=ai bC/\bS (Pp.iw S z bF)=aq 100 (aa bf (Pp.iw S z bF))/\Pp.eO S z m=Pp.iw S z bF/\Pp.iP S z m=⟨#[]⟩/\Pp.oI S z m=S):=hJ (by
   have e:Pp.eO S z m=Pp.iw S z bF:=aJ c;exact⟨oH c,bP c,e,by unfold Pp.iP;rw[e,aI c],by unfold Pp.oI;rw[e,aI c]⟩)
  clear h c;go_in
  go_wp2_with fail
  refine sC (jt b z bF S _ HF.v) ?_;rintro w1 hw1;subst w1;rw[E2.1,E2.2.1];go_wp2
  go_ret2
  rw[E2.2.2.1,E2.2.2.2.1,E2.2.2.2.2,E2.2.1];exact⟨rfl,HF.v,bO.refl _ _⟩
namespace Fx
structure Fi where
 kind:Nat
 num:Nat
 wr:Bool
 pos:Nat
 refs:Nat
def Fi.no:Fi:=⟨0,0,bF,0,0⟩
def put(T:Nat->Fi)(n:Nat)(x:Fi):Nat->Fi:=λm=>if m=n then x else T m
theorem bR(T:Nat->Fi)(n:Nat)(x:Fi):put T n x n=x:=aJ rfl
theorem cr(T:Nat->Fi)(n:Nat)(x:Fi)(m:Nat)(h:m≠n):put T n x m=T m:=aI h
theorem gO(T:Nat->Fi)(n:Nat)(x y:Fi):put (put T n x) n y=put T n y:=by
 funext m;unfold put;split<;>rfl
def eF(x:Fi):Nat->Value
 |0=>aa bf (x.kind:Int)
 |1=>aa bf (x.num:Int)
 |2=>ar x.wr
 |3=>aa bf (x.pos:Int)
 |_=>aa bf (x.refs:Int)
def arr(x:Fi):Array Value:=#[aa bf (x.kind:Int),aa bf (x.num:Int),ar x.wr,aa bf (x.pos:Int),aa bf (x.refs:Int)]
def dB(T:Nat->Fi)(z:Int):Int:=if z<0\/23<z then 1 else if(T z.toNat).refs=0 then 2 else 0
theorem kT{T:Nat->Fi}(h:dB T z=0):∃n:Nat,z=n/\n<24/\(T n).refs≠0:=by
 unfold dB at h;by_cases c:z<0\/23<z
 .rw[aJ c]at h;omega
 .rw[aI c]at h;refine⟨z.toNat,bG,bG,λd=>?_⟩;rw[aJ d]at h;omega
def cY(T:Nat->Fi):Nat->Nat
 |0=>0
 |n+1=>cY T n+if(T n).refs=0 then 0 else 1
theorem nP(T:Nat->Fi):∀n,cY T n<=n
 |0=>aL 0
 |n+1=>by
  have:=nP T n;unfold cY;split<;>omega
theorem CW(T:Nat->Fi):∀n,cY T n<n->∃m,m<n/\(T m).refs=0/\∀k,k<m->(T k).refs≠0
 |0,h=>aZ h (Nat.not_lt_zero _)
 |n+1,h=>by
  by_cases c:cY T n<n
  .obtain⟨m,h1,h2,h3⟩:=CW T n c;exact⟨m,bG,h2,h3⟩
  .have hl:=nP T n;unfold cY at h;by_cases d:(T n).refs=0
   .refine⟨n,bG,d,λk hk e=>?_⟩;have:∀n,cY T n=n->∀k,k<n->(T k).refs≠0:=by
     intro n
     induction n with
     |zero=>intro _ k hk;omega
     |succ n ih=>
      intro hc k hk e;have hl:=nP T n;unfold cY at hc;by_cases g:(T n).refs=0
      .rw[aJ g]at hc;omega
      .by_cases j:k=n
       .subst j;exact g e
       .exact ih (by rw[aI g]at hc;omega) k bG e
    exact this n bG k hk e
   .rw[aI d]at h;omega
def ug(T:Nat->Fi)(n:Nat):Prop:=n<24/\(T n).refs=0/\∀k,k<n->(T k).refs≠0
theorem DA{T:Nat->Fi}(h:cY T 24<24):∃n,ug T n:=by
 obtain⟨m,h1,h2,h3⟩:=CW T 24 h;exact⟨m,h1,h2,h3⟩
end Fx
open Fx (Fi)
structure eI (w:bD)(t b p:Nat)(T:Nat->Fi):Prop where
 dk:∃C Ty,w.heap[t]? =bB (bA C Ty (0,0))/\C.size=122
 fo:w.cell? ⟨t,0,bC⟩=bB (ai (bB ⟨b,0,bC⟩))
 pi:w.cell? ⟨t,1,bC⟩=bB (ai (bB ⟨p,0,bC⟩))
 cell:∀n,n<24->∀i,i<5->w.cell? ⟨t,2+n*5+i,bC⟩=bB (Fx.eF (T n) i)
section
variable {w w':bD}{t b p:Nat}{T:Nat->Fi}
theorem eI.lt(h:eI w t b p T):t<w.heap.size:=by
 obtain⟨C,Ty,e,_⟩:=h.dk;exact(aX.1 e).1
theorem eI.frozen(h:eI w t b p T)(o:Nat):w.frozen? ⟨t,o,bC⟩=bF:=by
 obtain⟨C,Ty,e,_⟩:=h.dk;exact cL e o
theorem eI.same(h:eI w t b p T)(e:w'.heap[t]? =w.heap[t]?):eI w' t b p T:=by
 have hc:∀o,w'.cell? ⟨t,o,bC⟩=w.cell? ⟨t,o,bC⟩:=λo=>aV e;exact⟨by rw[e];exact h.dk,(hc _).trans h.fo,(hc _).trans h.pi,λn hn i hi=>(hc _).trans (h.cell n hn i hi)⟩
theorem eI.drew(h:eI w t b p T):eI w.drew t b p T:=h.same rfl
theorem eI.below(h:eI w t b p T)(k:Below B w w')(hb:t<B):eI w' t b p T:=h.same (k.block t hb)
theorem eI.mK(h:eI w t b p T)(k:bO c w w')(hb:t≠c):eI w' t b p T:=h.same (k.block t h.lt hb)
theorem eI.kind(h:eI w t b p T)(n:Nat)(hn:n<24):w.cell? ⟨t,2+n*5,bC⟩=bB (aa bf ((T n).kind:Int)):=h.cell n hn 0 bG
theorem eI.num(h:eI w t b p T)(n:Nat)(hn:n<24):w.cell? ⟨t,2+n*5+1,bC⟩=bB (aa bf ((T n).num:Int)):=h.cell n hn 1 bG
theorem eI.wr(h:eI w t b p T)(n:Nat)(hn:n<24):w.cell? ⟨t,2+n*5+2,bC⟩=bB (ar (T n).wr):=h.cell n hn 2 bG
theorem eI.pos(h:eI w t b p T)(n:Nat)(hn:n<24):w.cell? ⟨t,2+n*5+3,bC⟩=bB (aa bf ((T n).pos:Int)):=h.cell n hn 3 bG
theorem eI.refs(h:eI w t b p T)(n:Nat)(hn:n<24):w.cell? ⟨t,2+n*5+4,bC⟩=bB (aa bf ((T n).refs:Int)):=h.cell n hn 4 bG
theorem eI.set(h:eI w t b p T)(n:Nat)(hn:n<24)(i:Nat)(hi:i<5)(x:Fi)(hx:∀j,j<5->j≠i->Fx.eF x j=Fx.eF (T n) j):eI (w.setCell ⟨t,2+n*5+i,bC⟩ (Fx.eF x i)) t b p (Fx.put T n x):=by
 obtain⟨C,Ty,h1,h2⟩:=h.dk;have ne:∀o,o≠2+n*5+i->(w.setCell ⟨t,2+n*5+i,bC⟩ (Fx.eF x i)).cell? ⟨t,o,bC⟩=w.cell? ⟨t,o,bC⟩:=λo ho=>dw h1 _ _ _ (bQ ho);refine⟨⟨_,Ty,cT h1 _ _,by simpa using h2⟩,(ne _ bG).trans h.fo,(ne _ bG).trans h.pi,λm hm j hj=>?_⟩;by_cases c:m=n
 .subst c;rw[Fx.bR];by_cases d:j=i
  .subst d;exact dH h1 _ _ bG
  .rw[ne _ bG,hx j hj d];exact h.cell m hm j hj
 .rw[Fx.cr _ _ _ _ c,ne _ bG];exact h.cell m hm j hj
theorem eI.sE(h:eI w t b p T)(n:Nat)(hn:n<24)(k:Nat):eI (w.setCell ⟨t,2+n*5+4,bC⟩ (aa bf (k:Int))) t b p (Fx.put T n {T n with refs:=k}):=
 h.set n hn 4 bG {T n with refs:=k} (λj hj d=>by
  match j,hj,d with
  |0,_,_=>rfl
  |1,_,_=>rfl
  |2,_,_=>rfl
  |3,_,_=>rfl
  |4,_,d=>exact aZ rfl d)
theorem eI.setPos(h:eI w t b p T)(n:Nat)(hn:n<24)(k:Nat):eI (w.setCell ⟨t,2+n*5+3,bC⟩ (aa bf (k:Int))) t b p (Fx.put T n {T n with pos:=k}):=
 h.set n hn 3 bG {T n with pos:=k} (λj hj d=>by
  match j,hj,d with
  |0,_,_=>rfl
  |1,_,_=>rfl
  |2,_,_=>rfl
  |3,_,d=>exact aZ rfl d
  |4,_,_=>rfl)
theorem eI.Ls(h:eI w t b p T)(n:Nat)(hn:n<24)(x:Fi):eI (w.setCells t (2+n*5) (Fx.arr x).toList) t b p (Fx.put T n x):=by
 obtain⟨C,Ty,h1,h2⟩:=h.dk;obtain⟨C',k1,k2⟩:=Pp.jx t (Fx.arr x).toList (2+n*5) w C h1;have out:∀o,o<2+n*5\/2+n*5+5<=o->(w.setCells t (2+n*5) (Fx.arr x).toList).cell? ⟨t,o,bC⟩=w.cell? ⟨t,o,bC⟩:=λo ho=>aA t _ _ w ⟨t,o,bC⟩ (λ_ _=>by show o<_\/_<=o;exact ho);refine⟨⟨C',Ty,k1,bG⟩,(out _ bG).trans h.fo,(out _ bG).trans h.pi,λm hm j hj=>?_⟩;by_cases c:m=n
 .subst c;rw[Fx.bR,aS t (Fx.arr x).toList (2+m*5) w (λi hi=>by have:i<5:=hi;rw[h.cell m hm i this];rfl) j hj]
  match j,hj with
  |0,_=>rfl
  |1,_=>rfl
  |2,_=>rfl
  |3,_=>rfl
  |4,_=>rfl
 .rw[Fx.cr _ _ _ _ c,out _ bG];exact h.cell m hm j hj
end
def lJ(t:Nat)(z E:Int):Value:=if E=0 then ai (bB ⟨t,2+z.toNat*5,bC⟩)else ai bC
theorem p7(t n:Nat):lJ t (n:Int) 0=ai (bB ⟨t,2+n*5,bC⟩):=by unfold lJ;rw[aJ rfl,hZ]
theorem oA(h:E≠0):lJ t z E=ai none:=aI h
theorem eQ(t b p:Nat)(z:Int)(T:Nat->Fi)(w:bD)(h:eI w t b p T):
  Calls prog 156 #[ai (bB ⟨t,0,bC⟩),aa bf z] w λe w'=>e=bw (ao #[lJ t z (Fx.dB T z),bS (Fx.dB T z)])/\w'=w:=by
 by_cases c:z<0\/23<z
 .have E:Hid (Fx.dB T z=1):=hJ (aJ c);have E2:Hid (lJ t z 1=ai bC):=hJ (oA bM);by_cases c1:z<0
  .clear c h;go_in
   go_wp2
   go_ret2
   rw[E.v,E2.v];exact⟨rfl,rfl⟩
  .have c2:24<=z:=bG
   go_in
   go_wp2
   go_ret2
   rw[E.v,E2.v];exact⟨rfl,rfl⟩
 .obtain⟨n,rfl⟩:∃n:Nat,z=n:=⟨z.toNat,bG⟩;have n24:n<24:=bG
  have n24i:(n:Int)<24:=bG
  have E:Fx.dB T (n:Int)=if(T n).refs=0 then 2 else 0:=by unfold Fx.dB;rw[aI c,hZ]
  have c4:=h.refs n n24;by_cases d:(T n).refs=0
  .have E1:Hid (Fx.dB T (n:Int)=2/\lJ t (n:Int) 2=ai bC):=hJ ⟨by rw[E,aJ d],oA bM⟩;rw[d]at c4;have c4':w.cell? ⟨t,2+n*5+4,bC⟩=bB (aa .i64 0):=c4;go_in
   go_wp2
   go_ret2
   rw[E1.1,E1.2];exact⟨rfl,rfl⟩
  .have E1:Hid (Fx.dB T (n:Int)=0/\lJ t (n:Int) 0=ai (bB ⟨t,2+n*5,bC⟩)):=hJ ⟨by rw[E,aI d],p7 t n⟩;generalize (T n).refs=rr at*;have d1:((rr:Int)==0)=bF:=by simp;omega
   go_in
   go_wp2
   go_ret2
   rw[E1.1,E1.2];exact⟨rfl,rfl⟩
theorem Mm(t b p:Nat)(T:Nat->Fi)(w:bD)(h:eI w t b p T):
  Calls prog 81 #[ai (bB ⟨t,0,bC⟩)] w λe w'=>e=bw (aa bf (Fx.cY T 24:Int))/\w'=w:=by
 have HF:=hJ h;go_in
 go_wp2_with fail
 go_loopw [3,4,5] (λc x i wr=>∃(n:Nat),i=aa bf n/\c=aa bf (Fx.cY T n:Int)/\n<=24/\wr=w) (λ_ _ i _=>24-(intOf i).toNat)
 case atStart=>exact⟨0,rfl,rfl,bG,rfl⟩
 case round=>
  obtain⟨n,rfl,rfl,hn,hwr⟩:=hrel;subst wr;by_cases hlt:n<24
  .have hltI:(n:Int)<24:=bG
   have lc:=Fx.nP T n;have LS:Fx.cY T (n+1)=Fx.cY T n+if(T n).refs=0 then 0 else 1:=rfl;have c4:=HF.refs n hlt;generalize Fx.cY T n=cn at*;by_cases d:(T n).refs=0
   .rw[aJ d]at LS;have LL:=hJ LS;have d1:¬(0:Int)<((T n).refs:Int):=bG
    generalize (T n).refs=rr at*;go_wp2
    go_roundw
    case rel=>exact⟨n+1,by go_num,by rw[LL.v];rfl,bG,by first|rfl|trivial⟩
    case measure=>simp[intOf];omega
   .rw[aI d]at LS;have LL:=hJ LS;have d1:(0:Int)<((T n).refs:Int):=bG
    generalize (T n).refs=rr at*;go_wp2
    go_roundw
    case rel=>exact⟨n+1,by go_num,by rw[LL.v];go_num,bG,by first|rfl|trivial⟩
    case measure=>simp[intOf];omega
  .have hltI:¬(n:Int)<24:=bG
   obtain rfl:n=24:=bG
   go_wp2
   go_ret
   exact⟨rfl,rfl⟩
theorem pH(t b p:Nat)(m:Int)(T:Nat->Fi)(w:bD)(h:eI w t b p T):
  Calls prog 197 #[ai (bB ⟨t,0,bC⟩),aa bf m] w λe w'=>e=bw (ar (decide (m<=24-(Fx.cY T 24:Int))))/\w'=w:=by
 have HF:=hJ h;have lc:=Fx.nP T 24;have hw:IntKind.i64.wrap (24-(Fx.cY T 24:Int))=24-(Fx.cY T 24:Int):=aN _ ⟨by omega,bG⟩;go_in
 go_wp2_with fail
 refine(Mm t b p T _ HF.v).mono ?_;rintro e w1 ⟨rfl,hw1⟩;subst w1;go_wp2
 go_ret
 exact⟨rfl,rfl⟩
open Tr (Fo Nd)
structure dK (t b p:Nat)(w w':bD):Prop where
 os:w'.os=w.os
 tape:w'.tape=w.tape
 output:w'.output=w.output
 size:w.heap.size<=w'.heap.size
 block:∀k,k<w.heap.size->k≠t->k≠b->k≠p->w'.heap[k]? =w.heap[k]?
section
variable {t b p:Nat}{u v w:bD}
theorem dK.refl(t b p:Nat)(w:bD):dK t b p w w:=⟨rfl,rfl,rfl,aL _,λ_ _ _ _ _=>rfl⟩
theorem dK.trans(h:dK t b p u v)(k:dK t b p v w):dK t b p u w:=⟨k.os.trans h.os,k.tape.trans h.tape,k.output.trans h.output,aH h.size k.size,λj hj h1 h2 h3=>(k.block j (aD hj h.size) h1 h2 h3).trans (h.block j hj h1 h2 h3)⟩
theorem dK.tb(h:bO t v w):dK t b p v w:=⟨h.os,h.tape,h.output,h.size,λj hj h1 _ _=>h.block j hj h1⟩
theorem dK.fo(h:bO b v w):dK t b p v w:=⟨h.os,h.tape,h.output,h.size,λj hj _ h2 _=>h.block j hj h2⟩
theorem dK.pi(h:bO p v w):dK t b p v w:=⟨h.os,h.tape,h.output,h.size,λj hj _ _ h3=>h.block j hj h3⟩
theorem dK.below(h:Below v.heap.size v w):dK t b p v w:=⟨h.os,h.tape,h.output,h.size,λj hj _ _ _=>h.block j hj⟩
end
theorem bO.fresh{bx:Nat}{W:bD}(f:bO t w W)(h:w.heap.size<=bx)(o:Nat)(v:Value):bO t w (W.setCell ⟨bx,o,bC⟩ v):=
 ⟨f.os,f.tape,f.output,by simpa[World.setCell]using f.size,λk hk hn=>(dS _ _ _ _ bG).trans (f.block k hk hn)⟩
def FX(w:bD)(t b p:Nat)(T:Nat->Fi)(F:Fo)(S:Nat->Pi):Prop:=eI w t b p T/\cv w b F/\dU w p S/\t≠b/\t≠p/\b≠p
section
variable {w w':bD}{t b p:Nat}{T T':Nat->Fi}{F F':Fo}{S S':Nat->Pi}
theorem FX.tb(h:FX w t b p T F S)(k:eI w' t b p T')(f:bO t w w'):FX w' t b p T' F S:=⟨k,h.2.1.same (f.block b h.2.1.lt (bQ h.2.2.2.1)),h.2.2.1.mK f (bQ h.2.2.2.2.1),h.2.2.2⟩
theorem FX.fo(h:FX w t b p T F S)(k:cv w' b F')(f:bO b w w'):FX w' t b p T F' S:=⟨h.1.mK f h.2.2.2.1,k,h.2.2.1.mK f (bQ h.2.2.2.2.2),h.2.2.2⟩
theorem FX.pi(h:FX w t b p T F S)(k:dU w' p S')(f:bO p w w'):FX w' t b p T F S':=⟨h.1.mK f h.2.2.2.2.1,h.2.1.same (f.block b h.2.1.lt h.2.2.2.2.2),k,h.2.2.2⟩
theorem FX.below(h:FX w t b p T F S)(f:Below w.heap.size w w'):FX w' t b p T F S:=⟨h.1.below f h.1.lt,h.2.1.below f,h.2.2.1.below f h.2.2.1.lt,h.2.2.2⟩
end
def Fx.gC:Nat->Fi:=λ_=>Fi.no
def Fx.zT:Array Value:=((List.range 122).map λo=>if o<2 then ai bC else if o%5=4 then ar bF else aa .i64 0).toArray
theorem Fx.UH(o:Nat)(h:o<122):Fx.zT[o]? =bB (if o<2 then ai bC else if o%5=4 then ar bF else aa .i64 0):=by simp[Fx.zT,h]
theorem Fx.zeroV(w:bD):(zeroValue 212).run prog w= .ok (au Fx.zT) w:=by kernel_rfl
def Fx.mN(P0 P1:Value):Array Value:=(Fx.zT.setIfInBounds 0 P0).setIfInBounds 1 P1
theorem eI.new{p:Nat}{Ty:TypeId}(h:w.heap[t]? =bB (bA (Fx.mN (ai (bB ⟨b,0,bC⟩)) (ai (bB ⟨p,0,bC⟩))) Ty (0,0))):eI w t b p Fx.gC:=by
 have sz:Fx.zT.size=122:=by simp[Fx.zT]
 refine⟨⟨_,Ty,h,by simp[Fx.mN,sz]⟩,?_,?_,λn hn i hi=>?_⟩
 .rw[cA h];unfold Fx.mN;rw[aU bG,aE bG]
 .rw[cA h];unfold Fx.mN;rw[aE (by simp[sz])]
 .rw[cA h];unfold Fx.mN;rw[aU bG,aU bG,Fx.UH _ bG,nJ]
  match i,hi with
  |0,_=>rw[nJ];rfl
  |1,_=>rw[nJ];rfl
  |2,_=>rw[nK];rfl
  |3,_=>rw[nJ];rfl
  |4,_=>rw[nJ];rfl
section
variable {ops:Array Oper}{rest:List Oper}{x:Oper}{a:Act}{w:bD}{Q:Exit->Act->bD->Prop}
theorem Fx.Mk(hgd:x.guard=bC)(y0 y1:Operand)(P0 P1:Option Addr)(ho:x.op= .build 212 #[(0,y0),(1,y1)])(h0:a.eval y0=ai P0)(h1:a.eval y1=ai P1)(h:wpList prog ops Q rest (a.put x.dst (au (Fx.mN (ai P0) (ai P1)))) w):wpList prog ops Q (x::rest) a w:=
 wpList_plain hgd λ_ hK=>by
  unfold Oper.wp execOp;have hz:=Fx.zeroV w;simp only[ho,List.map_toArray,List.map_cons,List.map_nil,h0,h1];simp[go_sem,hz];exact hK _ _ h
end
theorem O7(b p:Nat)(w:bD):Calls prog 88 #[ai (bB ⟨b,0,bC⟩),ai (bB ⟨p,0,bC⟩)] w λe w'=>e=bw (ai (bB ⟨w.heap.size,0,bC⟩))/\eI w' w.heap.size b p Fx.gC/\Below w.heap.size w w':=by
 have FIN:Hid (eI (w.alloc (bA (Fx.mN (ai (bB ⟨b,0,bC⟩)) (ai (bB ⟨p,0,bC⟩))) 212)) w.heap.size b p Fx.gC/\Below w.heap.size w (w.alloc (bA (Fx.mN (ai (bB ⟨b,0,bC⟩)) (ai (bB ⟨p,0,bC⟩))) 212))):=hJ ⟨eI.new (heap_alloc_new w _),(aQ _ _).alloc (aL _) _⟩;obtain⟨A,hA⟩:=hU (Fx.mN (ai (bB ⟨b,0,bC⟩)) (ai (bB ⟨p,0,bC⟩)));rw[hA]at FIN;go_in
 go_wp2_with (refine Fx.Mk rfl _ _ _ _ rfl rfl rfl ?_;rw[hA])
 go_ret
 exact⟨rfl,FIN.v⟩
theorem ya(t b p:Nat)(x:Fi)(n:Nat)(T:Nat->Fi)(w:bD)(h:eI w t b p T)(hl:Fx.ug T n):
  Calls prog 243 #[ai (bB ⟨t,0,bC⟩),au #[aa bf (x.kind:Int),aa bf (x.num:Int),ar x.wr,aa bf (x.pos:Int),aa bf (x.refs:Int)]] w λe w'=>e=bw (aa bf (n:Int))/\eI w' t b p (Fx.put T n {x with refs:=1})/\bO t w w':=by
 have HF:=hJ h;have HL:=hJ hl;have hlt:=h.lt;have NE:Hid (w.heap.size≠t):=hJ bG;obtain⟨kd,nm,wb,ps,rf⟩:=x;go_in
 go_upto_region 1 with fail
 refine cR (λW'=>eI W' t b p T/\bO t w W'/\W'.heap[w.heap.size]? =bB (bA #[aa bf (kd:Int),aa bf (nm:Int),ar wb,aa bf (ps:Int),aa bf (rf:Int)] 197 (0,0))) (by
  have bb:=(aQ w.heap.size w).alloc (aL _) (bA #[aa bf (kd:Int),aa bf (nm:Int),ar wb,aa bf (ps:Int),aa bf (rf:Int)] 197);exact⟨HF.below bb HF.lt,bO.cO bb,heap_alloc_new w _⟩) ?_
 rintro W1 ⟨h1,f1,x1⟩;have H1:=hJ h1;have F1:=hJ f1;have X1:=hJ x1;obtain⟨bx,hbx⟩:=hU (w.heap.size);have HB:=hJ hbx;rw[hbx]at X1 NE|-;go_wp2_with fail
 go_loopw [5] (λi wr=>∃(k:Nat),i=aa bf k/\k<=n/\wr=W1) (λi _=>n-(intOf i).toNat)
 case atStart=>exact⟨0,rfl,bG,rfl⟩
 case round=>
  obtain⟨k,rfl,hk,hwr⟩:=hrel;subst wr;have n24:n<24:=HL.1;have k24i:(k:Int)<24:=bG
  have c4:=H1.refs k bG;by_cases e:k=n
  .subst e;rw[HL.2.1]at c4;have c4':W1.cell? ⟨t,2+k*5+4,bC⟩=bB (aa .i64 0):=c4;have cx:=cU X1.v 4 (aa bf (rf:Int)) rfl;have fx:=cL X1.v;have HS:eI (W1.setCell ⟨bx,4,bC⟩ (aa .i64 1)) t b p T/\bO t w (W1.setCell ⟨bx,4,bC⟩ (aa .i64 1))/\(W1.setCell ⟨bx,4,bC⟩ (aa .i64 1)).heap[bx]? =bB (bA #[aa bf (kd:Int),aa bf (nm:Int),ar wb,aa bf (ps:Int),aa bf 1] 197 (0,0)):=⟨H1.same (dS _ _ _ _ (bQ NE.v)),F1.fresh (Nat.le_of_eq HB.v) _ _,by rw[cT X1.v];rfl⟩;go_upto_region 5 with fail
   generalize W1.setCell ⟨bx,4,bC⟩ (aa .i64 1)=W2 at HS|-;obtain⟨s1,s2,s3⟩:=HS;have x0:=cU s3 0 (aa bf (kd:Int)) rfl;have x1:=cU s3 1 (aa bf (nm:Int)) rfl;have x2:=cU s3 2 (ar wb) rfl;have x3:=cU s3 3 (aa bf (ps:Int)) rfl;have x4:=cU s3 4 (aa .i64 1) rfl;have y0:=s1.kind k n24;have y1:=s1.num k n24;have y2:=s1.wr k n24;have y3:=s1.pos k n24;have y4:=s1.refs k n24;have yf:=s1.frozen;have FIN:Hid (eI (W2.setCells t (2+k*5) (Fx.arr ⟨kd,nm,wb,ps,1⟩).toList).drew t b p (Fx.put T k ⟨kd,nm,wb,ps,1⟩)/\bO t w (W2.setCells t (2+k*5) (Fx.arr ⟨kd,nm,wb,ps,1⟩).toList).drew):=hJ ⟨(s1.Ls k n24 _).drew,(Pp.jA _ _ s2).drew⟩;go_region
   go_wp2
   go_ret
   exact⟨rfl,FIN.v⟩
  .have d:=HL.2.2 k bG;generalize (T k).refs=rr at*;have d1:(0:Int)<(rr:Int):=bG
   go_wp2
   go_roundw
   case rel=>exact⟨k+1,by go_num,bG,by first|rfl|trivial⟩
   case measure=>simp[intOf];omega
def Fx.Sm(F:Fo)(S:Nat->Pi):Prop:=(∀n,n<40->(F.nd n).held<2^60)/\∀wr,∀n,n<8->Pp.kQ (S n) wr<2^60
def Fx.uM(F:Fo)(x:Fi):Fo:=if x.kind=1 then Tr.dF F (x.num:Int)else F
def Fx.wQ(S:Nat->Pi)(x:Fi):Nat->Pi:=if x.kind=1 then S else Pp.qq S (x.num:Int) (decide (x.kind=3))
theorem O6(t b p:Nat)(x:Fi)(T:Nat->Fi)(F:Fo)(S:Nat->Pi)(w:bD)(h:FX w t b p T F S)(hs:Fx.Sm F S):
  Calls prog 157 #[ai (bB ⟨t,0,bC⟩),au #[aa bf (x.kind:Int),aa bf (x.num:Int),ar x.wr,aa bf (x.pos:Int),aa bf (x.refs:Int)]] w λe w'=>e=bw (ao #[])/\FX w' t b p T (Fx.uM F x) (Fx.wQ S x)/\dK t b p w w':=by
 have HF:=hJ h;have HS:=hJ hs;have NE:Hid (w.heap.size≠t/\w.heap.size≠b/\w.heap.size≠p):=hJ ⟨Nat.ne_of_gt h.1.lt,Nat.ne_of_gt h.2.1.lt,Nat.ne_of_gt h.2.2.1.lt⟩;obtain⟨kd,nm,wb,ps,rf⟩:=x;have B0:Hid (FX (w.alloc (bA #[aa bf (kd:Int),aa bf (nm:Int),ar wb,aa bf (ps:Int),aa bf (rf:Int)] 197)) t b p T F S/\dK t b p w (w.alloc (bA #[aa bf (kd:Int),aa bf (nm:Int),ar wb,aa bf (ps:Int),aa bf (rf:Int)] 197))/\(w.alloc (bA #[aa bf (kd:Int),aa bf (nm:Int),ar wb,aa bf (ps:Int),aa bf (rf:Int)] 197)).heap[w.heap.size]? =bB (bA #[aa bf (kd:Int),aa bf (nm:Int),ar wb,aa bf (ps:Int),aa bf (rf:Int)] 197 (0,0))):=hJ (by
  have bb:=(aQ w.heap.size w).alloc (aL _) (bA #[aa bf (kd:Int),aa bf (nm:Int),ar wb,aa bf (ps:Int),aa bf (rf:Int)] 197);exact⟨HF.below bb,dK.below bb,heap_alloc_new w _⟩)
 by_cases k1:kd=1
 .subst k1;have EL:Hid (Fx.uM F ⟨1,nm,wb,ps,rf⟩=Tr.dF F (nm:Int)/\Fx.wQ S ⟨1,nm,wb,ps,rf⟩=S):=hJ ⟨aJ rfl,aJ rfl⟩;go_in
  go_upto_region 1 with fail
  refine cR (λW'=>FX W' t b p T F S/\dK t b p w W'/\W'.heap[w.heap.size]? =bB (bA #[aa bf ((1:Nat):Int),aa bf (nm:Int),ar wb,aa bf (ps:Int),aa bf (rf:Int)] 197 (0,0))) B0.v ?_;rintro W1 ⟨h1,f1,x1⟩;have H1:=hJ h1;have F1:=hJ f1;have y0:=cU x1 0 (aa .i64 1) rfl;have y1:=cU x1 1 (aa bf (nm:Int)) rfl;have y2:=h1.1.fo;have K0:=hJ (aK y2 y1);have X1:=hJ x1;generalize w.heap.size=bx at*;go_wp2
  go_region_held3 (λw'=>w'.cell? ⟨t,0,bC⟩=bB (ai (bB ⟨b,0,bC⟩))/\w'.cell? ⟨bx,1,bC⟩=bB (aa bf (nm:Int))) (first|exact K0.v|exact K4.v) ((first|(go_at_call 226;refine sC (tO b nm F _ H1.2.1.drew HS.1) ?_;rintro w4 ⟨u4,f4⟩;have f4':bO b W1 w4:=⟨f4.os,f4.tape,f4.output,f4.size,f4.block⟩;have C4:=hJ (aK (H1.fo u4 f4') (F1.trans (dK.fo f4')));have K4:=hJ (aK C4.1.1.fo (cU ((f4'.block bx (aX.1 X1.v).1 NE.2.1).trans X1.v) 1 (aa bf (nm:Int)) rfl)))))
  go_wp2
  (try simp only[Exit.inBlock,Exit.then])
  refine bodyPost_ret (results_none rfl _ _ _) rfl ?_;rw[EL.1,EL.2];exact⟨rfl,C4.v⟩
 .have EL:Hid (Fx.uM F ⟨kd,nm,wb,ps,rf⟩=F/\Fx.wQ S ⟨kd,nm,wb,ps,rf⟩=Pp.qq S (nm:Int) (decide (kd=3))):=hJ ⟨aI k1,aI k1⟩;have k1':((kd:Int)==1)=bF:=by simp;omega
  have k3:((kd:Int)==3)=decide (kd=3):=by
   by_cases d:kd=3
   .subst d;rfl
   .rw[aT d];simp;omega
  go_in
  go_upto_region 1 with fail
  refine cR (λW'=>FX W' t b p T F S/\dK t b p w W'/\W'.heap[w.heap.size]? =bB (bA #[aa bf (kd:Int),aa bf (nm:Int),ar wb,aa bf (ps:Int),aa bf (rf:Int)] 197 (0,0))) B0.v ?_;rintro W1 ⟨h1,f1,x1⟩;have H1:=hJ h1;have F1:=hJ f1;have y0:=cU x1 0 (aa bf (kd:Int)) rfl;have y1:=cU x1 1 (aa bf (nm:Int)) rfl;have y2:=h1.1.pi;have K0:=hJ (aK y2 (aK y1 y0));have X1:=hJ x1;generalize w.heap.size=bx at*;go_wp2
  go_region_held3 (λw'=>w'.cell? ⟨t,1,bC⟩=bB (ai (bB ⟨p,0,bC⟩))/\w'.cell? ⟨bx,1,bC⟩=bB (aa bf (nm:Int))/\w'.cell? ⟨bx,0,bC⟩=bB (aa bf (kd:Int))) (first|exact K0.v|exact K4.v) ((first|(go_at_call 227;refine sC (Ld p nm _ S _ H1.2.2.1.drew (HS.2 _)) ?_;rintro w4 ⟨u4,f4⟩;have f4':bO p W1 w4:=⟨f4.os,f4.tape,f4.output,f4.size,f4.block⟩;have C4:=hJ (aK (H1.pi u4 f4') (F1.trans (dK.pi f4')));have K4:=hJ (aK C4.1.1.pi (aK (cU ((f4'.block bx (aX.1 X1.v).1 NE.2.2).trans X1.v) 1 (aa bf (nm:Int)) rfl) (cU ((f4'.block bx (aX.1 X1.v).1 NE.2.2).trans X1.v) 0 (aa bf (kd:Int)) rfl))))))
  go_wp2
  go_end0
  rw[EL.1,EL.2];exact⟨rfl,C4.v⟩
def Fx.jX(T:Nat->Fi)(z:Int):Nat->Fi:=if Fx.dB T z=0 then Fx.put T z.toNat {T z.toNat with refs:=(T z.toNat).refs+1}else T
theorem zH(t b p:Nat)(z:Int)(T:Nat->Fi)(w:bD)(h:eI w t b p T)(hr:∀n,n<24->(T n).refs<2^60):
  Calls prog 146 #[ai (bB ⟨t,0,bC⟩),aa bf z] w λe w'=>e=bw (bS (Fx.dB T z))/\eI w' t b p (Fx.jX T z)/\bO t w w':=by
 have HF:=hJ h;by_cases c:Fx.dB T z=0
 .obtain⟨n,rfl,n24,_⟩:=Fx.kT c;have EP:Hid (Fx.dB T (n:Int)=0/\lJ t (n:Int) 0=ai (bB ⟨t,2+n*5,bC⟩)):=hJ ⟨c,p7 t n⟩;have c0:=h.refs n n24;have hl:=hr n n24;have FIN:Hid (eI (w.setCell ⟨t,2+n*5+4,bC⟩ (aa bf (((T n).refs+1:Nat):Int))) t b p (Fx.jX T (n:Int))):=hJ (by
   unfold Fx.jX;rw[aJ c,hZ];exact h.sE n n24 _)
  have cf:=h.frozen;generalize (T n).refs=k at*;have hw:IntKind.i64.wrap ((k:Int)+1)=(k:Int)+1:=aN _ ⟨by omega,bG⟩;go_in
  go_wp2_with fail
  refine sC (eQ t b p n T _ HF.v) ?_;rintro w1 hw1;subst w1;rw[EP.1,EP.2,bN];go_wp2
  go_ret
  rw[EP.1];exact⟨rfl,FIN.v,(bO.refl t w).setCell _ _⟩
 .have E2:Hid (lJ t z (Fx.dB T z)=ai bC/\bS (Fx.dB T z)=aq 100 (aa bf (Fx.dB T z))/\Fx.jX T z=T):=hJ ⟨oA c,bP c,aI c⟩;go_in
  go_wp2_with fail
  refine sC (eQ t b p z T _ HF.v) ?_;rintro w1 hw1;subst w1;rw[E2.1,E2.2.1];go_wp2
  go_ret
  rw[E2.2.2,E2.2.1];exact⟨rfl,HF.v,bO.refl _ _⟩
def Fx.te(T:Nat->Fi)(z:Int):Nat->Fi:=if Fx.dB T z=0 then Fx.put T z.toNat (if(T z.toNat).refs=1 then Fi.no else{T z.toNat with refs:=(T z.toNat).refs-1})else T
def Fx.td(T:Nat->Fi)(F:Fo)(z:Int):Fo:=if Fx.dB T z=0/\(T z.toNat).refs=1 then Fx.uM F (T z.toNat)else F
def Fx.uD(T:Nat->Fi)(S:Nat->Pi)(z:Int):Nat->Pi:=if Fx.dB T z=0/\(T z.toNat).refs=1 then Fx.wQ S (T z.toNat)else S
theorem zF(t b p:Nat)(z:Int)(T:Nat->Fi)(F:Fo)(S:Nat->Pi)(w:bD)(h:FX w t b p T F S)(hs:Fx.Sm F S)(hr:∀n,n<24->(T n).refs<2^60):
  Calls prog 77 #[ai (bB ⟨t,0,bC⟩),aa bf z] w λe w'=>e=bw (bS (Fx.dB T z))/\FX w' t b p (Fx.te T z) (Fx.td T F z) (Fx.uD T S z)/\dK t b p w w':=by
 have HF:=hJ h;have HS:=hJ hs;by_cases c:Fx.dB T z=0
 .obtain⟨n,rfl,n24,r0⟩:=Fx.kT c;have EP:Hid (Fx.dB T (n:Int)=0/\lJ t (n:Int) 0=ai (bB ⟨t,2+n*5,bC⟩)):=hJ ⟨c,p7 t n⟩;have c0:=h.1.refs n n24;have hl:=hr n n24;have S1:Hid (FX (w.setCell ⟨t,2+n*5+4,bC⟩ (aa bf (((T n).refs-1:Nat):Int))) t b p (Fx.put T n {T n with refs:=(T n).refs-1}) F S/\bO t w (w.setCell ⟨t,2+n*5+4,bC⟩ (aa bf (((T n).refs-1:Nat):Int)))):=hJ ⟨h.tb (h.1.sE n n24 _) ((bO.refl t w).setCell _ _),(bO.refl t w).setCell _ _⟩;have cf:=h.1.frozen;have ET:Hid (Fx.te T (n:Int)=Fx.put T n (if(T n).refs=1 then Fi.no else{T n with refs:=(T n).refs-1})/\Fx.td T F (n:Int)=(if(T n).refs=1 then Fx.uM F (T n)else F)/\Fx.uD T S (n:Int)=(if(T n).refs=1 then Fx.wQ S (T n)else S)):=hJ (by
   unfold Fx.te Fx.td Fx.uD;rw[hZ,aJ c];refine⟨rfl,?_,?_⟩
   .by_cases d:(T n).refs=1
    .rw[aJ ⟨c,d⟩,aJ d]
    .rw[aI (λe=>d e.2),aI d]
   .by_cases d:(T n).refs=1
    .rw[aJ ⟨c,d⟩,aJ d]
    .rw[aI (λe=>d e.2),aI d])
  by_cases r1:(T n).refs=1
  .rw[r1]at c0 S1;have c0':w.cell? ⟨t,2+n*5+4,bC⟩=bB (aa .i64 1):=c0;have S1':Hid (FX (w.setCell ⟨t,2+n*5+4,bC⟩ (aa .i64 0)) t b p (Fx.put T n {T n with refs:=0}) F S/\bO t w (w.setCell ⟨t,2+n*5+4,bC⟩ (aa .i64 0))):=S1;rw[aJ r1,aJ r1,aJ r1]at ET;go_in
   go_wp2_with fail
   refine sC (eQ t b p n T _ HF.1) ?_;rintro w1 hw1;subst w1;rw[EP.1,EP.2,bN];have z0:=S1'.1.1.kind n n24;have z1:=S1'.1.1.num n n24;have z2:=S1'.1.1.wr n n24;have z3:=S1'.1.1.pos n n24;have z4:=S1'.1.1.refs n n24;rw[Fx.bR]at z0 z1 z2 z3 z4;have XL:Hid (Fx.uM F (T n)=Fx.uM F {T n with refs:=0}/\Fx.wQ S (T n)=Fx.wQ S {T n with refs:=0}):=hJ ⟨rfl,rfl⟩;obtain⟨x,hx⟩:=hU (({T n with refs:=0}:Fi));rw[hx]at z0 z1 z2 z3 z4 S1' XL;have hx4:x.refs=0:=by rw[<-hx]
   obtain⟨kd,nm,wb,ps,rf⟩:=x;obtain rfl:rf=0:=hx4;have z0':(w.setCell ⟨t,2+n*5+4,bC⟩ (aa .i64 0)).cell? ⟨t,2+n*5,bC⟩=bB (aa bf (kd:Int)):=z0;have z1':(w.setCell ⟨t,2+n*5+4,bC⟩ (aa .i64 0)).cell? ⟨t,2+n*5+1,bC⟩=bB (aa bf (nm:Int)):=z1;have z2':(w.setCell ⟨t,2+n*5+4,bC⟩ (aa .i64 0)).cell? ⟨t,2+n*5+2,bC⟩=bB (ar wb):=z2;have z3':(w.setCell ⟨t,2+n*5+4,bC⟩ (aa .i64 0)).cell? ⟨t,2+n*5+3,bC⟩=bB (aa bf (ps:Int)):=z3;have z4':(w.setCell ⟨t,2+n*5+4,bC⟩ (aa .i64 0)).cell? ⟨t,2+n*5+4,bC⟩=bB (aa .i64 0):=z4;go_upto_region 5 with fail
   generalize w.setCell ⟨t,2+n*5+4,bC⟩ (aa .i64 0)=W1 at*;go_wp2_with fail
   refine sC (O6 t b p ⟨kd,nm,wb,ps,0⟩ _ F S _ S1'.1 HS.v) ?_;rintro W2 ⟨h2,f2⟩;have H2:=hJ h2;have F2:=hJ ((dK.tb S1'.2).trans f2);have FIN:Hid (FX (W2.setCells t (2+n*5) (Fx.arr Fi.no).toList) t b p (Fx.te T (n:Int)) (Fx.td T F (n:Int)) (Fx.uD T S (n:Int))/\dK t b p w (W2.setCells t (2+n*5) (Fx.arr Fi.no).toList)):=hJ (by
    have q:=h2.1.Ls n n24 Fi.no;rw[Fx.gO]at q;rw[ET.1,ET.2.1,ET.2.2,XL.1,XL.2];have fr:=Pp.jA (Fx.arr Fi.no).toList (2+n*5) (bO.refl t W2);exact⟨h2.tb q fr,F2.trans (dK.tb fr)⟩)
   have y0:=h2.1.kind n n24;have y1:=h2.1.num n n24;have y2:=h2.1.wr n n24;have y3:=h2.1.pos n n24;have y4:=h2.1.refs n n24;have yf:=h2.1.frozen;rw[Fx.bR]at y0 y1 y2 y3 y4;go_wp2
   go_ret
   rw[EP.1];exact⟨rfl,FIN.v⟩
  .rw[aI r1,aI r1,aI r1]at ET;generalize (T n).refs=k at*;obtain⟨q,rfl⟩:∃q,k=q+1:=⟨k-1,bG⟩;have q0:((q:Int)==0)=bF:=by simp;omega
   rw[aP]at S1 ET;have hw:IntKind.i64.wrap (((q+1:Nat):Int)-1)=(q:Int):=(aN _ ⟨by omega,bG⟩).trans bG;obtain⟨k1,hk1⟩:=hU (((q+1:Nat):Int));rw[hk1]at c0 hw;go_in
   go_wp2_with fail
   refine sC (eQ t b p n T _ HF.1) ?_;rintro w1 hw1;subst w1;rw[EP.1,EP.2,bN];go_wp2
   go_ret
   rw[EP.1,ET.1,ET.2.1,ET.2.2];exact⟨rfl,S1.1,dK.tb S1.2⟩
 .have E2:Hid (lJ t z (Fx.dB T z)=ai bC/\bS (Fx.dB T z)=aq 100 (aa bf (Fx.dB T z))/\Fx.te T z=T/\Fx.td T F z=F/\Fx.uD T S z=S):=hJ ⟨oA c,bP c,aI c,aI (λe=>c e.1),aI (λe=>c e.1)⟩;go_in
  go_wp2_with fail
  refine sC (eQ t b p z T _ HF.1) ?_;rintro w1 hw1;subst w1;rw[E2.1,E2.2.1];go_wp2
  go_ret
  rw[E2.2.2.1,E2.2.2.2.1,E2.2.2.2.2,E2.2.1];exact⟨rfl,HF.v,dK.refl _ _ _ _⟩
def Fx.vM(T:Nat->Fi)(F:Fo)(z:Int)(wr:Bool)(K:Nat)(E:Int)(T':Nat->Fi)(F':Fo):Prop:=
 (Tr.cQ F z 1≠0/\K=0/\E=Tr.cQ F z 1/\T'=T/\F'=F)
 \/(Tr.cQ F z 1=0/\Fx.cY T 24=24/\K=0/\E=4/\T'=T/\F'=F)
 \/(Tr.cQ F z 1=0/\Fx.cY T 24<24/\Fx.ug T K/\E=0/\T'=Fx.put T K ⟨1,z.toNat,wr,0,1⟩/\F'=Tr.dO F z)
theorem BK(t b p:Nat)(z:Int)(wr:Bool)(T:Nat->Fi)(F:Fo)(S:Nat->Pi)(w:bD)(h:FX w t b p T F S)(hs:Fx.Sm F S):
  Calls prog 200 #[ai (bB ⟨t,0,bC⟩),aa bf z,ar wr] w λe w'=>∃(K:Nat) (E:Int) (T':Nat->Fi) (F':Fo),e=bw (ao #[aa bf (K:Int),bS E])/\Fx.vM T F z wr K E T' F'/\FX w' t b p T' F' S/\dK t b p w w':=by
 have HF:=hJ h;have HS:=hJ hs;have y0:=h.1.fo;by_cases c:Tr.cM F z=0
 .obtain⟨n,rfl,n40,_⟩:=Tr.ic c;have EP:Hid (Tr.cM F (n:Int)=0/\tY F (n:Int)=#[aa bf ((F.nd n).kind:Int),aa bf ((F.nd n).cW:Int),aa bf ((F.nd n).held:Int),aa bf ((F.nd n).size:Int)]):=hJ ⟨c,by unfold tY;rw[aJ c,hZ]⟩;have EI:Tr.cQ F (n:Int) 1=if(F.nd n).kind=1 then 0 else 11:=by unfold Tr.cQ;rw[aI (λd=>d c),hZ]
  by_cases k1:(F.nd n).kind=1
  .have e0:Tr.cQ F (n:Int) 1=0:=by rw[EI,aJ k1]
   have lc:=Fx.nP T 24;rw[k1]at EP;have EP':Hid (Tr.cM F (n:Int)=0/\tY F (n:Int)=#[aa bf 1,aa bf ((F.nd n).cW:Int),aa bf ((F.nd n).held:Int),aa bf ((F.nd n).size:Int)]):=EP;generalize (F.nd n).cW=q1 at EP';generalize (F.nd n).held=q2 at EP';generalize (F.nd n).size=q3 at EP';by_cases r1:Fx.cY T 24=24
   .have rd:decide ((1:Int)<=24-(Fx.cY T 24:Int))=bF:=by simp;omega
    have FIN:Hid (Fx.vM T F (n:Int) wr 0 4 T F):=hJ (.inr (.inl ⟨e0,r1,rfl,rfl,rfl,rfl⟩));go_in
    go_wp2_with fail
    refine sC (qd b n F _ HF.2.1) ?_;rintro W1 b1;rw[EP'.1,EP'.2,bN];have H1:=hJ (HF.below b1);have F1:Hid (dK t b p w W1):=hJ (dK.below b1);go_upto_region 2 with fail
    refine cR (λW'=>FX W' t b p T F S/\dK t b p w W'/\W'.cell? ⟨W1.heap.size,0,bC⟩=bB (aa .i64 1)) (by
     have bb:=(aQ W1.heap.size W1).alloc (aL _) (bA #[aa bf 1,aa bf (q1:Int),aa bf (q2:Int),aa bf (q3:Int)] 156);exact⟨H1.below bb,F1.trans (dK.below bb),cU (heap_alloc_new W1 _) 0 _ rfl⟩) ?_
    rintro W2 ⟨h2,f2,z0⟩;have H2:=hJ h2;have F2:=hJ f2;generalize W1.heap.size=bx at*;go_wp2_with fail
    refine sC (pH t b p 1 T _ H2.1) ?_;rintro W3 hW3;subst W3;rw[rd];go_wp2
    go_ret2
    exact⟨0,4,T,F,rfl,FIN.v,H2.v,F2.v⟩
   .have rd:decide ((1:Int)<=24-(Fx.cY T 24:Int))=bE:=by simp;omega
    obtain⟨K,hK⟩:=Fx.DA (T:=T) bG;have HK:=hJ hK;have FIN:Hid (Fx.vM T F (n:Int) wr K 0 (Fx.put T K ⟨1,n,wr,0,1⟩) (Tr.dO F (n:Int))):=hJ (.inr (.inr ⟨e0,bG,hK,rfl,by rw[hZ],rfl⟩));go_in
    go_wp2_with fail
    refine sC (qd b n F _ HF.2.1) ?_;rintro W1 b1;rw[EP'.1,EP'.2,bN];have H1:=hJ (HF.below b1);have F1:Hid (dK t b p w W1):=hJ (dK.below b1);go_upto_region 2 with fail
    refine cR (λW'=>FX W' t b p T F S/\dK t b p w W'/\W'.cell? ⟨W1.heap.size,0,bC⟩=bB (aa .i64 1)) (by
     have bb:=(aQ W1.heap.size W1).alloc (aL _) (bA #[aa bf 1,aa bf (q1:Int),aa bf (q2:Int),aa bf (q3:Int)] 156);exact⟨H1.below bb,F1.trans (dK.below bb),cU (heap_alloc_new W1 _) 0 _ rfl⟩) ?_
    rintro W2 ⟨h2,f2,z0⟩;have H2:=hJ h2;have F2:=hJ f2;have y0:=h2.1.fo;generalize W1.heap.size=bx at*;go_wp2_with fail
    refine sC (pH t b p 1 T _ H2.1) ?_;rintro W3 hW3;subst W3;rw[rd];go_wp2_with fail
    refine sC (rG b n F _ H2.2.1 HS.1) ?_;rintro W3 ⟨h3,f3⟩;have H3:=hJ (H2.fo h3 f3);have F3:=hJ (F2.trans (dK.fo f3));go_wp2_with fail
    refine sC (ya t b p ⟨1,n,wr,0,0⟩ K T _ H3.1 HK.v) ?_;rintro W4 ⟨h4,f4⟩;have H4:=hJ (H3.tb h4 f4);have F4:=hJ (F3.trans (dK.tb f4));go_wp2
    go_ret2
    exact⟨K,0,_,_,rfl,FIN.v,H4.v,F4.v⟩
  .have e0:Tr.cQ F (n:Int) 1=11:=by rw[EI,aI k1]
   have FIN:Hid (Fx.vM T F (n:Int) wr 0 11 T F):=hJ (.inl ⟨by rw[e0];decide,rfl,e0.symm,rfl,rfl⟩);have k1':(((F.nd n).kind:Int) !=1)=bE:=by simp;omega
   have k1'':(((F.nd n).kind:Int)==1)=bF:=by simp;omega
   generalize (F.nd n).kind=kk at*;generalize (F.nd n).cW=q1 at EP;generalize (F.nd n).held=q2 at EP;generalize (F.nd n).size=q3 at EP;go_in
   go_wp2_with fail
   refine sC (qd b n F _ HF.2.1) ?_;rintro W1 b1;rw[EP.1,EP.2,bN];have H1:=hJ (HF.below b1);have F1:Hid (dK t b p w W1):=hJ (dK.below b1);go_upto_region 2 with fail
   refine cR (λW'=>FX W' t b p T F S/\dK t b p w W'/\W'.cell? ⟨W1.heap.size,0,bC⟩=bB (aa bf (kk:Int))) (by
    have bb:=(aQ W1.heap.size W1).alloc (aL _) (bA #[aa bf (kk:Int),aa bf (q1:Int),aa bf (q2:Int),aa bf (q3:Int)] 156);exact⟨H1.below bb,F1.trans (dK.below bb),cU (heap_alloc_new W1 _) 0 _ rfl⟩) ?_
   rintro W2 ⟨h2,f2,z0⟩;have H2:=hJ h2;have F2:=hJ f2;generalize W1.heap.size=bx at*;go_wp2
   go_ret2
   exact⟨0,11,T,F,rfl,FIN.v,H2.v,F2.v⟩
 .have E2:Hid (bS (Tr.cM F z)=aq 100 (aa bf (Tr.cM F z))/\tY F z=#[aa bf 0,aa bf 0,aa bf 0,aa bf 0]):=hJ ⟨bP c,aI c⟩;have FIN:Hid (Fx.vM T F z wr 0 (Tr.cM F z) T F):=hJ (by
   have e:Tr.cQ F z 1=Tr.cM F z:=aJ c;exact .inl ⟨by rw[e];exact c,rfl,e.symm,rfl,rfl⟩)
  go_in
  go_wp2_with fail
  refine sC (qd b z F _ HF.2.1) ?_;rintro W1 b1;rw[E2.1,E2.2];have H1:=hJ (HF.below b1);have F1:Hid (dK t b p w W1):=hJ (dK.below b1);go_upto_region 2 with fail
  refine cR (λW'=>FX W' t b p T F S/\dK t b p w W') (by
   have bb:=(aQ W1.heap.size W1).alloc (aL _) (bA #[aa bf 0,aa bf 0,aa bf 0,aa bf 0] 156);exact⟨H1.below bb,F1.trans (dK.below bb)⟩) ?_
  rintro W2 ⟨h2,f2⟩;have H2:=hJ h2;have F2:=hJ f2;go_wp2
  go_ret2
  exact⟨0,Tr.cM F z,T,F,by rw[E2.1];rfl,FIN.v,H2.v,F2.v⟩
def Fx.eO(T:Nat->Fi)(F:Fo)(S:Nat->Pi)(z m:Int):Int:=
 if Fx.dB T z≠0 then Fx.dB T z else if(T z.toNat).kind=3 then 8 else if(T z.toNat).kind=2 then Pp.eO S ((T z.toNat).num:Int) m else Tr.eO F ((T z.toNat).num:Int) ((T z.toNat).pos:Int) m
def Fx.tG(T:Nat->Fi)(F:Fo)(S:Nat->Pi)(z m:Int):bU:=
 if Fx.dB T z≠0 then⟨#[]⟩else if(T z.toNat).kind=3 then⟨#[]⟩else if(T z.toNat).kind=2 then Pp.iP S ((T z.toNat).num:Int) m else Tr.jG F ((T z.toNat).num:Int) ((T z.toNat).pos:Int) m
def Fx.iP(T:Nat->Fi)(F:Fo)(z m:Int):Nat->Fi:=
 if Fx.dB T z=0/\(T z.toNat).kind≠3/\(T z.toNat).kind≠2/\Tr.eO F ((T z.toNat).num:Int) ((T z.toNat).pos:Int) m=0 then Fx.put T z.toNat {T z.toNat with pos:=(T z.toNat).pos+(Tr.jG F ((T z.toNat).num:Int) ((T z.toNat).pos:Int) m).size}else T
def Fx.qH(T:Nat->Fi)(S:Nat->Pi)(z m:Int):Nat->Pi:=if Fx.dB T z=0/\(T z.toNat).kind=2 then Pp.oI S ((T z.toNat).num:Int) m else S
def Fx.dQ(T:Nat->Fi)(F:Fo)(S:Nat->Pi)(z:Int)(s:bU):Int:=
 if Fx.dB T z≠0 then Fx.dB T z else if(T z.toNat).kind=3 then Pp.dQ S ((T z.toNat).num:Int) s else if(T z.toNat).wr=bF then 8 else Tr.dQ F ((T z.toNat).num:Int) ((T z.toNat).pos:Int) s
def Fx.iT(T:Nat->Fi)(F:Fo)(S:Nat->Pi)(z:Int)(s:bU):Nat:=
 if Fx.dB T z≠0 then 0 else if(T z.toNat).kind=3 then Pp.iT S ((T z.toNat).num:Int) s else if(T z.toNat).wr=bF then 0 else if Tr.dQ F ((T z.toNat).num:Int) ((T z.toNat).pos:Int) s=0 then s.size else 0
def Fx.qS(T:Nat->Fi)(z:Int):Prop:=Fx.dB T z=0/\(T z.toNat).kind≠3/\(T z.toNat).wr=bE
def Fx.zD(T:Nat->Fi)(z:Int):Decidable (Fx.qS T z):=by unfold Fx.qS;exact inferInstance
def Fx.qT(T:Nat->Fi)(F:Fo)(z:Int)(s:bU):Nat->Fi:=
 haveI:=Fx.zD T z;if Fx.qS T z/\Tr.dQ F ((T z.toNat).num:Int) ((T z.toNat).pos:Int) s=0 then Fx.put T z.toNat {T z.toNat with pos:=(T z.toNat).pos+s.size}else T
def Fx.eX(T:Nat->Fi)(F:Fo)(z:Int)(s:bU):Fo:=haveI:=Fx.zD T z;if Fx.qS T z then Tr.eX F ((T z.toNat).num:Int) ((T z.toNat).pos:Int) s else F
def Fx.x9(T:Nat->Fi)(S:Nat->Pi)(z:Int)(s:bU):Nat->Pi:=if Fx.dB T z=0/\(T z.toNat).kind=3 then Pp.eX S ((T z.toNat).num:Int) s else S
def Fx.Pz(T:Nat->Fi):Prop:=∀n,n<24->(T n).pos<2^60
theorem Tr.Rl{F:Fo}(h:Tr.uf F)(z a m:Int):(Tr.jG F z a m).size<=40:=by
 unfold Tr.jG;split
 .rename_i c;have i0:Tr.cQ F z 1=0:=by
   unfold Tr.eO at c;grind
  obtain⟨n,rfl,n40,_,k1⟩:=Tr.fE i0;have z40:=h n n40 k1;rw[hZ];have:∀(L:List Int) (r:bU),(L.foldl (λr n=>r.push (UInt8.ofNat n.toNat)) r).size=r.size+L.length:=by
   intro L
   induction L with
   |nil=>intro r;rfl
   |cons x L ih=>intro r;rw[List.foldl_cons,ih,ByteArray.size_push,List.length_cons];omega
  unfold Tr.PF;rw[this,Tr.wi];show 0+_<=40;omega
 .exact aC _
theorem Mp(t b p:Nat)(z m:Int)(T:Nat->Fi)(F:Fo)(S:Nat->Pi)(w:bD)(h:FX w t b p T F S)(hz:Tr.uf F)(hp:Fx.Pz T):
  Calls prog 202 #[ai (bB ⟨t,0,bC⟩),aa bf z,aa bf m] w λe w'=>e=bw (ao #[ak (Fx.tG T F S z m),bS (Fx.eO T F S z m)])/\FX w' t b p (Fx.iP T F z m) F (Fx.qH T S z m)/\dK t b p w w':=by
 have HF:=hJ h;have HZ:=hJ hz;by_cases c:Fx.dB T z=0
 .obtain⟨n,rfl,n24,_⟩:=Fx.kT c;have EP:Hid (Fx.dB T (n:Int)=0/\lJ t (n:Int) 0=ai (bB ⟨t,2+n*5,bC⟩)):=hJ ⟨c,p7 t n⟩;have hps:=hp n n24;have c0:=h.1.kind n n24;have c1:=h.1.num n n24;have c3:=h.1.pos n n24;have cp:=h.1.pi;have cb:=h.1.fo;have cf:=h.1.frozen;have DE:Fx.eO T F S (n:Int) m=if(T n).kind=3 then 8 else if(T n).kind=2 then Pp.eO S ((T n).num:Int) m else Tr.eO F ((T n).num:Int) ((T n).pos:Int) m:=by unfold Fx.eO;rw[aI (λd=>d c),hZ]
  have DV:Fx.tG T F S (n:Int) m=if(T n).kind=3 then⟨#[]⟩else if(T n).kind=2 then Pp.iP S ((T n).num:Int) m else Tr.jG F ((T n).num:Int) ((T n).pos:Int) m:=by unfold Fx.tG;rw[aI (λd=>d c),hZ]
  by_cases k3:(T n).kind=3
  .have FIN:Hid (Fx.eO T F S (n:Int) m=8/\Fx.tG T F S (n:Int) m=⟨#[]⟩/\Fx.iP T F (n:Int) m=T/\Fx.qH T S (n:Int) m=S):=hJ ⟨by rw[DE,aJ k3],by rw[DV,aJ k3],aI (λd=>by rw[hZ]at d;exact d.2.1 k3),aI (λd=>by rw[hZ,k3]at d;exact aZ d.2 bM)⟩;rw[k3]at c0;have c0':w.cell? ⟨t,2+n*5,bC⟩=bB (aa .i64 3):=c0;go_in
   go_wp2_with fail
   refine sC (eQ t b p n T _ HF.1) ?_;rintro w1 hw1;subst w1;rw[EP.1,EP.2,bN];go_wp2
   go_ret2
   rw[FIN.1,FIN.2.1,FIN.2.2.1,FIN.2.2.2];exact⟨rfl,HF.v,dK.refl _ _ _ _⟩
  .by_cases k2:(T n).kind=2
   .have FIN:Hid (Fx.eO T F S (n:Int) m=Pp.eO S ((T n).num:Int) m/\Fx.tG T F S (n:Int) m=Pp.iP S ((T n).num:Int) m/\Fx.iP T F (n:Int) m=T/\Fx.qH T S (n:Int) m=Pp.oI S ((T n).num:Int) m):=hJ ⟨by rw[DE,aI k3,aJ k2],by rw[DV,aI k3,aJ k2],aI (λd=>by rw[hZ]at d;exact d.2.2.1 k2),by unfold Fx.qH;rw[hZ,aJ ⟨c,k2⟩]⟩;rw[k2]at c0;have c0':w.cell? ⟨t,2+n*5,bC⟩=bB (aa .i64 2):=c0;generalize (T n).num=nm at*;have K0:=hJ (aK cp c1);have NP:=hJ h.2.2.2;go_in
    go_wp2_with fail
    refine sC (eQ t b p n T _ HF.1) ?_;rintro w1 hw1;subst w1;rw[EP.1,EP.2,bN];go_wp2_with fail
    go_region_held3 (λw'=>w'.cell? ⟨t,1,bC⟩=bB (ai (bB ⟨p,0,bC⟩))/\w'.cell? ⟨t,2+n*5+1,bC⟩=bB (aa bf (nm:Int))) (first|exact K0.v|exact K4.v) ((first|(go_at_call 245;refine sC (Lh p nm m S _ HF.2.2.1.drew) ?_;rintro w4 ⟨u4,f4⟩;have f4':bO p w w4:=⟨f4.os,f4.tape,f4.output,f4.size,f4.block⟩;have C4:=hJ (HF.pi u4 f4');have D4:Hid (dK t b p w w4):=hJ (dK.pi f4');have K4:=hJ (aK C4.1.pi ((aV (f4'.block t HF.1.lt NP.2.1)).trans K0.2)))))
    go_wp2
    go_ret2
    rw[FIN.1,FIN.2.1,FIN.2.2.1,FIN.2.2.2];exact⟨rfl,C4.v,D4.v⟩
   .have EP2:Hid (Fx.qH T S (n:Int) m=S):=hJ (aI (λd=>by rw[hZ]at d;exact k2 d.2));have FIN:Hid (Fx.eO T F S (n:Int) m=Tr.eO F ((T n).num:Int) ((T n).pos:Int) m/\Fx.tG T F S (n:Int) m=Tr.jG F ((T n).num:Int) ((T n).pos:Int) m):=hJ ⟨by rw[DE,aI k3,aI k2],by rw[DV,aI k3,aI k2]⟩;have ET:Fx.iP T F (n:Int) m=if Tr.eO F ((T n).num:Int) ((T n).pos:Int) m=0 then Fx.put T n {T n with pos:=(T n).pos+(Tr.jG F ((T n).num:Int) ((T n).pos:Int) m).size}else T:=by
     unfold Fx.iP;rw[hZ];by_cases d:Tr.eO F ((T n).num:Int) ((T n).pos:Int) m=0
     .rw[aJ d,aJ ⟨c,k3,k2,d⟩]
     .rw[aI d,aI (λe=>d e.2.2.2)]
    have k3':(((T n).kind:Int)==3)=bF:=by simp;omega
    have k2':(((T n).kind:Int)==2)=bF:=by simp;omega
    have ZS:Hid ((Tr.jG F ((T n).num:Int) ((T n).pos:Int) m).size<=40):=hJ (Tr.Rl hz _ _ _);have SP:Hid (∀V,FX V t b p T F S->FX (V.setCell ⟨t,2+n*5+3,bC⟩ (aa bf (((T n).pos+(Tr.jG F ((T n).num:Int) ((T n).pos:Int) m).size:Nat):Int))) t b p (Fx.put T n {T n with pos:=(T n).pos+(Tr.jG F ((T n).num:Int) ((T n).pos:Int) m).size}) F S):=hJ (λV hV=>hV.tb (hV.1.setPos n n24 _) ((bO.refl t V).setCell _ _));generalize hTX:Fx.put T n {T n with pos:=(T n).pos+(Tr.jG F ((T n).num:Int) ((T n).pos:Int) m).size}=TX at ET SP;generalize (T n).kind=kd at*;generalize (T n).num=nm at*;generalize (T n).pos=ps at*;have K0:=hJ (aK cb (aK c1 c3));have TR:=hJ (LU b nm ps m F w.drew HF.2.1.drew hz);by_cases e0:Tr.eO F (nm:Int) (ps:Int) m=0
    .rw[aJ e0]at ET;have EE:=hJ (aK e0 ET);generalize Tr.jG F (nm:Int) (ps:Int) m=RS at*;have ad:IntKind.i64.wrap ((ps:Int)+(RS.size:Int))=((ps+RS.size:Nat):Int):=by
      have:=ZS.v;exact(aN _ ⟨by omega,bG⟩).trans bG
     go_in
     go_wp2_with fail
     refine sC (eQ t b p n T _ HF.1) ?_;rintro w1 hw1;subst w1;rw[EP.1,EP.2,bN];go_wp2_with fail
     go_region_held3 (λw'=>w'.cell? ⟨t,0,bC⟩=bB (ai (bB ⟨b,0,bC⟩))/\w'.cell? ⟨t,2+n*5+1,bC⟩=bB (aa bf (nm:Int))/\w'.cell? ⟨t,2+n*5+3,bC⟩=bB (aa bf (ps:Int))) (first|exact K0.v|exact K4.v) ((first|(go_at_call 246;refine sC TR.v ?_;rintro w4 ⟨u4,b4⟩;have b4':Below w.heap.size w w4:=⟨b4.os,b4.tape,b4.output,b4.size,b4.block⟩;have C4:=hJ (HF.below b4');have D4:Hid (dK t b p w w4):=hJ (dK.below b4');have K4:=hJ (aK C4.1.fo (aK ((aV (b4'.block t HF.1.lt)).trans K0.2.1) ((aV (b4'.block t HF.1.lt)).trans K0.2.2)));rw[EE.1,bN])))
     have x3:=K4.2.2;have xf:=C4.1.frozen;have X5:=hJ (SP.v _ C4.v);have D5:Hid (dK t b p w (w4.setCell ⟨t,2+n*5+3,bC⟩ (aa bf ((ps+RS.size:Nat):Int)))):=hJ (D4.trans (dK.tb ((bO.refl t w4).setCell _ _)));go_wp2
     go_ret2
     rw[FIN.1,FIN.2,EP2.v,EE.1,EE.2];exact⟨rfl,X5.v,D5.v⟩
    .rw[aI e0]at ET;have EE:=hJ (aK (bP e0) ET);have VS:Hid (Tr.jG F (nm:Int) (ps:Int) m=⟨#[]⟩):=hJ (by unfold Tr.jG;rw[aI e0];rfl);go_in
     go_wp2_with fail
     refine sC (eQ t b p n T _ HF.1) ?_;rintro w1 hw1;subst w1;rw[EP.1,EP.2,bN];go_wp2_with fail
     go_region_held3 (λw'=>w'.cell? ⟨t,0,bC⟩=bB (ai (bB ⟨b,0,bC⟩))/\w'.cell? ⟨t,2+n*5+1,bC⟩=bB (aa bf (nm:Int))/\w'.cell? ⟨t,2+n*5+3,bC⟩=bB (aa bf (ps:Int))) (first|exact K0.v|exact K4.v) ((first|(go_at_call 246;refine sC TR.v ?_;rintro w4 ⟨u4,b4⟩;have b4':Below w.heap.size w w4:=⟨b4.os,b4.tape,b4.output,b4.size,b4.block⟩;have C4:=hJ (HF.below b4');have D4:Hid (dK t b p w w4):=hJ (dK.below b4');have K4:=hJ (aK C4.1.fo (aK ((aV (b4'.block t HF.1.lt)).trans K0.2.1) ((aV (b4'.block t HF.1.lt)).trans K0.2.2)));rw[EE.1])))
     go_wp2
     go_ret2
     rw[FIN.1,FIN.2,EP2.v,EE.1,EE.2,VS.v];exact⟨rfl,C4.v,D4.v⟩
 .have E2:Hid (lJ t z (Fx.dB T z)=ai bC/\bS (Fx.dB T z)=aq 100 (aa bf (Fx.dB T z))/\Fx.eO T F S z m=Fx.dB T z/\Fx.tG T F S z m=⟨#[]⟩/\Fx.iP T F z m=T/\Fx.qH T S z m=S):=hJ ⟨oA c,bP c,aJ c,aJ c,aI (λe=>c e.1),aI (λe=>c e.1)⟩;go_in
  go_wp2_with fail
  refine sC (eQ t b p z T _ HF.1) ?_;rintro w1 hw1;subst w1;rw[E2.1,E2.2.1];go_wp2
  go_ret2
  rw[E2.2.2.1,E2.2.2.2.1,E2.2.2.2.2.1,E2.2.2.2.2.2,E2.2.1];exact⟨rfl,HF.v,dK.refl _ _ _ _⟩
theorem Jm(t b p:Nat)(z:Int)(s:bU)(T:Nat->Fi)(F:Fo)(S:Nat->Pi)(w:bD)(h:FX w t b p T F S)(hs:s.size<2^59)(hp:Fx.Pz T):
  Calls prog 203 #[ai (bB ⟨t,0,bC⟩),aa bf z,ak s] w λe w'=>e=bw (ao #[aa bf (Fx.iT T F S z s:Int),bS (Fx.dQ T F S z s)])/\FX w' t b p (Fx.qT T F z s) (Fx.eX T F z s) (Fx.x9 T S z s)/\dK t b p w w':=by
 have HF:=hJ h;have HL:=hJ hs;by_cases c:Fx.dB T z=0
 .obtain⟨n,rfl,n24,_⟩:=Fx.kT c;have EP:Hid (Fx.dB T (n:Int)=0/\lJ t (n:Int) 0=ai (bB ⟨t,2+n*5,bC⟩)):=hJ ⟨c,p7 t n⟩;have hps:=hp n n24;have c0:=h.1.kind n n24;have c1:=h.1.num n n24;have c2:=h.1.wr n n24;have c3:=h.1.pos n n24;have cp:=h.1.pi;have cb:=h.1.fo;have cf:=h.1.frozen;have DE:Fx.dQ T F S (n:Int) s=if(T n).kind=3 then Pp.dQ S ((T n).num:Int) s else if(T n).wr=bF then 8 else Tr.dQ F ((T n).num:Int) ((T n).pos:Int) s:=by unfold Fx.dQ;rw[aI (λd=>d c),hZ]
  have DK:Fx.iT T F S (n:Int) s=if(T n).kind=3 then Pp.iT S ((T n).num:Int) s else if(T n).wr=bF then 0 else if Tr.dQ F ((T n).num:Int) ((T n).pos:Int) s=0 then s.size else 0:=by unfold Fx.iT;rw[aI (λd=>d c),hZ]
  by_cases k3:(T n).kind=3
  .have nb:¬Fx.qS T (n:Int):=λd=>by unfold Fx.qS at d;rw[hZ]at d;exact d.2.1 k3
   have FIN:Hid (Fx.dQ T F S (n:Int) s=Pp.dQ S ((T n).num:Int) s/\Fx.iT T F S (n:Int) s=Pp.iT S ((T n).num:Int) s/\Fx.qT T F (n:Int) s=T/\Fx.eX T F (n:Int) s=F/\Fx.x9 T S (n:Int) s=Pp.eX S ((T n).num:Int) s):=hJ ⟨by rw[DE,aJ k3],by rw[DK,aJ k3],aI (λd=>nb d.1),aI nb,by unfold Fx.x9;rw[hZ,aJ ⟨c,k3⟩]⟩;rw[k3]at c0;have c0':w.cell? ⟨t,2+n*5,bC⟩=bB (aa .i64 3):=c0;generalize (T n).num=nm at*;have K0:=hJ (aK cp c1);have NP:=hJ h.2.2.2;go_in
   go_wp2_with fail
   refine sC (eQ t b p n T _ HF.1) ?_;rintro w1 hw1;subst w1;rw[EP.1,EP.2,bN];go_wp2_with fail
   go_region_held3 (λw'=>w'.cell? ⟨t,1,bC⟩=bB (ai (bB ⟨p,0,bC⟩))/\w'.cell? ⟨t,2+n*5+1,bC⟩=bB (aa bf (nm:Int))) (first|exact K0.v|exact K4.v) ((first|(go_at_call 247;refine sC (I0 p nm s S _ HF.2.2.1.drew (by have:=HL.v;omega)) ?_;rintro w4 ⟨u4,f4⟩;have f4':bO p w w4:=⟨f4.os,f4.tape,f4.output,f4.size,f4.block⟩;have C4:=hJ (HF.pi u4 f4');have D4:Hid (dK t b p w w4):=hJ (dK.pi f4');have K4:=hJ (aK C4.1.pi ((aV (f4'.block t HF.1.lt NP.2.1)).trans K0.2)))))
   go_wp2
   go_ret2
   rw[FIN.1,FIN.2.1,FIN.2.2.1,FIN.2.2.2.1,FIN.2.2.2.2];exact⟨rfl,C4.v,D4.v⟩
  .have k3':(((T n).kind:Int)==3)=bF:=by simp;omega
   have EP2:Hid (Fx.x9 T S (n:Int) s=S):=hJ (aI (λd=>by rw[hZ]at d;exact k3 d.2));by_cases w0:(T n).wr=bF
   .have nb:¬Fx.qS T (n:Int):=λd=>by unfold Fx.qS at d;rw[hZ,w0]at d;exact aZ d.2.2 bM
    have FIN:Hid (Fx.dQ T F S (n:Int) s=8/\Fx.iT T F S (n:Int) s=0/\Fx.qT T F (n:Int) s=T/\Fx.eX T F (n:Int) s=F):=hJ ⟨by rw[DE,aI k3,aJ w0],by rw[DK,aI k3,aJ w0],aI (λd=>nb d.1),aI nb⟩;rw[w0]at c2;generalize (T n).kind=kd at*;go_in
    go_wp2_with fail
    refine sC (eQ t b p n T _ HF.1) ?_;rintro w1 hw1;subst w1;rw[EP.1,EP.2,bN];go_wp2
    go_ret2
    rw[FIN.1,FIN.2.1,FIN.2.2.1,FIN.2.2.2,EP2.v];exact⟨rfl,HF.v,dK.refl _ _ _ _⟩
   .have w1':(T n).wr=bE:=by simpa using w0
    have yb:Fx.qS T (n:Int):=by unfold Fx.qS;rw[hZ];exact⟨c,k3,w1'⟩
    have FIN:Hid (Fx.dQ T F S (n:Int) s=Tr.dQ F ((T n).num:Int) ((T n).pos:Int) s/\Fx.eX T F (n:Int) s=Tr.eX F ((T n).num:Int) ((T n).pos:Int) s):=hJ ⟨by rw[DE,aI k3,aI w0],by unfold Fx.eX;rw[aJ yb,hZ]⟩;have DK2:Fx.iT T F S (n:Int) s=if Tr.dQ F ((T n).num:Int) ((T n).pos:Int) s=0 then s.size else 0:=by rw[DK,aI k3,aI w0]
    have ET:Fx.qT T F (n:Int) s=if Tr.dQ F ((T n).num:Int) ((T n).pos:Int) s=0 then Fx.put T n {T n with pos:=(T n).pos+s.size}else T:=by
     unfold Fx.qT;rw[hZ];by_cases d:Tr.dQ F ((T n).num:Int) ((T n).pos:Int) s=0
     .rw[aJ d,aJ ⟨yb,d⟩]
     .rw[aI d,aI (λe=>d e.2)]
    have SP:Hid (∀V G,FX V t b p T G S->FX (V.setCell ⟨t,2+n*5+3,bC⟩ (aa bf (((T n).pos+s.size:Nat):Int))) t b p (Fx.put T n {T n with pos:=(T n).pos+s.size}) G S):=hJ (λV G hV=>hV.tb (hV.1.setPos n n24 _) ((bO.refl t V).setCell _ _));generalize hTX:Fx.put T n {T n with pos:=(T n).pos+s.size}=TX at ET SP;rw[w1']at c2;generalize (T n).kind=kd at*;generalize (T n).num=nm at*;generalize (T n).pos=ps at*;have K0:=hJ (aK cb (aK c1 c3));have NP:=hJ h.2.2.2;have TW:=hJ (Jh b nm ps s F w.drew HF.2.1.drew bG);by_cases e0:Tr.dQ F (nm:Int) (ps:Int) s=0
    .rw[aJ e0]at ET DK2;have EE:=hJ (aK e0 (aK ET DK2));have ad:IntKind.i64.wrap ((ps:Int)+(s.size:Int))=((ps+s.size:Nat):Int):=(aN _ ⟨by omega,bG⟩).trans bG;go_in
     go_wp2_with fail
     refine sC (eQ t b p n T _ HF.1) ?_;rintro w1 hw1;subst w1;rw[EP.1,EP.2,bN];go_wp2_with fail
     go_region_held3 (λw'=>w'.cell? ⟨t,0,bC⟩=bB (ai (bB ⟨b,0,bC⟩))/\w'.cell? ⟨t,2+n*5+1,bC⟩=bB (aa bf (nm:Int))/\w'.cell? ⟨t,2+n*5+3,bC⟩=bB (aa bf (ps:Int))) (first|exact K0.v|exact K4.v) ((first|(go_at_call 248;refine sC TW.v ?_;rintro w4 ⟨u4,f4⟩;have f4':bO b w w4:=⟨f4.os,f4.tape,f4.output,f4.size,f4.block⟩;have C4:=hJ (HF.fo u4 f4');have D4:Hid (dK t b p w w4):=hJ (dK.fo f4');have K4:=hJ (aK C4.1.fo (aK ((aV (f4'.block t HF.1.lt NP.1)).trans K0.2.1) ((aV (f4'.block t HF.1.lt NP.1)).trans K0.2.2)));rw[EE.1,bN])))
     have x3:=K4.2.2;have xf:=C4.1.frozen;have X5:=hJ (SP.v _ _ C4.v);have D5:Hid (dK t b p w (w4.setCell ⟨t,2+n*5+3,bC⟩ (aa bf ((ps+s.size:Nat):Int)))):=hJ (D4.trans (dK.tb ((bO.refl t w4).setCell _ _)));go_wp2
     go_ret2
     rw[FIN.1,FIN.2,EP2.v,EE.1,EE.2.1,EE.2.2];exact⟨rfl,X5.v,D5.v⟩
    .rw[aI e0]at ET DK2;have EE:=hJ (aK (bP e0) (aK ET DK2));go_in
     go_wp2_with fail
     refine sC (eQ t b p n T _ HF.1) ?_;rintro w1 hw1;subst w1;rw[EP.1,EP.2,bN];go_wp2_with fail
     go_region_held3 (λw'=>w'.cell? ⟨t,0,bC⟩=bB (ai (bB ⟨b,0,bC⟩))/\w'.cell? ⟨t,2+n*5+1,bC⟩=bB (aa bf (nm:Int))/\w'.cell? ⟨t,2+n*5+3,bC⟩=bB (aa bf (ps:Int))) (first|exact K0.v|exact K4.v) ((first|(go_at_call 248;refine sC TW.v ?_;rintro w4 ⟨u4,f4⟩;have f4':bO b w w4:=⟨f4.os,f4.tape,f4.output,f4.size,f4.block⟩;have C4:=hJ (HF.fo u4 f4');have D4:Hid (dK t b p w w4):=hJ (dK.fo f4');have K4:=hJ (aK C4.1.fo (aK ((aV (f4'.block t HF.1.lt NP.1)).trans K0.2.1) ((aV (f4'.block t HF.1.lt NP.1)).trans K0.2.2)));rw[EE.1])))
     go_wp2
     go_ret2
     rw[FIN.1,FIN.2,EP2.v,EE.1,EE.2.1,EE.2.2];exact⟨rfl,C4.v,D4.v⟩
 .have nb:¬Fx.qS T z:=λd=>c d.1;have E2:Hid (lJ t z (Fx.dB T z)=ai bC/\bS (Fx.dB T z)=aq 100 (aa bf (Fx.dB T z))/\Fx.dQ T F S z s=Fx.dB T z/\Fx.iT T F S z s=0/\Fx.qT T F z s=T/\Fx.eX T F z s=F/\Fx.x9 T S z s=S):=hJ ⟨oA c,bP c,aJ c,aJ c,aI (λe=>nb e.1),aI nb,aI (λe=>c e.1)⟩;go_in
  go_wp2_with fail
  refine sC (eQ t b p z T _ HF.1) ?_;rintro w1 hw1;subst w1;rw[E2.1,E2.2.1];go_wp2
  go_ret2
  rw[E2.2.2.1,E2.2.2.2.1,E2.2.2.2.2.1,E2.2.2.2.2.2.1,E2.2.2.2.2.2.2,E2.2.1];exact⟨rfl,HF.v,dK.refl _ _ _ _⟩
def Pp.gJ(S:Nat->Pi)(n:Nat)(E:Int):Prop:=(E=0/\n<8/\Pp.ml (S n)=bF/\∀m,m<n->Pp.ml (S m)=bE)\/(E=4/\n=0/\∀m,m<8->Pp.ml (S m)=bE)
def Pp.jV(S:Nat->Pi)(n:Nat)(E:Int):Nat->Pi:=if E=0 then Pp.put S n ⟨⟨#[]⟩,1,1⟩else S
theorem Lg(b:Nat)(S:Nat->Pi)(w:bD)(h:dU w b S):
  Calls prog 244 #[ai (bB ⟨b,0,bC⟩)] w λe w'=>∃(n:Nat) (E:Int),e=bw (ao #[aa bf (n:Int),bS E])/\Pp.gJ S n E/\dU w' b (Pp.jV S n E)/\bO b w w':=by
 have HF:=hJ h;go_in
 go_wp2_with fail
 go_loopw [4,5] (λx i wr=>∃(n:Nat),i=aa bf n/\n<=8/\Hid (∀m,m<n->Pp.ml (S m)=bE)/\wr=w) (λ_ i _=>8-(intOf i).toNat)
 case atStart=>exact⟨0,rfl,bG,λm hm=>bG,rfl⟩
 case round=>
  obtain⟨n,rfl,hn,HN,hwr⟩:=hrel;subst wr;by_cases hlt:n<8
  .have hltI:(n:Int)<8:=bG
   go_wp2_with fail
   refine sC (pX b n S _ HF.v hlt) ?_;rintro w1 hw1;subst w1;cases hth:Pp.ml (S n)
   .have TH:=hJ (HF.GZ n hlt 1 1);have HS:=hJ (Pp.Bc 1 1);have H1:=hJ (Pp.GG 1 1);have FT:Hid (Pp.gJ S n 0):=hJ (.inl ⟨rfl,hlt,hth,HN.v⟩);have FIN:Hid (dU (w.setCells b (n*15) (Pp.ow 1 1).toList) b (Pp.jV S n 0)/\bO b w (w.setCells b (n*15) (Pp.ow 1 1).toList)):=hJ (by
     unfold Pp.jV;rw[aJ rfl];exact⟨HF.PN n hlt 1 1,Pp.jA _ _ (bO.refl b w)⟩)
    obtain⟨A,hA⟩:=hU (Pp.ow 1 1);rw[hA]at FIN TH HS H1;go_wp2_with (first|(refine Pp.Mi rfl rfl ?_;rw[hA])|(refine wpList_store_mid rfl 119 _ _ rfl b (n*15) A rfl rfl TH.v HS.v H1.v ?_))
    go_ret2
    exact⟨n,0,rfl,FT.v,FIN.v⟩
   .have HN2:Hid (∀m,m<n+1->Pp.ml (S m)=bE):=hJ (λm hm=>by
     by_cases c:m=n
     .subst c;exact hth
     .exact HN.v m bG)
    go_wp2
    go_roundw
    case rel=>exact⟨n+1,by go_num,bG,HN2,by first|rfl|trivial⟩
    case measure=>simp[intOf];omega
  .have hltI:¬(n:Int)<8:=bG
   obtain rfl:n=8:=bG
   have FT:Hid (Pp.gJ S 0 4):=hJ (.inr ⟨rfl,rfl,HN.v⟩);have FF:Hid (Pp.jV S 0 4=S):=hJ (aI bM);go_wp2
   go_ret2
   exact⟨0,4,rfl,FT.v,by rw[FF.v];exact HF.v,bO.refl _ _⟩
theorem Fx.results3{fn:Func}{t u v:Tmp}(h:fn.results=#[.tmp t, .tmp u, .tmp v])(tmps:Array Value)(P:Program)(w:bD):
  (results fn tmps).run P w= .ok (ao #[tmps.getD t undef,tmps.getD u undef,tmps.getD v undef]) w:=by
 simp[results,h]
def Fx.eZ(T:Nat->Fi)(z a:Int):Int:=if Fx.dB T z≠0 then Fx.dB T z else if(T z.toNat).kind≠1 then 11 else if a<0\/40<a then 1 else 0
def Fx.mD(T:Nat->Fi)(z a:Int):Nat->Fi:=if Fx.eZ T z a=0 then Fx.put T z.toNat {T z.toNat with pos:=a.toNat}else T
theorem Mq(t b p:Nat)(z a:Int)(T:Nat->Fi)(w:bD)(h:eI w t b p T):
  Calls prog 204 #[ai (bB ⟨t,0,bC⟩),aa bf z,aa bf a] w λe w'=>e=bw (bS (Fx.eZ T z a))/\eI w' t b p (Fx.mD T z a)/\bO t w w':=by
 have HF:=hJ h;by_cases c:Fx.dB T z=0
 .obtain⟨n,rfl,n24,_⟩:=Fx.kT c;have EP:Hid (Fx.dB T (n:Int)=0/\lJ t (n:Int) 0=ai (bB ⟨t,2+n*5,bC⟩)):=hJ ⟨c,p7 t n⟩;have DE:Fx.eZ T (n:Int) a=if(T n).kind≠1 then 11 else if a<0\/40<a then 1 else 0:=by unfold Fx.eZ;rw[aI (λd=>d c),hZ]
  have c0:=h.kind n n24;have c3:=h.pos n n24;have cf:=h.frozen;have no:∀E,E≠0->Fx.eZ T (n:Int) a=E->Fx.mD T (n:Int) a=T:=λE e0 e=>by unfold Fx.mD;rw[e,aI e0]
  by_cases k1:(T n).kind=1
  .rw[k1]at c0;have c0':w.cell? ⟨t,2+n*5,bC⟩=bB (aa .i64 1):=c0;by_cases a0:a<0
   .have e:Fx.eZ T (n:Int) a=1:=by rw[DE,aI (λd=>d k1),aJ (.inl a0)]
    have FIN:Hid (Fx.eZ T (n:Int) a=1/\Fx.mD T (n:Int) a=T):=hJ ⟨e,no 1 bM e⟩;go_in
    go_wp2_with fail
    refine sC (eQ t b p n T _ HF.v) ?_;rintro w1 hw1;subst w1;rw[EP.1,EP.2,bN];go_wp2
    go_ret
    rw[FIN.1,FIN.2];exact⟨rfl,HF.v,bO.refl _ _⟩
   .by_cases a4:40<a
    .have e:Fx.eZ T (n:Int) a=1:=by rw[DE,aI (λd=>d k1),aJ (.inr a4)]
     have FIN:Hid (Fx.eZ T (n:Int) a=1/\Fx.mD T (n:Int) a=T):=hJ ⟨e,no 1 bM e⟩;go_in
     go_wp2_with fail
     refine sC (eQ t b p n T _ HF.v) ?_;rintro w1 hw1;subst w1;rw[EP.1,EP.2,bN];go_wp2
     go_ret
     rw[FIN.1,FIN.2];exact⟨rfl,HF.v,bO.refl _ _⟩
    .have e:Fx.eZ T (n:Int) a=0:=by rw[DE,aI (λd=>d k1),nJ]
     obtain⟨q,rfl⟩:∃q:Nat,a=q:=⟨a.toNat,bG⟩;have FIN:Hid (Fx.eZ T (n:Int) (q:Int)=0/\eI (w.setCell ⟨t,2+n*5+3,bC⟩ (aa bf (q:Int))) t b p (Fx.mD T (n:Int) (q:Int))):=hJ ⟨e,by unfold Fx.mD;rw[aJ e,hZ,hZ];exact h.setPos n n24 q⟩;generalize (T n).pos=ps at*;go_in
     go_wp2_with fail
     refine sC (eQ t b p n T _ HF.v) ?_;rintro w1 hw1;subst w1;rw[EP.1,EP.2,bN];go_wp2
     go_ret
     rw[FIN.1];exact⟨rfl,FIN.2,(bO.refl t w).setCell _ _⟩
  .have e:Fx.eZ T (n:Int) a=11:=by rw[DE,aJ k1]
   have FIN:Hid (Fx.eZ T (n:Int) a=11/\Fx.mD T (n:Int) a=T):=hJ ⟨e,no 11 bM e⟩;have k1':(((T n).kind:Int) !=1)=bE:=by simp;omega
   have k1'':(((T n).kind:Int)==1)=bF:=by simp;omega
   generalize (T n).kind=kd at*;go_in
   go_wp2_with fail
   refine sC (eQ t b p n T _ HF.v) ?_;rintro w1 hw1;subst w1;rw[EP.1,EP.2,bN];go_wp2
   go_ret
   rw[FIN.1,FIN.2];exact⟨rfl,HF.v,bO.refl _ _⟩
 .have E2:Hid (lJ t z (Fx.dB T z)=ai bC/\bS (Fx.dB T z)=aq 100 (aa bf (Fx.dB T z))/\Fx.eZ T z a=Fx.dB T z/\Fx.mD T z a=T):=hJ (by
   have e:Fx.eZ T z a=Fx.dB T z:=aJ c;exact⟨oA c,bP c,e,by unfold Fx.mD;rw[e,aI c]⟩)
  go_in
  go_wp2_with fail
  refine sC (eQ t b p z T _ HF.v) ?_;rintro w1 hw1;subst w1;rw[E2.1,E2.2.1];go_wp2
  go_ret
  rw[E2.2.2.1,E2.2.2.2,E2.2.1];exact⟨rfl,HF.v,bO.refl _ _⟩
def Fx.vO(T:Nat->Fi)(S:Nat->Pi)(A C:Nat)(E:Int)(T':Nat->Fi)(S':Nat->Pi):Prop:=
 (22<Fx.cY T 24/\A=0/\C=0/\E=4/\T'=T/\S'=S)
 \/(Fx.cY T 24<=22/\∃n e,Pp.gJ S n e/\((e≠0/\A=0/\C=0/\E=e/\T'=T/\S'=S)
  \/(e=0/\E=0/\Fx.ug T A/\Fx.ug (Fx.put T A ⟨2,n,bF,0,1⟩) C/\T'=Fx.put (Fx.put T A ⟨2,n,bF,0,1⟩) C ⟨3,n,bF,0,1⟩/\S'=Pp.jV S n 0)))
theorem Fx.Od{T:Nat->Fi}(x:Fi)(h:Fx.cY T 24<=22):∃a c,Fx.ug T a/\Fx.ug (Fx.put T a x) c:=by
 obtain⟨a,ha⟩:=Fx.DA (T:=T) bG;have ex:∀M,M<=a->Fx.cY (Fx.put T a x) M=Fx.cY T M:=by
  intro M
  induction M with
  |zero=>intro _;rfl
  |succ M ih2=>
   intro hM;show Fx.cY (Fx.put T a x) M+(if(Fx.put T a x M).refs=0 then 0 else 1)=Fx.cY T M+(if(T M).refs=0 then 0 else 1);rw[ih2 bG,Fx.cr _ _ _ _ bG]
 have cp:∀N,Fx.cY (Fx.put T a x) N<=Fx.cY T N+1:=by
  intro N
  induction N with
  |zero=>exact aC _
  |succ N ih=>
   show Fx.cY (Fx.put T a x) N+(if(Fx.put T a x N).refs=0 then 0 else 1)<=Fx.cY T N+(if(T N).refs=0 then 0 else 1)+1;by_cases c:N=a
   .rw[ex N bG]
    repeat' split
    all_goals omega
   .rw[Fx.cr _ _ _ _ c];omega
 have:=cp 24;obtain⟨c,hc⟩:=Fx.DA (T:=Fx.put T a x) bG;exact⟨a,c,ha,hc⟩
theorem Mn(t b p:Nat)(T:Nat->Fi)(F:Fo)(S:Nat->Pi)(w:bD)(h:FX w t b p T F S):
  Calls prog 201 #[ai (bB ⟨t,0,bC⟩)] w λe w'=>∃(A C:Nat) (E:Int) (T':Nat->Fi) (S':Nat->Pi),e=bw (ao #[aa bf (A:Int),aa bf (C:Int),bS E])/\Fx.vO T S A C E T' S'/\FX w' t b p T' F S'/\dK t b p w w':=by
 have HF:=hJ h;have lc:=Fx.nP T 24;have y1:=h.1.pi;by_cases r1:22<Fx.cY T 24
 .have rd:decide ((2:Int)<=24-(Fx.cY T 24:Int))=bF:=by simp;omega
  have FIN:Hid (Fx.vO T S 0 0 4 T S):=hJ (.inl ⟨r1,rfl,rfl,rfl,rfl,rfl⟩);go_in
  go_wp2_with fail
  refine sC (pH t b p 2 T _ HF.1) ?_;rintro W3 hW3;subst W3;rw[rd];go_wp2_with fail
  (try simp only[Exit.then]);refine bodyPost_ret (Fx.results3 rfl _ _ _) rfl ?_
  exact⟨0,0,4,T,S,rfl,FIN.v,HF.v,dK.refl _ _ _ _⟩
 .have rd:decide ((2:Int)<=24-(Fx.cY T 24:Int))=bE:=by simp;omega
  have r2:Fx.cY T 24<=22:=bG
  have R2:=hJ r2;go_in
  go_wp2_with fail
  refine sC (pH t b p 2 T _ HF.1) ?_;rintro W3 hW3;subst W3;rw[rd];go_wp2_with fail
  refine(Lg p S _ HF.2.2.1).mono ?_;rintro e W4 ⟨n,E4,rfl,hf,h4,f4⟩;by_cases e0:E4=0
  .subst e0;obtain⟨a,c,ha,hc⟩:=Fx.Od (T:=T) ⟨2,n,bF,0,1⟩ R2.v;have FIN:Hid (Fx.vO T S a c 0 (Fx.put (Fx.put T a ⟨2,n,bF,0,1⟩) c ⟨3,n,bF,0,1⟩) (Pp.jV S n 0)):=hJ (.inr ⟨R2.v,n,0,hf, .inr ⟨rfl,rfl,ha,hc,rfl,rfl⟩⟩);have HA:=hJ ha;have HC:=hJ hc;have H4:=hJ (HF.pi h4 f4);have F4:Hid (dK t b p w W4):=hJ (dK.pi f4);rw[bN];go_wp2_with fail
   refine sC (ya t b p ⟨2,n,bF,0,0⟩ a T _ H4.1 HA.v) ?_;rintro W5 ⟨h5,f5⟩;have H5:=hJ (H4.tb h5 f5);have F5:=hJ (F4.trans (dK.tb f5));go_wp2_with fail
   refine sC (ya t b p ⟨3,n,bF,0,0⟩ c _ _ H5.1 HC.v) ?_;rintro W6 ⟨h6,f6⟩;have H6:=hJ (H5.tb h6 f6);have F6:=hJ (F5.trans (dK.tb f6));go_wp2_with fail
   (try simp only[Exit.then]);refine bodyPost_ret (Fx.results3 rfl _ _ _) rfl ?_
   exact⟨a,c,0,_,_,rfl,FIN.v,H6.v,F6.v⟩
  .have eM:Pp.jV S n E4=S:=aI e0;rw[eM]at h4;have FIN:Hid (Fx.vO T S 0 0 E4 T S):=hJ (.inr ⟨R2.v,n,E4,hf, .inl ⟨e0,rfl,rfl,rfl,rfl,rfl⟩⟩);have H4:=hJ (HF.pi h4 f4);have F4:Hid (dK t b p w W4):=hJ (dK.pi f4);have EV:=hJ (bP e0);rw[EV.v];go_wp2_with fail
   (try simp only[Exit.then]);refine bodyPost_ret (Fx.results3 rfl _ _ _) rfl ?_
   exact⟨0,0,E4,T,S,by rw[EV.v];rfl,FIN.v,H4.v,F4.v⟩

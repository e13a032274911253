import Derived.Test.YtpmmdkcfenjiaaaGreatDoorVaq
set_option linter.unusedVariables false
set_option linter.unusedSimpArgs false
set_option maxRecDepth 100000
set_option maxHeartbeats 2000000
namespace Go.Proofs.YtpmmdkcfenjiaaaGreatDoor
open Go.RowKit
namespace Pp
structure Pi where
 tx:bU
 reads:Nat
 writes:Nat
def Pi.no:Pi:=⟨⟨#[]⟩,0,0⟩
def put (S:Nat->Pi)(n:Nat)(x:Pi):Nat->Pi:=fun m=>if m=n then x else S m
theorem ai (S:Nat->Pi)(n:Nat)(x:Pi):put S n x n=x:=aJ rfl
theorem ao (S:Nat->Pi)(n:Nat)(x:Pi)(m:Nat)(h:m≠n):put S n x m=S m:=aI h
theorem fD (S:Nat->Pi)(n:Nat)(x y:Pi):put (put S n x) n y=put S n y:=by
 funext m;unfold put;split<;>rfl
def jJ (x:Pi):Bool:=decide (0<x.reads\/0<x.writes)
def jv (x:Pi)(wr:Bool):Nat:=if wr then x.writes else x.reads
def iU (S:Nat->Pi)(z:Int):Int:=if z<0\/7<z then 1 else if jJ (S z.toNat)then 0 else 2
def gd (S:Nat->Pi)(z:Int)(wr:Bool):Int:=if iU S z≠0 then iU S z else if jv (S z.toNat) wr=0 then 8 else 0
theorem Dq {S:Nat->Pi}{z:Int}(h:iU S z=0): ∃n:Nat,z=n/\n<8/\jJ (S n)=true:=by
 unfold iU at h;by_cases c:z<0\/7<z
 ·rw[aJ c]at h;omega
 ·rw[aI c]at h;refine⟨z.toNat,by omega,by omega,?_⟩;by_cases d:jJ (S z.toNat)=true
  ·exact d
  ·rw[aI d]at h;omega
theorem zW {S:Nat->Pi}{z:Int}{wr:Bool}(h:gd S z wr=0): ∃n:Nat,z=n/\n<8/\jJ (S n)=true/\jv (S n) wr≠0:=by
 unfold gd at h;by_cases c:iU S z≠0
 ·rw[aJ c]at h;exact aZ h c
 ·rw[aI c]at h;obtain⟨n,rfl,hn,ht⟩:=Dq (by omega:iU S z=0);refine⟨n,rfl,hn,ht,fun d=>?_⟩;rw[hU,aJ d]at h;omega
def dQ (t:bU):List Value:=t.data.toList.map fun x=>Value.int .u8 (x.toNat:Int)
theorem iZ (t:bU):(dQ t).length=t.size:=by simp[dQ]
end Pp
open Pp (Pi)
structure db (w:bD)(b:Nat)(S:Nat->Pi):Prop where
 cv: ∃C T,w.heap[b]? =some (.cells C T (0,0))/\C.size=120
 cX: ∀n,n<8-> ∀j v,(Pp.dQ (S n).tx)[j]? =some v->w.cell? ⟨b,n*15+j,none⟩=some v
 many: ∀n,n<8->w.cell? ⟨b,n*15+12,none⟩=some (.int .i64 ((S n).tx.size:Int))
 reads: ∀n,n<8->w.cell? ⟨b,n*15+13,none⟩=some (.int .i64 ((S n).reads:Int))
 writes: ∀n,n<8->w.cell? ⟨b,n*15+14,none⟩=some (.int .i64 ((S n).writes:Int))
 small: ∀n,n<8->(S n).tx.size<=12
section
variable {w w' : bD} {b : Nat} {S : Nat -> Pi}
theorem db.lt (h:db w b S):b<w.heap.size:=by
 obtain⟨C,T,e,_⟩:=h.cv;exact(aX.1 e).1
theorem db.frozen (h:db w b S)(o:Nat):w.frozen? ⟨b,o,none⟩=false:=by
 obtain⟨C,T,e,_⟩:=h.cv;exact bf e o
theorem db.CD (h:db w b S)(o:Nat)(ho:o<120):(w.cell? ⟨b,o,none⟩).isSome=true:=by
 obtain⟨C,T,e,hC⟩:=h.cv;rw[au e,Array.getElem?_eq_getElem (by omega)];rfl
theorem db.same (h:db w b S)(e:w'.heap[b]? =w.heap[b]?):db w' b S:=by
 have hc: ∀o,w'.cell? ⟨b,o,none⟩=w.cell? ⟨b,o,none⟩:=fun o=>aV e;exact⟨by rw[e];exact h.cv,fun n hn j v hv=>(hc _).trans (h.cX n hn j v hv),fun n hn=>(hc _).trans (h.many n hn),fun n hn=>(hc _).trans (h.reads n hn),fun n hn=>(hc _).trans (h.writes n hn),h.small⟩
theorem db.drew (h:db w b S):db w.drew b S:=h.same rfl
theorem db.drewN (h:db w b S)(n:Nat):db (w.drewN n) b S:=h.same rfl
theorem db.below {B:Nat}(h:db w b S)(k:Below B w w')(hb:b<B):db w' b S:=h.same (k.block b hb)
theorem db.jW {c:Nat}(h:db w b S)(k:af c w w')(hb:b≠c):db w' b S:=h.same (k.block b h.lt hb)
end
def jQ (b:Nat)(z E:Int):Value:=if E=0 then .pointer (some ⟨b,z.toNat*15,none⟩)else .pointer none
theorem qk (b n:Nat):jQ b (n:Int) 0= .pointer (some ⟨b,n*15,none⟩):=by unfold jQ;rw[aJ rfl,hU]
theorem mB {b:Nat}{z E:Int}(h:E≠0):jQ b z E= .pointer none:=aI h
theorem oa (b n:Nat)(S:Nat->Pi)(w:bD)(h:db w b S)(hn:n<8):
  Calls Tryz.prog 159 #[.pointer (some ⟨b,n*15,none⟩)] w fun e w'=>e= .returned (.bool (Pp.jJ (S n)))/\w'=w:=by
 have c1:=h.reads n hn;have c2:=h.writes n hn;unfold Pp.jJ;generalize (S n).reads=r at c1|-;generalize (S n).writes=u at c2|-;clear h;by_cases r0:0<r
 ·have r1:(0:Int)<(r:Int):=by omega
  go_in
  go_wp2
  go_ret
  exact⟨bN (by simp[r0]),rfl⟩
 ·have r1: ¬(0:Int)<(r:Int):=by omega
  go_in
  go_wp2
  go_ret
  exact⟨bN (by simp),rfl⟩
theorem wE (b o:Nat)(wr:Bool)(w:bD):
  Calls Tryz.prog 270 #[.pointer (some ⟨b,o,none⟩), .bool wr] w fun e w'=>e= .returned (.pointer (some ⟨b,o+(if wr then 14 else 13),none⟩))/\w'=w:=by
 cases wr
 ·go_in
  go_wp2
  go_ret
  exact⟨rfl,rfl⟩
 ·go_in
  go_wp2
  go_ret
  exact⟨rfl,rfl⟩
theorem sM (b:Nat)(z:Int)(S:Nat->Pi)(w:bD)(h:db w b S):
  Calls Tryz.prog 289 #[.pointer (some ⟨b,0,none⟩), .int .i64 z] w fun e w'=>e= .returned (.tuple #[jQ b z (Pp.iU S z),aq (Pp.iU S z)])/\w'=w:=by
 have HF:=hZ h;by_cases c:z<0\/7<z
 ·have E:Hid (Pp.iU S z=1):=hZ (aJ c);have E2:Hid (jQ b z 1= .pointer none):=hZ (mB (by decide));by_cases c1:z<0
  ·clear c h;go_in
   go_wp2
   go_ret2
   rw[E.out,E2.out];exact⟨rfl,rfl⟩
  ·have c2:8<=z:=by omega
   clear c h;go_in
   go_wp2
   go_ret2
   rw[E.out,E2.out];exact⟨rfl,rfl⟩
 ·obtain⟨n,rfl⟩: ∃n:Nat,z=n:=⟨z.toNat,by omega⟩;have n8:n<8:=by omega
  have n8i:(n:Int)<8:=by omega
  have E:Pp.iU S (n:Int)=if Pp.jJ (S n)then 0 else 2:=by unfold Pp.iU;rw[aI c,hU]
  by_cases d:Pp.jJ (S n)=true
  ·have E1:Hid (Pp.iU S (n:Int)=0/\jQ b (n:Int) 0= .pointer (some ⟨b,n*15,none⟩)/\Pp.jJ (S n)=true):=hZ ⟨by rw[E,aJ d],qk b n,d⟩;clear c h d E;go_in
   go_wp2_with fail
   refine(oa b n S _ HF.out n8).mono ?_;rintro e w1 ⟨rfl,hw1⟩;subst w1;rw[E1.out.2.2];go_wp2
   go_ret2
   rw[E1.out.1,E1.out.2.1];exact⟨rfl,rfl⟩
  ·have E1:Hid (Pp.iU S (n:Int)=2/\jQ b (n:Int) 2= .pointer none/\Pp.jJ (S n)=false):=hZ ⟨by rw[E,aI d],mB (by decide),by simpa using d⟩;clear c h d E;go_in
   go_wp2_with fail
   refine(oa b n S _ HF.out n8).mono ?_;rintro e w1 ⟨rfl,hw1⟩;subst w1;rw[E1.out.2.2];go_wp2
   go_ret2
   rw[E1.out.1,E1.out.2.1];exact⟨rfl,rfl⟩
theorem ib (b:Nat)(z:Int)(wr:Bool)(S:Nat->Pi)(w:bD)(h:db w b S):
  Calls Tryz.prog 269 #[.pointer (some ⟨b,0,none⟩), .int .i64 z, .bool wr] w fun e w'=>e= .returned (.tuple #[jQ b z (Pp.gd S z wr),aq (Pp.gd S z wr)])/\w'=w:=by
 have HF:=hZ h;by_cases c:Pp.iU S z=0
 ·obtain⟨n,rfl,n8,_⟩:=Pp.Dq c;have c0:w.cell? ⟨b,n*15+(if wr then 14 else 13),none⟩=some (.int .i64 (Pp.jv (S n) wr:Int)):=by
   cases wr
   ·exact h.reads n n8
   ·exact h.writes n n8
  have EP:Hid (Pp.iU S (n:Int)=0/\jQ b (n:Int) 0= .pointer (some ⟨b,n*15,none⟩)):=hZ ⟨c,qk b n⟩;have EO:Pp.gd S (n:Int) wr=if Pp.jv (S n) wr=0 then 8 else 0:=by unfold Pp.gd;rw[aI (fun d=>d c),hU]
  obtain⟨o,ho⟩:=nJ ((if wr then 14 else 13));have T:Hid (∀W:bD,Calls Tryz.prog 270 #[.pointer (some ⟨b,n*15,none⟩), .bool wr] W fun e w'=>e= .returned (.pointer (some ⟨b,n*15+o,none⟩))/\w'=W):=hZ (fun W=>by
   have:=wE b (n*15) wr W;rw[ho]at this;exact this)
  rw[ho]at c0;by_cases d:Pp.jv (S n) wr=0
  ·have FIN:Hid (Pp.gd S (n:Int) wr=8/\jQ b (n:Int) 8= .pointer none):=hZ ⟨by rw[EO,aJ d],mB (by decide)⟩;rw[d]at c0;have c1:w.cell? ⟨b,n*15+o,none⟩=some (.int .i64 0):=c0;clear h c EO d c0 ho;go_in
   go_wp2_with fail
   refine(sM b n S _ HF.out).mono ?_;rintro e w1 ⟨rfl,hw1⟩;subst w1;rw[EP.out.1,EP.out.2,aa];go_wp2_with fail
   refine(T.out _).mono ?_;rintro e w1 ⟨rfl,hw1⟩;subst w1;go_wp2
   go_ret2
   rw[FIN.out.1,FIN.out.2];exact⟨rfl,rfl⟩
  ·have FIN:Hid (Pp.gd S (n:Int) wr=0):=hZ (by rw[EO,aI d]);generalize Pp.jv (S n) wr=k at d c0;have d1: ¬(k:Int)=0:=by omega
   clear h c EO d ho;go_in
   go_wp2_with fail
   refine(sM b n S _ HF.out).mono ?_;rintro e w1 ⟨rfl,hw1⟩;subst w1;rw[EP.out.1,EP.out.2,aa];go_wp2_with fail
   refine(T.out _).mono ?_;rintro e w1 ⟨rfl,hw1⟩;subst w1;go_wp2
   go_ret2
   rw[FIN.out,EP.out.2];exact⟨rfl,rfl⟩
 ·have E2:Hid (jQ b z (Pp.iU S z)= .pointer none/\aq (Pp.iU S z)= .iface 100 (.int .i64 (Pp.iU S z))/\Pp.gd S z wr=Pp.iU S z):=hZ ⟨mB c,aj c,aJ c⟩;clear h c;go_in
  go_wp2_with fail
  refine(sM b z S _ HF.out).mono ?_;rintro e w1 ⟨rfl,hw1⟩;subst w1;rw[E2.out.1,E2.out.2.1];go_wp2
  go_ret2
  rw[E2.out.2.2,E2.out.1,E2.out.2.1];exact⟨rfl,rfl⟩
theorem Pp.iA {b:Nat}: ∀(vs:List Value) (o:Nat) {u w:bD},af b u w->af b u (w.setCells b o vs)
 |[],_,_,_,h=>h
 |v::r,o,u,w,h=>by rw[World.setCells];exact Pp.iA r (o+1) (h.setCell o v)
theorem Pp.ij (b:Nat): ∀(vs:List Value) (o:Nat) (w:bD) (C:Array Value) {T:TypeId},w.heap[b]? =some (.cells C T (0,0))-> ∃C',(w.setCells b o vs).heap[b]? =some (.cells C' T (0,0))/\C'.size=C.size
 |[],_,_,C,_,h=>⟨C,h,rfl⟩
 |v::r,o,w,C,_,h=>by
  rw[World.setCells];obtain⟨C',h1,h2⟩:=Pp.ij b r (o+1) _ _ (bC h o v);exact⟨C',h1,by simpa using h2⟩
def Pp.kP (x:Pi)(wr:Bool)(k:Nat):Pi:=if wr then{x with writes:=k}else{x with reads:=k}
def Pp.mo (r u:Nat):Array Value:=#[.int .u8 0, .int .u8 0, .int .u8 0, .int .u8 0, .int .u8 0, .int .u8 0, .int .u8 0, .int .u8 0, .int .u8 0, .int .u8 0, .int .u8 0, .int .u8 0, .int .i64 0, .int .i64 (r:Int), .int .i64 (u:Int)]
section
variable {w : bD} {b : Nat} {S : Nat -> Pi}
theorem Pp.mZ {t:bU}{j:Nat}{v:Value}(h:(Pp.dQ t)[j]? =some v):j<t.size:=by
 have:=(aY.1 h).1;rw[Pp.iZ]at this;exact this
theorem db.kP (h:db w b S)(n:Nat)(hn:n<8)(wr:Bool)(k:Nat):db (w.setCell ⟨b,n*15+(if wr then 14 else 13),none⟩ (.int .i64 (k:Int))) b (Pp.put S n (Pp.kP (S n) wr k)):=by
 obtain⟨C,T,h1,h2⟩:=h.cv;have ne: ∀o,o≠n*15+(if wr then 14 else 13)->(w.setCell ⟨b,n*15+(if wr then 14 else 13),none⟩ (.int .i64 (k:Int))).cell? ⟨b,o,none⟩=w.cell? ⟨b,o,none⟩:=fun o ho=>cC h1 _ _ _ (bQ ho);have eq:(w.setCell ⟨b,n*15+(if wr then 14 else 13),none⟩ (.int .i64 (k:Int))).cell? ⟨b,n*15+(if wr then 14 else 13),none⟩=some (.int .i64 (k:Int)):=cL h1 _ _ (by split<;>omega);have tx:(Pp.kP (S n) wr k).tx=(S n).tx:=by cases wr<;>rfl
 refine⟨⟨_,T,bC h1 _ _,by simpa using h2⟩,fun m hm j v hv=>?_,fun m hm=>?_,fun m hm=>?_,fun m hm=>?_,fun m hm=>?_⟩
 ·by_cases c:m=n
  ·subst c;rw[Pp.ai,tx]at hv;have:=Pp.mZ hv;have:=h.small m hm;rw[ne _ (by split<;>omega)];exact h.cX m hm j v hv
  ·rw[Pp.ao _ _ _ _ c]at hv;have:=Pp.mZ hv;have:=h.small m hm;rw[ne _ (by split<;>omega)];exact h.cX m hm j v hv
 ·rw[ne _ (by split<;>omega),h.many m hm];by_cases c:m=n
  ·subst c;rw[Pp.ai,tx]
  ·rw[Pp.ao _ _ _ _ c]
 ·by_cases c:m=n
  ·subst c;rw[Pp.ai];cases wr
   ·exact eq
   ·rw[ne _ (by simp)];exact h.reads m hm
  ·rw[Pp.ao _ _ _ _ c,ne _ (by split<;>omega),h.reads m hm]
 ·by_cases c:m=n
  ·subst c;rw[Pp.ai];cases wr
   ·rw[ne _ (by simp)];exact h.writes m hm
   ·exact eq
  ·rw[Pp.ao _ _ _ _ c,ne _ (by split<;>omega),h.writes m hm]
 ·by_cases c:m=n
  ·subst c;rw[Pp.ai,tx];exact h.small m hm
  ·rw[Pp.ao _ _ _ _ c];exact h.small m hm
theorem db.Lo (h:db w b S)(n:Nat)(hn:n<8)(r u:Nat):db (w.setCells b (n*15) (Pp.mo r u).toList) b (Pp.put S n ⟨⟨#[]⟩,r,u⟩):=by
 obtain⟨C,T,h1,h2⟩:=h.cv;obtain⟨C',k1,k2⟩:=Pp.ij b (Pp.mo r u).toList (n*15) w C h1;have out: ∀o,o<n*15\/n*15+15<=o->(w.setCells b (n*15) (Pp.mo r u).toList).cell? ⟨b,o,none⟩=w.cell? ⟨b,o,none⟩:=fun o ho=>aA b _ (n*15) w ⟨b,o,none⟩ (fun _ _=>by show o<_\/_<=o;exact ho);have qs: ∀j (hj:j<15),(w.setCells b (n*15) (Pp.mo r u).toList).cell? ⟨b,n*15+j,none⟩=some ((Pp.mo r u).toList[j]'hj):=fun j hj=>aS b (Pp.mo r u).toList (n*15) w (fun i hi=>h.CD _ (by have:i<15:=hi;omega)) j hj;refine⟨⟨C',T,k1,by omega⟩,fun m hm j v hv=>?_,fun m hm=>?_,fun m hm=>?_,fun m hm=>?_,fun m hm=>?_⟩
 ·by_cases c:m=n
  ·subst c;rw[Pp.ai]at hv;exact aZ (Pp.mZ hv) (by show¬j<0;omega)
  ·rw[Pp.ao _ _ _ _ c]at hv;have:=Pp.mZ hv;have:=h.small m hm;rw[out _ (by omega)];exact h.cX m hm j v hv
 ·by_cases c:m=n
  ·subst c;rw[Pp.ai];exact qs 12 (by omega)
  ·rw[Pp.ao _ _ _ _ c,out _ (by omega)];exact h.many m hm
 ·by_cases c:m=n
  ·subst c;rw[Pp.ai];exact qs 13 (by omega)
  ·rw[Pp.ao _ _ _ _ c,out _ (by omega)];exact h.reads m hm
 ·by_cases c:m=n
  ·subst c;rw[Pp.ai];exact qs 14 (by omega)
  ·rw[Pp.ao _ _ _ _ c,out _ (by omega)];exact h.writes m hm
 ·by_cases c:m=n
  ·subst c;rw[Pp.ai];exact aC _
  ·rw[Pp.ao _ _ _ _ c];exact h.small m hm
theorem db.Dg (h:db w b S)(n:Nat)(hn:n<8)(r u:Nat):w.there b (n*15) (Pp.mo r u).size:=fun j hj=>by
 have:j<15:=hj;exact⟨h.CD _ (by omega),h.frozen _⟩
theorem Pp.yO (r u:Nat):(Tryz.prog.info? 119).map (·.size)=some (Pp.mo r u).size:=by
 show _=some 15;kernel_rfl
theorem Pp.Dl (r u:Nat):(Pp.mo r u).all (·.oneCell')=true:=by simp[Pp.mo,Value.oneCell']
end
section
variable {ops : Array Oper} {rest : List Oper} {x : Oper} {a : Act} {w : bD} {Q : Exit -> Act -> bD -> Prop}
theorem Pp.Hv (hgd:x.guard=none)(ho:x.op= .build 119 #[])(h:wpList Tryz.prog ops Q rest (a.put x.dst (.agg (Pp.mo 0 0))) w):wpList Tryz.prog ops Q (x::rest) a w:=
 wpList_plain hgd fun _ hK=>by
  unfold Oper.wp execOp;simp only[ho];simp[go_sem];exact hK _ _ h
theorem Pp.Hs (hgd:x.guard=none)(ho:x.op= .build 119 #[(2, .const (.int .i64 1)),(3, .const (.int .i64 1))])(h:wpList Tryz.prog ops Q rest (a.put x.dst (.agg (Pp.mo 1 1))) w):wpList Tryz.prog ops Q (x::rest) a w:=
 wpList_plain hgd fun _ hK=>by
  unfold Oper.wp execOp;simp only[ho];simp[go_sem];exact hK _ _ h
end
def Pp.less (x:Pi)(wr:Bool):Pi:=if Pp.jJ (Pp.kP x wr (Pp.jv x wr-1))then Pp.kP x wr (Pp.jv x wr-1)else Pi.no
def Pp.oH (S:Nat->Pi)(z:Int)(wr:Bool):Nat->Pi:=if Pp.gd S z wr=0 then Pp.put S z.toNat (Pp.less (S z.toNat) wr)else S
theorem db.jv {w:bD}{b:Nat}{S:Nat->Pi}(h:db w b S)(n:Nat)(hn:n<8)(wr:Bool):w.cell? ⟨b,n*15+(if wr then 14 else 13),none⟩=some (.int .i64 (Pp.jv (S n) wr:Int)):=by
 cases wr
 ·exact h.reads n hn
 ·exact h.writes n hn
theorem G8 (b:Nat)(z:Int)(wr:Bool)(S:Nat->Pi)(w:bD)(h:db w b S)(hb: ∀n,n<8->Pp.jv (S n) wr<2^60):
  Calls Tryz.prog 227 #[.pointer (some ⟨b,0,none⟩), .int .i64 z, .bool wr] w fun e w'=>e= .returned (aq (Pp.gd S z wr))/\db w' b (Pp.oH S z wr)/\af b w w':=by
 have HF:=hZ h;by_cases c:Pp.gd S z wr=0
 ·obtain⟨n,rfl,n8,_,t0⟩:=Pp.zW c;have EP:Hid (Pp.gd S (n:Int) wr=0/\jQ b (n:Int) 0= .pointer (some ⟨b,n*15,none⟩)):=hZ ⟨c,qk b n⟩;have ED:Pp.oH S (n:Int) wr=Pp.put S n (Pp.less (S n) wr):=by unfold Pp.oH;rw[aJ c,hU]
  have c0:=h.jv n n8 wr;have hl:=hb n n8;have T:=hZ (wE b (n*15) wr);have S1:Hid (db (w.setCell ⟨b,n*15+(if wr then 14 else 13),none⟩ (.int .i64 ((Pp.jv (S n) wr-1:Nat):Int))) b (Pp.put S n (Pp.kP (S n) wr (Pp.jv (S n) wr-1)))):=hZ (h.kP n n8 wr _);have cf:=h.frozen;have HL:Hid (Pp.less (S n) wr=if Pp.jJ (Pp.kP (S n) wr (Pp.jv (S n) wr-1))then Pp.kP (S n) wr (Pp.jv (S n) wr-1)else Pi.no):=hZ rfl;generalize hX:Pp.kP (S n) wr (Pp.jv (S n) wr-1)=X at S1 HL;clear hX;generalize (if wr then 14 else 13)=o at c0 T S1;generalize Pp.jv (S n) wr=k at*;obtain⟨q,rfl⟩: ∃q,k=q+1:=⟨k-1,by omega⟩;have hw:IntKind.i64.wrap ((q+1:Nat)-1:Int)=(q:Int):=(aN _ ⟨by omega,by omega⟩).trans (by omega);rw[aP]at S1;clear h c hb t0 hl;obtain⟨k1,hk1⟩:=nJ (((q+1:Nat):Int));rw[hk1]at c0 hw;clear hk1;go_in
  go_wp2_with fail
  refine(ib b n wr S _ HF.out).mono ?_;rintro e w1 ⟨rfl,hw1⟩;subst w1;rw[EP.out.1,EP.out.2,aa];go_wp2_with fail
  refine(T.out _).mono ?_;rintro e w1 ⟨rfl,hw1⟩;subst w1;go_wp2_with fail
  have TH:=hZ (oa b n _ _ S1.out n8);rw[Pp.ai]at TH;refine TH.out.mono ?_;rintro e w1 ⟨rfl,hw1⟩;subst w1;have F1:Hid (af b w (w.setCell ⟨b,n*15+o,none⟩ (.int .i64 (q:Int)))):=hZ ((af.refl b w).setCell _ _);clear TH T;cases hth:Pp.jJ X
  ·have TH:=hZ (S1.out.Dg n n8 0 0);have HS:=hZ (Pp.yO 0 0);have H1:=hZ (Pp.Dl 0 0);have FIN:Hid (db ((w.setCell ⟨b,n*15+o,none⟩ (.int .i64 (q:Int))).setCells b (n*15) (Pp.mo 0 0).toList) b (Pp.oH S (n:Int) wr)/\af b w ((w.setCell ⟨b,n*15+o,none⟩ (.int .i64 (q:Int))).setCells b (n*15) (Pp.mo 0 0).toList)):=hZ (by
    have:=S1.out.Lo n n8 0 0;rw[Pp.fD]at this;rw[ED,HL.out,hth,aI (by decide)];exact⟨this,Pp.iA _ _ F1.out⟩)
   obtain⟨A,hA⟩:=nJ (Pp.mo 0 0);rw[hA]at FIN TH HS H1;clear c0 cf hw S1 F1 HL ED hth;generalize w.setCell ⟨b,n*15+o,none⟩ (.int .i64 (q:Int))=W at*;go_wp2_with (first|(refine Pp.Hv rfl rfl ?_;rw[hA])|(refine wpList_store_mid rfl 119 _ _ rfl b (n*15) A rfl rfl TH.out HS.out H1.out ?_))
   go_ret
   rw[EP.out.1];exact⟨rfl,FIN.out⟩
  ·have FIN:Hid (db (w.setCell ⟨b,n*15+o,none⟩ (.int .i64 (q:Int))) b (Pp.oH S (n:Int) wr)):=hZ (by
    rw[ED,HL.out,hth,aJ rfl];exact S1.out)
   clear c0 cf hw S1 HL ED hth;generalize w.setCell ⟨b,n*15+o,none⟩ (.int .i64 (q:Int))=W at*;go_wp2
   go_ret
   rw[EP.out.1];exact⟨rfl,FIN.out,F1.out⟩
 ·have E2:Hid (jQ b z (Pp.gd S z wr)= .pointer none/\aq (Pp.gd S z wr)= .iface 100 (.int .i64 (Pp.gd S z wr))/\Pp.oH S z wr=S):=hZ ⟨mB c,aj c,aI c⟩;clear h c hb;go_in
  go_wp2_with fail
  refine(ib b z wr S _ HF.out).mono ?_;rintro e w1 ⟨rfl,hw1⟩;subst w1;rw[E2.out.1,E2.out.2.1];go_wp2
  go_ret
  rw[E2.out.2.2,E2.out.2.1];exact⟨rfl,HF.out,af.refl _ _⟩
theorem Pp.xF (t:bU)(a e:Nat):Pp.dQ (t.extract a e)=((Pp.dQ t).drop a).take (e-a):=by
 unfold Pp.dQ;rw[ByteArray.data_extract,Array.toList_extract,List.extract,List.map_take,List.map_drop]
theorem Pp.Nn (s t:bU):Pp.dQ (s++t)=Pp.dQ s++Pp.dQ t:=by
 unfold Pp.dQ;rw[ByteArray.data_append,Array.toList_append,List.map_append]
section
variable {P : Program}
theorem Pp.zj (w:bD)(dT sT ty elem:TypeId)(b o dLen dCap:Nat)(t:bU)(hu:P.underlying dT=some (.slice elem))(hz: ∀w,(Go.sizeOf elem).run P w= .ok 1 w)
  (hc: ∀j,j<min t.size dLen->(w.cell? ⟨b,o+j,none⟩).isSome=true) (hf: ∀j,j<min t.size dLen->w.frozen? ⟨b,o+j,none⟩=false):
  (Builtin.copy_ #[dT,sT] ty #[.slice (some ⟨b,o,none⟩) dLen dCap, .string t]).run P w= .ok (goInt ((min t.size dLen:Nat):Int)) (w.setCells b o (Pp.dQ (t.extract 0 (min t.size dLen)))):=by
 have hl:(Pp.dQ (t.extract 0 (min t.size dLen))).length=min t.size dLen:=by rw[Pp.iZ,ByteArray.size_extract];omega
 have hst:=run_storeCells_cells (P:=P) b o (Pp.dQ (t.extract 0 (min t.size dLen))) 0 w (by rw[hl];simpa using hc) (by rw[hl];simpa using hf) (by
  intro v hv;obtain⟨x,_,rfl⟩:=List.mem_map.1 hv;rfl)
 have hm:Nat.min t.size dLen=min t.size dLen:=rfl;have ht:List.take (min t.size dLen) (List.map (fun x:UInt8=>Value.int .u8 (x.toNat:Int)) t.data.toList)=Pp.dQ (t.extract 0 (min t.size dLen)):=by
  rw[Pp.xF,List.drop_zero,Nat.sub_zero];rfl
 simp[Builtin.copy_,run_underlying hu,Builtin.lenOf,Builtin.firstCells,hz,hm];rw[ht,hst];rfl
theorem Pp.Bm (w:bD)(ty:TypeId)(d:Option Addr)(dLen dCap:Nat):(Builtin.copy_ #[316,9] ty #[.slice d dLen dCap, .string ⟨#[]⟩]).run Tryz.prog w= .ok (goInt 0) w:=by
 have hu:Tryz.prog.underlying 316=some (.slice 5):=by kernel_rfl
 have hz: ∀w,(Go.sizeOf 5).run Tryz.prog w= .ok 1 w:=fun w=>by rfl
 have e0:ByteArray.size ⟨#[]⟩=0:=rfl;cases d<;>simp[Builtin.copy_,run_underlying hu,Builtin.lenOf,Builtin.firstCells,hz,e0,storeCells]
theorem Pp.nu {ops:Array Oper}{o:Oper}{a:Act}{w:bD}{K:Act->bD->Prop}{Q:Exit->Act->bD->Prop}{E:Prop}
  (hg:o.guard=none) (d x:Operand) (dT sT:TypeId) (hop:o.op=Op.call {callee:=Callee.builtin Builtin.copy,args:=#[d,x],argTypes:=#[dT,sT]})
  (v1 v2 r:Value) (W:bD) (hd:a.eval d=v1) (hx:a.eval x=v2) (hrun:(Builtin.copy_ #[dT,sT] o.type #[v1,v2]).run P w= .ok r W) (hK:K (a.put o.dst r) W):
  if Region.wanted o (yielded ops a.tmps)=true then Oper.wp P o a w K Q else E:=by
 have hw:Region.wanted o (yielded ops a.tmps)=true:=by simp[Region.wanted,hg]
 rw[aJ hw];unfold Oper.wp;simp[execOp,hop,resolve,invoke,builtin,hd,hx,hrun,Result.andThen];exact hK
end
section
variable {w : bD} {b : Nat} {S : Nat -> Pi}
theorem db.wrote (h:db w b S)(n:Nat)(hn:n<8)(t:bU)(ht:(S n).tx.size+t.size<=12):
  db ((w.setCells b (n*15+(S n).tx.size) (Pp.dQ t)).setCell ⟨b,n*15+12,none⟩ (.int .i64 (((S n).tx.size+t.size:Nat):Int))) b (Pp.put S n {S n with tx:=(S n).tx++t}):=by
 obtain⟨C,T,h1,h2⟩:=h.cv;obtain⟨C',k1,k2⟩:=Pp.ij b (Pp.dQ t) (n*15+(S n).tx.size) w C h1;have hl:=Pp.iZ t;have ne: ∀o,o≠n*15+12->((w.setCells b (n*15+(S n).tx.size) (Pp.dQ t)).setCell ⟨b,n*15+12,none⟩ (.int .i64 (((S n).tx.size+t.size:Nat):Int))).cell? ⟨b,o,none⟩=(w.setCells b (n*15+(S n).tx.size) (Pp.dQ t)).cell? ⟨b,o,none⟩:=fun o ho=>cC k1 _ _ _ (bQ ho);have out: ∀o,o<n*15+(S n).tx.size\/n*15+(S n).tx.size+t.size<=o->(w.setCells b (n*15+(S n).tx.size) (Pp.dQ t)).cell? ⟨b,o,none⟩=w.cell? ⟨b,o,none⟩:=fun o ho=>aA b _ _ w ⟨b,o,none⟩ (fun _ _=>by rw[hl];exact ho);have qs: ∀j (hj:j<(Pp.dQ t).length),(w.setCells b (n*15+(S n).tx.size) (Pp.dQ t)).cell? ⟨b,n*15+(S n).tx.size+j,none⟩=some ((Pp.dQ t)[j]):=fun j hj=>aS b (Pp.dQ t) _ w (fun i hi=>h.CD _ (by rw[hl]at hi;omega)) j hj;refine⟨⟨_,T,bC k1 _ _,by simp;omega⟩,fun m hm j v hv=>?_,fun m hm=>?_,fun m hm=>?_,fun m hm=>?_,fun m hm=>?_⟩
 ·by_cases c:m=n
  ·subst c;rw[Pp.ai]at hv;have hj:=Pp.mZ hv;rw[ByteArray.size_append]at hj;rw[ne _ (by omega)];have hv:(Pp.dQ (S m).tx++Pp.dQ t)[j]? =some v:=by rw[<-Pp.Nn];exact hv
   by_cases d:j<(S m).tx.size
   ·rw[List.getElem?_append_left (by rw[Pp.iZ];exact d)]at hv;rw[out _ (by omega)];exact h.cX m hm j v hv
   ·rw[List.getElem?_append_right (by rw[Pp.iZ];omega),Pp.iZ]at hv;have:=qs (j-(S m).tx.size) (by rw[hl];omega);rw[show m*15+(S m).tx.size+(j-(S m).tx.size)=m*15+j by omega,<-aW,hv]at this;exact this
  ·rw[Pp.ao _ _ _ _ c]at hv;have:=Pp.mZ hv;have:=h.small m hm;rw[ne _ (by omega),out _ (by omega)];exact h.cX m hm j v hv
 ·by_cases c:m=n
  ·subst c;rw[Pp.ai,cL k1 _ _ (by omega)];show _=some (Value.int .i64 ((((S m).tx++t).size:Nat):Int));rw[ByteArray.size_append]
  ·rw[Pp.ao _ _ _ _ c,ne _ (by omega),out _ (by omega)];exact h.many m hm
 ·rw[ne _ (by omega),out _ (by omega),h.reads m hm];by_cases c:m=n
  ·subst c;rw[Pp.ai]
  ·rw[Pp.ao _ _ _ _ c]
 ·rw[ne _ (by omega),out _ (by omega),h.writes m hm];by_cases c:m=n
  ·subst c;rw[Pp.ai]
  ·rw[Pp.ao _ _ _ _ c]
 ·by_cases c:m=n
  ·subst c;rw[Pp.ai];show((S m).tx++t).size<=12;rw[ByteArray.size_append];exact ht
  ·rw[Pp.ao _ _ _ _ c];exact h.small m hm
end
def Pp.cV (S:Nat->Pi)(z:Int)(s:bU):Int:=if Pp.gd S z true≠0 then Pp.gd S z true else if(S z.toNat).reads=0 then 12 else if s.size≠0/\(S z.toNat).tx.size=12 then 13 else 0
def Pp.gC (S:Nat->Pi)(z:Int)(s:bU):Nat:=if Pp.cV S z s=0 then min s.size (12-(S z.toNat).tx.size)else 0
def Pp.dF (S:Nat->Pi)(z:Int)(s:bU):Nat->Pi:=if Pp.cV S z s=0 then Pp.put S z.toNat {S z.toNat with tx:=(S z.toNat).tx++s.extract 0 (Pp.gC S z s)}else S
theorem DB (b:Nat)(z:Int)(s:bU)(S:Nat->Pi)(w:bD)(h:db w b S)(hs:s.size<2^60):
  Calls Tryz.prog 247 #[.pointer (some ⟨b,0,none⟩), .int .i64 z, .string s] w fun e w'=>e= .returned (.tuple #[.int .i64 (Pp.gC S z s:Int),aq (Pp.cV S z s)])/\db w' b (Pp.dF S z s)/\af b w w':=by
 have HF:=hZ h;by_cases c:Pp.gd S z true=0
 ·obtain⟨n,rfl,n8,_,t0⟩:=Pp.zW c;have EP:Hid (Pp.gd S (n:Int) true=0/\jQ b (n:Int) 0= .pointer (some ⟨b,n*15,none⟩)):=hZ ⟨c,qk b n⟩;have EW:Pp.cV S (n:Int) s=if(S n).reads=0 then 12 else if s.size≠0/\(S n).tx.size=12 then 13 else 0:=by unfold Pp.cV;rw[aI (fun d=>d c),hU]
  have c1:=h.many n n8;have c2:=h.reads n n8;have no: ∀E,E≠0->Pp.cV S (n:Int) s=E->Pp.gC S (n:Int) s=0/\Pp.dF S (n:Int) s=S:=fun E e0 e=>⟨by unfold Pp.gC;rw[e,aI e0],by unfold Pp.dF;rw[e,aI e0]⟩;by_cases r0:(S n).reads=0
  ·have e:Pp.cV S (n:Int) s=12:=by rw[EW,aJ r0]
   have FIN:Hid (Pp.cV S (n:Int) s=12/\Pp.gC S (n:Int) s=0/\Pp.dF S (n:Int) s=S):=hZ ⟨e,no 12 (by decide) e⟩;rw[r0]at c2;have c2':w.cell? ⟨b,n*15+13,none⟩=some (.int .i64 0):=c2;clear h c EW no e c2 r0 t0 hs;go_in
   go_wp2_with fail
   refine(ib b n true S _ HF.out).mono ?_;rintro e w1 ⟨rfl,hw1⟩;subst w1;rw[EP.out.1,EP.out.2,aa];go_wp2
   go_ret2
   rw[FIN.out.1,FIN.out.2.1,FIN.out.2.2];exact⟨rfl,HF.out,af.refl _ _⟩
  ·have r1:(((S n).reads:Int)==0)=false:=by simp;omega
   by_cases s0:s.size=0
   ·obtain rfl:s=⟨#[]⟩:=by
     apply ByteArray.ext;exact Array.eq_empty_of_size_eq_zero s0
    have e:Pp.cV S (n:Int) ⟨#[]⟩=0:=by rw[EW,aI r0,aI (fun d=>d.1 s0)]
    have FIN:Hid (Pp.cV S (n:Int) ⟨#[]⟩=0/\Pp.gC S (n:Int) ⟨#[]⟩=0):=hZ ⟨e,by unfold Pp.gC;rw[aJ e,s0,Nat.zero_min]⟩;have FI2:Hid (db (w.setCell ⟨b,n*15+12,none⟩ (.int .i64 ((S n).tx.size:Int))) b (Pp.dF S (n:Int) ⟨#[]⟩)):=hZ (by
     have q:=h.wrote n n8 ⟨#[]⟩ (by have:=h.small n n8;rw[s0];omega);unfold Pp.dF;rw[aJ e,hU,FIN.out.2];exact q)
    have sm:=h.small n n8;generalize (S n).reads=rr at*;generalize (S n).tx.size=mm at*;have z12:mm<=12:=sm;have cf:=h.drew.frozen;have ad0:IntKind.i64.wrap (mm:Int)=(mm:Int):=aN _ ⟨by omega,by omega⟩;have z12I:(mm:Int)<=12:=by omega
    clear h c EW no e r0 t0 hs s0 sm;have EMP:=hZ Pp.Bm;go_in
    go_wp2_with fail
    refine(ib b n true S _ HF.out).mono ?_;rintro e w1 ⟨rfl,hw1⟩;subst w1;rw[EP.out.1,EP.out.2,aa];go_upto_region 8 with fail
    go_region_law (refine Pp.nu rfl _ _ 316 9 rfl (.slice (some (if 12=mm then⟨b,n*15,none⟩else⟨b,n*15+mm,none⟩)) (12-mm) (12-mm)) (.string ⟨#[]⟩) _ _ (by simp[Act.eval,Act.put]) (by simp[Act.eval,Act.put]) (EMP.out _ _ _ _ _) ?_)
    generalize (if 12=mm then(⟨b,n*15,none⟩:Addr)else⟨b,n*15+mm,none⟩)=ad;go_wp2
    go_ret2
    rw[FIN.out.1,FIN.out.2];exact⟨rfl,FI2.out.drew,((af.refl b w).setCell _ _).drew⟩
   ·have sl:(s.toList==[])=false:=by
     rw[beq_eq_false_iff_ne];intro e;rw[ByteArray.toList_eq]at e;apply s0;show s.data.size=0;rw[<-aB,e];rfl
    by_cases m12:(S n).tx.size=12
    ·have e:Pp.cV S (n:Int) s=13:=by rw[EW,aI r0,aJ ⟨s0,m12⟩]
     have FIN:Hid (Pp.cV S (n:Int) s=13/\Pp.gC S (n:Int) s=0/\Pp.dF S (n:Int) s=S):=hZ ⟨e,no 13 (by decide) e⟩;rw[m12]at c1;have c1':w.cell? ⟨b,n*15+12,none⟩=some (.int .i64 12):=c1;generalize (S n).reads=rr at*;clear h c EW no e c1 r0 t0 hs m12 s0;go_in
     go_wp2_with fail
     refine(ib b n true S _ HF.out).mono ?_;rintro e w1 ⟨rfl,hw1⟩;subst w1;rw[EP.out.1,EP.out.2,aa];go_wp2
     go_ret2
     rw[FIN.out.1,FIN.out.2.1,FIN.out.2.2];exact⟨rfl,HF.out,af.refl _ _⟩
    ·have e:Pp.cV S (n:Int) s=0:=by rw[EW,aI r0,aI (fun d=>m12 d.2)]
     have sm:=h.small n n8;obtain⟨k,hk⟩:=nJ (min s.size (12-(S n).tx.size));have eK:Pp.gC S (n:Int) s=k:=by unfold Pp.gC;rw[aJ e,hU,hk]
     have FIN:Hid (Pp.cV S (n:Int) s=0/\Pp.gC S (n:Int) s=k):=hZ ⟨e,eK⟩;have MID:Hid (∀V,db V b S->af b w V->(V.setCells b (n*15+(S n).tx.size) (Pp.dQ (s.extract 0 k))).cell? ⟨b,n*15+12,none⟩=some (.int .i64 ((S n).tx.size:Int))/\(∀o,(V.setCells b (n*15+(S n).tx.size) (Pp.dQ (s.extract 0 k))).frozen? ⟨b,o,none⟩=false)
       /\db ((V.setCells b (n*15+(S n).tx.size) (Pp.dQ (s.extract 0 k))).setCell ⟨b,n*15+12,none⟩ (.int .i64 (((S n).tx.size+k:Nat):Int))) b (Pp.dF S (n:Int) s)/\af b w (V.setCells b (n*15+(S n).tx.size) (Pp.dQ (s.extract 0 k)))):=hZ (fun V hV fV=>by
      have z:(s.extract 0 k).size=k:=by rw[ByteArray.size_extract];omega
      have q:=hV.wrote n n8 (s.extract 0 k) (by rw[z];omega);rw[z]at q;obtain⟨C,T,h1,_⟩:=hV.cv;obtain⟨C',k1,_⟩:=Pp.ij b (Pp.dQ (s.extract 0 k)) (n*15+(S n).tx.size) V C h1;refine⟨?_,fun o=>bf k1 o,?_,Pp.iA _ _ fV⟩
      ·rw[aA b _ _ V ⟨b,n*15+12,none⟩ (fun _ _=>by rw[Pp.iZ,z];show n*15+12<_\/_<=n*15+12;omega)];exact hV.many n n8
      ·unfold Pp.dF;rw[aJ e,hU,eK];exact q)
     have CP:Hid (∀V ty,db V b S->(Builtin.copy_ #[316,9] ty #[.slice (some ⟨b,n*15+(S n).tx.size,none⟩) (12-(S n).tx.size) (12-(S n).tx.size), .string s]).run Tryz.prog V= .ok (goInt (k:Int)) (V.setCells b (n*15+(S n).tx.size) (Pp.dQ (s.extract 0 k)))):=hZ (fun V ty hV=>by
      have:=Pp.zj (P:=Tryz.prog) V 316 9 ty 5 b (n*15+(S n).tx.size) (12-(S n).tx.size) (12-(S n).tx.size) s (by kernel_rfl) (fun w=>by rfl) (fun j hj=>hV.CD _ (by omega)) (fun j _=>hV.frozen _);rw[hk]at this;exact this)
     generalize (S n).reads=rr at*;generalize (S n).tx.size=mm at*;have mlt:mm<12:=by omega
     have mltI:(mm:Int)<12:=by omega
     have mleI:(mm:Int)<=12:=by omega
     have mn0: ¬12=mm:=by omega
     have mn0': ¬mm=12:=by omega
     have mn1: ¬12-mm=0:=by omega
     have mn2: ¬(mm:Int)=12:=by omega
     have mn3:((mm:Int)==12)=false:=by simp;omega
     have ad:IntKind.i64.wrap ((mm:Int)+(k:Int))=((mm+k:Nat):Int):=(aN _ ⟨by omega,by omega⟩).trans (by omega);generalize Pp.dQ (s.extract 0 k)=L at*;clear h c EW no e eK r0 t0 hs m12 s0 sm hk;go_in
     go_wp2_with fail
     refine(ib b n true S _ HF.out).mono ?_;rintro e w1 ⟨rfl,hw1⟩;subst w1;rw[EP.out.1,EP.out.2,aa];go_upto_region 8 with fail
     go_region_law (refine Pp.nu rfl _ _ 316 9 rfl (.slice (some ⟨b,n*15+mm,none⟩) (12-mm) (12-mm)) (.string s) _ _ (by simp[Act.eval,Act.put]) (by simp[Act.eval,Act.put]) (CP.out _ _ HF.out.drew) ?_)
     have M:=MID.out _ HF.out.drew (af.refl b w).drew;generalize w.drew.setCells b (n*15+mm) L=W at M|-;obtain⟨d1,d2,d3,d4⟩:=M;have FI3:=hZ d3;have FI4:=hZ d4;clear d3 d4 MID CP c1 c2;go_wp2
     go_ret2
     rw[FIN.out.1,FIN.out.2];exact⟨rfl,FI3.out,FI4.out.setCell _ _⟩
 ·have E2:Hid (jQ b z (Pp.gd S z true)= .pointer none/\aq (Pp.gd S z true)= .iface 100 (.int .i64 (Pp.gd S z true))/\Pp.cV S z s=Pp.gd S z true/\Pp.gC S z s=0/\Pp.dF S z s=S):=hZ (by
   have e:Pp.cV S z s=Pp.gd S z true:=aJ c;exact⟨mB c,aj c,e,by unfold Pp.gC;rw[e,aI c],by unfold Pp.dF;rw[e,aI c]⟩)
  clear h c hs;go_in
  go_wp2_with fail
  refine(ib b z true S _ HF.out).mono ?_;rintro e w1 ⟨rfl,hw1⟩;subst w1;rw[E2.out.1,E2.out.2.1];go_wp2
  go_ret2
  rw[E2.out.2.2.1,E2.out.2.2.2.1,E2.out.2.2.2.2,E2.out.2.1];exact⟨rfl,HF.out,af.refl _ _⟩
section
variable {w : bD} {b : Nat} {S : Nat -> Pi}
theorem db.QB (h:db w b S)(n:Nat)(hn:n<8)(k:Nat)(hk:k<=(S n).tx.size):
  db ((w.setCells b (n*15) (Pp.dQ ((S n).tx.extract k (S n).tx.size))).setCell ⟨b,n*15+12,none⟩ (.int .i64 (((S n).tx.size-k:Nat):Int))) b (Pp.put S n {S n with tx:=(S n).tx.extract k (S n).tx.size}):=by
 obtain⟨t,ht⟩:=nJ ((S n).tx.extract k (S n).tx.size);have hz:t.size=(S n).tx.size-k:=by rw[<-ht,ByteArray.size_extract,Nat.min_self]
 have h12:=h.small n hn;rw[ht,<-hz];obtain⟨C,T,h1,h2⟩:=h.cv;obtain⟨C',k1,k2⟩:=Pp.ij b (Pp.dQ t) (n*15) w C h1;have hl:=Pp.iZ t;have ne: ∀o,o≠n*15+12->((w.setCells b (n*15) (Pp.dQ t)).setCell ⟨b,n*15+12,none⟩ (.int .i64 (t.size:Int))).cell? ⟨b,o,none⟩=(w.setCells b (n*15) (Pp.dQ t)).cell? ⟨b,o,none⟩:=fun o ho=>cC k1 _ _ _ (bQ ho);have out: ∀o,o<n*15\/n*15+t.size<=o->(w.setCells b (n*15) (Pp.dQ t)).cell? ⟨b,o,none⟩=w.cell? ⟨b,o,none⟩:=fun o ho=>aA b _ _ w ⟨b,o,none⟩ (fun _ _=>by rw[hl];exact ho);have qs: ∀j (hj:j<(Pp.dQ t).length),(w.setCells b (n*15) (Pp.dQ t)).cell? ⟨b,n*15+j,none⟩=some ((Pp.dQ t)[j]):=fun j hj=>aS b (Pp.dQ t) _ w (fun i hi=>h.CD _ (by rw[hl]at hi;omega)) j hj;refine⟨⟨_,T,bC k1 _ _,by simp;omega⟩,fun m hm j v hv=>?_,fun m hm=>?_,fun m hm=>?_,fun m hm=>?_,fun m hm=>?_⟩
 ·by_cases c:m=n
  ·subst c;rw[Pp.ai]at hv;grind
  ·rw[Pp.ao _ _ _ _ c]at hv;have:=Pp.mZ hv;have:=h.small m hm;rw[ne _ (by omega),out _ (by omega)];exact h.cX m hm j v hv
 ·by_cases c:m=n
  ·subst c;rw[Pp.ai,cL k1 _ _ (by omega)]
  ·rw[Pp.ao _ _ _ _ c,ne _ (by omega),out _ (by omega)];exact h.many m hm
 ·rw[ne _ (by omega),out _ (by omega),h.reads m hm];by_cases c:m=n
  ·subst c;rw[Pp.ai]
  ·rw[Pp.ao _ _ _ _ c]
 ·rw[ne _ (by omega),out _ (by omega),h.writes m hm];by_cases c:m=n
  ·subst c;rw[Pp.ai]
  ·rw[Pp.ao _ _ _ _ c]
 ·by_cases c:m=n
  ·subst c;rw[Pp.ai];show t.size<=12;omega
  ·rw[Pp.ao _ _ _ _ c];exact h.small m hm
theorem Pp.Cy: ∀(L:List UInt8) (r:bU),(L.map fun x=>(x.toNat:Int)).foldl (fun r n=>r.push (UInt8.ofNat n.toNat)) r=⟨r.data++L.toArray⟩
 |[],r=>by simp
 |x::L,r=>by
  rw[List.map_cons,List.foldl_cons,Pp.Cy L];simp[ByteArray.push]
def Pp.AY (t:bU):List Int:=t.data.toList.map fun x=>(x.toNat:Int)
theorem Pp.Nq (t:bU):(Pp.AY t).foldl (fun r n=>r.push (UInt8.ofNat n.toNat)) ByteArray.empty=t:=by
 unfold Pp.AY;rw[Pp.Cy];cases t;simp[ByteArray.empty,ByteArray.emptyWithCapacity];rfl
theorem Pp.MT (t:bU):(Pp.AY t).map (Value.int .u8)=Pp.dQ t:=by simp[Pp.AY,Pp.dQ,Function.comp_def]
theorem db.EG (h:db w b S)(n k e:Nat)(hn:n<8)(hk:k<=e)(he:e<=(S n).tx.size)(ad:Addr)(had:k<e->ad=⟨b,n*15+k,none⟩):(loadCells ad (e-k)).run Tryz.prog w= .ok ((Pp.AY ((S n).tx.extract k e)).map (Value.int .u8)).toArray w:=by
 rw[Pp.MT];have hl:(Pp.dQ ((S n).tx.extract k e)).length=e-k:=by rw[Pp.iZ,ByteArray.size_extract];omega
 have:=run_loadCells_list (P:=Tryz.prog) w ad (Pp.dQ ((S n).tx.extract k e)) (fun j v hv=>by
  have hj:j<e-k:=by grind
  rw[had (by omega)];have ea:(⟨b,n*15+k,none⟩:Addr).add j=⟨b,n*15+(k+j),none⟩:=by rw[qG,Nat.add_assoc]
  rw[ea];refine h.cX n hn (k+j) v ?_;rw[Pp.xF,List.getElem?_take_of_lt hj,List.getElem?_drop]at hv;exact hv)
 rw[hl]at this;exact this
theorem db.OB (h:db w b S)(n k:Nat)(hn:n<8)(hk:k<=(S n).tx.size)(ad:Addr)(had:k<(S n).tx.size->ad=⟨b,n*15+k,none⟩)(c:Nat)(ty:TypeId):
  (Builtin.copy_ #[316,316] ty #[.slice (some ⟨b,n*15,none⟩) 12 12, .slice (some ad) ((S n).tx.size-k) c]).run Tryz.prog w= .ok (goInt (((S n).tx.size-k:Nat):Int)) (w.setCells b (n*15) (Pp.dQ ((S n).tx.extract k (S n).tx.size))):=by
 have h12:=h.small n hn;have hl:(Pp.dQ ((S n).tx.extract k (S n).tx.size)).length=(S n).tx.size-k:=by rw[Pp.iZ,ByteArray.size_extract,Nat.min_self]
 have:=run_copy_cells (P:=Tryz.prog) w 316 316 ty 5 b (n*15) 12 12 ad ((S n).tx.size-k) c (Pp.dQ ((S n).tx.extract k (S n).tx.size)) (by kernel_rfl) (by kernel_rfl) (by rw[hl];exact(Nat.min_eq_left (by omega)).symm)
  (fun j v hv=>by
   have hj:j<(S n).tx.size-k:=by grind
   rw[had (by omega),qG,Nat.add_assoc];refine h.cX n hn (k+j) v ?_;rw[Pp.xF,List.getElem?_take_of_lt hj,List.getElem?_drop]at hv;exact hv)
  (fun j hj=>h.CD _ (by omega)) (fun j _=>h.frozen _) (fun v hv=>by
   obtain⟨x,_,rfl⟩:=List.mem_map.1 hv;rfl)
 rw[hl]at this;exact this
end
section
variable {ops : Array Oper} {rest : List Oper} {x : Oper} {a : Act} {C : bD -> Prop} {Q : Act -> Prop}
theorem Pp.qH (hgd:x.guard=none)(y:Operand)(hop:x.op=Op.convert 316 9 y)
  (ad:Addr) (k c:Nat) (hd:a.eval y= .slice (some ad) k c) (ns:List Int) (t:bU) (ht:ns.foldl (fun r n=>r.push (UInt8.ofNat n.toNat)) ByteArray.empty=t) (hl: ∀w,C w->(loadCells ad k).run Tryz.prog w= .ok (ns.map (Value.int .u8)).toArray w)
  (h:wpQuiet Tryz.prog ops C Q rest (a.put x.dst (.string t))):wpQuiet Tryz.prog ops C Q (x::rest) a:=by
 have hw:Region.wanted x (yielded ops a.tmps)=true:=by simp[Region.wanted,hgd]
 unfold wpQuiet;rw[aJ hw];refine⟨.string t,fun w hC=>?_,h⟩;have hrun:=(run_convert_bytes_string (P:=Tryz.prog) w 316 9 5 (some ad) k c (by kernel_rfl) (by kernel_rfl) (by kernel_rfl)).trans (run_bytesToString w ad k c ns (hl w hC));rw[ht]at hrun;unfold Oper.quietAt;simp[execOp,hop,hd,hrun,Oper.quietUpon]
end
def Pp.dA (S:Nat->Pi)(z m:Int):Int:=if Pp.gd S z false≠0 then Pp.gd S z false else if m<0 then 1 else if 0<m/\(S z.toNat).tx.size=0/\0<(S z.toNat).writes then 13 else 0
def Pp.gE (S:Nat->Pi)(z m:Int):bU:=if Pp.dA S z m=0 then(S z.toNat).tx.extract 0 (min m.toNat (S z.toNat).tx.size)else⟨#[]⟩
def Pp.mM (S:Nat->Pi)(z m:Int):Nat->Pi:=if Pp.dA S z m=0 then Pp.put S z.toNat {S z.toNat with tx:=(S z.toNat).tx.extract (min m.toNat (S z.toNat).tx.size) (S z.toNat).tx.size}else S
theorem FC (b:Nat)(z m:Int)(S:Nat->Pi)(w:bD)(h:db w b S):
  Calls Tryz.prog 245 #[.pointer (some ⟨b,0,none⟩), .int .i64 z, .int .i64 m] w fun e w'=>e= .returned (.tuple #[.string (Pp.gE S z m),aq (Pp.dA S z m)])/\db w' b (Pp.mM S z m)/\af b w w':=by
 have HF:=hZ h;by_cases c:Pp.gd S z false=0
 ·obtain⟨n,rfl,n8,_,t0⟩:=Pp.zW c;have EP:Hid (Pp.gd S (n:Int) false=0/\jQ b (n:Int) 0= .pointer (some ⟨b,n*15,none⟩)):=hZ ⟨c,qk b n⟩;have EW:Pp.dA S (n:Int) m=if m<0 then 1 else if 0<m/\(S n).tx.size=0/\0<(S n).writes then 13 else 0:=by unfold Pp.dA;rw[aI (fun d=>d c),hU]
  have c1:=h.many n n8;have c2:=h.writes n n8;have no: ∀E,E≠0->Pp.dA S (n:Int) m=E->Pp.gE S (n:Int) m=⟨#[]⟩/\Pp.mM S (n:Int) m=S:=fun E e0 e=>⟨by unfold Pp.gE;rw[e,aI e0],by unfold Pp.mM;rw[e,aI e0]⟩;by_cases m0:m<0
  ·have e:Pp.dA S (n:Int) m=1:=by rw[EW,aJ m0]
   have FIN:Hid (Pp.dA S (n:Int) m=1/\Pp.gE S (n:Int) m=⟨#[]⟩/\Pp.mM S (n:Int) m=S):=hZ ⟨e,no 1 (by decide) e⟩;clear h c EW no e t0 c1 c2;go_in
   go_wp2_with fail
   refine(ib b n false S _ HF.out).mono ?_;rintro e w1 ⟨rfl,hw1⟩;subst w1;rw[EP.out.1,EP.out.2,aa];go_wp2
   go_ret2
   rw[FIN.out.1,FIN.out.2.1,FIN.out.2.2];exact⟨rfl,HF.out,af.refl _ _⟩
  ·by_cases ag:0<m/\(S n).tx.size=0/\0<(S n).writes
   ·have e:Pp.dA S (n:Int) m=13:=by rw[EW,aI m0,aJ ag]
    have FIN:Hid (Pp.dA S (n:Int) m=13/\Pp.gE S (n:Int) m=⟨#[]⟩/\Pp.mM S (n:Int) m=S):=hZ ⟨e,no 13 (by decide) e⟩;obtain⟨a1,a2,a3⟩:=ag;rw[a2]at c1;have c1':w.cell? ⟨b,n*15+12,none⟩=some (.int .i64 0):=c1;generalize (S n).writes=uu at*;have a3':(0:Int)<(uu:Int):=by omega
    clear h c EW no e t0 c1 a2;go_in
    go_wp2_with fail
    refine(ib b n false S _ HF.out).mono ?_;rintro e w1 ⟨rfl,hw1⟩;subst w1;rw[EP.out.1,EP.out.2,aa];go_wp2
    go_ret2
    rw[FIN.out.1,FIN.out.2.1,FIN.out.2.2];exact⟨rfl,HF.out,af.refl _ _⟩
   ·have e:Pp.dA S (n:Int) m=0:=by rw[EW,aI m0,aI ag]
    have h12:=h.small n n8;obtain⟨k,hk⟩:=nJ (min m.toNat (S n).tx.size);have kle:k<=(S n).tx.size:=by omega
    have FIN:Hid (Pp.dA S (n:Int) m=0/\Pp.gE S (n:Int) m=(S n).tx.extract 0 k):=hZ ⟨e,by unfold Pp.gE;rw[aJ e,hU,hk]⟩;have LD:Hid (∀W,db W b S->(loadCells ⟨b,n*15,none⟩ k).run Tryz.prog W= .ok ((Pp.AY ((S n).tx.extract 0 k)).map (Value.int .u8)).toArray W):=hZ (fun W hW=>hW.EG n 0 k n8 (aC k) kle ⟨b,n*15,none⟩ (fun _=>rfl));have CP:Hid (∀W ty,db W b S->(Builtin.copy_ #[316,316] ty #[.slice (some ⟨b,n*15,none⟩) 12 12, .slice (some (if 12=k then⟨b,n*15,none⟩else⟨b,n*15+k,none⟩)) ((S n).tx.size-k) (12-k)]).run Tryz.prog W= .ok (goInt (((S n).tx.size-k:Nat):Int)) (W.setCells b (n*15) (Pp.dQ ((S n).tx.extract k (S n).tx.size)))):=hZ (fun W ty hW=>hW.OB n k n8 kle _ (fun hlt=>aI (by omega)) _ _);have MID:Hid (∀V,db V b S->db ((V.setCells b (n*15) (Pp.dQ ((S n).tx.extract k (S n).tx.size))).setCell ⟨b,n*15+12,none⟩ (.int .i64 (((S n).tx.size-k:Nat):Int))) b (Pp.mM S (n:Int) m)/\(∀o,(V.setCells b (n*15) (Pp.dQ ((S n).tx.extract k (S n).tx.size))).frozen? ⟨b,o,none⟩=false)/\(V.setCells b (n*15) (Pp.dQ ((S n).tx.extract k (S n).tx.size))).cell? ⟨b,n*15+12,none⟩=some (.int .i64 ((S n).tx.size:Int))):=hZ (fun V hV=>by
     unfold Pp.mM;rw[aJ e,hU,hk];obtain⟨C,T,h1,_⟩:=hV.cv;obtain⟨C',k1,_⟩:=Pp.ij b (Pp.dQ ((S n).tx.extract k (S n).tx.size)) (n*15) V C h1;exact⟨hV.QB n n8 k kle,fun o=>bf k1 o,by rw[aA b _ _ V ⟨b,n*15+12,none⟩ (fun _ _=>by rw[Pp.iZ,ByteArray.size_extract];show n*15+12<_\/_<=n*15+12;omega)];exact hV.many n n8⟩)
    have FR:Hid (∀V,af b w V->af b w (V.setCells b (n*15) (Pp.dQ ((S n).tx.extract k (S n).tx.size)))):=hZ (fun V hV=>Pp.iA _ _ hV);have SZ:Hid (((S n).tx.extract 0 k).size=k):=hZ (by rw[ByteArray.size_extract];omega);have ST:Hid ((Pp.AY ((S n).tx.extract 0 k)).foldl (fun r n=>r.push (UInt8.ofNat n.toNat)) ByteArray.empty=(S n).tx.extract 0 k):=hZ (Pp.Nq _);generalize Pp.dQ ((S n).tx.extract k (S n).tx.size)=L at*;generalize (S n).tx.extract 0 k=g at*;generalize (S n).writes=uu at*;generalize (S n).tx.size=mm at*;have mk:min m (mm:Int)=(k:Int):=by omega
    have mk2:(if(mm:Int)<m then(mm:Int)else m)=(k:Int):=by split<;>omega
    have kI:(k:Int)<=12:=by omega
    have kmI:(k:Int)<=(mm:Int):=by omega
    have mI:(mm:Int)<=12:=by omega
    clear h c EW no e t0 hk;by_cases m1:0<m
    ·by_cases s0:mm=0
     ·have u1: ¬(0:Int)<(uu:Int):=by omega
      have s1:((mm:Int)==0)=true:=by simp;omega
      have cf:=HF.out.frozen;clear ag s0;go_in
      go_wp2_with fail
      refine(ib b n false S _ HF.out).mono ?_;rintro e w1 ⟨rfl,hw1⟩;subst w1;rw[EP.out.1,EP.out.2,aa];go_upto_region 8 with fail
      refine wp_region_quiet_lit (by kernel_rfl) (by kernel_rfl) ?_
      repeat (quiet_step (fail))
      refine Pp.qH rfl _ rfl ⟨b,n*15,none⟩ k 12 rfl _ g ST.out (fun w' hC=>by obtain⟨q,rfl⟩:=hC;exact LD.out _ (HF.out.drewN q)) ?_
      repeat (quiet_step (fail))
      refine wpQuiet_nil ?_;intro _ hw';obtain⟨nq,hw''⟩:=hw';subst hw'';have HD:=hZ (HF.out.drewN nq);have FD:=hZ ((af.refl b w).drewN nq);have c1d:(w.drewN nq).cell? ⟨b,n*15+12,none⟩=some (.int .i64 (mm:Int)):=c1;generalize w.drewN nq=W1 at HD FD c1d|-;clear c1 c2 cf;have sz:=SZ.out;have M:=MID.out _ HD.out.drew;have F2:=hZ (FR.out _ FD.out.drew);have CP2:=hZ (fun ty=>CP.out _ ty HD.out.drew);generalize W1.drew.setCells b (n*15) L=W at M F2 CP2;obtain⟨M0,cf2,d2⟩:=M;have M1:=hZ M0;clear M0 CP MID FR LD;go_upto_region 9 with fail
      go_region_law (refine Pp.nu rfl _ _ 316 316 rfl (.slice (some ⟨b,n*15,none⟩) 12 12) (.slice (some (if 12=k then⟨b,n*15,none⟩else⟨b,n*15+k,none⟩)) (mm-k) (12-k)) _ _ (by simp[Act.eval,Act.put]) (by simp[Act.eval,Act.put]) (CP2.out _) ?_)
      generalize (if 12=k then(⟨b,n*15,none⟩:Addr)else⟨b,n*15+k,none⟩)=ad;go_wp2
      go_ret2
      rw[FIN.out.1,FIN.out.2];exact⟨rfl,M1.out,F2.out.setCell _ _⟩
     ·have s1:((mm:Int)==0)=false:=by simp;omega
      have cf:=HF.out.frozen;clear ag s0;go_in
      go_wp2_with fail
      refine(ib b n false S _ HF.out).mono ?_;rintro e w1 ⟨rfl,hw1⟩;subst w1;rw[EP.out.1,EP.out.2,aa];go_upto_region 8 with fail
      refine wp_region_quiet_lit (by kernel_rfl) (by kernel_rfl) ?_
      repeat (quiet_step (fail))
      refine Pp.qH rfl _ rfl ⟨b,n*15,none⟩ k 12 rfl _ g ST.out (fun w' hC=>by obtain⟨q,rfl⟩:=hC;exact LD.out _ (HF.out.drewN q)) ?_
      repeat (quiet_step (fail))
      refine wpQuiet_nil ?_;intro _ hw';obtain⟨nq,hw''⟩:=hw';subst hw'';have HD:=hZ (HF.out.drewN nq);have FD:=hZ ((af.refl b w).drewN nq);have c1d:(w.drewN nq).cell? ⟨b,n*15+12,none⟩=some (.int .i64 (mm:Int)):=c1;generalize w.drewN nq=W1 at HD FD c1d|-;clear c1 c2 cf;have sz:=SZ.out;have M:=MID.out _ HD.out.drew;have F2:=hZ (FR.out _ FD.out.drew);have CP2:=hZ (fun ty=>CP.out _ ty HD.out.drew);generalize W1.drew.setCells b (n*15) L=W at M F2 CP2;obtain⟨M0,cf2,d2⟩:=M;have M1:=hZ M0;clear M0 CP MID FR LD;go_upto_region 9 with fail
      go_region_law (refine Pp.nu rfl _ _ 316 316 rfl (.slice (some ⟨b,n*15,none⟩) 12 12) (.slice (some (if 12=k then⟨b,n*15,none⟩else⟨b,n*15+k,none⟩)) (mm-k) (12-k)) _ _ (by simp[Act.eval,Act.put]) (by simp[Act.eval,Act.put]) (CP2.out _) ?_)
      generalize (if 12=k then(⟨b,n*15,none⟩:Addr)else⟨b,n*15+k,none⟩)=ad;go_wp2
      go_ret2
      rw[FIN.out.1,FIN.out.2];exact⟨rfl,M1.out,F2.out.setCell _ _⟩
    ·have cf:=HF.out.frozen;go_in
     go_wp2_with fail
     refine(ib b n false S _ HF.out).mono ?_;rintro e w1 ⟨rfl,hw1⟩;subst w1;rw[EP.out.1,EP.out.2,aa];go_upto_region 8 with fail
     refine wp_region_quiet_lit (by kernel_rfl) (by kernel_rfl) ?_
     repeat (quiet_step (fail))
     refine Pp.qH rfl _ rfl ⟨b,n*15,none⟩ k 12 rfl _ g ST.out (fun w' hC=>by obtain⟨q,rfl⟩:=hC;exact LD.out _ (HF.out.drewN q)) ?_
     repeat (quiet_step (fail))
     refine wpQuiet_nil ?_;intro _ hw';obtain⟨nq,hw''⟩:=hw';subst hw'';have HD:=hZ (HF.out.drewN nq);have FD:=hZ ((af.refl b w).drewN nq);have c1d:(w.drewN nq).cell? ⟨b,n*15+12,none⟩=some (.int .i64 (mm:Int)):=c1;generalize w.drewN nq=W1 at HD FD c1d|-;clear c1 c2 cf;have sz:=SZ.out;have M:=MID.out _ HD.out.drew;have F2:=hZ (FR.out _ FD.out.drew);have CP2:=hZ (fun ty=>CP.out _ ty HD.out.drew);generalize W1.drew.setCells b (n*15) L=W at M F2 CP2;obtain⟨M0,cf2,d2⟩:=M;have M1:=hZ M0;clear M0 CP MID FR LD;go_upto_region 9 with fail
     go_region_law (refine Pp.nu rfl _ _ 316 316 rfl (.slice (some ⟨b,n*15,none⟩) 12 12) (.slice (some (if 12=k then⟨b,n*15,none⟩else⟨b,n*15+k,none⟩)) (mm-k) (12-k)) _ _ (by simp[Act.eval,Act.put]) (by simp[Act.eval,Act.put]) (CP2.out _) ?_)
     generalize (if 12=k then(⟨b,n*15,none⟩:Addr)else⟨b,n*15+k,none⟩)=ad;go_wp2
     go_ret2
     rw[FIN.out.1,FIN.out.2];exact⟨rfl,M1.out,F2.out.setCell _ _⟩
 ·have E2:Hid (jQ b z (Pp.gd S z false)= .pointer none/\aq (Pp.gd S z false)= .iface 100 (.int .i64 (Pp.gd S z false))/\Pp.dA S z m=Pp.gd S z false/\Pp.gE S z m=⟨#[]⟩/\Pp.mM S z m=S):=hZ (by
   have e:Pp.dA S z m=Pp.gd S z false:=aJ c;exact⟨mB c,aj c,e,by unfold Pp.gE;rw[e,aI c],by unfold Pp.mM;rw[e,aI c]⟩)
  clear h c;go_in
  go_wp2_with fail
  refine(ib b z false S _ HF.out).mono ?_;rintro e w1 ⟨rfl,hw1⟩;subst w1;rw[E2.out.1,E2.out.2.1];go_wp2
  go_ret2
  rw[E2.out.2.2.1,E2.out.2.2.2.1,E2.out.2.2.2.2,E2.out.2.1];exact⟨rfl,HF.out,af.refl _ _⟩
namespace Fx
structure Fi where
 kind:Nat
 num:Nat
 wr:Bool
 pos:Nat
 refs:Nat
def Fi.no:Fi:=⟨0,0,false,0,0⟩
def put (T:Nat->Fi)(n:Nat)(x:Fi):Nat->Fi:=fun m=>if m=n then x else T m
theorem ai (T:Nat->Fi)(n:Nat)(x:Fi):put T n x n=x:=aJ rfl
theorem ao (T:Nat->Fi)(n:Nat)(x:Fi)(m:Nat)(h:m≠n):put T n x m=T m:=aI h
theorem fD (T:Nat->Fi)(n:Nat)(x y:Fi):put (put T n x) n y=put T n y:=by
 funext m;unfold put;split<;>rfl
def dC (x:Fi):Nat->Value
 |0=> .int .i64 (x.kind:Int)
 |1=> .int .i64 (x.num:Int)
 |2=> .bool x.wr
 |3=> .int .i64 (x.pos:Int)
 |_=> .int .i64 (x.refs:Int)
def arr (x:Fi):Array Value:=#[.int .i64 (x.kind:Int), .int .i64 (x.num:Int), .bool x.wr, .int .i64 (x.pos:Int), .int .i64 (x.refs:Int)]
def cE (T:Nat->Fi)(z:Int):Int:=if z<0\/23<z then 1 else if(T z.toNat).refs=0 then 2 else 0
theorem jz {T:Nat->Fi}{z:Int}(h:cE T z=0): ∃n:Nat,z=n/\n<24/\(T n).refs≠0:=by
 unfold cE at h;by_cases c:z<0\/23<z
 ·rw[aJ c]at h;omega
 ·rw[aI c]at h;refine⟨z.toNat,by omega,by omega,fun d=>?_⟩;rw[aJ d]at h;omega
def bG (T:Nat->Fi):Nat->Nat
 |0=>0
 |n+1=>bG T n+if(T n).refs=0 then 0 else 1
theorem lW (T:Nat->Fi): ∀n,bG T n<=n
 |0=>aL 0
 |n+1=>by
  have:=lW T n;unfold bG;split<;>omega
theorem Bt (T:Nat->Fi): ∀n,bG T n<n-> ∃m,m<n/\(T m).refs=0/\ ∀k,k<m->(T k).refs≠0
 |0,h=>aZ h (Nat.not_lt_zero _)
 |n+1,h=>by
  by_cases c:bG T n<n
  ·obtain⟨m,h1,h2,h3⟩:=Bt T n c;exact⟨m,by omega,h2,h3⟩
  ·have hl:=lW T n;unfold bG at h;by_cases d:(T n).refs=0
   ·refine⟨n,by omega,d,fun k hk e=>?_⟩;have: ∀n,bG T n=n-> ∀k,k<n->(T k).refs≠0:=by
     intro n
     induction n with
     |zero=>intro _ k hk;omega
     |succ n ih=>
      intro hc k hk e;have hl:=lW T n;unfold bG at hc;by_cases g:(T n).refs=0
      ·rw[aJ g]at hc;omega
      ·by_cases j:k=n
       ·subst j;exact g e
       ·exact ih (by rw[aI g]at hc;omega) k (by omega) e
    exact this n (by omega) k hk e
   ·rw[aI d]at h;omega
def sd (T:Nat->Fi)(n:Nat):Prop:=n<24/\(T n).refs=0/\ ∀k,k<n->(T k).refs≠0
theorem Bn {T:Nat->Fi}(h:bG T 24<24): ∃n,sd T n:=by
 obtain⟨m,h1,h2,h3⟩:=Bt T 24 h;exact⟨m,h1,h2,h3⟩
end Fx
open Fx (Fi)
structure dy (w:bD)(t b p:Nat)(T:Nat->Fi):Prop where
 cv: ∃C Ty,w.heap[t]? =some (.cells C Ty (0,0))/\C.size=122
 fo:w.cell? ⟨t,0,none⟩=some (.pointer (some ⟨b,0,none⟩))
 pi:w.cell? ⟨t,1,none⟩=some (.pointer (some ⟨p,0,none⟩))
 cell: ∀n,n<24-> ∀i,i<5->w.cell? ⟨t,2+n*5+i,none⟩=some (Fx.dC (T n) i)
section
variable {w w' : bD} {t b p : Nat} {T : Nat -> Fi}
theorem dy.lt (h:dy w t b p T):t<w.heap.size:=by
 obtain⟨C,Ty,e,_⟩:=h.cv;exact(aX.1 e).1
theorem dy.frozen (h:dy w t b p T)(o:Nat):w.frozen? ⟨t,o,none⟩=false:=by
 obtain⟨C,Ty,e,_⟩:=h.cv;exact bf e o
theorem dy.same (h:dy w t b p T)(e:w'.heap[t]? =w.heap[t]?):dy w' t b p T:=by
 have hc: ∀o,w'.cell? ⟨t,o,none⟩=w.cell? ⟨t,o,none⟩:=fun o=>aV e;exact⟨by rw[e];exact h.cv,(hc _).trans h.fo,(hc _).trans h.pi,fun n hn i hi=>(hc _).trans (h.cell n hn i hi)⟩
theorem dy.drew (h:dy w t b p T):dy w.drew t b p T:=h.same rfl
theorem dy.below {B:Nat}(h:dy w t b p T)(k:Below B w w')(hb:t<B):dy w' t b p T:=h.same (k.block t hb)
theorem dy.jW {c:Nat}(h:dy w t b p T)(k:af c w w')(hb:t≠c):dy w' t b p T:=h.same (k.block t h.lt hb)
theorem dy.kind (h:dy w t b p T)(n:Nat)(hn:n<24):w.cell? ⟨t,2+n*5,none⟩=some (.int .i64 ((T n).kind:Int)):=h.cell n hn 0 (by omega)
theorem dy.num (h:dy w t b p T)(n:Nat)(hn:n<24):w.cell? ⟨t,2+n*5+1,none⟩=some (.int .i64 ((T n).num:Int)):=h.cell n hn 1 (by omega)
theorem dy.wr (h:dy w t b p T)(n:Nat)(hn:n<24):w.cell? ⟨t,2+n*5+2,none⟩=some (.bool (T n).wr):=h.cell n hn 2 (by omega)
theorem dy.pos (h:dy w t b p T)(n:Nat)(hn:n<24):w.cell? ⟨t,2+n*5+3,none⟩=some (.int .i64 ((T n).pos:Int)):=h.cell n hn 3 (by omega)
theorem dy.refs (h:dy w t b p T)(n:Nat)(hn:n<24):w.cell? ⟨t,2+n*5+4,none⟩=some (.int .i64 ((T n).refs:Int)):=h.cell n hn 4 (by omega)
theorem dy.set (h:dy w t b p T)(n:Nat)(hn:n<24)(i:Nat)(hi:i<5)(x:Fi)(hx: ∀j,j<5->j≠i->Fx.dC x j=Fx.dC (T n) j):dy (w.setCell ⟨t,2+n*5+i,none⟩ (Fx.dC x i)) t b p (Fx.put T n x):=by
 obtain⟨C,Ty,h1,h2⟩:=h.cv;have ne: ∀o,o≠2+n*5+i->(w.setCell ⟨t,2+n*5+i,none⟩ (Fx.dC x i)).cell? ⟨t,o,none⟩=w.cell? ⟨t,o,none⟩:=fun o ho=>cC h1 _ _ _ (bQ ho);refine⟨⟨_,Ty,bC h1 _ _,by simpa using h2⟩,(ne _ (by omega)).trans h.fo,(ne _ (by omega)).trans h.pi,fun m hm j hj=>?_⟩;by_cases c:m=n
 ·subst c;rw[Fx.ai];by_cases d:j=i
  ·subst d;exact cL h1 _ _ (by omega)
  ·rw[ne _ (by omega),hx j hj d];exact h.cell m hm j hj
 ·rw[Fx.ao _ _ _ _ c,ne _ (by omega)];exact h.cell m hm j hj
theorem dy.qb (h:dy w t b p T)(n:Nat)(hn:n<24)(k:Nat):dy (w.setCell ⟨t,2+n*5+4,none⟩ (.int .i64 (k:Int))) t b p (Fx.put T n {T n with refs:=k}):=
 h.set n hn 4 (by omega) {T n with refs:=k} (fun j hj d=>by
  match j,hj,d with
  |0,_,_=>rfl
  |1,_,_=>rfl
  |2,_,_=>rfl
  |3,_,_=>rfl
  |4,_,d=>exact aZ rfl d)
theorem dy.setPos (h:dy w t b p T)(n:Nat)(hn:n<24)(k:Nat):dy (w.setCell ⟨t,2+n*5+3,none⟩ (.int .i64 (k:Int))) t b p (Fx.put T n {T n with pos:=k}):=
 h.set n hn 3 (by omega) {T n with pos:=k} (fun j hj d=>by
  match j,hj,d with
  |0,_,_=>rfl
  |1,_,_=>rfl
  |2,_,_=>rfl
  |3,_,d=>exact aZ rfl d
  |4,_,_=>rfl)
theorem dy.Fy (h:dy w t b p T)(n:Nat)(hn:n<24)(x:Fi):dy (w.setCells t (2+n*5) (Fx.arr x).toList) t b p (Fx.put T n x):=by
 obtain⟨C,Ty,h1,h2⟩:=h.cv;obtain⟨C',k1,k2⟩:=Pp.ij t (Fx.arr x).toList (2+n*5) w C h1;have out: ∀o,o<2+n*5\/2+n*5+5<=o->(w.setCells t (2+n*5) (Fx.arr x).toList).cell? ⟨t,o,none⟩=w.cell? ⟨t,o,none⟩:=fun o ho=>aA t _ _ w ⟨t,o,none⟩ (fun _ _=>by show o<_\/_<=o;exact ho);refine⟨⟨C',Ty,k1,by omega⟩,(out _ (by omega)).trans h.fo,(out _ (by omega)).trans h.pi,fun m hm j hj=>?_⟩;by_cases c:m=n
 ·subst c;rw[Fx.ai,aS t (Fx.arr x).toList (2+m*5) w (fun i hi=>by have:i<5:=hi;rw[h.cell m hm i this];rfl) j hj]
  match j,hj with
  |0,_=>rfl
  |1,_=>rfl
  |2,_=>rfl
  |3,_=>rfl
  |4,_=>rfl
 ·rw[Fx.ao _ _ _ _ c,out _ (by omega)];exact h.cell m hm j hj
end
def jR (t:Nat)(z E:Int):Value:=if E=0 then .pointer (some ⟨t,2+z.toNat*5,none⟩)else .pointer none
theorem og (t n:Nat):jR t (n:Int) 0= .pointer (some ⟨t,2+n*5,none⟩):=by unfold jR;rw[aJ rfl,hU]
theorem mK {t:Nat}{z E:Int}(h:E≠0):jR t z E= .pointer none:=aI h
theorem dB (t b p:Nat)(z:Int)(T:Nat->Fi)(w:bD)(h:dy w t b p T):
  Calls Tryz.prog 156 #[.pointer (some ⟨t,0,none⟩), .int .i64 z] w fun e w'=>e= .returned (.tuple #[jR t z (Fx.cE T z),aq (Fx.cE T z)])/\w'=w:=by
 by_cases c:z<0\/23<z
 ·have E:Hid (Fx.cE T z=1):=hZ (aJ c);have E2:Hid (jR t z 1= .pointer none):=hZ (mK (by decide));by_cases c1:z<0
  ·clear c h;go_in
   go_wp2
   go_ret2
   rw[E.out,E2.out];exact⟨rfl,rfl⟩
  ·have c2:24<=z:=by omega
   clear c h;go_in
   go_wp2
   go_ret2
   rw[E.out,E2.out];exact⟨rfl,rfl⟩
 ·obtain⟨n,rfl⟩: ∃n:Nat,z=n:=⟨z.toNat,by omega⟩;have n24:n<24:=by omega
  have n24i:(n:Int)<24:=by omega
  have E:Fx.cE T (n:Int)=if(T n).refs=0 then 2 else 0:=by unfold Fx.cE;rw[aI c,hU]
  have c4:=h.refs n n24;by_cases d:(T n).refs=0
  ·have E1:Hid (Fx.cE T (n:Int)=2/\jR t (n:Int) 2= .pointer none):=hZ ⟨by rw[E,aJ d],mK (by decide)⟩;rw[d]at c4;have c4':w.cell? ⟨t,2+n*5+4,none⟩=some (.int .i64 0):=c4;clear c h d E c4;go_in
   go_wp2
   go_ret2
   rw[E1.out.1,E1.out.2];exact⟨rfl,rfl⟩
  ·have E1:Hid (Fx.cE T (n:Int)=0/\jR t (n:Int) 0= .pointer (some ⟨t,2+n*5,none⟩)):=hZ ⟨by rw[E,aI d],og t n⟩;generalize (T n).refs=rr at*;have d1:((rr:Int)==0)=false:=by simp;omega
   clear c h d E;go_in
   go_wp2
   go_ret2
   rw[E1.out.1,E1.out.2];exact⟨rfl,rfl⟩
theorem Gh (t b p:Nat)(T:Nat->Fi)(w:bD)(h:dy w t b p T):
  Calls Tryz.prog 81 #[.pointer (some ⟨t,0,none⟩)] w fun e w'=>e= .returned (.int .i64 (Fx.bG T 24:Int))/\w'=w:=by
 have HF:=hZ h;clear h;go_in
 go_wp2_with fail
 go_loopw [3,4,5] (fun c x i wr=> ∃(n:Nat),i= .int .i64 n/\c= .int .i64 (Fx.bG T n:Int)/\n<=24/\wr=w) (fun _ _ i _=>24-(intOf i).toNat)
 case atStart=>exact⟨0,rfl,rfl,by omega,rfl⟩
 case round=>
  obtain⟨n,rfl,rfl,hn,hwr⟩:=hrel;subst wr;by_cases hlt:n<24
  ·have hltI:(n:Int)<24:=by omega
   have lc:=Fx.lW T n;have LS:Fx.bG T (n+1)=Fx.bG T n+if(T n).refs=0 then 0 else 1:=rfl;have c4:=HF.out.refs n hlt;generalize Fx.bG T n=cn at*;by_cases d:(T n).refs=0
   ·rw[aJ d]at LS;have LL:=hZ LS;have d1: ¬(0:Int)<((T n).refs:Int):=by omega
    generalize (T n).refs=rr at*;clear d LS;go_wp2
    go_roundw
    case rel=>exact⟨n+1,by go_num,by rw[LL.out];rfl,by omega,by first|rfl|trivial⟩
    case measure=>simp[intOf];omega
   ·rw[aI d]at LS;have LL:=hZ LS;have d1:(0:Int)<((T n).refs:Int):=by omega
    generalize (T n).refs=rr at*;clear d LS;go_wp2
    go_roundw
    case rel=>exact⟨n+1,by go_num,by rw[LL.out];go_num,by omega,by first|rfl|trivial⟩
    case measure=>simp[intOf];omega
  ·have hltI: ¬(n:Int)<24:=by omega
   obtain rfl:n=24:=by omega
   go_wp2
   go_ret
   exact⟨rfl,rfl⟩
theorem ng (t b p:Nat)(m:Int)(T:Nat->Fi)(w:bD)(h:dy w t b p T):
  Calls Tryz.prog 197 #[.pointer (some ⟨t,0,none⟩), .int .i64 m] w fun e w'=>e= .returned (.bool (decide (m<=24-(Fx.bG T 24:Int))))/\w'=w:=by
 have HF:=hZ h;have lc:=Fx.lW T 24;have hw:IntKind.i64.wrap (24-(Fx.bG T 24:Int))=24-(Fx.bG T 24:Int):=aN _ ⟨by omega,by omega⟩;clear h;go_in
 go_wp2_with fail
 refine(Gh t b p T _ HF.out).mono ?_;rintro e w1 ⟨rfl,hw1⟩;subst w1;go_wp2
 go_ret
 exact⟨rfl,rfl⟩

import Derived.Test.YtpmmdkcfenjiaaaGreatDoorVar
set_option linter.unusedVariables false
set_option linter.unusedSimpArgs false
set_option maxRecDepth 100000
set_option maxHeartbeats 2000000
namespace Go.Proofs.YtpmmdkcfenjiaaaGreatDoor
open Go.RowKit
open Fx (Fi)
open Tr (Fo Nd)
open Pp (Pi)
structure cR (t b p:Nat)(w w':bD):Prop where
 os:w'.os=w.os
 tape:w'.tape=w.tape
 output:w'.output=w.output
 size:w.heap.size<=w'.heap.size
 block: ∀k,k<w.heap.size->k≠t->k≠b->k≠p->w'.heap[k]? =w.heap[k]?
section
variable {t b p : Nat} {u v w : bD}
theorem cR.refl (t b p:Nat)(w:bD):cR t b p w w:=⟨rfl,rfl,rfl,aL _,fun _ _ _ _ _=>rfl⟩
theorem cR.trans (h:cR t b p u v)(k:cR t b p v w):cR t b p u w:=⟨k.os.trans h.os,k.tape.trans h.tape,k.output.trans h.output,aH h.size k.size,fun j hj h1 h2 h3=>(k.block j (aD hj h.size) h1 h2 h3).trans (h.block j hj h1 h2 h3)⟩
theorem cR.tb (h:af t v w):cR t b p v w:=⟨h.os,h.tape,h.output,h.size,fun j hj h1 _ _=>h.block j hj h1⟩
theorem cR.fo (h:af b v w):cR t b p v w:=⟨h.os,h.tape,h.output,h.size,fun j hj _ h2 _=>h.block j hj h2⟩
theorem cR.pi (h:af p v w):cR t b p v w:=⟨h.os,h.tape,h.output,h.size,fun j hj _ _ h3=>h.block j hj h3⟩
theorem cR.below (h:Below v.heap.size v w):cR t b p v w:=⟨h.os,h.tape,h.output,h.size,fun j hj _ _ _=>h.block j hj⟩
end
theorem af.fresh {t bx:Nat}{w W:bD}(f:af t w W)(h:w.heap.size<=bx)(o:Nat)(v:Value):af t w (W.setCell ⟨bx,o,none⟩ v):=
 ⟨f.os,f.tape,f.output,by simpa[World.setCell]using f.size,fun k hk hn=>(dD _ _ _ _ (by omega)).trans (f.block k hk hn)⟩
def FX (w:bD)(t b p:Nat)(T:Nat->Fi)(F:Fo)(S:Nat->Pi):Prop:=dy w t b p T/\ar w b F/\db w p S/\t≠b/\t≠p/\b≠p
section
variable {w w' : bD} {t b p : Nat} {T T' : Nat -> Fi} {F F' : Fo} {S S' : Nat -> Pi}
theorem FX.tb (h:FX w t b p T F S)(k:dy w' t b p T')(f:af t w w'):FX w' t b p T' F S:=⟨k,h.2.1.same (f.block b h.2.1.lt (bQ h.2.2.2.1)),h.2.2.1.jW f (bQ h.2.2.2.2.1),h.2.2.2⟩
theorem FX.fo (h:FX w t b p T F S)(k:ar w' b F')(f:af b w w'):FX w' t b p T F' S:=⟨h.1.jW f h.2.2.2.1,k,h.2.2.1.jW f (bQ h.2.2.2.2.2),h.2.2.2⟩
theorem FX.pi (h:FX w t b p T F S)(k:db w' p S')(f:af p w w'):FX w' t b p T F S':=⟨h.1.jW f h.2.2.2.2.1,h.2.1.same (f.block b h.2.1.lt h.2.2.2.2.2),k,h.2.2.2⟩
theorem FX.below (h:FX w t b p T F S)(f:Below w.heap.size w w'):FX w' t b p T F S:=⟨h.1.below f h.1.lt,h.2.1.below f,h.2.2.1.below f h.2.2.1.lt,h.2.2.2⟩
end
def Fx.fj:Nat->Fi:=fun _=>Fi.no
def Fx.zT:Array Value:=((List.range 122).map fun o=>if o<2 then Value.pointer none else if o%5=4 then Value.bool false else Value.int .i64 0).toArray
theorem Fx.PJ (o:Nat)(h:o<122):Fx.zT[o]? =some (if o<2 then Value.pointer none else if o%5=4 then Value.bool false else Value.int .i64 0):=by simp[Fx.zT,h]
theorem Fx.zeroV (w:bD):(zeroValue 212).run Tryz.prog w= .ok (.agg Fx.zT) w:=by kernel_rfl
def Fx.kY (P0 P1:Value):Array Value:=(Fx.zT.setIfInBounds 0 P0).setIfInBounds 1 P1
theorem dy.new {w:bD}{t b p:Nat}{Ty:TypeId}(h:w.heap[t]? =some (.cells (Fx.kY (.pointer (some ⟨b,0,none⟩)) (.pointer (some ⟨p,0,none⟩))) Ty (0,0))):dy w t b p Fx.fj:=by
 have sz:Fx.zT.size=122:=by simp[Fx.zT]
 refine⟨⟨_,Ty,h,by simp[Fx.kY,sz]⟩,?_,?_,fun n hn i hi=>?_⟩
 ·rw[au h];unfold Fx.kY;rw[aU (by omega),aE (by omega)]
 ·rw[au h];unfold Fx.kY;rw[aE (by simp[sz])]
 ·rw[au h];unfold Fx.kY;rw[aU (by omega),aU (by omega),Fx.PJ _ (by omega),aI (by omega)]
  match i,hi with
  |0,_=>rw[aI (by omega)];rfl
  |1,_=>rw[aI (by omega)];rfl
  |2,_=>rw[aJ (by omega)];rfl
  |3,_=>rw[aI (by omega)];rfl
  |4,_=>rw[aI (by omega)];rfl
section
variable {ops : Array Oper} {rest : List Oper} {x : Oper} {a : Act} {w : bD} {Q : Exit -> Act -> bD -> Prop}
theorem Fx.II (hgd:x.guard=none)(y0 y1:Operand)(P0 P1:Option Addr)(ho:x.op= .build 212 #[(0,y0),(1,y1)])(h0:a.eval y0= .pointer P0)(h1:a.eval y1= .pointer P1)(h:wpList Tryz.prog ops Q rest (a.put x.dst (.agg (Fx.kY (.pointer P0) (.pointer P1)))) w):wpList Tryz.prog ops Q (x::rest) a w:=
 wpList_plain hgd fun _ hK=>by
  unfold Oper.wp execOp;have hz:=Fx.zeroV w;simp only[ho,List.map_toArray,List.map_cons,List.map_nil,h0,h1];simp[go_sem,hz];exact hK _ _ h
end
theorem Jf (b p:Nat)(w:bD):Calls Tryz.prog 88 #[.pointer (some ⟨b,0,none⟩), .pointer (some ⟨p,0,none⟩)] w fun e w'=>e= .returned (.pointer (some ⟨w.heap.size,0,none⟩))/\dy w' w.heap.size b p Fx.fj/\Below w.heap.size w w':=by
 have FIN:Hid (dy (w.alloc (.cells (Fx.kY (.pointer (some ⟨b,0,none⟩)) (.pointer (some ⟨p,0,none⟩))) 212)) w.heap.size b p Fx.fj/\Below w.heap.size w (w.alloc (.cells (Fx.kY (.pointer (some ⟨b,0,none⟩)) (.pointer (some ⟨p,0,none⟩))) 212))):=hZ ⟨dy.new (heap_alloc_new w _),(aQ _ _).alloc (aL _) _⟩;obtain⟨A,hA⟩:=nJ (Fx.kY (.pointer (some ⟨b,0,none⟩)) (.pointer (some ⟨p,0,none⟩)));rw[hA]at FIN;go_in
 go_wp2_with (refine Fx.II rfl _ _ _ _ rfl rfl rfl ?_;rw[hA])
 go_ret
 exact⟨rfl,FIN.out⟩
theorem uT (t b p:Nat)(x:Fi)(n:Nat)(T:Nat->Fi)(w:bD)(h:dy w t b p T)(hl:Fx.sd T n):
  Calls Tryz.prog 243 #[.pointer (some ⟨t,0,none⟩), .agg #[.int .i64 (x.kind:Int), .int .i64 (x.num:Int), .bool x.wr, .int .i64 (x.pos:Int), .int .i64 (x.refs:Int)]] w fun e w'=>e= .returned (.int .i64 (n:Int))/\dy w' t b p (Fx.put T n {x with refs:=1})/\af t w w':=by
 have HF:=hZ h;have HL:=hZ hl;have hlt:=h.lt;have NE:Hid (w.heap.size≠t):=hZ (by omega);clear h hl hlt;obtain⟨kd,nm,wb,ps,rf⟩:=x;go_in
 go_upto_region 1 with fail
 refine bw (fun W'=>dy W' t b p T/\af t w W'/\W'.heap[w.heap.size]? =some (.cells #[.int .i64 (kd:Int), .int .i64 (nm:Int), .bool wb, .int .i64 (ps:Int), .int .i64 (rf:Int)] 197 (0,0))) (by
  have bb:=(aQ w.heap.size w).alloc (aL _) (.cells #[.int .i64 (kd:Int), .int .i64 (nm:Int), .bool wb, .int .i64 (ps:Int), .int .i64 (rf:Int)] 197);exact⟨HF.out.below bb HF.out.lt,af.bB bb,heap_alloc_new w _⟩) ?_
 rintro W1 ⟨h1,f1,x1⟩;have H1:=hZ h1;have F1:=hZ f1;have X1:=hZ x1;clear h1 f1 x1 HF;obtain⟨bx,hbx⟩:=nJ (w.heap.size);have HB:=hZ hbx;rw[hbx]at X1 NE|-;clear hbx;go_wp2_with fail
 go_loopw [5] (fun i wr=> ∃(k:Nat),i= .int .i64 k/\k<=n/\wr=W1) (fun i _=>n-(intOf i).toNat)
 case atStart=>exact⟨0,rfl,by omega,rfl⟩
 case round=>
  obtain⟨k,rfl,hk,hwr⟩:=hrel;subst wr;have n24:n<24:=HL.out.1;have k24i:(k:Int)<24:=by omega
  have c4:=H1.out.refs k (by omega);by_cases e:k=n
  ·subst e;rw[HL.out.2.1]at c4;have c4':W1.cell? ⟨t,2+k*5+4,none⟩=some (.int .i64 0):=c4;clear c4;have cx:=bA X1.out 4 (.int .i64 (rf:Int)) rfl;have fx:=bf X1.out;have HS:dy (W1.setCell ⟨bx,4,none⟩ (.int .i64 1)) t b p T/\af t w (W1.setCell ⟨bx,4,none⟩ (.int .i64 1))/\(W1.setCell ⟨bx,4,none⟩ (.int .i64 1)).heap[bx]? =some (.cells #[.int .i64 (kd:Int), .int .i64 (nm:Int), .bool wb, .int .i64 (ps:Int), .int .i64 1] 197 (0,0)):=⟨H1.out.same (dD _ _ _ _ (bQ NE.out)),F1.out.fresh (Nat.le_of_eq HB.out) _ _,by rw[bC X1.out];rfl⟩;go_upto_region 5 with fail
   clear cx fx c4';generalize W1.setCell ⟨bx,4,none⟩ (.int .i64 1)=W2 at HS|-;obtain⟨s1,s2,s3⟩:=HS;have x0:=bA s3 0 (.int .i64 (kd:Int)) rfl;have x1:=bA s3 1 (.int .i64 (nm:Int)) rfl;have x2:=bA s3 2 (.bool wb) rfl;have x3:=bA s3 3 (.int .i64 (ps:Int)) rfl;have x4:=bA s3 4 (.int .i64 1) rfl;have y0:=s1.kind k n24;have y1:=s1.num k n24;have y2:=s1.wr k n24;have y3:=s1.pos k n24;have y4:=s1.refs k n24;have yf:=s1.frozen;have FIN:Hid (dy (W2.setCells t (2+k*5) (Fx.arr ⟨kd,nm,wb,ps,1⟩).toList).drew t b p (Fx.put T k ⟨kd,nm,wb,ps,1⟩)/\af t w (W2.setCells t (2+k*5) (Fx.arr ⟨kd,nm,wb,ps,1⟩).toList).drew):=hZ ⟨(s1.Fy k n24 _).drew,(Pp.iA _ _ s2).drew⟩;clear s1 s2 s3;go_region
   go_wp2
   go_ret
   exact⟨rfl,FIN.out⟩
  ·have d:=HL.out.2.2 k (by omega);generalize (T k).refs=rr at*;have d1:(0:Int)<(rr:Int):=by omega
   clear d;go_wp2
   go_roundw
   case rel=>exact⟨k+1,by go_num,by omega,by first|rfl|trivial⟩
   case measure=>simp[intOf];omega
def Fx.Sm (F:Fo)(S:Nat->Pi):Prop:=(∀n,n<40->(F.nd n).held<2^60)/\ ∀wr,∀n,n<8->Pp.jv (S n) wr<2^60
def Fx.ta (F:Fo)(x:Fi):Fo:=if x.kind=1 then Tr.cZ F (x.num:Int)else F
def Fx.ur (S:Nat->Pi)(x:Fi):Nat->Pi:=if x.kind=1 then S else Pp.oH S (x.num:Int) (decide (x.kind=3))
theorem KM (t b p:Nat)(x:Fi)(T:Nat->Fi)(F:Fo)(S:Nat->Pi)(w:bD)(h:FX w t b p T F S)(hs:Fx.Sm F S):
  Calls Tryz.prog 157 #[.pointer (some ⟨t,0,none⟩), .agg #[.int .i64 (x.kind:Int), .int .i64 (x.num:Int), .bool x.wr, .int .i64 (x.pos:Int), .int .i64 (x.refs:Int)]] w fun e w'=>e= .returned (.tuple #[])/\FX w' t b p T (Fx.ta F x) (Fx.ur S x)/\cR t b p w w':=by
 have HF:=hZ h;have HS:=hZ hs;have NE:Hid (w.heap.size≠t/\w.heap.size≠b/\w.heap.size≠p):=hZ ⟨Nat.ne_of_gt h.1.lt,Nat.ne_of_gt h.2.1.lt,Nat.ne_of_gt h.2.2.1.lt⟩;clear h hs;obtain⟨kd,nm,wb,ps,rf⟩:=x;have B0:Hid (FX (w.alloc (.cells #[.int .i64 (kd:Int), .int .i64 (nm:Int), .bool wb, .int .i64 (ps:Int), .int .i64 (rf:Int)] 197)) t b p T F S/\cR t b p w (w.alloc (.cells #[.int .i64 (kd:Int), .int .i64 (nm:Int), .bool wb, .int .i64 (ps:Int), .int .i64 (rf:Int)] 197))/\(w.alloc (.cells #[.int .i64 (kd:Int), .int .i64 (nm:Int), .bool wb, .int .i64 (ps:Int), .int .i64 (rf:Int)] 197)).heap[w.heap.size]? =some (.cells #[.int .i64 (kd:Int), .int .i64 (nm:Int), .bool wb, .int .i64 (ps:Int), .int .i64 (rf:Int)] 197 (0,0))):=hZ (by
  have bb:=(aQ w.heap.size w).alloc (aL _) (.cells #[.int .i64 (kd:Int), .int .i64 (nm:Int), .bool wb, .int .i64 (ps:Int), .int .i64 (rf:Int)] 197);exact⟨HF.out.below bb,cR.below bb,heap_alloc_new w _⟩)
 by_cases k1:kd=1
 ·subst k1;have EL:Hid (Fx.ta F ⟨1,nm,wb,ps,rf⟩=Tr.cZ F (nm:Int)/\Fx.ur S ⟨1,nm,wb,ps,rf⟩=S):=hZ ⟨aJ rfl,aJ rfl⟩;go_in
  go_upto_region 1 with fail
  refine bw (fun W'=>FX W' t b p T F S/\cR t b p w W'/\W'.heap[w.heap.size]? =some (.cells #[.int .i64 ((1:Nat):Int), .int .i64 (nm:Int), .bool wb, .int .i64 (ps:Int), .int .i64 (rf:Int)] 197 (0,0))) B0.out ?_;rintro W1 ⟨h1,f1,x1⟩;have H1:=hZ h1;have F1:=hZ f1;have y0:=bA x1 0 (.int .i64 1) rfl;have y1:=bA x1 1 (.int .i64 (nm:Int)) rfl;have y2:=h1.1.fo;have K0:=hZ (aK y2 y1);have X1:=hZ x1;clear h1 f1 x1 HF B0 y1 y2;generalize w.heap.size=bx at*;go_wp2_with fail
  go_region_held3 (fun w'=>w'.cell? ⟨t,0,none⟩=some (.pointer (some ⟨b,0,none⟩))/\w'.cell? ⟨bx,1,none⟩=some (.int .i64 (nm:Int))) (first|exact K0.out|exact K4.out) ((first|(go_at_call 226;refine(qR b nm F _ H1.out.2.1.drew HS.out.1).mono ?_;rintro e w4 ⟨rfl,u4,f4⟩;have f4':af b W1 w4:=⟨f4.os,f4.tape,f4.output,f4.size,f4.block⟩;have C4:=hZ (aK (H1.out.fo u4 f4') (F1.out.trans (cR.fo f4')));have K4:=hZ (aK C4.out.1.1.fo (bA ((f4'.block bx (aX.1 X1.out).1 NE.out.2.1).trans X1.out) 1 (.int .i64 (nm:Int)) rfl));clear u4 f4 f4')))
  go_wp2_with fail
  (try simp only[Exit.inBlock,Exit.then])
  refine bodyPost_ret (results_none rfl _ _ _) rfl ?_;rw[EL.out.1,EL.out.2];exact⟨rfl,C4.out⟩
 ·have EL:Hid (Fx.ta F ⟨kd,nm,wb,ps,rf⟩=F/\Fx.ur S ⟨kd,nm,wb,ps,rf⟩=Pp.oH S (nm:Int) (decide (kd=3))):=hZ ⟨aI k1,aI k1⟩;have k1':((kd:Int)==1)=false:=by simp;omega
  have k3:((kd:Int)==3)=decide (kd=3):=by
   by_cases d:kd=3
   ·subst d;rfl
   ·rw[aT d];simp;omega
  go_in
  go_upto_region 1 with fail
  refine bw (fun W'=>FX W' t b p T F S/\cR t b p w W'/\W'.heap[w.heap.size]? =some (.cells #[.int .i64 (kd:Int), .int .i64 (nm:Int), .bool wb, .int .i64 (ps:Int), .int .i64 (rf:Int)] 197 (0,0))) B0.out ?_;rintro W1 ⟨h1,f1,x1⟩;have H1:=hZ h1;have F1:=hZ f1;have y0:=bA x1 0 (.int .i64 (kd:Int)) rfl;have y1:=bA x1 1 (.int .i64 (nm:Int)) rfl;have y2:=h1.1.pi;have K0:=hZ (aK y2 (aK y1 y0));have X1:=hZ x1;clear h1 f1 x1 HF B0 y1 y2 k1;generalize w.heap.size=bx at*;go_wp2_with fail
  go_region_held3 (fun w'=>w'.cell? ⟨t,1,none⟩=some (.pointer (some ⟨p,0,none⟩))/\w'.cell? ⟨bx,1,none⟩=some (.int .i64 (nm:Int))/\w'.cell? ⟨bx,0,none⟩=some (.int .i64 (kd:Int))) (first|exact K0.out|exact K4.out) ((first|(go_at_call 227;refine(G8 p nm _ S _ H1.out.2.2.1.drew (HS.out.2 _)).mono ?_;rintro e w4 ⟨rfl,u4,f4⟩;have f4':af p W1 w4:=⟨f4.os,f4.tape,f4.output,f4.size,f4.block⟩;have C4:=hZ (aK (H1.out.pi u4 f4') (F1.out.trans (cR.pi f4')));have K4:=hZ (aK C4.out.1.1.pi (aK (bA ((f4'.block bx (aX.1 X1.out).1 NE.out.2.2).trans X1.out) 1 (.int .i64 (nm:Int)) rfl) (bA ((f4'.block bx (aX.1 X1.out).1 NE.out.2.2).trans X1.out) 0 (.int .i64 (kd:Int)) rfl)));clear u4 f4 f4')))
  go_wp2_with fail
  go_end0
  rw[EL.out.1,EL.out.2];exact⟨rfl,C4.out⟩
def Fx.iV (T:Nat->Fi)(z:Int):Nat->Fi:=if Fx.cE T z=0 then Fx.put T z.toNat {T z.toNat with refs:=(T z.toNat).refs+1}else T
theorem vK (t b p:Nat)(z:Int)(T:Nat->Fi)(w:bD)(h:dy w t b p T)(hr: ∀n,n<24->(T n).refs<2^60):
  Calls Tryz.prog 146 #[.pointer (some ⟨t,0,none⟩), .int .i64 z] w fun e w'=>e= .returned (aq (Fx.cE T z))/\dy w' t b p (Fx.iV T z)/\af t w w':=by
 have HF:=hZ h;by_cases c:Fx.cE T z=0
 ·obtain⟨n,rfl,n24,_⟩:=Fx.jz c;have EP:Hid (Fx.cE T (n:Int)=0/\jR t (n:Int) 0= .pointer (some ⟨t,2+n*5,none⟩)):=hZ ⟨c,og t n⟩;have c0:=h.refs n n24;have hl:=hr n n24;have FIN:Hid (dy (w.setCell ⟨t,2+n*5+4,none⟩ (.int .i64 (((T n).refs+1:Nat):Int))) t b p (Fx.iV T (n:Int))):=hZ (by
   unfold Fx.iV;rw[aJ c,hU];exact h.qb n n24 _)
  have cf:=h.frozen;generalize (T n).refs=k at*;have hw:IntKind.i64.wrap ((k:Int)+1)=(k:Int)+1:=aN _ ⟨by omega,by omega⟩;clear h c hr;go_in
  go_wp2_with fail
  refine(dB t b p n T _ HF.out).mono ?_;rintro e w1 ⟨rfl,hw1⟩;subst w1;rw[EP.out.1,EP.out.2,aa];go_wp2
  go_ret
  rw[EP.out.1];exact⟨rfl,FIN.out,(af.refl t w).setCell _ _⟩
 ·have E2:Hid (jR t z (Fx.cE T z)= .pointer none/\aq (Fx.cE T z)= .iface 100 (.int .i64 (Fx.cE T z))/\Fx.iV T z=T):=hZ ⟨mK c,aj c,aI c⟩;clear h c hr;go_in
  go_wp2_with fail
  refine(dB t b p z T _ HF.out).mono ?_;rintro e w1 ⟨rfl,hw1⟩;subst w1;rw[E2.out.1,E2.out.2.1];go_wp2
  go_ret
  rw[E2.out.2.2,E2.out.2.1];exact⟨rfl,HF.out,af.refl _ _⟩
def Fx.ry (T:Nat->Fi)(z:Int):Nat->Fi:=if Fx.cE T z=0 then Fx.put T z.toNat (if(T z.toNat).refs=1 then Fi.no else{T z.toNat with refs:=(T z.toNat).refs-1})else T
def Fx.qT (T:Nat->Fi)(F:Fo)(z:Int):Fo:=if Fx.cE T z=0/\(T z.toNat).refs=1 then Fx.ta F (T z.toNat)else F
def Fx.sv (T:Nat->Fi)(S:Nat->Pi)(z:Int):Nat->Pi:=if Fx.cE T z=0/\(T z.toNat).refs=1 then Fx.ur S (T z.toNat)else S
theorem v7 (t b p:Nat)(z:Int)(T:Nat->Fi)(F:Fo)(S:Nat->Pi)(w:bD)(h:FX w t b p T F S)(hs:Fx.Sm F S)(hr: ∀n,n<24->(T n).refs<2^60):
  Calls Tryz.prog 77 #[.pointer (some ⟨t,0,none⟩), .int .i64 z] w fun e w'=>e= .returned (aq (Fx.cE T z))/\FX w' t b p (Fx.ry T z) (Fx.qT T F z) (Fx.sv T S z)/\cR t b p w w':=by
 have HF:=hZ h;have HS:=hZ hs;by_cases c:Fx.cE T z=0
 ·obtain⟨n,rfl,n24,r0⟩:=Fx.jz c;have EP:Hid (Fx.cE T (n:Int)=0/\jR t (n:Int) 0= .pointer (some ⟨t,2+n*5,none⟩)):=hZ ⟨c,og t n⟩;have c0:=h.1.refs n n24;have hl:=hr n n24;have S1:Hid (FX (w.setCell ⟨t,2+n*5+4,none⟩ (.int .i64 (((T n).refs-1:Nat):Int))) t b p (Fx.put T n {T n with refs:=(T n).refs-1}) F S/\af t w (w.setCell ⟨t,2+n*5+4,none⟩ (.int .i64 (((T n).refs-1:Nat):Int)))):=hZ ⟨h.tb (h.1.qb n n24 _) ((af.refl t w).setCell _ _),(af.refl t w).setCell _ _⟩;have cf:=h.1.frozen;have ET:Hid (Fx.ry T (n:Int)=Fx.put T n (if(T n).refs=1 then Fi.no else{T n with refs:=(T n).refs-1})/\Fx.qT T F (n:Int)=(if(T n).refs=1 then Fx.ta F (T n)else F)/\Fx.sv T S (n:Int)=(if(T n).refs=1 then Fx.ur S (T n)else S)):=hZ (by
   unfold Fx.ry Fx.qT Fx.sv;rw[hU,aJ c];refine⟨rfl,?_,?_⟩
   ·by_cases d:(T n).refs=1
    ·rw[aJ ⟨c,d⟩,aJ d]
    ·rw[aI (fun e=>d e.2),aI d]
   ·by_cases d:(T n).refs=1
    ·rw[aJ ⟨c,d⟩,aJ d]
    ·rw[aI (fun e=>d e.2),aI d])
  by_cases r1:(T n).refs=1
  ·rw[r1]at c0 S1;have c0':w.cell? ⟨t,2+n*5+4,none⟩=some (.int .i64 1):=c0;have S1':Hid (FX (w.setCell ⟨t,2+n*5+4,none⟩ (.int .i64 0)) t b p (Fx.put T n {T n with refs:=0}) F S/\af t w (w.setCell ⟨t,2+n*5+4,none⟩ (.int .i64 0))):=S1;rw[aJ r1,aJ r1,aJ r1]at ET;clear h c hr hl c0 S1 r0;go_in
   go_wp2_with fail
   refine(dB t b p n T _ HF.out.1).mono ?_;rintro e w1 ⟨rfl,hw1⟩;subst w1;rw[EP.out.1,EP.out.2,aa];have z0:=S1'.out.1.1.kind n n24;have z1:=S1'.out.1.1.num n n24;have z2:=S1'.out.1.1.wr n n24;have z3:=S1'.out.1.1.pos n n24;have z4:=S1'.out.1.1.refs n n24;rw[Fx.ai]at z0 z1 z2 z3 z4;have XL:Hid (Fx.ta F (T n)=Fx.ta F {T n with refs:=0}/\Fx.ur S (T n)=Fx.ur S {T n with refs:=0}):=hZ ⟨rfl,rfl⟩;obtain⟨x,hx⟩:=nJ (({T n with refs:=0}:Fi));rw[hx]at z0 z1 z2 z3 z4 S1' XL;have hx4:x.refs=0:=by rw[<-hx]
   clear hx r1;obtain⟨kd,nm,wb,ps,rf⟩:=x;obtain rfl:rf=0:=hx4;have z0':(w.setCell ⟨t,2+n*5+4,none⟩ (.int .i64 0)).cell? ⟨t,2+n*5,none⟩=some (.int .i64 (kd:Int)):=z0;have z1':(w.setCell ⟨t,2+n*5+4,none⟩ (.int .i64 0)).cell? ⟨t,2+n*5+1,none⟩=some (.int .i64 (nm:Int)):=z1;have z2':(w.setCell ⟨t,2+n*5+4,none⟩ (.int .i64 0)).cell? ⟨t,2+n*5+2,none⟩=some (.bool wb):=z2;have z3':(w.setCell ⟨t,2+n*5+4,none⟩ (.int .i64 0)).cell? ⟨t,2+n*5+3,none⟩=some (.int .i64 (ps:Int)):=z3;have z4':(w.setCell ⟨t,2+n*5+4,none⟩ (.int .i64 0)).cell? ⟨t,2+n*5+4,none⟩=some (.int .i64 0):=z4;clear z0 z1 z2 z3 z4;go_upto_region 5 with fail
   generalize w.setCell ⟨t,2+n*5+4,none⟩ (.int .i64 0)=W1 at*;clear c0' cf;go_wp2_with fail
   refine(KM t b p ⟨kd,nm,wb,ps,0⟩ _ F S _ S1'.out.1 HS.out).mono ?_;rintro e W2 ⟨rfl,h2,f2⟩;have H2:=hZ h2;have F2:=hZ ((cR.tb S1'.out.2).trans f2);have FIN:Hid (FX (W2.setCells t (2+n*5) (Fx.arr Fi.no).toList) t b p (Fx.ry T (n:Int)) (Fx.qT T F (n:Int)) (Fx.sv T S (n:Int))/\cR t b p w (W2.setCells t (2+n*5) (Fx.arr Fi.no).toList)):=hZ (by
    have q:=h2.1.Fy n n24 Fi.no;rw[Fx.fD]at q;rw[ET.out.1,ET.out.2.1,ET.out.2.2,XL.out.1,XL.out.2];have fr:=Pp.iA (Fx.arr Fi.no).toList (2+n*5) (af.refl t W2);exact⟨h2.tb q fr,F2.out.trans (cR.tb fr)⟩)
   have y0:=h2.1.kind n n24;have y1:=h2.1.num n n24;have y2:=h2.1.wr n n24;have y3:=h2.1.pos n n24;have y4:=h2.1.refs n n24;have yf:=h2.1.frozen;rw[Fx.ai]at y0 y1 y2 y3 y4;clear h2 f2 z0' z1' z2' z3' z4';go_wp2
   go_ret
   rw[EP.out.1];exact⟨rfl,FIN.out⟩
  ·rw[aI r1,aI r1,aI r1]at ET;generalize (T n).refs=k at*;obtain⟨q,rfl⟩: ∃q,k=q+1:=⟨k-1,by omega⟩;have q0:((q:Int)==0)=false:=by simp;omega
   rw[aP]at S1 ET;have hw:IntKind.i64.wrap (((q+1:Nat):Int)-1)=(q:Int):=(aN _ ⟨by omega,by omega⟩).trans (by omega);obtain⟨k1,hk1⟩:=nJ (((q+1:Nat):Int));rw[hk1]at c0 hw;clear h c hr hl r0 hk1 r1;go_in
   go_wp2_with fail
   refine(dB t b p n T _ HF.out.1).mono ?_;rintro e w1 ⟨rfl,hw1⟩;subst w1;rw[EP.out.1,EP.out.2,aa];go_wp2
   go_ret
   rw[EP.out.1,ET.out.1,ET.out.2.1,ET.out.2.2];exact⟨rfl,S1.out.1,cR.tb S1.out.2⟩
 ·have E2:Hid (jR t z (Fx.cE T z)= .pointer none/\aq (Fx.cE T z)= .iface 100 (.int .i64 (Fx.cE T z))/\Fx.ry T z=T/\Fx.qT T F z=F/\Fx.sv T S z=S):=hZ ⟨mK c,aj c,aI c,aI (fun e=>c e.1),aI (fun e=>c e.1)⟩;clear h c hr;go_in
  go_wp2_with fail
  refine(dB t b p z T _ HF.out.1).mono ?_;rintro e w1 ⟨rfl,hw1⟩;subst w1;rw[E2.out.1,E2.out.2.1];go_wp2
  go_ret
  rw[E2.out.2.2.1,E2.out.2.2.2.1,E2.out.2.2.2.2,E2.out.2.1];exact⟨rfl,HF.out,cR.refl _ _ _ _⟩
def Fx.tS (T:Nat->Fi)(F:Fo)(z:Int)(wr:Bool)(K:Nat)(E:Int)(T':Nat->Fi)(F':Fo):Prop:=
 (Tr.bj F z 1≠0/\K=0/\E=Tr.bj F z 1/\T'=T/\F'=F)
 \/(Tr.bj F z 1=0/\Fx.bG T 24=24/\K=0/\E=4/\T'=T/\F'=F)
 \/(Tr.bj F z 1=0/\Fx.bG T 24<24/\Fx.sd T K/\E=0/\T'=Fx.put T K ⟨1,z.toNat,wr,0,1⟩/\F'=Tr.dc F z)
theorem yK (t b p:Nat)(z:Int)(wr:Bool)(T:Nat->Fi)(F:Fo)(S:Nat->Pi)(w:bD)(h:FX w t b p T F S)(hs:Fx.Sm F S):
  Calls Tryz.prog 200 #[.pointer (some ⟨t,0,none⟩), .int .i64 z, .bool wr] w fun e w'=> ∃(K:Nat) (E:Int) (T':Nat->Fi) (F':Fo),e= .returned (.tuple #[.int .i64 (K:Int),aq E])/\Fx.tS T F z wr K E T' F'/\FX w' t b p T' F' S/\cR t b p w w':=by
 have HF:=hZ h;have HS:=hZ hs;have y0:=h.1.fo;by_cases c:Tr.bh F z=0
 ·obtain⟨n,rfl,n40,_⟩:=Tr.fW c;have EP:Hid (Tr.bh F (n:Int)=0/\rI F (n:Int)=#[.int .i64 ((F.nd n).kind:Int), .int .i64 ((F.nd n).bE:Int), .int .i64 ((F.nd n).held:Int), .int .i64 ((F.nd n).size:Int)]):=hZ ⟨c,by unfold rI;rw[aJ c,hU]⟩;have EI:Tr.bj F (n:Int) 1=if(F.nd n).kind=1 then 0 else 11:=by unfold Tr.bj;rw[aI (fun d=>d c),hU]
  by_cases k1:(F.nd n).kind=1
  ·have e0:Tr.bj F (n:Int) 1=0:=by rw[EI,aJ k1]
   have lc:=Fx.lW T 24;rw[k1]at EP;have EP':Hid (Tr.bh F (n:Int)=0/\rI F (n:Int)=#[.int .i64 1, .int .i64 ((F.nd n).bE:Int), .int .i64 ((F.nd n).held:Int), .int .i64 ((F.nd n).size:Int)]):=EP;generalize (F.nd n).bE=q1 at EP';generalize (F.nd n).held=q2 at EP';generalize (F.nd n).size=q3 at EP';by_cases r1:Fx.bG T 24=24
   ·have rd:decide ((1:Int)<=24-(Fx.bG T 24:Int))=false:=by simp;omega
    have FIN:Hid (Fx.tS T F (n:Int) wr 0 4 T F):=hZ (.inr (.inl ⟨e0,r1,rfl,rfl,rfl,rfl⟩));clear h hs c EI k1 e0 lc r1 EP;go_in
    go_wp2_with fail
    refine(ow b n F _ HF.out.2.1).mono ?_;rintro e W1 ⟨rfl,b1⟩;rw[EP'.out.1,EP'.out.2,aa];have H1:=hZ (HF.out.below b1);have F1:Hid (cR t b p w W1):=hZ (cR.below b1);clear b1 y0;go_upto_region 2 with fail
    refine bw (fun W'=>FX W' t b p T F S/\cR t b p w W'/\W'.cell? ⟨W1.heap.size,0,none⟩=some (.int .i64 1)) (by
     have bb:=(aQ W1.heap.size W1).alloc (aL _) (.cells #[.int .i64 1, .int .i64 (q1:Int), .int .i64 (q2:Int), .int .i64 (q3:Int)] 156);exact⟨H1.out.below bb,F1.out.trans (cR.below bb),bA (heap_alloc_new W1 _) 0 _ rfl⟩) ?_
    rintro W2 ⟨h2,f2,z0⟩;have H2:=hZ h2;have F2:=hZ f2;clear h2 f2 H1 F1;generalize W1.heap.size=bx at*;go_wp2_with fail
    refine(ng t b p 1 T _ H2.out.1).mono ?_;rintro e W3 ⟨rfl,hW3⟩;subst W3;rw[rd];go_wp2
    go_ret2
    exact⟨0,4,T,F,rfl,FIN.out,H2.out,F2.out⟩
   ·have rd:decide ((1:Int)<=24-(Fx.bG T 24:Int))=true:=by simp;omega
    obtain⟨K,hK⟩:=Fx.Bn (T:=T) (by omega);have HK:=hZ hK;have FIN:Hid (Fx.tS T F (n:Int) wr K 0 (Fx.put T K ⟨1,n,wr,0,1⟩) (Tr.dc F (n:Int))):=hZ (.inr (.inr ⟨e0,by omega,hK,rfl,by rw[hU],rfl⟩));clear h hs c EI k1 e0 lc r1 EP hK;go_in
    go_wp2_with fail
    refine(ow b n F _ HF.out.2.1).mono ?_;rintro e W1 ⟨rfl,b1⟩;rw[EP'.out.1,EP'.out.2,aa];have H1:=hZ (HF.out.below b1);have F1:Hid (cR t b p w W1):=hZ (cR.below b1);clear b1 y0;go_upto_region 2 with fail
    refine bw (fun W'=>FX W' t b p T F S/\cR t b p w W'/\W'.cell? ⟨W1.heap.size,0,none⟩=some (.int .i64 1)) (by
     have bb:=(aQ W1.heap.size W1).alloc (aL _) (.cells #[.int .i64 1, .int .i64 (q1:Int), .int .i64 (q2:Int), .int .i64 (q3:Int)] 156);exact⟨H1.out.below bb,F1.out.trans (cR.below bb),bA (heap_alloc_new W1 _) 0 _ rfl⟩) ?_
    rintro W2 ⟨h2,f2,z0⟩;have H2:=hZ h2;have F2:=hZ f2;have y0:=h2.1.fo;clear h2 f2 H1 F1;generalize W1.heap.size=bx at*;go_wp2_with fail
    refine(ng t b p 1 T _ H2.out.1).mono ?_;rintro e W3 ⟨rfl,hW3⟩;subst W3;rw[rd];go_wp2_with fail
    refine(pK b n F _ H2.out.2.1 HS.out.1).mono ?_;rintro e W3 ⟨rfl,h3,f3⟩;have H3:=hZ (H2.out.fo h3 f3);have F3:=hZ (F2.out.trans (cR.fo f3));clear h3 f3 y0 z0 H2 F2;go_wp2_with fail
    refine(uT t b p ⟨1,n,wr,0,0⟩ K T _ H3.out.1 HK.out).mono ?_;rintro e W4 ⟨rfl,h4,f4⟩;have H4:=hZ (H3.out.tb h4 f4);have F4:=hZ (F3.out.trans (cR.tb f4));clear h4 f4 H3 F3;go_wp2
    go_ret2
    exact⟨K,0,_,_,rfl,FIN.out,H4.out,F4.out⟩
  ·have e0:Tr.bj F (n:Int) 1=11:=by rw[EI,aI k1]
   have FIN:Hid (Fx.tS T F (n:Int) wr 0 11 T F):=hZ (.inl ⟨by rw[e0];decide,rfl,e0.symm,rfl,rfl⟩);have k1':(((F.nd n).kind:Int) !=1)=true:=by simp;omega
   have k1'':(((F.nd n).kind:Int)==1)=false:=by simp;omega
   generalize (F.nd n).kind=kk at*;generalize (F.nd n).bE=q1 at EP;generalize (F.nd n).held=q2 at EP;generalize (F.nd n).size=q3 at EP;clear h hs c EI k1 e0;go_in
   go_wp2_with fail
   refine(ow b n F _ HF.out.2.1).mono ?_;rintro e W1 ⟨rfl,b1⟩;rw[EP.out.1,EP.out.2,aa];have H1:=hZ (HF.out.below b1);have F1:Hid (cR t b p w W1):=hZ (cR.below b1);clear b1 y0;go_upto_region 2 with fail
   refine bw (fun W'=>FX W' t b p T F S/\cR t b p w W'/\W'.cell? ⟨W1.heap.size,0,none⟩=some (.int .i64 (kk:Int))) (by
    have bb:=(aQ W1.heap.size W1).alloc (aL _) (.cells #[.int .i64 (kk:Int), .int .i64 (q1:Int), .int .i64 (q2:Int), .int .i64 (q3:Int)] 156);exact⟨H1.out.below bb,F1.out.trans (cR.below bb),bA (heap_alloc_new W1 _) 0 _ rfl⟩) ?_
   rintro W2 ⟨h2,f2,z0⟩;have H2:=hZ h2;have F2:=hZ f2;clear h2 f2 H1 F1;generalize W1.heap.size=bx at*;go_wp2
   go_ret2
   exact⟨0,11,T,F,rfl,FIN.out,H2.out,F2.out⟩
 ·have E2:Hid (aq (Tr.bh F z)= .iface 100 (.int .i64 (Tr.bh F z))/\rI F z=#[.int .i64 0, .int .i64 0, .int .i64 0, .int .i64 0]):=hZ ⟨aj c,aI c⟩;have FIN:Hid (Fx.tS T F z wr 0 (Tr.bh F z) T F):=hZ (by
   have e:Tr.bj F z 1=Tr.bh F z:=aJ c;exact .inl ⟨by rw[e];exact c,rfl,e.symm,rfl,rfl⟩)
  clear h hs c;go_in
  go_wp2_with fail
  refine(ow b z F _ HF.out.2.1).mono ?_;rintro e W1 ⟨rfl,b1⟩;rw[E2.out.1,E2.out.2];have H1:=hZ (HF.out.below b1);have F1:Hid (cR t b p w W1):=hZ (cR.below b1);clear b1 y0;go_upto_region 2 with fail
  refine bw (fun W'=>FX W' t b p T F S/\cR t b p w W') (by
   have bb:=(aQ W1.heap.size W1).alloc (aL _) (.cells #[.int .i64 0, .int .i64 0, .int .i64 0, .int .i64 0] 156);exact⟨H1.out.below bb,F1.out.trans (cR.below bb)⟩) ?_
  rintro W2 ⟨h2,f2⟩;have H2:=hZ h2;have F2:=hZ f2;clear h2 f2 H1 F1;go_wp2
  go_ret2
  exact⟨0,Tr.bh F z,T,F,by rw[E2.out.1];rfl,FIN.out,H2.out,F2.out⟩
def Fx.dA (T:Nat->Fi)(F:Fo)(S:Nat->Pi)(z m:Int):Int:=
 if Fx.cE T z≠0 then Fx.cE T z else if(T z.toNat).kind=3 then 8 else if(T z.toNat).kind=2 then Pp.dA S ((T z.toNat).num:Int) m else Tr.dA F ((T z.toNat).num:Int) ((T z.toNat).pos:Int) m
def Fx.qM (T:Nat->Fi)(F:Fo)(S:Nat->Pi)(z m:Int):bU:=
 if Fx.cE T z≠0 then⟨#[]⟩else if(T z.toNat).kind=3 then⟨#[]⟩else if(T z.toNat).kind=2 then Pp.gE S ((T z.toNat).num:Int) m else Tr.iB F ((T z.toNat).num:Int) ((T z.toNat).pos:Int) m
def Fx.gE (T:Nat->Fi)(F:Fo)(z m:Int):Nat->Fi:=
 if Fx.cE T z=0/\(T z.toNat).kind≠3/\(T z.toNat).kind≠2/\Tr.dA F ((T z.toNat).num:Int) ((T z.toNat).pos:Int) m=0 then Fx.put T z.toNat {T z.toNat with pos:=(T z.toNat).pos+(Tr.iB F ((T z.toNat).num:Int) ((T z.toNat).pos:Int) m).size}else T
def Fx.oF (T:Nat->Fi)(S:Nat->Pi)(z m:Int):Nat->Pi:=if Fx.cE T z=0/\(T z.toNat).kind=2 then Pp.mM S ((T z.toNat).num:Int) m else S
def Fx.cV (T:Nat->Fi)(F:Fo)(S:Nat->Pi)(z:Int)(s:bU):Int:=
 if Fx.cE T z≠0 then Fx.cE T z else if(T z.toNat).kind=3 then Pp.cV S ((T z.toNat).num:Int) s else if(T z.toNat).wr=false then 8 else Tr.cV F ((T z.toNat).num:Int) ((T z.toNat).pos:Int) s
def Fx.gC (T:Nat->Fi)(F:Fo)(S:Nat->Pi)(z:Int)(s:bU):Nat:=
 if Fx.cE T z≠0 then 0 else if(T z.toNat).kind=3 then Pp.gC S ((T z.toNat).num:Int) s else if(T z.toNat).wr=false then 0 else if Tr.cV F ((T z.toNat).num:Int) ((T z.toNat).pos:Int) s=0 then s.size else 0
def Fx.pf (T:Nat->Fi)(z:Int):Prop:=Fx.cE T z=0/\(T z.toNat).kind≠3/\(T z.toNat).wr=true
def Fx.qqD(T:Nat->Fi)(z:Int):Decidable (Fx.pf T z):=by unfold Fx.pf;exact inferInstance
def Fx.oD (T:Nat->Fi)(F:Fo)(z:Int)(s:bU):Nat->Fi:=
 haveI:=Fx.qqD T z;if Fx.pf T z/\Tr.cV F ((T z.toNat).num:Int) ((T z.toNat).pos:Int) s=0 then Fx.put T z.toNat {T z.toNat with pos:=(T z.toNat).pos+s.size}else T
def Fx.dF (T:Nat->Fi)(F:Fo)(z:Int)(s:bU):Fo:=haveI:=Fx.qqD T z;if Fx.pf T z then Tr.dF F ((T z.toNat).num:Int) ((T z.toNat).pos:Int) s else F
def Fx.uN (T:Nat->Fi)(S:Nat->Pi)(z:Int)(s:bU):Nat->Pi:=if Fx.cE T z=0/\(T z.toNat).kind=3 then Pp.dF S ((T z.toNat).num:Int) s else S
def Fx.Pz (T:Nat->Fi):Prop:= ∀n,n<24->(T n).pos<2^60
theorem Tr.Mp {F:Fo}(h:Tr.sY F)(z a m:Int):(Tr.iB F z a m).size<=40:=by
 unfold Tr.iB;split
 ·rename_i c;have i0:Tr.bj F z 1=0:=by
   unfold Tr.dA at c;grind
  obtain⟨n,rfl,n40,_,k1⟩:=Tr.dY i0;have z40:=h n n40 k1;rw[hU];have: ∀(L:List Int) (r:bU),(L.foldl (fun r n=>r.push (UInt8.ofNat n.toNat)) r).size=r.size+L.length:=by
   intro L
   induction L with
   |nil=>intro r;rfl
   |cons x L ih=>intro r;rw[List.foldl_cons,ih,ByteArray.size_push,List.length_cons];omega
  unfold Tr.Lc;rw[this,Tr.tP];show 0+_<=40;omega
 ·exact aC _
theorem IU (t b p:Nat)(z m:Int)(T:Nat->Fi)(F:Fo)(S:Nat->Pi)(w:bD)(h:FX w t b p T F S)(hz:Tr.sY F)(hp:Fx.Pz T):
  Calls Tryz.prog 202 #[.pointer (some ⟨t,0,none⟩), .int .i64 z, .int .i64 m] w fun e w'=>e= .returned (.tuple #[.string (Fx.qM T F S z m),aq (Fx.dA T F S z m)])/\FX w' t b p (Fx.gE T F z m) F (Fx.oF T S z m)/\cR t b p w w':=by
 have HF:=hZ h;have HZ:=hZ hz;by_cases c:Fx.cE T z=0
 ·obtain⟨n,rfl,n24,_⟩:=Fx.jz c;have EP:Hid (Fx.cE T (n:Int)=0/\jR t (n:Int) 0= .pointer (some ⟨t,2+n*5,none⟩)):=hZ ⟨c,og t n⟩;have hps:=hp n n24;have c0:=h.1.kind n n24;have c1:=h.1.num n n24;have c3:=h.1.pos n n24;have cp:=h.1.pi;have cb:=h.1.fo;have cf:=h.1.frozen;have DE:Fx.dA T F S (n:Int) m=if(T n).kind=3 then 8 else if(T n).kind=2 then Pp.dA S ((T n).num:Int) m else Tr.dA F ((T n).num:Int) ((T n).pos:Int) m:=by unfold Fx.dA;rw[aI (fun d=>d c),hU]
  have DV:Fx.qM T F S (n:Int) m=if(T n).kind=3 then⟨#[]⟩else if(T n).kind=2 then Pp.gE S ((T n).num:Int) m else Tr.iB F ((T n).num:Int) ((T n).pos:Int) m:=by unfold Fx.qM;rw[aI (fun d=>d c),hU]
  by_cases k3:(T n).kind=3
  ·have FIN:Hid (Fx.dA T F S (n:Int) m=8/\Fx.qM T F S (n:Int) m=⟨#[]⟩/\Fx.gE T F (n:Int) m=T/\Fx.oF T S (n:Int) m=S):=hZ ⟨by rw[DE,aJ k3],by rw[DV,aJ k3],aI (fun d=>by rw[hU]at d;exact d.2.1 k3),aI (fun d=>by rw[hU,k3]at d;exact aZ d.2 (by decide))⟩;rw[k3]at c0;have c0':w.cell? ⟨t,2+n*5,none⟩=some (.int .i64 3):=c0;clear h c hp hz hps DE DV k3 c0 c1 c3 cp cb;go_in
   go_wp2_with fail
   refine(dB t b p n T _ HF.out.1).mono ?_;rintro e w1 ⟨rfl,hw1⟩;subst w1;rw[EP.out.1,EP.out.2,aa];go_wp2
   go_ret2
   rw[FIN.out.1,FIN.out.2.1,FIN.out.2.2.1,FIN.out.2.2.2];exact⟨rfl,HF.out,cR.refl _ _ _ _⟩
  ·by_cases k2:(T n).kind=2
   ·have FIN:Hid (Fx.dA T F S (n:Int) m=Pp.dA S ((T n).num:Int) m/\Fx.qM T F S (n:Int) m=Pp.gE S ((T n).num:Int) m/\Fx.gE T F (n:Int) m=T/\Fx.oF T S (n:Int) m=Pp.mM S ((T n).num:Int) m):=hZ ⟨by rw[DE,aI k3,aJ k2],by rw[DV,aI k3,aJ k2],aI (fun d=>by rw[hU]at d;exact d.2.2.1 k2),by unfold Fx.oF;rw[hU,aJ ⟨c,k2⟩]⟩;rw[k2]at c0;have c0':w.cell? ⟨t,2+n*5,none⟩=some (.int .i64 2):=c0;generalize (T n).num=nm at*;have K0:=hZ (aK cp c1);have NP:=hZ h.2.2.2;clear h c hp hz hps DE DV k3 k2 c0 c1 c3 cp cb;go_in
    go_wp2_with fail
    refine(dB t b p n T _ HF.out.1).mono ?_;rintro e w1 ⟨rfl,hw1⟩;subst w1;rw[EP.out.1,EP.out.2,aa];go_wp2_with fail
    go_region_held3 (fun w'=>w'.cell? ⟨t,1,none⟩=some (.pointer (some ⟨p,0,none⟩))/\w'.cell? ⟨t,2+n*5+1,none⟩=some (.int .i64 (nm:Int))) (first|exact K0.out|exact K4.out) ((first|(go_at_call 245;refine(FC p nm m S _ HF.out.2.2.1.drew).mono ?_;rintro e w4 ⟨rfl,u4,f4⟩;have f4':af p w w4:=⟨f4.os,f4.tape,f4.output,f4.size,f4.block⟩;have C4:=hZ (HF.out.pi u4 f4');have D4:Hid (cR t b p w w4):=hZ (cR.pi f4');have K4:=hZ (aK C4.out.1.pi ((aV (f4'.block t HF.out.1.lt NP.out.2.1)).trans K0.out.2));clear u4 f4 f4')))
    go_wp2
    go_ret2
    rw[FIN.out.1,FIN.out.2.1,FIN.out.2.2.1,FIN.out.2.2.2];exact⟨rfl,C4.out,D4.out⟩
   ·have EP2:Hid (Fx.oF T S (n:Int) m=S):=hZ (aI (fun d=>by rw[hU]at d;exact k2 d.2));have FIN:Hid (Fx.dA T F S (n:Int) m=Tr.dA F ((T n).num:Int) ((T n).pos:Int) m/\Fx.qM T F S (n:Int) m=Tr.iB F ((T n).num:Int) ((T n).pos:Int) m):=hZ ⟨by rw[DE,aI k3,aI k2],by rw[DV,aI k3,aI k2]⟩;have ET:Fx.gE T F (n:Int) m=if Tr.dA F ((T n).num:Int) ((T n).pos:Int) m=0 then Fx.put T n {T n with pos:=(T n).pos+(Tr.iB F ((T n).num:Int) ((T n).pos:Int) m).size}else T:=by
     unfold Fx.gE;rw[hU];by_cases d:Tr.dA F ((T n).num:Int) ((T n).pos:Int) m=0
     ·rw[aJ d,aJ ⟨c,k3,k2,d⟩]
     ·rw[aI d,aI (fun e=>d e.2.2.2)]
    have k3':(((T n).kind:Int)==3)=false:=by simp;omega
    have k2':(((T n).kind:Int)==2)=false:=by simp;omega
    have ZS:Hid ((Tr.iB F ((T n).num:Int) ((T n).pos:Int) m).size<=40):=hZ (Tr.Mp hz _ _ _);have SP:Hid (∀V,FX V t b p T F S->FX (V.setCell ⟨t,2+n*5+3,none⟩ (.int .i64 (((T n).pos+(Tr.iB F ((T n).num:Int) ((T n).pos:Int) m).size:Nat):Int))) t b p (Fx.put T n {T n with pos:=(T n).pos+(Tr.iB F ((T n).num:Int) ((T n).pos:Int) m).size}) F S):=hZ (fun V hV=>hV.tb (hV.1.setPos n n24 _) ((af.refl t V).setCell _ _));generalize hTX:Fx.put T n {T n with pos:=(T n).pos+(Tr.iB F ((T n).num:Int) ((T n).pos:Int) m).size}=TX at ET SP;clear hTX;generalize (T n).kind=kd at*;generalize (T n).num=nm at*;generalize (T n).pos=ps at*;have K0:=hZ (aK cb (aK c1 c3));have TR:=hZ (Gt b nm ps m F w.drew HF.out.2.1.drew hz);by_cases e0:Tr.dA F (nm:Int) (ps:Int) m=0
    ·rw[aJ e0]at ET;have EE:=hZ (aK e0 ET);generalize Tr.iB F (nm:Int) (ps:Int) m=RS at*;have ad:IntKind.i64.wrap ((ps:Int)+(RS.size:Int))=((ps+RS.size:Nat):Int):=by
      have:=ZS.out;exact(aN _ ⟨by omega,by omega⟩).trans (by omega)
     clear h c hp hz hps DE DV k3 k2 c1 c3 cp cb e0 ET;go_in
     go_wp2_with fail
     refine(dB t b p n T _ HF.out.1).mono ?_;rintro e w1 ⟨rfl,hw1⟩;subst w1;rw[EP.out.1,EP.out.2,aa];go_wp2_with fail
     go_region_held3 (fun w'=>w'.cell? ⟨t,0,none⟩=some (.pointer (some ⟨b,0,none⟩))/\w'.cell? ⟨t,2+n*5+1,none⟩=some (.int .i64 (nm:Int))/\w'.cell? ⟨t,2+n*5+3,none⟩=some (.int .i64 (ps:Int))) (first|exact K0.out|exact K4.out) ((first|(go_at_call 246;refine TR.out.mono ?_;rintro e w4 ⟨rfl,u4,b4⟩;have b4':Below w.heap.size w w4:=⟨b4.os,b4.tape,b4.output,b4.size,b4.block⟩;have C4:=hZ (HF.out.below b4');have D4:Hid (cR t b p w w4):=hZ (cR.below b4');have K4:=hZ (aK C4.out.1.fo (aK ((aV (b4'.block t HF.out.1.lt)).trans K0.out.2.1) ((aV (b4'.block t HF.out.1.lt)).trans K0.out.2.2)));clear u4 b4 b4';rw[EE.out.1,aa])))
     have x3:=K4.out.2.2;have xf:=C4.out.1.frozen;have X5:=hZ (SP.out _ C4.out);have D5:Hid (cR t b p w (w4.setCell ⟨t,2+n*5+3,none⟩ (.int .i64 ((ps+RS.size:Nat):Int)))):=hZ (D4.out.trans (cR.tb ((af.refl t w4).setCell _ _)));clear cf;go_wp2
     go_ret2
     rw[FIN.out.1,FIN.out.2,EP2.out,EE.out.1,EE.out.2];exact⟨rfl,X5.out,D5.out⟩
    ·rw[aI e0]at ET;have EE:=hZ (aK (aj e0) ET);have VS:Hid (Tr.iB F (nm:Int) (ps:Int) m=⟨#[]⟩):=hZ (by unfold Tr.iB;rw[aI e0];rfl);clear h c hp hz hps DE DV k3 k2 c1 c3 cp cb e0 ET SP ZS;go_in
     go_wp2_with fail
     refine(dB t b p n T _ HF.out.1).mono ?_;rintro e w1 ⟨rfl,hw1⟩;subst w1;rw[EP.out.1,EP.out.2,aa];go_wp2_with fail
     go_region_held3 (fun w'=>w'.cell? ⟨t,0,none⟩=some (.pointer (some ⟨b,0,none⟩))/\w'.cell? ⟨t,2+n*5+1,none⟩=some (.int .i64 (nm:Int))/\w'.cell? ⟨t,2+n*5+3,none⟩=some (.int .i64 (ps:Int))) (first|exact K0.out|exact K4.out) ((first|(go_at_call 246;refine TR.out.mono ?_;rintro e w4 ⟨rfl,u4,b4⟩;have b4':Below w.heap.size w w4:=⟨b4.os,b4.tape,b4.output,b4.size,b4.block⟩;have C4:=hZ (HF.out.below b4');have D4:Hid (cR t b p w w4):=hZ (cR.below b4');have K4:=hZ (aK C4.out.1.fo (aK ((aV (b4'.block t HF.out.1.lt)).trans K0.out.2.1) ((aV (b4'.block t HF.out.1.lt)).trans K0.out.2.2)));clear u4 b4 b4';rw[EE.out.1])))
     go_wp2
     go_ret2
     rw[FIN.out.1,FIN.out.2,EP2.out,EE.out.1,EE.out.2,VS.out];exact⟨rfl,C4.out,D4.out⟩
 ·have E2:Hid (jR t z (Fx.cE T z)= .pointer none/\aq (Fx.cE T z)= .iface 100 (.int .i64 (Fx.cE T z))/\Fx.dA T F S z m=Fx.cE T z/\Fx.qM T F S z m=⟨#[]⟩/\Fx.gE T F z m=T/\Fx.oF T S z m=S):=hZ ⟨mK c,aj c,aJ c,aJ c,aI (fun e=>c e.1),aI (fun e=>c e.1)⟩;clear h c hp hz;go_in
  go_wp2_with fail
  refine(dB t b p z T _ HF.out.1).mono ?_;rintro e w1 ⟨rfl,hw1⟩;subst w1;rw[E2.out.1,E2.out.2.1];go_wp2
  go_ret2
  rw[E2.out.2.2.1,E2.out.2.2.2.1,E2.out.2.2.2.2.1,E2.out.2.2.2.2.2,E2.out.2.1];exact⟨rfl,HF.out,cR.refl _ _ _ _⟩
theorem DM (t b p:Nat)(z:Int)(s:bU)(T:Nat->Fi)(F:Fo)(S:Nat->Pi)(w:bD)(h:FX w t b p T F S)(hs:s.size<2^59)(hp:Fx.Pz T):
  Calls Tryz.prog 203 #[.pointer (some ⟨t,0,none⟩), .int .i64 z, .string s] w fun e w'=>e= .returned (.tuple #[.int .i64 (Fx.gC T F S z s:Int),aq (Fx.cV T F S z s)])/\FX w' t b p (Fx.oD T F z s) (Fx.dF T F z s) (Fx.uN T S z s)/\cR t b p w w':=by
 have HF:=hZ h;have HL:=hZ hs;by_cases c:Fx.cE T z=0
 ·obtain⟨n,rfl,n24,_⟩:=Fx.jz c;have EP:Hid (Fx.cE T (n:Int)=0/\jR t (n:Int) 0= .pointer (some ⟨t,2+n*5,none⟩)):=hZ ⟨c,og t n⟩;have hps:=hp n n24;have c0:=h.1.kind n n24;have c1:=h.1.num n n24;have c2:=h.1.wr n n24;have c3:=h.1.pos n n24;have cp:=h.1.pi;have cb:=h.1.fo;have cf:=h.1.frozen;have DE:Fx.cV T F S (n:Int) s=if(T n).kind=3 then Pp.cV S ((T n).num:Int) s else if(T n).wr=false then 8 else Tr.cV F ((T n).num:Int) ((T n).pos:Int) s:=by unfold Fx.cV;rw[aI (fun d=>d c),hU]
  have DK:Fx.gC T F S (n:Int) s=if(T n).kind=3 then Pp.gC S ((T n).num:Int) s else if(T n).wr=false then 0 else if Tr.cV F ((T n).num:Int) ((T n).pos:Int) s=0 then s.size else 0:=by unfold Fx.gC;rw[aI (fun d=>d c),hU]
  by_cases k3:(T n).kind=3
  ·have nb: ¬Fx.pf T (n:Int):=fun d=>by unfold Fx.pf at d;rw[hU]at d;exact d.2.1 k3
   have FIN:Hid (Fx.cV T F S (n:Int) s=Pp.cV S ((T n).num:Int) s/\Fx.gC T F S (n:Int) s=Pp.gC S ((T n).num:Int) s/\Fx.oD T F (n:Int) s=T/\Fx.dF T F (n:Int) s=F/\Fx.uN T S (n:Int) s=Pp.dF S ((T n).num:Int) s):=hZ ⟨by rw[DE,aJ k3],by rw[DK,aJ k3],aI (fun d=>nb d.1),aI nb,by unfold Fx.uN;rw[hU,aJ ⟨c,k3⟩]⟩;rw[k3]at c0;have c0':w.cell? ⟨t,2+n*5,none⟩=some (.int .i64 3):=c0;generalize (T n).num=nm at*;have K0:=hZ (aK cp c1);have NP:=hZ h.2.2.2;clear h c hp hs hps DE DK k3 nb c0 c1 c2 c3 cp cb;go_in
   go_wp2_with fail
   refine(dB t b p n T _ HF.out.1).mono ?_;rintro e w1 ⟨rfl,hw1⟩;subst w1;rw[EP.out.1,EP.out.2,aa];go_wp2_with fail
   go_region_held3 (fun w'=>w'.cell? ⟨t,1,none⟩=some (.pointer (some ⟨p,0,none⟩))/\w'.cell? ⟨t,2+n*5+1,none⟩=some (.int .i64 (nm:Int))) (first|exact K0.out|exact K4.out) ((first|(go_at_call 247;refine(DB p nm s S _ HF.out.2.2.1.drew (by have:=HL.out;omega)).mono ?_;rintro e w4 ⟨rfl,u4,f4⟩;have f4':af p w w4:=⟨f4.os,f4.tape,f4.output,f4.size,f4.block⟩;have C4:=hZ (HF.out.pi u4 f4');have D4:Hid (cR t b p w w4):=hZ (cR.pi f4');have K4:=hZ (aK C4.out.1.pi ((aV (f4'.block t HF.out.1.lt NP.out.2.1)).trans K0.out.2));clear u4 f4 f4')))
   go_wp2
   go_ret2
   rw[FIN.out.1,FIN.out.2.1,FIN.out.2.2.1,FIN.out.2.2.2.1,FIN.out.2.2.2.2];exact⟨rfl,C4.out,D4.out⟩
  ·have k3':(((T n).kind:Int)==3)=false:=by simp;omega
   have EP2:Hid (Fx.uN T S (n:Int) s=S):=hZ (aI (fun d=>by rw[hU]at d;exact k3 d.2));by_cases w0:(T n).wr=false
   ·have nb: ¬Fx.pf T (n:Int):=fun d=>by unfold Fx.pf at d;rw[hU,w0]at d;exact aZ d.2.2 (by decide)
    have FIN:Hid (Fx.cV T F S (n:Int) s=8/\Fx.gC T F S (n:Int) s=0/\Fx.oD T F (n:Int) s=T/\Fx.dF T F (n:Int) s=F):=hZ ⟨by rw[DE,aI k3,aJ w0],by rw[DK,aI k3,aJ w0],aI (fun d=>nb d.1),aI nb⟩;rw[w0]at c2;generalize (T n).kind=kd at*;clear h c hp hs hps DE DK k3 nb w0 c1 c3 cp cb;go_in
    go_wp2_with fail
    refine(dB t b p n T _ HF.out.1).mono ?_;rintro e w1 ⟨rfl,hw1⟩;subst w1;rw[EP.out.1,EP.out.2,aa];go_wp2
    go_ret2
    rw[FIN.out.1,FIN.out.2.1,FIN.out.2.2.1,FIN.out.2.2.2,EP2.out];exact⟨rfl,HF.out,cR.refl _ _ _ _⟩
   ·have w1':(T n).wr=true:=by simpa using w0
    have yb:Fx.pf T (n:Int):=by unfold Fx.pf;rw[hU];exact⟨c,k3,w1'⟩
    have FIN:Hid (Fx.cV T F S (n:Int) s=Tr.cV F ((T n).num:Int) ((T n).pos:Int) s/\Fx.dF T F (n:Int) s=Tr.dF F ((T n).num:Int) ((T n).pos:Int) s):=hZ ⟨by rw[DE,aI k3,aI w0],by unfold Fx.dF;rw[aJ yb,hU]⟩;have DK2:Fx.gC T F S (n:Int) s=if Tr.cV F ((T n).num:Int) ((T n).pos:Int) s=0 then s.size else 0:=by rw[DK,aI k3,aI w0]
    have ET:Fx.oD T F (n:Int) s=if Tr.cV F ((T n).num:Int) ((T n).pos:Int) s=0 then Fx.put T n {T n with pos:=(T n).pos+s.size}else T:=by
     unfold Fx.oD;rw[hU];by_cases d:Tr.cV F ((T n).num:Int) ((T n).pos:Int) s=0
     ·rw[aJ d,aJ ⟨yb,d⟩]
     ·rw[aI d,aI (fun e=>d e.2)]
    have SP:Hid (∀V G,FX V t b p T G S->FX (V.setCell ⟨t,2+n*5+3,none⟩ (.int .i64 (((T n).pos+s.size:Nat):Int))) t b p (Fx.put T n {T n with pos:=(T n).pos+s.size}) G S):=hZ (fun V G hV=>hV.tb (hV.1.setPos n n24 _) ((af.refl t V).setCell _ _));generalize hTX:Fx.put T n {T n with pos:=(T n).pos+s.size}=TX at ET SP;clear hTX;rw[w1']at c2;generalize (T n).kind=kd at*;generalize (T n).num=nm at*;generalize (T n).pos=ps at*;have K0:=hZ (aK cb (aK c1 c3));have NP:=hZ h.2.2.2;have TW:=hZ (Ev b nm ps s F w.drew HF.out.2.1.drew (by omega));by_cases e0:Tr.cV F (nm:Int) (ps:Int) s=0
    ·rw[aJ e0]at ET DK2;have EE:=hZ (aK e0 (aK ET DK2));have ad:IntKind.i64.wrap ((ps:Int)+(s.size:Int))=((ps+s.size:Nat):Int):=(aN _ ⟨by omega,by omega⟩).trans (by omega);clear h c hp hs hps DE DK DK2 k3 w0 w1' yb c1 c3 cp cb e0 ET;go_in
     go_wp2_with fail
     refine(dB t b p n T _ HF.out.1).mono ?_;rintro e w1 ⟨rfl,hw1⟩;subst w1;rw[EP.out.1,EP.out.2,aa];go_wp2_with fail
     go_region_held3 (fun w'=>w'.cell? ⟨t,0,none⟩=some (.pointer (some ⟨b,0,none⟩))/\w'.cell? ⟨t,2+n*5+1,none⟩=some (.int .i64 (nm:Int))/\w'.cell? ⟨t,2+n*5+3,none⟩=some (.int .i64 (ps:Int))) (first|exact K0.out|exact K4.out) ((first|(go_at_call 248;refine TW.out.mono ?_;rintro e w4 ⟨rfl,u4,f4⟩;have f4':af b w w4:=⟨f4.os,f4.tape,f4.output,f4.size,f4.block⟩;have C4:=hZ (HF.out.fo u4 f4');have D4:Hid (cR t b p w w4):=hZ (cR.fo f4');have K4:=hZ (aK C4.out.1.fo (aK ((aV (f4'.block t HF.out.1.lt NP.out.1)).trans K0.out.2.1) ((aV (f4'.block t HF.out.1.lt NP.out.1)).trans K0.out.2.2)));clear u4 f4 f4';rw[EE.out.1,aa])))
     have x3:=K4.out.2.2;have xf:=C4.out.1.frozen;have X5:=hZ (SP.out _ _ C4.out);have D5:Hid (cR t b p w (w4.setCell ⟨t,2+n*5+3,none⟩ (.int .i64 ((ps+s.size:Nat):Int)))):=hZ (D4.out.trans (cR.tb ((af.refl t w4).setCell _ _)));clear cf;go_wp2
     go_ret2
     rw[FIN.out.1,FIN.out.2,EP2.out,EE.out.1,EE.out.2.1,EE.out.2.2];exact⟨rfl,X5.out,D5.out⟩
    ·rw[aI e0]at ET DK2;have EE:=hZ (aK (aj e0) (aK ET DK2));clear h c hp hs hps DE DK DK2 k3 w0 w1' yb c1 c3 cp cb e0 ET SP;go_in
     go_wp2_with fail
     refine(dB t b p n T _ HF.out.1).mono ?_;rintro e w1 ⟨rfl,hw1⟩;subst w1;rw[EP.out.1,EP.out.2,aa];go_wp2_with fail
     go_region_held3 (fun w'=>w'.cell? ⟨t,0,none⟩=some (.pointer (some ⟨b,0,none⟩))/\w'.cell? ⟨t,2+n*5+1,none⟩=some (.int .i64 (nm:Int))/\w'.cell? ⟨t,2+n*5+3,none⟩=some (.int .i64 (ps:Int))) (first|exact K0.out|exact K4.out) ((first|(go_at_call 248;refine TW.out.mono ?_;rintro e w4 ⟨rfl,u4,f4⟩;have f4':af b w w4:=⟨f4.os,f4.tape,f4.output,f4.size,f4.block⟩;have C4:=hZ (HF.out.fo u4 f4');have D4:Hid (cR t b p w w4):=hZ (cR.fo f4');have K4:=hZ (aK C4.out.1.fo (aK ((aV (f4'.block t HF.out.1.lt NP.out.1)).trans K0.out.2.1) ((aV (f4'.block t HF.out.1.lt NP.out.1)).trans K0.out.2.2)));clear u4 f4 f4';rw[EE.out.1])))
     go_wp2
     go_ret2
     rw[FIN.out.1,FIN.out.2,EP2.out,EE.out.1,EE.out.2.1,EE.out.2.2];exact⟨rfl,C4.out,D4.out⟩
 ·have nb: ¬Fx.pf T z:=fun d=>c d.1;have E2:Hid (jR t z (Fx.cE T z)= .pointer none/\aq (Fx.cE T z)= .iface 100 (.int .i64 (Fx.cE T z))/\Fx.cV T F S z s=Fx.cE T z/\Fx.gC T F S z s=0/\Fx.oD T F z s=T/\Fx.dF T F z s=F/\Fx.uN T S z s=S):=hZ ⟨mK c,aj c,aJ c,aJ c,aI (fun e=>nb e.1),aI nb,aI (fun e=>c e.1)⟩;clear h c hp hs nb;go_in
  go_wp2_with fail
  refine(dB t b p z T _ HF.out.1).mono ?_;rintro e w1 ⟨rfl,hw1⟩;subst w1;rw[E2.out.1,E2.out.2.1];go_wp2
  go_ret2
  rw[E2.out.2.2.1,E2.out.2.2.2.1,E2.out.2.2.2.2.1,E2.out.2.2.2.2.2.1,E2.out.2.2.2.2.2.2,E2.out.2.1];exact⟨rfl,HF.out,cR.refl _ _ _ _⟩

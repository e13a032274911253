import Derived.Test.YtpmmdkcfenjiaaaGreatDoorUap
set_option maxRecDepth 100000
set_option maxHeartbeats 2000000
set_option linter.unusedVariables false
set_option linter.unusedSimpArgs false
namespace Go.Proofs.YtpmmdkcfenjiaaaGreatDoor
open Value renaming int->aa,pointer->ai,string->ak,tuple->ao,iface->aq
open IntKind renaming i64->az
open Ending renaming returned->bf
open Option renaming some->bh,none->bj
open Tryz (prog)
open Go.RowKit
open Fx (Fi)
open Tr (Fo Nd)
open Pp (Pi)
def Fx.dU(T:Nat->Fi)(F:Fo)(S:Nat->Pi)(z m:Int):Int:=
 if Fx.dj T z≠0 then Fx.dj T z else if(T z.toNat).kind=3 then 8 else if(T z.toNat).kind=2 then Pp.dU S ((T z.toNat).num:Int) m else Tr.dU F ((T z.toNat).num:Int) ((T z.toNat).pos:Int) m
def Fx.sM(T:Nat->Fi)(F:Fo)(S:Nat->Pi)(z m:Int):bU:=
 if Fx.dj T z≠0 then⟨#[]⟩else if(T z.toNat).kind=3 then⟨#[]⟩else if(T z.toNat).kind=2 then Pp.im S ((T z.toNat).num:Int) m else Tr.jf F ((T z.toNat).num:Int) ((T z.toNat).pos:Int) m
def Fx.im(T:Nat->Fi)(F:Fo)(z m:Int):Nat->Fi:=
 if Fx.dj T z=0/\(T z.toNat).kind≠3/\(T z.toNat).kind≠2/\Tr.dU F ((T z.toNat).num:Int) ((T z.toNat).pos:Int) m=0 then Fx.put T z.toNat {T z.toNat with pos:=(T z.toNat).pos+(Tr.jf F ((T z.toNat).num:Int) ((T z.toNat).pos:Int) m).size}else T
def Fx.p8(T:Nat->Fi)(S:Nat->Pi)(z m:Int):Nat->Pi:=if Fx.dj T z=0/\(T z.toNat).kind=2 then Pp.nM S ((T z.toNat).num:Int) m else S
def Fx.dE(T:Nat->Fi)(F:Fo)(S:Nat->Pi)(z:Int)(s:bU):Int:=
 if Fx.dj T z≠0 then Fx.dj T z else if(T z.toNat).kind=3 then Pp.dE S ((T z.toNat).num:Int) s else if(T z.toNat).wr=false then 8 else Tr.dE F ((T z.toNat).num:Int) ((T z.toNat).pos:Int) s
def Fx.iu(T:Nat->Fi)(F:Fo)(S:Nat->Pi)(z:Int)(s:bU):Nat:=
 if Fx.dj T z≠0 then 0 else if(T z.toNat).kind=3 then Pp.iu S ((T z.toNat).num:Int) s else if(T z.toNat).wr=false then 0 else if Tr.dE F ((T z.toNat).num:Int) ((T z.toNat).pos:Int) s=0 then s.size else 0
def Fx.qj(T:Nat->Fi)(z:Int):Prop:=Fx.dj T z=0/\(T z.toNat).kind≠3/\(T z.toNat).wr=true
def Fx.qqD(T:Nat->Fi)(z:Int):Decidable (Fx.qj T z):=by unfold Fx.qj;exact inferInstance
def Fx.qk(T:Nat->Fi)(F:Fo)(z:Int)(s:bU):Nat->Fi:=
 haveI:=Fx.qqD T z;if Fx.qj T z/\Tr.dE F ((T z.toNat).num:Int) ((T z.toNat).pos:Int) s=0 then Fx.put T z.toNat {T z.toNat with pos:=(T z.toNat).pos+s.size}else T
def Fx.eA(T:Nat->Fi)(F:Fo)(z:Int)(s:bU):Fo:=haveI:=Fx.qqD T z;if Fx.qj T z then Tr.eA F ((T z.toNat).num:Int) ((T z.toNat).pos:Int) s else F
def Fx.wW(T:Nat->Fi)(S:Nat->Pi)(z:Int)(s:bU):Nat->Pi:=if Fx.dj T z=0/\(T z.toNat).kind=3 then Pp.eA S ((T z.toNat).num:Int) s else S
def Fx.Pz(T:Nat->Fi):Prop:=∀n,n<24->(T n).pos<2^60
theorem Tr.P9{F:Fo}(h:Tr.tg F)(z a m:Int):(Tr.jf F z a m).size<=40:=by
 unfold Tr.jf;split
 .rename_i c;have i0:Tr.cD F z 1=0:=by
   unfold Tr.dU at c;grind
  obtain⟨n,rfl,n40,_,k1⟩:=Tr.eZ i0;have z40:=h n n40 k1;rw[hZ];have:∀(L:List Int) (r:bU),(L.foldl (λr n=>r.push (UInt8.ofNat n.toNat)) r).size=r.size+L.length:=by
   intro L
   induction L with
   |nil=>intro r;rfl
   |cons x L ih=>intro r;rw[List.foldl_cons,ih,ByteArray.size_push,List.length_cons];omega
  unfold Tr.On;rw[this,Tr.vh];show 0+_<=40;omega
 .exact aC _
theorem KQ(t b p:Nat)(z m:Int)(T:Nat->Fi)(F:Fo)(S:Nat->Pi)(w:bD)(h:FX w t b p T F S)(hz:Tr.tg F)(hp:Fx.Pz T):
  Calls prog 202 #[ai (bh ⟨t,0,bj⟩),aa az z,aa az m] w λe w'=>e=bf (ao #[ak (Fx.sM T F S z m),bG (Fx.dU T F S z m)])/\FX w' t b p (Fx.im T F z m) F (Fx.p8 T S z m)/\dw t b p w w':=by
 have HF:=hJ h;have HZ:=hJ hz;by_cases c:Fx.dj T z=0
 .obtain⟨n,rfl,n24,_⟩:=Fx.jZ c;have EP:Hid (Fx.dj T (n:Int)=0/\kP t (n:Int) 0=ai (bh ⟨t,2+n*5,bj⟩)):=hJ ⟨c,px t n⟩;have hps:=hp n n24;have c0:=h.1.kind n n24;have c1:=h.1.num n n24;have c3:=h.1.pos n n24;have cp:=h.1.pi;have cb:=h.1.fo;have cf:=h.1.frozen;have DE:Fx.dU T F S (n:Int) m=if(T n).kind=3 then 8 else if(T n).kind=2 then Pp.dU S ((T n).num:Int) m else Tr.dU F ((T n).num:Int) ((T n).pos:Int) m:=by unfold Fx.dU;rw[aI (λd=>d c),hZ]
  have DV:Fx.sM T F S (n:Int) m=if(T n).kind=3 then⟨#[]⟩else if(T n).kind=2 then Pp.im S ((T n).num:Int) m else Tr.jf F ((T n).num:Int) ((T n).pos:Int) m:=by unfold Fx.sM;rw[aI (λd=>d c),hZ]
  by_cases k3:(T n).kind=3
  .have FIN:Hid (Fx.dU T F S (n:Int) m=8/\Fx.sM T F S (n:Int) m=⟨#[]⟩/\Fx.im T F (n:Int) m=T/\Fx.p8 T S (n:Int) m=S):=hJ ⟨by rw[DE,aJ k3],by rw[DV,aJ k3],aI (λd=>by rw[hZ]at d;exact d.2.1 k3),aI (λd=>by rw[hZ,k3]at d;exact aZ d.2 bA)⟩;rw[k3]at c0;have c0':w.cell? ⟨t,2+n*5,bj⟩=bh (aa .i64 3):=c0;go_in
   go_wp2_with fail
   refine sC (dW t b p n T _ HF.1) ?_;rintro w1 hw1;subst w1;rw[EP.1,EP.2,bB];go_wp2
   go_ret2
   rw[FIN.1,FIN.2.1,FIN.2.2.1,FIN.2.2.2];exact⟨rfl,HF.v,dw.refl _ _ _ _⟩
  .by_cases k2:(T n).kind=2
   .have FIN:Hid (Fx.dU T F S (n:Int) m=Pp.dU S ((T n).num:Int) m/\Fx.sM T F S (n:Int) m=Pp.im S ((T n).num:Int) m/\Fx.im T F (n:Int) m=T/\Fx.p8 T S (n:Int) m=Pp.nM S ((T n).num:Int) m):=hJ ⟨by rw[DE,aI k3,aJ k2],by rw[DV,aI k3,aJ k2],aI (λd=>by rw[hZ]at d;exact d.2.2.1 k2),by unfold Fx.p8;rw[hZ,aJ ⟨c,k2⟩]⟩;rw[k2]at c0;have c0':w.cell? ⟨t,2+n*5,bj⟩=bh (aa .i64 2):=c0;generalize (T n).num=nm at*;have K0:=hJ (aK cp c1);have NP:=hJ h.2.2.2;go_in
    go_wp2_with fail
    refine sC (dW t b p n T _ HF.1) ?_;rintro w1 hw1;subst w1;rw[EP.1,EP.2,bB];go_wp2_with fail
    go_region_held3 (λw'=>w'.cell? ⟨t,1,bj⟩=bh (ai (bh ⟨p,0,bj⟩))/\w'.cell? ⟨t,2+n*5+1,bj⟩=bh (aa az (nm:Int))) (first|exact K0.v|exact K4.v) ((first|(go_at_call 245;refine sC (JQ p nm m S _ HF.2.2.1.drew) ?_;rintro w4 ⟨u4,f4⟩;have f4':bE p w w4:=⟨f4.os,f4.tape,f4.output,f4.size,f4.block⟩;have C4:=hJ (HF.pi u4 f4');have D4:Hid (dw t b p w w4):=hJ (dw.pi f4');have K4:=hJ (aK C4.1.pi ((aV (f4'.block t HF.1.lt NP.2.1)).trans K0.2)))))
    go_wp2
    go_ret2
    rw[FIN.1,FIN.2.1,FIN.2.2.1,FIN.2.2.2];exact⟨rfl,C4.v,D4.v⟩
   .have EP2:Hid (Fx.p8 T S (n:Int) m=S):=hJ (aI (λd=>by rw[hZ]at d;exact k2 d.2));have FIN:Hid (Fx.dU T F S (n:Int) m=Tr.dU F ((T n).num:Int) ((T n).pos:Int) m/\Fx.sM T F S (n:Int) m=Tr.jf F ((T n).num:Int) ((T n).pos:Int) m):=hJ ⟨by rw[DE,aI k3,aI k2],by rw[DV,aI k3,aI k2]⟩;have ET:Fx.im T F (n:Int) m=if Tr.dU F ((T n).num:Int) ((T n).pos:Int) m=0 then Fx.put T n {T n with pos:=(T n).pos+(Tr.jf F ((T n).num:Int) ((T n).pos:Int) m).size}else T:=by
     unfold Fx.im;rw[hZ];by_cases d:Tr.dU F ((T n).num:Int) ((T n).pos:Int) m=0
     .rw[aJ d,aJ ⟨c,k3,k2,d⟩]
     .rw[aI d,aI (λe=>d e.2.2.2)]
    have k3':(((T n).kind:Int)==3)=false:=by simp;omega
    have k2':(((T n).kind:Int)==2)=false:=by simp;omega
    have ZS:Hid ((Tr.jf F ((T n).num:Int) ((T n).pos:Int) m).size<=40):=hJ (Tr.P9 hz _ _ _);have SP:Hid (∀V,FX V t b p T F S->FX (V.setCell ⟨t,2+n*5+3,bj⟩ (aa az (((T n).pos+(Tr.jf F ((T n).num:Int) ((T n).pos:Int) m).size:Nat):Int))) t b p (Fx.put T n {T n with pos:=(T n).pos+(Tr.jf F ((T n).num:Int) ((T n).pos:Int) m).size}) F S):=hJ (λV hV=>hV.tb (hV.1.setPos n n24 _) ((bE.refl t V).setCell _ _));generalize hTX:Fx.put T n {T n with pos:=(T n).pos+(Tr.jf F ((T n).num:Int) ((T n).pos:Int) m).size}=TX at ET SP;generalize (T n).kind=kd at*;generalize (T n).num=nm at*;generalize (T n).pos=ps at*;have K0:=hJ (aK cb (aK c1 c3));have TR:=hJ (Ke b nm ps m F w.drew HF.2.1.drew hz);by_cases e0:Tr.dU F (nm:Int) (ps:Int) m=0
    .rw[aJ e0]at ET;have EE:=hJ (aK e0 ET);generalize Tr.jf F (nm:Int) (ps:Int) m=RS at*;have ad:IntKind.i64.wrap ((ps:Int)+(RS.size:Int))=((ps+RS.size:Nat):Int):=by
      have:=ZS.v;exact(aN _ ⟨by omega,bu⟩).trans bu
     go_in
     go_wp2_with fail
     refine sC (dW t b p n T _ HF.1) ?_;rintro w1 hw1;subst w1;rw[EP.1,EP.2,bB];go_wp2_with fail
     go_region_held3 (λw'=>w'.cell? ⟨t,0,bj⟩=bh (ai (bh ⟨b,0,bj⟩))/\w'.cell? ⟨t,2+n*5+1,bj⟩=bh (aa az (nm:Int))/\w'.cell? ⟨t,2+n*5+3,bj⟩=bh (aa az (ps:Int))) (first|exact K0.v|exact K4.v) ((first|(go_at_call 246;refine sC TR.v ?_;rintro w4 ⟨u4,b4⟩;have b4':Below w.heap.size w w4:=⟨b4.os,b4.tape,b4.output,b4.size,b4.block⟩;have C4:=hJ (HF.below b4');have D4:Hid (dw t b p w w4):=hJ (dw.below b4');have K4:=hJ (aK C4.1.fo (aK ((aV (b4'.block t HF.1.lt)).trans K0.2.1) ((aV (b4'.block t HF.1.lt)).trans K0.2.2)));rw[EE.1,bB])))
     have x3:=K4.2.2;have xf:=C4.1.frozen;have X5:=hJ (SP.v _ C4.v);have D5:Hid (dw t b p w (w4.setCell ⟨t,2+n*5+3,bj⟩ (aa az ((ps+RS.size:Nat):Int)))):=hJ (D4.trans (dw.tb ((bE.refl t w4).setCell _ _)));go_wp2
     go_ret2
     rw[FIN.1,FIN.2,EP2.v,EE.1,EE.2];exact⟨rfl,X5.v,D5.v⟩
    .rw[aI e0]at ET;have EE:=hJ (aK (bC e0) ET);have VS:Hid (Tr.jf F (nm:Int) (ps:Int) m=⟨#[]⟩):=hJ (by unfold Tr.jf;rw[aI e0];rfl);go_in
     go_wp2_with fail
     refine sC (dW t b p n T _ HF.1) ?_;rintro w1 hw1;subst w1;rw[EP.1,EP.2,bB];go_wp2_with fail
     go_region_held3 (λw'=>w'.cell? ⟨t,0,bj⟩=bh (ai (bh ⟨b,0,bj⟩))/\w'.cell? ⟨t,2+n*5+1,bj⟩=bh (aa az (nm:Int))/\w'.cell? ⟨t,2+n*5+3,bj⟩=bh (aa az (ps:Int))) (first|exact K0.v|exact K4.v) ((first|(go_at_call 246;refine sC TR.v ?_;rintro w4 ⟨u4,b4⟩;have b4':Below w.heap.size w w4:=⟨b4.os,b4.tape,b4.output,b4.size,b4.block⟩;have C4:=hJ (HF.below b4');have D4:Hid (dw t b p w w4):=hJ (dw.below b4');have K4:=hJ (aK C4.1.fo (aK ((aV (b4'.block t HF.1.lt)).trans K0.2.1) ((aV (b4'.block t HF.1.lt)).trans K0.2.2)));rw[EE.1])))
     go_wp2
     go_ret2
     rw[FIN.1,FIN.2,EP2.v,EE.1,EE.2,VS.v];exact⟨rfl,C4.v,D4.v⟩
 .have E2:Hid (kP t z (Fx.dj T z)=ai bj/\bG (Fx.dj T z)=aq 100 (aa az (Fx.dj T z))/\Fx.dU T F S z m=Fx.dj T z/\Fx.sM T F S z m=⟨#[]⟩/\Fx.im T F z m=T/\Fx.p8 T S z m=S):=hJ ⟨nv c,bC c,aJ c,aJ c,aI (λe=>c e.1),aI (λe=>c e.1)⟩;go_in
  go_wp2_with fail
  refine sC (dW t b p z T _ HF.1) ?_;rintro w1 hw1;subst w1;rw[E2.1,E2.2.1];go_wp2
  go_ret2
  rw[E2.2.2.1,E2.2.2.2.1,E2.2.2.2.2.1,E2.2.2.2.2.2,E2.2.1];exact⟨rfl,HF.v,dw.refl _ _ _ _⟩
theorem Ii(t b p:Nat)(z:Int)(s:bU)(T:Nat->Fi)(F:Fo)(S:Nat->Pi)(w:bD)(h:FX w t b p T F S)(hs:s.size<2^59)(hp:Fx.Pz T):
  Calls prog 203 #[ai (bh ⟨t,0,bj⟩),aa az z,ak s] w λe w'=>e=bf (ao #[aa az (Fx.iu T F S z s:Int),bG (Fx.dE T F S z s)])/\FX w' t b p (Fx.qk T F z s) (Fx.eA T F z s) (Fx.wW T S z s)/\dw t b p w w':=by
 have HF:=hJ h;have HL:=hJ hs;by_cases c:Fx.dj T z=0
 .obtain⟨n,rfl,n24,_⟩:=Fx.jZ c;have EP:Hid (Fx.dj T (n:Int)=0/\kP t (n:Int) 0=ai (bh ⟨t,2+n*5,bj⟩)):=hJ ⟨c,px t n⟩;have hps:=hp n n24;have c0:=h.1.kind n n24;have c1:=h.1.num n n24;have c2:=h.1.wr n n24;have c3:=h.1.pos n n24;have cp:=h.1.pi;have cb:=h.1.fo;have cf:=h.1.frozen;have DE:Fx.dE T F S (n:Int) s=if(T n).kind=3 then Pp.dE S ((T n).num:Int) s else if(T n).wr=false then 8 else Tr.dE F ((T n).num:Int) ((T n).pos:Int) s:=by unfold Fx.dE;rw[aI (λd=>d c),hZ]
  have DK:Fx.iu T F S (n:Int) s=if(T n).kind=3 then Pp.iu S ((T n).num:Int) s else if(T n).wr=false then 0 else if Tr.dE F ((T n).num:Int) ((T n).pos:Int) s=0 then s.size else 0:=by unfold Fx.iu;rw[aI (λd=>d c),hZ]
  by_cases k3:(T n).kind=3
  .have nb:¬Fx.qj T (n:Int):=λd=>by unfold Fx.qj at d;rw[hZ]at d;exact d.2.1 k3
   have FIN:Hid (Fx.dE T F S (n:Int) s=Pp.dE S ((T n).num:Int) s/\Fx.iu T F S (n:Int) s=Pp.iu S ((T n).num:Int) s/\Fx.qk T F (n:Int) s=T/\Fx.eA T F (n:Int) s=F/\Fx.wW T S (n:Int) s=Pp.eA S ((T n).num:Int) s):=hJ ⟨by rw[DE,aJ k3],by rw[DK,aJ k3],aI (λd=>nb d.1),aI nb,by unfold Fx.wW;rw[hZ,aJ ⟨c,k3⟩]⟩;rw[k3]at c0;have c0':w.cell? ⟨t,2+n*5,bj⟩=bh (aa .i64 3):=c0;generalize (T n).num=nm at*;have K0:=hJ (aK cp c1);have NP:=hJ h.2.2.2;go_in
   go_wp2_with fail
   refine sC (dW t b p n T _ HF.1) ?_;rintro w1 hw1;subst w1;rw[EP.1,EP.2,bB];go_wp2_with fail
   go_region_held3 (λw'=>w'.cell? ⟨t,1,bj⟩=bh (ai (bh ⟨p,0,bj⟩))/\w'.cell? ⟨t,2+n*5+1,bj⟩=bh (aa az (nm:Int))) (first|exact K0.v|exact K4.v) ((first|(go_at_call 247;refine sC (Hj p nm s S _ HF.2.2.1.drew (by have:=HL.v;omega)) ?_;rintro w4 ⟨u4,f4⟩;have f4':bE p w w4:=⟨f4.os,f4.tape,f4.output,f4.size,f4.block⟩;have C4:=hJ (HF.pi u4 f4');have D4:Hid (dw t b p w w4):=hJ (dw.pi f4');have K4:=hJ (aK C4.1.pi ((aV (f4'.block t HF.1.lt NP.2.1)).trans K0.2)))))
   go_wp2
   go_ret2
   rw[FIN.1,FIN.2.1,FIN.2.2.1,FIN.2.2.2.1,FIN.2.2.2.2];exact⟨rfl,C4.v,D4.v⟩
  .have k3':(((T n).kind:Int)==3)=false:=by simp;omega
   have EP2:Hid (Fx.wW T S (n:Int) s=S):=hJ (aI (λd=>by rw[hZ]at d;exact k3 d.2));by_cases w0:(T n).wr=false
   .have nb:¬Fx.qj T (n:Int):=λd=>by unfold Fx.qj at d;rw[hZ,w0]at d;exact aZ d.2.2 bA
    have FIN:Hid (Fx.dE T F S (n:Int) s=8/\Fx.iu T F S (n:Int) s=0/\Fx.qk T F (n:Int) s=T/\Fx.eA T F (n:Int) s=F):=hJ ⟨by rw[DE,aI k3,aJ w0],by rw[DK,aI k3,aJ w0],aI (λd=>nb d.1),aI nb⟩;rw[w0]at c2;generalize (T n).kind=kd at*;go_in
    go_wp2_with fail
    refine sC (dW t b p n T _ HF.1) ?_;rintro w1 hw1;subst w1;rw[EP.1,EP.2,bB];go_wp2
    go_ret2
    rw[FIN.1,FIN.2.1,FIN.2.2.1,FIN.2.2.2,EP2.v];exact⟨rfl,HF.v,dw.refl _ _ _ _⟩
   .have w1':(T n).wr=true:=by simpa using w0
    have yb:Fx.qj T (n:Int):=by unfold Fx.qj;rw[hZ];exact⟨c,k3,w1'⟩
    have FIN:Hid (Fx.dE T F S (n:Int) s=Tr.dE F ((T n).num:Int) ((T n).pos:Int) s/\Fx.eA T F (n:Int) s=Tr.eA F ((T n).num:Int) ((T n).pos:Int) s):=hJ ⟨by rw[DE,aI k3,aI w0],by unfold Fx.eA;rw[aJ yb,hZ]⟩;have DK2:Fx.iu T F S (n:Int) s=if Tr.dE F ((T n).num:Int) ((T n).pos:Int) s=0 then s.size else 0:=by rw[DK,aI k3,aI w0]
    have ET:Fx.qk T F (n:Int) s=if Tr.dE F ((T n).num:Int) ((T n).pos:Int) s=0 then Fx.put T n {T n with pos:=(T n).pos+s.size}else T:=by
     unfold Fx.qk;rw[hZ];by_cases d:Tr.dE F ((T n).num:Int) ((T n).pos:Int) s=0
     .rw[aJ d,aJ ⟨yb,d⟩]
     .rw[aI d,aI (λe=>d e.2)]
    have SP:Hid (∀V G,FX V t b p T G S->FX (V.setCell ⟨t,2+n*5+3,bj⟩ (aa az (((T n).pos+s.size:Nat):Int))) t b p (Fx.put T n {T n with pos:=(T n).pos+s.size}) G S):=hJ (λV G hV=>hV.tb (hV.1.setPos n n24 _) ((bE.refl t V).setCell _ _));generalize hTX:Fx.put T n {T n with pos:=(T n).pos+s.size}=TX at ET SP;rw[w1']at c2;generalize (T n).kind=kd at*;generalize (T n).num=nm at*;generalize (T n).pos=ps at*;have K0:=hJ (aK cb (aK c1 c3));have NP:=hJ h.2.2.2;have TW:=hJ (Ia b nm ps s F w.drew HF.2.1.drew bu);by_cases e0:Tr.dE F (nm:Int) (ps:Int) s=0
    .rw[aJ e0]at ET DK2;have EE:=hJ (aK e0 (aK ET DK2));have ad:IntKind.i64.wrap ((ps:Int)+(s.size:Int))=((ps+s.size:Nat):Int):=(aN _ ⟨by omega,bu⟩).trans bu;go_in
     go_wp2_with fail
     refine sC (dW t b p n T _ HF.1) ?_;rintro w1 hw1;subst w1;rw[EP.1,EP.2,bB];go_wp2_with fail
     go_region_held3 (λw'=>w'.cell? ⟨t,0,bj⟩=bh (ai (bh ⟨b,0,bj⟩))/\w'.cell? ⟨t,2+n*5+1,bj⟩=bh (aa az (nm:Int))/\w'.cell? ⟨t,2+n*5+3,bj⟩=bh (aa az (ps:Int))) (first|exact K0.v|exact K4.v) ((first|(go_at_call 248;refine sC TW.v ?_;rintro w4 ⟨u4,f4⟩;have f4':bE b w w4:=⟨f4.os,f4.tape,f4.output,f4.size,f4.block⟩;have C4:=hJ (HF.fo u4 f4');have D4:Hid (dw t b p w w4):=hJ (dw.fo f4');have K4:=hJ (aK C4.1.fo (aK ((aV (f4'.block t HF.1.lt NP.1)).trans K0.2.1) ((aV (f4'.block t HF.1.lt NP.1)).trans K0.2.2)));rw[EE.1,bB])))
     have x3:=K4.2.2;have xf:=C4.1.frozen;have X5:=hJ (SP.v _ _ C4.v);have D5:Hid (dw t b p w (w4.setCell ⟨t,2+n*5+3,bj⟩ (aa az ((ps+s.size:Nat):Int)))):=hJ (D4.trans (dw.tb ((bE.refl t w4).setCell _ _)));go_wp2
     go_ret2
     rw[FIN.1,FIN.2,EP2.v,EE.1,EE.2.1,EE.2.2];exact⟨rfl,X5.v,D5.v⟩
    .rw[aI e0]at ET DK2;have EE:=hJ (aK (bC e0) (aK ET DK2));go_in
     go_wp2_with fail
     refine sC (dW t b p n T _ HF.1) ?_;rintro w1 hw1;subst w1;rw[EP.1,EP.2,bB];go_wp2_with fail
     go_region_held3 (λw'=>w'.cell? ⟨t,0,bj⟩=bh (ai (bh ⟨b,0,bj⟩))/\w'.cell? ⟨t,2+n*5+1,bj⟩=bh (aa az (nm:Int))/\w'.cell? ⟨t,2+n*5+3,bj⟩=bh (aa az (ps:Int))) (first|exact K0.v|exact K4.v) ((first|(go_at_call 248;refine sC TW.v ?_;rintro w4 ⟨u4,f4⟩;have f4':bE b w w4:=⟨f4.os,f4.tape,f4.output,f4.size,f4.block⟩;have C4:=hJ (HF.fo u4 f4');have D4:Hid (dw t b p w w4):=hJ (dw.fo f4');have K4:=hJ (aK C4.1.fo (aK ((aV (f4'.block t HF.1.lt NP.1)).trans K0.2.1) ((aV (f4'.block t HF.1.lt NP.1)).trans K0.2.2)));rw[EE.1])))
     go_wp2
     go_ret2
     rw[FIN.1,FIN.2,EP2.v,EE.1,EE.2.1,EE.2.2];exact⟨rfl,C4.v,D4.v⟩
 .have nb:¬Fx.qj T z:=λd=>c d.1;have E2:Hid (kP t z (Fx.dj T z)=ai bj/\bG (Fx.dj T z)=aq 100 (aa az (Fx.dj T z))/\Fx.dE T F S z s=Fx.dj T z/\Fx.iu T F S z s=0/\Fx.qk T F z s=T/\Fx.eA T F z s=F/\Fx.wW T S z s=S):=hJ ⟨nv c,bC c,aJ c,aJ c,aI (λe=>nb e.1),aI nb,aI (λe=>c e.1)⟩;go_in
  go_wp2_with fail
  refine sC (dW t b p z T _ HF.1) ?_;rintro w1 hw1;subst w1;rw[E2.1,E2.2.1];go_wp2
  go_ret2
  rw[E2.2.2.1,E2.2.2.2.1,E2.2.2.2.2.1,E2.2.2.2.2.2.1,E2.2.2.2.2.2.2,E2.2.1];exact⟨rfl,HF.v,dw.refl _ _ _ _⟩

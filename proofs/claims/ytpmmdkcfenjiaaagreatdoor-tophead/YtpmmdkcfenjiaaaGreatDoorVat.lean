import Derived.Test.YtpmmdkcfenjiaaaGreatDoorVas
set_option maxRecDepth 100000
set_option maxHeartbeats 1000000
namespace Go.Proofs.YtpmmdkcfenjiaaaGreatDoor
open Go.RowKit
open Pp (Pi)
def Pp.fF (S:Nat->Pi)(n:Nat)(E:Int):Prop:=(E=0/\n<8/\Pp.jJ (S n)=false/\ ∀m,m<n->Pp.jJ (S m)=true)\/(E=4/\n=0/\ ∀m,m<8->Pp.jJ (S m)=true)
def Pp.iS (S:Nat->Pi)(n:Nat)(E:Int):Nat->Pi:=if E=0 then Pp.put S n ⟨⟨#[]⟩,1,1⟩else S
theorem FJ (b:Nat)(S:Nat->Pi)(w:bD)(h:db w b S):
  Calls Tryz.prog 244 #[.pointer (some ⟨b,0,none⟩)] w fun e w'=> ∃(n:Nat) (E:Int),e= .returned (.tuple #[.int .i64 (n:Int),aq E])/\Pp.fF S n E/\db w' b (Pp.iS S n E)/\af b w w':=by
 have HF:=hZ h;clear h;go_in
 go_wp2_with fail
 go_loopw [4,5] (fun x i wr=> ∃(n:Nat),i= .int .i64 n/\n<=8/\Hid (∀m,m<n->Pp.jJ (S m)=true)/\wr=w) (fun _ i _=>8-(intOf i).toNat)
 case atStart=>exact⟨0,rfl,by omega,fun m hm=>by omega,rfl⟩
 case round=>
  obtain⟨n,rfl,hn,HN,hwr⟩:=hrel;subst wr;by_cases hlt:n<8
  ·have hltI:(n:Int)<8:=by omega
   go_wp2_with fail
   refine(oa b n S _ HF.out hlt).mono ?_;rintro e w1 ⟨rfl,hw1⟩;subst w1;cases hth:Pp.jJ (S n)
   ·have TH:=hZ (HF.out.Dg n hlt 1 1);have HS:=hZ (Pp.yO 1 1);have H1:=hZ (Pp.Dl 1 1);have FT:Hid (Pp.fF S n 0):=hZ (.inl ⟨rfl,hlt,hth,HN.out⟩);have FIN:Hid (db (w.setCells b (n*15) (Pp.mo 1 1).toList) b (Pp.iS S n 0)/\af b w (w.setCells b (n*15) (Pp.mo 1 1).toList)):=hZ (by
     unfold Pp.iS;rw[aJ rfl];exact⟨HF.out.Lo n hlt 1 1,Pp.iA _ _ (af.refl b w)⟩)
    obtain⟨A,hA⟩:=nJ (Pp.mo 1 1);rw[hA]at FIN TH HS H1;go_wp2_with (first|(refine Pp.Hs rfl rfl ?_;rw[hA])|(refine wpList_store_mid rfl 119 _ _ rfl b (n*15) A rfl rfl TH.out HS.out H1.out ?_))
    go_ret2
    exact⟨n,0,rfl,FT.out,FIN.out⟩
   ·have HN2:Hid (∀m,m<n+1->Pp.jJ (S m)=true):=hZ (fun m hm=>by
     by_cases c:m=n
     ·subst c;exact hth
     ·exact HN.out m (by omega))
    clear hth;go_wp2
    go_roundw
    case rel=>exact⟨n+1,by go_num,by omega,HN2,by first|rfl|trivial⟩
    case measure=>simp[intOf];omega
  ·have hltI: ¬(n:Int)<8:=by omega
   obtain rfl:n=8:=by omega
   have FT:Hid (Pp.fF S 0 4):=hZ (.inr ⟨rfl,rfl,HN.out⟩);have FF:Hid (Pp.iS S 0 4=S):=hZ (aI (by decide));go_wp2
   go_ret2
   exact⟨0,4,rfl,FT.out,by rw[FF.out];exact HF.out,af.refl _ _⟩
open Fx (Fi)
open Tr (Fo Nd)
theorem Fx.results3 {fn:Func}{t u v:Tmp}(h:fn.results=#[.tmp t, .tmp u, .tmp v])(tmps:Array Value)(P:Program)(w:bD):
  (results fn tmps).run P w= .ok (.tuple #[tmps.getD t undef,tmps.getD u undef,tmps.getD v undef]) w:=by
 simp[results,h]
def Fx.dP (T:Nat->Fi)(z a:Int):Int:=if Fx.cE T z≠0 then Fx.cE T z else if(T z.toNat).kind≠1 then 11 else if a<0\/40<a then 1 else 0
def Fx.kG (T:Nat->Fi)(z a:Int):Nat->Fi:=if Fx.dP T z a=0 then Fx.put T z.toNat {T z.toNat with pos:=a.toNat}else T
theorem Ix (t b p:Nat)(z a:Int)(T:Nat->Fi)(w:bD)(h:dy w t b p T):
  Calls Tryz.prog 204 #[.pointer (some ⟨t,0,none⟩), .int .i64 z, .int .i64 a] w fun e w'=>e= .returned (aq (Fx.dP T z a))/\dy w' t b p (Fx.kG T z a)/\af t w w':=by
 have HF:=hZ h;by_cases c:Fx.cE T z=0
 ·obtain⟨n,rfl,n24,_⟩:=Fx.jz c;have EP:Hid (Fx.cE T (n:Int)=0/\jR t (n:Int) 0= .pointer (some ⟨t,2+n*5,none⟩)):=hZ ⟨c,og t n⟩;have DE:Fx.dP T (n:Int) a=if(T n).kind≠1 then 11 else if a<0\/40<a then 1 else 0:=by unfold Fx.dP;rw[aI (fun d=>d c),hU]
  have c0:=h.kind n n24;have c3:=h.pos n n24;have cf:=h.frozen;have no: ∀E,E≠0->Fx.dP T (n:Int) a=E->Fx.kG T (n:Int) a=T:=fun E e0 e=>by unfold Fx.kG;rw[e,aI e0]
  by_cases k1:(T n).kind=1
  ·rw[k1]at c0;have c0':w.cell? ⟨t,2+n*5,none⟩=some (.int .i64 1):=c0;by_cases a0:a<0
   ·have e:Fx.dP T (n:Int) a=1:=by rw[DE,aI (fun d=>d k1),aJ (.inl a0)]
    have FIN:Hid (Fx.dP T (n:Int) a=1/\Fx.kG T (n:Int) a=T):=hZ ⟨e,no 1 (by decide) e⟩;clear h c DE no k1 c0 e c3;go_in
    go_wp2_with fail
    refine(dB t b p n T _ HF.out).mono ?_;rintro e w1 ⟨rfl,hw1⟩;subst w1;rw[EP.out.1,EP.out.2,aa];go_wp2
    go_ret
    rw[FIN.out.1,FIN.out.2];exact⟨rfl,HF.out,af.refl _ _⟩
   ·by_cases a4:40<a
    ·have e:Fx.dP T (n:Int) a=1:=by rw[DE,aI (fun d=>d k1),aJ (.inr a4)]
     have FIN:Hid (Fx.dP T (n:Int) a=1/\Fx.kG T (n:Int) a=T):=hZ ⟨e,no 1 (by decide) e⟩;clear h c DE no k1 c0 e c3;go_in
     go_wp2_with fail
     refine(dB t b p n T _ HF.out).mono ?_;rintro e w1 ⟨rfl,hw1⟩;subst w1;rw[EP.out.1,EP.out.2,aa];go_wp2
     go_ret
     rw[FIN.out.1,FIN.out.2];exact⟨rfl,HF.out,af.refl _ _⟩
    ·have e:Fx.dP T (n:Int) a=0:=by rw[DE,aI (fun d=>d k1),aI (by omega)]
     obtain⟨q,rfl⟩: ∃q:Nat,a=q:=⟨a.toNat,by omega⟩;have FIN:Hid (Fx.dP T (n:Int) (q:Int)=0/\dy (w.setCell ⟨t,2+n*5+3,none⟩ (.int .i64 (q:Int))) t b p (Fx.kG T (n:Int) (q:Int))):=hZ ⟨e,by unfold Fx.kG;rw[aJ e,hU,hU];exact h.setPos n n24 q⟩;generalize (T n).pos=ps at*;clear h c DE no k1 c0 e;go_in
     go_wp2_with fail
     refine(dB t b p n T _ HF.out).mono ?_;rintro e w1 ⟨rfl,hw1⟩;subst w1;rw[EP.out.1,EP.out.2,aa];go_wp2
     go_ret
     rw[FIN.out.1];exact⟨rfl,FIN.out.2,(af.refl t w).setCell _ _⟩
  ·have e:Fx.dP T (n:Int) a=11:=by rw[DE,aJ k1]
   have FIN:Hid (Fx.dP T (n:Int) a=11/\Fx.kG T (n:Int) a=T):=hZ ⟨e,no 11 (by decide) e⟩;have k1':(((T n).kind:Int) !=1)=true:=by simp;omega
   have k1'':(((T n).kind:Int)==1)=false:=by simp;omega
   generalize (T n).kind=kd at*;clear h c DE no k1 e c3;go_in
   go_wp2_with fail
   refine(dB t b p n T _ HF.out).mono ?_;rintro e w1 ⟨rfl,hw1⟩;subst w1;rw[EP.out.1,EP.out.2,aa];go_wp2
   go_ret
   rw[FIN.out.1,FIN.out.2];exact⟨rfl,HF.out,af.refl _ _⟩
 ·have E2:Hid (jR t z (Fx.cE T z)= .pointer none/\aq (Fx.cE T z)= .iface 100 (.int .i64 (Fx.cE T z))/\Fx.dP T z a=Fx.cE T z/\Fx.kG T z a=T):=hZ (by
   have e:Fx.dP T z a=Fx.cE T z:=aJ c;exact⟨mK c,aj c,e,by unfold Fx.kG;rw[e,aI c]⟩)
  clear h c;go_in
  go_wp2_with fail
  refine(dB t b p z T _ HF.out).mono ?_;rintro e w1 ⟨rfl,hw1⟩;subst w1;rw[E2.out.1,E2.out.2.1];go_wp2
  go_ret
  rw[E2.out.2.2.1,E2.out.2.2.2,E2.out.2.1];exact⟨rfl,HF.out,af.refl _ _⟩
def Fx.ts (T:Nat->Fi)(S:Nat->Pi)(A C:Nat)(E:Int)(T':Nat->Fi)(S':Nat->Pi):Prop:=
 (22<Fx.bG T 24/\A=0/\C=0/\E=4/\T'=T/\S'=S)
 \/(Fx.bG T 24<=22/\ ∃n e,Pp.fF S n e/\((e≠0/\A=0/\C=0/\E=e/\T'=T/\S'=S)
  \/(e=0/\E=0/\Fx.sd T A/\Fx.sd (Fx.put T A ⟨2,n,false,0,1⟩) C/\T'=Fx.put (Fx.put T A ⟨2,n,false,0,1⟩) C ⟨3,n,false,0,1⟩/\S'=Pp.iS S n 0)))
theorem Fx.KD {T:Nat->Fi}(x:Fi)(h:Fx.bG T 24<=22): ∃a c,Fx.sd T a/\Fx.sd (Fx.put T a x) c:=by
 obtain⟨a,ha⟩:=Fx.Bn (T:=T) (by omega);have ex: ∀M,M<=a->Fx.bG (Fx.put T a x) M=Fx.bG T M:=by
  intro M
  induction M with
  |zero=>intro _;rfl
  |succ M ih2=>
   intro hM;show Fx.bG (Fx.put T a x) M+(if(Fx.put T a x M).refs=0 then 0 else 1)=Fx.bG T M+(if(T M).refs=0 then 0 else 1);rw[ih2 (by omega),Fx.ao _ _ _ _ (by omega)]
 have cp: ∀N,Fx.bG (Fx.put T a x) N<=Fx.bG T N+1:=by
  intro N
  induction N with
  |zero=>exact aC _
  |succ N ih=>
   show Fx.bG (Fx.put T a x) N+(if(Fx.put T a x N).refs=0 then 0 else 1)<=Fx.bG T N+(if(T N).refs=0 then 0 else 1)+1;by_cases c:N=a
   ·rw[ex N (by omega)]
    repeat' split
    all_goals omega
   ·rw[Fx.ao _ _ _ _ c];omega
 have:=cp 24;obtain⟨c,hc⟩:=Fx.Bn (T:=Fx.put T a x) (by omega);exact⟨a,c,ha,hc⟩
theorem Gj (t b p:Nat)(T:Nat->Fi)(F:Fo)(S:Nat->Pi)(w:bD)(h:FX w t b p T F S):
  Calls Tryz.prog 201 #[.pointer (some ⟨t,0,none⟩)] w fun e w'=> ∃(A C:Nat) (E:Int) (T':Nat->Fi) (S':Nat->Pi),e= .returned (.tuple #[.int .i64 (A:Int), .int .i64 (C:Int),aq E])/\Fx.ts T S A C E T' S'/\FX w' t b p T' F S'/\cR t b p w w':=by
 have HF:=hZ h;have lc:=Fx.lW T 24;have y1:=h.1.pi;by_cases r1:22<Fx.bG T 24
 ·have rd:decide ((2:Int)<=24-(Fx.bG T 24:Int))=false:=by simp;omega
  have FIN:Hid (Fx.ts T S 0 0 4 T S):=hZ (.inl ⟨r1,rfl,rfl,rfl,rfl,rfl⟩);clear h lc r1;go_in
  go_wp2_with fail
  refine(ng t b p 2 T _ HF.out.1).mono ?_;rintro e W3 ⟨rfl,hW3⟩;subst W3;rw[rd];go_wp2_with fail
  (try simp only[Exit.then]);refine bodyPost_ret (Fx.results3 rfl _ _ _) rfl ?_
  exact⟨0,0,4,T,S,rfl,FIN.out,HF.out,cR.refl _ _ _ _⟩
 ·have rd:decide ((2:Int)<=24-(Fx.bG T 24:Int))=true:=by simp;omega
  have r2:Fx.bG T 24<=22:=by omega
  have R2:=hZ r2;clear h lc r1 r2;go_in
  go_wp2_with fail
  refine(ng t b p 2 T _ HF.out.1).mono ?_;rintro e W3 ⟨rfl,hW3⟩;subst W3;rw[rd];go_wp2_with fail
  refine(FJ p S _ HF.out.2.2.1).mono ?_;rintro e W4 ⟨n,E4,rfl,hf,h4,f4⟩;by_cases e0:E4=0
  ·subst e0;obtain⟨a,c,ha,hc⟩:=Fx.KD (T:=T) ⟨2,n,false,0,1⟩ R2.out;have FIN:Hid (Fx.ts T S a c 0 (Fx.put (Fx.put T a ⟨2,n,false,0,1⟩) c ⟨3,n,false,0,1⟩) (Pp.iS S n 0)):=hZ (.inr ⟨R2.out,n,0,hf, .inr ⟨rfl,rfl,ha,hc,rfl,rfl⟩⟩);have HA:=hZ ha;have HC:=hZ hc;have H4:=hZ (HF.out.pi h4 f4);have F4:Hid (cR t b p w W4):=hZ (cR.pi f4);rw[aa];clear ha hc h4 f4 hf y1;go_wp2_with fail
   refine(uT t b p ⟨2,n,false,0,0⟩ a T _ H4.out.1 HA.out).mono ?_;rintro e W5 ⟨rfl,h5,f5⟩;have H5:=hZ (H4.out.tb h5 f5);have F5:=hZ (F4.out.trans (cR.tb f5));clear h5 f5 H4 F4;go_wp2_with fail
   refine(uT t b p ⟨3,n,false,0,0⟩ c _ _ H5.out.1 HC.out).mono ?_;rintro e W6 ⟨rfl,h6,f6⟩;have H6:=hZ (H5.out.tb h6 f6);have F6:=hZ (F5.out.trans (cR.tb f6));clear h6 f6 H5 F5;go_wp2_with fail
   (try simp only[Exit.then]);refine bodyPost_ret (Fx.results3 rfl _ _ _) rfl ?_
   exact⟨a,c,0,_,_,rfl,FIN.out,H6.out,F6.out⟩
  ·have eM:Pp.iS S n E4=S:=aI e0;rw[eM]at h4;have FIN:Hid (Fx.ts T S 0 0 E4 T S):=hZ (.inr ⟨R2.out,n,E4,hf, .inl ⟨e0,rfl,rfl,rfl,rfl,rfl⟩⟩);have H4:=hZ (HF.out.pi h4 f4);have F4:Hid (cR t b p w W4):=hZ (cR.pi f4);have EV:=hZ (aj e0);rw[EV.out];clear h4 f4 hf y1 e0;go_wp2_with fail
   (try simp only[Exit.then]);refine bodyPost_ret (Fx.results3 rfl _ _ _) rfl ?_
   exact⟨0,0,E4,T,S,by rw[EV.out];rfl,FIN.out,H4.out,F4.out⟩

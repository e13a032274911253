import Derived.Test.YtpmmdkcfenjiaaaGreatDoorUaq
set_option maxRecDepth 100000
set_option maxHeartbeats 1000000
set_option linter.unusedVariables false
set_option linter.unusedSimpArgs false
namespace Go.Proofs.YtpmmdkcfenjiaaaGreatDoor
open Value renaming int->aa,pointer->ai,tuple->ao,iface->aq
open IntKind renaming i64->az
open Ending renaming returned->bf
open Option renaming some->bh,none->bj
open Tryz (prog)
open Go.RowKit
open Pp (Pi)
def Pp.gq(S:Nat->Pi)(n:Nat)(E:Int):Prop:=(E=0/\n<8/\Pp.lC (S n)=false/\∀m,m<n->Pp.lC (S m)=true)\/(E=4/\n=0/\∀m,m<8->Pp.lC (S m)=true)
def Pp.jz(S:Nat->Pi)(n:Nat)(E:Int):Nat->Pi:=if E=0 then Pp.put S n ⟨⟨#[]⟩,1,1⟩else S
theorem JP(b:Nat)(S:Nat->Pi)(w:bD)(h:dH w b S):
  Calls prog 244 #[ai (bh ⟨b,0,bj⟩)] w λe w'=>∃(n:Nat) (E:Int),e=bf (ao #[aa az (n:Int),bG E])/\Pp.gq S n E/\dH w' b (Pp.jz S n E)/\bE b w w':=by
 have HF:=hJ h;go_in
 go_wp2_with fail
 go_loopw [4,5] (λx i wr=>∃(n:Nat),i=aa az n/\n<=8/\Hid (∀m,m<n->Pp.lC (S m)=true)/\wr=w) (λ_ i _=>8-(intOf i).toNat)
 case atStart=>exact⟨0,rfl,bu,λm hm=>bu,rfl⟩
 case round=>
  obtain⟨n,rfl,hn,HN,hwr⟩:=hrel;subst wr;by_cases hlt:n<8
  .have hltI:(n:Int)<8:=bu
   go_wp2_with fail
   refine sC (pg b n S _ HF.v hlt) ?_;rintro w1 hw1;subst w1;cases hth:Pp.lC (S n)
   .have TH:=hJ (HF.Ft n hlt 1 1);have HS:=hJ (Pp.zQ 1 1);have H1:=hJ (Pp.Fc 1 1);have FT:Hid (Pp.gq S n 0):=hJ (.inl ⟨rfl,hlt,hth,HN.v⟩);have FIN:Hid (dH (w.setCells b (n*15) (Pp.ng 1 1).toList) b (Pp.jz S n 0)/\bE b w (w.setCells b (n*15) (Pp.ng 1 1).toList)):=hJ (by
     unfold Pp.jz;rw[aJ rfl];exact⟨HF.Ov n hlt 1 1,Pp.jc _ _ (bE.refl b w)⟩)
    obtain⟨A,hA⟩:=hU (Pp.ng 1 1);rw[hA]at FIN TH HS H1;go_wp2_with (first|(refine Pp.Ky rfl rfl ?_;rw[hA])|(refine wpList_store_mid rfl 119 _ _ rfl b (n*15) A rfl rfl TH.v HS.v H1.v ?_))
    go_ret2
    exact⟨n,0,rfl,FT.v,FIN.v⟩
   .have HN2:Hid (∀m,m<n+1->Pp.lC (S m)=true):=hJ (λm hm=>by
     by_cases c:m=n
     .subst c;exact hth
     .exact HN.v m bu)
    go_wp2
    go_roundw
    case rel=>exact⟨n+1,by go_num,bu,HN2,by first|rfl|trivial⟩
    case measure=>simp[intOf];omega
  .have hltI:¬(n:Int)<8:=bu
   obtain rfl:n=8:=bu
   have FT:Hid (Pp.gq S 0 4):=hJ (.inr ⟨rfl,rfl,HN.v⟩);have FF:Hid (Pp.jz S 0 4=S):=hJ (aI bA);go_wp2
   go_ret2
   exact⟨0,4,rfl,FT.v,by rw[FF.v];exact HF.v,bE.refl _ _⟩
open Fx (Fi)
open Tr (Fo Nd)
theorem Fx.results3{fn:Func}{t u v:Tmp}(h:fn.results=#[.tmp t, .tmp u, .tmp v])(tmps:Array Value)(P:Program)(w:bD):
  (results fn tmps).run P w= .ok (ao #[tmps.getD t undef,tmps.getD u undef,tmps.getD v undef]) w:=by
 simp[results,h]
def Fx.eN(T:Nat->Fi)(z a:Int):Int:=if Fx.dj T z≠0 then Fx.dj T z else if(T z.toNat).kind≠1 then 11 else if a<0\/40<a then 1 else 0
def Fx.lG(T:Nat->Fi)(z a:Int):Nat->Fi:=if Fx.eN T z a=0 then Fx.put T z.toNat {T z.toNat with pos:=a.toNat}else T
theorem KR(t b p:Nat)(z a:Int)(T:Nat->Fi)(w:bD)(h:dR w t b p T):
  Calls prog 204 #[ai (bh ⟨t,0,bj⟩),aa az z,aa az a] w λe w'=>e=bf (bG (Fx.eN T z a))/\dR w' t b p (Fx.lG T z a)/\bE t w w':=by
 have HF:=hJ h;by_cases c:Fx.dj T z=0
 .obtain⟨n,rfl,n24,_⟩:=Fx.jZ c;have EP:Hid (Fx.dj T (n:Int)=0/\kP t (n:Int) 0=ai (bh ⟨t,2+n*5,bj⟩)):=hJ ⟨c,px t n⟩;have DE:Fx.eN T (n:Int) a=if(T n).kind≠1 then 11 else if a<0\/40<a then 1 else 0:=by unfold Fx.eN;rw[aI (λd=>d c),hZ]
  have c0:=h.kind n n24;have c3:=h.pos n n24;have cf:=h.frozen;have no:∀E,E≠0->Fx.eN T (n:Int) a=E->Fx.lG T (n:Int) a=T:=λE e0 e=>by unfold Fx.lG;rw[e,aI e0]
  by_cases k1:(T n).kind=1
  .rw[k1]at c0;have c0':w.cell? ⟨t,2+n*5,bj⟩=bh (aa .i64 1):=c0;by_cases a0:a<0
   .have e:Fx.eN T (n:Int) a=1:=by rw[DE,aI (λd=>d k1),aJ (.inl a0)]
    have FIN:Hid (Fx.eN T (n:Int) a=1/\Fx.lG T (n:Int) a=T):=hJ ⟨e,no 1 bA e⟩;go_in
    go_wp2_with fail
    refine sC (dW t b p n T _ HF.v) ?_;rintro w1 hw1;subst w1;rw[EP.1,EP.2,bB];go_wp2
    go_ret
    rw[FIN.1,FIN.2];exact⟨rfl,HF.v,bE.refl _ _⟩
   .by_cases a4:40<a
    .have e:Fx.eN T (n:Int) a=1:=by rw[DE,aI (λd=>d k1),aJ (.inr a4)]
     have FIN:Hid (Fx.eN T (n:Int) a=1/\Fx.lG T (n:Int) a=T):=hJ ⟨e,no 1 bA e⟩;go_in
     go_wp2_with fail
     refine sC (dW t b p n T _ HF.v) ?_;rintro w1 hw1;subst w1;rw[EP.1,EP.2,bB];go_wp2
     go_ret
     rw[FIN.1,FIN.2];exact⟨rfl,HF.v,bE.refl _ _⟩
    .have e:Fx.eN T (n:Int) a=0:=by rw[DE,aI (λd=>d k1),nJ]
     obtain⟨q,rfl⟩:∃q:Nat,a=q:=⟨a.toNat,bu⟩;have FIN:Hid (Fx.eN T (n:Int) (q:Int)=0/\dR (w.setCell ⟨t,2+n*5+3,bj⟩ (aa az (q:Int))) t b p (Fx.lG T (n:Int) (q:Int))):=hJ ⟨e,by unfold Fx.lG;rw[aJ e,hZ,hZ];exact h.setPos n n24 q⟩;generalize (T n).pos=ps at*;go_in
     go_wp2_with fail
     refine sC (dW t b p n T _ HF.v) ?_;rintro w1 hw1;subst w1;rw[EP.1,EP.2,bB];go_wp2
     go_ret
     rw[FIN.1];exact⟨rfl,FIN.2,(bE.refl t w).setCell _ _⟩
  .have e:Fx.eN T (n:Int) a=11:=by rw[DE,aJ k1]
   have FIN:Hid (Fx.eN T (n:Int) a=11/\Fx.lG T (n:Int) a=T):=hJ ⟨e,no 11 bA e⟩;have k1':(((T n).kind:Int) !=1)=true:=by simp;omega
   have k1'':(((T n).kind:Int)==1)=false:=by simp;omega
   generalize (T n).kind=kd at*;go_in
   go_wp2_with fail
   refine sC (dW t b p n T _ HF.v) ?_;rintro w1 hw1;subst w1;rw[EP.1,EP.2,bB];go_wp2
   go_ret
   rw[FIN.1,FIN.2];exact⟨rfl,HF.v,bE.refl _ _⟩
 .have E2:Hid (kP t z (Fx.dj T z)=ai bj/\bG (Fx.dj T z)=aq 100 (aa az (Fx.dj T z))/\Fx.eN T z a=Fx.dj T z/\Fx.lG T z a=T):=hJ (by
   have e:Fx.eN T z a=Fx.dj T z:=aJ c;exact⟨nv c,bC c,e,by unfold Fx.lG;rw[e,aI c]⟩)
  go_in
  go_wp2_with fail
  refine sC (dW t b p z T _ HF.v) ?_;rintro w1 hw1;subst w1;rw[E2.1,E2.2.1];go_wp2
  go_ret
  rw[E2.2.2.1,E2.2.2.2,E2.2.1];exact⟨rfl,HF.v,bE.refl _ _⟩
def Fx.uU(T:Nat->Fi)(S:Nat->Pi)(A C:Nat)(E:Int)(T':Nat->Fi)(S':Nat->Pi):Prop:=
 (22<Fx.cL T 24/\A=0/\C=0/\E=4/\T'=T/\S'=S)
 \/(Fx.cL T 24<=22/\∃n e,Pp.gq S n e/\((e≠0/\A=0/\C=0/\E=e/\T'=T/\S'=S)
  \/(e=0/\E=0/\Fx.ti T A/\Fx.ti (Fx.put T A ⟨2,n,false,0,1⟩) C/\T'=Fx.put (Fx.put T A ⟨2,n,false,0,1⟩) C ⟨3,n,false,0,1⟩/\S'=Pp.jz S n 0)))
theorem Fx.Mw{T:Nat->Fi}(x:Fi)(h:Fx.cL T 24<=22):∃a c,Fx.ti T a/\Fx.ti (Fx.put T a x) c:=by
 obtain⟨a,ha⟩:=Fx.Cl (T:=T) bu;have ex:∀M,M<=a->Fx.cL (Fx.put T a x) M=Fx.cL T M:=by
  intro M
  induction M with
  |zero=>intro _;rfl
  |succ M ih2=>
   intro hM;show Fx.cL (Fx.put T a x) M+(if(Fx.put T a x M).refs=0 then 0 else 1)=Fx.cL T M+(if(T M).refs=0 then 0 else 1);rw[ih2 bu,Fx.bM _ _ _ _ bu]
 have cp:∀N,Fx.cL (Fx.put T a x) N<=Fx.cL T N+1:=by
  intro N
  induction N with
  |zero=>exact aC _
  |succ N ih=>
   show Fx.cL (Fx.put T a x) N+(if(Fx.put T a x N).refs=0 then 0 else 1)<=Fx.cL T N+(if(T N).refs=0 then 0 else 1)+1;by_cases c:N=a
   .rw[ex N bu]
    repeat' split
    all_goals omega
   .rw[Fx.bM _ _ _ _ c];omega
 have:=cp 24;obtain⟨c,hc⟩:=Fx.Cl (T:=Fx.put T a x) bu;exact⟨a,c,ha,hc⟩
theorem KO(t b p:Nat)(T:Nat->Fi)(F:Fo)(S:Nat->Pi)(w:bD)(h:FX w t b p T F S):
  Calls prog 201 #[ai (bh ⟨t,0,bj⟩)] w λe w'=>∃(A C:Nat) (E:Int) (T':Nat->Fi) (S':Nat->Pi),e=bf (ao #[aa az (A:Int),aa az (C:Int),bG E])/\Fx.uU T S A C E T' S'/\FX w' t b p T' F S'/\dw t b p w w':=by
 have HF:=hJ h;have lc:=Fx.mN T 24;have y1:=h.1.pi;by_cases r1:22<Fx.cL T 24
 .have rd:decide ((2:Int)<=24-(Fx.cL T 24:Int))=false:=by simp;omega
  have FIN:Hid (Fx.uU T S 0 0 4 T S):=hJ (.inl ⟨r1,rfl,rfl,rfl,rfl,rfl⟩);go_in
  go_wp2_with fail
  refine sC (oL t b p 2 T _ HF.1) ?_;rintro W3 hW3;subst W3;rw[rd];go_wp2_with fail
  (try simp only[Exit.then]);refine bodyPost_ret (Fx.results3 rfl _ _ _) rfl ?_
  exact⟨0,0,4,T,S,rfl,FIN.v,HF.v,dw.refl _ _ _ _⟩
 .have rd:decide ((2:Int)<=24-(Fx.cL T 24:Int))=true:=by simp;omega
  have r2:Fx.cL T 24<=22:=bu
  have R2:=hJ r2;go_in
  go_wp2_with fail
  refine sC (oL t b p 2 T _ HF.1) ?_;rintro W3 hW3;subst W3;rw[rd];go_wp2_with fail
  refine(JP p S _ HF.2.2.1).mono ?_;rintro e W4 ⟨n,E4,rfl,hf,h4,f4⟩;by_cases e0:E4=0
  .subst e0;obtain⟨a,c,ha,hc⟩:=Fx.Mw (T:=T) ⟨2,n,false,0,1⟩ R2.v;have FIN:Hid (Fx.uU T S a c 0 (Fx.put (Fx.put T a ⟨2,n,false,0,1⟩) c ⟨3,n,false,0,1⟩) (Pp.jz S n 0)):=hJ (.inr ⟨R2.v,n,0,hf, .inr ⟨rfl,rfl,ha,hc,rfl,rfl⟩⟩);have HA:=hJ ha;have HC:=hJ hc;have H4:=hJ (HF.pi h4 f4);have F4:Hid (dw t b p w W4):=hJ (dw.pi f4);rw[bB];go_wp2_with fail
   refine sC (wX t b p ⟨2,n,false,0,0⟩ a T _ H4.1 HA.v) ?_;rintro W5 ⟨h5,f5⟩;have H5:=hJ (H4.tb h5 f5);have F5:=hJ (F4.trans (dw.tb f5));go_wp2_with fail
   refine sC (wX t b p ⟨3,n,false,0,0⟩ c _ _ H5.1 HC.v) ?_;rintro W6 ⟨h6,f6⟩;have H6:=hJ (H5.tb h6 f6);have F6:=hJ (F5.trans (dw.tb f6));go_wp2_with fail
   (try simp only[Exit.then]);refine bodyPost_ret (Fx.results3 rfl _ _ _) rfl ?_
   exact⟨a,c,0,_,_,rfl,FIN.v,H6.v,F6.v⟩
  .have eM:Pp.jz S n E4=S:=aI e0;rw[eM]at h4;have FIN:Hid (Fx.uU T S 0 0 E4 T S):=hJ (.inr ⟨R2.v,n,E4,hf, .inl ⟨e0,rfl,rfl,rfl,rfl,rfl⟩⟩);have H4:=hJ (HF.pi h4 f4);have F4:Hid (dw t b p w W4):=hJ (dw.pi f4);have EV:=hJ (bC e0);rw[EV.v];go_wp2_with fail
   (try simp only[Exit.then]);refine bodyPost_ret (Fx.results3 rfl _ _ _) rfl ?_
   exact⟨0,0,E4,T,S,by rw[EV.v];rfl,FIN.v,H4.v,F4.v⟩

import Derived.Test.YtpmmdkcfenjiaaaGreatDoorUah
set_option maxRecDepth 100000
set_option maxHeartbeats 1000000
set_option linter.unusedVariables false
set_option linter.unusedSimpArgs false
namespace Go.Proofs.YtpmmdkcfenjiaaaGreatDoor
open Value renaming int->aa,pointer->ai,tuple->ao
open IntKind renaming i64->az
open Ending renaming returned->bf
open Option renaming some->bh,none->bj
open Tryz (prog)
open Go.RowKit
open Sp (T)
namespace Sp
theorem Mu{t t':T}{n:Nat}(h:∀p,t'.bR n p=t.bR n p):low t' n=low t n:=by unfold low tW;grind
theorem Hi{t t':T}{n x:Nat}(h:∀p,t'.bR n p=t.bR n p):gC t' n x=gC t n x:=by unfold gC rA;grind
theorem Inv.pid{t:T}{d:Nat->Nat}(h:Inv t d){n x:Nat}(hn:n<6)(he:∃p,p<21/\t.bR n p=x+1):gC t n x≠0/\gC t n x<21/\t.bR n (gC t n x)=x+1:=by
 obtain⟨p,hp,e⟩:=he;unfold gC;cases hf:(List.range 21).find? (rA t n x)with
 |none=>
  have:=List.find?_eq_none.1 hf p (by simpa using hp);exact aZ (by unfold rA;simp[e]) this
 |some k=>
  have:=kY hf;have hk:t.bR n k=x+1:=by have:=this.2.1;unfold rA at this;simpa using this
  refine⟨λc=>?_,this.1,hk⟩;have c':k=0:=c;rw[c',h.ma n hn]at hk;omega
def mP(t:T)(L:List Nat)(n y:Nat):T:={CD t L y with of:=te t.of y (n+1)}
def lF(t:T)(L:List Nat)(y:Nat):T:={yX t L y with of:=te t.of y 0}
end Sp
section
variable {w:bD}{b:Nat}{t:T}
theorem I5{n y:Nat}(h:Tb true w b t)(hy:y<20):Tb true (w.setCell ⟨b,138+y,bj⟩ (aa az (n:Int))) b (Sp.mP t [] n y):=by
 have:=h.setOf y (n+1) hy;rw[show co true (n+1)=(n:Int)by unfold co;simp]at this;exact this.congr (fR (λm hm=>by rw[cX true _ m hm,cX true _ m hm];rfl) (λm hm=>by rw[dk true _ m hm,dk true _ m hm];rfl) (λm q hm hq=>by rw[dm true _ m q hm hq,dm true _ m q hm hq];simp[Sp.mP,Sp.CD]) (λz hz=>by rw[dM,dM];rfl))
theorem Rc{L:List Nat}{n y m:Nat}(h:Tb true w b (Sp.mP t L n y))(hm:m<6)(hh:t.here m=true)(hp:Sp.low t m<21):Tb true (w.setCell ⟨b,m*23+2+Sp.low t m,bj⟩ (aa az (y:Int))) b (Sp.mP t (L++[m]) n y):=by
 have:=h.JZ m (Sp.low t m) (y+1) hm hp;rw[show cw true ((Sp.mP t L n y).here m) (y+1)=(y:Int)by rw[show(Sp.mP t L n y).here m=t.here m from rfl,hh];unfold cw;simp]at this;refine this.congr (fR (λa ha=>by rw[cX true _ a ha,cX true _ a ha];rfl) (λa ha=>by rw[dk true _ a ha,dk true _ a ha];rfl) (λa q ha hq=>?_) (λz hz=>by rw[dM,dM];rfl));rw[dm true _ a q ha hq,dm true _ a q ha hq];have e:(Sp.mP t (L++[m]) n y).bR a q=(Kl (Sp.mP t L n y) m (Sp.low t m) (y+1)).bR a q:=by
  show(if a∈L++[m]/\q=Sp.low t a then y+1 else t.bR a q)=if a=m/\q=Sp.low t m then y+1 else(if a∈L/\q=Sp.low t a then y+1 else t.bR a q);grind
 rw[e];rfl
theorem Hf{y:Nat}(h:Tb true w b t)(hy:y<20):Tb true (w.setCell ⟨b,138+y,bj⟩ (aa az (-1))) b (Sp.lF t [] y):=by
 have:=h.setOf y 0 hy;exact this.congr (fR (λm hm=>by rw[cX true _ m hm,cX true _ m hm];rfl) (λm hm=>by rw[dk true _ m hm,dk true _ m hm];rfl) (λm q hm hq=>by rw[dm true _ m q hm hq,dm true _ m q hm hq];simp[Sp.lF,Sp.yX]) (λz hz=>by rw[dM,dM];rfl))
theorem PQ{L:List Nat}{y m p:Nat}(h:Tb true w b (Sp.lF t L y))(hm:m<6)(hh:t.here m=true)(hp:p<21)(e1:t.bR m p=y+1)(e2:∀q,q<21->t.bR m q=y+1->q=p):Tb true (w.setCell ⟨b,m*23+2+p,bj⟩ (aa az (-1))) b (Sp.lF t (L++[m]) y):=by
 have:=h.JZ m p 0 hm hp;rw[show cw true ((Sp.lF t L y).here m) 0= -1 by rw[show(Sp.lF t L y).here m=t.here m from rfl,hh];rfl]at this;refine this.congr (fR (λa ha=>by rw[cX true _ a ha,cX true _ a ha];rfl) (λa ha=>by rw[dk true _ a ha,dk true _ a ha];rfl) (λa q ha hq=>?_) (λz hz=>by rw[dM,dM];rfl));rw[dm true _ a q ha hq,dm true _ a q ha hq];have e:(Sp.lF t (L++[m]) y).bR a q=(Kl (Sp.lF t L y) m p 0).bR a q:=by
  show(if a∈L++[m]/\t.bR a q=y+1 then 0 else t.bR a q)=if a=m/\q=p then 0 else(if a∈L/\t.bR a q=y+1 then 0 else t.bR a q);grind
 rw[e];rfl
end
theorem vH(b:Nat)(z x:Int)(t:T)(w:bD)(h:Tb true w b t)(k:Sp.ic t z x≠0):
  Calls prog 142 #[ai (bh ⟨b,0,bj⟩),aa az z,aa az x] w λe w'=>e=bf (ao #[aa az 0,bG (Sp.ic t z x)])/\w'=w:=by
 have HF:=hJ h;have HW:=hJ k;go_in
 go_wp2_with fail
 refine sC (jY b z x t _ HF.v) ?_;rintro w1 hw;subst w1;rw[bC HW.v];go_wp2
 go_ret2
 rw[bC HW.v];exact⟨rfl,rfl⟩
theorem vG(b n y:Nat)(t:T)(w:bD)(h:Tb true w b t)(k:Sp.ic t n y=0)(hy:y<20)(ho:t.of y≠0):
  Calls prog 142 #[ai (bh ⟨b,0,bj⟩),aa az n,aa az y] w λe w'=>e=bf (ao #[aa az 0,bG 3])/\w'=w:=by
 have HF:=hJ h;have HK:=hJ k;have c:=h.Oe y hy;have hyI:(y:Int)<20:=bu
 obtain⟨v,hv⟩:=hU ((t.of y:Int)-1);have v0:(v== -1)=false:=by simp;omega
 rw[hv]at c;go_in
 go_wp2_with fail
 refine sC (jY b n y t _ HF.v) ?_;rintro w1 hw;subst w1;rw[HK.v,bB];go_wp2
 go_ret2
 exact⟨rfl,rfl⟩
theorem Lt(b n y:Nat)(t:T)(d:Nat->Nat)(w:bD)(h:Tb true w b t)(hI:Sp.Inv t d)(k:Sp.ic t n y=0)(hn:n<6)(hh:t.here n=true)(hy:y<20)(ho:t.of y=0):
  Calls prog 142 #[ai (bh ⟨b,0,bj⟩),aa az n,aa az y] w λe w'=>e=bf (ao #[aa az (ug (Sp.mP t (Sp.W t n) n y) n y),bG 0])/\Tb true w' b (Sp.mP t (Sp.W t n) n y)/\bE b w w':=by
 have HF:=hJ h;have HI:=hJ hI;have HK:=hJ k;have HH:=hJ (aK hh ho);have c:=h.Oe y hy;rw[ho]at c;have c':w.cell? ⟨b,138+y,bj⟩=bh (aa az (-1)):=c;have cf:=h.frozen;have hyI:(y:Int)<20:=bu
 have hnI:(n:Int)<6:=bu
 have S0:Hid (Tb true (w.setCell ⟨b,138+y,bj⟩ (aa az (n:Int))) b (Sp.mP t [] n y)/\bE b w (w.setCell ⟨b,138+y,bj⟩ (aa az (n:Int)))):=hJ ⟨I5 h hy,(bE.refl b w).setCell _ _⟩;go_in
 go_wp2_with fail
 refine sC (jY b n y t _ HF.v) ?_;rintro w1 hw;subst w1;rw[HK.v,bB];go_wp2_with fail
 refine cG (λW=>Tb true W b (Sp.mP t [] n y)/\bE b w W) S0.v ?_;rintro W1 ⟨h1,f1⟩;have S1:=hJ (aK h1 f1);go_loopw [9] (λi wr=>∃(z:Int) (L:List Nat),i=aa az z/\Hid (Tb true wr b (Sp.mP t L n y)/\bE b w wr/\L++Sp.W t z=Sp.W t n/\(z= -1\/∃m:Nat,z=m/\m<6/\t.here m=true))) (λi _=>(Sp.W t (intOf i)).length)
 case atStart=>exact⟨n,[],rfl,S1.1,S1.2,rfl, .inr ⟨n,rfl,hn,HH.1⟩⟩
 case round=>
  obtain⟨z,L,rfl,S⟩:=hrel;rcases S.2.2.2 with rfl|⟨m,rfl,hm,hmh⟩
  .have HE:Hid (L=Sp.W t n):=hJ (by have:=S.2.2.1;rw[Sp.nV t (-1) bu,List.append_nil]at this;exact this);have S2:Hid (Tb true wr b (Sp.mP t (Sp.W t n) n y)/\bE b w wr):=hJ (by rw[<-HE.v];exact⟨S.1,S.2.1⟩);have h0:Hid ((Sp.mP t (Sp.W t n) n y).bR n 0=0):=hJ (by
    show(if n∈Sp.W t n/\0=Sp.low t n then y+1 else t.bR n 0)=0;have:=(HI.low hy HH.2 hn).1;rw[aI (λc=>bu)];exact HI.ma n hn)
   go_wp2_with fail
   refine sC (zk b n y _ _ S2.1 hn HH.1 h0.v) ?_;rintro w1 hw;subst w1;go_wp2
   go_ret2
   exact⟨rfl,S2.v⟩
  .have HMH:=hJ hmh;have ST:=hJ (HI.tree.step hm hmh);have PC:=hJ (HI.tree.gx hm hmh);have LW:=hJ (HI.low hy HH.2 hm);have hmI:(m:Int)<6:=bu
   have hne:=vb m;have NM:Hid (m∉L):=hJ (λc=>by
    have nd:=HI.tree.nodup hn HH.1;rw[<-S.2.2.1,ST.v]at nd;exact(List.nodup_append.1 nd).2.2 m c m (by simp) rfl)
   have SW:Hid (∀p,(Sp.mP t L n y).bR m p=t.bR m p):=hJ (λp=>by
    show(if m∈L/\p=Sp.low t m then y+1 else t.bR m p)=t.bR m p;rw[aI (λc=>NM.v c.1)])
   go_wp2_with fail
   obtain⟨l,hl⟩:=hU (Sp.low t m);have HL:=hJ hl;have hl21:(l:Int)<21:=by have:=LW.2.1;omega
   go_region_held3 (λ_=>True) (trivial) ((go_at_call 221;refine sC (LR b m _ _ S.1.drew hm HMH.v ⟨Sp.low t m,LW.1,LW.2.1,by rw[SW.v];exact LW.2.2.1⟩) ?_;rintro w2 hw2;rw[Sp.Mu SW.v,HL.v];subst hw2;have q1:=S.1.drew.Gf m l hm (by have:=LW.2.1;rw[HL.v]at this;exact this);have qf:=S.1.drew.frozen))
   generalize hW2:World.drew _=W2;have S2:Hid (Tb true W2 b (Sp.mP t (L++[m]) n y)/\bE b w W2):=hJ (by
    rw[<-hW2,<-HL.v];exact⟨(Rc S.1 hm HMH.v LW.2.1).drew,(S.2.1.setCell _ _).drew⟩)
   have c1:W2.cell? ⟨b,m*23+1,bj⟩=bh (aa az (t.par m)):=S2.1.sj m hm;go_wp2
   go_roundw
   case rel=>
    refine⟨t.par m,L++[m],by first|rfl|trivial,S2.1,S2.2,?_,?_⟩
    .have:=S.2.2.1;rw[ST.v]at this;rw[<-this];simp
    .rcases PC.v with⟨_,e,_⟩|⟨p,p1,p2,p3,_⟩
     .exact .inl e
     .exact .inr ⟨p,p2,p1,p3⟩
   case measure=>
    simp only[intOf];rw[ST.v,List.length_cons];omega
theorem IV(b:Nat)(z x:Int)(t:T)(d:Nat->Nat)(w:bD)(h:Tb true w b t)(hI:Sp.Inv t d):
  Calls prog 142 #[ai (bh ⟨b,0,bj⟩),aa az z,aa az x] w λe w'=>e=bf (ao #[aa az (Sp.tJ t z x:Int),bG (Sp.lD t z x)])/\Tb true w' b (Sp.fK t z x)/\bE b w w':=by
 by_cases k:Sp.ic t z x=0
 .obtain⟨n,y,rfl,rfl,hn,hy,hh⟩:=Sp.sI k;by_cases ho:t.of y=0
  .have e1:Sp.lD t n y=0:=by unfold Sp.lD;rw[aJ k,hZ,aJ ho]
   have e3:Sp.fK t n y=Sp.mP t (Sp.W t n) n y:=by unfold Sp.fK;rw[e1,aJ rfl,hZ,hZ];rfl
   have e2:Sp.tJ t n y=Sp.gC (Sp.mP t (Sp.W t n) n y) n y:=by unfold Sp.tJ;rw[e1,aJ rfl,e3,hZ,hZ]
   have i2:=hI.enter n y;rw[e3]at i2;have hp:=i2.pid (n:=n) (x:=y) hn ⟨Sp.low t n,(hI.low hy ho hn).2.1,by
    show(if n∈Sp.W t n/\Sp.low t n=Sp.low t n then y+1 else t.bR n (Sp.low t n))=y+1;rw[aJ ⟨by rw[hI.tree.step hn hh];simp,rfl⟩]⟩
   grind [Lt,ug,vG,bE.refl,vH]
  .have e1:Sp.lD t n y=3:=by unfold Sp.lD;rw[aJ k,hZ,aI ho]
   have e3:Sp.fK t n y=t:=by unfold Sp.fK;rw[e1];rfl
   have e2:Sp.tJ t n y=0:=by unfold Sp.tJ;rw[e1];rfl
   refine(vG b n y t w h k hy ho).mono ?_;rintro e w' ⟨rfl,rfl⟩;rw[e1,e2,e3];exact⟨rfl,h,bE.refl _ _⟩
 .have e1:Sp.lD t z x=Sp.ic t z x:=by unfold Sp.lD;rw[aI k]
  have e3:Sp.fK t z x=t:=by unfold Sp.fK;rw[e1,aI k]
  have e2:Sp.tJ t z x=0:=by unfold Sp.tJ;rw[e1,aI k]
  refine(vH b z x t w h k).mono ?_;rintro e w' ⟨rfl,rfl⟩;rw[e1,e2,e3];exact⟨rfl,h,bE.refl _ _⟩
theorem DW(b:Nat)(x:Int)(t:T)(w:bD)(h:Tb true w b t)(k:Sp.lA t x≠0):
  Calls prog 152 #[ai (bh ⟨b,0,bj⟩),aa az x] w λe w'=>e=bf (bG (Sp.lA t x))/\w'=w:=by
 have HF:=hJ h;have HW:=hJ k;go_in
 go_wp2_with fail
 refine sC (Cw b x t _ HF.v) ?_;rintro w1 hw;subst w1;rw[bC HW.v];go_wp2
 go_ret
 rw[bC HW.v];exact⟨rfl,rfl⟩
theorem Ml(b n y:Nat)(t:T)(d:Nat->Nat)(w:bD)(h:Tb true w b t)(hI:Sp.Inv t d)(k:Sp.lA t y=0)(hk:Sp.dc t y=n)(hn:n<6)(hh:t.here n=true)(hy:y<20)(ho:t.of y=n+1):
  Calls prog 152 #[ai (bh ⟨b,0,bj⟩),aa az y] w λe w'=>e=bf (bG 0)/\Tb true w' b (Sp.lF t (Sp.W t n) y)/\bE b w w':=by
 have HF:=hJ h;have HI:=hJ hI;have HK:=hJ (aK k hk);have HH:=hJ (aK hh ho);have c:=h.Oe y hy;have cf:=h.frozen;have hyI:(y:Int)<20:=bu
 have hnI:(n:Int)<6:=bu
 have S0:Hid (Tb true (w.setCell ⟨b,138+y,bj⟩ (aa az (-1))) b (Sp.lF t [] y)/\bE b w (w.setCell ⟨b,138+y,bj⟩ (aa az (-1)))):=hJ ⟨Hf h hy,(bE.refl b w).setCell _ _⟩;go_in
 go_wp2_with fail
 refine sC (Cw b y t _ HF.v) ?_;rintro w1 hw;subst w1;rw[HK.1,HK.2,bB];go_wp2_with fail
 refine cG (λW=>Tb true W b (Sp.lF t [] y)/\bE b w W) S0.v ?_;rintro W1 ⟨h1,f1⟩;have S1:=hJ (aK h1 f1);go_loopw [7] (λi wr=>∃(z:Int) (L:List Nat),i=aa az z/\Hid (Tb true wr b (Sp.lF t L y)/\bE b w wr/\L++Sp.W t z=Sp.W t n/\(z= -1\/∃m:Nat,z=m/\m<6/\t.here m=true))) (λi _=>(Sp.W t (intOf i)).length)
 case atStart=>exact⟨n,[],rfl,S1.1,S1.2,rfl, .inr ⟨n,rfl,hn,HH.1⟩⟩
 case round=>
  obtain⟨z,L,rfl,S⟩:=hrel;rcases S.2.2.2 with rfl|⟨m,rfl,hm,hmh⟩
  .have HE:Hid (L=Sp.W t n):=hJ (by have:=S.2.2.1;rw[Sp.nV t (-1) bu,List.append_nil]at this;exact this);have S2:Hid (Tb true wr b (Sp.lF t (Sp.W t n) y)/\bE b w wr):=hJ (by rw[<-HE.v];exact⟨S.1,S.2.1⟩);go_wp2
   go_ret
   exact⟨rfl,S2.v⟩
  .have HMH:=hJ hmh;have ST:=hJ (HI.tree.step hm hmh);have PC:=hJ (HI.tree.gx hm hmh);have MW:Hid (m∈Sp.W t n):=hJ (by rw[<-S.2.2.1,ST.v];simp);have LW:=hJ (HI.pid (x:=y) hm ((HI.has m y hm hy).2 ⟨by rw[HH.2];omega,by rw[HH.2,aP];exact MW.v⟩));have hmI:(m:Int)<6:=bu
   have hne:=vb m;have NM:Hid (m∉L):=hJ (λc=>by
    have nd:=HI.tree.nodup hn HH.1;rw[<-S.2.2.1,ST.v]at nd;exact(List.nodup_append.1 nd).2.2 m c m (by simp) rfl)
   have SW:Hid (∀p,(Sp.lF t L y).bR m p=t.bR m p):=hJ (λp=>by
    show(if m∈L/\t.bR m p=y+1 then 0 else t.bR m p)=t.bR m p;rw[aI (λc=>NM.v c.1)])
   go_wp2_with fail
   obtain⟨l,hl⟩:=hU (Sp.gC t m y);have HL:=hJ hl;have hl21:(l:Int)<21:=by have:=LW.2.1;omega
   go_region_held3 (λ_=>True) (trivial) ((go_at_call 222;refine sC (zk b m y _ _ S.1.drew hm HMH.v (by rw[SW.v];exact HI.ma m hm)) ?_;rintro w2 hw2;have hpi:ug (Sp.lF t L y) m y=(l:Int):=(by unfold ug;rw[Sp.Hi SW.v,HL.v,aI (by have:=LW.1;rw[HL.v]at this;exact this)]);rw[hpi];subst hw2;have q1:=S.1.drew.Gf m l hm (by have:=LW.2.1;rw[HL.v]at this;exact this);have qf:=S.1.drew.frozen))
   generalize hW2:World.drew _=W2;have S2:Hid (Tb true W2 b (Sp.lF t (L++[m]) y)/\bE b w W2):=hJ (by
    have lw:=LW.v;rw[HL.v]at lw;rw[<-hW2];exact⟨(PQ S.1 hm HMH.v lw.2.1 lw.2.2 (λq hq e=>HI.one m q l hm hq lw.2.1 (by rw[e,lw.2.2]) (by rw[e];omega))).drew,(S.2.1.setCell _ _).drew⟩)
   have c1:W2.cell? ⟨b,m*23+1,bj⟩=bh (aa az (t.par m)):=S2.1.sj m hm;go_wp2
   go_roundw
   case rel=>
    refine⟨t.par m,L++[m],by first|rfl|trivial,S2.1,S2.2,?_,?_⟩
    .have:=S.2.2.1;rw[ST.v]at this;rw[<-this];simp
    .rcases PC.v with⟨_,e,_⟩|⟨p,p1,p2,p3,_⟩
     .exact .inl e
     .exact .inr ⟨p,p2,p1,p3⟩
   case measure=>
    simp only[intOf];rw[ST.v,List.length_cons];omega
theorem Jz(b:Nat)(x:Int)(t:T)(d:Nat->Nat)(w:bD)(h:Tb true w b t)(hI:Sp.Inv t d):
  Calls prog 152 #[ai (bh ⟨b,0,bj⟩),aa az x] w λe w'=>e=bf (bG (Sp.lA t x))/\Tb true w' b (Sp.dC t x)/\bE b w w':=by
 by_cases k:Sp.lA t x=0
 .obtain⟨y,rfl,hy,ho⟩:=Sp.BO k;have o:=hI.oD y hy ho;have e2:Sp.dc t y=t.of y-1:=by unfold Sp.dc;rw[aJ k,hZ]
  refine(Ml b (t.of y-1) y t d w h hI k e2 bu o.2 hy bu).mono ?_;rintro e w' ⟨rfl,h1,h2⟩;rw[k];refine⟨rfl,?_,h2⟩;unfold Sp.dC;rw[k,aJ rfl,hZ];refine h1.congr (fR (λa ha=>by rw[cX true _ a ha,cX true _ a ha];rfl) (λa ha=>by rw[dk true _ a ha,dk true _ a ha];rfl) (λa q ha hq=>?_) (λz hz=>by rw[dM,dM];rfl));rw[dm true _ a q ha hq,dm true _ a q ha hq];have e:(if a∈List.range 6/\t.bR a q=y+1 then 0 else t.bR a q)=(if a∈Sp.W t ((t.of y-1:Nat):Int)/\t.bR a q=y+1 then 0 else t.bR a q):=by
   by_cases c:t.bR a q=y+1
   .rw[aJ ⟨by simpa using ha,c⟩,aJ ⟨((hI.has a y ha hy).1 ⟨q,hq,c⟩).2,c⟩]
   grind
  show aa az (cw true (t.here a) (if a∈List.range 6/\t.bR a q=y+1 then 0 else t.bR a q))=aa az (cw true (t.here a) (if a∈Sp.W t ((t.of y-1:Nat):Int)/\t.bR a q=y+1 then 0 else t.bR a q));rw[e]
 .have e3:Sp.dC t x=t:=by unfold Sp.dC;rw[aI k]
  refine(DW b x t w h k).mono ?_;rintro e w' ⟨rfl,rfl⟩;rw[e3];exact⟨rfl,h,bE.refl _ _⟩

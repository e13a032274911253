import Derived.Test.YtpmmdkcfenjiaaaGreatDoorYap
set_option maxRecDepth 100000
set_option maxHeartbeats 2000000
set_option linter.unusedVariables false
set_option linter.unusedSimpArgs false
namespace Go.Proofs.YtpmmdkcfenjiaaaGreatDoor
open Value renaming int->aa,pointer->ai,tuple->ao,iface->aq,bool->ar
open IntKind renaming i64->az
open Option renaming some->bj,none->bu
open Tryz (prog)
open Go.RowKit
open Fx (Fi)
open Tr (Fo Nd)
open Pp (Pi)
open Mo (Wh Mt)
open Mv (Me Bk)
open Kn (Pr Kp St us KB KJ VI EI KH)
theorem Kn.GF{k:Kp}{n:Nat}(h:0<(Kn.gV k n 6).length):∃f,(Kn.gV k n 6).getD 0 0=f/\f<6/\(k.p n).fd f= -1:=by
 refine⟨_,rfl,Kn.Ai ?_⟩;rw[aF,aW h];exact List.getElem_mem _
section
variable (Wt N:Nat)(d:Nat->Nat)(s:St)(w:bD)
theorem Lb(z f a:Int)(h:bO w Wt s):
  Calls prog 126 #[ai (bj ⟨s.A 0,0,bu⟩),aa az z,aa az f,aa az a] w (Kn.Nx Wt s w λv k'=>∃E,v=bN E/\(k'=s.k\/∃u,k'={s.k with fi:=Fx.mN s.k.fi u a})):=by
 have NB:=hJ (pD Wt s w z f h);have H:=hJ h;by_cases A:Kn.fB s.k z f=0
 .obtain⟨n,g,rfl,rfl,hn,hg,hl,hf⟩:=Kn.sD A;have SK:Hid (∀V,Below w.heap.size w V->Calls prog 204 #[ai (bj ⟨s.A 8,0,bu⟩),aa az ((s.k.p n).fd g),aa az a] V λe w'=>∃E,e= .returned (bN E)/\bO w' Wt {s with k:={s.k with fi:=Fx.mN s.k.fi ((s.k.p n).fd g) a}}/\KF s w {s with k:={s.k with fi:=Fx.mN s.k.fi ((s.k.p n).fd g) a}} w'):=hJ (λV b=>(Nc (s.A 8) (s.A 6) (s.A 7) _ a s.k.fi V (h.below b).fi).mono (by
   rintro _ w' ⟨rfl,u,f⟩;have q:=(h.below b).Jt u f;exact⟨_,rfl,q.1,(KF.below b).trans q.2⟩))
  have c8:=h.tS;have cf:=h.qt n g hn hg;rw[A,bF,qi]at NB;generalize (s.k.p n).fd g=v at*;generalize s.A 0=kb at*;generalize s.A 8=a8 at*;go_in
  go_wp2_with fail
  refine cG NB.v ?_;go_upto_region 4 with fail
  go_region_with ((go_at_call 204;refine(SK.v _ (by first|exact aQ _ _|exact(aQ _ _).drew)).mono ?_;rintro e w4 ⟨E,rfl,S4⟩;have S4:=hJ S4))
  all_goals
   go_wp2
   go_ret
   exact .mk ⟨E,rfl, .inr ⟨v,rfl⟩⟩ S4.v
 .have A':=hJ (bH A);rw[bH A]at NB;generalize tB (s.A 0) z f (Kn.fB s.k z f)=ap at*;generalize Kn.fB s.k z f=ae at*;generalize s.A 0=kb at*;go_in
  go_wp2_with fail
  refine cG NB.v ?_;go_wp2
  go_ret
  exact .no H.v ⟨ae,A'.symm, .inl rfl⟩
def Kn.Hu(k:Kp)(v:Value)(k':Kp):Prop:=∃x E:Int,v=ao #[aa az x,bN E]/\(k'=k\/∃n f g:Nat,n<20/\f<6/\g<6/\Kn.lv k n=true/\(k.p n).fd f= -1/\(k.p n).fd g≠ -1/\k'={Kn.fT k n f ((k.p n).fd g)with fi:=Fx.j7 k.fi ((k.p n).fd g)})
theorem Om(z f:Int)(h:bO w Wt s)(hr:∀n,n<24->(s.k.fi n).refs<2^60):
  Calls prog 122 #[ai (bj ⟨s.A 0,0,bu⟩),aa az z,aa az f] w (Kn.Nx Wt s w (Kn.Hu s.k)):=by
 have NB:=hJ (pD Wt s w z f h);have H:=hJ h;by_cases A:Kn.fB s.k z f=0
 .obtain⟨n,g,rfl,rfl,hn,hg,hl,hf⟩:=Kn.sD A;have FRh:=hJ (tA Wt s w n h hn);have hnI:(n:Int)<20:=bB
  have HL:=hJ (aK hl (aK hf hr));rw[A,bF,qi]at NB;obtain⟨kb,hk⟩:=hU (s.A 0);have HK:=hJ hk;rw[hk]at NB FRh|-;go_in
  go_wp2_with fail
  refine cG NB.v ?_;go_wp2_with fail
  refine FRh.mono ?_;rintro e w1 ⟨v,rfl,lo⟩;by_cases l0:0<(Kn.gV s.k n 6).length
  .obtain⟨gg,cap,hv,hgg,hc⟩:=lo.cells l0;obtain⟨f,ef,f6,fm⟩:=Kn.GF l0;have y0:w1.cell? ⟨gg,0,bu⟩=bj (aa az (((Kn.gV s.k n 6).getD 0 0:Nat):Int)):=hc 0 l0;rw[ef]at y0;have K1:=H.below lo.cU;have cf:=K1.qt n g hn hg;have cd:=K1.qt n f hn f6;have fz:=K1.frozen;have q:=K1.rF hn f6 ((s.k.p n).fd g);have GB:∀i,i<9->gg≠s.A i:=λi hi e=>by
    have a:=H.lt (cv hi);have o:=lo.own;rw[hv]at o;have:=o.lt gg rfl;omega
   have GK:=GB 0 bB;have fg:f≠g:=λe=>HL.2.1 (by rw[<-e];exact fm);have SH:Hid (∀V,Below w1.heap.size (w1.setCell ⟨s.A 0,n*12+6+f,bu⟩ (aa az ((s.k.p n).fd g))) V->Calls prog 146 #[ai (bj ⟨s.A 8,0,bu⟩),aa az ((s.k.p n).fd g)] V λe w'=>∃E,e= .returned (bN E)/\(∀o,w'.cell? ⟨gg,o,bu⟩=V.cell? ⟨gg,o,bu⟩/\w'.cell? ⟨s.A 0,o,bu⟩=V.cell? ⟨s.A 0,o,bu⟩)/\bO w' Wt {s with k:={Kn.fT s.k n f ((s.k.p n).fd g)with fi:=Fx.j7 s.k.fi ((s.k.p n).fd g)}}/\KF s w {s with k:={Kn.fT s.k n f ((s.k.p n).fd g)with fi:=Fx.j7 s.k.fi ((s.k.p n).fd g)}} w'):=hJ (λV b=>by
    have b:Below (w1.setCell ⟨s.A 0,n*12+6+f,bu⟩ (aa az ((s.k.p n).fd g))).heap.size (w1.setCell ⟨s.A 0,n*12+6+f,bu⟩ (aa az ((s.k.p n).fd g))) V:=b.mono (by simp);refine(zO (s.A 8) (s.A 6) (s.A 7) _ s.k.fi V (q.1.below b).fi HL.2.2).mono ?_;rintro _ w' ⟨rfl,u,f⟩;have r:=(q.1.below b).Jt u f;exact⟨_,rfl,λo=>⟨aV (f.block gg (aD (by simpa using hgg) b.size) (GB 8 bB)),aV (f.block _ ((q.1.below b).lt (i:=0) cv) (H.ne cv cv bB))⟩,r.1,(KF.below lo.cU).trans (q.2.trans ((KF.below b).trans r.2))⟩)
   have R:Hid (Kn.lv s.k n=true/\(s.k.p n).fd f= -1/\(s.k.p n).fd g≠ -1):=hJ ⟨HL.1,fm,HL.2.1⟩;have z1:(w1.setCell ⟨s.A 0,n*12+6+f,bu⟩ (aa az ((s.k.p n).fd g))).cell? ⟨s.A 0,n*12+6+g,bu⟩=bj (aa az ((s.k.p n).fd g)):=by
    refine(q.1.qt n g hn hg).trans (congrArg (λx=>bj (aa az x)) ?_);show((Kn.fT s.k n f ((s.k.p n).fd g)).p n).fd g=_;rw[(Kn.P7 _ _ _ _ _).2.2.2.2,aJ rfl];exact aI (bQ fg)
   have z8:(w1.setCell ⟨s.A 0,n*12+6+f,bu⟩ (aa az ((s.k.p n).fd g))).cell? ⟨s.A 0,252,bu⟩=bj (ai (bj ⟨s.A 8,0,bu⟩)):=q.1.tS;have fI:(f:Int)<6:=bB
   rw[hv];rw[HK.v]at cf cd fz GK SH z1 z8;have DD:Hid (∀u:Int,Kn.Hu s.k (ao #[aa az (f:Int),bN u]) {Kn.fT s.k n f ((s.k.p n).fd g)with fi:=Fx.j7 s.k.fi ((s.k.p n).fd g)}):=hJ (λu=>⟨f,u,rfl, .inr ⟨n,f,g,hn,f6,hg,R.1,R.2.1,R.2.2,rfl⟩⟩);generalize {Kn.fT s.k n f ((s.k.p n).fd g)with fi:=Fx.j7 s.k.fi ((s.k.p n).fd g)}=k2 at*;generalize (s.k.p n).fd g=v at*;generalize (s.k.p n).fd f=v2 at*;generalize s.A 8=a8 at*;generalize (Kn.gV s.k n 6).length=M at*;have M0:0<(M:Int):=bB
   have M1:((M:Int)==0)=false:=by simp;omega
   have M2:¬M=0:=bB
   have M3:¬(M:Int)<=0:=bB
   have Z0:=hJ (aK y0 cf);obtain⟨W,hW⟩:=hU (w1.setCell ⟨kb,n*12+6+f,bu⟩ (aa az v));have fr:bG kb w1 W:=by rw[<-hW];exact(bG.refl _ _).setCell _ _
   have y1:=(aV (fr.block gg hgg GK)).trans y0;rw[hW]at z1 z8 SH;have Z1:=hJ (aK y1 (aK z1 z8));go_upto_region 8 with fail
   go_region_held3 (λw'=>w'.cell? ⟨gg,0,bu⟩=bj (aa az (f:Int))/\w'.cell? ⟨kb,n*12+6+g,bu⟩=bj (aa az v)) (first|exact Z0.v|exact⟨Z1.1,Z1.2.1⟩|go_keep) (fail)
   obtain⟨x0,x1,x8⟩:=Z1.v;go_upto_region 9 with fail
   go_region_held3 (λw'=>w'.cell? ⟨gg,0,bu⟩=bj (aa az (f:Int))/\w'.cell? ⟨kb,n*12+6+g,bu⟩=bj (aa az v)/\w'.cell? ⟨kb,252,bu⟩=bj (ai (bj ⟨a8,0,bu⟩))) (first|exact Z1.v|exact Z4.v) ((go_at_call 146;refine(SH.v _ (by first|exact(aQ _ _).drew|exact(aQ _ _).drew.drew)).mono ?_;rintro e w4 ⟨E,rfl,z4,S4⟩;have Z4:=hJ (aK ((z4 0).1.trans x0) (aK ((z4 _).2.trans x1) ((z4 _).2.trans x8)));have S4:=hJ S4))
   all_goals
    go_wp2
    go_ret2
    exact .mk (DD.v E) S4.v
  .have K1:=hJ lo.cU;have l1:(Kn.gV s.k n 6).length=0:=bB
   obtain⟨a,c,hv⟩:=ib lo.own;rw[hv,l1];go_wp2
   go_ret2
   exact .at H.v K1.v ⟨0,4,rfl, .inl rfl⟩
 .have A':=hJ (bH A);rw[bH A]at NB;generalize tB (s.A 0) z f (Kn.fB s.k z f)=ap at*;generalize Kn.fB s.k z f=ae at*;generalize s.A 0=kb at*;go_in
  go_wp2_with fail
  refine cG NB.v ?_;go_wp2
  go_ret2
  exact .no H.v ⟨0,ae,by rw[A'.v];rfl, .inl rfl⟩
end
theorem Ra(w:bD):Sem.run prog (binOp BinOp.eql 34 .nilIface (aq 100 (aa .i64 2))) w= .ok (ar false) w:=by kernel_rfl
theorem Gy(w:bD)(E:Int):Sem.run prog (binOp BinOp.eql 34 (aq 100 (aa az E)) (aq 100 (aa .i64 2))) w= .ok (ar (E==2)) w:=by kernel_rfl
def Kn.Hy(k:Kp)(v:Value)(k':Kp):Prop:=∃x E:Int,v=ao #[aa az x,bN E]/\∃G,Kn.FG k G/\(k'={k with fo:=G}\/∃(n f K:Nat) (z:Int) (wr:Bool) (T:Nat->Fi) (F:Fo),n<20/\f<6/\Kn.lv k n=true/\(k.p n).fd f= -1/\Fx.vP k.fi G z wr K 0 T F/\k'=Kn.fT (Kn.jB k T F k.pi) n f (K:Int))
theorem Kn.BC{w W w5:bD}{Wt n f gg:Nat}{s s1:St}{G F:Fo}{T:Nat->Fi}(k:bO W Wt s1)(e:s1.k={s.k with fo:=G})(f1:KF s w s1 W)(y:W.cell? ⟨gg,0,bu⟩=bj (aa az (f:Int)))(hl:gg<W.heap.size)(gb:∀i,us s1 i->gg≠s1.A i)(hn:n<20)(f6:f<6)(u:FX w5 (s1.A 8) (s1.A 6) (s1.A 7) T F s.k.pi)(t:dJ (s1.A 8) (s1.A 6) (s1.A 7) W w5):
  (bO w5 Wt {s1 with k:=Kn.jB s.k T F s.k.pi}/\KF s w {s1 with k:=Kn.jB s.k T F s.k.pi} w5)/\w5.cell? ⟨gg,0,bu⟩=bj (aa az (f:Int))/\(∃v,w5.cell? ⟨s1.A 0,n*12+6+f,bu⟩=bj (aa az v))/\(∀o,w5.frozen? ⟨s1.A 0,o,bu⟩=false)/\∀K:Nat,(w5.setCell ⟨s1.A 0,n*12+6+f,bu⟩ (aa az (K:Int))).cell? ⟨gg,0,bu⟩=bj (aa az (f:Int))/\bO (w5.setCell ⟨s1.A 0,n*12+6+f,bu⟩ (aa az (K:Int))) Wt {s1 with k:=Kn.fT (Kn.jB s.k T F s.k.pi) n f (K:Int)}/\KF s w {s1 with k:=Kn.fT (Kn.jB s.k T F s.k.pi) n f (K:Int)} (w5.setCell ⟨s1.A 0,n*12+6+f,bu⟩ (aa az (K:Int))):=by
 have q:=k.wo u t;rw[e]at q;have q:bO w5 Wt {s1 with k:=Kn.jB s.k T F s.k.pi}/\KF s1 W {s1 with k:=Kn.jB s.k T F s.k.pi} w5:=q;have y5:=(aV (t.block gg hl (gb 8 cv) (gb 6 cv) (gb 7 cv))).trans y;have f5:=f1.trans q.2;refine⟨⟨q.1,f5⟩,y5,⟨_,q.1.qt n f hn f6⟩,q.1.frozen,λK=>?_⟩;have r:=q.1.rF hn f6 (K:Int);have fr:bG (s1.A 0) w5 (w5.setCell ⟨s1.A 0,n*12+6+f,bu⟩ (aa az (K:Int))):=(bG.refl _ _).setCell _ _;exact⟨(aV (fr.block gg (aD hl q.2.ia.size) (gb 0 cv))).trans y5,r.1,f5.trans r.2⟩
section
variable (Wt N:Nat)(d:Nat->Nat)(s:St)(w:bD)
theorem K9(z:Int)(p:bU)(wr made:Bool)(h:bO w Wt s)(hj:KJ (λ_=>False) N s.k):
  Calls prog 121 #[ai (bj ⟨s.A 0,0,bu⟩),aa az z, .string p,ar wr,ar made] w (Kn.Nx Wt s w (Kn.Hy s.k)):=by
 have AC:=hJ (dG Wt s w z h);have H:=hJ (aK h hj);have OK:Hid (∀x E:Int,Kn.Hy s.k (ao #[aa az x,bN E]) s.k):=hJ (λx E=>⟨x,E,rfl,_,⟨hj.ok,hj.wx⟩, .inl rfl⟩);by_cases A:Kn.cD s.k z=0
 .obtain⟨n,rfl,hn,hl⟩:=Kn.fL A;have FRh:=hJ (tA Wt s w n h hn);have HL:=hJ hl;rw[A,bF,gC]at AC;obtain⟨kb,hk⟩:=hU (s.A 0);have HK:=hJ hk;rw[hk]at AC FRh|-;go_in
  go_wp2_with fail
  refine cG AC.v ?_;go_wp2_with fail
  refine FRh.mono ?_;rintro e w1 ⟨v,rfl,lo⟩;have B1:=hJ lo.cU;obtain⟨a,cap,hv⟩:=ib lo.own;by_cases l0:0<(Kn.gV s.k n 6).length
  .obtain⟨gg,cap,hv,hgg,hc⟩:=lo.cells l0;obtain⟨f,ef,f6,fm⟩:=Kn.GF l0;have y0:w1.cell? ⟨gg,0,bu⟩=bj (aa az (((Kn.gV s.k n 6).getD 0 0:Nat):Int)):=hc 0 l0;rw[ef]at y0;have GB:Hid (∀i,us s i->gg≠s.A i):=hJ (λi hi e=>by
    have a:=H.1.lt hi;have o:=lo.own;rw[hv]at o;have:=o.lt gg rfl;omega)
   have K1:=H.1.below lo.cU;have c8:=K1.tS;have RO:=hJ (pM (s.A 8) (s.A 6) (s.A 7) 1 s.k.fi w1 K1.fi);have WK:=hJ (uK Wt N s w1 (n:Int) p K1 H.2);have FM:=hJ fm;rw[hv];obtain⟨a8,h8⟩:=hU (s.A 8);have H8:=hJ h8;rw[HK.v,h8]at c8;rw[h8]at RO;rw[HK.v]at WK;generalize (Kn.gV s.k n 6).length=M at*;have M0:0<(M:Int):=bB
   have M1:((M:Int)==0)=false:=by simp;omega
   have M2:¬M=0:=bB
   have M3:¬(M:Int)<=0:=bB
   have fI:(f:Int)<6:=bB
   have Y0:=hJ (aK y0 hgg);go_wp2_with fail
   refine cG RO.v ?_;cases decide ((1:Int)<=24-(Fx.cW s.k.fi 24:Int))
   .go_wp2
    go_ret2
    exact .at H.1 B1.v (OK.v 0 4)
   .clear y0 c8;go_wp2_with fail
    refine WK.mono ?_;rintro e w2 ⟨x,E,rfl,b2⟩;have B2:=hJ (B1.trans (b2.mono B1.size));have Y2:Hid (w2.cell? ⟨gg,0,bu⟩=bj (aa az (f:Int))/\gg<w2.heap.size):=hJ ⟨(b2.cell (p:=⟨gg,0,bu⟩) Y0.2).trans Y0.1,aD Y0.2 b2.size⟩;have MA:=hJ (Dz Wt N s w2 (n:Int) p 1 (H.1.below B2.v) H.2);rw[HK.v]at MA;have KBg:Hid (¬Kn.KB s gg):=hJ (λ⟨i,hi,e⟩=>GB.v i hi e);by_cases go:E=0\/(E=2/\made=true)
    .have TL:Hid (∀(s1:St) (W:bD) (G:Fo),bO W Wt s1->KF s w2 s1 W->s1.k={s.k with fo:=G}->Kn.FG s.k G->KF s w s1 W/\FX W (s1.A 8) (s1.A 6) (s1.A 7) s.k.fi G s.k.pi/\Fx.Sm G s.k.pi/\W.cell? ⟨kb,252,bu⟩=bj (ai (bj ⟨s1.A 8,0,bu⟩))/\W.cell? ⟨gg,0,bu⟩=bj (aa az (f:Int))/\gg<W.heap.size/\(∀i,us s1 i->gg≠s1.A i)/\s1.A 0=kb):=hJ (λs1 W G k f e g=>by
      have x:=k.fx;rw[e]at x;refine⟨(KF.below B2.v).trans f,x,g.2.sm (λm _=>by have:=H.2.tx m;omega),?_,(aV (f.jj Y2.2 KBg.v)).trans Y2.1,aD Y2.2 f.ia.size,λi hi e=>f.apart Y2.2 KBg.v ⟨i,hi,e⟩,f.a0.trans HK.v⟩;have c:=k.tS;rw[f.a0,HK.v]at c;exact c)
     rcases go with rfl|⟨rfl,rfl⟩
     .rw[bF];obtain⟨s1,G,K1,e1,g1⟩:∃s1 G,(bO w2 Wt s1/\KF s w2 s1 w2)/\s1.k={s.k with fo:=G}/\Kn.FG s.k G:=⟨s,s.k.fo,⟨H.1.below B2.v,KF.refl _ _⟩,rfl,⟨H.2.ok,H.2.wx⟩⟩;go_wp2_with fail
      rw[Ra];obtain⟨F1,X1,sm,c8,y0,hgl,gb,a0⟩:=TL.v s1 w2 G K1.1 K1.2 e1 g1;have XN:=hJ (Cb (s1.A 8) (s1.A 6) (s1.A 7) x wr s.k.fi G s.k.pi w2 X1 sm);have NT:Hid (∀w5 T F,_->_->_):=hJ (λw5 T F=>Kn.BC (w5:=w5) (T:=T) (F:=F) K1.1 e1 F1 y0 hgl gb hn f6);have S1:=hJ (aK K1.1 (aK F1 (aK e1 g1)));rw[a0]at NT;generalize s1.A 8=b8 at*;go_wp2_with fail
      refine XN.mono ?_;rintro e w5 ⟨K,E,T,F,rfl,nt,u5,f5⟩;obtain⟨a1,a2,⟨vo,a3⟩,a4,a5⟩:=NT.v w5 T F u5 f5;by_cases E0:E=0
      .subst E0;rw[bF];have A5:=hJ (aK nt (a5 K));have A2:=hJ a2;obtain⟨W6,hW6⟩:=hU (w5.setCell ⟨kb,n*12+6+f,bu⟩ (aa az (K:Int)));rw[hW6]at A5;go_upto_region 15 with fail
       go_region_held3 (λw'=>w'.cell? ⟨gg,0,bu⟩=bj (aa az (f:Int))) (first|exact A2.v|exact A5.2.1|go_keep) (fail)
       have x0:=A5.2.1;go_wp2
       go_ret2
       exact⟨_,_,rfl,⟨f,0,rfl,G,S1.2.2.2, .inr ⟨n,f,K,x,wr,T,F,hn,f6,HL.v,FM.v,A5.1,rfl⟩⟩,A5.2.2.1.drew,A5.2.2.2.trans (KF.drew _ _)⟩
      .have E1:=hJ (bH E0);have A1:Hid (T=s.k.fi/\F=G):=hJ (by
        rcases nt with⟨_,_,_,q⟩|⟨_,_,_,_,q⟩|⟨_,_,_,q,_⟩
        .exact q
        .exact q
        .exact aZ q E0)
       have A2:=hJ a1;rw[bH E0];go_wp2
       go_ret2
       exact⟨_,_,rfl,⟨0,E,by rw[E1.v];rfl,G,S1.2.2.2, .inl (by rw[A1.1,A1.2];rfl)⟩,A2.v⟩
     .rw[bH bE];go_wp2_with fail
      rw[Gy];go_wp2_with fail
      refine MA.mono ?_;rintro e w3 ⟨v,s1,rfl,⟨x,E,G,rfl,g1,e1⟩,K1⟩;by_cases E0:E=0
      .subst E0;rw[bF];obtain⟨F1,X1,sm,c8,y0,hgl,gb,a0⟩:=TL.v s1 w3 G K1.1 K1.2 e1 g1;have XN:=hJ (Cb (s1.A 8) (s1.A 6) (s1.A 7) x wr s.k.fi G s.k.pi w3 X1 sm);have NT:Hid (∀w5 T F,_->_->_):=hJ (λw5 T F=>Kn.BC (w5:=w5) (T:=T) (F:=F) K1.1 e1 F1 y0 hgl gb hn f6);have S1:=hJ (aK K1.1 (aK F1 (aK e1 g1)));rw[a0]at NT;generalize s1.A 8=b8 at*;go_wp2_with fail
       refine XN.mono ?_;rintro e w5 ⟨K,E,T,F,rfl,nt,u5,f5⟩;obtain⟨a1,a2,⟨vo,a3⟩,a4,a5⟩:=NT.v w5 T F u5 f5;by_cases E0:E=0
       .subst E0;rw[bF];have A5:=hJ (aK nt (a5 K));have A2:=hJ a2;obtain⟨W6,hW6⟩:=hU (w5.setCell ⟨kb,n*12+6+f,bu⟩ (aa az (K:Int)));rw[hW6]at A5;go_upto_region 15 with fail
        go_region_held3 (λw'=>w'.cell? ⟨gg,0,bu⟩=bj (aa az (f:Int))) (first|exact A2.v|exact A5.2.1|go_keep) (fail)
        have x0:=A5.2.1;go_wp2
        go_ret2
        exact⟨_,_,rfl,⟨f,0,rfl,G,S1.2.2.2, .inr ⟨n,f,K,x,wr,T,F,hn,f6,HL.v,FM.v,A5.1,rfl⟩⟩,A5.2.2.1.drew,A5.2.2.2.trans (KF.drew _ _)⟩
       .have E1:=hJ (bH E0);have A1:Hid (T=s.k.fi/\F=G):=hJ (by
         rcases nt with⟨_,_,_,q⟩|⟨_,_,_,_,q⟩|⟨_,_,_,q,_⟩
         .exact q
         .exact q
         .exact aZ q E0)
        have A2:=hJ a1;rw[bH E0];go_wp2
        go_ret2
        exact⟨_,_,rfl,⟨0,E,by rw[E1.v];rfl,G,S1.2.2.2, .inl (by rw[A1.1,A1.2];rfl)⟩,A2.v⟩
      .have E1:=hJ (bH E0);have S1:=hJ (aK K1 (aK e1 g1));rw[bH E0];go_wp2
       go_ret2
       exact⟨_,s1,rfl,⟨0,E,by rw[E1.v];rfl,G,S1.2.2, .inl S1.2.1⟩,S1.1.1,(KF.below B2.v).trans S1.1.2⟩
    .have E0:E≠0:=λe=>go (.inl e);have E1:=hJ (bH E0);have O':=hJ (OK.v 0 E);rw[bH E0]at O'|-;go_wp2_with fail
     rw[Gy];by_cases E2:E=2
     .have m0:made=false:=by cases made;rfl;exact aZ (.inr ⟨E2,rfl⟩) go
      subst m0 E2;go_wp2
      go_ret2
      exact .at H.1 B2.v O'.v
     .have E3:(E==2)=false:=by simpa using E2
      go_wp2
      go_ret2
      exact .at H.1 B2.v O'.v
  .have l1:(Kn.gV s.k n 6).length=0:=bB
   rw[hv,l1];go_wp2
   go_ret2
   exact .at H.1 B1.v (OK.v 0 4)
 .have A':=hJ (bH A);have O':=hJ (OK.v 0 (Kn.cD s.k z));rw[bH A]at AC O';generalize gQ (s.A 0) z (Kn.cD s.k z)=ap at*;generalize Kn.cD s.k z=ae at*;generalize s.A 0=kb at*;go_in
  go_wp2_with fail
  refine cG AC.v ?_;go_wp2
  go_ret2
  exact .no H.1 O'.v

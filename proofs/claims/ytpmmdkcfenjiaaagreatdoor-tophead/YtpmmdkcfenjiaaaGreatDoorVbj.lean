import Derived.Test.YtpmmdkcfenjiaaaGreatDoorVbh
set_option linter.unusedVariables false
set_option linter.unusedSimpArgs false
set_option maxRecDepth 100000
set_option maxHeartbeats 2000000
namespace Go.Proofs.YtpmmdkcfenjiaaaGreatDoor
open Go.RowKit
open Fx (Fi)
open Tr (Fo Nd)
open Pp (Pi)
open Mo (Wh Mt)
open Mv (Me Bk)
open Kn (Pr Kp St us KB KJ VI EI KH)
theorem Kn.Dk {k:Kp}{n:Nat}(h:0<(Kn.fR k n 6).length): ∃f,(Kn.fR k n 6).getD 0 0=f/\f<6/\(k.p n).fd f= -1:=by
 refine⟨_,rfl,Kn.yg ?_⟩;rw[aF,aW h];exact List.getElem_mem _
section
variable (base N : Nat) (d : Nat -> Nat) (s : St) (w : bD)
theorem Gd (z f a:Int)(h:ak w base s):
  Calls Tryz.prog 126 #[.pointer (some ⟨s.A 0,0,none⟩), .int .i64 z, .int .i64 f, .int .i64 a] w (Kn.Nx base s w fun v k'=> ∃E,v=aq E/\(k'=s.k\/ ∃u,k'={s.k with fi:=Fx.kG s.k.fi u a})):=by
 have NB:=hZ (nD base s w z f h);have H:=hZ h;by_cases A:Kn.dX s.k z f=0
 ·obtain⟨n,g,rfl,rfl,hn,hg,hl,hf⟩:=Kn.ql A;have SK:Hid (∀V,Below w.heap.size w V->Calls Tryz.prog 204 #[.pointer (some ⟨s.A 8,0,none⟩), .int .i64 ((s.k.p n).fd g), .int .i64 a] V fun e w'=> ∃E,e= .returned (aq E)/\ak w' base {s with k:={s.k with fi:=Fx.kG s.k.fi ((s.k.p n).fd g) a}}/\KF s w {s with k:={s.k with fi:=Fx.kG s.k.fi ((s.k.p n).fd g) a}} w'):=hZ (fun V b=>(Ix (s.A 8) (s.A 6) (s.A 7) _ a s.k.fi V (h.below b).fi).mono (by
   rintro _ w' ⟨rfl,u,f⟩;have q:=(h.below b).Fq u f;exact⟨_,rfl,q.1,(KF.below b).trans q.2⟩))
  have c8:=h.rC;have cf:=h.oN n g hn hg;rw[A,aa,oz]at NB;generalize (s.k.p n).fd g=v at*;generalize s.A 0=kb at*;generalize s.A 8=a8 at*;clear h A hl hf;go_in
  go_wp2_with fail
  refine bM NB.out ?_;go_upto_region 4 with fail
  go_region_with ((go_at_call 204;refine(SK.out _ (by first|exact aQ _ _|exact(aQ _ _).drew)).mono ?_;rintro e w4 ⟨E,rfl,S4⟩;have S4:=hZ S4))
  all_goals
   go_wp2
   go_ret
   exact .mk ⟨E,rfl, .inr ⟨v,rfl⟩⟩ S4.out
 ·have A':=hZ (aj A);rw[aj A]at NB;clear h A;generalize qV (s.A 0) z f (Kn.dX s.k z f)=ap at*;generalize Kn.dX s.k z f=ae at*;generalize s.A 0=kb at*;go_in
  go_wp2_with fail
  refine bM NB.out ?_;go_wp2
  go_ret
  exact .no H.out ⟨ae,A'.out.symm, .inl rfl⟩
def Kn.Er (k:Kp)(v:Value)(k':Kp):Prop:= ∃x E:Int,v= .tuple #[.int .i64 x,aq E]/\(k'=k\/ ∃n f g:Nat,n<20/\f<6/\g<6/\Kn.lv k n=true/\(k.p n).fd f= -1/\(k.p n).fd g≠ -1/\k'={Kn.eS k n f ((k.p n).fd g)with fi:=Fx.iV k.fi ((k.p n).fd g)})
theorem KN (z f:Int)(h:ak w base s)(hr: ∀n,n<24->(s.k.fi n).refs<2^60):
  Calls Tryz.prog 122 #[.pointer (some ⟨s.A 0,0,none⟩), .int .i64 z, .int .i64 f] w (Kn.Nx base s w (Kn.Er s.k)):=by
 have NB:=hZ (nD base s w z f h);have H:=hZ h;by_cases A:Kn.dX s.k z f=0
 ·obtain⟨n,g,rfl,rfl,hn,hg,hl,hf⟩:=Kn.ql A;have FRh:=hZ (ra base s w n h hn);have hnI:(n:Int)<20:=by omega
  have HL:=hZ (aK hl (aK hf hr));rw[A,aa,oz]at NB;obtain⟨kb,hk⟩:=nJ (s.A 0);have HK:=hZ hk;rw[hk]at NB FRh|-;clear h A hk hl hf hr;go_in
  go_wp2_with fail
  refine bM NB.out ?_;go_wp2_with fail
  refine FRh.out.mono ?_;rintro e w1 ⟨v,rfl,lo⟩;by_cases l0:0<(Kn.fR s.k n 6).length
  ·obtain⟨gg,cap,hv,hgg,hc⟩:=lo.cells l0;obtain⟨f,ef,f6,fm⟩:=Kn.Dk l0;have y0:w1.cell? ⟨gg,0,none⟩=some (.int .i64 (((Kn.fR s.k n 6).getD 0 0:Nat):Int)):=hc 0 l0;rw[ef]at y0;have K1:=H.out.below lo.bF;have cf:=K1.oN n g hn hg;have cd:=K1.oN n f hn f6;have fz:=K1.frozen;have q:=K1.pg hn f6 ((s.k.p n).fd g);have GB: ∀i,i<9->gg≠s.A i:=fun i hi e=>by
    have a:=H.out.lt (az hi);have o:=lo.own;rw[hv]at o;have:=o.lt gg rfl;omega
   have GK:=GB 0 (by omega);have fg:f≠g:=fun e=>HL.out.2.1 (by rw[<-e];exact fm);have SH:Hid (∀V,Below w1.heap.size (w1.setCell ⟨s.A 0,n*12+6+f,none⟩ (.int .i64 ((s.k.p n).fd g))) V->Calls Tryz.prog 146 #[.pointer (some ⟨s.A 8,0,none⟩), .int .i64 ((s.k.p n).fd g)] V fun e w'=> ∃E,e= .returned (aq E)/\(∀o,w'.cell? ⟨gg,o,none⟩=V.cell? ⟨gg,o,none⟩/\w'.cell? ⟨s.A 0,o,none⟩=V.cell? ⟨s.A 0,o,none⟩)/\ak w' base {s with k:={Kn.eS s.k n f ((s.k.p n).fd g)with fi:=Fx.iV s.k.fi ((s.k.p n).fd g)}}/\KF s w {s with k:={Kn.eS s.k n f ((s.k.p n).fd g)with fi:=Fx.iV s.k.fi ((s.k.p n).fd g)}} w'):=hZ (fun V b=>by
    have b:Below (w1.setCell ⟨s.A 0,n*12+6+f,none⟩ (.int .i64 ((s.k.p n).fd g))).heap.size (w1.setCell ⟨s.A 0,n*12+6+f,none⟩ (.int .i64 ((s.k.p n).fd g))) V:=b.mono (by simp);refine(vK (s.A 8) (s.A 6) (s.A 7) _ s.k.fi V (q.1.below b).fi HL.out.2.2).mono ?_;rintro _ w' ⟨rfl,u,f⟩;have r:=(q.1.below b).Fq u f;exact⟨_,rfl,fun o=>⟨aV (f.block gg (aD (by simpa using hgg) b.size) (GB 8 (by omega))),aV (f.block _ ((q.1.below b).lt (i:=0) (az (by omega))) (H.out.ne (az (by omega)) (az (by omega)) (by omega)))⟩,r.1,(KF.below lo.bF).trans (q.2.trans ((KF.below b).trans r.2))⟩)
   have R:Hid (Kn.lv s.k n=true/\(s.k.p n).fd f= -1/\(s.k.p n).fd g≠ -1):=hZ ⟨HL.out.1,fm,HL.out.2.1⟩;have z1:(w1.setCell ⟨s.A 0,n*12+6+f,none⟩ (.int .i64 ((s.k.p n).fd g))).cell? ⟨s.A 0,n*12+6+g,none⟩=some (.int .i64 ((s.k.p n).fd g)):=by
    refine(q.1.oN n g hn hg).trans (congrArg (fun x=>some (Value.int .i64 x)) ?_);show((Kn.eS s.k n f ((s.k.p n).fd g)).p n).fd g=_;rw[(Kn.Lu _ _ _ _ _).2.2.2.2,aJ rfl];exact aI (bQ fg)
   have z8:(w1.setCell ⟨s.A 0,n*12+6+f,none⟩ (.int .i64 ((s.k.p n).fd g))).cell? ⟨s.A 0,252,none⟩=some (.pointer (some ⟨s.A 8,0,none⟩)):=q.1.rC;have fI:(f:Int)<6:=by omega
   rw[hv];rw[HK.out]at cf cd fz GK SH z1 z8;have DD:Hid (∀u:Int,Kn.Er s.k (.tuple #[.int .i64 (f:Int),aq u]) {Kn.eS s.k n f ((s.k.p n).fd g)with fi:=Fx.iV s.k.fi ((s.k.p n).fd g)}):=hZ (fun u=>⟨f,u,rfl, .inr ⟨n,f,g,hn,f6,hg,R.out.1,R.out.2.1,R.out.2.2,rfl⟩⟩);generalize {Kn.eS s.k n f ((s.k.p n).fd g)with fi:=Fx.iV s.k.fi ((s.k.p n).fd g)}=k2 at*;generalize (s.k.p n).fd g=v at*;generalize (s.k.p n).fd f=v2 at*;generalize s.A 8=a8 at*;generalize (Kn.fR s.k n 6).length=M at*;have M0:0<(M:Int):=by omega
   have M1:((M:Int)==0)=false:=by simp;omega
   have M2: ¬M=0:=by omega
   have M3: ¬(M:Int)<=0:=by omega
   clear q lo hv hc ef fm K1 R GB;have Z0:=hZ (aK y0 cf);obtain⟨W,hW⟩:=nJ (w1.setCell ⟨kb,n*12+6+f,none⟩ (.int .i64 v));have fr:af kb w1 W:=by rw[<-hW];exact(af.refl _ _).setCell _ _
   have y1:=(aV (fr.block gg hgg GK)).trans y0;rw[hW]at z1 z8 SH;have Z1:=hZ (aK y1 (aK z1 z8));clear fr y1 z1 z8;go_upto_region 8 with fail
   go_region_held3 (fun w'=>w'.cell? ⟨gg,0,none⟩=some (.int .i64 (f:Int))/\w'.cell? ⟨kb,n*12+6+g,none⟩=some (.int .i64 v)) (first|exact Z0.out|exact⟨Z1.out.1,Z1.out.2.1⟩|go_keep) (fail)
   clear cf cd fz hW y0;obtain⟨x0,x1,x8⟩:=Z1.out;go_upto_region 9 with fail
   go_region_held3 (fun w'=>w'.cell? ⟨gg,0,none⟩=some (.int .i64 (f:Int))/\w'.cell? ⟨kb,n*12+6+g,none⟩=some (.int .i64 v)/\w'.cell? ⟨kb,252,none⟩=some (.pointer (some ⟨a8,0,none⟩))) (first|exact Z1.out|exact Z4.out) ((go_at_call 146;refine(SH.out _ (by first|exact(aQ _ _).drew|exact(aQ _ _).drew.drew)).mono ?_;rintro e w4 ⟨E,rfl,z4,S4⟩;have Z4:=hZ (aK ((z4 0).1.trans x0) (aK ((z4 _).2.trans x1) ((z4 _).2.trans x8)));clear z4;have S4:=hZ S4))
   all_goals
    go_wp2
    go_ret2
    exact .mk (DD.out E) S4.out
  ·have K1:=hZ lo.bF;have l1:(Kn.fR s.k n 6).length=0:=by omega
   obtain⟨a,c,hv⟩:=fC lo.own;rw[hv,l1];clear lo l0 l1 hv;go_wp2
   go_ret2
   exact .at H.out K1.out ⟨0,4,rfl, .inl rfl⟩
 ·have A':=hZ (aj A);rw[aj A]at NB;clear h A hr;generalize qV (s.A 0) z f (Kn.dX s.k z f)=ap at*;generalize Kn.dX s.k z f=ae at*;generalize s.A 0=kb at*;go_in
  go_wp2_with fail
  refine bM NB.out ?_;go_wp2
  go_ret2
  exact .no H.out ⟨0,ae,by rw[A'.out];rfl, .inl rfl⟩
end
theorem Nh (w:bD):Sem.run Tryz.prog (binOp BinOp.eql 34 .nilIface (.iface 100 (.int .i64 2))) w= .ok (.bool false) w:=by kernel_rfl
theorem C3 (w:bD)(E:Int):Sem.run Tryz.prog (binOp BinOp.eql 34 (.iface 100 (.int .i64 E)) (.iface 100 (.int .i64 2))) w= .ok (.bool (E==2)) w:=by kernel_rfl
def Kn.E9 (k:Kp)(v:Value)(k':Kp):Prop:= ∃x E:Int,v= .tuple #[.int .i64 x,aq E]/\ ∃G,Kn.FG k G/\(k'={k with fo:=G}\/ ∃(n f K:Nat) (z:Int) (wr:Bool) (T:Nat->Fi) (F:Fo),n<20/\f<6/\Kn.lv k n=true/\(k.p n).fd f= -1/\Fx.tS k.fi G z wr K 0 T F/\k'=Kn.eS (Kn.ix k T F k.pi) n f (K:Int))
theorem Kn.yF {w W w5:bD}{base n f gg:Nat}{s s1:St}{G F:Fo}{T:Nat->Fi}(k:ak W base s1)(e:s1.k={s.k with fo:=G})(f1:KF s w s1 W)(y:W.cell? ⟨gg,0,none⟩=some (.int .i64 (f:Int)))(hl:gg<W.heap.size)(gb: ∀i,us s1 i->gg≠s1.A i)(hn:n<20)(f6:f<6)(u:FX w5 (s1.A 8) (s1.A 6) (s1.A 7) T F s.k.pi)(t:cR (s1.A 8) (s1.A 6) (s1.A 7) W w5):
  (ak w5 base {s1 with k:=Kn.ix s.k T F s.k.pi}/\KF s w {s1 with k:=Kn.ix s.k T F s.k.pi} w5)/\w5.cell? ⟨gg,0,none⟩=some (.int .i64 (f:Int))/\(∃v,w5.cell? ⟨s1.A 0,n*12+6+f,none⟩=some (.int .i64 v))/\(∀o,w5.frozen? ⟨s1.A 0,o,none⟩=false)/\ ∀K:Nat,(w5.setCell ⟨s1.A 0,n*12+6+f,none⟩ (.int .i64 (K:Int))).cell? ⟨gg,0,none⟩=some (.int .i64 (f:Int))/\ak (w5.setCell ⟨s1.A 0,n*12+6+f,none⟩ (.int .i64 (K:Int))) base {s1 with k:=Kn.eS (Kn.ix s.k T F s.k.pi) n f (K:Int)}/\KF s w {s1 with k:=Kn.eS (Kn.ix s.k T F s.k.pi) n f (K:Int)} (w5.setCell ⟨s1.A 0,n*12+6+f,none⟩ (.int .i64 (K:Int))):=by
 have q:=k.tA u t;rw[e]at q;have q:ak w5 base {s1 with k:=Kn.ix s.k T F s.k.pi}/\KF s1 W {s1 with k:=Kn.ix s.k T F s.k.pi} w5:=q;have y5:=(aV (t.block gg hl (gb 8 (az (by omega))) (gb 6 (az (by omega))) (gb 7 (az (by omega))))).trans y;have f5:=f1.trans q.2;refine⟨⟨q.1,f5⟩,y5,⟨_,q.1.oN n f hn f6⟩,q.1.frozen,fun K=>?_⟩;have r:=q.1.pg hn f6 (K:Int);have fr:af (s1.A 0) w5 (w5.setCell ⟨s1.A 0,n*12+6+f,none⟩ (.int .i64 (K:Int))):=(af.refl _ _).setCell _ _;exact⟨(aV (fr.block gg (aD hl q.2.fU.size) (gb 0 (az (by omega))))).trans y5,r.1,f5.trans r.2⟩
section
variable (base N : Nat) (d : Nat -> Nat) (s : St) (w : bD)
theorem Ih (z:Int)(p:bU)(wr made:Bool)(h:ak w base s)(hj:KJ (fun _=>False) N s.k):
  Calls Tryz.prog 121 #[.pointer (some ⟨s.A 0,0,none⟩), .int .i64 z, .string p, .bool wr, .bool made] w (Kn.Nx base s w (Kn.E9 s.k)):=by
 have AC:=hZ (dg base s w z h);have H:=hZ (aK h hj);have OK:Hid (∀x E:Int,Kn.E9 s.k (.tuple #[.int .i64 x,aq E]) s.k):=hZ (fun x E=>⟨x,E,rfl,_,⟨hj.ok,hj.wx⟩, .inl rfl⟩);by_cases A:Kn.bc s.k z=0
 ·obtain⟨n,rfl,hn,hl⟩:=Kn.fv A;have FRh:=hZ (ra base s w n h hn);have HL:=hZ hl;rw[A,aa,gN]at AC;obtain⟨kb,hk⟩:=nJ (s.A 0);have HK:=hZ hk;rw[hk]at AC FRh|-;clear h hj A hk hl;go_in
  go_wp2_with fail
  refine bM AC.out ?_;go_wp2_with fail
  refine FRh.out.mono ?_;rintro e w1 ⟨v,rfl,lo⟩;have B1:=hZ lo.bF;obtain⟨a,cap,hv⟩:=fC lo.own;by_cases l0:0<(Kn.fR s.k n 6).length
  ·obtain⟨gg,cap,hv,hgg,hc⟩:=lo.cells l0;obtain⟨f,ef,f6,fm⟩:=Kn.Dk l0;have y0:w1.cell? ⟨gg,0,none⟩=some (.int .i64 (((Kn.fR s.k n 6).getD 0 0:Nat):Int)):=hc 0 l0;rw[ef]at y0;have GB:Hid (∀i,us s i->gg≠s.A i):=hZ (fun i hi e=>by
    have a:=H.out.1.lt hi;have o:=lo.own;rw[hv]at o;have:=o.lt gg rfl;omega)
   have K1:=H.out.1.below lo.bF;have c8:=K1.rC;have RO:=hZ (ng (s.A 8) (s.A 6) (s.A 7) 1 s.k.fi w1 K1.fi);have WK:=hZ (sE base N s w1 (n:Int) p K1 H.out.2);have FM:=hZ fm;rw[hv];obtain⟨a8,h8⟩:=nJ (s.A 8);have H8:=hZ h8;rw[HK.out,h8]at c8;rw[h8]at RO;rw[HK.out]at WK;generalize (Kn.fR s.k n 6).length=M at*;have M0:0<(M:Int):=by omega
   have M1:((M:Int)==0)=false:=by simp;omega
   have M2: ¬M=0:=by omega
   have M3: ¬(M:Int)<=0:=by omega
   have fI:(f:Int)<6:=by omega
   have Y0:=hZ (aK y0 hgg);clear lo hv hc ef fm K1 h8;go_wp2_with fail
   refine bM RO.out ?_;cases decide ((1:Int)<=24-(Fx.bG s.k.fi 24:Int))
   ·go_wp2
    go_ret2
    exact .at H.out.1 B1.out (OK.out 0 4)
   ·clear y0 c8;go_wp2_with fail
    refine WK.out.mono ?_;rintro e w2 ⟨x,E,rfl,b2⟩;have B2:=hZ (B1.out.trans (b2.mono B1.out.size));have Y2:Hid (w2.cell? ⟨gg,0,none⟩=some (.int .i64 (f:Int))/\gg<w2.heap.size):=hZ ⟨(b2.cell (p:=⟨gg,0,none⟩) Y0.out.2).trans Y0.out.1,aD Y0.out.2 b2.size⟩;clear b2 Y0;have MA:=hZ (AK base N s w2 (n:Int) p 1 (H.out.1.below B2.out) H.out.2);rw[HK.out]at MA;have KBg:Hid (¬Kn.KB s gg):=hZ (fun⟨i,hi,e⟩=>GB.out i hi e);by_cases go:E=0\/(E=2/\made=true)
    ·have TL:Hid (∀(s1:St) (W:bD) (G:Fo),ak W base s1->KF s w2 s1 W->s1.k={s.k with fo:=G}->Kn.FG s.k G->KF s w s1 W/\FX W (s1.A 8) (s1.A 6) (s1.A 7) s.k.fi G s.k.pi/\Fx.Sm G s.k.pi/\W.cell? ⟨kb,252,none⟩=some (.pointer (some ⟨s1.A 8,0,none⟩))/\W.cell? ⟨gg,0,none⟩=some (.int .i64 (f:Int))/\gg<W.heap.size/\(∀i,us s1 i->gg≠s1.A i)/\s1.A 0=kb):=hZ (fun s1 W G k f e g=>by
      have x:=k.fx;rw[e]at x;refine⟨(KF.below B2.out).trans f,x,g.2.sm (fun m _=>by have:=H.out.2.tx m;omega),?_,(aV (f.iC Y2.out.2 KBg.out)).trans Y2.out.1,aD Y2.out.2 f.fU.size,fun i hi e=>f.apart Y2.out.2 KBg.out ⟨i,hi,e⟩,f.a0.trans HK.out⟩;have c:=k.rC;rw[f.a0,HK.out]at c;exact c)
     rcases go with rfl|⟨rfl,rfl⟩
     ·rw[aa];obtain⟨s1,G,K1,e1,g1⟩: ∃s1 G,(ak w2 base s1/\KF s w2 s1 w2)/\s1.k={s.k with fo:=G}/\Kn.FG s.k G:=⟨s,s.k.fo,⟨H.out.1.below B2.out,KF.refl _ _⟩,rfl,⟨H.out.2.ok,H.out.2.wx⟩⟩;go_wp2_with fail
      rw[Nh];obtain⟨F1,X1,sm,c8,y0,hgl,gb,a0⟩:=TL.out s1 w2 G K1.1 K1.2 e1 g1;have XN:=hZ (yK (s1.A 8) (s1.A 6) (s1.A 7) x wr s.k.fi G s.k.pi w2 X1 sm);have NT:Hid (∀w5 T F,_->_->_):=hZ (fun w5 T F=>Kn.yF (w5:=w5) (T:=T) (F:=F) K1.1 e1 F1 y0 hgl gb hn f6);have S1:=hZ (aK K1.1 (aK F1 (aK e1 g1)));rw[a0]at NT;generalize s1.A 8=b8 at*;clear K1 e1 g1 F1 X1 sm y0 hgl gb;go_wp2_with fail
      refine XN.out.mono ?_;rintro e w5 ⟨K,E,T,F,rfl,nt,u5,f5⟩;obtain⟨a1,a2,⟨vo,a3⟩,a4,a5⟩:=NT.out w5 T F u5 f5;by_cases E0:E=0
      ·subst E0;rw[aa];have A5:=hZ (aK nt (a5 K));have A2:=hZ a2;obtain⟨W6,hW6⟩:=nJ (w5.setCell ⟨kb,n*12+6+f,none⟩ (.int .i64 (K:Int)));rw[hW6]at A5;clear a1 a5 u5 f5 nt c8;go_upto_region 15 with fail
       go_region_held3 (fun w'=>w'.cell? ⟨gg,0,none⟩=some (.int .i64 (f:Int))) (first|exact A2.out|exact A5.out.2.1|go_keep) (fail)
       have x0:=A5.out.2.1;clear a2 a3 a4 hW6;go_wp2
       go_ret2
       exact⟨_,_,rfl,⟨f,0,rfl,G,S1.out.2.2.2, .inr ⟨n,f,K,x,wr,T,F,hn,f6,HL.out,FM.out,A5.out.1,rfl⟩⟩,A5.out.2.2.1.drew,A5.out.2.2.2.trans (KF.drew _ _)⟩
      ·have E1:=hZ (aj E0);have A1:Hid (T=s.k.fi/\F=G):=hZ (by
        rcases nt with⟨_,_,_,q⟩|⟨_,_,_,_,q⟩|⟨_,_,_,q,_⟩
        ·exact q
        ·exact q
        ·exact aZ q E0)
       have A2:=hZ a1;rw[aj E0];clear a1 a2 a3 a4 a5 u5 f5 nt c8 E0;go_wp2
       go_ret2
       exact⟨_,_,rfl,⟨0,E,by rw[E1.out];rfl,G,S1.out.2.2.2, .inl (by rw[A1.out.1,A1.out.2];rfl)⟩,A2.out⟩
     ·rw[aj (by decide)];go_wp2_with fail
      rw[C3];go_wp2_with fail
      refine MA.out.mono ?_;rintro e w3 ⟨v,s1,rfl,⟨x,E,G,rfl,g1,e1⟩,K1⟩;by_cases E0:E=0
      ·subst E0;rw[aa];obtain⟨F1,X1,sm,c8,y0,hgl,gb,a0⟩:=TL.out s1 w3 G K1.1 K1.2 e1 g1;have XN:=hZ (yK (s1.A 8) (s1.A 6) (s1.A 7) x wr s.k.fi G s.k.pi w3 X1 sm);have NT:Hid (∀w5 T F,_->_->_):=hZ (fun w5 T F=>Kn.yF (w5:=w5) (T:=T) (F:=F) K1.1 e1 F1 y0 hgl gb hn f6);have S1:=hZ (aK K1.1 (aK F1 (aK e1 g1)));rw[a0]at NT;generalize s1.A 8=b8 at*;clear K1 e1 g1 F1 X1 sm y0 hgl gb;go_wp2_with fail
       refine XN.out.mono ?_;rintro e w5 ⟨K,E,T,F,rfl,nt,u5,f5⟩;obtain⟨a1,a2,⟨vo,a3⟩,a4,a5⟩:=NT.out w5 T F u5 f5;by_cases E0:E=0
       ·subst E0;rw[aa];have A5:=hZ (aK nt (a5 K));have A2:=hZ a2;obtain⟨W6,hW6⟩:=nJ (w5.setCell ⟨kb,n*12+6+f,none⟩ (.int .i64 (K:Int)));rw[hW6]at A5;clear a1 a5 u5 f5 nt c8;go_upto_region 15 with fail
        go_region_held3 (fun w'=>w'.cell? ⟨gg,0,none⟩=some (.int .i64 (f:Int))) (first|exact A2.out|exact A5.out.2.1|go_keep) (fail)
        have x0:=A5.out.2.1;clear a2 a3 a4 hW6;go_wp2
        go_ret2
        exact⟨_,_,rfl,⟨f,0,rfl,G,S1.out.2.2.2, .inr ⟨n,f,K,x,wr,T,F,hn,f6,HL.out,FM.out,A5.out.1,rfl⟩⟩,A5.out.2.2.1.drew,A5.out.2.2.2.trans (KF.drew _ _)⟩
       ·have E1:=hZ (aj E0);have A1:Hid (T=s.k.fi/\F=G):=hZ (by
         rcases nt with⟨_,_,_,q⟩|⟨_,_,_,_,q⟩|⟨_,_,_,q,_⟩
         ·exact q
         ·exact q
         ·exact aZ q E0)
        have A2:=hZ a1;rw[aj E0];clear a1 a2 a3 a4 a5 u5 f5 nt c8 E0;go_wp2
        go_ret2
        exact⟨_,_,rfl,⟨0,E,by rw[E1.out];rfl,G,S1.out.2.2.2, .inl (by rw[A1.out.1,A1.out.2];rfl)⟩,A2.out⟩
      ·have E1:=hZ (aj E0);have S1:=hZ (aK K1 (aK e1 g1));rw[aj E0];clear K1 e1 g1 E0;go_wp2
       go_ret2
       exact⟨_,s1,rfl,⟨0,E,by rw[E1.out];rfl,G,S1.out.2.2, .inl S1.out.2.1⟩,S1.out.1.1,(KF.below B2.out).trans S1.out.1.2⟩
    ·have E0:E≠0:=fun e=>go (.inl e);have E1:=hZ (aj E0);have O':=hZ (OK.out 0 E);rw[aj E0]at O'|-;go_wp2_with fail
     rw[C3];by_cases E2:E=2
     ·have m0:made=false:=by cases made;rfl;exact aZ (.inr ⟨E2,rfl⟩) go
      subst m0 E2;clear go E0;go_wp2
      go_ret2
      exact .at H.out.1 B2.out O'.out
     ·have E3:(E==2)=false:=by simpa using E2
      clear go E0;go_wp2
      go_ret2
      exact .at H.out.1 B2.out O'.out
  ·have l1:(Kn.fR s.k n 6).length=0:=by omega
   rw[hv,l1];clear lo l0 l1 hv;go_wp2
   go_ret2
   exact .at H.out.1 B1.out (OK.out 0 4)
 ·have A':=hZ (aj A);have O':=hZ (OK.out 0 (Kn.bc s.k z));rw[aj A]at AC O';clear h hj A;generalize fP (s.A 0) z (Kn.bc s.k z)=ap at*;generalize Kn.bc s.k z=ae at*;generalize s.A 0=kb at*;go_in
  go_wp2_with fail
  refine bM AC.out ?_;go_wp2
  go_ret2
  exact .no H.out.1 O'.out

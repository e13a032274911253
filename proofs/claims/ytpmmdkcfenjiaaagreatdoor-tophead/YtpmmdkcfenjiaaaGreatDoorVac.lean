import Derived.StillTailTactics
import Derived.Test.YtpmmdkcfenjiaaaGreatDoorVab
set_option maxRecDepth 100000
set_option maxHeartbeats 2000000
namespace Go.Proofs.YtpmmdkcfenjiaaaGreatDoor
open Go.RowKit
namespace Wf
attribute [local go_sem] Lj
section
variable (b : Nat) (d : Nat -> Nat) (x : Nat -> Int) (w : bD)
def NQ (x:Nat->Int):Prop:= ∀g,g<10-> ¬0<x (121+g*198+195)
theorem Js (o m:Nat)(h p:Nat->Nat)(j:Nat)(s:QS w b o x m h p)(hj:j<64):Calls Tryz.prog 272 #[.pointer (some ⟨b,o,none⟩), .int .i64 j] w fun e w'=> ∃k E,e= .returned (.tuple #[.int .u64 k,aq E])/\Qc b o x w w' (fun i=>0<x (o+65+i)/\i≠j):=by
 by_cases c:0<p j
 ·exact(C8 b o m x h p w j s hj c).mono fun e w' ⟨k,a,q⟩=>⟨k,0,a,q⟩
 ·have KE:=hZ (xt b o m x h p w j s hj);have S:=hZ s;clear s;go_in
  go_wp2_with fail
  refine KE.out.mono ?_;rintro e w1 ⟨k,E,rfl,hE,rfl⟩;have e0:E≠0:=by omega
  have HE:=hZ (aj e0);rw[aj e0];clear KE hE;go_wp2
  go_ret2
  refine⟨0,E,by rw[HE.out];rfl,af.refl _ _,x,m,h,p,S.out,fun _ _=>rfl,fun i hi=>⟨fun q=>⟨q,?_⟩,fun q=>q.1⟩⟩;rintro rfl;rw[S.out.q.p i hj]at q;omega
theorem Mf {u g:Nat}{x1:Nat->Int}{w1 w2:bD}{d:Nat->Nat}{b:Nat}{x:Nat->Int}{w:bD}(i:Iv d u x)(n:In x u g)(c:Ch g u x x1)(hq: ∀j,j<64->x1 (121+g*198+65+j)=x (121+g*198+65+j))(f:af b w w1)(q:Qc b (121+g*198) x1 w1 w2 (fun i=>0<x1 (121+g*198+65+i)/\i≠u)):af b w w2/\ ∃x2,SA w2 b x2/\Iv d g x2/\In x2 u g/\Wk x x2:=by
 obtain⟨f',x2,s2,i2,c2,_,_⟩:Ln b d u g x false w w2:=Ln.of i (.inl rfl) n c f q (fun j hj ne=>by rw[hq j hj];simp[ne]) (by simp) (fun _ e=>by cases e);have:=n.lt;have:=n.oR;exact⟨f',x2,s2,i2,⟨n.lt,n.pos,(c2 _ (by omega) (by omega) (by omega)).trans n.here,n.oR,(c2 _ (by omega) (by omega) (by omega)).trans n.qs⟩,c2.wk n.lt n.oR⟩
theorem Mb (u g:Nat)(h:SA w b x)(i:Iv d u x)(n:In x u g):Calls Tryz.prog 235 #[.pointer (some ⟨b,0,none⟩), .int .i64 u] w fun e w'=>e= .returned (.tuple #[])/\To b w (fun x'=>Iv d g x'/\Wk x x') w':=by
 have c1:=h.i _ (qP n.lt);rw[n.qs]at c1;have l1:(u:Int)<30:=by have:=n.lt;omega
 have l2:(g:Int)<10:=by have:=n.oR;omega
 obtain⟨m,hp,pp,q1,q2⟩:=i.q g n.oR;obtain⟨_,_,_,_,_,wp⟩:=i.par u n.lt n.pos n.here;have gu:g≠u:=by
  obtain⟨k,_,e,_,lt,_⟩:=i.par u n.lt n.pos n.here;rw[n.qs]at e;intro e2;subst e2;obtain rfl:k=g:=by omega
  omega
 have CU:Hid (∀w' y,SA w' b y->(∀i,121+g*198<=i->i<121+g*198+129->y i=x i)->Calls Tryz.prog 272 #[.pointer (some ⟨b,121+g*198,none⟩), .int .i64 u] w' fun e w''=> ∃k E,e= .returned (.tuple #[.int .u64 k,aq E])/\Qc b (121+g*198) y w' w'' (fun i=>0<y (121+g*198+65+i)/\i≠u)):=hZ (fun w' y hy ey=>Js b y w' _ m hp pp u ⟨hy,⟨g,n.oR,rfl⟩,⟨(ey _ (by omega) (by omega)).trans q1.m,fun i hi=>(ey _ (by omega) (by omega)).trans (q1.h i hi),fun i hi=>(ey _ (by omega) (by omega)).trans (q1.p i hi)⟩,q2⟩ (by omega));have H:=hZ (aK i (aK n (aK gu h)));have kt:=hZ (kS n.lt 3 (by omega));have kw:=hZ (kS n.lt 2 (by omega));have kf:=hZ (CM n.oR);have z1: ¬x (1+u*4+2)=0:=by omega
 clear h i n q1 q2 gu wp;go_in
 go_wp2
 go_quiet (fail)
 go_wp2_with fail
 refine bw (fun W=>SA W b x/\af b w W) ⟨H.out.2.2.2.drewN _,(af.refl b w).drewN _⟩ ?_;rintro W ⟨hS,hF⟩;have c2:=hS.u _ kt.out;have c3:=hS.u _ kf.out;have cf:=hS.frozen;have S:=hZ (aK hS hF);clear hS hF c1;obtain⟨T,hT⟩:=nJ (x (1+u*4+3));obtain⟨L,hL⟩:=nJ (x (121+g*198+193));have HT:=hZ hT;rw[hT]at c2;rw[hL]at c3;clear hT hL;go_region
 go_wp2_with fail
 refine bw (fun W=>SA W b (up x (121+g*198+193) (mx L T))/\af b w W) ⟨(S.out.1.set _ _ _ kf.out.1 (by rw[kf.out.2];rfl)).drew,(S.out.2.setCell _ _).drew⟩ ?_;clear S c2 c3 cf W;rintro W ⟨hS,hF⟩;have c2:=hS.u _ kt.out;have c3:=hS.u _ kw.out;rw[bu _ _ (by omega)]at c2 c3;rw[HT.out]at c2;have cf:=hS.frozen;have S:=hZ (aK hS hF);generalize mx L T=ML at*;obtain⟨wt,hw⟩:=nJ (x (1+u*4+2));rw[hw]at c3 z1;clear hw;by_cases t:10<=u
 case' pos=>
  have h10': ¬(u:Int)<10:=by omega
  clear hS hF;go_region
  go_wp2_with fail
  generalize IntKind.u64.wrap (T+_)=TT at*;have S2:Hid (SA (W.setCell ⟨b,1+u*4+3,none⟩ (.int .u64 TT)).drew b (up (up x (121+g*198+193) ML) (1+u*4+3) TT)/\af b w (W.setCell ⟨b,1+u*4+3,none⟩ (.int .u64 TT)).drew/\Ch g u x (up (up x (121+g*198+193) ML) (1+u*4+3) TT)):=hZ ⟨(S.out.1.set _ _ _ kt.out.1 (by rw[kt.out.2];rfl)).drew,(S.out.2.setCell _ _).drew,fun i a1 a2 a3=>by rw[bu _ _ a2,bu _ _ (by omega)]⟩;have EQ:Hid (∀i,121+g*198<=i->i<121+g*198+129->up (up x (121+g*198+193) ML) (1+u*4+3) TT i=x i):=hZ (fun i a1 a2=>by rw[bu _ _ (by omega),bu _ _ (by omega)])
 case' neg=>
  have h10:u<10:=by omega
  have h10':(u:Int)<10:=by omega
  have kq:=hZ (rB h10 195 (by omega));have ku:=hZ (rB h10 197 (by omega));have c4:=hS.i _ kq.out;have c5:=hS.i _ ku.out;clear hS hF;generalize up x (121+g*198+193) ML (121+u*198+195)=qu at c4;generalize up x (121+g*198+193) ML (121+u*198+197)=us at c5;by_cases q0:0<qu
  case' pos=>
   go_region
   go_wp2_with fail
   go_region
   go_wp2_with fail
   generalize IntKind.u64.wrap (T+_)=TT at*;generalize wrap64 (us+1)=UU at*;have S2:Hid (SA ((W.setCell ⟨b,1+u*4+3,none⟩ (.int .u64 TT)).setCell ⟨b,121+u*198+197,none⟩ (.int .i64 UU)).drew.drew b (up (up (up x (121+g*198+193) ML) (1+u*4+3) TT) (121+u*198+197) UU)/\af b w ((W.setCell ⟨b,1+u*4+3,none⟩ (.int .u64 TT)).setCell ⟨b,121+u*198+197,none⟩ (.int .i64 UU)).drew.drew/\Ch g u x (up (up (up x (121+g*198+193) ML) (1+u*4+3) TT) (121+u*198+197) UU)):=hZ ⟨((S.out.1.set _ _ _ kt.out.1 (by rw[kt.out.2];rfl)).set _ _ _ ku.out.1 (by rw[ku.out.2];rfl)).drew.drew,((S.out.2.setCell _ _).setCell _ _).drew.drew,fun i a1 a2 a3=>by rw[bu _ _ a3,bu _ _ a2,bu _ _ (by omega)]⟩;have EQ:Hid (∀i,121+g*198<=i->i<121+g*198+129->up (up (up x (121+g*198+193) ML) (1+u*4+3) TT) (121+u*198+197) UU i=x i):=hZ (fun i a1 a2=>by rw[bu _ _ (by omega),bu _ _ (by omega),bu _ _ (by omega)])
  case' neg=>
   go_region
   go_wp2_with fail
   generalize IntKind.u64.wrap (T+_)=TT at*;have S2:Hid (SA (W.setCell ⟨b,1+u*4+3,none⟩ (.int .u64 TT)).drew b (up (up x (121+g*198+193) ML) (1+u*4+3) TT)/\af b w (W.setCell ⟨b,1+u*4+3,none⟩ (.int .u64 TT)).drew/\Ch g u x (up (up x (121+g*198+193) ML) (1+u*4+3) TT)):=hZ ⟨(S.out.1.set _ _ _ kt.out.1 (by rw[kt.out.2];rfl)).drew,(S.out.2.setCell _ _).drew,fun i a1 a2 a3=>by rw[bu _ _ a2,bu _ _ (by omega)]⟩;have EQ:Hid (∀i,121+g*198<=i->i<121+g*198+129->up (up x (121+g*198+193) ML) (1+u*4+3) TT i=x i):=hZ (fun i a1 a2=>by rw[bu _ _ (by omega),bu _ _ (by omega)])
 all_goals
  refine(CU.out _ _ S2.out.1 EQ.out).mono ?_;rintro e w2 ⟨k,E,rfl,q⟩;obtain⟨f2,x2,s2,i2,n2,k2⟩:=Mf H.out.1 H.out.2.1 S2.out.2.2 (fun j hj=>EQ.out _ (by omega) (by omega)) S2.out.2.1 q;have LN:=hZ (Ad b d x2 w2 u g g s2 i2 (.inr rfl) n2);have S3:=hZ (aK f2 k2);clear q f2 s2 i2 n2 k2 S2 EQ cf;go_wp2_with fail
  refine LN.out.mono ?_;rintro e w3 ⟨rfl,f3,x3,s3,i3,c3',_,_⟩;have FIN:Hid (To b w (fun x'=>Iv d g x'/\Wk x x') w3):=hZ ⟨x3,s3,S3.out.1.trans f3,i3,S3.out.2.trans (c3'.wk H.out.2.1.lt H.out.2.1.oR)⟩;clear f3 s3 i3 c3';go_wp2_with fail
  go_end0
  exact⟨rfl,FIN.out⟩
theorem M6 (n:Nat)(h:SA w b x)(i:Iv d 0 x)(hn:n<20)(hh:x (1+(10+n)*4)=1):Calls Tryz.prog 171 #[.pointer (some ⟨b,0,none⟩), .int .i64 n] w fun e w'=>e= .returned (.tuple #[])/\To b w (fun x'=>Iv d 0 x'/\Wk x x') w':=by
 have kr:=Fs hn;have c1:=h.i _ kr;have cf:=h.frozen;have hnI:(n:Int)<20:=by omega
 have H:=hZ (aK h (aK i (aK hh kr)));clear h i hh kr;generalize x (2101+n*2+1)=r at c1;go_in
 go_wp2
 go_region
 go_wp2_with fail
 generalize wrap64 (r+1)=rr at*;have H0:Hid (af b w (w.setCell ⟨b,2101+n*2+1,none⟩ (.int .i64 rr)).drew/\SA (w.setCell ⟨b,2101+n*2+1,none⟩ (.int .i64 rr)).drew b (up x (2101+n*2+1) rr)/\Iv d (10+n) (up x (2101+n*2+1) rr)/\Wk x (up x (2101+n*2+1) rr)/\up x (2101+n*2+1) rr (1+(10+n)*4)=1):=hZ ⟨((af.refl b w).setCell _ _).drew,(H.out.1.set _ _ _ H.out.2.2.2.1 (by rw[H.out.2.2.2.2];rfl)).drew,(H.out.2.1.iC (fun j hj=>bu _ _ (by unfold Kc at hj;omega))).any _,fun j hj=>bu _ _ (by omega),by rw[bu _ _ (by omega)];exact H.out.2.2.1⟩;clear c1 cf;generalize (w.setCell ⟨b,2101+n*2+1,none⟩ (.int .i64 rr)).drew=W0 at*;go_loopw [4] (fun i wr=> ∃(v:Nat) (y:Nat->Int),i= .int .i64 v/\v<30/\Hid (af b w wr/\SA wr b y/\Iv d v y/\Wk x y/\y (1+v*4)=1)) (fun i _=>d (intOf i).toNat)
 case atStart=>exact⟨10+n,_,by go_num,by omega,H0⟩
 case round=>
  clear H0;obtain⟨v,y,rfl,hv,H⟩:=hrel;by_cases h0:v=0
  ·subst h0;go_wp2
   go_end0
   obtain⟨h1,h2,h3,h4,_⟩:=H.out;exact⟨rfl,y,h2,h1,h3,h4⟩
  ·have k0:((v:Int) !=0)=true:=by rw[bne_iff_ne];omega
   obtain⟨g,g1,g2,g3,g4,_⟩:=H.out.2.2.1.par v hv h0 H.out.2.2.2.2;have HG:=hZ (aK g2 g3);have PY:=hZ (Mb b d y wr v g H.out.2.1 H.out.2.2.1 ⟨hv,h0,H.out.2.2.2.2,g1,g2⟩);clear g2 g3;go_wp2_with fail
   refine PY.out.mono ?_;rintro e w1 ⟨rfl,y1,s1,f1,i1,k1⟩;have c0:w1.cell? ⟨b,1+v*4+1,none⟩=some (.int .i64 (g:Int)):=by rw[s1.i _ (qP hv),k1 _ (by omega),HG.out.1]
   have S1:Hid (af b w w1/\SA w1 b y1/\Iv d g y1/\Wk x y1/\y1 (1+g*4)=1):=hZ ⟨H.out.1.trans f1,s1,i1,H.out.2.2.2.1.trans k1,(k1 _ (by omega)).trans HG.out.2⟩;have hvI:(v:Int)<30:=by omega
   clear f1 s1 i1 k1;go_wp2
   go_roundw
   case rel=>exact⟨g,y1,rfl,by omega,S1⟩
   case measure=>simp[intOf];exact g4
theorem Oo (d:Nat->Nat): ∀n,∃D,∀u,u<n->d u<=D
 |0=>⟨0,fun u h=>aZ h (by omega)⟩
 |n+1=>by
  obtain⟨D,h⟩:=Oo d n;refine⟨D+d n,fun u hu=>?_⟩;by_cases e:u=n
  ·subst e;omega
  ·have:=h u (by omega);omega
theorem Km (h:SA w b x)(i:Iv d 0 x):Calls Tryz.prog 170 #[.pointer (some ⟨b,0,none⟩)] w fun e w'=> ∃r:Int,e= .returned (.int .i64 r)/\(∃n,w'=w.drewN n)/\(r= -1/\ ¬0<x 121\/ ∃n:Nat,r=n/\n<20/\x (1+(10+n)*4)=1):=by
 obtain⟨D,hD⟩:=Oo d 30;have H:=hZ (aK h (aK i hD));clear h i hD;go_in
 go_wp2_with fail
 go_loopw [3] (fun j wr=> ∃(v:Nat),j= .int .i64 v/\v<30/\Hid ((∃n,wr=w.drewN n)/\x (1+v*4)=1/\(v=0\/ ∃g,g<10/\0<x (121+g*198+65+v)))) (fun j _=>D-d (intOf j).toNat)
 case atStart=>exact⟨0,rfl,by omega,⟨0,rfl⟩,H.out.2.1.rt, .inl rfl⟩
 case round=>
  obtain⟨v,rfl,hv,I⟩:=hrel;by_cases h10:v<10
  ·have k0:(v:Int)<10:=by omega
   obtain⟨m,hp,pp,q1,q2⟩:=H.out.2.1.q v h10;have Fqq:=hZ (pG b (121+v*198) m x hp pp wr ⟨by obtain⟨n,e⟩:=I.out.1;rw[e];exact H.out.1.drewN n,⟨v,h10,rfl⟩,q1,q2⟩);have QP:=hZ (aK q1.m q1.p);clear q1 q2;by_cases m0:0<m
   ·rw[aO m0]at Fqq;go_wp2_with fail
    refine Fqq.out.mono ?_;rintro e w1 ⟨j,k,n1,rfl,hw1,hj⟩;have S1:Hid ((∃n,w1=w.drewN n)/\j<30/\x (1+j*4)=1/\0<x (121+v*198+65+j)/\d v<d j/\d j<=D):=hZ (by
     obtain⟨n,hn⟩:=I.out.1;obtain⟨j1,j2⟩:=hj m0;have p:0<x (121+v*198+65+j):=by rw[QP.out.2 j j1];omega
     obtain⟨a1,a2,a3,a4⟩:=H.out.2.1.mem v j h10 j1 p;obtain⟨g,b1,b2,b3,b4,_⟩:=H.out.2.1.par j a1 a2 a3;obtain rfl:g=v:=by omega
     exact⟨⟨n+n1,by rw[hw1,hn,World.drewN_drewN]⟩,a1,a3,p,b4,H.out.2.2 j a1⟩)
    clear hw1 hj;go_wp2
    go_roundw
    case rel=>exact⟨j,rfl,S1.out.2.1,S1.out.1,S1.out.2.2.1, .inr ⟨v,h10,S1.out.2.2.2.1⟩⟩
    case measure=>have:=S1.out.2.2.2.2;simp[intOf];omega
   ·rw[aT m0]at Fqq;go_wp2_with fail
    refine Fqq.out.mono ?_;rintro e w1 ⟨j,k,n1,rfl,hw1,_⟩;have S1:Hid ((∃n,w1=w.drewN n)/\ ¬0<x 121):=hZ (by
     obtain⟨n,hn⟩:=I.out.1;refine⟨⟨n+n1,by rw[hw1,hn,World.drewN_drewN]⟩,?_⟩;rcases I.out.2.2 with e|⟨g,hg,p⟩
     ·subst e;have e1:x 121=m:=QP.out.1;omega
     ·have:=H.out.2.1.ne g v hg h10 (H.out.2.1.mem g v hg (by omega) p).2.1 p;have:=QP.out.1;omega)
    clear hw1;go_wp2
    go_ret
    exact⟨-1,rfl,S1.out.1, .inl ⟨rfl,S1.out.2⟩⟩
  ·have k0: ¬(v:Int)<10:=by omega
   obtain⟨n,rfl⟩: ∃n,v=10+n:=⟨v-10,by omega⟩;go_wp2
   go_ret
   exact⟨_,rfl,I.out.1, .inr ⟨n,by omega,by omega,I.out.2.1⟩⟩
theorem Ig (h:SA w b x)(i:Iv d 0 x):Calls Tryz.prog 169 #[.pointer (some ⟨b,0,none⟩)] w fun e w'=>e= .returned (.tuple #[])/\To b w (fun x'=>Iv d 0 x'/\Wk x x'/\(NQ x->x'=x)) w':=by
 have H:=hZ (aK h i);clear h i;go_in
 go_wp2_with fail
 go_loopw [4] (fun j wr=> ∃(k:Nat) (y:Nat->Int),j= .int .i64 k/\k<=10/\Hid (af b w wr/\SA wr b y/\Iv d 0 y/\Wk x y/\(NQ x->y=x))) (fun j _=>10-(intOf j).toNat)
 case atStart=>exact⟨0,x,rfl,by omega,af.refl _ _,H.out.1,H.out.2,Wk.refl _,fun _=>rfl⟩
 case round=>
  clear H;obtain⟨k,y,rfl,hk,H⟩:=hrel;by_cases h10:k<10
  ·have k0:(k:Int)<10:=by omega
   have ku:=hZ (rB h10 197 (by omega));have c0:=H.out.2.1.i 0 ⟨by omega,rfl⟩;have c1:=H.out.2.1.i _ (rB h10 195 (by omega));have c2:=H.out.2.1.i _ (rB h10 196 (by omega));have c3:=H.out.2.1.i _ ku.out;have cf:=H.out.2.1.frozen;have PE:=hZ (H.out.2.2.1.pe k h10);have QE:Hid (x (121+k*198+195)=y (121+k*198+195)):=hZ (H.out.2.2.2.1 _ (by omega)).symm;generalize y (121+k*198+195)=qu at*;generalize y (121+k*198+197)=us at*;generalize y 0=N at*;by_cases q0:0<qu
   ·have p0:=PE.out q0;have HH:=hZ p0.2;have p1: ¬y (121+k*198+196)=0:=by omega
    generalize y (121+k*198+196)=pe at*;clear p0;obtain⟨t,ht⟩:=nJ ((N.tmod pe==0));cases t
    ·go_wp2_with fail
     go_quiet (fail)
     go_wp2
     go_roundw
     case rel=>exact⟨k+1,y,by go_num,by omega,H.out.1.drewN _,H.out.2.1.drewN _,H.out.2.2⟩
     case measure=>simp[intOf];omega
    ·have ST:Hid (∀nq,Calls Tryz.prog 195 #[.pointer (some ⟨b,0,none⟩), .int .i64 k] ((wr.drewN nq).setCell ⟨b,121+k*198+197,none⟩ (.int .i64 0)) fun e w'=>e= .returned (.tuple #[])/\To b ((wr.drewN nq).setCell ⟨b,121+k*198+197,none⟩ (.int .i64 0)) (fun x'=>Iv d 0 x'/\Wk (up y (121+k*198+197) 0) x'/\Ps k (up y (121+k*198+197) 0) x') w'):=hZ (fun nq=>vT b d _ _ k ((H.out.2.1.drewN nq).set _ 0 _ ku.out.1 (by rw[ku.out.2];rfl)) ((H.out.2.2.1.iC (fun j hj=>bu _ _ (by unfold Kc at hj;omega))).any k) (by omega) (by rw[bu _ _ (by omega)];exact HH.out));go_wp2_with fail
     go_quiet (fail)
     go_wp2_with fail
     refine(ST.out _).mono ?_;rintro e w1 ⟨rfl,y1,s1,f1,i1,k1,_⟩;have S1:Hid (af b w w1/\SA w1 b y1/\Iv d 0 y1/\Wk x y1/\(NQ x->y1=x)):=hZ ⟨((H.out.1.drewN _).setCell _ _).trans f1,s1,i1,H.out.2.2.2.1.trans (fun j hj=>(k1 j hj).trans (bu _ _ (by omega))),fun q=>aZ q0 (by have:=q k h10;rw[QE.out]at this;exact this)⟩;clear f1 s1 i1 k1 c0 c1 c2 c3 cf;go_wp2
     go_roundw
     case rel=>exact⟨k+1,y1,by go_num,by omega,S1⟩
     case measure=>simp[intOf];omega
   ·have q1:decide ((0:Int)<qu)=false:=by simp;omega
    go_wp2_with fail
    go_quiet (fail)
    go_wp2
    go_roundw
    case rel=>exact⟨k+1,y,by go_num,by omega,H.out.1.drewN _,H.out.2.1.drewN _,H.out.2.2⟩
    case measure=>simp[intOf];omega
  ·have k0: ¬(k:Int)<10:=by omega
   go_wp2_with fail
   go_end0
   exact⟨rfl,y,H.out.2.1,H.out.1,H.out.2.2⟩
theorem NV (h:SA w b x)(i:Iv d 0 x):Calls Tryz.prog 95 #[.pointer (some ⟨b,0,none⟩)] w fun e w'=> ∃r:Int,e= .returned (.int .i64 r)/\(r= -1/\(NQ x-> ¬0<x 121)\/ ∃n:Nat,r=n/\n<20/\x (1+(10+n)*4)=1)/\To b w (fun x'=>Iv d 0 x'/\Wk x x') w':=by
 have RN:=hZ (Ig b d x w h i);clear h i;go_in
 go_wp2_with fail
 refine RN.out.mono ?_;rintro e w1 ⟨rfl,x1,s1,f1,i1,k1,n1⟩;have c0:=s1.i 0 ⟨by omega,rfl⟩;have cf:=s1.frozen;have S1:=hZ (aK s1 (aK f1 (aK i1 (aK k1 n1))));clear s1 f1 i1 k1 n1 RN;generalize x1 0=N at c0;go_wp2_with fail
 generalize wrap64 (N+1)=NN at*;have s2:=S1.out.1.set 0 NN (.int .i64 NN) (by omega) rfl;have i2:Iv d 0 (up x1 0 NN):=S1.out.2.2.1.iC (fun j hj=>bu _ _ (by unfold Kc at hj;omega));have F2:=hZ (aK (S1.out.2.1.setCell 0 (.int .i64 NN)) (aK s2 i2));refine(Km b d _ _ s2 i2).mono ?_;rintro e w2 ⟨r,rfl,hw2,hr⟩;have S2:Hid (SA w2 b (up x1 0 NN)/\af b w w2):=hZ (by obtain⟨n,e⟩:=hw2;rw[e];exact⟨s2.drewN n,F2.out.1.drewN n⟩);have HR:=hZ hr;clear s2 i2 hw2 c0 cf;have KK:Hid (Wk x (up x1 0 NN)):=hZ (S1.out.2.2.2.1.trans (fun j hj=>bu _ _ (by omega)));rcases hr with⟨rfl,h0⟩|⟨n,rfl,hn,hh⟩
 ·have HH:=hZ h0;clear h0 HR;go_wp2
  go_ret
  exact⟨-1,rfl, .inl ⟨rfl,fun q=>by have:=HH.out;rw[bu _ _ (by omega),S1.out.2.2.2.2 q]at this;exact this⟩,_,S2.out.1,S2.out.2,F2.out.2.2,KK.out⟩
 ·have z:((n:Int) != -1)=true:=by rw[bne_iff_ne];omega
  have RU:=hZ (M6 b d _ w2 n S2.out.1 F2.out.2.2 hn hh);have HH:=hZ hh;clear HR hh;go_wp2_with fail
  refine RU.out.mono ?_;rintro e w3 ⟨rfl,x3,s3,f3,i3,k3⟩;have FIN:Hid (To b w (fun x'=>Iv d 0 x'/\Wk x x') w3):=hZ ⟨x3,s3,S2.out.2.trans f3,i3,KK.out.trans k3⟩;clear s3 f3 i3 k3;go_wp2
  go_ret
  exact⟨n,rfl, .inr ⟨n,rfl,hn,by rw[<-KK.out _ (by omega)];exact HH.out⟩,FIN.out⟩
end
end Wf
namespace Wf
structure M where
 here:Nat->Bool
 top:Nat->Bool
 nq:Bool
 rd:Bool
def fb (f:Nat->Bool)(i:Nat)(v:Bool):Nat->Bool:=fun j=>if j=i then v else f j
theorem tY (f:Nat->Bool)(i:Nat)(v:Bool):fb f i v i=v:=aJ rfl
theorem zs (f:Nat->Bool){i j:Nat}(v:Bool)(h:j≠i):fb f i v j=f j:=aI h
structure Rp (m:M)(x:Nat->Int):Prop where
 here: ∀u,u<30->(x (1+u*4)=1↔m.here u=true)
 top: ∀u,u<30->m.here u=true->m.top u=true->x (1+u*4+1)=0
 nq:m.nq=true->NQ x
 rd:m.rd=true->0<x 121
def Fair (w:bD)(b:Nat)(m:M):Prop:= ∃x d,SA w b x/\Iv d 0 x/\Rp m x
theorem Fair.lt {w:bD}{b:Nat}{m:M}(h:Fair w b m):b<w.heap.size:=by obtain⟨x,d,s,_⟩:=h;exact s.lt
theorem Fair.same {w w':bD}{b:Nat}{m:M}(h:Fair w b m)(e:w'.heap[b]? =w.heap[b]?):Fair w' b m:=by obtain⟨x,d,s,i⟩:=h;exact⟨x,d,s.same e,i⟩
theorem Rp.wk {m:M}{x x':Nat->Int}(h:Rp m x)(k:Wk x x')(r:Bool)(hr:r=true->0<x' 121):Rp {m with rd:=r} x':=
 ⟨fun u hu=>by rw[k _ (by omega)];exact h.here u hu,fun u hu a t=>by rw[k _ (by omega)];exact h.top u hu a t,fun q g hg=>by rw[k _ (by omega)];exact h.nq q g hg,hr⟩
theorem Iv.put {d:Nat->Nat}{x x':Nat->Int}{u g:Nat}(h:Iv d 0 x)(hu:u<30)(u0:u≠0)(no: ∀k,k<10-> ¬0<x (121+k*198+65+u))(na: ∀v,v<30->v≠0->x (1+v*4)=1->x (1+v*4+1)≠u)(hg:g<10)(gu:g≠u)(gh:x (1+g*4)=1)(e: ∀i,i<1+u*4\/1+u*4+4<=i->x' i=x i)(e0:x' (1+u*4)=1)(e1:x' (1+u*4+1)=g)(e2:0<x' (1+u*4+2))(pq:u<10-> ¬0<x (121+u*198+195)):Iv (fun v=>if v=u then d g+1 else d v) 0 x':=by
 refine⟨fun k hk=>(h.q k hk).same fun i h1 h2=>e i (by omega),(e _ (by omega)).trans h.rt,fun v hv v0 hv1=>?_,fun k j hk hj p=>?_,fun k v hk hv hne p=>?_,fun k hk p=>?_⟩
 ·by_cases ev:v=u
  ·subst ev;exact⟨g,hg,e1,(e _ (by omega)).trans gh,by show(if g=v then _ else d g)<(if v=v then _ else _);rw[aI gu,aJ rfl];omega,e2⟩
  ·rw[e _ (by omega)]at hv1;obtain⟨k,k1,k2,k3,k4,k5⟩:=h.par v hv v0 hv1;have ku:k≠u:=fun e=>na v hv v0 hv1 (by rw[k2,e]);exact⟨k,k1,(e _ (by omega)).trans k2,(e _ (by omega)).trans k3,by show(if k=u then _ else d k)<(if v=u then _ else d v);rw[aI ku,aI ev];exact k4,by rw[e _ (by omega)];exact k5⟩
 ·rw[e _ (by omega)]at p;obtain⟨m1,m2,m3,m4⟩:=h.mem k j hk hj p;have ju:j≠u:=fun q=>no k hk (by rw[<-q];exact p);exact⟨m1,m2,(e _ (by omega)).trans m3,(e _ (by omega)).trans m4⟩
 ·rw[e _ (by omega)]at p|-;exact h.ne k v hk hv hne p
 ·rw[e _ (by omega)]at p;have ku:k≠u:=fun q=>pq (by omega) (by rw[<-q];exact p);rw[e _ (by omega),e _ (by omega)];exact h.pe k hk p
theorem Iv.drop {d:Nat->Nat}{x x':Nat->Int}{u:Nat}(h:Iv d 0 x)(hu:u<30)(u0:u≠0)(no: ∀k,k<10-> ¬0<x (121+k*198+65+u))(na: ∀v,v<30->v≠0->x (1+v*4)=1->x (1+v*4+1)≠u)(e: ∀i,i<2101->i<1+u*4\/1+u*4+4<=i->i<121+u*198\/121+u*198+198<=i->x' i=x i)(e0:x' (1+u*4)≠1)(z:u<10-> ∀i,i<198->x' (121+u*198+i)=0):Iv d 0 x':=by
 have z0:u<10-> ∀i,121+u*198<=i->i<121+u*198+198->x' i=0:=fun a i b c=>by
  have:=z a (i-(121+u*198)) (by omega);rwa [show 121+u*198+(i-(121+u*198))=i by omega]at this
 refine⟨fun k hk=>?_,(e _ (by omega) (by omega) (by omega)).trans h.rt,fun v hv v0 hv1=>?_,fun k j hk hj p=>?_,fun k v hk hv hne p=>?_,fun k hk p=>?_⟩
 ·by_cases ku:k=u
  ·subst ku;exact⟨0,fun _=>0,fun _=>0,⟨z0 hk _ (by omega) (by omega),fun i hi=>z0 hk _ (by omega) (by omega),fun i hi=>z0 hk _ (by omega) (by omega)⟩,by omega,fun i hi=>aZ hi (by omega),fun j hj=>⟨by omega,fun q=>aZ q (by omega)⟩⟩
  ·exact(h.q k hk).same fun i h1 h2=>e i (by omega) (by omega) (by omega)
 ·have ev:v≠u:=fun q=>e0 (by rw[<-q];exact hv1);rw[e _ (by omega) (by omega) (by omega)]at hv1;obtain⟨k,k1,k2,k3,k4,k5⟩:=h.par v hv v0 hv1;have ku:k≠u:=fun e=>na v hv v0 hv1 (by rw[k2,e]);exact⟨k,k1,(e _ (by omega) (by omega) (by omega)).trans k2,(e _ (by omega) (by omega) (by omega)).trans k3,k4,by rw[e _ (by omega) (by omega) (by omega)];exact k5⟩
 ·have ku:k≠u:=fun q=>by subst q;rw[z0 hk _ (by omega) (by omega)]at p;omega
  rw[e _ (by omega) (by omega) (by omega)]at p;obtain⟨m1,m2,m3,m4⟩:=h.mem k j hk hj p;have ju:j≠u:=fun q=>no k hk (by rw[<-q];exact p);exact⟨m1,m2,(e _ (by omega) (by omega) (by omega)).trans m3,(e _ (by omega) (by omega) (by omega)).trans m4⟩
 ·have ku:k≠u:=fun q=>by subst q;rw[z0 hk _ (by omega) (by omega)]at p;omega
  rw[e _ (by omega) (by omega) (by omega)]at p;have vu:v≠u:=fun q=>no k hk (by rw[<-q];exact p);rw[e _ (by omega) (by omega) (by omega)];exact h.ne k v hk hv hne p
 ·have ku:k≠u:=fun q=>by subst q;rw[z0 hk _ (by omega) (by omega)]at p;omega
  rw[e _ (by omega) (by omega) (by omega)]at p;rw[e _ (by omega) (by omega) (by omega),e _ (by omega) (by omega) (by omega)];exact h.pe k hk p
def rm (m:M)(z:Int):Int:=if z<0\/10<=z then 1 else if m.here z.toNat then 0 else 2
def nM (m:M)(z:Int):Int:=if z<0\/20<=z then 1 else if m.here (10+z.toNat)then 0 else 2
theorem Il {m:M}{z:Int}(h:rm m z=0): ∃n:Nat,z=n/\n<10/\m.here n=true:=by
 unfold rm at h;split at h
 ·omega
 ·obtain⟨n,rfl⟩:=aG (show 0<=z by omega);refine⟨n,rfl,by omega,?_⟩;rw[hU]at h;split at h
  ·assumption
  ·omega
theorem yz {m:M}{z:Int}(h:nM m z=0): ∃n:Nat,z=n/\n<20/\m.here (10+n)=true:=by
 unfold nM at h;split at h
 ·omega
 ·obtain⟨n,rfl⟩:=aG (show 0<=z by omega);refine⟨n,rfl,by omega,?_⟩;rw[hU]at h;split at h
  ·assumption
  ·omega
section
variable (b : Nat) (m : M) (w : bD)
theorem Fair.cell {w:bD}{b:Nat}{m:M}(h:Fair w b m)(u:Nat)(hu:u<30):w.cell? ⟨b,1+u*4,none⟩=some (.bool (m.here u)):=by
 obtain⟨x,d,s,_,r⟩:=h;rw[s.bo _ (wB hu)];have:=r.here u hu;cases e:m.here u<;>simp_all
theorem xP (z:Int)(h:Fair w b m):Calls Tryz.prog 189 #[.pointer (some ⟨b,0,none⟩), .int .i64 z] w fun e w'=>e= .returned (aq (rm m z))/\w'=w:=by
 by_cases k:z<0
 ·have E:Hid (rm m z=1):=hZ (aJ (.inl k));clear h;go_in
  go_wp2
  go_ret
  rw[E.out];exact⟨rfl,rfl⟩
 ·have k0:decide (z<0)=false:=by simp;omega
  by_cases k1:10<=z
  ·have E:Hid (rm m z=1):=hZ (aJ (.inr k1));clear h;go_in
   go_wp2
   go_ret
   rw[E.out];exact⟨rfl,rfl⟩
  ·obtain⟨n,rfl⟩:=aG (show 0<=z by omega);have c:=h.cell n (by omega);have E:Hid (rm m n=if m.here n then 0 else 2):=hZ (aI (by omega));have hn:(n:Int)<30:=by omega
   generalize m.here n=t at*;clear h;cases t<;>
   ·go_in
    go_wp2
    go_ret
    rw[E.out];exact⟨rfl,rfl⟩
theorem rG (z:Int)(h:Fair w b m):Calls Tryz.prog 135 #[.pointer (some ⟨b,0,none⟩), .int .i64 z] w fun e w'=>e= .returned (aq (nM m z))/\w'=w:=by
 by_cases k:z<0
 ·have E:Hid (nM m z=1):=hZ (aJ (.inl k));clear h;go_in
  go_wp2
  go_ret
  rw[E.out];exact⟨rfl,rfl⟩
 ·have k0:decide (z<0)=false:=by simp;omega
  by_cases k1:20<=z
  ·have E:Hid (nM m z=1):=hZ (aJ (.inr k1));clear h;go_in
   go_wp2
   go_ret
   rw[E.out];exact⟨rfl,rfl⟩
  ·obtain⟨n,rfl⟩:=aG (show 0<=z by omega);have c:=h.cell (10+n) (by omega);have E:Hid (nM m n=if m.here (10+n)then 0 else 2):=hZ (aI (by omega));have hn:10+(n:Int)<30:=by omega
   have hn0:(0:Int)<=10+(n:Int):=by omega
   have hw:IntKind.i64.wrap (10+(n:Int))=10+(n:Int):=aN _ ⟨by omega,by omega⟩;generalize m.here (10+n)=t at*;clear h;cases t<;>
   ·go_in
    go_wp2
    go_ret
    rw[E.out];exact⟨rfl,rfl⟩
theorem Ct (g x:Int):Calls Tryz.prog 193 #[.int .i64 g, .int .u64 x] w fun e w'=>e= .returned (.agg #[.bool true, .int .i64 g, .int .u64 x, .int .u64 0])/\Below w.heap.size w w':=by
 go_in
 go_wp2
 refine bodyPost_ret (v:= .agg #[.bool true, .int .i64 g, .int .u64 x, .int .u64 0]) (by simp[results,Tryz.results193,go_sem]) rfl ⟨rfl,(aQ _ _).alloc (aL _) _⟩
theorem SA.four {w:bD}{b:Nat}{x:Nat->Int}(h:SA w b x)(u:Nat)(hu:u<30)(t:Bool)(g wt tm:Int):SA ((((w.setCell ⟨b,1+u*4,none⟩ (.bool t)).setCell ⟨b,1+u*4+1,none⟩ (.int .i64 g)).setCell ⟨b,1+u*4+2,none⟩ (.int .u64 wt)).setCell ⟨b,1+u*4+3,none⟩ (.int .u64 tm)) b (up (up (up (up x (1+u*4) (bi t)) (1+u*4+1) g) (1+u*4+2) wt) (1+u*4+3) tm):=
 have a0:=wB hu;have a1:=qP hu;have a2:=kS hu 2 (by omega);have a3:=kS hu 3 (by omega)
 (((h.set _ _ _ a0.1 (by rw[a0.2];exact JC t)).set _ _ _ a1.1 (by rw[a1.2];rfl)).set _ _ _ a2.1 (by rw[a2.2];rfl)).set _ _ _ a3.1 (by rw[a3.2];rfl)
def uP (m:M)(u:Nat)(g:Int):M:=if m.here u=false/\rm m g=0 then{m with here:=fb m.here u true,top:=fb m.top u (decide (g=0))}else m
theorem Rp.new {m:M}{x x':Nat->Int}(h:Rp m x){u:Nat}{g:Int}(hu:u<30)(u0:u≠0)(e: ∀i,i<1+u*4\/1+u*4+4<=i->x' i=x i)(e0:x' (1+u*4)=1)(e1:x' (1+u*4+1)=g):Rp {m with here:=fb m.here u true,top:=fb m.top u (decide (g=0))} x':=by
 refine⟨fun v hv=>?_,fun v hv a t=>?_,fun q k hk=>by rw[e _ (by omega)];exact h.nq q k hk,fun q=>by rw[e _ (by omega)];exact h.rd q⟩
 ·by_cases ev:v=u
  ·subst ev;show _↔fb m.here v true v=true;rw[tY];simp[e0]
  ·show _↔fb m.here u true v=true;rw[zs _ _ ev,e _ (by omega)];exact h.here v hv
 ·by_cases ev:v=u
  ·subst ev;rw[e1];have t':fb m.top v (decide (g=0)) v=true:=t;rw[tY]at t';simpa using t'
  ·have a':fb m.here u true v=true:=a;have t':fb m.top u (decide (g=0)) v=true:=t;rw[zs _ _ ev]at a' t';rw[e _ (by omega)];exact h.top v hv a' t'
theorem xE (u:Nat)(z g wt:Int)(hz:z=u)(h:Fair w b m)(hu:u<30)(hw:1<=wt/\wt<=1000):Calls Tryz.prog 187 #[.pointer (some ⟨b,0,none⟩), .int .i64 z, .int .i64 g, .int .i64 wt] w fun e w'=>(∃E,e= .returned (aq E))/\Fair w' b (uP m u g)/\af b w w':=by
 subst hz;have d1:decide (wt<1)=false:=by simp;omega
 have d2: ¬(1000:Int)<wt:=by omega
 have c1:=h.cell u hu;have hlt:(u:Int)<30:=by omega
 have WG:=hZ (xP b m w g h);have H:=hZ h;have HW:=hZ hw;clear h hw;obtain⟨t,ht⟩:=nJ (m.here u);rw[ht]at c1;have T:=hZ ht;clear ht;cases t
 ·have u0:u≠0:=by
   rintro rfl;obtain⟨x,d,_,i,r⟩:=H.out;have:=(r.here 0 (by omega)).1 i.rt;rw[T.out]at this;cases this
  go_in
  go_wp2_with fail
  refine bM WG.out ?_;by_cases e:rm m g=0
  ·have E:=hZ e;obtain⟨k,rfl,hk,hh⟩:=Il e;have HK:=hZ hh;have HL:=hZ H.out.lt;rw[e,aa];clear e hh WG c1;go_wp2_with fail
   obtain⟨x,d,s,i,r⟩:=H.out;have SI:=hZ (aK s (aK i r));clear s i r;go_region_held3 (fun _=>True) (trivial) ((go_at_call 193;refine(Ct _ _ _).mono ?_;rintro e w2 ⟨rfl,b2⟩;have s2:SA w2 b x:=SI.out.1.drew.same (b2.block b HL.out);have t0:=s2.bo _ (wB hu);have t1:=s2.i _ (qP hu);have t2:=s2.u _ (kS hu 2 (by omega));have t3:=s2.u _ (kS hu 3 (by omega));have cf:=s2.frozen;have B2:=hZ (aK s2 ((af.refl b w).drew.trans (af.bB b2)));clear s2 b2))
   clear t0 t1 t2 t3 cf;generalize hwt:IntKind.u64.wrap wt=ww at*;have FIN:Hid (Fair ((((w2.setCell ⟨b,1+u*4,none⟩ (.bool true)).setCell ⟨b,1+u*4+1,none⟩ (.int .i64 (k:Int))).setCell ⟨b,1+u*4+2,none⟩ (.int .u64 ww)).setCell ⟨b,1+u*4+3,none⟩ (.int .u64 0)) b (uP m u k)/\af b w ((((w2.setCell ⟨b,1+u*4,none⟩ (.bool true)).setCell ⟨b,1+u*4+1,none⟩ (.int .i64 (k:Int))).setCell ⟨b,1+u*4+2,none⟩ (.int .u64 ww)).setCell ⟨b,1+u*4+3,none⟩ (.int .u64 0))):=hZ (by
    obtain⟨s,i,r⟩:=SI.out;obtain⟨s2,b2⟩:=B2.out;have uh: ¬x (1+u*4)=1:=fun q=>by have:=(r.here u hu).1 q;rw[T.out]at this;cases this
    have kh:=(r.here k (by omega)).2 HK.out;have ku:k≠u:=fun q=>uh (by rw[<-q];exact kh);have w0:0<ww:=by
     rw[<-hwt,IntWalk.u64_in _ ⟨by have:=HW.out;omega,by have:=HW.out;omega⟩];have:=HW.out;omega
    have e: ∀i,i<1+u*4\/1+u*4+4<=i->up (up (up (up x (1+u*4) (bi true)) (1+u*4+1) k) (1+u*4+2) ww) (1+u*4+3) 0 i=x i:=fun i hi=>by rw[bu _ _ (by omega),bu _ _ (by omega),bu _ _ (by omega),bu _ _ (by omega)]
    have e0:up (up (up (up x (1+u*4) (bi true)) (1+u*4+1) k) (1+u*4+2) ww) (1+u*4+3) 0 (1+u*4)=1:=by rw[bu _ _ (by omega),bu _ _ (by omega),bu _ _ (by omega),j8];rfl
    have e1:up (up (up (up x (1+u*4) (bi true)) (1+u*4+1) k) (1+u*4+2) ww) (1+u*4+3) 0 (1+u*4+1)=k:=by rw[bu _ _ (by omega),bu _ _ (by omega),j8]
    unfold uP;rw[aJ ⟨T.out,E.out⟩];refine⟨⟨_,_,s2.four u hu true k ww 0,i.put hu u0 (fun q hq p=>uh (i.mem q u hq (by omega) p).2.2.1) (fun v hv v0 hv1 q=>?_) hk ku kh e e0 e1 (by rw[bu _ _ (by omega),j8];exact w0) (fun q p=>uh (i.pe u q p).2),r.new hu u0 e e0 e1⟩,(((b2.setCell _ _).setCell _ _).setCell _ _).setCell _ _⟩;obtain⟨j,_,j2,j3,_⟩:=i.par v hv v0 hv1;rw[q]at j2;exact uh (by rw[show u=j by omega];exact j3))
   clear hwt;go_wp2
   go_ret
   exact⟨⟨0,rfl⟩,FIN.out⟩
  ·have E0:Hid (uP m u g=m):=hZ (aI fun q=>e q.2);have EV:=hZ (aj e);rw[aj e];clear e WG;go_wp2
   go_ret
   rw[E0.out];exact⟨⟨rm m g,by rw[EV.out];rfl⟩,H.out,af.refl b w⟩
 ·have E0:Hid (uP m u g=m):=hZ (aI fun q=>by have:=q.1;rw[T.out]at this;cases this);go_in
  go_wp2
  go_ret
  rw[E0.out];exact⟨⟨3,rfl⟩,H.out,af.refl b w⟩
def dm (m:M)(z g:Int):M:=if 0<=z/\z<20 then uP m (10+z.toNat) g else m
theorem BY (z g wt:Int)(h:Fair w b m)(hw:1<=wt/\wt<=1000):Calls Tryz.prog 143 #[.pointer (some ⟨b,0,none⟩), .int .i64 z, .int .i64 g, .int .i64 wt] w fun e w'=>(∃E,e= .returned (aq E))/\Fair w' b (dm m z g)/\af b w w':=by
 have H:=hZ h;by_cases k:0<=z/\z<20
 ·obtain⟨n,rfl⟩:=aG k.1;have AD:=hZ (xE b m w (10+n) (10+(n:Int)) g wt (by omega) h (by omega) hw);have E:Hid (dm m n g=uP m (10+n) g):=hZ (aJ k);have k1: ¬(20:Int)<=(n:Int):=by omega
  have hwr:IntKind.i64.wrap (10+(n:Int))=10+(n:Int):=aN _ ⟨by omega,by omega⟩;rw[E.out];clear h hw;go_in
  go_wp2_with fail
  refine AD.out.mono ?_;rintro e w1 ⟨⟨E1,rfl⟩,f1,r1⟩;have FIN:=hZ (aK f1 r1);clear f1 r1;go_wp2
  go_ret
  exact⟨⟨E1,rfl⟩,FIN.out⟩
 ·have E:Hid (dm m z g=m):=hZ (aI k);rw[E.out];by_cases k0:z<0
  case' pos=>have k1:decide (z<0)=true:=by simpa using k0
  case' neg=>
   have k1:decide (z<0)=false:=by simpa using k0
   have k2:20<=z:=by omega
  all_goals
   clear h;go_in
   go_wp2
   go_ret
   exact⟨⟨1,rfl⟩,H.out,af.refl b w⟩
end
end Wf
namespace Wf
def zn (m:M)(z:Int):M:=if nM m z=0 then{m with here:=fb m.here (10+z.toNat) false,rd:=false}else m
def tn (m:M)(z:Int)(on:Bool):M:={m with rd:=on&&(decide (nM m z=0)&&m.top (10+z.toNat))}
def im (m:M)(z:Int)(on:Bool)(m':M):Prop:=m'=tn m z on
def Ha (m:M)(z:Int)(m':M):Prop:=m'=zn m z
def SG (m m':M):Prop:= ∀n,m'.here (10+n)=true->m.here (10+n)=true
def Ap (m:M)(r:Int)(m':M):Prop:=m'={m with rd:=false}/\(r= -1/\ ¬(m.nq=true/\m.rd=true)\/ ∃n:Nat,r=n/\n<20/\m.here (10+n)=true)
theorem Rp.gone {m:M}{x x':Nat->Int}(h:Rp m x){u:Nat}(e: ∀i,i<2101->i<1+u*4\/1+u*4+4<=i->i<121+u*198\/121+u*198+198<=i->x' i=x i)(e0:x' (1+u*4)≠1)(hu:u<30)(z:u<10-> ∀i,i<198->x' (121+u*198+i)=0):Rp {m with here:=fb m.here u false,rd:=false} x':=by
 refine⟨fun v hv=>?_,fun v hv a t=>?_,fun q k hk=>?_,fun q=>by cases q⟩
 ·by_cases ev:v=u
  ·subst ev;show _↔fb m.here v false v=true;rw[tY];simp[e0]
  ·show _↔fb m.here u false v=true;rw[zs _ _ ev,e _ (by omega) (by omega) (by omega)];exact h.here v hv
 ·have a':fb m.here u false v=true:=a;by_cases ev:v=u
  ·subst ev;rw[tY]at a';cases a'
  ·rw[zs _ _ ev]at a';rw[e _ (by omega) (by omega) (by omega)];exact h.top v hv a' t
 ·by_cases ku:k=u
  ·subst ku;rw[z hk 195 (by omega)];omega
  ·rw[e _ (by omega) (by omega) (by omega)];exact h.nq q k hk
section
variable (b : Nat) (m : M) (w : bD)
theorem Bc (z:Int)(h:Fair w b m):Calls Tryz.prog 223 #[.pointer (some ⟨b,0,none⟩), .int .i64 z] w fun e w'=>(∃E,e= .returned (aq E))/\Fair w' b (zn m z)/\af b w w':=by
 have WT:=hZ (rG b m w z h);have H:=hZ h;by_cases e:nM m z=0
 ·have E:Hid (zn m z={m with here:=fb m.here (10+z.toNat) false,rd:=false}):=hZ (aJ e);rw[e,aa]at WT;obtain⟨n,rfl,hn,hh⟩:=yz e;rw[E.out,hU];obtain⟨x,d,s,i,r⟩:=h;have SI:=hZ (aK i r);have RO:=hZ (yL b d x w n false s i hn ((r.here _ (by omega)).2 hh));have hnI:(n:Int)<20:=by omega
  have h30:(10:Int)+(n:Int)<30:=by omega
  have h00:(0:Int)<=10+(n:Int):=by omega
  have hwr:IntKind.i64.wrap (10+(n:Int))=10+(n:Int):=aN _ ⟨by omega,by omega⟩;clear s i r e hh;go_in
  go_wp2_with fail
  refine bM WT.out ?_;go_wp2_with fail
  refine RO.out.mono ?_;rintro e w1 ⟨rfl,x1,s1,f1,i1,k1,p1⟩;have hu:10+n<30:=by omega
  have c0:=s1.bo _ (wB hu);have c1:=s1.i _ (qP hu);have c2:=s1.u _ (kS hu 2 (by omega));have c3:=s1.u _ (kS hu 3 (by omega));have c4:=s1.bo _ (tf hn);have c5:=s1.i _ (Fs hn);have cf:=s1.frozen;have S1:=hZ (aK s1 (aK f1 (aK i1 (aK k1 p1))));clear s1 f1 i1 k1 p1;go_wp2_with fail
  go_region
  generalize hW2:World.drew _=W2;have F2:Hid (Fair W2 b {m with here:=fb m.here (10+n) false,rd:=false}/\af b w W2):=hZ (by
   obtain⟨s1,f1,i1,k1,p1⟩:=S1.out;have a4:=tf hn;have a5:=Fs hn;have s2:=(((s1.four (10+n) hu false 0 0 0).set _ (bi false) (.bool false) a4.1 (by rw[a4.2];exact JC false)).set _ 0 (.int .i64 0) a5.1 (by rw[a5.2];rfl)).drew;rw[<-hW2];have r1:=SI.out.2.wk k1 false (fun q=>by cases q);have ee: ∀j,j<2101->j<1+(10+n)*4\/1+(10+n)*4+4<=j->j<121+(10+n)*198\/121+(10+n)*198+198<=j->up (up (up (up (up (up x1 (1+(10+n)*4) (bi false)) (1+(10+n)*4+1) 0) (1+(10+n)*4+2) 0) (1+(10+n)*4+3) 0) (2101+n*2) (bi false)) (2101+n*2+1) 0 j=x1 j:=fun j a1 a2 a3=>by rw[bu _ _ (by omega),bu _ _ (by omega),bu _ _ (by omega),bu _ _ (by omega),bu _ _ (by omega),bu _ _ (by omega)]
   have e0:up (up (up (up (up (up x1 (1+(10+n)*4) (bi false)) (1+(10+n)*4+1) 0) (1+(10+n)*4+2) 0) (1+(10+n)*4+3) 0) (2101+n*2) (bi false)) (2101+n*2+1) 0 (1+(10+n)*4)≠1:=by rw[bu _ _ (by omega),bu _ _ (by omega),bu _ _ (by omega),bu _ _ (by omega),bu _ _ (by omega),j8];decide
   refine⟨⟨_,d,s2,i1.drop hu (by omega) (fun k hk q=>?_) (fun v hv v0 hv1 q=>?_) ee e0 (fun q=>aZ q (by omega)),r1.gone ee e0 hu (fun q=>aZ q (by omega))⟩,((((((f1.setCell _ _).setCell _ _).setCell _ _).setCell _ _).setCell _ _).setCell _ _).drew⟩
   ·have:=(p1 k hk (by rw[<-k1 _ (by omega)];exact(i1.mem k _ hk (by omega) q).2.2.2)).1 q;cases this
   ·obtain⟨j,j1,j2,_⟩:=i1.par v hv v0 hv1;omega)
  clear hW2 c0 c1 c2 c3 c4 c5 cf;go_wp2
  go_ret
  exact⟨⟨0,rfl⟩,F2.out⟩
 ·have E:Hid (zn m z=m):=hZ (aI e);have EV:=hZ (aj e);rw[aj e]at WT;rw[E.out];clear h e;go_in
  go_wp2_with fail
  refine bM WT.out ?_;go_wp2
  go_ret
  exact⟨⟨nM m z,by rw[EV.out];rfl⟩,H.out,af.refl b w⟩
theorem Bs (z:Int)(on:Bool)(h:Fair w b m):Calls Tryz.prog 118 #[.pointer (some ⟨b,0,none⟩), .int .i64 z, .bool on] w fun e w'=>(∃E,e= .returned (aq E))/\Fair w' b (tn m z on)/\af b w w':=by
 have WT:=hZ (rG b m w z h);obtain⟨x,d,s,i,r⟩:=h;have SI:=hZ (aK s (aK i r));by_cases e:nM m z=0
 ·have e':=hZ e;rw[e,aa]at WT;obtain⟨n,rfl,hn,hh⟩:=yz e;have HH:=hZ hh;have RO:=hZ (yL b d x w n on s i hn ((r.here _ (by omega)).2 hh));clear s i r e hh;go_in
  go_wp2_with fail
  refine bM WT.out ?_;go_wp2_with fail
  refine RO.out.mono ?_;rintro e w1 ⟨rfl,x1,s1,f1,i1,k1,p1⟩;have FIN:Hid (Fair w1 b (tn m n on)/\af b w w1):=hZ ⟨⟨x1,d,s1,i1,SI.out.2.2.wk k1 _ (fun q=>by
   simp only[Bool.and_eq_true]at q;have t:=SI.out.2.2.top (10+n) (by omega) HH.out q.2.2;exact(i1.q 0 (by omega)).pos (j:=10+n) (by omega) ((p1 0 (by omega) t).2 q.1))⟩,f1⟩
  clear s1 f1 i1 k1 p1;go_wp2
  go_ret
  exact⟨⟨0,rfl⟩,FIN.out⟩
 ·have EV:=hZ (aK (aj e) e);rw[aj e]at WT;clear s i r e;go_in
  go_wp2_with fail
  refine bM WT.out ?_;go_wp2
  go_ret
  exact⟨⟨nM m z,by rw[EV.out.1];rfl⟩,⟨x,d,SI.out.1,SI.out.2.1,SI.out.2.2.wk (Wk.refl x) _ (fun q=>by simp[EV.out.2]at q)⟩,af.refl b w⟩
theorem JV (h:Fair w b m):Calls Tryz.prog 95 #[.pointer (some ⟨b,0,none⟩)] w fun e w'=> ∃r m',e= .returned (.int .i64 r)/\Ap m r m'/\Fair w' b m'/\af b w w':=by
 obtain⟨x,d,s,i,r⟩:=h;refine(NV b d x w s i).mono ?_;rintro e w' ⟨z,rfl,hz,x',s',f',i',k'⟩;refine⟨z,_,rfl,⟨rfl,?_⟩,⟨x',d,s',i',r.wk k' false (fun q=>by cases q)⟩,f'⟩;rcases hz with⟨rfl,q⟩|⟨n,rfl,hn,hh⟩
 ·exact .inl ⟨rfl,fun a=>q (r.nq a.1) (r.rd a.2)⟩
 ·exact .inr ⟨n,rfl,hn,(r.here _ (by omega)).1 hh⟩
def m0:M:=⟨fun u=>decide (u=0),fun _=>false,true,false⟩
def zA:Array Value:=((List.range 2141).map fun i=>V (K i) 0).toArray
theorem wP (i:Nat)(h:i<2141):zA[i]? =some (V (K i) 0):=by simp[zA,h]
theorem zero_eq:Tryz.zeroCells173=zA:=by kernel_rfl
theorem qa:Calls Tryz.prog 85 #[] w fun e w'=>e= .returned (.pointer (some ⟨w.heap.size,0,none⟩))/\Fair w' w.heap.size m0/\Below w.heap.size w w'/\w.heap.size<w'.heap.size:=by
 have Z:(w.alloc (.cells Tryz.zeroCells173 173)).heap[w.heap.size]? =some (.cells zA 173 (0,0)):=by
  rw[zero_eq];exact heap_alloc_new w _
 have Z2:(w.alloc (.cells ((((Tryz.zeroCells173.setIfInBounds 1 (Value.bool true)).setIfInBounds 2 (Value.int IntKind.i64 (-1))).setIfInBounds 3 (Value.int IntKind.u64 0)).setIfInBounds 4 (Value.int IntKind.u64 0)) 173)).heap[w.heap.size]? =some (.cells ((((zA.setIfInBounds 1 (Value.bool true)).setIfInBounds 2 (Value.int IntKind.i64 (-1))).setIfInBounds 3 (Value.int IntKind.u64 0)).setIfInBounds 4 (Value.int IntKind.u64 0)) 173 (0,0)):=by
  rw[zero_eq];exact heap_alloc_new w _
 have FIN:Hid (Fair (w.alloc (.cells ((((Tryz.zeroCells173.setIfInBounds 1 (Value.bool true)).setIfInBounds 2 (Value.int IntKind.i64 (-1))).setIfInBounds 3 (Value.int IntKind.u64 0)).setIfInBounds 4 (Value.int IntKind.u64 0)) 173)) w.heap.size m0):=hZ (by
  have h0:SA (w.alloc (.cells Tryz.zeroCells173 173)) w.heap.size (fun _=>0):=⟨⟨_,Z,by simp[zA]⟩,fun i hi=>by rw[au Z,wP i hi]⟩;have h:=h0.four 0 (by omega) true (-1) 0 0;have e: ∀i,i=0\/5<=i->up (up (up (up (fun _=>0) (1+0*4) (bi true)) (1+0*4+1) (-1)) (1+0*4+2) 0) (1+0*4+3) 0 i=0:=fun i hi=>by rw[bu _ _ (by omega),bu _ _ (by omega),bu _ _ (by omega),bu _ _ (by omega)]
  have e1:up (up (up (up (fun _=>0) (1+0*4) (bi true)) (1+0*4+1) (-1)) (1+0*4+2) 0) (1+0*4+3) 0 1=1:=rfl;refine Fair.same (w:=((((w.alloc (.cells Tryz.zeroCells173 173)).setCell ⟨w.heap.size,1+0*4,none⟩ (.bool true)).setCell ⟨w.heap.size,1+0*4+1,none⟩ (.int .i64 (-1))).setCell ⟨w.heap.size,1+0*4+2,none⟩ (.int .u64 0)).setCell ⟨w.heap.size,1+0*4+3,none⟩ (.int .u64 0)) ⟨_,fun _=>0,h,⟨fun g hg=>?_,e1,fun u hu u0 p=>?_,fun g j hg hj p=>?_,fun g u hg hu _ p=>?_,fun g hg p=>?_⟩,⟨fun u hu=>?_,fun u hu a t=>(by cases t),fun _ g hg=>?_,fun q=>(by cases q)⟩⟩ ?_
  ·exact⟨0,fun _=>0,fun _=>0,⟨e _ (by omega),fun i hi=>e _ (by omega),fun i hi=>e _ (by omega)⟩,by omega,fun i hi=>aZ hi (by omega),fun j hj=>⟨by omega,fun q=>aZ q (by omega)⟩⟩
  ·rw[e _ (by omega)]at p;omega
  ·rw[e _ (by omega)]at p;omega
  ·rw[e _ (by omega)]at p;omega
  ·rw[e _ (by omega)]at p;omega
  ·show _↔decide (u=0)=true;by_cases u0:u=0
   ·subst u0;simp[e1]
   ·rw[e _ (by omega)];simp[u0]
  ·rw[e _ (by omega)];omega
  ·rw[Z2,bC (bC (bC (bC Z 1 _) 2 _) 3 _) 4 _])
 clear Z Z2;go_in
 go_wp2
 go_ret
 exact⟨rfl,FIN.out,(aQ _ _).alloc (aL _) _,by simp⟩
end
end Wf

import Derived.Test.YtpmmdkcfenjiaaaGreatDoorUax
set_option maxRecDepth 100000
set_option maxHeartbeats 4000000
set_option linter.unusedVariables false
set_option linter.unusedSimpArgs false
namespace Go.Proofs.YtpmmdkcfenjiaaaGreatDoor
open Value renaming int->aa,pointer->ai,slice->aj,tuple->ao,bool->ar,agg->au
open IntKind renaming i64->az
open Ending renaming returned->bf
open Obj renaming cells->bg
open Option renaming some->bh,none->bj
open Tryz (prog)
open Go.RowKit
open Tr (Fo Nd)
open Mo (Wh Mt)
open Mv (Me Bk)
open Kn (Pr Kp St us KB KJ VI EI)
def T9:Value->Nat
 |aj _ n _=>n
 |_=>0
def FV(UE N:Nat)(d:Nat->Nat)(r:Nat):Prop:=∀(X:Nat->Prop) (s:St) (w:bD) (n z:Nat),bH w UE s->VI X N d s.k->n<20->n≠0->¬X n->s.k.sp.of n=z+1->(Kn.hd s.k n=n->6<=d z+r/\∀m,m<20->X m->¬Sp.mem s.k.sp z m)->1<=r->
 Calls prog 73 #[ai (bh ⟨s.A 0,0,bj⟩),aa az n] w λe w'=>∃k',e=bf (ao #[])/\Kn.jk r s.k n k'/\bH w' UE {s with k:=k'}/\KF s w {s with k:=k'} w'
theorem Kn.EI.QO{X:Nat->Prop}{N:Nat}{d:Nat->Nat}{k:Kp}{n z m y:Nat}(h:EI X N d n z k)(m20:m<20)(mn:m≠n)(mz:Sp.mem k.sp z m)(hy:k.sp.of m=y+1)(c:Kn.hd k m=m):d z<d y:=by
 obtain⟨_,y6,yh⟩:=h.vi.iv.cO m20 hy;have a:=(h.vi.iv.mem_of h.z6.1 m20 mz).2;rw[hy,show y+1-1=y by omega]at a;refine h.vi.iv.tree.lower y6 yh a (λe=>?_);have:=(Kn.iK h.vi.iv h.vi.hs m20 hy).1 c;rw[<-e,h.hw]at this;omega
section
variable (UE N:Nat)(d:Nat->Nat)(r:Nat)(X:Nat->Prop)(s:St)(w:bD)(n z:Nat)
theorem xP(hV:FV UE N d r)(hr:1<=r)(hz:5<=d z+r)(h:bH w UE s)(he:EI X N d n z s.k):
  Calls prog 149 #[ai (bh ⟨s.A 0,0,bj⟩),aa az n] w λe w'=>∃k' j,e=bf (ao #[])/\Kn.jP (Kn.jk r) (z:Int) j s.k k'/\bH w' UE {s with k:=k'}/\KF s w {s with k:=k'} w':=by
 have SP:=hJ (fL UE s w (n:Int) h);have zi:Sp.dc s.k.sp (n:Int)=z:=Sp.gM he.hn he.ho;rw[zi]at SP;have MM:=hJ (mR UE s w (z:Int) h);obtain⟨kb,hkb⟩:=hU (s.A 0);have HK:=hJ hkb;have H:=hJ (aK h he);have HV:=hJ (aK hV (aK hr hz));rw[hkb]at SP MM|-;clear h he hV hr hz zi;go_in
 go_wp2_with fail
 refine SP.mono ?_;rintro e w1 ⟨rfl,hw⟩;subst w1;go_wp2_with fail
 refine MM.mono ?_;rintro e w1 ⟨v1,rfl,hL⟩;have S1:Hid (EI X N d n z s.k/\bH w1 UE {s with k:=s.k}/\KF s w {s with k:=s.k} w1/\LO w (dL s.k.sp (z:Int)) v1 w1/\∀k' j,Kn.jP (Kn.jk r) (z:Int) j s.k k'->∃j',Kn.jP (Kn.jk r) (z:Int) j' s.k k'):=hJ ⟨H.2,H.1.below hL.cM,KF.below hL.cM,hL,λk' j q=>⟨j,q⟩⟩;clear hL SP MM;go_wp2_with fail
 go_loopw [5] (λv wr=>∃(k:Kp) (w0:bD),Hid (EI X N d n z k/\bH wr UE {s with k:=k}/\KF s w {s with k:=k} wr/\LO w0 (dL k.sp (z:Int)) v wr/\∀k' j,Kn.jP (Kn.jk r) (z:Int) j k k'->∃j',Kn.jP (Kn.jk r) (z:Int) j' s.k k')) (λv _=>T9 v)
 case atStart=>exact⟨s.k,w,S1⟩
 case round=>
  clear S1;obtain⟨k,w0,S⟩:=hrel;by_cases hl:1<(dL k.sp (z:Int)).length
  .obtain⟨gg,cap,hv,hg,hc⟩:=S.2.2.2.1.cells bu;have HVV:=hJ hv;obtain⟨m,hm⟩:∃m,(dL k.sp (z:Int))[1]? =bh m:=⟨_,aW hl⟩;have c1:=hc 1 hl;have cm:wr.cell? ⟨gg,1,bj⟩=bh (aa az (m:Int)):=by
    rw[show 0+1=1 from rfl]at c1;rw[c1];simp[aF,hm]
   obtain⟨m20,m0,mn,mx,mz,y,hy,hx⟩:=S.1.next hm;have DD:Hid (Kn.hd k m=m->6<=d y+r/\∀x,x<20->X x->¬Sp.mem k.sp y x):=hJ (λc=>⟨by have:=S.1.QO m20 mn mz hy c;have:=HV.2.2;omega,hx c⟩);have VC:=hJ (HV.1 X {s with k:=k} wr m y S.2.1 S.1.vi m20 m0 mx hy DD.v HV.2.1);rw[show({s with k:=k}:St).A 0=kb from HK.v]at VC;have HM:=hJ (aK hm (aK m20 mz));obtain⟨LL,hLL⟩:=hU ((dL k.sp (z:Int)).length);have HLL:=hJ hLL;rw[hLL]at hv hl;subst hv;have hlI:(1:Int)<(LL:Int):=bu
   clear hc c1 hm hy hx mx mz hLL hg m0 mn;go_wp2_with fail
   refine VC.mono ?_;rintro e w2 ⟨k1,rfl,hvan,ka,kf⟩;have ST:=hJ (S.1.step HM.1 (Kn.rQ r) hvan);have S2:Hid (bH w2 UE {s with k:=k1}/\KF s w {s with k:=k1} w2/\Kn.jk r k m k1):=hJ ⟨ka,S.2.2.1.trans kf,hvan⟩;clear ka kf hvan cm;have MM:=hJ (mR UE {s with k:=k1} w2 (z:Int) S2.1);rw[show({s with k:=k1}:St).A 0=kb from HK.v]at MM;go_wp2_with fail
   refine MM.mono ?_;rintro e w3 ⟨v3,rfl,hL3⟩;have S3:Hid (EI X N d n z k1/\bH w3 UE {s with k:=k1}/\KF s w {s with k:=k1} w3/\LO w2 (dL k1.sp (z:Int)) v3 w3/\∀k' j,Kn.jP (Kn.jk r) (z:Int) j k1 k'->∃j',Kn.jP (Kn.jk r) (z:Int) j' s.k k'):=hJ ⟨ST.1,S2.1.below hL3.cM,S2.2.1.trans (KF.below hL3.cM),hL3,λk' j q=>S.2.2.2.2 k' (j+1) ⟨m,k1,HM.1,S2.2.2,q⟩⟩;obtain⟨a3,c3,hv3⟩:=fG hL3.own;have FW:Hid ((dL k1.sp (z:Int)).length<LL):=hJ (by rw[<-HLL.v];exact S.1.Sk ST.1 ST.2.1 HM.2.1 HM.2.2 ST.2.2.2);obtain⟨L3,hL3e⟩:=hU ((dL k1.sp (z:Int)).length);rw[hL3e]at hv3 FW;subst hv3;clear hL3 hL3e;go_wp2
   go_roundw
   case rel=>exact⟨k1,w2,S3⟩
   case measure=>exact FW.v
  .obtain⟨a3,c3,hv3⟩:=fG S.2.2.2.1.own;have FIN:Hid (∃j,Kn.jP (Kn.jk r) (z:Int) j s.k k):=hJ (S.2.2.2.2 k 0 ⟨rfl,bu⟩);obtain⟨LL,hLL⟩:=hU ((dL k.sp (z:Int)).length);rw[hLL]at hv3 hl;have hlI:¬(1:Int)<(LL:Int):=bu
   have S2:Hid (bH wr UE {s with k:=k}/\KF s w {s with k:=k} wr):=hJ ⟨S.2.1,S.2.2.1⟩;clear S hLL;subst hv3;go_wp2_with fail
   go_end0
   obtain⟨j,hj⟩:=FIN.v;exact⟨rfl,k,⟨j,hj⟩,S2.v⟩
end
namespace Kn
theorem VI.Uo{X:Nat->Prop}{N:Nat}{d:Nat->Nat}{k k1 k2:Kp}{n z r:Nat}(h:VI X N d k)(hn:n<20)(n0:n≠0)(hX:¬X n)(ho:k.sp.of n=z+1)(hx:hd k n=n->∀m,m<20->X m->¬Sp.mem k.sp z m)(h1:lv k n=true->gZ k n k1)(h2:lv k n=false->k1=k)
  (h3:hd k n≠n->k2=k1) (h4:hd k n=n->∃j,jP (jk r) (z:Int) j k1 k2):VI (λm=>X m\/m=n) N d k2/\(k2.p n).has=false/\k2.sp.of n=z+1:=by
 obtain⟨a,sp,tb,hh,s0,fT⟩:=h.first hn hX ho h1 h2;by_cases c:hd k n=n
 .obtain⟨j,ri⟩:=h4 c;have ei:EI (λm=>X m\/m=n) N d n z k1:=⟨a,hn,n0, .inr rfl,by rw[sp];exact ho,by rw[sp];exact(iK h.iv h.hs hn ho).1 c,λm m20 xm mn mz=>by
   rw[sp]at mz;exact hx c m m20 (xm.elim id (λq=>aZ q mn)) mz⟩
  obtain⟨b,g,e,l⟩:=EI.iter (rQ r) j k1 ei ri;exact⟨b.vi,by rw[e];exact hh,b.ho⟩
 .have:=h3 c;subst this;exact⟨a,hh,by rw[sp];exact ho⟩
theorem VI.ei{X:Nat->Prop}{N:Nat}{d:Nat->Nat}{k k1:Kp}{n z:Nat}(h:VI X N d k)(hn:n<20)(n0:n≠0)(hX:¬X n)(ho:k.sp.of n=z+1)(c:hd k n=n)(hx:∀m,m<20->X m->¬Sp.mem k.sp z m)(h1:lv k n=true->gZ k n k1)(h2:lv k n=false->k1=k):EI (λm=>X m\/m=n) N d n z k1:=by
 obtain⟨a,sp,tb,hh,s0,fT⟩:=h.first hn hX ho h1 h2;exact⟨a,hn,n0, .inr rfl,by rw[sp];exact ho,by rw[sp];exact(iK h.iv h.hs hn ho).1 c,λm m20 xm mn mz=>by
  rw[sp]at mz;exact hx m m20 (xm.elim id (λq=>aZ q mn)) mz⟩
end Kn
section
variable {ops:Array Oper}{rest:List Oper}{x:Oper}{a:Act}{w:bD}{Q:Exit->Act->bD->Prop}
theorem Af(a b:Nat):prog.built 74 []=bh (dK a b Pr.no):=by rw[xV];kernel_rfl
theorem yD(hgd:x.guard=bj)(ho:x.op= .build 74 #[])(h:wpList prog ops Q rest (a.put x.dst (au (dK 0 0 Pr.no))) w):wpList prog ops Q (x::rest) a w:=
 wpList_build hgd 74 #[] ho (by simp[Af 0 0]) (by simpa[Af 0 0]using h)
end
theorem Cc(UE N:Nat)(d:Nat->Nat)(r:Nat)(hN:N<=900)(hV:1<=r->FV UE N d r):FV UE N d (r+1):=by
 intro X s w n z h hv hn n0 hX ho hx hr;have hnI:(n:Int)<20:=bu
 obtain⟨_,z6,zh⟩:=hv.iv.cO hn ho;have z6I:(z:Int)<6:=bu
 obtain⟨tl,htl⟩:=hU (Kn.lv s.k n);obtain⟨th,hth⟩:=hU (decide (Kn.hd s.k n=n));have SP:=hJ (fL UE s w (n:Int) h);rw[Sp.gM hn ho]at SP;have IH:=hJ (lP UE s w n h th hth);have LV:=hJ (iS UE s w n h hn tl htl);have KS:=hJ (λ(c:Kn.lv s.k n=true)=>xS UE s w X N n h hv.kj hN hn (hv.kj.lv n hn hX (by unfold Kn.lv at c;simpa using c)));have HT:Hid ((Kn.lv s.k n=true->tl=true)/\(Kn.lv s.k n=false->tl=false)/\(tl=true->Kn.lv s.k n=true)/\(th=true->Kn.hd s.k n=n)/\(th=false->Kn.hd s.k n≠n)):=hJ ⟨λc=>by rw[<-htl];exact c,λc=>by rw[<-htl];exact c,λc=>by rw[htl];exact c,λc=>by rw[<-hth]at c;exact of_decide_eq_true c,λc=>by rw[<-hth]at c;exact of_decide_eq_false c⟩;obtain⟨kb,hkb⟩:=hU (s.A 0);have HK:=hJ hkb;have H:=hJ (aK h (aK hv (aK hX (aK ho hx))));have HV:=hJ (aK hV (aK hN zh));rw[hkb]at SP IH LV KS|-;go_in
 go_wp2_with fail
 refine sC SP.v ?_;rintro w1 hw;subst w1;go_wp2_with fail
 refine sC IH.v ?_;rintro w1 hw;subst w1;go_wp2_with fail
 refine sC LV.v ?_;rintro w1 hw;subst w1;go_upto_if 14 with fail
 go_cut [15]from 16 to 17 (λ_ wx=>∃k1,Hid (bH wx UE {s with k:=k1}/\KF s w {s with k:=k1} wx/\(Kn.lv s.k n=true->Kn.gZ s.k n k1)/\(Kn.lv s.k n=false->k1=s.k)))
 case first=>
  cases tl
  .go_wp2
   go_meet
   case rel=>exact⟨s.k,hJ ⟨H.1,KF.refl _ _,λc=>aZ (HT.1 c) bA,λ_=>rfl⟩⟩
  .go_wp2_with fail
   refine(KS.v (HT.2.2.1 (by first|rfl|trivial))).mono ?_;rintro e w2 ⟨k1,rfl,st,ka,kf⟩;have S2:Hid (bH w2 UE {s with k:=k1}/\KF s w {s with k:=k1} w2/\(Kn.lv s.k n=true->Kn.gZ s.k n k1)/\(Kn.lv s.k n=false->k1=s.k)):=hJ ⟨ka,kf,λ_=>st,λc=>aZ (HT.2.1 c) bA⟩;go_wp2
   go_meet
   case rel=>exact⟨k1,S2⟩
 obtain⟨k1,S1⟩:=hcut;go_upto_if 18 with fail
 go_cut [19]from 20 to 21 (λ_ wx=>∃k2,Hid (bH wx UE {s with k:=k2}/\KF s w {s with k:=k2} wx/\(Kn.hd s.k n≠n->k2=k1)/\(Kn.hd s.k n=n->∃j,Kn.jP (Kn.jk r) (z:Int) j k1 k2)))
 case first=>
  cases th
  .go_wp2
   go_meet
   case rel=>exact⟨k1,hJ ⟨S1.1,S1.2.1,λ_=>rfl,λc=>aZ c (HT.2.2.2.2 (by first|rfl|trivial))⟩⟩
  .have hd1:=HT.2.2.2.1 (by first|rfl|trivial);have HD:=hJ hd1;have DZ:Hid (1<=r/\5<=d z+r):=hJ (by
    have a:=(H.2.2.2.2 hd1).1;have b:=(H.2.1.iv.tree.le z z6 HV.2.2).2;omega)
   have EE:=hJ (H.2.1.ei hn n0 H.2.2.1 H.2.2.2.1 hd1 (H.2.2.2.2 hd1).2 S1.2.2.1 S1.2.2.2);have EM:=hJ (xP UE N d r _ {s with k:=k1} wc n z (HV.1 DZ.1) DZ.1 DZ.2 S1.1 EE.v);rw[show({s with k:=k1}:St).A 0=kb from HK.v]at EM;go_wp2_with fail
   refine EM.mono ?_;rintro e w2 ⟨k2,j,rfl,it,ka,kf⟩;have S2:Hid (bH w2 UE {s with k:=k2}/\KF s w {s with k:=k2} w2/\(Kn.hd s.k n≠n->k2=k1)/\(Kn.hd s.k n=n->∃j,Kn.jP (Kn.jk r) (z:Int) j k1 k2)):=hJ ⟨ka,S1.2.1.trans kf,λc=>aZ HD.v c,λ_=>⟨j,it⟩⟩;go_wp2
   go_meet
   case rel=>exact⟨k2,S2⟩
 obtain⟨k2,S2⟩:=hcut;have MD:=hJ (H.2.1.Uo hn n0 H.2.2.1 H.2.2.2.1 (λc=>(H.2.2.2.2 c).2) S1.2.2.1 S1.2.2.2 S2.2.2.1 S2.2.2.2);have RES:Hid ((Kn.hd s.k n≠n->Kn.jk (r+1) s.k n (Kn.eC k2 n))/\(Kn.hd s.k n=n->Kn.jk (r+1) s.k n (Kn.lK (Kn.eC k2 n) z))):=hJ ⟨λc=>⟨k1,S1.2.2.1,S1.2.2.2, .inl ⟨c,by rw[S2.2.2.1 c]⟩⟩,λc=>⟨k1,S1.2.2.1,S1.2.2.2, .inr ⟨c,k2,by
  rw[Sp.gM hn H.2.2.2.1];obtain⟨j,it⟩:=S2.2.2.2 c;exact⟨j,it,rfl⟩⟩⟩⟩
 have S3:Hid (bH wc UE {s with k:=k2}/\KF s w {s with k:=k2} wc):=hJ ⟨S2.1,S2.2.1⟩;go_upto_region 5 with fail
 obtain⟨g2,hg2⟩:=hU (s.A 2);have HG:=hJ hg2;obtain⟨gz,hgz⟩:=hU ((k2.p n).cN);have HGZ:=hJ hgz;have KC:Hid (∀W k,bH W UE {s with k:=k}->(k.p n).cN=gz->W.cell? ⟨kb,247,bj⟩=bh (ai (bh ⟨g2,0,bj⟩))/\W.cell? ⟨kb,n*12+2,bj⟩=bh (aa az gz)):=hJ (λW k hW e=>by
  have a:=hW.oS;have b:=hW.pF n hn;rw[show({s with k:=k}:St).A 0=kb from HK.v]at a b;rw[show({s with k:=k}:St).A 2=g2 from HG.v]at a;have b2:W.cell? ⟨kb,n*12+2,bj⟩=bh (aa az (k.p n).cN):=b;rw[e]at b2;exact⟨a,b2⟩)
 have K0:=hJ (KC.v wc k2 S3.1 hgz);have UC:=hJ (Gr.ir (s.A 2) (k2.p n).cN 1 0 k2.gr wc.drew S3.1.drew.gr (by obtain⟨Wy,g⟩:=MD.1.kj.gr;exact g.small (by have:=HV.2.1;omega)));rw[hg2,hgz]at UC;obtain⟨y1,y2⟩:=K0.v;go_region_held3 (λw'=>w'.cell? ⟨kb,247,bj⟩=bh (ai (bh ⟨g2,0,bj⟩))/\w'.cell? ⟨kb,n*12+2,bj⟩=bh (aa az gz)) (first|exact K0.v|exact K4.v) (
  (go_at_call 67;refine sC UC.v ?_;rintro w4 ⟨t4,f4⟩;have S4:Hid (bH w4 UE {s with k:={k2 with gr:=Gr.eU k2.gr (k2.p n).cN 1 0}}/\KF s w {s with k:={k2 with gr:=Gr.eU k2.gr (k2.p n).cN 1 0}} w4):=hJ (by
    rw[<-HG.v]at t4 f4;rw[<-HGZ.v]at t4;have q:=S3.1.drew.jF t4 f4.rM;exact⟨q.1,S3.2.trans ((KF.drew _ _).trans q.2)⟩);have K4:=hJ (KC.v w4 _ S4.1 HGZ.v)))
 generalize Gr.bG (Gr.gR k2.gr gz 1 0)=ev;have c6:=S4.1.xE;rw[show({s with k:={k2 with gr:=Gr.eU k2.gr (k2.p n).cN 1 0}}:St).A 0=kb from HK.v]at c6;obtain⟨p1,hp1⟩:=hU (s.A 1);have HP:=hJ hp1;have LE:=hJ (Jz (s.A 1) (n:Int) k2.sp d w4 S4.1.sp MD.1.iv);rw[show({s with k:={k2 with gr:=Gr.eU k2.gr (k2.p n).cN 1 0}}:St).A 1=p1 from hp1]at c6;rw[hp1]at LE;go_wp2_with fail
 refine sC LE.v ?_;rintro w5 ⟨t5,f5⟩;generalize bG (Sp.lA k2.sp (n:Int))=ev2;have S5:Hid (bH w5 UE {s with k:={k2 with gr:=Gr.eU k2.gr (k2.p n).cN 1 0,sp:=Sp.dC k2.sp (n:Int)}}/\KF s w {s with k:={k2 with gr:=Gr.eU k2.gr (k2.p n).cN 1 0,sp:=Sp.dC k2.sp (n:Int)}} w5):=hJ (by
  rw[<-HP.v]at t5 f5;have q:=S4.1.x9 t5 f5;exact⟨q.1,S4.2.trans q.2⟩)
 have TH:Hid (w5.there kb (n*12) (dK 0 0 Pr.no).size):=hJ (by rw[dy,<-HK.v];exact S5.1.there hn);have SZ:Hid ((prog.info? 74).map (·.size)=bh (dK 0 0 Pr.no).size):=hJ (by rw[dy];kernel_rfl);have S6:Hid (bH (w5.setCells kb (n*12) (dK 0 0 Pr.no).toList) UE {s with k:=Kn.eC k2 n}/\KF s w {s with k:=Kn.eC k2 n} (w5.setCells kb (n*12) (dK 0 0 Pr.no).toList)):=hJ (by
  have q:=S5.1.whole hn (x:=Pr.no) MD.2.1 rfl 0 0;rw[show({s with k:={k2 with gr:=Gr.eU k2.gr (k2.p n).cN 1 0,sp:=Sp.dC k2.sp (n:Int)}}:St).A 0=kb from HK.v]at q;exact⟨q.1,S5.2.trans q.2⟩)
 obtain⟨PA,hPA⟩:=hU (dK 0 0 Pr.no);have H1:Hid (PA.all (·.oneCell')=true):=hJ (by rw[<-hPA];exact pA 0 0 Pr.no);rw[hPA]at TH SZ S6;cases th
 .have FIN:=hJ (RES.1 (HT.2.2.2.2 (by first|rfl|trivial)));go_wp2_with (first|(refine yD rfl rfl ?_;rw[hPA])|(refine wpList_store_mid rfl 74 _ _ rfl kb (n*12) PA rfl rfl TH.v SZ.v H1.v ?_))
  go_end0
  exact⟨_,rfl,FIN.v,S6.v⟩
 .have FIN:=hJ (RES.2 (HT.2.2.2.1 (by first|rfl|trivial)));go_upto_region 9 with(first|(refine yD rfl rfl ?_;rw[hPA])|(refine wpList_store_mid rfl 74 _ _ rfl kb (n*12) PA rfl rfl TH.v SZ.v H1.v ?_))
  generalize w5.setCells kb (n*12) PA.toList=w6 at*;have HH:Hid (k2.ht z=true):=hJ (by
   obtain⟨_,_,b⟩:=MD.1.iv.cO hn MD.2.2;rw[MD.1.kj.ht z z6];exact b)
  have c6:=S6.1.xE;rw[show({s with k:=Kn.eC k2 n}:St).A 0=kb from HK.v,show({s with k:=Kn.eC k2 n}:St).A 1=p1 from HP.v]at c6;have DR:=hJ (Lr (s.A 1) (z:Int) (Kn.eC k2 n).sp w6 S6.1.sp);rw[HP.v]at DR;go_wp2_with fail
  refine sC DR.v ?_;rintro w7 ⟨t7,f7⟩;generalize bG (Sp.iJ (Kn.eC k2 n).sp (z:Int))=ev3;have S7:Hid (bH w7 UE {s with k:={Kn.eC k2 n with sp:=Sp.gB (Kn.eC k2 n).sp (z:Int)}}/\KF s w {s with k:={Kn.eC k2 n with sp:=Sp.gB (Kn.eC k2 n).sp (z:Int)}} w7):=hJ (by
   rw[<-HP.v]at t7 f7;have q:=S6.1.x9 t7 f7;exact⟨q.1,S6.2.trans q.2⟩)
  have ct:=S7.1.Ld z z6 HH.v;rw[show({s with k:={Kn.eC k2 n with sp:=Sp.gB (Kn.eC k2 n).sp (z:Int)}}:St).A 0=kb from HK.v]at ct;obtain⟨tbk,htbk⟩:=hU (s.A (49+z));have HTB:=hJ htbk;rw[show({s with k:={Kn.eC k2 n with sp:=Sp.gB (Kn.eC k2 n).sp (z:Int)}}:St).A (49+z)=tbk from htbk]at ct;have CL:=hJ (IJ UE (s.A (49+z)) (s.A 6) 102 (k2.tb z) (s.V z) k2.fo w7 (S7.1.tb z z6 HH.v) S7.1.fo MD.1.kj.hb bA);rw[htbk]at CL;go_wp2_with fail
  refine sC CL.v ?_;rintro w8 ⟨u8,f8⟩;have S8:Hid (bH (w8.setCell ⟨kb,240+z,bj⟩ (ai bj)) UE {s with k:=Kn.lK (Kn.eC k2 n) z}/\KF s w {s with k:=Kn.lK (Kn.eC k2 n) z} (w8.setCell ⟨kb,240+z,bj⟩ (ai bj))):=hJ (by
   rw[<-HTB.v]at f8;have q:=S7.1.SV z6 HH.v u8 f8;rw[show({s with k:={Kn.eC k2 n with sp:=Sp.gB (Kn.eC k2 n).sp (z:Int)}}:St).A 0=kb from HK.v]at q;exact⟨q.1,S7.2.trans q.2⟩)
  have hb8:w8.heap[kb]? =w7.heap[kb]? :=by
   refine f8.block kb ?_ ?_
   .rw[<-HK.v];exact S7.1.lt bS
   .rintro(c|c)
    .rw[<-HK.v,<-HTB.v]at c;exact S7.1.ne bS (Kn.jL z6 HH.v) bu c
    .rw[<-HK.v]at c;exact S7.1.ne bS bS bu c
  have ct8:w8.cell? ⟨kb,240+z,bj⟩=bh (ai (bh ⟨tbk,0,bj⟩)):=by
   rw[<-ct];exact aV hb8
  have fz:∀o,(w8).frozen? ⟨kb,o,bj⟩=false:=λo=>by
   have q:=S7.1.frozen o;rw[show({s with k:={Kn.eC k2 n with sp:=Sp.gB (Kn.eC k2 n).sp (z:Int)}}:St).A 0=kb from HK.v]at q;rw[<-q];exact World.frozen?_of_block hb8
  go_wp2_with fail
  go_end0
  exact⟨_,rfl,FIN.v,S8.v⟩
theorem pS(UE N:Nat)(d:Nat->Nat)(hN:N<=900):∀r,FV UE N d r
 |0=>λ_ _ _ _ _ _ _ _ _ _ _ _ h=>aZ h bu
 |r+1=>Cc UE N d r hN (λ_=>pS UE N d hN r)
theorem DS(UE N:Nat)(d:Nat->Nat)(hN:N<=900)(X:Nat->Prop)(s:St)(w:bD)(n z:Nat)(h:bH w UE s)(hv:VI X N d s.k)(hn:n<20)(n0:n≠0)(hX:¬X n)(ho:s.k.sp.of n=z+1)(hx:Kn.hd s.k n=n->∀m,m<20->X m->¬Sp.mem s.k.sp z m):
  Calls prog 73 #[ai (bh ⟨s.A 0,0,bj⟩),aa az n] w λe w'=>∃k',e=bf (ao #[])/\Kn.jk 6 s.k n k'/\bH w' UE {s with k:=k'}/\KF s w {s with k:=k'} w':=
 pS UE N d hN 6 X s w n z h hv hn n0 hX ho (λc=>⟨by omega,hx c⟩) bu
theorem Kn.sG(t:Sp.T)(z:Int):(dL t z).length<=21:=by
 unfold dL;split
 .unfold Sp.dX;rw[List.length_map];exact aH (bW _ _) (by simp)
 .simp
def Kn.iQ(k:Kp)(n:Int)(L:List Nat):List Nat:=L.filter (λm=>decide ((k.p m).par=n))
theorem Kn.O0{k:Kp}{n:Int}{L:List Nat}{i m:Nat}(h:L[i]? =bh m)(e:(k.p m).par=n):Kn.iQ k n (L.take (i+1))=Kn.iQ k n (L.take i)++[m]:=by
 unfold Kn.iQ;rw[List.take_add_one,List.filter_append,h];simp[e]
theorem Kn.QM{k:Kp}{n:Int}{L:List Nat}{i m:Nat}(h:L[i]? =bh m)(e:(k.p m).par≠n):Kn.iQ k n (L.take (i+1))=Kn.iQ k n (L.take i):=by
 unfold Kn.iQ;rw[List.take_add_one,List.filter_append,h];simp[e]
theorem Kn.yS(k:Kp)(n:Int)(L:List Nat):(Kn.iQ k n L).length<=L.length:=bW _ _
def Kn.iR(k:Kp)(n:Nat):List Nat:=Kn.iQ k (n:Int) (dL k.sp ((Sp.dc k.sp (n:Int):Nat):Int))
section
variable (UE:Nat)(s:St)(w:bD)
theorem s9(n:Nat)(h:bH w UE s)(hM:∀x∈dL s.k.sp ((Sp.dc s.k.sp (n:Int):Nat):Int),x<20):
  Calls prog 72 #[ai (bh ⟨s.A 0,0,bj⟩),aa az n] w λe w'=>∃v w0,e=bf v/\Below w.heap.size w w0/\LO w0 (Kn.iR s.k n) v w':=by
 obtain⟨i0,hi,hz0,hz1,hz2⟩:=info_parts xM;have SP:=hJ (fL UE s w (n:Int) h);have MM:=hJ (mR UE s w ((Sp.dc s.k.sp (n:Int):Nat):Int) h);have HL:Hid ((dL s.k.sp ((Sp.dc s.k.sp (n:Int):Nat):Int)).length<=21):=hJ (Kn.sG _ _);unfold Kn.iR;generalize Sp.dc s.k.sp (n:Int)=z at*;generalize dL s.k.sp (z:Int)=L at*;have H:=hJ (aK h hM);obtain⟨kb,hkb⟩:=hU (s.A 0);have HK:=hJ hkb;rw[hkb]at SP MM|-;go_in
 go_wp2_with fail
 refine SP.mono ?_;rintro e w1 ⟨rfl,hw⟩;subst w1;go_wp2_with fail
 refine MM.mono ?_;rintro e w1 ⟨v1,rfl,hL⟩;obtain⟨a1,c1,hv1⟩:=fG hL.own;obtain⟨NN,hNN⟩:=hU (L.length);have HN:=hJ hNN;have hN21:NN<=21:=by rw[<-hNN];exact HL.v
 have LL:=hJ hL;have KW:=hJ (H.1.below hL.cM);rw[hNN]at hv1;have HV1:=hJ hv1;rw[hv1];go_wp2_with fail
 go_loopw [5,7,14] (λl _ i wr=>∃(k:Nat),i=aa az k/\k<=NN/\Hid (LO w1 (Kn.iQ s.k (n:Int) (L.take k)) l wr)) (λ_ _ i _=>NN-(intOf i).toNat)
 case atStart=>exact⟨0,rfl,bu,LO.nil w1⟩
 case round=>
  obtain⟨k,rfl,hk,R⟩:=hrel;by_cases hlt:k<NN
  .have hltI:(k:Int)<NN:=bu
   have hkL:k<L.length:=by rw[HN.v];exact hlt
   obtain⟨m,hm⟩:∃m,L[k]? =bh m:=⟨_,aW hkL⟩;have m20:m<20:=H.2 m (bK hm);have m20I:(m:Int)<20:=bu
   obtain⟨gg,cap,hv,hg,hc⟩:=LL.cells bu;rw[HV1.v]at hv;cases hv;have cm:wr.cell? ⟨gg,k,bj⟩=bh (aa az (m:Int)):=by
    have q:=hc k hkL;rw[show 0+k=k by omega]at q;rw[R.cM.cell (p:=⟨gg,k,bj⟩) hg,q];simp[aF,hm]
   have cp:=(KW.below R.cM).sj m m20;rw[HK.v]at cp;by_cases d:(s.k.p m).par=(n:Int)
   .have HM:=hJ (Kn.O0 hm d);rw[d]at cp;obtain⟨a,cap,hv⟩:=fG R.own;rw[hv];have HV:=hJ hv;have hlm:=Kn.yS s.k (n:Int) (L.take k);rw[List.length_take,Nat.min_eq_left bu]at hlm;generalize hN:(Kn.iQ s.k (n:Int) (L.take k)).length=N at*;have HNN:=hJ hN;go_wp2_with (at_builtin;refine wpList_append_lies _ rfl _ _ 46 (by rfl) w1.heap.size 3 i0 (aa .i64 0) 1 8 Tryz.underlying46 hi hz0 hz1 hz2 rfl bA (aj a N cap) N (rowOf (Kn.iQ s.k (n:Int) (L.take k))) (by rfl) (by rw[<-HV.v,<-HNN.v];exact R.own.alloc _) ⟨wr.heap.size,0,bj⟩ 1 1 [aa az m] (by rfl) rfl (cell_one_new _ _ _) (by simp[Value.oneCell']) bA (by unfold maxLen;omega) bu (by have:=R.cM.size;simp;omega) (wr.heap.size+1) (by simp) ?_;intro gg2 cap2 w2 hown hgrow hat hlt2;have Q1:Hid (LO w1 (Kn.iQ s.k (n:Int) (L.take k)++[m]) (aj (bh ⟨gg2,0,bj⟩) (N+1) cap2) w2):=R.more HNN.v hown _ (by rw[HV.v];exact hgrow))
    go_roundw
    case rel=>exact⟨k+1,by go_num,bu,by rw[HM.v];exact Q1⟩
    case measure=>simp[intOf];omega
   .have HM:=hJ (Kn.QM hm d);generalize (s.k.p m).par=pp at*;have d1:((pp:Int)==(n:Int))=false:=by simpa using d
    go_wp2
    go_roundw
    case rel=>exact⟨k+1,by go_num,bu,by rw[HM.v];exact R⟩
    case measure=>simp[intOf];omega
  .obtain rfl:k=NN:=bu
   go_wp2
   go_ret
   exact⟨_,_,rfl,LL.cM,by have q:=R.v;rw[<-HN.v,List.take_length]at q;exact q⟩
end
theorem Sg.BY{X:Nat->S1}(h:Sg.eV X 0 0):Sg.eV (Sg.lH X 3) 0 0:=by
 rcases h with⟨_,h⟩|⟨h,_⟩
 .refine .inl ⟨rfl,λj h1 h2=>?_⟩;unfold Sg.lH;rw[aJ (by rfl)];by_cases c:j=3
  .subst c;unfold Sg.ok Sg.put;simp[Sg.oT];intro _ c _;exact c
  .have:=h j h1 h2;unfold Sg.ok Sg.put at*;simpa[c]using this
 .omega
section
variable (UE:Nat)(s:St)(w:bD)
theorem GM(n:Nat)(h:bH w UE s)(hn:n<20)(hh:(s.k.p n).has=true)(hf:Sg.eV (s.k.p n).box 0 0):
  Calls prog 99 #[ai (bh ⟨s.A 0,0,bj⟩),aa az n] w λe w'=>e=bf (ao #[])/\Below w.heap.size w w':=by
 have hnI:(n:Int)<20:=bu
 have c5:=h.sd n hn hh;have EN:=hJ (BA (s.A (29+n)) (s.k.p n).box w (h.bx n hn hh));have HF:=hJ hf;generalize s.A 0=kb at*;generalize s.A (29+n)=bb at*;go_in
 go_wp2_with fail
 refine EN.mono ?_;rintro e w1 ⟨m,rfl,hm,hb⟩;obtain rfl:m=0:=hm.unique HF.v;have HB:=hJ hb;rw[show Sg.mQ 0=false from rfl];go_wp2_with fail
 go_end0
 exact⟨rfl,HB.v⟩
theorem DH(n:Nat)(h:bH w UE s)(hn:n<20)(hh:(s.k.p n).has=true)(hf:Kn.hd s.k n≠n->Sg.eV (s.k.p n).box 0 0):
  Calls prog 101 #[ai (bh ⟨s.A 0,0,bj⟩),aa az n] w λe w'=>e=bf (ao #[])/\Below w.heap.size w w':=by
 obtain⟨th,hth⟩:=hU (decide (Kn.hd s.k n=n));have IH:=hJ (lP UE s w n h th hth);cases th
 .have LK:=hJ (GM UE s w n h hn hh (hf (of_decide_eq_false hth)));generalize s.A 0=kb at*;go_in
  go_wp2_with fail
  refine sC IH.v ?_;rintro w1 hw;subst w1;go_wp2_with fail
  refine sC LK.v ?_;rintro w1 hb;have HB:=hJ hb;go_wp2_with fail
  go_end0
  exact⟨rfl,HB.v⟩
 .clear h hh hf hth;generalize s.A 0=kb at*;go_in
  go_wp2_with fail
  refine sC IH.v ?_;rintro w1 hw;subst w1;go_wp2_with fail
  go_end0
  exact⟨rfl,aQ _ _⟩
def Kn.iN(k:Kp)(n:Nat)(z:Int):Kp:=k.put n {k.p n with box:=Sg.lH (k.p n).box z}
theorem Jo(n:Nat)(h:bH w UE s)(hn:n<20)(hh:(s.k.p n).has=true)(hf:Kn.hd s.k n≠n->Sg.eV (s.k.p n).box 0 0):
  Calls prog 151 #[ai (bh ⟨s.A 0,0,bj⟩),aa az n,aa az 3] w λe w'=>e=bf (ao #[])/\bH w' UE {s with k:=Kn.iN s.k n 3}/\KF s w {s with k:=Kn.iN s.k n 3} w':=by
 have hnI:(n:Int)<20:=bu
 have c5:=h.sd n hn hh;have SE:=hJ (wD (s.A (29+n)) 3 (s.k.p n).box w (h.bx n hn hh));have H:=hJ (aK h (aK hh hf));obtain⟨kb,hkb⟩:=hU (s.A 0);have HK:=hJ hkb;obtain⟨bb,hbb⟩:=hU (s.A (29+n));have HB:=hJ hbb;rw[hkb]at c5|-;rw[hbb]at c5 SE;go_in
 go_wp2_with fail
 refine sC SE.v ?_;rintro w1 ⟨u1,f1⟩;generalize bG (Sg.cD 3)=ev;have S1:Hid (bH w1 UE {s with k:=Kn.iN s.k n 3}/\KF s w {s with k:=Kn.iN s.k n 3} w1):=hJ (by
  rw[<-HB.v]at u1 f1;exact H.1.vl hn H.2.1 u1 f1)
 have LK:=hJ (DH UE {s with k:=Kn.iN s.k n 3} w1 n S1.1 hn (by show((Kn.iN s.k n 3).p n).has=true;unfold Kn.iN;rw[Kn.bF];exact H.2.1) (λc=>by
  show Sg.eV ((Kn.iN s.k n 3).p n).box 0 0;unfold Kn.iN;rw[Kn.bF];exact Sg.BY (H.2.2 c)))
 rw[show({s with k:=Kn.iN s.k n 3}:St).A 0=kb from HK.v]at LK;go_wp2_with fail
 refine sC LK.v ?_;rintro w2 hb;have S2:Hid (bH w2 UE {s with k:=Kn.iN s.k n 3}/\KF s w {s with k:=Kn.iN s.k n 3} w2):=hJ ⟨S1.1.below hb,S1.2.trans (KF.below hb)⟩;go_wp2_with fail
 go_end0
 exact⟨rfl,S2.v⟩
end
namespace Kn
def eI(k:Kp)(n:Nat)(c:Int):Kp:=k.put n {k.p n with st:=2,code:=c}
theorem IZ(k:Kp)(n:Nat)(c:Int):(k.put n {k.p n with st:=2}).put n {(k.put n {k.p n with st:=2}).p n with code:=c}=eI k n c:=by
 rw[bF];unfold eI Kp.put;congr 1;funext m;by_cases e:m=n
 .rw[aJ e,aJ e]
 .rw[aI e,aI e];exact aI e
def gH(k:Kp)(L:List Nat)(h:Int):Kp:={k with p:=λm=>{k.p m with par:=if m∈L then h else(k.p m).par}}
theorem OM(k:Kp)(h:Int):gH k [] h=k:=by
 unfold gH;simp only[List.not_mem_nil,if_false]
theorem KZ(k:Kp)(L:List Nat)(h:Int)(c:Nat):(gH k L h).put c {(gH k L h).p c with par:=h}=gH k (L++[c]) h:=by
 unfold gH Kp.put;congr 1;funext m;by_cases e:m=c
 .subst e;rw[aJ rfl];have:m∈L++[m]:=by simp
  rw[aJ this]
 .rw[aI e];have:(m∈L++[c])↔m∈L:=by simp[e]
  have p:(if m∈L then h else(k.p m).par)=(if m∈L++[c]then h else(k.p m).par):=by
   by_cases q:m∈L
   .rw[aJ q,aJ (this.2 q)]
   .rw[aI q,aI (λx=>q (this.1 x))]
  exact congrArg (λv=>({k.p m with par:=v}:Pr)) p
section
variable {X:Nat->Prop}{N:Nat}{d:Nat->Nat}{k k1 k2 k3:Kp}{n z:Nat}
theorem KJ.gone(h:KJ X N k)(hX:X n)(hn:n<20)(s0:(k.p n).st≠0)(hh:(k.p n).has=false)(c:Int):KJ X N (eI k n c):=by
 have e:∀m,m≠n->(eI k n c).p m=k.p m:=λm q=>bM _ _ _ _ q;have e2:(eI k n c).p n={k.p n with st:=2,code:=c}:=bF _ _ _;refine⟨h.sp,h.gr,?_,h.wx,h.rf,h.ok,h.tb,λm hm=>?_,λm hm q=>?_,λm hm x=>?_,λm hm=>?_,h.ht,λm hm=>?_⟩
 .rw[show(λm=>((eI k n c).p m).mem)=λm=>(k.p m).mem from funext λm=>by
   by_cases q:m=n
   .subst q;rw[e2]
   .rw[e m q]]
  exact h.me
 .by_cases q:m=n
  .subst q;rw[e2];exact aL 2
  .rw[e m q];exact h.st m hm
 .by_cases r:m=n
  .subst r;rw[e2]at q;have q2:(k.p m).has=true:=q;rw[hh]at q2;cases q2
  .rw[e m r]at q|-;exact h.hs m hm q
 .by_cases q:m=n
  .subst q;exact aZ hX x
  .rw[e m q];exact h.lv m hm x
 .by_cases q:m=n
  .subst q;rw[e2];exact⟨λ_=>Nat.succ_ne_zero 1,λ_=>(h.of m hm).2 s0⟩
  .rw[e m q];exact h.of m hm
 .by_cases q:m=n
  .subst q;rw[e2];exact h.nm m hm
  .rw[e m q];exact h.nm m hm
theorem KJ.ad(h:KJ X N k)(L:List Nat)(v:Int):KJ X N (gH k L v):=⟨h.sp,h.gr,h.me,h.wx,h.rf,h.ok,h.tb,h.st,h.hs,h.lv,h.of,h.ht,h.nm⟩
theorem VI.gone(h:VI X N d k)(hX:X n)(hn:n<20)(s0:(k.p n).st≠0)(hh:(k.p n).has=false)(c:Int):VI X N d (eI k n c):=⟨h.kj.gone hX hn s0 hh c,h.iv,h.hs⟩
theorem EI.gone(h:EI X N d n z k)(s0:(k.p n).st≠0)(hh:(k.p n).has=false)(c:Int):EI X N d n z (eI k n c):=⟨h.vi.gone h.xn h.hn s0 hh c,h.hn,h.n0,h.xn,h.ho,h.hw,h.hx⟩
theorem Gz.head(g:Gz k k1 z)(h:VI X N d k)(h1:VI X N d k1){q:Nat}(hq:q<20)(o:k1.sp.of q≠0)(c:hd k1 q≠q):hd k q≠q:=by
 intro e;obtain⟨y,hy⟩:∃y,k1.sp.of q=y+1:=⟨k1.sp.of q-1,bu⟩;have hk:k.sp.of q=y+1:=by
  rcases g.kp q hq with⟨_,b⟩|⟨_,b,_⟩
  .rw[<-b];exact hy
  .exact aZ b o
 have y6:=(h.iv.cO hq hk).2.1;have w:=(iK h.iv h.hs hq hk).1 e;exact c ((iK h1.iv h1.hs hq hy).2 (g.wk y 1 q y6 bu hq w o))
def xg(r:Nat)(k2:Kp)(n z:Nat)(k3:Kp):Prop:=(hd k2 n≠n/\k3=k2)\/(hd k2 n=n/\∃j,jP (jk r) (z:Int) j k2 k3)
structure Mid (N:Nat)(d:Nat->Nat)(n z:Nat)(k k3:Kp)(c:Int):Prop where
 vi:VI (λm=>False\/m=n) N d k3
 ho:k3.sp.of n=z+1
 pn:(k3.p n).st=2/\(k3.p n).has=false/\(k3.p n).par=(k.p n).par/\(k3.p n).code=c
 ot:∀q,q<20->q≠n->(k3.p q=k.p q/\(k3.sp.of q≠0->hd k3 q≠q->hd k q≠q))\/k3.p q=Pr.no
theorem VI.yY(h:VI (λ_=>False) N d k)(hn:n<20)(n0:n≠0)(l:lv k n=true)(ho:k.sp.of n=z+1){k1 k3:Kp}{c:Int}{r:Nat}(s1:gZ k n k1)(m:xg r (eI k1 n c) n z k3):Mid N d n z k k3 c:=by
 obtain⟨a,sp,tb,hh,s0,fT⟩:=h.first hn (λx=>x) ho (λ_=>s1) (λx=>by rw[l]at x;cases x);have pa:=(s1.p n).2.1;have e2:(eI k1 n c).p n={k1.p n with st:=2,code:=c}:=bF _ _ _;have v2:=a.gone (.inr rfl) hn s0 hh c;have o2:(eI k1 n c).sp.of n=z+1:=by show k1.sp.of n=z+1;rw[sp];exact ho
 have pn2:((eI k1 n c).p n).st=2/\((eI k1 n c).p n).has=false/\((eI k1 n c).p n).par=(k.p n).par/\((eI k1 n c).p n).code=c:=by
  rw[e2];exact⟨rfl,hh,pa,rfl⟩
 have oth2:∀q,q≠n->(eI k1 n c).p q=k.p q:=λq e=>(bM _ _ _ _ e).trans (fT q e);have hd2:∀q,hd (eI k1 n c) q=hd k q:=λq=>by
  show hd k1 q=hd k q;unfold hd;rw[sp]
 rcases m with⟨_,rfl⟩|⟨ih,j,it⟩
 .exact⟨v2,o2,pn2,λq _ qn=> .inl ⟨oth2 q qn,λ_ e=>by rw[<-hd2 q];exact e⟩⟩
 .have ei:EI (λm=>False\/m=n) N d n z k1:=h.ei hn n0 (λx=>x) ho (by rw[<-hd2 n];exact ih) (λ_ _ x=>aZ x (λx=>x)) (λ_=>s1) (λx=>by rw[l]at x;cases x);obtain⟨b,g,e,_⟩:=EI.iter (rQ r) j _ (ei.gone s0 hh c) it;refine⟨b.vi,b.ho,by rw[e];exact pn2,λq fU qn=>?_⟩;rcases g.kp q fU with⟨x,y⟩|⟨x,_,_⟩
  .exact .inl ⟨x.trans (oth2 q qn),λo c1=>by rw[<-hd2 q];exact g.head v2 b.vi fU o c1⟩
  .exact .inr x
end
end Kn
namespace Kn
def pQ(k:Kp)(q:Nat):Kp:=if lv k q=true then iN k q 3 else k
def lS(k:Kp)(n:Nat)(c:Int)(z q:Nat)(k':Kp):Prop:=∃k1 k3,gZ k n k1/\xg 6 (eI k1 n c) n z k3/\k'=pQ (gH k3 (iR k3 n) (Sp.eH k3.sp (z:Int) 1:Nat)) q
theorem VI.MH{X:Nat->Prop}{N:Nat}{d:Nat->Nat}{k:Kp}{n z:Nat}(h:VI X N d k)(hn:n<20)(ho:k.sp.of n=z+1):∀x∈dL k.sp ((Sp.dc k.sp (n:Int):Nat):Int),x<20:=by
 intro x hx;obtain⟨_,z6,zh⟩:=h.iv.cO hn ho;rw[Sp.gM hn ho]at hx;unfold dL at hx;rw[Sp.gw z6 zh,aJ rfl,hZ]at hx;obtain⟨i,hi⟩:=List.getElem?_of_mem hx;exact(Sp.rC hi (λp hp=>h.iv.oK z p z6 hp)).1
theorem Mid.par{N:Nat}{d:Nat->Nat}{n z q:Nat}{k k3:Kp}{c:Int}(m:Mid N d n z k k3 c)(hp:(k.p n).par=(q:Int))(qn:q≠n)(L:List Nat)(h:Int)(hL:∀x∈L,(k3.p x).par=(n:Int)):((gH k3 L h).p n).par=(q:Int):=by
 show(if n∈L then h else(k3.p n).par)=(q:Int);have e:=m.pn.2.2.1;rw[aI (λc=>by have:=hL n c;rw[e,hp]at this;omega),e,hp]
theorem u3{k:Kp}{n:Nat}:∀x∈iR k n,(k.p x).par=(n:Int):=λx hx=>by
 unfold iR iQ at hx;have:=(bX.1 hx).2;simpa using this
theorem ID{X:Nat->Prop}{N:Nat}{d:Nat->Nat}{k:Kp}{n z:Nat}(h:VI X N d k)(hn:n<20)(ho:k.sp.of n=z+1):∀x∈iR k n,x<20:=λx hx=>by
 unfold iR iQ at hx;exact h.MH hn ho x (bX.1 hx).1
theorem Mid.told{N:Nat}{d:Nat->Nat}{n z q:Nat}{k k3:Kp}{c:Int}(m:Mid N d n z k k3 c)(qn:q≠n)(fU:q<20)(L:List Nat)(h:Int)(hl:lv (gH k3 L h) q=true)(hF:∀m,m<20->m≠n->lv k m=true->hd k m≠m->Sg.eV (k.p m).box 0 0):
  ((gH k3 L h).p q).has=true/\(hd (gH k3 L h) q≠q->Sg.eV ((gH k3 L h).p q).box 0 0):=by
 have l3:(k3.p q).st=1:=by
  have:decide ((k3.p q).st=1)=true:=hl;simpa using this
 refine⟨m.vi.kj.lv q fU (λx=>x.elim id (λy=>qn y)) l3,λe=>?_⟩;show Sg.eV (k3.p q).box 0 0;have o:=(m.vi.kj.of q fU).2 bu;rcases m.ot q fU qn with⟨a,b⟩|a
 .rw[a];rw[a]at l3;exact hF q fU qn (by unfold lv;simpa using l3) (b o e)
 .rw[a]at l3;cases l3
end Kn
theorem wm(UE N:Nat)(d:Nat->Nat)(hN:N<=900)(s:St)(w:bD)(n z q:Nat)(c:Int)(h:bH w UE s)(hv:VI (λ_=>False) N d s.k)(hn:n<20)(n0:n≠0)(l:Kn.lv s.k n=true)(ho:s.k.sp.of n=z+1)(fU:q<20)(qn:q≠n)(hp:(s.k.p n).par=(q:Int))(hF:∀m,m<20->m≠n->Kn.lv s.k m=true->Kn.hd s.k m≠m->Sg.eV (s.k.p m).box 0 0):
  Calls prog 71 #[ai (bh ⟨s.A 0,0,bj⟩),aa az n,aa az c] w λe w'=>∃k',e=bf (ao #[])/\Kn.lS s.k n c z q k'/\bH w' UE {s with k:=k'}/\KF s w {s with k:=k'} w':=by
 have hnI:(n:Int)<20:=bu
 have q20I:(q:Int)<20:=bu
 have KS:=hJ (xS UE s w (λ_=>False) N n h hv.kj hN hn (hv.kj.lv n hn (λx=>x) (by unfold Kn.lv at l;simpa using l)));obtain⟨kb,hkb⟩:=hU (s.A 0);have HK:=hJ hkb;have H:=hJ (aK h (aK hv (aK l (aK ho (aK hp (aK hF hN))))));rw[hkb]at KS|-;clear h hv l ho hp hF hN;go_in
 go_wp2_with fail
 refine KS.mono ?_;rintro e w1 ⟨k1,rfl,st,ka,kf⟩;have S1:Hid (Kn.gZ s.k n k1/\bH w1 UE {s with k:=k1}/\KF s w {s with k:=k1} w1):=hJ ⟨st,ka,kf⟩;clear st ka kf KS;have c0:=S1.2.1.tC n hn;have c3:=S1.2.1.NJ n hn;have fz:=S1.2.1.frozen;rw[show({s with k:=k1}:St).A 0=kb from HK.v]at c0 c3 fz;have S2:Hid (bH ((w1.setCell ⟨kb,n*12,bj⟩ (aa .i64 2)).setCell ⟨kb,n*12+3,bj⟩ (aa az c)) UE {s with k:=Kn.eI k1 n c}/\KF s w {s with k:=Kn.eI k1 n c} ((w1.setCell ⟨kb,n*12,bj⟩ (aa .i64 2)).setCell ⟨kb,n*12+3,bj⟩ (aa az c))):=hJ (by
  have q1:=S1.2.1.SN hn 2;have q2:=q1.1.Qg hn c;rw[show({s with k:=k1}:St).A 0=kb from HK.v]at q1;have e2:=Kn.IZ k1 n c;have q3:bH ((w1.setCell ⟨s.A 0,n*12,bj⟩ (aa .i64 2)).setCell ⟨s.A 0,n*12+3,bj⟩ (aa az c)) UE {s with k:=(k1.put n {k1.p n with st:=2}).put n {(k1.put n {k1.p n with st:=2}).p n with code:=c}}/\KF {s with k:=k1.put n {k1.p n with st:=2}} (w1.setCell ⟨s.A 0,n*12,bj⟩ (aa .i64 2)) {s with k:=(k1.put n {k1.p n with st:=2}).put n {(k1.put n {k1.p n with st:=2}).p n with code:=c}} ((w1.setCell ⟨s.A 0,n*12,bj⟩ (aa .i64 2)).setCell ⟨s.A 0,n*12+3,bj⟩ (aa az c)):=q2;rw[e2,HK.v]at q3;exact⟨q3.1,(S1.2.2.trans q1.2).trans q3.2⟩)
 generalize (({s with k:=k1}:St).k.p n).st=v0 at c0;generalize (({s with k:=k1}:St).k.p n).code=v3 at c3;obtain⟨th,hth⟩:=hU (decide (Kn.hd (Kn.eI k1 n c) n=n));have IH:=hJ (lP UE {s with k:=Kn.eI k1 n c} _ n S2.1 th hth);rw[show({s with k:=Kn.eI k1 n c}:St).A 0=kb from HK.v]at IH;have HT:Hid ((th=true->Kn.hd (Kn.eI k1 n c) n=n)/\(th=false->Kn.hd (Kn.eI k1 n c) n≠n)):=hJ ⟨λc=>by rw[<-hth]at c;exact of_decide_eq_true c,λc=>by rw[<-hth]at c;exact of_decide_eq_false c⟩;clear hth;go_wp2_with fail
 refine sC IH.v ?_;rintro w2 hw;rw[<-hw]at S2;clear hw IH c0 c3 fz;go_upto_if 27 with fail
 go_cut [28]from 29 to 30 (λ_ wx=>∃k3,Hid (bH wx UE {s with k:=k3}/\KF s w {s with k:=k3} wx/\Kn.xg 6 (Kn.eI k1 n c) n z k3))
 case first=>
  cases th
  .go_wp2
   go_meet
   case rel=>exact⟨_,hJ ⟨S2.1,S2.2, .inl ⟨HT.2 (by first|rfl|trivial),rfl⟩⟩⟩
  .have HD:=hJ (HT.1 (by first|rfl|trivial));have EE:Hid (EI (λm=>False\/m=n) N d n z (Kn.eI k1 n c)):=hJ (by
    obtain⟨a,sp,tb,hh,s0,fT⟩:=H.2.1.first hn (λx=>x) H.2.2.2.1 (λ_=>S1.1) (λx=>by rw[H.2.2.1]at x;cases x);refine EI.gone (H.2.1.ei hn n0 (λx=>x) H.2.2.2.1 ?_ (λ_ _ x=>aZ x (λx=>x)) (λ_=>S1.1) (λx=>by rw[H.2.2.1]at x;cases x)) s0 hh c;have q:=HD.v;have q2:Kn.hd k1 n=n:=q;unfold Kn.hd at q2|-;rw[<-sp];exact q2)
   have EM:=hJ (xP UE N d 6 _ {s with k:=Kn.eI k1 n c} w2 n z (pS UE N d H.2.2.2.2.2.2 6) bu bu S2.1 EE.v);rw[show({s with k:=Kn.eI k1 n c}:St).A 0=kb from HK.v]at EM;go_wp2_with fail
   refine EM.mono ?_;rintro e w3 ⟨k3,j,rfl,it,ka,kf⟩;have S3:Hid (bH w3 UE {s with k:=k3}/\KF s w {s with k:=k3} w3/\Kn.xg 6 (Kn.eI k1 n c) n z k3):=hJ ⟨ka,S2.2.trans kf, .inr ⟨HD.v,j,it⟩⟩;clear it ka kf;go_wp2
   go_meet
   case rel=>exact⟨k3,S3⟩
 obtain⟨k3,S3⟩:=hcut;have MD:=hJ (H.2.1.yY hn n0 H.2.2.1 H.2.2.2.1 S1.1 S3.2.2);have SP:=hJ (fL UE {s with k:=k3} wc (n:Int) S3.1);rw[show Sp.dc ({s with k:=k3}:St).k.sp (n:Int)=z from Sp.gM hn MD.ho,show({s with k:=k3}:St).A 0=kb from HK.v]at SP;have HD:=hJ (zR UE {s with k:=k3} wc (z:Int) S3.1);rw[show({s with k:=k3}:St).A 0=kb from HK.v]at HD;obtain⟨hd0,hhd⟩:=hU (Sp.eH ({s with k:=k3}:St).k.sp (z:Int) 1);rw[hhd]at HD;have HHD:=hJ hhd;have CH:=hJ (s9 UE {s with k:=k3} wc n S3.1 (MD.vi.MH hn MD.ho));rw[show({s with k:=k3}:St).A 0=kb from HK.v]at CH;clear hhd S2;go_wp2_with fail
 refine sC SP.v ?_;rintro w4 hw;subst w4;go_wp2_with fail
 refine sC HD.v ?_;rintro w4 hw;subst w4;go_wp2_with fail
 refine CH.mono ?_;rintro e w4 ⟨v4,u4,rfl,hb4,hL⟩;clear SP HD CH;obtain⟨LC,hLC⟩:=hU (Kn.iR ({s with k:=k3}:St).k n);rw[hLC]at hL;have HLC:Hid (Kn.iR k3 n=LC):=hJ hLC;have LP:Hid ((∀x∈LC,x<20)/\∀x∈LC,(k3.p x).par=(n:Int)):=hJ (by rw[<-HLC.v];exact⟨Kn.ID MD.vi hn MD.ho,Kn.u3⟩);obtain⟨a1,cp1,hv1⟩:=fG hL.own;obtain⟨NN,hNN⟩:=hU (LC.length);have HN:=hJ hNN;have NL:NN<=21:=by
  rw[<-hNN,<-HLC.v];exact aH (Kn.yS _ _ _) (Kn.sG _ _)
 have BB:Hid (Below wc.heap.size wc w4):=hJ (hb4.trans (hL.cM.mono hb4.size));have S4:Hid (bH w4 UE {s with k:=Kn.gH k3 (LC.take 0) (hd0:Int)}/\KF s w {s with k:=Kn.gH k3 (LC.take 0) (hd0:Int)} w4/\∀b,b≠kb->w4.heap[b]? =w4.heap[b]?):=hJ (by
  rw[List.take_zero,Kn.OM];exact⟨S3.1.below BB.v,S3.2.1.trans (KF.below BB.v),λ_ _=>rfl⟩)
 have LL:Hid (∀i,i<LC.length->∃gg cap,v4=aj (bh ⟨gg,0,bj⟩) LC.length cap/\gg≠kb/\w4.cell? ⟨gg,i,bj⟩=bh (aa az ((LC.getD i 0:Nat):Int))):=hJ (λi hi=>by
  obtain⟨gg,cap,hv,hg,hc⟩:=hL.cells bu;refine⟨gg,cap,hv,λe=>?_,?_⟩
  .have a:=(hL.own.lt gg (by rw[hv];rfl)).1;have b:kb<wc.heap.size:=by rw[<-HK.v];exact S3.1.lt bS
   have:=hb4.size;omega
  .have q:=hc i hi;rw[show 0+i=i by omega]at q;exact q)
 rw[hNN]at hv1;have HV1:=hJ hv1;rw[hv1];clear hL hv1 hNN hb4 hLC;go_wp2_with fail
 go_loopw [9,40] (λ_ i wr=>∃(k:Nat),i=aa az k/\k<=NN/\Hid (bH wr UE {s with k:=Kn.gH k3 (LC.take k) (hd0:Int)}/\KF s w {s with k:=Kn.gH k3 (LC.take k) (hd0:Int)} wr/\∀b,b≠kb->wr.heap[b]? =w4.heap[b]?)) (λ_ i _=>NN-(intOf i).toNat)
 case atStart=>exact⟨0,rfl,bu,hJ ⟨S4.1,S4.2.1,λ_ _=>rfl⟩⟩
 case round=>
  obtain⟨k,rfl,hk,R⟩:=hrel;by_cases hlt:k<NN
  .have hltI:(k:Int)<NN:=bu
   have hkL:k<LC.length:=by rw[HN.v];exact hlt
   obtain⟨m,hm⟩:∃m,LC[k]? =bh m:=⟨_,aW hkL⟩;have m20:m<20:=LP.1 m (bK hm);have m20I:(m:Int)<20:=bu
   obtain⟨gg,cap,hv,hg,hc⟩:=LL.v k hkL;rw[HV1.v]at hv;cases hv;have cm:wr.cell? ⟨gg,k,bj⟩=bh (aa az (m:Int)):=by
    rw[show wr.cell? ⟨gg,k,bj⟩=w4.cell? ⟨gg,k,bj⟩from aV (R.2.2 gg hg),hc];simp[aF,hm]
   have cp:=R.1.sj m m20;have fz:=R.1.frozen;rw[show({s with k:=Kn.gH k3 (LC.take k) (hd0:Int)}:St).A 0=kb from HK.v]at cp fz;generalize (({s with k:=Kn.gH k3 (LC.take k) (hd0:Int)}:St).k.p m).par=pv at cp;have R1:Hid (bH (wr.setCell ⟨kb,m*12+1,bj⟩ (aa az (hd0:Int))) UE {s with k:=Kn.gH k3 (LC.take (k+1)) (hd0:Int)}/\KF s w {s with k:=Kn.gH k3 (LC.take (k+1)) (hd0:Int)} (wr.setCell ⟨kb,m*12+1,bj⟩ (aa az (hd0:Int)))/\∀b,b≠kb->(wr.setCell ⟨kb,m*12+1,bj⟩ (aa az (hd0:Int))).heap[b]? =w4.heap[b]?):=hJ (by
    have q:=R.1.C5 m20 (hd0:Int);rw[show({s with k:=Kn.gH k3 (LC.take k) (hd0:Int)}:St).A 0=kb from HK.v]at q;have e:=Kn.KZ k3 (LC.take k) (hd0:Int) m;rw[show LC.take k++[m]=LC.take (k+1)by rw[List.take_add_one,hm];rfl]at e;rw[<-e];exact⟨q.1,R.2.1.trans q.2,λb hb=>(dJ _ _ _ _ hb).trans (R.2.2 b hb)⟩)
   clear hc hm hkL hg;go_wp2
   go_roundw
   case rel=>exact⟨k+1,by go_num,bu,R1⟩
   case measure=>simp[intOf];omega
  .obtain rfl:k=NN:=bu
   have R1:Hid (bH wr UE {s with k:=Kn.gH k3 LC (hd0:Int)}/\KF s w {s with k:=Kn.gH k3 LC (hd0:Int)} wr):=hJ (by
    have q:=R.v;rw[<-HN.v,List.take_length]at q;exact⟨q.1,q.2.1⟩)
   clear R S4;have cp:=R1.1.sj n hn;rw[show({s with k:=Kn.gH k3 LC (hd0:Int)}:St).A 0=kb from HK.v,show(({s with k:=Kn.gH k3 LC (hd0:Int)}:St).k.p n).par=(q:Int)from MD.par H.2.2.2.2.1 qn LC (hd0:Int) LP.2]at cp;obtain⟨tl,htl⟩:=hU (Kn.lv (Kn.gH k3 LC (hd0:Int)) q);have LV:=hJ (iS UE {s with k:=Kn.gH k3 LC (hd0:Int)} wr q R1.1 fU tl htl);rw[show({s with k:=Kn.gH k3 LC (hd0:Int)}:St).A 0=kb from HK.v]at LV;have ET:Hid (∀k',k'=Kn.pQ (Kn.gH k3 LC (hd0:Int)) q->Kn.lS s.k n c z q k'):=hJ (λk' e=>⟨k1,k3,S1.1,S3.2.2,by rw[HLC.v,show Sp.eH k3.sp (z:Int) 1=hd0 from HHD.v];exact e⟩);cases tl
   .have FIN:=hJ (ET.v _ (by unfold Kn.pQ;rw[aI (by rw[htl];decide)]));clear htl ET;go_wp2_with fail
    refine sC LV.v ?_;rintro w5 hw;subst w5;go_wp2_with fail
    go_end0
    exact⟨_,rfl,FIN.v,R1.v⟩
   .have FIN:=hJ (ET.v _ (by unfold Kn.pQ;rw[aJ htl]));have TD:=MD.told qn fU LC (hd0:Int) htl H.2.2.2.2.2.1;have SE:=hJ (Jo UE {s with k:=Kn.gH k3 LC (hd0:Int)} wr q R1.1 fU TD.1 TD.2);rw[show({s with k:=Kn.gH k3 LC (hd0:Int)}:St).A 0=kb from HK.v]at SE;clear htl ET TD;go_wp2_with fail
    refine sC LV.v ?_;rintro w5 hw;subst w5;go_wp2_with fail
    refine sC SE.v ?_;rintro w5 ⟨ka,kf⟩;have S5:Hid (bH w5 UE {s with k:=Kn.iN (Kn.gH k3 LC (hd0:Int)) q 3}/\KF s w {s with k:=Kn.iN (Kn.gH k3 LC (hd0:Int)) q 3} w5):=hJ ⟨ka,R1.2.trans kf⟩;clear ka kf;go_wp2_with fail
    go_end0
    exact⟨_,rfl,FIN.v,S5.v⟩
def Kn.sP(k:Kp)(z:Int):Nat:=if Kn.bT k z=0 then Sp.gQ k.sp z (Sp.dc k.sp z:Nat)else 0
def Kn.pZ(k:Kp)(z:Int):Nat:=if Kn.bT k z=0 then Sp.gQ k.sp (k.p z.toNat).par (Sp.dc k.sp z:Nat)else 0
def Kn.eN(k:Kp)(z p:Int):Int:=if Kn.bT k z=0 then(if Sp.fZ k.sp (Sp.dc k.sp z:Nat) p=0 then(if Kn.lv k (Sp.eH k.sp (Sp.dc k.sp z:Nat) p)=true then 0 else 8)else Sp.fZ k.sp (Sp.dc k.sp z:Nat) p)else Kn.bT k z
def Kn.iC(k:Kp)(z p:Int):Nat:=if Kn.eN k z p=0 then Sp.eH k.sp (Sp.dc k.sp z:Nat) p else 0
section
variable (UE:Nat)(s:St)(w:bD)
theorem Jm(z:Int)(h:bH w UE s)(h0:∀n,n<6->s.k.sp.bR n 0=0):
  Calls prog 21 #[ai (bh ⟨s.A 0,0,bj⟩),aa az z] w λe w'=>e=bf (ao #[aa az (Kn.sP s.k z:Int),bG (Kn.bT s.k z)])/\w'=w:=by
 have AC:=hJ (dv UE s w z h);by_cases c:Kn.bT s.k z=0
 .have E:Kn.sP s.k z=Sp.gQ s.k.sp z (Sp.dc s.k.sp z:Nat):=aJ c;have SP:=hJ (fL UE s w z h);have PI:=hJ (pR UE s w z (Sp.dc s.k.sp z:Nat) h h0);rw[c,bB]at AC;rw[E,c,bB];generalize fJ (s.A 0) z 0=ap at*;generalize s.A 0=kb at*;generalize Sp.gQ s.k.sp z (Sp.dc s.k.sp z:Nat)=pp at*;generalize Sp.dc s.k.sp z=ss at*;go_in
  go_wp2_with fail
  refine sC AC.v ?_;rintro w1 hw;subst w1;go_wp2_with fail
  refine sC SP.v ?_;rintro w1 hw;subst w1;go_wp2_with fail
  refine sC PI.v ?_;rintro w1 hw;subst w1;go_wp2
  go_ret2
  exact⟨rfl,rfl⟩
 .have E:Kn.sP s.k z=0:=aI c;rw[bC c]at AC;rw[E,bC c];generalize fJ (s.A 0) z (Kn.bT s.k z)=ap at*;generalize Kn.bT s.k z=ae at*;generalize s.A 0=kb at*;go_in
  go_wp2_with fail
  refine sC AC.v ?_;rintro w1 hw;subst w1;go_wp2
  go_ret2
  exact⟨rfl,rfl⟩
theorem DM(z:Int)(h:bH w UE s)(h0:∀n,n<6->s.k.sp.bR n 0=0):
  Calls prog 26 #[ai (bh ⟨s.A 0,0,bj⟩),aa az z] w λe w'=>e=bf (ao #[aa az (Kn.pZ s.k z:Int),bG (Kn.bT s.k z)])/\Below w.heap.size w w':=by
 have AC:=hJ (dv UE s w z h);by_cases c:Kn.bT s.k z=0
 .obtain⟨n,rfl,hn,hl⟩:=Kn.fq c;have E:Kn.pZ s.k (n:Int)=Sp.gQ s.k.sp (s.k.p n).par (Sp.dc s.k.sp (n:Int):Nat):=by
   unfold Kn.pZ;rw[aJ c,hZ]
  have SP:=hJ (λq=>fL UE s (w.drewN q) (n:Int) (h.drewN q));have PI:=hJ (λq=>pR UE s (w.drewN q) (s.k.p n).par (Sp.dc s.k.sp (n:Int):Nat) (h.drewN q) h0);have cp:=h.sj n hn;rw[c,bB,gS]at AC;rw[E,c,bB];generalize s.A 0=kb at*;generalize Sp.gQ s.k.sp (s.k.p n).par (Sp.dc s.k.sp (n:Int):Nat)=pp at*;generalize Sp.dc s.k.sp (n:Int)=ss at*;generalize (s.k.p n).par=pv at*;go_in
  go_wp2_with fail
  refine sC AC.v ?_;rintro w1 hw;subst w1;go_wp2_with fail
  go_quiet ((first|(go_at_call 62;exact Calls.quiet_of_same (SP.v _))|(go_at_call 70;exact Calls.quiet_of_same (PI.v _))))
  go_wp2
  go_ret2
  exact⟨rfl,below_drewN (aQ _ _) _⟩
 .have E:Kn.pZ s.k z=0:=aI c;rw[bC c]at AC;rw[E,bC c];generalize fJ (s.A 0) z (Kn.bT s.k z)=ap at*;generalize Kn.bT s.k z=ae at*;generalize s.A 0=kb at*;go_in
  go_wp2_with fail
  refine sC AC.v ?_;rintro w1 hw;subst w1;go_wp2
  go_ret2
  exact⟨rfl,aQ _ _⟩
theorem Kn.kY{t:Sp.T}(hw:∀z p,z<6->p<21->t.bR z p<=20)(z p:Int):Sp.eH t z p<20:=by
 unfold Sp.eH;by_cases c:Sp.fZ t z p=0
 .rw[aJ c];unfold Sp.fZ at c;by_cases i:Sp.cD t z=0
  .rw[aJ i]at c;by_cases j:p<1\/20<p\/t.bR z.toNat p.toNat=0
   .rw[aJ j]at c;omega
   .have z6:z.toNat<6:=by
     unfold Sp.cD at i;split at i
     .omega
     .omega
    have:=hw z.toNat p.toNat z6 bu;omega
  .rw[aI i]at c;exact aZ c i
 .rw[aI c];omega
theorem sF(z p:Int)(h:bH w UE s)(hw:∀z p,z<6->p<21->s.k.sp.bR z p<=20):
  Calls prog 16 #[ai (bh ⟨s.A 0,0,bj⟩),aa az z,aa az p] w λe w'=>e=bf (ao #[aa az (Kn.iC s.k z p:Int),bG (Kn.eN s.k z p)])/\Below w.heap.size w w':=by
 have AC:=hJ (dv UE s w z h);by_cases c:Kn.bT s.k z=0
 .have SP:=hJ (λq=>fL UE s (w.drewN q) z (h.drewN q));have FI:=hJ (λq=>BH (s.A 1) (Sp.dc s.k.sp z:Nat) p s.k.sp (w.drewN q) (h.drewN q).sp);have c6:=h.xE;have lt:=Kn.kY hw (Sp.dc s.k.sp z:Nat) p;have LV:=hJ (λq v hv=>iS UE s (w.drewN q) (Sp.eH s.k.sp (Sp.dc s.k.sp z:Nat) p) (h.drewN q) lt v hv);rw[c,bB]at AC;generalize fJ (s.A 0) z 0=ap at*;by_cases f:Sp.fZ s.k.sp (Sp.dc s.k.sp z:Nat) p=0
  .rw[f,bB]at FI;obtain⟨v,hv⟩:=hU (Kn.lv s.k (Sp.eH s.k.sp (Sp.dc s.k.sp z:Nat) p));have LV2:=hJ (λq=>LV.v q v hv);have E1:Kn.eN s.k z p=if v=true then 0 else 8:=by unfold Kn.eN;rw[aJ c,aJ f,hv]
   have E2:Kn.iC s.k z p=if v=true then Sp.eH s.k.sp (Sp.dc s.k.sp z:Nat) p else 0:=by
    unfold Kn.iC;rw[E1];cases v<;>rfl
   rw[E1,E2];generalize s.A 0=kb at*;generalize s.A 1=sb at*;generalize Sp.eH s.k.sp (Sp.dc s.k.sp z:Nat) p=ff at*;generalize Sp.dc s.k.sp z=ss at*;have ltI:(ff:Int)<20:=bu
   go_in
   go_wp2_with fail
   refine sC AC.v ?_;rintro w1 hw;subst w1;go_wp2_with fail
   go_quiet ((first|(go_at_call 62;exact Calls.quiet_of_same (SP.v _))|(go_at_call 61;exact Calls.quiet_of_same (FI.v _))))
   go_wp2_with fail
   refine sC (LV2.v _) ?_;rintro w1 hw;subst w1;cases v
   .go_wp2
    go_ret2
    exact⟨rfl,below_drewN (aQ _ _) _⟩
   .go_wp2
    go_ret2
    exact⟨rfl,below_drewN (aQ _ _) _⟩
  .have E1:Kn.eN s.k z p=Sp.fZ s.k.sp (Sp.dc s.k.sp z:Nat) p:=by unfold Kn.eN;rw[aJ c,aI f]
   have E2:Kn.iC s.k z p=0:=by unfold Kn.iC;rw[E1,aI f]
   rw[bC f]at FI;rw[E1,E2,bC f];generalize s.A 0=kb at*;generalize s.A 1=sb at*;generalize Sp.eH s.k.sp (Sp.dc s.k.sp z:Nat) p=ff at*;generalize Sp.fZ s.k.sp (Sp.dc s.k.sp z:Nat) p=fe at*;generalize Sp.dc s.k.sp z=ss at*;go_in
   go_wp2_with fail
   refine sC AC.v ?_;rintro w1 hw;subst w1;go_wp2_with fail
   go_quiet ((first|(go_at_call 62;exact Calls.quiet_of_same (SP.v _))|(go_at_call 61;exact Calls.quiet_of_same (FI.v _))))
   go_wp2
   go_ret2
   exact⟨rfl,below_drewN (aQ _ _) _⟩
 .have E1:Kn.eN s.k z p=Kn.bT s.k z:=aI c;have E2:Kn.iC s.k z p=0:=by unfold Kn.iC;rw[E1,aI c]
  rw[bC c]at AC;rw[E1,E2,bC c];generalize fJ (s.A 0) z (Kn.bT s.k z)=ap at*;generalize Kn.bT s.k z=ae at*;generalize s.A 0=kb at*;go_in
  go_wp2_with fail
  refine sC AC.v ?_;rintro w1 hw;subst w1;go_wp2
  go_ret2
  exact⟨rfl,aQ _ _⟩
end
structure Kn.KI (N:Nat)(d:Nat->Nat)(k:Kp):Prop where
 vi:VI (λ_=>False) N d k
 fi:∀m,m<20->Kn.lv k m=true->Kn.hd k m≠m->Sg.eV (k.p m).box 0 0
 pr:∀m,m<20->m≠0->(k.p m).st≠0->∃q,q<20/\q≠m/\(k.p m).par=(q:Int)
 h0:Kn.hd k 0=0
def Kn.qS(k:Kp)(z c:Int):Int:=if Kn.bT k z=0 then(if c<0\/255<c then 1 else if z=0 then 8 else 0)else Kn.bT k z
def Kn.ql(k:Kp)(z c:Int)(k':Kp):Prop:=(Kn.qS k z c≠0/\k'=k)\/(Kn.qS k z c=0/\∃n y q,z=(n:Nat)/\n<20/\n≠0/\Kn.lv k n=true/\k.sp.of n=y+1/\q<20/\q≠n/\(k.p n).par=(q:Nat)/\Kn.lS k n c y q k')
section
variable (UE N:Nat)(d:Nat->Nat)(s:St)(w:bD)
theorem Jc(hN:N<=900)(z c:Int)(h:bH w UE s)(hi:Kn.KI N d s.k):
  Calls prog 20 #[ai (bh ⟨s.A 0,0,bj⟩),aa az z,aa az c] w λe w'=>∃k',e=bf (bG (Kn.qS s.k z c))/\Kn.ql s.k z c k'/\bH w' UE {s with k:=k'}/\KF s w {s with k:=k'} w':=by
 have AC:=hJ (dv UE s w z h);have H:=hJ (aK h hi);by_cases a:Kn.bT s.k z=0
 .obtain⟨n,rfl,hn,hl⟩:=Kn.fq a;rw[a,bB]at AC;generalize fJ (s.A 0) (n:Int) 0=ap at*;by_cases b:c<0\/255<c
  .have E:Kn.qS s.k (n:Int) c=1:=by unfold Kn.qS;rw[aJ a,aJ b]
   have FIN:Hid (Kn.ql s.k (n:Int) c s.k):=hJ (.inl ⟨by rw[E];decide,rfl⟩);rw[E];generalize s.A 0=kb at*;by_cases b1:c<0
   .clear b;go_in
    go_wp2_with fail
    refine sC AC.v ?_;rintro w1 hw;subst w1;go_wp2
    go_ret
    exact⟨s.k,rfl,FIN.v,H.1,KF.refl _ _⟩
   .have b2:255<c:=bu
    go_in
    go_wp2_with fail
    refine sC AC.v ?_;rintro w1 hw;subst w1;go_wp2
    go_ret
    exact⟨s.k,rfl,FIN.v,H.1,KF.refl _ _⟩
  .have b1:¬c<0:=bu
   have b2:¬255<c:=bu
   by_cases n0:n=0
   .subst n0;have E:Kn.qS s.k ((0:Nat):Int) c=8:=by unfold Kn.qS;rw[aJ a,aI b];rfl
    have FIN:Hid (Kn.ql s.k ((0:Nat):Int) c s.k):=hJ (.inl ⟨by rw[E];decide,rfl⟩);rw[E];generalize s.A 0=kb at*;go_in
    go_wp2_with fail
    refine sC AC.v ?_;rintro w1 hw;subst w1;go_wp2
    go_ret
    exact⟨s.k,rfl,FIN.v,H.1,KF.refl _ _⟩
   .have E:Kn.qS s.k (n:Int) c=0:=by unfold Kn.qS;rw[aJ a,aI b,nJ]
    have st0:(s.k.p n).st≠0:=by
     have:decide ((s.k.p n).st=1)=true:=hl;have:(s.k.p n).st=1:=by simpa using this
     omega
    obtain⟨q,fU,qn,hp⟩:=hi.pr n hn n0 st0;obtain⟨y,hy⟩:∃y,s.k.sp.of n=y+1:=⟨s.k.sp.of n-1,by have:=(hi.vi.kj.of n hn).2 st0;omega⟩;have EN:=hJ (wm UE N d hN s w n y q c h hi.vi hn n0 hl hy fU qn hp (λm hm _=>hi.fi m hm));have FIN:Hid (∀k',Kn.lS s.k n c y q k'->Kn.ql s.k (n:Int) c k'):=hJ (λk' e=> .inr ⟨E,n,y,q,rfl,hn,n0,hl,hy,fU,qn,hp,e⟩);rw[E,bB];have nI:((n:Int)==0)=false:=by simpa using n0
    have nI2:¬(n:Int)=0:=bu
    generalize s.A 0=kb at*;go_in
    go_wp2_with fail
    refine sC AC.v ?_;rintro w1 hw;subst w1;go_wp2_with fail
    refine EN.mono ?_;rintro e w1 ⟨k',rfl,et,ka,kf⟩;have S1:Hid (Kn.ql s.k (n:Int) c k'/\bH w1 UE {s with k:=k'}/\KF s w {s with k:=k'} w1):=hJ ⟨FIN.v k' et,ka,kf⟩;go_wp2
    go_ret
    exact⟨k',rfl,S1.v⟩
 .have E:Kn.qS s.k z c=Kn.bT s.k z:=aI a;have FIN:Hid (Kn.ql s.k z c s.k):=hJ (.inl ⟨by rw[E];exact a,rfl⟩);rw[bC a]at AC;rw[E,bC a];generalize fJ (s.A 0) z (Kn.bT s.k z)=ap at*;generalize Kn.bT s.k z=ae at*;generalize s.A 0=kb at*;go_in
  go_wp2_with fail
  refine sC AC.v ?_;rintro w1 hw;subst w1;go_wp2
  go_ret
  exact⟨s.k,rfl,FIN.v,H.1,KF.refl _ _⟩
end
namespace Kn
def dN(s:St)(n mb bb:Nat)(x:Pr):St:={s with A:=λi=>if i=9+n then mb else if i=29+n then bb else s.A i,k:=s.k.put n x}
theorem mh(s:St)(n mb bb:Nat)(x:Pr):(dN s n mb bb x).A (9+n)=mb:=aJ rfl
theorem mf(s:St)(n mb bb:Nat)(x:Pr):(dN s n mb bb x).A (29+n)=bb:=(nJ).trans (aJ rfl)
theorem eG(s:St)(n mb bb:Nat)(x:Pr){i:Nat}(h1:i≠9+n)(h2:i≠29+n):(dN s n mb bb x).A i=s.A i:=(aI h1).trans (aI h2)
theorem vr{s:St}{n mb bb:Nat}{x:Pr}{i:Nat}(hi:us (dN s n mb bb x) i):i=9+n\/i=29+n\/(us s i/\i≠9+n/\i≠29+n):=by
 by_cases c1:i=9+n
 .exact .inl c1
 .by_cases c2:i=29+n
  .exact .inr (.inl c2)
  .refine .inr (.inr ⟨?_,c1,c2⟩);rcases hi with hi|⟨h1,h2,h3⟩|⟨h1,h2,h3⟩|⟨h1,h2,h3⟩|⟨h1,h2,h3,h4⟩
   .exact .inl hi
   .have h5:((s.k.put n x).p (i-9)).has=true:=h3;rw[bM _ _ _ _ bu]at h5;exact .inr (.inl ⟨h1,h2,h5⟩)
   .have h5:((s.k.put n x).p (i-29)).has=true:=h3;rw[bM _ _ _ _ bu]at h5;exact .inr (.inr (.inl ⟨h1,h2,h5⟩))
   .exact .inr (.inr (.inr (.inl ⟨h1,h2,h3⟩)))
   .exact .inr (.inr (.inr (.inr ⟨h1,h2,h3,h4⟩)))
theorem Po(s:St)(n mb bb:Nat)(x:Pr)(hn:n<20)(o:Nat)(ho:o<253):kc (dN s n mb bb x) o=if o<240/\o/12=n then eW mb bb x (o%12)else kc s o:=by
 unfold kc;by_cases c:o<240
 .rw[aJ c,aJ c];unfold pc;by_cases e:o/12=n
  .rw[aJ ⟨c,e⟩,e,mh,mf];show eW mb bb ((s.k.put n x).p n) _=_;rw[bF]
  .rw[aI (λq=>e q.2),eG _ _ _ _ _ bu bu,eG _ _ _ _ _ bu bu];show eW _ _ ((s.k.put n x).p (o/12)) _=_;rw[bM _ _ _ _ e]
 .have c':¬(o<240/\o/12=n):=λq=>c q.1;rw[aI c,aI c',aI c];by_cases c2:o<246
  .rw[aJ c2,aJ c2,eG _ _ _ _ _ bu bu];rfl
  .rw[aI c2,aI c2];by_cases c3:o<250
   .rw[aJ c3,aJ c3,eG _ _ _ _ _ bu bu]
   .rw[aI c3,aI c3,eG _ _ _ _ _ bu bu]
end Kn
section
variable {w w':bD}{UE:Nat}{s:St}
theorem bH.born(h:bH w UE s){n mb bb:Nat}(hn:n<20){x:Pr}(um:cY w mb (s.A 4) x.mem)(ub:CX w bb x.box)(am:∀i,us s i->s.A i≠mb)(ab:∀i,us s i->s.A i≠bb)(mn:mb≠bb)(lm:UE<=mb)(lb:UE<=bb):
  bH (w.setCells (s.A 0) (n*12) (dK mb bb x).toList) UE (Kn.dN s n mb bb x)/\bE (s.A 0) w (w.setCells (s.A 0) (n*12) (dK mb bb x).toList):=by
 obtain⟨C,e,sz⟩:=h.lO;obtain⟨C',e',sz'⟩:=dY (s.A 0) (dK mb bb x).toList (n*12) w C e;have hl:(dK mb bb x).toList.length=12:=by rw[aB,dy]
 have f:bE (s.A 0) w (w.setCells (s.A 0) (n*12) (dK mb bb x).toList):=bE.setCells _ _ (bE.refl _ _);have dQ:∀o,o<253->(w.setCells (s.A 0) (n*12) (dK mb bb x).toList).cell? ⟨s.A 0,o,bj⟩=bh (Kn.kc (Kn.dN s n mb bb x) o):=λo ho=>by
  rw[Kn.Po s n mb bb x hn o ho];by_cases c:o<240/\o/12=n
  .rw[aJ c];obtain⟨j,rfl,hj⟩:∃j,o=n*12+j/\j<12:=⟨o%12,bu,bu⟩;rw[aS (s.A 0) (dK mb bb x).toList (n*12) w (λi hi=>by rw[hl]at hi;rw[h.cP n i hn hi];rfl) j bu,<-aW bu,aM,kU mb bb x j hj,show(n*12+j)%12=j by omega]
  .rw[aI c,aA (s.A 0) _ (n*12) w ⟨s.A 0,o,bj⟩ (λ_ _=>by rw[hl];show o<_\/_<=o;omega)];exact h.dQ o ho
 have o:=h.others bS f;have A9:∀i,i<9->(Kn.dN s n mb bb x).A i=s.A i:=λi hi=>Kn.eG _ _ _ _ _ bu bu;have pj:∀j,j≠n->(Kn.dN s n mb bb x).k.p j=s.k.p j:=λj c=>Kn.bM _ _ _ _ c;have pn:(Kn.dN s n mb bb x).k.p n=x:=Kn.bF _ _ _;have um':cY (w.setCells (s.A 0) (n*12) (dK mb bb x).toList) mb (s.A 4) x.mem:=um.same (f.block _ um.lt (am 0 bS).symm);have ub':CX (w.setCells (s.A 0) (n*12) (dK mb bb x).toList) bb x.box:=ub.same (f.block _ ub.lt (ab 0 bS).symm);refine⟨⟨⟨C',by rw[A9 0 bu];exact e',bu⟩,λi hi=>by rw[A9 0 bu];exact dQ i hi,by rw[A9 1 bu];exact h.sp.same (o 1 bS bu),by rw[A9 2 bu];exact(o 2 bS bu).trans h.gr,by rw[A9 3 bu];exact h.sc.same (o 3 bS bu),by rw[A9 4 bu,A9 5 bu];exact h.bk.same (o 4 bS bu) (o 5 bS bu),by rw[A9 8 bu,A9 6 bu,A9 7 bu];exact h.fi.same (o 8 bS bu),by rw[A9 6 bu];exact h.fo.same (o 6 bS bu),by rw[A9 7 bu];exact h.pi.same (o 7 bS bu),
  λj hj jh=>?_,λj hj jh=>?_,λj hj hh=>?_,λj hj hh g eg=>?_,λi j hi hj eq=>?_,λi hi=>?_⟩,f⟩
 .by_cases c:j=n
  .subst c;rw[Kn.mh,A9 4 bu,pn];exact um'
  .rw[pj j c]at jh|-;rw[Kn.eG _ _ _ _ _ bu bu,A9 4 bu];exact(h.me j hj jh).same (o _ (Kn.iD hj jh) bu)
 .by_cases c:j=n
  .subst c;rw[Kn.mf,pn];exact ub'
  .rw[pj j c]at jh|-;rw[Kn.eG _ _ _ _ _ bu bu];exact(h.bx j hj jh).same (o _ (Kn.jC hj jh) bu)
 .rw[Kn.eG _ _ _ _ _ bu bu,A9 6 bu];exact(h.tb j hj hh).same (o _ (Kn.jL hj hh) bu) (λg eg=>by have:=o _ (Kn.jD hj hh eg) bu;rwa [h.ro j hj hh g eg]at this)
 .rw[Kn.eG _ _ _ _ _ bu bu];exact h.ro j hj hh g eg
 .rcases Kn.vr hi with rfl|rfl|⟨ui,i1,i2⟩<;>rcases Kn.vr hj with rfl|rfl|⟨uj,j1,j2⟩
  .rfl
  .rw[Kn.mh,Kn.mf]at eq;exact aZ eq mn
  .rw[Kn.mh,Kn.eG _ _ _ _ _ j1 j2]at eq;exact aZ eq.symm (am j uj)
  .rw[Kn.mh,Kn.mf]at eq;exact aZ eq.symm mn
  .rfl
  .rw[Kn.mf,Kn.eG _ _ _ _ _ j1 j2]at eq;exact aZ eq.symm (ab j uj)
  .rw[Kn.mh,Kn.eG _ _ _ _ _ i1 i2]at eq;exact aZ eq (am i ui)
  .rw[Kn.mf,Kn.eG _ _ _ _ _ i1 i2]at eq;exact aZ eq (ab i ui)
  .rw[Kn.eG _ _ _ _ _ i1 i2,Kn.eG _ _ _ _ _ j1 j2]at eq;exact h.inj i j ui uj eq
 .rcases Kn.vr hi with rfl|rfl|⟨ui,i1,i2⟩
  .rw[Kn.mh];exact lm
  .rw[Kn.mf];exact lb
  .rw[Kn.eG _ _ _ _ _ i1 i2];exact h.low i ui
end
theorem wV{P:Program}{ops:Array Oper}{rest:List Oper}{op:Oper}{a:Act}{w:bD}{Q:Act->Prop}(hgd:op.guard=bj)(ty:TypeId)(x:Operand)(ho:op.op= .load ty x)
  (b o:Nat) (hx:a.eval x=ai (bh ⟨b,o,bj⟩)) (cs:List Value) (d:TypeDesc) (hc:w.rangeAt b o cs)
  (hu:P.underlying ty=bh d) (hd:d.isRow=true) (hi:(P.info? ty).map (·.size)=bh cs.length)
  (h:wpStill P ops w Q rest (a.put op.dst (au cs.toArray))):wpStill P ops w Q (op::rest) a:=
 wpStill_step (λK hK=>by
  have hw:Region.wanted op (yielded ops a.tmps)=true:=by simp[Region.wanted,hgd]
  rw[aJ hw];unfold Oper.still execOp;simp only[ho,hx,Instr.loadAt,Instr.sureAddr,Sem.run_bind,Sem.run_pure,Result.andThen_ok,run_loadVar_mid w b o ty cs d hc hu hd hi];rw[Oper.stillUpon_value];exact hK _ h)
section
variable {ops:Array Oper}{rest:List Oper}{x:Oper}{a:Act}{w:bD}{Q:Exit->Act->bD->Prop}
theorem Dw(hgd:x.guard=bj)(y:Operand)(A:Array Value)(ho:x.op= .box 74 y)(hy:a.eval y=au A)(h:wpList prog ops Q rest (a.put x.dst (ai (bh ⟨w.heap.size,0,bj⟩))) (w.alloc (bg A 74))):wpList prog ops Q (x::rest) a w:=
 wpList_plain hgd λ_ hK=>by
  unfold Oper.wp execOp;simp only[ho,hy];simp[go_sem];exact hK _ _ h
end
def Kn.iO(k:Kp)(n:Nat)(x:Pr)(z:Int)(m:Wf.M):Kp:={k.put n x with sp:=Sp.fK k.sp z (n:Int),sc:=m}
section
variable (UE:Nat)(s:St)(w:bD)
theorem xR(n mb bb:Nat)(x:Pr)(z:Int)(d:Nat->Nat)(h:bH w UE s)(hn:n<20)(hI:Sp.Inv s.k.sp d)(um:cY w mb (s.A 4) x.mem)(ub:CX w bb x.box)(am:∀i,us s i->s.A i≠mb)(ab:∀i,us s i->s.A i≠bb)(mn:mb≠bb)(lm:UE<=mb)(lb:UE<=bb):
  Calls prog 68 #[ai (bh ⟨s.A 0,0,bj⟩),aa az n,au (dK mb bb x),aa az z] w λe w'=>∃m',e=bf (ao #[])/\Wf.iY (Wf.dZ s.k.sc (n:Int) x.cN) (n:Int) true m'/\bH w' UE {Kn.dN s n mb bb x with k:=Kn.iO s.k n x z m'}/\dF (KB s) w w':=by
 have hnI:(n:Int)<20:=bu
 obtain⟨kb,hkb⟩:=hU (s.A 0);have HK:=hJ hkb;have b0:Below w.heap.size w (w.alloc (bg (dK mb bb x) 74)):=(aQ _ _).alloc (aL _) _;have N0:Hid ((w.alloc (bg (dK mb bb x) 74)).heap[w.heap.size]? =bh (bg (dK mb bb x) 74 (0,0))):=hJ (heap_alloc_new w _);have BN:=hJ ((h.below b0).drew.born hn (x:=x) (um.below b0).drew (ub.below b0 ub.lt).drew am ab mn lm lb);have B0:=hJ b0;have H:=hJ (aK h hI);have RG:Hid ((w.alloc (bg (dK mb bb x) 74)).rangeAt w.heap.size 0 (dK mb bb x).toList):=hJ (λj hj=>by
  rw[Nat.zero_add,bO N0.v];simp)
 have TH:Hid ((w.alloc (bg (dK mb bb x) 74)).there kb (n*12) (dK mb bb x).size):=hJ (by rw[dy,<-hkb];exact(h.below b0).there hn);have SZ:Hid ((prog.info? 74).map (·.size)=bh (dK mb bb x).size):=hJ (by rw[dy];kernel_rfl);have SL:Hid ((prog.info? 74).map (·.size)=bh (dK mb bb x).toList.length):=hJ (by rw[aB,dy];kernel_rfl);have H1:Hid ((dK mb bb x).all (·.oneCell')=true):=hJ (pA mb bb x);have GR:Hid ((dK mb bb x)[2]? =bh (aa az x.cN)):=hJ (by rw[kU mb bb x 2 bu];rfl);obtain⟨PA,hPA⟩:=hU (dK mb bb x);rw[hPA]at N0 BN B0 RG TH SZ SL H1 GR|-;rw[hkb]at BN|-;go_in
 go_upto_region 1 with(refine Dw rfl _ PA rfl rfl ?_)
 refine wp_region_still_tail 6 bw bw ?_;simp only[List.take_succ_cons,List.take_zero,List.drop_succ_cons,List.drop_zero]
 iterate 2 still_step
 refine wV rfl 74 _ rfl w.heap.size 0 rfl PA.toList _ RG.v Tryz.underlying74 rfl SL.v ?_;rw[Array.toArray_toList]
 iterate 3 still_step
 refine wpStill_nil ?_;go_upto_region 2 with(refine wpList_store_mid rfl 74 _ _ rfl kb (n*12) PA rfl rfl TH.v SZ.v H1.v ?_)
 have KL:Hid (∀i,us s i->s.A i<w.heap.size):=hJ (λi hi=>H.1.lt hi);have FIN0:Hid (bH ((w.alloc (bg PA 74)).drew.setCells kb (n*12) PA.toList) UE (Kn.dN s n mb bb x)/\dF (KB s) w ((w.alloc (bg PA 74)).drew.setCells kb (n*12) PA.toList)/\((w.alloc (bg PA 74)).drew.setCells kb (n*12) PA.toList).cell? ⟨w.heap.size,2,bj⟩=bh (aa az x.cN)/\w.heap.size<((w.alloc (bg PA 74)).drew.setCells kb (n*12) PA.toList).heap.size):=hJ (by
  have ls:w.heap.size<(w.alloc (bg PA 74)).heap.size:=by simp
  refine⟨BN.1,(dF.cC B0.v).drew.trans (dF.jW BN.2 (by rw[<-HK.v];exact⟨0,bS,rfl⟩)),?_,aD ls BN.2.size⟩;rw[aV (BN.2.block w.heap.size ls (by have:=KL.v 0 bS;rw[HK.v]at this;omega))];show(w.alloc (bg PA 74)).cell? ⟨w.heap.size,2,bj⟩=_;rw[bO N0.v];exact GR.v)
 refine cG (λW=>bH W UE (Kn.dN s n mb bb x)/\dF (KB s) w W/\W.cell? ⟨w.heap.size,2,bj⟩=bh (aa az x.cN)/\w.heap.size<W.heap.size) FIN0.v ?_;intro W1 hW1;have S1:=hJ hW1;obtain⟨bx,hbx⟩:=hU (w.heap.size);rw[hbx]at S1 KL|-;obtain⟨gz,hgz⟩:=hU (x.cN);have HGZ:=hJ hgz;have A0:Hid ((Kn.dN s n mb bb x).A 0=kb/\(Kn.dN s n mb bb x).A 1=s.A 1/\(Kn.dN s n mb bb x).A 3=s.A 3):=hJ ⟨(Kn.eG _ _ _ _ _ bu bu).trans HK.v,Kn.eG _ _ _ _ _ bu bu,Kn.eG _ _ _ _ _ bu bu⟩;obtain⟨p1,hp1⟩:=hU (s.A 1);obtain⟨p3,hp3⟩:=hU (s.A 3);have HP:Hid (s.A 1=p1/\s.A 3=p3/\p1≠bx/\p3≠bx):=hJ ⟨hp1,hp3,by have:=KL.v 1 bS;omega,by have:=KL.v 3 bS;omega⟩;rw[hp1,hp3]at A0;have c6:=S1.1.xE;rw[A0.1,A0.2.1]at c6;have EN:=hJ (IV p1 z (n:Int) s.k.sp d W1 (by have q:=S1.1.sp;rw[A0.2.1]at q;exact q) H.2);go_wp2_with fail
 refine EN.mono ?_;rintro e w5 ⟨rfl,t5,f5⟩;generalize (ao #[aa az (Sp.tJ s.k.sp z (n:Int):Int),bG (Sp.lD s.k.sp z (n:Int))])=ev2;have S2:Hid (bH w5 UE {Kn.dN s n mb bb x with k:={s.k.put n x with sp:=Sp.fK s.k.sp z (n:Int)}}/\dF (KB s) w w5/\w5.cell? ⟨bx,2,bj⟩=bh (aa az x.cN)/\bx<w5.heap.size):=hJ (by
  have q:=S1.1.x9 (by rw[A0.2.1];exact t5) (by rw[A0.2.1];exact f5);refine⟨q.1,S1.2.1.trans (dF.jW f5 (by rw[<-HP.1];exact⟨1,bS,rfl⟩)),?_,aD S1.2.2.2 f5.size⟩;rw[aV (f5.block bx S1.2.2.2 (bQ HP.2.2.1))];exact S1.2.2.1)
 go_upto_region 3 with fail
 have KC:Hid (∀W k,bH W UE {Kn.dN s n mb bb x with k:=k}->W.cell? ⟨bx,2,bj⟩=bh (aa az x.cN)->W.cell? ⟨kb,248,bj⟩=bh (ai (bh ⟨p3,0,bj⟩))/\W.cell? ⟨bx,2,bj⟩=bh (aa az gz)):=hJ (λW k hW e=>by
  have a:=hW.xD;rw[show({Kn.dN s n mb bb x with k:=k}:St).A 0=kb from A0.1,show({Kn.dN s n mb bb x with k:=k}:St).A 3=p3 from A0.2.2]at a;rw[HGZ.v]at e;exact⟨a,e⟩)
 have K0:=hJ (KC.v w5 _ S2.1 S2.2.2.1);have AT:=hJ (Wf.Dz p3 s.k.sc w5.drew (n:Int) gz 100 (by have q:=S2.1.drew.sc;rw[show({Kn.dN s n mb bb x with k:={s.k.put n x with sp:=Sp.fK s.k.sp z (n:Int)}}:St).A 3=p3 from A0.2.2]at q;exact q) ⟨by omega,bu⟩);obtain⟨y1,y2⟩:=K0.v;go_region_held3 (λw'=>w'.cell? ⟨kb,248,bj⟩=bh (ai (bh ⟨p3,0,bj⟩))/\w'.cell? ⟨bx,2,bj⟩=bh (aa az gz)) (first|exact K0.v|exact K4.v) (
  (go_at_call 143;refine AT.mono ?_;rintro e w6 ⟨⟨E6,rfl⟩,t6,f6⟩;have S4:Hid (bH w6 UE {Kn.dN s n mb bb x with k:={s.k.put n x with sp:=Sp.fK s.k.sp z (n:Int),sc:=Wf.dZ s.k.sc (n:Int) gz}}/\dF (KB s) w w6/\w6.cell? ⟨bx,2,bj⟩=bh (aa az x.cN)/\bx<w6.heap.size):=hJ (by
   have q:=S2.1.drew.kH (by rw[show({Kn.dN s n mb bb x with k:={s.k.put n x with sp:=Sp.fK s.k.sp z (n:Int)}}:St).A 3=p3 from A0.2.2];exact t6) (by rw[show({Kn.dN s n mb bb x with k:={s.k.put n x with sp:=Sp.fK s.k.sp z (n:Int)}}:St).A 3=p3 from A0.2.2];exact f6);refine⟨q.1,S2.2.1.drew.trans (dF.jW f6 (by rw[<-HP.2.1];exact⟨3,bS,rfl⟩)),?_,aD S2.2.2.2 f6.size⟩;rw[aV (f6.block bx S2.2.2.2 (bQ HP.2.2.2))];exact S2.2.2.1);have K4:=hJ (KC.v w6 _ S4.1 S4.2.2.1)))
 generalize bG E6=ev3;have c8:=(KC.v w6 _ S4.1 S4.2.2.1).1;have WK:=hJ (Wf.Dp p3 (Wf.dZ s.k.sc (n:Int) gz) w6 (n:Int) true (by have q:=S4.1.sc;rw[show({Kn.dN s n mb bb x with k:={s.k.put n x with sp:=Sp.fK s.k.sp z (n:Int),sc:=Wf.dZ s.k.sc (n:Int) gz}}:St).A 3=p3 from A0.2.2]at q;exact q));go_wp2_with fail
 refine WK.mono ?_;rintro e w7 ⟨⟨E7,rfl⟩,t7,f7⟩;obtain⟨m',wk⟩:∃m',Wf.iY (Wf.dZ s.k.sc (n:Int) gz) (n:Int) true m':=⟨_,rfl⟩;rw[<-wk]at t7;generalize bG E7=ev4;have S5:Hid (Wf.iY (Wf.dZ s.k.sc (n:Int) x.cN) (n:Int) true m'/\bH w7 UE {Kn.dN s n mb bb x with k:=Kn.iO s.k n x z m'}/\dF (KB s) w w7):=hJ (by
  have q:=S4.1.kH (by rw[show({Kn.dN s n mb bb x with k:={s.k.put n x with sp:=Sp.fK s.k.sp z (n:Int),sc:=Wf.dZ s.k.sc (n:Int) gz}}:St).A 3=p3 from A0.2.2];exact t7) (by rw[show({Kn.dN s n mb bb x with k:={s.k.put n x with sp:=Sp.fK s.k.sp z (n:Int),sc:=Wf.dZ s.k.sc (n:Int) gz}}:St).A 3=p3 from A0.2.2];exact f7);exact⟨by rw[HGZ.v];exact wk,q.1,S4.2.1.trans (dF.jW f7 (by rw[<-HP.2.1];exact⟨3,bS,rfl⟩))⟩)
 go_wp2_with fail
 go_end0
 exact⟨m',rfl,S5.v⟩
end
structure Kn.LI (N:Nat)(d:Nat->Nat)(k:Kp)(n z q:Nat):Prop where
 vi:VI (λ_=>False) N d k
 fi:∀m,m<20->m≠n->Kn.lv k m=true->Kn.hd k m≠m->Sg.eV (k.p m).box 0 0
 hn:n<20
 lv:Kn.lv k n=true
 ho:k.sp.of n=z+1
 pr:n≠0->q<20/\q≠n/\(k.p n).par=(q:Int)
theorem Kn.LI.has{N:Nat}{d:Nat->Nat}{k:Kp}{n z q:Nat}(h:Kn.LI N d k n z q):(k.p n).has=true:=h.vi.kj.lv n h.hn (λx=>x) (by have:=h.lv;unfold Kn.lv at this;simpa using this)
def Kn.uR(k:Kp)(n z q:Nat)(k':Kp):Prop:=∃m,Sg.eV (k.p n).box 0 m/\((m=0/\k'=k)\/(m≠0/\Kn.lS k n (128+(m:Int)) z q k'))
def Kn.qq(k:Kp)(n z q:Nat)(k':Kp):Prop:=(Kn.hd k n=n/\k'=k)\/(Kn.hd k n≠n/\Kn.uR k n z q k')
section
variable (UE N:Nat)(d:Nat->Nat)(s:St)(w:bD)
theorem zU(hN:N<=900)(n z q:Nat)(n0:n≠0)(h:bH w UE s)(hi:Kn.LI N d s.k n z q):
  Calls prog 99 #[ai (bh ⟨s.A 0,0,bj⟩),aa az n] w λe w'=>∃k',e=bf (ao #[])/\Kn.uR s.k n z q k'/\bH w' UE {s with k:=k'}/\KF s w {s with k:=k'} w':=by
 have hn:=hi.hn;have hnI:(n:Int)<20:=bu
 have c5:=h.sd n hn hi.has;have EN:=hJ (BA (s.A (29+n)) (s.k.p n).box w (h.bx n hn hi.has));have H:=hJ (aK h (aK hi hN));obtain⟨kb,hkb⟩:=hU (s.A 0);have HK:=hJ hkb;rw[hkb]at c5|-;generalize s.A (29+n)=bb at*;go_in
 go_wp2_with fail
 refine EN.mono ?_;rintro e w1 ⟨m,rfl,hm,hb⟩;have S1:Hid (bH w1 UE s/\KF s w s w1/\Sg.eV (s.k.p n).box 0 m):=hJ ⟨H.1.below hb,KF.below hb,hm⟩;have m8:=hm.le;by_cases m0:m=0
 .subst m0;rw[show Sg.mQ 0=false from rfl];go_wp2_with fail
  go_end0
  exact⟨s.k,rfl,⟨0,S1.2.2, .inl ⟨rfl,rfl⟩⟩,S1.1,S1.2.1⟩
 .rw[show Sg.mQ m=true by unfold Sg.mQ;simp;omega];have PR:=H.2.1.pr n0;have EE:=hJ (wm UE N d H.2.2 s w1 n z q (128+(m:Int)) S1.1 H.2.1.vi hn n0 H.2.1.lv H.2.1.ho PR.1 PR.2.1 PR.2.2 H.2.1.fi);rw[HK.v]at EE;have hw:IntKind.i64.wrap (128+(m:Int))=128+(m:Int):=aN _ ⟨by omega,bu⟩;have M0:=hJ m0;go_wp2_with fail
  refine EE.mono ?_;rintro e w2 ⟨k',rfl,et,ka,kf⟩;have S2:Hid (Kn.uR s.k n z q k'/\bH w2 UE {s with k:=k'}/\KF s w {s with k:=k'} w2):=hJ ⟨⟨m,S1.2.2, .inr ⟨M0.v,et⟩⟩,ka,S1.2.1.trans kf⟩;go_wp2_with fail
  go_end0
  exact⟨k',rfl,S2.v⟩
theorem sD(hN:N<=900)(n z q:Nat)(n0:n=0->Kn.hd s.k 0=0)(h:bH w UE s)(hi:Kn.LI N d s.k n z q):
  Calls prog 101 #[ai (bh ⟨s.A 0,0,bj⟩),aa az n] w λe w'=>∃k',e=bf (ao #[])/\Kn.qq s.k n z q k'/\bH w' UE {s with k:=k'}/\KF s w {s with k:=k'} w':=by
 obtain⟨th,hth⟩:=hU (decide (Kn.hd s.k n=n));have IH:=hJ (lP UE s w n h th hth);cases th
 .have hd:=of_decide_eq_false hth;have LK:=hJ (zU UE N d s w hN n z q (λe=>by subst e;exact hd (n0 rfl)) h hi);have HD:=hJ hd;generalize s.A 0=kb at*;go_in
  go_wp2_with fail
  refine sC IH.v ?_;rintro w1 hw;subst w1;go_wp2_with fail
  refine LK.mono ?_;rintro e w1 ⟨k',rfl,et,ka,kf⟩;have S2:Hid (Kn.qq s.k n z q k'/\bH w1 UE {s with k:=k'}/\KF s w {s with k:=k'} w1):=hJ ⟨.inr ⟨HD.v,et⟩,ka,kf⟩;go_wp2_with fail
  go_end0
  exact⟨k',rfl,S2.v⟩
 .have HD:=hJ (aK (of_decide_eq_true hth) h);generalize s.A 0=kb at*;go_in
  go_wp2_with fail
  refine sC IH.v ?_;rintro w1 hw;subst w1;go_wp2_with fail
  go_end0
  exact⟨s.k,rfl, .inl ⟨HD.1,rfl⟩,HD.2,KF.refl _ _⟩
def Kn.AJ(k:Kp)(z:Int)(m:Nat)(E:Int)(k':Kp):Prop:=(Kn.bT k z≠0/\E=Kn.bT k z/\m=0/\k'=k)\/(Kn.bT k z=0/\∃n j:Nat,z=n/\n<20/\Sg.eV (k.p n).box 2 j/\k'=k.put n {k.p n with box:=Sg.uz (k.p n).box j}/\m=j/\E=if j=0 then 2 else 0)
theorem GW(z:Int)(h:bH w UE s)(hl:∀n,n<20->Kn.lv s.k n=true->(s.k.p n).has=true):
  Calls prog 44 #[ai (bh ⟨s.A 0,0,bj⟩),aa az z] w λe w'=>∃(m:Nat) (E:Int) (k':Kp),e=bf (ao #[aa az m,bG E])/\Kn.AJ s.k z m E k'/\bH w' UE {s with k:=k'}/\KF s w {s with k:=k'} w':=by
 have AC:=hJ (dv UE s w z h);have H:=hJ h;by_cases a:Kn.bT s.k z=0
 .obtain⟨n,rfl,hn,hlv⟩:=Kn.fq a;have hh:=hl n hn hlv;have c5:=h.sd n hn hh;have TK:=hJ (No (s.A (29+n)) (s.k.p n).box w (h.bx n hn hh));have HA:=hJ (aK a hh);rw[a,bB,gS]at AC;obtain⟨kb,hkb⟩:=hU (s.A 0);obtain⟨bb,hbb⟩:=hU (s.A (29+n));have HB:=hJ hbb;rw[hkb]at AC c5|-;rw[hbb]at c5 TK;go_in
  go_wp2_with fail
  refine sC AC.v ?_;rintro w1 hw;subst w1;go_wp2_with fail
  refine TK.mono ?_;rintro e w1 ⟨j,rfl,hj,u1,f1⟩;have S1:Hid (Sg.eV (s.k.p n).box 2 j/\bH w1 UE {s with k:=s.k.put n {s.k.p n with box:=Sg.uz (s.k.p n).box j}}/\KF s w {s with k:=s.k.put n {s.k.p n with box:=Sg.uz (s.k.p n).box j}} w1):=hJ (by
   rw[<-HB.v]at u1 f1;exact⟨hj,H.vl hn HA.2 u1 f1⟩)
  by_cases j0:j=0
  .subst j0;rw[show Sg.mQ 0=false from rfl];go_wp2
   go_ret2
   exact⟨0,2,_,rfl, .inr ⟨HA.1,n,0,rfl,hn,S1.1,rfl,rfl,rfl⟩,S1.2⟩
  .rw[show Sg.mQ j=true by unfold Sg.mQ;simp;omega];have J0:=hJ j0;go_wp2
   go_ret2
   exact⟨j,0,_,by rw[bB];rfl, .inr ⟨HA.1,n,j,rfl,hn,S1.1,rfl,rfl,by rw[aI J0.v]⟩,S1.2⟩
 .have FIN:Hid (Kn.AJ s.k z 0 (Kn.bT s.k z) s.k):=hJ (.inl ⟨a,rfl,rfl,rfl⟩);have HE:=hJ (bC a);rw[bC a]at AC;generalize fJ (s.A 0) z (Kn.bT s.k z)=ap at*;generalize s.A 0=kb at*;go_in
  go_wp2_with fail
  refine sC AC.v ?_;rintro w1 hw;subst w1;go_wp2
  go_ret2
  exact⟨0,Kn.bT s.k z,s.k,by rw[HE.v];rfl,FIN.v,H.v,KF.refl _ _⟩
end
namespace Kn
def YQ(k:Kp)(n y q:Nat):Prop:=k.sp.of n=y+1/\(n≠0->(k.p n).par=(q:Int))
def dh(k:Kp)(n:Nat)(X:Nat->Sg.S1):Kp:=k.put n {k.p n with box:=X}
theorem KI.has{N:Nat}{d:Nat->Nat}{k:Kp}(h:KI N d k){n:Nat}(hn:n<20)(l:lv k n=true):(k.p n).has=true:=h.vi.kj.lv n hn (λx=>x) (by unfold lv at l;simpa using l)
theorem KI.li{N:Nat}{d:Nat->Nat}{k:Kp}(h:KI N d k){n:Nat}(hn:n<20)(l:lv k n=true)(X:Nat->Sg.S1):∃z q,LI N d (dh k n X) n z q:=by
 have s1:(k.p n).st=1:=by unfold lv at l;simpa using l
 have o:=(h.vi.kj.of n hn).2 bu;have e:(dh k n X).p n={k.p n with box:=X}:=bF _ _ _;have vi:VI (λ_=>False) N d (dh k n X):=⟨h.vi.kj.Cz rfl rfl rfl,h.vi.iv,h.vi.hs⟩;have fi:∀m,m<20->m≠n->lv (dh k n X) m=true->hd (dh k n X) m≠m->Sg.eV ((dh k n X).p m).box 0 0:=λm hm mn lm hm2=>by
  have e2:(dh k n X).p m=k.p m:=bM _ _ _ _ mn;rw[e2];refine h.fi m hm ?_ hm2;unfold lv at lm|-;rw[e2]at lm;exact lm
 have eP:lv (dh k n X) n=true:=by unfold lv;rw[e];exact l
 by_cases n0:n=0
 .exact⟨k.sp.of n-1,0,vi,fi,hn,eP,(by show k.sp.of n=_;omega),λc=>aZ n0 c⟩
 .obtain⟨q,fU,qn,hp⟩:=h.pr n hn n0 bu;exact⟨k.sp.of n-1,q,vi,fi,hn,eP,(by show k.sp.of n=_;omega),λ_=>⟨fU,qn,by rw[e];exact hp⟩⟩
theorem LI.yq{N:Nat}{d:Nat->Nat}{k:Kp}{n y q:Nat}{X:Nat->Sg.S1}(h:LI N d (dh k n X) n y q):YQ k n y q:=⟨h.ho,λn0=>by have:=(h.pr n0).2.2;unfold dh at this;rw[bF]at this;exact this⟩
end Kn
section
variable (UE N:Nat)(d:Nat->Nat)(s:St)(w:bD)
def Kn.xd(k:Kp)(z c:Int)(on:Bool)(E:Int)(k':Kp):Prop:=(Kn.bT k z≠0/\E=Kn.bT k z/\k'=k)\/(Kn.bT k z=0/\∃n:Nat,z=n/\n<20/\E=Sg.j7 c/\((Sg.j7 c≠0/\k'=Kn.dh k n (Sg.ny (k.p n).box c on))\/(Sg.j7 c=0/\∃y q,Kn.YQ k n y q/\Kn.qq (Kn.dh k n (Sg.ny (k.p n).box c on)) n y q k')))
theorem GS(hN:N<=900)(z c:Int)(on:Bool)(h:bH w UE s)(hi:Kn.KI N d s.k):
  Calls prog 42 #[ai (bh ⟨s.A 0,0,bj⟩),aa az z,aa az c,ar on] w λe w'=>∃(E:Int) (k':Kp),e=bf (bG E)/\Kn.xd s.k z c on E k'/\bH w' UE {s with k:=k'}/\KF s w {s with k:=k'} w':=by
 have AC:=hJ (dv UE s w z h);have H:=hJ (aK h (aK hi hN));by_cases a:Kn.bT s.k z=0
 .obtain⟨n,rfl,hn,hlv⟩:=Kn.fq a;have hh:=hi.has hn hlv;have c5:=h.sd n hn hh;have TK:=hJ (Hv (s.A (29+n)) c on (s.k.p n).box w (h.bx n hn hh));have HA:=hJ (aK a (aK hh hlv));rw[a,bB,gS]at AC;obtain⟨kb,hkb⟩:=hU (s.A 0);have HK:=hJ hkb;obtain⟨bb,hbb⟩:=hU (s.A (29+n));have HB:=hJ hbb;rw[hkb]at AC c5|-;rw[hbb]at c5 TK;go_in
  go_wp2_with fail
  refine sC AC.v ?_;rintro w1 hw;subst w1;go_wp2_with fail
  refine sC TK.v ?_;rintro w1 ⟨u1,f1⟩;have S1:Hid (bH w1 UE {s with k:=Kn.dh s.k n (Sg.ny (s.k.p n).box c on)}/\KF s w {s with k:=Kn.dh s.k n (Sg.ny (s.k.p n).box c on)} w1):=hJ (by
   rw[<-HB.v]at u1 f1;exact H.1.vl hn HA.2.1 u1 f1)
  by_cases j0:Sg.j7 c=0
  .have J0:=hJ j0;rw[j0,bB];obtain⟨y,q,li⟩:=H.2.1.li hn HA.2.2 (Sg.ny (s.k.p n).box c on);have LB:=hJ (sD UE N d {s with k:=Kn.dh s.k n (Sg.ny (s.k.p n).box c on)} w1 H.2.2 n y q (λ_=>H.2.1.h0) S1.1 li);rw[show({s with k:=Kn.dh s.k n (Sg.ny (s.k.p n).box c on)}:St).A 0=kb from HK.v]at LB;have YY:=hJ li.yq;go_wp2_with fail
   refine LB.mono ?_;rintro e w2 ⟨k',rfl,et,ka,kf⟩;have S2:Hid (Kn.xd s.k (n:Int) c on 0 k'/\bH w2 UE {s with k:=k'}/\KF s w {s with k:=k'} w2):=hJ ⟨.inr ⟨HA.1,n,rfl,hn,J0.symm, .inr ⟨J0.v,y,q,YY.v,et⟩⟩,ka,S1.2.trans kf⟩;go_wp2
   go_ret
   exact⟨0,k',by rw[bB];rfl,S2.v⟩
  .have J0:=hJ j0;have HE:=hJ (bC j0);rw[bC j0];go_wp2
   go_ret
   exact⟨Sg.j7 c,_,by rw[HE.v];rfl, .inr ⟨HA.1,n,rfl,hn,rfl, .inl ⟨J0.v,rfl⟩⟩,S1.v⟩
 .have FIN:Hid (Kn.xd s.k z c on (Kn.bT s.k z) s.k):=hJ (.inl ⟨a,rfl,rfl⟩);have HE:=hJ (bC a);rw[bC a]at AC;generalize fJ (s.A 0) z (Kn.bT s.k z)=ap at*;generalize s.A 0=kb at*;go_in
  go_wp2_with fail
  refine sC AC.v ?_;rintro w1 hw;subst w1;go_wp2
  go_ret
  exact⟨Kn.bT s.k z,s.k,by rw[HE.v];rfl,FIN.v,H.1,KF.refl _ _⟩
def Kn.xe(k:Kp)(z c:Int)(mu:Int)(E:Int)(k':Kp):Prop:=(Kn.bT k z≠0/\E=Kn.bT k z/\k'=k)\/(Kn.bT k z=0/\∃n:Nat,z=n/\n<20/\E=Sg.jd c mu/\((Sg.jd c mu≠0/\k'=Kn.dh k n (Sg.lE (k.p n).box c mu))\/(Sg.jd c mu=0/\∃y q,Kn.YQ k n y q/\Kn.qq (Kn.dh k n (Sg.lE (k.p n).box c mu)) n y q k')))
theorem Jh(hN:N<=900)(z c:Int)(mu:Int)(h:bH w UE s)(hi:Kn.KI N d s.k):
  Calls prog 43 #[ai (bh ⟨s.A 0,0,bj⟩),aa az z,aa az c,aa az mu] w λe w'=>∃(E:Int) (k':Kp),e=bf (bG E)/\Kn.xe s.k z c mu E k'/\bH w' UE {s with k:=k'}/\KF s w {s with k:=k'} w':=by
 have AC:=hJ (dv UE s w z h);have H:=hJ (aK h (aK hi hN));by_cases a:Kn.bT s.k z=0
 .obtain⟨n,rfl,hn,hlv⟩:=Kn.fq a;have hh:=hi.has hn hlv;have c5:=h.sd n hn hh;have TK:=hJ (Pm (s.A (29+n)) c mu (s.k.p n).box w (h.bx n hn hh));have HA:=hJ (aK a (aK hh hlv));rw[a,bB,gS]at AC;obtain⟨kb,hkb⟩:=hU (s.A 0);have HK:=hJ hkb;obtain⟨bb,hbb⟩:=hU (s.A (29+n));have HB:=hJ hbb;rw[hkb]at AC c5|-;rw[hbb]at c5 TK;go_in
  go_wp2_with fail
  refine sC AC.v ?_;rintro w1 hw;subst w1;go_wp2_with fail
  refine sC TK.v ?_;rintro w1 ⟨u1,f1⟩;have S1:Hid (bH w1 UE {s with k:=Kn.dh s.k n (Sg.lE (s.k.p n).box c mu)}/\KF s w {s with k:=Kn.dh s.k n (Sg.lE (s.k.p n).box c mu)} w1):=hJ (by
   rw[<-HB.v]at u1 f1;exact H.1.vl hn HA.2.1 u1 f1)
  by_cases j0:Sg.jd c mu=0
  .have J0:=hJ j0;rw[j0,bB];obtain⟨y,q,li⟩:=H.2.1.li hn HA.2.2 (Sg.lE (s.k.p n).box c mu);have LB:=hJ (sD UE N d {s with k:=Kn.dh s.k n (Sg.lE (s.k.p n).box c mu)} w1 H.2.2 n y q (λ_=>H.2.1.h0) S1.1 li);rw[show({s with k:=Kn.dh s.k n (Sg.lE (s.k.p n).box c mu)}:St).A 0=kb from HK.v]at LB;have YY:=hJ li.yq;go_wp2_with fail
   refine LB.mono ?_;rintro e w2 ⟨k',rfl,et,ka,kf⟩;have S2:Hid (Kn.xe s.k (n:Int) c mu 0 k'/\bH w2 UE {s with k:=k'}/\KF s w {s with k:=k'} w2):=hJ ⟨.inr ⟨HA.1,n,rfl,hn,J0.symm, .inr ⟨J0.v,y,q,YY.v,et⟩⟩,ka,S1.2.trans kf⟩;go_wp2
   go_ret
   exact⟨0,k',by rw[bB];rfl,S2.v⟩
  .have J0:=hJ j0;have HE:=hJ (bC j0);rw[bC j0];go_wp2
   go_ret
   exact⟨Sg.jd c mu,_,by rw[HE.v];rfl, .inr ⟨HA.1,n,rfl,hn,rfl, .inl ⟨J0.v,rfl⟩⟩,S1.v⟩
 .have FIN:Hid (Kn.xe s.k z c mu (Kn.bT s.k z) s.k):=hJ (.inl ⟨a,rfl,rfl⟩);have HE:=hJ (bC a);rw[bC a]at AC;generalize fJ (s.A 0) z (Kn.bT s.k z)=ap at*;generalize s.A 0=kb at*;go_in
  go_wp2_with fail
  refine sC AC.v ?_;rintro w1 hw;subst w1;go_wp2
  go_ret
  exact⟨Kn.bT s.k z,s.k,by rw[HE.v];rfl,FIN.v,H.1,KF.refl _ _⟩

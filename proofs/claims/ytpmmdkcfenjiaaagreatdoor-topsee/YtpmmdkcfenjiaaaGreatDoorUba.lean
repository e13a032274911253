import Derived.Test.YtpmmdkcfenjiaaaGreatDoorUaz
set_option maxRecDepth 100000
set_option maxHeartbeats 4000000
set_option linter.unusedVariables false
set_option linter.unusedSimpArgs false
namespace Go.Proofs.YtpmmdkcfenjiaaaGreatDoor
open Value renaming int->aa,pointer->ai,slice->aj,tuple->ao,bool->ar,agg->au,nilIface->ay
open IntKind renaming i64->az
open Ending renaming returned->bf
open Obj renaming cells->bg
open Option renaming some->bh,none->bj
open Tryz (prog)
open Go.RowKit
open Tr (Fo Nd)
open Mo (Wh Mt)
open Mv (Me Bk)
open Kn (Pr Kp St us KB KJ VI EI)
namespace Sp
theorem Cp{t:T}{z m:Nat}(h:mem t z m):m∈dX t z:=by
 obtain⟨p,p21,pw⟩:=h;unfold dX;exact List.mem_map.2 ⟨p,bX.2 ⟨by simpa using p21,by unfold iL;apply aO;omega⟩,bu⟩
theorem JE{t:T}{z m:Nat}(hz:z<6)(hh:t.here z=true)(h:mem t z m):m∈dL t (z:Int):=by
 unfold dL;rw[gw hz hh,aJ rfl,hZ];exact Cp h
theorem Aa{t:T}{d:Nat->Nat}(hI:Inv t d){z m:Nat}(hz:z<6)(hh:t.here z=true)(h:m∈dL t (z:Int)):m<20/\mem t z m:=by
 unfold dL at h;rw[gw hz hh,aJ rfl,hZ]at h;obtain⟨i,hi⟩:=List.getElem?_of_mem h;exact rC hi (λp hp=>hI.oK z p hz hp)
end Sp
namespace Kn
theorem eP{k:Kp}{n:Nat}:lv k n=true↔(k.p n).st=1:=by unfold lv;simp
structure PI (k:Kp)(m q:Nat):Prop where
 fU:q<20
 qm:q≠m
 pq:(k.p m).par=(q:Int)
 lq:lv k q=true
 oq:∃y,k.sp.of q=y+1/\Sp.mem k.sp y m/\(hd k m=m->k.sp.of m≠y+1)
structure KH (N:Nat)(d:Nat->Nat)(k:Kp):Prop where
 ki:KI N d k
 pp:∀m,m<20->m≠0->(k.p m).st≠0->∃q,PI k m q
 l0:lv k 0=true
 p0:(k.p 0).par= -1
 ge:∀m z,m<20->(k.p m).st=2->hd k m=m->k.sp.of m=z+1->∀x,x<20->Sp.mem k.sp z x->x=m
section
variable {N:Nat}{d:Nat->Nat}{k k1 k2 k3 k':Kp}{n z:Nat}
theorem KH.of(h:KH N d k){m:Nat}(hm:m<20)(s:(k.p m).st≠0):∃y,k.sp.of m=y+1:=⟨k.sp.of m-1,by have:=(h.ki.vi.kj.of m hm).2 s;omega⟩
theorem KH.tV(h:KH N d k)(hi:KI N d k')(sp:k'.sp=k.sp)(hp:∀m,(k'.p m).st=(k.p m).st/\(k'.p m).par=(k.p m).par):KH N d k':=by
 have e:∀m,hd k' m=hd k m:=λm=>by unfold hd;rw[sp]
 have l:∀m,lv k' m=lv k m:=λm=>by unfold lv;rw[(hp m).1]
 refine⟨hi,λm hm m0 s=>?_,by rw[l];exact h.l0,by rw[(hp 0).2];exact h.p0,λm z hm s hd1 o x hx xm=>?_⟩
 .rw[(hp m).1]at s;obtain⟨q,a⟩:=h.pp m hm m0 s;refine⟨q,a.fU,a.qm,by rw[(hp m).2];exact a.pq,by rw[l];exact a.lq,?_⟩;rw[sp,e];exact a.oq
 .rw[(hp m).1]at s;rw[e]at hd1;rw[sp]at o xm;exact h.ge m z hm s hd1 o x hx xm
structure MQ (k:Kp)(n z:Nat)(k3:Kp):Prop where
 ot:∀q,q<20->q≠n->(k3.p q=k.p q/\k3.sp.of q=k.sp.of q)\/(k3.p q=Pr.no/\k3.sp.of q=0/\Sp.mem k.sp z q/\hd k n=n)
 wh:∀s p,s<6->p<21->k3.sp.bR s p=k.sp.bR s p\/k3.sp.bR s p=0
 wk:∀s p m,s<6->p<21->m<20->k.sp.bR s p=m+1->k3.sp.of m≠0->k3.sp.bR s p=m+1
 al:hd k n=n->∀x,x<20->Sp.mem k3.sp z x->x=n
 sa:hd k n≠n->k3.sp=k.sp
theorem VI.mq(hv:VI (λ_=>False) N d k)(hn:n<20)(n0:n≠0)(l:lv k n=true)(ho:k.sp.of n=z+1){c:Int}(s1:gZ k n k1)(mt:xg 6 (eI k1 n c) n z k3):MQ k n z k3:=by
 obtain⟨a,sp,tb,hh,s0,fT⟩:=hv.first hn (λx=>x) ho (λ_=>s1) (λx=>by rw[l]at x;cases x);have oth2:∀q,q≠n->(eI k1 n c).p q=k.p q:=λq e=>(bM _ _ _ _ e).trans (fT q e);have hd2:∀q,hd (eI k1 n c) q=hd k q:=λq=>by
  show hd k1 q=hd k q;unfold hd;rw[sp]
 have gs:(eI k1 n c).sp=k.sp:=sp;rcases mt with⟨c1,rfl⟩|⟨ih,j,it⟩
 .rw[hd2 n]at c1;exact⟨λq _ e=> .inl ⟨oth2 q e,by rw[gs]⟩,λ_ _ _ _=> .inl (by rw[gs]),λ_ _ _ _ _ _ e _=>by rw[gs];exact e,λe=>aZ e c1,λ_=>gs⟩
 .rw[hd2 n]at ih;have ei:EI (λm=>False\/m=n) N d n z k1:=hv.ei hn n0 (λx=>x) ho ih (λ_ _ x=>aZ x (λx=>x)) (λ_=>s1) (λx=>by rw[l]at x;cases x);obtain⟨b,g,e,len⟩:=EI.iter (rQ 6) j _ (ei.gone s0 hh c) it;refine⟨λq hq e=>?_,λs p hs hp=>by have:=g.wh s p hs hp;rw[gs]at this;exact this,λs p m hs hp hm=>by have:=g.wk s p m hs hp hm;rw[gs]at this;exact this,λ_ x hx xm=>?_,λe=>aZ ih e⟩
  .rcases g.kp q hq with w|w
   .rw[oth2 q e,gs]at w;exact .inl w
   .rw[gs]at w;exact .inr ⟨w.1,w.2.1,w.2.2,ih⟩
  .obtain⟨p,p21,pw⟩:=xm;rw[b.dX]at len;have p1:=Sp.wv b.hw len p p21 bu;subst p1;have:=b.hw;omega
theorem MQ.head(g:MQ k n z k3){d':Nat->Nat}(h:VI (λ_=>False) N d k){X:Nat->Prop}(h3:VI X N d' k3){m:Nat}(hm:m<20)(o:k3.sp.of m=k.sp.of m)(o0:k.sp.of m≠0):hd k3 m=m↔hd k m=m:=by
 obtain⟨y,hy⟩:∃y,k.sp.of m=y+1:=⟨k.sp.of m-1,bu⟩;have y6:=(h.iv.cO hm hy).2.1;rw[iK h.iv h.hs hm hy,iK h3.iv h3.hs hm (by rw[o];exact hy)];constructor
 .intro e;rcases g.wh y 1 y6 bu with w|w
  .rw[<-w];exact e
  .rw[w]at e;omega
 .intro e;exact g.wk y 1 m y6 bu hm e (by rw[o];exact o0)
theorem MQ.mem(g:MQ k n z k3){s m:Nat}(hs:s<6)(hm:m<20)(e:Sp.mem k.sp s m)(o:k3.sp.of m≠0):Sp.mem k3.sp s m:=by
 obtain⟨p,p21,pw⟩:=e;exact⟨p,p21,g.wk s p m hs p21 hm pw o⟩
theorem MQ.back(g:MQ k n z k3){s m:Nat}(hs:s<6)(e:Sp.mem k3.sp s m):Sp.mem k.sp s m:=by
 obtain⟨p,p21,pw⟩:=e;rcases g.wh s p hs p21 with c|c
 .exact⟨p,p21,by rw[<-c];exact pw⟩
 .rw[c]at pw;omega
theorem KH.end(h:KH N d k)(hn:n<20)(n0:n≠0)(l:lv k n=true)(ho:k.sp.of n=z+1){q:Nat}(hq:(k.p n).par=(q:Int)){c:Int}(et:lS k n c z q k'):KH N d k':=by
 obtain⟨k1,k3,s1,mt,rfl⟩:=et;have hv:=h.ki.vi;have md:=hv.yY hn n0 l ho s1 mt;have mq:=hv.mq hn n0 l ho s1 mt;have z6:=(hv.iv.cO hn ho).2;obtain⟨q',pn⟩:=h.pp n hn n0 (by rw[eP.1 l];omega);obtain rfl:q=q':=by have:=pn.pq;omega
 have fU:=pn.fU;have qn:=pn.qm;have vi3:VI (λ_=>False) N d k3:=⟨⟨md.vi.kj.sp,md.vi.kj.gr,md.vi.kj.me,md.vi.kj.wx,md.vi.kj.rf,md.vi.kj.ok,md.vi.kj.tb,md.vi.kj.st,md.vi.kj.hs,λm hm _ s=>md.vi.kj.lv m hm (λx=>x.elim id (λe=>by subst e;rw[md.pn.1]at s;omega)) s,md.vi.kj.of,md.vi.kj.ht,md.vi.kj.nm⟩,md.vi.iv,md.vi.hs⟩;have left:∀m,m<20->(k3.p m).st≠0->m≠n->k3.p m=k.p m/\k3.sp.of m=k.sp.of m/\k.sp.of m≠0:=λm hm s mn=>by
  rcases mq.ot m hm mn with⟨a,b⟩|⟨a,_⟩
  .exact⟨a,b,(hv.kj.of m hm).2 (by rw[<-a];exact s)⟩
  .rw[a]at s;exact aZ rfl s
 have outs:∀m,m<20->(k3.p m).st≠0->m≠n->hd k n=n->¬Sp.mem k.sp z m:=λm hm s mn e c1=>by
  have:=left m hm s mn;exact mn (mq.al e m hm (mq.mem z6.1 hm c1 (by rw[this.2.1];exact this.2.2)))
 have stay:∀m x,m<20->(k3.p m).st≠0->PI k m x->x≠n->k3.p x=k.p x/\k3.sp.of x=k.sp.of x:=λm x hm s a xn=>by
  rcases mq.ot x a.fU xn with b|⟨_,_,b,e⟩
  .exact b
  .exfalso;obtain⟨y,oy,my,hy⟩:=a.oq;by_cases mn:m=n
   .subst mn;exact hv.iv.Ad hn a.fU ho oy b (λe2=>hy e (by rw[ho,e2])) my
   .exact outs m hm s mn e (hv.iv.Cq z6.1 a.fU hm oy b my)
 have hdn:∀m,m<20->(k3.p m).st≠0->(hd k3 m=m↔hd k m=m):=λm hm s=>by
  by_cases mn:m=n
  .subst mn;exact mq.head hv vi3 hm (by rw[md.ho,ho]) bu
  .have:=left m hm s mn;exact mq.head hv vi3 hm this.2.1 this.2.2
 have pi3:∀m x,m<20->(k3.p m).st≠0->PI k m x->x≠n->(k3.p m).par=(x:Int)->PI k3 m x:=λm x hm s a xn pe=>by
  have b:=stay m x hm s a xn;obtain⟨y,oy,my,hy⟩:=a.oq;have om:k3.sp.of m=k.sp.of m/\k.sp.of m≠0:=by
   by_cases mn:m=n
   .subst mn;rw[md.ho,ho];exact⟨rfl,bu⟩
   .exact(left m hm s mn).2
  refine⟨a.fU,a.qm,pe,eP.2 (by rw[b.1];exact eP.1 a.lq),y,by rw[b.2];exact oy,mq.mem (hv.iv.cO a.fU oy).2.1 hm my (by rw[om.1];exact om.2),λe=>?_⟩;rw[om.1];exact hy ((hdn m hm s).1 e)
 have ini:Sp.dc k3.sp (n:Int)=z:=Sp.gM hn md.ho;have z63:=(vi3.iv.cO hn md.ho).2;have inC:∀m,m∈iR k3 n->m<20/\Sp.mem k3.sp z m/\(k3.p m).par=(n:Int):=λm hm=>by
  have a:=hm;unfold iR iQ at a;rw[ini]at a;have b:=Sp.Aa vi3.iv z63.1 z63.2 (bX.1 a).1;exact⟨b.1,b.2,u3 m hm⟩
 obtain⟨hh,h20,hw,hof⟩:=vi3.hs.hd z z63.1 z63.2;have fh:Sp.eH k3.sp (z:Int) 1=hh:=Sp.N3 z63.1 z63.2 hw;rw[fh];have pp4:∀m,m<20->m≠0->(k3.p m).st≠0->∃x,PI (gH k3 (iR k3 n) (hh:Nat)) m x:=λm hm m0 s=>by
  have sk:(k.p m).st≠0:=by
   by_cases mn:m=n
   .subst mn;rw[eP.1 l];omega
   .rw[<-(left m hm s mn).1];exact s
  obtain⟨x,a⟩:=h.pp m hm m0 sk;have p3:(k3.p m).par=(x:Int):=by
   by_cases mn:m=n
   .subst mn;rw[md.pn.2.2.1];exact a.pq
   .rw[(left m hm s mn).1];exact a.pq
  by_cases xn:x=n
  .subst xn;have mn:m≠x:=λe=>a.qm e.symm;have lm:=left m hm s mn;obtain⟨y,oy,my,hy⟩:=a.oq;obtain rfl:y=z:=bu
   have nh:hd k x≠x:=λe=>outs m hm s mn e my;have mm:Sp.mem k3.sp y m:=mq.mem z6.1 hm my (by rw[lm.2.1];exact lm.2.2);have mC:m∈iR k3 x:=by
    unfold iR iQ;rw[ini];exact bX.2 ⟨Sp.JE z63.1 z63.2 mm,aO p3⟩
   have hx:hh≠x:=λe=>by
    subst e;exact nh ((hdn hh hn (by rw[md.pn.1];omega)).1 ((iK vi3.iv vi3.hs h20 hof).2 hw))
   have sh:(k3.p hh).st≠0:=(vi3.kj.of hh h20).1 bu;have lh:=left hh h20 sh hx;have hhd:hd k3 hh=hh:=(iK vi3.iv vi3.hs h20 hof).2 hw;have lvh:lv k3 hh=true:=eP.2 (by
    have le:=vi3.kj.st hh h20;by_cases e2:(k3.p hh).st=2
    .exfalso;have oh:k.sp.of hh=y+1:=by rw[<-lh.2.1];exact hof
     exact hx (h.ge hh y h20 (by rw[<-lh.1];exact e2) ((hdn hh h20 sh).1 hhd) oh x hn (hv.iv.cO hn ho).1).symm
    .omega)
   refine⟨hh,h20,λe=>?_,?_,lvh,y,hof,mm,λe=>?_⟩
   .subst e;exact hy ((hdn hh hm s).1 hhd) (by rw[<-lm.2.1];exact hof)
   .show(if m∈iR k3 x then((hh:Nat):Int)else _)=_;rw[aJ mC]
   .show k3.sp.of m≠y+1;rw[lm.2.1];exact hy ((hdn m hm s).1 e)
  .have b:=pi3 m x hm s a xn p3;refine⟨x,b.fU,b.qm,?_,b.lq,b.oq⟩;show(if m∈iR k3 n then _ else(k3.p m).par)=_;rw[aI (λe=>xn (by have:=(inC m e).2.2;omega))];exact p3
 have ki4:KI N d (gH k3 (iR k3 n) (hh:Nat)):=by
  refine⟨⟨vi3.kj.ad _ _,vi3.iv,vi3.hs⟩,λm hm lm hd1=>?_,λm hm m0 s=>?_,vi3.h0⟩
  .have t1:(k3.p m).st=1:=eP.1 lm;have mn:m≠n:=λe=>by subst e;rw[md.pn.1]at t1;omega
   have lm2:=left m hm bu mn;show Sg.eV (k3.p m).box 0 0;rw[lm2.1];refine h.ki.fi m hm (eP.2 (by rw[<-lm2.1];exact t1)) (λe=>hd1 ((hdn m hm bu).2 e))
  .obtain⟨x,a⟩:=pp4 m hm m0 s;exact⟨x,a.fU,a.qm,a.pq⟩
 have kh4:KH N d (gH k3 (iR k3 n) (hh:Nat)):=by
  have e0:k3.p 0=k.p 0:=by
   rcases mq.ot 0 bu (bQ n0)with⟨a,_⟩|⟨_,_,b,e⟩
   .exact a
   .exact aZ b (hv.iv.zero hv.hs z6.1 ((iK hv.iv hv.hs hn ho).1 e) n0)
  refine⟨ki4,pp4,eP.2 ?_,?_,λm y hm s hd1 o x hx xm=>?_⟩
  .show(k3.p 0).st=1;rw[e0];exact eP.1 h.l0
  .show(if 0∈iR k3 n then _ else(k3.p 0).par)= -1;rw[aI (λc=>by have:=(inC 0 c).2.2;rw[e0,h.p0]at this;omega),e0];exact h.p0
  .have s2:(k3.p m).st=2:=s;have o2:k3.sp.of m=y+1:=o;have y6:=(vi3.iv.cO hm o2).2.1;by_cases mn:m=n
   .subst mn;obtain rfl:y=z:=by have:=md.ho;omega
    exact mq.al ((hdn m hm bu).1 hd1) x hx xm
   .have lm2:=left m hm bu mn;exact h.ge m y hm (by rw[<-lm2.1];exact s2) ((hdn m hm bu).1 hd1) (by rw[<-lm2.2.1];exact o2) x hx (mq.back y6 xm)
 unfold pQ;split
 .refine kh4.tV (kh4.ki.box q (λ_ lq hq1=>?_)) rfl (λm=>?_)
  .exact Sg.BY (kh4.ki.fi q fU lq hq1)
  .unfold iN;by_cases e:m=q
   .subst e;rw[bF];exact⟨rfl,rfl⟩
   .rw[bM _ _ _ _ e];exact⟨rfl,rfl⟩
 .exact kh4
theorem KH.Uz(h:KH N d k)(hn:n<20)(n0:n≠0)(g2:(k.p n).st=2)(ho:k.sp.of n=z+1)(v:jk 6 k n k'):KH N d k'/\k'.p n=Pr.no/\k'.sp.of n=0/\(∀x,x<20->x≠n->k'.p x=k.p x/\k'.sp.of x=k.sp.of x)/\(∀s p,s<6->p<21->k'.sp.bR s p=if k.sp.bR s p=n+1 then 0 else k.sp.bR s p):=by
 have hv:=h.ki.vi;have z6:=(hv.iv.cO hn ho).2;obtain⟨v',g,e,ot⟩:=rQ 6 (λ_=>False) k n k' z hv hn n0 (λx=>x) ho (λ_ _ _ x=>x.elim) v;have o0:k'.sp.of n=0:=by
  by_cases c:k'.sp.of n=0
  .exact c
  .have:=(v'.kj.of n hn).1 c;rw[e]at this;exact aZ rfl this
 have fT:∀x,x<20->x≠n->k'.p x=k.p x/\k'.sp.of x=k.sp.of x:=λx hx xn=>by
  by_cases c:hd k n=n
  .rcases g.kp x hx with w|w
   .exact w
   .exact aZ (h.ge n z hn g2 c ho x hx w.2.2) xn
  .exact ot c x hx xn
 have whs:∀s p,s<6->p<21->k'.sp.bR s p=if k.sp.bR s p=n+1 then 0 else k.sp.bR s p:=λs p hs hp=>by
  by_cases c:k.sp.bR s p=n+1
  .rw[aJ c];rcases g.wh s p hs hp with w|w
   .have:=(v'.iv.has s n hs hn).1 ⟨p,hp,by rw[w];exact c⟩;exact aZ o0 this.1
   .exact w
  .rw[aI c];by_cases c0:k.sp.bR s p=0
   .rcases g.wh s p hs hp with w|w
    .exact w
    .rw[w,c0]
   .have le:=hv.iv.oK s p hs hp;have x20:k.sp.bR s p-1<20:=bu
    have xn:k.sp.bR s p-1≠n:=bu
    have hx:=(hv.iv.has s (k.sp.bR s p-1) hs x20).1 ⟨p,hp,bu⟩;have:=g.wk s p (k.sp.bR s p-1) hs hp x20 bu (by rw[(fT _ x20 xn).2];exact hx.1);omega
 have hdn:∀m,m<20->m≠n->k.sp.of m≠0->(hd k' m=m↔hd k m=m):=λm hm mn om=>by
  obtain⟨y,hy⟩:∃y,k.sp.of m=y+1:=⟨k.sp.of m-1,bu⟩;have y6:=(hv.iv.cO hm hy).2.1;rw[iK hv.iv hv.hs hm hy,iK v'.iv v'.hs hm (by rw[(fT m hm mn).2];exact hy),whs y 1 y6 bu];by_cases c:k.sp.bR y 1=n+1
  .rw[aJ c];omega
  .rw[aI c]
 have mem':∀s m,s<6->m<20->m≠n->(Sp.mem k'.sp s m↔Sp.mem k.sp s m):=λs m hs hm mn=>by
  constructor
  .rintro⟨p,p21,pw⟩;rw[whs s p hs p21]at pw;by_cases c:k.sp.bR s p=n+1
   .rw[aJ c]at pw;omega
   .rw[aI c]at pw;exact⟨p,p21,pw⟩
  .rintro⟨p,p21,pw⟩;exact⟨p,p21,by rw[whs s p hs p21,nJ];exact pw⟩
 have st0:∀m,m<20->(k'.p m).st≠0->m≠n:=λm _ s c=>by subst c;rw[e]at s;exact s rfl
 have pp:∀m,m<20->m≠0->(k'.p m).st≠0->∃q,PI k' m q:=λm hm m0 s=>by
  have mn:=st0 m hm s;rw[(fT m hm mn).1]at s;obtain⟨q,a⟩:=h.pp m hm m0 s;have qn:q≠n:=λc=>by subst c;have:=eP.1 a.lq;omega
  have oq:=fT q a.fU qn;obtain⟨y,oy,my,hy⟩:=a.oq;refine⟨q,a.fU,a.qm,by rw[(fT m hm mn).1];exact a.pq,eP.2 (by rw[oq.1];exact eP.1 a.lq),y,by rw[oq.2];exact oy,(mem' y m (hv.iv.cO a.fU oy).2.1 hm mn).2 my,λc=>?_⟩;rw[(fT m hm mn).2];exact hy ((hdn m hm mn ((hv.kj.of m hm).2 s)).1 c)
 refine⟨⟨⟨v',λm hm lm hd1=>?_,λm hm m0 s=>?_,v'.h0⟩,pp,?_,?_,λm y hm s hd1 o x hx xm=>?_⟩,e,o0,fT,whs⟩
 .have mn:=st0 m hm (by rw[eP.1 lm];omega);have om:=fT m hm mn;rw[om.1];have lk:lv k m=true:=eP.2 (by rw[<-om.1];exact eP.1 lm);exact h.ki.fi m hm lk (λc=>hd1 ((hdn m hm mn ((hv.kj.of m hm).2 (by rw[eP.1 lk];omega))).2 c))
 .obtain⟨q,a⟩:=pp m hm m0 s;exact⟨q,a.fU,a.qm,a.pq⟩
 .exact eP.2 (by rw[(fT 0 bu (bQ n0)).1];exact eP.1 h.l0)
 .rw[(fT 0 bu (bQ n0)).1];exact h.p0
 .have mn:=st0 m hm bu;have om:=fT m hm mn;have xn:x≠n:=λc=>by
   subst c;have:=(v'.iv.has y x (v'.iv.cO hm o).2.1 hx).1 xm;exact this.1 o0
  rw[om.1]at s;rw[om.2]at o;exact h.ge m y hm s ((hdn m hm mn bu).1 hd1) o x hx ((mem' y x (hv.iv.cO hm o).2.1 hx xn).1 xm)
end
end Kn
namespace Kn
section
variable {N:Nat}{d:Nat->Nat}{k k2:Kp}{n c z:Nat}
theorem Lh(X:Nat->Sg.S1):Sg.eV (Sg.pH X) 0 0:= .inl ⟨rfl,λj _ _=>by unfold Sg.ok Sg.pH;simp⟩
theorem KH.gr(h:KH N d k){t:Nat->Gr.Gp}{M:Nat}(hM:N<=M)(g:∃Wy,Gr.Tree t Wy M):KH M d {k with gr:=t}:=by
 have kj:KJ (λ_=>False) M {k with gr:=t}:=(h.ki.vi.kj.mono (λ_ _ e=>e) hM).jF g;exact⟨⟨⟨kj,h.ki.vi.iv,h.ki.vi.hs⟩,h.ki.fi,h.ki.pr,h.ki.h0⟩,λm hm m0 s=>by
  obtain⟨q,a⟩:=h.pp m hm m0 s;exact⟨q,a.fU,a.qm,a.pq,a.lq,a.oq⟩,h.l0,h.p0,h.ge⟩
theorem KH.born(h:KH N d k){d2:Nat->Nat}(kj:KJ (λ_=>False) N k2)(iv:Sp.Inv k2.sp d2)(ep:k2.p=k.p)(eo:k2.sp.of=k.sp.of)(ew:k2.sp.bR=k.sp.bR)(hn:n<20)(l:lv k n=true)(hc:c<20)(c0:(k.p c).st=0)(z6:z<6)(zh:k2.sp.here z=true)
  {y:Nat} (oy:k.sp.of n=y+1) (hz:(z=y/\∀s,s<6->k2.sp.here s=true->k.sp.here s=true)\/(z≠y/\k2.sp.par z=(y:Int)/\k.sp.here z=false/\∀s,s<6->k2.sp.here s=true->s=z\/k.sp.here s=true)) {m':Wf.M} (wk:Wf.iY (Wf.dZ k2.sc (c:Int) (k2.p n).cN) (c:Int) true m'):KH (N+1) d2 (iO (dI k2 n) c (eQ k2 n) (z:Int) m'):=by
 have hv:=h.ki.vi;have l2:lv k2 n=true:=by unfold lv;rw[ep];exact l
 have n1:(k.p n).st=1:=eP.1 l;have nc:n≠c:=λe=>by subst e;omega
 have hh2:(k2.p n).has=true:=by rw[ep];exact hv.kj.lv n hn (λx=>x) n1
 have kj2:=kj.Uu (n:=n) (c:=c) (z:=z) (λx=>x) hn hc l2 hh2 (by rw[ep];exact c0) z6 zh wk;have o0:k2.sp.of c=0:=by
  by_cases e:k2.sp.of c=0
  .exact e
  .exact aZ (by rw[ep];exact c0) ((kj.of c hc).1 e)
 have o0k:k.sp.of c=0:=by rw[<-eo];exact o0
 obtain⟨T,eT⟩:=mE {k2 with bk:=Mv.eJ (k2.p n).mem k2.bk 16} (k2.p n).fd 6;have cop:dI k2 n={k2 with bk:=Mv.eJ (k2.p n).mem k2.bk 16,fi:=T}:=eT;have esp:(iO (dI k2 n) c (eQ k2 n) (z:Int) m').sp=Sp.fK k2.sp (z:Int) (c:Int):=by rw[cop];rfl
 have e1:∀m,m≠c->(iO (dI k2 n) c (eQ k2 n) (z:Int) m').p m=k.p m:=λm q=>by rw[cop];exact(bM _ _ _ _ q).trans (by show k2.p m=k.p m;rw[ep])
 have e2:(iO (dI k2 n) c (eQ k2 n) (z:Int) m').p c=eQ k2 n:=bF _ _ _;have iv':Sp.Inv (iO (dI k2 n) c (eQ k2 n) (z:Int) m').sp d2:=by rw[esp];exact iv.enter _ _
 have hs':Sp.qp (iO (dI k2 n) c (eQ k2 n) (z:Int) m').sp:=by
  rw[esp];refine Sp.qp.enter iv z6 zh hc o0 (λs s6 sh=>?_) (by rw[eo,ew];exact hv.hs.r0);rw[eo,ew];rcases hz with⟨_,q⟩|⟨_,_,q,r⟩
  .exact .inl (hv.hs.hd s s6 (q s s6 sh))
  .rcases r s s6 sh with e|e
   .subst e;exact .inr ⟨rfl,λp hp=>hv.iv.dead s6 hp q⟩
   .exact .inl (hv.hs.hd s s6 e)
 have vi':VI (λ_=>False) (N+1) d2 (iO (dI k2 n) c (eQ k2 n) (z:Int) m'):=⟨kj2,iv',hs'⟩;generalize hk':iO (dI k2 n) c (eQ k2 n) (z:Int) m'=k' at*;have of':∀m,k'.sp.of m=if m=c then z+1 else k.sp.of m:=λm=>by rw[esp,Sp.ru z6 zh hc o0,eo]
 have jm:∀s p,s<6->k.sp.bR s p≠0->k'.sp.bR s p=k.sp.bR s p:=λs p hs hw=>by rw[esp,Sp.v7 iv z6 zh hc o0 hs (by rw[ew];exact hw),ew]
 have memk:∀s m,s<6->Sp.mem k.sp s m->Sp.mem k'.sp s m:=λs m hs ⟨p,p21,pw⟩=>⟨p,p21,by rw[jm s p hs bu];exact pw⟩;have dX:∀s m,s<6->m≠c->Sp.mem k'.sp s m->Sp.mem k.sp s m:=λs m hs mc ⟨p,p21,pw⟩=>by
  rw[esp,Sp.yZ z6 zh hc o0]at pw;by_cases q:s∈Sp.W k2.sp (z:Int)/\p=Sp.low k2.sp s
  .rw[aJ q]at pw;omega
  .rw[aI q,ew]at pw;exact⟨p,p21,pw⟩
 have hdn:∀m,m<20->m≠c->k.sp.of m≠0->(hd k' m=m↔hd k m=m):=λm hm mc om=>by
  obtain⟨x,hx⟩:∃x,k.sp.of m=x+1:=⟨k.sp.of m-1,bu⟩;have x6:=(hv.iv.cO hm hx).2;obtain⟨hh,h20,hw,hof⟩:=hv.hs.hd x x6.1 x6.2;rw[iK hv.iv hv.hs hm hx,iK vi'.iv vi'.hs hm (by rw[of',aI mc];exact hx),jm x 1 x6.1 bu]
 have y6:=(hv.iv.cO hn oy).2;have piC:PI k' c n:=by
  refine⟨hn,nc,by rw[e2];rfl,eP.2 (by rw[e1 n nc];exact n1),y,by rw[of',aI nc];exact oy,?_,λe=>?_⟩
  .refine(vi'.iv.has y c y6.1 hc).2 ⟨by rw[of',aJ rfl];omega,?_⟩;rw[of',aJ rfl,show z+1-1=z by omega];have wz:Sp.W k'.sp (z:Int)=z::Sp.W k'.sp (k'.sp.par z):=vi'.iv.tree.step z6 (by rw[esp,(Sp.kM z6 zh hc o0).1];exact zh);rw[wz];rcases hz with⟨e,_⟩|⟨_,e,_,_⟩
   .rw[e];simp
   .have pe:k'.sp.par z=(y:Int):=by rw[esp,(Sp.kM z6 zh hc o0).2];exact e
    rw[pe];have yh:k'.sp.here y=true:=by
     have:=(vi'.iv.cO hn (z:=y) (by rw[of',aI nc];exact oy)).2.2;exact this
    rw[vi'.iv.tree.step y6.1 yh];simp
  .rw[of',aJ rfl];intro q;obtain rfl:z=y:=bu
   have wc:=(iK vi'.iv vi'.hs hc (z:=z) (by rw[of',aJ rfl])).1 e;obtain⟨hh,h20,hw,hof⟩:=hv.hs.hd z y6.1 y6.2;rw[jm z 1 z6 bu,hw]at wc;have:hh=c:=bu
   subst this;omega
 have ppo:∀m,m<20->m≠0->(k'.p m).st≠0->∃q,PI k' m q:=λm hm m0 s=>by
  by_cases mc:m=c
  .subst mc;exact⟨n,piC⟩
  .rw[e1 m mc]at s;obtain⟨q,a⟩:=h.pp m hm m0 s;have qc:q≠c:=λe=>by subst e;have:=eP.1 a.lq;omega
   obtain⟨x,ox,mx,hx⟩:=a.oq;refine⟨q,a.fU,a.qm,by rw[e1 m mc];exact a.pq,eP.2 (by rw[e1 q qc];exact eP.1 a.lq),x,by rw[of',aI qc];exact ox,memk x m (hv.iv.cO a.fU ox).2.1 mx,λe=>?_⟩;rw[of',aI mc];exact hx ((hdn m hm mc ((hv.kj.of m hm).2 s)).1 e)
 have c0':(0:Nat)≠c:=λe=>by subst e;have:=eP.1 h.l0;omega
 refine⟨⟨vi',λm hm lm hd1=>?_,λm hm m0 s=>?_,vi'.h0⟩,ppo,eP.2 (by rw[e1 0 c0'];exact eP.1 h.l0),by rw[e1 0 c0'];exact h.p0,λm x hm s hd1 o u hu um=>?_⟩
 .by_cases mc:m=c
  .subst mc;rw[e2];exact Lh _
  .rw[e1 m mc];have lk:lv k m=true:=eP.2 (by rw[<-e1 m mc];exact eP.1 lm);exact h.ki.fi m hm lk (λe=>hd1 ((hdn m hm mc ((hv.kj.of m hm).2 (by rw[eP.1 lk];omega))).2 e))
 .obtain⟨q,a⟩:=ppo m hm m0 s;exact⟨q,a.fU,a.qm,a.pq⟩
 .have mc:m≠c:=λe=>by
   subst e;rw[e2]at s;have:(k2.p n).st=2:=s;rw[ep]at this;omega
  rw[e1 m mc]at s;rw[of',aI mc]at o;have x6:=(hv.iv.cO hm o).2;have hdm:=(hdn m hm mc bu).1 hd1;by_cases uc:u=c
  .exfalso;subst uc;have a:=(vi'.iv.mem_of x6.1 hu um).2;rw[of',aJ rfl,show z+1-1=z by omega]at a;have yx:Sp.mem k.sp x n:=by
    refine dX x n x6.1 nc ((vi'.iv.has x n x6.1 hn).2 ⟨by rw[of',aI nc];omega,?_⟩);rw[of',aI nc,oy,show y+1-1=y by omega];rcases hz with⟨e,_⟩|⟨ne,e,hf,_⟩
    .rw[<-e];exact a
    .rw[vi'.iv.tree.step z6 (by rw[esp,(Sp.kM z6 zh hc o0).1];exact zh)]at a;rcases List.mem_cons.1 a with e3|a
     .subst e3;rw[x6.2]at hf;cases hf
     .rw[esp,(Sp.kM z6 zh hc o0).2,e]at a;rw[esp];exact a
   have:=h.ge m x hm s hdm o n hn yx;subst this;omega
  .exact h.ge m x hm s hdm o u hu (dX x u x6.1 uc um)
end
end Kn
namespace Kn
theorem Sf{s:St}{n i:Nat}(h:us {s with k:=dI s.k n} i):us s i:=by
 obtain⟨T,eT⟩:=mE {s.k with bk:=Mv.eJ (s.k.p n).mem s.k.bk 16} (s.k.p n).fd 6;have e3:dI s.k n={s.k with bk:=Mv.eJ (s.k.p n).mem s.k.bk 16,fi:=T}:=eT;rw[e3]at h;exact h
theorem vY(k:Kp)(n:Nat):(dI k n).sp=k.sp/\(dI k n).sc=k.sc/\(dI k n).p=k.p:=by
 obtain⟨T,eT⟩:=mE {k with bk:=Mv.eJ (k.p n).mem k.bk 16} (k.p n).fd 6;have e3:dI k n={k with bk:=Mv.eJ (k.p n).mem k.bk 16,fi:=T}:=eT;rw[e3];exact⟨rfl,rfl,rfl⟩
theorem O1{k:Kp}{Wy:Nat->List (Fin 10)}{n:Nat}(h:Gr.iB k.gr Wy (k.p n).cN 1 (Mv.fX (k.p n).mem 16:Int)≠0):({k with gr:=Gr.j6 k.gr Wy (k.p n).cN 1 (Mv.fX (k.p n).mem 16:Int)}:Kp)=k:=by
 unfold Gr.j6;rw[aI h]
theorem pG{t:Nat->Gr.Gp}{Wy:Nat->List (Fin 10)}{N:Nat}(h:Gr.Tree t Wy N)(g p q:Int)(hp:p<=64)(hq:q<=64):Gr.Tree (Gr.j6 t Wy g p q) Wy (N+1):=by
 unfold Gr.j6;by_cases e:Gr.iB t Wy g p q=0
 .rw[aJ e];have hr:Gr.eS t g p q=0:=by
   unfold Gr.iB at e;by_cases r:Gr.eS t g p q=0
   .exact r
   .rw[aI r]at e;exact aZ e r
  obtain⟨n,rfl,hn,hh,_,_⟩:=Gr.mD hr;rw[hZ];have o:=h.own n hn;obtain⟨hp,hq⟩:=Gr.nN hr;exact h.np bu ⟨by omega,bu⟩ ⟨by omega,bu⟩
 .rw[aI e];exact h.mono bu
def dG(k:Kp)(Wy:Nat->List (Fin 10))(n:Nat):Kp:={k with gr:=Gr.j6 k.gr Wy (k.p n).cN 1 (Mv.fX (k.p n).mem 16:Int)}
def vX(k:Kp)(Wy:Nat->List (Fin 10))(n:Nat):Int:=Gr.iB k.gr Wy (k.p n).cN 1 (Mv.fX (k.p n).mem 16:Int)
def AB(k:Kp)(z:Int)(own:Bool)(p:Nat)(E:Int)(k':Kp):Prop:=
 (bT k z≠0/\E=bT k z/\p=0/\k'=k)\/
 (bT k z=0/\∃n c F Wy,z=((n:Nat):Int)/\n<20/\gq k c F/\Gr.fF k.gr Wy/\
  ((F≠0/\E=F/\p=0/\k'=k)\/(F=0/\vX k Wy n≠0/\E=vX k Wy n/\p=0/\k'=k)\/
   (F=0/\vX k Wy n=0/\j8 (dG k Wy n) n own≠0/\E=j8 (dG k Wy n) n own/\p=0/\k'={dG k Wy n with gr:=Gr.eU (dG k Wy n).gr (k.p n).cN 1 (Mv.fX (k.p n).mem 16:Int)})\/
   (F=0/\vX k Wy n=0/\j8 (dG k Wy n) n own=0/\E=0/\∃m',Wf.iY (Wf.dZ (gj (dG k Wy n) n own).sc (c:Int) (k.p n).cN) (c:Int) true m'/\
    k'=iO (dI (gj (dG k Wy n) n own) n) c (eQ (gj (dG k Wy n) n own) n) (nC (dG k Wy n) n own:Int) m'/\p=Sp.gQ k'.sp (c:Int) (Sp.dc k'.sp (n:Int):Nat))))
theorem Q9(k:Kp)(n:Nat)(own:Bool):(gj k n own).p=k.p/\(gj k n own).bk=k.bk/\(gj k n own).fi=k.fi/\(gj k n own).sc=k.sc:=by
 unfold gj;split<;>exact⟨rfl,rfl,rfl,rfl⟩
end Kn
section
variable (UE N:Nat)(d:Nat->Nat)(s:St)(w:bD)
theorem Jd(hN:N<=900)(z:Int)(own:Bool)(h:bH w UE s)(hb:UE<=w.heap.size)(hv:VI (λ_=>False) N d s.k):
  Calls prog 18 #[ai (bh ⟨s.A 0,0,bj⟩),aa az z,ar own] w λe w'=>∃(p:Nat) (E:Int) (s':St),e=bf (ao #[aa az (p:Int),bG E])/\Kn.AB s.k z own p E s'.k/\bH w' UE s'/\KF s w s' w':=by
 have AC:=hJ (dv UE s w z h);have H:=hJ (aK h (aK hv (aK hb hN)));obtain⟨kb,hkb⟩:=hU (s.A 0);have HK:=hJ hkb;by_cases a:Kn.bT s.k z=0
 .obtain⟨n,rfl,hn,hl⟩:=Kn.fq a;have HA:=hJ (aK a hl);have st1:(s.k.p n).st=1:=by unfold Kn.lv at hl;simpa using hl
  have hh:=hv.kj.lv n hn (λx=>x) st1;obtain⟨y,hy⟩:∃y,s.k.sp.of n=y+1:=⟨s.k.sp.of n-1,by have:=(hv.kj.of n hn).2 bu;omega⟩;have HH:=hJ (aK hh hy);obtain⟨Wy,hWy⟩:=hv.kj.gr;have HW:=hJ hWy;rw[a,bB,gS]at AC;have FRE:=hJ (GQ UE s w h);have c4:=h.qR n hn hh;have RS:=hJ (oQ (s.A (9+n)) (s.A 4) (s.k.p n).mem w (h.me n hn hh));have RL:=hJ (YtpmmdkcfenjiaaaGreatDoor.vk (s.k.p n).mem 16);rw[hkb]at AC FRE c4|-;generalize s.A (9+n)=m9 at c4 RS;go_in
  go_wp2_with fail
  refine sC AC.v ?_;rintro w1 hw;subst w1;go_wp2_with fail
  refine FRE.mono ?_;rintro e w1 ⟨c,F,rfl,hF,hw⟩;subst w1;have HF:=hJ hF;by_cases f0:F=0
  .subst f0;rw[bB];have c20:c<20:=by
    rcases HF.v with q|q
    .exact q.2.1
    .omega
   have c20I:(c:Int)<20:=bu
   go_wp2_with fail
   refine sC RS.v ?_;rintro w1 b1;have S1:Hid (bH w1 UE s/\KF s w s w1/\UE<=w1.heap.size):=hJ ⟨H.1.below b1,KF.below b1,aH H.2.2.1 b1.size⟩;obtain⟨rr,hrr⟩:=hU (Mv.fX (s.k.p n).mem 16);have HRR:=hJ hrr;rw[hrr]at RL|-;have rl:=RL.v;go_upto_region 8 with fail
   have K0:Hid (w1.cell? ⟨kb,247,bj⟩=bh (ai (bh ⟨s.A 2,0,bj⟩))/\w1.cell? ⟨kb,n*12+2,bj⟩=bh (aa az (s.k.p n).cN)):=hJ (by rw[<-HK.v];exact⟨S1.1.oS,S1.1.pF n hn⟩);have CG:=hJ (Gr.mM (s.A 2) (s.k.p n).cN 1 (rr:Int) s.k.gr Wy w1.drew S1.1.drew.gr HW.ways (HW.small (by have:=H.2.2.2;omega)));have A4:Hid (∀w4,Gr.bP w4 (s.A 2) (Gr.j6 s.k.gr Wy (s.k.p n).cN 1 (rr:Int))->Gr.bE (s.A 2) w1.drew w4->bH w4 UE {s with k:=Kn.dG s.k Wy n}/\KF s w {s with k:=Kn.dG s.k Wy n} w4/\UE<=w4.heap.size/\w4.cell? ⟨kb,247,bj⟩=bh (ai (bh ⟨s.A 2,0,bj⟩))/\w4.cell? ⟨kb,n*12+2,bj⟩=bh (aa az (s.k.p n).cN)):=hJ (λw4 t4 f4=>by
    have q:=S1.1.drew.jF t4 f4.rM;have e:({s.k with gr:=Gr.j6 s.k.gr Wy (s.k.p n).cN 1 (rr:Int)}:Kp)=Kn.dG s.k Wy n:=by unfold Kn.dG;rw[HRR.v]
    rw[e]at q;refine⟨q.1,S1.2.1.trans ((KF.drew _ _).trans q.2),aH S1.2.2 q.2.gP.size,?_⟩;rw[<-HK.v];exact⟨q.1.oS,q.1.pF n hn⟩)
   have HE:Hid (Kn.vX s.k Wy n=Gr.iB s.k.gr Wy (s.k.p n).cN 1 (rr:Int)):=hJ (by unfold Kn.vX;rw[HRR.v]);obtain⟨gz,hgz⟩:=hU ((s.k.p n).cN);obtain⟨g2,hg2⟩:=hU (s.A 2);have HG:=hJ (aK hgz hg2);rw[hgz,hg2]at CG K0 A4;rw[hgz]at HE;obtain⟨ce,hce⟩:=hU (Gr.iB s.k.gr Wy gz 1 (rr:Int));rw[hce]at CG HE;rw[show Gr.bG ce=bG ce from rfl]at CG;obtain⟨y1,y2⟩:=K0.v;go_region_held3 (λw'=>w'.cell? ⟨kb,247,bj⟩=bh (ai (bh ⟨g2,0,bj⟩))/\w'.cell? ⟨kb,n*12+2,bj⟩=bh (aa az gz)) (first|exact K0.v|exact S4.2.2.2) (
    (go_at_call 65;refine sC CG.v ?_;rintro w4 ⟨t4,f4⟩;have S4:=hJ (A4.v w4 t4 f4)))
   by_cases e0:ce=0
   .subst e0;rw[bB];have VI1:Hid (VI (λ_=>False) (N+1) d (Kn.dG s.k Wy n)):=hJ ⟨(H.2.1.kj.mono (λ_ _ e=>e) (Nat.le_succ N)).jF ⟨Wy,Kn.pG HW.v _ _ _ bu (by have:=RL.v;rw[HRR.v];omega)⟩,H.2.1.iv,H.2.1.hs⟩;have HM:=hJ (Je UE (N+1) d {s with k:=Kn.dG s.k Wy n} w4 n y own S4.1 S4.2.2.1 VI1.v hn HH.2);rw[show({s with k:=Kn.dG s.k Wy n}:St).A 0=kb from HK.v]at HM;go_wp2_with fail
    refine HM.mono ?_;rintro e w5 ⟨s2,rfl,e2,k2,f2⟩;have S5:Hid (s2.k=Kn.gj (Kn.dG s.k Wy n) n own/\bH w5 UE s2/\KF s w s2 w5/\UE<=w5.heap.size/\s2.A 0=kb):=hJ ⟨e2,k2,S4.2.1.trans f2,aH S4.2.2.1 f2.gP.size,f2.a0.trans HK.v⟩;have HE2:Hid (Kn.j8 ({s with k:=Kn.dG s.k Wy n}:St).k n own=Kn.j8 (Kn.dG s.k Wy n) n own):=hJ rfl;obtain⟨he,hhe⟩:=hU (Kn.j8 ({s with k:=Kn.dG s.k Wy n}:St).k n own);obtain⟨hz,hhz⟩:=hU (Kn.nC ({s with k:=Kn.dG s.k Wy n}:St).k n own);have HHE:Hid (Kn.j8 (Kn.dG s.k Wy n) n own=he/\Kn.nC (Kn.dG s.k Wy n) n own=hz):=hJ ⟨hhe,hhz⟩;rw[hhe,hhz];by_cases h0:he=0
    .subst h0;rw[bB];have P2:Hid (s2.k.p=s.k.p/\s2.k.bk=s.k.bk/\s2.k.fi=s.k.fi/\s2.k.sc=s.k.sc):=hJ (by rw[S5.1];exact Kn.Q9 _ n own);have CH:=hJ (GF UE s2 w5 n S5.2.1 hn (by rw[P2.1];exact HH.1) (by rw[P2.1,P2.2.1];exact H.2.1.kj.me) (λf hf=>by
      rw[P2.2.2.1];have:=H.2.1.kj.rf f hf;have:=H.2.2.2;have e1:(2:Nat)^50=1125899906842624:=by decide
      omega))
     rw[S5.2.2.2.2]at CH;have INV:Hid (∃d2,Sp.Inv s2.k.sp d2):=hJ (by
      rw[S5.1];cases own
      .rw[(Kn.Ez _ n).1];exact⟨d,VI1.iv⟩
      .have iz:Sp.dc (Kn.dG s.k Wy n).sp (n:Int)=y:=Sp.gM hn HH.2;have ea:Sp.iZ (Kn.dG s.k Wy n).sp (y:Int)=0:=by have:=HHE.1;unfold Kn.j8 at this;rw[aJ rfl,iz]at this;exact this
       rw[(Kn.BM iz ea rfl).1];exact(VI1.kj.Oh ea rfl).sp)
     go_wp2_with fail
     refine CH.mono ?_;rintro e w6 ⟨mb,bb,rfl,k6,f6,um,ub,lm,lb,mn⟩;obtain⟨d2,hd2⟩:=INV.v;have LT:Hid (∀i,us {s2 with k:=Kn.dI s2.k n} i->s2.A i<w5.heap.size):=hJ (λi hi=>S5.2.1.lt (Kn.Sf hi));have ST:=hJ (xR UE {s2 with k:=Kn.dI s2.k n} w6 c mb bb (Kn.eQ s2.k n) (hz:Int) d2 k6 c20 (by rw[(Kn.vY s2.k n).1];exact hd2) um ub (λi hi=>by have:=LT.v i hi;show s2.A i≠mb;omega) (λi hi=>by have:=LT.v i hi;show s2.A i≠bb;omega) mn (by have:=S5.2.2.2.1;omega) (by have:=S5.2.2.2.1;omega));rw[show({s2 with k:=Kn.dI s2.k n}:St).A 0=kb from S5.2.2.2.2]at ST;have S6:Hid (KF s w {s2 with k:=Kn.dI s2.k n} w6/\w5.heap.size<=mb/\w5.heap.size<=bb/\w.heap.size<=w5.heap.size):=hJ ⟨S5.2.2.1.trans f6,lm,lb,S5.2.2.1.gP.size⟩;obtain⟨PA,hPA⟩:=hU (dK mb bb (Kn.eQ s2.k n));rw[hPA]at ST|-;go_wp2_with fail
     refine ST.mono ?_;rintro e w7 ⟨m',rfl,wk,k7,o7⟩;have S7:Hid (Wf.iY (Wf.dZ (Kn.gj (Kn.dG s.k Wy n) n own).sc (c:Int) (s.k.p n).cN) (c:Int) true m'/\bH w7 UE {Kn.dN {s2 with k:=Kn.dI s2.k n} c mb bb (Kn.eQ s2.k n)with k:=Kn.iO (Kn.dI (Kn.gj (Kn.dG s.k Wy n) n own) n) c (Kn.eQ (Kn.gj (Kn.dG s.k Wy n) n own) n) (hz:Int) m'}/\KF s w {Kn.dN {s2 with k:=Kn.dI s2.k n} c mb bb (Kn.eQ s2.k n)with k:=Kn.iO (Kn.dI (Kn.gj (Kn.dG s.k Wy n) n own) n) c (Kn.eQ (Kn.gj (Kn.dG s.k Wy n) n own) n) (hz:Int) m'} w7):=hJ (by
      have w2:Wf.iY (Wf.dZ (Kn.dI s2.k n).sc (c:Int) (s2.k.p n).cN) (c:Int) true m':=wk;rw[(Kn.vY s2.k n).2.1,P2.1,S5.1]at w2;have k8:bH w7 UE {Kn.dN {s2 with k:=Kn.dI s2.k n} c mb bb (Kn.eQ s2.k n)with k:=Kn.iO (Kn.dI s2.k n) c (Kn.eQ s2.k n) (hz:Int) m'}:=k7;have f8:KF s w {Kn.dN {s2 with k:=Kn.dI s2.k n} c mb bb (Kn.eQ s2.k n)with k:=Kn.iO (Kn.dI s2.k n) c (Kn.eQ s2.k n) (hz:Int) m'} w7:=by
       refine⟨⟨o7.os.trans S6.1.gP.os,o7.tape.trans S6.1.gP.tape,o7.output.trans S6.1.gP.output,aH S6.1.gP.size o7.size,λb hb hc=>(o7.block b (aD hb S6.1.gP.size) (λq=>(S6.1.sub b q).elim hc (λq=>bu))).trans (S6.1.gP.block b hb hc)⟩,λb ⟨i,hi,eb⟩=>?_,(Kn.eG {s2 with k:=Kn.dI s2.k n} c mb bb (Kn.eQ s2.k n) (i:=0) bu bu).trans S6.1.a0⟩;have hi2:us (Kn.dN {s2 with k:=Kn.dI s2.k n} c mb bb (Kn.eQ s2.k n)) i:=hi;rcases Kn.vr hi2 with rfl|rfl|⟨ui,i1,i2⟩
       .exact .inr (by rw[eb,show({Kn.dN {s2 with k:=Kn.dI s2.k n} c mb bb (Kn.eQ s2.k n)with k:=Kn.iO (Kn.dI s2.k n) c (Kn.eQ s2.k n) (hz:Int) m'}:St).A (9+c)=mb from Kn.mh {s2 with k:=Kn.dI s2.k n} c mb bb (Kn.eQ s2.k n)];have:=S6.2;omega)
       .exact .inr (by rw[eb,show({Kn.dN {s2 with k:=Kn.dI s2.k n} c mb bb (Kn.eQ s2.k n)with k:=Kn.iO (Kn.dI s2.k n) c (Kn.eQ s2.k n) (hz:Int) m'}:St).A (29+c)=bb from Kn.mf {s2 with k:=Kn.dI s2.k n} c mb bb (Kn.eQ s2.k n)];have:=S6.2;omega)
       .exact S6.1.sub b ⟨i,ui,eb.trans (Kn.eG {s2 with k:=Kn.dI s2.k n} c mb bb (Kn.eQ s2.k n) i1 i2)⟩
      rw[S5.1]at k8 f8;rw[S5.1];exact⟨w2,k8,f8⟩)
     obtain⟨s3,hs3⟩:=hU (({Kn.dN {s2 with k:=Kn.dI s2.k n} c mb bb (Kn.eQ s2.k n)with k:=Kn.iO (Kn.dI (Kn.gj (Kn.dG s.k Wy n) n own) n) c (Kn.eQ (Kn.gj (Kn.dG s.k Wy n) n own) n) (hz:Int) m'}:St));have HS3:Hid (s3.k=Kn.iO (Kn.dI (Kn.gj (Kn.dG s.k Wy n) n own) n) c (Kn.eQ (Kn.gj (Kn.dG s.k Wy n) n own) n) (hz:Int) m'/\s3.A 0=kb):=hJ (by
      rw[<-hs3];exact⟨rfl,(Kn.eG {s2 with k:=Kn.dI s2.k n} c mb bb (Kn.eQ s2.k n) (i:=0) bu bu).trans S5.2.2.2.2⟩)
     rw[hs3]at S7;have W0:Hid (∀q,q<6->s3.k.sp.bR q 0=0):=hJ (by
      rw[HS3.1];have q:Sp.Inv (Sp.fK (Kn.dI (Kn.gj (Kn.dG s.k Wy n) n own) n).sp (hz:Int) (c:Int)) d2:=by
       rw[(Kn.vY _ n).1,<-S5.1];exact hd2.enter _ _
      exact q.ma)
     have SP:=hJ (fL UE s3 w7 (n:Int) S7.2.1);have PI:=hJ (pR UE s3 w7 (c:Int) ((Sp.dc s3.k.sp (n:Int):Nat):Int) S7.2.1 W0.v);rw[HS3.2]at SP PI;obtain⟨pp,hpp⟩:=hU (Sp.gQ s3.k.sp (c:Int) ((Sp.dc s3.k.sp (n:Int):Nat):Int));have HPP:=hJ hpp;rw[hpp]at PI;generalize Sp.dc s3.k.sp (n:Int)=ss at SP PI;go_wp2_with fail
     refine sC SP.v ?_;rintro w8 hw;subst w8;go_wp2_with fail
     refine sC PI.v ?_;rintro w8 hw;subst w8;go_wp2
     go_ret2
     refine⟨pp,0,s3,by rw[bB];rfl, .inr ⟨HA.1,n,c,0,Wy,rfl,hn,HF.v,HW.ways, .inr (.inr (.inr ⟨rfl,HE.v,HHE.1,rfl,m',S7.1,by rw[HHE.2];exact HS3.1,HPP.symm⟩))⟩,S7.2⟩
    .have E2:Hid (s2.k=Kn.dG s.k Wy n):=hJ (by
      rw[S5.1];unfold Kn.gj;rw[aI (λq=>h0 (by rw[<-HHE.1];exact q.2))])
     have HEV:=hJ (aK h0 (bC h0));rw[bC h0];go_upto_region 13 with fail
     have K0:Hid (w5.cell? ⟨kb,247,bj⟩=bh (ai (bh ⟨s2.A 2,0,bj⟩))/\w5.cell? ⟨kb,n*12+2,bj⟩=bh (aa az gz)):=hJ (by
      have q:=S5.2.1.pF n hn;rw[E2.v]at q;have q2:w5.cell? ⟨s2.A 0,n*12+2,bj⟩=bh (aa az (s.k.p n).cN):=q;rw[<-S5.2.2.2.2,<-HG.1];exact⟨S5.2.1.oS,q2⟩)
     have CG:=hJ (Gr.ir (s2.A 2) gz 1 (rr:Int) s2.k.gr w5.drew S5.2.1.drew.gr (by rw[E2.v];obtain⟨Wy2,g⟩:=VI1.kj.gr;exact g.small (by have:=H.2.2.2;omega)));have A4:Hid (∀w6,Gr.bP w6 (s2.A 2) (Gr.eU s2.k.gr gz 1 (rr:Int))->Gr.bE (s2.A 2) w5.drew w6->bH w6 UE {s2 with k:={s2.k with gr:=Gr.eU s2.k.gr gz 1 (rr:Int)}}/\KF s w {s2 with k:={s2.k with gr:=Gr.eU s2.k.gr gz 1 (rr:Int)}} w6/\w6.cell? ⟨kb,247,bj⟩=bh (ai (bh ⟨s2.A 2,0,bj⟩))/\w6.cell? ⟨kb,n*12+2,bj⟩=bh (aa az gz)):=hJ (λw6 t4 f4=>by
      have q:=S5.2.1.drew.jF t4 f4.rM;have q3:=q.1.pF n hn;have q2:w6.cell? ⟨s2.A 0,n*12+2,bj⟩=bh (aa az (s2.k.p n).cN):=q3;rw[E2.v]at q2;have q4:w6.cell? ⟨s2.A 0,n*12+2,bj⟩=bh (aa az (s.k.p n).cN):=q2;refine⟨q.1,S5.2.2.1.trans ((KF.drew _ _).trans q.2),?_⟩;rw[<-S5.2.2.2.2,<-HG.1];exact⟨q.1.oS,q4⟩)
     obtain⟨g3,hg3⟩:=hU (s2.A 2);rw[hg3]at CG K0 A4;generalize Gr.bG (Gr.gR s2.k.gr gz 1 (rr:Int))=uv at CG;obtain⟨y1,y2⟩:=K0.v;go_region_held3 (λw'=>w'.cell? ⟨kb,247,bj⟩=bh (ai (bh ⟨g3,0,bj⟩))/\w'.cell? ⟨kb,n*12+2,bj⟩=bh (aa az gz)) (first|exact K0.v|exact S6.2.2) (
      (go_at_call 67;refine sC CG.v ?_;rintro w6 ⟨t4,f4⟩;have S6:=hJ (A4.v w6 t4 f4)))
     go_wp2
     go_ret2
     refine⟨0,he,_,by rw[HEV.2];rfl, .inr ⟨HA.1,n,c,0,Wy,rfl,hn,HF.v,HW.ways, .inr (.inr (.inl ⟨rfl,HE.v,by rw[HHE.1];exact HEV.1,HHE.1.symm,rfl,?_⟩))⟩,S6.1,S6.2.1⟩;show({s2.k with gr:=Gr.eU s2.k.gr gz 1 (rr:Int)}:Kp)=_;rw[E2.v,HRR.v,HG.1]
   .have E0:Hid (Kn.dG s.k Wy n=s.k):=hJ (by
     have q:Gr.iB s.k.gr Wy (s.k.p n).cN 1 (Mv.fX (s.k.p n).mem 16:Int)≠0:=by have:=HE.v;unfold Kn.vX at this;rw[this];exact e0
     exact Kn.O1 q)
    have HEV:=hJ (aK e0 (bC e0));rw[bC e0];go_wp2
    go_ret2
    refine⟨0,ce,s,by rw[HEV.2];rfl, .inr ⟨HA.1,n,c,0,Wy,rfl,hn,HF.v,HW.ways, .inr (.inl ⟨rfl,by rw[HE.v];exact HEV.1,HE.symm,rfl,rfl⟩)⟩,?_⟩;have q:=aK S4.1 S4.2.1;rw[E0.v]at q;exact q
  .have HEV:=hJ (aK f0 (bC f0));rw[bC f0];go_wp2
   go_ret2
   exact⟨0,F,s,by rw[HEV.2];rfl, .inr ⟨HA.1,n,c,F,Wy,rfl,hn,HF.v,HW.ways, .inl ⟨HEV.1,rfl,rfl,rfl⟩⟩,H.1,KF.refl _ _⟩
 .have FIN:Hid (Kn.AB s.k z own 0 (Kn.bT s.k z) s.k):=hJ (.inl ⟨a,rfl,rfl,rfl⟩);have HE:=hJ (bC a);rw[bC a]at AC;generalize fJ (s.A 0) z (Kn.bT s.k z)=ap at*;rw[hkb]at AC|-;go_in
  go_wp2_with fail
  refine sC AC.v ?_;rintro w1 hw;subst w1;go_wp2
  go_ret2
  exact⟨0,Kn.bT s.k z,s,by rw[HE.v];rfl,FIN.v,H.1,KF.refl _ _⟩
end
theorem PB.qJ{w:bD}{c a b:Nat}{x:Pr}(h:PB w c a b x){f:Nat}(hf:f<6)(v:Int):PB (w.setCell ⟨c,6+f,bj⟩ (aa az v)) c a b {x with fd:=λi=>if i=f then v else x.fd i}:=h.set bu (λj hj=>by
 unfold Kn.eW;by_cases e:j=6+f
 .rw[aJ e,nJ,nJ,nJ,nJ,nJ,nJ];simp[show j-6=f by omega]
 .rw[aI e];by_cases d:j<6
  .have q:j=0\/j=1\/j=2\/j=3\/j=4\/j=5:=bu
   rcases q with rfl|rfl|rfl|rfl|rfl|rfl<;>rfl
  .rw[nJ,nJ,nJ,nJ,nJ,nJ];simp[show j-6≠f by omega,show j≠0 by omega,show j≠1 by omega,show j≠2 by omega,show j≠3 by omega,show j≠4 by omega,show j≠5 by omega])
def Kn.gV(j:Nat):Pr:=⟨1,-1,0,0,λi=>if i<j then -1 else 0,true,Mv.lQ,Sg.fS⟩
theorem Kn.LF(j:Nat):({Kn.gV j with fd:=λi=>if i=j then -1 else(Kn.gV j).fd i}:Pr)=Kn.gV (j+1):=by
 have key:(λi=>if i=j then(-1:Int)else(Kn.gV j).fd i)=(Kn.gV (j+1)).fd:=funext λi=>by
  show _=if i<j+1 then(-1:Int)else 0;by_cases e:i=j
  .rw[aJ e,nK]
  .rw[aI e];show(if i<j then(-1:Int)else 0)=_;by_cases c:i<j
   .rw[aJ c,nK]
   .rw[aI c,nJ]
 rw[key];rfl
theorem Ry(a b:Nat):dK a b (Kn.gV 0)=#[aa az 1,aa az (-1),aa az 0,aa az 0,ai (bh ⟨a,0,bj⟩),ai (bh ⟨b,0,bj⟩),aa az 0,aa az 0,aa az 0,aa az 0,aa az 0,aa az 0]:=rfl
structure FO (w:bD)(r rb c mb bb j:Nat)(W:bD):Prop where
 pb:PB W c mb bb (Kn.gV j)
 rs:PB W rb 0 0 Pr.no
 um:cY W mb r Mv.lQ
 ub:CX W bb Sg.fS
 bl:Below w.heap.size w W
 ge:w.heap.size<=rb/\w.heap.size<=c/\w.heap.size<=mb/\w.heap.size<=bb
 ne:mb≠bb/\rb≠c/\rb≠mb/\rb≠bb/\c≠mb/\c≠bb
theorem FO.next{w:bD}{r rb c mb bb j:Nat}{W:bD}(h:FO w r rb c mb bb j W)(hj:j<6):FO w r rb c mb bb (j+1) (W.setCell ⟨c,6+j,bj⟩ (aa az (-1))):=by
 have fr:bE c W (W.setCell ⟨c,6+j,bj⟩ (aa az (-1))):=(bE.refl _ _).setCell _ _;have n:=h.ne;have g:=h.ge;refine⟨by rw[<-Kn.LF];exact h.pb.qJ hj _,h.rs.same (fr.block _ h.rs.lt bu),h.um.same (fr.block _ h.um.lt bu),h.ub.same (fr.block _ h.ub.lt bu),fr.below h.bl g.2.1 (by have:=h.bl.size;omega),g,n⟩
theorem Lb(w:bD):CX (w.alloc (bg (gF Sg.fS) 235)) w.heap.size Sg.fS/\Below w.heap.size w (w.alloc (bg (gF Sg.fS) 235)):=
 ⟨CX.JK (heap_alloc_new w _),(aQ _ _).alloc (aL _) _⟩
theorem GH(kb r:Nat)(w:bD)(hc:w.cell? ⟨kb,249,bj⟩=bh (ai (bh ⟨r,0,bj⟩)))(hk:kb<w.heap.size):
  Calls prog 91 #[ai (bh ⟨kb,0,bj⟩)] w λe w'=>∃mb bb,e=bf (au (dK mb bb (Kn.gV 6)))/\cY w' mb r Mv.lQ/\CX w' bb Sg.fS/\Below w.heap.size w w'/\w.heap.size<=mb/\w.heap.size<=bb/\mb≠bb:=by
 have b0:Below w.heap.size w (w.alloc (bg #[aa az 0,aa az 0,aa az 0,aa az 0,ai bj,ai bj,aa az 0,aa az 0,aa az 0,aa az 0,aa az 0,aa az 0] 74)):=(aQ _ _).alloc (aL _) _;have c0:(w.alloc (bg #[aa az 0,aa az 0,aa az 0,aa az 0,ai bj,ai bj,aa az 0,aa az 0,aa az 0,aa az 0,aa az 0,aa az 0] 74)).cell? ⟨kb,249,bj⟩=bh (ai (bh ⟨r,0,bj⟩)):=(aV (b0.block kb hk)).trans hc;have R0:Hid (PB (w.alloc (bg #[aa az 0,aa az 0,aa az 0,aa az 0,ai bj,ai bj,aa az 0,aa az 0,aa az 0,aa az 0,aa az 0,aa az 0] 74)) w.heap.size 0 0 Pr.no/\Below w.heap.size w (w.alloc (bg #[aa az 0,aa az 0,aa az 0,aa az 0,ai bj,ai bj,aa az 0,aa az 0,aa az 0,aa az 0,aa az 0,aa az 0] 74))):=hJ ⟨by unfold PB;rw[xV];exact heap_alloc_new w _,b0⟩;go_in
 go_wp2_with fail
 refine(Ny r _).mono ?_;rintro e w1 ⟨rfl,u1,b1⟩;rw[show(w.alloc (bg #[aa az 0,aa az 0,aa az 0,aa az 0,ai bj,ai bj,aa az 0,aa az 0,aa az 0,aa az 0,aa az 0,aa az 0] 74)).heap.size=w.heap.size+1 by simp]at u1 b1|-;have S1:Hid (PB w1 w.heap.size 0 0 Pr.no/\cY w1 (w.heap.size+1) r Mv.lQ/\Below w.heap.size w w1):=hJ ⟨R0.1.same (b1.block _ bu),u1,R0.2.trans (b1.mono bu)⟩;obtain⟨rb,hrb⟩:=hU (w.heap.size);have HR:=hJ hrb;rw[hrb]at S1|-;go_upto_region 2 with(refine Dx rfl rfl ?_)
 have F0:Hid (FO w r rb (w1.heap.size+1) (rb+1) w1.heap.size 0 ((w1.alloc (bg (gF Sg.fS) 235)).alloc (bg #[aa az 1,aa az (-1),aa az 0,aa az 0,ai (bh ⟨rb+1,0,bj⟩),ai (bh ⟨w1.heap.size,0,bj⟩),aa az 0,aa az 0,aa az 0,aa az 0,aa az 0,aa az 0] 74))):=hJ (by
  have l1:=S1.2.1.lt;have bx:=Lb w1;have bz:(w1.alloc (bg (gF Sg.fS) 235)).heap.size=w1.heap.size+1:=by simp
  have b2:Below (w1.alloc (bg (gF Sg.fS) 235)).heap.size (w1.alloc (bg (gF Sg.fS) 235)) ((w1.alloc (bg (gF Sg.fS) 235)).alloc (bg #[aa az 1,aa az (-1),aa az 0,aa az 0,ai (bh ⟨rb+1,0,bj⟩),ai (bh ⟨w1.heap.size,0,bj⟩),aa az 0,aa az 0,aa az 0,aa az 0,aa az 0,aa az 0] 74)):=(aQ _ _).alloc (aL _) _;have b3:=bx.2.trans (b2.mono bu);have N:=heap_alloc_new (w1.alloc (bg (gF Sg.fS) 235)) (bg #[aa az 1,aa az (-1),aa az 0,aa az 0,ai (bh ⟨rb+1,0,bj⟩),ai (bh ⟨w1.heap.size,0,bj⟩),aa az 0,aa az 0,aa az 0,aa az 0,aa az 0,aa az 0] 74);rw[bz]at N;have bb0:Below w.heap.size w w1:=by rw[HR.v];exact S1.2.2
  exact⟨by unfold PB;rw[Ry];exact N,S1.1.same (b3.block _ S1.1.lt),S1.2.1.below b3,bx.1.below b2 bu,bb0.trans (b3.mono bb0.size),by rw[HR.v];omega,bu⟩)
 generalize (w1.alloc (bg (gF Sg.fS) 235)).alloc (bg #[aa az 1,aa az (-1),aa az 0,aa az 0,ai (bh ⟨rb+1,0,bj⟩),ai (bh ⟨w1.heap.size,0,bj⟩),aa az 0,aa az 0,aa az 0,aa az 0,aa az 0,aa az 0] 74)=W2 at F0|-;obtain⟨mb,hmb⟩:=hU (rb+1);obtain⟨c,hcc⟩:=hU (w1.heap.size+1);obtain⟨bb,hbb⟩:=hU (w1.heap.size);rw[hmb,hcc,hbb]at F0|-;go_wp2_with fail
 go_loopw [4,13] (λ_ i wr=>∃(j:Nat),i=aa az j/\j<=6/\Hid (FO w r rb c mb bb j wr)) (λ_ i _=>6-(intOf i).toNat)
 case atStart=>exact⟨0,rfl,bu,F0⟩
 case round=>
  obtain⟨j,rfl,hj6,S⟩:=hrel;by_cases hlt:j<6
  .have hltI:(j:Int)<6:=bu
   have y1:=S.pb.cell (6+j) bu;have yf:=S.pb.frozen;generalize Kn.eW mb bb (Kn.gV j) (6+j)=pv at y1;have S1:=hJ (S.next hlt);go_wp2
   go_roundw
   case rel=>exact⟨j+1,by go_num,bu,S1⟩
   case measure=>simp[intOf];omega
  .obtain rfl:j=6:=bu
   obtain⟨B,hB⟩:=hU (dK mb bb (Kn.gV 6));have RG:Hid (wr.rangeAt c 0 B.toList):=hJ (by rw[<-hB];exact S.pb.range);have SL:Hid ((prog.info? 74).map (·.size)=bh B.toList.length):=hJ (by rw[<-hB,aB,dy];kernel_rfl);have SZ:Hid ((prog.info? 74).map (·.size)=bh B.size):=hJ (by rw[<-hB,dy];kernel_rfl);have TH:Hid (wr.there rb 0 B.size):=hJ (by rw[<-hB,dy];exact S.rs.there);have H1:Hid (B.all (·.oneCell')=true):=hJ (by rw[<-hB];exact pA _ _ _);have F6:Hid (PB (wr.setCells rb 0 B.toList) rb mb bb (Kn.gV 6)/\cY (wr.setCells rb 0 B.toList) mb r Mv.lQ/\CX (wr.setCells rb 0 B.toList) bb Sg.fS/\Below w.heap.size w (wr.setCells rb 0 B.toList)):=hJ (by
    have fr:bE rb wr (wr.setCells rb 0 B.toList):=bE.setCells _ _ (bE.refl _ _);have q:=S.v;exact⟨by rw[<-hB];exact q.rs.put _ _ _,q.um.same (fr.block _ q.um.lt (by have:=q.ne;omega)),q.ub.same (fr.block _ q.ub.lt (by have:=q.ne;omega)),fr.below q.bl q.ge.1 q.bl.size⟩)
   have GE:=hJ (aK S.ge S.ne);go_wp2_with (first|(refine wpList_load_mid rfl 74 _ rfl c 0 rfl B.toList _ RG.v Tryz.underlying74 rfl SL.v ?_;rw[Array.toArray_toList])|(refine wpList_store_mid rfl 74 _ _ rfl rb 0 B rfl rfl TH.v SZ.v H1.v ?_))
   generalize wr.setCells rb 0 B.toList=WF at F6|-;have g0:=F6.1.cell 0 bu;have g1:=F6.1.cell 1 bu;have g2:=F6.1.cell 2 bu;have g3:=F6.1.cell 3 bu;have g4:=F6.1.cell 4 bu;have g5:=F6.1.cell 5 bu;have g6:=F6.1.cell 6 bu;have g7:=F6.1.cell 7 bu;have g8:=F6.1.cell 8 bu;have g9:=F6.1.cell 9 bu;have g10:=F6.1.cell 10 bu;have g11:=F6.1.cell 11 bu
   (try simp only[Exit.then])
   refine bodyPost_ret (v:=au #[Kn.eW mb bb (Kn.gV 6) 0,Kn.eW mb bb (Kn.gV 6) 1,Kn.eW mb bb (Kn.gV 6) 2,Kn.eW mb bb (Kn.gV 6) 3,Kn.eW mb bb (Kn.gV 6) 4,Kn.eW mb bb (Kn.gV 6) 5,Kn.eW mb bb (Kn.gV 6) 6,Kn.eW mb bb (Kn.gV 6) 7,Kn.eW mb bb (Kn.gV 6) 8,Kn.eW mb bb (Kn.gV 6) 9,Kn.eW mb bb (Kn.gV 6) 10,Kn.eW mb bb (Kn.gV 6) 11]) (by simp[results,Tryz.f91,go_sem,g0,g1,g2,g3,g4,g5,g6,g7,g8,g9,g10,g11]) rfl ?_;exact⟨mb,bb,rfl,F6.2.1,F6.2.2.1,F6.2.2.2,GE.1.2.2.1,GE.1.2.2.2,GE.2.1⟩
namespace Kn
def oH:Mo.Tb:=⟨(0,0),[]⟩
def mZ:Kp:=⟨λ_=>Pr.no,λ_=>false,λ_=>oH,Sp.t0,Gr.t0,Wf.m0,Mv.Bj,Tr.f0,Pp.fS,Fx.fS⟩
def kQ:Kp:={mZ with fo:=Tr.dB Tr.g1 (0:Nat),ht:=λi=>if i=0 then true else false,gr:=Gr.j6 Gr.t0 Gr.W0 0 1 0}
theorem OD:Mv.fP Mv.Bj 20 (λ_=>Mv.lQ):=by
 have t0:∀f n,Mv.oJ (λ_=>Mv.lQ) f n=0:=λf n=>by
  induction n with
  |zero=>rfl
  |succ n ih=>show Mv.oJ _ f n+Mv.ec Mv.lQ.fr f 16=0;rw[ih,Mv.tF (fr:=Mv.lQ.fr) f 16 (λ_ _=>rfl)]
 exact⟨Bd.wi.1,Bd.wi.2,bu,λ_ _ _ _=>by show 0<=64;omega,λf _=>by show 0=_;rw[t0],λf _=>⟨λc=>aZ (show false=true from c) bA,λc=>aZ (show(0:Nat)>=1 from c) bA⟩,λf _ c=>aZ (show false=true from c) bA⟩
theorem Bo(k m:Nat):∀j,Fx.cK Fx.fS k m j=0:=λj=>by
 have:=Fx.sf Fx.fS k m j
 induction j with
 |zero=>rfl
 |succ j ih=>
  have q:=ih (Fx.sf Fx.fS k m j);show Fx.cK Fx.fS k m j+Fx.hit (Fx.fS j) k m=0;rw[q];rfl
theorem N4:Mo.HI Tr.g1 (λ_=>0):=⟨λn _=>by
 show(if n=0 then _ else Nd.no:Nd).held=0;split<;>rfl,λn _ h=>bu⟩
theorem Gu:Mo.HI (Tr.dB Tr.g1 (0:Nat)) (λn=>0+Mo.gG (0:Nat) n):=N4.dB (by rfl)
theorem SY(m:Nat):jq kQ m=Mo.gG (0:Nat) m:=by
 show(((((0+Mo.tc oH m)+0)+0)+0)+0)+0=_;unfold Mo.tc;rw[show oH.ms=[]from rfl,Mo.tX,show oH.rt.2=((0:Nat):Int)from rfl];omega
theorem TU:KJ (λ_=>False) 1 kQ:=by
 refine⟨⟨_,Sp.wi⟩,⟨Gr.W0,pG Gr.ym 0 1 0 bu bu⟩,OD,?_,λn _=>aC _,(show Tr.Ok (Tr.dB Tr.g1 ((0:Nat):Int))from Tr.Sz.dB _),λs hs h=>?_,λn _=>aC _,λn _ h=>?_,λn _ _ h=>?_,λn _=>?_,λs hs=>?_,λn _ _=>rfl⟩
 .refine⟨λn _ _=>rfl,λn _ h=>aZ rfl h,λn _ h=>aZ rfl h,λn _ h=>aZ rfl h,λn _=>aC _,λm hm=>?_,λm hm kz=>?_,λm _=>(Bo 2 m 24).symm,λm _=>(Bo 3 m 24).symm⟩
  .rw[SY];show((Tr.dB Tr.g1 (0:Nat)).nd m).held=Fx.cK Fx.fS 1 m 24+_;rw[Gu.hd m hm,Bo]
  .by_cases c:((Tr.dB Tr.g1 (0:Nat)).nd m).held=0
   .exact c
   .exact aZ kz (Gu.lv m hm (by rw[<-Gu.hd m hm];omega))
 .exact⟨⟨⟨0,rfl,bu⟩,λm hm=>by cases hm⟩,by show([]:List Mt).length<=6;exact aC _⟩
 .cases h
 .cases h
 .exact⟨λh=>aZ rfl h,λh=>aZ rfl h⟩
 .show(if s=0 then true else false)=decide (s=0);by_cases e:s=0
  .rw[aJ e];simp[e]
  .rw[aI e];simp[e]
def kN(m:Wf.M):Kp:=iO kQ 0 (gV 6) 0 m
theorem Ss:Sp.qp (Sp.fK Sp.t0 ((0:Nat):Int) ((0:Nat):Int)):=by
 refine⟨λs hs h=>?_,by decide⟩;rw[(Sp.kM (t:=Sp.t0) (z:=0) (x:=0) bu rfl bu rfl).1]at h;have e:s=0:=by
  by_cases c:s=0
  .exact c
  .have:decide (s=0)=true:=h;simp[c]at this
 subst e;exact⟨0,bu,by decide,by decide⟩
theorem Um(m:Wf.M):KH 1 (λ_=>1) (kN m):=by
 have h:=TU;have e:∀j,j≠0->(kN m).p j=Pr.no:=λj q=>bM kQ 0 j (gV 6) q;have e2:(kN m).p 0=gV 6:=bF kQ 0 (gV 6);have esp:(kN m).sp=Sp.fK Sp.t0 ((0:Nat):Int) ((0:Nat):Int):=rfl;have kj:KJ (λ_=>False) 1 (kN m):=by
  have iv:Sp.Inv (kN m).sp (λ_=>1):=by rw[esp];exact Sp.wi.enter _ _
  refine⟨⟨_,iv⟩,h.gr,?_,h.wx,h.rf,h.ok,h.tb,λj hj=>?_,λj hj=>?_,λj hj _=>?_,λj hj=>?_,λs hs=>?_,λj hj=>?_⟩
  .have:(λj=>((kN m).p j).mem)=λ_=>Mv.lQ:=funext λj=>by
    by_cases q:j=0
    .rw[q,e2];rfl
    .rw[e j q];rfl
   rw[this];exact OD
  .by_cases q:j=0
   .rw[q,e2];show 1<=2;omega
   .rw[e j q];exact aC _
  .by_cases q:j=0
   .rw[q,e2];intro _;rfl
   .rw[e j q];intro c;cases c
  .by_cases q:j=0
   .rw[q,e2];intro _;rfl
   .rw[e j q];intro c;cases c
  .rw[esp,Sp.ru (t:=Sp.t0) (z:=0) (x:=0) bu rfl bu rfl];by_cases q:j=0
   .rw[q,e2,aJ rfl];exact⟨λ_=>by show 1≠0;omega,λ_=>bu⟩
   .rw[e j q,aI q];exact⟨λc=>aZ rfl c,λc=>aZ rfl c⟩
  .rw[esp,(Sp.kM (t:=Sp.t0) (z:=0) (x:=0) bu rfl bu rfl).1];exact h.ht s hs
  .by_cases q:j=0
   .rw[q,e2];intro c;cases c
   .rw[e j q];intro _;rfl
 have vi:VI (λ_=>False) 1 (λ_=>1) (kN m):=⟨kj,by rw[esp];exact Sp.wi.enter _ _,Ss⟩;have st:∀j,j≠0->((kN m).p j).st=0:=λj q=>by rw[e j q];rfl
 refine⟨⟨vi,λj hj l hd1=>?_,λj hj q s=>aZ (st j q) s,vi.h0⟩,λj hj q s=>aZ (st j q) s,by rw[eP,e2];rfl,by rw[e2];rfl,λj z hj s=>?_⟩
 .by_cases q:j=0
  .subst q;exact aZ vi.h0 hd1
  .have:=eP.1 l;rw[st j q]at this;omega
 .by_cases q:j=0
  .rw[q,e2]at s;have:(1:Nat)=2:=s;omega
  .rw[st j q]at s;omega
end Kn
def GX(v:Nat->Value)(o:Nat):Value:=if o<240 then(if o%12=4 then ai bj else if o%12=5 then ai bj else aa .i64 0)else if o<246 then ai bj else v (o-246)
def nF(v:Nat->Value):Array Value:=((List.range 253).map (GX v)).toArray
theorem zV(v:Nat->Value):(nF v).size=253:=by simp[nF]
theorem EJ(v:Nat->Value)(o:Nat)(h:o<253):(nF v)[o]? =bh (GX v o):=by simp[nF,h]
def j9(a:Nat):Value:=ai (bh ⟨a,0,bj⟩)
def qU(a b c d e f:Nat)(i:Nat):Value:=if i=0 then j9 a else if i=1 then j9 b else if i=2 then j9 c else if i=3 then j9 d else if i=4 then j9 e else if i=5 then j9 f else ai bj
theorem zW(a b c d e f:Nat):prog.built 86 [(2,j9 a),(3,j9 b),(4,j9 c),(5,j9 d),(6,j9 e),(7,j9 f)]=bh (nF (qU a b c d e f)):=by kernel_rfl
section
variable {ops:Array Oper}{rest:List Oper}{x:Oper}{a:Act}{w:bD}{Q:Exit->Act->bD->Prop}
theorem Ih{y2 y3 y4 y5 y6 y7:Operand}(a2 a3 a4 a5 a6 a7:Nat)(hgd:x.guard=bj)(ho:x.op= .build 86 #[(2,y2),(3,y3),(4,y4),(5,y5),(6,y6),(7,y7)])(h2:a.eval y2=j9 a2)(h3:a.eval y3=j9 a3)(h4:a.eval y4=j9 a4)(h5:a.eval y5=j9 a5)(h6:a.eval y6=j9 a6)(h7:a.eval y7=j9 a7)(h:wpList prog ops Q rest (a.put x.dst (au (nF (qU a2 a3 a4 a5 a6 a7)))) w):wpList prog ops Q (x::rest) a w:=
 wpList_build hgd 86 #[(2,y2),(3,y3),(4,y4),(5,y5),(6,y6),(7,y7)] ho (by simp[h2,h3,h4,h5,h6,h7,zW]) (by simpa[h2,h3,h4,h5,h6,h7,zW]using h)
end
structure NW (w:bD)(a0 a1 a2 a3 a4 a5 a6 a7:Nat)(W:bD):Prop where
 sp:Tb true W a1 Sp.t0
 gr:Gr.bP W a2 Gr.t0
 sc:Wf.Fair W a3 Wf.m0
 bk:dz W a4 a5 Mv.Bj
 fo:bN W a6 Tr.f0
 pi:dH W a7 Pp.fS
 ke:W.heap[a0]? =bh (bg (nF (qU a1 a2 a3 a4 a6 a7)) 86 (0,0))
 bl:Below w.heap.size w W
 od:w.heap.size=a1/\a1<a2/\a2<a3/\a3<a5/\a5<a4/\a4<a6/\a6<a7/\a7<a0
theorem NW.lt{w:bD}{a0 a1 a2 a3 a4 a5 a6 a7:Nat}{W:bD}(h:NW w a0 a1 a2 a3 a4 a5 a6 a7 W):a0<W.heap.size:=(aX.1 h.ke).1
theorem NW.cell{w:bD}{a0 a1 a2 a3 a4 a5 a6 a7:Nat}{W:bD}(h:NW w a0 a1 a2 a3 a4 a5 a6 a7 W)(o:Nat)(ho:o<253):W.cell? ⟨a0,o,bj⟩=bh (GX (qU a1 a2 a3 a4 a6 a7) o):=by rw[bO h.ke,EJ _ o ho]
def lR(a0 a1 a2 a3 a4 a5 a6 a7 a8 i:Nat):Nat:=[a0,a1,a2,a3,a4,a5,a6,a7,a8].getD i 0
theorem NW.Un{w:bD}{UE a0 a1 a2 a3 a4 a5 a6 a7 a8:Nat}{W W':bD}(h:NW w a0 a1 a2 a3 a4 a5 a6 a7 W)(hb:UE<=w.heap.size)(e8:W.heap.size=a8)(xa:dR W' a8 a6 a7 Fx.fS)(bl:Below W.heap.size W W'):
  bH (W'.setCell ⟨a0,252,bj⟩ (ai (bh ⟨a8,0,bj⟩))) UE ⟨lR a0 a1 a2 a3 a4 a5 a6 a7 a8,λ_=>aj bj 0 0,Kn.mZ⟩/\Below w.heap.size w (W'.setCell ⟨a0,252,bj⟩ (ai (bh ⟨a8,0,bj⟩))):=by
 have od:=h.od;have l0:=h.lt;have k1:W'.heap[a0]? =bh (bg (nF (qU a1 a2 a3 a4 a6 a7)) 86 (0,0)):=(bl.block _ l0).trans h.ke;have fr:bE a0 W' (W'.setCell ⟨a0,252,bj⟩ (ai (bh ⟨a8,0,bj⟩))):=(bE.refl _ _).setCell _ _;have ls:=bl.size;have bk:∀b,b<a0->(W'.setCell ⟨a0,252,bj⟩ (ai (bh ⟨a8,0,bj⟩))).heap[b]? =W.heap[b]? :=λb hb=>(fr.block b bu bu).trans (bl.block b bu);have us9':∀i,us ⟨lR a0 a1 a2 a3 a4 a5 a6 a7 a8,λ_=>aj bj 0 0,Kn.mZ⟩ i->i<9:=λi hi=>by
  rcases hi with hi|⟨_,_,q⟩|⟨_,_,q⟩|⟨_,_,q⟩|⟨_,_,q,_⟩
  .exact hi
  .cases q
  .cases q
  .cases q
  .cases q
 have nd:∀i,i<9->∀j,j<9->lR a0 a1 a2 a3 a4 a5 a6 a7 a8 i=lR a0 a1 a2 a3 a4 a5 a6 a7 a8 j->i=j:=by
  have n:[a0,a1,a2,a3,a4,a5,a6,a7,a8].Nodup:=by
   simp only[List.nodup_cons,List.mem_cons,List.not_mem_nil,or_false,not_or,List.nodup_nil,not_false_eq_true,and_true];omega
  intro i hi j hj e;unfold lR at e;rw[aF,aF,aW (by simpa using hi),aW (by simpa using hj),Option.getD_some,Option.getD_some]at e;rcases Nat.lt_trichotomy i j with q|q|q
  .exact aZ e (List.pairwise_iff_getElem.1 n i j _ _ q)
  .exact q
  .exact aZ e.symm (List.pairwise_iff_getElem.1 n j i _ _ q)
 refine⟨⟨⟨_,cE k1 252 _,by simp[zV]⟩,λo ho=>?_,h.sp.same (bk a1 bu),(bk a2 bu).trans h.gr,h.sc.same (bk a3 bu),h.bk.same (bk a4 bu) (bk a5 bu),xa.same (fr.block a8 xa.lt bu),h.fo.same (bk a6 bu),h.pi.same (bk a7 bu),λn _ q=>(by cases q),λn _ q=>(by cases q),λn _ q=>(by cases q),λn _ q=>(by cases q),λi j hi hj e=>nd i (us9' i hi) j (us9' j hj) e,λi hi=>?_⟩,fr.below (h.bl.trans (bl.mono h.bl.size)) bu (by have:=h.bl.size;omega)⟩
 .show(W'.setCell ⟨a0,252,bj⟩ _).cell? ⟨a0,o,bj⟩=_;by_cases q:o=252
  .subst q;rw[du k1 _ _ (by rw[zV];omega)];unfold Kn.kc;rw[nJ,nJ,nJ,show 252-244=8 by omega];rfl
  .rw[da k1 _ _ _ (bQ q),bO k1,EJ _ o ho];congr 1;unfold GX Kn.kc;by_cases c:o<240
   .rw[aJ c,aJ c];unfold Kn.pc;have m:o%12<12:=Nat.mod_lt _ bu;generalize o%12=j at m
    match j,m with
    |0,_=>rfl
    |1,_=>rfl
    |2,_=>rfl
    |3,_=>rfl
    |4,_=>rfl
    |5,_=>rfl
    |j+6,_=>
     rw[nJ,nJ];unfold Kn.eW;rw[nJ,nJ,nJ,nJ,nJ,nJ];rfl
   .rw[aI c,aI c];by_cases c2:o<246
    .rw[aJ c2,aJ c2];rfl
    .rw[aI c2,aI c2];have q2:o=246\/o=247\/o=248\/o=249\/o=250\/o=251:=bu
     rcases q2 with rfl|rfl|rfl|rfl|rfl|rfl<;>rfl
 .have i9:=us9' i hi;have q:i=0\/i=1\/i=2\/i=3\/i=4\/i=5\/i=6\/i=7\/i=8:=bu
  rcases q with rfl|rfl|rfl|rfl|rfl|rfl|rfl|rfl|rfl
  .show UE<=a0;omega
  .show UE<=a1;omega
  .show UE<=a2;omega
  .show UE<=a3;omega
  .show UE<=a4;omega
  .show UE<=a5;omega
  .show UE<=a6;omega
  .show UE<=a7;omega
  .show UE<=a8;omega
theorem Mc(w:bD):
  Calls prog 32 #[] w λe w'=>∃(s:St) (m:Wf.M),e=bf (ai (bh ⟨s.A 0,0,bj⟩))/\s.k=Kn.kN m/\Wf.iY (Wf.dZ Wf.m0 ((0:Nat):Int) 0) ((0:Nat):Int) true m/\bH w' w.heap.size s/\Below w.heap.size w w':=by
 obtain⟨UE,hbs⟩:=hU (w.heap.size);have HB:Hid (UE<=w.heap.size):=hJ bu;have HBS:=hJ hbs;clear hbs;go_in
 go_wp2_with fail
 refine sC (rD _) ?_;rintro w1 ⟨t1,b1,l1⟩;have S1:=hJ (aK t1 (aK b1 l1));clear t1 b1 l1;go_wp2_with fail
 refine sC (Gr.rD _) ?_;rintro w2 ⟨t2,b2⟩;have S2:=hJ (aK t2 b2);clear t2 b2;go_wp2_with fail
 refine sC (Wf.rD _) ?_;rintro w3 ⟨t3,b3,l3⟩;have S3:=hJ (aK t3 (aK b3 l3));clear t3 b3 l3;go_wp2_with fail
 refine(Dl _).mono ?_;rintro e w4 ⟨a4,rfl,t4,b4,l4⟩;have S4:=hJ (aK t4 (aK b4 l4));clear t4 b4 l4;go_wp2_with fail
 refine sC (Ns _) ?_;rintro w5 ⟨t5,b5⟩;have S5:=hJ (aK t5 b5);clear t5 b5;have F7:Hid (NW w (w5.heap.size+1) w.heap.size w1.heap.size w2.heap.size a4 w3.heap.size w4.heap.size w5.heap.size ((w5.alloc (bg Pp.zA 122)).alloc (bg (nF (qU w.heap.size w1.heap.size w2.heap.size a4 w4.heap.size w5.heap.size)) 86))):=hJ (by
  obtain⟨p6,c6⟩:=D6 w5;have z6:(w5.alloc (bg Pp.zA 122)).heap.size=w5.heap.size+1:=by simp
  have c7:Below (w5.alloc (bg Pp.zA 122)).heap.size (w5.alloc (bg Pp.zA 122)) ((w5.alloc (bg Pp.zA 122)).alloc (bg (nF (qU w.heap.size w1.heap.size w2.heap.size a4 w4.heap.size w5.heap.size)) 86)):=(aQ _ _).alloc (aL _) _;have N:=heap_alloc_new (w5.alloc (bg Pp.zA 122)) (bg (nF (qU w.heap.size w1.heap.size w2.heap.size a4 w4.heap.size w5.heap.size)) 86);rw[z6]at N;have e5:=c6.trans (c7.mono bu);have e4:=S5.2.trans (e5.mono S5.2.size);have e3:=S4.2.1.trans (e4.mono S4.2.1.size);have e2:=S3.2.1.trans (e3.mono S3.2.1.size);have e1:=S2.2.trans (e2.mono S2.2.size);have e0:=S1.2.1.trans (e1.mono S1.2.1.size);have g2:=S2.1.lt;have g3:=S3.2.2;have g4:=S4.2.2;have g4':=S4.1.lt;have g5:=S5.1.lt;exact⟨S1.1.same (e1.block _ S1.2.2),(e2.block _ g2).trans S2.1,S3.1.same (e3.block _ g3),S4.1.same (e4.block _ g4') (e4.block _ S4.1.Cm),S5.1.same (e5.block _ g5),p6.same (c7.block _ bu),N,e0,rfl,S1.2.2,g2,g3,g4,g4',g5,bu⟩)
 obtain⟨a1,h1⟩:=hU (w.heap.size);obtain⟨a2,h2⟩:=hU (w1.heap.size);obtain⟨a3,h3⟩:=hU (w2.heap.size);obtain⟨a5,h5⟩:=hU (w3.heap.size);obtain⟨a6,h6⟩:=hU (w4.heap.size);have H1:=hJ h1;rw[h1,h2,h3,h5,h6]at F7;rw[h1,h2,h3,h6];obtain⟨KA,hKA⟩:=hU (nF (qU a1 a2 a3 a4 a6 w5.heap.size));have HKA:=hJ hKA;rw[hKA]at F7;clear S1 S2 S3 S4 S5 h1 h2 h3 h5 h6;go_upto_region 2 with(first|(refine Pp.Kz rfl rfl ?_)|(refine Ih a1 a2 a3 a4 a6 w5.heap.size rfl rfl rfl rfl rfl rfl rfl rfl ?_;rw[hKA]))
 obtain⟨a7,h7⟩:=hU (w5.heap.size);obtain⟨a0,h0⟩:=hU (w5.heap.size+1);generalize (w5.alloc (bg Pp.zA 122)).alloc (bg KA 86)=W7 at F7|-;rw[h0]at F7|-;rw[h7]at F7|-;clear hKA HKA h7 h0;have K0:Hid (W7.cell? ⟨a0,250,bj⟩=bh (ai (bh ⟨a6,0,bj⟩))/\W7.cell? ⟨a0,251,bj⟩=bh (ai (bh ⟨a7,0,bj⟩))):=hJ ⟨F7.cell 250 bu,F7.cell 251 bu⟩;have XN:=hJ (ND a6 a7 W7.drew);obtain⟨a8,h8⟩:=hU (W7.heap.size);have hd8:W7.drew.heap.size=a8:=h8;have H8:=hJ h8;rw[hd8]at XN;have FIN:Hid (∀w8,dR w8 a8 a6 a7 Fx.fS->Below a8 W7.drew w8->(bH (w8.setCell ⟨a0,252,bj⟩ (ai (bh ⟨a8,0,bj⟩))) UE ⟨lR a0 a1 a2 a3 a4 a5 a6 a7 a8,λ_=>aj bj 0 0,Kn.mZ⟩/\Below w.heap.size w (w8.setCell ⟨a0,252,bj⟩ (ai (bh ⟨a8,0,bj⟩))))/\(w8.cell? ⟨a0,250,bj⟩=bh (ai (bh ⟨a6,0,bj⟩))/\w8.cell? ⟨a0,251,bj⟩=bh (ai (bh ⟨a7,0,bj⟩)))/\((w8.setCell ⟨a0,252,bj⟩ (ai (bh ⟨a8,0,bj⟩))).cell? ⟨a0,250,bj⟩=bh (ai (bh ⟨a6,0,bj⟩))/\(w8.setCell ⟨a0,252,bj⟩ (ai (bh ⟨a8,0,bj⟩))).cell? ⟨a0,251,bj⟩=bh (ai (bh ⟨a7,0,bj⟩)))/\(∃v,w8.cell? ⟨a0,252,bj⟩=bh v)/\∀o,w8.frozen? ⟨a0,o,bj⟩=false):=hJ (λw8 xa bl=>by
  have bl':Below W7.heap.size W7 w8:=by rw[H8.v];exact⟨bl.os,bl.tape,bl.output,by have:=bl.size;exact this,bl.block⟩
  have q:=F7.Un HB.v H8.v xa bl';have ke:w8.heap[a0]? =bh (bg (nF (qU a1 a2 a3 a4 a6 a7)) 86 (0,0)):=(bl'.block _ F7.lt).trans F7.ke;have c:∀o,w8.cell? ⟨a0,o,bj⟩=W7.cell? ⟨a0,o,bj⟩:=λo=>aV (bl'.block _ F7.lt);refine⟨q,by rw[c,c];exact K0.v,⟨by rw[da ke _ _ _ bu,c];exact K0.1,by rw[da ke _ _ _ bu,c];exact K0.2⟩,⟨_,by rw[c];exact F7.cell 252 bu⟩,λo=>cv ke o⟩)
 clear h8 hd8;obtain⟨y1,y2⟩:=K0.v;go_region_held3 (λw'=>w'.cell? ⟨a0,250,bj⟩=bh (ai (bh ⟨a6,0,bj⟩))/\w'.cell? ⟨a0,251,bj⟩=bh (ai (bh ⟨a7,0,bj⟩))) (first|exact K0.v|exact S8.2.1|exact S8.2.2.1) (
  (go_at_call 88;refine sC XN.v ?_;rintro w8 ⟨xa,bl⟩;have S8:=hJ (FIN.v w8 xa bl);clear xa bl;have cy:=S8.2.2.2.1;obtain⟨vy,cy⟩:=cy;have fz:=S8.2.2.2.2))
 have S9:=hJ S8.1;clear FIN K0 XN y1 y2 cy fz;generalize w8.setCell ⟨a0,252,bj⟩ (ai (bh ⟨a8,0,bj⟩))=W9 at*;clear S8;have AA:Hid (lR a0 a1 a2 a3 a4 a5 a6 a7 a8 0=a0/\lR a0 a1 a2 a3 a4 a5 a6 a7 a8 2=a2/\lR a0 a1 a2 a3 a4 a5 a6 a7 a8 4=a4/\lR a0 a1 a2 a3 a4 a5 a6 a7 a8 6=a6):=hJ ⟨rfl,rfl,rfl,rfl⟩;generalize lR a0 a1 a2 a3 a4 a5 a6 a7 a8=A at S9 AA;have c250:=S9.1.vD;rw[show(⟨A,λ_=>aj bj 0 0,Kn.mZ⟩:St).A 0=a0 from AA.1,show(⟨A,λ_=>aj bj 0 0,Kn.mZ⟩:St).A 6=a6 from AA.2.2.2]at c250;have PL:Hid (Calls prog 89 #[ai (bh ⟨a6,0,bj⟩)] W9 λe w'=>∃v,e=bf v/\bH w' UE ⟨A,λ_=>aj bj 0 0,{Kn.mZ with fo:=Tr.g1}⟩/\Below w.heap.size w w'):=hJ (by
  have fo:bN W9 (A 6) Tr.f0:=S9.1.fo;have q:=yl (A 6) Tr.f0 W9 fo bA;rw[AA.2.2.2]at q;refine q.mono ?_;rintro e w' ⟨T,E,G,rfl,hp,h2,k2⟩;obtain⟨rfl,rfl,rfl⟩:=Tr.JN hp;rw[<-AA.2.2.2]at h2 k2;have q2:=S9.1.AV h2 k2;exact⟨_,rfl,q2.1,k2.below S9.2 (by rw[HBS.v];exact S9.1.low 6 bS) S9.2.size⟩)
 go_wp2_with fail
 refine PL.mono ?_;rintro e w10 ⟨v10,rfl,k10,b10⟩;have S10:=hJ (aK k10 b10);clear k10 b10 PL c250 S9;go_upto_region 4 with fail
 have K0:Hid (w10.cell? ⟨a0,250,bj⟩=bh (ai (bh ⟨a6,0,bj⟩))):=hJ (by
  have q:=S10.1.vD;rw[show(⟨A,λ_=>aj bj 0 0,{Kn.mZ with fo:=Tr.g1}⟩:St).A 0=a0 from AA.1,show(⟨A,λ_=>aj bj 0 0,{Kn.mZ with fo:=Tr.g1}⟩:St).A 6=a6 from AA.2.2.2]at q;exact q)
 have MN:Hid (Calls prog 90 #[ai (bh ⟨a6,0,bj⟩),aa az 0] w10.drew λe w'=>∃b,e=bf (ao #[ai (bh ⟨b,0,bj⟩),ay])/\bH (w'.setCell ⟨a0,240,bj⟩ (ai (bh ⟨b,0,bj⟩))) UE (Kn.ib ⟨A,λ_=>aj bj 0 0,{Kn.mZ with fo:=Tr.dB Tr.g1 ((0:Nat):Int)}⟩ 0 b (aj bj 0 0) Kn.oH)/\Below w.heap.size w (w'.setCell ⟨a0,240,bj⟩ (ai (bh ⟨b,0,bj⟩)))/\w'.cell? ⟨a0,250,bj⟩=bh (ai (bh ⟨a6,0,bj⟩))/\(w'.setCell ⟨a0,240,bj⟩ (ai (bh ⟨b,0,bj⟩))).cell? ⟨a0,250,bj⟩=bh (ai (bh ⟨a6,0,bj⟩))/\(∃v,w'.cell? ⟨a0,240,bj⟩=bh v)/\∀o,w'.frozen? ⟨a0,o,bj⟩=false):=hJ (by
  have fo:bN w10.drew (A 6) Tr.g1:=S10.1.drew.fo;have q:=PM (A 6) 0 Tr.g1 0 w10.drew fo (by rfl) (λn hn=>by rw[Kn.N4.hd n hn];exact aL 0) bu;rw[AA.2.2.2]at q;refine q.mono ?_;rintro e w' ⟨b,rfl,lb,tt,h2,k2⟩;rw[<-AA.2.2.2]at h2 k2;have q2:=S10.1.drew.AV h2 k2;have lt:∀i,us ⟨A,λ_=>aj bj 0 0,{Kn.mZ with fo:=Tr.g1}⟩ i->A i<b:=λi hi=>aD (S10.1.lt hi) lb;have tt0:=tt UE;rw[<-AA.2.2.2]at tt0;have q3:=q2.1.Og (y:=0) (c:=b) bu (v:=aj bj 0 0) (T:=Kn.oH) tt0 (λi hi=>by have:=lt i hi;show A i≠b;omega) (λg eg=>by cases eg) (by have:=S10.2.size;have:=HBS.v;have e1:w10.heap.size<=b:=lb;omega);have e0:A 0=a0:=AA.1;rw[show(⟨A,λ_=>aj bj 0 0,{Kn.mZ with fo:=Tr.dB Tr.g1 ((Tr.fB Tr.g1 0:Nat):Int)}⟩:St).A 0=a0 from e0]at q3;have b2:Below w.heap.size w w':=k2.below S10.2.drew (by rw[HBS.v];exact S10.1.low 6 bS) S10.2.size;obtain⟨C,ke,_⟩:=q2.1.lO;have ke':w'.heap[a0]? =bh (bg C 86 (0,0)):=by rw[<-e0];exact ke
  have l0:w.heap.size<=a0:=by rw[HBS.v,<-e0];exact S10.1.low 0 bS
  have q4:w'.cell? ⟨a0,250,bj⟩=bh (ai (bh ⟨a6,0,bj⟩)):=by have:=q2.1.vD;rw[<-e0,<-AA.2.2.2];exact this
  refine⟨b,rfl,q3.1,q3.2.below b2 l0 b2.size,q4,by rw[da ke' _ _ _ bu];exact q4,?_,λo=>cv ke' o⟩;have:=q2.1.dQ 240 bu;rw[<-e0];exact⟨_,this⟩)
 have y1:=K0.v;go_region_held3 (λw'=>w'.cell? ⟨a0,250,bj⟩=bh (ai (bh ⟨a6,0,bj⟩))) (first|exact K0.v|exact S11.2.2.1|exact S11.2.2.2.1) (
  (go_at_call 90;refine MN.mono ?_;rintro e w11 ⟨tb,rfl,q1,q2,q3,q4,q5,q6⟩;have S11:=hJ (aK q1 (aK q2 (aK q3 (aK q4 (aK q5 q6)))));clear q1 q2 q3 q4 q5 q6;have cy:=S11.2.2.2.2.1;obtain⟨vy,cy⟩:=cy;have fz:=S11.2.2.2.2.2))
 have S12:=hJ (aK S11.1 S11.2.1);clear K0 MN y1 cy fz S10;generalize w11.setCell ⟨a0,240,bj⟩ (ai (bh ⟨tb,0,bj⟩))=W12 at*;clear S11;have EO:Hid ((Kn.ib ⟨A,λ_=>aj bj 0 0,{Kn.mZ with fo:=Tr.dB Tr.g1 ((0:Nat):Int)}⟩ 0 tb (aj bj 0 0) Kn.oH).A 0=a0/\(Kn.ib ⟨A,λ_=>aj bj 0 0,{Kn.mZ with fo:=Tr.dB Tr.g1 ((0:Nat):Int)}⟩ 0 tb (aj bj 0 0) Kn.oH).A 2=a2/\(Kn.ib ⟨A,λ_=>aj bj 0 0,{Kn.mZ with fo:=Tr.dB Tr.g1 ((0:Nat):Int)}⟩ 0 tb (aj bj 0 0) Kn.oH).A 4=a4/\({(Kn.ib ⟨A,λ_=>aj bj 0 0,{Kn.mZ with fo:=Tr.dB Tr.g1 ((0:Nat):Int)}⟩ 0 tb (aj bj 0 0) Kn.oH).k with gr:=Gr.j6 Gr.t0 Gr.W0 0 1 0}:Kp)=Kn.kQ):=hJ (by
  refine⟨(Kn.fD _ _ _ _ _ bu bu).trans AA.1,(Kn.fD _ _ _ _ _ bu bu).trans AA.2.1,(Kn.fD _ _ _ _ _ bu bu).trans AA.2.2.1,?_⟩;have tbe:(λi=>if i=0 then Kn.oH else Kn.oH)=λ_:Nat=>Kn.oH:=funext λi=>by split<;>rfl
  show(⟨λ_=>Pr.no,λi=>if i=0 then true else false,λi=>if i=0 then Kn.oH else Kn.oH,Sp.t0,Gr.j6 Gr.t0 Gr.W0 0 1 0,Wf.m0,Mv.Bj,Tr.dB Tr.g1 ((0:Nat):Int),Pp.fS,Fx.fS⟩:Kp)=_;rw[tbe];rfl)
 have GRK:Hid ((Kn.ib ⟨A,λ_=>aj bj 0 0,{Kn.mZ with fo:=Tr.dB Tr.g1 ((0:Nat):Int)}⟩ 0 tb (aj bj 0 0) Kn.oH).k.gr=Gr.t0):=hJ rfl;generalize Kn.ib ⟨A,λ_=>aj bj 0 0,{Kn.mZ with fo:=Tr.dB Tr.g1 ((0:Nat):Int)}⟩ 0 tb (aj bj 0 0) Kn.oH=s1 at*;have c247:=S12.1.oS;rw[EO.1,EO.2.1]at c247;have CG:Hid (Calls prog 65 #[ai (bh ⟨a2,0,bj⟩),aa az 0,aa az 1,aa az 0] W12 λe w'=>∃v,e=bf v/\bH w' UE {s1 with k:=Kn.kQ}/\Below w.heap.size w w'):=hJ (by
  have gt:=S12.1.gr;rw[GRK.v]at gt;have q:=Gr.mM (s1.A 2) 0 1 0 Gr.t0 Gr.W0 W12 gt Gr.ym.ways (Gr.ym.small bu);rw[EO.2.1]at q;refine sC q ?_;rintro w' ⟨t4,f4⟩;rw[<-EO.2.1]at t4 f4;have q2:=S12.1.jF t4 f4.rM;rw[EO.2.2.2]at q2;exact⟨_,rfl,q2.1,f4.rM.below S12.2 (by rw[HBS.v];exact S12.1.low 2 bS) S12.2.size⟩)
 go_wp2_with fail
 refine CG.mono ?_;rintro e w13 ⟨v13,rfl,k13,b13⟩;have S13:=hJ (aK k13 b13);clear k13 b13 CG c247 S12 GRK;have FP:Hid (Calls prog 91 #[ai (bh ⟨a0,0,bj⟩)] w13 λe w'=>∃mb bb,e=bf (au (dK mb bb (Kn.gV 6)))/\cY w' mb a4 Mv.lQ/\CX w' bb Sg.fS/\Below w13.heap.size w13 w'/\w13.heap.size<=mb/\w13.heap.size<=bb/\mb≠bb):=hJ (GH a0 a4 w13 (by have:=S13.1.Uj;rw[show({s1 with k:=Kn.kQ}:St).A 0=a0 from EO.1,show({s1 with k:=Kn.kQ}:St).A 4=a4 from EO.2.2.1]at this;exact this) (by have:=S13.1.lt (bS (i:=0) bu);rw[show({s1 with k:=Kn.kQ}:St).A 0=a0 from EO.1]at this;exact this));go_wp2_with fail
 refine FP.mono ?_;rintro e w14 ⟨mb,bb,rfl,um,ub,bl,lm,lb,mn⟩;have S14:Hid (bH w14 UE {s1 with k:=Kn.kQ}/\Below w.heap.size w w14):=hJ ⟨S13.1.below bl,S13.2.trans (bl.mono S13.2.size)⟩;have lt:∀i,us {s1 with k:=Kn.kQ} i->s1.A i<w13.heap.size:=λi hi=>S13.1.lt hi;have bs:=S13.2.size;have ST0:=xR UE {s1 with k:=Kn.kQ} w14 0 mb bb (Kn.gV 6) ((0:Nat):Int) (λ_=>1) S14.1 bu Sp.wi (by rw[show({s1 with k:=Kn.kQ}:St).A 4=a4 from EO.2.2.1];exact um) ub (λi hi=>by have:=lt i hi;show s1.A i≠mb;omega) (λi hi=>by have:=lt i hi;show s1.A i≠bb;omega) mn (by have:=HBS.v;omega) (by have:=HBS.v;omega);rw[show({s1 with k:=Kn.kQ}:St).A 0=a0 from EO.1]at ST0;obtain⟨PA,hPA⟩:=hU (dK mb bb (Kn.gV 6));rw[hPA]at ST0|-;have ST:Hid (Calls prog 68 #[ai (bh ⟨a0,0,bj⟩),aa az 0,au PA,aa az 0] w14 λe w'=>∃m',e=bf (ao #[])/\Wf.iY (Wf.dZ Wf.m0 ((0:Nat):Int) 0) ((0:Nat):Int) true m'/\bH w' UE {Kn.dN {s1 with k:=Kn.kQ} 0 mb bb (Kn.gV 6)with k:=Kn.kN m'}/\dF (KB {s1 with k:=Kn.kQ}) w14 w'):=hJ ST0;clear ST0 um ub bl lm lb mn lt bs hPA FP;go_wp2_with fail
 refine ST.mono ?_;rintro e w15 ⟨m',rfl,wk,k15,o15⟩;have S15:Hid (Wf.iY (Wf.dZ Wf.m0 ((0:Nat):Int) 0) ((0:Nat):Int) true m'/\bH w15 UE {Kn.dN {s1 with k:=Kn.kQ} 0 mb bb (Kn.gV 6)with k:=Kn.kN m'}/\Below w.heap.size w w15):=hJ ⟨wk,k15,o15.behind S14.2 (λb hb=>by rw[HBS.v];exact S14.1.Rj hb) S14.2.size⟩;clear wk k15 o15 ST;go_wp2
 go_ret
 refine⟨{Kn.dN {s1 with k:=Kn.kQ} 0 mb bb (Kn.gV 6)with k:=Kn.kN m'},m',?_,rfl,S15.1,by rw[HBS.v];exact S15.2.1,S15.2.2⟩;rw[show({Kn.dN {s1 with k:=Kn.kQ} 0 mb bb (Kn.gV 6)with k:=Kn.kN m'}:St).A 0=a0 from(Kn.eG {s1 with k:=Kn.kQ} 0 mb bb (Kn.gV 6) (i:=0) bu bu).trans EO.1];rfl
open Kn (Pr Kp St us KB KJ VI EI KH)
namespace Kn
theorem Gn{m1 m2:Wf.M}{r:Int}(k:Wf.iY (Wf.dZ Wf.m0 ((0:Nat):Int) 0) ((0:Nat):Int) true m1)(t:Wf.Bc m1 r m2):r=0:=by
 unfold Wf.iY at k;subst k;have h:∀n,n<20->(Wf.dZ Wf.m0 ((0:Nat):Int) 0).here (10+n)=decide (n=0):=by decide
 rcases t.2 with⟨_,q⟩|⟨n,rfl,hn,e⟩
 .exact aZ ⟨rfl,rfl⟩ q
 .have e2:(Wf.dZ Wf.m0 ((0:Nat):Int) 0).here (10+n)=true:=e;rw[h n hn]at e2;simpa using e2
theorem KH.tick{N:Nat}{d:Nat->Nat}{k:Kp}(h:KH N d k)(m:Wf.M):KH (N+1) d {k with sc:=m}:=by
 have kj:KJ (λ_=>False) (N+1) {k with sc:=m}:=(h.ki.vi.kj.mono (λ_ _ e=>e) (Nat.le_succ N)).kH m;exact⟨⟨⟨kj,h.ki.vi.iv,h.ki.vi.hs⟩,h.ki.fi,h.ki.pr,h.ki.h0⟩,λj hj j0 s=>by
  obtain⟨q,a⟩:=h.pp j hj j0 s;exact⟨q,a.fU,a.qm,a.pq,a.lq,a.oq⟩,h.l0,h.p0,h.ge⟩
end Kn
section
variable (UE:Nat)(s:St)(w:bD)
theorem zX(h:bH w UE s):
  Calls prog 37 #[ai (bh ⟨s.A 0,0,bj⟩)] w λe w'=>∃(r:Int) (m:Wf.M),e=bf (aa az r)/\Wf.Bc s.k.sc r m/\bH w' UE {s with k:={s.k with sc:=m}}/\KF s w {s with k:={s.k with sc:=m}} w':=by
 have c8:=h.xD;have TK:=hJ (Wf.Np (s.A 3) s.k.sc w h.sc);have H:=hJ h;obtain⟨a3,h3⟩:=hU (s.A 3);have H3:=hJ h3;rw[h3]at c8 TK;generalize s.A 0=kb at*;go_in
 go_wp2_with fail
 refine TK.mono ?_;rintro e w1 ⟨r,m,rfl,t,u,f⟩;have S1:Hid (Wf.Bc s.k.sc r m/\bH w1 UE {s with k:={s.k with sc:=m}}/\KF s w {s with k:={s.k with sc:=m}} w1):=hJ (by
  rw[<-H3.v]at u f;exact⟨t,H.kH u f⟩)
 go_wp2
 go_ret
 exact⟨r,m,rfl,S1.v⟩
end
def Kn.Ej(k:Kp):Prop:=∃m m',k={Kn.kN m with sc:=m'}
theorem Kn.Ej.p{k:Kp}(h:Kn.Ej k):k.p 0=Kn.gV 6/\(∀j,j≠0->k.p j=Pr.no)/\k.sp=Sp.fK Sp.t0 ((0:Nat):Int) ((0:Nat):Int):=by
 obtain⟨m,m',rfl⟩:=h;exact⟨Kn.bF Kn.kQ 0 (Kn.gV 6),λj q=>Kn.bM Kn.kQ 0 j (Kn.gV 6) q,rfl⟩
theorem Kn.Ej.live{k:Kp}(h:Kn.Ej k):Kn.dV k 20=[0]:=by
 have e:Kn.lv k=λn=>decide (n=0):=funext λn=>by
  unfold Kn.lv;by_cases c:n=0
  .rw[c,h.p.1];rfl
  .rw[h.p.2.1 n c];simp[c];exact λq=>by cases q
 unfold Kn.dV;rw[e];rfl
theorem GD(w:bD):
  Calls prog 9 #[] w λe w'=>∃s:St,e=bf (ao #[ai (bh ⟨s.A 0,0,bj⟩),ar true])/\Kn.Ej s.k/\KH 2 (λ_=>1) s.k/\bH w' w.heap.size s/\Below w.heap.size w w':=by
 go_in
 go_wp2_with fail
 refine(Mc _).mono ?_;rintro e w1 ⟨s,m,rfl,ek,wk,k1,b1⟩;have S1:=hJ (aK ek (aK wk (aK k1 b1)));have KH1:Hid (KH 1 (λ_=>1) s.k):=hJ (by rw[ek];exact Kn.Um m);have TK:=hJ (zX w.heap.size s w1 S1.2.2.1);obtain⟨kb,hkb⟩:=hU (s.A 0);have HK:=hJ hkb;rw[hkb]at TK|-;go_wp2_with fail
 refine TK.mono ?_;rintro e w2 ⟨r,m',rfl,t,k2,f2⟩;have r0:r=0:=Kn.Gn S1.2.1 (by
  have e:=S1.1;rw[e]at t;exact t)
 subst r0;have S2:Hid (Kn.Ej {s.k with sc:=m'}/\KH 2 (λ_=>1) {s.k with sc:=m'}/\bH w2 w.heap.size {s with k:={s.k with sc:=m'}}/\Below w.heap.size w w2):=hJ ⟨⟨m,m',by rw[S1.1]⟩,KH1.tick m',k2,f2.behind S1.2.2.1 S1.2.2.2 (aL _) S1.2.2.2.size⟩;have PR:=hJ (xQ w.heap.size {s with k:={s.k with sc:=m'}} w2 S2.2.2.1);rw[show({s with k:={s.k with sc:=m'}}:St).A 0=kb from HK.v,show Kn.dV ({s with k:={s.k with sc:=m'}}:St).k 20=[0]from S2.1.live]at PR;go_wp2_with fail
 refine PR.mono ?_;rintro e w3 ⟨v3,rfl,hL⟩;obtain⟨a,cap,hv⟩:=fG hL.own;have hv':v3=aj a 1 cap:=hv;subst hv';have S3:Hid (bH w3 w.heap.size {s with k:={s.k with sc:=m'}}/\Below w.heap.size w w3):=hJ ⟨S2.2.2.1.below hL.cM,S2.2.2.2.trans (hL.cM.mono S2.2.2.2.size)⟩;go_wp2
 go_ret2
 exact⟨{s with k:={s.k with sc:=m'}},by rw[show({s with k:={s.k with sc:=m'}}:St).A 0=kb from HK.v];rfl,S2.1,S2.2.1,S3.v⟩
theorem Pd(a:Option Addr)(n c:Nat)(m:Int)(w:bD)(hn:m<(n:Int)):
  Calls prog 10 #[aj a n c,aa az m] w λe w'=>e=bf (ar false)/\w'=w:=by
 have d:decide ((n:Int)<=m)=false:=by simp;omega
 go_in
 go_wp2_with fail
 refine sC (zY _ _ _ _ _) ?_;rintro w1 hw;subst w1;rw[d];go_wp2
 go_ret
 exact⟨rfl,rfl⟩
theorem n7(E:Int)(w:bD):Calls prog 23 #[bG E] w λe w'=>e=bf (aa az E)/\w'=w:=by
 by_cases c:E=0
 .subst c;rw[bB];go_in
  go_wp2
  go_ret
  exact⟨rfl,rfl⟩
 .rw[bC c];have ha:=OP E;go_in
  go_wp2
  go_ret
  exact⟨rfl,rfl⟩
namespace Kn
theorem wO{t:Nat->Gr.Gp}{Wy Wy0:Nat->List (Fin 10)}{c:Nat}(h:Gr.Tree t Wy0 c)(w:Gr.fF t Wy):Gr.Tree t Wy c:=
 ⟨w,λk hk=>by
  have l:=congrArg List.length ((w k hk).unique (h.ways k hk));unfold Gr.jM at l;simp only[List.length_map]at l;rw[l];exact h.deep k hk,h.root,h.par,h.own⟩
theorem uW{k:Kp}{n:Nat}(a:bT k (n:Int)=0):lv k n=true:=by
 obtain⟨n',e,_,l⟩:=fq a;obtain rfl:n=n':=bu
 exact l
section
variable {N:Nat}{d:Nat->Nat}{k k':Kp}
theorem KH.more(h:KH N d k){M:Nat}(hM:N<=M):KH M d k:=h.gr hM (by obtain⟨Wy,g⟩:=h.ki.vi.kj.gr;exact⟨Wy,g.mono hM⟩)
theorem KH.fork(h:KH N d k){z:Int}{own:Bool}{p:Nat}{E:Int}(f:AB k z own p E k'):∃d',KH (N+2) d' k':=by
 rcases f with⟨_,_,_,rfl⟩|⟨a,n,c,F,Wy,rfl,hn,fr,ways,f⟩
 .exact⟨d,h.more bu⟩
 .have l:Kn.lv k n=true:=uW a;obtain⟨Wy0,g0⟩:=h.ki.vi.kj.gr;have g1:Gr.Tree k.gr Wy N:=wO g0 ways;have kc:KH (N+1) d (dG k Wy n):=h.gr (Nat.le_succ N) ⟨Wy,pG g1 _ _ _ bu (by have:=YtpmmdkcfenjiaaaGreatDoor.vk (k.p n).mem 16;omega)⟩;rcases f with⟨_,_,_,rfl⟩|⟨_,_,_,_,rfl⟩|⟨_,_,_,_,_,rfl⟩|⟨f0,ch,hm,_,m',wk,rfl,_⟩
  .exact⟨d,h.more bu⟩
  .exact⟨d,h.more bu⟩
  .obtain⟨Wy2,g2⟩:=kc.ki.vi.kj.gr;exact⟨d,(kc.gr (aL _) ⟨Wy2,nR g2 _ _ _⟩).more bu⟩
  .have c20:c<20/\(k.p c).st=0:=by
    rcases fr with q|q
    .exact⟨q.2.1,q.2.2.1⟩
    .omega
   obtain⟨y,oy⟩:=h.of hn (by rw[eP.1 l];omega);have y6:=(h.ki.vi.iv.cO hn oy).2;have iz:Sp.dc (dG k Wy n).sp (n:Int)=y:=Sp.gM hn oy;cases own
   .have e:=Ez (dG k Wy n) n;have en:nC (dG k Wy n) n false=y:=iz;rw[e.1]at wk|-;rw[en];exact⟨d,kc.born (k2:=dG k Wy n) kc.ki.vi.kj kc.ki.vi.iv rfl rfl rfl hn l c20.1 c20.2 y6.1 y6.2 oy (.inl ⟨rfl,λ_ _ e=>e⟩) wk⟩
   .have ea:Sp.iZ (dG k Wy n).sp (y:Int)=0:=by unfold j8 at hm;rw[aJ rfl,iz]at hm;exact hm
    obtain⟨z',ez,z6,zh,wl,f6,fh,fl⟩:=Sp.qw ea;obtain⟨e1,e2,_⟩:=BM iz ea rfl;have es:=Sp.add_eq ea;rw[e1]at wk|-;rw[e2];have kj2:=kc.ki.vi.kj.Oh ea rfl;obtain⟨d2,iv2⟩:=kj2.sp;refine⟨d2,kc.born (k2:=Cy (dG k Wy n) y (Sp.fv (dG k Wy n).sp)) kj2 iv2 rfl ?_ ?_ hn l c20.1 c20.2 f6 ?_ oy (.inr ⟨?_,?_,fh,?_⟩) wk⟩
    .show(Sp.gd (dG k Wy n).sp (y:Int)).of=_;rw[es]
    .show(Sp.gd (dG k Wy n).sp (y:Int)).bR=_;rw[es]
    .show(Sp.gd (dG k Wy n).sp (y:Int)).here _=true;rw[es];exact aJ rfl
    .intro e;rw[e]at fh;rw[show(dG k Wy n).sp.here y=true from y6.2]at fh;cases fh
    .show(Sp.gd (dG k Wy n).sp (y:Int)).par _=_;rw[es];exact aJ rfl
    .intro s s6 sh;have sh2:(Sp.gd (dG k Wy n).sp (y:Int)).here s=true:=sh;rw[es]at sh2;have sh3:(if s=Sp.fv (dG k Wy n).sp then true else(dG k Wy n).sp.here s)=true:=sh2;by_cases c:s=Sp.fv (dG k Wy n).sp
     .exact .inl c
     .rw[aI c]at sh3;exact .inr sh3
theorem KH.exit(h:KH N d k){z c:Int}(e:ql k z c k'):KH N d k':=by
 rcases e with⟨_,rfl⟩|⟨_,n,y,q,rfl,hn,n0,l,oy,_,_,hp,et⟩
 .exact h
 .exact h.end hn n0 l oy hp et
theorem KH.TI(h:KH N d k){n m:Nat}(hn:n<20)(l:Kn.lv k n=true)(hm:m∈iR k n):m<20/\m≠0/\(k.p m).par=(n:Int)/\(k.p m).st≠0/\∃y,k.sp.of n=y+1/\Sp.mem k.sp y m:=by
 obtain⟨y,oy⟩:=h.of hn (by rw[eP.1 l];omega);have y6:=(h.ki.vi.iv.cO hn oy).2;have p:=u3 m hm;have a:=hm;unfold iR iQ at a;rw[Sp.gM hn oy]at a;have b:=Sp.Aa h.ki.vi.iv y6.1 y6.2 (bX.1 a).1;exact⟨b.1,λe=>by rw[e,h.p0]at p;omega,p,(h.ki.vi.kj.of m b.1).1 (h.ki.vi.iv.mem_of y6.1 b.1 b.2).1,y,oy,b.2⟩
theorem KH.wait(h:KH N d k){z:Int}{p:Nat}{c E:Int}(w:xt k z p c E k'):KH N d k':=by
 rcases w with⟨_,_,_,_,rfl⟩|⟨a,n,rfl,hn,w⟩
 .exact h
 .rcases w with⟨_,_,_,_,rfl⟩|⟨_,_,_,_,_,rfl⟩|⟨_,i,m,hi,lm,_,_,_,v⟩
  .exact h
  .exact h
  .have l:Kn.lv k n=true:=uW a;obtain⟨m20,m0,_,ms,_,_⟩:=h.TI hn l (bK hi);obtain⟨x,ox⟩:=h.of m20 ms;have m2:(k.p m).st=2:=by
    have:=h.ki.vi.kj.st m m20;have:(k.p m).st≠1:=λe=>by rw[eP.2 e]at lm;cases lm
    omega
   exact(h.Uz m20 m0 m2 ox v).1
end
end Kn
def Kn.eX(k:Kp)(z f:Int):Int:=if Kn.bT k z=0 then(if f<0\/6<=f then 1 else if(k.p z.toNat).fd f.toNat= -1 then 2 else 0)else Kn.bT k z
theorem Kn.rF{k:Kp}{z f:Int}(h:Kn.eX k z f=0):∃n g:Nat,z=n/\f=g/\n<20/\g<6/\Kn.lv k n=true/\(k.p n).fd g≠ -1:=by
 unfold Kn.eX at h;by_cases a:Kn.bT k z=0
 .rw[aJ a]at h;obtain⟨n,rfl,hn,l⟩:=Kn.fq a;by_cases c:f<0\/6<=f
  .rw[aJ c]at h;omega
  .rw[aI c,hZ]at h;obtain⟨g,rfl⟩:=aG (show 0<=f by omega);rw[hZ]at h;by_cases e:(k.p n).fd g= -1
   .rw[aJ e]at h;omega
   .exact⟨n,g,rfl,rfl,hn,bu,l,e⟩
 .rw[aI a]at h;exact aZ h a
def sH(b:Nat)(z f E:Int):Value:=if E=0 then ai (bh ⟨b,z.toNat*12+6+f.toNat,bj⟩)else ai bj
theorem py(b n g:Nat):sH b (n:Int) (g:Int) 0=ai (bh ⟨b,n*12+6+g,bj⟩):=by unfold sH;rw[aJ rfl,hZ,hZ]
theorem zd{b:Nat}{z f E:Int}(h:E≠0):sH b z f E=ai none:=aI h
section
variable (UE:Nat)(s:St)(w:bD)
theorem oB(z f:Int)(h:bH w UE s):
  Calls prog 76 #[ai (bh ⟨s.A 0,0,bj⟩),aa az z,aa az f] w λe w'=>e=bf (ao #[sH (s.A 0) z f (Kn.eX s.k z f),bG (Kn.eX s.k z f)])/\w'=w:=by
 have AC:=hJ (dv UE s w z h);by_cases a:Kn.bT s.k z=0
 .obtain⟨n,rfl,hn,hl⟩:=Kn.fq a;rw[a,bB,gS]at AC;by_cases c:f<0\/6<=f
  .have E:Hid (Kn.eX s.k (n:Int) f=1):=hJ (by unfold Kn.eX;rw[aJ a,aJ c]);rw[E.v,zd bA,bC bA];generalize s.A 0=kb at*;by_cases c1:f<0
   .clear c;go_in
    go_wp2_with fail
    refine sC AC.v ?_;rintro w1 hw;subst w1;go_wp2
    go_ret2
    exact⟨rfl,rfl⟩
   .have c2:6<=f:=bu
    go_in
    go_wp2_with fail
    refine sC AC.v ?_;rintro w1 hw;subst w1;go_wp2
    go_ret2
    exact⟨rfl,rfl⟩
  .obtain⟨g,rfl⟩:=aG (show 0<=f by omega);have hg:g<6:=bu
   have hgI:(g:Int)<6:=bu
   have cf:=h.pE n g hn hg;by_cases e1:(s.k.p n).fd g= -1
   .have E:Hid (Kn.eX s.k (n:Int) (g:Int)=2):=hJ (by unfold Kn.eX;rw[aJ a,aI c,hZ,hZ,aJ e1]);rw[E.v,zd bA,bC bA];rw[e1]at cf;generalize s.A 0=kb at*;go_in
    go_wp2_with fail
    refine sC AC.v ?_;rintro w1 hw;subst w1;go_wp2
    go_ret2
    exact⟨rfl,rfl⟩
   .have E:Hid (Kn.eX s.k (n:Int) (g:Int)=0):=hJ (by unfold Kn.eX;rw[aJ a,aI c,hZ,hZ,aI e1]);rw[E.v,py,bB];generalize (s.k.p n).fd g=v at*;have vB:(v== -1)=false:=by simpa using e1
    generalize s.A 0=kb at*;go_in
    go_wp2_with fail
    refine sC AC.v ?_;rintro w1 hw;subst w1;go_wp2
    go_ret2
    exact⟨rfl,rfl⟩
 .have E:Hid (Kn.eX s.k z f=Kn.bT s.k z):=hJ (aI a);rw[bC a]at AC;rw[E.v,zd a,bC a];generalize fJ (s.A 0) z (Kn.bT s.k z)=ap at*;generalize Kn.bT s.k z=ae at*;generalize s.A 0=kb at*;go_in
  go_wp2_with fail
  refine sC AC.v ?_;rintro w1 hw;subst w1;go_wp2
  go_ret2
  exact⟨rfl,rfl⟩
def Kn.AR(k:Kp)(z f:Int):Int:=if Kn.eX k z f=0 then Fx.dj k.fi ((k.p z.toNat).fd f.toNat)else Kn.eX k z f
def Kn.pd(k:Kp)(z f:Int):Kp:=if Kn.eX k z f=0 then Kn.jH (Kn.fH k z.toNat f.toNat (-1)) ((k.p z.toNat).fd f.toNat)else k
theorem DI(N:Nat)(z f:Int)(h:bH w UE s)(hj:KJ (λ_=>False) N s.k)(hN:N<=900):
  Calls prog 27 #[ai (bh ⟨s.A 0,0,bj⟩),aa az z,aa az f] w λe w'=>e=bf (bG (Kn.AR s.k z f))/\bH w' UE {s with k:=Kn.pd s.k z f}/\KF s w {s with k:=Kn.pd s.k z f} w':=by
 have NB:=hJ (oB UE s w z f h);have H:=hJ (aK h (aK hj hN));by_cases a:Kn.eX s.k z f=0
 .obtain⟨n,g,rfl,rfl,hn,hg,hl,hf⟩:=Kn.rF a;have E:Hid (Kn.AR s.k (n:Int) (g:Int)=Fx.dj s.k.fi ((s.k.p n).fd g)/\Kn.pd s.k (n:Int) (g:Int)=Kn.jH (Kn.fH s.k n g (-1)) ((s.k.p n).fd g)):=hJ ⟨by unfold Kn.AR;rw[aJ a,hZ,hZ],by unfold Kn.pd;rw[aJ a,hZ,hZ]⟩;have cf:=h.pE n g hn hg;have fz:=h.frozen;have S1:=hJ (h.qJ hn hg (-1));rw[a,bB,py]at NB;rw[E.1,E.2];have XC:=hJ (yF (s.A 8) (s.A 6) (s.A 7) ((s.k.p n).fd g) s.k.fi s.k.fo s.k.pi _ (S1.1.fx) hj.sm (λm hm=>by have:=hj.rf m hm;have e1:(2:Nat)^60=1152921504606846976:=bA;omega));have c8:=S1.1.sY;rw[show({s with k:=Kn.fH s.k n g (-1)}:St).A 0=s.A 0 from rfl,show({s with k:=Kn.fH s.k n g (-1)}:St).A 8=s.A 8 from rfl]at c8;obtain⟨v,hv⟩:=hU ((s.k.p n).fd g);rw[hv]at cf XC|-;obtain⟨kb,hkb⟩:=hU (s.A 0);obtain⟨a8,ha8⟩:=hU (s.A 8);have HK:=hJ (aK hkb ha8);rw[hkb]at NB cf fz S1 XC c8|-;rw[ha8]at XC c8;go_in
  go_wp2_with fail
  refine sC NB.v ?_;rintro w1 hw;subst w1;go_wp2_with fail
  refine sC XC.v ?_;rintro w2 ⟨u2,f2⟩;have S2:Hid (bH w2 UE {s with k:=Kn.jH (Kn.fH s.k n g (-1)) v}/\KF s w {s with k:=Kn.jH (Kn.fH s.k n g (-1)) v} w2):=hJ (by
   rw[<-HK.2]at u2 f2;have q:=S1.1.vm u2 f2;exact⟨q.1,S1.2.trans q.2⟩)
  go_wp2
  go_ret
  exact⟨rfl,S2.v⟩
 .have E:Hid (Kn.AR s.k z f=Kn.eX s.k z f/\Kn.pd s.k z f=s.k):=hJ ⟨aI a,aI a⟩;rw[bC a]at NB;rw[E.1,E.2,bC a];generalize sH (s.A 0) z f (Kn.eX s.k z f)=ap at*;generalize Kn.eX s.k z f=ae at*;generalize s.A 0=kb at*;go_in
  go_wp2_with fail
  refine sC NB.v ?_;rintro w1 hw;subst w1;go_wp2
  go_ret
  exact⟨rfl,H.1,KF.refl _ _⟩

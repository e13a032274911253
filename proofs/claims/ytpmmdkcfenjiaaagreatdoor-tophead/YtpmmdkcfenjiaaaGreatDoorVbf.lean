import Derived.Test.YtpmmdkcfenjiaaaGreatDoorVbe
set_option linter.unusedVariables false
set_option linter.unusedSimpArgs false
set_option maxRecDepth 100000
set_option maxHeartbeats 4000000
namespace Go.Proofs.YtpmmdkcfenjiaaaGreatDoor
open Go.RowKit
open Tr (Fo Nd)
open Mo (Wh Mt)
open Mv (Me Bk)
open Kn (Pr Kp St us KB KJ VI EI)
namespace Sp
theorem J6 {t:T}{z m:Nat}(h:mem t z m):m∈eO t z:=by
 obtain⟨p,p21,pw⟩:=h;unfold eO;exact List.mem_map.2 ⟨p,bX.2 ⟨by simpa using p21,by unfold iq;apply aO;omega⟩,by omega⟩
theorem yB {t:T}{z m:Nat}(hz:z<6)(hh:t.here z=true)(h:mem t z m):m∈dv t (z:Int):=by
 unfold dv;rw[gO hz hh,aJ rfl,hU];exact J6 h
theorem yE {t:T}{d:Nat->Nat}(hI:Inv t d){z m:Nat}(hz:z<6)(hh:t.here z=true)(h:m∈dv t (z:Int)):m<20/\mem t z m:=by
 unfold dv at h;rw[gO hz hh,aJ rfl,hU]at h;obtain⟨i,hi⟩:=List.getElem?_of_mem h;exact qE hi (fun p hp=>hI.nS z p hz hp)
end Sp
namespace Kn
theorem cW {k:Kp}{n:Nat}:lv k n=true↔(k.p n).st=1:=by unfold lv;simp
structure PI (k:Kp)(m q:Nat):Prop where
 gx:q<20
 qm:q≠m
 pq:(k.p m).par=(q:Int)
 lq:lv k q=true
 oq: ∃y,k.sp.of q=y+1/\Sp.mem k.sp y m/\(hd k m=m->k.sp.of m≠y+1)
structure KH (N:Nat)(d:Nat->Nat)(k:Kp):Prop where
 ki:KI N d k
 pp: ∀m,m<20->m≠0->(k.p m).st≠0-> ∃q,PI k m q
 l0:lv k 0=true
 p0:(k.p 0).par= -1
 ge: ∀m z,m<20->(k.p m).st=2->hd k m=m->k.sp.of m=z+1-> ∀x,x<20->Sp.mem k.sp z x->x=m
section
variable {N : Nat} {d : Nat -> Nat} {k k1 k2 k3 k' : Kp} {n z : Nat}
theorem KH.of (h:KH N d k){m:Nat}(hm:m<20)(s:(k.p m).st≠0): ∃y,k.sp.of m=y+1:=⟨k.sp.of m-1,by have:=(h.ki.vi.kj.of m hm).2 s;omega⟩
theorem KH.jd (h:KH N d k)(hi:KI N d k')(sp:k'.sp=k.sp)(hp: ∀m,(k'.p m).st=(k.p m).st/\(k'.p m).par=(k.p m).par):KH N d k':=by
 have e: ∀m,hd k' m=hd k m:=fun m=>by unfold hd;rw[sp]
 have l: ∀m,lv k' m=lv k m:=fun m=>by unfold lv;rw[(hp m).1]
 refine⟨hi,fun m hm m0 s=>?_,by rw[l];exact h.l0,by rw[(hp 0).2];exact h.p0,fun m z hm s hd1 o x hx xm=>?_⟩
 ·rw[(hp m).1]at s;obtain⟨q,a⟩:=h.pp m hm m0 s;refine⟨q,a.gx,a.qm,by rw[(hp m).2];exact a.pq,by rw[l];exact a.lq,?_⟩;rw[sp,e];exact a.oq
 ·rw[(hp m).1]at s;rw[e]at hd1;rw[sp]at o xm;exact h.ge m z hm s hd1 o x hx xm
structure MQ (k:Kp)(n z:Nat)(k3:Kp):Prop where
 ot: ∀q,q<20->q≠n->(k3.p q=k.p q/\k3.sp.of q=k.sp.of q)\/(k3.p q=Pr.no/\k3.sp.of q=0/\Sp.mem k.sp z q/\hd k n=n)
 wh: ∀s p,s<6->p<21->k3.sp.ay s p=k.sp.ay s p\/k3.sp.ay s p=0
 wk: ∀s p m,s<6->p<21->m<20->k.sp.ay s p=m+1->k3.sp.of m≠0->k3.sp.ay s p=m+1
 al:hd k n=n-> ∀x,x<20->Sp.mem k3.sp z x->x=n
 sa:hd k n≠n->k3.sp=k.sp
theorem VI.mq (hv:VI (fun _=>False) N d k)(hn:n<20)(n0:n≠0)(l:lv k n=true)(ho:k.sp.of n=z+1){c:Int}(s1:fL k n k1)(mt:wi 6 (dE k1 n c) n z k3):MQ k n z k3:=by
 obtain⟨a,sp,tb,hh,s0,eC⟩:=hv.first hn (fun x=>x) ho (fun _=>s1) (fun x=>by rw[l]at x;cases x);have oth2: ∀q,q≠n->(dE k1 n c).p q=k.p q:=fun q e=>(ao _ _ _ _ e).trans (eC q e);have hd2: ∀q,hd (dE k1 n c) q=hd k q:=fun q=>by
  show hd k1 q=hd k q;unfold hd;rw[sp]
 have gs:(dE k1 n c).sp=k.sp:=sp;rcases mt with⟨c1,rfl⟩|⟨ih,j,it⟩
 ·rw[hd2 n]at c1;exact⟨fun q _ e=> .inl ⟨oth2 q e,by rw[gs]⟩,fun _ _ _ _=> .inl (by rw[gs]),fun _ _ _ _ _ _ e _=>by rw[gs];exact e,fun e=>aZ e c1,fun _=>gs⟩
 ·rw[hd2 n]at ih;have ei:EI (fun m=>False\/m=n) N d n z k1:=hv.ei hn n0 (fun x=>x) ho ih (fun _ _ x=>aZ x (fun x=>x)) (fun _=>s1) (fun x=>by rw[l]at x;cases x);obtain⟨b,g,e,len⟩:=EI.iter (qi 6) j _ (ei.gone s0 hh c) it;refine⟨fun q hq e=>?_,fun s p hs hp=>by have:=g.wh s p hs hp;rw[gs]at this;exact this,fun s p m hs hp hm=>by have:=g.wk s p m hs hp hm;rw[gs]at this;exact this,fun _ x hx xm=>?_,fun e=>aZ ih e⟩
  ·rcases g.kp q hq with w|w
   ·rw[oth2 q e,gs]at w;exact .inl w
   ·rw[gs]at w;exact .inr ⟨w.1,w.2.1,w.2.2,ih⟩
  ·obtain⟨p,p21,pw⟩:=xm;rw[b.eO]at len;have p1:=Sp.vt b.hw len p p21 (by omega);subst p1;have:=b.hw;omega
theorem MQ.head (g:MQ k n z k3){d':Nat->Nat}(h:VI (fun _=>False) N d k){X:Nat->Prop}(h3:VI X N d' k3){m:Nat}(hm:m<20)(o:k3.sp.of m=k.sp.of m)(o0:k.sp.of m≠0):hd k3 m=m↔hd k m=m:=by
 obtain⟨y,hy⟩: ∃y,k.sp.of m=y+1:=⟨k.sp.of m-1,by omega⟩;have y6:=(h.iv.bH hm hy).2.1;rw[fK h.iv h.hs hm hy,fK h3.iv h3.hs hm (by rw[o];exact hy)];constructor
 ·intro e;rcases g.wh y 1 y6 (by omega)with w|w
  ·rw[<-w];exact e
  ·rw[w]at e;omega
 ·intro e;exact g.wk y 1 m y6 (by omega) hm e (by rw[o];exact o0)
theorem MQ.mem (g:MQ k n z k3){s m:Nat}(hs:s<6)(hm:m<20)(e:Sp.mem k.sp s m)(o:k3.sp.of m≠0):Sp.mem k3.sp s m:=by
 obtain⟨p,p21,pw⟩:=e;exact⟨p,p21,g.wk s p m hs p21 hm pw o⟩
theorem MQ.back (g:MQ k n z k3){s m:Nat}(hs:s<6)(e:Sp.mem k3.sp s m):Sp.mem k.sp s m:=by
 obtain⟨p,p21,pw⟩:=e;rcases g.wh s p hs p21 with c|c
 ·exact⟨p,p21,by rw[<-c];exact pw⟩
 ·rw[c]at pw;omega
theorem KH.end (h:KH N d k)(hn:n<20)(n0:n≠0)(l:lv k n=true)(ho:k.sp.of n=z+1){q:Nat}(hq:(k.p n).par=(q:Int)){c:Int}(et:j7 k n c z q k'):KH N d k':=by
 obtain⟨k1,k3,s1,mt,rfl⟩:=et;have hv:=h.ki.vi;have md:=hv.tC hn n0 l ho s1 mt;have mq:=hv.mq hn n0 l ho s1 mt;have z6:=(hv.iv.bH hn ho).2;obtain⟨q',pn⟩:=h.pp n hn n0 (by rw[cW.1 l];omega);obtain rfl:q=q':=by have:=pn.pq;omega
 have gx:=pn.gx;have qn:=pn.qm;have vi3:VI (fun _=>False) N d k3:=⟨⟨md.vi.kj.sp,md.vi.kj.gr,md.vi.kj.me,md.vi.kj.wx,md.vi.kj.rf,md.vi.kj.ok,md.vi.kj.tb,md.vi.kj.st,md.vi.kj.hs,fun m hm _ s=>md.vi.kj.lv m hm (fun x=>x.elim id (fun e=>by subst e;rw[md.pn.1]at s;omega)) s,md.vi.kj.of,md.vi.kj.ht,md.vi.kj.nm⟩,md.vi.iv,md.vi.hs⟩;have left: ∀m,m<20->(k3.p m).st≠0->m≠n->k3.p m=k.p m/\k3.sp.of m=k.sp.of m/\k.sp.of m≠0:=fun m hm s mn=>by
  rcases mq.ot m hm mn with⟨a,b⟩|⟨a,_⟩
  ·exact⟨a,b,(hv.kj.of m hm).2 (by rw[<-a];exact s)⟩
  ·rw[a]at s;exact aZ rfl s
 have outs: ∀m,m<20->(k3.p m).st≠0->m≠n->hd k n=n-> ¬Sp.mem k.sp z m:=fun m hm s mn e c1=>by
  have:=left m hm s mn;exact mn (mq.al e m hm (mq.mem z6.1 hm c1 (by rw[this.2.1];exact this.2.2)))
 have stay: ∀m x,m<20->(k3.p m).st≠0->PI k m x->x≠n->k3.p x=k.p x/\k3.sp.of x=k.sp.of x:=fun m x hm s a xn=>by
  rcases mq.ot x a.gx xn with b|⟨_,_,b,e⟩
  ·exact b
  ·exfalso;obtain⟨y,oy,my,hy⟩:=a.oq;by_cases mn:m=n
   ·subst mn;exact hv.iv.ze hn a.gx ho oy b (fun e2=>hy e (by rw[ho,e2])) my
   ·exact outs m hm s mn e (hv.iv.sU z6.1 a.gx hm oy b my)
 have mj: ∀m,m<20->(k3.p m).st≠0->(hd k3 m=m↔hd k m=m):=fun m hm s=>by
  by_cases mn:m=n
  ·subst mn;exact mq.head hv vi3 hm (by rw[md.ho,ho]) (by omega)
  ·have:=left m hm s mn;exact mq.head hv vi3 hm this.2.1 this.2.2
 have pi3: ∀m x,m<20->(k3.p m).st≠0->PI k m x->x≠n->(k3.p m).par=(x:Int)->PI k3 m x:=fun m x hm s a xn pe=>by
  have b:=stay m x hm s a xn;obtain⟨y,oy,my,hy⟩:=a.oq;have om:k3.sp.of m=k.sp.of m/\k.sp.of m≠0:=by
   by_cases mn:m=n
   ·subst mn;rw[md.ho,ho];exact⟨rfl,by omega⟩
   ·exact(left m hm s mn).2
  refine⟨a.gx,a.qm,pe,cW.2 (by rw[b.1];exact cW.1 a.lq),y,by rw[b.2];exact oy,mq.mem (hv.iv.bH a.gx oy).2.1 hm my (by rw[om.1];exact om.2),fun e=>?_⟩;rw[om.1];exact hy ((mj m hm s).1 e)
 have ini:Sp.cQ k3.sp (n:Int)=z:=Sp.fG hn md.ho;have z63:=(vi3.iv.bH hn md.ho).2;have inC: ∀m,m∈fa k3 n->m<20/\Sp.mem k3.sp z m/\(k3.p m).par=(n:Int):=fun m hm=>by
  have a:=hm;unfold fa gU at a;rw[ini]at a;have b:=Sp.yE vi3.iv z63.1 z63.2 (bX.1 a).1;exact⟨b.1,b.2,ov m hm⟩
 obtain⟨hh,h20,hw,hof⟩:=vi3.hs.hd z z63.1 z63.2;have fh:Sp.dZ k3.sp (z:Int) 1=hh:=Sp.Dw z63.1 z63.2 hw;rw[fh];have pp4: ∀m,m<20->m≠0->(k3.p m).st≠0-> ∃x,PI (eW k3 (fa k3 n) (hh:Nat)) m x:=fun m hm m0 s=>by
  have sk:(k.p m).st≠0:=by
   by_cases mn:m=n
   ·subst mn;rw[cW.1 l];omega
   ·rw[<-(left m hm s mn).1];exact s
  obtain⟨x,a⟩:=h.pp m hm m0 sk;have p3:(k3.p m).par=(x:Int):=by
   by_cases mn:m=n
   ·subst mn;rw[md.pn.2.2.1];exact a.pq
   ·rw[(left m hm s mn).1];exact a.pq
  by_cases xn:x=n
  ·subst xn;have mn:m≠x:=fun e=>a.qm e.symm;have lm:=left m hm s mn;obtain⟨y,oy,my,hy⟩:=a.oq;obtain rfl:y=z:=by omega
   have nh:hd k x≠x:=fun e=>outs m hm s mn e my;have mm:Sp.mem k3.sp y m:=mq.mem z6.1 hm my (by rw[lm.2.1];exact lm.2.2);have mC:m∈fa k3 x:=by
    unfold fa gU;rw[ini];exact bX.2 ⟨Sp.yB z63.1 z63.2 mm,aO p3⟩
   have hx:hh≠x:=fun e=>by
    subst e;exact nh ((mj hh hn (by rw[md.pn.1];omega)).1 ((fK vi3.iv vi3.hs h20 hof).2 hw))
   have sh:(k3.p hh).st≠0:=(vi3.kj.of hh h20).1 (by omega);have lh:=left hh h20 sh hx;have hhd:hd k3 hh=hh:=(fK vi3.iv vi3.hs h20 hof).2 hw;have lvh:lv k3 hh=true:=cW.2 (by
    have le:=vi3.kj.st hh h20;by_cases e2:(k3.p hh).st=2
    ·exfalso;have oh:k.sp.of hh=y+1:=by rw[<-lh.2.1];exact hof
     exact hx (h.ge hh y h20 (by rw[<-lh.1];exact e2) ((mj hh h20 sh).1 hhd) oh x hn (hv.iv.bH hn ho).1).symm
    ·omega)
   refine⟨hh,h20,fun e=>?_,?_,lvh,y,hof,mm,fun e=>?_⟩
   ·subst e;exact hy ((mj hh hm s).1 hhd) (by rw[<-lm.2.1];exact hof)
   ·show(if m∈fa k3 x then((hh:Nat):Int)else _)=_;rw[aJ mC]
   ·show k3.sp.of m≠y+1;rw[lm.2.1];exact hy ((mj m hm s).1 e)
  ·have b:=pi3 m x hm s a xn p3;refine⟨x,b.gx,b.qm,?_,b.lq,b.oq⟩;show(if m∈fa k3 n then _ else(k3.p m).par)=_;rw[aI (fun e=>xn (by have:=(inC m e).2.2;omega))];exact p3
 have ki4:KI N d (eW k3 (fa k3 n) (hh:Nat)):=by
  refine⟨⟨vi3.kj.ad _ _,vi3.iv,vi3.hs⟩,fun m hm lm hd1=>?_,fun m hm m0 s=>?_,vi3.h0⟩
  ·have t1:(k3.p m).st=1:=cW.1 lm;have mn:m≠n:=fun e=>by subst e;rw[md.pn.1]at t1;omega
   have lm2:=left m hm (by omega) mn;show Sg.dO (k3.p m).box 0 0;rw[lm2.1];refine h.ki.fi m hm (cW.2 (by rw[<-lm2.1];exact t1)) (fun e=>hd1 ((mj m hm (by omega)).2 e))
  ·obtain⟨x,a⟩:=pp4 m hm m0 s;exact⟨x,a.gx,a.qm,a.pq⟩
 have kh4:KH N d (eW k3 (fa k3 n) (hh:Nat)):=by
  have e0:k3.p 0=k.p 0:=by
   rcases mq.ot 0 (by omega) (bQ n0)with⟨a,_⟩|⟨_,_,b,e⟩
   ·exact a
   ·exact aZ b (hv.iv.zero hv.hs z6.1 ((fK hv.iv hv.hs hn ho).1 e) n0)
  refine⟨ki4,pp4,cW.2 ?_,?_,fun m y hm s hd1 o x hx xm=>?_⟩
  ·show(k3.p 0).st=1;rw[e0];exact cW.1 h.l0
  ·show(if 0∈fa k3 n then _ else(k3.p 0).par)= -1;rw[aI (fun c=>by have:=(inC 0 c).2.2;rw[e0,h.p0]at this;omega),e0];exact h.p0
  ·have s2:(k3.p m).st=2:=s;have o2:k3.sp.of m=y+1:=o;have y6:=(vi3.iv.bH hm o2).2.1;by_cases mn:m=n
   ·subst mn;obtain rfl:y=z:=by have:=md.ho;omega
    exact mq.al ((mj m hm (by omega)).1 hd1) x hx xm
   ·have lm2:=left m hm (by omega) mn;exact h.ge m y hm (by rw[<-lm2.1];exact s2) ((mj m hm (by omega)).1 hd1) (by rw[<-lm2.2.1];exact o2) x hx (mq.back y6 xm)
 unfold ik;split
 ·refine kh4.jd (kh4.ki.box q (fun _ lq hq1=>?_)) rfl (fun m=>?_)
  ·exact Sg.Bg (kh4.ki.fi q gx lq hq1)
  ·unfold gH;by_cases e:m=q
   ·subst e;rw[ai];exact⟨rfl,rfl⟩
   ·rw[ao _ _ _ _ e];exact⟨rfl,rfl⟩
 ·exact kh4
theorem KH.Ic (h:KH N d k)(hn:n<20)(n0:n≠0)(g2:(k.p n).st=2)(ho:k.sp.of n=z+1)(v:gW 6 k n k'):KH N d k'/\k'.p n=Pr.no/\k'.sp.of n=0/\(∀x,x<20->x≠n->k'.p x=k.p x/\k'.sp.of x=k.sp.of x)/\(∀s p,s<6->p<21->k'.sp.ay s p=if k.sp.ay s p=n+1 then 0 else k.sp.ay s p):=by
 have hv:=h.ki.vi;have z6:=(hv.iv.bH hn ho).2;obtain⟨v',g,e,ot⟩:=qi 6 (fun _=>False) k n k' z hv hn n0 (fun x=>x) ho (fun _ _ _ x=>x.elim) v;have o0:k'.sp.of n=0:=by
  by_cases c:k'.sp.of n=0
  ·exact c
  ·have:=(v'.kj.of n hn).1 c;rw[e]at this;exact aZ rfl this
 have eC: ∀x,x<20->x≠n->k'.p x=k.p x/\k'.sp.of x=k.sp.of x:=fun x hx xn=>by
  by_cases c:hd k n=n
  ·rcases g.kp x hx with w|w
   ·exact w
   ·exact aZ (h.ge n z hn g2 c ho x hx w.2.2) xn
  ·exact ot c x hx xn
 have whs: ∀s p,s<6->p<21->k'.sp.ay s p=if k.sp.ay s p=n+1 then 0 else k.sp.ay s p:=fun s p hs hp=>by
  by_cases c:k.sp.ay s p=n+1
  ·rw[aJ c];rcases g.wh s p hs hp with w|w
   ·have:=(v'.iv.has s n hs hn).1 ⟨p,hp,by rw[w];exact c⟩;exact aZ o0 this.1
   ·exact w
  ·rw[aI c];by_cases c0:k.sp.ay s p=0
   ·rcases g.wh s p hs hp with w|w
    ·exact w
    ·rw[w,c0]
   ·have le:=hv.iv.nS s p hs hp;have x20:k.sp.ay s p-1<20:=by omega
    have xn:k.sp.ay s p-1≠n:=by omega
    have hx:=(hv.iv.has s (k.sp.ay s p-1) hs x20).1 ⟨p,hp,by omega⟩;have:=g.wk s p (k.sp.ay s p-1) hs hp x20 (by omega) (by rw[(eC _ x20 xn).2];exact hx.1);omega
 have mj: ∀m,m<20->m≠n->k.sp.of m≠0->(hd k' m=m↔hd k m=m):=fun m hm mn om=>by
  obtain⟨y,hy⟩: ∃y,k.sp.of m=y+1:=⟨k.sp.of m-1,by omega⟩;have y6:=(hv.iv.bH hm hy).2.1;rw[fK hv.iv hv.hs hm hy,fK v'.iv v'.hs hm (by rw[(eC m hm mn).2];exact hy),whs y 1 y6 (by omega)];by_cases c:k.sp.ay y 1=n+1
  ·rw[aJ c];omega
  ·rw[aI c]
 have mem': ∀s m,s<6->m<20->m≠n->(Sp.mem k'.sp s m↔Sp.mem k.sp s m):=fun s m hs hm mn=>by
  constructor
  ·rintro⟨p,p21,pw⟩;rw[whs s p hs p21]at pw;by_cases c:k.sp.ay s p=n+1
   ·rw[aJ c]at pw;omega
   ·rw[aI c]at pw;exact⟨p,p21,pw⟩
  ·rintro⟨p,p21,pw⟩;exact⟨p,p21,by rw[whs s p hs p21,aI (by omega)];exact pw⟩
 have st0: ∀m,m<20->(k'.p m).st≠0->m≠n:=fun m _ s c=>by subst c;rw[e]at s;exact s rfl
 have pp: ∀m,m<20->m≠0->(k'.p m).st≠0-> ∃q,PI k' m q:=fun m hm m0 s=>by
  have mn:=st0 m hm s;rw[(eC m hm mn).1]at s;obtain⟨q,a⟩:=h.pp m hm m0 s;have qn:q≠n:=fun c=>by subst c;have:=cW.1 a.lq;omega
  have oq:=eC q a.gx qn;obtain⟨y,oy,my,hy⟩:=a.oq;refine⟨q,a.gx,a.qm,by rw[(eC m hm mn).1];exact a.pq,cW.2 (by rw[oq.1];exact cW.1 a.lq),y,by rw[oq.2];exact oy,(mem' y m (hv.iv.bH a.gx oy).2.1 hm mn).2 my,fun c=>?_⟩;rw[(eC m hm mn).2];exact hy ((mj m hm mn ((hv.kj.of m hm).2 s)).1 c)
 refine⟨⟨⟨v',fun m hm lm hd1=>?_,fun m hm m0 s=>?_,v'.h0⟩,pp,?_,?_,fun m y hm s hd1 o x hx xm=>?_⟩,e,o0,eC,whs⟩
 ·have mn:=st0 m hm (by rw[cW.1 lm];omega);have om:=eC m hm mn;rw[om.1];have lk:lv k m=true:=cW.2 (by rw[<-om.1];exact cW.1 lm);exact h.ki.fi m hm lk (fun c=>hd1 ((mj m hm mn ((hv.kj.of m hm).2 (by rw[cW.1 lk];omega))).2 c))
 ·obtain⟨q,a⟩:=pp m hm m0 s;exact⟨q,a.gx,a.qm,a.pq⟩
 ·exact cW.2 (by rw[(eC 0 (by omega) (bQ n0)).1];exact cW.1 h.l0)
 ·rw[(eC 0 (by omega) (bQ n0)).1];exact h.p0
 ·have mn:=st0 m hm (by omega);have om:=eC m hm mn;have xn:x≠n:=fun c=>by
   subst c;have:=(v'.iv.has y x (v'.iv.bH hm o).2.1 hx).1 xm;exact this.1 o0
  rw[om.1]at s;rw[om.2]at o;exact h.ge m y hm s ((mj m hm mn (by omega)).1 hd1) o x hx ((mem' y x (hv.iv.bH hm o).2.1 hx xn).1 xm)
end
end Kn
namespace Kn
section
variable {N : Nat} {d : Nat -> Nat} {k k2 : Kp} {n c z : Nat}
theorem I7 (X:Nat->Sg.S1):Sg.dO (Sg.oO X) 0 0:= .inl ⟨rfl,fun j _ _=>by unfold Sg.ok Sg.oO;simp⟩
theorem KH.gr (h:KH N d k){t:Nat->Gr.Gp}{M:Nat}(hM:N<=M)(g: ∃Wy,Gr.Tree t Wy M):KH M d {k with gr:=t}:=by
 have kj:KJ (fun _=>False) M {k with gr:=t}:=(h.ki.vi.kj.mono (fun _ _ e=>e) hM).lf g;exact⟨⟨⟨kj,h.ki.vi.iv,h.ki.vi.hs⟩,h.ki.fi,h.ki.pr,h.ki.h0⟩,fun m hm m0 s=>by
  obtain⟨q,a⟩:=h.pp m hm m0 s;exact⟨q,a.gx,a.qm,a.pq,a.lq,a.oq⟩,h.l0,h.p0,h.ge⟩
theorem KH.born (h:KH N d k){d2:Nat->Nat}(kj:KJ (fun _=>False) N k2)(iv:Sp.Inv k2.sp d2)(ep:k2.p=k.p)(eo:k2.sp.of=k.sp.of)(ew:k2.sp.ay=k.sp.ay)(hn:n<20)(l:lv k n=true)(hc:c<20)(c0:(k.p c).st=0)(z6:z<6)(zh:k2.sp.here z=true)
  {y:Nat} (oy:k.sp.of n=y+1) (hz:(z=y/\ ∀s,s<6->k2.sp.here s=true->k.sp.here s=true)\/(z≠y/\k2.sp.par z=(y:Int)/\k.sp.here z=false/\ ∀s,s<6->k2.sp.here s=true->s=z\/k.sp.here s=true)) {m':Wf.M} (wk:Wf.im (Wf.dm k2.sc (c:Int) (k2.p n).bP) (c:Int) true m'):KH (N+1) d2 (gJ (cO k2 n) c (dI k2 n) (z:Int) m'):=by
 have hv:=h.ki.vi;have l2:lv k2 n=true:=by unfold lv;rw[ep];exact l
 have n1:(k.p n).st=1:=cW.1 l;have nc:n≠c:=fun e=>by subst e;omega
 have hh2:(k2.p n).has=true:=by rw[ep];exact hv.kj.lv n hn (fun x=>x) n1
 have kj2:=kj.QV (n:=n) (c:=c) (z:=z) (fun x=>x) hn hc l2 hh2 (by rw[ep];exact c0) z6 zh wk;have o0:k2.sp.of c=0:=by
  by_cases e:k2.sp.of c=0
  ·exact e
  ·exact aZ (by rw[ep];exact c0) ((kj.of c hc).1 e)
 have o0k:k.sp.of c=0:=by rw[<-eo];exact o0
 obtain⟨T,eT⟩:=jf {k2 with bk:=Mv.dw (k2.p n).mem k2.bk 16} (k2.p n).fd 6;have cop:cO k2 n={k2 with bk:=Mv.dw (k2.p n).mem k2.bk 16,fi:=T}:=eT;have esp:(gJ (cO k2 n) c (dI k2 n) (z:Int) m').sp=Sp.dM k2.sp (z:Int) (c:Int):=by rw[cop];rfl
 have e1: ∀m,m≠c->(gJ (cO k2 n) c (dI k2 n) (z:Int) m').p m=k.p m:=fun m q=>by rw[cop];exact(ao _ _ _ _ q).trans (by show k2.p m=k.p m;rw[ep])
 have e2:(gJ (cO k2 n) c (dI k2 n) (z:Int) m').p c=dI k2 n:=ai _ _ _;have iv':Sp.Inv (gJ (cO k2 n) c (dI k2 n) (z:Int) m').sp d2:=by rw[esp];exact iv.enter _ _
 have hs':Sp.pF (gJ (cO k2 n) c (dI k2 n) (z:Int) m').sp:=by
  rw[esp];refine Sp.pF.enter iv z6 zh hc o0 (fun s s6 sh=>?_) (by rw[eo,ew];exact hv.hs.r0);rw[eo,ew];rcases hz with⟨_,q⟩|⟨_,_,q,r⟩
  ·exact .inl (hv.hs.hd s s6 (q s s6 sh))
  ·rcases r s s6 sh with e|e
   ·subst e;exact .inr ⟨rfl,fun p hp=>hv.iv.dead s6 hp q⟩
   ·exact .inl (hv.hs.hd s s6 e)
 have vi':VI (fun _=>False) (N+1) d2 (gJ (cO k2 n) c (dI k2 n) (z:Int) m'):=⟨kj2,iv',hs'⟩;generalize hk':gJ (cO k2 n) c (dI k2 n) (z:Int) m'=k' at*;have of': ∀m,k'.sp.of m=if m=c then z+1 else k.sp.of m:=fun m=>by rw[esp,Sp.oK z6 zh hc o0,eo]
 have iC: ∀s p,s<6->k.sp.ay s p≠0->k'.sp.ay s p=k.sp.ay s p:=fun s p hs hw=>by rw[esp,Sp.qN iv z6 zh hc o0 hs (by rw[ew];exact hw),ew]
 have memk: ∀s m,s<6->Sp.mem k.sp s m->Sp.mem k'.sp s m:=fun s m hs ⟨p,p21,pw⟩=>⟨p,p21,by rw[iC s p hs (by omega)];exact pw⟩;have eO: ∀s m,s<6->m≠c->Sp.mem k'.sp s m->Sp.mem k.sp s m:=fun s m hs mc ⟨p,p21,pw⟩=>by
  rw[esp,Sp.xz z6 zh hc o0]at pw;by_cases q:s∈Sp.W k2.sp (z:Int)/\p=Sp.low k2.sp s
  ·rw[aJ q]at pw;omega
  ·rw[aI q,ew]at pw;exact⟨p,p21,pw⟩
 have mj: ∀m,m<20->m≠c->k.sp.of m≠0->(hd k' m=m↔hd k m=m):=fun m hm mc om=>by
  obtain⟨x,hx⟩: ∃x,k.sp.of m=x+1:=⟨k.sp.of m-1,by omega⟩;have x6:=(hv.iv.bH hm hx).2;obtain⟨hh,h20,hw,hof⟩:=hv.hs.hd x x6.1 x6.2;rw[fK hv.iv hv.hs hm hx,fK vi'.iv vi'.hs hm (by rw[of',aI mc];exact hx),iC x 1 x6.1 (by omega)]
 have y6:=(hv.iv.bH hn oy).2;have piC:PI k' c n:=by
  refine⟨hn,nc,by rw[e2];rfl,cW.2 (by rw[e1 n nc];exact n1),y,by rw[of',aI nc];exact oy,?_,fun e=>?_⟩
  ·refine(vi'.iv.has y c y6.1 hc).2 ⟨by rw[of',aJ rfl];omega,?_⟩;rw[of',aJ rfl,show z+1-1=z by omega];have wz:Sp.W k'.sp (z:Int)=z::Sp.W k'.sp (k'.sp.par z):=vi'.iv.tree.step z6 (by rw[esp,(Sp.jU z6 zh hc o0).1];exact zh);rw[wz];rcases hz with⟨e,_⟩|⟨_,e,_,_⟩
   ·rw[e];simp
   ·have pe:k'.sp.par z=(y:Int):=by rw[esp,(Sp.jU z6 zh hc o0).2];exact e
    rw[pe];have yh:k'.sp.here y=true:=by
     have:=(vi'.iv.bH hn (z:=y) (by rw[of',aI nc];exact oy)).2.2;exact this
    rw[vi'.iv.tree.step y6.1 yh];simp
  ·rw[of',aJ rfl];intro q;obtain rfl:z=y:=by omega
   have wc:=(fK vi'.iv vi'.hs hc (z:=z) (by rw[of',aJ rfl])).1 e;obtain⟨hh,h20,hw,hof⟩:=hv.hs.hd z y6.1 y6.2;rw[iC z 1 z6 (by omega),hw]at wc;have:hh=c:=by omega
   subst this;omega
 have ppo: ∀m,m<20->m≠0->(k'.p m).st≠0-> ∃q,PI k' m q:=fun m hm m0 s=>by
  by_cases mc:m=c
  ·subst mc;exact⟨n,piC⟩
  ·rw[e1 m mc]at s;obtain⟨q,a⟩:=h.pp m hm m0 s;have qc:q≠c:=fun e=>by subst e;have:=cW.1 a.lq;omega
   obtain⟨x,ox,mx,hx⟩:=a.oq;refine⟨q,a.gx,a.qm,by rw[e1 m mc];exact a.pq,cW.2 (by rw[e1 q qc];exact cW.1 a.lq),x,by rw[of',aI qc];exact ox,memk x m (hv.iv.bH a.gx ox).2.1 mx,fun e=>?_⟩;rw[of',aI mc];exact hx ((mj m hm mc ((hv.kj.of m hm).2 s)).1 e)
 have c0':(0:Nat)≠c:=fun e=>by subst e;have:=cW.1 h.l0;omega
 refine⟨⟨vi',fun m hm lm hd1=>?_,fun m hm m0 s=>?_,vi'.h0⟩,ppo,cW.2 (by rw[e1 0 c0'];exact cW.1 h.l0),by rw[e1 0 c0'];exact h.p0,fun m x hm s hd1 o u hu um=>?_⟩
 ·by_cases mc:m=c
  ·subst mc;rw[e2];exact I7 _
  ·rw[e1 m mc];have lk:lv k m=true:=cW.2 (by rw[<-e1 m mc];exact cW.1 lm);exact h.ki.fi m hm lk (fun e=>hd1 ((mj m hm mc ((hv.kj.of m hm).2 (by rw[cW.1 lk];omega))).2 e))
 ·obtain⟨q,a⟩:=ppo m hm m0 s;exact⟨q,a.gx,a.qm,a.pq⟩
 ·have mc:m≠c:=fun e=>by
   subst e;rw[e2]at s;have:(k2.p n).st=2:=s;rw[ep]at this;omega
  rw[e1 m mc]at s;rw[of',aI mc]at o;have x6:=(hv.iv.bH hm o).2;have hdm:=(mj m hm mc (by omega)).1 hd1;by_cases uc:u=c
  ·exfalso;subst uc;have a:=(vi'.iv.mem_of x6.1 hu um).2;rw[of',aJ rfl,show z+1-1=z by omega]at a;have yx:Sp.mem k.sp x n:=by
    refine eO x n x6.1 nc ((vi'.iv.has x n x6.1 hn).2 ⟨by rw[of',aI nc];omega,?_⟩);rw[of',aI nc,oy,show y+1-1=y by omega];rcases hz with⟨e,_⟩|⟨ne,e,hf,_⟩
    ·rw[<-e];exact a
    ·rw[vi'.iv.tree.step z6 (by rw[esp,(Sp.jU z6 zh hc o0).1];exact zh)]at a;rcases List.mem_cons.1 a with e3|a
     ·subst e3;rw[x6.2]at hf;cases hf
     ·rw[esp,(Sp.jU z6 zh hc o0).2,e]at a;rw[esp];exact a
   have:=h.ge m x hm s hdm o n hn yx;subst this;omega
  ·exact h.ge m x hm s hdm o u hu (eO x u x6.1 uc um)
end
end Kn
namespace Kn
theorem NH {s:St}{n i:Nat}(h:us {s with k:=cO s.k n} i):us s i:=by
 obtain⟨T,eT⟩:=jf {s.k with bk:=Mv.dw (s.k.p n).mem s.k.bk 16} (s.k.p n).fd 6;have e3:cO s.k n={s.k with bk:=Mv.dw (s.k.p n).mem s.k.bk 16,fi:=T}:=eT;rw[e3]at h;exact h
theorem qK (k:Kp)(n:Nat):(cO k n).sp=k.sp/\(cO k n).sc=k.sc/\(cO k n).p=k.p:=by
 obtain⟨T,eT⟩:=jf {k with bk:=Mv.dw (k.p n).mem k.bk 16} (k.p n).fd 6;have e3:cO k n={k with bk:=Mv.dw (k.p n).mem k.bk 16,fi:=T}:=eT;rw[e3];exact⟨rfl,rfl,rfl⟩
theorem MF {k:Kp}{Wy:Nat->List (Fin 10)}{n:Nat}(h:Gr.jB k.gr Wy (k.p n).bP 1 (Mv.gB (k.p n).mem 16:Int)≠0):({k with gr:=Gr.iR k.gr Wy (k.p n).bP 1 (Mv.gB (k.p n).mem 16:Int)}:Kp)=k:=by
 unfold Gr.iR;rw[aI h]
theorem oL {t:Nat->Gr.Gp}{Wy:Nat->List (Fin 10)}{N:Nat}(h:Gr.Tree t Wy N)(g p q:Int)(hp:p<=64)(hq:q<=64):Gr.Tree (Gr.iR t Wy g p q) Wy (N+1):=by
 unfold Gr.iR;by_cases e:Gr.jB t Wy g p q=0
 ·rw[aJ e];have hr:Gr.dU t g p q=0:=by
   unfold Gr.jB at e;by_cases r:Gr.dU t g p q=0
   ·exact r
   ·rw[aI r]at e;exact aZ e r
  obtain⟨n,rfl,hn,hh,_,_⟩:=Gr.lx hr;rw[hU];have o:=h.own n hn;obtain⟨hp,hq⟩:=Gr.oA hr;exact h.lV (by omega) ⟨by omega,by omega⟩ ⟨by omega,by omega⟩
 ·rw[aI e];exact h.mono (by omega)
def bS (k:Kp)(Wy:Nat->List (Fin 10))(n:Nat):Kp:={k with gr:=Gr.iR k.gr Wy (k.p n).bP 1 (Mv.gB (k.p n).mem 16:Int)}
def oW (k:Kp)(Wy:Nat->List (Fin 10))(n:Nat):Int:=Gr.jB k.gr Wy (k.p n).bP 1 (Mv.gB (k.p n).mem 16:Int)
def mN (k:Kp)(z:Int)(own:Bool)(p:Nat)(E:Int)(k':Kp):Prop:=
 (bc k z≠0/\E=bc k z/\p=0/\k'=k)\/
 (bc k z=0/\ ∃n c F Wy,z=((n:Nat):Int)/\n<20/\fF k c F/\Gr.gQ k.gr Wy/\
  ((F≠0/\E=F/\p=0/\k'=k)\/(F=0/\oW k Wy n≠0/\E=oW k Wy n/\p=0/\k'=k)\/
   (F=0/\oW k Wy n=0/\gG (bS k Wy n) n own≠0/\E=gG (bS k Wy n) n own/\p=0/\k'={bS k Wy n with gr:=Gr.gA (bS k Wy n).gr (k.p n).bP 1 (Mv.gB (k.p n).mem 16:Int)})\/
   (F=0/\oW k Wy n=0/\gG (bS k Wy n) n own=0/\E=0/\ ∃m',Wf.im (Wf.dm (ed (bS k Wy n) n own).sc (c:Int) (k.p n).bP) (c:Int) true m'/\
    k'=gJ (cO (ed (bS k Wy n) n own) n) c (dI (ed (bS k Wy n) n own) n) (jF (bS k Wy n) n own:Int) m'/\p=Sp.js k'.sp (c:Int) (Sp.cQ k'.sp (n:Int):Nat))))
theorem IJ (k:Kp)(n:Nat)(own:Bool):(ed k n own).p=k.p/\(ed k n own).bk=k.bk/\(ed k n own).fi=k.fi/\(ed k n own).sc=k.sc:=by
 unfold ed;split<;>exact⟨rfl,rfl,rfl,rfl⟩
end Kn
section
variable (base N : Nat) (d : Nat -> Nat) (s : St) (w : bD)
theorem sg (hN:N<=900)(z:Int)(own:Bool)(h:ak w base s)(hb:base<=w.heap.size)(hv:VI (fun _=>False) N d s.k):
  Calls Tryz.prog 18 #[.pointer (some ⟨s.A 0,0,none⟩), .int .i64 z, .bool own] w fun e w'=> ∃(p:Nat) (E:Int) (s':St),e= .returned (.tuple #[.int .i64 (p:Int),aq E])/\Kn.mN s.k z own p E s'.k/\ak w' base s'/\KF s w s' w':=by
 have AC:=hZ (dg base s w z h);have H:=hZ (aK h (aK hv (aK hb hN)));obtain⟨kb,hkb⟩:=nJ (s.A 0);have HK:=hZ hkb;by_cases a:Kn.bc s.k z=0
 ·obtain⟨n,rfl,hn,hl⟩:=Kn.fv a;have HA:=hZ (aK a hl);have st1:(s.k.p n).st=1:=by unfold Kn.lv at hl;simpa using hl
  have hh:=hv.kj.lv n hn (fun x=>x) st1;obtain⟨y,hy⟩: ∃y,s.k.sp.of n=y+1:=⟨s.k.sp.of n-1,by have:=(hv.kj.of n hn).2 (by omega);omega⟩;have HH:=hZ (aK hh hy);obtain⟨Wy,hWy⟩:=hv.kj.gr;have HW:=hZ hWy;rw[a,aa,gN]at AC;have FRE:=hZ (DC base s w h);have c4:=h.qQ n hn hh;have RS:=hZ (zm (s.A (9+n)) (s.A 4) (s.k.p n).mem w (h.me n hn hh));have RL:=hZ (YtpmmdkcfenjiaaaGreatDoor.qp (s.k.p n).mem 16);rw[hkb]at AC FRE c4|-;generalize s.A (9+n)=m9 at c4 RS;clear h hv hb a hl st1 hh hy hWy hkb;go_in
  go_wp2_with fail
  refine AC.out.mono ?_;rintro e w1 ⟨rfl,hw⟩;subst w1;go_wp2_with fail
  refine FRE.out.mono ?_;rintro e w1 ⟨c,F,rfl,hF,hw⟩;subst w1;have HF:=hZ hF;clear AC FRE hF;by_cases f0:F=0
  ·subst f0;rw[aa];have jy:c<20:=by
    rcases HF.out with q|q
    ·exact q.2.1
    ·omega
   have c20I:(c:Int)<20:=by omega
   go_wp2_with fail
   refine RS.out.mono ?_;rintro e w1 ⟨rfl,b1⟩;have S1:Hid (ak w1 base s/\KF s w s w1/\base<=w1.heap.size):=hZ ⟨H.out.1.below b1,KF.below b1,aH H.out.2.2.1 b1.size⟩;clear b1 RS c4;obtain⟨rr,hrr⟩:=nJ (Mv.gB (s.k.p n).mem 16);have HRR:=hZ hrr;rw[hrr]at RL|-;have rl:=RL.out;clear hrr;go_upto_region 8 with fail
   have K0:Hid (w1.cell? ⟨kb,247,none⟩=some (.pointer (some ⟨s.A 2,0,none⟩))/\w1.cell? ⟨kb,n*12+2,none⟩=some (.int .i64 (s.k.p n).bP)):=hZ (by rw[<-HK.out];exact⟨S1.out.1.sr,S1.out.1.pU n hn⟩);have CG:=hZ (Gr.qU (s.A 2) (s.k.p n).bP 1 (rr:Int) s.k.gr Wy w1.drew S1.out.1.drew.gr HW.out.ways (HW.out.small (by have:=H.out.2.2.2;omega)));have A4:Hid (∀w4,Gr.bd w4 (s.A 2) (Gr.iR s.k.gr Wy (s.k.p n).bP 1 (rr:Int))->Gr.af (s.A 2) w1.drew w4->ak w4 base {s with k:=Kn.bS s.k Wy n}/\KF s w {s with k:=Kn.bS s.k Wy n} w4/\base<=w4.heap.size/\w4.cell? ⟨kb,247,none⟩=some (.pointer (some ⟨s.A 2,0,none⟩))/\w4.cell? ⟨kb,n*12+2,none⟩=some (.int .i64 (s.k.p n).bP)):=hZ (fun w4 t4 f4=>by
    have q:=S1.out.1.drew.lf t4 f4.wI;have e:({s.k with gr:=Gr.iR s.k.gr Wy (s.k.p n).bP 1 (rr:Int)}:Kp)=Kn.bS s.k Wy n:=by unfold Kn.bS;rw[HRR.out]
    rw[e]at q;refine⟨q.1,S1.out.2.1.trans ((KF.drew _ _).trans q.2),aH S1.out.2.2 q.2.fU.size,?_⟩;rw[<-HK.out];exact⟨q.1.sr,q.1.pU n hn⟩)
   have HE:Hid (Kn.oW s.k Wy n=Gr.jB s.k.gr Wy (s.k.p n).bP 1 (rr:Int)):=hZ (by unfold Kn.oW;rw[HRR.out]);obtain⟨gz,hgz⟩:=nJ ((s.k.p n).bP);obtain⟨g2,hg2⟩:=nJ (s.A 2);have HG:=hZ (aK hgz hg2);rw[hgz,hg2]at CG K0 A4;rw[hgz]at HE;obtain⟨ce,hce⟩:=nJ (Gr.jB s.k.gr Wy gz 1 (rr:Int));rw[hce]at CG HE;rw[show Gr.aq ce=aq ce from rfl]at CG;clear hgz hg2 hce;obtain⟨y1,y2⟩:=K0.out;go_region_held3 (fun w'=>w'.cell? ⟨kb,247,none⟩=some (.pointer (some ⟨g2,0,none⟩))/\w'.cell? ⟨kb,n*12+2,none⟩=some (.int .i64 gz)) (first|exact K0.out|exact S4.out.2.2.2) (
    (go_at_call 65;refine CG.out.mono ?_;rintro e w4 ⟨rfl,t4,f4⟩;have S4:=hZ (A4.out w4 t4 f4);clear t4 f4))
   clear K0 CG A4 y1 y2 S1;by_cases e0:ce=0
   ·subst e0;rw[aa];have VI1:Hid (VI (fun _=>False) (N+1) d (Kn.bS s.k Wy n)):=hZ ⟨(H.out.2.1.kj.mono (fun _ _ e=>e) (Nat.le_succ N)).lf ⟨Wy,Kn.oL HW.out _ _ _ (by omega) (by have:=RL.out;rw[HRR.out];omega)⟩,H.out.2.1.iv,H.out.2.1.hs⟩;have HM:=hZ (Gb base (N+1) d {s with k:=Kn.bS s.k Wy n} w4 n y own S4.out.1 S4.out.2.2.1 VI1.out hn HH.out.2);rw[show({s with k:=Kn.bS s.k Wy n}:St).A 0=kb from HK.out]at HM;go_wp2_with fail
    refine HM.out.mono ?_;rintro e w5 ⟨s2,rfl,e2,k2,f2⟩;have S5:Hid (s2.k=Kn.ed (Kn.bS s.k Wy n) n own/\ak w5 base s2/\KF s w s2 w5/\base<=w5.heap.size/\s2.A 0=kb):=hZ ⟨e2,k2,S4.out.2.1.trans f2,aH S4.out.2.2.1 f2.fU.size,f2.a0.trans HK.out⟩;clear e2 k2 f2 HM;have HE2:Hid (Kn.gG ({s with k:=Kn.bS s.k Wy n}:St).k n own=Kn.gG (Kn.bS s.k Wy n) n own):=hZ rfl;obtain⟨he,hhe⟩:=nJ (Kn.gG ({s with k:=Kn.bS s.k Wy n}:St).k n own);obtain⟨hz,hhz⟩:=nJ (Kn.jF ({s with k:=Kn.bS s.k Wy n}:St).k n own);have HHE:Hid (Kn.gG (Kn.bS s.k Wy n) n own=he/\Kn.jF (Kn.bS s.k Wy n) n own=hz):=hZ ⟨hhe,hhz⟩;rw[hhe,hhz];clear hhe hhz HE2;by_cases h0:he=0
    ·subst h0;rw[aa];have P2:Hid (s2.k.p=s.k.p/\s2.k.bk=s.k.bk/\s2.k.fi=s.k.fi/\s2.k.sc=s.k.sc):=hZ (by rw[S5.out.1];exact Kn.IJ _ n own);have CH:=hZ (Ey base s2 w5 n S5.out.2.1 hn (by rw[P2.out.1];exact HH.out.1) (by rw[P2.out.1,P2.out.2.1];exact H.out.2.1.kj.me) (fun f hf=>by
      rw[P2.out.2.2.1];have:=H.out.2.1.kj.rf f hf;have:=H.out.2.2.2;have e1:(2:Nat)^50=1125899906842624:=by decide
      omega))
     rw[S5.out.2.2.2.2]at CH;have INV:Hid (∃d2,Sp.Inv s2.k.sp d2):=hZ (by
      rw[S5.out.1];cases own
      ·rw[(Kn.tj _ n).1];exact⟨d,VI1.out.iv⟩
      ·have iz:Sp.cQ (Kn.bS s.k Wy n).sp (n:Int)=y:=Sp.fG hn HH.out.2;have ea:Sp.gS (Kn.bS s.k Wy n).sp (y:Int)=0:=by have:=HHE.out.1;unfold Kn.gG at this;rw[aJ rfl,iz]at this;exact this
       rw[(Kn.uY iz ea rfl).1];exact(VI1.out.kj.FU ea rfl).sp)
     go_wp2_with fail
     refine CH.out.mono ?_;rintro e w6 ⟨mb,bb,rfl,k6,f6,um,ub,lm,lb,mn⟩;obtain⟨d2,hd2⟩:=INV.out;have LT:Hid (∀i,us {s2 with k:=Kn.cO s2.k n} i->s2.A i<w5.heap.size):=hZ (fun i hi=>S5.out.2.1.lt (Kn.NH hi));have ST:=hZ (vV base {s2 with k:=Kn.cO s2.k n} w6 c mb bb (Kn.dI s2.k n) (hz:Int) d2 k6 jy (by rw[(Kn.qK s2.k n).1];exact hd2) um ub (fun i hi=>by have:=LT.out i hi;show s2.A i≠mb;omega) (fun i hi=>by have:=LT.out i hi;show s2.A i≠bb;omega) mn (by have:=S5.out.2.2.2.1;omega) (by have:=S5.out.2.2.2.1;omega));rw[show({s2 with k:=Kn.cO s2.k n}:St).A 0=kb from S5.out.2.2.2.2]at ST;have S6:Hid (KF s w {s2 with k:=Kn.cO s2.k n} w6/\w5.heap.size<=mb/\w5.heap.size<=bb/\w.heap.size<=w5.heap.size):=hZ ⟨S5.out.2.2.1.trans f6,lm,lb,S5.out.2.2.1.fU.size⟩;obtain⟨PA,hPA⟩:=nJ (du mb bb (Kn.dI s2.k n));rw[hPA]at ST|-;clear k6 f6 um ub lm lb mn hPA CH;go_wp2_with fail
     refine ST.out.mono ?_;rintro e w7 ⟨m',rfl,wk,k7,o7⟩;have S7:Hid (Wf.im (Wf.dm (Kn.ed (Kn.bS s.k Wy n) n own).sc (c:Int) (s.k.p n).bP) (c:Int) true m'/\ak w7 base {Kn.dk {s2 with k:=Kn.cO s2.k n} c mb bb (Kn.dI s2.k n)with k:=Kn.gJ (Kn.cO (Kn.ed (Kn.bS s.k Wy n) n own) n) c (Kn.dI (Kn.ed (Kn.bS s.k Wy n) n own) n) (hz:Int) m'}/\KF s w {Kn.dk {s2 with k:=Kn.cO s2.k n} c mb bb (Kn.dI s2.k n)with k:=Kn.gJ (Kn.cO (Kn.ed (Kn.bS s.k Wy n) n own) n) c (Kn.dI (Kn.ed (Kn.bS s.k Wy n) n own) n) (hz:Int) m'} w7):=hZ (by
      have w2:Wf.im (Wf.dm (Kn.cO s2.k n).sc (c:Int) (s2.k.p n).bP) (c:Int) true m':=wk;rw[(Kn.qK s2.k n).2.1,P2.out.1,S5.out.1]at w2;have k8:ak w7 base {Kn.dk {s2 with k:=Kn.cO s2.k n} c mb bb (Kn.dI s2.k n)with k:=Kn.gJ (Kn.cO s2.k n) c (Kn.dI s2.k n) (hz:Int) m'}:=k7;have f8:KF s w {Kn.dk {s2 with k:=Kn.cO s2.k n} c mb bb (Kn.dI s2.k n)with k:=Kn.gJ (Kn.cO s2.k n) c (Kn.dI s2.k n) (hz:Int) m'} w7:=by
       refine⟨⟨o7.os.trans S6.out.1.fU.os,o7.tape.trans S6.out.1.fU.tape,o7.output.trans S6.out.1.fU.output,aH S6.out.1.fU.size o7.size,fun b hb hc=>(o7.block b (aD hb S6.out.1.fU.size) (fun q=>(S6.out.1.sub b q).elim hc (fun q=>by omega))).trans (S6.out.1.fU.block b hb hc)⟩,fun b ⟨i,hi,eb⟩=>?_,(Kn.dN {s2 with k:=Kn.cO s2.k n} c mb bb (Kn.dI s2.k n) (i:=0) (by omega) (by omega)).trans S6.out.1.a0⟩;have hi2:us (Kn.dk {s2 with k:=Kn.cO s2.k n} c mb bb (Kn.dI s2.k n)) i:=hi;rcases Kn.tQ hi2 with rfl|rfl|⟨ui,i1,i2⟩
       ·exact .inr (by rw[eb,show({Kn.dk {s2 with k:=Kn.cO s2.k n} c mb bb (Kn.dI s2.k n)with k:=Kn.gJ (Kn.cO s2.k n) c (Kn.dI s2.k n) (hz:Int) m'}:St).A (9+c)=mb from Kn.lC {s2 with k:=Kn.cO s2.k n} c mb bb (Kn.dI s2.k n)];have:=S6.out.2;omega)
       ·exact .inr (by rw[eb,show({Kn.dk {s2 with k:=Kn.cO s2.k n} c mb bb (Kn.dI s2.k n)with k:=Kn.gJ (Kn.cO s2.k n) c (Kn.dI s2.k n) (hz:Int) m'}:St).A (29+c)=bb from Kn.lL {s2 with k:=Kn.cO s2.k n} c mb bb (Kn.dI s2.k n)];have:=S6.out.2;omega)
       ·exact S6.out.1.sub b ⟨i,ui,eb.trans (Kn.dN {s2 with k:=Kn.cO s2.k n} c mb bb (Kn.dI s2.k n) i1 i2)⟩
      rw[S5.out.1]at k8 f8;rw[S5.out.1];exact⟨w2,k8,f8⟩)
     obtain⟨s3,hs3⟩:=nJ (({Kn.dk {s2 with k:=Kn.cO s2.k n} c mb bb (Kn.dI s2.k n)with k:=Kn.gJ (Kn.cO (Kn.ed (Kn.bS s.k Wy n) n own) n) c (Kn.dI (Kn.ed (Kn.bS s.k Wy n) n own) n) (hz:Int) m'}:St));have HS3:Hid (s3.k=Kn.gJ (Kn.cO (Kn.ed (Kn.bS s.k Wy n) n own) n) c (Kn.dI (Kn.ed (Kn.bS s.k Wy n) n own) n) (hz:Int) m'/\s3.A 0=kb):=hZ (by
      rw[<-hs3];exact⟨rfl,(Kn.dN {s2 with k:=Kn.cO s2.k n} c mb bb (Kn.dI s2.k n) (i:=0) (by omega) (by omega)).trans S5.out.2.2.2.2⟩)
     rw[hs3]at S7;clear hs3 wk k7 o7 ST S6 LT;have W0:Hid (∀q,q<6->s3.k.sp.ay q 0=0):=hZ (by
      rw[HS3.out.1];have q:Sp.Inv (Sp.dM (Kn.cO (Kn.ed (Kn.bS s.k Wy n) n own) n).sp (hz:Int) (c:Int)) d2:=by
       rw[(Kn.qK _ n).1,<-S5.out.1];exact hd2.enter _ _
      exact q.nO)
     have SP:=hZ (fT base s3 w7 (n:Int) S7.out.2.1);have PI:=hZ (uE base s3 w7 (c:Int) ((Sp.cQ s3.k.sp (n:Int):Nat):Int) S7.out.2.1 W0.out);rw[HS3.out.2]at SP PI;obtain⟨pp,hpp⟩:=nJ (Sp.js s3.k.sp (c:Int) ((Sp.cQ s3.k.sp (n:Int):Nat):Int));have HPP:=hZ hpp;rw[hpp]at PI;generalize Sp.cQ s3.k.sp (n:Int)=ss at SP PI;clear hpp hd2;go_wp2_with fail
     refine SP.out.mono ?_;rintro e w8 ⟨rfl,hw⟩;subst w8;go_wp2_with fail
     refine PI.out.mono ?_;rintro e w8 ⟨rfl,hw⟩;subst w8;go_wp2
     go_ret2
     refine⟨pp,0,s3,by rw[aa];rfl, .inr ⟨HA.out.1,n,c,0,Wy,rfl,hn,HF.out,HW.out.ways, .inr (.inr (.inr ⟨rfl,HE.out,HHE.out.1,rfl,m',S7.out.1,by rw[HHE.out.2];exact HS3.out.1,HPP.out.symm⟩))⟩,S7.out.2⟩
    ·have E2:Hid (s2.k=Kn.bS s.k Wy n):=hZ (by
      rw[S5.out.1];unfold Kn.ed;rw[aI (fun q=>h0 (by rw[<-HHE.out.1];exact q.2))])
     have HEV:=hZ (aK h0 (aj h0));rw[aj h0];clear h0;go_upto_region 13 with fail
     have K0:Hid (w5.cell? ⟨kb,247,none⟩=some (.pointer (some ⟨s2.A 2,0,none⟩))/\w5.cell? ⟨kb,n*12+2,none⟩=some (.int .i64 gz)):=hZ (by
      have q:=S5.out.2.1.pU n hn;rw[E2.out]at q;have q2:w5.cell? ⟨s2.A 0,n*12+2,none⟩=some (.int .i64 (s.k.p n).bP):=q;rw[<-S5.out.2.2.2.2,<-HG.out.1];exact⟨S5.out.2.1.sr,q2⟩)
     have CG:=hZ (Gr.jT (s2.A 2) gz 1 (rr:Int) s2.k.gr w5.drew S5.out.2.1.drew.gr (by rw[E2.out];obtain⟨Wy2,g⟩:=VI1.out.kj.gr;exact g.small (by have:=H.out.2.2.2;omega)));have A4:Hid (∀w6,Gr.bd w6 (s2.A 2) (Gr.gA s2.k.gr gz 1 (rr:Int))->Gr.af (s2.A 2) w5.drew w6->ak w6 base {s2 with k:={s2.k with gr:=Gr.gA s2.k.gr gz 1 (rr:Int)}}/\KF s w {s2 with k:={s2.k with gr:=Gr.gA s2.k.gr gz 1 (rr:Int)}} w6/\w6.cell? ⟨kb,247,none⟩=some (.pointer (some ⟨s2.A 2,0,none⟩))/\w6.cell? ⟨kb,n*12+2,none⟩=some (.int .i64 gz)):=hZ (fun w6 t4 f4=>by
      have q:=S5.out.2.1.drew.lf t4 f4.wI;have q3:=q.1.pU n hn;have q2:w6.cell? ⟨s2.A 0,n*12+2,none⟩=some (.int .i64 (s2.k.p n).bP):=q3;rw[E2.out]at q2;have q4:w6.cell? ⟨s2.A 0,n*12+2,none⟩=some (.int .i64 (s.k.p n).bP):=q2;refine⟨q.1,S5.out.2.2.1.trans ((KF.drew _ _).trans q.2),?_⟩;rw[<-S5.out.2.2.2.2,<-HG.out.1];exact⟨q.1.sr,q4⟩)
     obtain⟨g3,hg3⟩:=nJ (s2.A 2);rw[hg3]at CG K0 A4;generalize Gr.aq (Gr.jP s2.k.gr gz 1 (rr:Int))=uv at CG;clear hg3;obtain⟨y1,y2⟩:=K0.out;go_region_held3 (fun w'=>w'.cell? ⟨kb,247,none⟩=some (.pointer (some ⟨g3,0,none⟩))/\w'.cell? ⟨kb,n*12+2,none⟩=some (.int .i64 gz)) (first|exact K0.out|exact S6.out.2.2) (
      (go_at_call 67;refine CG.out.mono ?_;rintro e w6 ⟨rfl,t4,f4⟩;have S6:=hZ (A4.out w6 t4 f4);clear t4 f4))
     clear K0 CG A4 y1 y2;go_wp2
     go_ret2
     refine⟨0,he,_,by rw[HEV.out.2];rfl, .inr ⟨HA.out.1,n,c,0,Wy,rfl,hn,HF.out,HW.out.ways, .inr (.inr (.inl ⟨rfl,HE.out,by rw[HHE.out.1];exact HEV.out.1,HHE.out.1.symm,rfl,?_⟩))⟩,S6.out.1,S6.out.2.1⟩;show({s2.k with gr:=Gr.gA s2.k.gr gz 1 (rr:Int)}:Kp)=_;rw[E2.out,HRR.out,HG.out.1]
   ·have E0:Hid (Kn.bS s.k Wy n=s.k):=hZ (by
     have q:Gr.jB s.k.gr Wy (s.k.p n).bP 1 (Mv.gB (s.k.p n).mem 16:Int)≠0:=by have:=HE.out;unfold Kn.oW at this;rw[this];exact e0
     exact Kn.MF q)
    have HEV:=hZ (aK e0 (aj e0));rw[aj e0];clear e0;go_wp2
    go_ret2
    refine⟨0,ce,s,by rw[HEV.out.2];rfl, .inr ⟨HA.out.1,n,c,0,Wy,rfl,hn,HF.out,HW.out.ways, .inr (.inl ⟨rfl,by rw[HE.out];exact HEV.out.1,HE.out.symm,rfl,rfl⟩)⟩,?_⟩;have q:=aK S4.out.1 S4.out.2.1;rw[E0.out]at q;exact q
  ·have HEV:=hZ (aK f0 (aj f0));rw[aj f0];clear f0;go_wp2
   go_ret2
   exact⟨0,F,s,by rw[HEV.out.2];rfl, .inr ⟨HA.out.1,n,c,F,Wy,rfl,hn,HF.out,HW.out.ways, .inl ⟨HEV.out.1,rfl,rfl,rfl⟩⟩,H.out.1,KF.refl _ _⟩
 ·have FIN:Hid (Kn.mN s.k z own 0 (Kn.bc s.k z) s.k):=hZ (.inl ⟨a,rfl,rfl,rfl⟩);have HE:=hZ (aj a);rw[aj a]at AC;clear h hv hb a;generalize fP (s.A 0) z (Kn.bc s.k z)=ap at*;rw[hkb]at AC|-;clear hkb;go_in
  go_wp2_with fail
  refine AC.out.mono ?_;rintro e w1 ⟨rfl,hw⟩;subst w1;go_wp2
  go_ret2
  exact⟨0,Kn.bc s.k z,s,by rw[HE.out];rfl,FIN.out,H.out.1,KF.refl _ _⟩
end
theorem PB.pg {w:bD}{c a b:Nat}{x:Pr}(h:PB w c a b x){f:Nat}(hf:f<6)(v:Int):PB (w.setCell ⟨c,6+f,none⟩ (.int .i64 v)) c a b {x with fd:=fun i=>if i=f then v else x.fd i}:=h.set (by omega) (fun j hj=>by
 unfold Kn.dV;by_cases e:j=6+f
 ·rw[aJ e,aI (by omega),aI (by omega),aI (by omega),aI (by omega),aI (by omega),aI (by omega)];simp[show j-6=f by omega]
 ·rw[aI e];by_cases d:j<6
  ·have q:j=0\/j=1\/j=2\/j=3\/j=4\/j=5:=by omega
   rcases q with rfl|rfl|rfl|rfl|rfl|rfl<;>rfl
  ·rw[aI (by omega),aI (by omega),aI (by omega),aI (by omega),aI (by omega),aI (by omega)];simp[show j-6≠f by omega,show j≠0 by omega,show j≠1 by omega,show j≠2 by omega,show j≠3 by omega,show j≠4 by omega,show j≠5 by omega])
def Kn.gj (j:Nat):Pr:=⟨1,-1,0,0,fun i=>if i<j then -1 else 0,true,Mv.kX,Sg.fj⟩
theorem Kn.JP (j:Nat):({Kn.gj j with fd:=fun i=>if i=j then -1 else(Kn.gj j).fd i}:Pr)=Kn.gj (j+1):=by
 have key:(fun i=>if i=j then(-1:Int)else(Kn.gj j).fd i)=(Kn.gj (j+1)).fd:=funext fun i=>by
  show _=if i<j+1 then(-1:Int)else 0;by_cases e:i=j
  ·rw[aJ e,aJ (by omega)]
  ·rw[aI e];show(if i<j then(-1:Int)else 0)=_;by_cases c:i<j
   ·rw[aJ c,aJ (by omega)]
   ·rw[aI c,aI (by omega)]
 rw[key];rfl
theorem OG (a b:Nat):du a b (Kn.gj 0)=#[.int .i64 1, .int .i64 (-1), .int .i64 0, .int .i64 0, .pointer (some ⟨a,0,none⟩), .pointer (some ⟨b,0,none⟩), .int .i64 0, .int .i64 0, .int .i64 0, .int .i64 0, .int .i64 0, .int .i64 0]:=rfl
structure FO (w:bD)(r rb c mb bb j:Nat)(W:bD):Prop where
 pb:PB W c mb bb (Kn.gj j)
 rs:PB W rb 0 0 Pr.no
 um:cA W mb r Mv.kX
 ub:CX W bb Sg.fj
 bl:Below w.heap.size w W
 ge:w.heap.size<=rb/\w.heap.size<=c/\w.heap.size<=mb/\w.heap.size<=bb
 ne:mb≠bb/\rb≠c/\rb≠mb/\rb≠bb/\c≠mb/\c≠bb
theorem FO.next {w:bD}{r rb c mb bb j:Nat}{W:bD}(h:FO w r rb c mb bb j W)(hj:j<6):FO w r rb c mb bb (j+1) (W.setCell ⟨c,6+j,none⟩ (.int .i64 (-1))):=by
 have fr:af c W (W.setCell ⟨c,6+j,none⟩ (.int .i64 (-1))):=(af.refl _ _).setCell _ _;have n:=h.ne;have g:=h.ge;refine⟨by rw[<-Kn.JP];exact h.pb.pg hj _,h.rs.same (fr.block _ h.rs.lt (by omega)),h.um.same (fr.block _ h.um.lt (by omega)),h.ub.same (fr.block _ h.ub.lt (by omega)),fr.below h.bl g.2.1 (by have:=h.bl.size;omega),g,n⟩
theorem J9 (w:bD):CX (w.alloc (.cells (fQ Sg.fj) 235)) w.heap.size Sg.fj/\Below w.heap.size w (w.alloc (.cells (fQ Sg.fj) 235)):=
 ⟨CX.Iu (heap_alloc_new w _),(aQ _ _).alloc (aL _) _⟩
theorem Fh (kb r:Nat)(w:bD)(hc:w.cell? ⟨kb,249,none⟩=some (.pointer (some ⟨r,0,none⟩)))(hk:kb<w.heap.size):
  Calls Tryz.prog 91 #[.pointer (some ⟨kb,0,none⟩)] w fun e w'=> ∃mb bb,e= .returned (.agg (du mb bb (Kn.gj 6)))/\cA w' mb r Mv.kX/\CX w' bb Sg.fj/\Below w.heap.size w w'/\w.heap.size<=mb/\w.heap.size<=bb/\mb≠bb:=by
 have b0:Below w.heap.size w (w.alloc (.cells #[.int .i64 0, .int .i64 0, .int .i64 0, .int .i64 0, .pointer none, .pointer none, .int .i64 0, .int .i64 0, .int .i64 0, .int .i64 0, .int .i64 0, .int .i64 0] 74)):=(aQ _ _).alloc (aL _) _;have c0:(w.alloc (.cells #[.int .i64 0, .int .i64 0, .int .i64 0, .int .i64 0, .pointer none, .pointer none, .int .i64 0, .int .i64 0, .int .i64 0, .int .i64 0, .int .i64 0, .int .i64 0] 74)).cell? ⟨kb,249,none⟩=some (.pointer (some ⟨r,0,none⟩)):=(aV (b0.block kb hk)).trans hc;have R0:Hid (PB (w.alloc (.cells #[.int .i64 0, .int .i64 0, .int .i64 0, .int .i64 0, .pointer none, .pointer none, .int .i64 0, .int .i64 0, .int .i64 0, .int .i64 0, .int .i64 0, .int .i64 0] 74)) w.heap.size 0 0 Pr.no/\Below w.heap.size w (w.alloc (.cells #[.int .i64 0, .int .i64 0, .int .i64 0, .int .i64 0, .pointer none, .pointer none, .int .i64 0, .int .i64 0, .int .i64 0, .int .i64 0, .int .i64 0, .int .i64 0] 74))):=hZ ⟨by unfold PB;rw[wV];exact heap_alloc_new w _,b0⟩;clear b0 hc;go_in
 go_wp2_with fail
 refine(Jc r _).mono ?_;rintro e w1 ⟨rfl,u1,b1⟩;rw[show(w.alloc (.cells #[.int .i64 0, .int .i64 0, .int .i64 0, .int .i64 0, .pointer none, .pointer none, .int .i64 0, .int .i64 0, .int .i64 0, .int .i64 0, .int .i64 0, .int .i64 0] 74)).heap.size=w.heap.size+1 by simp]at u1 b1|-;have S1:Hid (PB w1 w.heap.size 0 0 Pr.no/\cA w1 (w.heap.size+1) r Mv.kX/\Below w.heap.size w w1):=hZ ⟨R0.out.1.same (b1.block _ (by omega)),u1,R0.out.2.trans (b1.mono (by omega))⟩;clear u1 b1 R0 c0;obtain⟨rb,hrb⟩:=nJ (w.heap.size);have HR:=hZ hrb;rw[hrb]at S1|-;clear hrb;go_upto_region 2 with(refine Av rfl rfl ?_)
 have F0:Hid (FO w r rb (w1.heap.size+1) (rb+1) w1.heap.size 0 ((w1.alloc (.cells (fQ Sg.fj) 235)).alloc (.cells #[.int .i64 1, .int .i64 (-1), .int .i64 0, .int .i64 0, .pointer (some ⟨rb+1,0,none⟩), .pointer (some ⟨w1.heap.size,0,none⟩), .int .i64 0, .int .i64 0, .int .i64 0, .int .i64 0, .int .i64 0, .int .i64 0] 74))):=hZ (by
  have l1:=S1.out.2.1.lt;have bx:=J9 w1;have bz:(w1.alloc (.cells (fQ Sg.fj) 235)).heap.size=w1.heap.size+1:=by simp
  have b2:Below (w1.alloc (.cells (fQ Sg.fj) 235)).heap.size (w1.alloc (.cells (fQ Sg.fj) 235)) ((w1.alloc (.cells (fQ Sg.fj) 235)).alloc (.cells #[.int .i64 1, .int .i64 (-1), .int .i64 0, .int .i64 0, .pointer (some ⟨rb+1,0,none⟩), .pointer (some ⟨w1.heap.size,0,none⟩), .int .i64 0, .int .i64 0, .int .i64 0, .int .i64 0, .int .i64 0, .int .i64 0] 74)):=(aQ _ _).alloc (aL _) _;have b3:=bx.2.trans (b2.mono (by omega));have N:=heap_alloc_new (w1.alloc (.cells (fQ Sg.fj) 235)) (.cells #[.int .i64 1, .int .i64 (-1), .int .i64 0, .int .i64 0, .pointer (some ⟨rb+1,0,none⟩), .pointer (some ⟨w1.heap.size,0,none⟩), .int .i64 0, .int .i64 0, .int .i64 0, .int .i64 0, .int .i64 0, .int .i64 0] 74);rw[bz]at N;have bb0:Below w.heap.size w w1:=by rw[HR.out];exact S1.out.2.2
  exact⟨by unfold PB;rw[OG];exact N,S1.out.1.same (b3.block _ S1.out.1.lt),S1.out.2.1.below b3,bx.1.below b2 (by omega),bb0.trans (b3.mono bb0.size),by rw[HR.out];omega,by omega⟩)
 generalize (w1.alloc (.cells (fQ Sg.fj) 235)).alloc (.cells #[.int .i64 1, .int .i64 (-1), .int .i64 0, .int .i64 0, .pointer (some ⟨rb+1,0,none⟩), .pointer (some ⟨w1.heap.size,0,none⟩), .int .i64 0, .int .i64 0, .int .i64 0, .int .i64 0, .int .i64 0, .int .i64 0] 74)=W2 at F0|-;obtain⟨mb,hmb⟩:=nJ (rb+1);obtain⟨c,hcc⟩:=nJ (w1.heap.size+1);obtain⟨bb,hbb⟩:=nJ (w1.heap.size);rw[hmb,hcc,hbb]at F0|-;clear S1 hmb hcc hbb;go_wp2_with fail
 go_loopw [4,13] (fun _ i wr=> ∃(j:Nat),i= .int .i64 j/\j<=6/\Hid (FO w r rb c mb bb j wr)) (fun _ i _=>6-(intOf i).toNat)
 case atStart=>exact⟨0,rfl,by omega,F0⟩
 case round=>
  clear F0;obtain⟨j,rfl,hj6,S⟩:=hrel;by_cases hlt:j<6
  ·have hltI:(j:Int)<6:=by omega
   have y1:=S.out.pb.cell (6+j) (by omega);have yf:=S.out.pb.frozen;generalize Kn.dV mb bb (Kn.gj j) (6+j)=pv at y1;have S1:=hZ (S.out.next hlt);go_wp2
   go_roundw
   case rel=>exact⟨j+1,by go_num,by omega,S1⟩
   case measure=>simp[intOf];omega
  ·obtain rfl:j=6:=by omega
   obtain⟨B,hB⟩:=nJ (du mb bb (Kn.gj 6));have RG:Hid (wr.rangeAt c 0 B.toList):=hZ (by rw[<-hB];exact S.out.pb.range);have SL:Hid ((Tryz.prog.info? 74).map (·.size)=some B.toList.length):=hZ (by rw[<-hB,aB,dh];kernel_rfl);have SZ:Hid ((Tryz.prog.info? 74).map (·.size)=some B.size):=hZ (by rw[<-hB,dh];kernel_rfl);have TH:Hid (wr.there rb 0 B.size):=hZ (by rw[<-hB,dh];exact S.out.rs.there);have H1:Hid (B.all (·.oneCell')=true):=hZ (by rw[<-hB];exact qg _ _ _);have F6:Hid (PB (wr.setCells rb 0 B.toList) rb mb bb (Kn.gj 6)/\cA (wr.setCells rb 0 B.toList) mb r Mv.kX/\CX (wr.setCells rb 0 B.toList) bb Sg.fj/\Below w.heap.size w (wr.setCells rb 0 B.toList)):=hZ (by
    have fr:af rb wr (wr.setCells rb 0 B.toList):=af.setCells _ _ (af.refl _ _);have q:=S.out;exact⟨by rw[<-hB];exact q.rs.put _ _ _,q.um.same (fr.block _ q.um.lt (by have:=q.ne;omega)),q.ub.same (fr.block _ q.ub.lt (by have:=q.ne;omega)),fr.below q.bl q.ge.1 q.bl.size⟩)
   have GE:=hZ (aK S.out.ge S.out.ne);clear hB S;go_wp2_with (first|(refine wpList_load_mid rfl 74 _ rfl c 0 rfl B.toList _ RG.out Tryz.underlying74 rfl SL.out ?_;rw[Array.toArray_toList])|(refine wpList_store_mid rfl 74 _ _ rfl rb 0 B rfl rfl TH.out SZ.out H1.out ?_))
   generalize wr.setCells rb 0 B.toList=WF at F6|-;have g0:=F6.out.1.cell 0 (by omega);have g1:=F6.out.1.cell 1 (by omega);have g2:=F6.out.1.cell 2 (by omega);have g3:=F6.out.1.cell 3 (by omega);have g4:=F6.out.1.cell 4 (by omega);have g5:=F6.out.1.cell 5 (by omega);have g6:=F6.out.1.cell 6 (by omega);have g7:=F6.out.1.cell 7 (by omega);have g8:=F6.out.1.cell 8 (by omega);have g9:=F6.out.1.cell 9 (by omega);have g10:=F6.out.1.cell 10 (by omega);have g11:=F6.out.1.cell 11 (by omega)
   (try simp only[Exit.then])
   refine bodyPost_ret (v:= .agg #[Kn.dV mb bb (Kn.gj 6) 0,Kn.dV mb bb (Kn.gj 6) 1,Kn.dV mb bb (Kn.gj 6) 2,Kn.dV mb bb (Kn.gj 6) 3,Kn.dV mb bb (Kn.gj 6) 4,Kn.dV mb bb (Kn.gj 6) 5,Kn.dV mb bb (Kn.gj 6) 6,Kn.dV mb bb (Kn.gj 6) 7,Kn.dV mb bb (Kn.gj 6) 8,Kn.dV mb bb (Kn.gj 6) 9,Kn.dV mb bb (Kn.gj 6) 10,Kn.dV mb bb (Kn.gj 6) 11]) (by simp[results,Tryz.f91,go_sem,g0,g1,g2,g3,g4,g5,g6,g7,g8,g9,g10,g11]) rfl ?_;exact⟨mb,bb,rfl,F6.out.2.1,F6.out.2.2.1,F6.out.2.2.2,GE.out.1.2.2.1,GE.out.1.2.2.2,GE.out.2.1⟩
namespace Kn
def nE:Mo.Tb:=⟨(0,0),[]⟩
def ml:Kp:=⟨fun _=>Pr.no,fun _=>false,fun _=>nE,Sp.t0,Gr.t0,Wf.m0,Mv.Ab,Tr.f0,Pp.fj,Fx.fj⟩
def jZ:Kp:={ml with fo:=Tr.dc Tr.g1 (0:Nat),ht:=fun i=>if i=0 then true else false,gr:=Gr.iR Gr.t0 Gr.W0 0 1 0}
theorem Lt:Mv.eZ Mv.Ab 20 (fun _=>Mv.kX):=by
 have t0: ∀f n,Mv.nH (fun _=>Mv.kX) f n=0:=fun f n=>by
  induction n with
  |zero=>rfl
  |succ n ih=>show Mv.nH _ f n+Mv.dH Mv.kX.fr f 16=0;rw[ih,Mv.sI (fr:=Mv.kX.fr) f 16 (fun _ _=>rfl)]
 exact⟨Bd.uU.1,Bd.uU.2,by omega,fun _ _ _ _=>by show 0<=64;omega,fun f _=>by show 0=_;rw[t0],fun f _=>⟨fun c=>aZ (show false=true from c) (by decide),fun c=>aZ (show(0:Nat)>=1 from c) (by decide)⟩,fun f _ c=>aZ (show false=true from c) (by decide)⟩
theorem zQ (k m:Nat): ∀j,Fx.cK Fx.fj k m j=0:=fun j=>by
 have:=Fx.rz Fx.fj k m j
 induction j with
 |zero=>rfl
 |succ j ih=>
  have q:=ih (Fx.rz Fx.fj k m j);show Fx.cK Fx.fj k m j+Fx.hit (Fx.fj j) k m=0;rw[q];rfl
theorem Ll:Mo.HI Tr.g1 (fun _=>0):=⟨fun n _=>by
 show(if n=0 then _ else Nd.no:Nd).held=0;split<;>rfl,fun n _ h=>by omega⟩
theorem Eu:Mo.HI (Tr.dc Tr.g1 (0:Nat)) (fun n=>0+Mo.gm (0:Nat) n):=Ll.dc (by rfl)
theorem Pt (m:Nat):iG jZ m=Mo.gm (0:Nat) m:=by
 show(((((0+Mo.tc nE m)+0)+0)+0)+0)+0=_;unfold Mo.tc;rw[show nE.ms=[]from rfl,Mo.wN,show nE.rt.2=((0:Nat):Int)from rfl];omega
theorem Ql:KJ (fun _=>False) 1 jZ:=by
 refine⟨⟨_,Sp.uU⟩,⟨Gr.W0,oL Gr.wA 0 1 0 (by omega) (by omega)⟩,Lt,?_,fun n _=>aC _,(show Tr.Ok (Tr.dc Tr.g1 ((0:Nat):Int))from Tr.Pe.dc _),fun s hs h=>?_,fun n _=>aC _,fun n _ h=>?_,fun n _ _ h=>?_,fun n _=>?_,fun s hs=>?_,fun n _ _=>rfl⟩
 ·refine⟨fun n _ _=>rfl,fun n _ h=>aZ rfl h,fun n _ h=>aZ rfl h,fun n _ h=>aZ rfl h,fun n _=>aC _,fun m hm=>?_,fun m hm kz=>?_,fun m _=>(zQ 2 m 24).symm,fun m _=>(zQ 3 m 24).symm⟩
  ·rw[Pt];show((Tr.dc Tr.g1 (0:Nat)).nd m).held=Fx.cK Fx.fj 1 m 24+_;rw[Eu.hd m hm,zQ]
  ·by_cases c:((Tr.dc Tr.g1 (0:Nat)).nd m).held=0
   ·exact c
   ·exact aZ kz (Eu.lv m hm (by rw[<-Eu.hd m hm];omega))
 ·exact⟨⟨⟨0,rfl,by omega⟩,fun m hm=>by cases hm⟩,by show([]:List Mt).length<=6;exact aC _⟩
 ·cases h
 ·cases h
 ·exact⟨fun h=>aZ rfl h,fun h=>aZ rfl h⟩
 ·show(if s=0 then true else false)=decide (s=0);by_cases e:s=0
  ·rw[aJ e];simp[e]
  ·rw[aI e];simp[e]
def kN (m:Wf.M):Kp:=gJ jZ 0 (gj 6) 0 m
theorem Pf:Sp.pF (Sp.dM Sp.t0 ((0:Nat):Int) ((0:Nat):Int)):=by
 refine⟨fun s hs h=>?_,by decide⟩;rw[(Sp.jU (t:=Sp.t0) (z:=0) (x:=0) (by omega) rfl (by omega) rfl).1]at h;have e:s=0:=by
  by_cases c:s=0
  ·exact c
  ·have:decide (s=0)=true:=h;simp[c]at this
 subst e;exact⟨0,by omega,by decide,by decide⟩
theorem QX (m:Wf.M):KH 1 (fun _=>1) (kN m):=by
 have h:=Ql;have e: ∀j,j≠0->(kN m).p j=Pr.no:=fun j q=>ao jZ 0 j (gj 6) q;have e2:(kN m).p 0=gj 6:=ai jZ 0 (gj 6);have esp:(kN m).sp=Sp.dM Sp.t0 ((0:Nat):Int) ((0:Nat):Int):=rfl;have kj:KJ (fun _=>False) 1 (kN m):=by
  have iv:Sp.Inv (kN m).sp (fun _=>1):=by rw[esp];exact Sp.uU.enter _ _
  refine⟨⟨_,iv⟩,h.gr,?_,h.wx,h.rf,h.ok,h.tb,fun j hj=>?_,fun j hj=>?_,fun j hj _=>?_,fun j hj=>?_,fun s hs=>?_,fun j hj=>?_⟩
  ·have:(fun j=>((kN m).p j).mem)=fun _=>Mv.kX:=funext fun j=>by
    by_cases q:j=0
    ·rw[q,e2];rfl
    ·rw[e j q];rfl
   rw[this];exact Lt
  ·by_cases q:j=0
   ·rw[q,e2];show 1<=2;omega
   ·rw[e j q];exact aC _
  ·by_cases q:j=0
   ·rw[q,e2];intro _;rfl
   ·rw[e j q];intro c;cases c
  ·by_cases q:j=0
   ·rw[q,e2];intro _;rfl
   ·rw[e j q];intro c;cases c
  ·rw[esp,Sp.oK (t:=Sp.t0) (z:=0) (x:=0) (by omega) rfl (by omega) rfl];by_cases q:j=0
   ·rw[q,e2,aJ rfl];exact⟨fun _=>by show 1≠0;omega,fun _=>by omega⟩
   ·rw[e j q,aI q];exact⟨fun c=>aZ rfl c,fun c=>aZ rfl c⟩
  ·rw[esp,(Sp.jU (t:=Sp.t0) (z:=0) (x:=0) (by omega) rfl (by omega) rfl).1];exact h.ht s hs
  ·by_cases q:j=0
   ·rw[q,e2];intro c;cases c
   ·rw[e j q];intro _;rfl
 have vi:VI (fun _=>False) 1 (fun _=>1) (kN m):=⟨kj,by rw[esp];exact Sp.uU.enter _ _,Pf⟩;have st: ∀j,j≠0->((kN m).p j).st=0:=fun j q=>by rw[e j q];rfl
 refine⟨⟨vi,fun j hj l hd1=>?_,fun j hj q s=>aZ (st j q) s,vi.h0⟩,fun j hj q s=>aZ (st j q) s,by rw[cW,e2];rfl,by rw[e2];rfl,fun j z hj s=>?_⟩
 ·by_cases q:j=0
  ·subst q;exact aZ vi.h0 hd1
  ·have:=cW.1 l;rw[st j q]at this;omega
 ·by_cases q:j=0
  ·rw[q,e2]at s;have:(1:Nat)=2:=s;omega
  ·rw[st j q]at s;omega
end Kn
def Ep (v:Nat->Value)(o:Nat):Value:=if o<240 then(if o%12=4 then .pointer none else if o%12=5 then .pointer none else .int .i64 0)else if o<246 then .pointer none else v (o-246)
def mG (v:Nat->Value):Array Value:=((List.range 253).map (Ep v)).toArray
theorem yD (v:Nat->Value):(mG v).size=253:=by simp[mG]
theorem Db (v:Nat->Value)(o:Nat)(h:o<253):(mG v)[o]? =some (Ep v o):=by simp[mG,h]
def jI (a:Nat):Value:= .pointer (some ⟨a,0,none⟩)
def pR (a b c d e f:Nat)(i:Nat):Value:=if i=0 then jI a else if i=1 then jI b else if i=2 then jI c else if i=3 then jI d else if i=4 then jI e else if i=5 then jI f else .pointer none
theorem yp (a b c d e f:Nat):Tryz.prog.built 86 [(2,jI a),(3,jI b),(4,jI c),(5,jI d),(6,jI e),(7,jI f)]=some (mG (pR a b c d e f)):=by kernel_rfl
section
variable {ops : Array Oper} {rest : List Oper} {x : Oper} {a : Act} {w : bD} {Q : Exit -> Act -> bD -> Prop}
theorem Ee {y2 y3 y4 y5 y6 y7:Operand}(a2 a3 a4 a5 a6 a7:Nat)(hgd:x.guard=none)(ho:x.op= .build 86 #[(2,y2),(3,y3),(4,y4),(5,y5),(6,y6),(7,y7)])(h2:a.eval y2=jI a2)(h3:a.eval y3=jI a3)(h4:a.eval y4=jI a4)(h5:a.eval y5=jI a5)(h6:a.eval y6=jI a6)(h7:a.eval y7=jI a7)(h:wpList Tryz.prog ops Q rest (a.put x.dst (.agg (mG (pR a2 a3 a4 a5 a6 a7)))) w):wpList Tryz.prog ops Q (x::rest) a w:=
 wpList_build hgd 86 #[(2,y2),(3,y3),(4,y4),(5,y5),(6,y6),(7,y7)] ho (by simp[h2,h3,h4,h5,h6,h7,yp]) (by simpa[h2,h3,h4,h5,h6,h7,yp]using h)
end
structure NW (w:bD)(a0 a1 a2 a3 a4 a5 a6 a7:Nat)(W:bD):Prop where
 sp:Tb true W a1 Sp.t0
 gr:Gr.bd W a2 Gr.t0
 sc:Wf.Fair W a3 Wf.m0
 bk:cT W a4 a5 Mv.Ab
 fo:ar W a6 Tr.f0
 pi:db W a7 Pp.fj
 ke:W.heap[a0]? =some (.cells (mG (pR a1 a2 a3 a4 a6 a7)) 86 (0,0))
 bl:Below w.heap.size w W
 od:w.heap.size=a1/\a1<a2/\a2<a3/\a3<a5/\a5<a4/\a4<a6/\a6<a7/\a7<a0
theorem NW.lt {w:bD}{a0 a1 a2 a3 a4 a5 a6 a7:Nat}{W:bD}(h:NW w a0 a1 a2 a3 a4 a5 a6 a7 W):a0<W.heap.size:=(aX.1 h.ke).1
theorem NW.cell {w:bD}{a0 a1 a2 a3 a4 a5 a6 a7:Nat}{W:bD}(h:NW w a0 a1 a2 a3 a4 a5 a6 a7 W)(o:Nat)(ho:o<253):W.cell? ⟨a0,o,none⟩=some (Ep (pR a1 a2 a3 a4 a6 a7) o):=by rw[au h.ke,Db _ o ho]
def kY (a0 a1 a2 a3 a4 a5 a6 a7 a8 i:Nat):Nat:=[a0,a1,a2,a3,a4,a5,a6,a7,a8].getD i 0
theorem NW.QM {w:bD}{base a0 a1 a2 a3 a4 a5 a6 a7 a8:Nat}{W W':bD}(h:NW w a0 a1 a2 a3 a4 a5 a6 a7 W)(hb:base<=w.heap.size)(e8:W.heap.size=a8)(xa:dy W' a8 a6 a7 Fx.fj)(bl:Below W.heap.size W W'):
  ak (W'.setCell ⟨a0,252,none⟩ (.pointer (some ⟨a8,0,none⟩))) base ⟨kY a0 a1 a2 a3 a4 a5 a6 a7 a8,fun _=> .slice none 0 0,Kn.ml⟩/\Below w.heap.size w (W'.setCell ⟨a0,252,none⟩ (.pointer (some ⟨a8,0,none⟩))):=by
 have od:=h.od;have l0:=h.lt;have k1:W'.heap[a0]? =some (.cells (mG (pR a1 a2 a3 a4 a6 a7)) 86 (0,0)):=(bl.block _ l0).trans h.ke;have fr:af a0 W' (W'.setCell ⟨a0,252,none⟩ (.pointer (some ⟨a8,0,none⟩))):=(af.refl _ _).setCell _ _;have ls:=bl.size;have bk: ∀b,b<a0->(W'.setCell ⟨a0,252,none⟩ (.pointer (some ⟨a8,0,none⟩))).heap[b]? =W.heap[b]? :=fun b hb=>(fr.block b (by omega) (by omega)).trans (bl.block b (by omega));have us9': ∀i,us ⟨kY a0 a1 a2 a3 a4 a5 a6 a7 a8,fun _=> .slice none 0 0,Kn.ml⟩ i->i<9:=fun i hi=>by
  rcases hi with hi|⟨_,_,q⟩|⟨_,_,q⟩|⟨_,_,q⟩|⟨_,_,q,_⟩
  ·exact hi
  ·cases q
  ·cases q
  ·cases q
  ·cases q
 have nd: ∀i,i<9-> ∀j,j<9->kY a0 a1 a2 a3 a4 a5 a6 a7 a8 i=kY a0 a1 a2 a3 a4 a5 a6 a7 a8 j->i=j:=by
  have n:[a0,a1,a2,a3,a4,a5,a6,a7,a8].Nodup:=by
   simp only[List.nodup_cons,List.mem_cons,List.not_mem_nil,or_false,not_or,List.nodup_nil,not_false_eq_true,and_true];omega
  intro i hi j hj e;unfold kY at e;rw[aF,aF,aW (by simpa using hi),aW (by simpa using hj),Option.getD_some,Option.getD_some]at e;rcases Nat.lt_trichotomy i j with q|q|q
  ·exact aZ e (List.pairwise_iff_getElem.1 n i j _ _ q)
  ·exact q
  ·exact aZ e.symm (List.pairwise_iff_getElem.1 n j i _ _ q)
 refine⟨⟨⟨_,bC k1 252 _,by simp[yD]⟩,fun o ho=>?_,h.sp.same (bk a1 (by omega)),(bk a2 (by omega)).trans h.gr,h.sc.same (bk a3 (by omega)),h.bk.same (bk a4 (by omega)) (bk a5 (by omega)),xa.same (fr.block a8 xa.lt (by omega)),h.fo.same (bk a6 (by omega)),h.pi.same (bk a7 (by omega)),fun n _ q=>(by cases q),fun n _ q=>(by cases q),fun n _ q=>(by cases q),fun n _ q=>(by cases q),fun i j hi hj e=>nd i (us9' i hi) j (us9' j hj) e,fun i hi=>?_⟩,fr.below (h.bl.trans (bl.mono h.bl.size)) (by omega) (by have:=h.bl.size;omega)⟩
 ·show(W'.setCell ⟨a0,252,none⟩ _).cell? ⟨a0,o,none⟩=_;by_cases q:o=252
  ·subst q;rw[cL k1 _ _ (by rw[yD];omega)];unfold Kn.kc;rw[aI (by omega),aI (by omega),aI (by omega),show 252-244=8 by omega];rfl
  ·rw[cC k1 _ _ _ (bQ q),au k1,Db _ o ho];congr 1;unfold Ep Kn.kc;by_cases c:o<240
   ·rw[aJ c,aJ c];unfold Kn.pc;have m:o%12<12:=Nat.mod_lt _ (by omega);generalize o%12=j at m
    match j,m with
    |0,_=>rfl
    |1,_=>rfl
    |2,_=>rfl
    |3,_=>rfl
    |4,_=>rfl
    |5,_=>rfl
    |j+6,_=>
     rw[aI (by omega),aI (by omega)];unfold Kn.dV;rw[aI (by omega),aI (by omega),aI (by omega),aI (by omega),aI (by omega),aI (by omega)];rfl
   ·rw[aI c,aI c];by_cases c2:o<246
    ·rw[aJ c2,aJ c2];rfl
    ·rw[aI c2,aI c2];have q2:o=246\/o=247\/o=248\/o=249\/o=250\/o=251:=by omega
     rcases q2 with rfl|rfl|rfl|rfl|rfl|rfl<;>rfl
 ·have i9:=us9' i hi;have q:i=0\/i=1\/i=2\/i=3\/i=4\/i=5\/i=6\/i=7\/i=8:=by omega
  rcases q with rfl|rfl|rfl|rfl|rfl|rfl|rfl|rfl|rfl
  ·show base<=a0;omega
  ·show base<=a1;omega
  ·show base<=a2;omega
  ·show base<=a3;omega
  ·show base<=a4;omega
  ·show base<=a5;omega
  ·show base<=a6;omega
  ·show base<=a7;omega
  ·show base<=a8;omega

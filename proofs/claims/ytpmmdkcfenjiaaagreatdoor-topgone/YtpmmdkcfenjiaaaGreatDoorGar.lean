import Derived.Test.YtpmmdkcfenjiaaaGreatDoorGaq
set_option maxRecDepth 100000
set_option maxHeartbeats 1000000
set_option linter.unusedVariables false
set_option linter.unusedSimpArgs false
namespace Go.Proofs.YtpmmdkcfenjiaaaGreatDoor
open Value renaming int->aa,pointer->ai,string->ak,tuple->ao,bool->ar
open IntKind renaming i64->az,u64->bd
open Ending renaming returned->bf
open Obj renaming cells->bh
open Option renaming some->bj,none->bu
open Bool renaming true->bw,false->bA
open Tryz (prog)
open Go.RowKit
open Fx (Fi)
open Tr (Fo Nd)
open Pp (Pi)
open Mo (Wh Mt)
open Mv (Me Bk)
open Kn (Pr Kp St us KB KJ VI EI KH)
variable {li on own:Bool}{E a c e m n q:Int}{D:Kp->Nat->Int->Kp->Prop}{N Wr b f g j:Nat}{Wy:Nat->List (Fin 10)}{s s1:St}{v:Value}{w:bD}{t:bU}
namespace Kn
section
variable {N:Nat}{d:Nat->Nat}{k k':Kp}{n:Nat}
theorem N4(h:2<=(gy k n 6).length):(k.p n).fd ((gy k n 6).getD 0 0)= -1/\(k.p n).fd ((gy k n 6).getD 1 0)= -1:=by
 match hL:gy k n 6,h with
 |[],h=>simp at h
 |[x],h=>simp at h
 |x::y::L,_=>
  have hx:=sG (k:=k) (n:=n) (f:=x) (by rw[hL];simp);have hy:=sG (k:=k) (n:=n) (f:=y) (by rw[hL];simp);exact⟨hx.2,hy.2⟩
theorem Eg(k:Kp)(hn:n<20)(hh:(k.p n).has=bw)(hf:f<6)(v:Int)(g:Nat):kK (eJ k n f v).p g 20+(if(k.p n).fd f=(g:Int)then 1 else 0)=kK k.p g 20+(if v=(g:Int)then 1 else 0):=by
 have a:=sP k n {k.p n with fd:=λi=>if i=f then v else(k.p n).fd i} g 20;rw[aJ hn,aJ hn]at a;have b:kJ (k.p n) g=fc (k.p n).fd g 6:=aJ hh;have c:kJ {k.p n with fd:=λi=>if i=f then v else(k.p n).fd i} g=fc (λi=>if i=f then v else(k.p n).fd i) g 6:=aJ hh;have e:=Dm (k.p n).fd f v g 6;have e1:(if f<6/\(k.p n).fd f=(g:Int)then 1 else 0)=if(k.p n).fd f=(g:Int)then 1 else 0:=by simp[hf]
 have e2:(if f<6/\v=(g:Int)then 1 else 0)=if v=(g:Int)then 1 else 0:=by simp[hf]
 rw[e1,e2]at e;show kK (k.put n {k.p n with fd:=λi=>if i=f then v else(k.p n).fd i}).p g 20+_=_;omega
theorem RC.Uf(h:RC k)(kh:KH N d k){z:Int}{A C:Nat}(p:tg k z A C E k'):RC k':=by
 rcases p with⟨_,_,_,_,rfl⟩|⟨a0,n,rfl,hn,⟨_,_,_,_,rfl⟩|⟨l2,a,c,T,S,pt,q⟩⟩
 .exact h
 .exact h
 .rcases pt with⟨_,_,_,e4,rfl,rfl⟩|⟨_,m,e,hf,⟨ne,_,_,eE,rfl,rfl⟩|⟨_,e0,la,lc,rfl,rfl⟩⟩
  .rcases q with⟨_,_,_,rfl⟩|⟨e0,_⟩
   .exact h
   .omega
  .rcases q with⟨_,_,_,rfl⟩|⟨e0,_⟩
   .exact h
   .exact aZ (eE.symm.trans e0) ne
  .rcases q with⟨e1,_,_,_⟩|⟨_,eA,eC,rfl⟩
   .exact aZ e0 e1
   .have hh:(k.p n).has=bw:=kh.ki.vi.kj.lv n hn (λx=>x) (dO.1 (jS a0));obtain⟨f,g,ef,eg,f6,g6,fg⟩:=GH l2;have eA':A=f:=eA.trans ef;have eC':C=g:=eC.trans eg;subst eA' eC';have mm:=N4 l2;rw[ef,eg]at mm;have mA:=mm.1;have mC:=mm.2;intro x x24;generalize hk0:iL k (Fx.put (Fx.put k.fi a ⟨2,m,bA,0,1⟩) c ⟨3,m,bA,0,1⟩) k.fo (Pp.jQ k.pi m 0)=k0;have p0:k0.p=k.p:=by rw[<-hk0];rfl
    have f0:k0.fi=Fx.put (Fx.put k.fi a ⟨2,m,bA,0,1⟩) c ⟨3,m,bA,0,1⟩:=by rw[<-hk0];rfl
    have hh0:(k0.p n).has=bw:=by rw[p0];exact hh
    have r1:=Eg k0 hn hh0 f6 (a:Int) x;have e1:=Ct k0 n A (a:Int) n;have r2:=Eg (eJ k0 n A (a:Int)) hn (by rw[e1.2.2.2.1];exact hh0) g6 (c:Int) x;rw[e1.2.2.2.2,aJ rfl,aI (bQ fg),p0,mC,nK]at r2;rw[p0,mA,nK]at r1;have h1:=h x x24;have la1:(k.fi a).refs=0:=la.2.1;have lc1:(Fx.put k.fi a ⟨2,m,bA,0,1⟩ c).refs=0:=lc.2.1;have ca:c≠a:=λe=>by rw[e,Fx.bG]at lc1;exact aZ lc1 (show¬(1:Nat)=0 by decide)
    rw[Fx.bO _ _ _ _ ca]at lc1;show(k0.fi x).refs=_;rw[f0];by_cases xc:x=c
    .subst xc;rw[Fx.bG];rw[nK]at r1;rw[aJ rfl]at r2;show 1=_;omega
    .rw[Fx.bO _ _ _ _ xc];rw[nK]at r2;by_cases xa:x=a
     .subst xa;rw[Fx.bG];rw[aJ rfl]at r1;show 1=_;omega
     .rw[Fx.bO _ _ _ _ xa];rw[nK]at r1;omega
theorem wM.more(h:wM k):k.fi=Fx.fW/\k.pi=Pp.fW:=by
 obtain⟨m,m',rfl⟩:=h;exact⟨rfl,rfl⟩
theorem RC.Tg(h:wM k):RC k:=by
 obtain⟨h1,h2,h3⟩:=h.p;intro f _;rw[h.more.1];show 0=_;have key:∀M,kK k.p f M=0:=λM=>by
  induction M with
  |zero=>rfl
  |succ M ih=>
   show kK k.p f M+kJ (k.p M) f=0;rw[ih];by_cases c:M=0
   .subst c;rw[h1];show 0+fc (λi=>if i<6 then -1 else 0) f 6=0;rw[Aj 6 (λj hj=>aJ hj)]
   .rw[h2 M c];rfl
 exact(key 20).symm
end
end Kn
namespace Kn
end Kn
theorem Kq(a:Option Addr)(b o n c:Nat)(m:Int)(ax:Nat->fU)(w:bD)(hn:(n:Int)<=m)(hm:n<=1000)(ha:0<n->a=bj ⟨b,o,bu⟩)(h:∀i,i<n->∀j,j<8->w.cell? ⟨b,o+i*8+j,bu⟩=bj ((ax i).cell j)):
  Calls prog 10 #[.slice a n c,aa az m] w λe w'=>∃v:Bool,e=bf (ar v)/\zW ax n 80 (ar v)/\w'=w:=by
 have d:decide ((n:Int)<=m)=bw:=by simp;omega
 have LT:=hZ (Ja a b o n c 80 ax w hm ha h);go_in
 go_wp2_with fail
 refine(Bw _ _ _ _ _).mono ?_;rintro e w1 ⟨rfl,hw⟩;subst w1;rw[d];go_wp2_with fail
 refine LT.mono ?_;rintro e w1 ⟨v,rfl,ht,hw⟩;subst w1;have HT:=hZ ht;rcases ht with rfl|⟨rfl,_⟩
 .go_wp2
  go_ret
  exact⟨bA,rfl,HT.v,rfl⟩
 .go_wp2
  go_ret
  exact⟨bw,rfl,HT.v,rfl⟩
namespace Kn
section
variable {N:Nat}{d:Nat->Nat}{k k' k1:Kp}{n:Nat}
theorem AN(k:Kp)(n:Nat)(fd:Nat->Int):∀j,(cV k n fd j).gr=k.gr
 |0=>rfl
 |j+1=>by
  show(if fd j= -1 then cV k n fd j else eJ (gS (cV k n fd j) (fd j)) n j (-1):Kp).gr=_;split
  .exact AN k n fd j
  .exact AN k n fd j
theorem Ei{p:Nat->Pr}{f:Nat}:∀M,(∀m,m<M->(p m).has=bw->∀j,j<6->(p m).fd j≠(f:Int))->kK p f M=0
 |0,_=>rfl
 |M+1,h=>by
  show kK p f M+kJ (p M) f=0;rw[Ei M (λm hm=>h m bB)];unfold kJ;split
  .rename_i hh;have a:=h M bB hh;have z:∀J,J<=6->fc (p M).fd f J=0:=λJ=>by
    induction J with
    |zero=>intro _;rfl
    |succ J ih=>
     intro hJ;show fc (p M).fd f J+(if(p M).fd J=(f:Int)then 1 else 0)=0;rw[ih bB,aI (a J bB)]
   rw[z 6 (aL _)]
  .rfl
end
end Kn
namespace Kn
theorem Kp.same{a b:Kp}(h:∀m,a.p m=b.p m)(hr:({a with p:=b.p}:Kp)=b):a=b:=by
 have e:a.p=b.p:=funext h;rw[<-hr,<-e]
theorem gN(k:Kp)(n:Nat)(x y:Pr):(k.put n x).put n y=k.put n y:=by
 unfold Kp.put;congr 1;funext m;by_cases c:m=n
 .simp[c]
 .simp[c]
section
variable {N:Nat}{d:Nat->Nat}{k k' k1:Kp}{n:Nat}{L:Nat->Nat}{rd:Nat->Bool}
theorem SJ(k:Kp)(n:Nat)(X:Nat->Sg.S1)(a m:Int):dj (dv k n X) n a m=dv (dj k n a m) n X:=by
 have e:(dv k n X).p n={k.p n with box:=X}:=bG _ _ _;unfold dj;rw[e];by_cases c:Mv.oF a m=0
 .rw[aJ c,aJ c];unfold cY;rw[e];refine Kp.same (λq=>?_) rfl;unfold dv;by_cases c:q=n
  .subst c;rw[bG,bG];show _={((k.put q {k.p q with mem:=Mv.jM (k.p q).mem a m}).p q)with box:=X};rw[bG]
  .rw[bO _ _ _ _ c,bO _ _ _ _ c,bO _ _ _ _ c];exact(bO k n q {k.p n with mem:=Mv.jM (k.p n).mem a m} c).symm
 .rw[aI c,aI c]
theorem EH(k:Kp)(n:Nat)(X:Nat->Sg.S1)(fd:Nat->Int):∀j,cV (dv k n X) n fd j=dv (cV k n fd j) n X
 |0=>rfl
 |j+1=>by
  have ih:=EH k n X fd j;show(if fd j= -1 then cV (dv k n X) n fd j else eJ (gS (cV (dv k n X) n fd j) (fd j)) n j (-1):Kp)=dv (if fd j= -1 then cV k n fd j else eJ (gS (cV k n fd j) (fd j)) n j (-1)) n X;by_cases c:fd j= -1
  .rw[aJ c,aJ c];exact ih
  .rw[aI c,aI c,ih];generalize cV k n fd j=q;unfold eJ dv;rw[bG];have e:(gS (q.put n {q.p n with box:=X}) (fd j)).p n={q.p n with box:=X}:=bG _ _ _;rw[e];have e2:gS (q.put n {q.p n with box:=X}) (fd j)=(gS q (fd j)).put n {q.p n with box:=X}:=rfl;rw[e2,gN,gN];rfl
theorem fY.box{X:Nat->Sg.S1}(h:fY (dv k n X) n k1):fY k n k1:=by
 obtain⟨m',dt,rfl⟩:=h;refine⟨m',dt,?_⟩;have e:(dv k n X).p n={k.p n with box:=X}:=bG _ _ _;unfold qX;dsimp only;rw[SJ,e,EH];generalize cV (dj k n 0 16) n _ 6=q;have e2:(dv q n X).p n={q.p n with box:=X}:=bG _ _ _;rw[e2];have e3:({dv q n X with sc:=m'}:Kp)=({q with sc:=m'}:Kp).put n {q.p n with box:=X}:=rfl;rw[e3,gN]
theorem kL.box{X:Nat->Sg.S1}{c:Int}{z q:Nat}(e:kL (dv k n X) n c z q k'):kL k n c z q k':=by
 obtain⟨k1,k3,s1,mt,rfl⟩:=e;exact⟨k1,k3,s1.box,mt,rfl⟩
end
end Kn
namespace Kn
section
variable {N:Nat}{d:Nat->Nat}{k k' k1:Kp}{n:Nat}{L:Nat->Nat}{rd:Nat->Bool}
theorem PQ(k:Kp)(n:Nat)(X:Nat->Sg.S1)(m:Nat):((dv k n X).p m).st=(k.p m).st/\((dv k n X).p m).par=(k.p m).par/\((dv k n X).p m).cD=(k.p m).cD/\((dv k n X).p m).fd=(k.p m).fd/\((dv k n X).p m).has=(k.p m).has/\((dv k n X).p m).code=(k.p m).code:=by
 unfold dv;by_cases c:m=n
 .subst c;rw[bG];exact⟨rfl,rfl,rfl,rfl,rfl,rfl⟩
 .rw[bO _ _ _ _ c];exact⟨rfl,rfl,rfl,rfl,rfl,rfl⟩
theorem KH.bx(kh:KH N d k)(n:Nat){X:Nat->Sg.S1}(hX:n<20->lv k n=bw->hd k n≠n->Sg.ft X 0 0):KH N d (dv k n X):=
 kh.iu (kh.ki.box n hX) rfl (λm=>⟨(PQ k n X m).1,(PQ k n X m).2.1⟩)
end
end Kn
namespace Kn
section
variable {N n y q:Nat}{d:Nat->Nat}{k k':Kp}{z:Int}{v:Value}{E:Int}
theorem KH.Vv(h:KH N d k)(hn:n<20)(n0:n≠0)(l:lv k n=bw)(yq:YQ k n y q){X:Nat->Sg.S1}(e:vR (dv k n X) n y q k'):KH N d k':=by
 obtain⟨m,f,⟨rfl,rfl⟩|⟨_,e⟩⟩:=e
 .have f:Sg.ft ((dv k n X).p n).box 0 0:=f;unfold dv at f;rw[bG]at f;exact h.bx n (λ_ _ _=>f)
 .exact h.end hn n0 l yq.1 (yq.2 n0) e.box
theorem KH.DQ(h:KH N d k)(hn:n<20)(l:lv k n=bw)(yq:YQ k n y q){X:Nat->Sg.S1}(e:pg (dv k n X) n y q k'):KH N d k':=by
 have eh:hd (dv k n X) n=hd k n:=rfl;rcases e with⟨a,rfl⟩|⟨a,e⟩
 .rw[eh]at a;exact h.bx n (λ_ _ c=>aZ a c)
 .rw[eh]at a;exact h.Vv hn (λe0=>by subst e0;exact a h.ki.h0) l yq e
theorem KH.dK(h:KH N d k)(e:yr k z c on E k'):KH N d k':=by
 rcases e with⟨_,_,rfl⟩|⟨a,n,rfl,hn,_,⟨e,rfl⟩|⟨_,y,q,yq,e⟩⟩
 .exact h
 .unfold Sg.oM;rw[aI e];exact h.bx n (λ_ l hd=>h.ki.fi n hn l hd)
 .exact h.DQ hn (jS a) yq e
theorem KH.nP(h:KH N d k){o:Int}(e:yu k z c o E k'):KH N d k':=by
 rcases e with⟨_,_,rfl⟩|⟨a,n,rfl,hn,_,⟨e,rfl⟩|⟨_,y,q,yq,e⟩⟩
 .exact h
 .unfold Sg.mQ;rw[aI e];exact h.bx n (λ_ l hd=>h.ki.fi n hn l hd)
 .exact h.DQ hn (jS a) yq e
theorem xS{p:Int}(a:pY k z p c=0):fG k z p=0/\p≠1:=by
 unfold pY at a;by_cases c1:fG k z p=0
 .rw[aJ c1]at a;refine⟨c1,λc2=>?_⟩;by_cases c3:c<1\/8<c
  .rw[aJ c3]at a;omega
  .rw[aI c3,aJ c2]at a;omega
 .rw[aI c1]at a;exact aZ a c1
theorem KH.sig(h:KH N d k){p:Int}(e:rz k z p c k'):KH N d k':=by
 rcases e with⟨_,rfl⟩|⟨a,y,q,yq,e⟩
 .exact h
 .have s0:=xS a;exact h.Vv (wv (λz p=>h.ki.vi.iv.qb z p) z p) (h.ki.vi.Jv s0.1 s0.2) (wu s0.1) yq e
theorem KH.Wm(h:KH N d k){m:Nat}(e:Cl k z m E k'):KH N d k':=by
 rcases e with⟨_,_,_,rfl⟩|⟨_,n,j,rfl,hn,_,rfl,_⟩
 .exact h
 .exact h.bx n (λ_ l hd=>Pk j (h.ki.fi n hn l hd))
theorem KH.Wp(h:KH N d k){f:Int}{K:Nat}(e:vU k z f t K E k'):KH N d k':=by
 rcases e with⟨_,_,_,rfl⟩|⟨_,n,g,rfl,rfl,hn,hg,l,_,_,⟨_,rfl⟩|⟨_,y,q,e,o,p⟩⟩
 .exact h
 .exact h.zN _ _
 .exact(h.zN ((k.p n).fd g) t).DQ hn l ⟨o,λn0=>(p n0).2.2⟩ e
theorem KH.sc(h:KH N d k)(m:Wf.M):KH N d {k with sc:=m}:=
 h.iu ⟨⟨h.ki.vi.kj.lN m,h.ki.vi.iv,h.ki.vi.hs⟩,h.ki.fi,h.ki.pr,h.ki.h0⟩ rfl (λ_=>⟨rfl,rfl⟩)
theorem KH.sle(h:KH N d k)(e:Ib k z on v k'):KH N d k':=by
 obtain⟨_,m,_,⟨_,w⟩|rfl,rfl⟩:=e
 .exact h.sc _
 .exact h
theorem KH.mem(h:KH N d k)(hn:n<20)(l:lv k n=bw){m:Me}{b:Bk}(w:Mv.fX b 20 (Mv.kE (λn=>(k.p n).mem) n m)):KH N d (cY k n m b):=by
 have e:∀j,((cY k n m b).p j).st=(k.p j).st/\((cY k n m b).p j).par=(k.p j).par/\((cY k n m b).p j).box=(k.p j).box:=λj=>by
  by_cases c:j=n
  .subst c;rw[jj];exact⟨rfl,rfl,rfl⟩
  .rw[show(cY k n m b).p j=k.p j from bO _ _ _ _ c];exact⟨rfl,rfl,rfl⟩
 have lv':∀j,lv (cY k n m b) j=lv k j:=λj=>by unfold lv;rw[(e j).1]
 refine h.iu ⟨⟨h.ki.vi.kj.cY hn (h.ki.vi.kj.lv n hn (λx=>x) (dO.1 l)) w,h.ki.vi.iv,h.ki.vi.hs⟩,λj hj lj hd=>?_,λj hj j0 s=>?_,h.ki.h0⟩ rfl (λj=>⟨(e j).1,(e j).2.1⟩)
 .rw[(e j).2.2];rw[lv']at lj;exact h.ki.fi j hj lj hd
 .rw[(e j).1]at s;rw[(e j).2.1];exact h.ki.pr j hj j0 s
theorem KH.fr(h:KH N d k)(hn:n<20)(l:lv k n=bw){m:Me}(e:m.fr=(k.p n).mem.fr):KH N d (cY k n m k.bk):=
 h.mem hn l (h.ki.vi.kj.me.congr (λi _ x _=>by
  by_cases c:i=n
  .subst c;rw[Mv.gC,e]
  .rw[Mv.jz _ _ _ _ c]))
theorem KH.vF(h:KH N d k)(hn:n<20)(l:lv k n=bw)(a m:Int):KH N d (dj k n a m):=by
 unfold dj;by_cases c:Mv.oF a m=0
 .rw[aJ c];have w:Mv.fX (Mv.ml (k.p n).mem k.bk a m) 20 (Mv.kE (λn=>(k.p n).mem) n (Mv.jM (k.p n).mem a m)):=by
   unfold Mv.oF at c;unfold Mv.ml Mv.jM;cases hb:Mv.lu a m
   .obtain⟨x,j,rfl,rfl,hx,h1,h2⟩:=Mv.sE hb;rw[aI bE,aI bE,hU,hU];exact h.ki.vi.kj.me.Qy (i:=n) hn j h2
   .rw[hb,aJ rfl]at c;omega
  obtain⟨Wy,g⟩:=h.ki.vi.kj.gr;exact(h.mem hn l w).gr (aL _) ⟨Wy,oX g _ _ _⟩
 .rw[aI c];exact h
theorem KH.ld(h:KH N d k)(hn:n<20)(l:lv k n=bw)(e:xe a k n E k'):KH N d k':=by
 obtain⟨g,m,b,t,rfl⟩:=e;exact h.mem hn l (h.ki.vi.kj.me.Qs hn t).1
theorem KH.Wl(h:KH N d k)(hn:n<20)(l:lv k n=bw){u:Int}(e:yz a u k n E k'):KH N d k':=by
 obtain⟨g,m,b,t,rfl⟩:=e;have w:=(h.ki.vi.kj.me.Qs hn t).1;refine h.mem hn l ?_;split
 .exact w.bytes _
 .exact w
theorem KH.BU(hD:∀{M k n E k'},KH M d k->n<20->lv k n=bw->D k n E k'->KH M d k')(h:KH N d k)(e:lG a D k z v k'):KH (N+1) d k':=by
 have M:=h.more (Nat.le_succ N);obtain⟨E,_,⟨_,rfl⟩|⟨n,rfl,hn,l,⟨_,e⟩|⟨_,E1,k1,c,⟨_,_,rfl⟩|⟨rfl,k2,e,r⟩⟩⟩⟩:=e
 .exact M
 .exact hD M hn l e
 .exact h.PZ c
 .have l1:lv k1 n=bw:=by
   obtain⟨_,_,_,⟨q,_,_,_,_,rfl⟩|⟨q,_⟩⟩:=c
   .exact q
   .cases q
  have g:=hD (h.PZ c) hn l1 e;rcases r with⟨_,rfl⟩|⟨_,rfl⟩
  .exact g
  .obtain⟨Wy,t⟩:=g.ki.vi.kj.gr;exact g.gr (aL _) ⟨Wy,oX t _ _ _⟩
theorem KH.fg(h:KH N d k){G:Fo}(g:FG k G):KH N d {k with fo:=G}:=h.fx (aL _) g.2 h.ki.vi.kj.rf g.1
theorem KH.fo(h:KH N d k)(e:uB k v k'):KH N d k':=by obtain⟨_,G,_,g,rfl⟩:=e;exact h.fg g
theorem KH.tu(h:KH N d k)(e:rW k v k'):KH N d k':=by
 obtain⟨_,_,rfl|⟨y,T,F,y6,yt,g,rfl⟩⟩:=e
 .exact h
 .exact h.iu ⟨⟨h.ki.vi.kj.Wn y6 yt g,h.ki.vi.iv,h.ki.vi.hs⟩,h.ki.fi,h.ki.pr,h.ki.h0⟩ rfl (λ_=>⟨rfl,rfl⟩)
theorem KH.Wg(h:KH N d k)(u a:Int):KH N d {k with fi:=Fx.lC k.fi u a}:=by
 have j:=h.ki.vi.kj;unfold Fx.lC;split
 .rename_i c;have c1:Fx.dg k.fi u=0/\0<=a/\a<=40:=by
   unfold Fx.fG at c;by_cases e:Fx.dg k.fi u=0
   .rw[aI (λx=>x e)]at c;split at c
    .omega
    .split at c
     .omega
     .exact⟨e,bB,bB⟩
   .rw[aJ e]at c;exact aZ c e
  obtain⟨n,rfl,hn,r⟩:=Fx.iX c1.1;rw[hU];refine h.fx (aL _) (j.wx.kU hn r _ r rfl rfl (by show a.toNat<=40;omega)) (λm hm=>?_) j.ok;by_cases e:m=n
  .subst e;rw[Fx.bG];exact j.rf m hm
  .rw[Fx.bO _ _ _ _ e];exact j.rf m hm
 .exact h
theorem KH.dup(h:KH N d k)(e:Hw k v k'):KH (N+1) d k':=by
 obtain⟨_,_,_,rfl|⟨n,f,g,hn,_,_,_,_,_,rfl⟩⟩:=e
 .exact h.more (Nat.le_succ _)
 .have q:=Mg h.ki.vi.kj.wx ((k.p n).fd g);exact(h.fx (T:=Fx.iH k.fi ((k.p n).fd g)) (F:=k.fo) (S:=k.pi) (Nat.le_succ _) q.1 (λm hm=>by have:=q.2 m;have:=h.ki.vi.kj.rf m hm;omega) h.ki.vi.kj.ok).fd n f _
theorem KH.LH(h:KH N d k)(e:H7 k v k'):KH (N+1) d k':=by
 obtain⟨_,_,_,G,g,rfl|⟨n,f,K,z,wr,T,F,hn,_,_,_,t,rfl⟩⟩:=e
 .exact(h.fg g).more (Nat.le_succ _)
 .rcases t with⟨a,_,b,_⟩|⟨_,_,_,b,_⟩|⟨a,_,lo,_,rfl,rfl⟩
  .exact aZ b.symm a
  .cases b
  .obtain⟨m,rfl,m40,_⟩:=Tr.fB a;rw[hU];refine(h.fx (Nat.le_succ _) (g.2.node lo a) (λj hj=>?_) (g.1.dK _)).fd n f _;by_cases c:j=K
   .subst c;rw[Fx.bG];show 1<=_;omega
   .rw[Fx.bO _ _ _ _ c];have:=h.ki.vi.kj.rf j hj;omega
theorem KH.sh(h:KH N d k)(e:nv li N k k'):KH N d k':=by
 obtain⟨t,m,_,g,_,rfl⟩:=e;exact(h.gr (aL _) g).sc _
theorem KH.Qj(h:KH N d k){T:Nat}{G:Fo}(e:Tr.ry k.fo T E G):KH N d {k with fo:=G}:=by
 have j:=h.ki.vi.kj;refine h.fg ⟨j.ok.Qj e,?_⟩;rcases e with⟨_,_,_,rfl⟩|⟨_,n,e,hf,⟨_,_,_,rfl⟩|⟨e0,_,_,rfl⟩⟩
 .exact j.wx
 .exact j.wx
 .rcases hf with⟨_,n40,n0,_⟩|⟨q,_⟩
  .have z:=j.wx.z0 n n40 n0;have p:∀m,(Tr.AE k.fo n).nd m=if m=n then fq 2 k.fo.trees n else k.fo.nd m:=λm=>by
    by_cases c:m=n
    .subst c;rw[aJ rfl];exact Tr.bG _ _ _
    .rw[aI c];exact Tr.bO _ _ _ _ c
   refine j.wx.sH (λm _=>?_) (λm _ hm=>?_) (λm hm k0=>?_)
   .rw[p m];split
    .rename_i c;rw[c,z];rfl
    .rfl
   .rw[p m,aI (λc=>hm (by rw[c];exact z))]
   .rw[p m]at k0|-;split
    .rfl
    .rename_i c;rw[aI c]at k0;exact j.wx.z0 m hm k0
  .omega
theorem KH.cD(h:KH N d k)(n:Nat)(g:Int):KH N d (k.put n {k.p n with cD:=g}):=by
 have e:∀m,((k.put n {k.p n with cD:=g}).p m).st=(k.p m).st/\((k.put n {k.p n with cD:=g}).p m).par=(k.p m).par/\((k.put n {k.p n with cD:=g}).p m).box=(k.p m).box:=λm=>by
  by_cases c:m=n
  .subst c;rw[bG];exact⟨rfl,rfl,rfl⟩
  .rw[bO _ _ _ _ c];exact⟨rfl,rfl,rfl⟩
 have l:∀m,lv (k.put n {k.p n with cD:=g}) m=lv k m:=λm=>by unfold lv;rw[(e m).1]
 refine h.iu ⟨⟨h.ki.vi.kj.Ed rfl rfl rfl,h.ki.vi.iv,h.ki.vi.hs⟩,λm hm lm hm2=>?_,λm hm m0 s=>?_,h.ki.h0⟩ rfl (λm=>⟨(e m).1,(e m).2.1⟩)
 .rw[(e m).2.2];rw[l]at lm;exact h.ki.fi m hm lm hm2
 .rw[(e m).1]at s;rw[(e m).2.1];exact h.ki.pr m hm m0 s
theorem KH.V9(h:KH N d k){g:Int}(e:zV k z g v k'):KH (N+1) d k':=by
 obtain⟨_,_,rfl|⟨n,Wy,m,rfl,hn,l,w,e,_,rfl⟩⟩:=e
 .exact h.more (Nat.le_succ _)
 .obtain⟨Wz,t⟩:=h.ki.vi.kj.gr;have t1:Gr.Tree (Gr.lW k.gr Wy (k.p n).cD g 1 (Mv.cU (k.p n).mem 16:Int)) Wy (N+1):=by
   unfold Gr.lW;rw[aJ e];exact qC (oX (x9 t w) _ _ _) _ _ _ bB (by have:=YtpmmdkcfenjiaaaGreatDoor.qv (k.p n).mem 16;omega)
  exact((h.gr (Nat.le_succ _) ⟨Wy,t1⟩).sc _).cD n g
end
end Kn
namespace Kn
def kd(x:fU)(l:List UInt8):Prop:=(x.kind.toList==l)=bw
def wk:List (List UInt8):=[[102,111,114,107],[117,110,109,97,112],[108,111,97,100],[115,116,111,114,101],[108,105,109,105,116],[116,105,99,107]]
def NK(x:fU):Prop:=∀l∈wk,(x.kind.toList==l)=bA
theorem NK.of{x:fU}{l:List UInt8}(h:kd x l)(n:(wk.all λm=> !(l==m))=bw):NK x:=λm hm=>by
 rw[eq_of_beq h];simpa using List.all_eq_true.1 n m hm
def xg(N:Nat)(k:Kp)(x:fU)(k':Kp):Prop:=
 (kd x [101,120,105,116]/\ng k x.a x.b k')\/(∃p c E,rA k x.a p c E k')\/rz k x.a x.b x.c k'\/(∃E,yr k x.a x.b x.on E k')\/(∃E,yu k x.a x.b x.c E k')\/(∃m E,Cl k x.a m E k')\/
 (∃n m,n<20/\lv k n=bw/\m.fr=(k.p n).mem.fr/\k'=cY k n m k.bk)\/nv bA N k k'\/(∃v,zV k x.a x.b v k')\/(∃v,Ib k x.a x.on v k')\/k'=k
def td(N:Nat)(k:Kp)(x:fU)(a E:Int)(k':Kp):Prop:=
 (kd x [102,111,114,107]/\∃p:Nat,a=p/\qe k x.a x.on p E k')\/
 (kd x [117,110,109,97,112]/\((∃n:Nat,x.a=n/\n<20/\lv k n=bw/\E=sy k n x.b x.c/\k'=dj k n x.b x.c)\/0<E/\k'=k))\/
 (kd x [108,111,97,100]/\∃u,(a=u\/a=IntKind.i64.wrap u)/\lG x.b (xe x.b) k x.a (bN E) k'/\(E=0->u=yF k' x.a.toNat x.b.toNat))\/
 (kd x [115,116,111,114,101]/\lG x.b (yz x.b (IntKind.u8.wrap x.c)) k x.a (bN E) k')\/
 (kd x [108,105,109,105,116]/\nv bw N k k')\/
 (kd x [116,105,99,107]/\∃m,Wf.CK k.sc a m/\k'={k with sc:=m})\/
 (NK x/\xg N k x k')
def rV(k:Kp)(x:fU)(k':Kp):Prop:=
 (∃v,H7 k v k')\/k'=iZ k x.a x.b\/(∃v,Hw k v k')\/(∃A C E,tg k x.a A C E k')\/k'=ow k x.a x.b x.c\/(∃K E,vU k x.a x.b x.s K E k')\/(∃u,k'={k with fi:=Fx.lC k.fi u x.c})\/(∃v,uB k v k')\/(∃v,rW k v k')\/(∃T E G,Tr.ry k.fo T E G/\k'={k with fo:=G})\/k'=k
theorem td.ot{k k':Kp}{x:fU}(n:NK x)(h:xg N k x k'):td N k x a E k':= .inr (.inr (.inr (.inr (.inr (.inr ⟨n,h⟩)))))
section
variable {N:Nat}{d:Nat->Nat}{k k':Kp}{x:fU}
theorem KH.ot(h:KH N d k)(e:xg N k x k'):KH (N+2) d k':=by
 have up:∀{M},KH M d k'->M<=N+2->KH (N+2) d k':=λg l=>g.more l;rcases e with⟨_,e⟩|⟨_,_,_,e⟩|e|⟨_,e⟩|⟨_,e⟩|⟨_,_,e⟩|⟨n,m,hn,l,e,rfl⟩|e|⟨_,e⟩|⟨_,e⟩|rfl
 .exact up (h.exit e) bB
 .exact up (h.wait e) bB
 .exact up (h.sig e) bB
 .exact up (h.dK e) bB
 .exact up (h.nP e) bB
 .exact up (h.Wm e) bB
 .exact up (h.fr hn l e) bB
 .exact up (h.sh e) bB
 .exact up (h.V9 e) bB
 .exact up (h.sle e) bB
 .exact up h bB
theorem KH.ac(h:KH N d k)(e:td N k x a E k'):∃d',KH (N+2) d' k':=by
 have up:∀{M},KH M d k'->M<=N+2->∃d',KH (N+2) d' k':=λg l=>⟨d,g.more l⟩;rcases e with⟨_,_,_,e⟩|⟨_,⟨n,_,hn,l,_,rfl⟩|⟨_,rfl⟩⟩|⟨_,_,_,e,_⟩|⟨_,e⟩|⟨_,e⟩|⟨_,_,_,rfl⟩|⟨_,e⟩
 .exact h.fork e
 .exact up (h.vF hn l _ _) bB
 .exact up h bB
 .exact up (h.BU (λg hn l e=>g.ld hn l e) e) bB
 .exact up (h.BU (λg hn l e=>g.Wl hn l e) e) bB
 .exact up (h.sh e) bB
 .exact up (h.sc _) bB
 .exact⟨d,h.ot e⟩
theorem KH.di(h:KH N d k)(e:rV k x k'):∃d',KH (N+2) d' k':=by
 have up:∀{M},KH M d k'->M<=N+2->∃d',KH (N+2) d' k':=λg l=>⟨d,g.more l⟩;rcases e with⟨_,e⟩|rfl|⟨_,e⟩|⟨_,_,_,e⟩|rfl|⟨_,_,e⟩|⟨u,rfl⟩|⟨_,e⟩|⟨_,e⟩|⟨_,_,_,e,rfl⟩|rfl
 .exact up (h.LH e) bB
 .exact up (h.xG _ _) bB
 .exact up (h.dup e) bB
 .exact up (h.Uf e) bB
 .exact up (h.Ul _ _ _) bB
 .exact up (h.Wp e) bB
 .exact up (h.Wg _ _) bB
 .exact up (h.fo e) bB
 .exact up (h.tu e) bB
 .exact up (h.Qj e) bB
 .exact up h bB
end
end Kn
namespace Gr
end Gr
namespace Kn
structure SC (k k':Kp):Prop where
 sp:k'.sp=k.sp
 gr:k'.gr=k.gr
 bk:k'.bk=k.bk
 sc:k'.sc=k.sc
 p:∀m,(k'.p m).st=(k.p m).st/\(k'.p m).par=(k.p m).par/\(k'.p m).cD=(k.p m).cD/\(k'.p m).mem=(k.p m).mem
section
variable {N n y q:Nat}{d:Nat->Nat}{k k' k1 k2:Kp}{x:fU}
theorem SC.pl(a:k'.sp=k.sp)(b:k'.gr=k.gr)(c:k'.bk=k.bk)(e:k'.sc=k.sc)(f:k'.p=k.p):SC k k':=⟨a,b,c,e,λm=>by rw[f];exact⟨rfl,rfl,rfl,rfl⟩⟩
theorem SC.refl(k:Kp):SC k k:=SC.pl rfl rfl rfl rfl rfl
theorem SC.trans(h:SC k k1)(g:SC k1 k2):SC k k2:=⟨g.sp.trans h.sp,g.gr.trans h.gr,g.bk.trans h.bk,g.sc.trans h.sc,λm=>⟨(g.p m).1.trans (h.p m).1,(g.p m).2.1.trans (h.p m).2.1,(g.p m).2.2.1.trans (h.p m).2.2.1,(g.p m).2.2.2.trans (h.p m).2.2.2⟩⟩
theorem SC.put(k:Kp)(n:Nat){x:Pr}(e:x.st=(k.p n).st/\x.par=(k.p n).par/\x.cD=(k.p n).cD/\x.mem=(k.p n).mem):SC k (k.put n x):=⟨rfl,rfl,rfl,rfl,λm=>by
 by_cases c:m=n
 .subst c;rw[bG];exact e
 .rw[bO _ _ _ _ c];exact⟨rfl,rfl,rfl,rfl⟩⟩
theorem SC.fd(k:Kp)(n f:Nat)(v:Int):SC k (eJ k n f v):=SC.put k n ⟨rfl,rfl,rfl,rfl⟩
theorem SC.box(k:Kp)(n:Nat)(X:Nat->Sg.S1):SC k (dv k n X):=SC.put k n ⟨rfl,rfl,rfl,rfl⟩
def Gn(k:Kp)(n:Nat)(k':Kp):Prop:=∃(c:Int) (y q:Nat),n<20/\n≠0/\lv k n=bw/\k.sp.of n=y+1/\(k.p n).par=(q:Int)/\kL k n c y q k'
def Vn(k:Kp)(n:Nat)(k':Kp):Prop:=∃m:Nat,m<20/\m≠0/\(k.p m).par=(n:Int)/\(k.p m).st=2/\jd 6 k m k'
theorem KH.ON(h:KH N d k)(hn:n<20)(l:lv k n=bw)(yq:YQ k n y q){X:Nat->Sg.S1}(e:pg (dv k n X) n y q k'):SC k k'\/hd k n≠n/\Gn k n k':=by
 rcases e with⟨_,rfl⟩|⟨a,m,_,⟨_,rfl⟩|⟨_,e⟩⟩
 .exact .inl (SC.box k n X)
 .exact .inl (SC.box k n X)
 .have a:hd k n≠n:=a;have n0:n≠0:=λe0=>by subst e0;exact a h.ki.h0
  exact .inr ⟨a,_,y,q,hn,n0,l,yq.1,yq.2 n0,e.box⟩
theorem rV.cl(h:KH N d k)(e:rV k x k'):SC k k'\/∃(n:Nat) (k1:Kp),x.a=n/\SC k k1/\KH N d k1/\hd k n≠n/\Gn k1 n k':=by
 rcases e with⟨_,_,_,_,G,_,rfl|⟨n,f,K,z,wr,T,F,_,_,_,_,_,rfl⟩⟩|rfl|⟨_,_,_,_,rfl|⟨n,f,g,_,_,_,_,_,_,rfl⟩⟩|⟨A,C,E,e⟩|rfl|⟨K,E,e⟩|⟨u,rfl⟩|⟨_,_,_,_,_,rfl⟩|⟨_,_,_,rfl|⟨y,T,F,_,_,_,rfl⟩⟩|⟨_,_,_,_,rfl⟩|rfl
 .exact .inl (SC.pl rfl rfl rfl rfl rfl)
 .exact .inl ((SC.pl (k:=k) (k':=iL k T F k.pi) rfl rfl rfl rfl rfl).trans (SC.fd _ _ _ _))
 .unfold iZ;split
  .exact .inl ((SC.fd k x.a.toNat x.b.toNat (-1)).trans (SC.pl rfl rfl rfl rfl rfl))
  .exact .inl (SC.refl _)
 .exact .inl (SC.refl _)
 .exact .inl ((SC.fd k n f ((k.p n).fd g)).trans (SC.pl rfl rfl rfl rfl rfl))
 .rcases e with⟨_,_,_,_,rfl⟩|⟨_,n,_,_,⟨_,_,_,_,rfl⟩|⟨_,a,c,T,S,_,⟨_,_,_,rfl⟩|⟨_,_,_,rfl⟩⟩⟩
  .exact .inl (SC.refl _)
  .exact .inl (SC.refl _)
  .exact .inl (SC.pl rfl rfl rfl rfl rfl)
  .exact .inl ((SC.pl (k:=k) (k':=iL k T k.fo S) rfl rfl rfl rfl rfl).trans ((SC.fd _ _ _ _).trans (SC.fd _ _ _ _)))
 .unfold ow;split
  .exact .inl (SC.pl rfl rfl rfl rfl rfl)
  .exact .inl (SC.refl _)
 .rcases e with⟨_,_,_,rfl⟩|⟨_,n,g,xa,_,hn,_,l,_,_,⟨_,rfl⟩|⟨_,y,q,e,o,p⟩⟩
  .exact .inl (SC.refl _)
  .exact .inl (SC.pl rfl rfl rfl rfl rfl)
  .have s1:SC k (rm k ((k.p n).fd g) x.s):=SC.pl rfl rfl rfl rfl rfl;have kh:=h.zN ((k.p n).fd g) x.s;rcases kh.ON hn l ⟨o,λn0=>(p n0).2.2⟩ e with e|⟨a,e⟩
   .exact .inl (s1.trans e)
   .exact .inr ⟨n,_,xa,s1,kh,a,e⟩
 .exact .inl (SC.pl rfl rfl rfl rfl rfl)
 .exact .inl (SC.pl rfl rfl rfl rfl rfl)
 .exact .inl (SC.refl _)
 .exact .inl (SC.pl rfl rfl rfl rfl rfl)
 .exact .inl (SC.pl rfl rfl rfl rfl rfl)
 .exact .inl (SC.refl _)
def V5(k:Kp)(x:fU)(n:Nat):Prop:=x.a=(n:Int)/\(kd x [101,120,105,116]\/hd k n≠n)\/fG k x.a x.b=0/\x.b≠1/\n=j8 k x.a x.b
theorem xg.cl(h:KH N d k)(e:xg N k x k'):SC k k'\/(∃n,Gn k n k'/\V5 k x n)\/(∃n:Nat,x.a=n/\Vn k n k')\/(∃n m,n<20/\lv k n=bw/\m.fr=(k.p n).mem.fr/\k'=cY k n m k.bk)\/nv bA N k k'\/(∃v,zV k x.a x.b v k')\/(∃m,SG k m/\k'={k with sc:=m}):=by
 rcases e with⟨t,e⟩|⟨_,_,_,e⟩|e|⟨_,e⟩|⟨_,e⟩|⟨_,_,e⟩|e|e|e|⟨_,e⟩|rfl
 .rcases e with⟨_,rfl⟩|⟨_,n,y,q,xa,hn,n0,l,oy,_,_,hp,et⟩
  .exact .inl (SC.refl _)
  .exact .inr (.inl ⟨n,⟨_,y,q,hn,n0,l,oy,hp,et⟩, .inl ⟨xa, .inl t⟩⟩)
 .rcases e with⟨_,_,_,_,rfl⟩|⟨a,n,xa,hn,⟨_,_,_,_,rfl⟩|⟨_,_,_,_,_,rfl⟩|⟨_,i,m,hi,lm,_,_,_,v⟩⟩
  .exact .inl (SC.refl _)
  .exact .inl (SC.refl _)
  .exact .inl (SC.refl _)
  .rw[xa]at a;obtain⟨m20,m0,mp,ms,_,_⟩:=h.Ir hn (jS a) (bK hi);have m2:(k.p m).st=2:=by
    have:=h.ki.vi.kj.st m m20;have:(k.p m).st≠1:=λe=>by rw[dO.2 e]at lm;cases lm
    omega
   exact .inr (.inr (.inl ⟨n,xa,m,m20,m0,mp,m2,v⟩))
 .rcases e with⟨_,rfl⟩|⟨a,y,q,yq,m,_,⟨_,rfl⟩|⟨_,e⟩⟩
  .exact .inl (SC.refl _)
  .exact .inl (SC.box _ _ _)
  .have s0:=xS a;have n0:=h.ki.vi.Jv s0.1 s0.2;exact .inr (.inl ⟨_,⟨_,y,q,wv (λz p=>h.ki.vi.iv.qb z p) x.a x.b,n0,wu s0.1,yq.1,yq.2 n0,e.box⟩, .inr ⟨s0.1,s0.2,rfl⟩⟩)
 .rcases e with⟨_,_,rfl⟩|⟨a,n,xa,hn,_,⟨_,rfl⟩|⟨_,y,q,yq,e⟩⟩
  .exact .inl (SC.refl _)
  .exact .inl (SC.box _ _ _)
  .rw[xa]at a;exact(h.ON hn (jS a) yq e).imp id (λe=> .inl ⟨n,e.2, .inl ⟨xa, .inr e.1⟩⟩)
 .rcases e with⟨_,_,rfl⟩|⟨a,n,xa,hn,_,⟨_,rfl⟩|⟨_,y,q,yq,e⟩⟩
  .exact .inl (SC.refl _)
  .exact .inl (SC.box _ _ _)
  .rw[xa]at a;exact(h.ON hn (jS a) yq e).imp id (λe=> .inl ⟨n,e.2, .inl ⟨xa, .inr e.1⟩⟩)
 .rcases e with⟨_,_,_,rfl⟩|⟨_,n,j,_,_,_,rfl,_⟩
  .exact .inl (SC.refl _)
  .exact .inl (SC.put k n ⟨rfl,rfl,rfl,rfl⟩)
 .exact .inr (.inr (.inr (.inl e)))
 .exact .inr (.inr (.inr (.inr (.inl e))))
 .exact .inr (.inr (.inr (.inr (.inr (.inl e)))))
 .obtain⟨_,m,_,⟨_,w⟩|rfl,rfl⟩:=e
  .refine .inr (.inr (.inr (.inr (.inr (.inr ⟨m,?_,rfl⟩)))));rw[show m=Wf.wH k.sc x.a (!x.on)from w];exact λ_ h=>h
  .exact .inl (SC.refl _)
 .exact .inl (SC.refl _)
structure FK (k:Kp)(n c:Nat)(k':Kp):Prop where
 hn:n<20
 ln:lv k n=bw
 ko:c<20
 c0:(k.p c).st=0
 lo:∀m,m<c->(k.p m).st≠0
 ot:∀m,m≠c->k'.p m=k.p m
 me:k'.p c=dU k n
 of:∀m,m≠c->k'.sp.of m=k.sp.of m
 kp:∀s p,s<6->k.sp.cr s p≠0->k'.sp.cr s p=k.sp.cr s p
 bk:k'.bk=Mv.dZ (k.p n).mem k.bk 16
theorem FK.Vw{c z:Nat}{d2:Nat->Nat}{m':Wf.M}(iv:Sp.Inv k2.sp d2)(ep:k2.p=k.p)(eo:k2.sp.of=k.sp.of)(ew:k2.sp.cr=k.sp.cr)(eb:k2.bk=k.bk)(hn:n<20)(l:lv k n=bw)(hc:c<20)(c0:(k.p c).st=0)(lo:∀m,m<c->(k.p m).st≠0)(o0:k.sp.of c=0)(z6:z<6)(zh:k2.sp.here z=bw):FK k n c (iR (dy k2 n) c (dU k2 n) (z:Int) m'):=by
 obtain⟨T,eT⟩:=jX {k2 with bk:=Mv.dZ (k2.p n).mem k2.bk 16} (k2.p n).fd 6;have cop:dy k2 n={k2 with bk:=Mv.dZ (k2.p n).mem k2.bk 16,fi:=T}:=eT;have o2:k2.sp.of c=0:=by rw[eo];exact o0
 have esp:(iR (dy k2 n) c (dU k2 n) (z:Int) m').sp=Sp.fM k2.sp (z:Int) (c:Int):=by rw[cop];rfl
 refine⟨hn,l,hc,c0,lo,λm q=>?_,?_,λm q=>?_,λs p hs hw=>?_,?_⟩
 .rw[cop];exact(bO _ _ _ _ q).trans (by show k2.p m=k.p m;rw[ep])
 .refine(bG _ _ _).trans ?_;unfold dU;rw[ep]
 .rw[esp,Sp.qG z6 zh hc o2,aI q,eo]
 .rw[esp,Sp.tK iv z6 zh hc o2 hs (by rw[ew];exact hw),ew]
 .rw[cop];show Mv.dZ (k2.p n).mem k2.bk 16=_;rw[ep,eb]
theorem Kg(k:Kp)(n:Nat):(dy k n).gr=k.gr:=by
 obtain⟨T,eT⟩:=jX {k with bk:=Mv.dZ (k.p n).mem k.bk 16} (k.p n).fd 6;rw[show dy k n={k with bk:=Mv.dZ (k.p n).mem k.bk 16,fi:=T}from eT]
theorem Oj(k:Kp)(Wy:Nat->List (Fin 10))(n:Nat)(own:Bool):(fj (dc k Wy n) n own).sp=(fj k n own).sp:=by
 unfold fj;by_cases c:own=bw/\jO k n own=0
 .rw[aJ c,aJ (show own=bw/\jO (dc k Wy n) n own=0 from c)];rfl
 .rw[aI c,aI (show¬(own=bw/\jO (dc k Wy n) n own=0)from c)];rfl
theorem qe.cl(h:KH N d k){z:Int}{p:Nat}(f:qe k z own p E k'):(E≠0/\(k'=k\/∃(Wy:Nat->List (Fin 10)) (n:Nat),Gr.eW k.gr Wy/\qB k Wy n=0/\k'={dc k Wy n with gr:=Gr.dD (dc k Wy n).gr (k.p n).cD 1 (Mv.cU (k.p n).mem 16:Int)}))\/(E=0/\∃(n c:Nat) (Wy:Nat->List (Fin 10)),z=n/\FK k n c k'/\Gr.eW k.gr Wy/\qB k Wy n=0/\k'.gr=(dc k Wy n).gr/\k'.sc=Wf.wH (Wf.ec k.sc (c:Int) (k.p n).cD) (c:Int) bw/\k'.sp=Sp.fM (fj k n own).sp (nC k n own:Int) (c:Int)/\p=Sp.pX k'.sp (c:Int) (Sp.dQ k'.sp (n:Int):Nat)):=by
 rcases f with⟨a,e,_,rfl⟩|⟨a,n,c,F,Wy,rfl,hn,fr,ways,f⟩
 .exact .inl ⟨by rw[e];exact a, .inl rfl⟩
 .have l:Kn.lv k n=bw:=jS a;rcases f with⟨q,e,_,rfl⟩|⟨_,q,e,_,rfl⟩|⟨_,ch,q,e,_,rfl⟩|⟨f0,ch,hm,e,m',wk,ek,ep⟩
  .exact .inl ⟨by rw[e];exact q, .inl rfl⟩
  .exact .inl ⟨by rw[e];exact q, .inl rfl⟩
  .exact .inl ⟨by rw[e];exact q, .inr ⟨Wy,n,ways,ch,rfl⟩⟩
  .have ko:c<20/\(k.p c).st=0/\∀m,m<c->(k.p m).st≠0:=by
    rcases fr with q|q
    .exact q.2
    .omega
   have o0:k.sp.of c=0:=by
    by_cases e:k.sp.of c=0
    .exact e
    .exact aZ ko.2.1 ((h.ki.vi.kj.of c ko.1).1 e)
   obtain⟨y,oy⟩:=h.of hn (by rw[dO.1 l];omega);have y6:=(h.ki.vi.iv.dh hn oy).2;have iz:Sp.dQ (dc k Wy n).sp (n:Int)=y:=Sp.iD hn oy;have wk:m'=Wf.wH (Wf.ec (fj (dc k Wy n) n own).sc (c:Int) (k.p n).cD) (c:Int) bw:=wk;rw[(Ds (dc k Wy n) n own).2.2.2]at wk;have key:FK k n c k'/\k'.gr=(dc k Wy n).gr/\k'.sc=m':=by
    cases own
    .have en:nC (dc k Wy n) n bA=y:=iz;rw[(Am (dc k Wy n) n).1,en]at ek;rw[ek];refine⟨FK.Vw (k2:=dc k Wy n) h.ki.vi.iv rfl rfl rfl rfl hn l ko.1 ko.2.1 ko.2.2 o0 y6.1 y6.2,?_,rfl⟩;exact Kg _ _
    .have ea:Sp.je (dc k Wy n).sp (y:Int)=0:=by unfold jO at hm;rw[aJ rfl,iz]at hm;exact hm
     obtain⟨z',ez,z6,zh,wl,f6,fh,fl⟩:=Sp.pD ea;obtain⟨e1,e2,_⟩:=xy iz ea rfl;have es:=Sp.add_eq ea;rw[e1,e2]at ek;rw[ek];have kj2:=h.ki.vi.kj.LH (show Sp.je k.sp (y:Int)=0 from ea) rfl;obtain⟨d2,iv2⟩:=kj2.sp;refine⟨FK.Vw (k2:=Ay (dc k Wy n) y (Sp.fK (dc k Wy n).sp)) iv2 rfl ?_ ?_ rfl hn l ko.1 ko.2.1 ko.2.2 o0 f6 ?_,?_,rfl⟩
     .show(Sp.fZ (dc k Wy n).sp (y:Int)).of=_;rw[es];rfl
     .show(Sp.fZ (dc k Wy n).sp (y:Int)).cr=_;rw[es];rfl
     .show(Sp.fZ (dc k Wy n).sp (y:Int)).here _=bw;rw[es];exact aJ rfl
     .exact Kg _ _
   refine .inr ⟨e,n,c,Wy,rfl,key.1,ways,ch,key.2.1,key.2.2.trans wk,?_,ep⟩;rw[ek];show Sp.fM (dy (fj (dc k Wy n) n own) n).sp _ _=_;rw[(qF _ n).1,Oj];rfl
end
end Kn
namespace Mv
theorem AF{m m':Me}:∀j,(∀x,x<j->m'.fr x=m.fr x)->cU m' j=cU m j
 |0,_=>rfl
 |j+1,h=>by
  show cU m' j+(if m'.fr j=0 then 0 else 1)=cU m j+(if m.fr j=0 then 0 else 1);rw[AF j (λx hx=>h x bB),h j bB]
theorem xL{m m':Me}{x:Nat}(e:∀y,y≠x->m'.fr y=m.fr y):∀J,cU m' J+(if x<J/\m.fr x≠0 then 1 else 0)=cU m J+if x<J/\m'.fr x≠0 then 1 else 0
 |0=>by rw[aI (λc=>bB),aI (λc=>bB)];rfl
 |J+1=>by
  have ih:=xL e J;show cU m' J+(if m'.fr J=0 then 0 else 1)+_=cU m J+(if m.fr J=0 then 0 else 1)+_;by_cases c:J=x
  .subst c;rw[aI (λc=>bB),aI (λc=>bB)]at ih;by_cases a:m'.fr J=0<;>by_cases b:m.fr J=0<;>simp[a,b]<;>omega
  .have l:x<J+1↔x<J:=⟨λ_=>bB,λ_=>bB⟩;rw[e J c];simp only[l];omega
theorem Hg(m:Me)(a:Nat):∀n,a+n<=16->cU (iN m a (a+n)) 16+mN m a n=cU m 16
 |0,_=>by
  rw[show mN m a 0=0 from rfl,Nat.add_zero];exact AF 16 (λx _=>by show(if a<=x/\x<a+0 then 0 else m.fr x)=m.fr x;exact aI (λc=>bB))
 |n+1,h=>by
  have ih:=Hg m a n bB;have s:=xL (m:=iN m a (a+n)) (m':=iN m a (a+(n+1))) (x:=a+n) (λy hy=>by
   show(if a<=y/\y<a+(n+1)then 0 else m.fr y)=if a<=y/\y<a+n then 0 else m.fr y;grind) 16
  have e1:(iN m a (a+n)).fr (a+n)=m.fr (a+n):=aI (λc=>bB);have e2:(iN m a (a+(n+1))).fr (a+n)=0:=aJ ⟨by omega,bB⟩;rw[e1,e2]at s;have z:(if a+n<16/\(0:Nat)≠0 then 1 else 0)=0:=aI (λc=>c.2 rfl);rw[z]at s;show cU (iN m a (a+(n+1))) 16+(mN m a n+if m.fr (a+n)=0 then 0 else 1)=_;by_cases c:m.fr (a+n)=0
  .rw[aI (λx=>x.2 c)]at s;rw[aJ c];omega
  .rw[aJ ⟨by omega,c⟩]at s;rw[aI c];omega
theorem mO.res{m m':Me}{k k':Bk}{z:Int}{wr:Bool}(t:mO m k z wr E g m' k'):cU m' 16=cU m 16+if E=0/\kZ m z=bw then 1 else 0:=by
 have mw:∀{wr},j5 m z wr=bw->j5 m z bA=bw/\z.toNat/8<16:=λ{wr} h=>by
  unfold j5 at h|-;split at h
  .cases h
  .rename_i c;refine⟨?_,bB⟩;rw[aI c];revert h;cases decide (m.is (z.toNat/8)=2)<;>cases decide (m.is (z.toNat/8)=1)<;>simp
 rcases t with⟨_,rfl,_,rfl,_⟩|⟨a,b,_,_,_,rfl,_⟩|⟨a,b,_,_,⟨e,rfl,_⟩|⟨e,rfl,_⟩⟩
 .rw[aI (λx=>by have:=x.1;omega)];rfl
 .rw[aI (λx=>by have:=x.2;unfold kZ at this;simp[b]at this)];rfl
 .rw[aI (λx=>e x.1)];rfl
 .have w:=mw a;have s:=xL (m:=m) (m':={m with fr:=jk m.fr (z.toNat/8) (g+1)}) (x:=z.toNat/8) (λy hy=>by show jk _ _ _ y=_;unfold jk;exact aI hy) 16;have e2:jk m.fr (z.toNat/8) (g+1) (z.toNat/8)=g+1:=by simp[jk]
  rw[show({m with fr:=jk m.fr (z.toNat/8) (g+1)}:Me).fr (z.toNat/8)=g+1 from e2]at s;unfold kZ;rw[w.1];by_cases c:m.fr (z.toNat/8)=0
  .rw[aI (λx=>x.2 c),aJ ⟨w.2,bB⟩]at s;rw[aJ ⟨e,by simp[c]⟩];omega
  .rw[aJ ⟨w.2,c⟩,aJ ⟨w.2,bB⟩]at s;rw[aI (λx=>by simp[c]at x)];omega
end Mv
namespace Kn
def cp(x:Pr)(g:Nat):Int:=if x.st≠0/\x.cD=(g:Int)then 1 else 0
def cq(x:Pr)(g:Nat):Int:=if x.st≠0/\x.cD=(g:Int)then(Mv.cU x.mem 16:Int)else 0
def sm(f:Nat->Int):Nat->Int
 |0=>0
 |M+1=>sm f M+f M
theorem tX{f f':Nat->Int}:∀M,(∀m,m<M->f' m=f m)->sm f' M=sm f M
 |0,_=>rfl
 |M+1,h=>by show sm f' M+f' M=sm f M+f M;rw[tX M (λm hm=>h m bB),h M bB]
theorem Ey{f f':Nat->Int}{n:Nat}:∀M,(∀m,m<M->m≠n->f' m=f m)->n<M->sm f' M=sm f M+f' n-f n
 |0,_,h=>aZ h bB
 |M+1,h,hn=>by
  show sm f' M+f' M=sm f M+f M+f' n-f n;by_cases c:M=n
  .subst c;rw[tX M (λm hm=>h m bB bB)];omega
  .rw[Ey M (λm hm=>h m bB) bB,h M bB c];omega
theorem tY{f:Nat->Int}(h:∀m,0<=f m){n:Nat}:∀M,0<=sm f M/\(n<M->f n<=sm f M)
 |0=>⟨Int.le_refl 0,λc=>aZ c bB⟩
 |M+1=>by
  have ih:=tY h (n:=n) M;have:=h M;refine⟨by show 0<=sm f M+f M;omega,λhn=>?_⟩;show f n<=sm f M+f M;by_cases c:M=n
  .subst c;omega
  .have:=ih.2 bB;omega
theorem Cr(x:Pr)(g:Nat):0<=cp x g:=by unfold cp;split<;>omega
theorem P3(x:Pr)(g:Nat):0<=cq x g:=by unfold cq;split<;>omega
structure CG (k:Kp):Prop where
 op:∀g,g<10->(k.gr g).op=sm (λm=>cp (k.p m) g) 20
 oq:∀g,g<10->(k.gr g).oq=sm (λm=>cq (k.p m) g) 20
 th:∀m,m<20->(k.p m).st≠0->∃g:Nat,(k.p m).cD=g/\g<10/\(k.gr g).there=bw
section
variable {N n z:Nat}{d:Nat->Nat}{X:Nat->Prop}{k k' k1:Kp}{x:fU}
theorem CG.iu(h:CG k)(g:∀i,i<10->(k'.gr i).there=(k.gr i).there/\(k'.gr i).op=(k.gr i).op/\(k'.gr i).oq=(k.gr i).oq)(p:∀m,m<20->((k'.p m).st=0↔(k.p m).st=0)/\(k'.p m).cD=(k.p m).cD/\Mv.cU (k'.p m).mem 16=Mv.cU (k.p m).mem 16):CG k':=by
 refine⟨λi hi=>?_,λi hi=>?_,λm hm s=>?_⟩
 .rw[(g i hi).2.1,h.op i hi];exact tX 20 (λm hm=>by simp only[cp,ne_eq,(p m hm).1,(p m hm).2.1])
 .rw[(g i hi).2.2,h.oq i hi];exact tX 20 (λm hm=>by simp only[cq,ne_eq,(p m hm).1,(p m hm).2.1,(p m hm).2.2])
 .rw[(p m hm).2.1];obtain⟨i,a,b,e⟩:=h.th m hm (λc=>s ((p m hm).1.2 c));exact⟨i,a,b,by rw[(g i b).1];exact e⟩
theorem CG.same(h:CG k)(g:k'.gr=k.gr)(p:∀m,m<20->(k'.p m).st=(k.p m).st/\(k'.p m).cD=(k.p m).cD/\Mv.cU (k'.p m).mem 16=Mv.cU (k.p m).mem 16):CG k':=h.iu (λ_ _=>by rw[g];exact⟨rfl,rfl,rfl⟩) (λm hm=>⟨by rw[(p m hm).1],(p m hm).2⟩)
theorem CG.sc(h:CG k)(s:SC k k'):CG k':=h.same s.gr (λm _=>⟨(s.p m).1,(s.p m).2.2.1,by rw[(s.p m).2.2.2]⟩)
theorem CG.one(h:CG k)(hn:n<20)(ot:∀m,m<20->m≠n->k'.p m=k.p m)(g:∀i,i<10->(k'.gr i).there=(k.gr i).there/\(k'.gr i).op=(k.gr i).op+cp (k'.p n) i-cp (k.p n) i/\(k'.gr i).oq=(k.gr i).oq+cq (k'.p n) i-cq (k.p n) i)(th:(k'.p n).st≠0->∃i:Nat,(k'.p n).cD=i/\i<10/\(k.gr i).there=bw):CG k':=by
 refine⟨λi hi=>?_,λi hi=>?_,λm hm s=>?_⟩
 .rw[(g i hi).2.1,h.op i hi];exact(Ey (f:=λm=>cp (k.p m) i) (f':=λm=>cp (k'.p m) i) 20 (λm hm c=>by rw[ot m hm c]) hn).symm
 .rw[(g i hi).2.2,h.oq i hi];exact(Ey (f:=λm=>cq (k.p m) i) (f':=λm=>cq (k'.p m) i) 20 (λm hm c=>by rw[ot m hm c]) hn).symm
 .by_cases c:m=n
  .subst c;obtain⟨i,a,b,e⟩:=th s;exact⟨i,a,b,by rw[(g i b).1];exact e⟩
  .rw[ot m hm c]at s|-;obtain⟨i,a,b,e⟩:=h.th m hm s;exact⟨i,a,b,by rw[(g i b).1];exact e⟩
theorem nE(t:Nat->Gr.Gp)(g:Nat)(p q:Int)(i:Nat):(Gr.gq t g p q i).there=(t i).there/\(Gr.gq t g p q i).op=(t i).op+(if i=g then p else 0)/\(Gr.gq t g p q i).oq=(t i).oq+(if i=g then q else 0):=by
 unfold Gr.gq;by_cases c:i=g
 .subst c;rw[Gr.eF,aJ rfl,aJ rfl];exact⟨rfl,rfl,rfl⟩
 .rw[Gr.fa _ _ _ _ c,aI c,aI c];exact⟨rfl,bB,bB⟩
theorem CG.Qx(h:CG k)(hn:n<20)(s:(k.p n).st≠0){p:Int}(hp:0<=p/\p<=1)(hq:0<=q/\q<=(Mv.cU (k.p n).mem 16:Int)):∃g:Nat,(k.p n).cD=g/\g<10/\(k.gr g).there=bw/\Gr.gm k.gr (k.p n).cD p q=0/\Gr.dD k.gr (k.p n).cD p q=Gr.gq k.gr g (-p) (-q):=by
 obtain⟨g,e,g10,th⟩:=h.th n hn s;have a:=(tY (λm=>Cr (k.p m) g) (n:=n) 20).2 hn;have b:=(tY (λm=>P3 (k.p m) g) (n:=n) 20).2 hn;rw[<-h.op g g10,show cp (k.p n) g=1 from aJ ⟨s,e⟩]at a;rw[<-h.oq g g10,show cq (k.p n) g=_ from aJ ⟨s,e⟩]at b;have u:Gr.gm k.gr (k.p n).cD p q=0:=by
  have re:Gr.eQ k.gr (k.p n).cD p q=0:=by
   have w:Gr.wr k.gr (g:Int)=0:=by unfold Gr.wr;rw[nK];exact aJ th
   unfold Gr.eQ;rw[e,w,aJ rfl,aJ];unfold Gr.jq;apply aO;have:=YtpmmdkcfenjiaaaGreatDoor.qv (k.p n).mem 16;omega
  unfold Gr.gm;rw[aJ re,e,hU,aJ ⟨by omega,bB⟩]
 refine⟨g,e,g10,th,u,?_⟩;unfold Gr.dD;rw[aJ u,e,hU]
theorem wE(m:Me){n:Int}(h:Mv.oF a n=0):Mv.cU (Mv.jM m a n) 16+Mv.qa m a n=Mv.cU m 16:=by
 unfold Mv.oF at h;unfold Mv.jM Mv.qa;cases hb:Mv.lu a n
 .obtain⟨x,j,rfl,rfl,hx,h1,h2⟩:=Mv.sE hb;rw[aI bE,aI bE,hU,hU];exact Mv.Hg m x j h2
 .rw[hb,aJ rfl]at h;omega
theorem CG.vF(h:CG k)(hn:n<20)(s:(k.p n).st≠0)(a m:Int):CG (dj k n a m):=by
 unfold dj;split
 .rename_i e;have r:=wE (k.p n).mem e;obtain⟨g,eg,g10,th,_,ut⟩:=h.Qx hn s (p:=0) (q:=(Mv.qa (k.p n).mem a m:Int)) bB bB;rw[ut];refine h.one (n:=n) hn (λj _ c=>bO _ _ _ _ c) (λi _=>?_) (λ_=>⟨g,by rw[show∀t,({cY k n (Mv.jM (k.p n).mem a m) (Mv.ml (k.p n).mem k.bk a m)with gr:=t}:Kp).p n={k.p n with mem:=Mv.jM (k.p n).mem a m}from λ_=>bG _ _ _];exact eg,g10,th⟩);have q:=nE k.gr g (-0) (-(Mv.qa (k.p n).mem a m:Int)) i;rw[show∀t,({cY k n (Mv.jM (k.p n).mem a m) (Mv.ml (k.p n).mem k.bk a m)with gr:=t}:Kp).p n={k.p n with mem:=Mv.jM (k.p n).mem a m}from λ_=>bG _ _ _];refine⟨q.1,q.2.1.trans ?_,q.2.2.trans ?_⟩
  .show _=(k.gr i).op+cp (k.p n) i-cp (k.p n) i;split<;>omega
  .unfold cq;show _=(k.gr i).oq+(if(k.p n).st≠0/\(k.p n).cD=(i:Int)then(Mv.cU (Mv.jM (k.p n).mem a m) 16:Int)else 0)-_;by_cases c:i=g
   .subst c;rw[aJ rfl,aJ ⟨s,eg⟩,aJ ⟨s,eg⟩];omega
   .rw[aI c,aI (λx=>c (by have:=x.2;omega)),aI (λx=>c (by have:=x.2;omega))];omega
 .exact h
theorem CG.str(h:CG k)(hn:n<20)(l:lv k n=bw)(s:fY k n k'):CG k':=by
 obtain⟨m',w,rfl⟩:=s;have s0:(k.p n).st≠0:=by rw[dO.1 l];omega
 have u:=h.vF hn s0 0 16;have z0:Mv.cU ((dj k n 0 16).p n).mem 16=0:=by
  unfold dj;rw[aJ (show Mv.oF 0 16=0 from rfl)];show Mv.cU ((cY k n (Mv.jM (k.p n).mem 0 16) (Mv.ml (k.p n).mem k.bk 0 16)).p n).mem 16=0;rw[jj];have r:=wE (k.p n).mem (a:=0) (n:=16) rfl;have e:∀j,j<=16->Mv.mN (k.p n).mem 0 j=Mv.cU (k.p n).mem j:=λj=>by
   induction j with
   |zero=>intro _;rfl
   |succ j ih=>intro hj;show Mv.mN _ 0 j+(if(k.p n).mem.fr (0+j)=0 then 0 else 1)=Mv.cU _ j+_;rw[ih bB,Nat.zero_add]
  have e2:Mv.qa (k.p n).mem 0 16=Mv.mN (k.p n).mem 0 16:=rfl;have:=e 16 (aL _);show Mv.cU (Mv.jM (k.p n).mem 0 16) 16=0;omega
 refine u.same (show(cV (dj k n 0 16) n (k.p n).fd 6).gr=_ from AN _ _ _ _) (λm hm=>?_);have a:=fY.p ⟨m',w,rfl⟩ m;have b:=pR k n 0 16 m;refine⟨a.1.trans b.2.2.1.symm,a.2.2.1.trans b.2.2.2.2.1.symm,?_⟩;by_cases c:m=n
 .subst c;rw[z0];unfold qX;dsimp only;rw[bG];rfl
 .rw[(a.2.2.2.2 c).2.1];unfold dj;split
  .rw[show∀t,({cY k n (Mv.jM (k.p n).mem 0 16) (Mv.ml (k.p n).mem k.bk 0 16)with gr:=t}:Kp).p m=k.p m from λ_=>bO _ _ _ _ c]
  .rfl
theorem CG.fin(h:CG k)(hn:n<20)(s:(k.p n).st≠0)(m0:(k.p n).mem=Mv.lL):CG (eG k n):=by
 obtain⟨g,eg,g10,th,_,ut⟩:=h.Qx hn s (p:=1) (q:=0) bB bB;have e2:(eG k n).p n=Pr.no:=bG _ _ _;refine h.one (n:=n) hn (λj _ c=>bO _ _ _ _ c) (λi _=>?_) (λc=>aZ (by rw[e2];rfl) c);rw[e2];show(Gr.dD k.gr (k.p n).cD 1 0 i).there=_/\(Gr.dD k.gr (k.p n).cD 1 0 i).op=_/\(Gr.dD k.gr (k.p n).cD 1 0 i).oq=_;rw[ut];have q:=nE k.gr g (-1) (-0) i;refine⟨q.1,q.2.1.trans ?_,q.2.2.trans ?_⟩
 .rw[show cp Pr.no i=0 from aI (λx=>x.1 rfl)];unfold cp;by_cases c:i=g
  .subst c;rw[aJ rfl,aJ ⟨s,eg⟩];omega
  .rw[aI c,aI (λx=>c (by have:=x.2;omega))];omega
 .rw[show cq Pr.no i=0 from aI (λx=>x.1 rfl)];have:cq (k.p n) i=0:=by unfold cq;rw[m0];split<;>rfl
  rw[this];split<;>omega
theorem CG.first(h:CG k)(v:VI X N d k)(hn:n<20)(hX:¬X n)(ho:k.sp.of n=z+1)(h1:lv k n=bw->fY k n k1)(h2:lv k n=bA->k1=k):CG k1/\(k1.p n).mem=Mv.lL:=by
 obtain⟨a,_,_,hh,_,_⟩:=v.first hn hX ho h1 h2;refine⟨?_,a.kj.nm n hn hh⟩;cases l:lv k n
 .rw[h2 l];exact h
 .exact h.str hn l (h1 l)
theorem Ao{R:Kp->Nat->Kp->Prop}(hR:Cn N d R)(hC:∀(X:Nat->Prop) (k:Kp) (n:Nat) (k':Kp) (z:Nat),VI X N d k->n<20->n≠0->¬X n->k.sp.of n=z+1->(hd k n=n->∀m,m<20->X m->¬Sp.mem k.sp z m)->R k n k'->CG k->CG k'):∀(j:Nat) (k:Kp),EI X N d n z k->jU R (z:Int) j k k'->CG k->CG k'
 |0,k,_,r,h=>by rw[r.1];exact h
 |j+1,k,e,⟨m,k1,hm,r1,r2⟩,h=>by
  obtain⟨m20,m0,mn,mx,mz,y,hy,hx⟩:=e.next hm;exact Ao hR hC j k1 (e.step hm hR r1).1 r2 (hC X k m k1 y e.vi m20 m0 mx hy hx r1 h)
theorem Fb:∀f (X:Nat->Prop) (k:Kp) (n:Nat) (k':Kp) (z:Nat),VI X N d k->n<20->n≠0->¬X n->k.sp.of n=z+1->(hd k n=n->∀m,m<20->X m->¬Sp.mem k.sp z m)->jd f k n k'->CG k->CG k'
 |0=>λ_ _ _ _ _ _ _ _ _ _ _ r=>r.elim
 |f+1=>λX k n k' z h hn n0 hX ho hx r c=>by
  obtain⟨k1,h1,h2,r⟩:=r;obtain⟨c1,m1⟩:=c.first h hn hX ho h1 h2;obtain⟨a,sp,tb,hh,s0,fP⟩:=h.first hn hX ho h1 h2;rcases r with⟨_,rfl⟩|⟨q,k2,j,ri,rfl⟩
  .exact c1.fin hn s0 m1
  .have zi:Sp.dQ k.sp (n:Int)=z:=Sp.iD hn ho;rw[zi]at ri|-;have ei:EI (λm=>X m\/m=n) N d n z k1:=⟨a,hn,n0, .inr rfl,by rw[sp];exact ho,by rw[sp];exact(iY h.iv h.hs hn ho).1 q,λm m20 xm mn mz=>by
    rw[sp]at mz;exact hx q m m20 (xm.elim id (λq=>aZ q mn)) mz⟩
   obtain⟨_,_,e,_⟩:=EI.iter (oH f) j k1 ei ri;have c2:=Ao (oH f) (Fb f) j k1 ei ri c1;exact(c2.fin hn (by rw[e];exact s0) (by rw[e];exact m1)).same rfl (λ_ _=>⟨rfl,rfl,rfl⟩)
end
end Kn
namespace Kn
section
variable {N n z:Nat}{d:Nat->Nat}{k k' k1:Kp}{x:fU}
theorem CG.end(h:CG k)(kh:KH N d k)(e:Gn k n k'):CG k':=by
 obtain⟨c,z,q,hn,n0,l,ho,hp,k1,k3,s1,mt,rfl⟩:=e;have hv:=kh.ki.vi;obtain⟨a,sp,tb,hh,s0,fP⟩:=hv.first hn (λx=>x) ho (λ_=>s1) (λx=>by rw[l]at x;cases x);have c1:=h.str hn l s1;have c2:CG (ed k1 n c):=c1.iu (λ_ _=>⟨rfl,rfl,rfl⟩) (λm hm=>by
  unfold ed;by_cases e:m=n
  .subst e;rw[bG];exact⟨⟨λx=>aZ x (show¬(2:Nat)=0 by decide),λx=>aZ x s0⟩,rfl,rfl⟩
  .rw[bO _ _ _ _ e];exact⟨Iff.rfl,rfl,rfl⟩)
 have c3:CG k3:=by
  rcases mt with⟨_,rfl⟩|⟨ih,j,it⟩
  .exact c2
  .have ih:hd k1 n=n:=ih;have ih:hd k n=n:=by unfold hd at ih|-;rw[<-sp];exact ih
   have ei:EI (λm=>False\/m=n) N d n z k1:=hv.ei hn n0 (λx=>x) ho ih (λ_ _ x=>aZ x (λx=>x)) (λ_=>s1) (λx=>by rw[l]at x;cases x);exact Ao (oH 6) (Fb 6) j _ (ei.gone s0 hh c) it c2
 have c4:CG (gG k3 (iC k3 n) (Sp.e9 k3.sp (z:Int) 1:Nat)):=c3.same rfl (λ_ _=>⟨rfl,rfl,rfl⟩);unfold nD;split
 .exact c4.sc (SC.put _ _ ⟨rfl,rfl,rfl,rfl⟩)
 .exact c4
theorem CG.MF(h:CG k)(kh:KH N d k)(e:Vn k n k'):CG k':=by
 obtain⟨m,m20,m0,_,m2,v⟩:=e;obtain⟨y,oy⟩:=kh.of m20 bB;exact Fb 6 (λ_=>False) k m k' y kh.ki.vi m20 m0 (λx=>x) oy (λ_ _ _ x=>x.elim) v h
theorem vZ{t:Nat->Gr.Gp}{p:Int}(e:Gr.iF t Wy g p q=0):Gr.gD t Wy g p q=Gr.gq t g p q:=by unfold Gr.gD;rw[aJ e,hU]
theorem CG.back(h:CG k)(g10:g<10)(th:(k.gr g).there=bw){p:Int}(hp:0<=p/\p<=1)(hq:0<=q/\q<=16)(i:Nat):(Gr.dD (Gr.gq k.gr g p q) g p q i).there=(k.gr i).there/\(Gr.dD (Gr.gq k.gr g p q) g p q i).op=(k.gr i).op/\(Gr.dD (Gr.gq k.gr g p q) g p q i).oq=(k.gr i).oq:=by
 have a:=nE k.gr g p q;have o1:=(tY (λm=>Cr (k.p m) g) (n:=0) 20).1;have o2:=(tY (λm=>P3 (k.p m) g) (n:=0) 20).1;rw[<-h.op g g10]at o1;rw[<-h.oq g g10]at o2;have ag:=a g;rw[aJ rfl,aJ rfl]at ag;have u:Gr.gm (Gr.gq k.gr g p q) (g:Int) p q=0:=by
  have re:Gr.eQ (Gr.gq k.gr g p q) (g:Int) p q=0:=by
   have w:Gr.wr (Gr.gq k.gr g p q) (g:Int)=0:=by unfold Gr.wr;rw[nK];exact aJ (by rw[hU,ag.1];exact th)
   unfold Gr.eQ;rw[w,aJ rfl,aJ];unfold Gr.jq;apply aO;omega
  unfold Gr.gm;rw[aJ re,hU,aJ ⟨by omega,bB⟩]
 unfold Gr.dD;rw[aJ u,hU];have b:=nE (Gr.gq k.gr g p q) g (-p) (-q) i;refine⟨b.1.trans (a i).1,b.2.1.trans ?_,b.2.2.trans ?_⟩
 .rw[(a i).2.1];split<;>omega
 .rw[(a i).2.2];split<;>omega
theorem CG.fork(h:CG k)(kh:KH N d k){z:Int}{p:Nat}(f:qe k z own p E k'):CG k':=by
 rcases f.cl kh with⟨_,rfl|⟨Wy,n,_,ch,rfl⟩⟩|⟨_,n,c,Wy,_,f,_,ch,g,_,_,_⟩
 .exact h
 .unfold qB at ch;refine h.iu (λi _=>?_) (λ_ _=>⟨Iff.rfl,rfl,rfl⟩);show(Gr.dD (Gr.gD k.gr Wy (k.p n).cD 1 (Mv.cU (k.p n).mem 16:Int)) (k.p n).cD 1 (Mv.cU (k.p n).mem 16:Int) i).there=_/\(Gr.dD (Gr.gD k.gr Wy (k.p n).cD 1 (Mv.cU (k.p n).mem 16:Int)) (k.p n).cD 1 (Mv.cU (k.p n).mem 16:Int) i).op=_/\(Gr.dD (Gr.gD k.gr Wy (k.p n).cD 1 (Mv.cU (k.p n).mem 16:Int)) (k.p n).cD 1 (Mv.cU (k.p n).mem 16:Int) i).oq=_;have re:Gr.eQ k.gr (k.p n).cD 1 (Mv.cU (k.p n).mem 16:Int)=0:=by
   unfold Gr.iF at ch;split at ch
   .assumption
   .exact ch
  obtain⟨g,eg,g10,th,_⟩:=Gr.ma re;rw[eg]at ch|-;rw[vZ ch];exact h.back g10 th bB (by have:=YtpmmdkcfenjiaaaGreatDoor.qv (k.p n).mem 16;omega) i
 .unfold qB at ch;obtain⟨i0,eg,g10,th⟩:=h.th n f.hn (by rw[dO.1 f.ln];omega);have sn:(k.p n).st≠0:=by rw[dO.1 f.ln];omega
  refine h.one (n:=c) f.ko (λm _ q=>f.ot m q) (λi _=>?_) (λ_=>⟨i0,by rw[f.me];exact eg,g10,th⟩);rw[g,f.me];show(Gr.gD k.gr Wy (k.p n).cD 1 (Mv.cU (k.p n).mem 16:Int) i).there=_/\(Gr.gD k.gr Wy (k.p n).cD 1 (Mv.cU (k.p n).mem 16:Int) i).op=_/\(Gr.gD k.gr Wy (k.p n).cD 1 (Mv.cU (k.p n).mem 16:Int) i).oq=_;rw[eg]at ch;rw[eg,vZ ch];have q:=nE k.gr i0 1 (Mv.cU (k.p n).mem 16:Int) i;have z1:cp (k.p c) i=0:=aI (λx=>x.1 f.c0);have z2:cq (k.p c) i=0:=aI (λx=>x.1 f.c0);rw[z1,z2];refine⟨q.1,q.2.1.trans ?_,q.2.2.trans ?_⟩
  .show _=(k.gr i).op+(if(k.p n).st≠0/\(k.p n).cD=(i:Int)then 1 else 0)-0;by_cases e:i=i0
   .subst e;rw[aJ rfl,aJ ⟨sn,eg⟩];omega
   .rw[aI e,aI (λx=>e (by have:=x.2;omega))];omega
  .show _=(k.gr i).oq+(if(k.p n).st≠0/\(k.p n).cD=(i:Int)then(Mv.cU (k.p n).mem 16:Int)else 0)-0;by_cases e:i=i0
   .subst e;rw[aJ rfl,aJ ⟨sn,eg⟩];omega
   .rw[aI e,aI (λx=>e (by have:=x.2;omega))];omega
theorem CG.ur(h:CG k)(kh:KH N d k):∀j {k':Kp},Gq j k k'->CG k'
 |0,_,e=>by rw[show _=k from e];exact h
 |j+1,_,⟨_,a,m,y,q,h1,h2,h3,h4,h5,h6⟩=>(h.ur kh j a).end (kh.ur j a) ⟨_,y,q,h1,h2,h3,h4,h5,h6⟩
theorem KH.Rh(kh:KH N d k)(e:Gn k n k'){m:Nat}(hm:m<20)(l:lv k' m=bw):lv k m=bw/\(k'.p m).mem=(k.p m).mem:=by
 obtain⟨c,z,q,hn,n0,ln,ho,hp,et⟩:=e;have es:=kh.Dj hn n0 ln ho et;have lm:=(es.2 m hm l).1;have mn:m≠n:=λe=>by subst e;rw[es.1]at l;cases l
 refine⟨lm,?_⟩;obtain⟨k1,k3,s1,mt,rfl⟩:=et;have mq:=kh.ki.vi.mq hn n0 ln ho s1 mt;have key:∀(k:Kp) q,((nD k q).p m).mem=(k.p m).mem:=λk q=>by
  unfold nD;split
  .unfold iG;by_cases c:m=q
   .subst c;rw[bG]
   .rw[bO _ _ _ _ c]
  .rfl
 rw[key];show(k3.p m).mem=_;rcases mq.ot m hm mn with a|a
 .rw[a.1]
 .have s:=dO.1 l;rw[(KY _ _ _).1]at s;have s:(k3.p m).st=1:=s;rw[a.1]at s;exact aZ s bE
theorem KH.Gy(kh:KH N d k){m:Nat}(hm:m<20):∀j {k':Kp},Gq j k k'->lv k' m=bw->(k'.p m).mem=(k.p m).mem
 |0,_,e,_=>by rw[show _=k from e]
 |j+1,_,⟨k1,a,i,y,q,h1,h2,h3,h4,h5,h6⟩,l=>by
  have b:=(kh.ur j a).Rh ⟨_,y,q,h1,h2,h3,h4,h5,h6⟩ hm l;exact b.2.trans (kh.Gy hm j a b.1)
theorem sK(k:Kp)(n:Nat)(m:Me)(b:Bk)(c:j≠n):(cY k n m b).p j=k.p j:=bO _ _ _ _ c
theorem CG.BU(h:CG k)(kh:KH N d k){z:Int}(hD:∀k n E k',D k n E k'->∃wr g m b b',Mv.mO (k.p n).mem k.bk a wr E g m b/\k'=cY k n m b')(e:lG a D k z v k'):CG k':=by
 obtain⟨E,_,⟨_,rfl⟩|⟨n,_,hn,l,⟨w,e⟩|⟨w,E1,k1,⟨j,k0,en,c⟩,r⟩⟩⟩:=e
 .exact h
 .obtain⟨wr,g,m,b,b',t,rfl⟩:=hD _ _ _ _ e;refine h.same rfl (λj hj=>?_);by_cases c:j=n
  .subst c;rw[jj];refine⟨rfl,rfl,?_⟩;have:=t.res;rw[w,aI (λx=>by cases x.2)]at this;exact this
  .rw[sK _ _ _ _ c];exact⟨rfl,rfl,rfl⟩
 .have h0:=h.ur kh j en.1;rcases c with⟨l0,eg,Wy,_,ch,rfl⟩|⟨e1,rfl⟩
  .by_cases e1:E1=0
   .rcases r with⟨q,_⟩|⟨_,k2,e,r⟩
    .exact aZ e1 q
    .rw[e1]at ch;have sn:(k0.p n).st≠0:=by rw[dO.1 l0];omega
     obtain⟨i0,gi,g10,th⟩:=h0.th n hn sn;rw[<-eg,gi]at ch e;have ch:=ch.symm;rw[vZ ch]at e;obtain⟨wr,g,m,b,b',t,rfl⟩:=hD _ _ _ _ e;have t:Mv.mO (k0.p n).mem k0.bk a wr E g m b:=t;have ms:=kh.Gy hn j en.1 l0;have tr:=t.res;rw[ms,w]at tr;rcases r with⟨e0,rfl⟩|⟨e0,rfl⟩
     .rw[aJ ⟨e0,rfl⟩]at tr;refine h0.one (n:=n) hn (λj _ c=>sK _ _ _ _ c) (λi _=>?_) (λ_=>⟨i0,by rw[jj];exact gi,g10,th⟩);rw[jj];have q:=nE k0.gr i0 0 1 i;refine⟨q.1,q.2.1.trans ?_,q.2.2.trans ?_⟩
      .show _=(k0.gr i).op+cp (k0.p n) i-cp (k0.p n) i;split<;>omega
      .unfold cq;show _=(k0.gr i).oq+(if(k0.p n).st≠0/\(k0.p n).cD=(i:Int)then(Mv.cU m 16:Int)else 0)-_;rw[ms];by_cases c:i=i0
       .subst c;rw[aJ rfl,aJ ⟨sn,gi⟩,aJ ⟨sn,gi⟩];omega
       .rw[aI c,aI (λx=>c (by have:=x.2;omega)),aI (λx=>c (by have:=x.2;omega))];omega
     .rw[aI (λx=>e0 x.1)]at tr;refine h0.iu (λi _=>?_) (λj _=>?_)
      .show(Gr.dD (Gr.gq k0.gr i0 0 1) ((cY _ n m b').p n).cD 0 1 i).there=_/\(Gr.dD (Gr.gq k0.gr i0 0 1) ((cY _ n m b').p n).cD 0 1 i).op=_/\(Gr.dD (Gr.gq k0.gr i0 0 1) ((cY _ n m b').p n).cD 0 1 i).oq=_;rw[jj];show(Gr.dD (Gr.gq k0.gr i0 0 1) (k0.p n).cD 0 1 i).there=_/\(Gr.dD (Gr.gq k0.gr i0 0 1) (k0.p n).cD 0 1 i).op=_/\(Gr.dD (Gr.gq k0.gr i0 0 1) (k0.p n).cD 0 1 i).oq=_;rw[gi];exact h0.back g10 th bB bB i
      .show((((cY _ n m b').p j).st=0↔_)/\((cY _ n m b').p j).cD=_/\Mv.cU ((cY _ n m b').p j).mem 16=_);by_cases c:j=n
       .subst c;rw[jj];exact⟨Iff.rfl,rfl,by rw[ms];exact tr⟩
       .rw[sK _ _ _ _ c];exact⟨Iff.rfl,rfl,rfl⟩
   .rcases r with⟨_,_,rfl⟩|⟨q,_⟩
    .have:Gr.gD k0.gr Wy (k.p n).cD 0 1=k0.gr:=by unfold Gr.gD;rw[aI (by rw[<-ch];exact e1)]
     rw[this];exact h0
    .exact aZ q e1
  .rcases r with⟨_,_,rfl⟩|⟨q,_⟩
   .exact h0
   .omega
theorem CG.join(h:CG k){z g:Int}(e:zV k z g v k'):CG k':=by
 obtain⟨_,_,rfl|⟨n,Wy,m,_,hn,l,w,me,_,rfl⟩⟩:=e
 .exact h
 .have sn:(k.p n).st≠0:=by rw[dO.1 l];omega
  obtain⟨i0,gi,g10,th,u0,ut⟩:=h.Qx hn sn (p:=1) (q:=(Mv.cU (k.p n).mem 16:Int)) bB bB;have mt:Gr.lW k.gr Wy (k.p n).cD g 1 (Mv.cU (k.p n).mem 16:Int)=Gr.gD (Gr.dD k.gr (k.p n).cD 1 (Mv.cU (k.p n).mem 16:Int)) Wy g 1 (Mv.cU (k.p n).mem 16:Int):=by unfold Gr.lW;rw[aJ me]
  unfold Gr.oc at me;by_cases wg:Gr.wr k.gr g=0
  .rw[aJ wg,aJ u0]at me;obtain⟨j0,rfl,j10,tj⟩:=Gr.pd wg;rw[vZ me,ut]at mt;have pn:(Dw k n (j0:Int) (Gr.lW k.gr Wy (k.p n).cD (j0:Int) 1 (Mv.cU (k.p n).mem 16:Int)) m).p n={k.p n with cD:=(j0:Int)}:=bG _ _ _;refine h.one (n:=n) hn (λj _ c=>bO _ _ _ _ c) (λi _=>?_) (λ_=>⟨j0,by rw[pn],j10,tj⟩);rw[pn];show(Gr.lW k.gr Wy (k.p n).cD (j0:Int) 1 (Mv.cU (k.p n).mem 16:Int) i).there=_/\(Gr.lW k.gr Wy (k.p n).cD (j0:Int) 1 (Mv.cU (k.p n).mem 16:Int) i).op=_/\(Gr.lW k.gr Wy (k.p n).cD (j0:Int) 1 (Mv.cU (k.p n).mem 16:Int) i).oq=_;rw[mt];have a:=nE k.gr i0 (-1) (-(Mv.cU (k.p n).mem 16:Int)) i;have b:=nE (Gr.gq k.gr i0 (-1) (-(Mv.cU (k.p n).mem 16:Int))) j0 1 (Mv.cU (k.p n).mem 16:Int) i;have e1:(k.p n).cD=(i:Int)↔i=i0:=by rw[gi];omega
   have e2:(j0:Int)=(i:Int)↔i=j0:=bB
   refine⟨b.1.trans a.1,b.2.1.trans ?_,b.2.2.trans ?_⟩
   .rw[a.2.1];unfold cp;show _=(k.gr i).op+(if(k.p n).st≠0/\(j0:Int)=(i:Int)then 1 else 0)-(if(k.p n).st≠0/\(k.p n).cD=(i:Int)then 1 else 0);simp only[e1,e2,sn,ne_eq,not_false_eq_true,true_and];split<;>split<;>omega
   .rw[a.2.2];unfold cq;show _=(k.gr i).oq+(if(k.p n).st≠0/\(j0:Int)=(i:Int)then(Mv.cU (k.p n).mem 16:Int)else 0)-(if(k.p n).st≠0/\(k.p n).cD=(i:Int)then(Mv.cU (k.p n).mem 16:Int)else 0);simp only[e1,e2,sn,ne_eq,not_false_eq_true,true_and];split<;>split<;>omega
  .rw[aI wg]at me;exact aZ me wg
theorem CG.sh(h:CG k)(e:nv li N k k'):CG k':=by
 obtain⟨t,m,g,_,_,rfl⟩:=e;have zero:∀i:Nat,i<10->(∀m,m<20->(k.p m).st≠0->(k.p m).cD≠(i:Int))->sm (λm=>cp (k.p m) i) 20=0/\sm (λm=>cq (k.p m) i) 20=0:=λi _ hz=>by
  have z:∀M,M<=20->sm (λm=>cp (k.p m) i) M=0/\sm (λm=>cq (k.p m) i) M=0:=λM=>by
   induction M with
   |zero=>intro _;exact⟨rfl,rfl⟩
   |succ M ih=>
    intro hM;have c1:cp (k.p M) i=0:=aI (λx=>hz M bB x.1 x.2);have c2:cq (k.p M) i=0:=aI (λx=>hz M bB x.1 x.2);exact⟨by show sm _ M+cp (k.p M) i=0;rw[(ih bB).1,c1];rfl,by show sm _ M+cq (k.p M) i=0;rw[(ih bB).2,c2];rfl⟩
  exact z 20 (aL _)
 have put:∀(j:Nat) (x:Gr.Gp),j<10->x.op=0->x.oq=0->(∀m,m<20->(k.p m).st≠0->(k.p m).cD≠(j:Int))->CG {k with gr:=Gr.fH k.gr j x,sc:=m}:=λj x j10 x1 x2 hz=>by
  have zz:=zero j j10 hz;refine⟨λi hi=>?_,λi hi=>?_,λm hm s=>?_⟩
  .show(Gr.fH k.gr j x i).op=_;by_cases c:i=j
   .subst c;rw[Gr.eF,x1];exact zz.1.symm
   .rw[Gr.fa _ _ _ _ c];exact h.op i hi
  .show(Gr.fH k.gr j x i).oq=_;by_cases c:i=j
   .subst c;rw[Gr.eF,x2];exact zz.2.symm
   .rw[Gr.fa _ _ _ _ c];exact h.oq i hi
  .obtain⟨i,a,b,e⟩:=h.th m hm s;refine⟨i,a,b,?_⟩;show(Gr.fH k.gr j x i).there=bw;rw[Gr.fa _ _ _ _ (λc=>hz m hm s (by rw[a,c]))];exact e
 rcases g with rfl|⟨j,p,j10,nt,rfl⟩|⟨Wy,j,j10,_,ww,t1,t2,rfl⟩|⟨_,j,a,b,rfl⟩
 .exact h.same rfl (λ_ _=>⟨rfl,rfl,rfl⟩)
 .refine put j _ j10 rfl rfl (λm hm s e=>?_);obtain⟨i,a,b,e2⟩:=h.th m hm s;obtain rfl:i=j:=bB
  rw[nt]at e2;cases e2
 .refine put j _ j10 rfl rfl (λm hm s e=>?_);obtain⟨i,a,b,e2⟩:=h.th m hm s;obtain rfl:i=j:=bB
  have nn:∀j,j<10->0<=(k.gr j).op:=λj hj=>by rw[h.op j hj];exact(tY (λm=>Cr (k.p m) j) (n:=0) 20).1
  have z0:=Gr.zt (sel:=Gr.Gp.op) nn (aL _) t1 i j10 (Gr.Px ww j10 e2);have:=(tY (λm=>Cr (k.p m) i) (n:=m) 20).2 hm;rw[<-h.op i j10,show cp (k.p m) i=1 from aJ ⟨s,e⟩,z0]at this;omega
 .refine h.iu (λi _=>?_) (λ_ _=>⟨Iff.rfl,rfl,rfl⟩);show(Gr.fH k.gr j _ i).there=_/\(Gr.fH k.gr j _ i).op=_/\(Gr.fH k.gr j _ i).oq=_;by_cases c:i=j
  .subst c;rw[Gr.eF];exact⟨rfl,rfl,rfl⟩
  .rw[Gr.fa _ _ _ _ c];exact⟨rfl,rfl,rfl⟩
theorem CG.ac(h:CG k)(kh:KH N d k)(e:td N k x a E k'\/NK x/\rV k x k'):CG k':=by
 rcases e with e|⟨_,e⟩
 .rcases e with⟨_,p,_,e⟩|⟨_,⟨m,_,hm,l,_,rfl⟩|⟨_,rfl⟩⟩|⟨_,_,_,e,_⟩|⟨_,e⟩|⟨_,e⟩|⟨_,_,_,rfl⟩|⟨_,e⟩
  .exact h.fork kh e
  .exact h.vF hm (by rw[dO.1 l];omega) _ _
  .exact h
  .exact h.BU kh (λk n E k' ⟨g,m,b,t,e⟩=>⟨_,g,m,b,_,t,e⟩) e
  .exact h.BU kh (λk n E k' ⟨g,m,b,t,e⟩=>⟨_,g,m,b,_,t,e⟩) e
  .exact h.sh e
  .exact h.same rfl (λ_ _=>⟨rfl,rfl,rfl⟩)
  .rcases e.cl kh with e|⟨m,e,_⟩|⟨m,_,e⟩|⟨m,y,_,_,ef,rfl⟩|e|⟨_,e⟩|⟨_,_,rfl⟩
   .exact h.sc e
   .exact h.end kh e
   .exact h.MF kh e
   .refine h.same rfl (λj _=>?_);by_cases c:j=m
    .subst c;rw[jj];exact⟨rfl,rfl,Mv.AF 16 (λx _=>by rw[ef])⟩
    .rw[sK _ _ _ _ c];exact⟨rfl,rfl,rfl⟩
   .exact h.sh e
   .exact h.join e
   .exact h.same rfl (λ_ _=>⟨rfl,rfl,rfl⟩)
 .rcases e.cl kh with e|⟨m,k1,_,s,kh1,_,e⟩
  .exact h.sc e
  .exact(h.sc s).end kh1 e
end
end Kn
namespace Fx
theorem Mc(T:Nat->Fi)(z a:Int)(f:Nat):(lC T z a f).refs=(T f).refs:=by
 unfold lC;split
 .by_cases c:f=z.toNat
  .subst c;rw[bG]
  .rw[bO _ _ _ _ c]
 .rfl
theorem L6(T:Nat->Fi)(F:Fo)(z m:Int)(f:Nat):(iw T F z m f).refs=(T f).refs:=by
 unfold iw;split
 .by_cases c:f=z.toNat
  .subst c;rw[bG]
  .rw[bO _ _ _ _ c]
 .rfl
theorem M4(T:Nat->Fi)(F:Fo)(z:Int)(s:bU)(f:Nat):(pf T F z s f).refs=(T f).refs:=by
 unfold pf;split
 .by_cases c:f=z.toNat
  .subst c;rw[bG]
  .rw[bO _ _ _ _ c]
 .rfl
end Fx
namespace Kn
section
variable {N n:Nat}{d:Nat->Nat}{k k' k1:Kp}{x:fU}
theorem RC.iu(h:RC k)(e:∀f,f<24->(k'.fi f).refs=(k.fi f).refs)(p:∀m,m<20->(k'.p m).has=(k.p m).has/\(k'.p m).fd=(k.p m).fd):RC k':=λf hf=>by
 rw[e f hf,h f hf];exact(rN 20 (λm hm=>⟨(p m hm).1,λ_=>(p m hm).2⟩)).symm
theorem RC.end(h:RC k)(kh:KH N d k)(e:Gn k n k'):RC k':=by
 obtain⟨c,y,q,hn,_,l,_,_,et⟩:=e;exact(et.qd kh.hx hn l).rc kh.hx h
theorem RC.ur(h:RC k)(kh:KH N d k):∀j {k':Kp},Gq j k k'->RC k'
 |0,_,e=>by rw[show _=k from e];exact h
 |j+1,_,⟨_,a,m,y,q,h1,h2,h3,h4,h5,h6⟩=>(h.ur kh j a).end (kh.ur j a) ⟨_,y,q,h1,h2,h3,h4,h5,h6⟩
theorem RC.mem(h:RC k)(n:Nat)(m:Me)(b:Bk):RC (cY k n m b):=h.iu (λ_ _=>rfl) (λj _=>by
 by_cases c:j=n
 .subst c;rw[jj];exact⟨rfl,rfl⟩
 .rw[sK _ _ _ _ c];exact⟨rfl,rfl⟩)
theorem RC.box(h:RC k)(n:Nat)(X:Nat->Sg.S1):RC (dv k n X):=h.iu (λ_ _=>rfl) (λj _=>by
 unfold dv;by_cases c:j=n
 .subst c;rw[bG];exact⟨rfl,rfl⟩
 .rw[bO _ _ _ _ c];exact⟨rfl,rfl⟩)
theorem RC.DQ(h:RC k)(kh:KH N d k)(hn:n<20)(l:lv k n=bw){y q:Nat}(yq:YQ k n y q){X:Nat->Sg.S1}(e:pg (dv k n X) n y q k'):RC k':=by
 rcases e with⟨_,rfl⟩|⟨a,m,_,⟨_,rfl⟩|⟨_,e⟩⟩
 .exact h.box n X
 .exact h.box n X
 .have a:hd k n≠n:=a;have n0:n≠0:=λe0=>by subst e0;exact a kh.ki.h0
  exact h.end kh ⟨_,y,q,hn,n0,l,yq.1,yq.2 n0,e.box⟩
theorem RC.set(h:RC k)(kh:KH N d k)(hn:n<20)(l:lv k n=bw)(hf:f<6)(m1:(k.p n).fd f= -1){T:Nat->Fi}{F:Fo}{v:Int}(ht:∀g,g<24->(T g).refs=(k.fi g).refs+if v=(g:Int)then 1 else 0):RC (eJ (iL k T F k.pi) n f v):=λg hg=>by
 have r:=Eg (iL k T F k.pi) hn (show(k.p n).has=bw from kh.ki.has hn l) hf v g;rw[show((iL k T F k.pi).p n).fd f= -1 from m1,nK]at r;show(T g).refs=_;rw[ht g hg,h g hg];have:kK (iL k T F k.pi).p g 20=kK k.p g 20:=rfl;omega
theorem RC.xG(h:RC k)(kh:KH N d k)(z f:Int):RC (iZ k z f):=by
 unfold iZ;split
 .rename_i e;obtain⟨n,g,rfl,rfl,hn,hg,hl,_⟩:=qs e;rw[hU,hU];exact h.Tn hn hg (kh.ki.has hn hl)
 .exact h
theorem RC.di(h:RC k)(kh:KH N d k)(e:rV k x k'):RC k':=by
 rcases e with⟨_,_,_,_,G,_,rfl|⟨n,f,K,z,wr,T,F,hn,hf,l,m1,t,rfl⟩⟩|rfl|⟨_,_,_,_,rfl|⟨n,f,g,hn,hf,hg,l,m1,_,rfl⟩⟩|⟨A,C,E,e⟩|rfl|⟨K,E,e⟩|⟨u,rfl⟩|⟨_,_,_,_,_,rfl⟩|⟨_,_,_,rfl|⟨y,T,F,_,_,_,rfl⟩⟩|⟨_,_,_,_,rfl⟩|rfl
 .exact h
 .refine h.set kh hn l hf m1 (λg hg=>?_);rcases t with⟨a,_,b,_⟩|⟨_,_,_,b,_⟩|⟨a,_,lo,_,rfl,rfl⟩
  .exact aZ b.symm a
  .cases b
  .by_cases c:g=K
   .subst c;rw[Fx.bG,lo.2.1,aJ rfl]
   .rw[Fx.bO _ _ _ _ c,nK];rfl
 .exact h.xG kh _ _
 .exact h
 .refine h.set (F:=k.fo) kh hn l hf m1 (T:=Fx.iH k.fi ((k.p n).fd g)) (λi hi=>?_);by_cases c:(k.p n).fd g=(i:Int)
  .have r0:=h.refs hn hg hi (kh.ki.has hn l) c;have fe:Fx.dg k.fi (i:Int)=0:=by unfold Fx.dg;rw[nK,hU,aI r0]
   rw[c,aJ rfl];unfold Fx.iH;rw[aJ fe,hU,Fx.bG]
  .rw[aI c];unfold Fx.iH;split
   .rename_i fe;obtain⟨j,ej,_⟩:=Fx.iX fe;rw[ej,hU,Fx.bO _ _ _ _ (λe=>c (by rw[ej,e]))];rfl
   .rfl
 .exact h.Uf kh e
 .unfold ow;split
  .exact h.iu (λf _=>Fx.L6 _ _ _ _ f) (λ_ _=>⟨rfl,rfl⟩)
  .exact h
 .have hw:∀v t,RC (rm k v t):=λv t=>h.iu (λf _=>Fx.M4 _ _ _ _ f) (λ_ _=>⟨rfl,rfl⟩);rcases e with⟨_,_,_,rfl⟩|⟨_,n,g,_,_,hn,_,l,_,_,⟨_,rfl⟩|⟨_,y,q,e,o,p⟩⟩
  .exact h
  .exact hw _ _
  .exact(hw ((k.p n).fd g) x.s).DQ (kh.zN _ _) hn l ⟨o,λn0=>(p n0).2.2⟩ e
 .exact h.iu (λf _=>Fx.Mc _ _ _ f) (λ_ _=>⟨rfl,rfl⟩)
 .exact h
 .exact h
 .exact h
 .exact h
 .exact h
theorem RC.BU(h:RC k)(kh:KH N d k){z:Int}(hD:∀k n E k',D k n E k'->∃m b,k'=cY k n m b)(e:lG a D k z v k'):RC k':=by
 obtain⟨E,_,⟨_,rfl⟩|⟨n,_,hn,l,⟨w,e⟩|⟨w,E1,k1,⟨j,k0,en,c⟩,r⟩⟩⟩:=e
 .exact h
 .obtain⟨m,b,rfl⟩:=hD _ _ _ _ e;exact h.mem _ _ _
 .have h1:RC k1:=by
   have h0:=h.ur kh j en.1;rcases c with⟨_,_,_,_,_,rfl⟩|⟨_,rfl⟩<;>exact h0
  rcases r with⟨_,_,rfl⟩|⟨_,k2,e,r⟩
  .exact h1
  .obtain⟨m,b,rfl⟩:=hD _ _ _ _ e;rcases r with⟨_,rfl⟩|⟨_,rfl⟩<;>exact h1.mem n m b
theorem RC.ac(h:RC k)(kh:KH N d k)(e:td N k x a E k'\/NK x/\rV k x k'):RC k':=by
 rcases e with e|⟨_,e⟩
 .rcases e with⟨_,p,_,e⟩|⟨_,⟨m,_,hm,l,_,rfl⟩|⟨_,rfl⟩⟩|⟨_,_,_,e,_⟩|⟨_,e⟩|⟨_,⟨_,_,_,_,_,rfl⟩⟩|⟨_,_,_,rfl⟩|⟨_,e⟩
  .exact(e.fo kh h).1
  .unfold dj;split
   .exact h.mem m (Mv.jM (k.p m).mem x.b x.c) (Mv.ml (k.p m).mem k.bk x.b x.c)
   .exact h
  .exact h
  .exact h.BU kh (λk n E k' ⟨_,m,_,_,e⟩=>⟨m,_,e⟩) e
  .exact h.BU kh (λk n E k' ⟨_,m,_,_,e⟩=>⟨m,_,e⟩) e
  .exact h
  .exact h
  .rcases e with⟨_,e⟩|⟨_,_,_,e⟩|e|⟨_,e⟩|⟨_,e⟩|⟨_,_,e⟩|⟨_,_,_,_,_,rfl⟩|⟨_,_,_,_,_,rfl⟩|⟨_,_,_,rfl|⟨m,Wy,sm,_,_,_,_,_,_,rfl⟩⟩|⟨_,_,_,_,_,rfl⟩|rfl
   .exact(e.qd kh.hx).rc kh.hx h
   .exact(e.qd kh.hx).rc kh.hx h
   .rcases e with⟨_,rfl⟩|⟨a,y,q,yq,m,_,⟨_,rfl⟩|⟨_,e⟩⟩
    .exact h
    .exact h.box _ _
    .have s0:=xS a;have n0:=kh.ki.vi.Jv s0.1 s0.2;exact h.end kh ⟨_,y,q,wv (λz p=>kh.ki.vi.iv.qb z p) x.a x.b,n0,wu s0.1,yq.1,yq.2 n0,e.box⟩
   .rcases e with⟨_,_,rfl⟩|⟨a,n,xa,hn,_,⟨_,rfl⟩|⟨_,y,q,yq,e⟩⟩
    .exact h
    .exact h.box _ _
    .rw[xa]at a;exact h.DQ kh hn (jS a) yq e
   .rcases e with⟨_,_,rfl⟩|⟨a,n,xa,hn,_,⟨_,rfl⟩|⟨_,y,q,yq,e⟩⟩
    .exact h
    .exact h.box _ _
    .rw[xa]at a;exact h.DQ kh hn (jS a) yq e
   .rcases e with⟨_,_,_,rfl⟩|⟨_,n,j,_,_,_,rfl,_⟩
    .exact h
    .exact h.box n _
   .exact h.mem _ _ _
   .exact h
   .exact h
   .refine h.iu (λ_ _=>rfl) (λj _=>?_);show((k.put m _).p j).has=_/\((k.put m _).p j).fd=_;by_cases c:j=m
    .subst c;rw[bG];exact⟨rfl,rfl⟩
    .rw[bO _ _ _ _ c];exact⟨rfl,rfl⟩
   .exact h
   .exact h
 .exact h.di kh e
end
end Kn
namespace Kn
section
variable {N n:Nat}{d:Nat->Nat}{k k':Kp}
theorem CG.exit(h:CG k)(kh:KH N d k){z:Int}(e:ng k z c k'):CG k':=by
 rcases e with⟨_,rfl⟩|⟨_,n,y,q,_,hn,n0,l,oy,_,_,hp,et⟩
 .exact h
 .exact h.end kh ⟨_,y,q,hn,n0,l,oy,hp,et⟩
theorem KH.Rj(kh:KH N d k)(j0:j≠0)(j20:j<20)(g:∀m,j+1<=m->m<20->lv k m=bA)(e:ng k (j:Int) 3 k'):∀m,j<=m->m<20->lv k' m=bA:=λm jm hm=>by
 rcases e with⟨a,rfl⟩|⟨_,n,y,q,en,hn,n0,l,ho,_,_,hp,et⟩
 .by_cases c:m=j
  .subst c;cases l:lv k' m
   .rfl
   .exfalso;apply a;unfold qH;rw[aJ (sD hm l),nK,nK]
  .exact g m bB hm
 .obtain rfl:n=j:=bB
  have es:=kh.Dj hn n0 l ho et;by_cases c:m=n
  .rw[c];exact es.1
  .cases l:lv k' m
   .rfl
   .have g2:=g m bB hm;rw[(es.2 m hm l).1]at g2;cases g2
def p9(k:Kp):Nat->Nat
 |0=>0
 |M+1=>p9 k M+if M≠0/\(k.p M).st≠0 then 1 else 0
theorem Lx(k:Kp):∀M,p9 k (M+1)<=M
 |0=>by show 0+(if(0:Nat)≠0/\_ then 1 else 0)<=0;rw[aI (λx=>x.1 rfl)];omega
 |M+1=>by
  have:=Lx k M;show p9 k (M+1)+(if _ then 1 else 0)<=M+1;split<;>omega
theorem Ea:∀M,p9 k M=0->∀m,m<M->m≠0->(k.p m).st=0
 |0,_,m,h,_=>aZ h bB
 |M+1,e,m,h,m0=>by
  have e:p9 k M+(if M≠0/\(k.p M).st≠0 then 1 else 0)=0:=e;by_cases c:m=M
  .subst c;by_cases s:(k.p m).st=0
   .exact s
   .rw[aJ ⟨m0,s⟩]at e;omega
  .exact Ea M bB m bB m0
theorem D9:∀M,M<=20->(∀m,m<20->m≠0->(k.p m).st=0)->p9 k M=0
 |0,_,_=>rfl
 |M+1,hM,h=>by
  show p9 k M+(if M≠0/\(k.p M).st≠0 then 1 else 0)=0;rw[D9 M bB h,aI (λx=>x.2 (h M bB x.1))]
theorem Ha{m:Nat}(m0:m≠0)(s:(k.p m).st≠0)(s':(k'.p m).st=0):∀M,M<=20->(∀j,j<20->j≠m->k'.p j=k.p j)->p9 k' M+(if m<M then 1 else 0)=p9 k M
 |0,_,_=>by rw[nK];rfl
 |M+1,hM,h=>by
  have ih:=Ha m0 s s' M bB h;show p9 k' M+(if M≠0/\(k'.p M).st≠0 then 1 else 0)+_=p9 k M+(if M≠0/\(k.p M).st≠0 then 1 else 0);by_cases c:M=m
  .subst c;rw[aI (λx=>x.2 s'),nL,aJ ⟨m0,s⟩];rw[nK]at ih;omega
  .rw[h M bB c];by_cases l:m<M
   .rw[aJ l]at ih;rw[aJ (show m<M+1 by omega)];omega
   .rw[aI l]at ih;rw[aI (show¬m<M+1 by omega)];omega
theorem CG.wait(h:CG k)(kh:KH N d k){p:Nat}(nl:∀m,1<=m->m<20->lv k m=bA)(w:rA k 0 p c E k'):CG k'/\(E=0\/E=2)/\(∀m,1<=m->m<20->lv k' m=bA)/\p9 k' 20=p9 k 20-1:=by
 rcases w with⟨a,_⟩|⟨a,n,en,hn,⟨x,e,_,_,rfl⟩|⟨ne,x,_⟩|⟨e0,i,m,hi,lm,_,_,_,v⟩⟩
 .exact aZ (sD (n:=0) bB kh.l0) a
 .obtain rfl:n=0:=bB
  refine⟨h, .inr e,nl,?_⟩;have z:p9 k' 20=0:=D9 20 (aL _) (λm hm m0=>by
   by_cases s:(k'.p m).st=0
   .exact s
   .exfalso;obtain⟨q,a⟩:=kh.pp m hm m0 s;have q0:q=0:=by
     by_cases c:q=0
     .exact c
     .have:=nl q bB a.gU;rw[a.lq]at this;cases this
    obtain⟨y,oy,my,_⟩:=a.oq;rw[q0]at oy;have mm:m∈iC k' 0:=by
     have y6:=(kh.ki.vi.iv.dh bB oy).2;unfold iC iW;rw[Sp.iD (n:=0) bB oy];exact bX.2 ⟨Sp.By y6.1 y6.2 my,aO (by rw[a.pq,q0])⟩
    rw[x]at mm;cases mm)
  rw[z]
 .obtain rfl:n=0:=bB
  exfalso;obtain⟨m,hm⟩:=List.exists_mem_of_ne_nil _ ne;obtain⟨m20,m0,_⟩:=kh.Ir bB kh.l0 hm;have:=nl m bB m20;rw[x m hm]at this;cases this
 .obtain rfl:n=0:=bB
  obtain⟨m20,m0,mp,ms,_,_⟩:=kh.Ir bB kh.l0 (bK hi);have m2:(k.p m).st=2:=by
   have:=kh.ki.vi.kj.st m m20;have:(k.p m).st≠1:=λe=>by rw[dO.2 e]at lm;cases lm
   omega
  obtain⟨y,oy⟩:=kh.of m20 ms;obtain⟨_,pno,_,fP,_⟩:=kh.MF m20 m0 m2 oy v;refine⟨h.MF kh ⟨m,m20,m0,mp,m2,v⟩, .inl e0,λj j1 hj=>?_,?_⟩
  .by_cases c:j=m
   .subst c;unfold lv;rw[pno];rfl
   .unfold lv;rw[(fP j hj c).1];exact nl j j1 hj
  .have:=Ha m0 ms (by rw[pno];rfl) 20 (aL _) (λj hj c=>(fP j hj c).1);rw[aJ m20]at this;omega
theorem SC.xG(k:Kp)(z f:Int):SC k (iZ k z f):=by
 unfold iZ;split
 .exact(SC.fd k z.toNat f.toNat (-1)).trans (SC.pl rfl rfl rfl rfl rfl)
 .exact SC.refl _
theorem RY(kh:KH N d k)(hj:j<6)(g:∀i,i<j->(k.p 0).fd i= -1):∀i,i<j+1->((iZ k 0 (j:Int)).p 0).fd i= -1:=λi hi=>by
 unfold iZ;by_cases e:fk k 0 (j:Int)=0
 .rw[aJ e];show((eJ k (0:Int).toNat (j:Int).toNat (-1)).p 0).fd i= -1;rw[(Ct k _ _ _ 0).2.2.2.2];show(if i=(j:Int).toNat then(-1:Int)else(k.p 0).fd i)= -1;rw[hU];by_cases c:i=j
  .rw[aJ c]
  .rw[aI c];exact g i bB
 .rw[aI e];by_cases c:i=j
  .subst c;by_cases q:(k.p 0).fd i= -1
   .exact q
   .exfalso;apply e;unfold fk;rw[aJ (show cC k 0=0 from sD (n:=0) bB kh.l0),nK];exact aI q
  .exact g i bB
theorem PD(k:Kp)(n:Nat):Mv.cU ((dj k n 0 16).p n).mem 16=0:=by
 unfold dj;rw[aJ (show Mv.oF 0 16=0 from rfl)];show Mv.cU ((cY k n (Mv.jM (k.p n).mem 0 16) (Mv.ml (k.p n).mem k.bk 0 16)).p n).mem 16=0;rw[jj];have r:=wE (k.p n).mem (a:=0) (n:=16) rfl;have e:∀j,j<=16->Mv.mN (k.p n).mem 0 j=Mv.cU (k.p n).mem j:=λj=>by
  induction j with
  |zero=>intro _;rfl
  |succ j ih=>intro hj;show Mv.mN _ 0 j+(if(k.p n).mem.fr (0+j)=0 then 0 else 1)=Mv.cU _ j+_;rw[ih bB,Nat.zero_add]
 have e2:Mv.qa (k.p n).mem 0 16=Mv.mN (k.p n).mem 0 16:=rfl;have:=e 16 (aL _);show Mv.cU (Mv.jM (k.p n).mem 0 16) 16=0;omega
theorem CG.sy(h:CG k)(kh:KH N d k):sy k 0 0 16=0:=by
 unfold Kn.sy;rw[aJ (show Mv.oF 0 16=0 from rfl)];have r:=wE (k.p 0).mem (a:=0) (n:=16) rfl;obtain⟨_,_,_,_,u,_⟩:=h.Qx (n:=0) bB (by rw[dO.1 kh.l0];omega) (p:=0) (q:=(Mv.qa (k.p 0).mem 0 16:Int)) bB bB;exact u
theorem RC.vF(h:RC k)(n:Nat)(a m:Int):RC (dj k n a m):=by
 unfold dj;split
 .exact h.mem n (Mv.jM (k.p n).mem a m) (Mv.ml (k.p n).mem k.bk a m)
 .exact h
structure GZ (k:Kp):Prop where
 cg:CG k
 rc:RC k
 z:∀m,m<20->m≠0->(k.p m).st=0
 fd:∀i,i<6->(k.p 0).fd i= -1
 rs:Mv.cU (k.p 0).mem 16=0
theorem GZ.refs(h:GZ k)(kh:KH N d k)(f:Nat)(hf:f<24):(k.fi f).refs=0:=by
 rw[h.rc f hf];refine Ei 20 (λm hm hh j hj=>?_);by_cases c:m=0
 .subst c;rw[h.fd j hj];omega
 .have:=kh.ki.vi.kj.hs m hm hh;rw[h.z m hm c]at this;cases this
theorem GZ.open(h:GZ k)(kh:KH N d k):∀M,M<=24->Fx.cQ k.fi M=0
 |0,_=>rfl
 |M+1,hM=>by show Fx.cQ k.fi M+(if(k.fi M).refs=0 then 0 else 1)=0;rw[h.open kh M bB,aJ (h.refs kh M bB)]
theorem GZ.cK(h:GZ k)(kh:KH N d k)(a m:Nat):∀M,M<=24->Fx.cK k.fi a m M=0
 |0,_=>rfl
 |M+1,hM=>by
  show Fx.cK k.fi a m M+Fx.hit (k.fi M) a m=0;rw[h.cK kh a m M bB,show Fx.hit (k.fi M) a m=0 from aI (λx=>x.1 (h.refs kh M bB))]
theorem GZ.zc(h:GZ k)(kh:KH N d k):∀M,M<=8->Pp.cQ k.pi M=0
 |0,_=>rfl
 |M+1,hM=>by
  show Pp.cQ k.pi M+(if Pp.jL (k.pi M)then 1 else 0)=0;have a:=kh.ki.vi.kj.wx.rd M bB;have b:=kh.ki.vi.kj.wx.wt M bB;rw[h.cK kh _ _ 24 (aL _)]at a b;rw[h.zc kh M bB,aI];unfold Pp.jL;simp only[decide_eq_true_eq];omega
theorem GZ.fr(h:GZ k)(kh:KH N d k){m x:Nat}(hm:m<20)(hx:x<16):(k.p m).mem.fr x=0:=by
 have r:Mv.cU (k.p m).mem 16=0:=by
  by_cases c:m=0
  .rw[c];exact h.rs
  .have hh:(k.p m).has=bA:=by
    cases e:(k.p m).has
    .rfl
    .have:=kh.ki.vi.kj.hs m hm e;rw[h.z m hm c]at this;cases this
   rw[kh.ki.vi.kj.nm m hm hh];rfl
 have key:∀j,j<=16->Mv.cU (k.p m).mem j=0->∀x,x<j->(k.p m).mem.fr x=0:=λj=>by
  induction j with
  |zero=>intro _ _ x hx;omega
  |succ j ih=>
   intro hj e x hx;have e:Mv.cU (k.p m).mem j+(if(k.p m).mem.fr j=0 then 0 else 1)=0:=e;by_cases c:x=j
   .subst c;by_cases q:(k.p m).mem.fr x=0
    .exact q
    .rw[aI q]at e;omega
   .exact ih bB bB x bB
 exact key 16 (aL _) r x hx
theorem GZ.left(h:GZ k)(kh:KH N d k):Bd.left k.bk.cX=64:=by
 rw[<-Mv.Ks kh.ki.vi.kj.me];have t:∀f M,M<=20->Mv.oD (λn=>(k.p n).mem) f M=0:=λf M=>by
  induction M with
  |zero=>intro _;rfl
  |succ M ih=>intro hM;show Mv.oD _ f M+Mv.eS (k.p M).mem.fr f 16=0;rw[ih bB,Mv.rF f 16 (λx hx=>h.fr kh bB hx)]
 have c:∀M,M<=64->Mv.Al k.bk M=M:=λM=>by
  induction M with
  |zero=>intro _;rfl
  |succ M ih=>intro hM;show Mv.Al k.bk M+(if k.bk.refs M=0 then 1 else 0)=M+1;rw[ih bB,aJ (by rw[kh.ki.vi.kj.me.ref M bB];exact t M 20 (aL _))]
 exact c 64 (aL _)
theorem GZ.live(h:GZ k)(kh:KH N d k):gA k 20=[0]:=by
 unfold gA;rw[List.filter_congr (q:=λm=>decide (m=0)) (λm hm=>?_)]
 .rfl
 .unfold lv;by_cases c:m=0
  .rw[c,dO.1 kh.l0];rfl
  .rw[h.z m (by simpa using hm) c];simp[c]
theorem GZ.all(h:GZ k)(kh:KH N d k):Sp.all k.sp=[0]:=by
 unfold Sp.all;rw[List.filter_congr (q:=λs=>decide (s=0)) (λs hs=>?_)]
 .rfl
 .have s6:s<6:=by simpa using hs
  by_cases c:s=0
  .rw[c,kh.ki.vi.iv.tree.root.1];rfl
  .rw[aT c];cases e:k.sp.here s
   .rfl
   .exfalso;obtain⟨x,x20,_,xo⟩:=kh.ki.vi.hs.hd s s6 e;have st:=(kh.ki.vi.kj.of x x20).1 bB;by_cases x0:x=0
    .subst x0;have:=kh.ki.vi.hs.r0.1;omega
    .exact st (h.z x x20 x0)
theorem GZ.cD(h:GZ k)(kh:KH N d k):∃g:Nat,(k.p 0).cD=g/\g<10/\(k.gr g).there=bw/\∀(Wy:Nat->List (Fin 10)) (n:Int),Gr.cT k.gr Wy n Gr.Gp.oq 10=0/\Gr.cT k.gr Wy n Gr.Gp.op 10=if Gr.mZ Wy g n=bw then 1 else 0:=by
 obtain⟨g,eg,g10,th⟩:=h.cg.th 0 bB (by rw[dO.1 kh.l0];omega);refine⟨g,eg,g10,th,λWy n=>?_⟩;have s1:(k.p 0).st≠0:=by rw[dO.1 kh.l0];omega
 have key:∀i,i<10->(k.gr i).op=(if i=g then 1 else 0)/\(k.gr i).oq=0:=λi hi=>by
  have a:∀M,M<=20->sm (λm=>cp (k.p m) i) M=(if 0<M/\i=g then 1 else 0)/\sm (λm=>cq (k.p m) i) M=0:=λM=>by
   induction M with
   |zero=>intro _;exact⟨by rw[aI (λx=>bB)];rfl,rfl⟩
   |succ M ih=>
    intro hM;have ih:=ih bB;show sm (λm=>cp (k.p m) i) M+cp (k.p M) i=_/\sm (λm=>cq (k.p m) i) M+cq (k.p M) i=0;rw[ih.1,ih.2];by_cases c:M=0
    .subst c;rw[aI (λx=>bB)];have q:cq (k.p 0) i=0:=by unfold cq;rw[h.rs];split<;>rfl
     rw[q];refine⟨?_,rfl⟩;unfold cp;by_cases e:i=g
     .rw[aJ ⟨s1,by rw[eg,e]⟩,aJ ⟨by omega,e⟩];rfl
     .rw[aI (λx=>e (by have:=x.2;omega)),aI (λx=>e x.2)];rfl
    .have z0:=h.z M bB c;rw[show cp (k.p M) i=0 from aI (λx=>x.1 z0),show cq (k.p M) i=0 from aI (λx=>x.1 z0)];refine⟨?_,rfl⟩;by_cases e:i=g
     .rw[aJ ⟨by omega,e⟩,aJ ⟨by omega,e⟩];rfl
     .rw[aI (λx=>e x.2),aI (λx=>e x.2)];rfl
  have b:=a 20 (aL _);rw[h.cg.op i hi,h.cg.oq i hi,b.1,b.2];by_cases e:i=g
  .rw[aJ ⟨by omega,e⟩,aJ e];exact⟨rfl,rfl⟩
  .rw[aI (λx=>e x.2),aI e];exact⟨rfl,rfl⟩
 have t:∀M,M<=10->Gr.cT k.gr Wy n Gr.Gp.oq M=0/\Gr.cT k.gr Wy n Gr.Gp.op M=if g<M/\Gr.mZ Wy g n=bw then 1 else 0:=λM=>by
  induction M with
  |zero=>intro _;exact⟨rfl,by rw[aI (λx=>bB)];rfl⟩
  |succ M ih=>
   intro hM;have ih:=ih bB;have kM:=key M bB;show Gr.cT k.gr Wy n Gr.Gp.oq M+(if Gr.mZ Wy M n=bw then(k.gr M).oq else 0)=0/\Gr.cT k.gr Wy n Gr.Gp.op M+(if Gr.mZ Wy M n=bw then(k.gr M).op else 0)=_;rw[ih.1,ih.2,kM.1,kM.2];refine⟨by split<;>rfl,?_⟩;by_cases e:M=g
   .subst e;rw[aI (λx=>bB),aJ rfl];by_cases u:Gr.mZ Wy M n=bw
    .rw[aJ u,aJ ⟨by omega,u⟩];rfl
    .rw[aI u,aI (λx=>u x.2)];rfl
   .rw[aI e];have:(if Gr.mZ Wy M n=bw then(0:Int)else 0)=0:=by split<;>rfl
    rw[this];by_cases u:g<M/\Gr.mZ Wy g n=bw
    .rw[aJ u,aJ ⟨by omega,u.2⟩];rfl
    .rw[aI u,aI (λx=>u ⟨by omega,x.2⟩)];rfl
 have r:=t 10 (aL _);refine⟨r.1,r.2.trans ?_⟩;by_cases u:Gr.mZ Wy g n=bw
 .rw[aJ u,aJ ⟨g10,u⟩]
 .rw[aI u,aI (λx=>u x.2)]
theorem GZ.of(cg:CG k)(rc:RC k)(kh:KH N d k)(z:∀m,m<20->m≠0->(k.p m).st=0)(fd:∀i,i<6->(k.p 0).fd i= -1):GZ (dj k 0 0 16):=⟨cg.vF bB (by rw[dO.1 kh.l0];omega) _ _,rc.vF _ _ _,λm hm m0=>by rw[(pR k 0 0 16 m).2.2.1];exact z m hm m0,λi hi=>by rw[(pR k 0 0 16 0).1];exact fd i hi,PD k 0⟩
end
end Kn
namespace Gr
theorem Way.zero{t:Nat->Gp}{Wy:Nat->List (Fin 10)}{c:Nat}(h:Tree t Wy c):∀{L:List Nat} {g:Int},Way t g L->valid t g->0∈L
 |[],_,a,v=>aZ v a
 |x::_,_,⟨_,x10,xt,a⟩,_=>by
  by_cases x0:x=0
  .rw[x0];exact List.mem_cons_self
  .obtain⟨m,e,m10,mt⟩:=h.par x x10 xt x0;exact List.mem_cons_of_mem _ (Way.zero h a (by rw[e];exact⟨by omega,bB,mt⟩))
theorem Tree.VU{t:Nat->Gp}{c:Nat}(h:Tree t Wy c)(hg:g<10)(th:(t g).there=bw):mZ Wy g 0=bw:=by
 have a:=Way.zero h (h.ways g hg) ⟨by omega,bB,th⟩;obtain⟨y,hy,e⟩:=List.mem_map.1 a;exact AR.2 ⟨y,hy,by rw[e];rfl⟩
theorem Tree.VV{t:Nat->Gp}{c:Nat}(h:Tree t Wy c){n:Nat}(n0:n≠0):mZ Wy 0 n=bA:=by
 cases e:mZ Wy 0 n
 .rfl
 .obtain⟨x,hx,q⟩:=AR.1 e;rw[PJ h]at hx;have:x.val=0:=by rw[List.mem_singleton.1 hx]
  omega
end Gr
namespace Kn
section
variable {N:Nat}{d:Nat->Nat}{k:Kp}
theorem GZ.Vd(h:GZ k)(kh:KH N d k):∃(g:Nat) (Wy:Nat->List (Fin 10)),(k.p 0).cD=g/\Gr.eW k.gr Wy/\Gr.cT k.gr Wy 0 Gr.Gp.op 10=1/\(∀n:Int,Gr.cT k.gr Wy n Gr.Gp.oq 10=0)/\∀n:Nat,n≠0->Gr.cT k.gr Wy n Gr.Gp.op 10=0\/Gr.cT k.gr Wy n Gr.Gp.op 10=1/\g≠0:=by
 obtain⟨g,eg,g10,th,t⟩:=h.cD kh;obtain⟨Wy,tr⟩:=kh.ki.vi.kj.gr;refine⟨g,Wy,eg,tr.ways,by rw[(t Wy 0).2,tr.VU g10 th];rfl,λn=>(t Wy n).1,λn n0=>?_⟩;rw[(t Wy n).2];by_cases u:Gr.mZ Wy g n=bw
 .rw[aJ u];refine .inr ⟨rfl,λc=>?_⟩;rw[c,tr.VV n0]at u;cases u
 .rw[aI u];exact .inl rfl
end
end Kn
def Kn.mK(t:Nat->Gr.Gp)(Wy:Nat->List (Fin 10))(z:Int)(j:Nat):Int:=if Gr.wr t z=0 then(if j=0 then(t z.toNat).par else if j=1 then(t z.toNat).lp else if j=2 then(t z.toNat).lq else if j=3 then Gr.cT t Wy z Gr.Gp.op 10 else Gr.cT t Wy z Gr.Gp.oq 10)else 0
section
variable (Wr:Nat)(s:St)(w:bD)
theorem yX(z:Int)(h:bP w Wr s)(hW:Gr.eW s.k.gr Wy)(hS:Gr.Small s.k.gr):Calls prog 11 #[ai (bj ⟨s.A 0,0,bu⟩),aa az z] w λe w'=>e=bf (ao #[.agg #[aa az (Kn.mK s.k.gr Wy z 0),aa az (Kn.mK s.k.gr Wy z 1),aa az (Kn.mK s.k.gr Wy z 2),aa az (Kn.mK s.k.gr Wy z 3),aa az (Kn.mK s.k.gr Wy z 4)],bN (Gr.wr s.k.gr z)])/\Below w.heap.size w w':=by
 have G:Hid (∀V,Below w.heap.size w V->Calls prog 40 #[ai (bj ⟨s.A 2,0,bu⟩),aa az z] V λe w'=>e=bf (ao #[.agg #[aa az (Kn.mK s.k.gr Wy z 0),aa az (Kn.mK s.k.gr Wy z 1),aa az (Kn.mK s.k.gr Wy z 2),aa az (Kn.mK s.k.gr Wy z 3),aa az (Kn.mK s.k.gr Wy z 4)],bN (Gr.wr s.k.gr z)])/\Below V.heap.size V w'):=hZ (λV b=>by
  unfold Kn.mK;by_cases c:Gr.wr s.k.gr z=0
  .obtain⟨n,rfl,hn,hh⟩:=Gr.pd c;simp only[c,if_true];exact Gr.U2 (s.A 2) n s.k.gr Wy V (h.below b).gr hW hS hn hh
  .simp only[c,if_false];exact Gr.Ud (s.A 2) z s.k.gr V (h.below b).gr c)
 have C2:Hid (∀V,Below w.heap.size w V->V.cell? ⟨s.A 0,247,bu⟩=bj (ai (bj ⟨s.A 2,0,bu⟩))):=hZ (λV b=>(h.below b).pG);generalize Kn.mK s.k.gr Wy z=g at*;generalize bN (Gr.wr s.k.gr z)=ev at*;generalize s.A 0=kb at*;generalize s.A 2=a2 at*;go_in
 go_upto_region 1 with fail
 refine cM (λW=>Below w.heap.size w W/\W.heap[w.heap.size]? =bj (bh #[aa az 0,aa az 0,aa az 0,aa az 0,aa az 0] 31 (0,0))) ⟨(aQ _ _).alloc (aL _) _,heap_alloc_new w _⟩ ?_;rintro W ⟨b,hb⟩;have B:=hZ (aK b hb);have c2:=C2.v W b;have GV:=hZ (G.v W b);go_wp2_with fail
 refine sC GV.v ?_;rintro w1 b1;have hb:=(b1.block _ (aX.1 B.2).1).trans B.2;obtain⟨ba,eb⟩:=nJ (w.heap.size);have F:Hid (Below w.heap.size w w1/\w.heap.size<=ba/\ba<w1.heap.size):=hZ ⟨B.1.trans (b1.mono B.1.size),bB,by rw[<-eb];exact(aX.1 hb).1⟩;rw[eb]at hb|-;have z0:w1.cell? ⟨ba,0,bu⟩=bj (aa .i64 0):=by rw[bS hb];rfl
 have z1:w1.cell? ⟨ba,1,bu⟩=bj (aa .i64 0):=by rw[bS hb];rfl
 have z2:w1.cell? ⟨ba,2,bu⟩=bj (aa .i64 0):=by rw[bS hb];rfl
 have z3:w1.cell? ⟨ba,3,bu⟩=bj (aa .i64 0):=by rw[bS hb];rfl
 have z4:w1.cell? ⟨ba,4,bu⟩=bj (aa .i64 0):=by rw[bS hb];rfl
 have fz:=cE hb;go_wp2_with fail
 exact bodyPost_ret (v:=ao #[.agg #[aa az (g 0),aa az (g 1),aa az (g 2),aa az (g 3),aa az (g 4)],ev]) (by simp[results,Tryz.results11,go_sem,z0,z1,z2,z3,z4]) rfl ⟨rfl,((((((bH.refl ba w1).setCell 0 (aa az (g 0))).setCell 1 (aa az (g 1))).setCell 2 (aa az (g 2))).setCell 3 (aa az (g 3))).setCell 4 (aa az (g 4))).below F.1 F.2.1 (aH F.2.1 (bI F.2.2))⟩
theorem RB(z:Int)(h:bP w Wr s):Calls prog 30 #[ai (bj ⟨s.A 0,0,bu⟩),aa az z] w λe w'=>e=bf (ao #[aa az (if Kn.cC s.k z=0 then(s.k.p z.toNat).cD else 0),bN (Kn.cC s.k z)])/\w'=w:=by
 have AC:=hZ (dP Wr s w z h);by_cases a:Kn.cC s.k z=0
 .obtain⟨n,rfl,hn,l⟩:=Kn.fL a;have cg:=h.pU n hn;have hnI:(n:Int)<20:=bB
  rw[aJ a,a,bF,hU];rw[a,bF,ie]at AC;generalize (s.k.p n).cD=g at*;generalize s.A 0=kb at*;go_in
  go_wp2_with fail
  refine cG AC.v ?_;go_wp2
  go_ret2
  exact⟨rfl,rfl⟩
 .rw[aI a,bM a];rw[bM a]at AC;generalize gO (s.A 0) z (Kn.cC s.k z)=ap at*;generalize Kn.cC s.k z=ae at*;generalize s.A 0=kb at*;go_in
  go_wp2_with fail
  refine cG AC.v ?_;go_wp2
  go_ret2
  exact⟨rfl,rfl⟩
theorem IZ(h:bP w Wr s)(hj:KJ (λ_=>False) N s.k):Calls prog 31 #[ai (bj ⟨s.A 0,0,bu⟩)] w λe w'=>e=bf (aa az (Bd.left s.k.bk.cX:Int))/\Below w.heap.size w w':=by
 have L:=hZ (MI (s.A 4) (s.A 5) s.k.bk w h.bk hj.me.inv.le);have c:=h.Vr;generalize s.A 0=kb at*;generalize s.A 4=a4 at*;generalize (Bd.left s.k.bk.cX:Int)=lf at*;go_in
 go_wp2_with fail
 refine sC L.v ?_;rintro w1 b;have B:=hZ b;go_wp2
 go_ret
 exact⟨rfl,B.v⟩
theorem Fz(h:bP w Wr s):Calls prog 29 #[ai (bj ⟨s.A 0,0,bu⟩)] w λe w'=>∃n:Int,e=bf (ao #[aa az n,aa az (Pp.cQ s.k.pi 8:Int),aa az (Fx.cQ s.k.fi 24:Int)])/\∃j,w'=w.drewN j:=by
 have A:=hZ (λq=>JF (s.A 6) s.k.fo (w.drewN q) (h.drewN q).fo);have B:=hZ (λq=>Jl (s.A 7) s.k.pi (w.drewN q) (h.drewN q).pi);have C:=hZ (λq=>Cb (s.A 8) (s.A 6) (s.A 7) s.k.fi (w.drewN q) (h.drewN q).fi);have c1:=h.uI;have c2:=h.V7;have c3:=h.sF;generalize s.A 0=kb at*;generalize s.A 6=a6 at*;generalize s.A 7=a7 at*;generalize s.A 8=a8 at*;generalize (Tr.tH s.k.fo 40:Int)=x at*;generalize (Pp.cQ s.k.pi 8:Int)=y at*;generalize (Fx.cQ s.k.fi 24:Int)=z at*;go_in
 go_wp2_with fail
 go_quiet ((first|(go_at_call 79;exact Calls.quiet_of_same (A.v _))|(go_at_call 80;exact Calls.quiet_of_same (B.v _))|(go_at_call 81;exact Calls.quiet_of_same (C.v _))))
 go_wp2
 go_ret3
 exact⟨x,rfl,_,rfl⟩
end
def wL(W:bD)(b:Nat)(n m e:Int)(t:bU):Prop:=W.heap[b]? =bj (bh #[aa az n,aa az m,aa az e,ak t] 38 (0,0))
theorem wL.lt{W:bD}(h:wL W b n m e t):b<W.heap.size:=(aX.1 h).1
structure AW (Wr:Nat)(s:St)(w:bD)(c:Nat)(s1:St)(n m:Int)(t:bU)(W:bD):Prop where
 kk:bP W Wr s1
 kf:KF s w s1 W
 a4:wL W c 0 0 0 ⟨#[]⟩
 a5:wL W (c+1) n m 0 t
 n4:¬KB s1 c
 n5:¬KB s1 (c+1)
 ge:w.heap.size<=c
section
variable {Wr c:Nat}{s s1 s2:St}{w W W2:bD}{n m:Int}{t:bU}
theorem AW.step(h:AW Wr s w c s1 n m t W)(k:bP W2 Wr s2)(f:KF s1 W s2 W2):AW Wr s w c s2 n m t W2:=
 ⟨k,h.kf.trans f,(f.jP h.a4.lt h.n4).trans h.a4,(f.jP h.a5.lt h.n5).trans h.a5,f.apart h.a4.lt h.n4,f.apart h.a5.lt h.n5,h.ge⟩
theorem AW.set(h:AW Wr s w c s1 n m t W)(j:Nat)(v:Value){n' m':Int}{t':bU}(e:wL (W.setCell ⟨c+1,j,bu⟩ v) (c+1) n' m' 0 t'):AW Wr s w c s1 n' m' t' (W.setCell ⟨c+1,j,bu⟩ v):=by
 have f:bH (c+1) W (W.setCell ⟨c+1,j,bu⟩ v):=(bH.refl _ _).setCell _ _;exact⟨h.kk.fresh f h.n5,h.kf.fresh f (by have:=h.ge;omega),(f.block c h.a4.lt bB).trans h.a4,e,h.n4,h.n5,h.ge⟩
theorem AW.kT(h:AW Wr s w c s1 n m t W)(x:Int):AW Wr s w c s1 x m t (W.setCell ⟨c+1,0,bu⟩ (aa az x)):=h.set 0 _ (by unfold wL;rw[cO h.a5 0];rfl)
theorem AW.Eu(h:AW Wr s w c s1 n m t W)(x:Int):AW Wr s w c s1 n x t (W.setCell ⟨c+1,1,bu⟩ (aa az x)):=h.set 1 _ (by unfold wL;rw[cO h.a5 1];rfl)
theorem AW.mf(h:AW Wr s w c s1 n m t W)(x:bU):AW Wr s w c s1 n m x (W.setCell ⟨c+1,3,bu⟩ (ak x)):=h.set 3 _ (by unfold wL;rw[cO h.a5 3];rfl)
theorem AW.below(h:AW Wr s w c s1 n m t W)(b:Below W.heap.size W W2):AW Wr s w c s1 n m t W2:=h.step (h.kk.below b) (KF.below b)
end
theorem wL.at{W:bD}(h:wL W b n m e t)(j:Nat)(v:Value)(hv:(#[aa az n,aa az m,aa az e,ak t]:Array Value)[j]? =bj v):W.cell? ⟨b,j,bu⟩=bj v:=by rw[bS h];exact hv
theorem AW.fin{c:Nat}{W:bD}(h:AW Wr s w c s1 n m t W)(E:Int):bP (((((W.setCell ⟨c+1,2,bu⟩ (aa az E)).setCell ⟨c,0,bu⟩ (aa az n)).setCell ⟨c,1,bu⟩ (aa az m)).setCell ⟨c,2,bu⟩ (aa az E)).setCell ⟨c,3,bu⟩ (ak t)) Wr s1/\KF s w s1 (((((W.setCell ⟨c+1,2,bu⟩ (aa az E)).setCell ⟨c,0,bu⟩ (aa az n)).setCell ⟨c,1,bu⟩ (aa az m)).setCell ⟨c,2,bu⟩ (aa az E)).setCell ⟨c,3,bu⟩ (ak t)):=by
 have f:bH (c+1) W (W.setCell ⟨c+1,2,bu⟩ (aa az E)):=(bH.refl _ _).setCell _ _;have g:bH c (W.setCell ⟨c+1,2,bu⟩ (aa az E)) (((((W.setCell ⟨c+1,2,bu⟩ (aa az E)).setCell ⟨c,0,bu⟩ (aa az n)).setCell ⟨c,1,bu⟩ (aa az m)).setCell ⟨c,2,bu⟩ (aa az E)).setCell ⟨c,3,bu⟩ (ak t)):=((((bH.refl _ _).setCell _ _).setCell _ _).setCell _ _).setCell _ _;have:=h.ge;exact⟨(h.kk.fresh f h.n5).fresh g h.n4,(h.kf.fresh f bB).fresh g h.ge⟩
def Ba(W:bD)(b:Nat)(x:fU):Prop:=W.heap[b]? =bj (bh #[ak x.kind,aa az x.a,aa az x.b,aa az x.c,aa bd x.key,ar x.on,ak x.s,ak x.t] 29 (0,0))
theorem Ba.at{W:bD}{x:fU}(h:Ba W b x)(j:Nat)(hj:j<8):W.cell? ⟨b,j,bu⟩=bj (x.cell j):=by
 rw[bS h]
 match j,hj with
 |0,_=>rfl
 |1,_=>rfl
 |2,_=>rfl
 |3,_=>rfl
 |4,_=>rfl
 |5,_=>rfl
 |6,_=>rfl
 |7,_=>rfl
theorem AW.start(h:bP w Wr s)(x:fU):AW Wr s w (w.heap.size+1) s 0 0 ⟨#[]⟩ (((w.alloc (bh #[ak x.kind,aa az x.a,aa az x.b,aa az x.c,aa bd x.key,ar x.on,ak x.s,ak x.t] 29)).alloc (bh #[aa az 0,aa az 0,aa az 0,ak ⟨#[]⟩] 38)).alloc (bh #[aa az 0,aa az 0,aa az 0,ak ⟨#[]⟩] 38))/\Ba (((w.alloc (bh #[ak x.kind,aa az x.a,aa az x.b,aa az x.c,aa bd x.key,ar x.on,ak x.s,ak x.t] 29)).alloc (bh #[aa az 0,aa az 0,aa az 0,ak ⟨#[]⟩] 38)).alloc (bh #[aa az 0,aa az 0,aa az 0,ak ⟨#[]⟩] 38)) w.heap.size x:=by
 have z1:(w.alloc (bh #[ak x.kind,aa az x.a,aa az x.b,aa az x.c,aa bd x.key,ar x.on,ak x.s,ak x.t] 29)).heap.size=w.heap.size+1:=by simp
 have z2:((w.alloc (bh #[ak x.kind,aa az x.a,aa az x.b,aa az x.c,aa bd x.key,ar x.on,ak x.s,ak x.t] 29)).alloc (bh #[aa az 0,aa az 0,aa az 0,ak ⟨#[]⟩] 38)).heap.size=w.heap.size+1+1:=by simp
 have b1:=(aQ w.heap.size w).alloc (aL _) (bh #[ak x.kind,aa az x.a,aa az x.b,aa az x.c,aa bd x.key,ar x.on,ak x.s,ak x.t] 29);have c2:=(aQ (w.alloc (bh #[ak x.kind,aa az x.a,aa az x.b,aa az x.c,aa bd x.key,ar x.on,ak x.s,ak x.t] 29)).heap.size (w.alloc (bh #[ak x.kind,aa az x.a,aa az x.b,aa az x.c,aa bd x.key,ar x.on,ak x.s,ak x.t] 29))).alloc (aL _) (bh #[aa az 0,aa az 0,aa az 0,ak ⟨#[]⟩] 38);have c3:=(aQ ((w.alloc (bh #[ak x.kind,aa az x.a,aa az x.b,aa az x.c,aa bd x.key,ar x.on,ak x.s,ak x.t] 29)).alloc (bh #[aa az 0,aa az 0,aa az 0,ak ⟨#[]⟩] 38)).heap.size ((w.alloc (bh #[ak x.kind,aa az x.a,aa az x.b,aa az x.c,aa bd x.key,ar x.on,ak x.s,ak x.t] 29)).alloc (bh #[aa az 0,aa az 0,aa az 0,ak ⟨#[]⟩] 38))).alloc (aL _) (bh #[aa az 0,aa az 0,aa az 0,ak ⟨#[]⟩] 38);have B:=b1.trans ((c2.trans (c3.mono (by rw[z1,z2];omega))).mono b1.size);have h1:=heap_alloc_new w (bh #[ak x.kind,aa az x.a,aa az x.b,aa az x.c,aa bd x.key,ar x.on,ak x.s,ak x.t] 29);have h2:=heap_alloc_new (w.alloc (bh #[ak x.kind,aa az x.a,aa az x.b,aa az x.c,aa bd x.key,ar x.on,ak x.s,ak x.t] 29)) (bh #[aa az 0,aa az 0,aa az 0,ak ⟨#[]⟩] 38)
 have h3:=heap_alloc_new ((w.alloc (bh #[ak x.kind,aa az x.a,aa az x.b,aa az x.c,aa bd x.key,ar x.on,ak x.s,ak x.t] 29)).alloc (bh #[aa az 0,aa az 0,aa az 0,ak ⟨#[]⟩] 38)) (bh #[aa az 0,aa az 0,aa az 0,ak ⟨#[]⟩] 38);rw[z1]at h2;rw[z2]at h3;exact⟨⟨h.below B,KF.below B,(c3.block _ (by rw[z2];omega)).trans h2,h3,h.ja bB,h.ja bB,bB⟩,(c3.block _ (by rw[z2];omega)).trans ((c2.block _ (by rw[z1];omega)).trans h1)⟩
theorem Mv.RQ(m:Mv.Me)(a n:Int)(w:Bool):(Mv.mapM m a n w).fr=m.fr:=by unfold Mv.mapM;split<;>rfl
theorem Mv.Sc(m:Mv.Me)(a n:Int)(w:Bool):(Mv.vm m a n w).fr=m.fr:=by unfold Mv.vm;split<;>rfl
theorem AW.VE{c:Nat}{W:bD}(h:AW Wr s w c s1 n m t W)(a b e:Int)(u:bU):bP ((((W.setCell ⟨c,0,bu⟩ (aa az a)).setCell ⟨c,1,bu⟩ (aa az b)).setCell ⟨c,2,bu⟩ (aa .i64 e)).setCell ⟨c,3,bu⟩ (ak u)) Wr s1/\KF s w s1 ((((W.setCell ⟨c,0,bu⟩ (aa az a)).setCell ⟨c,1,bu⟩ (aa az b)).setCell ⟨c,2,bu⟩ (aa .i64 e)).setCell ⟨c,3,bu⟩ (ak u)):=
 have g:=((((bH.refl c W).setCell 0 (aa az a)).setCell 1 (aa az b)).setCell 2 (aa .i64 e)).setCell 3 (ak u)
 ⟨h.kk.fresh g h.n4,h.kf.fresh g h.ge⟩

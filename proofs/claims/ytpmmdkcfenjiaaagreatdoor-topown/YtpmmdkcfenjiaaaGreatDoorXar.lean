import Derived.Test.YtpmmdkcfenjiaaaGreatDoorXaq
set_option maxRecDepth 100000
set_option maxHeartbeats 400000
set_option linter.unusedVariables false
set_option linter.unusedSimpArgs false
namespace Go.Proofs.YtpmmdkcfenjiaaaGreatDoor
open Value renaming int->aa,slice->aj,string->ak,bool->ar
open IntKind renaming i64->bf,u8->bh,u64->bj
open Obj renaming cells->bA
open Option renaming some->bB,none->bC
open Bool renaming true->bE,false->bF
open Tryz (prog)
open Go.RowKit
open Fx (Fi)
open Tr (Fo Nd)
open Pp (Pi)
open Mo (Wh Mt)
open Mv (Me Bk)
open Kn (Pr Kp St us KB KJ VI EI KH)
variable {li on:Bool}{E a e m q z:Int}{k k':Kp}{D:Kp->Nat->Int->Kp->Prop}{m':Me}{N' VK b c g j n y:Nat}{d':Nat->Nat}{fl:Nat->Nat->Int}{s s' s1:St}{v:Value}{w:bD}{t:bU}
namespace Kn
end Kn
theorem J1(a:Option Addr)(b o n c:Nat)(m:Int)(ax:Nat->fp)(w:bD)(hn:(n:Int)<=m)(hm:n<=1000)(ha:0<n->a=bB ⟨b,o,bC⟩)(h:∀i,i<n->∀j,j<8->w.cell? ⟨b,o+i*8+j,bC⟩=bB ((ax i).cell j)):
  Calls prog 10 #[aj a n c,aa bf m] w λe w'=>∃v:Bool,e= .returned (ar v)/\zN ax n 80 (ar v)/\w'=w:=by
 have d:decide ((n:Int)<=m)=bE:=by simp;omega
 have LT:=hJ (IK a b o n c 80 ax w hm ha h);go_in
 go_wp2_with fail
 refine(Bj _ _ _ _ _).mono ?_;rintro e w1 ⟨rfl,hw⟩;subst w1;rw[d];go_wp2_with fail
 refine LT.mono ?_;rintro e w1 ⟨v,rfl,ht,hw⟩;subst w1;have HT:=hJ ht;rcases ht with rfl|⟨rfl,_⟩
 .go_wp2
  go_ret
  exact⟨bF,rfl,HT.v,rfl⟩
 .go_wp2
  go_ret
  exact⟨bE,rfl,HT.v,rfl⟩
namespace Kn
section
variable {N:Nat}{d:Nat->Nat}{k k' k1:Kp}{n:Nat}
theorem Ax(k:Kp)(n:Nat)(fd:Nat->Int):∀j,(dL k n fd j).gr=k.gr
 |0=>rfl
 |j+1=>by
  show(if fd j= -1 then dL k n fd j else fS (jJ (dL k n fd j) (fd j)) n j (-1):Kp).gr=_;split
  .exact Ax k n fd j
  .exact Ax k n fd j
end
end Kn
namespace Kn
theorem Kp.same{a b:Kp}(h:∀m,a.p m=b.p m)(hr:({a with p:=b.p}:Kp)=b):a=b:=by
 have e:a.p=b.p:=funext h;rw[<-hr,<-e]
theorem gO(k:Kp)(n:Nat)(x y:Pr):(k.put n x).put n y=k.put n y:=by
 unfold Kp.put;congr 1;funext m;by_cases c:m=n
 .simp[c]
 .simp[c]
section
variable {N:Nat}{d:Nat->Nat}{k k' k1:Kp}{n:Nat}{L:Nat->Nat}{rd:Nat->Bool}
theorem RV(k:Kp)(n:Nat)(X:Nat->Sg.S1)(a m:Int):dz (dy k n X) n a m=dy (dz k n a m) n X:=by
 have e:(dy k n X).p n={k.p n with box:=X}:=bR _ _ _;unfold dz;rw[e];by_cases c:Mv.kF a m=0
 .rw[aJ c,aJ c];unfold cV;rw[e];refine Kp.same (λq=>?_) rfl;unfold dy;by_cases c:q=n
  .subst c;rw[bR,bR];show _={((k.put q {k.p q with mem:=Mv.j7 (k.p q).mem a m}).p q)with box:=X};rw[bR]
  .rw[cr _ _ _ _ c,cr _ _ _ _ c,cr _ _ _ _ c];exact(cr k n q {k.p n with mem:=Mv.j7 (k.p n).mem a m} c).symm
 .rw[aI c,aI c]
theorem Ej(k:Kp)(n:Nat)(X:Nat->Sg.S1)(fd:Nat->Int):∀j,dL (dy k n X) n fd j=dy (dL k n fd j) n X
 |0=>rfl
 |j+1=>by
  have ih:=Ej k n X fd j;show(if fd j= -1 then dL (dy k n X) n fd j else fS (jJ (dL (dy k n X) n fd j) (fd j)) n j (-1):Kp)=dy (if fd j= -1 then dL k n fd j else fS (jJ (dL k n fd j) (fd j)) n j (-1)) n X;by_cases c:fd j= -1
  .rw[aJ c,aJ c];exact ih
  .rw[aI c,aI c,ih];generalize dL k n fd j=q;unfold fS dy;rw[bR];have e:(jJ (q.put n {q.p n with box:=X}) (fd j)).p n={q.p n with box:=X}:=bR _ _ _;rw[e];have e2:jJ (q.put n {q.p n with box:=X}) (fd j)=(jJ q (fd j)).put n {q.p n with box:=X}:=rfl;rw[e2,gO,gO];rfl
theorem gA.box{X:Nat->Sg.S1}(h:gA (dy k n X) n k1):gA k n k1:=by
 obtain⟨m',dt,rfl⟩:=h;refine⟨m',dt,?_⟩;have e:(dy k n X).p n={k.p n with box:=X}:=bR _ _ _;unfold qK;dsimp only;rw[RV,e,Ej];generalize dL (dz k n 0 16) n _ 6=q;have e2:(dy q n X).p n={q.p n with box:=X}:=bR _ _ _;rw[e2];have e3:({dy q n X with sc:=m'}:Kp)=({q with sc:=m'}:Kp).put n {q.p n with box:=X}:=rfl;rw[e3,gO]
theorem lS.box{X:Nat->Sg.S1}{c:Int}{z q:Nat}(e:lS (dy k n X) n c z q k'):lS k n c z q k':=by
 obtain⟨k1,k3,s1,mt,rfl⟩:=e;exact⟨k1,k3,s1.box,mt,rfl⟩
end
end Kn
namespace Kn
section
variable {N:Nat}{d:Nat->Nat}{k k' k1:Kp}{n:Nat}{L:Nat->Nat}{rd:Nat->Bool}
theorem O9(k:Kp)(n:Nat)(X:Nat->Sg.S1)(m:Nat):((dy k n X).p m).st=(k.p m).st/\((dy k n X).p m).par=(k.p m).par/\((dy k n X).p m).cJ=(k.p m).cJ/\((dy k n X).p m).fd=(k.p m).fd/\((dy k n X).p m).has=(k.p m).has/\((dy k n X).p m).code=(k.p m).code:=by
 unfold dy;by_cases c:m=n
 .subst c;rw[bR];exact⟨rfl,rfl,rfl,rfl,rfl,rfl⟩
 .rw[cr _ _ _ _ c];exact⟨rfl,rfl,rfl,rfl,rfl,rfl⟩
theorem KH.bx(kh:KH N d k)(n:Nat){X:Nat->Sg.S1}(hX:n<20->lv k n=bE->hd k n≠n->Sg.fw X 0 0):KH N d (dy k n X):=
 kh.nT (kh.ki.box n hX) rfl (λm=>⟨(O9 k n X m).1,(O9 k n X m).2.1⟩)
end
end Kn
namespace Kn
section
variable {N n y q:Nat}{d:Nat->Nat}{k k':Kp}{z:Int}{v:Value}{E:Int}
theorem KH.US(h:KH N d k)(hn:n<20)(n0:n≠0)(l:lv k n=bE)(yq:YQ k n y q){X:Nat->Sg.S1}(e:vL (dy k n X) n y q k'):KH N d k':=by
 obtain⟨m,f,⟨rfl,rfl⟩|⟨_,e⟩⟩:=e
 .have f:Sg.fw ((dy k n X).p n).box 0 0:=f;unfold dy at f;rw[bR]at f;exact h.bx n (λ_ _ _=>f)
 .exact h.end hn n0 l yq.1 (yq.2 n0) e.box
theorem KH.Tf(h:KH N d k)(hn:n<20)(l:lv k n=bE)(yq:YQ k n y q){X:Nat->Sg.S1}(e:pR (dy k n X) n y q k'):KH N d k':=by
 have eh:hd (dy k n X) n=hd k n:=rfl;rcases e with⟨a,rfl⟩|⟨a,e⟩
 .rw[eh]at a;exact h.bx n (λ_ _ c=>aZ a c)
 .rw[eh]at a;exact h.US hn (λe0=>by subst e0;exact a h.ki.h0) l yq e
theorem KH.dO(h:KH N d k){c:Int}(e:yj k z c on E k'):KH N d k':=by
 rcases e with⟨_,_,rfl⟩|⟨a,n,rfl,hn,_,⟨e,rfl⟩|⟨_,y,q,yq,e⟩⟩
 .exact h
 .unfold Sg.oB;rw[aI e];exact h.bx n (λ_ l hd=>h.ki.fi n hn l hd)
 .exact h.Tf hn (mX a) yq e
theorem KH.ny(h:KH N d k){c o:Int}(e:yk k z c o E k'):KH N d k':=by
 rcases e with⟨_,_,rfl⟩|⟨a,n,rfl,hn,_,⟨e,rfl⟩|⟨_,y,q,yq,e⟩⟩
 .exact h
 .unfold Sg.mu;rw[aI e];exact h.bx n (λ_ l hd=>h.ki.fi n hn l hd)
 .exact h.Tf hn (mX a) yq e
theorem Ee{p c:Int}(a:pL k z p c=0):eZ k z p=0/\p≠1:=by
 unfold pL at a;by_cases c1:eZ k z p=0
 .rw[aJ c1]at a;refine⟨c1,λc2=>?_⟩;by_cases c3:c<1\/8<c
  .rw[aJ c3]at a;omega
  .rw[aI c3,aJ c2]at a;omega
 .rw[aI c1]at a;exact aZ a c1
theorem KH.sig(h:KH N d k){p c:Int}(e:qZ k z p c k'):KH N d k':=by
 rcases e with⟨_,rfl⟩|⟨a,y,q,yq,e⟩
 .exact h
 .have s0:=Ee a;exact h.US (As (λz p=>h.ki.vi.iv.qR z p) z p) (h.ki.vi.OH s0.1 s0.2) (Aq s0.1) yq e
theorem KH.VE(h:KH N d k){m:Nat}(e:B7 k z m E k'):KH N d k':=by
 rcases e with⟨_,_,_,rfl⟩|⟨_,n,j,rfl,hn,_,rfl,_⟩
 .exact h
 .exact h.bx n (λ_ l hd=>OQ j (h.ki.fi n hn l hd))
theorem KH.VH(h:KH N d k){f:Int}{K:Nat}(e:vQ k z f t K E k'):KH N d k':=by
 rcases e with⟨_,_,_,rfl⟩|⟨_,n,g,rfl,rfl,hn,hg,l,_,_,⟨_,rfl⟩|⟨_,y,q,e,o,p⟩⟩
 .exact h
 .exact h.BJ _ _
 .exact(h.BJ ((k.p n).fd g) t).Tf hn l ⟨o,λn0=>(p n0).2.2⟩ e
theorem KH.sc(h:KH N d k)(m:Wf.M):KH N d {k with sc:=m}:=
 h.nT ⟨⟨h.ki.vi.kj.lC m,h.ki.vi.iv,h.ki.vi.hs⟩,h.ki.fi,h.ki.pr,h.ki.h0⟩ rfl (λ_=>⟨rfl,rfl⟩)
theorem KH.sle(h:KH N d k)(e:Hg k z on v k'):KH N d k':=by
 obtain⟨_,m,_,⟨_,w⟩|rfl,rfl⟩:=e
 .exact h.sc _
 .exact h
theorem KH.mem(h:KH N d k)(hn:n<20)(l:lv k n=bE){m:Me}{b:Bk}(w:Mv.fR b 20 (Mv.im (λn=>(k.p n).mem) n m)):KH N d (cV k n m b):=by
 have e:∀j,((cV k n m b).p j).st=(k.p j).st/\((cV k n m b).p j).par=(k.p j).par/\((cV k n m b).p j).box=(k.p j).box:=λj=>by
  by_cases c:j=n
  .subst c;rw[jg];exact⟨rfl,rfl,rfl⟩
  .rw[show(cV k n m b).p j=k.p j from cr _ _ _ _ c];exact⟨rfl,rfl,rfl⟩
 have lv':∀j,lv (cV k n m b) j=lv k j:=λj=>by unfold lv;rw[(e j).1]
 refine h.nT ⟨⟨h.ki.vi.kj.cV hn (h.ki.vi.kj.lv n hn (λx=>x) (dJ.1 l)) w,h.ki.vi.iv,h.ki.vi.hs⟩,λj hj lj hd=>?_,λj hj j0 s=>?_,h.ki.h0⟩ rfl (λj=>⟨(e j).1,(e j).2.1⟩)
 .rw[(e j).2.2];rw[lv']at lj;exact h.ki.fi j hj lj hd
 .rw[(e j).1]at s;rw[(e j).2.1];exact h.ki.pr j hj j0 s
theorem KH.fr(h:KH N d k)(hn:n<20)(l:lv k n=bE){m:Me}(e:m.fr=(k.p n).mem.fr):KH N d (cV k n m k.bk):=
 h.mem hn l (h.ki.vi.kj.me.congr (λi _ x _=>by
  by_cases c:i=n
  .subst c;rw[Mv.dZ,e]
  .rw[Mv.gv _ _ _ _ c]))
theorem KH.Eu(h:KH N d k)(hn:n<20)(l:lv k n=bE)(a m:Int):KH N d (dz k n a m):=by
 unfold dz;by_cases c:Mv.kF a m=0
 .rw[aJ c];have w:Mv.fR (Mv.lD (k.p n).mem k.bk a m) 20 (Mv.im (λn=>(k.p n).mem) n (Mv.j7 (k.p n).mem a m)):=by
   unfold Mv.kF at c;unfold Mv.lD Mv.j7;cases hb:Mv.j9 a m
   .obtain⟨x,j,rfl,rfl,hx,h1,h2⟩:=Mv.sd hb;rw[aI bM,aI bM,hZ,hZ];exact h.ki.vi.kj.me.Cp (i:=n) hn j h2
   .rw[hb,aJ rfl]at c;omega
  obtain⟨Wy,g⟩:=h.ki.vi.kj.gr;exact(h.mem hn l w).gr (aL _) ⟨Wy,oN g _ _ _⟩
 .rw[aI c];exact h
theorem KH.ld(h:KH N d k)(hn:n<20)(l:lv k n=bE)(e:wW a k n E k'):KH N d k':=by
 obtain⟨g,m,b,t,rfl⟩:=e;exact h.mem hn l (h.ki.vi.kj.me.wA hn t).1
theorem KH.TS(h:KH N d k)(hn:n<20)(l:lv k n=bE){u:Int}(e:vP a u k n E k'):KH N d k':=by
 obtain⟨g,m,b,t,rfl⟩:=e;have w:=(h.ki.vi.kj.me.wA hn t).1;refine h.mem hn l ?_;split
 .exact w.bytes _
 .exact w
theorem KH.zj(hD:∀{M k n E k'},KH M d k->n<20->lv k n=bE->D k n E k'->KH M d k')(h:KH N d k)(e:jP a D k z v k'):KH (N+1) d k':=by
 have M:=h.more (Nat.le_succ N);obtain⟨E,_,⟨_,rfl⟩|⟨n,rfl,hn,l,⟨_,e⟩|⟨_,E1,k1,c,⟨_,_,rfl⟩|⟨rfl,k2,e,r⟩⟩⟩⟩:=e
 .exact M
 .exact hD M hn l e
 .exact h.Pe c
 .have l1:lv k1 n=bE:=by
   obtain⟨_,_,_,⟨q,_,_,_,_,rfl⟩|⟨q,_⟩⟩:=c
   .exact q
   .cases q
  have g:=hD (h.Pe c) hn l1 e;rcases r with⟨_,rfl⟩|⟨_,rfl⟩
  .exact g
  .obtain⟨Wy,t⟩:=g.ki.vi.kj.gr;exact g.gr (aL _) ⟨Wy,oN t _ _ _⟩
theorem KH.fg(h:KH N d k){G:Fo}(g:FG k G):KH N d {k with fo:=G}:=h.fx (aL _) g.2 h.ki.vi.kj.rf g.1
theorem KH.fo(h:KH N d k)(e:ue k v k'):KH N d k':=by obtain⟨_,G,_,g,rfl⟩:=e;exact h.fg g
theorem KH.tu(h:KH N d k)(e:rL k v k'):KH N d k':=by
 obtain⟨_,_,rfl|⟨y,T,F,y6,yt,g,rfl⟩⟩:=e
 .exact h
 .exact h.nT ⟨⟨h.ki.vi.kj.VF y6 yt g,h.ki.vi.iv,h.ki.vi.hs⟩,h.ki.fi,h.ki.pr,h.ki.h0⟩ rfl (λ_=>⟨rfl,rfl⟩)
theorem KH.VA(h:KH N d k)(u a:Int):KH N d {k with fi:=Fx.mD k.fi u a}:=by
 have j:=h.ki.vi.kj;unfold Fx.mD;split
 .rename_i c;have c1:Fx.dB k.fi u=0/\0<=a/\a<=40:=by
   unfold Fx.eZ at c;by_cases e:Fx.dB k.fi u=0
   .rw[aI (λx=>x e)]at c;split at c
    .omega
    .split at c
     .omega
     .exact⟨e,bG,bG⟩
   .rw[aJ e]at c;exact aZ c e
  obtain⟨n,rfl,hn,r⟩:=Fx.kT c1.1;rw[hZ];refine h.fx (aL _) (j.wx.jN hn r _ r rfl rfl (by show a.toNat<=40;omega)) (λm hm=>?_) j.ok;by_cases e:m=n
  .subst e;rw[Fx.bR];exact j.rf m hm
  .rw[Fx.cr _ _ _ _ e];exact j.rf m hm
 .exact h
theorem KH.dup(h:KH N d k)(e:Ha k v k'):KH (N+1) d k':=by
 obtain⟨_,_,_,rfl|⟨n,f,g,hn,_,_,_,_,_,rfl⟩⟩:=e
 .exact h.more (Nat.le_succ _)
 .have q:=Lu h.ki.vi.kj.wx ((k.p n).fd g);exact(h.fx (T:=Fx.jX k.fi ((k.p n).fd g)) (F:=k.fo) (S:=k.pi) (Nat.le_succ _) q.1 (λm hm=>by have:=q.2 m;have:=h.ki.vi.kj.rf m hm;omega) h.ki.vi.kj.ok).fd n f _
theorem KH.Lc(h:KH N d k)(e:He k v k'):KH (N+1) d k':=by
 obtain⟨_,_,_,G,g,rfl|⟨n,f,K,z,wr,T,F,hn,_,_,_,t,rfl⟩⟩:=e
 .exact(h.fg g).more (Nat.le_succ _)
 .rcases t with⟨a,_,b,_⟩|⟨_,_,_,b,_⟩|⟨a,_,lo,_,rfl,rfl⟩
  .exact aZ b.symm a
  .cases b
  .obtain⟨m,rfl,m40,_⟩:=Tr.fE a;rw[hZ];refine(h.fx (Nat.le_succ _) (g.2.node lo a) (λj hj=>?_) (g.1.dO _)).fd n f _;by_cases c:j=K
   .subst c;rw[Fx.bR];show 1<=_;omega
   .rw[Fx.cr _ _ _ _ c];have:=h.ki.vi.kj.rf j hj;omega
theorem KH.sh(h:KH N d k)(e:mR li N k k'):KH N d k':=by
 obtain⟨t,m,_,g,_,rfl⟩:=e;exact(h.gr (aL _) g).sc _
theorem KH.Py(h:KH N d k){T:Nat}{G:Fo}(e:Tr.qY k.fo T E G):KH N d {k with fo:=G}:=by
 have j:=h.ki.vi.kj;refine h.fg ⟨j.ok.Py e,?_⟩;rcases e with⟨_,_,_,rfl⟩|⟨_,n,e,hf,⟨_,_,_,rfl⟩|⟨e0,_,_,rfl⟩⟩
 .exact j.wx
 .exact j.wx
 .rcases hf with⟨_,n40,n0,_⟩|⟨q,_⟩
  .have z:=j.wx.z0 n n40 n0;have p:∀m,(Tr.Ao k.fo n).nd m=if m=n then fq 2 k.fo.trees n else k.fo.nd m:=λm=>by
    by_cases c:m=n
    .subst c;rw[aJ rfl];exact Tr.bR _ _ _
    .rw[aI c];exact Tr.cr _ _ _ _ c
   refine j.wx.si (λm _=>?_) (λm _ hm=>?_) (λm hm k0=>?_)
   .rw[p m];split
    .rename_i c;rw[c,z];rfl
    .rfl
   .rw[p m,aI (λc=>hm (by rw[c];exact z))]
   .rw[p m]at k0|-;split
    .rfl
    .rename_i c;rw[aI c]at k0;exact j.wx.z0 m hm k0
  .omega
theorem KH.cJ(h:KH N d k)(n:Nat)(g:Int):KH N d (k.put n {k.p n with cJ:=g}):=by
 have e:∀m,((k.put n {k.p n with cJ:=g}).p m).st=(k.p m).st/\((k.put n {k.p n with cJ:=g}).p m).par=(k.p m).par/\((k.put n {k.p n with cJ:=g}).p m).box=(k.p m).box:=λm=>by
  by_cases c:m=n
  .subst c;rw[bR];exact⟨rfl,rfl,rfl⟩
  .rw[cr _ _ _ _ c];exact⟨rfl,rfl,rfl⟩
 have l:∀m,lv (k.put n {k.p n with cJ:=g}) m=lv k m:=λm=>by unfold lv;rw[(e m).1]
 refine h.nT ⟨⟨h.ki.vi.kj.DS rfl rfl rfl,h.ki.vi.iv,h.ki.vi.hs⟩,λm hm lm hm2=>?_,λm hm m0 s=>?_,h.ki.h0⟩ rfl (λm=>⟨(e m).1,(e m).2.1⟩)
 .rw[(e m).2.2];rw[l]at lm;exact h.ki.fi m hm lm hm2
 .rw[(e m).1]at s;rw[(e m).2.1];exact h.ki.pr m hm m0 s
theorem KH.Vt(h:KH N d k){g:Int}(e:zM k z g v k'):KH (N+1) d k':=by
 obtain⟨_,_,rfl|⟨n,Wy,m,rfl,hn,l,w,e,_,rfl⟩⟩:=e
 .exact h.more (Nat.le_succ _)
 .obtain⟨Wz,t⟩:=h.ki.vi.kj.gr;have t1:Gr.Tree (Gr.kK k.gr Wy (k.p n).cJ g 1 (Mv.cX (k.p n).mem 16:Int)) Wy (N+1):=by
   unfold Gr.kK;rw[aJ e];exact ql (oN (xS t w) _ _ _) _ _ _ bG (by have:=YtpmmdkcfenjiaaaGreatDoor.qb (k.p n).mem 16;omega)
  exact((h.gr (Nat.le_succ _) ⟨Wy,t1⟩).sc _).cJ n g
end
end Kn
namespace Kn
def kd(x:fp)(l:List UInt8):Prop:=(x.kind.toList==l)=bE
def wk:List (List UInt8):=[[102,111,114,107],[117,110,109,97,112],[108,111,97,100],[115,116,111,114,101],[108,105,109,105,116],[116,105,99,107]]
def NK(x:fp):Prop:=∀l∈wk,(x.kind.toList==l)=bF
theorem NK.of{x:fp}{l:List UInt8}(h:kd x l)(n:(wk.all λm=> !(l==m))=bE):NK x:=λm hm=>by
 rw[eq_of_beq h];simpa using List.all_eq_true.1 n m hm
def uk(N:Nat)(k:Kp)(x:fp)(k':Kp):Prop:=
 (kd x [101,120,105,116]/\qU k x.a x.b k')\/(∃p c E,yu k x.a p c E k')\/qZ k x.a x.b x.c k'\/(∃E,yj k x.a x.b x.on E k')\/(∃E,yk k x.a x.b x.c E k')\/(∃m E,B7 k x.a m E k')\/
 (∃n m,n<20/\lv k n=bE/\m.fr=(k.p n).mem.fr/\k'=cV k n m k.bk)\/mR bF N k k'\/(∃v,zM k x.a x.b v k')\/(∃v,Hg k x.a x.on v k')\/k'=k
def sO(N:Nat)(k:Kp)(x:fp)(a E:Int)(k':Kp):Prop:=
 (kd x [102,111,114,107]/\∃p:Nat,a=p/\qV k x.a x.on p E k')\/
 (kd x [117,110,109,97,112]/\((∃n:Nat,x.a=n/\n<20/\lv k n=bE/\E=pM k n x.b x.c/\k'=dz k n x.b x.c)\/0<E/\k'=k))\/
 (kd x [108,111,97,100]/\∃u,(a=u\/a=IntKind.i64.wrap u)/\jP x.b (wW x.b) k x.a (bS E) k'/\(E=0->u=jy k' x.a.toNat x.b.toNat))\/
 (kd x [115,116,111,114,101]/\jP x.b (vP x.b (IntKind.u8.wrap x.c)) k x.a (bS E) k')\/
 (kd x [108,105,109,105,116]/\mR bE N k k')\/
 (kd x [116,105,99,107]/\∃m,Wf.Ct k.sc a m/\k'={k with sc:=m})\/
 (NK x/\uk N k x k')
def rK(k:Kp)(x:fp)(k':Kp):Prop:=
 (∃v,He k v k')\/k'=oX k x.a x.b\/(∃v,Ha k v k')\/(∃A C E,vN k x.a A C E k')\/k'=oY k x.a x.b x.c\/(∃K E,vQ k x.a x.b x.s K E k')\/(∃u,k'={k with fi:=Fx.mD k.fi u x.c})\/(∃v,ue k v k')\/(∃v,rL k v k')\/(∃T E G,Tr.qY k.fo T E G/\k'={k with fo:=G})\/k'=k
theorem sO.ot{N:Nat}{x:fp}(n:NK x)(h:uk N k x k'):sO N k x a E k':= .inr (.inr (.inr (.inr (.inr (.inr ⟨n,h⟩)))))
section
variable {N:Nat}{d:Nat->Nat}{k k':Kp}{x:fp}
theorem KH.ot(h:KH N d k)(e:uk N k x k'):KH (N+2) d k':=by
 have up:∀{M},KH M d k'->M<=N+2->KH (N+2) d k':=λg l=>g.more l;rcases e with⟨_,e⟩|⟨_,_,_,e⟩|e|⟨_,e⟩|⟨_,e⟩|⟨_,_,e⟩|⟨n,m,hn,l,e,rfl⟩|e|⟨_,e⟩|⟨_,e⟩|rfl
 .exact up (h.exit e) bG
 .exact up (h.wait e) bG
 .exact up (h.sig e) bG
 .exact up (h.dO e) bG
 .exact up (h.ny e) bG
 .exact up (h.VE e) bG
 .exact up (h.fr hn l e) bG
 .exact up (h.sh e) bG
 .exact up (h.Vt e) bG
 .exact up (h.sle e) bG
 .exact up h bG
theorem KH.ac(h:KH N d k)(e:sO N k x a E k'):∃d',KH (N+2) d' k':=by
 have up:∀{M},KH M d k'->M<=N+2->∃d',KH (N+2) d' k':=λg l=>⟨d,g.more l⟩;rcases e with⟨_,_,_,e⟩|⟨_,⟨n,_,hn,l,_,rfl⟩|⟨_,rfl⟩⟩|⟨_,_,_,e,_⟩|⟨_,e⟩|⟨_,e⟩|⟨_,_,_,rfl⟩|⟨_,e⟩
 .exact h.fork e
 .exact up (h.Eu hn l _ _) bG
 .exact up h bG
 .exact up (h.zj (λg hn l e=>g.ld hn l e) e) bG
 .exact up (h.zj (λg hn l e=>g.TS hn l e) e) bG
 .exact up (h.sh e) bG
 .exact up (h.sc _) bG
 .exact⟨d,h.ot e⟩
theorem KH.di(h:KH N d k)(e:rK k x k'):∃d',KH (N+2) d' k':=by
 have up:∀{M},KH M d k'->M<=N+2->∃d',KH (N+2) d' k':=λg l=>⟨d,g.more l⟩;rcases e with⟨_,e⟩|rfl|⟨_,e⟩|⟨_,_,_,e⟩|rfl|⟨_,_,e⟩|⟨u,rfl⟩|⟨_,e⟩|⟨_,e⟩|⟨_,_,_,e,rfl⟩|rfl
 .exact up (h.Lc e) bG
 .exact up (h.U8 _ _) bG
 .exact up (h.dup e) bG
 .exact up (h.Vy e) bG
 .exact up (h.TA _ _ _) bG
 .exact up (h.VH e) bG
 .exact up (h.VA _ _) bG
 .exact up (h.fo e) bG
 .exact up (h.tu e) bG
 .exact up (h.Py e) bG
 .exact up h bG
end
end Kn
namespace Gr
end Gr
namespace Kn
structure SC (k k':Kp):Prop where
 sp:k'.sp=k.sp
 gr:k'.gr=k.gr
 bk:k'.bk=k.bk
 sc:k'.sc=k.sc
 p:∀m,(k'.p m).st=(k.p m).st/\(k'.p m).par=(k.p m).par/\(k'.p m).cJ=(k.p m).cJ/\(k'.p m).mem=(k.p m).mem
section
variable {N n y q:Nat}{d:Nat->Nat}{k k' k1 k2:Kp}{x:fp}
theorem SC.pl(a:k'.sp=k.sp)(b:k'.gr=k.gr)(c:k'.bk=k.bk)(e:k'.sc=k.sc)(f:k'.p=k.p):SC k k':=⟨a,b,c,e,λm=>by rw[f];exact⟨rfl,rfl,rfl,rfl⟩⟩
theorem SC.refl(k:Kp):SC k k:=SC.pl rfl rfl rfl rfl rfl
theorem SC.trans(h:SC k k1)(g:SC k1 k2):SC k k2:=⟨g.sp.trans h.sp,g.gr.trans h.gr,g.bk.trans h.bk,g.sc.trans h.sc,λm=>⟨(g.p m).1.trans (h.p m).1,(g.p m).2.1.trans (h.p m).2.1,(g.p m).2.2.1.trans (h.p m).2.2.1,(g.p m).2.2.2.trans (h.p m).2.2.2⟩⟩
theorem SC.put(k:Kp)(n:Nat){x:Pr}(e:x.st=(k.p n).st/\x.par=(k.p n).par/\x.cJ=(k.p n).cJ/\x.mem=(k.p n).mem):SC k (k.put n x):=⟨rfl,rfl,rfl,rfl,λm=>by
 by_cases c:m=n
 .subst c;rw[bR];exact e
 .rw[cr _ _ _ _ c];exact⟨rfl,rfl,rfl,rfl⟩⟩
theorem SC.fd(k:Kp)(n f:Nat)(v:Int):SC k (fS k n f v):=SC.put k n ⟨rfl,rfl,rfl,rfl⟩
theorem SC.box(k:Kp)(n:Nat)(X:Nat->Sg.S1):SC k (dy k n X):=SC.put k n ⟨rfl,rfl,rfl,rfl⟩
def Cq(k:Kp)(n:Nat)(k':Kp):Prop:=∃(c:Int) (y q:Nat),n<20/\n≠0/\lv k n=bE/\k.sp.of n=y+1/\(k.p n).par=(q:Int)/\lS k n c y q k'
def R7(k:Kp)(n:Nat)(k':Kp):Prop:=∃m:Nat,m<20/\m≠0/\(k.p m).par=(n:Int)/\(k.p m).st=2/\iY 6 k m k'
theorem KH.Ob(h:KH N d k)(hn:n<20)(l:lv k n=bE)(yq:YQ k n y q){X:Nat->Sg.S1}(e:pR (dy k n X) n y q k'):SC k k'\/hd k n≠n/\Cq k n k':=by
 rcases e with⟨_,rfl⟩|⟨a,m,_,⟨_,rfl⟩|⟨_,e⟩⟩
 .exact .inl (SC.box k n X)
 .exact .inl (SC.box k n X)
 .have a:hd k n≠n:=a;have n0:n≠0:=λe0=>by subst e0;exact a h.ki.h0
  exact .inr ⟨a,_,y,q,hn,n0,l,yq.1,yq.2 n0,e.box⟩
theorem rK.cl(h:KH N d k)(e:rK k x k'):SC k k'\/∃(n:Nat) (k1:Kp),x.a=n/\SC k k1/\KH N d k1/\hd k n≠n/\Cq k1 n k':=by
 rcases e with⟨_,_,_,_,G,_,rfl|⟨n,f,K,z,wr,T,F,_,_,_,_,_,rfl⟩⟩|rfl|⟨_,_,_,_,rfl|⟨n,f,g,_,_,_,_,_,_,rfl⟩⟩|⟨A,C,E,e⟩|rfl|⟨K,E,e⟩|⟨u,rfl⟩|⟨_,_,_,_,_,rfl⟩|⟨_,_,_,rfl|⟨y,T,F,_,_,_,rfl⟩⟩|⟨_,_,_,_,rfl⟩|rfl
 .exact .inl (SC.pl rfl rfl rfl rfl rfl)
 .exact .inl ((SC.pl (k:=k) (k':=jB k T F k.pi) rfl rfl rfl rfl rfl).trans (SC.fd _ _ _ _))
 .unfold oX;split
  .exact .inl ((SC.fd k x.a.toNat x.b.toNat (-1)).trans (SC.pl rfl rfl rfl rfl rfl))
  .exact .inl (SC.refl _)
 .exact .inl (SC.refl _)
 .exact .inl ((SC.fd k n f ((k.p n).fd g)).trans (SC.pl rfl rfl rfl rfl rfl))
 .rcases e with⟨_,_,_,_,rfl⟩|⟨_,n,_,_,⟨_,_,_,_,rfl⟩|⟨_,a,c,T,S,_,⟨_,_,_,rfl⟩|⟨_,_,_,rfl⟩⟩⟩
  .exact .inl (SC.refl _)
  .exact .inl (SC.refl _)
  .exact .inl (SC.pl rfl rfl rfl rfl rfl)
  .exact .inl ((SC.pl (k:=k) (k':=jB k T k.fo S) rfl rfl rfl rfl rfl).trans ((SC.fd _ _ _ _).trans (SC.fd _ _ _ _)))
 .unfold oY;split
  .exact .inl (SC.pl rfl rfl rfl rfl rfl)
  .exact .inl (SC.refl _)
 .rcases e with⟨_,_,_,rfl⟩|⟨_,n,g,xa,_,hn,_,l,_,_,⟨_,rfl⟩|⟨_,y,q,e,o,p⟩⟩
  .exact .inl (SC.refl _)
  .exact .inl (SC.pl rfl rfl rfl rfl rfl)
  .have s1:SC k (r9 k ((k.p n).fd g) x.s):=SC.pl rfl rfl rfl rfl rfl;have kh:=h.BJ ((k.p n).fd g) x.s;rcases kh.Ob hn l ⟨o,λn0=>(p n0).2.2⟩ e with e|⟨a,e⟩
   .exact .inl (s1.trans e)
   .exact .inr ⟨n,_,xa,s1,kh,a,e⟩
 .exact .inl (SC.pl rfl rfl rfl rfl rfl)
 .exact .inl (SC.pl rfl rfl rfl rfl rfl)
 .exact .inl (SC.refl _)
 .exact .inl (SC.pl rfl rfl rfl rfl rfl)
 .exact .inl (SC.pl rfl rfl rfl rfl rfl)
 .exact .inl (SC.refl _)
def Vo(k:Kp)(x:fp)(n:Nat):Prop:=x.a=(n:Int)/\(kd x [101,120,105,116]\/hd k n≠n)\/eZ k x.a x.b=0/\x.b≠1/\n=iZ k x.a x.b
theorem uk.cl(h:KH N d k)(e:uk N k x k'):SC k k'\/(∃n,Cq k n k'/\Vo k x n)\/(∃n:Nat,x.a=n/\R7 k n k')\/(∃n m,n<20/\lv k n=bE/\m.fr=(k.p n).mem.fr/\k'=cV k n m k.bk)\/mR bF N k k'\/(∃v,zM k x.a x.b v k')\/(∃m,SG k m/\k'={k with sc:=m}):=by
 rcases e with⟨t,e⟩|⟨_,_,_,e⟩|e|⟨_,e⟩|⟨_,e⟩|⟨_,_,e⟩|e|e|e|⟨_,e⟩|rfl
 .rcases e with⟨_,rfl⟩|⟨_,n,y,q,xa,hn,n0,l,oy,_,_,hp,et⟩
  .exact .inl (SC.refl _)
  .exact .inr (.inl ⟨n,⟨_,y,q,hn,n0,l,oy,hp,et⟩, .inl ⟨xa, .inl t⟩⟩)
 .rcases e with⟨_,_,_,_,rfl⟩|⟨a,n,xa,hn,⟨_,_,_,_,rfl⟩|⟨_,_,_,_,_,rfl⟩|⟨_,i,m,hi,lm,_,_,_,v⟩⟩
  .exact .inl (SC.refl _)
  .exact .inl (SC.refl _)
  .exact .inl (SC.refl _)
  .rw[xa]at a;obtain⟨m20,m0,mp,ms,_,_⟩:=h.Si hn (mX a) (bK hi);have m2:(k.p m).st=2:=by
    have:=h.ki.vi.kj.st m m20;have:(k.p m).st≠1:=λe=>by rw[dJ.2 e]at lm;cases lm
    omega
   exact .inr (.inr (.inl ⟨n,xa,m,m20,m0,mp,m2,v⟩))
 .rcases e with⟨_,rfl⟩|⟨a,y,q,yq,m,_,⟨_,rfl⟩|⟨_,e⟩⟩
  .exact .inl (SC.refl _)
  .exact .inl (SC.box _ _ _)
  .have s0:=Ee a;have n0:=h.ki.vi.OH s0.1 s0.2;exact .inr (.inl ⟨_,⟨_,y,q,As (λz p=>h.ki.vi.iv.qR z p) x.a x.b,n0,Aq s0.1,yq.1,yq.2 n0,e.box⟩, .inr ⟨s0.1,s0.2,rfl⟩⟩)
 .rcases e with⟨_,_,rfl⟩|⟨a,n,xa,hn,_,⟨_,rfl⟩|⟨_,y,q,yq,e⟩⟩
  .exact .inl (SC.refl _)
  .exact .inl (SC.box _ _ _)
  .rw[xa]at a;exact(h.Ob hn (mX a) yq e).imp id (λe=> .inl ⟨n,e.2, .inl ⟨xa, .inr e.1⟩⟩)
 .rcases e with⟨_,_,rfl⟩|⟨a,n,xa,hn,_,⟨_,rfl⟩|⟨_,y,q,yq,e⟩⟩
  .exact .inl (SC.refl _)
  .exact .inl (SC.box _ _ _)
  .rw[xa]at a;exact(h.Ob hn (mX a) yq e).imp id (λe=> .inl ⟨n,e.2, .inl ⟨xa, .inr e.1⟩⟩)
 .rcases e with⟨_,_,_,rfl⟩|⟨_,n,j,_,_,_,rfl,_⟩
  .exact .inl (SC.refl _)
  .exact .inl (SC.put k n ⟨rfl,rfl,rfl,rfl⟩)
 .exact .inr (.inr (.inr (.inl e)))
 .exact .inr (.inr (.inr (.inr (.inl e))))
 .exact .inr (.inr (.inr (.inr (.inr (.inl e)))))
 .obtain⟨_,m,_,⟨_,w⟩|rfl,rfl⟩:=e
  .refine .inr (.inr (.inr (.inr (.inr (.inr ⟨m,?_,rfl⟩)))));rw[show m=Wf.wD k.sc x.a (!x.on)from w];exact λ_ h=>h
  .exact .inl (SC.refl _)
 .exact .inl (SC.refl _)
structure FK (k:Kp)(n c:Nat)(k':Kp):Prop where
 hn:n<20
 ln:lv k n=bE
 j4:c<20
 c0:(k.p c).st=0
 lo:∀m,m<c->(k.p m).st≠0
 ot:∀m,m≠c->k'.p m=k.p m
 me:k'.p c=eU k n
 of:∀m,m≠c->k'.sp.of m=k.sp.of m
 kp:∀s p,s<6->k.sp.cD s p≠0->k'.sp.cD s p=k.sp.cD s p
 bk:k'.bk=Mv.eJ (k.p n).mem k.bk 16
theorem FK.UT{z:Nat}{d2:Nat->Nat}{m':Wf.M}(iv:Sp.Inv k2.sp d2)(ep:k2.p=k.p)(eo:k2.sp.of=k.sp.of)(ew:k2.sp.cD=k.sp.cD)(eb:k2.bk=k.bk)(hn:n<20)(l:lv k n=bE)(hc:c<20)(c0:(k.p c).st=0)(lo:∀m,m<c->(k.p m).st≠0)(o0:k.sp.of c=0)(z6:z<6)(zh:k2.sp.here z=bE):FK k n c (iQ (dI k2 n) c (eU k2 n) (z:Int) m'):=by
 obtain⟨T,eT⟩:=kC {k2 with bk:=Mv.eJ (k2.p n).mem k2.bk 16} (k2.p n).fd 6;have cop:dI k2 n={k2 with bk:=Mv.eJ (k2.p n).mem k2.bk 16,fi:=T}:=eT;have o2:k2.sp.of c=0:=by rw[eo];exact o0
 have esp:(iQ (dI k2 n) c (eU k2 n) (z:Int) m').sp=Sp.fO k2.sp (z:Int) (c:Int):=by rw[cop];rfl
 refine⟨hn,l,hc,c0,lo,λm q=>?_,?_,λm q=>?_,λs p hs hw=>?_,?_⟩
 .rw[cop];exact(cr _ _ _ _ q).trans (by show k2.p m=k.p m;rw[ep])
 .refine(bR _ _ _).trans ?_;unfold eU;rw[ep]
 .rw[esp,Sp.qs z6 zh hc o2,aI q,eo]
 .rw[esp,Sp.ti iv z6 zh hc o2 hs (by rw[ew];exact hw),ew]
 .rw[cop];show Mv.eJ (k2.p n).mem k2.bk 16=_;rw[ep,eb]
theorem JQ(k:Kp)(n:Nat):(dI k n).gr=k.gr:=by
 obtain⟨T,eT⟩:=kC {k with bk:=Mv.eJ (k.p n).mem k.bk 16} (k.p n).fd 6;rw[show dI k n={k with bk:=Mv.eJ (k.p n).mem k.bk 16,fi:=T}from eT]
theorem Ns(k:Kp)(Wy:Nat->List (Fin 10))(n:Nat)(own:Bool):(fP (dh k Wy n) n own).sp=(fP k n own).sp:=by
 unfold fP;by_cases c:own=bE/\jC k n own=0
 .rw[aJ c,aJ (show own=bE/\jC (dh k Wy n) n own=0 from c)];rfl
 .rw[aI c,aI (show¬(own=bE/\jC (dh k Wy n) n own=0)from c)];rfl
theorem qV.cl(h:KH N d k){own:Bool}{p:Nat}(f:qV k z own p E k'):(E≠0/\(k'=k\/∃(Wy:Nat->List (Fin 10)) (n:Nat),Gr.fH k.gr Wy/\qk k Wy n=0/\k'={dh k Wy n with gr:=Gr.dG (dh k Wy n).gr (k.p n).cJ 1 (Mv.cX (k.p n).mem 16:Int)}))\/(E=0/\∃(n c:Nat) (Wy:Nat->List (Fin 10)),z=n/\FK k n c k'/\Gr.fH k.gr Wy/\qk k Wy n=0/\k'.gr=(dh k Wy n).gr/\k'.sc=Wf.wD (Wf.eA k.sc (c:Int) (k.p n).cJ) (c:Int) bE/\k'.sp=Sp.fO (fP k n own).sp (mU k n own:Int) (c:Int)/\p=Sp.mA k'.sp (c:Int) (Sp.dV k'.sp (n:Int):Nat)):=by
 rcases f with⟨a,e,_,rfl⟩|⟨a,n,c,F,Wy,rfl,hn,fr,ways,f⟩
 .exact .inl ⟨by rw[e];exact a, .inl rfl⟩
 .have l:Kn.lv k n=bE:=mX a;rcases f with⟨q,e,_,rfl⟩|⟨_,q,e,_,rfl⟩|⟨_,ch,q,e,_,rfl⟩|⟨f0,ch,hm,e,m',wk,ek,ep⟩
  .exact .inl ⟨by rw[e];exact q, .inl rfl⟩
  .exact .inl ⟨by rw[e];exact q, .inl rfl⟩
  .exact .inl ⟨by rw[e];exact q, .inr ⟨Wy,n,ways,ch,rfl⟩⟩
  .have j4:c<20/\(k.p c).st=0/\∀m,m<c->(k.p m).st≠0:=by
    rcases fr with q|q
    .exact q.2
    .omega
   have o0:k.sp.of c=0:=by
    by_cases e:k.sp.of c=0
    .exact e
    .exact aZ j4.2.1 ((h.ki.vi.kj.of c j4.1).1 e)
   obtain⟨y,oy⟩:=h.of hn (by rw[dJ.1 l];omega);have y6:=(h.ki.vi.iv.dj hn oy).2;have iz:Sp.dV (dh k Wy n).sp (n:Int)=y:=Sp.gM hn oy;have wk:m'=Wf.wD (Wf.eA (fP (dh k Wy n) n own).sc (c:Int) (k.p n).cJ) (c:Int) bE:=wk;rw[(Kb (dh k Wy n) n own).2.2.2]at wk;have key:FK k n c k'/\k'.gr=(dh k Wy n).gr/\k'.sc=m':=by
    cases own
    .have en:mU (dh k Wy n) n bF=y:=iz;rw[(Ad (dh k Wy n) n).1,en]at ek;rw[ek];refine⟨FK.UT (k2:=dh k Wy n) h.ki.vi.iv rfl rfl rfl rfl hn l j4.1 j4.2.1 j4.2.2 o0 y6.1 y6.2,?_,rfl⟩;exact JQ _ _
    .have ea:Sp.iN (dh k Wy n).sp (y:Int)=0:=by unfold jC at hm;rw[aJ rfl,iz]at hm;exact hm
     obtain⟨z',ez,z6,zh,wl,f6,fh,fl⟩:=Sp.pf ea;obtain⟨e1,e2,_⟩:=xk iz ea rfl;have es:=Sp.add_eq ea;rw[e1,e2]at ek;rw[ek];have kj2:=h.ki.vi.kj.Lc (show Sp.iN k.sp (y:Int)=0 from ea) rfl;obtain⟨d2,iv2⟩:=kj2.sp;refine⟨FK.UT (k2:=Am (dh k Wy n) y (Sp.fM (dh k Wy n).sp)) iv2 rfl ?_ ?_ rfl hn l j4.1 j4.2.1 j4.2.2 o0 f6 ?_,?_,rfl⟩
     .show(Sp.gm (dh k Wy n).sp (y:Int)).of=_;rw[es];rfl
     .show(Sp.gm (dh k Wy n).sp (y:Int)).cD=_;rw[es];rfl
     .show(Sp.gm (dh k Wy n).sp (y:Int)).here _=bE;rw[es];exact aJ rfl
     .exact JQ _ _
   refine .inr ⟨e,n,c,Wy,rfl,key.1,ways,ch,key.2.1,key.2.2.trans wk,?_,ep⟩;rw[ek];show Sp.fO (dI (fP (dh k Wy n) n own) n).sp _ _=_;rw[(tf _ n).1,Ns];rfl
end
end Kn
namespace Mv
theorem Ap{m m':Me}:∀j,(∀x,x<j->m'.fr x=m.fr x)->cX m' j=cX m j
 |0,_=>rfl
 |j+1,h=>by
  show cX m' j+(if m'.fr j=0 then 0 else 1)=cX m j+(if m.fr j=0 then 0 else 1);rw[Ap j (λx hx=>h x bG),h j bG]
theorem xE{m m':Me}{x:Nat}(e:∀y,y≠x->m'.fr y=m.fr y):∀J,cX m' J+(if x<J/\m.fr x≠0 then 1 else 0)=cX m J+if x<J/\m'.fr x≠0 then 1 else 0
 |0=>by rw[aI (λc=>bG),aI (λc=>bG)];rfl
 |J+1=>by
  have ih:=xE e J;show cX m' J+(if m'.fr J=0 then 0 else 1)+_=cX m J+(if m.fr J=0 then 0 else 1)+_;by_cases c:J=x
  .subst c;rw[aI (λc=>bG),aI (λc=>bG)]at ih;by_cases a:m'.fr J=0<;>by_cases b:m.fr J=0<;>simp[a,b]<;>omega
  .have l:x<J+1↔x<J:=⟨λ_=>bG,λ_=>bG⟩;rw[e J c];simp only[l];omega
theorem GO(m:Me)(a:Nat):∀n,a+n<=16->cX (gV m a (a+n)) 16+n7 m a n=cX m 16
 |0,_=>by
  rw[show n7 m a 0=0 from rfl,Nat.add_zero];exact Ap 16 (λx _=>by show(if a<=x/\x<a+0 then 0 else m.fr x)=m.fr x;exact aI (λc=>bG))
 |n+1,h=>by
  have ih:=GO m a n bG;have s:=xE (m:=gV m a (a+n)) (m':=gV m a (a+(n+1))) (x:=a+n) (λy hy=>by
   show(if a<=y/\y<a+(n+1)then 0 else m.fr y)=if a<=y/\y<a+n then 0 else m.fr y;grind) 16
  have e1:(gV m a (a+n)).fr (a+n)=m.fr (a+n):=aI (λc=>bG);have e2:(gV m a (a+(n+1))).fr (a+n)=0:=aJ ⟨by omega,bG⟩;rw[e1,e2]at s;have z:(if a+n<16/\(0:Nat)≠0 then 1 else 0)=0:=aI (λc=>c.2 rfl);rw[z]at s;show cX (gV m a (a+(n+1))) 16+(n7 m a n+if m.fr (a+n)=0 then 0 else 1)=_;by_cases c:m.fr (a+n)=0
  .rw[aI (λx=>x.2 c)]at s;rw[aJ c];omega
  .rw[aJ ⟨by omega,c⟩]at s;rw[aI c];omega
theorem kG.res{m:Me}{k k':Bk}{wr:Bool}(t:kG m k z wr E g m' k'):cX m' 16=cX m 16+if E=0/\kR m z=bE then 1 else 0:=by
 have mw:∀{wr},jK m z wr=bE->jK m z bF=bE/\z.toNat/8<16:=λ{wr} h=>by
  unfold jK at h|-;split at h
  .cases h
  .rename_i c;refine⟨?_,bG⟩;rw[aI c];revert h;cases decide (m.is (z.toNat/8)=2)<;>cases decide (m.is (z.toNat/8)=1)<;>simp
 rcases t with⟨_,rfl,_,rfl,_⟩|⟨a,b,_,_,_,rfl,_⟩|⟨a,b,_,_,⟨e,rfl,_⟩|⟨e,rfl,_⟩⟩
 .rw[aI (λx=>by have:=x.1;omega)];rfl
 .rw[aI (λx=>by have:=x.2;unfold kR at this;simp[b]at this)];rfl
 .rw[aI (λx=>e x.1)];rfl
 .have w:=mw a;have s:=xE (m:=m) (m':={m with fr:=iJ m.fr (z.toNat/8) (g+1)}) (x:=z.toNat/8) (λy hy=>by show iJ _ _ _ y=_;unfold iJ;exact aI hy) 16;have e2:iJ m.fr (z.toNat/8) (g+1) (z.toNat/8)=g+1:=by simp[iJ]
  rw[show({m with fr:=iJ m.fr (z.toNat/8) (g+1)}:Me).fr (z.toNat/8)=g+1 from e2]at s;unfold kR;rw[w.1];by_cases c:m.fr (z.toNat/8)=0
  .rw[aI (λx=>x.2 c),aJ ⟨w.2,bG⟩]at s;rw[aJ ⟨e,by simp[c]⟩];omega
  .rw[aJ ⟨w.2,c⟩,aJ ⟨w.2,bG⟩]at s;rw[aI (λx=>by simp[c]at x)];omega
end Mv
namespace Kn
def cp(x:Pr)(g:Nat):Int:=if x.st≠0/\x.cJ=(g:Int)then 1 else 0
def cq(x:Pr)(g:Nat):Int:=if x.st≠0/\x.cJ=(g:Int)then(Mv.cX x.mem 16:Int)else 0
def sm(f:Nat->Int):Nat->Int
 |0=>0
 |M+1=>sm f M+f M
theorem tK{f f':Nat->Int}:∀M,(∀m,m<M->f' m=f m)->sm f' M=sm f M
 |0,_=>rfl
 |M+1,h=>by show sm f' M+f' M=sm f M+f M;rw[tK M (λm hm=>h m bG),h M bG]
theorem Eg{f f':Nat->Int}{n:Nat}:∀M,(∀m,m<M->m≠n->f' m=f m)->n<M->sm f' M=sm f M+f' n-f n
 |0,_,h=>aZ h bG
 |M+1,h,hn=>by
  show sm f' M+f' M=sm f M+f M+f' n-f n;by_cases c:M=n
  .subst c;rw[tK M (λm hm=>h m bG bG)];omega
  .rw[Eg M (λm hm=>h m bG) bG,h M bG c];omega
theorem tL{f:Nat->Int}(h:∀m,0<=f m){n:Nat}:∀M,0<=sm f M/\(n<M->f n<=sm f M)
 |0=>⟨Int.le_refl 0,λc=>aZ c bG⟩
 |M+1=>by
  have ih:=tL h (n:=n) M;have:=h M;refine⟨by show 0<=sm f M+f M;omega,λhn=>?_⟩;show f n<=sm f M+f M;by_cases c:M=n
  .subst c;omega
  .have:=ih.2 bG;omega
theorem Cd(x:Pr)(g:Nat):0<=cp x g:=by unfold cp;split<;>omega
theorem Pf(x:Pr)(g:Nat):0<=cq x g:=by unfold cq;split<;>omega
structure CG (k:Kp):Prop where
 op:∀g,g<10->(k.gr g).op=sm (λm=>cp (k.p m) g) 20
 oq:∀g,g<10->(k.gr g).oq=sm (λm=>cq (k.p m) g) 20
 th:∀m,m<20->(k.p m).st≠0->∃g:Nat,(k.p m).cJ=g/\g<10/\(k.gr g).there=bE
section
variable {N n z:Nat}{d:Nat->Nat}{X:Nat->Prop}{k k' k1:Kp}{x:fp}
theorem CG.nT(h:CG k)(g:∀i,i<10->(k'.gr i).there=(k.gr i).there/\(k'.gr i).op=(k.gr i).op/\(k'.gr i).oq=(k.gr i).oq)(p:∀m,m<20->((k'.p m).st=0↔(k.p m).st=0)/\(k'.p m).cJ=(k.p m).cJ/\Mv.cX (k'.p m).mem 16=Mv.cX (k.p m).mem 16):CG k':=by
 refine⟨λi hi=>?_,λi hi=>?_,λm hm s=>?_⟩
 .rw[(g i hi).2.1,h.op i hi];exact tK 20 (λm hm=>by simp only[cp,ne_eq,(p m hm).1,(p m hm).2.1])
 .rw[(g i hi).2.2,h.oq i hi];exact tK 20 (λm hm=>by simp only[cq,ne_eq,(p m hm).1,(p m hm).2.1,(p m hm).2.2])
 .rw[(p m hm).2.1];obtain⟨i,a,b,e⟩:=h.th m hm (λc=>s ((p m hm).1.2 c));exact⟨i,a,b,by rw[(g i b).1];exact e⟩
theorem CG.same(h:CG k)(g:k'.gr=k.gr)(p:∀m,m<20->(k'.p m).st=(k.p m).st/\(k'.p m).cJ=(k.p m).cJ/\Mv.cX (k'.p m).mem 16=Mv.cX (k.p m).mem 16):CG k':=h.nT (λ_ _=>by rw[g];exact⟨rfl,rfl,rfl⟩) (λm hm=>⟨by rw[(p m hm).1],(p m hm).2⟩)
theorem CG.sc(h:CG k)(s:SC k k'):CG k':=h.same s.gr (λm _=>⟨(s.p m).1,(s.p m).2.2.1,by rw[(s.p m).2.2.2]⟩)
theorem CG.one(h:CG k)(hn:n<20)(ot:∀m,m<20->m≠n->k'.p m=k.p m)(g:∀i,i<10->(k'.gr i).there=(k.gr i).there/\(k'.gr i).op=(k.gr i).op+cp (k'.p n) i-cp (k.p n) i/\(k'.gr i).oq=(k.gr i).oq+cq (k'.p n) i-cq (k.p n) i)(th:(k'.p n).st≠0->∃i:Nat,(k'.p n).cJ=i/\i<10/\(k.gr i).there=bE):CG k':=by
 refine⟨λi hi=>?_,λi hi=>?_,λm hm s=>?_⟩
 .rw[(g i hi).2.1,h.op i hi];exact(Eg (f:=λm=>cp (k.p m) i) (f':=λm=>cp (k'.p m) i) 20 (λm hm c=>by rw[ot m hm c]) hn).symm
 .rw[(g i hi).2.2,h.oq i hi];exact(Eg (f:=λm=>cq (k.p m) i) (f':=λm=>cq (k'.p m) i) 20 (λm hm c=>by rw[ot m hm c]) hn).symm
 .by_cases c:m=n
  .subst c;obtain⟨i,a,b,e⟩:=th s;exact⟨i,a,b,by rw[(g i b).1];exact e⟩
  .rw[ot m hm c]at s|-;obtain⟨i,a,b,e⟩:=h.th m hm s;exact⟨i,a,b,by rw[(g i b).1];exact e⟩
theorem mY(t:Nat->Gr.Gp)(g:Nat)(p q:Int)(i:Nat):(Gr.gx t g p q i).there=(t i).there/\(Gr.gx t g p q i).op=(t i).op+(if i=g then p else 0)/\(Gr.gx t g p q i).oq=(t i).oq+(if i=g then q else 0):=by
 unfold Gr.gx;by_cases c:i=g
 .subst c;rw[Gr.eG,aJ rfl,aJ rfl];exact⟨rfl,rfl,rfl⟩
 .rw[Gr.fc _ _ _ _ c,aI c,aI c];exact⟨rfl,bG,bG⟩
theorem CG.PW(h:CG k)(hn:n<20)(s:(k.p n).st≠0){p:Int}(hp:0<=p/\p<=1)(hq:0<=q/\q<=(Mv.cX (k.p n).mem 16:Int)):∃g:Nat,(k.p n).cJ=g/\g<10/\(k.gr g).there=bE/\Gr.gj k.gr (k.p n).cJ p q=0/\Gr.dG k.gr (k.p n).cJ p q=Gr.gx k.gr g (-p) (-q):=by
 obtain⟨g,e,g10,th⟩:=h.th n hn s;have a:=(tL (λm=>Cd (k.p m) g) (n:=n) 20).2 hn;have b:=(tL (λm=>Pf (k.p m) g) (n:=n) 20).2 hn;rw[<-h.op g g10,show cp (k.p n) g=1 from aJ ⟨s,e⟩]at a;rw[<-h.oq g g10,show cq (k.p n) g=_ from aJ ⟨s,e⟩]at b;have u:Gr.gj k.gr (k.p n).cJ p q=0:=by
  have re:Gr.eC k.gr (k.p n).cJ p q=0:=by
   have w:Gr.wr k.gr (g:Int)=0:=by unfold Gr.wr;rw[nJ];exact aJ th
   unfold Gr.eC;rw[e,w,aJ rfl,aJ];unfold Gr.jk;apply aO;have:=YtpmmdkcfenjiaaaGreatDoor.qb (k.p n).mem 16;omega
  unfold Gr.gj;rw[aJ re,e,hZ,aJ ⟨by omega,bG⟩]
 refine⟨g,e,g10,th,u,?_⟩;unfold Gr.dG;rw[aJ u,e,hZ]
theorem AE(m:Me){n:Int}(h:Mv.kF a n=0):Mv.cX (Mv.j7 m a n) 16+Mv.qN m a n=Mv.cX m 16:=by
 unfold Mv.kF at h;unfold Mv.j7 Mv.qN;cases hb:Mv.j9 a n
 .obtain⟨x,j,rfl,rfl,hx,h1,h2⟩:=Mv.sd hb;rw[aI bM,aI bM,hZ,hZ];exact Mv.GO m x j h2
 .rw[hb,aJ rfl]at h;omega
theorem CG.Eu(h:CG k)(hn:n<20)(s:(k.p n).st≠0)(a m:Int):CG (dz k n a m):=by
 unfold dz;split
 .rename_i e;have r:=AE (k.p n).mem e;obtain⟨g,eg,g10,th,_,ut⟩:=h.PW hn s (p:=0) (q:=(Mv.qN (k.p n).mem a m:Int)) bG bG;rw[ut];refine h.one (n:=n) hn (λj _ c=>cr _ _ _ _ c) (λi _=>?_) (λ_=>⟨g,by rw[show∀t,({cV k n (Mv.j7 (k.p n).mem a m) (Mv.lD (k.p n).mem k.bk a m)with gr:=t}:Kp).p n={k.p n with mem:=Mv.j7 (k.p n).mem a m}from λ_=>bR _ _ _];exact eg,g10,th⟩);have q:=mY k.gr g (-0) (-(Mv.qN (k.p n).mem a m:Int)) i;rw[show∀t,({cV k n (Mv.j7 (k.p n).mem a m) (Mv.lD (k.p n).mem k.bk a m)with gr:=t}:Kp).p n={k.p n with mem:=Mv.j7 (k.p n).mem a m}from λ_=>bR _ _ _];refine⟨q.1,q.2.1.trans ?_,q.2.2.trans ?_⟩
  .show _=(k.gr i).op+cp (k.p n) i-cp (k.p n) i;split<;>omega
  .unfold cq;show _=(k.gr i).oq+(if(k.p n).st≠0/\(k.p n).cJ=(i:Int)then(Mv.cX (Mv.j7 (k.p n).mem a m) 16:Int)else 0)-_;by_cases c:i=g
   .subst c;rw[aJ rfl,aJ ⟨s,eg⟩,aJ ⟨s,eg⟩];omega
   .rw[aI c,aI (λx=>c (by have:=x.2;omega)),aI (λx=>c (by have:=x.2;omega))];omega
 .exact h
theorem CG.str(h:CG k)(hn:n<20)(l:lv k n=bE)(s:gA k n k'):CG k':=by
 obtain⟨m',w,rfl⟩:=s;have s0:(k.p n).st≠0:=by rw[dJ.1 l];omega
 have u:=h.Eu hn s0 0 16;have z0:Mv.cX ((dz k n 0 16).p n).mem 16=0:=by
  unfold dz;rw[aJ (show Mv.kF 0 16=0 from rfl)];show Mv.cX ((cV k n (Mv.j7 (k.p n).mem 0 16) (Mv.lD (k.p n).mem k.bk 0 16)).p n).mem 16=0;rw[jg];have r:=AE (k.p n).mem (a:=0) (n:=16) rfl;have e:∀j,j<=16->Mv.n7 (k.p n).mem 0 j=Mv.cX (k.p n).mem j:=λj=>by
   induction j with
   |zero=>intro _;rfl
   |succ j ih=>intro hj;show Mv.n7 _ 0 j+(if(k.p n).mem.fr (0+j)=0 then 0 else 1)=Mv.cX _ j+_;rw[ih bG,Nat.zero_add]
  have e2:Mv.qN (k.p n).mem 0 16=Mv.n7 (k.p n).mem 0 16:=rfl;have:=e 16 (aL _);show Mv.cX (Mv.j7 (k.p n).mem 0 16) 16=0;omega
 refine u.same (show(dL (dz k n 0 16) n (k.p n).fd 6).gr=_ from Ax _ _ _ _) (λm hm=>?_);have a:=gA.p ⟨m',w,rfl⟩ m;have b:=zp k n 0 16 m;refine⟨a.1.trans b.2.2.1.symm,a.2.2.1.trans b.2.2.2.2.1.symm,?_⟩;by_cases c:m=n
 .subst c;rw[z0];unfold qK;dsimp only;rw[bR];rfl
 .rw[(a.2.2.2.2 c).2.1];unfold dz;split
  .rw[show∀t,({cV k n (Mv.j7 (k.p n).mem 0 16) (Mv.lD (k.p n).mem k.bk 0 16)with gr:=t}:Kp).p m=k.p m from λ_=>cr _ _ _ _ c]
  .rfl
theorem CG.fin(h:CG k)(hn:n<20)(s:(k.p n).st≠0)(m0:(k.p n).mem=Mv.j5):CG (eS k n):=by
 obtain⟨g,eg,g10,th,_,ut⟩:=h.PW hn s (p:=1) (q:=0) bG bG;have e2:(eS k n).p n=Pr.no:=bR _ _ _;refine h.one (n:=n) hn (λj _ c=>cr _ _ _ _ c) (λi _=>?_) (λc=>aZ (by rw[e2];rfl) c);rw[e2];show(Gr.dG k.gr (k.p n).cJ 1 0 i).there=_/\(Gr.dG k.gr (k.p n).cJ 1 0 i).op=_/\(Gr.dG k.gr (k.p n).cJ 1 0 i).oq=_;rw[ut];have q:=mY k.gr g (-1) (-0) i;refine⟨q.1,q.2.1.trans ?_,q.2.2.trans ?_⟩
 .rw[show cp Pr.no i=0 from aI (λx=>x.1 rfl)];unfold cp;by_cases c:i=g
  .subst c;rw[aJ rfl,aJ ⟨s,eg⟩];omega
  .rw[aI c,aI (λx=>c (by have:=x.2;omega))];omega
 .rw[show cq Pr.no i=0 from aI (λx=>x.1 rfl)];have:cq (k.p n) i=0:=by unfold cq;rw[m0];split<;>rfl
  rw[this];split<;>omega
theorem CG.first(h:CG k)(v:VI X N d k)(hn:n<20)(hX:¬X n)(ho:k.sp.of n=z+1)(h1:lv k n=bE->gA k n k1)(h2:lv k n=bF->k1=k):CG k1/\(k1.p n).mem=Mv.j5:=by
 obtain⟨a,_,_,hh,_,_⟩:=v.first hn hX ho h1 h2;refine⟨?_,a.kj.nm n hn hh⟩;cases l:lv k n
 .rw[h2 l];exact h
 .exact h.str hn l (h1 l)
theorem Af{R:Kp->Nat->Kp->Prop}(hR:Ca N d R)(hC:∀(X:Nat->Prop) (k:Kp) (n:Nat) (k':Kp) (z:Nat),VI X N d k->n<20->n≠0->¬X n->k.sp.of n=z+1->(hd k n=n->∀m,m<20->X m->¬Sp.mem k.sp z m)->R k n k'->CG k->CG k'):∀(j:Nat) (k:Kp),EI X N d n z k->jO R (z:Int) j k k'->CG k->CG k'
 |0,k,_,r,h=>by rw[r.1];exact h
 |j+1,k,e,⟨m,k1,hm,r1,r2⟩,h=>by
  obtain⟨m20,m0,mn,mx,mz,y,hy,hx⟩:=e.next hm;exact Af hR hC j k1 (e.step hm hR r1).1 r2 (hC X k m k1 y e.vi m20 m0 mx hy hx r1 h)
theorem Ev:∀f (X:Nat->Prop) (k:Kp) (n:Nat) (k':Kp) (z:Nat),VI X N d k->n<20->n≠0->¬X n->k.sp.of n=z+1->(hd k n=n->∀m,m<20->X m->¬Sp.mem k.sp z m)->iY f k n k'->CG k->CG k'
 |0=>λ_ _ _ _ _ _ _ _ _ _ _ r=>r.elim
 |f+1=>λX k n k' z h hn n0 hX ho hx r c=>by
  obtain⟨k1,h1,h2,r⟩:=r;obtain⟨c1,m1⟩:=c.first h hn hX ho h1 h2;obtain⟨a,sp,tb,hh,s0,fU⟩:=h.first hn hX ho h1 h2;rcases r with⟨_,rfl⟩|⟨q,k2,j,ri,rfl⟩
  .exact c1.fin hn s0 m1
  .have zi:Sp.dV k.sp (n:Int)=z:=Sp.gM hn ho;rw[zi]at ri|-;have ei:EI (λm=>X m\/m=n) N d n z k1:=⟨a,hn,n0, .inr rfl,by rw[sp];exact ho,by rw[sp];exact(iV h.iv h.hs hn ho).1 q,λm m20 xm mn mz=>by
    rw[sp]at mz;exact hx q m m20 (xm.elim id (λq=>aZ q mn)) mz⟩
   obtain⟨_,_,e,_⟩:=EI.iter (oc f) j k1 ei ri;have c2:=Af (oc f) (Ev f) j k1 ei ri c1;exact(c2.fin hn (by rw[e];exact s0) (by rw[e];exact m1)).same rfl (λ_ _=>⟨rfl,rfl,rfl⟩)
end
end Kn
namespace Kn
section
variable {N n z:Nat}{d:Nat->Nat}{k k' k1:Kp}{x:fp}
theorem CG.end(h:CG k)(kh:KH N d k)(e:Cq k n k'):CG k':=by
 obtain⟨c,z,q,hn,n0,l,ho,hp,k1,k3,s1,mt,rfl⟩:=e;have hv:=kh.ki.vi;obtain⟨a,sp,tb,hh,s0,fU⟩:=hv.first hn (λx=>x) ho (λ_=>s1) (λx=>by rw[l]at x;cases x);have c1:=h.str hn l s1;have c2:CG (eP k1 n c):=c1.nT (λ_ _=>⟨rfl,rfl,rfl⟩) (λm hm=>by
  unfold eP;by_cases e:m=n
  .subst e;rw[bR];exact⟨⟨λx=>aZ x (show¬(2:Nat)=0 by decide),λx=>aZ x s0⟩,rfl,rfl⟩
  .rw[cr _ _ _ _ e];exact⟨Iff.rfl,rfl,rfl⟩)
 have c3:CG k3:=by
  rcases mt with⟨_,rfl⟩|⟨ih,j,it⟩
  .exact c2
  .have ih:hd k1 n=n:=ih;have ih:hd k n=n:=by unfold hd at ih|-;rw[<-sp];exact ih
   have ei:EI (λm=>False\/m=n) N d n z k1:=hv.ei hn n0 (λx=>x) ho ih (λ_ _ x=>aZ x (λx=>x)) (λ_=>s1) (λx=>by rw[l]at x;cases x);exact Af (oc 6) (Ev 6) j _ (ei.gone s0 hh c) it c2
 have c4:CG (gK k3 (je k3 n) (Sp.eV k3.sp (z:Int) 1:Nat)):=c3.same rfl (λ_ _=>⟨rfl,rfl,rfl⟩);unfold mV;split
 .exact c4.sc (SC.put _ _ ⟨rfl,rfl,rfl,rfl⟩)
 .exact c4
theorem CG.G8(h:CG k)(kh:KH N d k)(e:R7 k n k'):CG k':=by
 obtain⟨m,m20,m0,_,m2,v⟩:=e;obtain⟨y,oy⟩:=kh.of m20 bG;exact Ev 6 (λ_=>False) k m k' y kh.ki.vi m20 m0 (λx=>x) oy (λ_ _ _ x=>x.elim) v h
theorem vV{t:Nat->Gr.Gp}{Wy:Nat->List (Fin 10)}{p:Int}(e:Gr.gY t Wy g p q=0):Gr.gD t Wy g p q=Gr.gx t g p q:=by unfold Gr.gD;rw[aJ e,hZ]
theorem CG.back(h:CG k)(g10:g<10)(th:(k.gr g).there=bE){p:Int}(hp:0<=p/\p<=1)(hq:0<=q/\q<=16)(i:Nat):(Gr.dG (Gr.gx k.gr g p q) g p q i).there=(k.gr i).there/\(Gr.dG (Gr.gx k.gr g p q) g p q i).op=(k.gr i).op/\(Gr.dG (Gr.gx k.gr g p q) g p q i).oq=(k.gr i).oq:=by
 have a:=mY k.gr g p q;have o1:=(tL (λm=>Cd (k.p m) g) (n:=0) 20).1;have o2:=(tL (λm=>Pf (k.p m) g) (n:=0) 20).1;rw[<-h.op g g10]at o1;rw[<-h.oq g g10]at o2;have ag:=a g;rw[aJ rfl,aJ rfl]at ag;have u:Gr.gj (Gr.gx k.gr g p q) (g:Int) p q=0:=by
  have re:Gr.eC (Gr.gx k.gr g p q) (g:Int) p q=0:=by
   have w:Gr.wr (Gr.gx k.gr g p q) (g:Int)=0:=by unfold Gr.wr;rw[nJ];exact aJ (by rw[hZ,ag.1];exact th)
   unfold Gr.eC;rw[w,aJ rfl,aJ];unfold Gr.jk;apply aO;omega
  unfold Gr.gj;rw[aJ re,hZ,aJ ⟨by omega,bG⟩]
 unfold Gr.dG;rw[aJ u,hZ];have b:=mY (Gr.gx k.gr g p q) g (-p) (-q) i;refine⟨b.1.trans (a i).1,b.2.1.trans ?_,b.2.2.trans ?_⟩
 .rw[(a i).2.1];split<;>omega
 .rw[(a i).2.2];split<;>omega
theorem CG.fork(h:CG k)(kh:KH N d k){z:Int}{own:Bool}{p:Nat}(f:qV k z own p E k'):CG k':=by
 rcases f.cl kh with⟨_,rfl|⟨Wy,n,_,ch,rfl⟩⟩|⟨_,n,c,Wy,_,f,_,ch,g,_,_,_⟩
 .exact h
 .unfold qk at ch;refine h.nT (λi _=>?_) (λ_ _=>⟨Iff.rfl,rfl,rfl⟩);show(Gr.dG (Gr.gD k.gr Wy (k.p n).cJ 1 (Mv.cX (k.p n).mem 16:Int)) (k.p n).cJ 1 (Mv.cX (k.p n).mem 16:Int) i).there=_/\(Gr.dG (Gr.gD k.gr Wy (k.p n).cJ 1 (Mv.cX (k.p n).mem 16:Int)) (k.p n).cJ 1 (Mv.cX (k.p n).mem 16:Int) i).op=_/\(Gr.dG (Gr.gD k.gr Wy (k.p n).cJ 1 (Mv.cX (k.p n).mem 16:Int)) (k.p n).cJ 1 (Mv.cX (k.p n).mem 16:Int) i).oq=_;have re:Gr.eC k.gr (k.p n).cJ 1 (Mv.cX (k.p n).mem 16:Int)=0:=by
   unfold Gr.gY at ch;split at ch
   .assumption
   .exact ch
  obtain⟨g,eg,g10,th,_⟩:=Gr.lP re;rw[eg]at ch|-;rw[vV ch];exact h.back g10 th bG (by have:=YtpmmdkcfenjiaaaGreatDoor.qb (k.p n).mem 16;omega) i
 .unfold qk at ch;obtain⟨i0,eg,g10,th⟩:=h.th n f.hn (by rw[dJ.1 f.ln];omega);have sn:(k.p n).st≠0:=by rw[dJ.1 f.ln];omega
  refine h.one (n:=c) f.j4 (λm _ q=>f.ot m q) (λi _=>?_) (λ_=>⟨i0,by rw[f.me];exact eg,g10,th⟩);rw[g,f.me];show(Gr.gD k.gr Wy (k.p n).cJ 1 (Mv.cX (k.p n).mem 16:Int) i).there=_/\(Gr.gD k.gr Wy (k.p n).cJ 1 (Mv.cX (k.p n).mem 16:Int) i).op=_/\(Gr.gD k.gr Wy (k.p n).cJ 1 (Mv.cX (k.p n).mem 16:Int) i).oq=_;rw[eg]at ch;rw[eg,vV ch];have q:=mY k.gr i0 1 (Mv.cX (k.p n).mem 16:Int) i;have z1:cp (k.p c) i=0:=aI (λx=>x.1 f.c0);have z2:cq (k.p c) i=0:=aI (λx=>x.1 f.c0);rw[z1,z2];refine⟨q.1,q.2.1.trans ?_,q.2.2.trans ?_⟩
  .show _=(k.gr i).op+(if(k.p n).st≠0/\(k.p n).cJ=(i:Int)then 1 else 0)-0;by_cases e:i=i0
   .subst e;rw[aJ rfl,aJ ⟨sn,eg⟩];omega
   .rw[aI e,aI (λx=>e (by have:=x.2;omega))];omega
  .show _=(k.gr i).oq+(if(k.p n).st≠0/\(k.p n).cJ=(i:Int)then(Mv.cX (k.p n).mem 16:Int)else 0)-0;by_cases e:i=i0
   .subst e;rw[aJ rfl,aJ ⟨sn,eg⟩];omega
   .rw[aI e,aI (λx=>e (by have:=x.2;omega))];omega
theorem CG.sf(h:CG k)(kh:KH N d k):∀j {k':Kp},FU j k k'->CG k'
 |0,_,e=>by rw[show _=k from e];exact h
 |j+1,_,⟨_,a,m,y,q,h1,h2,h3,h4,h5,h6⟩=>(h.sf kh j a).end (kh.sf j a) ⟨_,y,q,h1,h2,h3,h4,h5,h6⟩
theorem KH.Ge(kh:KH N d k)(e:Cq k n k'){m:Nat}(hm:m<20)(l:lv k' m=bE):lv k m=bE/\(k'.p m).mem=(k.p m).mem:=by
 obtain⟨c,z,q,hn,n0,ln,ho,hp,et⟩:=e;have es:=kh.JX hn n0 ln ho et;have lm:=(es.2 m hm l).1;have mn:m≠n:=λe=>by subst e;rw[es.1]at l;cases l
 refine⟨lm,?_⟩;obtain⟨k1,k3,s1,mt,rfl⟩:=et;have mq:=kh.ki.vi.mq hn n0 ln ho s1 mt;have key:∀(k:Kp) q,((mV k q).p m).mem=(k.p m).mem:=λk q=>by
  unfold mV;split
  .unfold ja;by_cases c:m=q
   .subst c;rw[bR]
   .rw[cr _ _ _ _ c]
  .rfl
 rw[key];show(k3.p m).mem=_;rcases mq.ot m hm mn with a|a
 .rw[a.1]
 .have s:=dJ.1 l;rw[(Ko _ _ _).1]at s;have s:(k3.p m).st=1:=s;rw[a.1]at s;exact aZ s bM
theorem KH.Gf(kh:KH N d k){m:Nat}(hm:m<20):∀j {k':Kp},FU j k k'->lv k' m=bE->(k'.p m).mem=(k.p m).mem
 |0,_,e,_=>by rw[show _=k from e]
 |j+1,_,⟨k1,a,i,y,q,h1,h2,h3,h4,h5,h6⟩,l=>by
  have b:=(kh.sf j a).Ge ⟨_,y,q,h1,h2,h3,h4,h5,h6⟩ hm l;exact b.2.trans (kh.Gf hm j a b.1)
theorem p8(k:Kp)(n:Nat)(m:Me)(b:Bk)(c:j≠n):(cV k n m b).p j=k.p j:=cr _ _ _ _ c
theorem CG.zj(h:CG k)(kh:KH N d k){z:Int}(hD:∀k n E k',D k n E k'->∃wr g m b b',Mv.kG (k.p n).mem k.bk a wr E g m b/\k'=cV k n m b')(e:jP a D k z v k'):CG k':=by
 obtain⟨E,_,⟨_,rfl⟩|⟨n,_,hn,l,⟨w,e⟩|⟨w,E1,k1,⟨j,k0,en,c⟩,r⟩⟩⟩:=e
 .exact h
 .obtain⟨wr,g,m,b,b',t,rfl⟩:=hD _ _ _ _ e;refine h.same rfl (λj hj=>?_);by_cases c:j=n
  .subst c;rw[jg];refine⟨rfl,rfl,?_⟩;have:=t.res;rw[w,aI (λx=>by cases x.2)]at this;exact this
  .rw[p8 _ _ _ _ c];exact⟨rfl,rfl,rfl⟩
 .have h0:=h.sf kh j en.1;rcases c with⟨l0,eg,Wy,_,ch,rfl⟩|⟨e1,rfl⟩
  .by_cases e1:E1=0
   .rcases r with⟨q,_⟩|⟨_,k2,e,r⟩
    .exact aZ e1 q
    .rw[e1]at ch;have sn:(k0.p n).st≠0:=by rw[dJ.1 l0];omega
     obtain⟨i0,gi,g10,th⟩:=h0.th n hn sn;rw[<-eg,gi]at ch e;have ch:=ch.symm;rw[vV ch]at e;obtain⟨wr,g,m,b,b',t,rfl⟩:=hD _ _ _ _ e;have t:Mv.kG (k0.p n).mem k0.bk a wr E g m b:=t;have ms:=kh.Gf hn j en.1 l0;have tr:=t.res;rw[ms,w]at tr;rcases r with⟨e0,rfl⟩|⟨e0,rfl⟩
     .rw[aJ ⟨e0,rfl⟩]at tr;refine h0.one (n:=n) hn (λj _ c=>p8 _ _ _ _ c) (λi _=>?_) (λ_=>⟨i0,by rw[jg];exact gi,g10,th⟩);rw[jg];have q:=mY k0.gr i0 0 1 i;refine⟨q.1,q.2.1.trans ?_,q.2.2.trans ?_⟩
      .show _=(k0.gr i).op+cp (k0.p n) i-cp (k0.p n) i;split<;>omega
      .unfold cq;show _=(k0.gr i).oq+(if(k0.p n).st≠0/\(k0.p n).cJ=(i:Int)then(Mv.cX m 16:Int)else 0)-_;rw[ms];by_cases c:i=i0
       .subst c;rw[aJ rfl,aJ ⟨sn,gi⟩,aJ ⟨sn,gi⟩];omega
       .rw[aI c,aI (λx=>c (by have:=x.2;omega)),aI (λx=>c (by have:=x.2;omega))];omega
     .rw[aI (λx=>e0 x.1)]at tr;refine h0.nT (λi _=>?_) (λj _=>?_)
      .show(Gr.dG (Gr.gx k0.gr i0 0 1) ((cV _ n m b').p n).cJ 0 1 i).there=_/\(Gr.dG (Gr.gx k0.gr i0 0 1) ((cV _ n m b').p n).cJ 0 1 i).op=_/\(Gr.dG (Gr.gx k0.gr i0 0 1) ((cV _ n m b').p n).cJ 0 1 i).oq=_;rw[jg];show(Gr.dG (Gr.gx k0.gr i0 0 1) (k0.p n).cJ 0 1 i).there=_/\(Gr.dG (Gr.gx k0.gr i0 0 1) (k0.p n).cJ 0 1 i).op=_/\(Gr.dG (Gr.gx k0.gr i0 0 1) (k0.p n).cJ 0 1 i).oq=_;rw[gi];exact h0.back g10 th bG bG i
      .show((((cV _ n m b').p j).st=0↔_)/\((cV _ n m b').p j).cJ=_/\Mv.cX ((cV _ n m b').p j).mem 16=_);by_cases c:j=n
       .subst c;rw[jg];exact⟨Iff.rfl,rfl,by rw[ms];exact tr⟩
       .rw[p8 _ _ _ _ c];exact⟨Iff.rfl,rfl,rfl⟩
   .rcases r with⟨_,_,rfl⟩|⟨q,_⟩
    .have:Gr.gD k0.gr Wy (k.p n).cJ 0 1=k0.gr:=by unfold Gr.gD;rw[aI (by rw[<-ch];exact e1)]
     rw[this];exact h0
    .exact aZ q e1
  .rcases r with⟨_,_,rfl⟩|⟨q,_⟩
   .exact h0
   .omega
theorem CG.join(h:CG k){z g:Int}(e:zM k z g v k'):CG k':=by
 obtain⟨_,_,rfl|⟨n,Wy,m,_,hn,l,w,me,_,rfl⟩⟩:=e
 .exact h
 .have sn:(k.p n).st≠0:=by rw[dJ.1 l];omega
  obtain⟨i0,gi,g10,th,u0,ut⟩:=h.PW hn sn (p:=1) (q:=(Mv.cX (k.p n).mem 16:Int)) bG bG;have mt:Gr.kK k.gr Wy (k.p n).cJ g 1 (Mv.cX (k.p n).mem 16:Int)=Gr.gD (Gr.dG k.gr (k.p n).cJ 1 (Mv.cX (k.p n).mem 16:Int)) Wy g 1 (Mv.cX (k.p n).mem 16:Int):=by unfold Gr.kK;rw[aJ me]
  unfold Gr.nU at me;by_cases wg:Gr.wr k.gr g=0
  .rw[aJ wg,aJ u0]at me;obtain⟨j0,rfl,j10,tj⟩:=Gr.qe wg;rw[vV me,ut]at mt;have pn:(xr k n (j0:Int) (Gr.kK k.gr Wy (k.p n).cJ (j0:Int) 1 (Mv.cX (k.p n).mem 16:Int)) m).p n={k.p n with cJ:=(j0:Int)}:=bR _ _ _;refine h.one (n:=n) hn (λj _ c=>cr _ _ _ _ c) (λi _=>?_) (λ_=>⟨j0,by rw[pn],j10,tj⟩);rw[pn];show(Gr.kK k.gr Wy (k.p n).cJ (j0:Int) 1 (Mv.cX (k.p n).mem 16:Int) i).there=_/\(Gr.kK k.gr Wy (k.p n).cJ (j0:Int) 1 (Mv.cX (k.p n).mem 16:Int) i).op=_/\(Gr.kK k.gr Wy (k.p n).cJ (j0:Int) 1 (Mv.cX (k.p n).mem 16:Int) i).oq=_;rw[mt];have a:=mY k.gr i0 (-1) (-(Mv.cX (k.p n).mem 16:Int)) i;have b:=mY (Gr.gx k.gr i0 (-1) (-(Mv.cX (k.p n).mem 16:Int))) j0 1 (Mv.cX (k.p n).mem 16:Int) i;have e1:(k.p n).cJ=(i:Int)↔i=i0:=by rw[gi];omega
   have e2:(j0:Int)=(i:Int)↔i=j0:=bG
   refine⟨b.1.trans a.1,b.2.1.trans ?_,b.2.2.trans ?_⟩
   .rw[a.2.1];unfold cp;show _=(k.gr i).op+(if(k.p n).st≠0/\(j0:Int)=(i:Int)then 1 else 0)-(if(k.p n).st≠0/\(k.p n).cJ=(i:Int)then 1 else 0);simp only[e1,e2,sn,ne_eq,not_false_eq_true,true_and];split<;>split<;>omega
   .rw[a.2.2];unfold cq;show _=(k.gr i).oq+(if(k.p n).st≠0/\(j0:Int)=(i:Int)then(Mv.cX (k.p n).mem 16:Int)else 0)-(if(k.p n).st≠0/\(k.p n).cJ=(i:Int)then(Mv.cX (k.p n).mem 16:Int)else 0);simp only[e1,e2,sn,ne_eq,not_false_eq_true,true_and];split<;>split<;>omega
  .rw[aI wg]at me;exact aZ me wg
theorem CG.sh(h:CG k)(e:mR li N k k'):CG k':=by
 obtain⟨t,m,g,_,_,rfl⟩:=e;have zero:∀i:Nat,i<10->(∀m,m<20->(k.p m).st≠0->(k.p m).cJ≠(i:Int))->sm (λm=>cp (k.p m) i) 20=0/\sm (λm=>cq (k.p m) i) 20=0:=λi _ hz=>by
  have z:∀M,M<=20->sm (λm=>cp (k.p m) i) M=0/\sm (λm=>cq (k.p m) i) M=0:=λM=>by
   induction M with
   |zero=>intro _;exact⟨rfl,rfl⟩
   |succ M ih=>
    intro hM;have c1:cp (k.p M) i=0:=aI (λx=>hz M bG x.1 x.2);have c2:cq (k.p M) i=0:=aI (λx=>hz M bG x.1 x.2);exact⟨by show sm _ M+cp (k.p M) i=0;rw[(ih bG).1,c1];rfl,by show sm _ M+cq (k.p M) i=0;rw[(ih bG).2,c2];rfl⟩
  exact z 20 (aL _)
 have put:∀(j:Nat) (x:Gr.Gp),j<10->x.op=0->x.oq=0->(∀m,m<20->(k.p m).st≠0->(k.p m).cJ≠(j:Int))->CG {k with gr:=Gr.fK k.gr j x,sc:=m}:=λj x j10 x1 x2 hz=>by
  have zz:=zero j j10 hz;refine⟨λi hi=>?_,λi hi=>?_,λm hm s=>?_⟩
  .show(Gr.fK k.gr j x i).op=_;by_cases c:i=j
   .subst c;rw[Gr.eG,x1];exact zz.1.symm
   .rw[Gr.fc _ _ _ _ c];exact h.op i hi
  .show(Gr.fK k.gr j x i).oq=_;by_cases c:i=j
   .subst c;rw[Gr.eG,x2];exact zz.2.symm
   .rw[Gr.fc _ _ _ _ c];exact h.oq i hi
  .obtain⟨i,a,b,e⟩:=h.th m hm s;refine⟨i,a,b,?_⟩;show(Gr.fK k.gr j x i).there=bE;rw[Gr.fc _ _ _ _ (λc=>hz m hm s (by rw[a,c]))];exact e
 rcases g with rfl|⟨j,p,j10,nt,rfl⟩|⟨Wy,j,j10,_,ww,t1,t2,rfl⟩|⟨_,j,a,b,rfl⟩
 .exact h.same rfl (λ_ _=>⟨rfl,rfl,rfl⟩)
 .refine put j _ j10 rfl rfl (λm hm s e=>?_);obtain⟨i,a,b,e2⟩:=h.th m hm s;obtain rfl:i=j:=bG
  rw[nt]at e2;cases e2
 .refine put j _ j10 rfl rfl (λm hm s e=>?_);obtain⟨i,a,b,e2⟩:=h.th m hm s;obtain rfl:i=j:=bG
  have nn:∀j,j<10->0<=(k.gr j).op:=λj hj=>by rw[h.op j hj];exact(tL (λm=>Cd (k.p m) j) (n:=0) 20).1
  have z0:=Gr.ze (sel:=Gr.Gp.op) nn (aL _) t1 i j10 (Gr.O0 ww j10 e2);have:=(tL (λm=>Cd (k.p m) i) (n:=m) 20).2 hm;rw[<-h.op i j10,show cp (k.p m) i=1 from aJ ⟨s,e⟩,z0]at this;omega
 .refine h.nT (λi _=>?_) (λ_ _=>⟨Iff.rfl,rfl,rfl⟩);show(Gr.fK k.gr j _ i).there=_/\(Gr.fK k.gr j _ i).op=_/\(Gr.fK k.gr j _ i).oq=_;by_cases c:i=j
  .subst c;rw[Gr.eG];exact⟨rfl,rfl,rfl⟩
  .rw[Gr.fc _ _ _ _ c];exact⟨rfl,rfl,rfl⟩
theorem CG.ac(h:CG k)(kh:KH N d k)(e:sO N k x a E k'\/NK x/\rK k x k'):CG k':=by
 rcases e with e|⟨_,e⟩
 .rcases e with⟨_,p,_,e⟩|⟨_,⟨m,_,hm,l,_,rfl⟩|⟨_,rfl⟩⟩|⟨_,_,_,e,_⟩|⟨_,e⟩|⟨_,e⟩|⟨_,_,_,rfl⟩|⟨_,e⟩
  .exact h.fork kh e
  .exact h.Eu hm (by rw[dJ.1 l];omega) _ _
  .exact h
  .exact h.zj kh (λk n E k' ⟨g,m,b,t,e⟩=>⟨_,g,m,b,_,t,e⟩) e
  .exact h.zj kh (λk n E k' ⟨g,m,b,t,e⟩=>⟨_,g,m,b,_,t,e⟩) e
  .exact h.sh e
  .exact h.same rfl (λ_ _=>⟨rfl,rfl,rfl⟩)
  .rcases e.cl kh with e|⟨m,e,_⟩|⟨m,_,e⟩|⟨m,y,_,_,ef,rfl⟩|e|⟨_,e⟩|⟨_,_,rfl⟩
   .exact h.sc e
   .exact h.end kh e
   .exact h.G8 kh e
   .refine h.same rfl (λj _=>?_);by_cases c:j=m
    .subst c;rw[jg];exact⟨rfl,rfl,Mv.Ap 16 (λx _=>by rw[ef])⟩
    .rw[p8 _ _ _ _ c];exact⟨rfl,rfl,rfl⟩
   .exact h.sh e
   .exact h.join e
   .exact h.same rfl (λ_ _=>⟨rfl,rfl,rfl⟩)
 .rcases e.cl kh with e|⟨m,k1,_,s,kh1,_,e⟩
  .exact h.sc e
  .exact(h.sc s).end kh1 e
end
end Kn
namespace Kn
section
variable {N n:Nat}{d:Nat->Nat}{k k' k1:Kp}{x:fp}
theorem GV(k:Kp)(n:Nat)(fd:Nat->Int):∀j,(dL k n fd j).bk=k.bk
 |0=>rfl
 |j+1=>by
  show(if fd j= -1 then dL k n fd j else fS (jJ (dL k n fd j) (fd j)) n j (-1):Kp).bk=_;split<;>exact GV k n fd j
theorem RJ(m:Me)(b:Bk)(a e:Int):(Mv.lD m b a e).dc=b.dc:=by
 unfold Mv.lD;split
 .rfl
 .exact Mv.G5 _ _ _ _
theorem GW(s:gA k n k'):k'.bk.dc=k.bk.dc:=by
 obtain⟨m',_,rfl⟩:=s;show(dL (dz k n 0 16) n (k.p n).fd 6).bk.dc=_;rw[GV];unfold dz;split
 .exact RJ _ _ _ _
 .rfl
theorem xq{R:Kp->Nat->Kp->Prop}(hR:∀k n k',R k n k'->k'.bk.dc=k.bk.dc){z:Int}:∀j (k k':Kp),jO R z j k k'->k'.bk.dc=k.bk.dc
 |0,_,_,r=>by rw[r.1]
 |j+1,_,_,⟨_,_,_,r1,r2⟩=>(xq hR j _ _ r2).trans (hR _ _ _ r1)
theorem AK:∀f (k:Kp) n (k':Kp),iY f k n k'->k'.bk.dc=k.bk.dc
 |0,_,_,_,r=>r.elim
 |f+1,k,n,k',⟨k1,h1,h2,r⟩=>by
  have e1:k1.bk.dc=k.bk.dc:=by
   cases l:lv k n
   .rw[h2 l]
   .exact GW (h1 l)
  rcases r with⟨_,rfl⟩|⟨_,k2,j,ri,rfl⟩
  .exact e1
  .exact(xq (AK f) j _ _ ri).trans e1
theorem Qz(e:Cq k n k'):k'.bk.dc=k.bk.dc:=by
 obtain⟨c,z,q,hn,n0,l,ho,hp,k1,k3,s1,mt,rfl⟩:=e;have e3:k3.bk.dc=k1.bk.dc:=by
  rcases mt with⟨_,rfl⟩|⟨_,j,it⟩
  .rfl
  .exact(xq (AK 6) j _ _ it:k3.bk.dc=(eP k1 n c).bk.dc)
 unfold mV;split<;>exact e3.trans (GW s1)
def BE(k k':Kp):Prop:=∀m,m<20->lv k' m=bE->lv k m=bE/\∀x,x<128->jy k' m x=jy k m x
theorem BE.of(f:∀m,m<20->lv k' m=bE->lv k m=bE/\(k'.p m).mem.fr=(k.p m).mem.fr)(b:k'.bk.dc=k.bk.dc):BE k k':=λm hm l=>⟨(f m hm l).1,λx _=>by unfold jy;rw[(f m hm l).2,b]⟩
theorem BE.pl(f:k'.p=k.p)(b:k'.bk=k.bk):BE k k':=BE.of (λm _ l=>by unfold lv at l|-;rw[f]at l|-;exact⟨l,rfl⟩) (by rw[b])
theorem BE.refl(k:Kp):BE k k:=BE.pl rfl rfl
theorem BE.trans(h:BE k k1)(g:BE k1 k'):BE k k':=λm hm l=>⟨(h m hm (g m hm l).1).1,λx hx=>((g m hm l).2 x hx).trans ((h m hm (g m hm l).1).2 x hx)⟩
theorem BE.sc(s:SC k k'):BE k k':=BE.of (λm _ l=>⟨by rw[dJ]at l|-;rw[<-(s.p m).1];exact l,by rw[(s.p m).2.2.2]⟩) (by rw[s.bk])
theorem BE.end(kh:KH N d k)(e:Cq k n k'):BE k k':=BE.of (λm hm l=>by have:=kh.Ge e hm l;exact⟨this.1,by rw[this.2]⟩) (Qz e)
theorem BE.G8(kh:KH N d k)(e:R7 k n k'):BE k k':=by
 obtain⟨m,m20,m0,mp,m2,v⟩:=e;obtain⟨y,oy⟩:=kh.of m20 bG;obtain⟨_,pno,_,fU,_⟩:=kh.G8 m20 m0 m2 oy v;refine BE.of (λj hj l=>?_) (AK 6 _ _ _ v);by_cases c:j=m
 .subst c;rw[dJ,pno]at l;cases l
 .rw[dJ,(fU j hj c).1]at l;exact⟨dJ.2 l,by rw[(fU j hj c).1]⟩
theorem BE.sf(kh:KH N d k):∀j {k':Kp},FU j k k'->BE k k'
 |0,_,e=>by rw[show _=k from e];exact BE.refl _
 |j+1,_,⟨_,a,m,y,q,h1,h2,h3,h4,h5,h6⟩=>(BE.sf kh j a).trans (BE.end (kh.sf j a) ⟨_,y,q,h1,h2,h3,h4,h5,h6⟩)
theorem DG(k:Kp)(n:Nat)(m:Me)(b:Bk)(j:Nat):((cV k n m b).p j).mem=Mv.im (λn=>(k.p n).mem) n m j/\((cV k n m b).p j).st=(k.p j).st:=by
 by_cases c:j=n
 .subst c;rw[jg,Mv.dZ];exact⟨rfl,rfl⟩
 .rw[p8 _ _ _ _ c,Mv.gv _ _ _ _ c];exact⟨rfl,rfl⟩
theorem zS{m:Me}{b:Bk}(f:Mv.pd b 20 (Mv.im (λn=>(k.p n).mem) n m) fl)(hj:j<20)(hy:y<128):jy (cV k n m b) j y=fl j y:=by
 rw[f j hj y hy];unfold jy;rw[(DG k n m b j).1];rfl
theorem sr(k:Kp)(n:Nat)(m:Me)(b:Bk)(j:Nat):lv (cV k n m b) j=lv k j:=by
 unfold lv;rw[(DG k n m b j).2]
theorem BE.zj(kh:KH N d k)(hn:n<20){wr:Bool}{m:Me}{b:Bk}(t:Mv.kG (k.p n).mem k.bk z wr E g m b):BE k (cV k n m b):=λj hj l=>⟨by rw[sr]at l;exact l,λy hy=>zS (Mv.pd.wA (fl:=jy k) (λ_ _ _ _=>rfl) kh.ki.vi.kj.me hn t) hj hy⟩
def BS(k k':Kp)(n x:Nat)(v:Int):Prop:=∀m,m<20->lv k' m=bE->lv k m=bE/\∀y,y<128->jy k' m y=if m=n/\y=x then v else jy k m y
theorem BS.TS(kh:KH N d k)(hn:n<20){v:Int}(e:vP z v k n 0 k'):BS k k' n z.toNat v/\∃x:Nat,z=x/\x<128:=by
 obtain⟨g,m,b,t,rfl⟩:=e;have may:Mv.jK (k.p n).mem z bE=bE:=by
  rcases t with⟨_,c,_⟩|⟨a,_⟩|⟨a,_⟩
  .exact aZ c bM
  .exact a
  .exact a
 obtain⟨x,rfl,hx⟩:=uT may;refine⟨?_,x,rfl,hx⟩;have w:=kh.ki.vi.kj.me.wA hn t;have f:=Mv.pd.wA (fl:=jy k) (λ_ _ _ _=>rfl) kh.ki.vi.kj.me hn t;have e:=t.fr;rw[hZ]at e;rw[aJ rfl,hZ];have eg:(Mv.im (λn=>(k.p n).mem) n m n).fr (x/8)=g+1:=by rw[Mv.dZ];exact e
 have hg:g<64:=by have:=w.1.le n hn (x/8) bG;omega
 have s:=f.store w.1 hn hx hg eg (w.2 rfl rfl) v;intro j hj l;rw[sr]at l;exact⟨l,λy hy=>zS s hj hy⟩
theorem G0{m:Me}{k k':Bk}{wr:Bool}(t:Mv.kG m k z wr E g m' k'):E=0\/0<E:=by
 rcases t with⟨_,rfl,_⟩|⟨_,_,_,rfl,_⟩|⟨_,_,_,⟨_,t,_⟩,_⟩
 .decide
 .decide
 .rcases t with⟨_,rfl,_⟩|⟨_,_,rfl,_⟩|⟨_,_,rfl,_⟩<;>decide
theorem P6(t:Nat->Gr.Gp)(g:Int):0<=Gr.wr t g:=by unfold Gr.wr;split;decide;split<;>decide
theorem Ga(t:Nat->Gr.Gp)(Wy:Nat->List (Fin 10))(g p q:Int):0<=Gr.gY t Wy g p q:=by
 have r:0<=Gr.eC t g p q:=by
  unfold Gr.eC;split
  .split<;>decide
  .exact P6 _ _
 unfold Gr.gY;split
 .split<;>decide
 .exact r
theorem jP.own(kh:KH N d k){P:Nat->Kp->Kp->Prop}(hD:∀{k n E k'},KH N d k->n<20->lv k n=bE->D k n E k'->(E=0/\P n k k')\/(0<E/\BE k k'))(hP:∀{n k k1 k2},BE k k1->P n k1 k2->P n k k2)(gr:∀{k n E k'} (t:Nat->Gr.Gp),D {k with gr:=t} n E k'->∃k2,D k n E k2/\k'={k2 with gr:=t})(gp:∀{n k k'} (t:Nat->Gr.Gp),P n k k'->P n k {k' with gr:=t})(e:jP a D k z (bS E) k'):(E=0/\∃n:Nat,z=n/\n<20/\lv k n=bE/\P n k k')\/(0<E/\BE k k'):=by
 obtain⟨E',ee,e⟩:=e;obtain rfl:E=E':=by
  by_cases c:E=0
  .subst c;by_cases c':E'=0
   .exact c'.symm
   .rw[bP c']at ee;cases ee
  .by_cases c':E'=0
   .subst c';rw[bP c]at ee;cases ee
   .rw[bP c,bP c']at ee;simpa using ee
 have gb:∀{k k':Kp} (t:Nat->Gr.Gp),BE k k'->BE k {k' with gr:=t}:=λt h=>h.trans (BE.pl rfl rfl);rcases e with⟨e0,rfl⟩|⟨n,rfl,hn,l,⟨_,e⟩|⟨_,E1,k1,⟨j,k0,en,c⟩,r⟩⟩
 .exact .inr ⟨e0,BE.refl _⟩
 .exact(hD kh hn l e).imp (λq=>⟨q.1,n,rfl,hn,l,q.2⟩) id
 .have b0:=BE.sf kh j en.1;have k0h:=kh.sf j en.1;rcases c with⟨l0,_,Wy,_,ce,rfl⟩|⟨ce,rfl⟩
  .rcases r with⟨e1,rfl,rfl⟩|⟨e1,k2,e,r⟩
   .exact .inr ⟨by have:=Ga k0.gr Wy (k.p n).cJ 0 1;omega,gb _ b0⟩
   .obtain⟨k3,e3,rfl⟩:=gr _ e;rcases hD k0h hn l0 e3 with⟨e0,q⟩|⟨e0,q⟩
    .rcases r with⟨_,rfl⟩|⟨c,_⟩
     .exact .inl ⟨e0,n,rfl,hn,l,gp _ (hP b0 q)⟩
     .exact aZ e0 c
    .rcases r with⟨c,_⟩|⟨_,rfl⟩
     .omega
     .exact .inr ⟨e0,gb _ (gb _ (b0.trans q))⟩
  .rcases r with⟨_,rfl,rfl⟩|⟨e1,_⟩
   .exact .inr ⟨by omega,b0⟩
   .omega
end
end Kn
namespace Sp
variable {t:T}{d:Nat->Nat}{z m y:Nat}
theorem Inv.num(h:Inv t d)(hz:z<6)(zh:t.here z=bE)(hm:m<20)(k:mem t z m):∃p,1<=p/\p<=20/\t.cD z p=m+1/\mA t (m:Int) (z:Int)=p:=by
 obtain⟨p,p21,pw⟩:=k;have p0:p≠0:=λe=>by rw[e,h.qQ z hz]at pw;omega
 have pe:iE t z m=p:=by
  unfold iE;rw[vX (i:=p) p21 (by unfold tV;exact aO pw) (λj hj=>by
   unfold tV;apply aT;intro e;have:=h.one z j p hz bG p21 (by rw[e,pw]) bG;omega)]
  rfl
 refine⟨p,bG,bG,pw,?_⟩;unfold mA xC iX;rw[iW hz zh,aJ rfl,rC hm,aJ rfl,hZ,hZ,pe,aI p0,aJ rfl]
theorem Nh{p:Nat}(hz:z<6)(zh:t.here z=bE)(p1:1<=p)(p2:p<=20)(w:t.cD z p=m+1):gF t (z:Int) (p:Int)=0/\eV t (z:Int) (p:Int)=m:=by
 have e:gF t (z:Int) (p:Int)=0:=by
  unfold gF;rw[iW hz zh,aJ rfl,hZ,hZ,nJ]
 refine⟨e,?_⟩;unfold eV;rw[e,aJ rfl,hZ,hZ,w];omega
end Sp
namespace Kn
section
variable {N:Nat}{d:Nat->Nat}{k:Kp}{n z:Nat}
theorem Jw(hn:n<20)(l:lv k n=bE):cH k (n:Int)=0:=by
 unfold cH;rw[nJ,hZ,l];rfl
theorem KH.OI(h:KH N d k)(hn:n<20)(l:lv k n=bE)(o:k.sp.of n=z+1){m:Nat}(hm:m<20)(mm:Sp.mem k.sp z m):∃p,1<=p/\p<=20/\Sp.mA k.sp (m:Int) (z:Int)=p/\eZ k (n:Int) (p:Int)=(if lv k m=bE then 0 else 8)/\(lv k m=bE->iZ k (n:Int) (p:Int)=m):=by
 obtain⟨_,z6,zh⟩:=h.ki.vi.iv.dj hn o;obtain⟨p,p1,p2,pw,pe⟩:=h.ki.vi.iv.num z6 zh hm mm;obtain⟨f1,f2⟩:=Sp.Nh z6 zh p1 p2 pw;have e:eZ k (n:Int) (p:Int)=(if lv k m=bE then 0 else 8):=by
  unfold eZ;rw[Jw hn l,aJ rfl,Sp.gM hn o,f1,aJ rfl,f2]
 refine⟨p,p1,p2,pe,e,λlm=>?_⟩;unfold iZ;rw[e,aJ lm,aJ rfl,Sp.gM hn o,f2]
end
end Kn
namespace Kn
section
variable {N n:Nat}{d:Nat->Nat}{k k' k1:Kp}{x:fp}
def BU(k k':Kp)(n b c:Nat):Prop:=∀m,m<20->lv k' m=bE->lv k m=bE/\∀y,y<128->jy k' m y=if m=n/\8*b<=y/\y<8*(b+c)then 0 else jy k m y
theorem BU.of(h:Mv.kF (b:Int) (c:Int)=0):BU k (dz k n b c) n b c:=by
 have hb:Mv.j9 (b:Int) (c:Int)≠bE:=λe=>by unfold Mv.kF at h;rw[aJ e]at h;cases h
 unfold dz;rw[aJ h];have e1:Mv.j7 (k.p n).mem b c=Mv.gV (k.p n).mem b (b+c):=by unfold Mv.j7;rw[aI hb];rfl
 have e2:Mv.lD (k.p n).mem k.bk b c=Mv.gU (k.p n).mem k.bk b c:=by unfold Mv.lD;rw[aI hb];rfl
 rw[e1,e2];have f:=Mv.pd.Cp (fl:=jy k) (k:=k.bk) (N:=20) (me:=λn=>(k.p n).mem) (i:=n) (x:=b) (n:=c) (λ_ _ _ _=>rfl);intro m hm l;refine⟨by rw[<-sr k n (Mv.gV (k.p n).mem b (b+c)) (Mv.gU (k.p n).mem k.bk b c)];exact l,λy hy=>?_⟩;exact(zS f hm hy:jy (cV k n _ _) m y=_)
def R6(k:Kp)(x:fp)(a:Int)(k':Kp):Prop:=
 (kd x [102,111,114,107]/\∃n c p:Nat,x.a=n/\FK k n c k'/\a=p/\p<=20/\eZ k' (n:Int) (p:Int)=0/\iZ k' (n:Int) (p:Int)=c)\/
 (kd x [117,110,109,97,112]/\∃n b c:Nat,x.a=n/\n<20/\x.b=b/\x.c=c/\b+c<=16/\BU k k' n b c)\/
 (kd x [115,116,111,114,101]/\∃n y:Nat,x.a=n/\n<20/\x.b=y/\y<128/\BS k k' n y (IntKind.u8.wrap x.c))\/
 (kd x [108,111,97,100]/\∃n y:Nat,x.a=n/\n<20/\x.b=y/\y<128/\BE k k'/\lv k' n=bE/\(a=jy k' n y\/a=IntKind.i64.wrap (jy k' n y)))\/
 ((x.kind.toList==[102,111,114,107])=bF/\(x.kind.toList==[117,110,109,97,112])=bF/\(x.kind.toList==[115,116,111,114,101])=bF/\(x.kind.toList==[108,111,97,100])=bF/\BE k k')
theorem FK.OI{N' c:Nat}{d':Nat->Nat}(kh:KH N d k)(kh':KH N' d' k')(f:FK k n c k'):∃p,Sp.mA k'.sp (c:Int) (Sp.dV k'.sp (n:Int):Nat)=p/\p<=20/\eZ k' (n:Int) (p:Int)=0/\iZ k' (n:Int) (p:Int)=c:=by
 have c0:c≠0:=λe=>by have:=f.c0;rw[e,dJ.1 kh.l0]at this;cases this
 have nc:n≠c:=λe=>by have:=dJ.1 f.ln;rw[e,f.c0]at this;cases this
 have s1:(k'.p c).st=1:=by rw[f.me];exact dJ.1 f.ln
 obtain⟨q,a⟩:=kh'.pp c f.j4 c0 bG;have pn:(k'.p c).par=(n:Int):=by rw[f.me];rfl
 obtain rfl:q=n:=by have:=a.pq;omega
 obtain⟨y,oy,my,_⟩:=a.oq;obtain⟨p,_,p2,pe,se,sn⟩:=kh'.OI f.hn a.lq oy f.j4 my;rw[Sp.gM f.hn oy];rw[aJ (dJ.2 s1)]at se;exact⟨p,pe,p2,se,sn (dJ.2 s1)⟩
theorem FK.bytes(f:FK k n c k'):∀m,m<20->lv k' m=bE->(m=c\/lv k m=bE)/\∀y,jy k' m y=jy k (if m=c then n else m) y:=λm hm l=>by
 have eb:k'.bk.dc=k.bk.dc:=by rw[f.bk];rfl
 by_cases e:m=c
 .subst e;refine⟨.inl rfl,λy=>?_⟩;unfold jy;rw[aJ rfl,eb,f.me];rfl
 .refine⟨.inr (by rw[dJ]at l|-;rw[<-f.ot m e];exact l),λy=>?_⟩;unfold jy;rw[aI e,eb,f.ot m e]
theorem Tp(kh:KH N d k)(e:uk N k x k'):BE k k':=by
 rcases e.cl kh with e|⟨_,e,_⟩|⟨_,_,e⟩|⟨n,m,hn,l,em,rfl⟩|⟨_,_,_,_,_,rfl⟩|⟨_,_,_,rfl|⟨n,Wy,m,_,hn,l,w,me,_,rfl⟩⟩|⟨_,_,rfl⟩
 .exact .sc e
 .exact .end kh e
 .exact .G8 kh e
 .refine .of (λj _ q=>⟨by rw[sr]at q;exact q,?_⟩) rfl;by_cases c:j=n
  .subst c;rw[jg];exact em
  .rw[p8 _ _ _ _ c]
 .exact .pl rfl rfl
 .exact .refl _
 .refine .of (λj _ q=>?_) rfl;by_cases c:j=n
  .subst c;have pn:(xr k j x.b (Gr.kK k.gr Wy (k.p j).cJ x.b 1 (Mv.cX (k.p j).mem 16:Int)) m).p j={k.p j with cJ:=x.b}:=bR _ _ _;exact⟨l,by rw[pn]⟩
  .have ep:(xr k n x.b (Gr.kK k.gr Wy (k.p n).cJ x.b 1 (Mv.cX (k.p n).mem 16:Int)) m).p j=k.p j:=cr _ _ _ _ c;rw[dJ,ep]at q;exact⟨dJ.2 q,by rw[ep]⟩
 .exact .pl rfl rfl
theorem Sl(kh:KH N d k)(e:rK k x k'):BE k k':=by
 rcases e.cl kh with e|⟨n,k1,_,s,h1,_,e⟩
 .exact .sc e
 .exact(BE.sc s).trans (.end h1 e)
theorem Sq{own:Bool}{p:Nat}(f:qV k z own p E k'):0<=E:=by
 rcases f with⟨a,rfl,_⟩|⟨_,n,c,F,Wy,_,_,fr,_,f⟩
 .have:=sR a;omega
 .have F0:0<=F:=by rcases fr with q|q<;>omega
  rcases f with⟨_,rfl,_⟩|⟨_,_,rfl,_⟩|⟨_,_,_,rfl,_⟩|⟨_,_,_,rfl,_⟩
  .exact F0
  .exact Ga _ _ _ _ _
  .have i:∀z,0<=Sp.cQ (dh k Wy n).sp z:=λz=>by
    unfold Sp.cQ;split
    .decide
    .split<;>decide
   unfold jC Sp.iN;split
   .split
    .split
     .decide
     .split<;>decide
    .exact i _
   .decide
  .decide
theorem CG.UD(h:CG k)(hn:n<20)(s:(k.p n).st≠0)(u:Mv.kF a m=0):pM k n a m=0:=by
 unfold Kn.pM;rw[aJ u];have r:=AE (k.p n).mem (a:=a) (n:=m) u;obtain⟨_,_,_,_,q,_⟩:=h.PW hn s (p:=0) (q:=(Mv.qN (k.p n).mem a m:Int)) bG bG;exact q
theorem ly{l m:List UInt8}(h:kd x l)(n:(l==m)=bF):(x.kind.toList==m)=bF:=by rw[eq_of_beq h];exact n
theorem Tq(cg:CG k)(kh:KH N d k)(kh':KH N' d' k')(e:sO N k x a E k'\/NK x/\rK k x k'):(0<E/\BE k k')\/(E<=0/\R6 k x a k'):=by
 have no:∀{P:Prop},(x.kind.toList==[102,111,114,107])=bF/\(x.kind.toList==[117,110,109,97,112])=bF/\(x.kind.toList==[115,116,111,114,101])=bF/\(x.kind.toList==[108,111,97,100])=bF->BE k k'->(0<E/\BE k k')\/(E<=0/\R6 k x a k'):=λq b=>by
  by_cases c:0<E
  .exact .inl ⟨c,b⟩
  .exact .inr ⟨by omega, .inr (.inr (.inr (.inr ⟨q.1,q.2.1,q.2.2.1,q.2.2.2,b⟩)))⟩
 have nk:NK x->(x.kind.toList==[102,111,114,107])=bF/\(x.kind.toList==[117,110,109,97,112])=bF/\(x.kind.toList==[115,116,111,114,101])=bF/\(x.kind.toList==[108,111,97,100])=bF:=λq=>⟨q _ bM,q _ bM,q _ bM,q _ bM⟩;rcases e with e|⟨q,e⟩
 .rcases e with⟨t,p,rfl,e⟩|⟨t,⟨n,xa,hn,l,rfl,rfl⟩|⟨e0,rfl⟩⟩|⟨t,u,hu,e,hb⟩|⟨t,e⟩|⟨t,_,_,_,_,_,rfl⟩|⟨t,_,_,rfl⟩|⟨q,e⟩
  .have nn:=Sq e;rcases e.cl kh with⟨e0,e⟩|⟨e0,n,c,Wy,xa,f,_,_,_,_,_,ep⟩
   .refine .inl ⟨by omega,?_⟩;rcases e with rfl|⟨_,_,_,_,rfl⟩
    .exact .refl _
    .exact .pl rfl rfl
   .obtain⟨p',e1,e2,e3,e4⟩:=f.OI kh kh';obtain rfl:p=p':=ep.trans e1;exact .inr ⟨by omega, .inl ⟨t,n,c,p,xa,f,rfl,e2,e3,e4⟩⟩
  .have nn:0<=pM k n x.b x.c/\(pM k n x.b x.c=0->Mv.kF x.b x.c=0):=by
    have u:Mv.kF x.b x.c=1\/Mv.kF x.b x.c=0:=by unfold Mv.kF;split<;>simp
    unfold pM;split
    .refine⟨?_,λ_=>by assumption⟩;have w:=P6 k.gr (k.p n).cJ;unfold Gr.gj;split
     .split<;>decide
     .unfold Gr.eC;split
      .split<;>decide
      .exact w
    .rename_i c;exact⟨by omega,λc'=>aZ c' c⟩
   by_cases c:pM k n x.b x.c=0
   .have u0:=nn.2 c;have bd:¬(x.b<0\/15<x.b\/x.c<1\/16-x.b<x.c):=λq=>by
     unfold Mv.kF Mv.j9 at u0;rw[aJ (aO q)]at u0;cases u0
    obtain⟨b,hb⟩:=aG (show 0<=x.b by omega);obtain⟨m,hm⟩:=aG (show 0<=x.c by omega);rw[hb,hm]at u0|-;exact .inr ⟨by rw[hb,hm]at c;omega, .inr (.inl ⟨t,n,b,m,xa,hn,hb,hm,bG,BU.of u0⟩)⟩
   .refine .inl ⟨by omega,?_⟩;by_cases u:Mv.kF x.b x.c=0
    .exact aZ (cg.UD hn (by rw[dJ.1 l];omega) u) c
    .unfold dz;rw[aI u];exact .refl _
  .exact .inl ⟨e0, .refl _⟩
  .have r:=jP.own (P:=λn k k'=>BE k k'/\lv k' n=bE/\∃y:Nat,x.b=y/\y<128) kh (λ{k n E k'} kh hn l e=>by
    obtain⟨g,m,b,t,rfl⟩:=e;rcases G0 t with c|c
    .refine .inl ⟨c,BE.zj kh hn t,by rw[sr];exact l,uT (m:=(k.p n).mem) (wr:=false) ?_⟩;rcases t with⟨_,c',_⟩|⟨a,_⟩|⟨a,_⟩
     .omega
     .exact a
     .exact a
    .exact .inr ⟨c,BE.zj kh hn t⟩) (λb q=>⟨b.trans q.1,q.2⟩) (λt e=>by
    obtain⟨g,m,b,t,rfl⟩:=e;exact⟨_,⟨g,m,b,t,rfl⟩,rfl⟩) (λt q=>⟨q.1.trans (BE.pl rfl rfl),q.2⟩) e
   rcases r with⟨e0,n,xa,hn,_,be,l,y,xb,hy⟩|r
   .have hb:=hb e0;rw[xa,xb,hZ,hZ]at hb;rw[hb]at hu;exact .inr ⟨by omega, .inr (.inr (.inr (.inl ⟨t,n,y,xa,hn,xb,hy,be,l,hu⟩)))⟩
   .exact .inl r
  .have r:=jP.own (P:=λn k k'=>∃y:Nat,x.b=y/\y<128/\BS k k' n y (IntKind.u8.wrap x.c)) kh (λ{k n E k'} kh hn l e=>by
    by_cases c:E=0
    .subst c;obtain⟨b,y,xb,hy⟩:=BS.TS kh hn e;rw[xb,hZ]at b;exact .inl ⟨rfl,y,xb,hy,b⟩
    .obtain⟨g,m,b,t,rfl⟩:=e;rw[aI c];exact .inr ⟨by rcases G0 t with c'|c'<;>omega,BE.zj kh hn t⟩) (λ{n k k1 k2} b ⟨y,xb,hy,q⟩=>⟨y,xb,hy,λm hm l=>⟨(b m hm (q m hm l).1).1,λz hz=>by rw[(q m hm l).2 z hz,(b m hm (q m hm l).1).2 z hz]⟩⟩) (λt e=>by
    obtain⟨g,m,b,t,rfl⟩:=e;exact⟨_,⟨g,m,b,t,rfl⟩,rfl⟩) (λt q=>q) e
   rcases r with⟨e0,n,xa,hn,_,y,xb,hy,b⟩|r
   .exact .inr ⟨by omega, .inr (.inr (.inl ⟨t,n,y,xa,hn,xb,hy,b⟩))⟩
   .exact .inl r
  .exact no (P:=True) ⟨ly t rfl,ly t rfl,ly t rfl,ly t rfl⟩ (.pl rfl rfl)
  .exact no (P:=True) ⟨ly t rfl,ly t rfl,ly t rfl,ly t rfl⟩ (.pl rfl rfl)
  .exact no (P:=True) (nk q) (Tp kh e)
 .exact no (P:=True) (nk q) (Sl kh e)
end
end Kn
structure KW (w:bD)(kb N:Nat)(d:Nat->Nat)(s:St)(W:bD):Prop where
 cZ:Below w.heap.size w W
 kk:bT W w.heap.size s
 kh:KH N d s.k
 a0:s.A 0=kb
section
variable {w W W':bD}{kb N:Nat}{d:Nat->Nat}{s:St}
theorem KW.below(h:KW w kb N d s W)(b:Below W.heap.size W W'):KW w kb N d s W':=⟨h.cZ.trans (b.mono h.cZ.size),h.kk.below b,h.kh,h.a0⟩
theorem KW.step(h:KW w kb N d s W)(k:bT W' w.heap.size s')(f:KF s W s' W')(kh:KH N' d' s'.k):KW w kb N' d' s' W':=⟨f.behind h.kk h.cZ (aL _) h.cZ.size,k,kh,f.a0.trans h.a0⟩
end
theorem QD(a:Option Addr)(b o n c m:Nat)(ax:Nat->fp)(w:bD)(hm:m<=1000)(ha:0<n->a=bB ⟨b,o,bC⟩)(h:∀i,i<n->∀j,j<8->w.cell? ⟨b,o+i*8+j,bC⟩=bB ((ax i).cell j)):Calls prog 10 #[aj a n c,aa bf (m:Int)] w λe w'=>∃v:Bool,e= .returned (ar v)/\(v=bE->n<=m/\∀i,i<n->(ax i).s.size<2^59)/\w'=w:=by
 by_cases l:n<=m
 .refine(J1 a b o n c m ax w bG bG ha h).mono ?_;rintro e w' ⟨v,rfl,lt,hw⟩;refine⟨v,rfl,λe=>⟨l,λi hi=>?_⟩,hw⟩;subst e;rcases lt with q|q
  .cases q
  .have:=(q.2 i hi).1;omega
 .refine(QF a n c m w bG).mono ?_;rintro e w' ⟨rfl,hw⟩;exact⟨bF,rfl,nofun,hw⟩
theorem Mw{a:Option Addr}{len:Nat}(h:vK w a len){P:Prop}(hP:∀(b o:Nat) (ax:Nat->fp),(0<len->a=bB ⟨b,o,bC⟩)->(∀i,i<len->∀j,j<8->w.cell? ⟨b,o+i*8+j,bC⟩=bB ((ax i).cell j))->P):P:=by
 by_cases h0:len=0
 .subst h0;exact hP 0 0 (λ_=>⟨⟨#[]⟩,0,0,0,0,bF,⟨#[]⟩,⟨#[]⟩⟩) (λc=>aZ c bG) (λi hi=>aZ hi bG)
 .obtain⟨b,o,ax,ha,hc⟩:=h.2 bG;exact hP b o ax (λ_=>ha) hc
theorem yW(a1 a2:Option Addr)(n1 n2 c1 c2:Nat)(w:bD)(h:(n1:Int)≠(n2:Int)):
  Calls prog 17 #[aj a1 n1 c1,aj a2 n2 c2] w λe w'=>e= .returned (ar bF)/\w'=w:=by
 go_in
 go_wp2
 go_ret
 exact⟨rfl,rfl⟩
def wN(fl:Nat->Nat->Int):Array Value:=((List.range 2560).map λo=>aa bh (fl (o/128) (o%128))).toArray
theorem Dd(fl:Nat->Nat->Int)(hn:n<20)(hy:y<128):(wN fl)[n*128+y]? =bB (aa bh (fl n y)):=by
 have e1:(n*128+y)/128=n:=bG
 have e2:(n*128+y)%128=y:=bG
 have h:n*128+y<2560:=bG
 simp[wN,h,e1,e2]
theorem tq(fl:Nat->Nat->Int):(wN fl).size=2560:=by simp[wN]
theorem De{A:Array Value}(hs:A.size=2560)(h:∀n y,n<20->y<128->A[n*128+y]? =bB (aa bh (fl n y))):A=wN fl:=by
 apply bL;intro i;by_cases c:i<2560
 .have e:i/128*128+i%128=i:=bG
  have:=h (i/128) (i%128) bG bG;rw[e]at this;have q:=Dd fl (n:=i/128) (y:=i%128) bG bG;rw[e]at q;rw[this,q]
 .rw[aR bG,aR (by rw[tq];omega)]
def mW(W:bD)(b:Nat)(fl:Nat->Nat->Int):Prop:=W.heap[b]? =bB (bA (wN fl) 45 (0,0))
section
variable {W W':bD}{b:Nat}{fl:Nat->Nat->Int}
theorem mW.lt(h:mW W b fl):b<W.heap.size:=(aX.1 h).1
theorem mW.cell(h:mW W b fl){n y:Nat}(hn:n<20)(hy:y<128):W.cell? ⟨b,n*128+y,bC⟩=bB (aa bh (fl n y)):=by rw[cA h,Dd fl hn hy]
theorem mW.frozen(h:mW W b fl)(o:Nat):W.frozen? ⟨b,o,bC⟩=bF:=cL h o
theorem mW.set(h:mW W b fl)(hn:n<20)(hy:y<128)(v:Int):mW (W.setCell ⟨b,n*128+y,bC⟩ (aa bh v)) b (Mv.oO fl n y v):=by
 unfold mW;rw[cT h (n*128+y),De (A:=(wN fl).setIfInBounds (n*128+y) (aa bh v)) (fl:=Mv.oO fl n y v) (by rw[Array.size_setIfInBounds,tq]) (λm z hm hz=>?_)];unfold Mv.oO;by_cases c:m=n/\z=y
 .rw[aJ c,c.1,c.2,aE (by rw[tq];omega)]
 .rw[aI c,aU bG,Dd fl hm hz]
def sB(f:Nat->Int):List Value:=(List.range 128).map λy=>aa bh (f y)
theorem nE(f:Nat->Int):(sB f).length=128:=by simp[sB]
theorem Lr(f:Nat->Int)(h:y<128):(sB f)[y]? =bB (aa bh (f y)):=by simp[sB,h]
theorem Rt(f:Nat->Int):(sB f).toArray.all (·.oneCell')=bE:=all_oneCell_toArray λv hv=>by
 obtain⟨y,_,rfl⟩:=List.mem_map.1 hv;rfl
theorem mW.range(h:mW W b fl)(hn:n<20):W.rangeAt b (n*128) (sB (fl n)):=λj v hv=>by
 have hj:j<128:=by have:=(aY.1 hv).1;rw[nE]at this;exact this
 rw[Lr _ hj]at hv;rw[h.cell hn hj,<-hv]
theorem mW.there(h:mW W b fl){n:Nat}(hn:n<20):W.there b (n*128) 128:=λj hj=>⟨by rw[h.cell hn hj];rfl,h.frozen _⟩
theorem mW.put(h:mW W b fl)(hn:n<20)(f:Nat->Int):mW (W.setCells b (n*128) (sB f)) b (λj=>if j=n then f else fl j):=by
 obtain⟨C',e',sz'⟩:=ed b (sB f) (n*128) W _ h;unfold mW;rw[e',De (A:=C') (fl:=λj=>if j=n then f else fl j) (by rw[sz',tq]) (λm z hm hz=>?_)];have th:∀j,j<(sB f).length->(W.cell? ⟨b,n*128+j,bC⟩).isSome=bE:=λj hj=>by rw[nE]at hj;rw[h.cell hn hj];rfl
 rw[<-cA e' (m*128+z)];by_cases c:m=n
 .subst c;rw[aS b (sB f) (m*128) W th z (by rw[nE];exact hz)];show bB _=bB (aa bh ((if m=m then f else fl m) z));rw[aJ rfl];have:=Lr f hz;rw[aW (by rw[nE];exact hz)]at this;exact this
 .rw[aA _ _ _ _ _ (by rw[nE];intro _ _;show m*128+z<n*128\/n*128+128<=m*128+z;omega),h.cell hm hz];show bB (aa bh (fl m z))=bB (aa bh ((if m=n then f else fl m) z));rw[aI c]
end
theorem OY(z:Int):0<=IntKind.u8.wrap z/\IntKind.u8.wrap z<256:=by
 unfold IntKind.wrap;simp[IntKind.bits,IntKind.signed];omega
theorem PQ(h0:0<=z)(h1:z<256):IntKind.u8.wrap z=z:=by
 unfold IntKind.wrap;simp[IntKind.bits,IntKind.signed];omega
namespace Kn
theorem IM(f:FK k n c k'):(fN k' 20).length=(fN k 20).length+1:=by
 have key:∀M,((List.range M).filter (lv k')).length=((List.range M).filter (lv k)).length+if c<M then 1 else 0:=λM=>by
  induction M with
  |zero=>rfl
  |succ M ih=>
   rw[List.range_succ,List.filter_append,List.filter_append,List.length_append,List.length_append,ih];by_cases e:M=c
   .subst e;have l1:lv k' M=bE:=dJ.2 (by rw[f.me];exact dJ.1 f.ln);have l0:lv k M=bF:=by unfold lv;rw[f.c0];rfl
    simp[l1,l0]
   .have l1:lv k' M=lv k M:=by unfold lv;rw[f.ot M e]
    have q:(c<M+1)↔c<M:=bG
    cases e:lv k M<;>simp[l1,e,q]<;>omega
 have:=key 20;rw[aJ f.j4]at this;exact this
end Kn
structure iL (w:bD)(kb N:Nat)(d:Nat->Nat)(s:St)(fb:Nat)(fl:Nat->Nat->Int)(W:bD):Prop where
 kw:KW w kb N d s W
 cg:Kn.CG s.k
 ft:mW W fb fl
 nk:¬KB s fb
 ge:w.heap.size<=fb
def lg(k:Kp)(fl:Nat->Nat->Int):Prop:=(∀n,n<20->Kn.lv k n=bE->∀y,y<128->fl n y=Kn.jy k n y)/\∀n y,0<=fl n y/\fl n y<256
section
variable {w W W':bD}{kb N fb n:Nat}{d:Nat->Nat}{s:St}{fl fl':Nat->Nat->Int}{k k':Kp}
theorem iL.below(h:iL w kb N d s fb fl W)(b:Below W.heap.size W W'):iL w kb N d s fb fl W':=⟨h.kw.below b,h.cg,(b.block fb h.ft.lt).trans h.ft,h.nk,h.ge⟩
theorem iL.jN(h:iL w kb N d s fb fl W)(f:bO fb W W')(t:mW W' fb fl'):iL w kb N d s fb fl' W':=⟨⟨f.below h.kw.cZ h.ge h.kw.cZ.size,h.kw.kk.fresh f h.nk,h.kw.kh,h.kw.a0⟩,h.cg,t,h.nk,h.ge⟩
theorem iL.set(h:iL w kb N d s fb fl W){y:Nat}(hn:n<20)(hy:y<128)(v:Int):iL w kb N d s fb (Mv.oO fl n y v) (W.setCell ⟨fb,n*128+y,bC⟩ (aa bh v)):=h.jN ((bO.refl _ _).setCell _ _) (h.ft.set hn hy v)
theorem iL.put(h:iL w kb N d s fb fl W)(hn:n<20)(f:Nat->Int):iL w kb N d s fb (λj=>if j=n then f else fl j) (W.setCells fb (n*128) (sB f)):=h.jN (bO.setCells _ _ (bO.refl _ _)) (h.ft.put hn f)
theorem iL.step(h:iL w kb N d s fb fl W)(f:KF s W s' W')(k:KW w kb N' d' s' W')(cg:Kn.CG s'.k):iL w kb N' d' s' fb fl W':=⟨k,cg,(f.jl h.ft.lt h.nk).trans h.ft,f.apart h.ft.lt h.nk,h.ge⟩
theorem lg.be(h:lg k fl)(b:Kn.BE k k'):lg k' fl:=⟨λn hn l y hy=>(h.1 n hn (b n hn l).1 y hy).trans ((b n hn l).2 y hy).symm,h.2⟩
theorem lg.fk(h:lg k fl)(f:Kn.FK k n c k'):lg k' (λj=>if j=c then fl n else fl j):=by
 refine⟨λm hm l y hy=>?_,λm y=>?_⟩
 .have q:=f.bytes m hm l;show(if m=c then fl n else fl m) y=_;rw[q.2 y];by_cases e:m=c
  .rw[aJ e,aJ e];exact h.1 n f.hn f.ln y hy
  .rw[aI e,aI e];exact h.1 m hm (q.1.resolve_left e) y hy
 .show 0<=(if m=c then fl n else fl m) y/\(if m=c then fl n else fl m) y<256;split<;>exact h.2 _ _
theorem lg.bu(h:lg k fl)(u:Kn.BU k k' n b c):lg k' (Mv.mf fl n (8*b) (8*(b+c))):=by
 refine⟨λm hm l y hy=>?_,λm y=>?_⟩
 .rw[(u m hm l).2 y hy,<-h.1 m hm (u m hm l).1 y hy];rfl
 .unfold Mv.mf;split
  .omega
  .exact h.2 _ _
theorem lg.bs(h:lg k fl){v:Int}(u:Kn.BS k k' n y v)(v0:0<=v)(v1:v<256):lg k' (Mv.oO fl n y v):=by
 refine⟨λm hm l z hz=>?_,λm z=>?_⟩
 .rw[(u m hm l).2 z hz,<-h.1 m hm (u m hm l).1 z hz];rfl
 .unfold Mv.oO;split
  .omega
  .exact h.2 _ _
theorem Jn(fl:Nat->Nat->Int)(n a e:Nat):Mv.oO (Mv.mf fl n a e) n e 0=Mv.mf fl n a (e+1)\/e<a:=by
 by_cases c:e<a
 .exact .inr c
 .refine .inl (funext λj=>funext λy=>?_);unfold Mv.oO Mv.mf;grind
theorem Jo(fl:Nat->Nat->Int)(n a:Nat):Mv.mf fl n a a=fl:=by
 funext j y;unfold Mv.mf;exact nJ
end
def ud(W:bD)(b:Nat)(n m e:Int)(t:bU):Prop:=W.heap[b]? =bB (bA #[aa bf n,aa bf m,aa bf e,ak t] 38 (0,0))
theorem ud.lt{W:bD}{n:Int}(h:ud W b n m e t):b<W.heap.size:=(aX.1 h).1
structure AW (VK:Nat)(s:St)(w:bD)(c:Nat)(s1:St)(n m:Int)(t:bU)(W:bD):Prop where
 kk:bT W VK s1
 kf:KF s w s1 W
 a4:ud W c 0 0 0 ⟨#[]⟩
 a5:ud W (c+1) n m 0 t
 n4:¬KB s1 c
 n5:¬KB s1 (c+1)
 ge:w.heap.size<=c
section
variable {VK c:Nat}{s s1 s2:St}{w W W2:bD}{n m:Int}{t:bU}
theorem AW.step(h:AW VK s w c s1 n m t W)(k:bT W2 VK s2)(f:KF s1 W s2 W2):AW VK s w c s2 n m t W2:=
 ⟨k,h.kf.trans f,(f.jl h.a4.lt h.n4).trans h.a4,(f.jl h.a5.lt h.n5).trans h.a5,f.apart h.a4.lt h.n4,f.apart h.a5.lt h.n5,h.ge⟩
theorem AW.set(h:AW VK s w c s1 n m t W)(j:Nat)(v:Value){n' m':Int}{t':bU}(e:ud (W.setCell ⟨c+1,j,bC⟩ v) (c+1) n' m' 0 t'):AW VK s w c s1 n' m' t' (W.setCell ⟨c+1,j,bC⟩ v):=by
 have f:bO (c+1) W (W.setCell ⟨c+1,j,bC⟩ v):=(bO.refl _ _).setCell _ _;exact⟨h.kk.fresh f h.n5,h.kf.fresh f (by have:=h.ge;omega),(f.block c h.a4.lt bG).trans h.a4,e,h.n4,h.n5,h.ge⟩
theorem AW.kM(h:AW VK s w c s1 n m t W)(x:Int):AW VK s w c s1 x m t (W.setCell ⟨c+1,0,bC⟩ (aa bf x)):=h.set 0 _ (by unfold ud;rw[cT h.a5 0];rfl)
theorem AW.Ec(h:AW VK s w c s1 n m t W)(x:Int):AW VK s w c s1 n x t (W.setCell ⟨c+1,1,bC⟩ (aa bf x)):=h.set 1 _ (by unfold ud;rw[cT h.a5 1];rfl)
theorem AW.mF(h:AW VK s w c s1 n m t W)(x:bU):AW VK s w c s1 n m x (W.setCell ⟨c+1,3,bC⟩ (ak x)):=h.set 3 _ (by unfold ud;rw[cT h.a5 3];rfl)
theorem AW.below(h:AW VK s w c s1 n m t W)(b:Below W.heap.size W W2):AW VK s w c s1 n m t W2:=h.step (h.kk.below b) (KF.below b)
end
theorem ud.at{W:bD}{n:Int}(h:ud W b n m e t)(j:Nat)(v:Value)(hv:(#[aa bf n,aa bf m,aa bf e,ak t]:Array Value)[j]? =bB v):W.cell? ⟨b,j,bC⟩=bB v:=by rw[cA h];exact hv
theorem AW.fin{W:bD}{n:Int}(h:AW VK s w c s1 n m t W)(E:Int):bT (((((W.setCell ⟨c+1,2,bC⟩ (aa bf E)).setCell ⟨c,0,bC⟩ (aa bf n)).setCell ⟨c,1,bC⟩ (aa bf m)).setCell ⟨c,2,bC⟩ (aa bf E)).setCell ⟨c,3,bC⟩ (ak t)) VK s1/\KF s w s1 (((((W.setCell ⟨c+1,2,bC⟩ (aa bf E)).setCell ⟨c,0,bC⟩ (aa bf n)).setCell ⟨c,1,bC⟩ (aa bf m)).setCell ⟨c,2,bC⟩ (aa bf E)).setCell ⟨c,3,bC⟩ (ak t)):=by
 have f:bO (c+1) W (W.setCell ⟨c+1,2,bC⟩ (aa bf E)):=(bO.refl _ _).setCell _ _;have g:bO c (W.setCell ⟨c+1,2,bC⟩ (aa bf E)) (((((W.setCell ⟨c+1,2,bC⟩ (aa bf E)).setCell ⟨c,0,bC⟩ (aa bf n)).setCell ⟨c,1,bC⟩ (aa bf m)).setCell ⟨c,2,bC⟩ (aa bf E)).setCell ⟨c,3,bC⟩ (ak t)):=((((bO.refl _ _).setCell _ _).setCell _ _).setCell _ _).setCell _ _;have:=h.ge;exact⟨(h.kk.fresh f h.n5).fresh g h.n4,(h.kf.fresh f bG).fresh g h.ge⟩
def og(W:bD)(b:Nat)(x:fp):Prop:=W.heap[b]? =bB (bA #[ak x.kind,aa bf x.a,aa bf x.b,aa bf x.c,aa bj x.key,ar x.on,ak x.s,ak x.t] 29 (0,0))
theorem og.at{W:bD}{x:fp}(h:og W b x)(j:Nat)(hj:j<8):W.cell? ⟨b,j,bC⟩=bB (x.cell j):=by
 rw[cA h]
 match j,hj with
 |0,_=>rfl
 |1,_=>rfl
 |2,_=>rfl
 |3,_=>rfl
 |4,_=>rfl
 |5,_=>rfl
 |6,_=>rfl
 |7,_=>rfl
theorem AW.start(h:bT w VK s)(x:fp):AW VK s w (w.heap.size+1) s 0 0 ⟨#[]⟩ (((w.alloc (bA #[ak x.kind,aa bf x.a,aa bf x.b,aa bf x.c,aa bj x.key,ar x.on,ak x.s,ak x.t] 29)).alloc (bA #[aa bf 0,aa bf 0,aa bf 0,ak ⟨#[]⟩] 38)).alloc (bA #[aa bf 0,aa bf 0,aa bf 0,ak ⟨#[]⟩] 38))/\og (((w.alloc (bA #[ak x.kind,aa bf x.a,aa bf x.b,aa bf x.c,aa bj x.key,ar x.on,ak x.s,ak x.t] 29)).alloc (bA #[aa bf 0,aa bf 0,aa bf 0,ak ⟨#[]⟩] 38)).alloc (bA #[aa bf 0,aa bf 0,aa bf 0,ak ⟨#[]⟩] 38)) w.heap.size x:=by
 have z1:(w.alloc (bA #[ak x.kind,aa bf x.a,aa bf x.b,aa bf x.c,aa bj x.key,ar x.on,ak x.s,ak x.t] 29)).heap.size=w.heap.size+1:=by simp
 have z2:((w.alloc (bA #[ak x.kind,aa bf x.a,aa bf x.b,aa bf x.c,aa bj x.key,ar x.on,ak x.s,ak x.t] 29)).alloc (bA #[aa bf 0,aa bf 0,aa bf 0,ak ⟨#[]⟩] 38)).heap.size=w.heap.size+1+1:=by simp
 have b1:=(aQ w.heap.size w).alloc (aL _) (bA #[ak x.kind,aa bf x.a,aa bf x.b,aa bf x.c,aa bj x.key,ar x.on,ak x.s,ak x.t] 29);have c2:=(aQ (w.alloc (bA #[ak x.kind,aa bf x.a,aa bf x.b,aa bf x.c,aa bj x.key,ar x.on,ak x.s,ak x.t] 29)).heap.size (w.alloc (bA #[ak x.kind,aa bf x.a,aa bf x.b,aa bf x.c,aa bj x.key,ar x.on,ak x.s,ak x.t] 29))).alloc (aL _) (bA #[aa bf 0,aa bf 0,aa bf 0,ak ⟨#[]⟩] 38);have c3:=(aQ ((w.alloc (bA #[ak x.kind,aa bf x.a,aa bf x.b,aa bf x.c,aa bj x.key,ar x.on,ak x.s,ak x.t] 29)).alloc (bA #[aa bf 0,aa bf 0,aa bf 0,ak ⟨#[]⟩] 38)).heap.size ((w.alloc (bA #[ak x.kind,aa bf x.a,aa bf x.b,aa bf x.c,aa bj x.key,ar x.on,ak x.s,ak x.t] 29)).alloc (bA #[aa bf 0,aa bf 0,aa bf 0,ak ⟨#[]⟩] 38))).alloc (aL _) (bA #[aa bf 0,aa bf 0,aa bf 0,ak ⟨#[]⟩] 38);have B:=b1.trans ((c2.trans (c3.mono (by rw[z1,z2];omega))).mono b1.size);have h1:=heap_alloc_new w (bA #[ak x.kind,aa bf x.a,aa bf x.b,aa bf x.c,aa bj x.key,ar x.on,ak x.s,ak x.t] 29);have h2:=heap_alloc_new (w.alloc (bA #[ak x.kind,aa bf x.a,aa bf x.b,aa bf x.c,aa bj x.key,ar x.on,ak x.s,ak x.t] 29)) (bA #[aa bf 0,aa bf 0,aa bf 0,ak ⟨#[]⟩] 38)
 have h3:=heap_alloc_new ((w.alloc (bA #[ak x.kind,aa bf x.a,aa bf x.b,aa bf x.c,aa bj x.key,ar x.on,ak x.s,ak x.t] 29)).alloc (bA #[aa bf 0,aa bf 0,aa bf 0,ak ⟨#[]⟩] 38)) (bA #[aa bf 0,aa bf 0,aa bf 0,ak ⟨#[]⟩] 38);rw[z1]at h2;rw[z2]at h3;exact⟨⟨h.below B,KF.below B,(c3.block _ (by rw[z2];omega)).trans h2,h3,h.iq bG,h.iq bG,bG⟩,(c3.block _ (by rw[z2];omega)).trans ((c2.block _ (by rw[z1];omega)).trans h1)⟩
theorem Mv.QX(m:Mv.Me)(a n:Int)(w:Bool):(Mv.mapM m a n w).fr=m.fr:=by unfold Mv.mapM;split<;>rfl
theorem Mv.Rh(m:Mv.Me)(a n:Int)(w:Bool):(Mv.ve m a n w).fr=m.fr:=by unfold Mv.ve;split<;>rfl
theorem AW.U2{W:bD}{n:Int}(h:AW VK s w c s1 n m t W)(a b e:Int)(u:bU):bT ((((W.setCell ⟨c,0,bC⟩ (aa bf a)).setCell ⟨c,1,bC⟩ (aa bf b)).setCell ⟨c,2,bC⟩ (aa .i64 e)).setCell ⟨c,3,bC⟩ (ak u)) VK s1/\KF s w s1 ((((W.setCell ⟨c,0,bC⟩ (aa bf a)).setCell ⟨c,1,bC⟩ (aa bf b)).setCell ⟨c,2,bC⟩ (aa .i64 e)).setCell ⟨c,3,bC⟩ (ak u)):=
 have g:=((((bO.refl c W).setCell 0 (aa bf a)).setCell 1 (aa bf b)).setCell 2 (aa .i64 e)).setCell 3 (ak u)
 ⟨h.kk.fresh g h.n4,h.kf.fresh g h.ge⟩

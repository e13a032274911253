import Derived.Test.YtpmmdkcfenjiaaaGreatDoorYaq
set_option maxRecDepth 100000
set_option maxHeartbeats 4000000
set_option linter.unusedVariables false
set_option linter.unusedSimpArgs false
namespace Go.Proofs.YtpmmdkcfenjiaaaGreatDoor
open Value renaming int->aa,pointer->ai,slice->aj,string->ak,tuple->ao,bool->ar,nilIface->ay
open IntKind renaming i64->az,u64->bd
open Ending renaming returned->bf
open Obj renaming cells->bh
open Option renaming some->bj,none->bu
open Bool renaming true->bw,false->bA
open Tryz (prog)
open Go.RowKit
open Fx (Fi)
open Tr (Fo Nd)
open Pp (Pi)
open Mo (Wh Mt)
open Mv (Me Bk)
open Kn (Pr Kp St us KB KJ VI EI KH)
variable {on own:Bool}{E a e g m n z:Int}{D:Kp->Nat->Int->Kp->Prop}{L:List Nat}{N' Wt b c j:Nat}{Wy:Nat->List (Fin 10)}{d':Nat->Nat}{s s1:St}{v:Value}{w:bD}{t:bU}
namespace Kn
end Kn
theorem Kq(a:Option Addr)(b o n c:Nat)(m:Int)(ax:Nat->fk)(w:bD)(hn:(n:Int)<=m)(hm:n<=1000)(ha:0<n->a=bj ⟨b,o,bu⟩)(h:∀i,i<n->∀j,j<8->w.cell? ⟨b,o+i*8+j,bu⟩=bj ((ax i).cell j)):
  Calls prog 10 #[aj a n c,aa az m] w λe w'=>∃v:Bool,e=bf (ar v)/\zS ax n 80 (ar v)/\w'=w:=by
 have d:decide ((n:Int)<=m)=bw:=by simp;omega
 have LT:=hJ (I8 a b o n c 80 ax w hm ha h);go_in
 go_wp2_with fail
 refine(Bv _ _ _ _ _).mono ?_;rintro e w1 ⟨rfl,hw⟩;subst w1;rw[d];go_wp2_with fail
 refine LT.mono ?_;rintro e w1 ⟨v,rfl,ht,hw⟩;subst w1;have HT:=hJ ht;rcases ht with rfl|⟨rfl,_⟩
 .go_wp2
  go_ret
  exact⟨bA,rfl,HT.v,rfl⟩
 .go_wp2
  go_ret
  exact⟨bw,rfl,HT.v,rfl⟩
namespace Kn
section
variable {N:Nat}{d:Nat->Nat}{k k' k1:Kp}{n:Nat}
theorem wA(k:Kp)(n:Nat)(fd:Nat->Int):∀j,(dU k n fd j).gr=k.gr
 |0=>rfl
 |j+1=>by
  show(if fd j= -1 then dU k n fd j else fT (jW (dU k n fd j) (fd j)) n j (-1):Kp).gr=_;split
  .exact wA k n fd j
  .exact wA k n fd j
end
end Kn
namespace Kn
theorem Kp.same{a b:Kp}(h:∀m,a.p m=b.p m)(hr:({a with p:=b.p}:Kp)=b):a=b:=by
 have e:a.p=b.p:=funext h;rw[<-hr,<-e]
theorem gM(k:Kp)(n:Nat)(x y:Pr):(k.put n x).put n y=k.put n y:=by
 unfold Kp.put;congr 1;funext m;by_cases c:m=n
 .simp[c]
 .simp[c]
section
variable {N:Nat}{d:Nat->Nat}{k k' k1:Kp}{n:Nat}{L:Nat->Nat}{rd:Nat->Bool}
theorem SM(k:Kp)(n:Nat)(X:Nat->Sg.S1)(a m:Int):dv (dq k n X) n a m=dq (dv k n a m) n X:=by
 have e:(dq k n X).p n={k.p n with box:=X}:=bM _ _ _;unfold dv;rw[e];by_cases c:Mv.pL a m=0
 .rw[aJ c,aJ c];unfold cT;rw[e];refine Kp.same (λq=>?_) rfl;unfold dq;by_cases c:q=n
  .subst c;rw[bM,bM];show _={((k.put q {k.p q with mem:=Mv.kH (k.p q).mem a m}).p q)with box:=X};rw[bM]
  .rw[bP _ _ _ _ c,bP _ _ _ _ c,bP _ _ _ _ c];exact(bP k n q {k.p n with mem:=Mv.kH (k.p n).mem a m} c).symm
 .rw[aI c,aI c]
theorem Ev(k:Kp)(n:Nat)(X:Nat->Sg.S1)(fd:Nat->Int):∀j,dU (dq k n X) n fd j=dq (dU k n fd j) n X
 |0=>rfl
 |j+1=>by
  have ih:=Ev k n X fd j;show(if fd j= -1 then dU (dq k n X) n fd j else fT (jW (dU (dq k n X) n fd j) (fd j)) n j (-1):Kp)=dq (if fd j= -1 then dU k n fd j else fT (jW (dU k n fd j) (fd j)) n j (-1)) n X;by_cases c:fd j= -1
  .rw[aJ c,aJ c];exact ih
  .rw[aI c,aI c,ih];generalize dU k n fd j=q;unfold fT dq;rw[bM];have e:(jW (q.put n {q.p n with box:=X}) (fd j)).p n={q.p n with box:=X}:=bM _ _ _;rw[e];have e2:jW (q.put n {q.p n with box:=X}) (fd j)=(jW q (fd j)).put n {q.p n with box:=X}:=rfl;rw[e2,gM,gM];rfl
theorem fP.box{X:Nat->Sg.S1}(h:fP (dq k n X) n k1):fP k n k1:=by
 obtain⟨m',dt,rfl⟩:=h;refine⟨m',dt,?_⟩;have e:(dq k n X).p n={k.p n with box:=X}:=bM _ _ _;unfold qQ;dsimp only;rw[SM,e,Ev];generalize dU (dv k n 0 16) n _ 6=q;have e2:(dq q n X).p n={q.p n with box:=X}:=bM _ _ _;rw[e2];have e3:({dq q n X with sc:=m'}:Kp)=({q with sc:=m'}:Kp).put n {q.p n with box:=X}:=rfl;rw[e3,gM]
theorem lX.box{X:Nat->Sg.S1}{c:Int}{z q:Nat}(e:lX (dq k n X) n c z q k'):lX k n c z q k':=by
 obtain⟨k1,k3,s1,mt,rfl⟩:=e;exact⟨k1,k3,s1.box,mt,rfl⟩
end
end Kn
namespace Kn
section
variable {N:Nat}{d:Nat->Nat}{k k' k1:Kp}{n:Nat}{L:Nat->Nat}{rd:Nat->Bool}
theorem PO(k:Kp)(n:Nat)(X:Nat->Sg.S1)(m:Nat):((dq k n X).p m).st=(k.p m).st/\((dq k n X).p m).par=(k.p m).par/\((dq k n X).p m).cA=(k.p m).cA/\((dq k n X).p m).fd=(k.p m).fd/\((dq k n X).p m).has=(k.p m).has/\((dq k n X).p m).code=(k.p m).code:=by
 unfold dq;by_cases c:m=n
 .subst c;rw[bM];exact⟨rfl,rfl,rfl,rfl,rfl,rfl⟩
 .rw[bP _ _ _ _ c];exact⟨rfl,rfl,rfl,rfl,rfl,rfl⟩
theorem KH.bx(kh:KH N d k)(n:Nat){X:Nat->Sg.S1}(hX:n<20->lv k n=bw->hd k n≠n->Sg.ft X 0 0):KH N d (dq k n X):=
 kh.iZ (kh.ki.box n hX) rfl (λm=>⟨(PO k n X m).1,(PO k n X m).2.1⟩)
end
end Kn
namespace Kn
section
variable {N n y q:Nat}{d:Nat->Nat}{k k':Kp}{z:Int}{v:Value}{E:Int}
theorem KH.Vu(h:KH N d k)(hn:n<20)(n0:n≠0)(l:lv k n=bw)(yq:YQ k n y q){X:Nat->Sg.S1}(e:vO (dq k n X) n y q k'):KH N d k':=by
 obtain⟨m,f,⟨rfl,rfl⟩|⟨_,e⟩⟩:=e
 .have f:Sg.ft ((dq k n X).p n).box 0 0:=f;unfold dq at f;rw[bM]at f;exact h.bx n (λ_ _ _=>f)
 .exact h.end hn n0 l yq.1 (yq.2 n0) e.box
theorem KH.T6(h:KH N d k)(hn:n<20)(l:lv k n=bw)(yq:YQ k n y q){X:Nat->Sg.S1}(e:pY (dq k n X) n y q k'):KH N d k':=by
 have eh:hd (dq k n X) n=hd k n:=rfl;rcases e with⟨a,rfl⟩|⟨a,e⟩
 .rw[eh]at a;exact h.bx n (λ_ _ c=>aZ a c)
 .rw[eh]at a;exact h.Vu hn (λe0=>by subst e0;exact a h.ki.h0) l yq e
theorem KH.dP(h:KH N d k){c:Int}(e:yp k z c on E k'):KH N d k':=by
 rcases e with⟨_,_,rfl⟩|⟨a,n,rfl,hn,_,⟨e,rfl⟩|⟨_,y,q,yq,e⟩⟩
 .exact h
 .unfold Sg.oD;rw[aI e];exact h.bx n (λ_ l hd=>h.ki.fi n hn l hd)
 .exact h.T6 hn (nu a) yq e
theorem KH.nF(h:KH N d k){c o:Int}(e:yr k z c o E k'):KH N d k':=by
 rcases e with⟨_,_,rfl⟩|⟨a,n,rfl,hn,_,⟨e,rfl⟩|⟨_,y,q,yq,e⟩⟩
 .exact h
 .unfold Sg.mK;rw[aI e];exact h.bx n (λ_ l hd=>h.ki.fi n hn l hd)
 .exact h.T6 hn (nu a) yq e
theorem Ep{p c:Int}(a:pT k z p c=0):fH k z p=0/\p≠1:=by
 unfold pT at a;by_cases c1:fH k z p=0
 .rw[aJ c1]at a;refine⟨c1,λc2=>?_⟩;by_cases c3:c<1\/8<c
  .rw[aJ c3]at a;omega
  .rw[aI c3,aJ c2]at a;omega
 .rw[aI c1]at a;exact aZ a c1
theorem KH.sig(h:KH N d k){p c:Int}(e:rh k z p c k'):KH N d k':=by
 rcases e with⟨_,rfl⟩|⟨a,y,q,yq,e⟩
 .exact h
 .have s0:=Ep a;exact h.Vu (AJ (λz p=>h.ki.vi.iv.rM z p) z p) (h.ki.vi.Pc s0.1 s0.2) (AI s0.1) yq e
theorem KH.Wo(h:KH N d k){m:Nat}(e:Cl k z m E k'):KH N d k':=by
 rcases e with⟨_,_,_,rfl⟩|⟨_,n,j,rfl,hn,_,rfl,_⟩
 .exact h
 .exact h.bx n (λ_ l hd=>Pn j (h.ki.fi n hn l hd))
theorem KH.Wr(h:KH N d k){f:Int}{K:Nat}(e:vS k z f t K E k'):KH N d k':=by
 rcases e with⟨_,_,_,rfl⟩|⟨_,n,g,rfl,rfl,hn,hg,l,_,_,⟨_,rfl⟩|⟨_,y,q,e,o,p⟩⟩
 .exact h
 .exact h.Ca _ _
 .exact(h.Ca ((k.p n).fd g) t).T6 hn l ⟨o,λn0=>(p n0).2.2⟩ e
theorem KH.sc(h:KH N d k)(m:Wf.M):KH N d {k with sc:=m}:=
 h.iZ ⟨⟨h.ki.vi.kj.lH m,h.ki.vi.iv,h.ki.vi.hs⟩,h.ki.fi,h.ki.pr,h.ki.h0⟩ rfl (λ_=>⟨rfl,rfl⟩)
theorem KH.sle(h:KH N d k)(e:H7 k z on v k'):KH N d k':=by
 obtain⟨_,m,_,⟨_,w⟩|rfl,rfl⟩:=e
 .exact h.sc _
 .exact h
theorem KH.mem(h:KH N d k)(hn:n<20)(l:lv k n=bw){m:Me}{b:Bk}(w:Mv.gw b 20 (Mv.j6 (λn=>(k.p n).mem) n m)):KH N d (cT k n m b):=by
 have e:∀j,((cT k n m b).p j).st=(k.p j).st/\((cT k n m b).p j).par=(k.p j).par/\((cT k n m b).p j).box=(k.p j).box:=λj=>by
  by_cases c:j=n
  .subst c;rw[jF];exact⟨rfl,rfl,rfl⟩
  .rw[show(cT k n m b).p j=k.p j from bP _ _ _ _ c];exact⟨rfl,rfl,rfl⟩
 have lv':∀j,lv (cT k n m b) j=lv k j:=λj=>by unfold lv;rw[(e j).1]
 refine h.iZ ⟨⟨h.ki.vi.kj.cT hn (h.ki.vi.kj.lv n hn (λx=>x) (dL.1 l)) w,h.ki.vi.iv,h.ki.vi.hs⟩,λj hj lj hd=>?_,λj hj j0 s=>?_,h.ki.h0⟩ rfl (λj=>⟨(e j).1,(e j).2.1⟩)
 .rw[(e j).2.2];rw[lv']at lj;exact h.ki.fi j hj lj hd
 .rw[(e j).1]at s;rw[(e j).2.1];exact h.ki.pr j hj j0 s
theorem KH.fr(h:KH N d k)(hn:n<20)(l:lv k n=bw){m:Me}(e:m.fr=(k.p n).mem.fr):KH N d (cT k n m k.bk):=
 h.mem hn l (h.ki.vi.kj.me.congr (λi _ x _=>by
  by_cases c:i=n
  .subst c;rw[Mv.fZ,e]
  .rw[Mv.iW _ _ _ _ c]))
theorem KH.ES(h:KH N d k)(hn:n<20)(l:lv k n=bw)(a m:Int):KH N d (dv k n a m):=by
 unfold dv;by_cases c:Mv.pL a m=0
 .rw[aJ c];have w:Mv.gw (Mv.nM (k.p n).mem k.bk a m) 20 (Mv.j6 (λn=>(k.p n).mem) n (Mv.kH (k.p n).mem a m)):=by
   unfold Mv.pL at c;unfold Mv.nM Mv.kH;cases hb:Mv.kZ a m
   .obtain⟨x,j,rfl,rfl,hx,h1,h2⟩:=Mv.si hb;rw[aI bE,aI bE,hZ,hZ];exact h.ki.vi.kj.me.Qx (i:=n) hn j h2
   .rw[hb,aJ rfl]at c;omega
  obtain⟨Wy,g⟩:=h.ki.vi.kj.gr;exact(h.mem hn l w).gr (aL _) ⟨Wy,oP g _ _ _⟩
 .rw[aI c];exact h
theorem KH.ld(h:KH N d k)(hn:n<20)(l:lv k n=bw)(e:xb a k n E k'):KH N d k':=by
 obtain⟨g,m,b,t,rfl⟩:=e;exact h.mem hn l (h.ki.vi.kj.me.Qs hn t).1
theorem KH.Wn(h:KH N d k)(hn:n<20)(l:lv k n=bw){u:Int}(e:yy a u k n E k'):KH N d k':=by
 obtain⟨g,m,b,t,rfl⟩:=e;have w:=(h.ki.vi.kj.me.Qs hn t).1;refine h.mem hn l ?_;split
 .exact w.bytes _
 .exact w
theorem KH.vv(hD:∀{M k n E k'},KH M d k->n<20->lv k n=bw->D k n E k'->KH M d k')(h:KH N d k)(e:kJ a D k z v k'):KH (N+1) d k':=by
 have M:=h.more (Nat.le_succ N);obtain⟨E,_,⟨_,rfl⟩|⟨n,rfl,hn,l,⟨_,e⟩|⟨_,E1,k1,c,⟨_,_,rfl⟩|⟨rfl,k2,e,r⟩⟩⟩⟩:=e
 .exact M
 .exact hD M hn l e
 .exact h.PX c
 .have l1:lv k1 n=bw:=by
   obtain⟨_,_,_,⟨q,_,_,_,_,rfl⟩|⟨q,_⟩⟩:=c
   .exact q
   .cases q
  have g:=hD (h.PX c) hn l1 e;rcases r with⟨_,rfl⟩|⟨_,rfl⟩
  .exact g
  .obtain⟨Wy,t⟩:=g.ki.vi.kj.gr;exact g.gr (aL _) ⟨Wy,oP t _ _ _⟩
theorem KH.fg(h:KH N d k){G:Fo}(g:FG k G):KH N d {k with fo:=G}:=h.fx (aL _) g.2 h.ki.vi.kj.rf g.1
theorem KH.fo(h:KH N d k)(e:tZ k v k'):KH N d k':=by obtain⟨_,G,_,g,rfl⟩:=e;exact h.fg g
theorem KH.tu(h:KH N d k)(e:rN k v k'):KH N d k':=by
 obtain⟨_,_,rfl|⟨y,T,F,y6,yt,g,rfl⟩⟩:=e
 .exact h
 .exact h.iZ ⟨⟨h.ki.vi.kj.Wp y6 yt g,h.ki.vi.iv,h.ki.vi.hs⟩,h.ki.fi,h.ki.pr,h.ki.h0⟩ rfl (λ_=>⟨rfl,rfl⟩)
theorem KH.Wj(h:KH N d k)(u a:Int):KH N d {k with fi:=Fx.mN k.fi u a}:=by
 have j:=h.ki.vi.kj;unfold Fx.mN;split
 .rename_i c;have c1:Fx.dy k.fi u=0/\0<=a/\a<=40:=by
   unfold Fx.fH at c;by_cases e:Fx.dy k.fi u=0
   .rw[aI (λx=>x e)]at c;split at c
    .omega
    .split at c
     .omega
     .exact⟨e,bB,bB⟩
   .rw[aJ e]at c;exact aZ c e
  obtain⟨n,rfl,hn,r⟩:=Fx.kX c1.1;rw[hZ];refine h.fx (aL _) (j.wx.kP hn r _ r rfl rfl (by show a.toNat<=40;omega)) (λm hm=>?_) j.ok;by_cases e:m=n
  .subst e;rw[Fx.bM];exact j.rf m hm
  .rw[Fx.bP _ _ _ _ e];exact j.rf m hm
 .exact h
theorem KH.dup(h:KH N d k)(e:Hu k v k'):KH (N+1) d k':=by
 obtain⟨_,_,_,rfl|⟨n,f,g,hn,_,_,_,_,_,rfl⟩⟩:=e
 .exact h.more (Nat.le_succ _)
 .have q:=Mf h.ki.vi.kj.wx ((k.p n).fd g);exact(h.fx (T:=Fx.j7 k.fi ((k.p n).fd g)) (F:=k.fo) (S:=k.pi) (Nat.le_succ _) q.1 (λm hm=>by have:=q.2 m;have:=h.ki.vi.kj.rf m hm;omega) h.ki.vi.kj.ok).fd n f _
theorem KH.LH(h:KH N d k)(e:Hy k v k'):KH (N+1) d k':=by
 obtain⟨_,_,_,G,g,rfl|⟨n,f,K,z,wr,T,F,hn,_,_,_,t,rfl⟩⟩:=e
 .exact(h.fg g).more (Nat.le_succ _)
 .rcases t with⟨a,_,b,_⟩|⟨_,_,_,b,_⟩|⟨a,_,lo,_,rfl,rfl⟩
  .exact aZ b.symm a
  .cases b
  .obtain⟨m,rfl,m40,_⟩:=Tr.fD a;rw[hZ];refine(h.fx (Nat.le_succ _) (g.2.node lo a) (λj hj=>?_) (g.1.dP _)).fd n f _;by_cases c:j=K
   .subst c;rw[Fx.bM];show 1<=_;omega
   .rw[Fx.bP _ _ _ _ c];have:=h.ki.vi.kj.rf j hj;omega
theorem KH.sh(h:KH N d k){li:Bool}(e:lK li N k k'):KH N d k':=by
 obtain⟨t,m,_,g,_,rfl⟩:=e;exact(h.gr (aL _) g).sc _
theorem KH.Qj(h:KH N d k){T:Nat}{G:Fo}(e:Tr.ra k.fo T E G):KH N d {k with fo:=G}:=by
 have j:=h.ki.vi.kj;refine h.fg ⟨j.ok.Qj e,?_⟩;rcases e with⟨_,_,_,rfl⟩|⟨_,n,e,hf,⟨_,_,_,rfl⟩|⟨e0,_,_,rfl⟩⟩
 .exact j.wx
 .exact j.wx
 .rcases hf with⟨_,n40,n0,_⟩|⟨q,_⟩
  .have z:=j.wx.z0 n n40 n0;have p:∀m,(Tr.AE k.fo n).nd m=if m=n then fq 2 k.fo.trees n else k.fo.nd m:=λm=>by
    by_cases c:m=n
    .subst c;rw[aJ rfl];exact Tr.bM _ _ _
    .rw[aI c];exact Tr.bP _ _ _ _ c
   refine j.wx.sr (λm _=>?_) (λm _ hm=>?_) (λm hm k0=>?_)
   .rw[p m];split
    .rename_i c;rw[c,z];rfl
    .rfl
   .rw[p m,aI (λc=>hm (by rw[c];exact z))]
   .rw[p m]at k0|-;split
    .rfl
    .rename_i c;rw[aI c]at k0;exact j.wx.z0 m hm k0
  .omega
theorem KH.cA(h:KH N d k)(n:Nat)(g:Int):KH N d (k.put n {k.p n with cA:=g}):=by
 have e:∀m,((k.put n {k.p n with cA:=g}).p m).st=(k.p m).st/\((k.put n {k.p n with cA:=g}).p m).par=(k.p m).par/\((k.put n {k.p n with cA:=g}).p m).box=(k.p m).box:=λm=>by
  by_cases c:m=n
  .subst c;rw[bM];exact⟨rfl,rfl,rfl⟩
  .rw[bP _ _ _ _ c];exact⟨rfl,rfl,rfl⟩
 have l:∀m,lv (k.put n {k.p n with cA:=g}) m=lv k m:=λm=>by unfold lv;rw[(e m).1]
 refine h.iZ ⟨⟨h.ki.vi.kj.Ea rfl rfl rfl,h.ki.vi.iv,h.ki.vi.hs⟩,λm hm lm hm2=>?_,λm hm m0 s=>?_,h.ki.h0⟩ rfl (λm=>⟨(e m).1,(e m).2.1⟩)
 .rw[(e m).2.2];rw[l]at lm;exact h.ki.fi m hm lm hm2
 .rw[(e m).1]at s;rw[(e m).2.1];exact h.ki.pr m hm m0 s
theorem KH.Wa(h:KH N d k)(e:w9 k z g v k'):KH (N+1) d k':=by
 obtain⟨_,_,rfl|⟨n,Wy,m,rfl,hn,l,w,e,_,rfl⟩⟩:=e
 .exact h.more (Nat.le_succ _)
 .obtain⟨Wz,t⟩:=h.ki.vi.kj.gr;have t1:Gr.Tree (Gr.jZ k.gr Wy (k.p n).cA g 1 (Mv.cM (k.p n).mem 16:Int)) Wy (N+1):=by
   unfold Gr.jZ;rw[aJ e];exact qw (oP (xY t w) _ _ _) _ _ _ bB (by have:=YtpmmdkcfenjiaaaGreatDoor.mr (k.p n).mem 16;omega)
  exact((h.gr (Nat.le_succ _) ⟨Wy,t1⟩).sc _).cA n g
end
end Kn
namespace Kn
def kd(x:fk)(l:List UInt8):Prop:=(x.kind.toList==l)=bw
def wk:List (List UInt8):=[[102,111,114,107],[117,110,109,97,112],[108,111,97,100],[115,116,111,114,101],[108,105,109,105,116],[116,105,99,107]]
def NK(x:fk):Prop:=∀l∈wk,(x.kind.toList==l)=bA
theorem NK.of{x:fk}{l:List UInt8}(h:kd x l)(n:(wk.all λm=> !(l==m))=bw):NK x:=λm hm=>by
 rw[eq_of_beq h];simpa using List.all_eq_true.1 n m hm
def xd(N:Nat)(k:Kp)(x:fk)(k':Kp):Prop:=
 (kd x [101,120,105,116]/\qX k x.a x.b k')\/(∃p c E,yC k x.a p c E k')\/rh k x.a x.b x.c k'\/(∃E,yp k x.a x.b x.on E k')\/(∃E,yr k x.a x.b x.c E k')\/(∃m E,Cl k x.a m E k')\/
 (∃n m,n<20/\lv k n=bw/\m.fr=(k.p n).mem.fr/\k'=cT k n m k.bk)\/lK bA N k k'\/(∃v,w9 k x.a x.b v k')\/(∃v,H7 k x.a x.on v k')\/k'=k
def nR(N:Nat)(k:Kp)(x:fk)(a E:Int)(k':Kp):Prop:=
 (kd x [102,111,114,107]/\∃p:Nat,a=p/\pX k x.a x.on p E k')\/
 (kd x [117,110,109,97,112]/\((∃n:Nat,x.a=n/\n<20/\lv k n=bw/\E=AS k n x.b x.c/\k'=dv k n x.b x.c)\/0<E/\k'=k))\/
 (kd x [108,111,97,100]/\∃u,(a=u\/a=IntKind.i64.wrap u)/\kJ x.b (xb x.b) k x.a (bN E) k'/\(E=0->u=yG k' x.a.toNat x.b.toNat))\/
 (kd x [115,116,111,114,101]/\kJ x.b (yy x.b (IntKind.u8.wrap x.c)) k x.a (bN E) k')\/
 (kd x [108,105,109,105,116]/\lK bw N k k')\/
 (kd x [116,105,99,107]/\∃m,Wf.zU k.sc a m/\k'={k with sc:=m})\/
 (NK x/\xd N k x k')
def pN(k:Kp)(x:fk)(k':Kp):Prop:=
 (∃v,Hy k v k')\/k'=pd k x.a x.b\/(∃v,Hu k v k')\/(∃A C E,vQ k x.a A C E k')\/k'=pf k x.a x.b x.c\/(∃K E,vS k x.a x.b x.s K E k')\/(∃u,k'={k with fi:=Fx.mN k.fi u x.c})\/(∃v,tZ k v k')\/(∃v,rN k v k')\/(∃T E G,Tr.ra k.fo T E G/\k'={k with fo:=G})\/k'=k
theorem nR.ot{N:Nat}{k k':Kp}{x:fk}(n:NK x)(h:xd N k x k'):nR N k x a E k':= .inr (.inr (.inr (.inr (.inr (.inr ⟨n,h⟩)))))
section
variable {N:Nat}{d:Nat->Nat}{k k':Kp}{x:fk}
theorem KH.ot(h:KH N d k)(e:xd N k x k'):KH (N+2) d k':=by
 have up:∀{M},KH M d k'->M<=N+2->KH (N+2) d k':=λg l=>g.more l;rcases e with⟨_,e⟩|⟨_,_,_,e⟩|e|⟨_,e⟩|⟨_,e⟩|⟨_,_,e⟩|⟨n,m,hn,l,e,rfl⟩|e|⟨_,e⟩|⟨_,e⟩|rfl
 .exact up (h.exit e) bB
 .exact up (h.wait e) bB
 .exact up (h.sig e) bB
 .exact up (h.dP e) bB
 .exact up (h.nF e) bB
 .exact up (h.Wo e) bB
 .exact up (h.fr hn l e) bB
 .exact up (h.sh e) bB
 .exact up (h.Wa e) bB
 .exact up (h.sle e) bB
 .exact up h bB
theorem KH.ac(h:KH N d k)(e:nR N k x a E k'):∃d',KH (N+2) d' k':=by
 have up:∀{M},KH M d k'->M<=N+2->∃d',KH (N+2) d' k':=λg l=>⟨d,g.more l⟩;rcases e with⟨_,_,_,e⟩|⟨_,⟨n,_,hn,l,_,rfl⟩|⟨_,rfl⟩⟩|⟨_,_,_,e,_⟩|⟨_,e⟩|⟨_,e⟩|⟨_,_,_,rfl⟩|⟨_,e⟩
 .exact h.fork e
 .exact up (h.ES hn l _ _) bB
 .exact up h bB
 .exact up (h.vv (λg hn l e=>g.ld hn l e) e) bB
 .exact up (h.vv (λg hn l e=>g.Wn hn l e) e) bB
 .exact up (h.sh e) bB
 .exact up (h.sc _) bB
 .exact⟨d,h.ot e⟩
theorem KH.di(h:KH N d k)(e:pN k x k'):∃d',KH (N+2) d' k':=by
 have up:∀{M},KH M d k'->M<=N+2->∃d',KH (N+2) d' k':=λg l=>⟨d,g.more l⟩;rcases e with⟨_,e⟩|rfl|⟨_,e⟩|⟨_,_,_,e⟩|rfl|⟨_,_,e⟩|⟨u,rfl⟩|⟨_,e⟩|⟨_,e⟩|⟨_,_,_,e,rfl⟩|rfl
 .exact up (h.LH e) bB
 .exact up (h.VJ _ _) bB
 .exact up (h.dup e) bB
 .exact up (h.Wg e) bB
 .exact up (h.Um _ _ _) bB
 .exact up (h.Wr e) bB
 .exact up (h.Wj _ _) bB
 .exact up (h.fo e) bB
 .exact up (h.tu e) bB
 .exact up (h.Qj e) bB
 .exact up h bB
end
end Kn
namespace Gr
def gt(t t':Nat->Gp):Prop:=∀g,(t' g).there=(t g).there/\(t' g).par=(t g).par/\(t' g).lp=(t g).lp/\(t' g).lq=(t g).lq
section
variable {t t' u:Nat->Gp}
theorem gt.refl(t:Nat->Gp):gt t t:=λ_=>⟨rfl,rfl,rfl,rfl⟩
theorem gt.trans(h:gt t t')(k:gt t' u):gt t u:=λg=>⟨(k g).1.trans (h g).1,(k g).2.1.trans (h g).2.1,(k g).2.2.1.trans (h g).2.2.1,(k g).2.2.2.trans (h g).2.2.2⟩
theorem gt.add(t:Nat->Gp)(n:Nat)(p q:Int):gt t (dV t n p q):=λg=>by
 unfold dV;by_cases c:g=n
 .subst c;rw[dk];exact⟨rfl,rfl,rfl,rfl⟩
 .rw[dw _ _ _ _ c];exact⟨rfl,rfl,rfl,rfl⟩
theorem gt.sN(t:Nat->Gp)(n p q:Int):gt t (dn t n p q):=by
 unfold dn;split
 .exact gt.add _ _ _ _
 .exact gt.refl _
theorem gt.Db(t:Nat->Gp)(Wy:Nat->List (Fin 10))(n p q:Int):gt t (eR t Wy n p q):=by
 unfold eR;split
 .exact gt.add _ _ _ _
 .exact gt.refl _
end
end Gr
namespace Kn
structure SC (k k':Kp):Prop where
 sp:k'.sp=k.sp
 gr:k'.gr=k.gr
 bk:k'.bk=k.bk
 sc:k'.sc=k.sc
 p:∀m,(k'.p m).st=(k.p m).st/\(k'.p m).par=(k.p m).par/\(k'.p m).cA=(k.p m).cA/\(k'.p m).mem=(k.p m).mem
section
variable {N n y q:Nat}{d:Nat->Nat}{k k' k1 k2:Kp}{x:fk}
theorem SC.pl(a:k'.sp=k.sp)(b:k'.gr=k.gr)(c:k'.bk=k.bk)(e:k'.sc=k.sc)(f:k'.p=k.p):SC k k':=⟨a,b,c,e,λm=>by rw[f];exact⟨rfl,rfl,rfl,rfl⟩⟩
theorem SC.refl(k:Kp):SC k k:=SC.pl rfl rfl rfl rfl rfl
theorem SC.trans(h:SC k k1)(g:SC k1 k2):SC k k2:=⟨g.sp.trans h.sp,g.gr.trans h.gr,g.bk.trans h.bk,g.sc.trans h.sc,λm=>⟨(g.p m).1.trans (h.p m).1,(g.p m).2.1.trans (h.p m).2.1,(g.p m).2.2.1.trans (h.p m).2.2.1,(g.p m).2.2.2.trans (h.p m).2.2.2⟩⟩
theorem SC.put(k:Kp)(n:Nat){x:Pr}(e:x.st=(k.p n).st/\x.par=(k.p n).par/\x.cA=(k.p n).cA/\x.mem=(k.p n).mem):SC k (k.put n x):=⟨rfl,rfl,rfl,rfl,λm=>by
 by_cases c:m=n
 .subst c;rw[bM];exact e
 .rw[bP _ _ _ _ c];exact⟨rfl,rfl,rfl,rfl⟩⟩
theorem SC.fd(k:Kp)(n f:Nat)(v:Int):SC k (fT k n f v):=SC.put k n ⟨rfl,rfl,rfl,rfl⟩
theorem SC.box(k:Kp)(n:Nat)(X:Nat->Sg.S1):SC k (dq k n X):=SC.put k n ⟨rfl,rfl,rfl,rfl⟩
def yn(k:Kp)(n:Nat)(k':Kp):Prop:=∃(c:Int) (y q:Nat),n<20/\n≠0/\lv k n=bw/\k.sp.of n=y+1/\(k.p n).par=(q:Int)/\lX k n c y q k'
def JT(k:Kp)(n:Nat)(k':Kp):Prop:=∃m:Nat,m<20/\m≠0/\(k.p m).par=(n:Int)/\(k.p m).st=2/\iK 6 k m k'
theorem KH.OM(h:KH N d k)(hn:n<20)(l:lv k n=bw)(yq:YQ k n y q){X:Nat->Sg.S1}(e:pY (dq k n X) n y q k'):SC k k'\/hd k n≠n/\yn k n k':=by
 rcases e with⟨_,rfl⟩|⟨a,m,_,⟨_,rfl⟩|⟨_,e⟩⟩
 .exact .inl (SC.box k n X)
 .exact .inl (SC.box k n X)
 .have a:hd k n≠n:=a;have n0:n≠0:=λe0=>by subst e0;exact a h.ki.h0
  exact .inr ⟨a,_,y,q,hn,n0,l,yq.1,yq.2 n0,e.box⟩
theorem pN.cl(h:KH N d k)(e:pN k x k'):SC k k'\/∃(n:Nat) (k1:Kp),x.a=n/\SC k k1/\KH N d k1/\hd k n≠n/\yn k1 n k':=by
 rcases e with⟨_,_,_,_,G,_,rfl|⟨n,f,K,z,wr,T,F,_,_,_,_,_,rfl⟩⟩|rfl|⟨_,_,_,_,rfl|⟨n,f,g,_,_,_,_,_,_,rfl⟩⟩|⟨A,C,E,e⟩|rfl|⟨K,E,e⟩|⟨u,rfl⟩|⟨_,_,_,_,_,rfl⟩|⟨_,_,_,rfl|⟨y,T,F,_,_,_,rfl⟩⟩|⟨_,_,_,_,rfl⟩|rfl
 .exact .inl (SC.pl rfl rfl rfl rfl rfl)
 .exact .inl ((SC.pl (k:=k) (k':=jB k T F k.pi) rfl rfl rfl rfl rfl).trans (SC.fd _ _ _ _))
 .unfold pd;split
  .exact .inl ((SC.fd k x.a.toNat x.b.toNat (-1)).trans (SC.pl rfl rfl rfl rfl rfl))
  .exact .inl (SC.refl _)
 .exact .inl (SC.refl _)
 .exact .inl ((SC.fd k n f ((k.p n).fd g)).trans (SC.pl rfl rfl rfl rfl rfl))
 .rcases e with⟨_,_,_,_,rfl⟩|⟨_,n,_,_,⟨_,_,_,_,rfl⟩|⟨_,a,c,T,S,_,⟨_,_,_,rfl⟩|⟨_,_,_,rfl⟩⟩⟩
  .exact .inl (SC.refl _)
  .exact .inl (SC.refl _)
  .exact .inl (SC.pl rfl rfl rfl rfl rfl)
  .exact .inl ((SC.pl (k:=k) (k':=jB k T k.fo S) rfl rfl rfl rfl rfl).trans ((SC.fd _ _ _ _).trans (SC.fd _ _ _ _)))
 .unfold pf;split
  .exact .inl (SC.pl rfl rfl rfl rfl rfl)
  .exact .inl (SC.refl _)
 .rcases e with⟨_,_,_,rfl⟩|⟨_,n,g,xa,_,hn,_,l,_,_,⟨_,rfl⟩|⟨_,y,q,e,o,p⟩⟩
  .exact .inl (SC.refl _)
  .exact .inl (SC.pl rfl rfl rfl rfl rfl)
  .have s1:SC k (sf k ((k.p n).fd g) x.s):=SC.pl rfl rfl rfl rfl rfl;have kh:=h.Ca ((k.p n).fd g) x.s;rcases kh.OM hn l ⟨o,λn0=>(p n0).2.2⟩ e with e|⟨a,e⟩
   .exact .inl (s1.trans e)
   .exact .inr ⟨n,_,xa,s1,kh,a,e⟩
 .exact .inl (SC.pl rfl rfl rfl rfl rfl)
 .exact .inl (SC.pl rfl rfl rfl rfl rfl)
 .exact .inl (SC.refl _)
 .exact .inl (SC.pl rfl rfl rfl rfl rfl)
 .exact .inl (SC.pl rfl rfl rfl rfl rfl)
 .exact .inl (SC.refl _)
def V6(k:Kp)(x:fk)(n:Nat):Prop:=x.a=(n:Int)/\(kd x [101,120,105,116]\/hd k n≠n)\/fH k x.a x.b=0/\x.b≠1/\n=j5 k x.a x.b
theorem xd.cl(h:KH N d k)(e:xd N k x k'):SC k k'\/(∃n,yn k n k'/\V6 k x n)\/(∃n:Nat,x.a=n/\JT k n k')\/(∃n m,n<20/\lv k n=bw/\m.fr=(k.p n).mem.fr/\k'=cT k n m k.bk)\/lK bA N k k'\/(∃v,w9 k x.a x.b v k')\/(∃m,SG k m/\k'={k with sc:=m}):=by
 rcases e with⟨t,e⟩|⟨_,_,_,e⟩|e|⟨_,e⟩|⟨_,e⟩|⟨_,_,e⟩|e|e|e|⟨_,e⟩|rfl
 .rcases e with⟨_,rfl⟩|⟨_,n,y,q,xa,hn,n0,l,oy,_,_,hp,et⟩
  .exact .inl (SC.refl _)
  .exact .inr (.inl ⟨n,⟨_,y,q,hn,n0,l,oy,hp,et⟩, .inl ⟨xa, .inl t⟩⟩)
 .rcases e with⟨_,_,_,_,rfl⟩|⟨a,n,xa,hn,⟨_,_,_,_,rfl⟩|⟨_,_,_,_,_,rfl⟩|⟨_,i,m,hi,lm,_,_,_,v⟩⟩
  .exact .inl (SC.refl _)
  .exact .inl (SC.refl _)
  .exact .inl (SC.refl _)
  .rw[xa]at a;obtain⟨m20,m0,mp,ms,_,_⟩:=h.Tp hn (nu a) (bK hi);have m2:(k.p m).st=2:=by
    have:=h.ki.vi.kj.st m m20;have:(k.p m).st≠1:=λe=>by rw[dL.2 e]at lm;cases lm
    omega
   exact .inr (.inr (.inl ⟨n,xa,m,m20,m0,mp,m2,v⟩))
 .rcases e with⟨_,rfl⟩|⟨a,y,q,yq,m,_,⟨_,rfl⟩|⟨_,e⟩⟩
  .exact .inl (SC.refl _)
  .exact .inl (SC.box _ _ _)
  .have s0:=Ep a;have n0:=h.ki.vi.Pc s0.1 s0.2;exact .inr (.inl ⟨_,⟨_,y,q,AJ (λz p=>h.ki.vi.iv.rM z p) x.a x.b,n0,AI s0.1,yq.1,yq.2 n0,e.box⟩, .inr ⟨s0.1,s0.2,rfl⟩⟩)
 .rcases e with⟨_,_,rfl⟩|⟨a,n,xa,hn,_,⟨_,rfl⟩|⟨_,y,q,yq,e⟩⟩
  .exact .inl (SC.refl _)
  .exact .inl (SC.box _ _ _)
  .rw[xa]at a;exact(h.OM hn (nu a) yq e).imp id (λe=> .inl ⟨n,e.2, .inl ⟨xa, .inr e.1⟩⟩)
 .rcases e with⟨_,_,rfl⟩|⟨a,n,xa,hn,_,⟨_,rfl⟩|⟨_,y,q,yq,e⟩⟩
  .exact .inl (SC.refl _)
  .exact .inl (SC.box _ _ _)
  .rw[xa]at a;exact(h.OM hn (nu a) yq e).imp id (λe=> .inl ⟨n,e.2, .inl ⟨xa, .inr e.1⟩⟩)
 .rcases e with⟨_,_,_,rfl⟩|⟨_,n,j,_,_,_,rfl,_⟩
  .exact .inl (SC.refl _)
  .exact .inl (SC.put k n ⟨rfl,rfl,rfl,rfl⟩)
 .exact .inr (.inr (.inr (.inl e)))
 .exact .inr (.inr (.inr (.inr (.inl e))))
 .exact .inr (.inr (.inr (.inr (.inr (.inl e)))))
 .obtain⟨_,m,_,⟨_,w⟩|rfl,rfl⟩:=e
  .refine .inr (.inr (.inr (.inr (.inr (.inr ⟨m,?_,rfl⟩)))));rw[show m=Wf.wE k.sc x.a (!x.on)from w];exact λ_ h=>h
  .exact .inl (SC.refl _)
 .exact .inl (SC.refl _)
structure FK (k:Kp)(n c:Nat)(k':Kp):Prop where
 hn:n<20
 ln:lv k n=bw
 lC:c<20
 c0:(k.p c).st=0
 lo:∀m,m<c->(k.p m).st≠0
 ot:∀m,m≠c->k'.p m=k.p m
 me:k'.p c=eU k n
 of:∀m,m≠c->k'.sp.of m=k.sp.of m
 kp:∀s p,s<6->k.sp.b7 s p≠0->k'.sp.b7 s p=k.sp.b7 s p
 bk:k'.bk=Mv.eI (k.p n).mem k.bk 16
theorem FK.Vv{z:Nat}{d2:Nat->Nat}{m':Wf.M}(iv:Sp.Inv k2.sp d2)(ep:k2.p=k.p)(eo:k2.sp.of=k.sp.of)(ew:k2.sp.b7=k.sp.b7)(eb:k2.bk=k.bk)(hn:n<20)(l:lv k n=bw)(hc:c<20)(c0:(k.p c).st=0)(lo:∀m,m<c->(k.p m).st≠0)(o0:k.sp.of c=0)(z6:z<6)(zh:k2.sp.here z=bw):FK k n c (iP (dI k2 n) c (eU k2 n) (z:Int) m'):=by
 obtain⟨T,eT⟩:=kG {k2 with bk:=Mv.eI (k2.p n).mem k2.bk 16} (k2.p n).fd 6;have cop:dI k2 n={k2 with bk:=Mv.eI (k2.p n).mem k2.bk 16,fi:=T}:=eT;have o2:k2.sp.of c=0:=by rw[eo];exact o0
 have esp:(iP (dI k2 n) c (eU k2 n) (z:Int) m').sp=Sp.fM k2.sp (z:Int) (c:Int):=by rw[cop];rfl
 refine⟨hn,l,hc,c0,lo,λm q=>?_,?_,λm q=>?_,λs p hs hw=>?_,?_⟩
 .rw[cop];exact(bP _ _ _ _ q).trans (by show k2.p m=k.p m;rw[ep])
 .refine(bM _ _ _).trans ?_;unfold eU;rw[ep]
 .rw[esp,Sp.qA z6 zh hc o2,aI q,eo]
 .rw[esp,Sp.tn iv z6 zh hc o2 hs (by rw[ew];exact hw),ew]
 .rw[cop];show Mv.eI (k2.p n).mem k2.bk 16=_;rw[ep,eb]
theorem Kd(k:Kp)(n:Nat):(dI k n).gr=k.gr:=by
 obtain⟨T,eT⟩:=kG {k with bk:=Mv.eI (k.p n).mem k.bk 16} (k.p n).fd 6;rw[show dI k n={k with bk:=Mv.eI (k.p n).mem k.bk 16,fi:=T}from eT]
theorem Oh(k:Kp)(Wy:Nat->List (Fin 10))(n:Nat)(own:Bool):(fN (cZ k Wy n) n own).sp=(fN k n own).sp:=by
 unfold fN;by_cases c:own=bw/\jL k n own=0
 .rw[aJ c,aJ (show own=bw/\jL (cZ k Wy n) n own=0 from c)];rfl
 .rw[aI c,aI (show¬(own=bw/\jL (cZ k Wy n) n own=0)from c)];rfl
theorem pX.cl(h:KH N d k){p:Nat}(f:pX k z own p E k'):(E≠0/\(k'=k\/∃(Wy:Nat->List (Fin 10)) (n:Nat),Gr.dC k.gr Wy/\pQ k Wy n=0/\k'={cZ k Wy n with gr:=Gr.dn (cZ k Wy n).gr (k.p n).cA 1 (Mv.cM (k.p n).mem 16:Int)}))\/(E=0/\∃(n c:Nat) (Wy:Nat->List (Fin 10)),z=n/\FK k n c k'/\Gr.dC k.gr Wy/\pQ k Wy n=0/\k'.gr=(cZ k Wy n).gr/\k'.sc=Wf.wE (Wf.dH k.sc (c:Int) (k.p n).cA) (c:Int) bw/\k'.sp=Sp.fM (fN k n own).sp (nj k n own:Int) (c:Int)/\p=Sp.pS k'.sp (c:Int) (Sp.dX k'.sp (n:Int):Nat)):=by
 rcases f with⟨a,e,_,rfl⟩|⟨a,n,c,F,Wy,rfl,hn,fr,ways,f⟩
 .exact .inl ⟨by rw[e];exact a, .inl rfl⟩
 .have l:Kn.lv k n=bw:=nu a;rcases f with⟨q,e,_,rfl⟩|⟨_,q,e,_,rfl⟩|⟨_,ch,q,e,_,rfl⟩|⟨f0,ch,hm,e,m',wk,ek,ep⟩
  .exact .inl ⟨by rw[e];exact q, .inl rfl⟩
  .exact .inl ⟨by rw[e];exact q, .inl rfl⟩
  .exact .inl ⟨by rw[e];exact q, .inr ⟨Wy,n,ways,ch,rfl⟩⟩
  .have lC:c<20/\(k.p c).st=0/\∀m,m<c->(k.p m).st≠0:=by
    rcases fr with q|q
    .exact q.2
    .omega
   have o0:k.sp.of c=0:=by
    by_cases e:k.sp.of c=0
    .exact e
    .exact aZ lC.2.1 ((h.ki.vi.kj.of c lC.1).1 e)
   obtain⟨y,oy⟩:=h.of hn (by rw[dL.1 l];omega);have y6:=(h.ki.vi.iv.dc hn oy).2;have iz:Sp.dX (cZ k Wy n).sp (n:Int)=y:=Sp.iB hn oy;have wk:m'=Wf.wE (Wf.dH (fN (cZ k Wy n) n own).sc (c:Int) (k.p n).cA) (c:Int) bw:=wk;rw[(Kz (cZ k Wy n) n own).2.2.2]at wk;have key:FK k n c k'/\k'.gr=(cZ k Wy n).gr/\k'.sc=m':=by
    cases own
    .have en:nj (cZ k Wy n) n bA=y:=iz;rw[(Ak (cZ k Wy n) n).1,en]at ek;rw[ek];refine⟨FK.Vv (k2:=cZ k Wy n) h.ki.vi.iv rfl rfl rfl rfl hn l lC.1 lC.2.1 lC.2.2 o0 y6.1 y6.2,?_,rfl⟩;exact Kd _ _
    .have ea:Sp.iY (cZ k Wy n).sp (y:Int)=0:=by unfold jL at hm;rw[aJ rfl,iz]at hm;exact hm
     obtain⟨z',ez,z6,zh,wl,f6,fh,fl⟩:=Sp.po ea;obtain⟨e1,e2,_⟩:=xv iz ea rfl;have es:=Sp.add_eq ea;rw[e1,e2]at ek;rw[ek];have kj2:=h.ki.vi.kj.LH (show Sp.iY k.sp (y:Int)=0 from ea) rfl;obtain⟨d2,iv2⟩:=kj2.sp;refine⟨FK.Vv (k2:=Ay (cZ k Wy n) y (Sp.fK (cZ k Wy n).sp)) iv2 rfl ?_ ?_ rfl hn l lC.1 lC.2.1 lC.2.2 o0 f6 ?_,?_,rfl⟩
     .show(Sp.ga (cZ k Wy n).sp (y:Int)).of=_;rw[es];rfl
     .show(Sp.ga (cZ k Wy n).sp (y:Int)).b7=_;rw[es];rfl
     .show(Sp.ga (cZ k Wy n).sp (y:Int)).here _=bw;rw[es];exact aJ rfl
     .exact Kd _ _
   refine .inr ⟨e,n,c,Wy,rfl,key.1,ways,ch,key.2.1,key.2.2.trans wk,?_,ep⟩;rw[ek];show Sp.fM (dI (fN (cZ k Wy n) n own) n).sp _ _=_;rw[(tf _ n).1,Oh];rfl
end
end Kn
namespace Mv
theorem AF{m m':Me}:∀j,(∀x,x<j->m'.fr x=m.fr x)->cM m' j=cM m j
 |0,_=>rfl
 |j+1,h=>by
  show cM m' j+(if m'.fr j=0 then 0 else 1)=cM m j+(if m.fr j=0 then 0 else 1);rw[AF j (λx hx=>h x bB),h j bB]
theorem xL{m m':Me}{x:Nat}(e:∀y,y≠x->m'.fr y=m.fr y):∀J,cM m' J+(if x<J/\m.fr x≠0 then 1 else 0)=cM m J+if x<J/\m'.fr x≠0 then 1 else 0
 |0=>by rw[aI (λc=>bB),aI (λc=>bB)];rfl
 |J+1=>by
  have ih:=xL e J;show cM m' J+(if m'.fr J=0 then 0 else 1)+_=cM m J+(if m.fr J=0 then 0 else 1)+_;by_cases c:J=x
  .subst c;rw[aI (λc=>bB),aI (λc=>bB)]at ih;by_cases a:m'.fr J=0<;>by_cases b:m.fr J=0<;>simp[a,b]<;>omega
  .have l:x<J+1↔x<J:=⟨λ_=>bB,λ_=>bB⟩;rw[e J c];simp only[l];omega
theorem He(m:Me)(a:Nat):∀n,a+n<=16->cM (iF m a (a+n)) 16+og m a n=cM m 16
 |0,_=>by
  rw[show og m a 0=0 from rfl,Nat.add_zero];exact AF 16 (λx _=>by show(if a<=x/\x<a+0 then 0 else m.fr x)=m.fr x;exact aI (λc=>bB))
 |n+1,h=>by
  have ih:=He m a n bB;have s:=xL (m:=iF m a (a+n)) (m':=iF m a (a+(n+1))) (x:=a+n) (λy hy=>by
   show(if a<=y/\y<a+(n+1)then 0 else m.fr y)=if a<=y/\y<a+n then 0 else m.fr y;grind) 16
  have e1:(iF m a (a+n)).fr (a+n)=m.fr (a+n):=aI (λc=>bB);have e2:(iF m a (a+(n+1))).fr (a+n)=0:=aJ ⟨by omega,bB⟩;rw[e1,e2]at s;have z:(if a+n<16/\(0:Nat)≠0 then 1 else 0)=0:=aI (λc=>c.2 rfl);rw[z]at s;show cM (iF m a (a+(n+1))) 16+(og m a n+if m.fr (a+n)=0 then 0 else 1)=_;by_cases c:m.fr (a+n)=0
  .rw[aI (λx=>x.2 c)]at s;rw[aJ c];omega
  .rw[aJ ⟨by omega,c⟩]at s;rw[aI c];omega
theorem mH.res{m m':Me}{k k':Bk}{wr:Bool}{g:Nat}(t:mH m k z wr E g m' k'):cM m' 16=cM m 16+if E=0/\kV m z=bw then 1 else 0:=by
 have mw:∀{wr},jY m z wr=bw->jY m z bA=bw/\z.toNat/8<16:=λ{wr} h=>by
  unfold jY at h|-;split at h
  .cases h
  .rename_i c;refine⟨?_,bB⟩;rw[aI c];revert h;cases decide (m.is (z.toNat/8)=2)<;>cases decide (m.is (z.toNat/8)=1)<;>simp
 rcases t with⟨_,rfl,_,rfl,_⟩|⟨a,b,_,_,_,rfl,_⟩|⟨a,b,_,_,⟨e,rfl,_⟩|⟨e,rfl,_⟩⟩
 .rw[aI (λx=>by have:=x.1;omega)];rfl
 .rw[aI (λx=>by have:=x.2;unfold kV at this;simp[b]at this)];rfl
 .rw[aI (λx=>e x.1)];rfl
 .have w:=mw a;have s:=xL (m:=m) (m':={m with fr:=je m.fr (z.toNat/8) (g+1)}) (x:=z.toNat/8) (λy hy=>by show je _ _ _ y=_;unfold je;exact aI hy) 16;have e2:je m.fr (z.toNat/8) (g+1) (z.toNat/8)=g+1:=by simp[je]
  rw[show({m with fr:=je m.fr (z.toNat/8) (g+1)}:Me).fr (z.toNat/8)=g+1 from e2]at s;unfold kV;rw[w.1];by_cases c:m.fr (z.toNat/8)=0
  .rw[aI (λx=>x.2 c),aJ ⟨w.2,bB⟩]at s;rw[aJ ⟨e,by simp[c]⟩];omega
  .rw[aJ ⟨w.2,c⟩,aJ ⟨w.2,bB⟩]at s;rw[aI (λx=>by simp[c]at x)];omega
end Mv
namespace Kn
def cp(x:Pr)(g:Nat):Int:=if x.st≠0/\x.cA=(g:Int)then 1 else 0
def cq(x:Pr)(g:Nat):Int:=if x.st≠0/\x.cA=(g:Int)then(Mv.cM x.mem 16:Int)else 0
def sm(f:Nat->Int):Nat->Int
 |0=>0
 |M+1=>sm f M+f M
theorem j8{f f':Nat->Int}:∀M,(∀m,m<M->f' m=f m)->sm f' M=sm f M
 |0,_=>rfl
 |M+1,h=>by show sm f' M+f' M=sm f M+f M;rw[j8 M (λm hm=>h m bB),h M bB]
theorem Es{f f':Nat->Int}{n:Nat}:∀M,(∀m,m<M->m≠n->f' m=f m)->n<M->sm f' M=sm f M+f' n-f n
 |0,_,h=>aZ h bB
 |M+1,h,hn=>by
  show sm f' M+f' M=sm f M+f M+f' n-f n;by_cases c:M=n
  .subst c;rw[j8 M (λm hm=>h m bB bB)];omega
  .rw[Es M (λm hm=>h m bB) bB,h M bB c];omega
theorem tJ{f:Nat->Int}(h:∀m,0<=f m){n:Nat}:∀M,0<=sm f M/\(n<M->f n<=sm f M)
 |0=>⟨Int.le_refl 0,λc=>aZ c bB⟩
 |M+1=>by
  have ih:=tJ h (n:=n) M;have:=h M;refine⟨by show 0<=sm f M+f M;omega,λhn=>?_⟩;show f n<=sm f M+f M;by_cases c:M=n
  .subst c;omega
  .have:=ih.2 bB;omega
theorem Cp(x:Pr)(g:Nat):0<=cp x g:=by unfold cp;split<;>omega
theorem PZ(x:Pr)(g:Nat):0<=cq x g:=by unfold cq;split<;>omega
structure CG (k:Kp):Prop where
 op:∀g,g<10->(k.gr g).op=sm (λm=>cp (k.p m) g) 20
 oq:∀g,g<10->(k.gr g).oq=sm (λm=>cq (k.p m) g) 20
 th:∀m,m<20->(k.p m).st≠0->∃g:Nat,(k.p m).cA=g/\g<10/\(k.gr g).there=bw
section
variable {N n z:Nat}{d:Nat->Nat}{X:Nat->Prop}{k k' k1:Kp}{x:fk}
theorem CG.iZ(h:CG k)(g:∀i,i<10->(k'.gr i).there=(k.gr i).there/\(k'.gr i).op=(k.gr i).op/\(k'.gr i).oq=(k.gr i).oq)(p:∀m,m<20->((k'.p m).st=0↔(k.p m).st=0)/\(k'.p m).cA=(k.p m).cA/\Mv.cM (k'.p m).mem 16=Mv.cM (k.p m).mem 16):CG k':=by
 refine⟨λi hi=>?_,λi hi=>?_,λm hm s=>?_⟩
 .rw[(g i hi).2.1,h.op i hi];exact j8 20 (λm hm=>by simp only[cp,ne_eq,(p m hm).1,(p m hm).2.1])
 .rw[(g i hi).2.2,h.oq i hi];exact j8 20 (λm hm=>by simp only[cq,ne_eq,(p m hm).1,(p m hm).2.1,(p m hm).2.2])
 .rw[(p m hm).2.1];obtain⟨i,a,b,e⟩:=h.th m hm (λc=>s ((p m hm).1.2 c));exact⟨i,a,b,by rw[(g i b).1];exact e⟩
theorem CG.same(h:CG k)(g:k'.gr=k.gr)(p:∀m,m<20->(k'.p m).st=(k.p m).st/\(k'.p m).cA=(k.p m).cA/\Mv.cM (k'.p m).mem 16=Mv.cM (k.p m).mem 16):CG k':=h.iZ (λ_ _=>by rw[g];exact⟨rfl,rfl,rfl⟩) (λm hm=>⟨by rw[(p m hm).1],(p m hm).2⟩)
theorem CG.sc(h:CG k)(s:SC k k'):CG k':=h.same s.gr (λm _=>⟨(s.p m).1,(s.p m).2.2.1,by rw[(s.p m).2.2.2]⟩)
theorem CG.one(h:CG k)(hn:n<20)(ot:∀m,m<20->m≠n->k'.p m=k.p m)(g:∀i,i<10->(k'.gr i).there=(k.gr i).there/\(k'.gr i).op=(k.gr i).op+cp (k'.p n) i-cp (k.p n) i/\(k'.gr i).oq=(k.gr i).oq+cq (k'.p n) i-cq (k.p n) i)(th:(k'.p n).st≠0->∃i:Nat,(k'.p n).cA=i/\i<10/\(k.gr i).there=bw):CG k':=by
 refine⟨λi hi=>?_,λi hi=>?_,λm hm s=>?_⟩
 .rw[(g i hi).2.1,h.op i hi];exact(Es (f:=λm=>cp (k.p m) i) (f':=λm=>cp (k'.p m) i) 20 (λm hm c=>by rw[ot m hm c]) hn).symm
 .rw[(g i hi).2.2,h.oq i hi];exact(Es (f:=λm=>cq (k.p m) i) (f':=λm=>cq (k'.p m) i) 20 (λm hm c=>by rw[ot m hm c]) hn).symm
 .by_cases c:m=n
  .subst c;obtain⟨i,a,b,e⟩:=th s;exact⟨i,a,b,by rw[(g i b).1];exact e⟩
  .rw[ot m hm c]at s|-;obtain⟨i,a,b,e⟩:=h.th m hm s;exact⟨i,a,b,by rw[(g i b).1];exact e⟩
theorem lZ(t:Nat->Gr.Gp)(g:Nat)(p q:Int)(i:Nat):(Gr.dV t g p q i).there=(t i).there/\(Gr.dV t g p q i).op=(t i).op+(if i=g then p else 0)/\(Gr.dV t g p q i).oq=(t i).oq+(if i=g then q else 0):=by
 unfold Gr.dV;by_cases c:i=g
 .subst c;rw[Gr.dk,aJ rfl,aJ rfl];exact⟨rfl,rfl,rfl⟩
 .rw[Gr.dw _ _ _ _ c,aI c,aI c];exact⟨rfl,bB,bB⟩
theorem CG.sN(h:CG k)(hn:n<20)(s:(k.p n).st≠0){p q:Int}(hp:0<=p/\p<=1)(hq:0<=q/\q<=(Mv.cM (k.p n).mem 16:Int)):∃g:Nat,(k.p n).cA=g/\g<10/\(k.gr g).there=bw/\Gr.gm k.gr (k.p n).cA p q=0/\Gr.dn k.gr (k.p n).cA p q=Gr.dV k.gr g (-p) (-q):=by
 obtain⟨g,e,g10,th⟩:=h.th n hn s;have a:=(tJ (λm=>Cp (k.p m) g) (n:=n) 20).2 hn;have b:=(tJ (λm=>PZ (k.p m) g) (n:=n) 20).2 hn;rw[<-h.op g g10,show cp (k.p n) g=1 from aJ ⟨s,e⟩]at a;rw[<-h.oq g g10,show cq (k.p n) g=_ from aJ ⟨s,e⟩]at b;have u:Gr.gm k.gr (k.p n).cA p q=0:=by
  have re:Gr.eF k.gr (k.p n).cA p q=0:=by
   have w:Gr.wr k.gr (g:Int)=0:=by unfold Gr.wr;rw[nJ];exact aJ th
   unfold Gr.eF;rw[e,w,aJ rfl,aJ];unfold Gr.ji;apply aO;have:=YtpmmdkcfenjiaaaGreatDoor.mr (k.p n).mem 16;omega
  unfold Gr.gm;rw[aJ re,e,hZ,aJ ⟨by omega,bB⟩]
 refine⟨g,e,g10,th,u,?_⟩;unfold Gr.dn;rw[aJ u,e,hZ]
theorem Ho(m:Me){n:Int}(h:Mv.pL a n=0):Mv.cM (Mv.kH m a n) 16+Mv.rL m a n=Mv.cM m 16:=by
 unfold Mv.pL at h;unfold Mv.kH Mv.rL;cases hb:Mv.kZ a n
 .obtain⟨x,j,rfl,rfl,hx,h1,h2⟩:=Mv.si hb;rw[aI bE,aI bE,hZ,hZ];exact Mv.He m x j h2
 .rw[hb,aJ rfl]at h;omega
theorem CG.ES(h:CG k)(hn:n<20)(s:(k.p n).st≠0)(a m:Int):CG (dv k n a m):=by
 unfold dv;split
 .rename_i e;have r:=Ho (k.p n).mem e;obtain⟨g,eg,g10,th,_,ut⟩:=h.sN hn s (p:=0) (q:=(Mv.rL (k.p n).mem a m:Int)) bB bB;rw[ut];refine h.one (n:=n) hn (λj _ c=>bP _ _ _ _ c) (λi _=>?_) (λ_=>⟨g,by rw[show∀t,({cT k n (Mv.kH (k.p n).mem a m) (Mv.nM (k.p n).mem k.bk a m)with gr:=t}:Kp).p n={k.p n with mem:=Mv.kH (k.p n).mem a m}from λ_=>bM _ _ _];exact eg,g10,th⟩);have q:=lZ k.gr g (-0) (-(Mv.rL (k.p n).mem a m:Int)) i;rw[show∀t,({cT k n (Mv.kH (k.p n).mem a m) (Mv.nM (k.p n).mem k.bk a m)with gr:=t}:Kp).p n={k.p n with mem:=Mv.kH (k.p n).mem a m}from λ_=>bM _ _ _];refine⟨q.1,q.2.1.trans ?_,q.2.2.trans ?_⟩
  .show _=(k.gr i).op+cp (k.p n) i-cp (k.p n) i;split<;>omega
  .unfold cq;show _=(k.gr i).oq+(if(k.p n).st≠0/\(k.p n).cA=(i:Int)then(Mv.cM (Mv.kH (k.p n).mem a m) 16:Int)else 0)-_;by_cases c:i=g
   .subst c;rw[aJ rfl,aJ ⟨s,eg⟩,aJ ⟨s,eg⟩];omega
   .rw[aI c,aI (λx=>c (by have:=x.2;omega)),aI (λx=>c (by have:=x.2;omega))];omega
 .exact h
theorem CG.str(h:CG k)(hn:n<20)(l:lv k n=bw)(s:fP k n k'):CG k':=by
 obtain⟨m',w,rfl⟩:=s;have s0:(k.p n).st≠0:=by rw[dL.1 l];omega
 have u:=h.ES hn s0 0 16;have z0:Mv.cM ((dv k n 0 16).p n).mem 16=0:=by
  unfold dv;rw[aJ (show Mv.pL 0 16=0 from rfl)];show Mv.cM ((cT k n (Mv.kH (k.p n).mem 0 16) (Mv.nM (k.p n).mem k.bk 0 16)).p n).mem 16=0;rw[jF];have r:=Ho (k.p n).mem (a:=0) (n:=16) rfl;have e:∀j,j<=16->Mv.og (k.p n).mem 0 j=Mv.cM (k.p n).mem j:=λj=>by
   induction j with
   |zero=>intro _;rfl
   |succ j ih=>intro hj;show Mv.og _ 0 j+(if(k.p n).mem.fr (0+j)=0 then 0 else 1)=Mv.cM _ j+_;rw[ih bB,Nat.zero_add]
  have e2:Mv.rL (k.p n).mem 0 16=Mv.og (k.p n).mem 0 16:=rfl;have:=e 16 (aL _);show Mv.cM (Mv.kH (k.p n).mem 0 16) 16=0;omega
 refine u.same (show(dU (dv k n 0 16) n (k.p n).fd 6).gr=_ from wA _ _ _ _) (λm hm=>?_);have a:=fP.p ⟨m',w,rfl⟩ m;have b:=vA k n 0 16 m;refine⟨a.1.trans b.2.2.1.symm,a.2.2.1.trans b.2.2.2.2.1.symm,?_⟩;by_cases c:m=n
 .subst c;rw[z0];unfold qQ;dsimp only;rw[bM];rfl
 .rw[(a.2.2.2.2 c).2.1];unfold dv;split
  .rw[show∀t,({cT k n (Mv.kH (k.p n).mem 0 16) (Mv.nM (k.p n).mem k.bk 0 16)with gr:=t}:Kp).p m=k.p m from λ_=>bP _ _ _ _ c]
  .rfl
theorem CG.fin(h:CG k)(hn:n<20)(s:(k.p n).st≠0)(m0:(k.p n).mem=Mv.lR):CG (eH k n):=by
 obtain⟨g,eg,g10,th,_,ut⟩:=h.sN hn s (p:=1) (q:=0) bB bB;have e2:(eH k n).p n=Pr.no:=bM _ _ _;refine h.one (n:=n) hn (λj _ c=>bP _ _ _ _ c) (λi _=>?_) (λc=>aZ (by rw[e2];rfl) c);rw[e2];show(Gr.dn k.gr (k.p n).cA 1 0 i).there=_/\(Gr.dn k.gr (k.p n).cA 1 0 i).op=_/\(Gr.dn k.gr (k.p n).cA 1 0 i).oq=_;rw[ut];have q:=lZ k.gr g (-1) (-0) i;refine⟨q.1,q.2.1.trans ?_,q.2.2.trans ?_⟩
 .rw[show cp Pr.no i=0 from aI (λx=>x.1 rfl)];unfold cp;by_cases c:i=g
  .subst c;rw[aJ rfl,aJ ⟨s,eg⟩];omega
  .rw[aI c,aI (λx=>c (by have:=x.2;omega))];omega
 .rw[show cq Pr.no i=0 from aI (λx=>x.1 rfl)];have:cq (k.p n) i=0:=by unfold cq;rw[m0];split<;>rfl
  rw[this];split<;>omega
theorem CG.first(h:CG k)(v:VI X N d k)(hn:n<20)(hX:¬X n)(ho:k.sp.of n=z+1)(h1:lv k n=bw->fP k n k1)(h2:lv k n=bA->k1=k):CG k1/\(k1.p n).mem=Mv.lR:=by
 obtain⟨a,_,_,hh,_,_⟩:=v.first hn hX ho h1 h2;refine⟨?_,a.kj.nm n hn hh⟩;cases l:lv k n
 .rw[h2 l];exact h
 .exact h.str hn l (h1 l)
theorem Am{R:Kp->Nat->Kp->Prop}(hR:yA N d R)(hC:∀(X:Nat->Prop) (k:Kp) (n:Nat) (k':Kp) (z:Nat),VI X N d k->n<20->n≠0->¬X n->k.sp.of n=z+1->(hd k n=n->∀m,m<20->X m->¬Sp.mem k.sp z m)->R k n k'->CG k->CG k'):∀(j:Nat) (k:Kp),EI X N d n z k->jJ R (z:Int) j k k'->CG k->CG k'
 |0,k,_,r,h=>by rw[r.1];exact h
 |j+1,k,e,⟨m,k1,hm,r1,r2⟩,h=>by
  obtain⟨m20,m0,mn,mx,mz,y,hy,hx⟩:=e.next hm;exact Am hR hC j k1 (e.step hm hR r1).1 r2 (hC X k m k1 y e.vi m20 m0 mx hy hx r1 h)
theorem EU:∀f (X:Nat->Prop) (k:Kp) (n:Nat) (k':Kp) (z:Nat),VI X N d k->n<20->n≠0->¬X n->k.sp.of n=z+1->(hd k n=n->∀m,m<20->X m->¬Sp.mem k.sp z m)->iK f k n k'->CG k->CG k'
 |0=>λ_ _ _ _ _ _ _ _ _ _ _ r=>r.elim
 |f+1=>λX k n k' z h hn n0 hX ho hx r c=>by
  obtain⟨k1,h1,h2,r⟩:=r;obtain⟨c1,m1⟩:=c.first h hn hX ho h1 h2;obtain⟨a,sp,tb,hh,s0,fW⟩:=h.first hn hX ho h1 h2;rcases r with⟨_,rfl⟩|⟨q,k2,j,ri,rfl⟩
  .exact c1.fin hn s0 m1
  .have zi:Sp.dX k.sp (n:Int)=z:=Sp.iB hn ho;rw[zi]at ri|-;have ei:EI (λm=>X m\/m=n) N d n z k1:=⟨a,hn,n0, .inr rfl,by rw[sp];exact ho,by rw[sp];exact(iG h.iv h.hs hn ho).1 q,λm m20 xm mn mz=>by
    rw[sp]at mz;exact hx q m m20 (xm.elim id (λq=>aZ q mn)) mz⟩
   obtain⟨_,_,e,_⟩:=EI.iter (kU f) j k1 ei ri;have c2:=Am (kU f) (EU f) j k1 ei ri c1;exact(c2.fin hn (by rw[e];exact s0) (by rw[e];exact m1)).same rfl (λ_ _=>⟨rfl,rfl,rfl⟩)
end
end Kn
namespace Kn
section
variable {N n z:Nat}{d:Nat->Nat}{k k' k1:Kp}{x:fk}
theorem CG.end(h:CG k)(kh:KH N d k)(e:yn k n k'):CG k':=by
 obtain⟨c,z,q,hn,n0,l,ho,hp,k1,k3,s1,mt,rfl⟩:=e;have hv:=kh.ki.vi;obtain⟨a,sp,tb,hh,s0,fW⟩:=hv.first hn (λx=>x) ho (λ_=>s1) (λx=>by rw[l]at x;cases x);have c1:=h.str hn l s1;have c2:CG (eA k1 n c):=c1.iZ (λ_ _=>⟨rfl,rfl,rfl⟩) (λm hm=>by
  unfold eA;by_cases e:m=n
  .subst e;rw[bM];exact⟨⟨λx=>aZ x (show¬(2:Nat)=0 by decide),λx=>aZ x s0⟩,rfl,rfl⟩
  .rw[bP _ _ _ _ e];exact⟨Iff.rfl,rfl,rfl⟩)
 have c3:CG k3:=by
  rcases mt with⟨_,rfl⟩|⟨ih,j,it⟩
  .exact c2
  .have ih:hd k1 n=n:=ih;have ih:hd k n=n:=by unfold hd at ih|-;rw[<-sp];exact ih
   have ei:EI (λm=>False\/m=n) N d n z k1:=hv.ei hn n0 (λx=>x) ho ih (λ_ _ x=>aZ x (λx=>x)) (λ_=>s1) (λx=>by rw[l]at x;cases x);exact Am (kU 6) (EU 6) j _ (ei.gone s0 hh c) it c2
 have c4:CG (gG k3 (iU k3 n) (Sp.fc k3.sp (z:Int) 1:Nat)):=c3.same rfl (λ_ _=>⟨rfl,rfl,rfl⟩);unfold mL;split
 .exact c4.sc (SC.put _ _ ⟨rfl,rfl,rfl,rfl⟩)
 .exact c4
theorem CG.MH(h:CG k)(kh:KH N d k)(e:JT k n k'):CG k':=by
 obtain⟨m,m20,m0,_,m2,v⟩:=e;obtain⟨y,oy⟩:=kh.of m20 bB;exact EU 6 (λ_=>False) k m k' y kh.ki.vi m20 m0 (λx=>x) oy (λ_ _ _ x=>x.elim) v h
theorem sj{t:Nat->Gr.Gp}{g:Nat}{p q:Int}(e:Gr.gx t Wy g p q=0):Gr.eR t Wy g p q=Gr.dV t g p q:=by unfold Gr.eR;rw[aJ e,hZ]
theorem CG.back(h:CG k){g:Nat}(g10:g<10)(th:(k.gr g).there=bw){p q:Int}(hp:0<=p/\p<=1)(hq:0<=q/\q<=16)(i:Nat):(Gr.dn (Gr.dV k.gr g p q) g p q i).there=(k.gr i).there/\(Gr.dn (Gr.dV k.gr g p q) g p q i).op=(k.gr i).op/\(Gr.dn (Gr.dV k.gr g p q) g p q i).oq=(k.gr i).oq:=by
 have a:=lZ k.gr g p q;have o1:=(tJ (λm=>Cp (k.p m) g) (n:=0) 20).1;have o2:=(tJ (λm=>PZ (k.p m) g) (n:=0) 20).1;rw[<-h.op g g10]at o1;rw[<-h.oq g g10]at o2;have ag:=a g;rw[aJ rfl,aJ rfl]at ag;have u:Gr.gm (Gr.dV k.gr g p q) (g:Int) p q=0:=by
  have re:Gr.eF (Gr.dV k.gr g p q) (g:Int) p q=0:=by
   have w:Gr.wr (Gr.dV k.gr g p q) (g:Int)=0:=by unfold Gr.wr;rw[nJ];exact aJ (by rw[hZ,ag.1];exact th)
   unfold Gr.eF;rw[w,aJ rfl,aJ];unfold Gr.ji;apply aO;omega
  unfold Gr.gm;rw[aJ re,hZ,aJ ⟨by omega,bB⟩]
 unfold Gr.dn;rw[aJ u,hZ];have b:=lZ (Gr.dV k.gr g p q) g (-p) (-q) i;refine⟨b.1.trans (a i).1,b.2.1.trans ?_,b.2.2.trans ?_⟩
 .rw[(a i).2.1];split<;>omega
 .rw[(a i).2.2];split<;>omega
theorem CG.fork(h:CG k)(kh:KH N d k){z:Int}{p:Nat}(f:pX k z own p E k'):CG k':=by
 rcases f.cl kh with⟨_,rfl|⟨Wy,n,_,ch,rfl⟩⟩|⟨_,n,c,Wy,_,f,_,ch,g,_,_,_⟩
 .exact h
 .unfold pQ at ch;refine h.iZ (λi _=>?_) (λ_ _=>⟨Iff.rfl,rfl,rfl⟩);show(Gr.dn (Gr.eR k.gr Wy (k.p n).cA 1 (Mv.cM (k.p n).mem 16:Int)) (k.p n).cA 1 (Mv.cM (k.p n).mem 16:Int) i).there=_/\(Gr.dn (Gr.eR k.gr Wy (k.p n).cA 1 (Mv.cM (k.p n).mem 16:Int)) (k.p n).cA 1 (Mv.cM (k.p n).mem 16:Int) i).op=_/\(Gr.dn (Gr.eR k.gr Wy (k.p n).cA 1 (Mv.cM (k.p n).mem 16:Int)) (k.p n).cA 1 (Mv.cM (k.p n).mem 16:Int) i).oq=_;have re:Gr.eF k.gr (k.p n).cA 1 (Mv.cM (k.p n).mem 16:Int)=0:=by
   unfold Gr.gx at ch;split at ch
   .assumption
   .exact ch
  obtain⟨g,eg,g10,th,_⟩:=Gr.jS re;rw[eg]at ch|-;rw[sj ch];exact h.back g10 th bB (by have:=YtpmmdkcfenjiaaaGreatDoor.mr (k.p n).mem 16;omega) i
 .unfold pQ at ch;obtain⟨i0,eg,g10,th⟩:=h.th n f.hn (by rw[dL.1 f.ln];omega);have sn:(k.p n).st≠0:=by rw[dL.1 f.ln];omega
  refine h.one (n:=c) f.lC (λm _ q=>f.ot m q) (λi _=>?_) (λ_=>⟨i0,by rw[f.me];exact eg,g10,th⟩);rw[g,f.me];show(Gr.eR k.gr Wy (k.p n).cA 1 (Mv.cM (k.p n).mem 16:Int) i).there=_/\(Gr.eR k.gr Wy (k.p n).cA 1 (Mv.cM (k.p n).mem 16:Int) i).op=_/\(Gr.eR k.gr Wy (k.p n).cA 1 (Mv.cM (k.p n).mem 16:Int) i).oq=_;rw[eg]at ch;rw[eg,sj ch];have q:=lZ k.gr i0 1 (Mv.cM (k.p n).mem 16:Int) i;have z1:cp (k.p c) i=0:=aI (λx=>x.1 f.c0);have z2:cq (k.p c) i=0:=aI (λx=>x.1 f.c0);rw[z1,z2];refine⟨q.1,q.2.1.trans ?_,q.2.2.trans ?_⟩
  .show _=(k.gr i).op+(if(k.p n).st≠0/\(k.p n).cA=(i:Int)then 1 else 0)-0;by_cases e:i=i0
   .subst e;rw[aJ rfl,aJ ⟨sn,eg⟩];omega
   .rw[aI e,aI (λx=>e (by have:=x.2;omega))];omega
  .show _=(k.gr i).oq+(if(k.p n).st≠0/\(k.p n).cA=(i:Int)then(Mv.cM (k.p n).mem 16:Int)else 0)-0;by_cases e:i=i0
   .subst e;rw[aJ rfl,aJ ⟨sn,eg⟩];omega
   .rw[aI e,aI (λx=>e (by have:=x.2;omega))];omega
theorem CG.sq(h:CG k)(kh:KH N d k):∀j {k':Kp},Cy j k k'->CG k'
 |0,_,e=>by rw[show _=k from e];exact h
 |j+1,_,⟨_,a,m,y,q,h1,h2,h3,h4,h5,h6⟩=>(h.sq kh j a).end (kh.sq j a) ⟨_,y,q,h1,h2,h3,h4,h5,h6⟩
theorem KH.Q9(kh:KH N d k)(e:yn k n k'){m:Nat}(hm:m<20)(l:lv k' m=bw):lv k m=bw/\(k'.p m).mem=(k.p m).mem:=by
 obtain⟨c,z,q,hn,n0,ln,ho,hp,et⟩:=e;have es:=kh.Kl hn n0 ln ho et;have lm:=(es.2 m hm l).1;have mn:m≠n:=λe=>by subst e;rw[es.1]at l;cases l
 refine⟨lm,?_⟩;obtain⟨k1,k3,s1,mt,rfl⟩:=et;have mq:=kh.ki.vi.mq hn n0 ln ho s1 mt;have key:∀(k:Kp) q,((mL k q).p m).mem=(k.p m).mem:=λk q=>by
  unfold mL;split
  .unfold iO;by_cases c:m=q
   .subst c;rw[bM]
   .rw[bP _ _ _ _ c]
  .rfl
 rw[key];show(k3.p m).mem=_;rcases mq.ot m hm mn with a|a
 .rw[a.1]
 .have s:=dL.1 l;rw[(KY _ _ _).1]at s;have s:(k3.p m).st=1:=s;rw[a.1]at s;exact aZ s bE
theorem KH.Gx(kh:KH N d k){m:Nat}(hm:m<20):∀j {k':Kp},Cy j k k'->lv k' m=bw->(k'.p m).mem=(k.p m).mem
 |0,_,e,_=>by rw[show _=k from e]
 |j+1,_,⟨k1,a,i,y,q,h1,h2,h3,h4,h5,h6⟩,l=>by
  have b:=(kh.sq j a).Q9 ⟨_,y,q,h1,h2,h3,h4,h5,h6⟩ hm l;exact b.2.trans (kh.Gx hm j a b.1)
theorem sy(k:Kp)(n:Nat)(m:Me)(b:Bk)(c:j≠n):(cT k n m b).p j=k.p j:=bP _ _ _ _ c
theorem CG.vv(h:CG k)(kh:KH N d k){z:Int}(hD:∀k n E k',D k n E k'->∃wr g m b b',Mv.mH (k.p n).mem k.bk a wr E g m b/\k'=cT k n m b')(e:kJ a D k z v k'):CG k':=by
 obtain⟨E,_,⟨_,rfl⟩|⟨n,_,hn,l,⟨w,e⟩|⟨w,E1,k1,⟨j,k0,en,c⟩,r⟩⟩⟩:=e
 .exact h
 .obtain⟨wr,g,m,b,b',t,rfl⟩:=hD _ _ _ _ e;refine h.same rfl (λj hj=>?_);by_cases c:j=n
  .subst c;rw[jF];refine⟨rfl,rfl,?_⟩;have:=t.res;rw[w,aI (λx=>by cases x.2)]at this;exact this
  .rw[sy _ _ _ _ c];exact⟨rfl,rfl,rfl⟩
 .have h0:=h.sq kh j en.1;rcases c with⟨l0,eg,Wy,_,ch,rfl⟩|⟨e1,rfl⟩
  .by_cases e1:E1=0
   .rcases r with⟨q,_⟩|⟨_,k2,e,r⟩
    .exact aZ e1 q
    .rw[e1]at ch;have sn:(k0.p n).st≠0:=by rw[dL.1 l0];omega
     obtain⟨i0,gi,g10,th⟩:=h0.th n hn sn;rw[<-eg,gi]at ch e;have ch:=ch.symm;rw[sj ch]at e;obtain⟨wr,g,m,b,b',t,rfl⟩:=hD _ _ _ _ e;have t:Mv.mH (k0.p n).mem k0.bk a wr E g m b:=t;have ms:=kh.Gx hn j en.1 l0;have tr:=t.res;rw[ms,w]at tr;rcases r with⟨e0,rfl⟩|⟨e0,rfl⟩
     .rw[aJ ⟨e0,rfl⟩]at tr;refine h0.one (n:=n) hn (λj _ c=>sy _ _ _ _ c) (λi _=>?_) (λ_=>⟨i0,by rw[jF];exact gi,g10,th⟩);rw[jF];have q:=lZ k0.gr i0 0 1 i;refine⟨q.1,q.2.1.trans ?_,q.2.2.trans ?_⟩
      .show _=(k0.gr i).op+cp (k0.p n) i-cp (k0.p n) i;split<;>omega
      .unfold cq;show _=(k0.gr i).oq+(if(k0.p n).st≠0/\(k0.p n).cA=(i:Int)then(Mv.cM m 16:Int)else 0)-_;rw[ms];by_cases c:i=i0
       .subst c;rw[aJ rfl,aJ ⟨sn,gi⟩,aJ ⟨sn,gi⟩];omega
       .rw[aI c,aI (λx=>c (by have:=x.2;omega)),aI (λx=>c (by have:=x.2;omega))];omega
     .rw[aI (λx=>e0 x.1)]at tr;refine h0.iZ (λi _=>?_) (λj _=>?_)
      .show(Gr.dn (Gr.dV k0.gr i0 0 1) ((cT _ n m b').p n).cA 0 1 i).there=_/\(Gr.dn (Gr.dV k0.gr i0 0 1) ((cT _ n m b').p n).cA 0 1 i).op=_/\(Gr.dn (Gr.dV k0.gr i0 0 1) ((cT _ n m b').p n).cA 0 1 i).oq=_;rw[jF];show(Gr.dn (Gr.dV k0.gr i0 0 1) (k0.p n).cA 0 1 i).there=_/\(Gr.dn (Gr.dV k0.gr i0 0 1) (k0.p n).cA 0 1 i).op=_/\(Gr.dn (Gr.dV k0.gr i0 0 1) (k0.p n).cA 0 1 i).oq=_;rw[gi];exact h0.back g10 th bB bB i
      .show((((cT _ n m b').p j).st=0↔_)/\((cT _ n m b').p j).cA=_/\Mv.cM ((cT _ n m b').p j).mem 16=_);by_cases c:j=n
       .subst c;rw[jF];exact⟨Iff.rfl,rfl,by rw[ms];exact tr⟩
       .rw[sy _ _ _ _ c];exact⟨Iff.rfl,rfl,rfl⟩
   .rcases r with⟨_,_,rfl⟩|⟨q,_⟩
    .have:Gr.eR k0.gr Wy (k.p n).cA 0 1=k0.gr:=by unfold Gr.eR;rw[aI (by rw[<-ch];exact e1)]
     rw[this];exact h0
    .exact aZ q e1
  .rcases r with⟨_,_,rfl⟩|⟨q,_⟩
   .exact h0
   .omega
theorem CG.join(h:CG k){z:Int}(e:w9 k z g v k'):CG k':=by
 obtain⟨_,_,rfl|⟨n,Wy,m,_,hn,l,w,me,_,rfl⟩⟩:=e
 .exact h
 .have sn:(k.p n).st≠0:=by rw[dL.1 l];omega
  obtain⟨i0,gi,g10,th,u0,ut⟩:=h.sN hn sn (p:=1) (q:=(Mv.cM (k.p n).mem 16:Int)) bB bB;have mt:Gr.jZ k.gr Wy (k.p n).cA g 1 (Mv.cM (k.p n).mem 16:Int)=Gr.eR (Gr.dn k.gr (k.p n).cA 1 (Mv.cM (k.p n).mem 16:Int)) Wy g 1 (Mv.cM (k.p n).mem 16:Int):=by unfold Gr.jZ;rw[aJ me]
  unfold Gr.np at me;by_cases wg:Gr.wr k.gr g=0
  .rw[aJ wg,aJ u0]at me;obtain⟨j0,rfl,j10,tj⟩:=Gr.nQ wg;rw[sj me,ut]at mt;have pn:(xB k n (j0:Int) (Gr.jZ k.gr Wy (k.p n).cA (j0:Int) 1 (Mv.cM (k.p n).mem 16:Int)) m).p n={k.p n with cA:=(j0:Int)}:=bM _ _ _;refine h.one (n:=n) hn (λj _ c=>bP _ _ _ _ c) (λi _=>?_) (λ_=>⟨j0,by rw[pn],j10,tj⟩);rw[pn];show(Gr.jZ k.gr Wy (k.p n).cA (j0:Int) 1 (Mv.cM (k.p n).mem 16:Int) i).there=_/\(Gr.jZ k.gr Wy (k.p n).cA (j0:Int) 1 (Mv.cM (k.p n).mem 16:Int) i).op=_/\(Gr.jZ k.gr Wy (k.p n).cA (j0:Int) 1 (Mv.cM (k.p n).mem 16:Int) i).oq=_;rw[mt];have a:=lZ k.gr i0 (-1) (-(Mv.cM (k.p n).mem 16:Int)) i;have b:=lZ (Gr.dV k.gr i0 (-1) (-(Mv.cM (k.p n).mem 16:Int))) j0 1 (Mv.cM (k.p n).mem 16:Int) i;have e1:(k.p n).cA=(i:Int)↔i=i0:=by rw[gi];omega
   have e2:(j0:Int)=(i:Int)↔i=j0:=bB
   refine⟨b.1.trans a.1,b.2.1.trans ?_,b.2.2.trans ?_⟩
   .rw[a.2.1];unfold cp;show _=(k.gr i).op+(if(k.p n).st≠0/\(j0:Int)=(i:Int)then 1 else 0)-(if(k.p n).st≠0/\(k.p n).cA=(i:Int)then 1 else 0);simp only[e1,e2,sn,ne_eq,not_false_eq_true,true_and];split<;>split<;>omega
   .rw[a.2.2];unfold cq;show _=(k.gr i).oq+(if(k.p n).st≠0/\(j0:Int)=(i:Int)then(Mv.cM (k.p n).mem 16:Int)else 0)-(if(k.p n).st≠0/\(k.p n).cA=(i:Int)then(Mv.cM (k.p n).mem 16:Int)else 0);simp only[e1,e2,sn,ne_eq,not_false_eq_true,true_and];split<;>split<;>omega
  .rw[aI wg]at me;exact aZ me wg
theorem CG.sh(h:CG k){li:Bool}(e:lK li N k k'):CG k':=by
 obtain⟨t,m,g,_,_,rfl⟩:=e;have zero:∀i:Nat,i<10->(∀m,m<20->(k.p m).st≠0->(k.p m).cA≠(i:Int))->sm (λm=>cp (k.p m) i) 20=0/\sm (λm=>cq (k.p m) i) 20=0:=λi _ hz=>by
  have z:∀M,M<=20->sm (λm=>cp (k.p m) i) M=0/\sm (λm=>cq (k.p m) i) M=0:=λM=>by
   induction M with
   |zero=>intro _;exact⟨rfl,rfl⟩
   |succ M ih=>
    intro hM;have c1:cp (k.p M) i=0:=aI (λx=>hz M bB x.1 x.2);have c2:cq (k.p M) i=0:=aI (λx=>hz M bB x.1 x.2);exact⟨by show sm _ M+cp (k.p M) i=0;rw[(ih bB).1,c1];rfl,by show sm _ M+cq (k.p M) i=0;rw[(ih bB).2,c2];rfl⟩
  exact z 20 (aL _)
 have put:∀(j:Nat) (x:Gr.Gp),j<10->x.op=0->x.oq=0->(∀m,m<20->(k.p m).st≠0->(k.p m).cA≠(j:Int))->CG {k with gr:=Gr.eS k.gr j x,sc:=m}:=λj x j10 x1 x2 hz=>by
  have zz:=zero j j10 hz;refine⟨λi hi=>?_,λi hi=>?_,λm hm s=>?_⟩
  .show(Gr.eS k.gr j x i).op=_;by_cases c:i=j
   .subst c;rw[Gr.dk,x1];exact zz.1.symm
   .rw[Gr.dw _ _ _ _ c];exact h.op i hi
  .show(Gr.eS k.gr j x i).oq=_;by_cases c:i=j
   .subst c;rw[Gr.dk,x2];exact zz.2.symm
   .rw[Gr.dw _ _ _ _ c];exact h.oq i hi
  .obtain⟨i,a,b,e⟩:=h.th m hm s;refine⟨i,a,b,?_⟩;show(Gr.eS k.gr j x i).there=bw;rw[Gr.dw _ _ _ _ (λc=>hz m hm s (by rw[a,c]))];exact e
 rcases g with rfl|⟨j,p,j10,nt,rfl⟩|⟨Wy,j,j10,_,ww,t1,t2,rfl⟩|⟨_,j,a,b,rfl⟩
 .exact h.same rfl (λ_ _=>⟨rfl,rfl,rfl⟩)
 .refine put j _ j10 rfl rfl (λm hm s e=>?_);obtain⟨i,a,b,e2⟩:=h.th m hm s;obtain rfl:i=j:=bB
  rw[nt]at e2;cases e2
 .refine put j _ j10 rfl rfl (λm hm s e=>?_);obtain⟨i,a,b,e2⟩:=h.th m hm s;obtain rfl:i=j:=bB
  have nn:∀j,j<10->0<=(k.gr j).op:=λj hj=>by rw[h.op j hj];exact(tJ (λm=>Cp (k.p m) j) (n:=0) 20).1
  have z0:=Gr.tM (sel:=Gr.Gp.op) nn (aL _) t1 i j10 (Gr.ER ww j10 e2);have:=(tJ (λm=>Cp (k.p m) i) (n:=m) 20).2 hm;rw[<-h.op i j10,show cp (k.p m) i=1 from aJ ⟨s,e⟩,z0]at this;omega
 .refine h.iZ (λi _=>?_) (λ_ _=>⟨Iff.rfl,rfl,rfl⟩);show(Gr.eS k.gr j _ i).there=_/\(Gr.eS k.gr j _ i).op=_/\(Gr.eS k.gr j _ i).oq=_;by_cases c:i=j
  .subst c;rw[Gr.dk];exact⟨rfl,rfl,rfl⟩
  .rw[Gr.dw _ _ _ _ c];exact⟨rfl,rfl,rfl⟩
theorem CG.ac(h:CG k)(kh:KH N d k)(e:nR N k x a E k'\/NK x/\pN k x k'):CG k':=by
 rcases e with e|⟨_,e⟩
 .rcases e with⟨_,p,_,e⟩|⟨_,⟨m,_,hm,l,_,rfl⟩|⟨_,rfl⟩⟩|⟨_,_,_,e,_⟩|⟨_,e⟩|⟨_,e⟩|⟨_,_,_,rfl⟩|⟨_,e⟩
  .exact h.fork kh e
  .exact h.ES hm (by rw[dL.1 l];omega) _ _
  .exact h
  .exact h.vv kh (λk n E k' ⟨g,m,b,t,e⟩=>⟨_,g,m,b,_,t,e⟩) e
  .exact h.vv kh (λk n E k' ⟨g,m,b,t,e⟩=>⟨_,g,m,b,_,t,e⟩) e
  .exact h.sh e
  .exact h.same rfl (λ_ _=>⟨rfl,rfl,rfl⟩)
  .rcases e.cl kh with e|⟨m,e,_⟩|⟨m,_,e⟩|⟨m,y,_,_,ef,rfl⟩|e|⟨_,e⟩|⟨_,_,rfl⟩
   .exact h.sc e
   .exact h.end kh e
   .exact h.MH kh e
   .refine h.same rfl (λj _=>?_);by_cases c:j=m
    .subst c;rw[jF];exact⟨rfl,rfl,Mv.AF 16 (λx _=>by rw[ef])⟩
    .rw[sy _ _ _ _ c];exact⟨rfl,rfl,rfl⟩
   .exact h.sh e
   .exact h.join e
   .exact h.same rfl (λ_ _=>⟨rfl,rfl,rfl⟩)
 .rcases e.cl kh with e|⟨m,k1,_,s,kh1,_,e⟩
  .exact h.sc e
  .exact(h.sc s).end kh1 e
end
end Kn
namespace Kn
section
variable {N n:Nat}{d:Nat->Nat}{k k' k1:Kp}{x:fk}
theorem OS(k:Kp)(n:Nat)(m:Me)(b:Bk)(j:Nat):((cT k n m b).p j).mem=Mv.j6 (λn=>(k.p n).mem) n m j/\((cT k n m b).p j).st=(k.p j).st:=by
 by_cases c:j=n
 .subst c;rw[jF,Mv.fZ];exact⟨rfl,rfl⟩
 .rw[sy _ _ _ _ c,Mv.iW _ _ _ _ c];exact⟨rfl,rfl⟩
end
end Kn
namespace Kn
section
variable {N:Nat}{d:Nat->Nat}{k:Kp}{n z:Nat}
theorem ug(hn:n<20)(l:lv k n=bw):cD k (n:Int)=0:=by
 unfold cD;rw[nJ,hZ,l];rfl
theorem OI{i:Nat}(hi:i<(dY k 20).length):(dY k 20).getD i 0<20/\lv k ((dY k 20).getD i 0)=bw:=by
 have h:(dY k 20).getD i 0∈dY k 20:=by
  rw[aF,aW hi];exact List.getElem_mem hi
 generalize (dY k 20).getD i 0=n at*;unfold dY at h;simpa using h
end
end Kn
namespace Kn
section
variable {N n:Nat}{d:Nat->Nat}{k k' k1:Kp}{x:fk}
theorem US{l m:List UInt8}(h:kd x l)(n:(l==m)=bA):(x.kind.toList==m)=bA:=by rw[eq_of_beq h];exact n
end
end Kn
namespace Gr
def dK(t t':Nat->Gp):Prop:=gt t t'/\∀g,(t' g).op<=(t g).op/\(t' g).oq<=(t g).oq
section
variable {t t' u:Nat->Gp}{Wy Wy':Nat->List (Fin 10)}{c n:Nat}{G:Nat->Nat->Int}
theorem dK.refl(t:Nat->Gp):dK t t:=⟨gt.refl _,λ_=>⟨Int.le_refl _,Int.le_refl _⟩⟩
theorem dK.trans(h:dK t t')(k:dK t' u):dK t u:=⟨h.1.trans k.1,λg=>⟨Int.le_trans (k.2 g).1 (h.2 g).1,Int.le_trans (k.2 g).2 (h.2 g).2⟩⟩
theorem dK.sN(t:Nat->Gp)(n p q:Int)(hp:0<=p)(hq:0<=q):dK t (dn t n p q):=by
 refine⟨gt.sN _ _ _ _,λg=>?_⟩;unfold dn;split
 .have:=Kn.lZ t n.toNat (-p) (-q) g;rw[this.2.1,this.2.2];split<;>omega
 .exact⟨Int.le_refl _,Int.le_refl _⟩
theorem dK.ways(h:dK t t')(w:dC t Wy):dC t' Wy:=w.same λk=>⟨(h.1 k).1,(h.1 k).2.1⟩
theorem vt{f:Gp->Int}(h:∀k,f (t' k)<=f (t k))(m:Int):∀M,cr t' Wy m f M<=cr t Wy m f M
 |0=>Int.le_refl _
 |M+1=>by
  show cr t' Wy m f M+_<=cr t Wy m f M+_;have:=vt h m M;have:=h M;split<;>omega
theorem dK.lW(h:dK t t')(m:Int):cr t' Wy m Gp.op 10<=cr t Wy m Gp.op 10/\cr t' Wy m Gp.oq 10<=cr t Wy m Gp.oq 10:=⟨vt (λk=>(h.2 k).1) m 10,vt (λk=>(h.2 k).2) m 10⟩
theorem GH(h:dK t t')(f:Fit u Wy' (gU t' Wy)):Fit u Wy' (gU t Wy):=λk hk hh=>by
 have a:=f k hk hh;have q:=h.lW (Wy:=Wy) k;have e:gU t' Wy k 3<=gU t Wy k 3/\gU t' Wy k 4<=gU t Wy k 4:=by
  unfold gU;rw[(h.1 k).1];split
  .exact q
  .exact⟨Int.le_refl _,Int.le_refl _⟩
 exact⟨λc=>a.1 ⟨c.1,c.2.1,bB⟩,λc=>a.2 ⟨c.1,c.2.1,bB⟩⟩
theorem Dn(f:Fit t Wy G)(h:dK t t'):Fit t' Wy G:=λk hk hh=>by
 have q:=h.lW (Wy:=Wy) k;have e:=h.1 k;rw[e.1]at hh;have a:=f k hk hh;rw[e.2.2.1,e.2.2.2];exact⟨λc=>a.1 ⟨c.1,bB,bB⟩,λc=>a.2 ⟨c.1,bB,bB⟩⟩
theorem dK.fit(h:dK t t'):Fit t' Wy (gU t Wy):=Dn Dp h
theorem dC.eq(h:dC t Wy)(k:dC t Wy')(hj:j<10):Wy' j=Wy j:=oQ (Way.unique (k j hj) (h j hj))
theorem dC.MP(h:dC t Wy)(k:dC t Wy')(j i:Nat):gU t Wy' j i=gU t Wy j i:=by
 have q:∀(f:Gp->Int) (m:Int),cr t Wy' m f 10=cr t Wy m f 10:=λf m=>pg λj hj=>by unfold gO;rw[h.eq k hj]
 unfold gU;simp only[q]
theorem GI(h:dC t Wy)(k:dC t Wy')(f:Fit u Wy' (gU t Wy')):Fit u Wy' (gU t Wy):=λj hj hh=>by
 have:=f j hj hh;rwa [h.MP k,h.MP k]at this
theorem Ri{p q:Int}(e:gx t Wy g p q=0):Fit (eR t Wy g p q) Wy (gU t Wy):=by
 have re:eF t g p q=0:=by
  unfold gx at e;split at e
  .assumption
  .exact e
 obtain⟨n,rfl,hn,_,hp,hq⟩:=jS re;have la:oY t Wy n p q=bA:=by
  unfold gx at e;rw[aJ re,hZ]at e;cases l:oY t Wy n p q
  .rfl
  .rw[l,aJ rfl]at e;cases e
 unfold eR;rw[aJ e,hZ];exact Iy hn bB bB la
theorem Hr(h:Tree t Wy c)(nt:(t n).there=bA)(g0:Gp):∀{L:List Nat} {g:Int},Way t g L->valid t g\/g= -1->Way (eS t n g0) g L
 |[],_,a,v=>by
  rcases v with v|rfl
  .exact aZ v a
  .exact λq=>by have:=q.1;omega
 |x::_,_,⟨e,x10,xt,a⟩,_=>by
  have xn:x≠n:=λc=>by rw[c,nt]at xt;cases xt
  have ex:eS t n g0 x=t x:=dw _ _ _ _ xn;refine⟨e,x10,by rw[ex];exact xt,?_⟩;rw[ex];refine Hr h nt g0 a ?_;by_cases x0:x=0
  .rw[x0];exact .inr h.root.2
  .obtain⟨m,e,m10,mt⟩:=h.par x x10 xt x0;exact .inl (by rw[e];exact⟨by omega,bB,mt⟩)
theorem Hs:∀{L:List Nat} {g:Int},Way t g L->n∉L->Way (eS t n jM) g L
 |[],g,a,_=>λq=>by
  refine a ⟨q.1,q.2.1,?_⟩;have:=q.2.2;by_cases e:g.toNat=n
  .rw[e,dk]at this;cases this
  .rwa [dw _ _ _ _ e]at this
 |x::_,_,⟨e,x10,xt,a⟩,nm=>by
  have xn:x≠n:=λc=>nm (by rw[c];exact List.mem_cons_self);have ex:eS t n jM x=t x:=dw _ _ _ _ xn;exact⟨e,x10,by rw[ex];exact xt,by rw[ex];exact Hs a (λc=>nm (List.mem_cons_of_mem _ c))⟩
theorem Rj(h:Tree t Wy c)(g:JN bA t t')(w:dC t' Wy'):Fit t' Wy' (gU t Wy):=by
 rcases g with rfl|⟨n,p,hn,nt,rfl⟩|⟨W,n,hn,n0,ww,t1,t2,rfl⟩|⟨q,_⟩
 .exact GI h.ways w Dp
 .have ew:∀j,j<10->j≠n->Wy' j=Wy j:=λj hj jn=>by
   refine oQ (Way.unique (w j hj) ?_);cases tj:(t j).there
   .have e:gq (Wy j)=[]:=Way.unique (h.ways j hj) (λq=>by have:=q.2.2;rw[hZ,tj]at this;cases this);rw[e];exact λq=>by have:=q.2.2;rw[hZ,dw _ _ _ _ jn,tj]at this;cases this
   .exact Hr h nt _ (h.ways j hj) (.inl ⟨by omega,bB,by rw[hZ];exact tj⟩)
  have tt:∀(f:Gp->Int) (m:Int),f (mi p)=0->(t n).there=bA->cr (eS t n (mi p)) Wy' m f 10=cr t Wy m f 10:=λf m f0 _=>pg λj hj=>by
   by_cases e:j=n
   .subst e;rw[dk,f0];have e:Wy j=[]:=oQ (Way.unique (h.ways j hj) (λq=>by have:=q.2.2;rw[hZ,nt]at this;cases this));have u:gO Wy j m=bA:=by rw[Bool.eq_false_iff,Ne,ql,e];simp
    rw[u];simp
   .rw[dw _ _ _ _ e];unfold gO;rw[ew j hj e]
  refine yO λk hk hh=>?_;by_cases e:k=n
  .subst e;rw[dk];exact .inl ⟨rfl,rfl⟩
  .rw[dw _ _ _ _ e]at hh;exact .inr ⟨hh, .inl (by rw[tt _ _ rfl nt];exact Int.le_refl _), .inl (by rw[tt _ _ rfl nt];exact Int.le_refl _)⟩
 .have we:∀j,j<10->W j=Wy j:=λj hj=>h.ways.eq ww hj;have key:∀(f:Gp->Int),f jM=0->(∀j,j<10->0<=f (t j))->cr t W n f 10=0->∀m:Int,cr (eS t n jM) Wy' m f 10=cr t Wy m f 10:=λf f0 nn tz m=>pg λj hj=>by
   by_cases u:gO W j n=bw
   .have fj:=tM nn (aL _) tz j hj u;have fj':f (eS t n jM j)=0:=by
     by_cases e:j=n
     .rw[e,dk];exact f0
     .rw[dw _ _ _ _ e];exact fj
    rw[fj,fj'];simp
   .by_cases e:j=n
    .subst e;have tj:(t j).there=bA:=by
      cases q:(t j).there
      .rfl
      .exact aZ (ER ww hj q) u
     have e:Wy j=[]:=oQ (Way.unique (h.ways j hj) (λq=>by have:=q.2.2;rw[hZ,tj]at this;cases this));have u2:gO Wy j m=bA:=by rw[Bool.eq_false_iff,Ne,ql,e];simp
     rw[dk,f0,u2];simp
    .have nm:n∉gq (Wy j):=λc=>by
      obtain⟨y,hy,ey⟩:=List.mem_map.1 c;exact u (ql.2 ⟨y,by rw[we j hj];exact hy,by rw[ey]⟩)
     have ej:Wy' j=Wy j:=oQ (Way.unique (w j hj) (Hs (h.ways j hj) nm));rw[dw _ _ _ _ e];unfold gO;rw[ej]
  refine yO λk hk hh=>?_;by_cases e:k=n
  .subst e;rw[dk]at hh;cases hh
  .rw[dw _ _ _ _ e]at hh;exact .inr ⟨hh, .inl (by rw[key Gp.op rfl (λj hj=>(h.own j hj).1.1) t1];exact Int.le_refl _), .inl (by rw[key Gp.oq rfl (λj hj=>(h.own j hj).2.1) t2];exact Int.le_refl _)⟩
 .cases q
end
end Gr
namespace Kn
section
variable {N n y q z:Nat}{d:Nat->Nat}{X:Nat->Prop}{k k' k1 k2:Kp}{x:fk}{Wy:Nat->List (Fin 10)}
theorem fP.dK(h:fP k n k'):Gr.dK k.gr k'.gr:=by
 obtain⟨m',_,rfl⟩:=h;show Gr.dK k.gr (dU (dv k n 0 16) n (k.p n).fd 6).gr;rw[wA];unfold dv;split
 .exact Gr.dK.sN _ _ _ _ (Int.le_refl _) bB
 .exact Gr.dK.refl _
theorem xA{R:Kp->Nat->Kp->Prop}(hR:∀k n k',R k n k'->Gr.dK k.gr k'.gr)(z:Int):∀(j:Nat) (k k':Kp),jJ R z j k k'->Gr.dK k.gr k'.gr
 |0,k,k',e=>by rw[e.1];exact Gr.dK.refl _
 |j+1,_,_,⟨_,k1,_,r,it⟩=>(hR _ _ _ r).trans (xA hR z j k1 _ it)
theorem AY:∀f (k:Kp) (n:Nat) (k':Kp),iK f k n k'->Gr.dK k.gr k'.gr
 |0,_,_,_,e=>e.elim
 |f+1,k,n,k',⟨k1,a,b,c⟩=>by
  have q1:Gr.dK k.gr k1.gr:=by
   cases l:lv k n
   .rw[b l];exact Gr.dK.refl _
   .exact(a l).dK
  rcases c with⟨_,rfl⟩|⟨_,k2,j,it,rfl⟩
  .exact q1.trans (Gr.dK.sN _ _ _ _ bE bE)
  .exact q1.trans ((xA (AY f) _ j k1 k2 it).trans (Gr.dK.sN _ _ _ _ bE bE))
theorem yn.dK(e:yn k n k'):Gr.dK k.gr k'.gr:=by
 obtain⟨c,z,q,_,_,_,_,_,k1,k3,s1,mt,rfl⟩:=e;have q3:Gr.dK k1.gr k3.gr:=by
  rcases mt with⟨_,rfl⟩|⟨_,j,it⟩
  .exact Gr.dK.refl _
  .exact xA (AY 6) _ j (eA k1 n c) k3 it
 refine(s1.dK.trans q3).trans ?_;unfold mL;split<;>exact Gr.dK.refl _
theorem JT.dK(e:JT k n k'):Gr.dK k.gr k'.gr:=by
 obtain⟨m,_,_,_,_,v⟩:=e;exact AY 6 _ _ _ v
theorem Gw:∀j {k':Kp},Cy j k k'->Gr.dK k.gr k'.gr
 |0,_,e=>by rw[show _=k from e];exact Gr.dK.refl _
 |j+1,_,⟨_,a,m,y,q,h1,h2,h3,h4,h5,h6⟩=>(Gw j a).trans (yn.dK ⟨_,y,q,h1,h2,h3,h4,h5,h6⟩)
def LF(k:Kp)(Wy:Nat->List (Fin 10))(k':Kp):Prop:=∃Wy',Gr.dC k'.gr Wy'/\Gr.Fit k'.gr Wy' (Gr.gU k.gr Wy)
theorem LF.dK(w:Gr.dC k.gr Wy)(h:Gr.dK k.gr k'.gr):LF k Wy k':=⟨Wy,h.ways w,h.fit⟩
theorem LF.Db(w:Gr.dC k.gr Wy){W2:Nat->List (Fin 10)}{g p q:Int}(w2:Gr.dC k.gr W2)(e:Gr.gx k.gr W2 g p q=0)(eg:k'.gr=Gr.eR k.gr W2 g p q):LF k Wy k':=by
 refine⟨W2,?_,?_⟩
 .rw[eg];exact w2.same λj=>⟨(Gr.gt.Db _ _ _ _ _ j).1,(Gr.gt.Db _ _ _ _ _ j).2.1⟩
 .rw[eg];exact Gr.GI w w2 (Gr.Ri e)
theorem LF.vv(w:Gr.dC k.gr Wy){z:Int}(hD:∀k n E k',D k n E k'->∃m b,k'=cT k n m b)(e:kJ a D k z v k'):LF k Wy k':=by
 obtain⟨E,_,⟨_,rfl⟩|⟨n,_,hn,l,⟨w,e⟩|⟨w',E1,k1,⟨j,k0,en,c⟩,r⟩⟩⟩:=e
 .exact .dK w (Gr.dK.refl _)
 .obtain⟨m,b,rfl⟩:=hD _ _ _ _ e;exact .dK ‹Gr.dC k.gr Wy› (Gr.dK.refl _)
 .have g0:=Gw j en.1;rcases c with⟨l0,eg,W2,w2,ch,rfl⟩|⟨e1,rfl⟩
  .by_cases e1:E1=0
   .rcases r with⟨q,_⟩|⟨_,k2,e,r⟩
    .exact aZ e1 q
    .obtain⟨m,b,rfl⟩:=hD _ _ _ _ e;rw[e1]at ch;obtain⟨W3,a3,b3⟩:=LF.Db (k':=cT {k0 with gr:=Gr.eR k0.gr W2 (k.p n).cA 0 1} n m b) (g0.ways w) w2 ch.symm rfl;have f3:=Gr.GH g0 b3;rcases r with⟨_,rfl⟩|⟨_,rfl⟩
     .exact⟨W3,a3,f3⟩
     .have u:=Gr.dK.sN (cT {k0 with gr:=Gr.eR k0.gr W2 (k.p n).cA 0 1} n m b).gr ((cT {k0 with gr:=Gr.eR k0.gr W2 (k.p n).cA 0 1} n m b).p n).cA 0 1 bE bE;exact⟨W3,u.ways a3,Gr.Dn f3 u⟩
   .rcases r with⟨_,_,rfl⟩|⟨q,_⟩
    .have:Gr.eR k0.gr W2 (k.p n).cA 0 1=k0.gr:=by unfold Gr.eR;rw[aI (by rw[<-ch];exact e1)]
     rw[this];exact .dK w g0
    .exact aZ q e1
  .rcases r with⟨_,_,rfl⟩|⟨q,_⟩
   .exact .dK w g0
   .omega
theorem LF.fork(cg:CG k)(kh:KH N d k)(w:Gr.dC k.gr Wy){z:Int}{p:Nat}(f:pX k z own p E k'):LF k Wy k':=by
 rcases f.cl kh with⟨_,rfl|⟨W2,n,_,ch,rfl⟩⟩|⟨_,n,c,W2,_,f,w2,ch,g,_,_,_⟩
 .exact .dK w (Gr.dK.refl _)
 .unfold pQ at ch;have re:Gr.eF k.gr (k.p n).cA 1 (Mv.cM (k.p n).mem 16:Int)=0:=by
   unfold Gr.gx at ch;split at ch
   .assumption
   .exact ch
  obtain⟨g,eg,g10,th,_⟩:=Gr.jS re;refine .dK w ⟨(Gr.gt.Db _ _ _ _ _).trans (Gr.gt.sN _ _ _ _),λi=>?_⟩;show(Gr.dn (Gr.eR k.gr W2 (k.p n).cA 1 (Mv.cM (k.p n).mem 16:Int)) (k.p n).cA 1 (Mv.cM (k.p n).mem 16:Int) i).op<=_/\(Gr.dn (Gr.eR k.gr W2 (k.p n).cA 1 (Mv.cM (k.p n).mem 16:Int)) (k.p n).cA 1 (Mv.cM (k.p n).mem 16:Int) i).oq<=_;rw[eg]at ch|-;rw[sj ch];have b:=cg.back g10 th (p:=1) (q:=(Mv.cM (k.p n).mem 16:Int)) bB (by have:=YtpmmdkcfenjiaaaGreatDoor.mr (k.p n).mem 16;omega) i;rw[b.2.1,b.2.2];exact⟨Int.le_refl _,Int.le_refl _⟩
 .exact .Db w w2 ch g
theorem LF.join(w:Gr.dC k.gr Wy){z:Int}(e:w9 k z g v k'):LF k Wy k':=by
 obtain⟨_,_,rfl|⟨n,W2,m,_,hn,l,w2,me,_,rfl⟩⟩:=e
 .exact .dK w (Gr.dK.refl _)
 .have mt:Gr.jZ k.gr W2 (k.p n).cA g 1 (Mv.cM (k.p n).mem 16:Int)=Gr.eR (Gr.dn k.gr (k.p n).cA 1 (Mv.cM (k.p n).mem 16:Int)) W2 g 1 (Mv.cM (k.p n).mem 16:Int):=by unfold Gr.jZ;rw[aJ me]
  have u:=Gr.dK.sN k.gr (k.p n).cA 1 (Mv.cM (k.p n).mem 16:Int) bE bB;have ch:Gr.gx (Gr.dn k.gr (k.p n).cA 1 (Mv.cM (k.p n).mem 16:Int)) W2 g 1 (Mv.cM (k.p n).mem 16:Int)=0:=by
   unfold Gr.np at me;split at me
   .split at me
    .exact me
    .rename_i c;exact aZ me c
   .rename_i c;exact aZ me c
  obtain⟨W3,a3,b3⟩:=LF.Db (k:={k with gr:=Gr.dn k.gr (k.p n).cA 1 (Mv.cM (k.p n).mem 16:Int)}) (k':=xB k n g (Gr.jZ k.gr W2 (k.p n).cA g 1 (Mv.cM (k.p n).mem 16:Int)) m) (u.ways w) (u.ways w2) ch mt;exact⟨W3,a3,Gr.GH u b3⟩
theorem LF.sh{M:Nat}(t:Gr.Tree k.gr Wy c)(e:lK bA M k k'):LF k Wy k':=by
 obtain⟨t',m,g,⟨W2,tr⟩,_,rfl⟩:=e;exact⟨W2,tr.ways,Gr.Rj t g tr.ways⟩
theorem LF.ac(cg:CG k)(kh:KH N d k)(t:Gr.Tree k.gr Wy c)(li:¬kd x [108,105,109,105,116])(e:nR N k x a E k'\/NK x/\pN k x k'):LF k Wy k':=by
 have w:=t.ways;rcases e with e|⟨_,e⟩
 .rcases e with⟨_,p,_,e⟩|⟨_,⟨n,_,_,_,_,rfl⟩|⟨_,rfl⟩⟩|⟨_,_,_,e,_⟩|⟨_,e⟩|⟨t,_⟩|⟨_,_,_,rfl⟩|⟨_,e⟩
  .exact .fork cg kh w e
  .refine .dK w ?_;unfold dv;split
   .exact Gr.dK.sN _ _ _ _ bE bB
   .exact Gr.dK.refl _
  .exact .dK w (Gr.dK.refl _)
  .exact .vv w (λk n E k' ⟨_,m,b,_,e⟩=>⟨m,b,e⟩) e
  .exact .vv w (λk n E k' ⟨_,m,b,_,e⟩=>⟨m,_,e⟩) e
  .exact aZ t li
  .exact .dK w (Gr.dK.refl _)
  .rcases e.cl kh with e|⟨_,e,_⟩|⟨_,_,e⟩|⟨n,m,_,_,_,rfl⟩|e|⟨_,e⟩|⟨_,_,rfl⟩
   .exact .dK w (by rw[e.gr];exact Gr.dK.refl _)
   .exact .dK w e.dK
   .exact .dK w e.dK
   .exact .dK w (Gr.dK.refl _)
   .exact .sh t e
   .exact .join w e
   .exact .dK w (Gr.dK.refl _)
 .rcases e.cl kh with e|⟨n,k1,_,s,_,_,e⟩
  .exact .dK w (by rw[e.gr];exact Gr.dK.refl _)
  .exact .dK w (by have:=e.dK;rwa [s.gr]at this)
end
end Kn
namespace Kn
def SD(k:Kp):Prop:=∀n,n<20->k.sc.here (10+n)=bw->(k.p n).has=bw
section
variable {N n y q z:Nat}{d:Nat->Nat}{X:Nat->Prop}{k k' k1 k2:Kp}{x:fk}
theorem SD.iZ(h:SD k)(s:∀n,n<20->k'.sc.here (10+n)=bw->k.sc.here (10+n)=bw)(p:∀n,n<20->(k'.p n).has=(k.p n).has):SD k':=λn hn e=>by rw[p n hn];exact h n hn (s n hn e)
theorem Kh(m:Wf.M){n:Nat}(hn:n<20)(j:Nat):(Wf.ti m (n:Int)).here (10+j)=bw->m.here (10+j)=bw/\j≠n:=by
 unfold Wf.ti;by_cases c:Wf.kC m (n:Int)=0
 .rw[aJ c,hZ];show Wf.fb m.here (10+n) bA (10+j)=bw->_;unfold Wf.fb;split
  .intro e;cases e
  .exact λe=>⟨e,bB⟩
 .rw[aI c];intro e;refine⟨e,λq=>?_⟩;subst q;apply c;unfold Wf.kC;rw[nJ,hZ,e];rfl
theorem SD.str(h:SD k)(hn:n<20)(s:fP k n k'):SD k':=by
 have sp:=s.p;obtain⟨m',e,rfl⟩:=s;intro j hj t;have t:m'.here (10+j)=bw:=t;rw[show m'=Wf.ti k.sc n from e]at t;obtain⟨a,b⟩:=Kh k.sc hn j t;rw[((sp j).2.2.2.2 b).1];exact h j hj a
theorem SD.fin(h:SD k)(hh:(k.p n).has=bA):SD (eH k n):=λj hj e=>by
 have e:k.sc.here (10+j)=bw:=e;have jn:j≠n:=λc=>by have:=h j hj e;rw[c,hh]at this;cases this
 rw[show(eH k n).p j=k.p j from bP _ _ _ _ jn];exact h j hj e
theorem SD.first(h:SD k)(hn:n<20)(h1:lv k n=bw->fP k n k1)(h2:lv k n=bA->k1=k):SD k1:=by
 cases l:lv k n
 .rw[h2 l];exact h
 .exact h.str hn (h1 l)
theorem An{R:Kp->Nat->Kp->Prop}(hR:yA N d R)(hC:∀(X:Nat->Prop) (k:Kp) (n:Nat) (k':Kp) (z:Nat),VI X N d k->n<20->n≠0->¬X n->k.sp.of n=z+1->(hd k n=n->∀m,m<20->X m->¬Sp.mem k.sp z m)->R k n k'->SD k->SD k'):∀(j:Nat) (k:Kp),EI X N d n z k->jJ R (z:Int) j k k'->SD k->SD k'
 |0,k,_,r,h=>by rw[r.1];exact h
 |j+1,k,e,⟨m,k1,hm,r1,r2⟩,h=>by
  obtain⟨m20,m0,mn,mx,mz,y,hy,hx⟩:=e.next hm;exact An hR hC j k1 (e.step hm hR r1).1 r2 (hC X k m k1 y e.vi m20 m0 mx hy hx r1 h)
theorem EY:∀f (X:Nat->Prop) (k:Kp) (n:Nat) (k':Kp) (z:Nat),VI X N d k->n<20->n≠0->¬X n->k.sp.of n=z+1->(hd k n=n->∀m,m<20->X m->¬Sp.mem k.sp z m)->iK f k n k'->SD k->SD k'
 |0=>λ_ _ _ _ _ _ _ _ _ _ _ r=>r.elim
 |f+1=>λX k n k' z h hn n0 hX ho hx r c=>by
  obtain⟨k1,h1,h2,r⟩:=r;have c1:=c.first hn h1 h2;obtain⟨a,sp,tb,hh,s0,fW⟩:=h.first hn hX ho h1 h2;rcases r with⟨_,rfl⟩|⟨q,k2,j,ri,rfl⟩
  .exact c1.fin hh
  .have zi:Sp.dX k.sp (n:Int)=z:=Sp.iB hn ho;rw[zi]at ri|-;have ei:EI (λm=>X m\/m=n) N d n z k1:=⟨a,hn,n0, .inr rfl,by rw[sp];exact ho,by rw[sp];exact(iG h.iv h.hs hn ho).1 q,λm m20 xm mn mz=>by
    rw[sp]at mz;exact hx q m m20 (xm.elim id (λq=>aZ q mn)) mz⟩
   obtain⟨_,_,e,_⟩:=EI.iter (kU f) j k1 ei ri;have c2:=An (kU f) (EY f) j k1 ei ri c1;exact(c2.fin (n:=n) (by rw[e];exact hh)).iZ (λ_ _ e=>e) (λ_ _=>rfl)
theorem SD.end(h:SD k)(kh:KH N d k)(e:yn k n k'):SD k':=by
 obtain⟨c,z,q,hn,n0,l,ho,hp,k1,k3,s1,mt,rfl⟩:=e;have hv:=kh.ki.vi;obtain⟨a,sp,tb,hh,s0,fW⟩:=hv.first hn (λx=>x) ho (λ_=>s1) (λx=>by rw[l]at x;cases x);have c1:=h.str hn s1;have c2:SD (eA k1 n c):=c1.iZ (λ_ _ e=>e) (λm hm=>by
  unfold eA;by_cases e:m=n
  .subst e;rw[bM]
  .rw[bP _ _ _ _ e])
 have c3:SD k3:=by
  rcases mt with⟨_,rfl⟩|⟨ih,j,it⟩
  .exact c2
  .have ih:hd k1 n=n:=ih;have ih:hd k n=n:=by unfold hd at ih|-;rw[<-sp];exact ih
   have ei:EI (λm=>False\/m=n) N d n z k1:=hv.ei hn n0 (λx=>x) ho ih (λ_ _ x=>aZ x (λx=>x)) (λ_=>s1) (λx=>by rw[l]at x;cases x);exact An (kU 6) (EY 6) j _ (ei.gone s0 hh c) it c2
 have c4:SD (gG k3 (iU k3 n) (Sp.fc k3.sp (z:Int) 1:Nat)):=c3.iZ (λ_ _ e=>e) (λ_ _=>rfl);unfold mL;split
 .refine c4.iZ (λ_ _ e=>e) (λm hm=>?_);unfold iO;by_cases e:m=q
  .subst e;rw[bM]
  .rw[bP _ _ _ _ e]
 .exact c4
theorem SD.MH(h:SD k)(kh:KH N d k)(e:JT k n k'):SD k':=by
 obtain⟨m,m20,m0,_,m2,v⟩:=e;obtain⟨y,oy⟩:=kh.of m20 bB;exact EY 6 (λ_=>False) k m k' y kh.ki.vi m20 m0 (λx=>x) oy (λ_ _ _ x=>x.elim) v h
theorem SD.sq(h:SD k)(kh:KH N d k):∀j {k':Kp},Cy j k k'->SD k'
 |0,_,e=>by rw[show _=k from e];exact h
 |j+1,_,⟨_,a,m,y,q,h1,h2,h3,h4,h5,h6⟩=>(h.sq kh j a).end (kh.sq j a) ⟨_,y,q,h1,h2,h3,h4,h5,h6⟩
def SL(k:Kp):Prop:=∀n,n<20->k.sc.here (10+n)=bw->lv k n=bw
theorem SL.sd(h:SL k)(kh:KH N d k):SD k:=λn hn e=>kh.ki.vi.kj.lv n hn (λx=>x) (dL.1 (h n hn e))
theorem SD.sl(h:SD k)(kh:KH N d k):SL k:=λn hn e=>dL.2 (kh.ki.vi.kj.hs n hn (h n hn e))
theorem SL.iZ(h:SL k)(s:∀n,n<20->k'.sc.here (10+n)=bw->k.sc.here (10+n)=bw)(p:∀n,n<20->(k'.p n).st=(k.p n).st):SL k':=λn hn e=>dL.2 (by rw[p n hn];exact dL.1 (h n hn (s n hn e)))
theorem SL.pl(h:SL k)(s:k'.sc=k.sc)(p:∀n,n<20->(k'.p n).st=(k.p n).st):SL k':=h.iZ (λ_ _ e=>by rw[s]at e;exact e) p
theorem Au(k:Kp)(n:Nat)(m:Me)(b:Bk)(j:Nat):((cT k n m b).p j).st=(k.p j).st:=(OS k n m b j).2
theorem SL.vv(h:SL k)(kh:KH N d k){z:Int}(hD:∀k n E k',D k n E k'->∃m b,k'=cT k n m b)(e:kJ a D k z v k'):SL k':=by
 obtain⟨E,_,⟨_,rfl⟩|⟨n,_,hn,l,⟨w,e⟩|⟨w',E1,k1,⟨j,k0,en,c⟩,r⟩⟩⟩:=e
 .exact h
 .obtain⟨m,b,rfl⟩:=hD _ _ _ _ e;exact h.pl rfl (λ_ _=>Au _ _ _ _ _)
 .have h0:SL k0:=((h.sd kh).sq kh j en.1).sl (kh.sq j en.1);have h1:SL k1:=by
   rcases c with⟨_,_,_,_,_,rfl⟩|⟨_,rfl⟩
   .exact h0.pl rfl (λ_ _=>rfl)
   .exact h0
  rcases r with⟨_,_,rfl⟩|⟨_,k2,e,r⟩
  .exact h1
  .obtain⟨m,b,rfl⟩:=hD _ _ _ _ e;have h2:=h1.pl (k':=cT k1 n m b) rfl (λ_ _=>Au _ _ _ _ _);rcases r with⟨_,rfl⟩|⟨_,rfl⟩
   .exact h2
   .exact h2.pl rfl (λ_ _=>rfl)
theorem SL.fork(h:SL k)(kh:KH N d k){z:Int}{p:Nat}(f:pX k z own p E k'):SL k':=by
 rcases f.cl kh with⟨_,rfl|⟨_,_,_,_,rfl⟩⟩|⟨_,n,c,_,_,f,_,_,_,sc,_,_⟩
 .exact h
 .exact h.pl rfl (λ_ _=>rfl)
 .intro j hj e;by_cases q:j=c
  .subst q;exact dL.2 (by rw[f.me];exact dL.1 f.ln)
  .rw[sc]at e;have e:(Wf.dH k.sc (c:Int) (k.p n).cA).here (10+j)=bw:=e;have e:k.sc.here (10+j)=bw:=by
    unfold Wf.dH at e;split at e
    .unfold Wf.qs at e;split at e
     .have e:Wf.fb k.sc.here (10+(c:Int).toNat) bw (10+j)=bw:=e;unfold Wf.fb at e;rw[hZ,nJ]at e;exact e
     .exact e
    .exact e
   exact dL.2 (by rw[f.ot j q];exact dL.1 (h j hj e))
theorem SL.sh(h:SL k){li:Bool}{M:Nat}(e:lK li M k k'):SL k':=by
 obtain⟨_,m,_,_,g,rfl⟩:=e;exact h.iZ (λn _ e=>g n e) (λ_ _=>rfl)
theorem SL.ac(h:SL k)(kh:KH N d k)(kh':KH N' d' k')(e:nR N k x a E k'\/NK x/\pN k x k'):SL k':=by
 have sc:∀{k1:Kp},SC k k1->SL k1:=λs=>h.pl s.sc (λn _=>(s.p n).1);rcases e with e|⟨_,e⟩
 .rcases e with⟨_,p,_,e⟩|⟨_,⟨n,_,_,_,_,rfl⟩|⟨_,rfl⟩⟩|⟨_,_,_,e,_⟩|⟨_,e⟩|⟨_,e⟩|⟨_,m,t,rfl⟩|⟨_,e⟩
  .exact h.fork kh e
  .refine h.pl ?_ (λj _=>(vA k n _ _ j).2.2.1);unfold dv;split<;>rfl
  .exact h
  .exact h.vv kh (λk n E k' ⟨_,m,b,_,e⟩=>⟨m,b,e⟩) e
  .exact h.vv kh (λk n E k' ⟨_,m,b,_,e⟩=>⟨m,_,e⟩) e
  .exact h.sh e
  .exact h.iZ (λn _ e=>by rw[show({k with sc:=m}:Kp).sc=_ from t.1]at e;exact e) (λ_ _=>rfl)
  .rcases e.cl kh with e|⟨_,e,_⟩|⟨_,_,e⟩|⟨n,m,_,_,_,rfl⟩|e|⟨_,_,_,rfl|⟨n,W2,m,_,_,_,_,_,g,rfl⟩⟩|⟨m,g,rfl⟩
   .exact sc e
   .exact((h.sd kh).end kh e).sl kh'
   .exact((h.sd kh).MH kh e).sl kh'
   .exact h.pl rfl (λ_ _=>Au _ _ _ _ _)
   .exact h.sh e
   .exact h
   .refine h.iZ (λn _ e=>g n e) (λj _=>?_);by_cases c:j=n
    .subst c;have pn:(xB k j x.b (Gr.jZ k.gr W2 (k.p j).cA x.b 1 (Mv.cM (k.p j).mem 16:Int)) m).p j={k.p j with cA:=x.b}:=bM _ _ _;rw[pn]
    .exact congrArg Pr.st (bP _ _ _ _ c)
   .exact h.iZ (λn _ e=>g n e) (λ_ _=>rfl)
 .rcases e.cl kh with e|⟨n,k1,_,s,h1,_,e⟩
  .exact sc e
  .exact(((sc s).sd h1).end h1 e).sl kh'
end
end Kn
section
variable (Wt:Nat)(s:St)(w:bD)
theorem Ry(n:Nat)(h:bO w Wt s)(hn:n<20)(l:Kn.lv s.k n=bw)(hs:(s.k.p n).has=bw):
  Calls prog 59 #[ai (bj ⟨s.A 0,0,bu⟩),aa az n] w λe w'=>e=bf (ao #[aa az (Mv.cM (s.k.p n).mem 16:Int),ay])/\Below w.heap.size w w':=by
 have AC:=hJ (dG Wt s w n h);have RS:=hJ (mW _ _ _ w (h.me n hn hs));have c:=h.qv n hn hs;rw[Kn.ug hn l,bF,gC]at AC;generalize (Mv.cM (s.k.p n).mem 16:Int)=r at*;generalize s.A 0=kb at*;generalize s.A (9+n)=m9 at*;clear h l hs;go_in
 go_wp2_with fail
 refine cG AC.v ?_;go_wp2_with fail
 refine RS.mono ?_;rintro e w1 ⟨rfl,b1⟩;have B:=hJ b1;clear b1;go_wp2
 go_ret2
 exact⟨rfl,B.v⟩
theorem Rx(n:Nat)(h:bO w Wt s)(hn:n<20)(l:Kn.lv s.k n=bw)(t:s.k.sc.here (10+n)=bw):
  Calls prog 13 #[ai (bj ⟨s.A 0,0,bu⟩),aa az n] w λe w'=>(∃r,e=bf (ao #[aa az r,ay]))/\w'=w:=by
 have AC:=hJ (dG Wt s w n h);have RN:=hJ (Wf.Sc (s.A 3) s.k.sc w n h.sc);have e0:Wf.kC s.k.sc (n:Int)=0:=by unfold Wf.kC;rw[nJ,hZ,aJ t]
 rw[e0,bF]at RN;have c:=h.wM;rw[Kn.ug hn l,bF,gC]at AC;generalize s.A 0=kb at*;generalize s.A 3=a3 at*;clear h l t e0;go_in
 go_wp2_with fail
 refine cG AC.v ?_;go_wp2_with fail
 refine RN.mono ?_;rintro e w1 ⟨⟨r,rfl⟩,hw⟩;subst w1;go_wp2
 go_ret2
 exact⟨⟨r,rfl⟩,rfl⟩
end
namespace Kn
section
variable {N n:Nat}{d:Nat->Nat}{k:Kp}{Wy:Nat->List (Fin 10)}
theorem Mg(f g:Nat->Int):∀M,sm (λm=>f m+g m) M=sm f M+sm g M
 |0=>rfl
 |M+1=>by show sm _ M+(f M+g M)=(sm f M+f M)+(sm g M+g M);rw[Mg f g M];omega
theorem AN:∀M,sm (λ_=>0) M=0
 |0=>rfl
 |M+1=>by show sm _ M+0=0;rw[AN M];rfl
theorem Qr{f g:Nat->Int}:∀M,(∀m,m<M->f m<=g m)->sm f M<=sm g M
 |0,_=>Int.le_refl _
 |M+1,h=>by
  show sm f M+f M<=sm g M+g M;have:=Qr M (λm hm=>h m bB);have:=h M bB;omega
def gN(k:Kp)(m:Nat):Nat:=(k.p m).cA.toNat
def JH(k:Kp)(Wy:Nat->List (Fin 10))(v:Nat->Int)(g:Nat):Int:=sm (λm=>if(k.p m).st≠0/\Gr.gO Wy (gN k m) g=bw then v m else 0) 20
theorem CG.lW(h:CG k){sel:Gr.Gp->Int}{v:Nat->Int}(hs:∀j,j<10->sel (k.gr j)=sm (λm=>if(k.p m).st≠0/\(k.p m).cA=(j:Int)then v m else 0) 20)(g:Nat):Gr.cr k.gr Wy g sel 10=JH k Wy v g:=by
 have key:∀M,M<=10->Gr.cr k.gr Wy g sel M=sm (λm=>if(k.p m).st≠0/\gN k m<M/\Gr.gO Wy (gN k m) g=bw then v m else 0) 20:=λM=>by
  induction M with
  |zero=>
   intro _;rw[j8 (f:=λ_=>0) 20 (λm _=>aI (λc=>bB)),AN];rfl
  |succ M ih=>
   intro hM;show Gr.cr k.gr Wy g sel M+(if Gr.gO Wy M g=bw then sel (k.gr M)else 0)=_;rw[ih bB];have e:(if Gr.gO Wy M g=bw then sel (k.gr M)else 0)=sm (λm=>if(k.p m).st≠0/\gN k m=M/\Gr.gO Wy M g=bw then v m else 0) 20:=by
    by_cases u:Gr.gO Wy M g=bw
    .rw[aJ u,hs M bB];refine j8 20 (λm hm=>?_);by_cases s:(k.p m).st≠0
     .obtain⟨i,ei,i10,_⟩:=h.th m hm s;have eg:gN k m=i:=by unfold gN;rw[ei];rfl
      have c:(k.p m).cA=(M:Int)↔gN k m=M:=by rw[eg,ei];omega
      simp only[c,u,and_true]
     .rw[aI (λc=>s c.1),aI (λc=>s c.1)]
    .rw[aI u,j8 (f:=λ_=>0) 20 (λm _=>aI (λc=>u c.2.2)),AN]
   rw[e,<-Mg];refine j8 20 (λm hm=>?_);by_cases c:gN k m=M
   .simp only[c];grind
   .grind
 rw[key 10 (aL _)];refine j8 20 (λm hm=>?_);by_cases s:(k.p m).st≠0
 .obtain⟨i,ei,i10,_⟩:=h.th m hm s;have eg:gN k m=i:=by unfold gN;rw[ei];rfl
  have:gN k m<10:=bB
  simp only[this,true_and]
 .rw[aI (λc=>s c.1),aI (λc=>s c.1)]
theorem CG.VU(h:CG k)(g:Nat):Gr.cr k.gr Wy g Gr.Gp.op 10=JH k Wy (λ_=>1) g:=h.lW (λj hj=>h.op j hj) g
theorem CG.VV(h:CG k)(g:Nat):Gr.cr k.gr Wy g Gr.Gp.oq 10=JH k Wy (λm=>(Mv.cM (k.p m).mem 16:Int)) g:=h.lW (λj hj=>h.oq j hj) g
def jE(f:Nat->Int)(L:List Nat):Int:=(L.map f).sum
theorem DN(k:Kp)(f:Nat->Int):jE f (dY k 20)=sm (λm=>if lv k m=bw then f m else 0) 20:=by
 have key:∀M,jE f ((List.range M).filter (lv k))=sm (λm=>if lv k m=bw then f m else 0) M:=λM=>by
  induction M with
  |zero=>rfl
  |succ M ih=>
   unfold jE at ih|-;rw[List.range_succ,List.filter_append,List.map_append,List.sum_append,ih];show _=sm _ M+(if lv k M=bw then f M else 0);cases e:lv k M<;>simp[e]
 exact key 20
theorem CG.live(h:CG k)(kh:KH N d k)(g:Nat):Gr.cr k.gr Wy g Gr.Gp.oq 10=jE (λm=>if Gr.gO Wy (gN k m) g=bw then(Mv.cM (k.p m).mem 16:Int)else 0) (dY k 20)/\jE (λm=>if Gr.gO Wy (gN k m) g=bw then 1 else 0) (dY k 20)<=Gr.cr k.gr Wy g Gr.Gp.op 10/\Gr.cr k.gr Wy g Gr.Gp.op 10<=20:=by
 rw[DN,DN,h.VU,h.VV];unfold JH;refine⟨j8 20 (λm hm=>?_),Qr 20 (λm hm=>?_),?_⟩
 .by_cases l:lv k m=bw
  .have:(k.p m).st≠0:=by rw[dL.1 l];omega
   simp only[l,this,ne_eq,not_false_eq_true,true_and,if_true]
  .rw[aI l];have hh:(k.p m).has=bA:=by
    cases e:(k.p m).has
    .rfl
    .exact aZ (dL.2 (kh.ki.vi.kj.hs m hm e)) l
   have r:(Mv.cM (k.p m).mem 16:Int)=0:=by rw[kh.ki.vi.kj.nm m hm hh];rfl
   show(if _ then(Mv.cM (k.p m).mem 16:Int)else 0)=0;rw[r];split<;>rfl
 .by_cases l:lv k m=bw
  .have:(k.p m).st≠0:=by rw[dL.1 l];omega
   simp only[l,this,ne_eq,not_false_eq_true,true_and,if_true];exact Int.le_refl _
  .rw[aI l];show(0:Int)<=if _ then 1 else 0;split<;>decide
 .have a:∀M,sm (λm=>if(k.p m).st≠0/\Gr.gO Wy (gN k m) g=bw then 1 else 0) M<=M:=λM=>by
   induction M with
   |zero=>exact Int.le_refl _
   |succ M ih=>show sm _ M+(if _ then 1 else 0)<=((M+1:Nat):Int);split<;>omega
  exact a 20
end
end Kn
def Kn.eW(t:Nat->Gr.Gp)(Wy:Nat->List (Fin 10))(z:Int)(j:Nat):Int:=if Gr.wr t z=0 then(if j=0 then(t z.toNat).par else if j=1 then(t z.toNat).lp else if j=2 then(t z.toNat).lq else if j=3 then Gr.cr t Wy z Gr.Gp.op 10 else Gr.cr t Wy z Gr.Gp.oq 10)else 0
section
variable (Wt:Nat)(s:St)(w:bD)
theorem qa(z:Int)(h:bO w Wt s)(hW:Gr.dC s.k.gr Wy)(hS:Gr.Small s.k.gr):Calls prog 11 #[ai (bj ⟨s.A 0,0,bu⟩),aa az z] w λe w'=>e=bf (ao #[.agg #[aa az (Kn.eW s.k.gr Wy z 0),aa az (Kn.eW s.k.gr Wy z 1),aa az (Kn.eW s.k.gr Wy z 2),aa az (Kn.eW s.k.gr Wy z 3),aa az (Kn.eW s.k.gr Wy z 4)],bN (Gr.wr s.k.gr z)])/\Below w.heap.size w w':=by
 have G:Hid (∀V,Below w.heap.size w V->Calls prog 40 #[ai (bj ⟨s.A 2,0,bu⟩),aa az z] V λe w'=>e=bf (ao #[.agg #[aa az (Kn.eW s.k.gr Wy z 0),aa az (Kn.eW s.k.gr Wy z 1),aa az (Kn.eW s.k.gr Wy z 2),aa az (Kn.eW s.k.gr Wy z 3),aa az (Kn.eW s.k.gr Wy z 4)],bN (Gr.wr s.k.gr z)])/\Below V.heap.size V w'):=hJ (λV b=>by
  unfold Kn.eW;by_cases c:Gr.wr s.k.gr z=0
  .obtain⟨n,rfl,hn,hh⟩:=Gr.nQ c;simp only[c,if_true];exact Gr.U0 (s.A 2) n s.k.gr Wy V (h.below b).gr hW hS hn hh
  .simp only[c,if_false];exact Gr.Uf (s.A 2) z s.k.gr V (h.below b).gr c)
 have C2:Hid (∀V,Below w.heap.size w V->V.cell? ⟨s.A 0,247,bu⟩=bj (ai (bj ⟨s.A 2,0,bu⟩))):=hJ (λV b=>(h.below b).pA);generalize Kn.eW s.k.gr Wy z=g at*;generalize bN (Gr.wr s.k.gr z)=ev at*;generalize s.A 0=kb at*;generalize s.A 2=a2 at*;go_in
 go_upto_region 1 with fail
 refine cJ (λW=>Below w.heap.size w W/\W.heap[w.heap.size]? =bj (bh #[aa az 0,aa az 0,aa az 0,aa az 0,aa az 0] 31 (0,0))) ⟨(aQ _ _).alloc (aL _) _,heap_alloc_new w _⟩ ?_;rintro W ⟨b,hb⟩;have B:=hJ (aK b hb);have c2:=C2.v W b;have GV:=hJ (G.v W b);go_wp2_with fail
 refine sC GV.v ?_;rintro w1 b1;have hb:=(b1.block _ (aX.1 B.2).1).trans B.2;obtain⟨ba,eb⟩:=hU (w.heap.size);have F:Hid (Below w.heap.size w w1/\w.heap.size<=ba/\ba<w1.heap.size):=hJ ⟨B.1.trans (b1.mono B.1.size),bB,by rw[<-eb];exact(aX.1 hb).1⟩;rw[eb]at hb|-;have z0:w1.cell? ⟨ba,0,bu⟩=bj (aa .i64 0):=by rw[bR hb];rfl
 have z1:w1.cell? ⟨ba,1,bu⟩=bj (aa .i64 0):=by rw[bR hb];rfl
 have z2:w1.cell? ⟨ba,2,bu⟩=bj (aa .i64 0):=by rw[bR hb];rfl
 have z3:w1.cell? ⟨ba,3,bu⟩=bj (aa .i64 0):=by rw[bR hb];rfl
 have z4:w1.cell? ⟨ba,4,bu⟩=bj (aa .i64 0):=by rw[bR hb];rfl
 have fz:=cE hb;go_wp2_with fail
 exact bodyPost_ret (v:=ao #[.agg #[aa az (g 0),aa az (g 1),aa az (g 2),aa az (g 3),aa az (g 4)],ev]) (by simp[results,Tryz.results11,go_sem,z0,z1,z2,z3,z4]) rfl ⟨rfl,((((((bG.refl ba w1).setCell 0 (aa az (g 0))).setCell 1 (aa az (g 1))).setCell 2 (aa az (g 2))).setCell 3 (aa az (g 3))).setCell 4 (aa az (g 4))).below F.1 F.2.1 (aH F.2.1 (bI F.2.2))⟩
theorem Rw(z:Int)(h:bO w Wt s):Calls prog 30 #[ai (bj ⟨s.A 0,0,bu⟩),aa az z] w λe w'=>e=bf (ao #[aa az (if Kn.cD s.k z=0 then(s.k.p z.toNat).cA else 0),bN (Kn.cD s.k z)])/\w'=w:=by
 have AC:=hJ (dG Wt s w z h);by_cases a:Kn.cD s.k z=0
 .obtain⟨n,rfl,hn,l⟩:=Kn.fL a;have cg:=h.pP n hn;have hnI:(n:Int)<20:=bB
  rw[aJ a,a,bF,hZ];rw[a,bF,gC]at AC;generalize (s.k.p n).cA=g at*;generalize s.A 0=kb at*;go_in
  go_wp2_with fail
  refine cG AC.v ?_;go_wp2
  go_ret2
  exact⟨rfl,rfl⟩
 .rw[aI a,bH a];rw[bH a]at AC;generalize gQ (s.A 0) z (Kn.cD s.k z)=ap at*;generalize Kn.cD s.k z=ae at*;generalize s.A 0=kb at*;go_in
  go_wp2_with fail
  refine cG AC.v ?_;go_wp2
  go_ret2
  exact⟨rfl,rfl⟩
end
structure KW (w:bD)(kb N:Nat)(d:Nat->Nat)(s:St)(W:bD):Prop where
 cU:Below w.heap.size w W
 kk:bO W w.heap.size s
 kh:KH N d s.k
 a0:s.A 0=kb
section
variable {w W W':bD}{kb N:Nat}{d:Nat->Nat}{s:St}
theorem KW.below(h:KW w kb N d s W)(b:Below W.heap.size W W'):KW w kb N d s W':=⟨h.cU.trans (b.mono h.cU.size),h.kk.below b,h.kh,h.a0⟩
theorem KW.step(h:KW w kb N d s W){s':St}(k:bO W' w.heap.size s')(f:KF s W s' W')(kh:KH N' d' s'.k):KW w kb N' d' s' W':=⟨f.behind h.kk h.cU (aL _) h.cU.size,k,kh,f.a0.trans h.a0⟩
end
theorem Re(a:Option Addr)(b o n c m:Nat)(ax:Nat->fk)(w:bD)(hm:m<=1000)(ha:0<n->a=bj ⟨b,o,bu⟩)(h:∀i,i<n->∀j,j<8->w.cell? ⟨b,o+i*8+j,bu⟩=bj ((ax i).cell j)):Calls prog 10 #[aj a n c,aa az (m:Int)] w λe w'=>∃v:Bool,e=bf (ar v)/\(v=bw->n<=m/\∀i,i<n->(ax i).s.size<2^59)/\w'=w:=by
 by_cases l:n<=m
 .refine(Kq a b o n c m ax w bB bB ha h).mono ?_;rintro e w' ⟨v,rfl,lt,hw⟩;refine⟨v,rfl,λe=>⟨l,λi hi=>?_⟩,hw⟩;subst e;rcases lt with q|q
  .cases q
  .have:=(q.2 i hi).1;omega
 .refine(Rf a n c m w bB).mono ?_;rintro e w' ⟨rfl,hw⟩;exact⟨bA,rfl,nofun,hw⟩
theorem Ni{a:Option Addr}{len:Nat}(h:vN w a len){P:Prop}(hP:∀(b o:Nat) (ax:Nat->fk),(0<len->a=bj ⟨b,o,bu⟩)->(∀i,i<len->∀j,j<8->w.cell? ⟨b,o+i*8+j,bu⟩=bj ((ax i).cell j))->P):P:=by
 by_cases h0:len=0
 .subst h0;exact hP 0 0 (λ_=>⟨⟨#[]⟩,0,0,0,0,bA,⟨#[]⟩,⟨#[]⟩⟩) (λc=>aZ c bB) (λi hi=>aZ hi bB)
 .obtain⟨b,o,ax,ha,hc⟩:=h.2 bB;exact hP b o ax (λ_=>ha) hc
structure CN (w:bD)(pa:Nat)(f g:Nat->Int)(W:bD):Prop where
 cU:Below w.heap.size w W
 p:lB W pa 10 97 f
 q:lB W (pa+1) 10 97 g
 ge:w.heap.size<=pa
section
variable {w W W':bD}{pa:Nat}{f g:Nat->Int}
theorem CN.below(h:CN w pa f g W)(b:Below W.heap.size W W'):CN w pa f g W':=⟨h.cU.trans (b.mono h.cU.size),h.p.same (b.block _ h.p.lt),h.q.same (b.block _ h.q.lt),h.ge⟩
theorem CN.Pf(h:CN w pa f g W)(i:Nat)(v:Int)(hi:i<10):CN w pa (kQ f i v) g (W.setCell ⟨pa,i,bu⟩ (aa az v)):=⟨h.cU.setCell h.ge _,h.p.set i v hi,h.q.same (dE _ _ _ _ (by show pa+1≠pa;omega)),h.ge⟩
theorem CN.Pg(h:CN w pa f g W)(i:Nat)(v:Int)(hi:i<10):CN w pa f (kQ g i v) (W.setCell ⟨pa+1,i,bu⟩ (aa az v)):=⟨h.cU.setCell (by have:=h.ge;show _<=pa+1;omega) _,h.p.same (dE _ _ _ _ (by show pa≠pa+1;omega)),h.q.set i v hi,h.ge⟩
end
theorem LO.Tl{u:bD}(h:LO u L v w)(hl:0<L.length):∃gg cap,v=aj (bj ⟨gg,0,bu⟩) L.length cap/\u.heap.size<=gg/\gg<w.heap.size/\∀i,i<L.length->w.cell? ⟨gg,i,bu⟩=bj (aa az ((L.getD i 0:Nat):Int)):=by
 have ho:=h.own;obtain⟨gg,cap,hv,hb,hg⟩:=ho.form hl;refine⟨gg,cap,hv,hb,hg,λi hi=>?_⟩;rw[hv]at ho;rw[ho.cellAt i bB];exact Eg _ _ _ (by rw[aF,aW hi];rfl)
structure CL (w w3:bD)(pa gg:Nat)(f g:Nat->Int)(W:bD):Prop where
 cn:CN w pa f g W
 li:W.heap[gg]? =w3.heap[gg]?
 lt:gg<W.heap.size
 ne:pa+1<gg
section
variable {w w3 W W':bD}{pa gg:Nat}{f g:Nat->Int}
theorem CL.below(h:CL w w3 pa gg f g W)(b:Below W.heap.size W W'):CL w w3 pa gg f g W':=⟨h.cn.below b,(b.block _ h.lt).trans h.li,aD h.lt b.size,h.ne⟩
theorem CL.Pf(h:CL w w3 pa gg f g W)(i:Nat)(v:Int)(hi:i<10):CL w w3 pa gg (kQ f i v) g (W.setCell ⟨pa,i,bu⟩ (aa az v)):=⟨h.cn.Pf i v hi,(dE _ _ _ _ (by have:=h.ne;show gg≠pa;omega)).trans h.li,by have:=h.lt;simpa[World.setCell]using this,h.ne⟩
theorem CL.Pg(h:CL w w3 pa gg f g W)(i:Nat)(v:Int)(hi:i<10):CL w w3 pa gg f (kQ g i v) (W.setCell ⟨pa+1,i,bu⟩ (aa az v)):=⟨h.cn.Pg i v hi,(dE _ _ _ _ (by have:=h.ne;show gg≠pa+1;omega)).trans h.li,by have:=h.lt;simpa[World.setCell]using this,h.ne⟩
end
namespace Kn
theorem Bx{f:Nat->Int}{m:Nat}(e:L[j]? =bj m):jE f (L.take (j+1))=jE f (L.take j)+f m:=by
 obtain⟨hj,rfl⟩:=aY.1 e;unfold jE;rw[List.take_succ_eq_append_getElem hj,List.map_append,List.sum_append];simp
theorem As{f:Nat->Int}{c:Int}(h:∀m,0<=f m/\f m<=c):∀L:List Nat,0<=jE f L/\jE f L<=c*L.length
 |[]=>⟨Int.le_refl _,by show(0:Int)<=c*((0:Nat):Int);simp⟩
 |m::L=>by
  have ih:=As h L;have:=h m;have e:jE f (m::L)=f m+jE f L:=by unfold jE;simp
  rw[e,List.length_cons];refine⟨by omega,?_⟩;have:c*((L.length+1:Nat):Int)=c*(L.length:Int)+c:=by rw[Int.natCast_add,Int.mul_add];simp
  omega
def wP(k:Kp)(Wy:Nat->List (Fin 10))(g m:Nat):Int:=if Gr.gO Wy (gN k m) g=bw then 1 else 0
def wQ(k:Kp)(Wy:Nat->List (Fin 10))(g m:Nat):Int:=if Gr.gO Wy (gN k m) g=bw then(Mv.cM (k.p m).mem 16:Int)else 0
theorem Vi(k:Kp)(Wy:Nat->List (Fin 10))(g m:Nat):0<=wP k Wy g m/\wP k Wy g m<=1:=by unfold wP;split<;>omega
theorem Vj(k:Kp)(Wy:Nat->List (Fin 10))(g m:Nat):0<=wQ k Wy g m/\wQ k Wy g m<=16:=by have:=YtpmmdkcfenjiaaaGreatDoor.mr (k.p m).mem 16;unfold wQ;split<;>omega
theorem I9(k:Kp)(l:lv k 0=bw):(dY k 20).getD 0 0=0:=by
 have e:List.range 20=0::(List.range 19).map (· +1):=by decide
 unfold dY;rw[e,List.filter_cons,aJ l];rfl
end Kn
namespace Gr
variable {t:Nat->Gp}{Wy:Nat->List (Fin 10)}
theorem SF{k n:Nat}:gO Wy k (n:Int)=bw↔n∈gq (Wy k):=by
 rw[ql];unfold gq;rw[List.mem_map];exact⟨λ⟨x,a,b⟩=>⟨x,a,bB⟩,λ⟨x,a,b⟩=>⟨x,a,bB⟩⟩
def wl(Wy:Nat->List (Fin 10))(z:Int):Nat:=if z<0 then 0 else(gq (Wy z.toNat)).length
theorem dC.wl(h:dC t Wy){x:Nat}{R:List Nat}(hx:x<10)(a:Way t (x:Int) R):Gr.wl Wy (x:Int)=R.length:=by
 unfold Gr.wl;rw[nJ,hZ,Way.unique (h x hx) a]
end Gr
section
theorem Dx(Wt N c:Nat)(d:Nat->Nat)(s:St)(w:bD)(h:bO w Wt s)(kh:KH N d s.k)(cg:Kn.CG s.k)(tr:Gr.Tree s.k.gr Wy c)(c9:c<=1000):
  Calls prog 14 #[ai (bj ⟨s.A 0,0,bu⟩)] w λe w'=>e=bf (ar bw)/\Below w.heap.size w w':=by
 have H:=hJ (aK h (aK kh (aK cg (aK tr (tr.small c9)))));obtain⟨kb,hkb⟩:=hU (s.A 0);have HK:=hJ hkb;rw[hkb];clear h kh cg tr c9 hkb;go_in
 go_upto_region 2 with fail
 have z10:(#[aa az 0,aa az 0,aa az 0,aa az 0,aa az 0,aa az 0,aa az 0,aa az 0,aa az 0,aa az 0]:Array Value)=jx 10 (λ_=>0):=rfl;refine cJ (λW=>CN w w.heap.size (λ_=>0) (λ_=>0) W) ?_ ?_
 .have b1:=(aQ w.heap.size w).alloc (aL _) (bh (jx 10 λ_=>0) 97);have e1:=heap_alloc_new w (bh (jx 10 λ_=>0) 97);have q:CN w w.heap.size (λ_=>0) (λ_=>0) ((w.alloc (bh (jx 10 λ_=>0) 97)).alloc (bh (jx 10 λ_=>0) 97)):=by
   have b2:=(aQ (w.alloc (bh (jx 10 λ_=>0) 97)).heap.size (w.alloc (bh (jx 10 λ_=>0) 97))).alloc (aL _) (bh (jx 10 λ_=>0) 97);have sz:(w.alloc (bh (jx 10 λ_=>0) 97)).heap.size=w.heap.size+1:=by simp
   have e2:=heap_alloc_new (w.alloc (bh (jx 10 λ_=>0) 97)) (bh (jx 10 λ_=>0) 97);rw[sz]at e2;exact⟨b1.trans (b2.mono b1.size),(b2.block _ (by rw[sz];omega)).trans e1,e2,aL _⟩
  exact q
 rintro W2 h2;have S2:=hJ h2;clear h2 z10;obtain⟨pa,hpa⟩:=hU (w.heap.size);rw[hpa]at S2|-;have PR:=hJ (yW Wt s W2 (H.1.below S2.cU));rw[HK.v]at PR;go_wp2_with fail
 refine PR.mono ?_;rintro e w3 ⟨v3,rfl,hL⟩;have l0:0<(Kn.dY s.k 20).length:=by
  have:(0:Nat)∈Kn.dY s.k 20:=by unfold Kn.dY;simp;exact H.2.1.l0
  exact List.length_pos_of_mem this
 have l20:=Kn.Bw s.k 20;obtain⟨gg,cap,rfl,gb,gl,gc⟩:=hL.Tl l0;have S3:Hid (CL w w3 pa gg (λ_=>0) (λ_=>0) w3):=hJ ⟨S2.below hL.cU,rfl,gl,by have:=S2.q.lt;omega⟩;have CC:=hJ gc;have AT:=hJ (λi=>Kn.OI (k:=s.k) (i:=i));have LV:Hid (∀g:Nat,Gr.cr s.k.gr Wy g Gr.Gp.oq 10=Kn.jE (Kn.wQ s.k Wy g) (Kn.dY s.k 20)/\Kn.jE (Kn.wP s.k Wy g) (Kn.dY s.k 20)<=Gr.cr s.k.gr Wy g Gr.Gp.op 10/\Gr.cr s.k.gr Wy g Gr.Gp.op 10<=20):=hJ (λg=>H.2.2.1.live H.2.1 g);have HD:=hJ (Kn.I9 s.k H.2.1.l0);clear gb gl gc hL PR S2;generalize Kn.dY s.k 20=LL at*;obtain⟨ln,hln⟩:=hU (LL.length);have LN:=hJ hln;rw[hln]at l0 l20 AT CC|-;clear hln;go_wp2_with fail
 go_loopw [6] (λi wr=>∃(j:Nat) (f g:Nat->Int),i=aa az j/\j<=ln/\Hid (CL w w3 pa gg f g wr/\∀x,x<10->f x=Kn.jE (Kn.wP s.k Wy x) (LL.take j)/\g x=Kn.jE (Kn.wQ s.k Wy x) (LL.take j))) (λi _=>ln-(intOf i).toNat)
 case atStart=>exact⟨0,_,_,rfl,aC _,S3.v,λ_ _=>⟨rfl,rfl⟩⟩
 case round=>
  obtain⟨j,f,g,rfl,hj,S⟩:=hrel;by_cases jl:j<ln
  .as_aux_lemma=>
   have jlI:(j:Int)<(ln:Int):=bB
   obtain⟨m,em⟩:=hU (LL.getD j 0);obtain⟨hm,lv⟩:m<20/\Kn.lv s.k m=bw:=by rw[<-em];exact AT.v j jl
   have EM:Hid (LL[j]? =bj m):=hJ (by rw[<-em,aF,aW (by rw[LN.v];exact jl)];rfl);have c1:wr.cell? ⟨gg,j,bu⟩=bj (aa az (m:Int)):=by rw[aV S.1.li,CC.v j jl,em]
   have OF:=hJ (Rw Wt s wr (m:Int) (H.1.below S.1.cn.cU));have RS:=hJ (Ry Wt s wr m (H.1.below S.1.cn.cU) hm lv (H.2.1.ki.vi.kj.lv m hm (λx=>x) (Kn.dL.1 lv)));rw[HK.v]at OF RS;rw[Kn.ug hm lv,aJ rfl,bF,hZ]at OF;obtain⟨g0,eg,g10,gt⟩:=H.2.2.1.th m hm (by rw[Kn.dL.1 lv];omega);have EG:Hid (Kn.gN s.k m=g0):=hJ (by unfold Kn.gN;rw[eg];rfl);rw[eg]at OF;have RB:Hid ((Mv.cM (s.k.p m).mem 16:Int)<=16/\∀x,Kn.wQ s.k Wy x m=if Gr.gO Wy g0 x=bw then(Mv.cM (s.k.p m).mem 16:Int)else 0):=hJ ⟨by have:=YtpmmdkcfenjiaaaGreatDoor.mr (s.k.p m).mem 16;omega,λx=>by unfold Kn.wQ;rw[EG.v]⟩;have r0:(0:Int)<=(Mv.cM (s.k.p m).mem 16:Int):=bB
   generalize (Mv.cM (s.k.p m).mem 16:Int)=r at*;clear em lv eg;go_wp2_with fail
   refine cG OF.v ?_;go_wp2_with fail
   refine RS.mono ?_;rintro e w5 ⟨rfl,b5⟩;have S5:Hid (CL w w3 pa gg f g w5/\∀x,x<10->f x=Kn.jE (Kn.wP s.k Wy x) (LL.take j)/\g x=Kn.jE (Kn.wQ s.k Wy x) (LL.take j)):=hJ ⟨S.1.below b5,S.2⟩;clear b5 S c1 OF RS;go_wp2_with fail
   go_loopw [11] (λi wr=>∃(z:Int) (R D:List Nat) (f' g':Nat->Int),i=aa az z/\Hid (Gr.Way s.k.gr z R/\(Gr.valid s.k.gr z\/z= -1)/\D++R=Gr.gq (Wy g0))/\Hid (CL w w3 pa gg f' g' wr/\∀x,x<10->f' x=f x+(if x∈D then 1 else 0)/\g' x=g x+(if x∈D then r else 0))) (λi _=>Gr.wl Wy (intOf i))
   case atStart=>exact⟨(g0:Int),Gr.gq (Wy g0),[],f,g,rfl,⟨H.2.2.2.1.ways g0 g10, .inl ⟨by omega,bB,by rw[hZ];exact gt⟩,rfl⟩,S5.1,λx hx=>⟨by simp,by simp⟩⟩
   case round=>
    obtain⟨z,R,D,f',g',rfl,WA,S⟩:=hrel;rcases R with _|⟨x,R⟩
    .as_aux_lemma=>
     obtain rfl:z= -1:=WA.2.1.resolve_left WA.1;have DE:D=Gr.gq (Wy g0):=by have:=WA.2.2;rwa [List.append_nil]at this
     have S6:Hid (CL w w3 pa gg f' g' wr/\∀x,x<10->f' x=Kn.jE (Kn.wP s.k Wy x) (LL.take (j+1))/\g' x=Kn.jE (Kn.wQ s.k Wy x) (LL.take (j+1))):=hJ ⟨S.1,λx hx=>by
      rw[Kn.Bx EM.v,Kn.Bx EM.v,(S.2 x hx).1,(S.2 x hx).2,(S5.2 x hx).1,(S5.2 x hx).2,RB.2,DE];unfold Kn.wP;rw[EG.v];simp[Gr.SF]⟩
     clear DE WA S S5;go_wp2
     go_roundw
     case rel=>exact⟨j+1,f',g',by go_num,bB,S6⟩
     case measure=>simp[intOf];omega
    .as_aux_lemma=>
     obtain⟨rfl,x10,xt,aw⟩:=WA.1;have hxI:(x:Int)<10:=bB
     have wr0:Gr.wr s.k.gr (x:Int)=0:=by unfold Gr.wr;rw[nJ,hZ,aJ xt]
     have KG:=hJ (qa Wt s wr (x:Int) (Wy:=Wy) (H.1.below S.1.cn.cU) H.2.2.2.1.ways H.2.2.2.2);rw[HK.v,wr0,bF]at KG;have GP:Hid (Kn.eW s.k.gr Wy (x:Int) 0=(s.k.gr x).par):=hJ (by unfold Kn.eW;rw[aJ wr0,aJ rfl,hZ]);have BF:Hid ((0<=f' x/\f' x<=21)/\0<=g' x/\g' x<=340):=hJ (by
      have q:=S.2 x x10;have q5:=S5.2 x x10;have b1:=Kn.As (Kn.Vi s.k Wy x) (LL.take j);have b2:=Kn.As (Kn.Vj s.k Wy x) (LL.take j);have le:(LL.take j).length<=20:=by rw[List.length_take,LN.v];omega
      have rb:=RB.1;rw[q.1,q.2,q5.1,q5.2];constructor<;>split<;>omega)
     generalize Kn.eW s.k.gr Wy (x:Int)=gi at*;clear wr0;go_wp2_with fail
     refine KG.mono ?_;rintro e w6 ⟨rfl,b6⟩;have S6:=hJ (aK (S.1.below b6) S.2);clear b6 KG S;go_upto_region 13 with fail
     have bb:=(aQ w6.heap.size w6).alloc (aL _) (bh #[aa az (gi 0),aa az (gi 1),aa az (gi 2),aa az (gi 3),aa az (gi 4)] 31);refine cJ (λW=>CL w w3 pa gg f' g' W/\gg<w6.heap.size/\W.heap[w6.heap.size]? =bj (bh #[aa az (gi 0),aa az (gi 1),aa az (gi 2),aa az (gi 3),aa az (gi 4)] 31 (0,0))) ⟨S6.1.below bb,S6.1.lt,heap_alloc_new w6 _⟩ ?_;rintro W7 h7;have S7:=hJ h7;have Fqq:=hJ S6.2;clear h7 bb S6;generalize w6.heap.size=bx at*;have c1:=S7.1.cn.p.cell x x10;have c2:=S7.1.cn.p.frozen x;have f0:=BF.1.1;have f1:=BF.1.2;have SX:=hJ (aK (S7.1.Pf x (f' x+1) x10) (aK S7.2.1 (((dE _ _ _ _ (by have:=S7.2.1;have:=S7.1.ne;show bx≠pa;omega)):(W7.setCell ⟨pa,x,bu⟩ (aa az (f' x+1))).heap[bx]? =_).trans S7.2.2)));obtain⟨fv,hfv⟩:=hU (f' x);have FV:=hJ hfv;rw[hfv]at c1 f0 f1 SX;clear hfv S7;go_upto_region 16 with fail
     refine cJ (λW=>CL w w3 pa gg (kQ f' x (fv+1)) g' W/\gg<bx/\W.heap[bx]? =bj (bh #[aa az (gi 0),aa az (gi 1),aa az (gi 2),aa az (gi 3),aa az (gi 4)] 31 (0,0))) SX.v ?_;rintro W8 h8;have S8:=hJ h8;clear h8 SX c1 c2 f0 f1;have c1:=S8.1.cn.q.cell x x10;have c2:=S8.1.cn.q.frozen x;have f0:=BF.2.1;have f1:=BF.2.2;have r1:=RB.1;have SX:=hJ (aK (S8.1.Pg x (g' x+r) x10) (((dE _ _ _ _ (by have:=S8.2.1;have:=S8.1.ne;show bx≠pa+1;omega)):(W8.setCell ⟨pa+1,x,bu⟩ (aa az (g' x+r))).heap[bx]? =_).trans S8.2.2));obtain⟨gv,hgv⟩:=hU (g' x);have GV:=hJ hgv;rw[hgv]at c1 f0 f1 SX;clear hgv S8;go_upto_region 17 with fail
     refine cJ (λW=>CL w w3 pa gg (kQ f' x (fv+1)) (kQ g' x (gv+r)) W/\W.heap[bx]? =bj (bh #[aa az (gi 0),aa az (gi 1),aa az (gi 2),aa az (gi 3),aa az (gi 4)] 31 (0,0))) SX.v ?_;rintro W9 h9;have z0:W9.cell? ⟨bx,0,bu⟩=bj (aa az (gi 0)):=by rw[bR h9.2];rfl
     have S9:=hJ h9.1;clear h9 SX c1 c2 f0 f1 r1;rw[GP.v]at z0;have XN:Hid (x∉D):=hJ (λc=>by
      have nd:=Gr.B7 (H.2.2.2.1.ways g0 g10);rw[<-WA.2.2]at nd;exact(List.nodup_append.1 nd).2.2 x c x (List.mem_cons_self) rfl)
     have NX:Hid ((Gr.Way s.k.gr (s.k.gr x).par R/\(Gr.valid s.k.gr (s.k.gr x).par\/(s.k.gr x).par= -1)/\(D++[x])++R=Gr.gq (Wy g0))/\Gr.wl Wy (s.k.gr x).par<Gr.wl Wy (x:Int)):=hJ (by
      have e1:=H.2.2.2.1.ways.wl x10 WA.1;by_cases x0:x=0
      .subst x0;have pr:=H.2.2.2.1.root.2;refine⟨⟨aw, .inr pr,by rw[List.append_assoc];exact WA.2.2⟩,?_⟩;rw[e1,pr];show 0<(0::R).length;simp
      .obtain⟨y,ey,y10,yt⟩:=H.2.2.2.1.par x x10 xt x0;refine⟨⟨aw, .inl (by rw[ey];exact⟨by omega,bB,by rw[hZ];exact yt⟩),by rw[List.append_assoc];exact WA.2.2⟩,?_⟩;rw[ey]at aw|-;rw[e1,H.2.2.2.1.ways.wl y10 aw,List.length_cons];omega)
     generalize (s.k.gr x).par=pz at*;clear aw WA xt;go_wp2
     go_roundw
     case rel=>exact⟨pz,R,D++[x],_,_,rfl,NX.1,S9.v,λy hy=>by
      have q:=Fqq.v y hy;by_cases e:y=x
      .subst e;have nx:=XN.v;rw[aI nx,aI nx]at q;rw[vE,vE,aJ (by simp),aJ (by simp),<-FV.v,<-GV.v,q.1,q.2];constructor<;>omega
      .have e2:y∈D++[x]↔y∈D:=by simp[e]
       rw[AV _ _ _ _ e,AV _ _ _ _ e];simp only[e2];exact q⟩
     case measure=>exact NX.2
  .as_aux_lemma=>
   have jlI:¬(j:Int)<(ln:Int):=bB
   obtain rfl:j=ln:=bB
   have S4:Hid (CL w w3 pa gg f g wr/\∀x,x<10->f x=Kn.jE (Kn.wP s.k Wy x) LL/\g x=Kn.jE (Kn.wQ s.k Wy x) LL):=hJ ⟨S.1,λx hx=>by have:=S.2 x hx;rwa [<-LN.v,List.take_length]at this⟩;clear S jl;go_wp2_with fail
   go_loopw [14] (λi wr=>∃x:Nat,i=aa az x/\x<=10/\Hid (CL w w3 pa gg f g wr)) (λi _=>10-(intOf i).toNat)
   case atStart=>exact⟨0,rfl,bB,S4.1⟩
   case round=>
    obtain⟨x,rfl,hx,S⟩:=hrel;by_cases xl:x<10
    .have xlI:(x:Int)<10:=bB
     have KG:=hJ (qa Wt s wr (x:Int) (Wy:=Wy) (H.1.below S.cn.cU) H.2.2.2.1.ways H.2.2.2.2);rw[HK.v]at KG;by_cases wr0:Gr.wr s.k.gr (x:Int)=0
     .as_aux_lemma=>
      rw[wr0,bF]at KG;have FA:Hid (Kn.eW s.k.gr Wy (x:Int) 4=g x/\f x<=Kn.eW s.k.gr Wy (x:Int) 3/\Kn.eW s.k.gr Wy (x:Int) 3<=20):=hJ (by
       have q:=LV.v x;have q4:=S4.2 x xl;unfold Kn.eW;rw[aJ wr0,aJ wr0,aI bE,aI bE,aI bE,aI bE,aI bE,aI bE,aI bE,aJ rfl,q4.1,q4.2];exact⟨q.1,q.2.1,q.2.2⟩)
      generalize Kn.eW s.k.gr Wy (x:Int)=gi at*;clear wr0;go_wp2_with fail
      refine KG.mono ?_;rintro e w6 ⟨rfl,b6⟩;have S6:=hJ (S.below b6);clear b6 KG S;go_upto_region 22 with fail
      have bb:=(aQ w6.heap.size w6).alloc (aL _) (bh #[aa az (gi 0),aa az (gi 1),aa az (gi 2),aa az (gi 3),aa az (gi 4)] 31);refine cJ (λW=>CL w w3 pa gg f g W/\W.heap[w6.heap.size]? =bj (bh #[aa az (gi 0),aa az (gi 1),aa az (gi 2),aa az (gi 3),aa az (gi 4)] 31 (0,0))) ⟨S6.below bb,heap_alloc_new w6 _⟩ ?_;rintro W7 h7;have z3:W7.cell? ⟨w6.heap.size,3,bu⟩=bj (aa az (gi 3)):=by rw[bR h7.2];rfl
      have z4:W7.cell? ⟨w6.heap.size,4,bu⟩=bj (aa az (gi 4)):=by rw[bR h7.2];rfl
      have c1:=h7.1.cn.p.cell x xl;have c2:=h7.1.cn.q.cell x xl;rw[<-FA.1]at c2;have S7:=hJ (λq=>h7.1.below (below_drewN _ q));clear h7 bb S6;generalize w6.heap.size=bx at*;have d1:decide (gi 3<f x)=bA:=aT (by have:=FA.2.1;omega);have d2:decide (20<gi 3)=bA:=aT (by have:=FA.2.2;omega);generalize f x=fv at*;generalize gi 3=g3 at*;generalize gi 4=g4 at*;go_wp2_with fail
      go_quiet (fail)
      go_wp2
      go_roundw
      case rel=>exact⟨x+1,by go_num,bB,S7.v _⟩
      case measure=>simp[intOf];omega
     .as_aux_lemma=>
      rw[bH wr0]at KG;generalize Kn.eW s.k.gr Wy (x:Int)=gi at*;generalize Gr.wr s.k.gr (x:Int)=ge at*;clear wr0;go_wp2_with fail
      refine KG.mono ?_;rintro e w6 ⟨rfl,b6⟩;have S6:=hJ (S.below b6);clear b6 KG S;go_upto_region 22 with fail
      have bb:=(aQ w6.heap.size w6).alloc (aL _) (bh #[aa az (gi 0),aa az (gi 1),aa az (gi 2),aa az (gi 3),aa az (gi 4)] 31);refine cJ (λW=>CL w w3 pa gg f g W) (S6.below bb) ?_;rintro W7 h7;have S7:=hJ h7;clear h7 bb S6;go_wp2
      go_roundw
      case rel=>exact⟨x+1,by go_num,bB,S7⟩
      case measure=>simp[intOf];omega
    .as_aux_lemma=>
     have xlI:¬(x:Int)<10:=bB
     have c0:wr.cell? ⟨gg,0,bu⟩=bj (aa .i64 0):=by
      rw[aV S.li,CC.v 0 l0,HD.v];rfl
     have l0I:(0:Int)<(j:Int):=bB
     go_wp2
     go_ret
     exact⟨rfl,by rw[<-hpa];exact S.cn.cU⟩
end
def tY(W:bD)(b:Nat)(n m e:Int)(t:bU):Prop:=W.heap[b]? =bj (bh #[aa az n,aa az m,aa az e,ak t] 38 (0,0))
theorem tY.lt{W:bD}(h:tY W b n m e t):b<W.heap.size:=(aX.1 h).1
structure AW (Wt:Nat)(s:St)(w:bD)(c:Nat)(s1:St)(n m:Int)(t:bU)(W:bD):Prop where
 kk:bO W Wt s1
 kf:KF s w s1 W
 a4:tY W c 0 0 0 ⟨#[]⟩
 a5:tY W (c+1) n m 0 t
 n4:¬KB s1 c
 n5:¬KB s1 (c+1)
 ge:w.heap.size<=c
section
variable {Wt c:Nat}{s s1 s2:St}{w W W2:bD}{n m:Int}{t:bU}
theorem AW.step(h:AW Wt s w c s1 n m t W)(k:bO W2 Wt s2)(f:KF s1 W s2 W2):AW Wt s w c s2 n m t W2:=
 ⟨k,h.kf.trans f,(f.jj h.a4.lt h.n4).trans h.a4,(f.jj h.a5.lt h.n5).trans h.a5,f.apart h.a4.lt h.n4,f.apart h.a5.lt h.n5,h.ge⟩
theorem AW.set(h:AW Wt s w c s1 n m t W)(j:Nat)(v:Value){n' m':Int}{t':bU}(e:tY (W.setCell ⟨c+1,j,bu⟩ v) (c+1) n' m' 0 t'):AW Wt s w c s1 n' m' t' (W.setCell ⟨c+1,j,bu⟩ v):=by
 have f:bG (c+1) W (W.setCell ⟨c+1,j,bu⟩ v):=(bG.refl _ _).setCell _ _;exact⟨h.kk.fresh f h.n5,h.kf.fresh f (by have:=h.ge;omega),(f.block c h.a4.lt bB).trans h.a4,e,h.n4,h.n5,h.ge⟩
theorem AW.kO(h:AW Wt s w c s1 n m t W)(x:Int):AW Wt s w c s1 x m t (W.setCell ⟨c+1,0,bu⟩ (aa az x)):=h.set 0 _ (by unfold tY;rw[cQ h.a5 0];rfl)
theorem AW.En(h:AW Wt s w c s1 n m t W)(x:Int):AW Wt s w c s1 n x t (W.setCell ⟨c+1,1,bu⟩ (aa az x)):=h.set 1 _ (by unfold tY;rw[cQ h.a5 1];rfl)
theorem AW.mP(h:AW Wt s w c s1 n m t W)(x:bU):AW Wt s w c s1 n m x (W.setCell ⟨c+1,3,bu⟩ (ak x)):=h.set 3 _ (by unfold tY;rw[cQ h.a5 3];rfl)
theorem AW.below(h:AW Wt s w c s1 n m t W)(b:Below W.heap.size W W2):AW Wt s w c s1 n m t W2:=h.step (h.kk.below b) (KF.below b)
end
theorem tY.at{W:bD}(h:tY W b n m e t)(j:Nat)(v:Value)(hv:(#[aa az n,aa az m,aa az e,ak t]:Array Value)[j]? =bj v):W.cell? ⟨b,j,bu⟩=bj v:=by rw[bR h];exact hv
theorem AW.fin{W:bD}(h:AW Wt s w c s1 n m t W)(E:Int):bO (((((W.setCell ⟨c+1,2,bu⟩ (aa az E)).setCell ⟨c,0,bu⟩ (aa az n)).setCell ⟨c,1,bu⟩ (aa az m)).setCell ⟨c,2,bu⟩ (aa az E)).setCell ⟨c,3,bu⟩ (ak t)) Wt s1/\KF s w s1 (((((W.setCell ⟨c+1,2,bu⟩ (aa az E)).setCell ⟨c,0,bu⟩ (aa az n)).setCell ⟨c,1,bu⟩ (aa az m)).setCell ⟨c,2,bu⟩ (aa az E)).setCell ⟨c,3,bu⟩ (ak t)):=by
 have f:bG (c+1) W (W.setCell ⟨c+1,2,bu⟩ (aa az E)):=(bG.refl _ _).setCell _ _;have g:bG c (W.setCell ⟨c+1,2,bu⟩ (aa az E)) (((((W.setCell ⟨c+1,2,bu⟩ (aa az E)).setCell ⟨c,0,bu⟩ (aa az n)).setCell ⟨c,1,bu⟩ (aa az m)).setCell ⟨c,2,bu⟩ (aa az E)).setCell ⟨c,3,bu⟩ (ak t)):=((((bG.refl _ _).setCell _ _).setCell _ _).setCell _ _).setCell _ _;have:=h.ge;exact⟨(h.kk.fresh f h.n5).fresh g h.n4,(h.kf.fresh f bB).fresh g h.ge⟩
def ow(W:bD)(b:Nat)(x:fk):Prop:=W.heap[b]? =bj (bh #[ak x.kind,aa az x.a,aa az x.b,aa az x.c,aa bd x.key,ar x.on,ak x.s,ak x.t] 29 (0,0))
theorem ow.at{W:bD}{x:fk}(h:ow W b x)(j:Nat)(hj:j<8):W.cell? ⟨b,j,bu⟩=bj (x.cell j):=by
 rw[bR h]
 match j,hj with
 |0,_=>rfl
 |1,_=>rfl
 |2,_=>rfl
 |3,_=>rfl
 |4,_=>rfl
 |5,_=>rfl
 |6,_=>rfl
 |7,_=>rfl
theorem AW.start(h:bO w Wt s)(x:fk):AW Wt s w (w.heap.size+1) s 0 0 ⟨#[]⟩ (((w.alloc (bh #[ak x.kind,aa az x.a,aa az x.b,aa az x.c,aa bd x.key,ar x.on,ak x.s,ak x.t] 29)).alloc (bh #[aa az 0,aa az 0,aa az 0,ak ⟨#[]⟩] 38)).alloc (bh #[aa az 0,aa az 0,aa az 0,ak ⟨#[]⟩] 38))/\ow (((w.alloc (bh #[ak x.kind,aa az x.a,aa az x.b,aa az x.c,aa bd x.key,ar x.on,ak x.s,ak x.t] 29)).alloc (bh #[aa az 0,aa az 0,aa az 0,ak ⟨#[]⟩] 38)).alloc (bh #[aa az 0,aa az 0,aa az 0,ak ⟨#[]⟩] 38)) w.heap.size x:=by
 have z1:(w.alloc (bh #[ak x.kind,aa az x.a,aa az x.b,aa az x.c,aa bd x.key,ar x.on,ak x.s,ak x.t] 29)).heap.size=w.heap.size+1:=by simp
 have z2:((w.alloc (bh #[ak x.kind,aa az x.a,aa az x.b,aa az x.c,aa bd x.key,ar x.on,ak x.s,ak x.t] 29)).alloc (bh #[aa az 0,aa az 0,aa az 0,ak ⟨#[]⟩] 38)).heap.size=w.heap.size+1+1:=by simp
 have b1:=(aQ w.heap.size w).alloc (aL _) (bh #[ak x.kind,aa az x.a,aa az x.b,aa az x.c,aa bd x.key,ar x.on,ak x.s,ak x.t] 29);have c2:=(aQ (w.alloc (bh #[ak x.kind,aa az x.a,aa az x.b,aa az x.c,aa bd x.key,ar x.on,ak x.s,ak x.t] 29)).heap.size (w.alloc (bh #[ak x.kind,aa az x.a,aa az x.b,aa az x.c,aa bd x.key,ar x.on,ak x.s,ak x.t] 29))).alloc (aL _) (bh #[aa az 0,aa az 0,aa az 0,ak ⟨#[]⟩] 38);have c3:=(aQ ((w.alloc (bh #[ak x.kind,aa az x.a,aa az x.b,aa az x.c,aa bd x.key,ar x.on,ak x.s,ak x.t] 29)).alloc (bh #[aa az 0,aa az 0,aa az 0,ak ⟨#[]⟩] 38)).heap.size ((w.alloc (bh #[ak x.kind,aa az x.a,aa az x.b,aa az x.c,aa bd x.key,ar x.on,ak x.s,ak x.t] 29)).alloc (bh #[aa az 0,aa az 0,aa az 0,ak ⟨#[]⟩] 38))).alloc (aL _) (bh #[aa az 0,aa az 0,aa az 0,ak ⟨#[]⟩] 38);have B:=b1.trans ((c2.trans (c3.mono (by rw[z1,z2];omega))).mono b1.size);have h1:=heap_alloc_new w (bh #[ak x.kind,aa az x.a,aa az x.b,aa az x.c,aa bd x.key,ar x.on,ak x.s,ak x.t] 29);have h2:=heap_alloc_new (w.alloc (bh #[ak x.kind,aa az x.a,aa az x.b,aa az x.c,aa bd x.key,ar x.on,ak x.s,ak x.t] 29)) (bh #[aa az 0,aa az 0,aa az 0,ak ⟨#[]⟩] 38)
 have h3:=heap_alloc_new ((w.alloc (bh #[ak x.kind,aa az x.a,aa az x.b,aa az x.c,aa bd x.key,ar x.on,ak x.s,ak x.t] 29)).alloc (bh #[aa az 0,aa az 0,aa az 0,ak ⟨#[]⟩] 38)) (bh #[aa az 0,aa az 0,aa az 0,ak ⟨#[]⟩] 38);rw[z1]at h2;rw[z2]at h3;exact⟨⟨h.below B,KF.below B,(c3.block _ (by rw[z2];omega)).trans h2,h3,h.ie bB,h.ie bB,bB⟩,(c3.block _ (by rw[z2];omega)).trans ((c2.block _ (by rw[z1];omega)).trans h1)⟩
theorem Mv.RJ(m:Mv.Me)(a n:Int)(w:Bool):(Mv.mapM m a n w).fr=m.fr:=by unfold Mv.mapM;split<;>rfl
theorem Mv.Sa(m:Mv.Me)(a n:Int)(w:Bool):(Mv.vb m a n w).fr=m.fr:=by unfold Mv.vb;split<;>rfl
theorem AW.VD{W:bD}(h:AW Wt s w c s1 n m t W)(a b e:Int)(u:bU):bO ((((W.setCell ⟨c,0,bu⟩ (aa az a)).setCell ⟨c,1,bu⟩ (aa az b)).setCell ⟨c,2,bu⟩ (aa .i64 e)).setCell ⟨c,3,bu⟩ (ak u)) Wt s1/\KF s w s1 ((((W.setCell ⟨c,0,bu⟩ (aa az a)).setCell ⟨c,1,bu⟩ (aa az b)).setCell ⟨c,2,bu⟩ (aa .i64 e)).setCell ⟨c,3,bu⟩ (ak u)):=
 have g:=((((bG.refl c W).setCell 0 (aa az a)).setCell 1 (aa az b)).setCell 2 (aa .i64 e)).setCell 3 (ak u)
 ⟨h.kk.fresh g h.n4,h.kf.fresh g h.ge⟩

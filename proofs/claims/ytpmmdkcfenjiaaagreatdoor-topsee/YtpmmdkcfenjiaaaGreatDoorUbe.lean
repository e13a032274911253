import Derived.Test.YtpmmdkcfenjiaaaGreatDoorUbc
import Derived.Test.YtpmmdkcfenjiaaaGreatDoorUbd
set_option maxRecDepth 100000
set_option maxHeartbeats 400000
set_option linter.unusedVariables false
set_option linter.unusedSimpArgs false
namespace Go.Proofs.YtpmmdkcfenjiaaaGreatDoor
open Value renaming int->aa,slice->aj,string->ak,bool->ar
open IntKind renaming i64->az,u64->bd
open Ending renaming returned->bf
open Obj renaming cells->bg
open Option renaming some->bh,none->bj
open Tryz (prog)
open Go.RowKit
open Fx (Fi)
open Tr (Fo Nd)
open Pp (Pi)
open Mo (Wh Mt)
open Mv (Me Bk)
open Kn (Pr Kp St us KB KJ VI EI KH)
namespace Kn
end Kn
theorem IW(a:Option Addr)(b o n c:Nat)(m:Int)(ax:Nat->gD)(w:bD)(hn:(n:Int)<=m)(hm:n<=1000)(ha:0<n->a=bh ⟨b,o,bj⟩)(h:∀i,i<n->∀j,j<8->w.cell? ⟨b,o+i*8+j,bj⟩=bh ((ax i).cell j)):
  Calls prog 10 #[aj a n c,aa az m] w λe w'=>∃v:Bool,e=bf (ar v)/\yL ax n 80 (ar v)/\w'=w:=by
 have d:decide ((n:Int)<=m)=true:=by simp;omega
 have LT:=hJ (G7 a b o n c 80 ax w hm ha h);go_in
 go_wp2_with fail
 refine(zY _ _ _ _ _).mono ?_;rintro e w1 ⟨rfl,hw⟩;subst w1;rw[d];go_wp2_with fail
 refine LT.mono ?_;rintro e w1 ⟨v,rfl,ht,hw⟩;subst w1;have HT:=hJ ht;rcases ht with rfl|⟨rfl,_⟩
 .go_wp2
  go_ret
  exact⟨false,rfl,HT.v,rfl⟩
 .go_wp2
  go_ret
  exact⟨true,rfl,HT.v,rfl⟩
namespace Kn
theorem Kp.same{a b:Kp}(h:∀m,a.p m=b.p m)(hr:({a with p:=b.p}:Kp)=b):a=b:=by
 have e:a.p=b.p:=funext h;rw[<-hr,<-e]
theorem gA(k:Kp)(n:Nat)(x y:Pr):(k.put n x).put n y=k.put n y:=by
 unfold Kp.put;congr 1;funext m;by_cases c:m=n
 .simp[c]
 .simp[c]
section
variable {N:Nat}{d:Nat->Nat}{k k' k1:Kp}{n:Nat}{L:Nat->Nat}{rd:Nat->Bool}
theorem Qq(k:Kp)(n:Nat)(X:Nat->Sg.S1)(a m:Int):dD (dh k n X) n a m=dh (dD k n a m) n X:=by
 have e:(dh k n X).p n={k.p n with box:=X}:=bF _ _ _;unfold dD;rw[e];by_cases c:Mv.qP a m=0
 .rw[aJ c,aJ c];unfold cT;rw[e];refine Kp.same (λq=>?_) rfl;unfold dh;by_cases c:q=n
  .subst c;rw[bF,bF];show _={((k.put q {k.p q with mem:=Mv.oV (k.p q).mem a m}).p q)with box:=X};rw[bF]
  .rw[bM _ _ _ _ c,bM _ _ _ _ c,bM _ _ _ _ c];exact(bM k n q {k.p n with mem:=Mv.oV (k.p n).mem a m} c).symm
 .rw[aI c,aI c]
theorem Da(k:Kp)(n:Nat)(X:Nat->Sg.S1)(fd:Nat->Int):∀j,dO (dh k n X) n fd j=dh (dO k n fd j) n X
 |0=>rfl
 |j+1=>by
  have ih:=Da k n X fd j;show(if fd j= -1 then dO (dh k n X) n fd j else fH (jH (dO (dh k n X) n fd j) (fd j)) n j (-1):Kp)=dh (if fd j= -1 then dO k n fd j else fH (jH (dO k n fd j) (fd j)) n j (-1)) n X;by_cases c:fd j= -1
  .rw[aJ c,aJ c];exact ih
  .rw[aI c,aI c,ih];generalize dO k n fd j=q;unfold fH dh;rw[bF];have e:(jH (q.put n {q.p n with box:=X}) (fd j)).p n={q.p n with box:=X}:=bF _ _ _;rw[e];have e2:jH (q.put n {q.p n with box:=X}) (fd j)=(jH q (fd j)).put n {q.p n with box:=X}:=rfl;rw[e2,gA,gA];rfl
theorem gZ.box{X:Nat->Sg.S1}(h:gZ (dh k n X) n k1):gZ k n k1:=by
 obtain⟨m',dt,rfl⟩:=h;refine⟨m',dt,?_⟩;have e:(dh k n X).p n={k.p n with box:=X}:=bF _ _ _;unfold rj;dsimp only;rw[Qq,e,Da];generalize dO (dD k n 0 16) n _ 6=q;have e2:(dh q n X).p n={q.p n with box:=X}:=bF _ _ _;rw[e2];have e3:({dh q n X with sc:=m'}:Kp)=({q with sc:=m'}:Kp).put n {q.p n with box:=X}:=rfl;rw[e3,gA]
theorem lS.box{X:Nat->Sg.S1}{c:Int}{z q:Nat}(e:lS (dh k n X) n c z q k'):lS k n c z q k':=by
 obtain⟨k1,k3,s1,mt,rfl⟩:=e;exact⟨k1,k3,s1.box,mt,rfl⟩
end
end Kn
namespace Kn
section
variable {N:Nat}{d:Nat->Nat}{k k' k1:Kp}{n:Nat}{L:Nat->Nat}{rd:Nat->Bool}
theorem NG(k:Kp)(n:Nat)(X:Nat->Sg.S1)(m:Nat):((dh k n X).p m).st=(k.p m).st/\((dh k n X).p m).par=(k.p m).par/\((dh k n X).p m).cN=(k.p m).cN/\((dh k n X).p m).fd=(k.p m).fd/\((dh k n X).p m).has=(k.p m).has/\((dh k n X).p m).code=(k.p m).code:=by
 unfold dh;by_cases c:m=n
 .subst c;rw[bF];exact⟨rfl,rfl,rfl,rfl,rfl,rfl⟩
 .rw[bM _ _ _ _ c];exact⟨rfl,rfl,rfl,rfl,rfl,rfl⟩
theorem KH.bx(kh:KH N d k)(n:Nat){X:Nat->Sg.S1}(hX:n<20->lv k n=true->hd k n≠n->Sg.eV X 0 0):KH N d (dh k n X):=
 kh.tV (kh.ki.box n hX) rfl (λm=>⟨(NG k n X m).1,(NG k n X m).2.1⟩)
end
end Kn
namespace Kn
section
variable {N n y q:Nat}{d:Nat->Nat}{k k':Kp}{z:Int}{v:Value}{E:Int}
theorem KH.Tv(h:KH N d k)(hn:n<20)(n0:n≠0)(l:lv k n=true)(yq:YQ k n y q){X:Nat->Sg.S1}(e:uR (dh k n X) n y q k'):KH N d k':=by
 obtain⟨m,f,⟨rfl,rfl⟩|⟨_,e⟩⟩:=e
 .have f:Sg.eV ((dh k n X).p n).box 0 0:=f;unfold dh at f;rw[bF]at f;exact h.bx n (λ_ _ _=>f)
 .exact h.end hn n0 l yq.1 (yq.2 n0) e.box
theorem KH.Rm(h:KH N d k)(hn:n<20)(l:lv k n=true)(yq:YQ k n y q){X:Nat->Sg.S1}(e:qq (dh k n X) n y q k'):KH N d k':=by
 have eh:hd (dh k n X) n=hd k n:=rfl;rcases e with⟨a,rfl⟩|⟨a,e⟩
 .rw[eh]at a;exact h.bx n (λ_ _ c=>aZ a c)
 .rw[eh]at a;exact h.Tv hn (λe0=>by subst e0;exact a h.ki.h0) l yq e
theorem KH.dB(h:KH N d k){c:Int}{on:Bool}(e:xd k z c on E k'):KH N d k':=by
 rcases e with⟨_,_,rfl⟩|⟨a,n,rfl,hn,_,⟨e,rfl⟩|⟨_,y,q,yq,e⟩⟩
 .exact h
 .unfold Sg.ny;rw[aI e];exact h.bx n (λ_ l hd=>h.ki.fi n hn l hd)
 .exact h.Rm hn (uW a) yq e
theorem KH.mu(h:KH N d k){c o:Int}(e:xe k z c o E k'):KH N d k':=by
 rcases e with⟨_,_,rfl⟩|⟨a,n,rfl,hn,_,⟨e,rfl⟩|⟨_,y,q,yq,e⟩⟩
 .exact h
 .unfold Sg.lE;rw[aI e];exact h.bx n (λ_ l hd=>h.ki.fi n hn l hd)
 .exact h.Rm hn (uW a) yq e
theorem Ng{p c:Int}(a:oP k z p c=0):eN k z p=0/\p≠1:=by
 unfold oP at a;by_cases c1:eN k z p=0
 .rw[aJ c1]at a;refine⟨c1,λc2=>?_⟩;by_cases c3:c<1\/8<c
  .rw[aJ c3]at a;omega
  .rw[aI c3,aJ c2]at a;omega
 .rw[aI c1]at a;exact aZ a c1
theorem KH.sig(h:KH N d k){p c:Int}(e:qt k z p c k'):KH N d k':=by
 rcases e with⟨_,rfl⟩|⟨a,y,q,yq,e⟩
 .exact h
 .have s0:=Ng a;exact h.Tv (Fk (λz p=>h.ki.vi.iv.oK z p) z p) (h.ki.vi.RQ s0.1 s0.2) (Fj s0.1) yq e
theorem KH.Uw(h:KH N d k){m:Nat}(e:AJ k z m E k'):KH N d k':=by
 rcases e with⟨_,_,_,rfl⟩|⟨_,n,j,rfl,hn,_,rfl,_⟩
 .exact h
 .exact h.bx n (λ_ l hd=>Nl j (h.ki.fi n hn l hd))
theorem KH.UA(h:KH N d k){f:Int}{t:bU}{K:Nat}(e:uV k z f t K E k'):KH N d k':=by
 rcases e with⟨_,_,_,rfl⟩|⟨_,n,g,rfl,rfl,hn,hg,l,_,_,⟨_,rfl⟩|⟨_,y,q,e,o,p⟩⟩
 .exact h
 .exact h.Dy _ _
 .exact(h.Dy ((k.p n).fd g) t).Rm hn l ⟨o,λn0=>(p n0).2.2⟩ e
theorem KH.sc(h:KH N d k)(m:Wf.M):KH N d {k with sc:=m}:=
 h.tV ⟨⟨h.ki.vi.kj.kH m,h.ki.vi.iv,h.ki.vi.hs⟩,h.ki.fi,h.ki.pr,h.ki.h0⟩ rfl (λ_=>⟨rfl,rfl⟩)
theorem KH.sle(h:KH N d k){on:Bool}(e:FN k z on v k'):KH N d k':=by
 obtain⟨_,m,_,⟨_,w⟩|rfl,rfl⟩:=e
 .exact h.sc _
 .exact h
theorem KH.mem(h:KH N d k)(hn:n<20)(l:lv k n=true){m:Me}{b:Bk}(w:Mv.fP b 20 (Mv.jJ (λn=>(k.p n).mem) n m)):KH N d (cT k n m b):=by
 have e:∀j,((cT k n m b).p j).st=(k.p j).st/\((cT k n m b).p j).par=(k.p j).par/\((cT k n m b).p j).box=(k.p j).box:=λj=>by
  by_cases c:j=n
  .subst c;rw[pW];exact⟨rfl,rfl,rfl⟩
  .rw[show(cT k n m b).p j=k.p j from bM _ _ _ _ c];exact⟨rfl,rfl,rfl⟩
 have lv':∀j,lv (cT k n m b) j=lv k j:=λj=>by unfold lv;rw[(e j).1]
 refine h.tV ⟨⟨h.ki.vi.kj.cT hn (h.ki.vi.kj.lv n hn (λx=>x) (eP.1 l)) w,h.ki.vi.iv,h.ki.vi.hs⟩,λj hj lj hd=>?_,λj hj j0 s=>?_,h.ki.h0⟩ rfl (λj=>⟨(e j).1,(e j).2.1⟩)
 .rw[(e j).2.2];rw[lv']at lj;exact h.ki.fi j hj lj hd
 .rw[(e j).1]at s;rw[(e j).2.1];exact h.ki.pr j hj j0 s
theorem KH.fr(h:KH N d k)(hn:n<20)(l:lv k n=true){m:Me}(e:m.fr=(k.p n).mem.fr):KH N d (cT k n m k.bk):=
 h.mem hn l (h.ki.vi.kj.me.congr (λi _ x _=>by
  by_cases c:i=n
  .subst c;rw[Mv.fW,e]
  .rw[Mv.iW _ _ _ _ c]))
theorem KH.Oz(h:KH N d k)(hn:n<20)(l:lv k n=true)(a m:Int):KH N d (dD k n a m):=by
 unfold dD;by_cases c:Mv.qP a m=0
 .rw[aJ c];have w:Mv.fP (Mv.oU (k.p n).mem k.bk a m) 20 (Mv.jJ (λn=>(k.p n).mem) n (Mv.oV (k.p n).mem a m)):=by
   unfold Mv.qP at c;unfold Mv.oU Mv.oV;cases hb:Mv.kK a m
   .obtain⟨x,j,rfl,rfl,hx,h1,h2⟩:=Mv.tn hb;rw[aI bA,aI bA,hZ,hZ];exact h.ki.vi.kj.me.OA (i:=n) hn j h2
   .rw[hb,aJ rfl]at c;omega
  obtain⟨Wy,g⟩:=h.ki.vi.kj.gr;exact(h.mem hn l w).gr (aL _) ⟨Wy,nR g _ _ _⟩
 .rw[aI c];exact h
theorem KH.ld(h:KH N d k)(hn:n<20)(l:lv k n=true){a:Int}(e:vR a k n E k'):KH N d k':=by
 obtain⟨g,m,b,t,rfl⟩:=e;exact h.mem hn l (h.ki.vi.kj.me.Ow hn t).1
theorem KH.Uv(h:KH N d k)(hn:n<20)(l:lv k n=true){a u:Int}(e:xp a u k n E k'):KH N d k':=by
 obtain⟨g,m,b,t,rfl⟩:=e;have w:=(h.ki.vi.kj.me.Ow hn t).1;refine h.mem hn l ?_;split
 .exact w.bytes _
 .exact w
theorem KH.Tx{D:Kp->Nat->Int->Kp->Prop}(hD:∀{M k n E k'},KH M d k->n<20->lv k n=true->D k n E k'->KH M d k')(h:KH N d k){a:Int}(e:lT a D k z v k'):KH (N+1) d k':=by
 have M:=h.more (Nat.le_succ N);obtain⟨E,_,⟨_,rfl⟩|⟨n,rfl,hn,l,⟨_,e⟩|⟨_,E1,k1,c,⟨_,_,rfl⟩|⟨rfl,k2,e,r⟩⟩⟩⟩:=e
 .exact M
 .exact hD M hn l e
 .exact h.NU c
 .have l1:lv k1 n=true:=by
   obtain⟨_,_,_,⟨q,_,_,_,_,rfl⟩|⟨q,_⟩⟩:=c
   .exact q
   .cases q
  have g:=hD (h.NU c) hn l1 e;rcases r with⟨_,rfl⟩|⟨_,rfl⟩
  .exact g
  .obtain⟨Wy,t⟩:=g.ki.vi.kj.gr;exact g.gr (aL _) ⟨Wy,nR t _ _ _⟩
theorem KH.fg(h:KH N d k){G:Fo}(g:FG k G):KH N d {k with fo:=G}:=h.fx (aL _) g.2 h.ki.vi.kj.rf g.1
theorem KH.fo(h:KH N d k)(e:tf k v k'):KH N d k':=by obtain⟨_,G,_,g,rfl⟩:=e;exact h.fg g
theorem KH.tu(h:KH N d k)(e:qQ k v k'):KH N d k':=by
 obtain⟨_,_,rfl|⟨y,T,F,y6,yt,g,rfl⟩⟩:=e
 .exact h
 .exact h.tV ⟨⟨h.ki.vi.kj.Ux y6 yt g,h.ki.vi.iv,h.ki.vi.hs⟩,h.ki.fi,h.ki.pr,h.ki.h0⟩ rfl (λ_=>⟨rfl,rfl⟩)
theorem KH.Us(h:KH N d k)(u a:Int):KH N d {k with fi:=Fx.lG k.fi u a}:=by
 have j:=h.ki.vi.kj;unfold Fx.lG;split
 .rename_i c;have c1:Fx.dj k.fi u=0/\0<=a/\a<=40:=by
   unfold Fx.eN at c;by_cases e:Fx.dj k.fi u=0
   .rw[aI (λx=>x e)]at c;split at c
    .omega
    .split at c
     .omega
     .exact⟨e,bu,bu⟩
   .rw[aJ e]at c;exact aZ c e
  obtain⟨n,rfl,hn,r⟩:=Fx.jZ c1.1;rw[hZ];refine h.fx (aL _) (j.wx.jU hn r _ r rfl rfl (by show a.toNat<=40;omega)) (λm hm=>?_) j.ok;by_cases e:m=n
  .subst e;rw[Fx.bF];exact j.rf m hm
  .rw[Fx.bM _ _ _ _ e];exact j.rf m hm
 .exact h
theorem KH.dup(h:KH N d k)(e:FA k v k'):KH (N+1) d k':=by
 obtain⟨_,_,_,rfl|⟨n,f,g,hn,_,_,_,_,_,rfl⟩⟩:=e
 .exact h.more (Nat.le_succ _)
 .have q:=J1 h.ki.vi.kj.wx ((k.p n).fd g);exact(h.fx (T:=Fx.jB k.fi ((k.p n).fd g)) (F:=k.fo) (S:=k.pi) (Nat.le_succ _) q.1 (λm hm=>by have:=q.2 m;have:=h.ki.vi.kj.rf m hm;omega) h.ki.vi.kj.ok).fd n f _
theorem KH.Oh(h:KH N d k)(e:FJ k v k'):KH (N+1) d k':=by
 obtain⟨_,_,_,G,g,rfl|⟨n,f,K,z,wr,T,F,hn,_,_,_,t,rfl⟩⟩:=e
 .exact(h.fg g).more (Nat.le_succ _)
 .rcases t with⟨a,_,b,_⟩|⟨_,_,_,b,_⟩|⟨a,_,lo,_,rfl,rfl⟩
  .exact aZ b.symm a
  .cases b
  .obtain⟨m,rfl,m40,_⟩:=Tr.eZ a;rw[hZ];refine(h.fx (Nat.le_succ _) (g.2.node lo a) (λj hj=>?_) (g.1.dB _)).fd n f _;by_cases c:j=K
   .subst c;rw[Fx.bF];show 1<=_;omega
   .rw[Fx.bM _ _ _ _ c];have:=h.ki.vi.kj.rf j hj;omega
theorem KH.sh(h:KH N d k){li:Bool}(e:nj li N k k'):KH N d k':=by
 obtain⟨t,m,_,g,_,rfl⟩:=e;exact(h.gr (aL _) g).sc _
theorem KH.Ol(h:KH N d k){T:Nat}{G:Fo}(e:Tr.qs k.fo T E G):KH N d {k with fo:=G}:=by
 have j:=h.ki.vi.kj;refine h.fg ⟨j.ok.Ol e,?_⟩;rcases e with⟨_,_,_,rfl⟩|⟨_,n,e,hf,⟨_,_,_,rfl⟩|⟨e0,_,_,rfl⟩⟩
 .exact j.wx
 .exact j.wx
 .rcases hf with⟨_,n40,n0,_⟩|⟨q,_⟩
  .have z:=j.wx.z0 n n40 n0;have p:∀m,(Tr.zl k.fo n).nd m=if m=n then eR 2 k.fo.trees n else k.fo.nd m:=λm=>by
    by_cases c:m=n
    .subst c;rw[aJ rfl];exact Tr.bF _ _ _
    .rw[aI c];exact Tr.bM _ _ _ _ c
   refine j.wx.ry (λm _=>?_) (λm _ hm=>?_) (λm hm k0=>?_)
   .rw[p m];split
    .rename_i c;rw[c,z];rfl
    .rfl
   .rw[p m,aI (λc=>hm (by rw[c];exact z))]
   .rw[p m]at k0|-;split
    .rfl
    .rename_i c;rw[aI c]at k0;exact j.wx.z0 m hm k0
  .omega
theorem KH.cN(h:KH N d k)(n:Nat)(g:Int):KH N d (k.put n {k.p n with cN:=g}):=by
 have e:∀m,((k.put n {k.p n with cN:=g}).p m).st=(k.p m).st/\((k.put n {k.p n with cN:=g}).p m).par=(k.p m).par/\((k.put n {k.p n with cN:=g}).p m).box=(k.p m).box:=λm=>by
  by_cases c:m=n
  .subst c;rw[bF];exact⟨rfl,rfl,rfl⟩
  .rw[bM _ _ _ _ c];exact⟨rfl,rfl,rfl⟩
 have l:∀m,lv (k.put n {k.p n with cN:=g}) m=lv k m:=λm=>by unfold lv;rw[(e m).1]
 refine h.tV ⟨⟨h.ki.vi.kj.Cz rfl rfl rfl,h.ki.vi.iv,h.ki.vi.hs⟩,λm hm lm hm2=>?_,λm hm m0 s=>?_,h.ki.h0⟩ rfl (λm=>⟨(e m).1,(e m).2.1⟩)
 .rw[(e m).2.2];rw[l]at lm;exact h.ki.fi m hm lm hm2
 .rw[(e m).1]at s;rw[(e m).2.1];exact h.ki.pr m hm m0 s
theorem KH.Ul(h:KH N d k){g:Int}(e:FC k z g v k'):KH (N+1) d k':=by
 obtain⟨_,_,rfl|⟨n,Wy,m,rfl,hn,l,w,e,_,rfl⟩⟩:=e
 .exact h.more (Nat.le_succ _)
 .obtain⟨Wz,t⟩:=h.ki.vi.kj.gr;have t1:Gr.Tree (Gr.pX k.gr Wy (k.p n).cN g 1 (Mv.fX (k.p n).mem 16:Int)) Wy (N+1):=by
   unfold Gr.pX;rw[aJ e];exact pG (nR (wO t w) _ _ _) _ _ _ bu (by have:=YtpmmdkcfenjiaaaGreatDoor.vk (k.p n).mem 16;omega)
  exact((h.gr (Nat.le_succ _) ⟨Wy,t1⟩).sc _).cN n g
end
end Kn
namespace Kn
def kd(x:gD)(l:List UInt8):Prop:=(x.kind.toList==l)=true
def wk:List (List UInt8):=[[102,111,114,107],[117,110,109,97,112],[108,111,97,100],[115,116,111,114,101],[108,105,109,105,116],[116,105,99,107]]
def NK(x:gD):Prop:=∀l∈wk,(x.kind.toList==l)=false
theorem NK.of{x:gD}{l:List UInt8}(h:kd x l)(n:(wk.all λm=> !(l==m))=true):NK x:=λm hm=>by
 rw[eq_of_beq h];simpa using List.all_eq_true.1 n m hm
def Bb(N:Nat)(k:Kp)(x:gD)(k':Kp):Prop:=
 (kd x [101,120,105,116]/\ql k x.a x.b k')\/(∃p c E,xt k x.a p c E k')\/qt k x.a x.b x.c k'\/(∃E,xd k x.a x.b x.on E k')\/(∃E,xe k x.a x.b x.c E k')\/(∃m E,AJ k x.a m E k')\/
 (∃n m,n<20/\lv k n=true/\m.fr=(k.p n).mem.fr/\k'=cT k n m k.bk)\/nj false N k k'\/(∃v,FC k x.a x.b v k')\/(∃v,FN k x.a x.on v k')\/k'=k
def vQ(N:Nat)(k:Kp)(x:gD)(a E:Int)(k':Kp):Prop:=
 (kd x [102,111,114,107]/\∃p:Nat,a=p/\AB k x.a x.on p E k')\/
 (kd x [117,110,109,97,112]/\((∃n:Nat,x.a=n/\n<20/\lv k n=true/\E=zs k n x.b x.c/\k'=dD k n x.b x.c)\/0<E/\k'=k))\/
 (kd x [108,111,97,100]/\∃u,(a=u\/a=IntKind.i64.wrap u)/\lT x.b (vR x.b) k x.a (bG E) k'/\(E=0->u=xz k' x.a.toNat x.b.toNat))\/
 (kd x [115,116,111,114,101]/\lT x.b (xp x.b (IntKind.u8.wrap x.c)) k x.a (bG E) k')\/
 (kd x [108,105,109,105,116]/\nj true N k k')\/
 (kd x [116,105,99,107]/\∃m,Wf.Bc k.sc a m/\k'={k with sc:=m})\/
 (NK x/\Bb N k x k')
def AZ(k:Kp)(x:gD)(k':Kp):Prop:=
 (∃v,FJ k v k')\/k'=pd k x.a x.b\/(∃v,FA k v k')\/(∃A C E,uT k x.a A C E k')\/k'=pf k x.a x.b x.c\/(∃K E,uV k x.a x.b x.s K E k')\/(∃u,k'={k with fi:=Fx.lG k.fi u x.c})\/(∃v,tf k v k')\/(∃v,qQ k v k')\/(∃T E G,Tr.qs k.fo T E G/\k'={k with fo:=G})\/k'=k
theorem vQ.ot{N:Nat}{k k':Kp}{x:gD}{a E:Int}(n:NK x)(h:Bb N k x k'):vQ N k x a E k':= .inr (.inr (.inr (.inr (.inr (.inr ⟨n,h⟩)))))
section
variable {N:Nat}{d:Nat->Nat}{k k':Kp}{x:gD}
theorem KH.ot(h:KH N d k)(e:Bb N k x k'):KH (N+2) d k':=by
 have up:∀{M},KH M d k'->M<=N+2->KH (N+2) d k':=λg l=>g.more l;rcases e with⟨_,e⟩|⟨_,_,_,e⟩|e|⟨_,e⟩|⟨_,e⟩|⟨_,_,e⟩|⟨n,m,hn,l,e,rfl⟩|e|⟨_,e⟩|⟨_,e⟩|rfl
 .exact up (h.exit e) bu
 .exact up (h.wait e) bu
 .exact up (h.sig e) bu
 .exact up (h.dB e) bu
 .exact up (h.mu e) bu
 .exact up (h.Uw e) bu
 .exact up (h.fr hn l e) bu
 .exact up (h.sh e) bu
 .exact up (h.Ul e) bu
 .exact up (h.sle e) bu
 .exact up h bu
theorem KH.ac(h:KH N d k){a E:Int}(e:vQ N k x a E k'):∃d',KH (N+2) d' k':=by
 have up:∀{M},KH M d k'->M<=N+2->∃d',KH (N+2) d' k':=λg l=>⟨d,g.more l⟩;rcases e with⟨_,_,_,e⟩|⟨_,⟨n,_,hn,l,_,rfl⟩|⟨_,rfl⟩⟩|⟨_,_,_,e,_⟩|⟨_,e⟩|⟨_,e⟩|⟨_,_,_,rfl⟩|⟨_,e⟩
 .exact h.fork e
 .exact up (h.Oz hn l _ _) bu
 .exact up h bu
 .exact up (h.Tx (λg hn l e=>g.ld hn l e) e) bu
 .exact up (h.Tx (λg hn l e=>g.Uv hn l e) e) bu
 .exact up (h.sh e) bu
 .exact up (h.sc _) bu
 .exact⟨d,h.ot e⟩
theorem KH.di(h:KH N d k)(e:AZ k x k'):∃d',KH (N+2) d' k':=by
 have up:∀{M},KH M d k'->M<=N+2->∃d',KH (N+2) d' k':=λg l=>⟨d,g.more l⟩;rcases e with⟨_,e⟩|rfl|⟨_,e⟩|⟨_,_,_,e⟩|rfl|⟨_,_,e⟩|⟨u,rfl⟩|⟨_,e⟩|⟨_,e⟩|⟨_,_,_,e,rfl⟩|rfl
 .exact up (h.Oh e) bu
 .exact up (h.TY _ _) bu
 .exact up (h.dup e) bu
 .exact up (h.Uq e) bu
 .exact up (h.RJ _ _ _) bu
 .exact up (h.UA e) bu
 .exact up (h.Us _ _) bu
 .exact up (h.fo e) bu
 .exact up (h.tu e) bu
 .exact up (h.Ol e) bu
 .exact up h bu
end
end Kn
def vA(W:bD)(b:Nat)(n m e:Int)(t:bU):Prop:=W.heap[b]? =bh (bg #[aa az n,aa az m,aa az e,ak t] 38 (0,0))
theorem vA.lt{W:bD}{b:Nat}{n m e:Int}{t:bU}(h:vA W b n m e t):b<W.heap.size:=(aX.1 h).1
structure AW (UE:Nat)(s:St)(w:bD)(c:Nat)(s1:St)(n m:Int)(t:bU)(W:bD):Prop where
 kk:bH W UE s1
 kf:KF s w s1 W
 a4:vA W c 0 0 0 ⟨#[]⟩
 a5:vA W (c+1) n m 0 t
 n4:¬KB s1 c
 n5:¬KB s1 (c+1)
 ge:w.heap.size<=c
section
variable {UE c:Nat}{s s1 s2:St}{w W W2:bD}{n m:Int}{t:bU}
theorem AW.step(h:AW UE s w c s1 n m t W)(k:bH W2 UE s2)(f:KF s1 W s2 W2):AW UE s w c s2 n m t W2:=
 ⟨k,h.kf.trans f,(f.jm h.a4.lt h.n4).trans h.a4,(f.jm h.a5.lt h.n5).trans h.a5,f.apart h.a4.lt h.n4,f.apart h.a5.lt h.n5,h.ge⟩
theorem AW.set(h:AW UE s w c s1 n m t W)(j:Nat)(v:Value){n' m':Int}{t':bU}(e:vA (W.setCell ⟨c+1,j,bj⟩ v) (c+1) n' m' 0 t'):AW UE s w c s1 n' m' t' (W.setCell ⟨c+1,j,bj⟩ v):=by
 have f:bE (c+1) W (W.setCell ⟨c+1,j,bj⟩ v):=(bE.refl _ _).setCell _ _;exact⟨h.kk.fresh f h.n5,h.kf.fresh f (by have:=h.ge;omega),(f.block c h.a4.lt bu).trans h.a4,e,h.n4,h.n5,h.ge⟩
theorem AW.jT(h:AW UE s w c s1 n m t W)(x:Int):AW UE s w c s1 x m t (W.setCell ⟨c+1,0,bj⟩ (aa az x)):=h.set 0 _ (by unfold vA;rw[cE h.a5 0];rfl)
theorem AW.CZ(h:AW UE s w c s1 n m t W)(x:Int):AW UE s w c s1 n x t (W.setCell ⟨c+1,1,bj⟩ (aa az x)):=h.set 1 _ (by unfold vA;rw[cE h.a5 1];rfl)
theorem AW.lJ(h:AW UE s w c s1 n m t W)(x:bU):AW UE s w c s1 n m x (W.setCell ⟨c+1,3,bj⟩ (ak x)):=h.set 3 _ (by unfold vA;rw[cE h.a5 3];rfl)
theorem AW.below(h:AW UE s w c s1 n m t W)(b:Below W.heap.size W W2):AW UE s w c s1 n m t W2:=h.step (h.kk.below b) (KF.below b)
end
theorem vA.at{W:bD}{b:Nat}{n m e:Int}{t:bU}(h:vA W b n m e t)(j:Nat)(v:Value)(hv:(#[aa az n,aa az m,aa az e,ak t]:Array Value)[j]? =bh v):W.cell? ⟨b,j,bj⟩=bh v:=by rw[bO h];exact hv
theorem AW.fin{UE c:Nat}{s s1:St}{w W:bD}{n m:Int}{t:bU}(h:AW UE s w c s1 n m t W)(E:Int):bH (((((W.setCell ⟨c+1,2,bj⟩ (aa az E)).setCell ⟨c,0,bj⟩ (aa az n)).setCell ⟨c,1,bj⟩ (aa az m)).setCell ⟨c,2,bj⟩ (aa az E)).setCell ⟨c,3,bj⟩ (ak t)) UE s1/\KF s w s1 (((((W.setCell ⟨c+1,2,bj⟩ (aa az E)).setCell ⟨c,0,bj⟩ (aa az n)).setCell ⟨c,1,bj⟩ (aa az m)).setCell ⟨c,2,bj⟩ (aa az E)).setCell ⟨c,3,bj⟩ (ak t)):=by
 have f:bE (c+1) W (W.setCell ⟨c+1,2,bj⟩ (aa az E)):=(bE.refl _ _).setCell _ _;have g:bE c (W.setCell ⟨c+1,2,bj⟩ (aa az E)) (((((W.setCell ⟨c+1,2,bj⟩ (aa az E)).setCell ⟨c,0,bj⟩ (aa az n)).setCell ⟨c,1,bj⟩ (aa az m)).setCell ⟨c,2,bj⟩ (aa az E)).setCell ⟨c,3,bj⟩ (ak t)):=((((bE.refl _ _).setCell _ _).setCell _ _).setCell _ _).setCell _ _;have:=h.ge;exact⟨(h.kk.fresh f h.n5).fresh g h.n4,(h.kf.fresh f bu).fresh g h.ge⟩
def zD(W:bD)(b:Nat)(x:gD):Prop:=W.heap[b]? =bh (bg #[ak x.kind,aa az x.a,aa az x.b,aa az x.c,aa bd x.key,ar x.on,ak x.s,ak x.t] 29 (0,0))
theorem zD.at{W:bD}{b:Nat}{x:gD}(h:zD W b x)(j:Nat)(hj:j<8):W.cell? ⟨b,j,bj⟩=bh (x.cell j):=by
 rw[bO h]
 match j,hj with
 |0,_=>rfl
 |1,_=>rfl
 |2,_=>rfl
 |3,_=>rfl
 |4,_=>rfl
 |5,_=>rfl
 |6,_=>rfl
 |7,_=>rfl
theorem AW.start{UE:Nat}{s:St}{w:bD}(h:bH w UE s)(x:gD):AW UE s w (w.heap.size+1) s 0 0 ⟨#[]⟩ (((w.alloc (bg #[ak x.kind,aa az x.a,aa az x.b,aa az x.c,aa bd x.key,ar x.on,ak x.s,ak x.t] 29)).alloc (bg #[aa az 0,aa az 0,aa az 0,ak ⟨#[]⟩] 38)).alloc (bg #[aa az 0,aa az 0,aa az 0,ak ⟨#[]⟩] 38))/\zD (((w.alloc (bg #[ak x.kind,aa az x.a,aa az x.b,aa az x.c,aa bd x.key,ar x.on,ak x.s,ak x.t] 29)).alloc (bg #[aa az 0,aa az 0,aa az 0,ak ⟨#[]⟩] 38)).alloc (bg #[aa az 0,aa az 0,aa az 0,ak ⟨#[]⟩] 38)) w.heap.size x:=by
 have z1:(w.alloc (bg #[ak x.kind,aa az x.a,aa az x.b,aa az x.c,aa bd x.key,ar x.on,ak x.s,ak x.t] 29)).heap.size=w.heap.size+1:=by simp
 have z2:((w.alloc (bg #[ak x.kind,aa az x.a,aa az x.b,aa az x.c,aa bd x.key,ar x.on,ak x.s,ak x.t] 29)).alloc (bg #[aa az 0,aa az 0,aa az 0,ak ⟨#[]⟩] 38)).heap.size=w.heap.size+1+1:=by simp
 have b1:=(aQ w.heap.size w).alloc (aL _) (bg #[ak x.kind,aa az x.a,aa az x.b,aa az x.c,aa bd x.key,ar x.on,ak x.s,ak x.t] 29);have c2:=(aQ (w.alloc (bg #[ak x.kind,aa az x.a,aa az x.b,aa az x.c,aa bd x.key,ar x.on,ak x.s,ak x.t] 29)).heap.size (w.alloc (bg #[ak x.kind,aa az x.a,aa az x.b,aa az x.c,aa bd x.key,ar x.on,ak x.s,ak x.t] 29))).alloc (aL _) (bg #[aa az 0,aa az 0,aa az 0,ak ⟨#[]⟩] 38);have c3:=(aQ ((w.alloc (bg #[ak x.kind,aa az x.a,aa az x.b,aa az x.c,aa bd x.key,ar x.on,ak x.s,ak x.t] 29)).alloc (bg #[aa az 0,aa az 0,aa az 0,ak ⟨#[]⟩] 38)).heap.size ((w.alloc (bg #[ak x.kind,aa az x.a,aa az x.b,aa az x.c,aa bd x.key,ar x.on,ak x.s,ak x.t] 29)).alloc (bg #[aa az 0,aa az 0,aa az 0,ak ⟨#[]⟩] 38))).alloc (aL _) (bg #[aa az 0,aa az 0,aa az 0,ak ⟨#[]⟩] 38);have B:=b1.trans ((c2.trans (c3.mono (by rw[z1,z2];omega))).mono b1.size);have h1:=heap_alloc_new w (bg #[ak x.kind,aa az x.a,aa az x.b,aa az x.c,aa bd x.key,ar x.on,ak x.s,ak x.t] 29);have h2:=heap_alloc_new (w.alloc (bg #[ak x.kind,aa az x.a,aa az x.b,aa az x.c,aa bd x.key,ar x.on,ak x.s,ak x.t] 29)) (bg #[aa az 0,aa az 0,aa az 0,ak ⟨#[]⟩] 38)
 have h3:=heap_alloc_new ((w.alloc (bg #[ak x.kind,aa az x.a,aa az x.b,aa az x.c,aa bd x.key,ar x.on,ak x.s,ak x.t] 29)).alloc (bg #[aa az 0,aa az 0,aa az 0,ak ⟨#[]⟩] 38)) (bg #[aa az 0,aa az 0,aa az 0,ak ⟨#[]⟩] 38);rw[z1]at h2;rw[z2]at h3;exact⟨⟨h.below B,KF.below B,(c3.block _ (by rw[z2];omega)).trans h2,h3,h.ix bu,h.ix bu,bu⟩,(c3.block _ (by rw[z2];omega)).trans ((c2.block _ (by rw[z1];omega)).trans h1)⟩
theorem Mv.Px(m:Mv.Me)(a n:Int)(w:Bool):(Mv.mapM m a n w).fr=m.fr:=by unfold Mv.mapM;split<;>rfl
theorem Mv.P3(m:Mv.Me)(a n:Int)(w:Bool):(Mv.uq m a n w).fr=m.fr:=by unfold Mv.uq;split<;>rfl
theorem AW.TM{UE c:Nat}{s s1:St}{w W:bD}{n m:Int}{t:bU}(h:AW UE s w c s1 n m t W)(a b e:Int)(u:bU):bH ((((W.setCell ⟨c,0,bj⟩ (aa az a)).setCell ⟨c,1,bj⟩ (aa az b)).setCell ⟨c,2,bj⟩ (aa .i64 e)).setCell ⟨c,3,bj⟩ (ak u)) UE s1/\KF s w s1 ((((W.setCell ⟨c,0,bj⟩ (aa az a)).setCell ⟨c,1,bj⟩ (aa az b)).setCell ⟨c,2,bj⟩ (aa .i64 e)).setCell ⟨c,3,bj⟩ (ak u)):=
 have g:=((((bE.refl c W).setCell 0 (aa az a)).setCell 1 (aa az b)).setCell 2 (aa .i64 e)).setCell 3 (ak u)
 ⟨h.kk.fresh g h.n4,h.kf.fresh g h.ge⟩

import Derived.Test.YtpmmdkcfenjiaaaGreatDoorVbi
import Derived.Test.YtpmmdkcfenjiaaaGreatDoorVbj
set_option linter.unusedVariables false
set_option linter.unusedSimpArgs false
set_option maxRecDepth 100000
set_option maxHeartbeats 400000
namespace Go.Proofs.YtpmmdkcfenjiaaaGreatDoor
open Go.RowKit
open Fx (Fi)
open Tr (Fo Nd)
open Pp (Pi)
open Mo (Wh Mt)
open Mv (Me Bk)
open Kn (Pr Kp St us KB KJ VI EI KH)
namespace Kn
end Kn
theorem G5 (a:Option Addr)(b o n c:Nat)(m:Int)(ax:Nat->eQ)(w:bD)(hn:(n:Int)<=m)(hm:n<=1000)(ha:0<n->a=some ⟨b,o,none⟩)(h: ∀i,i<n-> ∀j,j<8->w.cell? ⟨b,o+i*8+j,none⟩=some ((ax i).cell j)):
  Calls Tryz.prog 10 #[.slice a n c, .int .i64 m] w fun e w'=> ∃v:Bool,e= .returned (.bool v)/\xT ax n 80 (.bool v)/\w'=w:=by
 have d:decide ((n:Int)<=m)=true:=by simp;omega
 have LT:=hZ (Eo a b o n c 80 ax w hm ha h);clear h ha;go_in
 go_wp2_with fail
 refine(yy _ _ _ _ _).mono ?_;rintro e w1 ⟨rfl,hw⟩;subst w1;rw[d];go_wp2_with fail
 refine LT.out.mono ?_;rintro e w1 ⟨v,rfl,ht,hw⟩;subst w1;have HT:=hZ ht;rcases ht with rfl|⟨rfl,_⟩
 ·go_wp2
  go_ret
  exact⟨false,rfl,HT.out,rfl⟩
 ·go_wp2
  go_ret
  exact⟨true,rfl,HT.out,rfl⟩
namespace Kn
section
variable {N : Nat} {d : Nat -> Nat} {k k' k1 : Kp} {n : Nat}
theorem xN (k:Kp)(n:Nat)(fd:Nat->Int): ∀j,(da k n fd j).gr=k.gr
 |0=>rfl
 |j+1=>by
  show(if fd j= -1 then da k n fd j else eS (iO (da k n fd j) (fd j)) n j (-1):Kp).gr=_;split
  ·exact xN k n fd j
  ·exact xN k n fd j
theorem zX {p:Nat->Pr}{f:Nat}: ∀M,(∀m,m<M->(p m).has=true-> ∀j,j<6->(p m).fd j≠(f:Int))->rJ p f M=0
 |0,_=>rfl
 |M+1,h=>by
  show rJ p f M+rW (p M) f=0;rw[zX M (fun m hm=>h m (by omega))];unfold rW;split
  ·rename_i hh;have a:=h M (by omega) hh;have z: ∀J,J<=6->fc (p M).fd f J=0:=fun J=>by
    induction J with
    |zero=>intro _;rfl
    |succ J ih=>
     intro hJ;show fc (p M).fd f J+(if(p M).fd J=(f:Int)then 1 else 0)=0;rw[ih (by omega),aI (a J (by omega))]
   rw[z 6 (aL _)]
  ·rfl
section
variable {L : Nat -> Nat} {rd : Nat -> Bool}
end
end
end Kn
open Kn (Pr Kp St us KB KJ VI EI KH)
namespace Kn
section
variable {N : Nat} {d : Nat -> Nat} {k k' k1 : Kp} {n : Nat} {L : Nat -> Nat} {rd : Nat -> Bool}
end
end Kn
namespace Kn
theorem Kp.same {a b:Kp}(h: ∀m,a.p m=b.p m)(hr:({a with p:=b.p}:Kp)=b):a=b:=by
 have e:a.p=b.p:=funext h;rw[<-hr,<-e]
theorem fD (k:Kp)(n:Nat)(x y:Pr):(k.put n x).put n y=k.put n y:=by
 unfold Kp.put;congr 1;funext m;by_cases c:m=n
 ·simp[c]
 ·simp[c]
section
variable {N : Nat} {d : Nat -> Nat} {k k' k1 : Kp} {n : Nat} {L : Nat -> Nat} {rd : Nat -> Bool}
theorem Nj (k:Kp)(n:Nat)(X:Nat->Sg.S1)(a m:Int):cN (ca k n X) n a m=ca (cN k n a m) n X:=by
 have e:(ca k n X).p n={k.p n with box:=X}:=ai _ _ _;unfold cN;rw[e];by_cases c:Mv.pC a m=0
 ·rw[aJ c,aJ c];unfold bR;rw[e];refine Kp.same (fun q=>?_) rfl;unfold ca;by_cases c:q=n
  ·subst c;rw[ai,ai];show _={((k.put q {k.p q with mem:=Mv.nA (k.p q).mem a m}).p q)with box:=X};rw[ai]
  ·rw[ao _ _ _ _ c,ao _ _ _ _ c,ao _ _ _ _ c];exact(ao k n q {k.p n with mem:=Mv.nA (k.p n).mem a m} c).symm
 ·rw[aI c,aI c]
theorem AV (k:Kp)(n:Nat)(X:Nat->Sg.S1)(fd:Nat->Int): ∀j,da (ca k n X) n fd j=ca (da k n fd j) n X
 |0=>rfl
 |j+1=>by
  have ih:=AV k n X fd j;show(if fd j= -1 then da (ca k n X) n fd j else eS (iO (da (ca k n X) n fd j) (fd j)) n j (-1):Kp)=ca (if fd j= -1 then da k n fd j else eS (iO (da k n fd j) (fd j)) n j (-1)) n X;by_cases c:fd j= -1
  ·rw[aJ c,aJ c];exact ih
  ·rw[aI c,aI c,ih];generalize da k n fd j=q;unfold eS ca;rw[ai];have e:(iO (q.put n {q.p n with box:=X}) (fd j)).p n={q.p n with box:=X}:=ai _ _ _;rw[e];have e2:iO (q.put n {q.p n with box:=X}) (fd j)=(iO q (fd j)).put n {q.p n with box:=X}:=rfl;rw[e2,fD,fD];rfl
theorem fL.box {X:Nat->Sg.S1}(h:fL (ca k n X) n k1):fL k n k1:=by
 obtain⟨m',dt,rfl⟩:=h;refine⟨m',dt,?_⟩;have e:(ca k n X).p n={k.p n with box:=X}:=ai _ _ _;unfold pY;dsimp only;rw[Nj,e,AV];generalize da (cN k n 0 16) n _ 6=q;have e2:(ca q n X).p n={q.p n with box:=X}:=ai _ _ _;rw[e2];have e3:({ca q n X with sc:=m'}:Kp)=({q with sc:=m'}:Kp).put n {q.p n with box:=X}:=rfl;rw[e3,fD]
theorem j7.box {X:Nat->Sg.S1}{c:Int}{z q:Nat}(e:j7 (ca k n X) n c z q k'):j7 k n c z q k':=by
 obtain⟨k1,k3,s1,mt,rfl⟩:=e;exact⟨k1,k3,s1.box,mt,rfl⟩
end
end Kn
namespace Kn
section
variable {N : Nat} {d : Nat -> Nat} {k k' k1 : Kp} {n : Nat} {L : Nat -> Nat} {rd : Nat -> Bool}
theorem EY (k:Kp)(n:Nat)(X:Nat->Sg.S1)(m:Nat):((ca k n X).p m).st=(k.p m).st/\((ca k n X).p m).par=(k.p m).par/\((ca k n X).p m).bP=(k.p m).bP/\((ca k n X).p m).fd=(k.p m).fd/\((ca k n X).p m).has=(k.p m).has/\((ca k n X).p m).code=(k.p m).code:=by
 unfold ca;by_cases c:m=n
 ·subst c;rw[ai];exact⟨rfl,rfl,rfl,rfl,rfl,rfl⟩
 ·rw[ao _ _ _ _ c];exact⟨rfl,rfl,rfl,rfl,rfl,rfl⟩
theorem KH.bx (kh:KH N d k)(n:Nat){X:Nat->Sg.S1}(hX:n<20->lv k n=true->hd k n≠n->Sg.dO X 0 0):KH N d (ca k n X):=
 kh.jd (kh.ki.box n hX) rfl (fun m=>⟨(EY k n X m).1,(EY k n X m).2.1⟩)
end
end Kn
namespace Kn
section
variable {N n y q : Nat} {d : Nat -> Nat} {k k' : Kp} {z : Int} {v : Value} {E : Int}
theorem KH.Qa (h:KH N d k)(hn:n<20)(n0:n≠0)(l:lv k n=true)(yq:YQ k n y q){X:Nat->Sg.S1}(e:tH (ca k n X) n y q k'):KH N d k':=by
 obtain⟨m,f,⟨rfl,rfl⟩|⟨_,e⟩⟩:=e
 ·have f:Sg.dO ((ca k n X).p n).box 0 0:=f;unfold ca at f;rw[ai]at f;exact h.bx n (fun _ _ _=>f)
 ·exact h.end hn n0 l yq.1 (yq.2 n0) e.box
theorem KH.OX (h:KH N d k)(hn:n<20)(l:lv k n=true)(yq:YQ k n y q){X:Nat->Sg.S1}(e:mQ (ca k n X) n y q k'):KH N d k':=by
 have eh:hd (ca k n X) n=hd k n:=rfl;rcases e with⟨a,rfl⟩|⟨a,e⟩
 ·rw[eh]at a;exact h.bx n (fun _ _ c=>aZ a c)
 ·rw[eh]at a;exact h.Qa hn (fun e0=>by subst e0;exact a h.ki.h0) l yq e
theorem KH.dc (h:KH N d k){c:Int}{on:Bool}(e:tM k z c on E k'):KH N d k':=by
 rcases e with⟨_,_,rfl⟩|⟨a,n,rfl,hn,_,⟨e,rfl⟩|⟨_,y,q,yq,e⟩⟩
 ·exact h
 ·unfold Sg.lr;rw[aI e];exact h.bx n (fun _ l hd=>h.ki.fi n hn l hd)
 ·exact h.OX hn (lD a) yq e
theorem KH.lN (h:KH N d k){c o:Int}(e:wg k z c o E k'):KH N d k':=by
 rcases e with⟨_,_,rfl⟩|⟨a,n,rfl,hn,_,⟨e,rfl⟩|⟨_,y,q,yq,e⟩⟩
 ·exact h
 ·unfold Sg.kH;rw[aI e];exact h.bx n (fun _ l hd=>h.ki.fi n hn l hd)
 ·exact h.OX hn (lD a) yq e
theorem Bj {p c:Int}(a:nQ k z p c=0):dP k z p=0/\p≠1:=by
 unfold nQ at a;by_cases c1:dP k z p=0
 ·rw[aJ c1]at a;refine⟨c1,fun c2=>?_⟩;by_cases c3:c<1\/8<c
  ·rw[aJ c3]at a;omega
  ·rw[aI c3,aJ c2]at a;omega
 ·rw[aI c1]at a;exact aZ a c1
theorem KH.sig (h:KH N d k){p c:Int}(e:ph k z p c k'):KH N d k':=by
 rcases e with⟨_,rfl⟩|⟨a,y,q,yq,e⟩
 ·exact h
 ·have s0:=Bj a;exact h.Qa (tB (fun z p=>h.ki.vi.iv.nS z p) z p) (h.ki.vi.J4 s0.1 s0.2) (ye s0.1) yq e
theorem KH.Rc (h:KH N d k){m:Nat}(e:zp k z m E k'):KH N d k':=by
 rcases e with⟨_,_,_,rfl⟩|⟨_,n,j,rfl,hn,_,rfl,_⟩
 ·exact h
 ·exact h.bx n (fun _ l hd=>IY j (h.ki.fi n hn l hd))
theorem KH.Q8 (h:KH N d k){f:Int}{t:bU}{K:Nat}(e:tU k z f t K E k'):KH N d k':=by
 rcases e with⟨_,_,_,rfl⟩|⟨_,n,g,rfl,rfl,hn,hg,l,_,_,⟨_,rfl⟩|⟨_,y,q,e,o,p⟩⟩
 ·exact h
 ·exact h.zd _ _
 ·exact(h.zd ((k.p n).fd g) t).OX hn l ⟨o,fun n0=>(p n0).2.2⟩ e
theorem KH.sc (h:KH N d k)(m:Wf.M):KH N d {k with sc:=m}:=
 h.jd ⟨⟨h.ki.vi.kj.nX m,h.ki.vi.iv,h.ki.vi.hs⟩,h.ki.fi,h.ki.pr,h.ki.h0⟩ rfl (fun _=>⟨rfl,rfl⟩)
theorem KH.sle (h:KH N d k){on:Bool}(e:Ei k z on v k'):KH N d k':=by
 obtain⟨_,m,_,⟨_,w⟩|rfl,rfl⟩:=e
 ·exact h.sc _
 ·exact h
theorem KH.mem (h:KH N d k)(hn:n<20)(l:lv k n=true){m:Me}{b:Bk}(w:Mv.eZ b 20 (Mv.jc (fun n=>(k.p n).mem) n m)):KH N d (bR k n m b):=by
 have e: ∀j,((bR k n m b).p j).st=(k.p j).st/\((bR k n m b).p j).par=(k.p j).par/\((bR k n m b).p j).box=(k.p j).box:=fun j=>by
  by_cases c:j=n
  ·subst c;rw[nC];exact⟨rfl,rfl,rfl⟩
  ·rw[show(bR k n m b).p j=k.p j from ao _ _ _ _ c];exact⟨rfl,rfl,rfl⟩
 have lv': ∀j,lv (bR k n m b) j=lv k j:=fun j=>by unfold lv;rw[(e j).1]
 refine h.jd ⟨⟨h.ki.vi.kj.bR hn (h.ki.vi.kj.lv n hn (fun x=>x) (cW.1 l)) w,h.ki.vi.iv,h.ki.vi.hs⟩,fun j hj lj hd=>?_,fun j hj j0 s=>?_,h.ki.h0⟩ rfl (fun j=>⟨(e j).1,(e j).2.1⟩)
 ·rw[(e j).2.2];rw[lv']at lj;exact h.ki.fi j hj lj hd
 ·rw[(e j).1]at s;rw[(e j).2.1];exact h.ki.pr j hj j0 s
theorem KH.fr (h:KH N d k)(hn:n<20)(l:lv k n=true){m:Me}(e:m.fr=(k.p n).mem.fr):KH N d (bR k n m k.bk):=
 h.mem hn l (h.ki.vi.kj.me.congr (fun i _ x _=>by
  by_cases c:i=n
  ·subst c;rw[Mv.fp,e]
  ·rw[Mv.ic _ _ _ _ c]))
theorem KH.KZ (h:KH N d k)(hn:n<20)(l:lv k n=true)(a m:Int):KH N d (cN k n a m):=by
 unfold cN;by_cases c:Mv.pC a m=0
 ·rw[aJ c];have w:Mv.eZ (Mv.nG (k.p n).mem k.bk a m) 20 (Mv.jc (fun n=>(k.p n).mem) n (Mv.nA (k.p n).mem a m)):=by
   unfold Mv.pC at c;unfold Mv.nG Mv.nA;cases hb:Mv.jS a m
   ·obtain⟨x,j,rfl,rfl,hx,h1,h2⟩:=Mv.sN hb;rw[aI (by decide),aI (by decide),hU,hU];exact h.ki.vi.kj.me.Le (i:=n) hn j h2
   ·rw[hb,aJ rfl]at c;omega
  obtain⟨Wy,g⟩:=h.ki.vi.kj.gr;exact(h.mem hn l w).gr (aL _) ⟨Wy,mu g _ _ _⟩
 ·rw[aI c];exact h
theorem KH.ld (h:KH N d k)(hn:n<20)(l:lv k n=true){a:Int}(e:uX a k n E k'):KH N d k':=by
 obtain⟨g,m,b,t,rfl⟩:=e;exact h.mem hn l (h.ki.vi.kj.me.Ls hn t).1
theorem KH.QR (h:KH N d k)(hn:n<20)(l:lv k n=true){a u:Int}(e:wZ a u k n E k'):KH N d k':=by
 obtain⟨g,m,b,t,rfl⟩:=e;have w:=(h.ki.vi.kj.me.Ls hn t).1;refine h.mem hn l ?_;split
 ·exact w.bytes _
 ·exact w
theorem KH.Gi {D:Kp->Nat->Int->Kp->Prop}(hD: ∀{M k n E k'},KH M d k->n<20->lv k n=true->D k n E k'->KH M d k')(h:KH N d k){a:Int}(e:kD a D k z v k'):KH (N+1) d k':=by
 have M:=h.more (Nat.le_succ N);obtain⟨E,_,⟨_,rfl⟩|⟨n,rfl,hn,l,⟨_,e⟩|⟨_,E1,k1,c,⟨_,_,rfl⟩|⟨rfl,k2,e,r⟩⟩⟩⟩:=e
 ·exact M
 ·exact hD M hn l e
 ·exact h.LH c
 ·have l1:lv k1 n=true:=by
   obtain⟨_,_,_,⟨q,_,_,_,_,rfl⟩|⟨q,_⟩⟩:=c
   ·exact q
   ·cases q
  have g:=hD (h.LH c) hn l1 e;rcases r with⟨_,rfl⟩|⟨_,rfl⟩
  ·exact g
  ·obtain⟨Wy,t⟩:=g.ki.vi.kj.gr;exact g.gr (aL _) ⟨Wy,mu t _ _ _⟩
theorem KH.fg (h:KH N d k){G:Fo}(g:FG k G):KH N d {k with fo:=G}:=h.fx (aL _) g.2 h.ki.vi.kj.rf g.1
theorem KH.fo (h:KH N d k)(e:sW k v k'):KH N d k':=by obtain⟨_,G,_,g,rfl⟩:=e;exact h.fg g
theorem KH.tu (h:KH N d k)(e:rQ k v k'):KH N d k':=by
 obtain⟨_,_,rfl|⟨y,T,F,y6,yt,g,rfl⟩⟩:=e
 ·exact h
 ·exact h.jd ⟨⟨h.ki.vi.kj.Q3 y6 yt g,h.ki.vi.iv,h.ki.vi.hs⟩,h.ki.fi,h.ki.pr,h.ki.h0⟩ rfl (fun _=>⟨rfl,rfl⟩)
theorem KH.QO (h:KH N d k)(u a:Int):KH N d {k with fi:=Fx.kG k.fi u a}:=by
 have j:=h.ki.vi.kj;unfold Fx.kG;split
 ·rename_i c;have c1:Fx.cE k.fi u=0/\0<=a/\a<=40:=by
   unfold Fx.dP at c;by_cases e:Fx.cE k.fi u=0
   ·rw[aI (fun x=>x e)]at c;split at c
    ·omega
    ·split at c
     ·omega
     ·exact⟨e,by omega,by omega⟩
   ·rw[aJ e]at c;exact aZ c e
  obtain⟨n,rfl,hn,r⟩:=Fx.jz c1.1;rw[hU];refine h.fx (aL _) (j.wx.jE hn r _ r rfl rfl (by show a.toNat<=40;omega)) (fun m hm=>?_) j.ok;by_cases e:m=n
  ·subst e;rw[Fx.ai];exact j.rf m hm
  ·rw[Fx.ao _ _ _ _ e];exact j.rf m hm
 ·exact h
theorem KH.dup (h:KH N d k)(e:Er k v k'):KH (N+1) d k':=by
 obtain⟨_,_,_,rfl|⟨n,f,g,hn,_,_,_,_,_,rfl⟩⟩:=e
 ·exact h.more (Nat.le_succ _)
 ·have q:=F8 h.ki.vi.kj.wx ((k.p n).fd g);exact(h.fx (T:=Fx.iV k.fi ((k.p n).fd g)) (F:=k.fo) (S:=k.pi) (Nat.le_succ _) q.1 (fun m hm=>by have:=q.2 m;have:=h.ki.vi.kj.rf m hm;omega) h.ki.vi.kj.ok).fd n f _
theorem KH.FU (h:KH N d k)(e:E9 k v k'):KH (N+1) d k':=by
 obtain⟨_,_,_,G,g,rfl|⟨n,f,K,z,wr,T,F,hn,_,_,_,t,rfl⟩⟩:=e
 ·exact(h.fg g).more (Nat.le_succ _)
 ·rcases t with⟨a,_,b,_⟩|⟨_,_,_,b,_⟩|⟨a,_,lo,_,rfl,rfl⟩
  ·exact aZ b.symm a
  ·cases b
  ·obtain⟨m,rfl,m40,_⟩:=Tr.dY a;rw[hU];refine(h.fx (Nat.le_succ _) (g.2.node lo a) (fun j hj=>?_) (g.1.dc _)).fd n f _;by_cases c:j=K
   ·subst c;rw[Fx.ai];show 1<=_;omega
   ·rw[Fx.ao _ _ _ _ c];have:=h.ki.vi.kj.rf j hj;omega
theorem KH.sh (h:KH N d k){li:Bool}(e:DP li N k k'):KH N d k':=by
 obtain⟨t,m,_,g,_,rfl⟩:=e;exact(h.gr (aL _) g).sc _
theorem KH.Lw (h:KH N d k){T:Nat}{G:Fo}(e:Tr.tJ k.fo T E G):KH N d {k with fo:=G}:=by
 have j:=h.ki.vi.kj;refine h.fg ⟨j.ok.Lw e,?_⟩;rcases e with⟨_,_,_,rfl⟩|⟨_,n,e,hf,⟨_,_,_,rfl⟩|⟨e0,_,_,rfl⟩⟩
 ·exact j.wx
 ·exact j.wx
 ·rcases hf with⟨_,n40,n0,_⟩|⟨q,_⟩
  ·have z:=j.wx.z0 n n40 n0;have p: ∀m,(Tr.xZ k.fo n).nd m=if m=n then dS 2 k.fo.trees n else k.fo.nd m:=fun m=>by
    by_cases c:m=n
    ·subst c;rw[aJ rfl];exact Tr.ai _ _ _
    ·rw[aI c];exact Tr.ao _ _ _ _ c
   refine j.wx.qt (fun m _=>?_) (fun m _ hm=>?_) (fun m hm k0=>?_)
   ·rw[p m];split
    ·rename_i c;rw[c,z];rfl
    ·rfl
   ·rw[p m,aI (fun c=>hm (by rw[c];exact z))]
   ·rw[p m]at k0|-;split
    ·rfl
    ·rename_i c;rw[aI c]at k0;exact j.wx.z0 m hm k0
  ·omega
theorem KH.bP (h:KH N d k)(n:Nat)(g:Int):KH N d (k.put n {k.p n with bP:=g}):=by
 have e: ∀m,((k.put n {k.p n with bP:=g}).p m).st=(k.p m).st/\((k.put n {k.p n with bP:=g}).p m).par=(k.p m).par/\((k.put n {k.p n with bP:=g}).p m).box=(k.p m).box:=fun m=>by
  by_cases c:m=n
  ·subst c;rw[ai];exact⟨rfl,rfl,rfl⟩
  ·rw[ao _ _ _ _ c];exact⟨rfl,rfl,rfl⟩
 have l: ∀m,lv (k.put n {k.p n with bP:=g}) m=lv k m:=fun m=>by unfold lv;rw[(e m).1]
 refine h.jd ⟨⟨h.ki.vi.kj.AR rfl rfl rfl,h.ki.vi.iv,h.ki.vi.hs⟩,fun m hm lm hm2=>?_,fun m hm m0 s=>?_,h.ki.h0⟩ rfl (fun m=>⟨(e m).1,(e m).2.1⟩)
 ·rw[(e m).2.2];rw[l]at lm;exact h.ki.fi m hm lm hm2
 ·rw[(e m).1]at s;rw[(e m).2.1];exact h.ki.pr m hm m0 s
theorem KH.QZ (h:KH N d k){g:Int}(e:Kq k z g v k'):KH (N+1) d k':=by
 obtain⟨_,_,rfl|⟨n,Wy,m,rfl,hn,l,w,e,_,rfl⟩⟩:=e
 ·exact h.more (Nat.le_succ _)
 ·obtain⟨Wz,t⟩:=h.ki.vi.kj.gr;have t1:Gr.Tree (Gr.BG k.gr Wy (k.p n).bP g 1 (Mv.gB (k.p n).mem 16:Int)) Wy (N+1):=by
   unfold Gr.BG;rw[aJ e];exact oL (mu (uH t w) _ _ _) _ _ _ (by omega) (by have:=YtpmmdkcfenjiaaaGreatDoor.qp (k.p n).mem 16;omega)
  exact((h.gr (Nat.le_succ _) ⟨Wy,t1⟩).sc _).bP n g
end
end Kn
namespace Kn
def kd (x:eQ)(l:List UInt8):Prop:=(x.kind.toList==l)=true
def wk:List (List UInt8):=[[102,111,114,107],[117,110,109,97,112],[108,111,97,100],[115,116,111,114,101],[108,105,109,105,116],[116,105,99,107]]
def NK (x:eQ):Prop:= ∀l∈wk,(x.kind.toList==l)=false
theorem NK.of {x:eQ}{l:List UInt8}(h:kd x l)(n:(wk.all fun m=> !(l==m))=true):NK x:=fun m hm=>by
 rw[eq_of_beq h];simpa using List.all_eq_true.1 n m hm
def uJ (N:Nat)(k:Kp)(x:eQ)(k':Kp):Prop:=
 (kd x [101,120,105,116]/\nV k x.a x.b k')\/(∃p c E,rh k x.a p c E k')\/ph k x.a x.b x.c k'\/(∃E,tM k x.a x.b x.on E k')\/(∃E,wg k x.a x.b x.c E k')\/(∃m E,zp k x.a m E k')\/
 (∃n m,n<20/\lv k n=true/\m.fr=(k.p n).mem.fr/\k'=bR k n m k.bk)\/DP false N k k'\/(∃v,Kq k x.a x.b v k')\/(∃v,Ei k x.a x.on v k')\/k'=k
def rU (N:Nat)(k:Kp)(x:eQ)(a E:Int)(k':Kp):Prop:=
 (kd x [102,111,114,107]/\ ∃p:Nat,a=p/\mN k x.a x.on p E k')\/
 (kd x [117,110,109,97,112]/\((∃n:Nat,x.a=n/\n<20/\lv k n=true/\E=ym k n x.b x.c/\k'=cN k n x.b x.c)\/E≠0/\k'=k))\/
 (kd x [108,111,97,100]/\ ∃u,(a=u\/a=IntKind.i64.wrap u)/\kD x.b (uX x.b) k x.a (aq E) k'/\(E=0->u=w9 k' x.a.toNat x.b.toNat))\/
 (kd x [115,116,111,114,101]/\kD x.b (wZ x.b (IntKind.u8.wrap x.c)) k x.a (aq E) k')\/
 (kd x [108,105,109,105,116]/\DP true N k k')\/
 (kd x [116,105,99,107]/\ ∃m,Wf.Ap k.sc a m/\k'={k with sc:=m})\/
 (NK x/\uJ N k x k')
def sK (k:Kp)(x:eQ)(k':Kp):Prop:=
 (∃v,E9 k v k')\/k'=mR k x.a x.b\/(∃v,Er k v k')\/(∃A C E,ti k x.a A C E k')\/k'=mP k x.a x.b x.c\/(∃K E,tU k x.a x.b x.s K E k')\/(∃u,k'={k with fi:=Fx.kG k.fi u x.c})\/(∃v,sW k v k')\/(∃v,rQ k v k')\/(∃T E G,Tr.tJ k.fo T E G/\k'={k with fo:=G})\/k'=k
theorem rU.ot {N:Nat}{k k':Kp}{x:eQ}{a E:Int}(n:NK x)(h:uJ N k x k'):rU N k x a E k':= .inr (.inr (.inr (.inr (.inr (.inr ⟨n,h⟩)))))
section
variable {N : Nat} {d : Nat -> Nat} {k k' : Kp} {x : eQ}
theorem KH.ot (h:KH N d k)(e:uJ N k x k'):KH (N+2) d k':=by
 have up: ∀{M},KH M d k'->M<=N+2->KH (N+2) d k':=fun g l=>g.more l;rcases e with⟨_,e⟩|⟨_,_,_,e⟩|e|⟨_,e⟩|⟨_,e⟩|⟨_,_,e⟩|⟨n,m,hn,l,e,rfl⟩|e|⟨_,e⟩|⟨_,e⟩|rfl
 ·exact up (h.exit e) (by omega)
 ·exact up (h.wait e) (by omega)
 ·exact up (h.sig e) (by omega)
 ·exact up (h.dc e) (by omega)
 ·exact up (h.lN e) (by omega)
 ·exact up (h.Rc e) (by omega)
 ·exact up (h.fr hn l e) (by omega)
 ·exact up (h.sh e) (by omega)
 ·exact up (h.QZ e) (by omega)
 ·exact up (h.sle e) (by omega)
 ·exact up h (by omega)
theorem KH.ac (h:KH N d k){a E:Int}(e:rU N k x a E k'): ∃d',KH (N+2) d' k':=by
 have up: ∀{M},KH M d k'->M<=N+2-> ∃d',KH (N+2) d' k':=fun g l=>⟨d,g.more l⟩;rcases e with⟨_,_,_,e⟩|⟨_,⟨n,_,hn,l,_,rfl⟩|⟨_,rfl⟩⟩|⟨_,_,_,e,_⟩|⟨_,e⟩|⟨_,e⟩|⟨_,_,_,rfl⟩|⟨_,e⟩
 ·exact h.fork e
 ·exact up (h.KZ hn l _ _) (by omega)
 ·exact up h (by omega)
 ·exact up (h.Gi (fun g hn l e=>g.ld hn l e) e) (by omega)
 ·exact up (h.Gi (fun g hn l e=>g.QR hn l e) e) (by omega)
 ·exact up (h.sh e) (by omega)
 ·exact up (h.sc _) (by omega)
 ·exact⟨d,h.ot e⟩
theorem KH.di (h:KH N d k)(e:sK k x k'): ∃d',KH (N+2) d' k':=by
 have up: ∀{M},KH M d k'->M<=N+2-> ∃d',KH (N+2) d' k':=fun g l=>⟨d,g.more l⟩;rcases e with⟨_,e⟩|rfl|⟨_,e⟩|⟨_,_,_,e⟩|rfl|⟨_,_,e⟩|⟨u,rfl⟩|⟨_,e⟩|⟨_,e⟩|⟨_,_,_,e,rfl⟩|rfl
 ·exact up (h.FU e) (by omega)
 ·exact up (h.QC _ _) (by omega)
 ·exact up (h.dup e) (by omega)
 ·exact up (h.Rb e) (by omega)
 ·exact up (h.O1 _ _ _) (by omega)
 ·exact up (h.Q8 e) (by omega)
 ·exact up (h.QO _ _) (by omega)
 ·exact up (h.fo e) (by omega)
 ·exact up (h.tu e) (by omega)
 ·exact up (h.Lw e) (by omega)
 ·exact up h (by omega)
end
end Kn
namespace Gr
def gt (t t':Nat->Gp):Prop:= ∀g,(t' g).there=(t g).there/\(t' g).par=(t g).par/\(t' g).lp=(t g).lp/\(t' g).lq=(t g).lq
section
variable {t t' u : Nat -> Gp}
theorem gt.refl (t:Nat->Gp):gt t t:=fun _=>⟨rfl,rfl,rfl,rfl⟩
theorem gt.trans (h:gt t t')(k:gt t' u):gt t u:=fun g=>⟨(k g).1.trans (h g).1,(k g).2.1.trans (h g).2.1,(k g).2.2.1.trans (h g).2.2.1,(k g).2.2.2.trans (h g).2.2.2⟩
theorem gt.add (t:Nat->Gp)(n:Nat)(p q:Int):gt t (lV t n p q):=fun g=>by
 unfold lV;by_cases c:g=n
 ·subst c;rw[iJ];exact⟨rfl,rfl,rfl,rfl⟩
 ·rw[mF _ _ _ _ c];exact⟨rfl,rfl,rfl,rfl⟩
theorem gt.BC (t:Nat->Gp)(n p q:Int):gt t (gA t n p q):=by
 unfold gA;split
 ·exact gt.add _ _ _ _
 ·exact gt.refl _
theorem gt.yu (t:Nat->Gp)(Wy:Nat->List (Fin 10))(n p q:Int):gt t (iR t Wy n p q):=by
 unfold iR;split
 ·exact gt.add _ _ _ _
 ·exact gt.refl _
theorem gt.Io (t:Nat->Gp)(Wy:Nat->List (Fin 10))(f g p q:Int):gt t (BG t Wy f g p q):=by
 unfold BG;by_cases c:Jp t Wy f g p q=0
 ·rw[aJ c];exact(gt.BC _ _ _ _).trans (gt.yu _ _ _ _ _)
 ·rw[aI c];exact gt.refl _
end
end Gr
namespace Kn
structure SC (k k':Kp):Prop where
 sp:k'.sp=k.sp
 gr:k'.gr=k.gr
 bk:k'.bk=k.bk
 sc:k'.sc=k.sc
 p: ∀m,(k'.p m).st=(k.p m).st/\(k'.p m).par=(k.p m).par/\(k'.p m).bP=(k.p m).bP/\(k'.p m).mem=(k.p m).mem
section
variable {N n y q : Nat} {d : Nat -> Nat} {k k' k1 k2 : Kp} {x : eQ}
theorem SC.pl (a:k'.sp=k.sp)(b:k'.gr=k.gr)(c:k'.bk=k.bk)(e:k'.sc=k.sc)(f:k'.p=k.p):SC k k':=⟨a,b,c,e,fun m=>by rw[f];exact⟨rfl,rfl,rfl,rfl⟩⟩
theorem SC.refl (k:Kp):SC k k:=SC.pl rfl rfl rfl rfl rfl
theorem SC.trans (h:SC k k1)(g:SC k1 k2):SC k k2:=⟨g.sp.trans h.sp,g.gr.trans h.gr,g.bk.trans h.bk,g.sc.trans h.sc,fun m=>⟨(g.p m).1.trans (h.p m).1,(g.p m).2.1.trans (h.p m).2.1,(g.p m).2.2.1.trans (h.p m).2.2.1,(g.p m).2.2.2.trans (h.p m).2.2.2⟩⟩
theorem SC.put (k:Kp)(n:Nat){x:Pr}(e:x.st=(k.p n).st/\x.par=(k.p n).par/\x.bP=(k.p n).bP/\x.mem=(k.p n).mem):SC k (k.put n x):=⟨rfl,rfl,rfl,rfl,fun m=>by
 by_cases c:m=n
 ·subst c;rw[ai];exact e
 ·rw[ao _ _ _ _ c];exact⟨rfl,rfl,rfl,rfl⟩⟩
theorem SC.fd (k:Kp)(n f:Nat)(v:Int):SC k (eS k n f v):=SC.put k n ⟨rfl,rfl,rfl,rfl⟩
theorem SC.box (k:Kp)(n:Nat)(X:Nat->Sg.S1):SC k (ca k n X):=SC.put k n ⟨rfl,rfl,rfl,rfl⟩
def LF (k:Kp)(n:Nat)(k':Kp):Prop:= ∃(c:Int) (y q:Nat),n<20/\n≠0/\lv k n=true/\k.sp.of n=y+1/\(k.p n).par=(q:Int)/\j7 k n c y q k'
def Qb (k:Kp)(n:Nat)(k':Kp):Prop:= ∃m:Nat,m<20/\m≠0/\(k.p m).par=(n:Int)/\(k.p m).st=2/\gW 6 k m k'
theorem KH.KU (h:KH N d k)(hn:n<20)(l:lv k n=true)(yq:YQ k n y q){X:Nat->Sg.S1}(e:mQ (ca k n X) n y q k'):SC k k'\/hd k n≠n/\LF k n k':=by
 rcases e with⟨_,rfl⟩|⟨a,m,_,⟨_,rfl⟩|⟨_,e⟩⟩
 ·exact .inl (SC.box k n X)
 ·exact .inl (SC.box k n X)
 ·have a:hd k n≠n:=a;have n0:n≠0:=fun e0=>by subst e0;exact a h.ki.h0
  exact .inr ⟨a,_,y,q,hn,n0,l,yq.1,yq.2 n0,e.box⟩
theorem sK.cl (h:KH N d k)(e:sK k x k'):SC k k'\/ ∃(n:Nat) (k1:Kp),x.a=n/\SC k k1/\KH N d k1/\hd k n≠n/\LF k1 n k':=by
 rcases e with⟨_,_,_,_,G,_,rfl|⟨n,f,K,z,wr,T,F,_,_,_,_,_,rfl⟩⟩|rfl|⟨_,_,_,_,rfl|⟨n,f,g,_,_,_,_,_,_,rfl⟩⟩|⟨A,C,E,e⟩|rfl|⟨K,E,e⟩|⟨u,rfl⟩|⟨_,_,_,_,_,rfl⟩|⟨_,_,_,rfl|⟨y,T,F,_,_,_,rfl⟩⟩|⟨_,_,_,_,rfl⟩|rfl
 ·exact .inl (SC.pl rfl rfl rfl rfl rfl)
 ·exact .inl ((SC.pl (k:=k) (k':=ix k T F k.pi) rfl rfl rfl rfl rfl).trans (SC.fd _ _ _ _))
 ·unfold mR;split
  ·exact .inl ((SC.fd k x.a.toNat x.b.toNat (-1)).trans (SC.pl rfl rfl rfl rfl rfl))
  ·exact .inl (SC.refl _)
 ·exact .inl (SC.refl _)
 ·exact .inl ((SC.fd k n f ((k.p n).fd g)).trans (SC.pl rfl rfl rfl rfl rfl))
 ·rcases e with⟨_,_,_,_,rfl⟩|⟨_,n,_,_,⟨_,_,_,_,rfl⟩|⟨_,a,c,T,S,_,⟨_,_,_,rfl⟩|⟨_,_,_,rfl⟩⟩⟩
  ·exact .inl (SC.refl _)
  ·exact .inl (SC.refl _)
  ·exact .inl (SC.pl rfl rfl rfl rfl rfl)
  ·exact .inl ((SC.pl (k:=k) (k':=ix k T k.fo S) rfl rfl rfl rfl rfl).trans ((SC.fd _ _ _ _).trans (SC.fd _ _ _ _)))
 ·unfold mP;split
  ·exact .inl (SC.pl rfl rfl rfl rfl rfl)
  ·exact .inl (SC.refl _)
 ·rcases e with⟨_,_,_,rfl⟩|⟨_,n,g,xa,_,hn,_,l,_,_,⟨_,rfl⟩|⟨_,y,q,e,o,p⟩⟩
  ·exact .inl (SC.refl _)
  ·exact .inl (SC.pl rfl rfl rfl rfl rfl)
  ·have s1:SC k (pX k ((k.p n).fd g) x.s):=SC.pl rfl rfl rfl rfl rfl;have kh:=h.zd ((k.p n).fd g) x.s;rcases kh.KU hn l ⟨o,fun n0=>(p n0).2.2⟩ e with e|⟨a,e⟩
   ·exact .inl (s1.trans e)
   ·exact .inr ⟨n,_,xa,s1,kh,a,e⟩
 ·exact .inl (SC.pl rfl rfl rfl rfl rfl)
 ·exact .inl (SC.pl rfl rfl rfl rfl rfl)
 ·exact .inl (SC.refl _)
 ·exact .inl (SC.pl rfl rfl rfl rfl rfl)
 ·exact .inl (SC.pl rfl rfl rfl rfl rfl)
 ·exact .inl (SC.refl _)
def P8 (k:Kp)(x:eQ)(n:Nat):Prop:=x.a=(n:Int)/\(kd x [101,120,105,116]\/hd k n≠n)\/dP k x.a x.b=0/\x.b≠1/\n=fB k x.a x.b
theorem uJ.cl (h:KH N d k)(e:uJ N k x k'):SC k k'\/(∃n,LF k n k'/\P8 k x n)\/(∃n:Nat,x.a=n/\Qb k n k')\/(∃n m,n<20/\lv k n=true/\m.fr=(k.p n).mem.fr/\k'=bR k n m k.bk)\/DP false N k k'\/(∃v,Kq k x.a x.b v k')\/(∃m,SG k m/\k'={k with sc:=m}):=by
 rcases e with⟨t,e⟩|⟨_,_,_,e⟩|e|⟨_,e⟩|⟨_,e⟩|⟨_,_,e⟩|e|e|e|⟨_,e⟩|rfl
 ·rcases e with⟨_,rfl⟩|⟨_,n,y,q,xa,hn,n0,l,oy,_,_,hp,et⟩
  ·exact .inl (SC.refl _)
  ·exact .inr (.inl ⟨n,⟨_,y,q,hn,n0,l,oy,hp,et⟩, .inl ⟨xa, .inl t⟩⟩)
 ·rcases e with⟨_,_,_,_,rfl⟩|⟨a,n,xa,hn,⟨_,_,_,_,rfl⟩|⟨_,_,_,_,_,rfl⟩|⟨_,i,m,hi,lm,_,_,_,v⟩⟩
  ·exact .inl (SC.refl _)
  ·exact .inl (SC.refl _)
  ·exact .inl (SC.refl _)
  ·rw[xa]at a;obtain⟨m20,m0,mp,ms,_,_⟩:=h.DS hn (lD a) (bK hi);have m2:(k.p m).st=2:=by
    have:=h.ki.vi.kj.st m m20;have:(k.p m).st≠1:=fun e=>by rw[cW.2 e]at lm;cases lm
    omega
   exact .inr (.inr (.inl ⟨n,xa,m,m20,m0,mp,m2,v⟩))
 ·rcases e with⟨_,rfl⟩|⟨a,y,q,yq,m,_,⟨_,rfl⟩|⟨_,e⟩⟩
  ·exact .inl (SC.refl _)
  ·exact .inl (SC.box _ _ _)
  ·have s0:=Bj a;have n0:=h.ki.vi.J4 s0.1 s0.2;exact .inr (.inl ⟨_,⟨_,y,q,tB (fun z p=>h.ki.vi.iv.nS z p) x.a x.b,n0,ye s0.1,yq.1,yq.2 n0,e.box⟩, .inr ⟨s0.1,s0.2,rfl⟩⟩)
 ·rcases e with⟨_,_,rfl⟩|⟨a,n,xa,hn,_,⟨_,rfl⟩|⟨_,y,q,yq,e⟩⟩
  ·exact .inl (SC.refl _)
  ·exact .inl (SC.box _ _ _)
  ·rw[xa]at a;exact(h.KU hn (lD a) yq e).imp id (fun e=> .inl ⟨n,e.2, .inl ⟨xa, .inr e.1⟩⟩)
 ·rcases e with⟨_,_,rfl⟩|⟨a,n,xa,hn,_,⟨_,rfl⟩|⟨_,y,q,yq,e⟩⟩
  ·exact .inl (SC.refl _)
  ·exact .inl (SC.box _ _ _)
  ·rw[xa]at a;exact(h.KU hn (lD a) yq e).imp id (fun e=> .inl ⟨n,e.2, .inl ⟨xa, .inr e.1⟩⟩)
 ·rcases e with⟨_,_,_,rfl⟩|⟨_,n,j,_,_,_,rfl,_⟩
  ·exact .inl (SC.refl _)
  ·exact .inl (SC.put k n ⟨rfl,rfl,rfl,rfl⟩)
 ·exact .inr (.inr (.inr (.inl e)))
 ·exact .inr (.inr (.inr (.inr (.inl e))))
 ·exact .inr (.inr (.inr (.inr (.inr (.inl e)))))
 ·obtain⟨_,m,_,⟨_,w⟩|rfl,rfl⟩:=e
  ·refine .inr (.inr (.inr (.inr (.inr (.inr ⟨m,?_,rfl⟩)))));rw[show m=Wf.tn k.sc x.a (!x.on)from w];exact fun _ h=>h
  ·exact .inl (SC.refl _)
 ·exact .inl (SC.refl _)
structure FK (k:Kp)(n c:Nat)(k':Kp):Prop where
 hn:n<20
 ln:lv k n=true
 jy:c<20
 c0:(k.p c).st=0
 lo: ∀m,m<c->(k.p m).st≠0
 ot: ∀m,m≠c->k'.p m=k.p m
 me:k'.p c=dI k n
 of: ∀m,m≠c->k'.sp.of m=k.sp.of m
 kp: ∀s p,s<6->k.sp.ay s p≠0->k'.sp.ay s p=k.sp.ay s p
 bk:k'.bk=Mv.dw (k.p n).mem k.bk 16
theorem FK.P9 {c z:Nat}{d2:Nat->Nat}{m':Wf.M}(iv:Sp.Inv k2.sp d2)(ep:k2.p=k.p)(eo:k2.sp.of=k.sp.of)(ew:k2.sp.ay=k.sp.ay)(eb:k2.bk=k.bk)(hn:n<20)(l:lv k n=true)(hc:c<20)(c0:(k.p c).st=0)(lo: ∀m,m<c->(k.p m).st≠0)(o0:k.sp.of c=0)(z6:z<6)(zh:k2.sp.here z=true):FK k n c (gJ (cO k2 n) c (dI k2 n) (z:Int) m'):=by
 obtain⟨T,eT⟩:=jf {k2 with bk:=Mv.dw (k2.p n).mem k2.bk 16} (k2.p n).fd 6;have cop:cO k2 n={k2 with bk:=Mv.dw (k2.p n).mem k2.bk 16,fi:=T}:=eT;have o2:k2.sp.of c=0:=by rw[eo];exact o0
 have esp:(gJ (cO k2 n) c (dI k2 n) (z:Int) m').sp=Sp.dM k2.sp (z:Int) (c:Int):=by rw[cop];rfl
 refine⟨hn,l,hc,c0,lo,fun m q=>?_,?_,fun m q=>?_,fun s p hs hw=>?_,?_⟩
 ·rw[cop];exact(ao _ _ _ _ q).trans (by show k2.p m=k.p m;rw[ep])
 ·refine(ai _ _ _).trans ?_;unfold dI;rw[ep]
 ·rw[esp,Sp.oK z6 zh hc o2,aI q,eo]
 ·rw[esp,Sp.qN iv z6 zh hc o2 hs (by rw[ew];exact hw),ew]
 ·rw[cop];show Mv.dw (k2.p n).mem k2.bk 16=_;rw[ep,eb]
theorem Hn (k:Kp)(n:Nat):(cO k n).gr=k.gr:=by
 obtain⟨T,eT⟩:=jf {k with bk:=Mv.dw (k.p n).mem k.bk 16} (k.p n).fd 6;rw[show cO k n={k with bk:=Mv.dw (k.p n).mem k.bk 16,fi:=T}from eT]
theorem IZ (k:Kp)(Wy:Nat->List (Fin 10))(n:Nat)(own:Bool):(ed (bS k Wy n) n own).sp=(ed k n own).sp:=by
 unfold ed;by_cases c:own=true/\gG k n own=0
 ·rw[aJ c,aJ (show own=true/\gG (bS k Wy n) n own=0 from c)];rfl
 ·rw[aI c,aI (show¬(own=true/\gG (bS k Wy n) n own=0)from c)];rfl
theorem mN.cl (h:KH N d k){z:Int}{own:Bool}{p:Nat}{E:Int}(f:mN k z own p E k'):(E≠0/\(k'=k\/ ∃(Wy:Nat->List (Fin 10)) (n:Nat),Gr.gQ k.gr Wy/\oW k Wy n=0/\k'={bS k Wy n with gr:=Gr.gA (bS k Wy n).gr (k.p n).bP 1 (Mv.gB (k.p n).mem 16:Int)}))\/(E=0/\ ∃(n c:Nat) (Wy:Nat->List (Fin 10)),z=n/\FK k n c k'/\Gr.gQ k.gr Wy/\oW k Wy n=0/\k'.gr=(bS k Wy n).gr/\k'.sc=Wf.tn (Wf.dm k.sc (c:Int) (k.p n).bP) (c:Int) true/\k'.sp=Sp.dM (ed k n own).sp (jF k n own:Int) (c:Int)/\p=Sp.js k'.sp (c:Int) (Sp.cQ k'.sp (n:Int):Nat)):=by
 rcases f with⟨a,e,_,rfl⟩|⟨a,n,c,F,Wy,rfl,hn,fr,ways,f⟩
 ·exact .inl ⟨by rw[e];exact a, .inl rfl⟩
 ·have l:Kn.lv k n=true:=lD a;rcases f with⟨q,e,_,rfl⟩|⟨_,q,e,_,rfl⟩|⟨_,ch,q,e,_,rfl⟩|⟨f0,ch,hm,e,m',wk,ek,ep⟩
  ·exact .inl ⟨by rw[e];exact q, .inl rfl⟩
  ·exact .inl ⟨by rw[e];exact q, .inl rfl⟩
  ·exact .inl ⟨by rw[e];exact q, .inr ⟨Wy,n,ways,ch,rfl⟩⟩
  ·have jy:c<20/\(k.p c).st=0/\ ∀m,m<c->(k.p m).st≠0:=by
    rcases fr with q|q
    ·exact q.2
    ·omega
   have o0:k.sp.of c=0:=by
    by_cases e:k.sp.of c=0
    ·exact e
    ·exact aZ jy.2.1 ((h.ki.vi.kj.of c jy.1).1 e)
   obtain⟨y,oy⟩:=h.of hn (by rw[cW.1 l];omega);have y6:=(h.ki.vi.iv.bH hn oy).2;have iz:Sp.cQ (bS k Wy n).sp (n:Int)=y:=Sp.fG hn oy;have wk:m'=Wf.tn (Wf.dm (ed (bS k Wy n) n own).sc (c:Int) (k.p n).bP) (c:Int) true:=wk;rw[(IJ (bS k Wy n) n own).2.2.2]at wk;have key:FK k n c k'/\k'.gr=(bS k Wy n).gr/\k'.sc=m':=by
    cases own
    ·have en:jF (bS k Wy n) n false=y:=iz;rw[(tj (bS k Wy n) n).1,en]at ek;rw[ek];refine⟨FK.P9 (k2:=bS k Wy n) h.ki.vi.iv rfl rfl rfl rfl hn l jy.1 jy.2.1 jy.2.2 o0 y6.1 y6.2,?_,rfl⟩;exact Hn _ _
    ·have ea:Sp.gS (bS k Wy n).sp (y:Int)=0:=by unfold gG at hm;rw[aJ rfl,iz]at hm;exact hm
     obtain⟨z',ez,z6,zh,wl,f6,fh,fl⟩:=Sp.ny ea;obtain⟨e1,e2,_⟩:=uY iz ea rfl;have es:=Sp.add_eq ea;rw[e1,e2]at ek;rw[ek];have kj2:=h.ki.vi.kj.FU (show Sp.gS k.sp (y:Int)=0 from ea) rfl;obtain⟨d2,iv2⟩:=kj2.sp;refine⟨FK.P9 (k2:=xu (bS k Wy n) y (Sp.eI (bS k Wy n).sp)) iv2 rfl ?_ ?_ rfl hn l jy.1 jy.2.1 jy.2.2 o0 f6 ?_,?_,rfl⟩
     ·show(Sp.eP (bS k Wy n).sp (y:Int)).of=_;rw[es];rfl
     ·show(Sp.eP (bS k Wy n).sp (y:Int)).ay=_;rw[es];rfl
     ·show(Sp.eP (bS k Wy n).sp (y:Int)).here _=true;rw[es];exact aJ rfl
     ·exact Hn _ _
   refine .inr ⟨e,n,c,Wy,rfl,key.1,ways,ch,key.2.1,key.2.2.trans wk,?_,ep⟩;rw[ek];show Sp.dM (cO (ed (bS k Wy n) n own) n).sp _ _=_;rw[(qK _ n).1,IZ];rfl
theorem fL.gt (h:fL k n k'):Gr.gt k.gr k'.gr:=by
 obtain⟨m',_,rfl⟩:=h;show Gr.gt k.gr (da (cN k n 0 16) n (k.p n).fd 6).gr;rw[xN];unfold cN;split
 ·exact Gr.gt.BC _ _ _ _
 ·exact Gr.gt.refl _
theorem yd {R:Kp->Nat->Kp->Prop}(hR: ∀k n k',R k n k'->Gr.gt k.gr k'.gr)(z:Int): ∀(j:Nat) (k k':Kp),iW R z j k k'->Gr.gt k.gr k'.gr
 |0,k,k',e=>by rw[e.1];exact Gr.gt.refl _
 |j+1,_,_,⟨_,k1,_,r,it⟩=>(hR _ _ _ r).trans (yd hR z j k1 _ it)
theorem BO: ∀f (k:Kp) (n:Nat) (k':Kp),gW f k n k'->Gr.gt k.gr k'.gr
 |0,_,_,_,e=>e.elim
 |f+1,k,n,k',⟨k1,a,b,c⟩=>by
  have q1:Gr.gt k.gr k1.gr:=by
   cases l:lv k n
   ·rw[b l];exact Gr.gt.refl _
   ·exact(a l).gt
  rcases c with⟨_,rfl⟩|⟨_,k2,j,it,rfl⟩
  ·exact q1.trans (Gr.gt.BC _ _ _ _)
  ·exact q1.trans ((yd (BO f) _ j k1 k2 it).trans (Gr.gt.BC _ _ _ _))
theorem j7.gt {c:Int}(e:j7 k n c y q k'):Gr.gt k.gr k'.gr:=by
 obtain⟨k1,k3,s1,mt,rfl⟩:=e;have q3:Gr.gt k1.gr k3.gr:=by
  rcases mt with⟨_,rfl⟩|⟨_,j,it⟩
  ·exact Gr.gt.refl _
  ·exact yd (BO 6) _ j (dE k1 n c) k3 it
 refine(s1.gt.trans q3).trans ?_;unfold ik;split<;>exact Gr.gt.refl _
end
end Kn
namespace Sp
variable {t : T} {d : Nat -> Nat} {z m y : Nat}
theorem Inv.num (h:Inv t d)(hz:z<6)(zh:t.here z=true)(hm:m<20)(k:mem t z m): ∃p,1<=p/\p<=20/\t.ay z p=m+1/\js t (m:Int) (z:Int)=p:=by
 obtain⟨p,p21,pw⟩:=k;have p0:p≠0:=fun e=>by rw[e,h.nO z hz]at pw;omega
 have pe:gv t z m=p:=by
  unfold gv;rw[tW (i:=p) p21 (by unfold rK;exact aO pw) (fun j hj=>by
   unfold rK;apply aT;intro e;have:=h.one z j p hz (by omega) p21 (by rw[e,pw]) (by omega);omega)]
  rfl
 refine⟨p,by omega,by omega,pw,?_⟩;unfold js u7 gM;rw[gO hz zh,aJ rfl,pH hm,aJ rfl,hU,hU,pe,aI p0,aJ rfl]
theorem Inv.eq (h:Inv t d){x:Nat}(hm:m<20)(hx:x<20)(om:t.of m=z+1)(ox:t.of x=y+1)(a:mem t z x)(b:mem t y m):z=y:=by
 obtain⟨_,z6,zh⟩:=h.bH hm om;obtain⟨_,y6,yh⟩:=h.bH hx ox;have a':=(h.mem_of z6 hx a).2;have b':=(h.mem_of y6 hm b).2;rw[ox,show y+1-1=y by omega]at a';rw[om,show z+1-1=z by omega]at b';have d1:=(h.tree.mem z6 zh y b').2.2;rw[h.tree.step y6 yh]at a';rcases List.mem_cons.1 a' with e|e
 ·exact e
 ·exfalso;rcases h.tree.fH y6 yh with⟨_,q,_⟩|⟨q,q6,q1,qh,qd⟩
  ·rw[q,mf t _ (by omega)]at e;cases e
  ·rw[q1]at e;have:=(h.tree.mem q6 qh z e).2.2;omega
end Sp
namespace Kn
end Kn
namespace Sp
variable {t : T} {d : Nat -> Nat}
theorem Inv.w0 (h:Inv t d):W t ((0:Nat):Int)=[0]:=by
 rw[h.tree.step (by omega) h.tree.root.1,h.tree.root.2.1,mf t _ (by omega)]
theorem Inv.out (h:Inv t d){z m:Nat}(hz:z<6)(hm:m<20)(o:t.of m=1)(k:mem t z m):z=0:=by
 have:=(h.mem_of hz hm k).2;rw[o,show 1-1=0 from rfl,h.w0]at this;simpa using this
end Sp
namespace Kn
structure HE (k:Kp):Prop where
 l:lv k 1=true/\lv k 2=true
 o:k.sp.of 1=2/\k.sp.of 2=1
 w:k.sp.ay 1 1=2/\k.sp.ay 0 2=2/\k.sp.ay 0 3=3
 a:(k.p 1).par=0/\(k.p 2).par=0
 ot: ∀m,m<20->3<=m->(k.p m).st≠0->Sp.mem k.sp 1 m/\(k.p m).par≠0
 nl:qC k
section
variable {N n : Nat} {d : Nat -> Nat} {k k' : Kp} {x : eQ}
theorem qC.gt (h:qC k)(g:Gr.gt k.gr k'.gr):qC k':=fun i hi th=>by
 have:=g i;rw[this.1]at th;have:=h i hi th;omega
theorem HE.jd (h:HE k)(sp:k'.sp=k.sp)(p: ∀m,(k'.p m).st=(k.p m).st/\(k'.p m).par=(k.p m).par)(g:qC k'):HE k':=by
 have l: ∀m,lv k' m=lv k m:=fun m=>by unfold lv;rw[(p m).1]
 refine⟨by rw[l,l];exact h.l,by rw[sp];exact h.o,by rw[sp];exact h.w,by rw[(p 1).2,(p 2).2];exact h.a,fun m hm m3 s=>?_,g⟩;rw[(p m).1]at s;rw[sp,(p m).2];exact h.ot m hm m3 s
theorem HE.sc (h:HE k)(s:SC k k'):HE k':=h.jd s.sp (fun m=>⟨(s.p m).1,(s.p m).2.1⟩) (h.nl.gt (by rw[s.gr];exact Gr.gt.refl _))
theorem Bw (k:Kp)(q m:Nat):((ik k q).p m).par=(k.p m).par:=by
 unfold ik;split
 ·unfold gH;by_cases c:m=q
  ·subst c;rw[ai]
  ·rw[ao _ _ _ _ c]
 ·rfl
theorem HE.K6 (h:HE k)(kh:KH N d k){z:Nat}{k3:Kp}(hn:n<20)(ho:k.sp.of n=z+1)(mi:Sp.mem k.sp 1 n)(mq:MQ k n z k3)(n1:n=1\/hd k n≠n\/z≠1):(n≠1->k3.p 1=k.p 1/\k3.sp.of 1=k.sp.of 1)/\k3.p 2=k.p 2/\k3.sp.of 2=k.sp.of 2/\z≠0/\n≠2:=by
 have iv:=kh.ki.vi.iv;have z6:=(iv.bH hn ho).2.1;have z0:z≠0:=fun e=>by
  subst e;have:=iv.out (by omega) hn ho mi;omega
 have n2:n≠2:=fun e=>by
  subst e;have:=h.o.2;omega
 refine⟨fun n1'=>?_,?_⟩
 ·rcases mq.ot 1 (by omega) (bQ n1')with a|⟨_,_,a,b⟩
  ·exact a
  ·exfalso;have e:=iv.eq hn (by omega) ho h.o.1 a mi;rcases n1 with c|c|c
   ·exact n1' c
   ·exact c b
   ·exact c e
 ·rcases mq.ot 2 (by omega) (bQ n2)with a|⟨_,_,a,_⟩
  ·exact⟨a.1,a.2,z0,n2⟩
  ·exact aZ (iv.out z6 (by omega) h.o.2 a) z0
theorem HE.end (h:HE k)(kh:KH N d k)(e:LF k n k')(mi:Sp.mem k.sp 1 n)(n1:n≠1):HE k':=by
 obtain⟨c,z,q,hn,n0,l,ho,hp,et⟩:=e;have G:=et.gt;obtain⟨k1,k3,s1,mt,rfl⟩:=et;have hv:=kh.ki.vi;have md:=hv.tC hn n0 l ho s1 mt;have mq:=hv.mq hn n0 l ho s1 mt;have z6:=(hv.iv.bH hn ho).2;have nz:n=1\/hd k n≠n\/z≠1:=by
  by_cases c1:z=1
  ·refine .inr (.inl fun e=>?_);subst c1;have:=(fK hv.iv hv.hs hn ho).1 e;rw[h.w.1]at this;omega
  ·exact .inr (.inr c1)
 obtain⟨p1,p2,o2,z0,n2⟩:=h.K6 kh hn ho mi mq nz;have p1:=p1 n1;have zh3:=(md.vi.iv.bH hn md.ho).2.2;obtain⟨x,x20,xw,xo⟩:=md.vi.hs.hd z z6.1 zh3;rw[Sp.Dw z6.1 zh3 xw]at G|-;have x0:x≠0:=fun e=>by
  subst e;have:=md.vi.hs.r0.1;omega
 have inL: ∀m,(k3.p m).par=0->m∉fa k3 n:=fun m e c=>by
  have:=ov m c;omega
 have esp:(ik (eW k3 (fa k3 n) (x:Nat)) q).sp=k3.sp:=by
  unfold ik;split<;>rfl
 have est: ∀m,((ik (eW k3 (fa k3 n) (x:Nat)) q).p m).st=(k3.p m).st:=fun m=>(FL _ _ _).1;have epa: ∀m,((ik (eW k3 (fa k3 n) (x:Nat)) q).p m).par=if m∈fa k3 n then(x:Int)else(k3.p m).par:=fun m=>Bw _ _ _;generalize ik (eW k3 (fa k3 n) (x:Nat)) q=k' at*;have w3: ∀s p m,s<6->p<21->m<20->k.sp.ay s p=m+1->k3.sp.of m=k.sp.of m->k.sp.of m≠0->k'.sp.ay s p=m+1:=fun s p m hs hp hm e o o0=>by rw[esp];exact mq.wk s p m hs hp hm e (by rw[o];exact o0)
 refine⟨⟨cW.2 (by rw[est,p1.1];exact cW.1 h.l.1),cW.2 (by rw[est,p2];exact cW.1 h.l.2)⟩,⟨by rw[esp,p1.2];exact h.o.1,by rw[esp,o2];exact h.o.2⟩,⟨w3 1 1 1 (by omega) (by omega) (by omega) h.w.1 p1.2 (by have:=h.o.1;omega),w3 0 2 1 (by omega) (by omega) (by omega) h.w.2.1 p1.2 (by have:=h.o.1;omega),w3 0 3 2 (by omega) (by omega) (by omega) h.w.2.2 o2 (by have:=h.o.2;omega)⟩,⟨?_,?_⟩,fun m hm m3 s=>?_,h.nl.gt G⟩
 ·have e:(k3.p 1).par=0:=by rw[p1.1];exact h.a.1
  rw[epa,aI (inL 1 e),e]
 ·have e:(k3.p 2).par=0:=by rw[p2];exact h.a.2
  rw[epa,aI (inL 2 e),e]
 ·rw[est]at s;rw[esp,epa];have key:Sp.mem k3.sp 1 m/\(k3.p m).par≠0:=by
   by_cases mn:m=n
   ·subst mn;refine⟨mq.mem (by omega) hm mi (by rw[md.ho];omega),?_⟩;rw[md.pn.2.2.1];exact(h.ot m hm m3 (by rw[cW.1 l];omega)).2
   ·rcases mq.ot m hm mn with⟨a,b⟩|⟨a,_⟩
    ·rw[a]at s|-;have w:=h.ot m hm m3 s;exact⟨mq.mem (by omega) hm w.1 (by rw[b];exact(hv.kj.of m hm).2 s),w.2⟩
    ·rw[a]at s;exact aZ rfl s
  refine⟨key.1,?_⟩;split
  ·omega
  ·exact key.2
theorem HE.Ic (h:HE k)(kh:KH N d k)(e:Qb k n k'):HE k':=by
 obtain⟨m,m20,m0,_,m2,v⟩:=e;obtain⟨y,ox⟩:=kh.of m20 (by omega);obtain⟨_,pno,o0,eC,whs⟩:=kh.Ic m20 m0 m2 ox v;have l1:=cW.1 h.l.1;have l2:=cW.1 h.l.2;have m1:(1:Nat)≠m:=fun e=>by subst e;omega
 have m2':(2:Nat)≠m:=fun e=>by subst e;omega
 have a1:=eC 1 (by omega) m1;have a2:=eC 2 (by omega) m2';have ww: ∀s p j,s<6->p<21->j≠m->k.sp.ay s p=j+1->k'.sp.ay s p=j+1:=fun s p j hs hp jm e=>by rw[whs s p hs hp,e,aI (by omega)]
 refine⟨⟨cW.2 (by rw[a1.1];exact l1),cW.2 (by rw[a2.1];exact l2)⟩,by rw[a1.2,a2.2];exact h.o,⟨ww 1 1 1 (by omega) (by omega) m1 h.w.1,ww 0 2 1 (by omega) (by omega) m1 h.w.2.1,ww 0 3 2 (by omega) (by omega) m2' h.w.2.2⟩,by rw[a1.1,a2.1];exact h.a,fun j hj j3 s=>?_,h.nl.gt (BO 6 _ _ _ v)⟩;have jm:j≠m:=fun e=>by subst e;rw[pno]at s;exact s rfl
 rw[(eC j hj jm).1]at s|-;obtain⟨⟨p,p21,pw⟩,b⟩:=h.ot j hj j3 s;exact⟨⟨p,p21,ww 1 p j (by omega) p21 jm pw⟩,b⟩
theorem HE.GA (kh:KH N d k)(mi:Sp.mem k.sp 1 n):n≠0:=fun e=>by
 subst e;have:=kh.ki.vi.iv.out (by omega) (by omega) kh.ki.vi.hs.r0.1 mi;omega
theorem HE.fork (h:HE k)(kh:KH N d k){N' c:Nat}{d':Nat->Nat}(kh':KH N' d' k')(f:FK k n c k')(mi:Sp.mem k.sp 1 n)(g:Gr.gt k.gr k'.gr):HE k':=by
 have l0:=cW.1 kh.l0;have l1:=cW.1 h.l.1;have l2:=cW.1 h.l.2;have c0:=f.c0;have e0:(0:Nat)≠c:=fun e=>by subst e;omega
 have e1:(1:Nat)≠c:=fun e=>by subst e;omega
 have e2:(2:Nat)≠c:=fun e=>by subst e;omega
 have nc:n≠c:=fun e=>by subst e;have:=cW.1 f.ln;omega
 have mk: ∀m,Sp.mem k.sp 1 m->Sp.mem k'.sp 1 m:=fun m ⟨p,p21,pw⟩=>⟨p,p21,by rw[f.kp 1 p (by omega) (by omega)];exact pw⟩;have w:=h.w;refine⟨⟨cW.2 (by rw[f.ot 1 e1];exact l1),cW.2 (by rw[f.ot 2 e2];exact l2)⟩,by rw[f.of 1 e1,f.of 2 e2];exact h.o,by rw[f.kp 1 1 (by omega) (by omega),f.kp 0 2 (by omega) (by omega),f.kp 0 3 (by omega) (by omega)];exact w,by rw[f.ot 1 e1,f.ot 2 e2];exact h.a,fun m hm m3 s=>?_,h.nl.gt g⟩;by_cases mc:m=c
 ·subst mc;obtain⟨q,a⟩:=kh'.pp m hm (by omega) s;have pn:(k'.p m).par=(n:Int):=by rw[f.me];rfl
  obtain rfl:q=n:=by have:=a.pq;omega
  obtain⟨y,oy,my,_⟩:=a.oq;refine⟨kh'.ki.vi.iv.sU (by omega) f.hn hm oy (mk _ mi) my,?_⟩;have:=HE.GA kh mi;omega
 ·rw[f.ot m mc]at s|-;have w:=h.ot m hm m3 s;exact⟨mk m w.1,w.2⟩
theorem KH.Dc (kh:KH N d k){z:Nat}(hn:n<20)(o:k.sp.of n=z+1){b:Int}(e:dP k n b=0): ∃p:Nat,b=p/\1<=p/\p<=20/\k.sp.ay z p=fB k n b+1/\fB k n b<20:=by
 obtain⟨_,z6,zh⟩:=kh.ki.vi.iv.bH hn o;have lt:=tB (fun z p=>kh.ki.vi.iv.nS z p) (n:Int) b;have f:Sp.fN k.sp (z:Int) b=0:=by
  unfold dP at e;split at e
  ·rw[Sp.fG hn o]at e;split at e
   ·assumption
   ·exact e
  ·rename_i c;exact aZ e c
 have s:fB k n b=k.sp.ay z b.toNat-1:=by
  unfold fB;rw[aJ e,Sp.fG hn o];unfold Sp.dZ;rw[aJ f,hU]
 unfold Sp.fN at f;rw[Sp.gO z6 zh,aJ rfl,hU]at f;split at f
 ·omega
 ·refine⟨b.toNat,by omega,by omega,by omega,by omega,lt⟩
theorem HE.Qy (h:HE k)(kh:KH N d k){b:Int}(e:dP k 1 b=0):Sp.mem k.sp 1 (fB k 1 b)/\fB k 1 b<20/\(b≠1->fB k 1 b≠1):=by
 obtain⟨p,rfl,p1,p2,pw,lt⟩:=kh.Dc (n:=1) (by omega) h.o.1 e;refine⟨⟨p,by omega,pw⟩,lt,fun b1 c=>?_⟩;have c:fB k ((1:Nat):Int) (p:Int)=1:=c;rw[c]at pw;have:=kh.ki.vi.iv.one 1 p 1 (by omega) (by omega) (by omega) (by rw[pw,h.w.1]) (by omega);omega
theorem HE.Re (h:HE k)(kh:KH N d k){m:Nat}(xa:x.a=(n:Int))(hn:n<20)(mi:Sp.mem k.sp 1 n)(ex:kd x [101,120,105,116]->n≠1)(e:P8 k x m):Sp.mem k.sp 1 m/\m≠1:=by
 rcases e with⟨e,c⟩|⟨s,b1,e⟩
 ·obtain rfl:m=n:=by omega
  refine⟨mi,?_⟩;rcases c with c|c
  ·exact ex c
  ·intro e;subst e;exact c ((fK kh.ki.vi.iv kh.ki.vi.hs (z:=1) (by omega) h.o.1).2 h.w.1)
 ·rw[xa]at s e;obtain⟨z,o⟩: ∃z,k.sp.of n=z+1:=⟨k.sp.of n-1,by have:=(kh.ki.vi.iv.mem_of (by omega) hn mi).1;omega⟩;obtain⟨p,pb,p1,p2,pw,lt⟩:=kh.Dc hn o s;rw[<-e]at pw lt;have mz:Sp.mem k.sp z m:=⟨p,by omega,pw⟩;refine⟨kh.ki.vi.iv.sU (by omega) hn lt o mi mz,fun m1=>?_⟩;subst m1;have ez:=kh.ki.vi.iv.eq hn (by omega) o h.o.1 mz mi;subst ez;have:=kh.ki.vi.iv.one 1 p 1 (by omega) (by omega) (by omega) (by rw[pw,h.w.1]) (by omega);omega
theorem HE.Gi (h:HE k){a z:Int}{v:Value}{D:Kp->Nat->Int->Kp->Prop}(hD: ∀k n E k',D k n E k'->HE k->HE k')(e:kD a D k z v k'):HE k':=by
 obtain⟨E,_,⟨_,rfl⟩|⟨n,_,_,_,⟨_,e⟩|⟨_,E1,k1,⟨j,k0,en,c⟩,r⟩⟩⟩:=e
 ·exact h
 ·exact hD _ _ _ _ e h
 ·have e0:k0=k:=by
   have:=en.1;rw[en.2 h.nl]at this;exact this
  subst e0;have h1:HE k1:=by
   rcases c with⟨_,_,Wy,_,_,rfl⟩|⟨_,rfl⟩
   ·exact h.jd rfl (fun _=>⟨rfl,rfl⟩) (h.nl.gt (Gr.gt.yu _ _ _ _ _))
   ·exact h
  rcases r with⟨_,_,rfl⟩|⟨_,k2,e,⟨_,rfl⟩|⟨_,rfl⟩⟩
  ·exact h1
  ·exact hD _ _ _ _ e h1
  ·have h2:=hD _ _ _ _ e h1;exact h2.jd rfl (fun _=>⟨rfl,rfl⟩) (h2.nl.gt (Gr.gt.BC _ _ _ _))
theorem HE.mem (h:HE k)(n:Nat)(m:Me)(b:Bk):HE (bR k n m b):=h.jd rfl (fun j=>by
 by_cases c:j=n
 ·subst c;rw[nC];exact⟨rfl,rfl⟩
 ·rw[show(bR k n m b).p j=k.p j from ao _ _ _ _ c];exact⟨rfl,rfl⟩) h.nl
theorem HE.ac (h:HE k)(kh:KH N d k){a E:Int}(xa:x.a=(n:Int))(hn:n<20)(mi:Sp.mem k.sp 1 n)(ex:kd x [101,120,105,116]->n≠1)(li: ¬kd x [108,105,109,105,116])(e:rU N k x a E k'\/NK x/\sK k x k'):HE k':=by
 rcases e with e|⟨_,e⟩
 ·rcases e with⟨_,p,_,e⟩|⟨_,⟨m,_,hm,l,_,rfl⟩|⟨_,rfl⟩⟩|⟨_,_,_,e,_⟩|⟨_,e⟩|⟨c,_⟩|⟨_,_,_,rfl⟩|⟨_,e⟩
  ·obtain⟨d',kh'⟩:=kh.fork e;rcases e.cl kh with⟨_,rfl|⟨Wy,n,_,_,rfl⟩⟩|⟨_,m,c,Wy,xm,f,_,_,g,_,_,_⟩
   ·exact h
   ·exact h.jd rfl (fun _=>⟨rfl,rfl⟩) (h.nl.gt ((Gr.gt.yu _ _ _ _ _).trans (Gr.gt.BC _ _ _ _)))
   ·obtain rfl:m=n:=by omega
    exact h.fork kh kh' f mi (by rw[g];exact Gr.gt.yu _ _ _ _ _)
  ·unfold cN;split
   ·exact(h.mem m (Mv.nA (k.p m).mem x.b x.c) (Mv.nG (k.p m).mem k.bk x.b x.c)).jd rfl (fun _=>⟨rfl,rfl⟩) (h.nl.gt (Gr.gt.BC _ _ _ _))
   ·exact h
  ·exact h
  ·exact h.Gi (fun k n E k' ⟨_,_,_,_,e⟩ h=>by rw[e];exact h.mem _ _ _) e
  ·exact h.Gi (fun k n E k' ⟨_,_,_,_,e⟩ h=>by rw[e];exact h.mem _ _ _) e
  ·exact aZ c li
  ·exact h.jd rfl (fun _=>⟨rfl,rfl⟩) h.nl
  ·rcases e.cl kh with e|⟨m,e,w⟩|⟨m,_,e⟩|⟨m,_,_,_,_,rfl⟩|⟨t,m,g,_,_,rfl⟩|⟨_,_,_,rfl|⟨m,Wy,sm,_,_,_,_,_,_,rfl⟩⟩|⟨_,_,rfl⟩
   ·exact h.sc e
   ·have:=h.Re kh xa hn mi ex w;exact h.end kh e this.1 this.2
   ·exact h.Ic kh e
   ·exact h.mem _ _ _
   ·refine h.jd rfl (fun _=>⟨rfl,rfl⟩) ?_;rcases g with rfl|⟨j,p,_,_,rfl⟩|⟨_,j,_,_,_,_,_,rfl⟩|⟨c,_⟩
    ·exact h.nl
    ·intro i hi th;by_cases c:i=j
     ·subst c;show(Gr.fX k.gr i _ i).lp=_/\(Gr.fX k.gr i _ i).lq=_;rw[Gr.iJ];exact⟨rfl,rfl⟩
     ·have th:(Gr.fX k.gr j _ i).there=true:=th;show(Gr.fX k.gr j _ i).lp=_/\(Gr.fX k.gr j _ i).lq=_;rw[Gr.mF _ _ _ _ c]at th|-;exact h.nl i hi th
    ·intro i hi th;have th:(Gr.fX k.gr j Gr.lg i).there=true:=th;by_cases c:i=j
     ·subst c;rw[Gr.iJ]at th;cases th
     ·show(Gr.fX k.gr j Gr.lg i).lp=_/\(Gr.fX k.gr j Gr.lg i).lq=_;rw[Gr.mF _ _ _ _ c]at th|-;exact h.nl i hi th
    ·cases c
   ·exact h
   ·refine h.jd rfl (fun j=>?_) (h.nl.gt ?_)
    ·show((k.put m _).p j).st=_/\((k.put m _).p j).par=_;by_cases c:j=m
     ·subst c;rw[ai];exact⟨rfl,rfl⟩
     ·rw[ao _ _ _ _ c];exact⟨rfl,rfl⟩
    ·exact Gr.gt.Io _ _ _ _ _ _
   ·exact h.jd rfl (fun _=>⟨rfl,rfl⟩) h.nl
 ·rcases e.cl kh with e|⟨m,k1,xm,s,kh1,a,e⟩
  ·exact h.sc e
  ·obtain rfl:m=n:=by omega
   refine(h.sc s).end kh1 e (by rw[s.sp];exact mi) (fun e=>?_);subst e;exact a ((fK kh.ki.vi.iv kh.ki.vi.hs (z:=1) (by omega) h.o.1).2 h.w.1)
end
end Kn

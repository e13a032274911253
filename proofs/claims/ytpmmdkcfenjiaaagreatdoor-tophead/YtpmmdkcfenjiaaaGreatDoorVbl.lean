import Derived.Test.YtpmmdkcfenjiaaaGreatDoorVbk
set_option linter.unusedVariables false
set_option linter.unusedSimpArgs false
namespace Go.Proofs.YtpmmdkcfenjiaaaGreatDoor
open Go.RowKit
open Tr (Fo Nd)
open Mo (Wh Mt)
open Mv (Me Bk)
open Kn (Pr Kp St us KB KJ VI EI KH)
namespace Kn
section
variable {N : Nat} {d : Nat -> Nat} {k k' : Kp} {cd : Nat -> Int} {en : Nat -> Bool}
theorem KH.GA (h:KH N d k):Sp.cQ k.sp ((0:Nat):Int)=0:=Sp.fG (n:=0) (z:=0) (by omega) h.ki.vi.hs.r0.1
end
end Kn
namespace Kn
section
variable {N n : Nat} {d : Nat -> Nat} {k k' : Kp}
theorem qC.yu (nl:qC k)(kh:KH N d k){Wy:Nat->List (Fin 10)}(wy:Gr.gQ k.gr Wy)(g:(k.p 0).bP=0):oW k Wy 0=0:=by
 obtain⟨Wy0,g0⟩:=kh.ki.vi.kj.gr;have rt:=g0.root;have re:Gr.dU k.gr 0 1 (Mv.gB (k.p 0).mem 16:Int)=0:=by
  have wr0:Gr.wr k.gr 0=0:=by unfold Gr.wr;rw[aI (by omega)];exact aJ rt.1
  unfold Gr.dU;rw[wr0,aJ rfl,aJ];unfold Gr.kA;apply aO;have:=YtpmmdkcfenjiaaaGreatDoor.qp (k.p 0).mem 16;omega
 have la:Gr.qL k.gr Wy 0 1 (Mv.gB (k.p 0).mem 16:Int)=false:=by
  unfold Gr.qL;rw[List.any_eq_false];intro y hy;have:=nl y.val y.2 ((wy 0 (by omega)).in y.val (List.mem_map_of_mem hy));unfold Gr.fJ Gr.kB;rw[this.1,this.2];simp
 unfold oW Gr.jB;rw[g,re,aJ rfl];show(if Gr.qL k.gr Wy 0 1 (Mv.gB (k.p 0).mem 16:Int)=true then(6:Int)else 0)=0;rw[la,aI (by decide)]
theorem mN.zero (kh:KH N d k)(nl:qC k)(g:(k.p 0).bP=0){c:Nat}(jy:c<20)(c0:(k.p c).st=0)(lo: ∀m,m<c->(k.p m).st≠0){own:Bool}(ho:gG k 0 own=0){p:Nat}{E:Int}(f:mN k 0 own p E k'):E=0/\FK k 0 c k'/\Gr.gt k.gr k'.gr/\k'.sp=Sp.dM (ed k 0 own).sp (jF k 0 own:Int) (c:Int)/\p=Sp.js k'.sp (c:Int) (Sp.cQ k'.sp ((0:Nat):Int):Nat):=by
 have E0:E=0:=by
  rcases f with⟨a,_⟩|⟨_,n,x,F,Wy,en,hn,fr,ways,f⟩
  ·exact aZ (oc (n:=0) (by omega) kh.l0) a
  ·obtain rfl:n=0:=by omega
   rcases f with⟨q,_⟩|⟨_,q,_⟩|⟨_,_,q,_⟩|⟨_,_,_,e,_⟩
   ·rcases fr with⟨a,_⟩|⟨_,_,a⟩
    ·exact aZ a q
    ·exact aZ c0 (a c jy)
   ·exact aZ (nl.yu kh ways g) q
   ·exact aZ ho q
   ·exact e
 rcases f.cl kh with⟨a,_⟩|⟨_,n,x,Wy,en,fk,_,_,gr,_,sp,pp⟩
 ·exact aZ E0 a
 ·obtain rfl:n=0:=by omega
  obtain rfl:x=c:=by
   rcases Nat.lt_trichotomy x c with a|a|a
   ·exact aZ fk.c0 (lo x a)
   ·exact a
   ·exact aZ c0 (fk.lo c a)
  exact⟨E0,fk,by rw[gr];exact Gr.gt.yu _ _ _ _ _,sp,pp⟩
theorem ug.nl (b:ug k):qC k:=by
 obtain⟨m,m',rfl⟩:=b;intro g hg th;have G:=Gr.gt.yu Gr.t0 Gr.W0 0 1 0 g;have th:(Gr.iR Gr.t0 Gr.W0 0 1 0 g).there=true:=th;show(Gr.iR Gr.t0 Gr.W0 0 1 0 g).lp=_/\(Gr.iR Gr.t0 Gr.W0 0 1 0 g).lq=_;rw[G.1]at th;rw[G.2.2.1,G.2.2.2];by_cases c:g=0
 ·subst c;exact⟨rfl,rfl⟩
 ·exfalso;revert th;have: ∀g,g<10->g≠0->(Gr.t0 g).there=true->False:=by decide
  exact this g hg c
theorem HE.Q7 (b:ug k)(kh:KH N d k){p:Nat}{E:Int}(f:mN k 0 true p E k'):E=0/\p=2/\ ∀{N' d' p' E' k2},KH N' d' k'->mN k' 0 false p' E' k2->E'=0/\p'=3/\ ∀{N2 d2},KH N2 d2 k2->HE k2:=by
 obtain⟨b1,b2,b3⟩:=b.p;have s1:(k.p 1).st=0:=by rw[b2 1 (by omega)];rfl
 have ho:gG k 0 true=0:=by unfold gG;rw[b3];rfl
 obtain⟨e,fk,g,sp,pp⟩:=f.zero kh b.nl (by rw[b1];rfl) (c:=1) (by omega) s1 (fun m hm=>by
  obtain rfl:m=0:=by omega
  rw[b1];exact fun c=>by cases c) ho
 have sp1:k'.sp=Sp.dM (Sp.eP (Sp.dM Sp.t0 0 0) 0) 1 1:=by
  rw[sp];unfold ed jF gG;rw[b3];rfl
 refine⟨e,by rw[pp,sp1];rfl,fun{N' d' p' E' k2} kh' f'=>?_⟩;have q0:=fk.ot 0 (by omega);have q1:=fk.me;have q2:(k'.p 2).st=0:=by rw[fk.ot 2 (by omega),b2 2 (by omega)];rfl
 have l1:(k'.p 1).st=1:=by rw[q1];exact cW.1 kh.l0
 obtain⟨e',fk',g',sp',pp'⟩:=f'.zero kh' (b.nl.gt g) (by rw[q0,b1];rfl) (c:=2) (by omega) q2 (fun m hm=>by
  by_cases c:m=0
  ·rw[c,q0,b1];exact fun c=>by cases c
  ·obtain rfl:m=1:=by omega
   omega) rfl
 have sp2:k2.sp=Sp.dM (Sp.dM (Sp.eP (Sp.dM Sp.t0 0 0) 0) 1 1) 0 2:=by
  rw[sp',(tj k' 0).1];unfold jF;rw[sp1];rfl
 refine⟨e',by rw[pp',sp2];rfl,fun _=>?_⟩;refine⟨⟨cW.2 (by rw[fk'.ot 1 (by omega)];exact l1),cW.2 (by rw[fk'.me];exact cW.1 kh'.l0)⟩,by rw[sp2];exact⟨rfl,rfl⟩,by rw[sp2];exact⟨rfl,rfl,rfl⟩,⟨by rw[fk'.ot 1 (by omega),q1];rfl,by rw[fk'.me];rfl⟩,fun m hm m3 s=>?_,(b.nl.gt g).gt g'⟩;rw[fk'.ot m (by omega),fk.ot m (by omega),b2 m (by omega)]at s;exact aZ rfl s
structure HF (k:Kp)(c:Int):Prop where
 st: ∀m,m<20->(k.p m).st=if m=0\/m=2 then 1 else if m=1 then 2 else 0
 cd:(k.p 1).code=c
 a:(k.p 1).par=0/\(k.p 2).par=0
 w:k.sp.ay 0 2=2/\k.sp.ay 0 3=3
 o:k.sp.of 2=1
theorem HE.P7 (h:HE k){c:Int}(h0:0<=c)(h1:c<=255):nN k 1 c=0:=by
 unfold nN;rw[aJ (show bc k 1=0 from oc (n:=1) (by omega) h.l.1),aI (by omega),aI (by decide)]
theorem HE.exit (h:HE k)(kh:KH N d k){c:Int}(h0:0<=c)(h1:c<=255)(e:nV k 1 c k'):HF k' c:=by
 rcases e with⟨a,_⟩|⟨_,n,z,q,en,hn,n0,l,ho,_,_,hp,et⟩
 ·exact aZ (h.P7 h0 h1) a
 ·obtain rfl:n=1:=by omega
  obtain rfl:z=1:=by have:=h.o.1;omega
  obtain⟨k1,k3,s1,mt,rfl⟩:=et;have hv:=kh.ki.vi;have md:=hv.tC hn n0 l ho s1 mt;have mq:=hv.mq hn n0 l ho s1 mt;have mi:=(hv.iv.bH hn ho).1;obtain⟨_,p2,o2,_,_⟩:=h.K6 kh hn ho mi mq (.inl rfl);have hd1:hd k 1=1:=(fK hv.iv hv.hs hn ho).2 h.w.1;have p0:k3.p 0=k.p 0:=by
   rcases mq.ot 0 (by omega) (by omega)with a|⟨_,_,a,_⟩
   ·exact a.1
   ·exact aZ rfl (HE.GA kh a)
  generalize hx:Sp.dZ k3.sp ((1:Nat):Int) 1=x;have esp:(ik (eW k3 (fa k3 1) (x:Nat)) q).sp=k3.sp:=by
   unfold ik;split<;>rfl
  have est: ∀m,((ik (eW k3 (fa k3 1) (x:Nat)) q).p m).st=(k3.p m).st:=fun m=>(FL _ _ _).1;have epa: ∀m,((ik (eW k3 (fa k3 1) (x:Nat)) q).p m).par=if m∈fa k3 1 then(x:Int)else(k3.p m).par:=fun m=>Bw _ _ _;have eco:((ik (eW k3 (fa k3 1) (x:Nat)) q).p 1).code=(k3.p 1).code:=by
   unfold ik;split
   ·unfold gH;by_cases c:1=q
    ·subst c;rw[ai];rfl
    ·rw[ao _ _ _ _ c];rfl
   ·rfl
  have inL: ∀m,(k3.p m).par=0->m∉fa k3 1:=fun m e c=>by
   have:=ov m c;omega
  generalize ik (eW k3 (fa k3 1) (x:Nat)) q=k' at*;have a1:(k3.p 1).par=0:=by rw[md.pn.2.2.1];exact h.a.1
  have a2:(k3.p 2).par=0:=by rw[p2];exact h.a.2
  refine⟨fun m hm=>?_,by rw[eco];exact md.pn.2.2.2,⟨by rw[epa,aI (inL 1 a1),a1],by rw[epa,aI (inL 2 a2),a2]⟩,?_,by rw[esp,o2];exact h.o.2⟩
  ·rw[est];by_cases c0:m=0\/m=2
   ·rw[aJ c0];rcases c0 with rfl|rfl
    ·rw[p0];exact cW.1 kh.l0
    ·rw[p2];exact cW.1 h.l.2
   ·rw[aI c0];by_cases c1:m=1
    ·rw[aJ c1,c1];exact md.pn.1
    ·rw[aI c1];rcases mq.ot m hm c1 with⟨a,b⟩|⟨a,_⟩
     ·by_cases s:(k.p m).st=0
      ·rw[a];exact s
      ·have w:=h.ot m hm (by omega) s;exact aZ (mq.al hd1 m hm (mq.mem (by omega) hm w.1 (by rw[b];exact(hv.kj.of m hm).2 s))) c1
     ·rw[a];rfl
  ·rw[esp];exact⟨mq.wk 0 2 1 (by omega) (by omega) (by omega) h.w.2.1 (by rw[md.ho];omega),mq.wk 0 3 2 (by omega) (by omega) (by omega) h.w.2.2 (by rw[o2,h.o.2];omega)⟩
theorem KH.On (kh:KH N d k){p:Nat}(hp:p<21)(hn:n<20)(w:k.sp.ay 0 p=n+1):Sp.js k.sp (n:Int) ((0:Nat):Int)=p:=by
 obtain⟨p',p1,p2,pw,pe⟩:=kh.ki.vi.iv.num (z:=0) (by omega) kh.ki.vi.iv.tree.root.1 hn ⟨p,hp,w⟩;rw[pe];exact kh.ki.vi.iv.one 0 p' p (by omega) (by omega) hp (by rw[pw,w]) (by omega)
theorem KH.PW (kh:KH N d k){p:Nat}(hp:p<21)(w:k.sp.ay 0 p=n+1)(a:(k.p n).par=0):n∈fa k 0:=by
 unfold fa gU;rw[kh.GA];exact bX.2 ⟨Sp.yB (by omega) kh.ki.vi.iv.tree.root.1 ⟨p,hp,w⟩,aO a⟩
theorem HF.self {c:Int}(h:HF k c)(kh:KH N d k):bc k 2=0/\AE k 2=3:=by
 have l:lv k 2=true:=cW.2 (by rw[h.st 2 (by omega)];rfl);have a:bc k 2=0:=oc (n:=2) (by omega) l;refine⟨a,?_⟩;unfold AE;rw[aJ a,show Sp.cQ k.sp (2:Int)=0 from Sp.fG (n:=2) (z:=0) (by omega) h.o];exact kh.On (n:=2) (by omega) (by omega) h.w.2
structure HG (k:Kp):Prop where
 st: ∀m,m<20->(k.p m).st=if m=0\/m=2 then 1 else 0
 a:(k.p 2).par=0
 w:k.sp.ay 0 3=3
 o:k.sp.of 2=1
theorem HF.wait {c:Int}(h:HF k c)(kh:KH N d k){p:Nat}{v E:Int}(e:rh k 0 p v E k'):E=0/\p=2/\v=c/\HG k':=by
 have m1:=kh.PW (n:=1) (by omega) h.w.1 h.a.1;have l1:lv k 1=false:=by unfold lv;rw[h.st 1 (by omega)];rfl
 rcases e with⟨a,_⟩|⟨a,n,en,hn,⟨x,_⟩|⟨_,x,_⟩|⟨e0,i,m,hi,lm,_,ep,ec,vn⟩⟩
 ·exact aZ (oc (n:=0) (by omega) kh.l0) a
 ·obtain rfl:n=0:=by omega
  rw[x]at m1;cases m1
 ·obtain rfl:n=0:=by omega
  rw[x 1 m1]at l1;cases l1
 ·obtain rfl:n=0:=by omega
  obtain⟨m20,m0,_,ms,_,_⟩:=kh.DS (by omega) kh.l0 (bK hi);have sm:=h.st m m20;obtain rfl:m=1:=by
   by_cases c1:m=1
   ·exact c1
   ·exfalso;by_cases c2:m=0\/m=2
    ·rw[aJ c2]at sm;rw[cW.2 sm]at lm;cases lm
    ·rw[aI c2,aI c1]at sm;exact ms sm
  have s2:(k.p 1).st=2:=by rw[sm];rfl
  obtain⟨x,ox⟩:=kh.of (m:=1) (by omega) (by omega);obtain⟨_,pno,o0,eC,whs⟩:=kh.Ic (by omega) (by omega) s2 ox vn;have a2:=eC 2 (by omega) (by omega);refine⟨e0,by rw[ep,kh.GA];exact kh.On (n:=1) (by omega) (by omega) h.w.1,by rw[ec];exact h.cd,fun m hm=>?_,by rw[a2.1];exact h.a.2,by rw[whs 0 3 (by omega) (by omega),h.w.2];rfl,by rw[a2.2];exact h.o⟩;by_cases c1:m=1
  ·rw[c1,pno];rfl
  ·rw[(eC m hm c1).1,h.st m hm];by_cases c2:m=0\/m=2
   ·rw[aJ c2,aJ c2]
   ·rw[aI c2,aI c2,aI c1]
theorem HG.wait (h:HG k)(kh:KH N d k){p:Nat}{v E:Int}(e:rh k 0 p v E k'):E=8/\k'=k:=by
 have m1:=kh.PW (n:=2) (by omega) h.w h.a;rcases e with⟨a,_⟩|⟨a,n,en,hn,⟨x,_⟩|⟨_,_,e,_,_,ek⟩|⟨e0,i,m,hi,lm,_⟩⟩
 ·exact aZ (oc (n:=0) (by omega) kh.l0) a
 ·obtain rfl:n=0:=by omega
  rw[x]at m1;cases m1
 ·exact⟨e,ek⟩
 ·exfalso;obtain rfl:n=0:=by omega
  obtain⟨m20,m0,_,ms,_,_⟩:=kh.DS (by omega) kh.l0 (bK hi);have sm:=h.st m m20;split at sm
  ·rw[cW.2 sm]at lm;cases lm
  ·exact ms sm
theorem HG.live (h:HG k):iD k 20=[0,2]:=by
 unfold iD;rw[List.filter_congr (q:=fun m=>decide (m=0\/m=2)) (fun m hm=>?_)]
 ·rfl
 ·unfold lv;rw[h.st m (by simpa using hm)];by_cases c:m=0\/m=2
  ·rw[aJ c];simp[c]
  ·rw[aI c];simp[c]
theorem HG.all (h:HG k)(kh:KH N d k):Sp.all k.sp=[0]:=by
 unfold Sp.all;rw[List.filter_congr (q:=fun s=>decide (s=0)) (fun s hs=>?_)]
 ·rfl
 ·have s6:s<6:=by simpa using hs
  by_cases c:s=0
  ·rw[c,kh.ki.vi.iv.tree.root.1];rfl
  ·rw[aT c];cases e:k.sp.here s
   ·rfl
   ·exfalso;obtain⟨x,x20,_,xo⟩:=kh.ki.vi.hs.hd s s6 e;have st:=(kh.ki.vi.kj.of x x20).1 (by omega);rw[h.st x x20]at st;split at st
    ·rename_i c2;rcases c2 with rfl|rfl
     ·have:=kh.ki.vi.hs.r0.1;omega
     ·have:=h.o;omega
    ·exact st rfl
end
end Kn

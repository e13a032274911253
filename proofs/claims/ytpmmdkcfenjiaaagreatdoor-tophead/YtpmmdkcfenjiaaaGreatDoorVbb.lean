import Derived.Test.YtpmmdkcfenjiaaaGreatDoorVba
set_option linter.unusedVariables false
set_option linter.unusedSimpArgs false
set_option maxRecDepth 100000
set_option maxHeartbeats 4000000
namespace Go.Proofs.YtpmmdkcfenjiaaaGreatDoor
open Go.RowKit
open Tr (Fo Nd)
open Mo (Mt)
open Mv (Me Bk)
open Kn (Pr Kp St us KB KJ)
namespace Sp
theorem AF {t:T}{n:Nat}(hn:n<20)(h:t.of n≠0):cY t (n:Int)={xX t (List.range 6) n with of:=rH t.of n 0}:=by
 have e:kF t (n:Int)=0:=by unfold kF;rw[pH hn,aJ rfl,hU,aI h]
 unfold cY;rw[aJ e,hU]
theorem ig {t:T}{n:Nat}(hn:n<20)(h:t.of n≠0):(cY t (n:Int)).here=t.here/\(cY t (n:Int)).par=t.par:=by rw[AF hn h];exact⟨rfl,rfl⟩
theorem jx {t:T}{n:Nat}(hn:n<20)(h:t.of n≠0)(m:Nat):(cY t (n:Int)).of m=if m=n then 0 else t.of m:=by rw[AF hn h];rfl
theorem ks {t:T}{n:Nat}(hn:n<20)(h:t.of n≠0){s:Nat}(hs:s<6)(p:Nat):(cY t (n:Int)).ay s p=if t.ay s p=n+1 then 0 else t.ay s p:=by
 rw[AF hn h];show(if s∈List.range 6/\t.ay s p=n+1 then 0 else t.ay s p)=_;by_cases c:t.ay s p=n+1
 ·rw[aJ c,aJ ⟨by simpa using hs,c⟩]
 ·rw[aI c,aI (fun e=>c e.2)]
structure pF (t:T):Prop where
 hd: ∀s,s<6->t.here s=true-> ∃h,h<20/\t.ay s 1=h+1/\t.of h=s+1
 r0:t.of 0=1/\t.ay 0 1=1
theorem fG {t:T}{n z:Nat}(hn:n<20)(h:t.of n=z+1):cQ t (n:Int)=z:=by
 have e:kF t (n:Int)=0:=by unfold kF;rw[pH hn,aJ rfl,hU,aI (by omega)]
 unfold cQ;rw[aJ e,hU];omega
theorem Dw {t:T}{z h:Nat}(hz:z<6)(hh:t.here z=true)(hw:t.ay z 1=h+1):dZ t (z:Int) 1=h:=by
 have e:fN t (z:Int) 1=0:=by
  unfold fN;rw[gO hz hh,aJ rfl,hU,show(1:Int).toNat=1 from rfl,aI (by omega)]
 unfold dZ;rw[aJ e,hU,show(1:Int).toNat=1 from rfl,hw];omega
section
variable {t : T} {d : Nat -> Nat}
theorem pF.leave (h:pF t){n z:Nat}(hn:n<20)(n0:n≠0)(ho:t.of n=z+1)(hw:t.ay z 1≠n+1):pF (cY t (n:Int)):=by
 have o:t.of n≠0:=by omega
 refine⟨fun s hs hh=>?_,?_⟩
 ·rw[(ig hn o).1]at hh;obtain⟨x,x20,xw,xo⟩:=h.hd s hs hh;have xn:x≠n:=fun e=>by
   subst e;have:s=z:=by omega
   subst this;exact hw xw
  exact⟨x,x20,by rw[ks hn o hs,aI (by omega)];exact xw,by rw[jx hn o,aI xn];exact xo⟩
 ·rw[jx hn o,aI (bQ n0),ks hn o (by omega),aI (by have:=h.r0.2;omega)];exact h.r0
theorem Gx {t:T}{z:Nat}(h: ∀p,p<21->t.ay z p=0):eO t z=[]:=by
 unfold eO;rw[List.map_eq_nil_iff,List.filter_eq_nil_iff];intro p hp;unfold iq;rw[h p (by simpa using hp)];simp
theorem pF.shut (h:pF t)(hI:Inv t d){n z:Nat}(hn:n<20)(n0:n≠0)(ho:t.of n=z+1)(hz:z<6)(hh:t.here z=true)(hw:t.ay z 1=n+1)(al: ∀p,p<21->t.ay z p≠0->p=1):
  gV (cY t (n:Int)) (z:Int)=0/\pF (fM (cY t (n:Int)) (z:Int)):=by
 have o:t.of n≠0:=by omega
 have z0:z≠0:=fun e=>by subst e;have:=h.r0.2;omega
 have emp: ∀p,p<21->(cY t (n:Int)).ay z p=0:=fun p hp=>by
  rw[ks hn o hz];by_cases c:t.ay z p=n+1
  ·rw[aJ c]
  ·rw[aI c];by_cases e:t.ay z p=0
   ·exact e
   ·have:=al p hp e;subst this;exact aZ hw c
 have kd:kids (cY t (n:Int)) z=false:=by
  unfold kids;rw[List.any_eq_false];intro k hk;have k6:k<6:=by simpa using hk
  unfold si;rw[(ig hn o).1,(ig hn o).2];intro c;have c1:t.here k=true/\t.par k=(z:Int):=by simpa using c
  obtain⟨x,x20,xw,xo⟩:=h.hd k k6 c1.1;have mem:z∈W t ((t.of x-1:Nat):Int):=by
   rw[xo,show k+1-1=k by omega,hI.tree.step k6 c1.1,c1.2,hI.tree.step hz hh];simp
  obtain⟨p,hp,pw⟩:=(hI.has z x hz x20).2 ⟨by omega,mem⟩;have p1:=al p hp (by omega);subst p1;have:x=n:=by omega
  subst this;have:k=z:=by omega
  subst this;rcases hI.tree.fH hz hh with⟨e,_⟩|⟨q,_,e,_,e2⟩
  ·exact z0 e
  ·rw[c1.2]at e;have:q=k:=by omega
   subst this;omega
 have de:gV (cY t (n:Int)) (z:Int)=0:=by
  unfold gV;rw[gO hz (by rw[(ig hn o).1];exact hh),aJ rfl,hU,aI (fun c=>by
   rcases c with c|c|c
   ·omega
   ·exact c (Gx emp)
   ·rw[kd]at c;cases c)]
 refine⟨de,?_⟩;have e:fM (cY t (n:Int)) (z:Int)={cY t (n:Int)with here:=lB (cY t (n:Int)).here z false,par:=fw (cY t (n:Int)).par z 0}:=by unfold fM;rw[aJ de,hU]
 rw[e];refine⟨fun s hs hs2=>?_,?_⟩
 ·have hs3:(if s=z then false else(cY t (n:Int)).here s)=true:=hs2;by_cases c:s=z
  ·rw[aJ c]at hs3;cases hs3
  ·rw[aI c,(ig hn o).1]at hs3;obtain⟨x,x20,xw,xo⟩:=h.hd s hs hs3;have xn:x≠n:=fun e=>by subst e;omega
   exact⟨x,x20,by show(cY t (n:Int)).ay s 1=_;rw[ks hn o hs,aI (by omega)];exact xw,by show(cY t (n:Int)).of x=_;rw[jx hn o,aI xn];exact xo⟩
 ·show(cY t (n:Int)).of 0=1/\(cY t (n:Int)).ay 0 1=1;rw[jx hn o,aI (bQ n0),ks hn o (by omega),aI (by have:=h.r0.2;omega)];exact h.r0
end
end Sp
namespace Mo
theorem rP {F:Fo}{z:Int}(n:Nat):((Tr.cZ F z).nd n).held<=(F.nd n).held:=by
 unfold Tr.cZ;split
 ·rw[vp];by_cases e:n=z.toNat
  ·subst e;rw[Tr.ai];show(F.nd _).held-1<=_;omega
  ·rw[Tr.ao _ _ _ _ e];exact aL _
 ·exact aL _
theorem rZ {F:Fo}{z:Int}{n:Nat}(h:0<((Tr.cZ F z).nd n).held):((Tr.cZ F z).nd n).kind=(F.nd n).kind:=by
 unfold Tr.cZ at*;split
 ·rename_i c;rw[aJ c]at h;rw[vp]at h;rw[Bu _ _ _ h];by_cases e:n=z.toNat
  ·subst e;rw[Tr.ai]
  ·rw[Tr.ao _ _ _ _ e]
 ·rfl
theorem Jm {F:Fo}{m:Mt}(n:Nat):((iL F m).nd n).held<=(F.nd n).held:=aH (rP n) (rP n)
theorem Ai {F:Fo}{m:Mt}{n:Nat}(h:0<((iL F m).nd n).held):((iL F m).nd n).kind=(F.nd n).kind:=(rZ h).trans (rZ (aD h (rP n)))
theorem sZ (n:Nat): ∀(L:List Mt) (F:Fo),((L.foldl iL F).nd n).held<=(F.nd n).held
 |[],_=>aL _
 |m::L,F=>aH (sZ n L (iL F m)) (Jm n)
theorem y9 (n:Nat): ∀(L:List Mt) (F:Fo),0<((L.foldl iL F).nd n).held->((L.foldl iL F).nd n).kind=(F.nd n).kind
 |[],_,_=>rfl
 |m::L,F,h=>(y9 n L (iL F m) h).trans (Ai (aD h (sZ n L _)))
theorem JB {F:Fo}{T:Tb}{n:Nat}(h:0<((rX F T).nd n).held):((rX F T).nd n).kind=(F.nd n).kind:=
 (y9 n T.ms _ h).trans (rZ (aD h (sZ n T.ms _)))
end Mo
namespace Kn
section
variable {X : Nat -> Prop} {N : Nat} {k : Kp}
theorem KJ.nX (h:KJ X N k)(m:Wf.M):KJ X N {k with sc:=m}:=⟨h.sp,h.gr,h.me,h.wx,h.rf,h.ok,h.tb,h.st,h.hs,h.lv,h.of,h.ht,h.nm⟩
theorem Ov (k:Kp)(n x:Nat)(hx:x<16):((cN k n 0 16).p n).mem.fr x=0:=by
 unfold cN;have c:Mv.pC 0 16=0:=by decide
 rw[aJ c];show((bR k n _ (Mv.nG (k.p n).mem k.bk 0 16)).p n).mem.fr x=0;rw[nC];show(Mv.nA (k.p n).mem 0 16).fr x=0;unfold Mv.nA;have b:Mv.jS 0 16=false:=by decide
 rw[b,aI (by decide)];show(if _ then 0 else _)=0;rw[aJ ⟨aC _,by show x<0+16;omega⟩]
theorem KJ.str (h:KJ X N k){n:Nat}(hn:n<20)(hh:(k.p n).has=true){k':Kp}(hs:fL k n k'):KJ (fun m=>X m\/m=n) N k':=by
 obtain⟨m',hd,rfl⟩:=hs;have a:=((h.KZ hn hh 0 16).da n (k.p n).fd 6).nX m';have pp:=vM (cN k n 0 16) n (k.p n).fd 6;have z0: ∀x,x<16->((Kn.da (cN k n 0 16) n (k.p n).fd 6).p n).mem.fr x=0:=fun x hx=>by rw[(pp n).2.2.1];exact Ov k n x hx
 unfold pY;dsimp only;generalize Kn.da (cN k n 0 16) n (k.p n).fd 6=k1 at*;have e: ∀j,j≠n->(({k1 with sc:=m'}:Kp).put n {k1.p n with has:=false,mem:=Mv.kX,box:=Sg.fj}).p j=k1.p j:=fun j c=>ao _ _ _ _ c;have e2:(({k1 with sc:=m'}:Kp).put n {k1.p n with has:=false,mem:=Mv.kX,box:=Sg.fj}).p n={k1.p n with has:=false,mem:=Mv.kX,box:=Sg.fj}:=ai _ _ _;refine⟨a.sp,a.gr,?_,a.wx,a.rf,a.ok,a.tb,fun m hm=>?_,fun m hm=>?_,fun m hm=>?_,fun m hm=>?_,a.ht,fun m hm=>?_⟩
 ·refine a.me.congr (fun i hi x hx=>?_);by_cases c:i=n
  ·subst c;rw[e2];exact(z0 x hx).symm
  ·rw[e i c]
 ·by_cases c:m=n
  ·subst c;rw[e2];exact a.st m hm
  ·rw[e m c];exact a.st m hm
 ·by_cases c:m=n
  ·subst c;rw[e2];intro q;cases q
  ·rw[e m c];exact a.hs m hm
 ·intro hx;by_cases c:m=n
  ·exact aZ (.inr c) hx
  ·rw[e m c];exact a.lv m hm (fun q=>hx (.inl q))
 ·by_cases c:m=n
  ·subst c;rw[e2];exact a.of m hm
  ·rw[e m c];exact a.of m hm
 ·by_cases c:m=n
  ·subst c;rw[e2];intro _;rfl
  ·rw[e m c];exact a.nm m hm
theorem O9 (k:Kp)(n:Nat)(a m:Int):(cN k n a m).sp=k.sp/\(cN k n a m).ht=k.ht/\(cN k n a m).tb=k.tb:=by unfold cN;split<;>exact⟨rfl,rfl,rfl⟩
theorem xJ (k:Kp)(n:Nat)(fd:Nat->Int): ∀j,(da k n fd j).sp=k.sp/\(da k n fd j).ht=k.ht/\(da k n fd j).tb=k.tb
 |0=>⟨rfl,rfl,rfl⟩
 |j+1=>by
  show(if fd j= -1 then _ else _:Kp).sp=_/\(if fd j= -1 then _ else _:Kp).ht=_/\(if fd j= -1 then _ else _:Kp).tb=_;split
  ·exact xJ k n fd j
  ·exact xJ k n fd j
theorem fL.sp {n:Nat}{k':Kp}(hs:fL k n k'):k'.sp=k.sp/\k'.ht=k.ht/\k'.tb=k.tb:=by
 obtain⟨m',_,rfl⟩:=hs;have a:=xJ (cN k n 0 16) n (k.p n).fd 6;have b:=O9 k n 0 16;exact⟨a.1.trans b.1,a.2.1.trans b.2.1,a.2.2.trans b.2.2⟩
theorem fL.p {n:Nat}{k':Kp}(hs:fL k n k')(m:Nat):(k'.p m).st=(k.p m).st/\(k'.p m).par=(k.p m).par/\(k'.p m).bP=(k.p m).bP/\(k'.p m).code=(k.p m).code/\(m≠n->(k'.p m).has=(k.p m).has/\(k'.p m).mem=(k.p m).mem/\(k'.p m).box=(k.p m).box):=by
 obtain⟨m',_,rfl⟩:=hs;have a:=vM (cN k n 0 16) n (k.p n).fd 6 m;have b:=Aw k n 0 16 m;unfold pY;dsimp only;by_cases c:m=n
 ·subst c;rw[ai];exact⟨a.1.trans b.2.2.1,a.2.2.2.2.2.1.trans b.2.2.2.2.2.1,a.2.2.2.2.1.trans b.2.2.2.2.1,a.2.2.2.2.2.2.trans b.2.2.2.2.2.2,fun e=>aZ rfl e⟩
 ·rw[ao _ _ _ _ c];have mm:((cN k n 0 16).p m).mem=(k.p m).mem:=by
   unfold cN;split
   ·show((bR k n _ (Mv.nG (k.p n).mem k.bk 0 16)).p m).mem=_;rw[show∀x b,(bR k n x b).p m=k.p m from fun x b=>ao _ _ _ _ c]
   ·rfl
  exact⟨a.1.trans b.2.2.1,a.2.2.2.2.2.1.trans b.2.2.2.2.2.1,a.2.2.2.2.1.trans b.2.2.2.2.1,a.2.2.2.2.2.2.trans b.2.2.2.2.2.2,fun _=>⟨a.2.1.trans b.2.1,a.2.2.1.trans mm,a.2.2.2.1.trans b.2.2.2.1⟩⟩
def dL (k:Kp)(n:Nat):Kp:=({k with gr:=Gr.gA k.gr (k.p n).bP 1 0,sp:=Sp.cY k.sp (n:Int)}).put n Pr.no
theorem KJ.fin (h:KJ X N k){n:Nat}(hn:n<20)(h0:(k.p n).st≠0)(hh:(k.p n).has=false):KJ (fun m=>X m/\m≠n) N (dL k n):=by
 have o:=(h.of n hn).2 h0;have e: ∀j,j≠n->(dL k n).p j=k.p j:=fun j c=>ao _ _ _ _ c;have e2:(dL k n).p n=Pr.no:=ai _ _ _;have hr:=Sp.ig hn o;refine⟨?_,?_,?_,h.wx,h.rf,h.ok,h.tb,fun m hm=>?_,fun m hm=>?_,fun m hm=>?_,fun m hm=>?_,fun s hs=>?_,fun m hm=>?_⟩
 ·obtain⟨d,hd⟩:=h.sp;exact⟨d,hd.leave _⟩
 ·obtain⟨Wy,g⟩:=h.gr;exact⟨Wy,mu g _ _ _⟩
 ·refine h.me.congr (fun i hi x hx=>?_);by_cases c:i=n
  ·subst c;rw[e2,h.nm i hn hh];rfl
  ·rw[e i c]
 ·by_cases c:m=n
  ·subst c;rw[e2];exact aC _
  ·rw[e m c];exact h.st m hm
 ·by_cases c:m=n
  ·subst c;rw[e2];intro q;cases q
  ·rw[e m c];exact h.hs m hm
 ·intro hx;by_cases c:m=n
  ·subst c;rw[e2];intro q;cases q
  ·rw[e m c];exact h.lv m hm (fun q=>hx ⟨q,c⟩)
 ·show(Sp.cY k.sp (n:Int)).of m≠0↔_;rw[Sp.jx hn o];by_cases c:m=n
  ·subst c;rw[e2,aJ rfl];exact⟨fun q=>aZ rfl q,fun q=>aZ rfl q⟩
  ·rw[e m c,aI c];exact h.of m hm
 ·show k.ht s=(Sp.cY k.sp (n:Int)).here s;rw[hr.1];exact h.ht s hs
 ·by_cases c:m=n
  ·subst c;rw[e2];intro _;rfl
  ·rw[e m c];exact h.nm m hm
def kL (k:Kp)(z:Nat):Kp:={k with sp:=Sp.fM k.sp (z:Int),fo:=Mo.rX k.fo (k.tb z),ht:=fun s=>if s=z then false else k.ht s}
theorem zP (k:Kp)(z m:Nat): ∀s,jH (kL k z) m s+(if z<s/\k.ht z=true then Mo.tc (k.tb z) m else 0)=jH k m s
 |0=>by rw[aI (fun c=>aZ c.1 (Nat.not_lt_zero _))];rfl
 |s+1=>by
  have ih:=zP k z m s;show jH (kL k z) m s+(if(if s=z then false else k.ht s)=true then Mo.tc (k.tb s) m else 0)+_=jH k m s+_;by_cases c:s=z
  ·subst c;rw[aI (fun c=>by omega)]at ih;rw[aJ rfl,aI (by decide)];by_cases d:k.ht s=true
   ·rw[aJ ⟨by omega,d⟩,aJ d];omega
   ·rw[aI (fun e=>d e.2),aI d];omega
  ·rw[aI c];by_cases d:z<s/\k.ht z=true
   ·rw[aJ d]at ih;rw[aJ (show z<s+1/\k.ht z=true from⟨by omega,d.2⟩)];omega
   ·rw[aI d]at ih;rw[aI (show¬(z<s+1/\k.ht z=true)from fun e=>d ⟨by omega,e.2⟩)];omega
theorem KJ.QW (h:KJ X N k){z:Nat}(hz:z<6)(hh:k.sp.here z=true)(de:Sp.gV k.sp (z:Int)=0):KJ X N (kL k z):=by
 have ht:k.ht z=true:=by rw[h.ht z hz];exact hh
 have tx: ∀m,iG k m=iG (kL k z) m+Mo.tc (k.tb z) m:=fun m=>by
  have:=zP k z m 6;rw[aJ ⟨hz,ht⟩]at this;exact this.symm
 have rg:=h.tb z hz ht;have hi:Mo.HI k.fo (fun n=>(Fx.cK k.fi 1 n 24+iG (kL k z) n)+Mo.tc (k.tb z) n):=⟨fun n hn=>by rw[h.wx.hl n hn,tx n];omega,fun n hn c kz=>by
  have:=h.wx.z0 n hn kz;rw[h.wx.hl n hn,tx n]at this;omega⟩
 have hl:=Mo.NR hi rg.1;have e:(kL k z).sp={k.sp with here:=Sp.lB k.sp.here z false,par:=Sp.fw k.sp.par z 0}:=by show Sp.fM k.sp (z:Int)=_;unfold Sp.fM;rw[aJ de,hU]
 refine⟨?_,h.gr,h.me,?_,h.rf,Mo.NY h.ok,fun s hs q=>?_,h.st,h.hs,h.lv,fun n hn=>?_,fun s hs=>?_,h.nm⟩
 ·obtain⟨d,hd⟩:=h.sp;exact⟨d,hd.drop _⟩
 ·refine⟨h.wx.no,h.wx.kd,fun n hn r k1=>?_,h.wx.pn,h.wx.ps,fun m hm=>hl.hd m hm,fun m hm kz=>?_,h.wx.rd,h.wx.wt⟩
  ·have a:=h.wx.nd n hn r k1;refine⟨a.1,?_⟩;have c1:=Fx.mO (T:=k.fi) (k:=1) (m:=(k.fi n).num) hn;have c2:=Fx.lE r;rw[k1]at c2;show((Mo.rX k.fo (k.tb z)).nd (k.fi n).num).kind=1;have c3:Fx.hit (k.fi n) 1 (k.fi n).num=1:=c2;rw[Mo.JB (n:=(k.fi n).num) (by rw[hl.hd _ a.1];omega)];exact a.2
  ·by_cases c:((Mo.rX k.fo (k.tb z)).nd m).held=0
   ·exact c
   ·exact aZ kz (hl.lv m hm (by rw[<-hl.hd m hm];omega))
 ·have q2:(if s=z then false else k.ht s)=true:=q;by_cases c:s=z
  ·rw[aJ c]at q2;cases q2
  ·rw[aI c]at q2;exact h.tb s hs q2
 ·rw[e];exact h.of n hn
 ·rw[e];show(if s=z then false else k.ht s)=if s=z then false else k.sp.here s;by_cases c:s=z
  ·rw[aJ c,aJ c]
  ·rw[aI c,aI c];exact h.ht s hs
end
end Kn
namespace Sp
def mem (t:T)(z m:Nat):Prop:= ∃p,p<21/\t.ay z p=m+1
theorem Tree.sub {t:T}{d:Nat->Nat}(h:Tree t d){n:Nat}(hn:n<6)(hh:t.here n=true): ∀x,x∈W t (n:Int)-> ∀y,y∈W t (x:Int)->y∈W t (n:Int):=by
 refine h.ind (P:=fun n=> ∀x,x∈W t (n:Int)-> ∀y,y∈W t (x:Int)->y∈W t (n:Int)) (fun n hn hh ih=>?_) n hn hh;intro x hx y hy;rw[h.step hn hh]at hx|-;rcases List.mem_cons.1 hx with e|hx
 ·subst e;rw[<-h.step hn hh];exact hy
 ·rcases h.fH hn hh with⟨_,e,_⟩|⟨p,h1,e,h2,h3⟩
  ·rw[e,mf _ _ (by omega)]at hx;cases hx
  ·rw[e]at hx|-;exact List.mem_cons_of_mem _ (ih p h1 h2 e h3 x hx y hy)
section
variable {t : T} {d : Nat -> Nat}
theorem Inv.mem_of (h:Inv t d){z m:Nat}(hz:z<6)(hm:m<20)(k:mem t z m):t.of m≠0/\z∈W t ((t.of m-1:Nat):Int):=(h.has z m hz hm).1 k
theorem Inv.bH (h:Inv t d){z m:Nat}(hm:m<20)(ho:t.of m=z+1):mem t z m/\z<6/\t.here z=true:=by
 have o:=h.nr m hm (by omega);rw[ho,show z+1-1=z by omega]at o;have z6:z<6:=by omega
 refine⟨(h.has z m z6 hm).2 ⟨by omega,?_⟩,z6,o.2⟩;rw[ho,show z+1-1=z by omega,h.tree.step z6 o.2];simp
theorem Inv.sU (h:Inv t d){z y m x:Nat}(hz:z<6)(hm:m<20)(hx:x<20)(ho:t.of m=y+1)(k:mem t z m)(kx:mem t y x):mem t z x:=by
 obtain⟨_,y6,yh⟩:=h.bH hm ho;have a:=(h.mem_of hz hm k).2;rw[ho,show y+1-1=y by omega]at a;have b:=h.mem_of y6 hx kx;have o:=h.nr x hx b.1;exact(h.has z x hz hx).2 ⟨b.1,h.tree.sub (by omega) o.2 y b.2 z a⟩
theorem qE {t:T}{z i x:Nat}(h:(eO t z)[i]? =some x)(hw: ∀p,p<21->t.ay z p<=20):x<20/\mem t z x:=by
 have hm:=bK h;unfold eO at hm;obtain⟨p,hp,e⟩:=List.mem_map.1 hm;obtain⟨h1,h2⟩:=bX.1 hp;have p21:p<21:=by simpa using h1
 have w0:t.ay z p≠0:=by simpa[iq]using h2
 have:=hw p p21;exact⟨by omega,p,p21,by omega⟩
theorem Inv.second (h:Inv t d){z n:Nat}(hz:z<6)(hw:t.ay z 1=n+1):(eO t z)[0]? =some n/\ ∀x,(eO t z)[1]? =some x->x≠n:=by
 have e: ∃L,eO t z=n::L/\ ∀x,x∈L-> ∃p,p<21/\2<=p/\t.ay z p≠0/\x=t.ay z p-1:=by
  unfold eO;have r:List.range 21=0::1::(List.range 19).map (· +2):=by decide
  rw[r,List.filter_cons_of_neg (by simp[iq,h.nO z hz]),List.filter_cons_of_pos (by simp[iq,hw]),List.map_cons];refine⟨_,by rw[hw];rfl,fun x hx=>?_⟩;obtain⟨p,hp,e⟩:=List.mem_map.1 hx;obtain⟨h1,h2⟩:=bX.1 hp;obtain⟨q,hq,e2⟩:=List.mem_map.1 h1;have q19:q<19:=by simpa using hq
  have e2':q+2=p:=e2;exact⟨p,by omega,by omega,by simpa[iq]using h2,e.symm⟩
 obtain⟨L,e1,e2⟩:=e;rw[e1];refine⟨rfl,fun x hx=>?_⟩;have hm:x∈L:=bK (i:=0) hx;obtain⟨p,p21,p2,pw,ex⟩:=e2 x hm;intro c;have:t.ay z p=t.ay z 1:=by omega
 have:=h.one z p 1 hz p21 (by omega) this pw;omega
theorem vt {t:T}{z n:Nat}(hw:t.ay z 1=n+1)(hl:(eO t z).length<=1)(p:Nat)(hp:p<21)(h0:t.ay z p≠0):p=1:=by
 by_cases c:p=1
 ·exact c
 ·exfalso;unfold eO at hl;rw[List.length_map]at hl;have s:[min p 1,max p 1].Sublist ((List.range 21).filter (iq t z)):=by
   have s1:[min p 1,max p 1].Sublist (List.range 21):=by
    have a:min p 1<max p 1:=by omega
    have b:max p 1<21:=by omega
    rw[show List.range 21=List.range (max p 1)++(List.range (21-max p 1)).map (max p 1+ ·)by rw[<-List.range_add];congr 1;omega];refine(List.Sublist.append (l₁:=[min p 1]) (r₁:=[max p 1]) ?_ ?_)
    ·exact List.singleton_sublist.2 (by simpa using a)
    ·exact List.singleton_sublist.2 (by simp;omega)
   have:=s1.filter (iq t z);rw[List.filter_eq_self.2]at this
   ·exact this
   ·intro x hx;simp only[List.mem_cons,List.not_mem_nil,or_false]at hx;unfold iq;rcases hx with e|e<;>rw[e]<;>apply aO
    ·by_cases q:p<=1
     ·rw[Nat.min_eq_left q];exact h0
     ·rw[Nat.min_eq_right (by omega)];omega
    ·by_cases q:p<=1
     ·rw[Nat.max_eq_right q];omega
     ·rw[Nat.max_eq_left (by omega)];exact h0
  have:=s.length_le;simp at this;omega
end
end Sp
namespace Kn
def iW (R:Kp->Nat->Kp->Prop)(z:Int):Nat->Kp->Kp->Prop
 |0,k,k'=>k'=k/\(dv k.sp z).length<=1
 |j+1,k,k'=> ∃m k1,(dv k.sp z)[1]? =some m/\R k m k1/\iW R z j k1 k'
def gW:Nat->Kp->Nat->Kp->Prop
 |0,_,_,_=>False
 |f+1,k,n,k'=> ∃k1,(lv k n=true->fL k n k1)/\(lv k n=false->k1=k)/\((hd k n≠n/\k'=dL k1 n)\/(hd k n=n/\ ∃k2 j,iW (gW f) (Sp.cQ k.sp (n:Int):Int) j k1 k2/\k'=kL (dL k2 n) (Sp.cQ k.sp (n:Int))))
structure Gz (k k':Kp)(z:Nat):Prop where
 kp: ∀m,m<20->(k'.p m=k.p m/\k'.sp.of m=k.sp.of m)\/(k'.p m=Pr.no/\k'.sp.of m=0/\Sp.mem k.sp z m)
 wh: ∀s p,s<6->p<21->k'.sp.ay s p=k.sp.ay s p\/k'.sp.ay s p=0
 wk: ∀s p m,s<6->p<21->m<20->k.sp.ay s p=m+1->k'.sp.of m≠0->k'.sp.ay s p=m+1
 hr: ∀s,s<6->k'.sp.here s=true->k.sp.here s=true
 hk: ∀s,s<6->k.sp.here s=true->k'.sp.here s=false-> ∀m,m<20->Sp.mem k.sp s m->k'.sp.of m=0
section
variable {k k1 k2 : Kp} {z y : Nat}
theorem Gz.refl (k:Kp)(z:Nat):Gz k k z:=⟨fun _ _=> .inl ⟨rfl,rfl⟩,fun _ _ _ _=> .inl rfl,fun _ _ _ _ _ _ e _=>e,fun _ _ e=>e,fun _ _ a b=>by rw[a]at b;cases b⟩
theorem Gz.back (h:Gz k k1 y){s m:Nat}(hs:s<6)(e:Sp.mem k1.sp s m):Sp.mem k.sp s m:=by
 obtain⟨p,p21,pw⟩:=e;rcases h.wh s p hs p21 with c|c
 ·exact⟨p,p21,by rw[<-c];exact pw⟩
 ·rw[c]at pw;omega
theorem Gz.up (h:Gz k k1 y)(e: ∀m,m<20->Sp.mem k.sp y m->Sp.mem k.sp z m):Gz k k1 z:=⟨fun m hm=>(h.kp m hm).imp id (fun c=>⟨c.1,c.2.1,e m hm c.2.2⟩),h.wh,h.wk,h.hr,h.hk⟩
theorem Gz.trans (hz:z<6)(h:Gz k k1 z)(g:Gz k1 k2 z):Gz k k2 z:=by
 have no:Pr.no.st=0:=rfl;refine⟨fun m hm=>?_,fun s p hs hp=>?_,fun s p m hs hp hm e c=>?_,fun s hs e=>h.hr s hs (g.hr s hs e),fun s hs a b m hm e=>?_⟩
 ·rcases g.kp m hm with c|c
  ·rcases h.kp m hm with d|d
   ·exact .inl ⟨c.1.trans d.1,c.2.trans d.2⟩
   ·exact .inr ⟨c.1.trans d.1,c.2.trans d.2.1,d.2.2⟩
  ·exact .inr ⟨c.1,c.2.1,h.back hz c.2.2⟩
 ·rcases g.wh s p hs hp with c|c
  ·rw[c];exact h.wh s p hs hp
  ·exact .inr c
 ·have o1:k1.sp.of m≠0:=fun q=>by
   rcases g.kp m hm with d|d
   ·exact c (d.2.trans q)
   ·exact c d.2.1
  exact g.wk s p m hs hp hm (h.wk s p m hs hp hm e o1) c
 ·by_cases q:k1.sp.of m=0
  ·rcases g.kp m hm with d|d
   ·exact d.2.trans q
   ·exact d.2.1
  ·have b1:k1.sp.here s=true:=by
    cases w:k1.sp.here s
    ·exact aZ (h.hk s hs a w m hm e) q
    ·rfl
   refine g.hk s hs b1 b m hm ?_;obtain⟨p,p21,pw⟩:=e;exact⟨p,p21,h.wk s p m hs p21 hm pw q⟩
end
structure VI (X:Nat->Prop)(N:Nat)(d:Nat->Nat)(k:Kp):Prop where
 kj:KJ X N k
 iv:Sp.Inv k.sp d
 hs:Sp.pF k.sp
theorem fK {k:Kp}{d:Nat->Nat}(hI:Sp.Inv k.sp d)(hH:Sp.pF k.sp){n z:Nat}(hn:n<20)(ho:k.sp.of n=z+1):hd k n=n↔k.sp.ay z 1=n+1:=by
 obtain⟨_,z6,zh⟩:=hI.bH hn ho;obtain⟨x,x20,xw,xo⟩:=hH.hd z z6 zh;unfold hd;rw[Sp.fG hn ho,Sp.Dw z6 zh xw,xw];omega
theorem fL.QY {k k':Kp}{n m:Nat}(hs:fL k n k')(c:m≠n):k'.p m=k.p m:=by
 obtain⟨m',_,rfl⟩:=hs;have a: ∀(k:Kp) (fd:Nat->Int) j,(Kn.da k n fd j).p m=k.p m:=fun k fd j=>by
  induction j with
  |zero=>rfl
  |succ j ih=>
   show(if fd j= -1 then _ else _:Kp).p m=_;split
   ·exact ih
   ·show(eS _ n j (-1)).p m=_;unfold eS;rw[ao _ _ _ _ c];exact ih
 have b:(cN k n 0 16).p m=k.p m:=by
  unfold cN;split
  ·show(bR k n _ (Mv.nG (k.p n).mem k.bk 0 16)).p m=_;exact ao _ _ _ _ c
  ·rfl
 unfold pY;dsimp only;rw[ao _ _ _ _ c];exact(a _ _ 6).trans b
section
variable {X : Nat -> Prop} {N : Nat} {d : Nat -> Nat} {k k1 k' : Kp} {n z : Nat}
theorem VI.first (h:VI X N d k)(hn:n<20)(hX: ¬X n)(ho:k.sp.of n=z+1)(h1:lv k n=true->fL k n k1)(h2:lv k n=false->k1=k):
  VI (fun m=>X m\/m=n) N d k1/\k1.sp=k.sp/\k1.tb=k.tb/\(k1.p n).has=false/\(k1.p n).st≠0/\ ∀m,m≠n->k1.p m=k.p m:=by
 have s0:(k.p n).st≠0:=(h.kj.of n hn).1 (by omega);cases c:lv k n
 ·have:=h2 c;subst this;have hh:(k1.p n).has=false:=by
   cases e:(k1.p n).has
   ·rfl
   ·have:=h.kj.hs n hn e;unfold lv at c;rw[this]at c;cases c
  exact⟨⟨h.kj.mono (fun _ _ e=> .inl e) (aL _),h.iv,h.hs⟩,rfl,rfl,hh,s0,fun _ _=>rfl⟩
 ·have st:=h1 c;have s1:(k.p n).st=1:=by unfold lv at c;simpa using c
  have hh:=h.kj.lv n hn hX s1;have sp:=st.sp;have hf:(k1.p n).has=false:=by
   obtain⟨m',_,rfl⟩:=st;unfold pY;dsimp only;rw[ai]
  refine⟨⟨h.kj.str hn hh st,by rw[sp.1];exact h.iv,by rw[sp.1];exact h.hs⟩,sp.1,sp.2.2,hf,by rw[(st.p n).1];exact s0,fun m e=>st.QY e⟩
theorem VI.lone (h:VI X N d k)(hn:n<20)(n0:n≠0)(hX: ¬X n)(ho:k.sp.of n=z+1)(hd1:hd k n≠n)(h1:lv k n=true->fL k n k1)(h2:lv k n=false->k1=k):VI X N d (dL k1 n)/\Gz k (dL k1 n) z/\(dL k1 n).p n=Pr.no/\ ∀x,x<20->x≠n->(dL k1 n).p x=k.p x/\(dL k1 n).sp.of x=k.sp.of x:=by
 obtain⟨a,sp,tb,hh,s0,eC⟩:=h.first hn hX ho h1 h2;have o1:k1.sp.of n=z+1:=by rw[sp];exact ho
 have o:k1.sp.of n≠0:=by omega
 have wn:k1.sp.ay z 1≠n+1:=fun e=>hd1 ((fK h.iv h.hs hn ho).2 (by rw[<-sp];exact e));have e1: ∀m,m≠n->(dL k1 n).p m=k.p m:=fun m c=>(show(dL k1 n).p m=k1.p m from ao _ _ _ _ c).trans (eC m c);have e2:(dL k1 n).p n=Pr.no:=ai _ _ _;have kj:=(a.kj.fin hn s0 hh).mono (Y:=X) (M:=N) (fun m _ e=>e.1.elim id (fun q=>aZ q e.2)) (aL _);refine⟨⟨kj,a.iv.leave _,a.hs.leave hn n0 o1 wn⟩,⟨fun m hm=>?_,fun s p hs hp=>?_,fun s p m hs hp hm e c=>?_,fun s hs e=>?_,fun s hs q r=>?_⟩,e2,fun x _ c=>⟨e1 x c,by show(Sp.cY k1.sp (n:Int)).of x=_;rw[Sp.jx hn o,aI c,sp]⟩⟩
 ·by_cases c:m=n
  ·subst c;refine .inr ⟨e2,?_,(h.iv.bH hn ho).1⟩;show(Sp.cY k1.sp (m:Int)).of m=0;rw[Sp.jx hn o,aJ rfl]
  ·refine .inl ⟨e1 m c,?_⟩;show(Sp.cY k1.sp (n:Int)).of m=_;rw[Sp.jx hn o,aI c,sp]
 ·show(Sp.cY k1.sp (n:Int)).ay s p=_\/(Sp.cY k1.sp (n:Int)).ay s p=0;rw[Sp.ks hn o hs,sp];by_cases c:k.sp.ay s p=n+1
  ·rw[aJ c];exact .inr rfl
  ·rw[aI c];exact .inl rfl
 ·have c2:(Sp.cY k1.sp (n:Int)).of m≠0:=c;rw[Sp.jx hn o]at c2;show(Sp.cY k1.sp (n:Int)).ay s p=_;by_cases q:m=n
  ·rw[aJ q]at c2;exact aZ rfl c2
  ·rw[Sp.ks hn o hs,sp,aI (by omega)];exact e
 ·have e3:(Sp.cY k1.sp (n:Int)).here s=true:=e;rw[(Sp.ig hn o).1,sp]at e3;exact e3
 ·have e3:(Sp.cY k1.sp (n:Int)).here s=false:=r;rw[(Sp.ig hn o).1,sp]at e3;rw[q]at e3;cases e3
end
end Kn
namespace Sp
variable {t : T} {d : Nat -> Nat}
theorem Tree.lower (h:Tree t d){z y:Nat}(hz:z<6)(hh:t.here z=true)(hy:y∈W t (z:Int))(n:y≠z):d y<d z:=by
 rw[h.step hz hh]at hy;rcases List.mem_cons.1 hy with e|hy
 ·exact aZ e n
 ·rcases h.fH hz hh with⟨_,e,_⟩|⟨p,h1,e,h2,h3⟩
  ·rw[e,mf _ _ (by omega)]at hy;cases hy
  ·rw[e]at hy;have:=(h.mem h1 h2 y hy).2.2;omega
theorem Inv.zero (h:Inv t d)(hH:pF t){z n:Nat}(hz:z<6)(hw:t.ay z 1=n+1)(n0:n≠0): ¬mem t z 0:=fun c=>by
 have a:=(h.mem_of hz (by omega) c).2;rw[hH.r0.1]at a;rw[show((1-1:Nat):Int)=((0:Nat):Int)from rfl,h.tree.step (by omega) h.tree.root.1,h.tree.root.2.1,mf _ _ (by omega)]at a;have:z=0:=by simpa using a
 subst this;have:=hH.r0.2;omega
theorem Inv.ze (h:Inv t d){z y n m:Nat}(hn:n<20)(hm:m<20)(ho:t.of n=z+1)(hy:t.of m=y+1)(k:mem t z m)(c:y≠z): ¬mem t y n:=fun e=>by
 obtain⟨_,z6,zh⟩:=h.bH hn ho;obtain⟨_,y6,yh⟩:=h.bH hm hy;have a:=(h.mem_of z6 hm k).2;rw[hy,show y+1-1=y by omega]at a;have b:=(h.mem_of y6 hn e).2;rw[ho,show z+1-1=z by omega]at b;have:=h.tree.lower y6 yh a (bQ c);have:=h.tree.lower z6 zh b c;omega
end Sp
namespace Kn
def Fu (N:Nat)(d:Nat->Nat)(R:Kp->Nat->Kp->Prop):Prop:= ∀(X:Nat->Prop) (k:Kp) (n:Nat) (k':Kp) (z:Nat),VI X N d k->n<20->n≠0-> ¬X n->k.sp.of n=z+1->(hd k n=n-> ∀m,m<20->X m-> ¬Sp.mem k.sp z m)->R k n k'->VI X N d k'/\Gz k k' z/\k'.p n=Pr.no/\(hd k n≠n-> ∀x,x<20->x≠n->k'.p x=k.p x/\k'.sp.of x=k.sp.of x)
structure EI (X:Nat->Prop)(N:Nat)(d:Nat->Nat)(n z:Nat)(k:Kp):Prop where
 vi:VI X N d k
 hn:n<20
 n0:n≠0
 xn:X n
 ho:k.sp.of n=z+1
 hw:k.sp.ay z 1=n+1
 hx: ∀m,m<20->X m->m≠n-> ¬Sp.mem k.sp z m
section
variable {X : Nat -> Prop} {N : Nat} {d : Nat -> Nat} {k k1 k2 k' : Kp} {n z m : Nat} {R : Kp -> Nat -> Kp -> Prop}
theorem EI.z6 (h:EI X N d n z k):z<6/\k.sp.here z=true:=(h.vi.iv.bH h.hn h.ho).2
theorem EI.eO (h:EI X N d n z k):dv k.sp (z:Int)=Sp.eO k.sp z:=by
 unfold dv;rw[Sp.gO h.z6.1 h.z6.2,aJ rfl,hU]
theorem EI.next (h:EI X N d n z k)(hm:(dv k.sp (z:Int))[1]? =some m):m<20/\m≠0/\m≠n/\ ¬X m/\Sp.mem k.sp z m/\ ∃y,k.sp.of m=y+1/\(hd k m=m-> ∀x,x<20->X x-> ¬Sp.mem k.sp y x):=by
 rw[h.eO]at hm;obtain⟨m20,mz⟩:=Sp.qE hm (fun p hp=>h.vi.iv.nS z p h.z6.1 hp);have mn:=(h.vi.iv.second h.z6.1 h.hw).2 m hm;have m0:m≠0:=fun e=>by subst e;exact h.vi.iv.zero h.vi.hs h.z6.1 h.hw h.n0 mz
 have o:=(h.vi.iv.mem_of h.z6.1 m20 mz).1;refine⟨m20,m0,mn,fun c=>h.hx m m20 c mn mz,mz,k.sp.of m-1,by omega,fun hd1 x x20 xx xm=>?_⟩;have hy:k.sp.of m=(k.sp.of m-1)+1:=by omega
 by_cases e:x=n
 ·subst e;refine h.vi.iv.ze h.hn m20 h.ho hy mz (fun c=>?_) xm;have:=(fK h.vi.iv h.vi.hs m20 hy).1 hd1;rw[c,h.hw]at this;omega
 ·exact h.hx x x20 xx e (h.vi.iv.sU h.z6.1 m20 x20 hy mz xm)
theorem EI.step (h:EI X N d n z k)(hm:(dv k.sp (z:Int))[1]? =some m)(hR:Fu N d R)(r:R k m k1):EI X N d n z k1/\Gz k k1 z/\k1.p n=k.p n/\k1.p m=Pr.no:=by
 obtain⟨m20,m0,mn,mx,mz,y,hy,hx⟩:=h.next hm;obtain⟨v1,g1,e1,l1⟩:=hR X k m k1 y h.vi m20 m0 mx hy hx r;have kn:k1.p n=k.p n/\k1.sp.of n=k.sp.of n:=by
  by_cases c:hd k m=m
  ·rcases g1.kp n h.hn with q|q
   ·exact q
   ·exact aZ q.2.2 (hx c n h.hn h.xn)
  ·exact l1 c n h.hn (bQ mn)
 have o1:k1.sp.of n=z+1:=kn.2.trans h.ho;have g:Gz k k1 z:=g1.up (fun x x20 xm=>h.vi.iv.sU h.z6.1 m20 x20 hy mz xm);exact⟨⟨v1,h.hn,h.n0,h.xn,o1,g.wk z 1 n h.z6.1 (by omega) h.hn h.hw (by omega),fun x x20 xx xn c=>h.hx x x20 xx xn (g.back h.z6.1 c)⟩,g,kn.1,e1⟩
theorem EI.iter (hR:Fu N d R): ∀(j:Nat) (k:Kp),EI X N d n z k->iW R (z:Int) j k k'->EI X N d n z k'/\Gz k k' z/\k'.p n=k.p n/\(dv k'.sp (z:Int)).length<=1
 |0,k,h,r=>by
  obtain⟨rfl,hl⟩:=r;exact⟨h,Gz.refl _ _,rfl,hl⟩
 |j+1,k,h,r=>by
  obtain⟨m,k1,hm,r1,r2⟩:=r;obtain⟨a,g,e,_⟩:=h.step hm hR r1;obtain⟨a2,g2,e2,l2⟩:=EI.iter hR j k1 a r2;exact⟨a2,g.trans h.z6.1 g2,e2.trans e,l2⟩
theorem EI.last (h:EI (fun m=>X m\/m=n) N d n z k)(hX: ¬X n)(hl:(dv k.sp (z:Int)).length<=1)(hh:(k.p n).has=false)(s0:(k.p n).st≠0):
  VI X N d (kL (dL k n) z)/\Gz k (kL (dL k n) z) z/\(kL (dL k n) z).p n=Pr.no/\Sp.gV (dL k n).sp (z:Int)=0:=by
 have o:k.sp.of n≠0:=by have:=h.ho;omega
 have hn:=h.hn;rw[h.eO]at hl;obtain⟨de,hs⟩:=h.vi.hs.shut h.vi.iv hn h.n0 h.ho h.z6.1 h.z6.2 h.hw (Sp.vt h.hw hl);have kj:=(h.vi.kj.fin hn s0 hh).mono (Y:=X) (M:=N) (fun m _ e=>e.1.elim id (fun q=>aZ q e.2)) (aL _);have hr:(dL k n).sp.here z=true:=by show(Sp.cY k.sp (n:Int)).here z=true;rw[(Sp.ig hn o).1];exact h.z6.2
 have e1: ∀m,m≠n->(kL (dL k n) z).p m=k.p m:=fun m c=>ao _ _ _ _ c;have e2:(kL (dL k n) z).p n=Pr.no:=ai _ _ _;have es:(kL (dL k n) z).sp={Sp.cY k.sp (n:Int)with here:=Sp.lB (Sp.cY k.sp (n:Int)).here z false,par:=Sp.fw (Sp.cY k.sp (n:Int)).par z 0}:=by
  show Sp.fM (Sp.cY k.sp (n:Int)) (z:Int)=_;unfold Sp.fM;rw[aJ de,hU]
 refine⟨⟨kj.QW h.z6.1 hr de,(h.vi.iv.leave _).drop _,hs⟩,⟨fun m hm=>?_,fun s p hs hp=>?_,fun s p m hs hp hm e c=>?_,fun s hs e=>?_,fun s hs q r m hm mm=>?_⟩,e2,de⟩
 ·rw[es];show(_/\(Sp.cY k.sp (n:Int)).of m=_)\/(_/\(Sp.cY k.sp (n:Int)).of m=0/\_);rw[Sp.jx hn o];by_cases c:m=n
  ·subst c;exact .inr ⟨e2,aJ rfl,(h.vi.iv.bH hn h.ho).1⟩
  ·exact .inl ⟨e1 m c,aI c⟩
 ·rw[es];show(Sp.cY k.sp (n:Int)).ay s p=_\/(Sp.cY k.sp (n:Int)).ay s p=0;rw[Sp.ks hn o hs];by_cases c:k.sp.ay s p=n+1
  ·rw[aJ c];exact .inr rfl
  ·rw[aI c];exact .inl rfl
 ·rw[es]at c|-;have c2:(Sp.cY k.sp (n:Int)).of m≠0:=c;rw[Sp.jx hn o]at c2;show(Sp.cY k.sp (n:Int)).ay s p=_;by_cases q:m=n
  ·rw[aJ q]at c2;exact aZ rfl c2
  ·rw[Sp.ks hn o hs,aI (by omega)];exact e
 ·rw[es]at e;have e3:(if s=z then false else(Sp.cY k.sp (n:Int)).here s)=true:=e;by_cases c:s=z
  ·rw[aJ c]at e3;cases e3
  ·rw[aI c,(Sp.ig hn o).1]at e3;exact e3
 ·rw[es]at r|-;have e3:(if s=z then false else(Sp.cY k.sp (n:Int)).here s)=false:=r;by_cases c:s=z
  ·subst c;obtain⟨p,p21,pw⟩:=mm;have p1:=Sp.vt h.hw hl p p21 (by omega);subst p1;have:m=n:=by have:=h.hw;omega
   subst this;show(Sp.cY k.sp (m:Int)).of m=0;rw[Sp.jx hn o,aJ rfl]
  ·rw[aI c,(Sp.ig hn o).1,q]at e3;cases e3
theorem qi: ∀f,Fu N d (gW f)
 |0=>fun _ _ _ _ _ _ _ _ _ _ _ r=>r.elim
 |f+1=>fun X k n k' z h hn n0 hX ho hx r=>by
  obtain⟨k1,h1,h2,r⟩:=r;rcases r with⟨c,rfl⟩|⟨c,k2,j,ri,rfl⟩
  ·obtain⟨a,b,e,l⟩:=h.lone hn n0 hX ho c h1 h2;exact⟨a,b,e,fun _=>l⟩
  ·obtain⟨a,sp,tb,hh,s0,eC⟩:=h.first hn hX ho h1 h2;have zi:Sp.cQ k.sp (n:Int)=z:=Sp.fG hn ho;rw[zi]at ri|-;have ei:EI (fun m=>X m\/m=n) N d n z k1:=⟨a,hn,n0, .inr rfl,by rw[sp];exact ho,by rw[sp];exact(fK h.iv h.hs hn ho).1 c,fun m m20 xm mn mz=>by
    rw[sp]at mz;exact hx c m m20 (xm.elim id (fun q=>aZ q mn)) mz⟩
   obtain⟨b,g,e,l⟩:=EI.iter (qi f) j k1 ei ri;obtain⟨v,g2,e2,_⟩:=b.last hX l (by rw[e];exact hh) (by rw[e];exact s0);have gg:=g.trans ei.z6.1 g2;refine⟨v,⟨fun m hm=>?_,fun s p hs hp=>?_,fun s p m hs hp hm=>?_,fun s hs=>?_,fun s hs=>?_⟩,e2,fun q=>aZ c q⟩
   ·by_cases q:m=n
    ·subst q;rcases gg.kp m hm with w|w
     ·rcases g2.kp m hm with y|y
      ·exfalso;have:(k2.p m)=Pr.no:=y.1.symm.trans e2;rw[<-e,this]at s0;exact s0 rfl
      ·exact .inr ⟨e2,y.2.1,(h.iv.bH hm ho).1⟩
     ·exact .inr ⟨w.1,w.2.1,by rw[<-sp];exact w.2.2⟩
    ·have:=gg.kp m hm;rw[eC m q,sp]at this;exact this
   ·have:=gg.wh s p hs hp;rw[sp]at this;exact this
   ·have:=gg.wk s p m hs hp hm;rw[sp]at this;exact this
   ·have:=gg.hr s hs;rw[sp]at this;exact this
   ·have:=gg.hk s hs;rw[sp]at this;exact this
end
end Kn
open Mo (Wh Mt)
def du (a b:Nat)(x:Pr):Array Value:=((List.range 12).map fun j=>Kn.dV a b x j).toArray
theorem dh (a b:Nat)(x:Pr):(du a b x).size=12:=by simp[du]
theorem kW (a b:Nat)(x:Pr)(j:Nat)(h:j<12):(du a b x)[j]? =some (Kn.dV a b x j):=by simp[du,h]
theorem My (a b:Nat)(x:Pr)(j:Nat):(Kn.dV a b x j).oneCell'=true:=by
 unfold Kn.dV Kn.ptr
 repeat' split
 all_goals rfl
theorem qg (a b:Nat)(x:Pr):(du a b x).all (·.oneCell')=true:=Array.all_eq_true_iff_forall_mem.2 (fun v hv=>by
 unfold du at hv;rw[List.mem_toArray]at hv;obtain⟨j,_,rfl⟩:=List.mem_map.1 hv;exact My a b x j)
theorem wV (a b:Nat):du a b Pr.no=#[.int .i64 0, .int .i64 0, .int .i64 0, .int .i64 0, .pointer none, .pointer none, .int .i64 0, .int .i64 0, .int .i64 0, .int .i64 0, .int .i64 0, .int .i64 0]:=rfl
section
variable {w w' : bD} {base : Nat} {s : St}
theorem ak.there (h:ak w base s){n:Nat}(hn:n<20):w.there (s.A 0) (n*12) 12:=fun j hj=>⟨by rw[h.cP n j hn hj];rfl,h.frozen _⟩
theorem ak.whole (h:ak w base s){n:Nat}(hn:n<20){x:Pr}(h1:(s.k.p n).has=false)(h2:x.has=false)(a b:Nat):
  ak (w.setCells (s.A 0) (n*12) (du a b x).toList) base {s with k:=s.k.put n x}/\KF s w {s with k:=s.k.put n x} (w.setCells (s.A 0) (n*12) (du a b x).toList):=by
 obtain⟨C,e,sz⟩:=h.kT;obtain⟨C',e',sz'⟩:=dR (s.A 0) (du a b x).toList (n*12) w C e;have hl:(du a b x).toList.length=12:=by rw[aB,dh]
 have f:af (s.A 0) w (w.setCells (s.A 0) (n*12) (du a b x).toList):=af.setCells _ _ (af.refl _ _);have rW: ∀c d j,Kn.dV c d x j=Kn.dV a b x j:=fun c d j=>by
  unfold Kn.dV;rw[h2];rfl
 have dC: ∀o,o<253->(w.setCells (s.A 0) (n*12) (du a b x).toList).cell? ⟨s.A 0,o,none⟩=some (Kn.kc {s with k:=s.k.put n x} o):=fun o ho=>by
  rw[Kn.vD];by_cases c:o<240/\o/12=n
  ·rw[aJ c,rW];obtain⟨j,rfl,hj⟩: ∃j,o=n*12+j/\j<12:=⟨o%12,by omega,by omega⟩;rw[aS (s.A 0) (du a b x).toList (n*12) w (fun i hi=>by rw[hl]at hi;rw[h.cP n i hn hi];rfl) j (by omega),<-aW (by omega),aM,kW a b x j hj,show(n*12+j)%12=j by omega]
  ·rw[aI c,aA (s.A 0) _ (n*12) w ⟨s.A 0,o,none⟩ (fun _ _=>by rw[hl];show o<_\/_<=o;omega)];exact h.dC o ho
 have o:=h.others (az (by omega)) f;have hp: ∀j,((s.k.put n x).p j).has=true->j≠n/\(s.k.put n x).p j=s.k.p j:=fun j hj=>by
  by_cases c:j=n
  ·subst c;rw[Kn.ai,h2]at hj;cases hj
  ·exact⟨c,Kn.ao _ _ _ _ c⟩
 have pu:=Kn.yj (s:=s) (n:=n) (x:=x) (h2.trans h1.symm);refine⟨⟨⟨C',e',by omega⟩,dC,h.sp.same (o 1 (az (by omega)) (by omega)),(o 2 (az (by omega)) (by omega)).trans h.gr,h.sc.same (o 3 (az (by omega)) (by omega)),h.bk.same (o 4 (az (by omega)) (by omega)) (o 5 (az (by omega)) (by omega)),h.fi.same (o 8 (az (by omega)) (by omega)),h.fo.same (o 6 (az (by omega)) (by omega)),h.pi.same (o 7 (az (by omega)) (by omega)),
  fun j hj jh=>?_,fun j hj jh=>?_,
  fun n hn hh=>(h.tb n hn hh).same (o _ (Kn.ja hn hh) (by omega)) (fun g eg=>by have:=o _ (Kn.iT hn hh eg) (by omega);rwa [h.ro n hn hh g eg]at this),h.ro,fun i j hi hj=>h.inj i j ((pu i).1 hi) ((pu j).1 hj),fun i hi=>h.low i ((pu i).1 hi)⟩,KF.one _ (az (by omega)) f rfl (fun i hi=>(pu i).1 hi)⟩
 ·have q:=hp j jh;rw[q.2]at jh|-;exact(h.me j hj jh).same (o _ (Kn.gP hj jh) (by omega))
 ·have q:=hp j jh;rw[q.2]at jh|-;exact(h.bx j hj jh).same (o _ (Kn.iQ hj jh) (by omega))
theorem ak.Pq (h:ak w base s){z:Nat}(hz:z<6)(hh:s.k.ht z=true){F:Fo}(u:ar w' (s.A 6) F)(k:dq (BF (s.A (49+z)) (s.A 6)) w w'):
  ak (w'.setCell ⟨s.A 0,240+z,none⟩ (.pointer none)) base {s with k:={s.k with fo:=F,ht:=fun x=>if x=z then false else s.k.ht x}}/\KF s w {s with k:={s.k with fo:=F,ht:=fun x=>if x=z then false else s.k.ht x}} (w'.setCell ⟨s.A 0,240+z,none⟩ (.pointer none)):=by
 have ut:=Kn.ja hz hh;have o: ∀i,us s i->i≠49+z->i≠6->w'.heap[s.A i]? =w.heap[s.A i]? :=fun i hi a b=>k.block _ (h.lt hi) (fun c=>by
  rcases c with c|c
  ·exact h.ne hi ut a c
  ·exact h.ne hi (az (by omega)) b c)
 have sb: ∀i,us s i->i≠0->(w'.setCell ⟨s.A 0,240+z,none⟩ (.pointer none)).heap[s.A i]? =w'.heap[s.A i]? :=fun i hi a=>dD _ _ _ _ (h.ne hi (az (by omega)) a);have oo: ∀i,us s i->i≠0->i≠49+z->i≠6->(w'.setCell ⟨s.A 0,240+z,none⟩ (.pointer none)).heap[s.A i]? =w.heap[s.A i]? :=fun i hi a b c=>(sb i hi a).trans (o i hi b c);obtain⟨C,e,sz⟩:=h.kT;have e1:w'.heap[s.A 0]? =some (.cells C 86 (0,0)):=(o 0 (az (by omega)) (by omega) (by omega)).trans e;have pu: ∀i,us {s with k:={s.k with fo:=F,ht:=fun x=>if x=z then false else s.k.ht x}} i->us s i/\i≠49+z/\i≠55+z:=fun i hi=>by
  rcases hi with hi|⟨h1,h2,h3⟩|⟨h1,h2,h3⟩|⟨h1,h2,h3⟩|⟨h1,h2,h3,h4⟩
  ·exact⟨.inl hi,by omega,by omega⟩
  ·exact⟨.inr (.inl ⟨h1,h2,h3⟩),by omega,by omega⟩
  ·exact⟨.inr (.inr (.inl ⟨h1,h2,h3⟩)),by omega,by omega⟩
  ·have h5:(if i-49=z then false else s.k.ht (i-49))=true:=h3;by_cases c:i-49=z
   ·rw[aJ c]at h5;cases h5
   ·rw[aI c]at h5;exact⟨.inr (.inr (.inr (.inl ⟨h1,h2,h5⟩))),by omega,by omega⟩
  ·have h5:(if i-55=z then false else s.k.ht (i-55))=true:=h3;by_cases c:i-55=z
   ·rw[aJ c]at h5;cases h5
   ·rw[aI c]at h5;exact⟨.inr (.inr (.inr (.inr ⟨h1,h2,h5,h4⟩))),by omega,by omega⟩
 have hq: ∀n,(if n=z then false else s.k.ht n)=true->n≠z/\s.k.ht n=true:=fun n q=>by
  by_cases c:n=z
  ·rw[aJ c]at q;cases q
  ·rw[aI c]at q;exact⟨c,q⟩
 refine⟨⟨⟨_,bC e1 _ _,by simpa using sz⟩,fun x hx=>?_,h.sp.same (oo 1 (az (by omega)) (by omega) (by omega) (by omega)),(oo 2 (az (by omega)) (by omega) (by omega) (by omega)).trans h.gr,h.sc.same (oo 3 (az (by omega)) (by omega) (by omega) (by omega)),h.bk.same (oo 4 (az (by omega)) (by omega) (by omega) (by omega)) (oo 5 (az (by omega)) (by omega) (by omega) (by omega)),h.fi.same (oo 8 (az (by omega)) (by omega) (by omega) (by omega)),u.same (sb 6 (az (by omega)) (by omega)),h.pi.same (oo 7 (az (by omega)) (by omega) (by omega) (by omega)),
  fun n hn hh=>(h.me n hn hh).same (oo _ (Kn.gP hn hh) (by omega) (by omega) (by omega)),fun n hn hh=>(h.bx n hn hh).same (oo _ (Kn.iQ hn hh) (by omega) (by omega) (by omega)),
  fun n hn q=>?_,fun n hn q=>h.ro n hn (hq n q).2,fun i j hi hj=>h.inj i j (pu i hi).1 (pu j hj).1,fun i hi=>h.low i (pu i hi).1⟩,
  ⟨(k.mono (fun b _ c=>by
   rcases c with c|c
   ·exact⟨_,ut,c⟩
   ·exact⟨6,az (by omega),c⟩)).setCell ⟨0,az (by omega),rfl⟩ _ _,fun b ⟨i,hi,eb⟩=> .inl ⟨i,(pu i hi).1,eb⟩,rfl⟩⟩
 ·by_cases c:x=240+z
  ·subst c;rw[cL e1 _ _ (by omega)];unfold Kn.kc;rw[aI (by omega),aJ (by omega),show 240+z-240=z by omega];show _=some (Kn.ptr _ (if z=z then false else _));rw[aJ rfl];rfl
  ·rw[cC e1 _ _ _ (bQ c),au e1,<-au e,h.dC x hx];unfold Kn.kc;by_cases c1:x<240
   ·rw[aJ c1,aJ c1];rfl
   ·rw[aI c1,aI c1];by_cases c2:x<246
    ·rw[aJ c2,aJ c2];have hy:x-240≠z:=by omega
     generalize x-240=y at hy|-;show some (Kn.ptr (s.A (49+y)) (s.k.ht y))=some (Kn.ptr (s.A (49+y)) (if y=z then false else s.k.ht y));rw[aI hy]
    ·rw[aI c2,aI c2]
 ·have q2:=hq n q;exact(h.tb n hn q2.2).same (oo _ (Kn.ja hn q2.2) (by omega) (by omega) (by omega)) (fun g eg=>by have:=oo _ (Kn.iT hn q2.2 eg) (by omega) (by omega) (by omega);rwa [h.ro n hn q2.2 g eg]at this)
end
theorem L9 {P Q:Nat->Bool}(h: ∀x,P x=true->Q x=true){a:Nat}(hQ:Q a=true)(hP:P a=false): ∀n,a<n->((List.range n).filter P).length<((List.range n).filter Q).length:=by
 have le: ∀n,((List.range n).filter P).length<=((List.range n).filter Q).length:=fun n=>by
  induction n with
  |zero=>exact aL _
  |succ n ih=>
   rw[List.range_succ,List.filter_append,List.filter_append,List.length_append,List.length_append];cases hp:P n
   ·simp[hp];omega
   ·simp[hp,h n hp];omega
 intro n
 induction n with
 |zero=>intro c;omega
 |succ n ih=>
  intro c;rw[List.range_succ,List.filter_append,List.filter_append,List.length_append,List.length_append];by_cases e:a=n
  ·subst e;have:=le a;simp[hP,hQ];omega
  ·have:=ih (by omega);cases hp:P n
   ·simp[hp];omega
   ·simp[hp,h n hp];omega
namespace Kn
theorem EI.PN {X:Nat->Prop}{N:Nat}{d:Nat->Nat}{k k1:Kp}{n z m:Nat}(h:EI X N d n z k)(h1:EI X N d n z k1)(g:Gz k k1 z)(m20:m<20)(mz:Sp.mem k.sp z m)(e:k1.p m=Pr.no):(dv k1.sp (z:Int)).length<(dv k.sp (z:Int)).length:=by
 rw[h.eO,h1.eO];unfold Sp.eO;rw[List.length_map,List.length_map];obtain⟨p,p21,pw⟩:=mz;have o:k1.sp.of m=0:=by
  cases q:k1.sp.of m with
  |zero=>rfl
  |succ y=>exact aZ (show(k1.p m).st=0 by rw[e];rfl) ((h1.vi.kj.of m m20).1 (by rw[q];omega))
 have w0:k1.sp.ay z p=0:=by
  rcases g.wh z p h.z6.1 p21 with c|c
  ·exact aZ o (h1.vi.iv.mem_of h1.z6.1 m20 ⟨p,p21,by rw[c];exact pw⟩).1
  ·exact c
 have key: ∀q,(Sp.iq k1.sp z q&&decide (q<21))=true->(Sp.iq k.sp z q&&decide (q<21))=true:=fun q hq=>by
  have hq2:k1.sp.ay z q≠0/\q<21:=by simpa[Sp.iq]using hq
  rcases g.wh z q h.z6.1 hq2.2 with c|c
  ·simp[Sp.iq,<-c,hq2]
  ·exact aZ c hq2.1
 have eq: ∀t:Sp.T,(List.range 21).filter (Sp.iq t z)=(List.range 21).filter (fun q=>Sp.iq t z q&&decide (q<21)):=fun t=>List.filter_congr (fun q hq=>by
  have:q<21:=by simpa using hq
  simp[this])
 rw[eq k1.sp,eq k.sp];exact L9 key (a:=p) (by simp[Sp.iq,pw,p21]) (by simp[Sp.iq,w0]) 21 p21
end Kn
open Kn (Pr Kp St us KB KJ VI EI)
def Qu:Value->Nat
 | .slice _ n _=>n
 |_=>0
def E5 (base N:Nat)(d:Nat->Nat)(r:Nat):Prop:= ∀(X:Nat->Prop) (s:St) (w:bD) (n z:Nat),ak w base s->VI X N d s.k->n<20->n≠0-> ¬X n->s.k.sp.of n=z+1->(Kn.hd s.k n=n->6<=d z+r/\ ∀m,m<20->X m-> ¬Sp.mem s.k.sp z m)->1<=r->
 Calls Tryz.prog 73 #[.pointer (some ⟨s.A 0,0,none⟩), .int .i64 n] w fun e w'=> ∃k',e= .returned (.tuple #[])/\Kn.gW r s.k n k'/\ak w' base {s with k:=k'}/\KF s w {s with k:=k'} w'
theorem Kn.EI.Ob {X:Nat->Prop}{N:Nat}{d:Nat->Nat}{k:Kp}{n z m y:Nat}(h:EI X N d n z k)(m20:m<20)(mn:m≠n)(mz:Sp.mem k.sp z m)(hy:k.sp.of m=y+1)(c:Kn.hd k m=m):d z<d y:=by
 obtain⟨_,y6,yh⟩:=h.vi.iv.bH m20 hy;have a:=(h.vi.iv.mem_of h.z6.1 m20 mz).2;rw[hy,show y+1-1=y by omega]at a;refine h.vi.iv.tree.lower y6 yh a (fun e=>?_);have:=(Kn.fK h.vi.iv h.vi.hs m20 hy).1 c;rw[<-e,h.hw]at this;omega
section
variable (base N : Nat) (d : Nat -> Nat) (r : Nat) (X : Nat -> Prop) (s : St) (w : bD) (n z : Nat)
theorem xb (hV:E5 base N d r)(hr:1<=r)(hz:5<=d z+r)(h:ak w base s)(he:EI X N d n z s.k):
  Calls Tryz.prog 149 #[.pointer (some ⟨s.A 0,0,none⟩), .int .i64 n] w fun e w'=> ∃k' j,e= .returned (.tuple #[])/\Kn.iW (Kn.gW r) (z:Int) j s.k k'/\ak w' base {s with k:=k'}/\KF s w {s with k:=k'} w':=by
 have SP:=hZ (fT base s w (n:Int) h);have zi:Sp.cQ s.k.sp (n:Int)=z:=Sp.fG he.hn he.ho;rw[zi]at SP;have MM:=hZ (oM base s w (z:Int) h);obtain⟨kb,hkb⟩:=nJ (s.A 0);have HK:=hZ hkb;have H:=hZ (aK h he);have HV:=hZ (aK hV (aK hr hz));rw[hkb]at SP MM|-;clear h he hV hr hz zi;go_in
 go_wp2_with fail
 refine SP.out.mono ?_;rintro e w1 ⟨rfl,hw⟩;subst w1;go_wp2_with fail
 refine MM.out.mono ?_;rintro e w1 ⟨v1,rfl,hL⟩;have S1:Hid (EI X N d n z s.k/\ak w1 base {s with k:=s.k}/\KF s w {s with k:=s.k} w1/\LO w (dv s.k.sp (z:Int)) v1 w1/\ ∀k' j,Kn.iW (Kn.gW r) (z:Int) j s.k k'-> ∃j',Kn.iW (Kn.gW r) (z:Int) j' s.k k'):=hZ ⟨H.out.2,H.out.1.below hL.bF,KF.below hL.bF,hL,fun k' j q=>⟨j,q⟩⟩;clear hL SP MM;go_wp2_with fail
 go_loopw [5] (fun v wr=> ∃(k:Kp) (w0:bD),Hid (EI X N d n z k/\ak wr base {s with k:=k}/\KF s w {s with k:=k} wr/\LO w0 (dv k.sp (z:Int)) v wr/\ ∀k' j,Kn.iW (Kn.gW r) (z:Int) j k k'-> ∃j',Kn.iW (Kn.gW r) (z:Int) j' s.k k')) (fun v _=>Qu v)
 case atStart=>exact⟨s.k,w,S1⟩
 case round=>
  clear S1;obtain⟨k,w0,S⟩:=hrel;by_cases hl:1<(dv k.sp (z:Int)).length
  ·obtain⟨gg,cap,hv,hg,hc⟩:=S.out.2.2.2.1.cells (by omega);have HVV:=hZ hv;obtain⟨m,hm⟩: ∃m,(dv k.sp (z:Int))[1]? =some m:=⟨_,aW hl⟩;have c1:=hc 1 hl;have cm:wr.cell? ⟨gg,1,none⟩=some (.int .i64 (m:Int)):=by
    rw[show 0+1=1 from rfl]at c1;rw[c1];simp[aF,hm]
   obtain⟨m20,m0,mn,mx,mz,y,hy,hx⟩:=S.out.1.next hm;have DD:Hid (Kn.hd k m=m->6<=d y+r/\ ∀x,x<20->X x-> ¬Sp.mem k.sp y x):=hZ (fun c=>⟨by have:=S.out.1.Ob m20 mn mz hy c;have:=HV.out.2.2;omega,hx c⟩);have VC:=hZ (HV.out.1 X {s with k:=k} wr m y S.out.2.1 S.out.1.vi m20 m0 mx hy DD.out HV.out.2.1);rw[show({s with k:=k}:St).A 0=kb from HK.out]at VC;have HM:=hZ (aK hm (aK m20 mz));obtain⟨LL,hLL⟩:=nJ ((dv k.sp (z:Int)).length);have HLL:=hZ hLL;rw[hLL]at hv hl;subst hv;have hlI:(1:Int)<(LL:Int):=by omega
   clear hc c1 hm hy hx mx mz hLL hg m0 mn;go_wp2_with fail
   refine VC.out.mono ?_;rintro e w2 ⟨k1,rfl,hvan,ka,kf⟩;have ST:=hZ (S.out.1.step HM.out.1 (Kn.qi r) hvan);have S2:Hid (ak w2 base {s with k:=k1}/\KF s w {s with k:=k1} w2/\Kn.gW r k m k1):=hZ ⟨ka,S.out.2.2.1.trans kf,hvan⟩;clear ka kf hvan cm;have MM:=hZ (oM base {s with k:=k1} w2 (z:Int) S2.out.1);rw[show({s with k:=k1}:St).A 0=kb from HK.out]at MM;go_wp2_with fail
   refine MM.out.mono ?_;rintro e w3 ⟨v3,rfl,hL3⟩;have S3:Hid (EI X N d n z k1/\ak w3 base {s with k:=k1}/\KF s w {s with k:=k1} w3/\LO w2 (dv k1.sp (z:Int)) v3 w3/\ ∀k' j,Kn.iW (Kn.gW r) (z:Int) j k1 k'-> ∃j',Kn.iW (Kn.gW r) (z:Int) j' s.k k'):=hZ ⟨ST.out.1,S2.out.1.below hL3.bF,S2.out.2.1.trans (KF.below hL3.bF),hL3,fun k' j q=>S.out.2.2.2.2 k' (j+1) ⟨m,k1,HM.out.1,S2.out.2.2,q⟩⟩;obtain⟨a3,c3,hv3⟩:=fC hL3.own;have FW:Hid ((dv k1.sp (z:Int)).length<LL):=hZ (by rw[<-HLL.out];exact S.out.1.PN ST.out.1 ST.out.2.1 HM.out.2.1 HM.out.2.2 ST.out.2.2.2);obtain⟨L3,hL3e⟩:=nJ ((dv k1.sp (z:Int)).length);rw[hL3e]at hv3 FW;subst hv3;clear hL3 hL3e;go_wp2
   go_roundw
   case rel=>exact⟨k1,w2,S3⟩
   case measure=>exact FW.out
  ·obtain⟨a3,c3,hv3⟩:=fC S.out.2.2.2.1.own;have FIN:Hid (∃j,Kn.iW (Kn.gW r) (z:Int) j s.k k):=hZ (S.out.2.2.2.2 k 0 ⟨rfl,by omega⟩);obtain⟨LL,hLL⟩:=nJ ((dv k.sp (z:Int)).length);rw[hLL]at hv3 hl;have hlI: ¬(1:Int)<(LL:Int):=by omega
   have S2:Hid (ak wr base {s with k:=k}/\KF s w {s with k:=k} wr):=hZ ⟨S.out.2.1,S.out.2.2.1⟩;clear S hLL;subst hv3;go_wp2_with fail
   go_end0
   obtain⟨j,hj⟩:=FIN.out;exact⟨rfl,k,⟨j,hj⟩,S2.out⟩
end
namespace Kn
theorem VI.K6 {X:Nat->Prop}{N:Nat}{d:Nat->Nat}{k k1 k2:Kp}{n z r:Nat}(h:VI X N d k)(hn:n<20)(n0:n≠0)(hX: ¬X n)(ho:k.sp.of n=z+1)(hx:hd k n=n-> ∀m,m<20->X m-> ¬Sp.mem k.sp z m)(h1:lv k n=true->fL k n k1)(h2:lv k n=false->k1=k)
  (h3:hd k n≠n->k2=k1) (h4:hd k n=n-> ∃j,iW (gW r) (z:Int) j k1 k2):VI (fun m=>X m\/m=n) N d k2/\(k2.p n).has=false/\k2.sp.of n=z+1:=by
 obtain⟨a,sp,tb,hh,s0,eC⟩:=h.first hn hX ho h1 h2;by_cases c:hd k n=n
 ·obtain⟨j,ri⟩:=h4 c;have ei:EI (fun m=>X m\/m=n) N d n z k1:=⟨a,hn,n0, .inr rfl,by rw[sp];exact ho,by rw[sp];exact(fK h.iv h.hs hn ho).1 c,fun m m20 xm mn mz=>by
   rw[sp]at mz;exact hx c m m20 (xm.elim id (fun q=>aZ q mn)) mz⟩
  obtain⟨b,g,e,l⟩:=EI.iter (qi r) j k1 ei ri;exact⟨b.vi,by rw[e];exact hh,b.ho⟩
 ·have:=h3 c;subst this;exact⟨a,hh,by rw[sp];exact ho⟩
theorem VI.ei {X:Nat->Prop}{N:Nat}{d:Nat->Nat}{k k1:Kp}{n z:Nat}(h:VI X N d k)(hn:n<20)(n0:n≠0)(hX: ¬X n)(ho:k.sp.of n=z+1)(c:hd k n=n)(hx: ∀m,m<20->X m-> ¬Sp.mem k.sp z m)(h1:lv k n=true->fL k n k1)(h2:lv k n=false->k1=k):EI (fun m=>X m\/m=n) N d n z k1:=by
 obtain⟨a,sp,tb,hh,s0,eC⟩:=h.first hn hX ho h1 h2;exact⟨a,hn,n0, .inr rfl,by rw[sp];exact ho,by rw[sp];exact(fK h.iv h.hs hn ho).1 c,fun m m20 xm mn mz=>by
  rw[sp]at mz;exact hx m m20 (xm.elim id (fun q=>aZ q mn)) mz⟩
end Kn
section
variable {ops : Array Oper} {rest : List Oper} {x : Oper} {a : Act} {w : bD} {Q : Exit -> Act -> bD -> Prop}
theorem yG (a b:Nat):Tryz.prog.built 74 []=some (du a b Pr.no):=by rw[wV];kernel_rfl
theorem wa (hgd:x.guard=none)(ho:x.op= .build 74 #[])(h:wpList Tryz.prog ops Q rest (a.put x.dst (.agg (du 0 0 Pr.no))) w):wpList Tryz.prog ops Q (x::rest) a w:=
 wpList_build hgd 74 #[] ho (by simp[yG 0 0]) (by simpa[yG 0 0]using h)
end
theorem AN (base N:Nat)(d:Nat->Nat)(r:Nat)(hN:N<=900)(hV:1<=r->E5 base N d r):E5 base N d (r+1):=by
 intro X s w n z h hv hn n0 hX ho hx hr;have hnI:(n:Int)<20:=by omega
 obtain⟨_,z6,zh⟩:=hv.iv.bH hn ho;have z6I:(z:Int)<6:=by omega
 obtain⟨tl,htl⟩:=nJ (Kn.lv s.k n);obtain⟨th,hth⟩:=nJ (decide (Kn.hd s.k n=n));have SP:=hZ (fT base s w (n:Int) h);rw[Sp.fG hn ho]at SP;have IH:=hZ (mS base s w n h th hth);have LV:=hZ (j5 base s w n h hn tl htl);have KS:=hZ (fun(c:Kn.lv s.k n=true)=>wU base s w X N n h hv.kj hN hn (hv.kj.lv n hn hX (by unfold Kn.lv at c;simpa using c)));have HT:Hid ((Kn.lv s.k n=true->tl=true)/\(Kn.lv s.k n=false->tl=false)/\(tl=true->Kn.lv s.k n=true)/\(th=true->Kn.hd s.k n=n)/\(th=false->Kn.hd s.k n≠n)):=hZ ⟨fun c=>by rw[<-htl];exact c,fun c=>by rw[<-htl];exact c,fun c=>by rw[htl];exact c,fun c=>by rw[<-hth]at c;exact of_decide_eq_true c,fun c=>by rw[<-hth]at c;exact of_decide_eq_false c⟩;obtain⟨kb,hkb⟩:=nJ (s.A 0);have HK:=hZ hkb;have H:=hZ (aK h (aK hv (aK hX (aK ho hx))));have HV:=hZ (aK hV (aK hN zh));rw[hkb]at SP IH LV KS|-;clear h hv hX ho hx hr hV hN zh htl hth;go_in
 go_wp2_with fail
 refine SP.out.mono ?_;rintro e w1 ⟨rfl,hw⟩;subst w1;go_wp2_with fail
 refine IH.out.mono ?_;rintro e w1 ⟨rfl,hw⟩;subst w1;go_wp2_with fail
 refine LV.out.mono ?_;rintro e w1 ⟨rfl,hw⟩;subst w1;go_upto_if 14 with fail
 go_cut [15]from 16 to 17 (fun _ wx=> ∃k1,Hid (ak wx base {s with k:=k1}/\KF s w {s with k:=k1} wx/\(Kn.lv s.k n=true->Kn.fL s.k n k1)/\(Kn.lv s.k n=false->k1=s.k)))
 case first=>
  cases tl
  ·go_wp2
   go_meet
   case rel=>exact⟨s.k,hZ ⟨H.out.1,KF.refl _ _,fun c=>aZ (HT.out.1 c) (by decide),fun _=>rfl⟩⟩
  ·go_wp2_with fail
   refine(KS.out (HT.out.2.2.1 (by first|rfl|trivial))).mono ?_;rintro e w2 ⟨k1,rfl,st,ka,kf⟩;have S2:Hid (ak w2 base {s with k:=k1}/\KF s w {s with k:=k1} w2/\(Kn.lv s.k n=true->Kn.fL s.k n k1)/\(Kn.lv s.k n=false->k1=s.k)):=hZ ⟨ka,kf,fun _=>st,fun c=>aZ (HT.out.2.1 c) (by decide)⟩;clear st ka kf;go_wp2
   go_meet
   case rel=>exact⟨k1,S2⟩
 obtain⟨k1,S1⟩:=hcut;clear SP IH LV KS;go_upto_if 18 with fail
 go_cut [19]from 20 to 21 (fun _ wx=> ∃k2,Hid (ak wx base {s with k:=k2}/\KF s w {s with k:=k2} wx/\(Kn.hd s.k n≠n->k2=k1)/\(Kn.hd s.k n=n-> ∃j,Kn.iW (Kn.gW r) (z:Int) j k1 k2)))
 case first=>
  cases th
  ·go_wp2
   go_meet
   case rel=>exact⟨k1,hZ ⟨S1.out.1,S1.out.2.1,fun _=>rfl,fun c=>aZ c (HT.out.2.2.2.2 (by first|rfl|trivial))⟩⟩
  ·have hd1:=HT.out.2.2.2.1 (by first|rfl|trivial);have HD:=hZ hd1;have DZ:Hid (1<=r/\5<=d z+r):=hZ (by
    have a:=(H.out.2.2.2.2 hd1).1;have b:=(H.out.2.1.iv.tree.le z z6 HV.out.2.2).2;omega)
   have EE:=hZ (H.out.2.1.ei hn n0 H.out.2.2.1 H.out.2.2.2.1 hd1 (H.out.2.2.2.2 hd1).2 S1.out.2.2.1 S1.out.2.2.2);have EM:=hZ (xb base N d r _ {s with k:=k1} wc n z (HV.out.1 DZ.out.1) DZ.out.1 DZ.out.2 S1.out.1 EE.out);rw[show({s with k:=k1}:St).A 0=kb from HK.out]at EM;clear hd1;go_wp2_with fail
   refine EM.out.mono ?_;rintro e w2 ⟨k2,j,rfl,it,ka,kf⟩;have S2:Hid (ak w2 base {s with k:=k2}/\KF s w {s with k:=k2} w2/\(Kn.hd s.k n≠n->k2=k1)/\(Kn.hd s.k n=n-> ∃j,Kn.iW (Kn.gW r) (z:Int) j k1 k2)):=hZ ⟨ka,S1.out.2.1.trans kf,fun c=>aZ HD.out c,fun _=>⟨j,it⟩⟩;clear it ka kf;go_wp2
   go_meet
   case rel=>exact⟨k2,S2⟩
 obtain⟨k2,S2⟩:=hcut;have MD:=hZ (H.out.2.1.K6 hn n0 H.out.2.2.1 H.out.2.2.2.1 (fun c=>(H.out.2.2.2.2 c).2) S1.out.2.2.1 S1.out.2.2.2 S2.out.2.2.1 S2.out.2.2.2);have RES:Hid ((Kn.hd s.k n≠n->Kn.gW (r+1) s.k n (Kn.dL k2 n))/\(Kn.hd s.k n=n->Kn.gW (r+1) s.k n (Kn.kL (Kn.dL k2 n) z))):=hZ ⟨fun c=>⟨k1,S1.out.2.2.1,S1.out.2.2.2, .inl ⟨c,by rw[S2.out.2.2.1 c]⟩⟩,fun c=>⟨k1,S1.out.2.2.1,S1.out.2.2.2, .inr ⟨c,k2,by
  rw[Sp.fG hn H.out.2.2.2.1];obtain⟨j,it⟩:=S2.out.2.2.2 c;exact⟨j,it,rfl⟩⟩⟩⟩
 have S3:Hid (ak wc base {s with k:=k2}/\KF s w {s with k:=k2} wc):=hZ ⟨S2.out.1,S2.out.2.1⟩;clear S1 S2;go_upto_region 5 with fail
 obtain⟨g2,hg2⟩:=nJ (s.A 2);have HG:=hZ hg2;obtain⟨gz,hgz⟩:=nJ ((k2.p n).bP);have HGZ:=hZ hgz;have KC:Hid (∀W k,ak W base {s with k:=k}->(k.p n).bP=gz->W.cell? ⟨kb,247,none⟩=some (.pointer (some ⟨g2,0,none⟩))/\W.cell? ⟨kb,n*12+2,none⟩=some (.int .i64 gz)):=hZ (fun W k hW e=>by
  have a:=hW.sr;have b:=hW.pU n hn;rw[show({s with k:=k}:St).A 0=kb from HK.out]at a b;rw[show({s with k:=k}:St).A 2=g2 from HG.out]at a;have b2:W.cell? ⟨kb,n*12+2,none⟩=some (.int .i64 (k.p n).bP):=b;rw[e]at b2;exact⟨a,b2⟩)
 have K0:=hZ (KC.out wc k2 S3.out.1 hgz);have UC:=hZ (Gr.jT (s.A 2) (k2.p n).bP 1 0 k2.gr wc.drew S3.out.1.drew.gr (by obtain⟨Wy,g⟩:=MD.out.1.kj.gr;exact g.small (by have:=HV.out.2.1;omega)));rw[hg2,hgz]at UC;clear hg2 hgz;obtain⟨y1,y2⟩:=K0.out;go_region_held3 (fun w'=>w'.cell? ⟨kb,247,none⟩=some (.pointer (some ⟨g2,0,none⟩))/\w'.cell? ⟨kb,n*12+2,none⟩=some (.int .i64 gz)) (first|exact K0.out|exact K4.out) (
  (go_at_call 67;refine UC.out.mono ?_;rintro e w4 ⟨rfl,t4,f4⟩;have S4:Hid (ak w4 base {s with k:={k2 with gr:=Gr.gA k2.gr (k2.p n).bP 1 0}}/\KF s w {s with k:={k2 with gr:=Gr.gA k2.gr (k2.p n).bP 1 0}} w4):=hZ (by
    rw[<-HG.out]at t4 f4;rw[<-HGZ.out]at t4;have q:=S3.out.1.drew.lf t4 f4.wI;exact⟨q.1,S3.out.2.trans ((KF.drew _ _).trans q.2)⟩);have K4:=hZ (KC.out w4 _ S4.out.1 HGZ.out);clear t4 f4))
 clear y1 y2 K0 KC UC S3;generalize Gr.aq (Gr.jP k2.gr gz 1 0)=ev;have c6:=S4.out.1.uw;rw[show({s with k:={k2 with gr:=Gr.gA k2.gr (k2.p n).bP 1 0}}:St).A 0=kb from HK.out]at c6;obtain⟨p1,hp1⟩:=nJ (s.A 1);have HP:=hZ hp1;have LE:=hZ (Hf (s.A 1) (n:Int) k2.sp d w4 S4.out.1.sp MD.out.1.iv);rw[show({s with k:={k2 with gr:=Gr.gA k2.gr (k2.p n).bP 1 0}}:St).A 1=p1 from hp1]at c6;rw[hp1]at LE;clear hp1;go_wp2_with fail
 refine LE.out.mono ?_;rintro e w5 ⟨rfl,t5,f5⟩;generalize aq (Sp.kF k2.sp (n:Int))=ev2;have S5:Hid (ak w5 base {s with k:={k2 with gr:=Gr.gA k2.gr (k2.p n).bP 1 0,sp:=Sp.cY k2.sp (n:Int)}}/\KF s w {s with k:={k2 with gr:=Gr.gA k2.gr (k2.p n).bP 1 0,sp:=Sp.cY k2.sp (n:Int)}} w5):=hZ (by
  rw[<-HP.out]at t5 f5;have q:=S4.out.1.xh t5 f5;exact⟨q.1,S4.out.2.trans q.2⟩)
 clear t5 f5 c6 S4 K4;have TH:Hid (w5.there kb (n*12) (du 0 0 Pr.no).size):=hZ (by rw[dh,<-HK.out];exact S5.out.1.there hn);have SZ:Hid ((Tryz.prog.info? 74).map (·.size)=some (du 0 0 Pr.no).size):=hZ (by rw[dh];kernel_rfl);have S6:Hid (ak (w5.setCells kb (n*12) (du 0 0 Pr.no).toList) base {s with k:=Kn.dL k2 n}/\KF s w {s with k:=Kn.dL k2 n} (w5.setCells kb (n*12) (du 0 0 Pr.no).toList)):=hZ (by
  have q:=S5.out.1.whole hn (x:=Pr.no) MD.out.2.1 rfl 0 0;rw[show({s with k:={k2 with gr:=Gr.gA k2.gr (k2.p n).bP 1 0,sp:=Sp.cY k2.sp (n:Int)}}:St).A 0=kb from HK.out]at q;exact⟨q.1,S5.out.2.trans q.2⟩)
 obtain⟨PA,hPA⟩:=nJ (du 0 0 Pr.no);have H1:Hid (PA.all (·.oneCell')=true):=hZ (by rw[<-hPA];exact qg 0 0 Pr.no);rw[hPA]at TH SZ S6;clear S5;cases th
 ·have FIN:=hZ (RES.out.1 (HT.out.2.2.2.2 (by first|rfl|trivial)));go_wp2_with (first|(refine wa rfl rfl ?_;rw[hPA])|(refine wpList_store_mid rfl 74 _ _ rfl kb (n*12) PA rfl rfl TH.out SZ.out H1.out ?_))
  go_end0
  exact⟨_,rfl,FIN.out,S6.out⟩
 ·have FIN:=hZ (RES.out.2 (HT.out.2.2.2.1 (by first|rfl|trivial)));go_upto_region 9 with(first|(refine wa rfl rfl ?_;rw[hPA])|(refine wpList_store_mid rfl 74 _ _ rfl kb (n*12) PA rfl rfl TH.out SZ.out H1.out ?_))
  generalize w5.setCells kb (n*12) PA.toList=w6 at*;have HH:Hid (k2.ht z=true):=hZ (by
   obtain⟨_,_,b⟩:=MD.out.1.iv.bH hn MD.out.2.2;rw[MD.out.1.kj.ht z z6];exact b)
  have c6:=S6.out.1.uw;rw[show({s with k:=Kn.dL k2 n}:St).A 0=kb from HK.out,show({s with k:=Kn.dL k2 n}:St).A 1=p1 from HP.out]at c6;have DR:=hZ (Jz (s.A 1) (z:Int) (Kn.dL k2 n).sp w6 S6.out.1.sp);rw[HP.out]at DR;go_wp2_with fail
  refine DR.out.mono ?_;rintro e w7 ⟨rfl,t7,f7⟩;generalize aq (Sp.gV (Kn.dL k2 n).sp (z:Int))=ev3;have S7:Hid (ak w7 base {s with k:={Kn.dL k2 n with sp:=Sp.fM (Kn.dL k2 n).sp (z:Int)}}/\KF s w {s with k:={Kn.dL k2 n with sp:=Sp.fM (Kn.dL k2 n).sp (z:Int)}} w7):=hZ (by
   rw[<-HP.out]at t7 f7;have q:=S6.out.1.xh t7 f7;exact⟨q.1,S6.out.2.trans q.2⟩)
  clear t7 f7 c6;have ct:=S7.out.1.Ka z z6 HH.out;rw[show({s with k:={Kn.dL k2 n with sp:=Sp.fM (Kn.dL k2 n).sp (z:Int)}}:St).A 0=kb from HK.out]at ct;obtain⟨tbk,htbk⟩:=nJ (s.A (49+z));have HTB:=hZ htbk;rw[show({s with k:={Kn.dL k2 n with sp:=Sp.fM (Kn.dL k2 n).sp (z:Int)}}:St).A (49+z)=tbk from htbk]at ct;have CL:=hZ (GI base (s.A (49+z)) (s.A 6) 102 (k2.tb z) (s.V z) k2.fo w7 (S7.out.1.tb z z6 HH.out) S7.out.1.fo MD.out.1.kj.hb (by decide));rw[htbk]at CL;clear htbk;go_wp2_with fail
  refine CL.out.mono ?_;rintro e w8 ⟨rfl,u8,f8⟩;have S8:Hid (ak (w8.setCell ⟨kb,240+z,none⟩ (.pointer none)) base {s with k:=Kn.kL (Kn.dL k2 n) z}/\KF s w {s with k:=Kn.kL (Kn.dL k2 n) z} (w8.setCell ⟨kb,240+z,none⟩ (.pointer none))):=hZ (by
   rw[<-HTB.out]at f8;have q:=S7.out.1.Pq z6 HH.out u8 f8;rw[show({s with k:={Kn.dL k2 n with sp:=Sp.fM (Kn.dL k2 n).sp (z:Int)}}:St).A 0=kb from HK.out]at q;exact⟨q.1,S7.out.2.trans q.2⟩)
  have hb8:w8.heap[kb]? =w7.heap[kb]? :=by
   refine f8.block kb ?_ ?_
   ·rw[<-HK.out];exact S7.out.1.lt (az (by omega))
   ·rintro(c|c)
    ·rw[<-HK.out,<-HTB.out]at c;exact S7.out.1.ne (az (by omega)) (Kn.ja z6 HH.out) (by omega) c
    ·rw[<-HK.out]at c;exact S7.out.1.ne (az (by omega)) (az (by omega)) (by omega) c
  have ct8:w8.cell? ⟨kb,240+z,none⟩=some (.pointer (some ⟨tbk,0,none⟩)):=by
   rw[<-ct];exact aV hb8
  have fz: ∀o,(w8).frozen? ⟨kb,o,none⟩=false:=fun o=>by
   have q:=S7.out.1.frozen o;rw[show({s with k:={Kn.dL k2 n with sp:=Sp.fM (Kn.dL k2 n).sp (z:Int)}}:St).A 0=kb from HK.out]at q;rw[<-q];exact World.frozen?_of_block hb8
  clear hb8;clear u8 f8 ct;go_wp2_with fail
  go_end0
  exact⟨_,rfl,FIN.out,S8.out⟩

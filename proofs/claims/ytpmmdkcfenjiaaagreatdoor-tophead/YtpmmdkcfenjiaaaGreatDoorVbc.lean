import Derived.Test.YtpmmdkcfenjiaaaGreatDoorVbb
set_option linter.unusedVariables false
set_option linter.unusedSimpArgs false
set_option maxRecDepth 100000
set_option maxHeartbeats 4000000
namespace Go.Proofs.YtpmmdkcfenjiaaaGreatDoor
open Go.RowKit
open Tr (Fo Nd)
open Mo (Wh Mt)
open Mv (Me Bk)
open Kn (Pr Kp St us KB KJ VI EI)
theorem oC (base N:Nat)(d:Nat->Nat)(hN:N<=900): ∀r,E5 base N d r
 |0=>fun _ _ _ _ _ _ _ _ _ _ _ _ h=>aZ h (by omega)
 |r+1=>AN base N d r hN (fun _=>oC base N d hN r)
theorem BU (base N:Nat)(d:Nat->Nat)(hN:N<=900)(X:Nat->Prop)(s:St)(w:bD)(n z:Nat)(h:ak w base s)(hv:VI X N d s.k)(hn:n<20)(n0:n≠0)(hX: ¬X n)(ho:s.k.sp.of n=z+1)(hx:Kn.hd s.k n=n-> ∀m,m<20->X m-> ¬Sp.mem s.k.sp z m):
  Calls Tryz.prog 73 #[.pointer (some ⟨s.A 0,0,none⟩), .int .i64 n] w fun e w'=> ∃k',e= .returned (.tuple #[])/\Kn.gW 6 s.k n k'/\ak w' base {s with k:=k'}/\KF s w {s with k:=k'} w':=
 oC base N d hN 6 X s w n z h hv hn n0 hX ho (fun c=>⟨by omega,hx c⟩) (by omega)
theorem Kn.uI (t:Sp.T)(z:Int):(dv t z).length<=21:=by
 unfold dv;split
 ·unfold Sp.eO;rw[List.length_map];exact aH (bW _ _) (by simp)
 ·simp
def Kn.gU (k:Kp)(n:Int)(L:List Nat):List Nat:=L.filter (fun m=>decide ((k.p m).par=n))
theorem Kn.Na {k:Kp}{n:Int}{L:List Nat}{i m:Nat}(h:L[i]? =some m)(e:(k.p m).par=n):Kn.gU k n (L.take (i+1))=Kn.gU k n (L.take i)++[m]:=by
 unfold Kn.gU;rw[List.take_add_one,List.filter_append,h];simp[e]
theorem Kn.OT {k:Kp}{n:Int}{L:List Nat}{i m:Nat}(h:L[i]? =some m)(e:(k.p m).par≠n):Kn.gU k n (L.take (i+1))=Kn.gU k n (L.take i):=by
 unfold Kn.gU;rw[List.take_add_one,List.filter_append,h];simp[e]
theorem Kn.xy (k:Kp)(n:Int)(L:List Nat):(Kn.gU k n L).length<=L.length:=bW _ _
def Kn.fa (k:Kp)(n:Nat):List Nat:=Kn.gU k (n:Int) (dv k.sp ((Sp.cQ k.sp (n:Int):Nat):Int))
section
variable (base : Nat) (s : St) (w : bD)
theorem rD (n:Nat)(h:ak w base s)(hM: ∀x∈dv s.k.sp ((Sp.cQ s.k.sp (n:Int):Nat):Int),x<20):
  Calls Tryz.prog 72 #[.pointer (some ⟨s.A 0,0,none⟩), .int .i64 n] w fun e w'=> ∃v w0,e= .returned v/\Below w.heap.size w w0/\LO w0 (Kn.fa s.k n) v w':=by
 obtain⟨i0,hi,hz0,hz1,hz2⟩:=info_parts vG;have SP:=hZ (fT base s w (n:Int) h);have MM:=hZ (oM base s w ((Sp.cQ s.k.sp (n:Int):Nat):Int) h);have HL:Hid ((dv s.k.sp ((Sp.cQ s.k.sp (n:Int):Nat):Int)).length<=21):=hZ (Kn.uI _ _);unfold Kn.fa;generalize Sp.cQ s.k.sp (n:Int)=z at*;generalize dv s.k.sp (z:Int)=L at*;have H:=hZ (aK h hM);obtain⟨kb,hkb⟩:=nJ (s.A 0);have HK:=hZ hkb;rw[hkb]at SP MM|-;clear h hM hkb;go_in
 go_wp2_with fail
 refine SP.out.mono ?_;rintro e w1 ⟨rfl,hw⟩;subst w1;go_wp2_with fail
 refine MM.out.mono ?_;rintro e w1 ⟨v1,rfl,hL⟩;obtain⟨a1,c1,hv1⟩:=fC hL.own;obtain⟨NN,hNN⟩:=nJ (L.length);have HN:=hZ hNN;have hN21:NN<=21:=by rw[<-hNN];exact HL.out
 have LL:=hZ hL;have KW:=hZ (H.out.1.below hL.bF);rw[hNN]at hv1;have HV1:=hZ hv1;rw[hv1];clear hL hv1 hNN SP MM;go_wp2_with fail
 go_loopw [5,7,14] (fun l _ i wr=> ∃(k:Nat),i= .int .i64 k/\k<=NN/\Hid (LO w1 (Kn.gU s.k (n:Int) (L.take k)) l wr)) (fun _ _ i _=>NN-(intOf i).toNat)
 case atStart=>exact⟨0,rfl,by omega,LO.nil w1⟩
 case round=>
  obtain⟨k,rfl,hk,R⟩:=hrel;by_cases hlt:k<NN
  ·have hltI:(k:Int)<NN:=by omega
   have hkL:k<L.length:=by rw[HN.out];exact hlt
   obtain⟨m,hm⟩: ∃m,L[k]? =some m:=⟨_,aW hkL⟩;have m20:m<20:=H.out.2 m (bK hm);have m20I:(m:Int)<20:=by omega
   obtain⟨gg,cap,hv,hg,hc⟩:=LL.out.cells (by omega);rw[HV1.out]at hv;cases hv;have cm:wr.cell? ⟨gg,k,none⟩=some (.int .i64 (m:Int)):=by
    have q:=hc k hkL;rw[show 0+k=k by omega]at q;rw[R.out.bF.cell (p:=⟨gg,k,none⟩) hg,q];simp[aF,hm]
   have cp:=(KW.out.below R.out.bF).sV m m20;rw[HK.out]at cp;clear hc hg;by_cases d:(s.k.p m).par=(n:Int)
   ·have HM:=hZ (Kn.Na hm d);rw[d]at cp;obtain⟨a,cap,hv⟩:=fC R.out.own;rw[hv];have HV:=hZ hv;have hlm:=Kn.xy s.k (n:Int) (L.take k);rw[List.length_take,Nat.min_eq_left (by omega)]at hlm;generalize hN:(Kn.gU s.k (n:Int) (L.take k)).length=N at*;have HNN:=hZ hN;clear hv hN d hm hkL;go_wp2_with (at_builtin;refine wpList_append_lies _ rfl _ _ 46 (by rfl) w1.heap.size 3 i0 (.int .i64 0) 1 8 Tryz.underlying46 hi hz0 hz1 hz2 rfl (by decide) (.slice a N cap) N (rowOf (Kn.gU s.k (n:Int) (L.take k))) (by rfl) (by rw[<-HV.out,<-HNN.out];exact R.out.own.alloc _) ⟨wr.heap.size,0,none⟩ 1 1 [.int .i64 m] (by rfl) rfl (cell_one_new _ _ _) (by simp[Value.oneCell']) (by decide) (by unfold maxLen;omega) (by omega) (by have:=R.out.bF.size;simp;omega) (wr.heap.size+1) (by simp) ?_;intro gg2 cap2 w2 hown hgrow hat hlt2;have Q1:Hid (LO w1 (Kn.gU s.k (n:Int) (L.take k)++[m]) (.slice (some ⟨gg2,0,none⟩) (N+1) cap2) w2):=R.out.more HNN.out hown _ (by rw[HV.out];exact hgrow);clear hown hgrow hat hlt2)
    go_roundw
    case rel=>exact⟨k+1,by go_num,by omega,by rw[HM.out];exact Q1⟩
    case measure=>simp[intOf];omega
   ·have HM:=hZ (Kn.OT hm d);generalize (s.k.p m).par=pp at*;have d1:((pp:Int)==(n:Int))=false:=by simpa using d
    clear d hm hkL;go_wp2
    go_roundw
    case rel=>exact⟨k+1,by go_num,by omega,by rw[HM.out];exact R⟩
    case measure=>simp[intOf];omega
  ·obtain rfl:k=NN:=by omega
   go_wp2
   go_ret
   exact⟨_,_,rfl,LL.out.bF,by have q:=R.out;rw[<-HN.out,List.take_length]at q;exact q⟩
end
theorem Sg.Bg {X:Nat->S1}(h:Sg.dO X 0 0):Sg.dO (Sg.kM X 3) 0 0:=by
 rcases h with⟨_,h⟩|⟨h,_⟩
 ·refine .inl ⟨rfl,fun j h1 h2=>?_⟩;unfold Sg.kM;rw[aJ (by rfl)];by_cases c:j=3
  ·subst c;unfold Sg.ok Sg.put;simp[Sg.nU];intro _ c _;exact c
  ·have:=h j h1 h2;unfold Sg.ok Sg.put at*;simpa[c]using this
 ·omega
section
variable (base : Nat) (s : St) (w : bD)
theorem Eh (n:Nat)(h:ak w base s)(hn:n<20)(hh:(s.k.p n).has=true)(hf:Sg.dO (s.k.p n).box 0 0):
  Calls Tryz.prog 99 #[.pointer (some ⟨s.A 0,0,none⟩), .int .i64 n] w fun e w'=>e= .returned (.tuple #[])/\Below w.heap.size w w':=by
 have hnI:(n:Int)<20:=by omega
 have c5:=h.qS n hn hh;have EN:=hZ (BQ (s.A (29+n)) (s.k.p n).box w (h.bx n hn hh));have HF:=hZ hf;clear h hh hf;generalize s.A 0=kb at*;generalize s.A (29+n)=bb at*;go_in
 go_wp2_with fail
 refine EN.out.mono ?_;rintro e w1 ⟨m,rfl,hm,hb⟩;obtain rfl:m=0:=hm.unique HF.out;have HB:=hZ hb;clear hm hb;rw[show Sg.lU 0=false from rfl];go_wp2_with fail
 go_end0
 exact⟨rfl,HB.out⟩
theorem Ck (n:Nat)(h:ak w base s)(hn:n<20)(hh:(s.k.p n).has=true)(hf:Kn.hd s.k n≠n->Sg.dO (s.k.p n).box 0 0):
  Calls Tryz.prog 101 #[.pointer (some ⟨s.A 0,0,none⟩), .int .i64 n] w fun e w'=>e= .returned (.tuple #[])/\Below w.heap.size w w':=by
 obtain⟨th,hth⟩:=nJ (decide (Kn.hd s.k n=n));have IH:=hZ (mS base s w n h th hth);cases th
 ·have LK:=hZ (Eh base s w n h hn hh (hf (of_decide_eq_false hth)));clear h hh hf hth;generalize s.A 0=kb at*;go_in
  go_wp2_with fail
  refine IH.out.mono ?_;rintro e w1 ⟨rfl,hw⟩;subst w1;go_wp2_with fail
  refine LK.out.mono ?_;rintro e w1 ⟨rfl,hb⟩;have HB:=hZ hb;clear hb;go_wp2_with fail
  go_end0
  exact⟨rfl,HB.out⟩
 ·clear h hh hf hth;generalize s.A 0=kb at*;go_in
  go_wp2_with fail
  refine IH.out.mono ?_;rintro e w1 ⟨rfl,hw⟩;subst w1;go_wp2_with fail
  go_end0
  exact⟨rfl,aQ _ _⟩
def Kn.gH (k:Kp)(n:Nat)(z:Int):Kp:=k.put n {k.p n with box:=Sg.kM (k.p n).box z}
theorem Hy (n:Nat)(h:ak w base s)(hn:n<20)(hh:(s.k.p n).has=true)(hf:Kn.hd s.k n≠n->Sg.dO (s.k.p n).box 0 0):
  Calls Tryz.prog 151 #[.pointer (some ⟨s.A 0,0,none⟩), .int .i64 n, .int .i64 3] w fun e w'=>e= .returned (.tuple #[])/\ak w' base {s with k:=Kn.gH s.k n 3}/\KF s w {s with k:=Kn.gH s.k n 3} w':=by
 have hnI:(n:Int)<20:=by omega
 have c5:=h.qS n hn hh;have SE:=hZ (uF (s.A (29+n)) 3 (s.k.p n).box w (h.bx n hn hh));have H:=hZ (aK h (aK hh hf));obtain⟨kb,hkb⟩:=nJ (s.A 0);have HK:=hZ hkb;obtain⟨bb,hbb⟩:=nJ (s.A (29+n));have HB:=hZ hbb;rw[hkb]at c5|-;rw[hbb]at c5 SE;clear h hh hf hkb hbb;go_in
 go_wp2_with fail
 refine SE.out.mono ?_;rintro e w1 ⟨rfl,u1,f1⟩;generalize aq (Sg.bj 3)=ev;have S1:Hid (ak w1 base {s with k:=Kn.gH s.k n 3}/\KF s w {s with k:=Kn.gH s.k n 3} w1):=hZ (by
  rw[<-HB.out]at u1 f1;exact H.out.1.tE hn H.out.2.1 u1 f1)
 clear u1 f1 c5;have LK:=hZ (Ck base {s with k:=Kn.gH s.k n 3} w1 n S1.out.1 hn (by show((Kn.gH s.k n 3).p n).has=true;unfold Kn.gH;rw[Kn.ai];exact H.out.2.1) (fun c=>by
  show Sg.dO ((Kn.gH s.k n 3).p n).box 0 0;unfold Kn.gH;rw[Kn.ai];exact Sg.Bg (H.out.2.2 c)))
 rw[show({s with k:=Kn.gH s.k n 3}:St).A 0=kb from HK.out]at LK;go_wp2_with fail
 refine LK.out.mono ?_;rintro e w2 ⟨rfl,hb⟩;have S2:Hid (ak w2 base {s with k:=Kn.gH s.k n 3}/\KF s w {s with k:=Kn.gH s.k n 3} w2):=hZ ⟨S1.out.1.below hb,S1.out.2.trans (KF.below hb)⟩;clear hb;go_wp2_with fail
 go_end0
 exact⟨rfl,S2.out⟩
end
namespace Kn
def dE (k:Kp)(n:Nat)(c:Int):Kp:=k.put n {k.p n with st:=2,code:=c}
theorem Iz (k:Kp)(n:Nat)(c:Int):(k.put n {k.p n with st:=2}).put n {(k.put n {k.p n with st:=2}).p n with code:=c}=dE k n c:=by
 rw[ai];unfold dE Kp.put;congr 1;funext m;by_cases e:m=n
 ·rw[aJ e,aJ e]
 ·rw[aI e,aI e];exact aI e
def eW (k:Kp)(L:List Nat)(h:Int):Kp:={k with p:=fun m=>{k.p m with par:=if m∈L then h else(k.p m).par}}
theorem Nf (k:Kp)(h:Int):eW k [] h=k:=by
 unfold eW;simp only[List.not_mem_nil,if_false]
theorem Kl (k:Kp)(L:List Nat)(h:Int)(c:Nat):(eW k L h).put c {(eW k L h).p c with par:=h}=eW k (L++[c]) h:=by
 unfold eW Kp.put;congr 1;funext m;by_cases e:m=c
 ·subst e;rw[aJ rfl];have:m∈L++[m]:=by simp
  rw[aJ this]
 ·rw[aI e];have:(m∈L++[c])↔m∈L:=by simp[e]
  have p:(if m∈L then h else(k.p m).par)=(if m∈L++[c]then h else(k.p m).par):=by
   by_cases q:m∈L
   ·rw[aJ q,aJ (this.2 q)]
   ·rw[aI q,aI (fun x=>q (this.1 x))]
  exact congrArg (fun v=>({k.p m with par:=v}:Pr)) p
section
variable {X : Nat -> Prop} {N : Nat} {d : Nat -> Nat} {k k1 k2 k3 : Kp} {n z : Nat}
theorem KJ.gone (h:KJ X N k)(hX:X n)(hn:n<20)(s0:(k.p n).st≠0)(hh:(k.p n).has=false)(c:Int):KJ X N (dE k n c):=by
 have e: ∀m,m≠n->(dE k n c).p m=k.p m:=fun m q=>ao _ _ _ _ q;have e2:(dE k n c).p n={k.p n with st:=2,code:=c}:=ai _ _ _;refine⟨h.sp,h.gr,?_,h.wx,h.rf,h.ok,h.tb,fun m hm=>?_,fun m hm q=>?_,fun m hm x=>?_,fun m hm=>?_,h.ht,fun m hm=>?_⟩
 ·rw[show(fun m=>((dE k n c).p m).mem)=fun m=>(k.p m).mem from funext fun m=>by
   by_cases q:m=n
   ·subst q;rw[e2]
   ·rw[e m q]]
  exact h.me
 ·by_cases q:m=n
  ·subst q;rw[e2];exact aL 2
  ·rw[e m q];exact h.st m hm
 ·by_cases r:m=n
  ·subst r;rw[e2]at q;have q2:(k.p m).has=true:=q;rw[hh]at q2;cases q2
  ·rw[e m r]at q|-;exact h.hs m hm q
 ·by_cases q:m=n
  ·subst q;exact aZ hX x
  ·rw[e m q];exact h.lv m hm x
 ·by_cases q:m=n
  ·subst q;rw[e2];exact⟨fun _=>Nat.succ_ne_zero 1,fun _=>(h.of m hm).2 s0⟩
  ·rw[e m q];exact h.of m hm
 ·by_cases q:m=n
  ·subst q;rw[e2];exact h.nm m hm
  ·rw[e m q];exact h.nm m hm
theorem KJ.ad (h:KJ X N k)(L:List Nat)(v:Int):KJ X N (eW k L v):=⟨h.sp,h.gr,h.me,h.wx,h.rf,h.ok,h.tb,h.st,h.hs,h.lv,h.of,h.ht,h.nm⟩
theorem VI.gone (h:VI X N d k)(hX:X n)(hn:n<20)(s0:(k.p n).st≠0)(hh:(k.p n).has=false)(c:Int):VI X N d (dE k n c):=⟨h.kj.gone hX hn s0 hh c,h.iv,h.hs⟩
theorem EI.gone (h:EI X N d n z k)(s0:(k.p n).st≠0)(hh:(k.p n).has=false)(c:Int):EI X N d n z (dE k n c):=⟨h.vi.gone h.xn h.hn s0 hh c,h.hn,h.n0,h.xn,h.ho,h.hw,h.hx⟩
theorem Gz.head (g:Gz k k1 z)(h:VI X N d k)(h1:VI X N d k1){q:Nat}(hq:q<20)(o:k1.sp.of q≠0)(c:hd k1 q≠q):hd k q≠q:=by
 intro e;obtain⟨y,hy⟩: ∃y,k1.sp.of q=y+1:=⟨k1.sp.of q-1,by omega⟩;have hk:k.sp.of q=y+1:=by
  rcases g.kp q hq with⟨_,b⟩|⟨_,b,_⟩
  ·rw[<-b];exact hy
  ·exact aZ b o
 have y6:=(h.iv.bH hq hk).2.1;have w:=(fK h.iv h.hs hq hk).1 e;exact c ((fK h1.iv h1.hs hq hy).2 (g.wk y 1 q y6 (by omega) hq w o))
def wi (r:Nat)(k2:Kp)(n z:Nat)(k3:Kp):Prop:=(hd k2 n≠n/\k3=k2)\/(hd k2 n=n/\ ∃j,iW (gW r) (z:Int) j k2 k3)
structure Mid (N:Nat)(d:Nat->Nat)(n z:Nat)(k k3:Kp)(c:Int):Prop where
 vi:VI (fun m=>False\/m=n) N d k3
 ho:k3.sp.of n=z+1
 pn:(k3.p n).st=2/\(k3.p n).has=false/\(k3.p n).par=(k.p n).par/\(k3.p n).code=c
 ot: ∀q,q<20->q≠n->(k3.p q=k.p q/\(k3.sp.of q≠0->hd k3 q≠q->hd k q≠q))\/k3.p q=Pr.no
theorem VI.tC (h:VI (fun _=>False) N d k)(hn:n<20)(n0:n≠0)(l:lv k n=true)(ho:k.sp.of n=z+1){k1 k3:Kp}{c:Int}{r:Nat}(s1:fL k n k1)(m:wi r (dE k1 n c) n z k3):Mid N d n z k k3 c:=by
 obtain⟨a,sp,tb,hh,s0,eC⟩:=h.first hn (fun x=>x) ho (fun _=>s1) (fun x=>by rw[l]at x;cases x);have pa:=(s1.p n).2.1;have e2:(dE k1 n c).p n={k1.p n with st:=2,code:=c}:=ai _ _ _;have v2:=a.gone (.inr rfl) hn s0 hh c;have o2:(dE k1 n c).sp.of n=z+1:=by show k1.sp.of n=z+1;rw[sp];exact ho
 have pn2:((dE k1 n c).p n).st=2/\((dE k1 n c).p n).has=false/\((dE k1 n c).p n).par=(k.p n).par/\((dE k1 n c).p n).code=c:=by
  rw[e2];exact⟨rfl,hh,pa,rfl⟩
 have oth2: ∀q,q≠n->(dE k1 n c).p q=k.p q:=fun q e=>(ao _ _ _ _ e).trans (eC q e);have hd2: ∀q,hd (dE k1 n c) q=hd k q:=fun q=>by
  show hd k1 q=hd k q;unfold hd;rw[sp]
 rcases m with⟨_,rfl⟩|⟨ih,j,it⟩
 ·exact⟨v2,o2,pn2,fun q _ qn=> .inl ⟨oth2 q qn,fun _ e=>by rw[<-hd2 q];exact e⟩⟩
 ·have ei:EI (fun m=>False\/m=n) N d n z k1:=h.ei hn n0 (fun x=>x) ho (by rw[<-hd2 n];exact ih) (fun _ _ x=>aZ x (fun x=>x)) (fun _=>s1) (fun x=>by rw[l]at x;cases x);obtain⟨b,g,e,_⟩:=EI.iter (qi r) j _ (ei.gone s0 hh c) it;refine⟨b.vi,b.ho,by rw[e];exact pn2,fun q gx qn=>?_⟩;rcases g.kp q gx with⟨x,y⟩|⟨x,_,_⟩
  ·exact .inl ⟨x.trans (oth2 q qn),fun o c1=>by rw[<-hd2 q];exact g.head v2 b.vi gx o c1⟩
  ·exact .inr x
end
end Kn
namespace Kn
def ik (k:Kp)(q:Nat):Kp:=if lv k q=true then gH k q 3 else k
def j7 (k:Kp)(n:Nat)(c:Int)(z q:Nat)(k':Kp):Prop:= ∃k1 k3,fL k n k1/\wi 6 (dE k1 n c) n z k3/\k'=ik (eW k3 (fa k3 n) (Sp.dZ k3.sp (z:Int) 1:Nat)) q
theorem VI.Ks {X:Nat->Prop}{N:Nat}{d:Nat->Nat}{k:Kp}{n z:Nat}(h:VI X N d k)(hn:n<20)(ho:k.sp.of n=z+1): ∀x∈dv k.sp ((Sp.cQ k.sp (n:Int):Nat):Int),x<20:=by
 intro x hx;obtain⟨_,z6,zh⟩:=h.iv.bH hn ho;rw[Sp.fG hn ho]at hx;unfold dv at hx;rw[Sp.gO z6 zh,aJ rfl,hU]at hx;obtain⟨i,hi⟩:=List.getElem?_of_mem hx;exact(Sp.qE hi (fun p hp=>h.iv.nS z p z6 hp)).1
theorem Mid.par {N:Nat}{d:Nat->Nat}{n z q:Nat}{k k3:Kp}{c:Int}(m:Mid N d n z k k3 c)(hp:(k.p n).par=(q:Int))(qn:q≠n)(L:List Nat)(h:Int)(hL: ∀x∈L,(k3.p x).par=(n:Int)):((eW k3 L h).p n).par=(q:Int):=by
 show(if n∈L then h else(k3.p n).par)=(q:Int);have e:=m.pn.2.2.1;rw[aI (fun c=>by have:=hL n c;rw[e,hp]at this;omega),e,hp]
theorem ov {k:Kp}{n:Nat}: ∀x∈fa k n,(k.p x).par=(n:Int):=fun x hx=>by
 unfold fa gU at hx;have:=(bX.1 hx).2;simpa using this
theorem Gf {X:Nat->Prop}{N:Nat}{d:Nat->Nat}{k:Kp}{n z:Nat}(h:VI X N d k)(hn:n<20)(ho:k.sp.of n=z+1): ∀x∈fa k n,x<20:=fun x hx=>by
 unfold fa gU at hx;exact h.Ks hn ho x (bX.1 hx).1
theorem Mid.told {N:Nat}{d:Nat->Nat}{n z q:Nat}{k k3:Kp}{c:Int}(m:Mid N d n z k k3 c)(qn:q≠n)(gx:q<20)(L:List Nat)(h:Int)(hl:lv (eW k3 L h) q=true)(hF: ∀m,m<20->m≠n->lv k m=true->hd k m≠m->Sg.dO (k.p m).box 0 0):
  ((eW k3 L h).p q).has=true/\(hd (eW k3 L h) q≠q->Sg.dO ((eW k3 L h).p q).box 0 0):=by
 have l3:(k3.p q).st=1:=by
  have:decide ((k3.p q).st=1)=true:=hl;simpa using this
 refine⟨m.vi.kj.lv q gx (fun x=>x.elim id (fun y=>qn y)) l3,fun e=>?_⟩;show Sg.dO (k3.p q).box 0 0;have o:=(m.vi.kj.of q gx).2 (by omega);rcases m.ot q gx qn with⟨a,b⟩|a
 ·rw[a];rw[a]at l3;exact hF q gx qn (by unfold lv;simpa using l3) (b o e)
 ·rw[a]at l3;cases l3
end Kn
theorem Am (base N:Nat)(d:Nat->Nat)(hN:N<=900)(s:St)(w:bD)(n z q:Nat)(c:Int)(h:ak w base s)(hv:VI (fun _=>False) N d s.k)(hn:n<20)(n0:n≠0)(l:Kn.lv s.k n=true)(ho:s.k.sp.of n=z+1)(gx:q<20)(qn:q≠n)(hp:(s.k.p n).par=(q:Int))(hF: ∀m,m<20->m≠n->Kn.lv s.k m=true->Kn.hd s.k m≠m->Sg.dO (s.k.p m).box 0 0):
  Calls Tryz.prog 71 #[.pointer (some ⟨s.A 0,0,none⟩), .int .i64 n, .int .i64 c] w fun e w'=> ∃k',e= .returned (.tuple #[])/\Kn.j7 s.k n c z q k'/\ak w' base {s with k:=k'}/\KF s w {s with k:=k'} w':=by
 have hnI:(n:Int)<20:=by omega
 have q20I:(q:Int)<20:=by omega
 have KS:=hZ (wU base s w (fun _=>False) N n h hv.kj hN hn (hv.kj.lv n hn (fun x=>x) (by unfold Kn.lv at l;simpa using l)));obtain⟨kb,hkb⟩:=nJ (s.A 0);have HK:=hZ hkb;have H:=hZ (aK h (aK hv (aK l (aK ho (aK hp (aK hF hN))))));rw[hkb]at KS|-;clear h hv l ho hp hF hN;go_in
 go_wp2_with fail
 refine KS.out.mono ?_;rintro e w1 ⟨k1,rfl,st,ka,kf⟩;have S1:Hid (Kn.fL s.k n k1/\ak w1 base {s with k:=k1}/\KF s w {s with k:=k1} w1):=hZ ⟨st,ka,kf⟩;clear st ka kf KS;have c0:=S1.out.2.1.ux n hn;have c3:=S1.out.2.1.Lg n hn;have fz:=S1.out.2.1.frozen;rw[show({s with k:=k1}:St).A 0=kb from HK.out]at c0 c3 fz;have S2:Hid (ak ((w1.setCell ⟨kb,n*12,none⟩ (.int .i64 2)).setCell ⟨kb,n*12+3,none⟩ (.int .i64 c)) base {s with k:=Kn.dE k1 n c}/\KF s w {s with k:=Kn.dE k1 n c} ((w1.setCell ⟨kb,n*12,none⟩ (.int .i64 2)).setCell ⟨kb,n*12+3,none⟩ (.int .i64 c))):=hZ (by
  have q1:=S1.out.2.1.PQ hn 2;have q2:=q1.1.Ms hn c;rw[show({s with k:=k1}:St).A 0=kb from HK.out]at q1;have e2:=Kn.Iz k1 n c;have q3:ak ((w1.setCell ⟨s.A 0,n*12,none⟩ (.int .i64 2)).setCell ⟨s.A 0,n*12+3,none⟩ (.int .i64 c)) base {s with k:=(k1.put n {k1.p n with st:=2}).put n {(k1.put n {k1.p n with st:=2}).p n with code:=c}}/\KF {s with k:=k1.put n {k1.p n with st:=2}} (w1.setCell ⟨s.A 0,n*12,none⟩ (.int .i64 2)) {s with k:=(k1.put n {k1.p n with st:=2}).put n {(k1.put n {k1.p n with st:=2}).p n with code:=c}} ((w1.setCell ⟨s.A 0,n*12,none⟩ (.int .i64 2)).setCell ⟨s.A 0,n*12+3,none⟩ (.int .i64 c)):=q2;rw[e2,HK.out]at q3;exact⟨q3.1,(S1.out.2.2.trans q1.2).trans q3.2⟩)
 generalize (({s with k:=k1}:St).k.p n).st=v0 at c0;generalize (({s with k:=k1}:St).k.p n).code=v3 at c3;obtain⟨th,hth⟩:=nJ (decide (Kn.hd (Kn.dE k1 n c) n=n));have IH:=hZ (mS base {s with k:=Kn.dE k1 n c} _ n S2.out.1 th hth);rw[show({s with k:=Kn.dE k1 n c}:St).A 0=kb from HK.out]at IH;have HT:Hid ((th=true->Kn.hd (Kn.dE k1 n c) n=n)/\(th=false->Kn.hd (Kn.dE k1 n c) n≠n)):=hZ ⟨fun c=>by rw[<-hth]at c;exact of_decide_eq_true c,fun c=>by rw[<-hth]at c;exact of_decide_eq_false c⟩;clear hth;go_wp2_with fail
 refine IH.out.mono ?_;rintro e w2 ⟨rfl,hw⟩;rw[<-hw]at S2;clear hw IH c0 c3 fz;go_upto_if 27 with fail
 go_cut [28]from 29 to 30 (fun _ wx=> ∃k3,Hid (ak wx base {s with k:=k3}/\KF s w {s with k:=k3} wx/\Kn.wi 6 (Kn.dE k1 n c) n z k3))
 case first=>
  cases th
  ·go_wp2
   go_meet
   case rel=>exact⟨_,hZ ⟨S2.out.1,S2.out.2, .inl ⟨HT.out.2 (by first|rfl|trivial),rfl⟩⟩⟩
  ·have HD:=hZ (HT.out.1 (by first|rfl|trivial));have EE:Hid (EI (fun m=>False\/m=n) N d n z (Kn.dE k1 n c)):=hZ (by
    obtain⟨a,sp,tb,hh,s0,eC⟩:=H.out.2.1.first hn (fun x=>x) H.out.2.2.2.1 (fun _=>S1.out.1) (fun x=>by rw[H.out.2.2.1]at x;cases x);refine EI.gone (H.out.2.1.ei hn n0 (fun x=>x) H.out.2.2.2.1 ?_ (fun _ _ x=>aZ x (fun x=>x)) (fun _=>S1.out.1) (fun x=>by rw[H.out.2.2.1]at x;cases x)) s0 hh c;have q:=HD.out;have q2:Kn.hd k1 n=n:=q;unfold Kn.hd at q2|-;rw[<-sp];exact q2)
   have EM:=hZ (xb base N d 6 _ {s with k:=Kn.dE k1 n c} w2 n z (oC base N d H.out.2.2.2.2.2.2 6) (by omega) (by omega) S2.out.1 EE.out);rw[show({s with k:=Kn.dE k1 n c}:St).A 0=kb from HK.out]at EM;go_wp2_with fail
   refine EM.out.mono ?_;rintro e w3 ⟨k3,j,rfl,it,ka,kf⟩;have S3:Hid (ak w3 base {s with k:=k3}/\KF s w {s with k:=k3} w3/\Kn.wi 6 (Kn.dE k1 n c) n z k3):=hZ ⟨ka,S2.out.2.trans kf, .inr ⟨HD.out,j,it⟩⟩;clear it ka kf;go_wp2
   go_meet
   case rel=>exact⟨k3,S3⟩
 obtain⟨k3,S3⟩:=hcut;have MD:=hZ (H.out.2.1.tC hn n0 H.out.2.2.1 H.out.2.2.2.1 S1.out.1 S3.out.2.2);have SP:=hZ (fT base {s with k:=k3} wc (n:Int) S3.out.1);rw[show Sp.cQ ({s with k:=k3}:St).k.sp (n:Int)=z from Sp.fG hn MD.out.ho,show({s with k:=k3}:St).A 0=kb from HK.out]at SP;have HD:=hZ (yS base {s with k:=k3} wc (z:Int) S3.out.1);rw[show({s with k:=k3}:St).A 0=kb from HK.out]at HD;obtain⟨hd0,hhd⟩:=nJ (Sp.dZ ({s with k:=k3}:St).k.sp (z:Int) 1);rw[hhd]at HD;have HHD:=hZ hhd;have CH:=hZ (rD base {s with k:=k3} wc n S3.out.1 (MD.out.vi.Ks hn MD.out.ho));rw[show({s with k:=k3}:St).A 0=kb from HK.out]at CH;clear hhd S2;go_wp2_with fail
 refine SP.out.mono ?_;rintro e w4 ⟨rfl,hw⟩;subst w4;go_wp2_with fail
 refine HD.out.mono ?_;rintro e w4 ⟨rfl,hw⟩;subst w4;go_wp2_with fail
 refine CH.out.mono ?_;rintro e w4 ⟨v4,u4,rfl,hb4,hL⟩;clear SP HD CH;obtain⟨LC,hLC⟩:=nJ (Kn.fa ({s with k:=k3}:St).k n);rw[hLC]at hL;have HLC:Hid (Kn.fa k3 n=LC):=hZ hLC;have LP:Hid ((∀x∈LC,x<20)/\ ∀x∈LC,(k3.p x).par=(n:Int)):=hZ (by rw[<-HLC.out];exact⟨Kn.Gf MD.out.vi hn MD.out.ho,Kn.ov⟩);obtain⟨a1,cp1,hv1⟩:=fC hL.own;obtain⟨NN,hNN⟩:=nJ (LC.length);have HN:=hZ hNN;have NL:NN<=21:=by
  rw[<-hNN,<-HLC.out];exact aH (Kn.xy _ _ _) (Kn.uI _ _)
 have BB:Hid (Below wc.heap.size wc w4):=hZ (hb4.trans (hL.bF.mono hb4.size));have S4:Hid (ak w4 base {s with k:=Kn.eW k3 (LC.take 0) (hd0:Int)}/\KF s w {s with k:=Kn.eW k3 (LC.take 0) (hd0:Int)} w4/\ ∀b,b≠kb->w4.heap[b]? =w4.heap[b]?):=hZ (by
  rw[List.take_zero,Kn.Nf];exact⟨S3.out.1.below BB.out,S3.out.2.1.trans (KF.below BB.out),fun _ _=>rfl⟩)
 have LL:Hid (∀i,i<LC.length-> ∃gg cap,v4= .slice (some ⟨gg,0,none⟩) LC.length cap/\gg≠kb/\w4.cell? ⟨gg,i,none⟩=some (.int .i64 ((LC.getD i 0:Nat):Int))):=hZ (fun i hi=>by
  obtain⟨gg,cap,hv,hg,hc⟩:=hL.cells (by omega);refine⟨gg,cap,hv,fun e=>?_,?_⟩
  ·have a:=(hL.own.lt gg (by rw[hv];rfl)).1;have b:kb<wc.heap.size:=by rw[<-HK.out];exact S3.out.1.lt (az (by omega))
   have:=hb4.size;omega
  ·have q:=hc i hi;rw[show 0+i=i by omega]at q;exact q)
 rw[hNN]at hv1;have HV1:=hZ hv1;rw[hv1];clear hL hv1 hNN hb4 hLC;go_wp2_with fail
 go_loopw [9,40] (fun _ i wr=> ∃(k:Nat),i= .int .i64 k/\k<=NN/\Hid (ak wr base {s with k:=Kn.eW k3 (LC.take k) (hd0:Int)}/\KF s w {s with k:=Kn.eW k3 (LC.take k) (hd0:Int)} wr/\ ∀b,b≠kb->wr.heap[b]? =w4.heap[b]?)) (fun _ i _=>NN-(intOf i).toNat)
 case atStart=>exact⟨0,rfl,by omega,hZ ⟨S4.out.1,S4.out.2.1,fun _ _=>rfl⟩⟩
 case round=>
  obtain⟨k,rfl,hk,R⟩:=hrel;by_cases hlt:k<NN
  ·have hltI:(k:Int)<NN:=by omega
   have hkL:k<LC.length:=by rw[HN.out];exact hlt
   obtain⟨m,hm⟩: ∃m,LC[k]? =some m:=⟨_,aW hkL⟩;have m20:m<20:=LP.out.1 m (bK hm);have m20I:(m:Int)<20:=by omega
   obtain⟨gg,cap,hv,hg,hc⟩:=LL.out k hkL;rw[HV1.out]at hv;cases hv;have cm:wr.cell? ⟨gg,k,none⟩=some (.int .i64 (m:Int)):=by
    rw[show wr.cell? ⟨gg,k,none⟩=w4.cell? ⟨gg,k,none⟩from aV (R.out.2.2 gg hg),hc];simp[aF,hm]
   have cp:=R.out.1.sV m m20;have fz:=R.out.1.frozen;rw[show({s with k:=Kn.eW k3 (LC.take k) (hd0:Int)}:St).A 0=kb from HK.out]at cp fz;generalize (({s with k:=Kn.eW k3 (LC.take k) (hd0:Int)}:St).k.p m).par=pv at cp;have R1:Hid (ak (wr.setCell ⟨kb,m*12+1,none⟩ (.int .i64 (hd0:Int))) base {s with k:=Kn.eW k3 (LC.take (k+1)) (hd0:Int)}/\KF s w {s with k:=Kn.eW k3 (LC.take (k+1)) (hd0:Int)} (wr.setCell ⟨kb,m*12+1,none⟩ (.int .i64 (hd0:Int)))/\ ∀b,b≠kb->(wr.setCell ⟨kb,m*12+1,none⟩ (.int .i64 (hd0:Int))).heap[b]? =w4.heap[b]?):=hZ (by
    have q:=R.out.1.Bf m20 (hd0:Int);rw[show({s with k:=Kn.eW k3 (LC.take k) (hd0:Int)}:St).A 0=kb from HK.out]at q;have e:=Kn.Kl k3 (LC.take k) (hd0:Int) m;rw[show LC.take k++[m]=LC.take (k+1)by rw[List.take_add_one,hm];rfl]at e;rw[<-e];exact⟨q.1,R.out.2.1.trans q.2,fun b hb=>(dD _ _ _ _ hb).trans (R.out.2.2 b hb)⟩)
   clear hc hm hkL hg;go_wp2
   go_roundw
   case rel=>exact⟨k+1,by go_num,by omega,R1⟩
   case measure=>simp[intOf];omega
  ·obtain rfl:k=NN:=by omega
   have R1:Hid (ak wr base {s with k:=Kn.eW k3 LC (hd0:Int)}/\KF s w {s with k:=Kn.eW k3 LC (hd0:Int)} wr):=hZ (by
    have q:=R.out;rw[<-HN.out,List.take_length]at q;exact⟨q.1,q.2.1⟩)
   clear R S4;have cp:=R1.out.1.sV n hn;rw[show({s with k:=Kn.eW k3 LC (hd0:Int)}:St).A 0=kb from HK.out,show(({s with k:=Kn.eW k3 LC (hd0:Int)}:St).k.p n).par=(q:Int)from MD.out.par H.out.2.2.2.2.1 qn LC (hd0:Int) LP.out.2]at cp;obtain⟨tl,htl⟩:=nJ (Kn.lv (Kn.eW k3 LC (hd0:Int)) q);have LV:=hZ (j5 base {s with k:=Kn.eW k3 LC (hd0:Int)} wr q R1.out.1 gx tl htl);rw[show({s with k:=Kn.eW k3 LC (hd0:Int)}:St).A 0=kb from HK.out]at LV;have ET:Hid (∀k',k'=Kn.ik (Kn.eW k3 LC (hd0:Int)) q->Kn.j7 s.k n c z q k'):=hZ (fun k' e=>⟨k1,k3,S1.out.1,S3.out.2.2,by rw[HLC.out,show Sp.dZ k3.sp (z:Int) 1=hd0 from HHD.out];exact e⟩);cases tl
   ·have FIN:=hZ (ET.out _ (by unfold Kn.ik;rw[aI (by rw[htl];decide)]));clear htl ET;go_wp2_with fail
    refine LV.out.mono ?_;rintro e w5 ⟨rfl,hw⟩;subst w5;go_wp2_with fail
    go_end0
    exact⟨_,rfl,FIN.out,R1.out⟩
   ·have FIN:=hZ (ET.out _ (by unfold Kn.ik;rw[aJ htl]));have TD:=MD.out.told qn gx LC (hd0:Int) htl H.out.2.2.2.2.2.1;have SE:=hZ (Hy base {s with k:=Kn.eW k3 LC (hd0:Int)} wr q R1.out.1 gx TD.1 TD.2);rw[show({s with k:=Kn.eW k3 LC (hd0:Int)}:St).A 0=kb from HK.out]at SE;clear htl ET TD;go_wp2_with fail
    refine LV.out.mono ?_;rintro e w5 ⟨rfl,hw⟩;subst w5;go_wp2_with fail
    refine SE.out.mono ?_;rintro e w5 ⟨rfl,ka,kf⟩;have S5:Hid (ak w5 base {s with k:=Kn.gH (Kn.eW k3 LC (hd0:Int)) q 3}/\KF s w {s with k:=Kn.gH (Kn.eW k3 LC (hd0:Int)) q 3} w5):=hZ ⟨ka,R1.out.2.trans kf⟩;clear ka kf;go_wp2_with fail
    go_end0
    exact⟨_,rfl,FIN.out,S5.out⟩
def Kn.AE (k:Kp)(z:Int):Nat:=if Kn.bc k z=0 then Sp.js k.sp z (Sp.cQ k.sp z:Nat)else 0
def Kn.dP (k:Kp)(z p:Int):Int:=if Kn.bc k z=0 then(if Sp.fN k.sp (Sp.cQ k.sp z:Nat) p=0 then(if Kn.lv k (Sp.dZ k.sp (Sp.cQ k.sp z:Nat) p)=true then 0 else 8)else Sp.fN k.sp (Sp.cQ k.sp z:Nat) p)else Kn.bc k z
def Kn.fB (k:Kp)(z p:Int):Nat:=if Kn.dP k z p=0 then Sp.dZ k.sp (Sp.cQ k.sp z:Nat) p else 0
section
variable (base : Nat) (s : St) (w : bD)
theorem G3 (z:Int)(h:ak w base s)(h0: ∀n,n<6->s.k.sp.ay n 0=0):
  Calls Tryz.prog 21 #[.pointer (some ⟨s.A 0,0,none⟩), .int .i64 z] w fun e w'=>e= .returned (.tuple #[.int .i64 (Kn.AE s.k z:Int),aq (Kn.bc s.k z)])/\w'=w:=by
 have AC:=hZ (dg base s w z h);by_cases c:Kn.bc s.k z=0
 ·have E:Kn.AE s.k z=Sp.js s.k.sp z (Sp.cQ s.k.sp z:Nat):=aJ c;have SP:=hZ (fT base s w z h);have PI:=hZ (uE base s w z (Sp.cQ s.k.sp z:Nat) h h0);rw[c,aa]at AC;rw[E,c,aa];clear h h0 c E;generalize fP (s.A 0) z 0=ap at*;generalize s.A 0=kb at*;generalize Sp.js s.k.sp z (Sp.cQ s.k.sp z:Nat)=pp at*;generalize Sp.cQ s.k.sp z=ss at*;go_in
  go_wp2_with fail
  refine AC.out.mono ?_;rintro e w1 ⟨rfl,hw⟩;subst w1;go_wp2_with fail
  refine SP.out.mono ?_;rintro e w1 ⟨rfl,hw⟩;subst w1;go_wp2_with fail
  refine PI.out.mono ?_;rintro e w1 ⟨rfl,hw⟩;subst w1;go_wp2
  go_ret2
  exact⟨rfl,rfl⟩
 ·have E:Kn.AE s.k z=0:=aI c;rw[aj c]at AC;rw[E,aj c];clear h h0 E c;generalize fP (s.A 0) z (Kn.bc s.k z)=ap at*;generalize Kn.bc s.k z=ae at*;generalize s.A 0=kb at*;go_in
  go_wp2_with fail
  refine AC.out.mono ?_;rintro e w1 ⟨rfl,hw⟩;subst w1;go_wp2
  go_ret2
  exact⟨rfl,rfl⟩
theorem Kn.j9 {t:Sp.T}(hw: ∀z p,z<6->p<21->t.ay z p<=20)(z p:Int):Sp.dZ t z p<20:=by
 unfold Sp.dZ;by_cases c:Sp.fN t z p=0
 ·rw[aJ c];unfold Sp.fN at c;by_cases i:Sp.bj t z=0
  ·rw[aJ i]at c;by_cases j:p<1\/20<p\/t.ay z.toNat p.toNat=0
   ·rw[aJ j]at c;omega
   ·have z6:z.toNat<6:=by
     unfold Sp.bj at i;split at i
     ·omega
     ·omega
    have:=hw z.toNat p.toNat z6 (by omega);omega
  ·rw[aI i]at c;exact aZ c i
 ·rw[aI c];omega
theorem zL (z p:Int)(h:ak w base s)(hw: ∀z p,z<6->p<21->s.k.sp.ay z p<=20):
  Calls Tryz.prog 16 #[.pointer (some ⟨s.A 0,0,none⟩), .int .i64 z, .int .i64 p] w fun e w'=>e= .returned (.tuple #[.int .i64 (Kn.fB s.k z p:Int),aq (Kn.dP s.k z p)])/\Below w.heap.size w w':=by
 have AC:=hZ (dg base s w z h);by_cases c:Kn.bc s.k z=0
 ·have SP:=hZ (fun q=>fT base s (w.drewN q) z (h.drewN q));have FI:=hZ (fun q=>Ax (s.A 1) (Sp.cQ s.k.sp z:Nat) p s.k.sp (w.drewN q) (h.drewN q).sp);have c6:=h.uw;have lt:=Kn.j9 hw (Sp.cQ s.k.sp z:Nat) p;have LV:=hZ (fun q v hv=>j5 base s (w.drewN q) (Sp.dZ s.k.sp (Sp.cQ s.k.sp z:Nat) p) (h.drewN q) lt v hv);rw[c,aa]at AC;generalize fP (s.A 0) z 0=ap at*;by_cases f:Sp.fN s.k.sp (Sp.cQ s.k.sp z:Nat) p=0
  ·rw[f,aa]at FI;obtain⟨v,hv⟩:=nJ (Kn.lv s.k (Sp.dZ s.k.sp (Sp.cQ s.k.sp z:Nat) p));have LV2:=hZ (fun q=>LV.out q v hv);have E1:Kn.dP s.k z p=if v=true then 0 else 8:=by unfold Kn.dP;rw[aJ c,aJ f,hv]
   have E2:Kn.fB s.k z p=if v=true then Sp.dZ s.k.sp (Sp.cQ s.k.sp z:Nat) p else 0:=by
    unfold Kn.fB;rw[E1];cases v<;>rfl
   rw[E1,E2];clear h hw c f hv E1 E2 LV;generalize s.A 0=kb at*;generalize s.A 1=sb at*;generalize Sp.dZ s.k.sp (Sp.cQ s.k.sp z:Nat) p=ff at*;generalize Sp.cQ s.k.sp z=ss at*;have ltI:(ff:Int)<20:=by omega
   go_in
   go_wp2_with fail
   refine AC.out.mono ?_;rintro e w1 ⟨rfl,hw⟩;subst w1;go_wp2_with fail
   go_quiet ((first|(go_at_call 62;exact Calls.quiet_of_same (SP.out _))|(go_at_call 61;exact Calls.quiet_of_same (FI.out _))))
   go_wp2_with fail
   refine(LV2.out _).mono ?_;rintro e w1 ⟨rfl,hw⟩;subst w1;cases v
   ·go_wp2
    go_ret2
    exact⟨rfl,below_drewN (aQ _ _) _⟩
   ·go_wp2
    go_ret2
    exact⟨rfl,below_drewN (aQ _ _) _⟩
  ·have E1:Kn.dP s.k z p=Sp.fN s.k.sp (Sp.cQ s.k.sp z:Nat) p:=by unfold Kn.dP;rw[aJ c,aI f]
   have E2:Kn.fB s.k z p=0:=by unfold Kn.fB;rw[E1,aI f]
   rw[aj f]at FI;rw[E1,E2,aj f];clear h hw c f E1 E2 LV;generalize s.A 0=kb at*;generalize s.A 1=sb at*;generalize Sp.dZ s.k.sp (Sp.cQ s.k.sp z:Nat) p=ff at*;generalize Sp.fN s.k.sp (Sp.cQ s.k.sp z:Nat) p=fe at*;generalize Sp.cQ s.k.sp z=ss at*;go_in
   go_wp2_with fail
   refine AC.out.mono ?_;rintro e w1 ⟨rfl,hw⟩;subst w1;go_wp2_with fail
   go_quiet ((first|(go_at_call 62;exact Calls.quiet_of_same (SP.out _))|(go_at_call 61;exact Calls.quiet_of_same (FI.out _))))
   go_wp2
   go_ret2
   exact⟨rfl,below_drewN (aQ _ _) _⟩
 ·have E1:Kn.dP s.k z p=Kn.bc s.k z:=aI c;have E2:Kn.fB s.k z p=0:=by unfold Kn.fB;rw[E1,aI c]
  rw[aj c]at AC;rw[E1,E2,aj c];clear h hw E1 E2 c;generalize fP (s.A 0) z (Kn.bc s.k z)=ap at*;generalize Kn.bc s.k z=ae at*;generalize s.A 0=kb at*;go_in
  go_wp2_with fail
  refine AC.out.mono ?_;rintro e w1 ⟨rfl,hw⟩;subst w1;go_wp2
  go_ret2
  exact⟨rfl,aQ _ _⟩
end
structure Kn.KI (N:Nat)(d:Nat->Nat)(k:Kp):Prop where
 vi:VI (fun _=>False) N d k
 fi: ∀m,m<20->Kn.lv k m=true->Kn.hd k m≠m->Sg.dO (k.p m).box 0 0
 pr: ∀m,m<20->m≠0->(k.p m).st≠0-> ∃q,q<20/\q≠m/\(k.p m).par=(q:Int)
 h0:Kn.hd k 0=0
def Kn.nN (k:Kp)(z c:Int):Int:=if Kn.bc k z=0 then(if c<0\/255<c then 1 else if z=0 then 8 else 0)else Kn.bc k z
def Kn.nV (k:Kp)(z c:Int)(k':Kp):Prop:=(Kn.nN k z c≠0/\k'=k)\/(Kn.nN k z c=0/\ ∃n y q,z=(n:Nat)/\n<20/\n≠0/\Kn.lv k n=true/\k.sp.of n=y+1/\q<20/\q≠n/\(k.p n).par=(q:Nat)/\Kn.j7 k n c y q k')
section
variable (base N : Nat) (d : Nat -> Nat) (s : St) (w : bD)
theorem yQ (hN:N<=900)(z c:Int)(h:ak w base s)(hi:Kn.KI N d s.k):
  Calls Tryz.prog 20 #[.pointer (some ⟨s.A 0,0,none⟩), .int .i64 z, .int .i64 c] w fun e w'=> ∃k',e= .returned (aq (Kn.nN s.k z c))/\Kn.nV s.k z c k'/\ak w' base {s with k:=k'}/\KF s w {s with k:=k'} w':=by
 have AC:=hZ (dg base s w z h);have H:=hZ (aK h hi);by_cases a:Kn.bc s.k z=0
 ·obtain⟨n,rfl,hn,hl⟩:=Kn.fv a;rw[a,aa]at AC;generalize fP (s.A 0) (n:Int) 0=ap at*;by_cases b:c<0\/255<c
  ·have E:Kn.nN s.k (n:Int) c=1:=by unfold Kn.nN;rw[aJ a,aJ b]
   have FIN:Hid (Kn.nV s.k (n:Int) c s.k):=hZ (.inl ⟨by rw[E];decide,rfl⟩);rw[E];clear h hi a E;generalize s.A 0=kb at*;by_cases b1:c<0
   ·clear b;go_in
    go_wp2_with fail
    refine AC.out.mono ?_;rintro e w1 ⟨rfl,hw⟩;subst w1;go_wp2
    go_ret
    exact⟨s.k,rfl,FIN.out,H.out.1,KF.refl _ _⟩
   ·have b2:255<c:=by omega
    clear b;go_in
    go_wp2_with fail
    refine AC.out.mono ?_;rintro e w1 ⟨rfl,hw⟩;subst w1;go_wp2
    go_ret
    exact⟨s.k,rfl,FIN.out,H.out.1,KF.refl _ _⟩
  ·have b1: ¬c<0:=by omega
   have b2: ¬255<c:=by omega
   by_cases n0:n=0
   ·subst n0;have E:Kn.nN s.k ((0:Nat):Int) c=8:=by unfold Kn.nN;rw[aJ a,aI b];rfl
    have FIN:Hid (Kn.nV s.k ((0:Nat):Int) c s.k):=hZ (.inl ⟨by rw[E];decide,rfl⟩);rw[E];clear h hi a E b hl;generalize s.A 0=kb at*;go_in
    go_wp2_with fail
    refine AC.out.mono ?_;rintro e w1 ⟨rfl,hw⟩;subst w1;go_wp2
    go_ret
    exact⟨s.k,rfl,FIN.out,H.out.1,KF.refl _ _⟩
   ·have E:Kn.nN s.k (n:Int) c=0:=by unfold Kn.nN;rw[aJ a,aI b,aI (by omega)]
    have st0:(s.k.p n).st≠0:=by
     have:decide ((s.k.p n).st=1)=true:=hl;have:(s.k.p n).st=1:=by simpa using this
     omega
    obtain⟨q,gx,qn,hp⟩:=hi.pr n hn n0 st0;obtain⟨y,hy⟩: ∃y,s.k.sp.of n=y+1:=⟨s.k.sp.of n-1,by have:=(hi.vi.kj.of n hn).2 st0;omega⟩;have EN:=hZ (Am base N d hN s w n y q c h hi.vi hn n0 hl hy gx qn hp (fun m hm _=>hi.fi m hm));have FIN:Hid (∀k',Kn.j7 s.k n c y q k'->Kn.nV s.k (n:Int) c k'):=hZ (fun k' e=> .inr ⟨E,n,y,q,rfl,hn,n0,hl,hy,gx,qn,hp,e⟩);rw[E,aa];have nI:((n:Int)==0)=false:=by simpa using n0
    have nI2: ¬(n:Int)=0:=by omega
    clear h hi a E b hl st0 hp hy;generalize s.A 0=kb at*;go_in
    go_wp2_with fail
    refine AC.out.mono ?_;rintro e w1 ⟨rfl,hw⟩;subst w1;go_wp2_with fail
    refine EN.out.mono ?_;rintro e w1 ⟨k',rfl,et,ka,kf⟩;have S1:Hid (Kn.nV s.k (n:Int) c k'/\ak w1 base {s with k:=k'}/\KF s w {s with k:=k'} w1):=hZ ⟨FIN.out k' et,ka,kf⟩;clear et ka kf;go_wp2
    go_ret
    exact⟨k',rfl,S1.out⟩
 ·have E:Kn.nN s.k z c=Kn.bc s.k z:=aI a;have FIN:Hid (Kn.nV s.k z c s.k):=hZ (.inl ⟨by rw[E];exact a,rfl⟩);rw[aj a]at AC;rw[E,aj a];clear h hi E a;generalize fP (s.A 0) z (Kn.bc s.k z)=ap at*;generalize Kn.bc s.k z=ae at*;generalize s.A 0=kb at*;go_in
  go_wp2_with fail
  refine AC.out.mono ?_;rintro e w1 ⟨rfl,hw⟩;subst w1;go_wp2
  go_ret
  exact⟨s.k,rfl,FIN.out,H.out.1,KF.refl _ _⟩
end
namespace Kn
def dk (s:St)(n mb bb:Nat)(x:Pr):St:={s with A:=fun i=>if i=9+n then mb else if i=29+n then bb else s.A i,k:=s.k.put n x}
theorem lC (s:St)(n mb bb:Nat)(x:Pr):(dk s n mb bb x).A (9+n)=mb:=aJ rfl
theorem lL (s:St)(n mb bb:Nat)(x:Pr):(dk s n mb bb x).A (29+n)=bb:=(aI (by omega)).trans (aJ rfl)
theorem dN (s:St)(n mb bb:Nat)(x:Pr){i:Nat}(h1:i≠9+n)(h2:i≠29+n):(dk s n mb bb x).A i=s.A i:=(aI h1).trans (aI h2)
theorem tQ {s:St}{n mb bb:Nat}{x:Pr}{i:Nat}(hi:us (dk s n mb bb x) i):i=9+n\/i=29+n\/(us s i/\i≠9+n/\i≠29+n):=by
 by_cases c1:i=9+n
 ·exact .inl c1
 ·by_cases c2:i=29+n
  ·exact .inr (.inl c2)
  ·refine .inr (.inr ⟨?_,c1,c2⟩);rcases hi with hi|⟨h1,h2,h3⟩|⟨h1,h2,h3⟩|⟨h1,h2,h3⟩|⟨h1,h2,h3,h4⟩
   ·exact .inl hi
   ·have h5:((s.k.put n x).p (i-9)).has=true:=h3;rw[ao _ _ _ _ (by omega)]at h5;exact .inr (.inl ⟨h1,h2,h5⟩)
   ·have h5:((s.k.put n x).p (i-29)).has=true:=h3;rw[ao _ _ _ _ (by omega)]at h5;exact .inr (.inr (.inl ⟨h1,h2,h5⟩))
   ·exact .inr (.inr (.inr (.inl ⟨h1,h2,h3⟩)))
   ·exact .inr (.inr (.inr (.inr ⟨h1,h2,h3,h4⟩)))
theorem MO (s:St)(n mb bb:Nat)(x:Pr)(hn:n<20)(o:Nat)(ho:o<253):kc (dk s n mb bb x) o=if o<240/\o/12=n then dV mb bb x (o%12)else kc s o:=by
 unfold kc;by_cases c:o<240
 ·rw[aJ c,aJ c];unfold pc;by_cases e:o/12=n
  ·rw[aJ ⟨c,e⟩,e,lC,lL];show dV mb bb ((s.k.put n x).p n) _=_;rw[ai]
  ·rw[aI (fun q=>e q.2),dN _ _ _ _ _ (by omega) (by omega),dN _ _ _ _ _ (by omega) (by omega)];show dV _ _ ((s.k.put n x).p (o/12)) _=_;rw[ao _ _ _ _ e]
 ·have c': ¬(o<240/\o/12=n):=fun q=>c q.1;rw[aI c,aI c',aI c];by_cases c2:o<246
  ·rw[aJ c2,aJ c2,dN _ _ _ _ _ (by omega) (by omega)];rfl
  ·rw[aI c2,aI c2];by_cases c3:o<250
   ·rw[aJ c3,aJ c3,dN _ _ _ _ _ (by omega) (by omega)]
   ·rw[aI c3,aI c3,dN _ _ _ _ _ (by omega) (by omega)]
end Kn
section
variable {w w' : bD} {base : Nat} {s : St}
theorem ak.born (h:ak w base s){n mb bb:Nat}(hn:n<20){x:Pr}(um:cA w mb (s.A 4) x.mem)(ub:CX w bb x.box)(am: ∀i,us s i->s.A i≠mb)(ab: ∀i,us s i->s.A i≠bb)(mn:mb≠bb)(lm:base<=mb)(lb:base<=bb):
  ak (w.setCells (s.A 0) (n*12) (du mb bb x).toList) base (Kn.dk s n mb bb x)/\af (s.A 0) w (w.setCells (s.A 0) (n*12) (du mb bb x).toList):=by
 obtain⟨C,e,sz⟩:=h.kT;obtain⟨C',e',sz'⟩:=dR (s.A 0) (du mb bb x).toList (n*12) w C e;have hl:(du mb bb x).toList.length=12:=by rw[aB,dh]
 have f:af (s.A 0) w (w.setCells (s.A 0) (n*12) (du mb bb x).toList):=af.setCells _ _ (af.refl _ _);have dC: ∀o,o<253->(w.setCells (s.A 0) (n*12) (du mb bb x).toList).cell? ⟨s.A 0,o,none⟩=some (Kn.kc (Kn.dk s n mb bb x) o):=fun o ho=>by
  rw[Kn.MO s n mb bb x hn o ho];by_cases c:o<240/\o/12=n
  ·rw[aJ c];obtain⟨j,rfl,hj⟩: ∃j,o=n*12+j/\j<12:=⟨o%12,by omega,by omega⟩;rw[aS (s.A 0) (du mb bb x).toList (n*12) w (fun i hi=>by rw[hl]at hi;rw[h.cP n i hn hi];rfl) j (by omega),<-aW (by omega),aM,kW mb bb x j hj,show(n*12+j)%12=j by omega]
  ·rw[aI c,aA (s.A 0) _ (n*12) w ⟨s.A 0,o,none⟩ (fun _ _=>by rw[hl];show o<_\/_<=o;omega)];exact h.dC o ho
 have o:=h.others (az (by omega)) f;have A9: ∀i,i<9->(Kn.dk s n mb bb x).A i=s.A i:=fun i hi=>Kn.dN _ _ _ _ _ (by omega) (by omega);have pj: ∀j,j≠n->(Kn.dk s n mb bb x).k.p j=s.k.p j:=fun j c=>Kn.ao _ _ _ _ c;have pn:(Kn.dk s n mb bb x).k.p n=x:=Kn.ai _ _ _;have um':cA (w.setCells (s.A 0) (n*12) (du mb bb x).toList) mb (s.A 4) x.mem:=um.same (f.block _ um.lt (am 0 (az (by omega))).symm);have ub':CX (w.setCells (s.A 0) (n*12) (du mb bb x).toList) bb x.box:=ub.same (f.block _ ub.lt (ab 0 (az (by omega))).symm);refine⟨⟨⟨C',by rw[A9 0 (by omega)];exact e',by omega⟩,fun i hi=>by rw[A9 0 (by omega)];exact dC i hi,by rw[A9 1 (by omega)];exact h.sp.same (o 1 (az (by omega)) (by omega)),by rw[A9 2 (by omega)];exact(o 2 (az (by omega)) (by omega)).trans h.gr,by rw[A9 3 (by omega)];exact h.sc.same (o 3 (az (by omega)) (by omega)),by rw[A9 4 (by omega),A9 5 (by omega)];exact h.bk.same (o 4 (az (by omega)) (by omega)) (o 5 (az (by omega)) (by omega)),by rw[A9 8 (by omega),A9 6 (by omega),A9 7 (by omega)];exact h.fi.same (o 8 (az (by omega)) (by omega)),by rw[A9 6 (by omega)];exact h.fo.same (o 6 (az (by omega)) (by omega)),by rw[A9 7 (by omega)];exact h.pi.same (o 7 (az (by omega)) (by omega)),
  fun j hj jh=>?_,fun j hj jh=>?_,fun j hj hh=>?_,fun j hj hh g eg=>?_,fun i j hi hj eq=>?_,fun i hi=>?_⟩,f⟩
 ·by_cases c:j=n
  ·subst c;rw[Kn.lC,A9 4 (by omega),pn];exact um'
  ·rw[pj j c]at jh|-;rw[Kn.dN _ _ _ _ _ (by omega) (by omega),A9 4 (by omega)];exact(h.me j hj jh).same (o _ (Kn.gP hj jh) (by omega))
 ·by_cases c:j=n
  ·subst c;rw[Kn.lL,pn];exact ub'
  ·rw[pj j c]at jh|-;rw[Kn.dN _ _ _ _ _ (by omega) (by omega)];exact(h.bx j hj jh).same (o _ (Kn.iQ hj jh) (by omega))
 ·rw[Kn.dN _ _ _ _ _ (by omega) (by omega),A9 6 (by omega)];exact(h.tb j hj hh).same (o _ (Kn.ja hj hh) (by omega)) (fun g eg=>by have:=o _ (Kn.iT hj hh eg) (by omega);rwa [h.ro j hj hh g eg]at this)
 ·rw[Kn.dN _ _ _ _ _ (by omega) (by omega)];exact h.ro j hj hh g eg
 ·rcases Kn.tQ hi with rfl|rfl|⟨ui,i1,i2⟩<;>rcases Kn.tQ hj with rfl|rfl|⟨uj,j1,j2⟩
  ·rfl
  ·rw[Kn.lC,Kn.lL]at eq;exact aZ eq mn
  ·rw[Kn.lC,Kn.dN _ _ _ _ _ j1 j2]at eq;exact aZ eq.symm (am j uj)
  ·rw[Kn.lC,Kn.lL]at eq;exact aZ eq.symm mn
  ·rfl
  ·rw[Kn.lL,Kn.dN _ _ _ _ _ j1 j2]at eq;exact aZ eq.symm (ab j uj)
  ·rw[Kn.lC,Kn.dN _ _ _ _ _ i1 i2]at eq;exact aZ eq (am i ui)
  ·rw[Kn.lL,Kn.dN _ _ _ _ _ i1 i2]at eq;exact aZ eq (ab i ui)
  ·rw[Kn.dN _ _ _ _ _ i1 i2,Kn.dN _ _ _ _ _ j1 j2]at eq;exact h.inj i j ui uj eq
 ·rcases Kn.tQ hi with rfl|rfl|⟨ui,i1,i2⟩
  ·rw[Kn.lC];exact lm
  ·rw[Kn.lL];exact lb
  ·rw[Kn.dN _ _ _ _ _ i1 i2];exact h.low i ui
end
theorem uW {P:Program}{ops:Array Oper}{rest:List Oper}{op:Oper}{a:Act}{w:bD}{Q:Act->Prop}(hgd:op.guard=none)(ty:TypeId)(x:Operand)(ho:op.op= .load ty x)
  (b o:Nat) (hx:a.eval x= .pointer (some ⟨b,o,none⟩)) (cs:List Value) (d:TypeDesc) (hc:w.rangeAt b o cs)
  (hu:P.underlying ty=some d) (hd:d.isRow=true) (hi:(P.info? ty).map (·.size)=some cs.length)
  (h:wpStill P ops w Q rest (a.put op.dst (.agg cs.toArray))):wpStill P ops w Q (op::rest) a:=
 wpStill_step (fun K hK=>by
  have hw:Region.wanted op (yielded ops a.tmps)=true:=by simp[Region.wanted,hgd]
  rw[aJ hw];unfold Oper.still execOp;simp only[ho,hx,Instr.loadAt,Instr.sureAddr,Sem.run_bind,Sem.run_pure,Result.andThen_ok,run_loadVar_mid w b o ty cs d hc hu hd hi];rw[Oper.stillUpon_value];exact hK _ h)
section
variable {ops : Array Oper} {rest : List Oper} {x : Oper} {a : Act} {w : bD} {Q : Exit -> Act -> bD -> Prop}
theorem As (hgd:x.guard=none)(y:Operand)(A:Array Value)(ho:x.op= .box 74 y)(hy:a.eval y= .agg A)(h:wpList Tryz.prog ops Q rest (a.put x.dst (.pointer (some ⟨w.heap.size,0,none⟩))) (w.alloc (.cells A 74))):wpList Tryz.prog ops Q (x::rest) a w:=
 wpList_plain hgd fun _ hK=>by
  unfold Oper.wp execOp;simp only[ho,hy];simp[go_sem];exact hK _ _ h
end
def Kn.gJ (k:Kp)(n:Nat)(x:Pr)(z:Int)(m:Wf.M):Kp:={k.put n x with sp:=Sp.dM k.sp z (n:Int),sc:=m}
section
variable (base : Nat) (s : St) (w : bD)
theorem vV (n mb bb:Nat)(x:Pr)(z:Int)(d:Nat->Nat)(h:ak w base s)(hn:n<20)(hI:Sp.Inv s.k.sp d)(um:cA w mb (s.A 4) x.mem)(ub:CX w bb x.box)(am: ∀i,us s i->s.A i≠mb)(ab: ∀i,us s i->s.A i≠bb)(mn:mb≠bb)(lm:base<=mb)(lb:base<=bb):
  Calls Tryz.prog 68 #[.pointer (some ⟨s.A 0,0,none⟩), .int .i64 n, .agg (du mb bb x), .int .i64 z] w fun e w'=> ∃m',e= .returned (.tuple #[])/\Wf.im (Wf.dm s.k.sc (n:Int) x.bP) (n:Int) true m'/\ak w' base {Kn.dk s n mb bb x with k:=Kn.gJ s.k n x z m'}/\dq (KB s) w w':=by
 have hnI:(n:Int)<20:=by omega
 obtain⟨kb,hkb⟩:=nJ (s.A 0);have HK:=hZ hkb;have b0:Below w.heap.size w (w.alloc (.cells (du mb bb x) 74)):=(aQ _ _).alloc (aL _) _;have N0:Hid ((w.alloc (.cells (du mb bb x) 74)).heap[w.heap.size]? =some (.cells (du mb bb x) 74 (0,0))):=hZ (heap_alloc_new w _);have BN:=hZ ((h.below b0).drew.born hn (x:=x) (um.below b0).drew (ub.below b0 ub.lt).drew am ab mn lm lb);have B0:=hZ b0;have H:=hZ (aK h hI);have RG:Hid ((w.alloc (.cells (du mb bb x) 74)).rangeAt w.heap.size 0 (du mb bb x).toList):=hZ (fun j hj=>by
  rw[Nat.zero_add,au N0.out];simp)
 have TH:Hid ((w.alloc (.cells (du mb bb x) 74)).there kb (n*12) (du mb bb x).size):=hZ (by rw[dh,<-hkb];exact(h.below b0).there hn);have SZ:Hid ((Tryz.prog.info? 74).map (·.size)=some (du mb bb x).size):=hZ (by rw[dh];kernel_rfl);have SL:Hid ((Tryz.prog.info? 74).map (·.size)=some (du mb bb x).toList.length):=hZ (by rw[aB,dh];kernel_rfl);have H1:Hid ((du mb bb x).all (·.oneCell')=true):=hZ (qg mb bb x);have GR:Hid ((du mb bb x)[2]? =some (.int .i64 x.bP)):=hZ (by rw[kW mb bb x 2 (by omega)];rfl);obtain⟨PA,hPA⟩:=nJ (du mb bb x);rw[hPA]at N0 BN B0 RG TH SZ SL H1 GR|-;rw[hkb]at BN|-;clear h hI um ub am ab mn lm lb b0 hkb hPA;go_in
 go_upto_region 1 with(refine As rfl _ PA rfl rfl ?_)
 refine wp_region_still_tail 6 (by kernel_rfl) (by kernel_rfl) ?_;simp only[List.take_succ_cons,List.take_zero,List.drop_succ_cons,List.drop_zero]
 iterate 2 still_step
 refine uW rfl 74 _ rfl w.heap.size 0 rfl PA.toList _ RG.out Tryz.underlying74 rfl SL.out ?_;rw[Array.toArray_toList]
 iterate 3 still_step
 refine wpStill_nil ?_;go_upto_region 2 with(refine wpList_store_mid rfl 74 _ _ rfl kb (n*12) PA rfl rfl TH.out SZ.out H1.out ?_)
 have KL:Hid (∀i,us s i->s.A i<w.heap.size):=hZ (fun i hi=>H.out.1.lt hi);have FIN0:Hid (ak ((w.alloc (.cells PA 74)).drew.setCells kb (n*12) PA.toList) base (Kn.dk s n mb bb x)/\dq (KB s) w ((w.alloc (.cells PA 74)).drew.setCells kb (n*12) PA.toList)/\((w.alloc (.cells PA 74)).drew.setCells kb (n*12) PA.toList).cell? ⟨w.heap.size,2,none⟩=some (.int .i64 x.bP)/\w.heap.size<((w.alloc (.cells PA 74)).drew.setCells kb (n*12) PA.toList).heap.size):=hZ (by
  have ls:w.heap.size<(w.alloc (.cells PA 74)).heap.size:=by simp
  refine⟨BN.out.1,(dq.bB B0.out).drew.trans (dq.kR BN.out.2 (by rw[<-HK.out];exact⟨0,az (by omega),rfl⟩)),?_,aD ls BN.out.2.size⟩;rw[aV (BN.out.2.block w.heap.size ls (by have:=KL.out 0 (az (by omega));rw[HK.out]at this;omega))];show(w.alloc (.cells PA 74)).cell? ⟨w.heap.size,2,none⟩=_;rw[au N0.out];exact GR.out)
 refine bw (fun W=>ak W base (Kn.dk s n mb bb x)/\dq (KB s) w W/\W.cell? ⟨w.heap.size,2,none⟩=some (.int .i64 x.bP)/\w.heap.size<W.heap.size) FIN0.out ?_;intro W1 hW1;have S1:=hZ hW1;clear hW1 FIN0 BN N0 RG TH SZ SL H1 GR B0;obtain⟨bx,hbx⟩:=nJ (w.heap.size);rw[hbx]at S1 KL|-;obtain⟨gz,hgz⟩:=nJ (x.bP);have HGZ:=hZ hgz;have A0:Hid ((Kn.dk s n mb bb x).A 0=kb/\(Kn.dk s n mb bb x).A 1=s.A 1/\(Kn.dk s n mb bb x).A 3=s.A 3):=hZ ⟨(Kn.dN _ _ _ _ _ (by omega) (by omega)).trans HK.out,Kn.dN _ _ _ _ _ (by omega) (by omega),Kn.dN _ _ _ _ _ (by omega) (by omega)⟩;obtain⟨p1,hp1⟩:=nJ (s.A 1);obtain⟨p3,hp3⟩:=nJ (s.A 3);have HP:Hid (s.A 1=p1/\s.A 3=p3/\p1≠bx/\p3≠bx):=hZ ⟨hp1,hp3,by have:=KL.out 1 (az (by omega));omega,by have:=KL.out 3 (az (by omega));omega⟩;rw[hp1,hp3]at A0;have c6:=S1.out.1.uw;rw[A0.out.1,A0.out.2.1]at c6;have EN:=hZ (G0 p1 z (n:Int) s.k.sp d W1 (by have q:=S1.out.1.sp;rw[A0.out.2.1]at q;exact q) H.out.2);clear hp1 hp3 hbx hgz;go_wp2_with fail
 refine EN.out.mono ?_;rintro e w5 ⟨rfl,t5,f5⟩;generalize (Value.tuple #[.int .i64 (Sp.rY s.k.sp z (n:Int):Int),aq (Sp.kO s.k.sp z (n:Int))])=ev2;have S2:Hid (ak w5 base {Kn.dk s n mb bb x with k:={s.k.put n x with sp:=Sp.dM s.k.sp z (n:Int)}}/\dq (KB s) w w5/\w5.cell? ⟨bx,2,none⟩=some (.int .i64 x.bP)/\bx<w5.heap.size):=hZ (by
  have q:=S1.out.1.xh (by rw[A0.out.2.1];exact t5) (by rw[A0.out.2.1];exact f5);refine⟨q.1,S1.out.2.1.trans (dq.kR f5 (by rw[<-HP.out.1];exact⟨1,az (by omega),rfl⟩)),?_,aD S1.out.2.2.2 f5.size⟩;rw[aV (f5.block bx S1.out.2.2.2 (bQ HP.out.2.2.1))];exact S1.out.2.2.1)
 clear t5 f5 c6 S1;go_upto_region 3 with fail
 have KC:Hid (∀W k,ak W base {Kn.dk s n mb bb x with k:=k}->W.cell? ⟨bx,2,none⟩=some (.int .i64 x.bP)->W.cell? ⟨kb,248,none⟩=some (.pointer (some ⟨p3,0,none⟩))/\W.cell? ⟨bx,2,none⟩=some (.int .i64 gz)):=hZ (fun W k hW e=>by
  have a:=hW.LM;rw[show({Kn.dk s n mb bb x with k:=k}:St).A 0=kb from A0.out.1,show({Kn.dk s n mb bb x with k:=k}:St).A 3=p3 from A0.out.2.2]at a;rw[HGZ.out]at e;exact⟨a,e⟩)
 have K0:=hZ (KC.out w5 _ S2.out.1 S2.out.2.2.1);have AT:=hZ (Wf.BY p3 s.k.sc w5.drew (n:Int) gz 100 (by have q:=S2.out.1.drew.sc;rw[show({Kn.dk s n mb bb x with k:={s.k.put n x with sp:=Sp.dM s.k.sp z (n:Int)}}:St).A 3=p3 from A0.out.2.2]at q;exact q) ⟨by omega,by omega⟩);obtain⟨y1,y2⟩:=K0.out;go_region_held3 (fun w'=>w'.cell? ⟨kb,248,none⟩=some (.pointer (some ⟨p3,0,none⟩))/\w'.cell? ⟨bx,2,none⟩=some (.int .i64 gz)) (first|exact K0.out|exact K4.out) (
  (go_at_call 143;refine AT.out.mono ?_;rintro e w6 ⟨⟨E6,rfl⟩,t6,f6⟩;have S4:Hid (ak w6 base {Kn.dk s n mb bb x with k:={s.k.put n x with sp:=Sp.dM s.k.sp z (n:Int),sc:=Wf.dm s.k.sc (n:Int) gz}}/\dq (KB s) w w6/\w6.cell? ⟨bx,2,none⟩=some (.int .i64 x.bP)/\bx<w6.heap.size):=hZ (by
   have q:=S2.out.1.drew.nX (by rw[show({Kn.dk s n mb bb x with k:={s.k.put n x with sp:=Sp.dM s.k.sp z (n:Int)}}:St).A 3=p3 from A0.out.2.2];exact t6) (by rw[show({Kn.dk s n mb bb x with k:={s.k.put n x with sp:=Sp.dM s.k.sp z (n:Int)}}:St).A 3=p3 from A0.out.2.2];exact f6);refine⟨q.1,S2.out.2.1.drew.trans (dq.kR f6 (by rw[<-HP.out.2.1];exact⟨3,az (by omega),rfl⟩)),?_,aD S2.out.2.2.2 f6.size⟩;rw[aV (f6.block bx S2.out.2.2.2 (bQ HP.out.2.2.2))];exact S2.out.2.2.1);have K4:=hZ (KC.out w6 _ S4.out.1 S4.out.2.2.1);clear t6 f6))
 clear y1 y2 K0 AT S2;generalize aq E6=ev3;have c8:=(KC.out w6 _ S4.out.1 S4.out.2.2.1).1;have WK:=hZ (Wf.Bs p3 (Wf.dm s.k.sc (n:Int) gz) w6 (n:Int) true (by have q:=S4.out.1.sc;rw[show({Kn.dk s n mb bb x with k:={s.k.put n x with sp:=Sp.dM s.k.sp z (n:Int),sc:=Wf.dm s.k.sc (n:Int) gz}}:St).A 3=p3 from A0.out.2.2]at q;exact q));go_wp2_with fail
 refine WK.out.mono ?_;rintro e w7 ⟨⟨E7,rfl⟩,t7,f7⟩;obtain⟨m',wk⟩: ∃m',Wf.im (Wf.dm s.k.sc (n:Int) gz) (n:Int) true m':=⟨_,rfl⟩;rw[<-wk]at t7;generalize aq E7=ev4;have S5:Hid (Wf.im (Wf.dm s.k.sc (n:Int) x.bP) (n:Int) true m'/\ak w7 base {Kn.dk s n mb bb x with k:=Kn.gJ s.k n x z m'}/\dq (KB s) w w7):=hZ (by
  have q:=S4.out.1.nX (by rw[show({Kn.dk s n mb bb x with k:={s.k.put n x with sp:=Sp.dM s.k.sp z (n:Int),sc:=Wf.dm s.k.sc (n:Int) gz}}:St).A 3=p3 from A0.out.2.2];exact t7) (by rw[show({Kn.dk s n mb bb x with k:={s.k.put n x with sp:=Sp.dM s.k.sp z (n:Int),sc:=Wf.dm s.k.sc (n:Int) gz}}:St).A 3=p3 from A0.out.2.2];exact f7);exact⟨by rw[HGZ.out];exact wk,q.1,S4.out.2.1.trans (dq.kR f7 (by rw[<-HP.out.2.1];exact⟨3,az (by omega),rfl⟩))⟩)
 clear wk t7 f7 c8;go_wp2_with fail
 go_end0
 exact⟨m',rfl,S5.out⟩
end
structure Kn.LI (N:Nat)(d:Nat->Nat)(k:Kp)(n z q:Nat):Prop where
 vi:VI (fun _=>False) N d k
 fi: ∀m,m<20->m≠n->Kn.lv k m=true->Kn.hd k m≠m->Sg.dO (k.p m).box 0 0
 hn:n<20
 lv:Kn.lv k n=true
 ho:k.sp.of n=z+1
 pr:n≠0->q<20/\q≠n/\(k.p n).par=(q:Int)
theorem Kn.LI.has {N:Nat}{d:Nat->Nat}{k:Kp}{n z q:Nat}(h:Kn.LI N d k n z q):(k.p n).has=true:=h.vi.kj.lv n h.hn (fun x=>x) (by have:=h.lv;unfold Kn.lv at this;simpa using this)
def Kn.tH (k:Kp)(n z q:Nat)(k':Kp):Prop:= ∃m,Sg.dO (k.p n).box 0 m/\((m=0/\k'=k)\/(m≠0/\Kn.j7 k n (128+(m:Int)) z q k'))
def Kn.mQ (k:Kp)(n z q:Nat)(k':Kp):Prop:=(Kn.hd k n=n/\k'=k)\/(Kn.hd k n≠n/\Kn.tH k n z q k')
section
variable (base N : Nat) (d : Nat -> Nat) (s : St) (w : bD)
theorem yv (hN:N<=900)(n z q:Nat)(n0:n≠0)(h:ak w base s)(hi:Kn.LI N d s.k n z q):
  Calls Tryz.prog 99 #[.pointer (some ⟨s.A 0,0,none⟩), .int .i64 n] w fun e w'=> ∃k',e= .returned (.tuple #[])/\Kn.tH s.k n z q k'/\ak w' base {s with k:=k'}/\KF s w {s with k:=k'} w':=by
 have hn:=hi.hn;have hnI:(n:Int)<20:=by omega
 have c5:=h.qS n hn hi.has;have EN:=hZ (BQ (s.A (29+n)) (s.k.p n).box w (h.bx n hn hi.has));have H:=hZ (aK h (aK hi hN));obtain⟨kb,hkb⟩:=nJ (s.A 0);have HK:=hZ hkb;rw[hkb]at c5|-;generalize s.A (29+n)=bb at*;clear h hi hkb hN;go_in
 go_wp2_with fail
 refine EN.out.mono ?_;rintro e w1 ⟨m,rfl,hm,hb⟩;have S1:Hid (ak w1 base s/\KF s w s w1/\Sg.dO (s.k.p n).box 0 m):=hZ ⟨H.out.1.below hb,KF.below hb,hm⟩;have m8:=hm.le;clear hm hb c5;by_cases m0:m=0
 ·subst m0;rw[show Sg.lU 0=false from rfl];go_wp2_with fail
  go_end0
  exact⟨s.k,rfl,⟨0,S1.out.2.2, .inl ⟨rfl,rfl⟩⟩,S1.out.1,S1.out.2.1⟩
 ·rw[show Sg.lU m=true by unfold Sg.lU;simp;omega];have PR:=H.out.2.1.pr n0;have EE:=hZ (Am base N d H.out.2.2 s w1 n z q (128+(m:Int)) S1.out.1 H.out.2.1.vi hn n0 H.out.2.1.lv H.out.2.1.ho PR.1 PR.2.1 PR.2.2 H.out.2.1.fi);rw[HK.out]at EE;have hw:IntKind.i64.wrap (128+(m:Int))=128+(m:Int):=aN _ ⟨by omega,by omega⟩;have M0:=hZ m0;clear PR m0;go_wp2_with fail
  refine EE.out.mono ?_;rintro e w2 ⟨k',rfl,et,ka,kf⟩;have S2:Hid (Kn.tH s.k n z q k'/\ak w2 base {s with k:=k'}/\KF s w {s with k:=k'} w2):=hZ ⟨⟨m,S1.out.2.2, .inr ⟨M0.out,et⟩⟩,ka,S1.out.2.1.trans kf⟩;clear et ka kf;go_wp2_with fail
  go_end0
  exact⟨k',rfl,S2.out⟩
theorem ru (hN:N<=900)(n z q:Nat)(n0:n=0->Kn.hd s.k 0=0)(h:ak w base s)(hi:Kn.LI N d s.k n z q):
  Calls Tryz.prog 101 #[.pointer (some ⟨s.A 0,0,none⟩), .int .i64 n] w fun e w'=> ∃k',e= .returned (.tuple #[])/\Kn.mQ s.k n z q k'/\ak w' base {s with k:=k'}/\KF s w {s with k:=k'} w':=by
 obtain⟨th,hth⟩:=nJ (decide (Kn.hd s.k n=n));have IH:=hZ (mS base s w n h th hth);cases th
 ·have hd:=of_decide_eq_false hth;have LK:=hZ (yv base N d s w hN n z q (fun e=>by subst e;exact hd (n0 rfl)) h hi);have HD:=hZ hd;clear h hi hth n0 hd;generalize s.A 0=kb at*;go_in
  go_wp2_with fail
  refine IH.out.mono ?_;rintro e w1 ⟨rfl,hw⟩;subst w1;go_wp2_with fail
  refine LK.out.mono ?_;rintro e w1 ⟨k',rfl,et,ka,kf⟩;have S2:Hid (Kn.mQ s.k n z q k'/\ak w1 base {s with k:=k'}/\KF s w {s with k:=k'} w1):=hZ ⟨.inr ⟨HD.out,et⟩,ka,kf⟩;clear et ka kf;go_wp2_with fail
  go_end0
  exact⟨k',rfl,S2.out⟩
 ·have HD:=hZ (aK (of_decide_eq_true hth) h);clear h hi hth n0;generalize s.A 0=kb at*;go_in
  go_wp2_with fail
  refine IH.out.mono ?_;rintro e w1 ⟨rfl,hw⟩;subst w1;go_wp2_with fail
  go_end0
  exact⟨s.k,rfl, .inl ⟨HD.out.1,rfl⟩,HD.out.2,KF.refl _ _⟩
def Kn.zp (k:Kp)(z:Int)(m:Nat)(E:Int)(k':Kp):Prop:=(Kn.bc k z≠0/\E=Kn.bc k z/\m=0/\k'=k)\/(Kn.bc k z=0/\ ∃n j:Nat,z=n/\n<20/\Sg.dO (k.p n).box 2 j/\k'=k.put n {k.p n with box:=Sg.sL (k.p n).box j}/\m=j/\E=if j=0 then 2 else 0)
theorem Ew (z:Int)(h:ak w base s)(hl: ∀n,n<20->Kn.lv s.k n=true->(s.k.p n).has=true):
  Calls Tryz.prog 44 #[.pointer (some ⟨s.A 0,0,none⟩), .int .i64 z] w fun e w'=> ∃(m:Nat) (E:Int) (k':Kp),e= .returned (.tuple #[.int .i64 m,aq E])/\Kn.zp s.k z m E k'/\ak w' base {s with k:=k'}/\KF s w {s with k:=k'} w':=by
 have AC:=hZ (dg base s w z h);have H:=hZ h;by_cases a:Kn.bc s.k z=0
 ·obtain⟨n,rfl,hn,hlv⟩:=Kn.fv a;have hh:=hl n hn hlv;have c5:=h.qS n hn hh;have TK:=hZ (Ki (s.A (29+n)) (s.k.p n).box w (h.bx n hn hh));have HA:=hZ (aK a hh);rw[a,aa,gN]at AC;obtain⟨kb,hkb⟩:=nJ (s.A 0);obtain⟨bb,hbb⟩:=nJ (s.A (29+n));have HB:=hZ hbb;rw[hkb]at AC c5|-;rw[hbb]at c5 TK;clear h hl hlv a hh hkb hbb;go_in
  go_wp2_with fail
  refine AC.out.mono ?_;rintro e w1 ⟨rfl,hw⟩;subst w1;go_wp2_with fail
  refine TK.out.mono ?_;rintro e w1 ⟨j,rfl,hj,u1,f1⟩;have S1:Hid (Sg.dO (s.k.p n).box 2 j/\ak w1 base {s with k:=s.k.put n {s.k.p n with box:=Sg.sL (s.k.p n).box j}}/\KF s w {s with k:=s.k.put n {s.k.p n with box:=Sg.sL (s.k.p n).box j}} w1):=hZ (by
   rw[<-HB.out]at u1 f1;exact⟨hj,H.out.tE hn HA.out.2 u1 f1⟩)
  clear u1 f1 hj c5;by_cases j0:j=0
  ·subst j0;rw[show Sg.lU 0=false from rfl];go_wp2
   go_ret2
   exact⟨0,2,_,rfl, .inr ⟨HA.out.1,n,0,rfl,hn,S1.out.1,rfl,rfl,rfl⟩,S1.out.2⟩
  ·rw[show Sg.lU j=true by unfold Sg.lU;simp;omega];have J0:=hZ j0;clear j0;go_wp2
   go_ret2
   exact⟨j,0,_,by rw[aa];rfl, .inr ⟨HA.out.1,n,j,rfl,hn,S1.out.1,rfl,rfl,by rw[aI J0.out]⟩,S1.out.2⟩
 ·have FIN:Hid (Kn.zp s.k z 0 (Kn.bc s.k z) s.k):=hZ (.inl ⟨a,rfl,rfl,rfl⟩);have HE:=hZ (aj a);rw[aj a]at AC;clear h hl a;generalize fP (s.A 0) z (Kn.bc s.k z)=ap at*;generalize s.A 0=kb at*;go_in
  go_wp2_with fail
  refine AC.out.mono ?_;rintro e w1 ⟨rfl,hw⟩;subst w1;go_wp2
  go_ret2
  exact⟨0,Kn.bc s.k z,s.k,by rw[HE.out];rfl,FIN.out,H.out,KF.refl _ _⟩

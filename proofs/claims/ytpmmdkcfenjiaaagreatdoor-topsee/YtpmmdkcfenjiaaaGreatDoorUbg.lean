import Derived.Test.YtpmmdkcfenjiaaaGreatDoorUbe
set_option maxRecDepth 100000
set_option maxHeartbeats 2000000
set_option linter.unusedVariables false
set_option linter.unusedSimpArgs false
namespace Go.Proofs.YtpmmdkcfenjiaaaGreatDoor
open Value renaming int->aa,pointer->ai,slice->aj,tuple->ao
open IntKind renaming i64->az
open Ending renaming returned->bf
open Option renaming some->bh,none->bj
open Tryz (prog)
open Go.RowKit
open Tr (Fo Nd)
open Mv (Me Bk)
open Kn (Pr Kp St us KB KJ VI EI KH)
def Kn.lZ(k:Kp)(z:Nat)(L:List Nat):List Nat:=L.map λm:Nat=>Sp.gQ k.sp (m:Int) (z:Int)
section
variable (UE N:Nat)(d:Nat->Nat)(s:St)(w:bD)
theorem zS(z:Int)(h:bH w UE s)(h0:∀n,n<6->s.k.sp.bR n 0=0):
  Calls prog 25 #[ai (bh ⟨s.A 0,0,bj⟩),aa az z] w λe w'=>∃v w0 L,e=bf (ao #[v,bG (Kn.bT s.k z)])/\(Kn.bT s.k z=0->L=Kn.lZ s.k (Sp.dc s.k.sp z) (dL s.k.sp (Sp.dc s.k.sp z:Nat)))/\Below w.heap.size w w0/\LO w0 L v w':=by
 obtain⟨i0,hi,hz0,hz1,hz2⟩:=info_parts xM;have AC:=hJ (dv UE s w z h);by_cases A:Kn.bT s.k z=0
 .have SP:=hJ (fL UE s w z h);have MM:=hJ (mR UE s w (Sp.dc s.k.sp z:Nat) h);have HL:Hid ((dL s.k.sp (Sp.dc s.k.sp z:Nat)).length<=21):=hJ (Kn.sG _ _);rw[A,bB]at AC;generalize Sp.dc s.k.sp z=y at*;generalize dL s.k.sp (y:Int)=L at*;have H:=hJ (aK h h0);obtain⟨kb,hkb⟩:=hU (s.A 0);have HK:=hJ hkb;rw[A,bB];rw[hkb]at AC SP MM|-;generalize fJ kb z 0=ap at*;go_in
  go_wp2_with fail
  refine cr AC.v ?_;go_wp2_with fail
  refine cr SP.v ?_;go_wp2_with fail
  refine MM.mono ?_;rintro e w1 ⟨v1,rfl,hL⟩;obtain⟨a1,c1,hv1⟩:=fG hL.own;obtain⟨NN,hNN⟩:=hU (L.length);have HN:=hJ hNN;have hN21:NN<=21:=by rw[<-hNN];exact HL.v
  have LL:=hJ hL;have KW:=hJ (H.1.below hL.cM);rw[hNN]at hv1;have HV1:=hJ hv1;rw[hv1];go_wp2_with fail
  go_loopw [9,11,28] (λl _ i wr=>∃(k:Nat),i=aa az k/\k<=NN/\Hid (LO w1 (Kn.lZ s.k y (L.take k)) l wr)) (λ_ _ i _=>NN-(intOf i).toNat)
  case atStart=>exact⟨0,rfl,bu,LO.nil w1⟩
  case round=>
   obtain⟨k,rfl,hk,R⟩:=hrel;by_cases hlt:k<NN
   .have hltI:(k:Int)<NN:=bu
    have hkL:k<L.length:=by rw[HN.v];exact hlt
    obtain⟨m,hm⟩:∃m,L[k]? =bh m:=⟨_,aW hkL⟩;obtain⟨gg,cap,hv,hg,hc⟩:=LL.cells bu;rw[HV1.v]at hv;cases hv;have cm:wr.cell? ⟨gg,k,bj⟩=bh (aa az (m:Int)):=by
     have q:=hc k hkL;rw[show 0+k=k by omega]at q;rw[R.cM.cell (p:=⟨gg,k,bj⟩) hg,q];simp[aF,hm]
    have PI:=hJ (pR UE s wr (m:Int) (y:Int) (KW.below R.cM) H.2);rw[HK.v]at PI;have HM:Hid (Kn.lZ s.k y (L.take (k+1))=Kn.lZ s.k y (L.take k)++[Sp.gQ s.k.sp (m:Int) (y:Int)]):=hJ (by
     unfold Kn.lZ;rw[List.take_add_one,hm,List.map_append];rfl)
    obtain⟨a,cap,hv⟩:=fG R.own;rw[hv];have HV:=hJ hv;have hlm:(Kn.lZ s.k y (L.take k)).length<=k:=by unfold Kn.lZ;rw[List.length_map,List.length_take];omega
    generalize hN:(Kn.lZ s.k y (L.take k)).length=N at*;have HNN:=hJ hN;generalize Sp.gQ s.k.sp (m:Int) (y:Int)=pp at*;go_wp2_with fail
    refine cr PI.v ?_;go_wp2_with (at_builtin;refine wpList_append_lies _ rfl _ _ 46 (by rfl) w1.heap.size 3 i0 (aa .i64 0) 1 8 Tryz.underlying46 hi hz0 hz1 hz2 rfl bA (aj a N cap) N (rowOf (Kn.lZ s.k y (L.take k))) (by rfl) (by rw[<-HV.v,<-HNN.v];exact R.own.alloc _) ⟨wr.heap.size,0,bj⟩ 1 1 [aa az pp] (by rfl) rfl (cell_one_new _ _ _) (by simp[Value.oneCell']) bA (by unfold maxLen;omega) bu (by have:=R.cM.size;simp;omega) (wr.heap.size+1) (by simp) ?_;intro gg2 cap2 w2 hown hgrow hat hlt2;have Q1:Hid (LO w1 (Kn.lZ s.k y (L.take k)++[pp]) (aj (bh ⟨gg2,0,bj⟩) (N+1) cap2) w2):=R.more HNN.v hown _ (by rw[HV.v];exact hgrow))
    go_roundw
    case rel=>exact⟨k+1,by go_num,bu,by rw[HM.v];exact Q1⟩
    case measure=>simp[intOf];omega
   .obtain rfl:k=NN:=bu
    go_wp2
    go_ret2
    exact⟨_,w1,Kn.lZ s.k y L,rfl,λ_=>rfl,LL.cM,by have q:=R.v;rw[<-HN.v,List.take_length]at q;exact q⟩
 .have A':=hJ A;have E1:=hJ (bC A);rw[bC A]at AC;rw[bC A];generalize fJ (s.A 0) z (Kn.bT s.k z)=ap at*;generalize Kn.bT s.k z=ae at*;generalize s.A 0=kb at*;go_in
  go_wp2_with fail
  refine cr AC.v ?_;go_wp2
  go_ret2
  exact⟨_,w,[],rfl,λe=>aZ e A'.v,aQ _ _,LO.nil w⟩
end
namespace Sp
variable {t:T}{d:Nat->Nat}{z m y:Nat}
theorem Inv.num(h:Inv t d)(hz:z<6)(zh:t.here z=true)(hm:m<20)(k:mem t z m):∃p,1<=p/\p<=20/\t.bR z p=m+1/\gQ t (m:Int) (z:Int)=p:=by
 obtain⟨p,p21,pw⟩:=k;have p0:p≠0:=λe=>by rw[e,h.ma z hz]at pw;omega
 have pe:gC t z m=p:=by
  unfold gC;rw[u7 (i:=p) p21 (by unfold rA;exact aO pw) (λj hj=>by
   unfold rA;apply aT;intro e;have:=h.one z j p hz bu p21 (by rw[e,pw]) bu;omega)]
  rfl
 refine⟨p,bu,bu,pw,?_⟩;unfold gQ sK ic;rw[gw hz zh,aJ rfl,oE hm,aJ rfl,hZ,hZ,pe,aI p0,aJ rfl]
theorem Lx{p:Nat}(hz:z<6)(zh:t.here z=true)(p1:1<=p)(p2:p<=20)(w:t.bR z p=m+1):fZ t (z:Int) (p:Int)=0/\eH t (z:Int) (p:Int)=m:=by
 have e:fZ t (z:Int) (p:Int)=0:=by
  unfold fZ;rw[gw hz zh,aJ rfl,hZ,hZ,nJ]
 refine⟨e,?_⟩;unfold eH;rw[e,aJ rfl,hZ,hZ,w];omega
theorem MX(hz:z<6)(zh:t.here z=true)(k:¬mem t z m)(hm:m<20):gQ t (m:Int) (z:Int)=0:=by
 have pe:gC t z m=0:=by
  unfold gC;rw[List.find?_eq_none.2 (λp hp=>by
   unfold rA;simp only[decide_eq_true_eq];exact λe=>k ⟨p,by simpa using hp,e⟩)]
  rfl
 unfold gQ sK ic;rw[gw hz zh,aJ rfl,oE hm,aJ rfl,hZ,hZ,pe,aJ rfl];rfl
theorem Inv.nd(h:Inv t d)(hz:z<6):(dX t z).Nodup:=by
 unfold dX;rw[List.nodup_iff_pairwise_ne,List.pairwise_map];refine List.Pairwise.imp_of_mem ?_ ((List.nodup_iff_pairwise_ne.1 List.nodup_range).filter _);intro a b ha hb hab e;simp only[bX,List.mem_range,iL,decide_eq_true_eq]at ha hb;exact hab (h.one z a b hz ha.1 hb.1 bu ha.2)
theorem Inv.eq(h:Inv t d){x:Nat}(hm:m<20)(hx:x<20)(om:t.of m=z+1)(ox:t.of x=y+1)(a:mem t z x)(b:mem t y m):z=y:=by
 obtain⟨_,z6,zh⟩:=h.cO hm om;obtain⟨_,y6,yh⟩:=h.cO hx ox;have a':=(h.mem_of z6 hx a).2;have b':=(h.mem_of y6 hm b).2;rw[ox,show y+1-1=y by omega]at a';rw[om,show z+1-1=z by omega]at b';have d1:=(h.tree.mem z6 zh y b').2.2;rw[h.tree.step y6 yh]at a';rcases List.mem_cons.1 a' with e|e
 .exact e
 .exfalso;rcases h.tree.gx y6 yh with⟨_,q,_⟩|⟨q,q6,q1,qh,qd⟩
  .rw[q,nV t _ bu]at e;cases e
  .rw[q1]at e;have:=(h.tree.mem q6 qh z e).2.2;omega
end Sp
namespace Kn
section
variable {N:Nat}{d:Nat->Nat}{k:Kp}{n z:Nat}
theorem og(hn:n<20)(l:lv k n=true):bT k (n:Int)=0:=by
 unfold bT;rw[nJ,hZ,l];rfl
theorem KH.sp(h:KH N d k)(hn:n<20)(l:lv k n=true):∃z,k.sp.of n=z+1/\z<6/\k.sp.here z=true/\Sp.dc k.sp (n:Int)=z:=by
 obtain⟨z,o⟩:=h.of hn (by rw[eP.1 l];omega);obtain⟨_,z6,zh⟩:=h.ki.vi.iv.cO hn o;exact⟨z,o,z6,zh,Sp.gM hn o⟩
theorem KH.Nb(h:KH N d k)(hn:n<20)(l:lv k n=true)(o:k.sp.of n=z+1){m:Nat}(hm:m<20)(mm:Sp.mem k.sp z m):∃p,1<=p/\p<=20/\Sp.gQ k.sp (m:Int) (z:Int)=p/\eN k (n:Int) (p:Int)=(if lv k m=true then 0 else 8)/\(lv k m=true->iC k (n:Int) (p:Int)=m):=by
 obtain⟨_,z6,zh⟩:=h.ki.vi.iv.cO hn o;obtain⟨p,p1,p2,pw,pe⟩:=h.ki.vi.iv.num z6 zh hm mm;obtain⟨f1,f2⟩:=Sp.Lx z6 zh p1 p2 pw;have e:eN k (n:Int) (p:Int)=(if lv k m=true then 0 else 8):=by
  unfold eN;rw[og hn l,aJ rfl,Sp.gM hn o,f1,aJ rfl,f2]
 refine⟨p,p1,p2,pe,e,λlm=>?_⟩;unfold iC;rw[e,aJ lm,aJ rfl,Sp.gM hn o,f2]
theorem KH.self(h:KH N d k)(hn:n<20)(l:lv k n=true):sP k (n:Int)<=20/\eN k (n:Int) (sP k (n:Int):Int)=0/\iC k (n:Int) (sP k (n:Int):Int)=n:=by
 obtain⟨z,o,z6,zh,iz⟩:=h.sp hn l;obtain⟨p,_,p2,pe,se,sn⟩:=h.Nb hn l o hn (h.ki.vi.iv.cO hn o).1;have e:sP k (n:Int)=p:=by unfold sP;rw[og hn l,aJ rfl,iz];exact pe
 rw[e,se,aJ l];exact⟨p2,rfl,sn l⟩
theorem KH.par(h:KH N d k)(hn:n<20)(l:lv k n=true):pZ k (n:Int)<=20/\(pZ k (n:Int)=0\/∃q,q<20/\lv k q=true/\eN k (n:Int) (pZ k (n:Int):Int)=0/\iC k (n:Int) (pZ k (n:Int):Int)=q/\Sp.dc k.sp (q:Int)=Sp.dc k.sp (n:Int)):=by
 obtain⟨z,o,z6,zh,iz⟩:=h.sp hn l;have e:pZ k (n:Int)=Sp.gQ k.sp (k.p n).par (z:Int):=by unfold pZ;rw[og hn l,aJ rfl,iz,hZ]
 rw[e];by_cases n0:n=0
 .subst n0;rw[h.p0];have:Sp.gQ k.sp (-1) (z:Int)=0:=by
   unfold Sp.gQ Sp.sK Sp.ic;rw[Sp.gw z6 zh,aJ rfl];rfl
  rw[this];exact⟨by omega, .inl rfl⟩
 .obtain⟨q,a⟩:=h.pp n hn n0 (by rw[eP.1 l];omega);rw[a.pq];obtain⟨y,oy,my,_⟩:=a.oq;by_cases c:Sp.mem k.sp z q
  .obtain⟨p,_,p2,pe,se,sn⟩:=h.Nb hn l o a.fU c;rw[pe,se,aJ a.lq];refine⟨p2, .inr ⟨q,a.fU,a.lq,rfl,sn a.lq,?_⟩⟩;have:=h.ki.vi.iv.eq hn a.fU o oy c my;rw[iz,Sp.gM a.fU oy,this]
  .rw[Sp.MX z6 zh c a.fU];exact⟨by omega, .inl rfl⟩
theorem Mq{i:Nat}(hi:i<(dV k 20).length):(dV k 20).getD i 0<20/\lv k ((dV k 20).getD i 0)=true:=by
 have h:(dV k 20).getD i 0∈dV k 20:=by
  rw[aF,aW hi];exact List.getElem_mem hi
 generalize (dV k 20).getD i 0=n at*;unfold dV at h;simpa using h
end
end Kn

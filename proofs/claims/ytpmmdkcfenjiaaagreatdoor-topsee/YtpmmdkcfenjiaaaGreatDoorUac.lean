import Derived.Test.YtpmmdkcfenjiaaaGreatDoorUab
set_option maxRecDepth 100000
set_option maxHeartbeats 2000000
set_option linter.unusedVariables false
set_option linter.unusedSimpArgs false
namespace Go.Proofs.YtpmmdkcfenjiaaaGreatDoor
open Value renaming int->aa,pointer->ai,bool->ar
open IntKind renaming i64->az
open Ending renaming returned->bf
open Obj renaming cells->bg
open Option renaming some->bh,none->bj
open Tryz (prog)
open Go.RowKit
namespace Wf
def AO(m:M)(z:Int):M:=if lL m z=0 then{m with here:=fb m.here (10+z.toNat) false,rd:=false}else m
def Ig(m:M)(z:Int)(on:Bool):M:={m with rd:=on&&(decide (lL m z=0)&&m.top (10+z.toNat))}
def iY(m:M)(z:Int)(on:Bool)(m':M):Prop:=m'=Ig m z on
def Ik(m:M)(z:Int)(m':M):Prop:=m'=AO m z
def SG(m m':M):Prop:=∀n,m'.here (10+n)=true->m.here (10+n)=true
theorem SG.refl(m:M):SG m m:=λ_ h=>h
def Bc(m:M)(r:Int)(m':M):Prop:=m'={m with rd:=false}/\(r= -1/\¬(m.nq=true/\m.rd=true)\/∃n:Nat,r=n/\n<20/\m.here (10+n)=true)
theorem Rp.gone{m:M}{x x':Nat->Int}(h:Rp m x){u:Nat}(e:∀i,i<2101->i<1+u*4\/1+u*4+4<=i->i<121+u*198\/121+u*198+198<=i->x' i=x i)(e0:x' (1+u*4)≠1)(hu:u<30)(z:u<10->∀i,i<198->x' (121+u*198+i)=0):Rp {m with here:=fb m.here u false,rd:=false} x':=by
 refine⟨λv hv=>?_,λv hv a t=>?_,λq k hk=>?_,λq=>by cases q⟩
 .by_cases ev:v=u
  .subst ev;show _↔fb m.here v false v=true;rw[u6];simp[e0]
  .show _↔fb m.here u false v=true;rw[sA _ _ ev,e _ bu bu bu];exact h.here v hv
 .have a':fb m.here u false v=true:=a;by_cases ev:v=u
  .subst ev;rw[u6]at a';cases a'
  .rw[sA _ _ ev]at a';rw[e _ bu bu bu];exact h.top v hv a' t
 .by_cases ku:k=u
  .subst ku;rw[z hk 195 bu];omega
  .rw[e _ bu bu bu];exact h.nq q k hk
section
variable (b:Nat)(m:M)(w:bD)
theorem Bz(z:Int)(h:Fair w b m):Calls prog 223 #[ai (bh ⟨b,0,bj⟩),aa az z] w λe w'=>(∃E,e=bf (bG E))/\Fair w' b (AO m z)/\bE b w w':=by
 have WT:=hJ (lW b m w z h);have H:=hJ h;by_cases e:lL m z=0
 .have E:Hid (AO m z={m with here:=fb m.here (10+z.toNat) false,rd:=false}):=hJ (aJ e);rw[e,bB]at WT;obtain⟨n,rfl,hn,hh⟩:=qN e;rw[E.v,hZ];obtain⟨x,d,s,i,r⟩:=h;have SI:=hJ (aK i r);have RO:=hJ (qI b d x w n false s i hn ((r.here _ bu).2 hh));have hnI:(n:Int)<20:=bu
  have h30:(10:Int)+(n:Int)<30:=bu
  have h00:(0:Int)<=10+(n:Int):=bu
  have hwr:IntKind.i64.wrap (10+(n:Int))=10+(n:Int):=aN _ ⟨by omega,bu⟩;go_in
  go_wp2_with fail
  refine cr WT.v ?_;go_wp2_with fail
  refine RO.mono ?_;rintro e w1 ⟨rfl,x1,s1,f1,i1,k1,p1⟩;have hu:10+n<30:=bu
  have c0:=s1.bo _ (pP hu);have c1:=s1.i _ (nY hu);have c2:=s1.u _ (ie hu 2 bu);have c3:=s1.u _ (ie hu 3 bu);have c4:=s1.bo _ (rB hn);have c5:=s1.i _ (AP hn);have cf:=s1.frozen;have S1:=hJ (aK s1 (aK f1 (aK i1 (aK k1 p1))));go_wp2_with fail
  go_region
  generalize hW2:World.drew _=W2;have F2:Hid (Fair W2 b {m with here:=fb m.here (10+n) false,rd:=false}/\bE b w W2):=hJ (by
   obtain⟨s1,f1,i1,k1,p1⟩:=S1.v;have a4:=rB hn;have a5:=AP hn;have s2:=(((s1.four (10+n) hu false 0 0 0).set _ (bi false) (ar false) a4.1 (by rw[a4.2];exact FU false)).set _ 0 (aa .i64 0) a5.1 (by rw[a5.2];rfl)).drew;rw[<-hW2];have r1:=SI.2.wk k1 false (λq=>by cases q);have ee:∀j,j<2101->j<1+(10+n)*4\/1+(10+n)*4+4<=j->j<121+(10+n)*198\/121+(10+n)*198+198<=j->up (up (up (up (up (up x1 (1+(10+n)*4) (bi false)) (1+(10+n)*4+1) 0) (1+(10+n)*4+2) 0) (1+(10+n)*4+3) 0) (2101+n*2) (bi false)) (2101+n*2+1) 0 j=x1 j:=λj a1 a2 a3=>by rw[cq _ _,cq _ _,cq _ _,cq _ _,cq _ _,cq _ _]
   have e0:up (up (up (up (up (up x1 (1+(10+n)*4) (bi false)) (1+(10+n)*4+1) 0) (1+(10+n)*4+2) 0) (1+(10+n)*4+3) 0) (2101+n*2) (bi false)) (2101+n*2+1) 0 (1+(10+n)*4)≠1:=by rw[cq _ _,cq _ _,cq _ _,cq _ _,cq _ _,gU];decide
   refine⟨⟨_,d,s2,i1.drop hu bu (λk hk q=>?_) (λv hv v0 hv1 q=>?_) ee e0 (λq=>aZ q bu),r1.gone ee e0 hu (λq=>aZ q bu)⟩,((((((f1.setCell _ _).setCell _ _).setCell _ _).setCell _ _).setCell _ _).setCell _ _).drew⟩
   .have:=(p1 k hk (by rw[<-k1 _ bu];exact(i1.mem k _ hk bu q).2.2.2)).1 q;cases this
   .obtain⟨j,j1,j2,_⟩:=i1.par v hv v0 hv1;omega)
  go_wp2
  go_ret
  exact⟨⟨0,rfl⟩,F2.v⟩
 .have E:Hid (AO m z=m):=hJ (aI e);have EV:=hJ (bC e);rw[bC e]at WT;rw[E.v];go_in
  go_wp2_with fail
  refine cr WT.v ?_;go_wp2
  go_ret
  exact⟨⟨lL m z,by rw[EV.v];rfl⟩,H.v,bE.refl b w⟩
theorem Dp(z:Int)(on:Bool)(h:Fair w b m):Calls prog 118 #[ai (bh ⟨b,0,bj⟩),aa az z,ar on] w λe w'=>(∃E,e=bf (bG E))/\Fair w' b (Ig m z on)/\bE b w w':=by
 have WT:=hJ (lW b m w z h);obtain⟨x,d,s,i,r⟩:=h;have SI:=hJ (aK s (aK i r));by_cases e:lL m z=0
 .have e':=hJ e;rw[e,bB]at WT;obtain⟨n,rfl,hn,hh⟩:=qN e;have HH:=hJ hh;have RO:=hJ (qI b d x w n on s i hn ((r.here _ bu).2 hh));go_in
  go_wp2_with fail
  refine cr WT.v ?_;go_wp2_with fail
  refine RO.mono ?_;rintro e w1 ⟨rfl,x1,s1,f1,i1,k1,p1⟩;have FIN:Hid (Fair w1 b (Ig m n on)/\bE b w w1):=hJ ⟨⟨x1,d,s1,i1,SI.2.2.wk k1 _ (λq=>by
   simp only[Bool.and_eq_true]at q;have t:=SI.2.2.top (10+n) bu HH.v q.2.2;exact(i1.q 0 bu).pos (j:=10+n) bu ((p1 0 bu t).2 q.1))⟩,f1⟩
  go_wp2
  go_ret
  exact⟨⟨0,rfl⟩,FIN.v⟩
 .have EV:=hJ (aK (bC e) e);rw[bC e]at WT;go_in
  go_wp2_with fail
  refine cr WT.v ?_;go_wp2
  go_ret
  exact⟨⟨lL m z,by rw[EV.1];rfl⟩,⟨x,d,SI.1,SI.2.1,SI.2.2.wk (Wk.refl x) _ (λq=>by simp[EV.2]at q)⟩,bE.refl b w⟩
theorem Np(h:Fair w b m):Calls prog 95 #[ai (bh ⟨b,0,bj⟩)] w λe w'=>∃r m',e=bf (aa az r)/\Bc m r m'/\Fair w' b m'/\bE b w w':=by
 obtain⟨x,d,s,i,r⟩:=h;refine(R6 b d x w s i).mono ?_;rintro e w' ⟨z,rfl,hz,x',s',f',i',k'⟩;refine⟨z,_,rfl,⟨rfl,?_⟩,⟨x',d,s',i',r.wk k' false (λq=>by cases q)⟩,f'⟩;rcases hz with⟨rfl,q⟩|⟨n,rfl,hn,hh⟩
 .exact .inl ⟨rfl,λa=>q (r.nq a.1) (r.rd a.2)⟩
 .exact .inr ⟨n,rfl,hn,(r.here _ bu).1 hh⟩
def m0:M:=⟨λu=>decide (u=0),λ_=>false,true,false⟩
def zA:Array Value:=((List.range 2141).map λi=>V (K i) 0).toArray
theorem yH(i:Nat)(h:i<2141):zA[i]? =bh (V (K i) 0):=by simp[zA,h]
theorem zero_eq:Tryz.zeroCells173=zA:=by kernel_rfl
theorem rD:Calls prog 85 #[] w λe w'=>e=bf (ai (bh ⟨w.heap.size,0,bj⟩))/\Fair w' w.heap.size m0/\Below w.heap.size w w'/\w.heap.size<w'.heap.size:=by
 have Z:(w.alloc (bg Tryz.zeroCells173 173)).heap[w.heap.size]? =bh (bg zA 173 (0,0)):=by
  rw[zero_eq];exact heap_alloc_new w _
 have Z2:(w.alloc (bg ((((Tryz.zeroCells173.setIfInBounds 1 (ar true)).setIfInBounds 2 (aa az (-1))).setIfInBounds 3 (aa IntKind.u64 0)).setIfInBounds 4 (aa IntKind.u64 0)) 173)).heap[w.heap.size]? =bh (bg ((((zA.setIfInBounds 1 (ar true)).setIfInBounds 2 (aa az (-1))).setIfInBounds 3 (aa IntKind.u64 0)).setIfInBounds 4 (aa IntKind.u64 0)) 173 (0,0)):=by
  rw[zero_eq];exact heap_alloc_new w _
 have FIN:Hid (Fair (w.alloc (bg ((((Tryz.zeroCells173.setIfInBounds 1 (ar true)).setIfInBounds 2 (aa az (-1))).setIfInBounds 3 (aa IntKind.u64 0)).setIfInBounds 4 (aa IntKind.u64 0)) 173)) w.heap.size m0):=hJ (by
  have h0:SA (w.alloc (bg Tryz.zeroCells173 173)) w.heap.size (λ_=>0):=⟨⟨_,Z,by simp[zA]⟩,λi hi=>by rw[bO Z,yH i hi]⟩;have h:=h0.four 0 bu true (-1) 0 0;have e:∀i,i=0\/5<=i->up (up (up (up (λ_=>0) (1+0*4) (bi true)) (1+0*4+1) (-1)) (1+0*4+2) 0) (1+0*4+3) 0 i=0:=λi hi=>by rw[cq _ _,cq _ _,cq _ _,cq _ _]
  have e1:up (up (up (up (λ_=>0) (1+0*4) (bi true)) (1+0*4+1) (-1)) (1+0*4+2) 0) (1+0*4+3) 0 1=1:=rfl;refine Fair.same (w:=((((w.alloc (bg Tryz.zeroCells173 173)).setCell ⟨w.heap.size,1+0*4,bj⟩ (ar true)).setCell ⟨w.heap.size,1+0*4+1,bj⟩ (aa az (-1))).setCell ⟨w.heap.size,1+0*4+2,bj⟩ (aa .u64 0)).setCell ⟨w.heap.size,1+0*4+3,bj⟩ (aa .u64 0)) ⟨_,λ_=>0,h,⟨λg hg=>?_,e1,λu hu u0 p=>?_,λg j hg hj p=>?_,λg u hg hu _ p=>?_,λg hg p=>?_⟩,⟨λu hu=>?_,λu hu a t=>(by cases t),λ_ g hg=>?_,λq=>(by cases q)⟩⟩ ?_
  .exact⟨0,λ_=>0,λ_=>0,⟨e _ bu,λi hi=>e _ bu,λi hi=>e _ bu⟩,bu,λi hi=>aZ hi bu,λj hj=>⟨by omega,λq=>aZ q bu⟩⟩
  .rw[e _ bu]at p;omega
  .rw[e _ bu]at p;omega
  .rw[e _ bu]at p;omega
  .rw[e _ bu]at p;omega
  .show _↔decide (u=0)=true;by_cases u0:u=0
   .subst u0;simp[e1]
   .rw[e _ bu];simp[u0]
  .rw[e _ bu];omega
  .rw[Z2,cE (cE (cE (cE Z 1 _) 2 _) 3 _) 4 _])
 go_in
 go_wp2
 go_ret
 exact⟨rfl,FIN.v,(aQ _ _).alloc (aL _) _,by simp⟩
end
end Wf

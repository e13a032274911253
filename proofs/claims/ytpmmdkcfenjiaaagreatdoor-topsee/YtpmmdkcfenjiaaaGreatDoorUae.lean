import Derived.Test.YtpmmdkcfenjiaaaGreatDoorUac
import Derived.Test.YtpmmdkcfenjiaaaGreatDoorUad
set_option maxRecDepth 100000
set_option maxHeartbeats 2000000
set_option linter.unusedVariables false
set_option linter.unusedSimpArgs false
namespace Go.Proofs.YtpmmdkcfenjiaaaGreatDoor
open Value renaming int->aa,pointer->ai,tuple->ao,bool->ar,agg->au
open IntKind renaming i64->az,u64->bd
open Ending renaming returned->bf
open Obj renaming cells->bg
open Option renaming some->bh,none->bj
open Tryz (prog)
open Go.RowKit
theorem lY(b:Nat):∀(vs:List Value) (o:Nat) (w:bD) (k:Nat),k≠b->(w.setCells b o vs).heap[k]? =w.heap[k]?
 |[],_,_,_,_=>rfl
 |v::r,o,w,k,h=>by
  rw[World.setCells];exact(lY b r (o+1) _ k h).trans (dJ _ _ _ _ h)
theorem dY(b:Nat){T:TypeId}:∀(vs:List Value) (o:Nat) (w:bD) (C:Array Value),w.heap[b]? =bh (bg C T (0,0))->∃C',(w.setCells b o vs).heap[b]? =bh (bg C' T (0,0))/\C'.size=C.size
 |[],_,_,C,h=>⟨C,h,rfl⟩
 |v::r,o,w,C,h=>by
  rw[World.setCells];obtain⟨C',h1,h2⟩:=dY b r (o+1) _ _ (cE h o v);exact⟨C',h1,by rw[h2];simp⟩
theorem bE.setCells{b:Nat}:∀(vs:List Value) (o:Nat) {u w:bD},bE b u w->bE b u (w.setCells b o vs)
 |[],_,_,_,h=>h
 |v::r,o,u,w,h=>by rw[World.setCells];exact bE.setCells r (o+1) (h.setCell o v)
namespace Wf
def St(b:Nat)(m:M)(w:bD)(e:Ending)(w':bD):Prop:=∃E m',e=bf (bG E)/\SG m m'/\Fair w' b m'/\bE b w w'
theorem St.no{b:Nat}{m:M}{w:bD}(E:Int)(h:Fair w b m):St b m w (bf (bG E)) w:=⟨E,m,rfl,SG.refl m,h,bE.refl b w⟩
theorem Iv.quo{d:Nat->Nat}{x x':Nat->Int}{n:Nat}(h:Iv d 0 x)(hn:n<10)(hh:x (1+n*4)=1)(e:∀i,i<121+n*198+195\/121+n*198+198<=i->x' i=x i)(p:0<x' (121+n*198+195)->0<x' (121+n*198+196)):Iv d 0 x':=by
 refine⟨λk hk=>(h.q k hk).same λi h1 h2=>e i bu,(e _ bu).trans h.rt,λv hv v0 hv1=>?_,λk j hk hj p=>?_,λk v hk hv hne p=>?_,λk hk q=>?_⟩
 .rw[e _ bu]at hv1;obtain⟨k,k1,k2,k3,k4,k5⟩:=h.par v hv v0 hv1;exact⟨k,k1,(e _ bu).trans k2,(e _ bu).trans k3,k4,by rw[e _ bu];exact k5⟩
 .rw[e _ bu]at p;obtain⟨m1,m2,m3,m4⟩:=h.mem k j hk hj p;exact⟨m1,m2,(e _ bu).trans m3,(e _ bu).trans m4⟩
 .rw[e _ bu]at p|-;exact h.ne k v hk hv hne p
 .by_cases kn:k=n
  .subst kn;exact⟨p q,(e _ bu).trans hh⟩
  .rw[e _ bu]at q;rw[e _ bu,e _ bu];exact h.pe k hk q
def Fw(x:Nat->Int)(i:Nat):Value:=V (K (1+i)) (x (1+i))
def vP(x:Nat->Int):Array Value:=((List.range 120).map (Fw x)).toArray
theorem sV(x:Nat->Int):(vP x).size=120:=by simp[vP]
theorem Ki(x:Nat->Int)(i:Nat)(h:i<120):(vP x)[i]? =bh (Fw x i):=by simp[vP,h]
def Oy(x:Nat->Int)(u:Nat):Array Value:=#[ar (decide (x (1+u*4)=1)),aa az (x (1+u*4+1)),aa bd (x (1+u*4+2)),aa bd (x (1+u*4+3))]
theorem DF(x:Nat->Int)(u:Nat)(h:u<30)(w:bD):Sem.run prog (Instr.index 163 (au (vP x)) (aa az u)) w= .ok (au (Oy x u)) w:=by
 have hu:prog.underlying 163=bh (.array 30 162):=by kernel_rfl
 have hx:(vP x).extract (u*4) (u*4+4)=Oy x u:=by
  apply bL;intro i;rw[Array.getElem?_extract];by_cases hi:i<4
  .rw[aJ (by rw[sV];omega),Ki x _ bu];have a:∀f,1+(u*4+f)=1+u*4+f:=λf=>bu
   match i,hi with
   |0,_=>unfold Fw;rw[a,show K (1+u*4+0)=2 from(pP h).2];rfl
   |1,_=>unfold Fw;rw[a,(nY h).2];rfl
   |2,_=>unfold Fw;rw[a,(ie h 2 bu).2];rfl
   |3,_=>unfold Fw;rw[a,(ie h 3 bu).2];rfl
  .rw[aI (by rw[sV];omega),aR (by simp[Oy];omega)]
 have h1:(u:Int)<30:=bu
 simp[Instr.index,Sem.run_bind,run_underlying hu,go_sem,hx];intro c;omega
section
variable (b:Nat)(m:M)(w:bD)
theorem Ue(z:Int)(h:Fair w b m):Calls prog 58 #[ai (bh ⟨b,0,bj⟩),aa az z] w λe w'=>(∃r,e=bf (ao #[aa az r,bG (lL m z)]))/\w'=w:=by
 have WT:=hJ (lW b m w z h);by_cases e:lL m z=0
 .have E:=hJ e;rw[e,bB]at WT;obtain⟨n,rfl,hn,hh⟩:=qN e;obtain⟨x,d,s,_⟩:=h;have c:=s.i _ (AP hn);have hnI:(n:Int)<20:=bu
  go_in
  go_wp2_with fail
  refine cr WT.v ?_;go_wp2
  go_ret2
  exact⟨⟨_,by rw[E.v];rfl⟩,rfl⟩
 .have E:=hJ (bC e);rw[bC e]at WT;go_in
  go_wp2_with fail
  refine cr WT.v ?_;go_wp2
  go_ret2
  exact⟨⟨0,by rw[E.v];rfl⟩,rfl⟩
theorem rT(z:Int)(h:Fair w b m):Calls prog 194 #[ai (bh ⟨b,0,bj⟩),aa az z] w λe w'=>∃E,e=bf (bG E)/\w'=w/\(E=0->∃n:Nat,z=n/\n≠0/\n<10/\m.here n=true):=by
 have WG:=hJ (lr b m w z h);by_cases e:lX m z=0
 .have Z:=hJ (qE e);rw[e,bB]at WG;by_cases z0:z=0
  .subst z0;go_in
   go_wp2_with fail
   refine cr WG.v ?_;go_wp2
   go_ret
   exact⟨8,rfl,rfl,λq=>aZ q bA⟩
  .have z1:(z==0)=false:=by simpa using z0
   go_in
   go_wp2_with fail
   refine cr WG.v ?_;go_wp2
   go_ret
   refine⟨0,rfl,rfl,λ_=>?_⟩;obtain⟨n,rfl,a,c⟩:=Z.v;exact⟨n,rfl,bu,a,c⟩
 .have E:=hJ (aK (bC e) e);rw[bC e]at WG;go_in
  go_wp2_with fail
  refine cr WG.v ?_;go_wp2
  go_ret
  exact⟨lX m z,by rw[E.1];rfl,rfl,λq=>aZ q E.2⟩
theorem ya{b:Nat}{m:M}{w w1 w2:bD}{x x1:Nat->Int}{d:Nat->Nat}(r:Rp m x)(nq:Bool)(k:∀i,0<i->i<121->x1 i=x i)(hq:nq=true->m.nq=true/\∀g,g<10->x1 (121+g*198+195)=x (121+g*198+195))(f:bE b w w1)(t:To b w1 (λx'=>Iv d 0 x'/\Wk x1 x'/\True) w2):∃m',SG m m'/\Fair w2 b m'/\bE b w w2:=by
 obtain⟨x2,s2,f2,i2,k2,_⟩:=t;refine⟨{m with nq:=nq,rd:=false},λ_ h=>h,⟨x2,d,s2,i2,λu hu=>?_,λu hu a c=>?_,λq g hg=>?_,λq=>by cases q⟩,f.trans f2⟩
 .rw[k2 _ bu,k _ bu bu];exact r.here u hu
 .rw[k2 _ bu,k _ bu bu];exact r.top u hu a c
 .rw[k2 _ bu,(hq q).2 g hg];exact r.nq (hq q).1 g hg
theorem Gs(z:Int)(on:Bool)(h:Fair w b m):Calls prog 119 #[ai (bh ⟨b,0,bj⟩),aa az z,ar on] w (St b m w):=by
 have WL:=hJ (rT b m w z h);have H:=hJ h;go_in
 go_wp2_with fail
 refine WL.mono ?_;rintro e w1 ⟨E,rfl,rfl,hE⟩;by_cases e0:E=0
 .subst e0;obtain⟨n,rfl,n0,hn,hh⟩:=hE rfl;obtain⟨x,d,s,i,r⟩:=H.v;have kf:=BU hn;have c1:=s.bo _ kf;have cf:=s.frozen;have hnI:(n:Int)<10:=bu
  have ST:=hJ (ph b d _ _ n (s.set _ (bi on) (ar on) kf.1 (by rw[kf.2];exact FU on)) ((i.jm (x':=up x (121+n*198+194) (bi on)) (λj hj=>cq _ _ (by unfold Kc at hj;omega))).any n) bu (by rw[cq _ _];exact(r.here n bu).2 hh));have R:=hJ r;rw[bB];go_wp2_with fail
  refine ST.mono ?_;rintro e w2 ⟨rfl,x2,s2,f2,i2,k2,_⟩;have FIN:=hJ (ya (w:=w1) (m:=m) R.v m.nq (λj a c=>cq x (i:=121+n*198+194) (bi on) bu) (λq=>⟨q,λg hg=>cq _ _⟩) ((bE.refl b w1).setCell _ _) ⟨x2,s2,f2,i2,k2,trivial⟩);go_wp2
  go_ret
  obtain⟨m',a⟩:=FIN.v;exact⟨0,m',rfl,a⟩
 .have EV:=hJ (bC e0);rw[bC e0];go_wp2
  go_ret
  exact⟨E,m,by rw[EV.v];rfl,SG.refl m,H.v,bE.refl b w1⟩
theorem JS(z q p:Int)(h:Fair w b m):Calls prog 120 #[ai (bh ⟨b,0,bj⟩),aa az z,aa az q,aa az p] w (St b m w):=by
 have WL:=hJ (rT b m w z h);have H:=hJ h;go_in
 go_wp2_with fail
 refine WL.mono ?_;rintro e w1 ⟨E,rfl,rfl,hE⟩;by_cases e0:E=0
 .subst e0;rw[bB];obtain⟨n,rfl,n0,hn,hh⟩:=hE rfl;by_cases ok:0<=q/\q<=p/\1<=p/\p<=100
  .obtain⟨x,d,s,i,r⟩:=H.v;have k1:=nZ hn 195 bu;have k2:=nZ hn 196 bu;have k3:=nZ hn 197 bu;have c1:=s.i _ k1;have c2:=s.i _ k2;have c3:=s.i _ k3;have cf:=s.frozen;have hnI:(n:Int)<10:=bu
   have d0:decide (q<0)=false:=by simp;omega
   have d1:decide (p<q)=false:=by simp;omega
   have d2:decide (p<1)=false:=by simp;omega
   have d3:¬(100:Int)<p:=bu
   have hx:=(r.here n bu).2 hh;have EE:∀j,j<121+n*198+195\/121+n*198+198<=j->up (up (up x (121+n*198+195) q) (121+n*198+196) p) (121+n*198+197) 0 j=x j:=λj hj=>by rw[cq _ _,cq _ _,cq _ _]
   have ST:=hJ (ph b d _ _ n (((s.set _ q (aa az q) k1.1 (by rw[k1.2];rfl)).set _ p (aa az p) k2.1 (by rw[k2.2];rfl)).set _ 0 (aa .i64 0) k3.1 (by rw[k3.2];rfl)) ((i.quo hn hx EE (λ_=>by rw[cq _ _,gU];omega)).any n) bu ((EE _ bu).trans hx));have R:=hJ (aK r EE);go_wp2_with fail
   refine ST.mono ?_;rintro e w2 ⟨rfl,x2,s2,f2,i2,k2,_⟩;have FIN:=hJ (ya (w:=w1) (m:=m) R.1 false (λj a c=>R.2 j bu) (λq=>by cases q) ((((bE.refl b w1).setCell _ _).setCell _ _).setCell _ _) ⟨x2,s2,f2,i2,k2,trivial⟩);go_wp2
   go_ret
   obtain⟨m',a⟩:=FIN.v;exact⟨0,m',rfl,a⟩
  .clear hE hh WL;by_cases h1:q<0
   .go_wp2
    go_ret
    exact St.no 1 H.v
   .have d1:decide (q<0)=false:=by simp;omega
    by_cases h2:p<q
    .go_wp2
     go_ret
     exact St.no 1 H.v
    .have d2:decide (p<q)=false:=by simp;omega
     by_cases h3:p<1
     .go_wp2
      go_ret
      exact St.no 1 H.v
     .have d3:decide (p<1)=false:=by simp;omega
      have h4:100<p:=bu
      go_wp2
      go_ret
      exact St.no 1 H.v
 .have EV:=hJ (bC e0);rw[bC e0];go_wp2
  go_ret
  exact⟨E,m,by rw[EV.v];rfl,SG.refl m,H.v,bE.refl b w1⟩
end
end Wf
namespace Wf
theorem ON(m:M){u:Nat}(g:Int)(hu:u<10):SG m (rY m u g):=λn h=>by
 unfold rY at h;split at h
 .have h':fb m.here u true (10+n)=true:=h;rwa [sA _ _ bu]at h'
 .exact h
theorem Qm(n:Nat):(10+(n:Int)).toNat=10+n:=bu
attribute [local go_sem] Qm
section
variable (b:Nat)(m:M)(w:bD)
theorem Be(z g wt:Int)(h:Fair w b m):Calls prog 112 #[ai (bh ⟨b,0,bj⟩),aa az z,aa az g,aa az wt] w (St b m w):=by
 have H:=hJ h;by_cases k:0<=z/\z<10
 .obtain⟨n,rfl⟩:=aG k.1;have k1:¬(10:Int)<=(n:Int):=bu
  have AD:Hid (Calls prog 187 #[ai (bh ⟨b,0,bj⟩),aa az n,aa az g,aa az wt] w (St b m w)):=hJ (by
   by_cases hw:1<=wt/\wt<=1000
   .refine(uY b m w n n g wt rfl h bu hw).mono ?_;rintro _ w1 ⟨⟨E,rfl⟩,f,r⟩;exact⟨E,_,rfl,ON m g bu,f,r⟩
   .clear h;by_cases w0:wt<1
    case' pos=>have w1:decide (wt<1)=true:=by simpa using w0
    case' neg=>
     have w1:decide (wt<1)=false:=by simpa using w0
     have w2:(1000:Int)<wt:=bu
    all_goals
     go_in
     go_wp2
     go_ret
     exact St.no 1 H.v)
  go_in
  go_wp2_with fail
  refine AD.mono ?_;rintro e w1 ⟨E,m',rfl,f1⟩;have FIN:=hJ f1;go_wp2
  go_ret
  exact⟨E,m',rfl,FIN.v⟩
 .by_cases k0:z<0
  case' pos=>have k1:decide (z<0)=true:=by simpa using k0
  case' neg=>
   have k1:decide (z<0)=false:=by simpa using k0
   have k2:10<=z:=bu
  all_goals
   go_in
   go_wp2
   go_ret
   exact St.no 1 H.v
def Uf(g:Nat)(x:Nat->Int)(w:bD)(e:Ending)(w':bD):Prop:=∃r,e=bf (ar r)/\Below w.heap.size w w'/\(r=false->∀v,v<30->x (1+v*4)=1->x (1+v*4+1)≠g)
theorem I4(g:Nat)(x:Nat->Int)(h:SA w b x):Calls prog 190 #[ai (bh ⟨b,0,bj⟩),aa az g] w (Uf g x w):=by
 have LD:Hid (∀j,j<(vP x).size->w.cell? ⟨b,1+j,bj⟩=(vP x)[j]?):=hJ (λj hj=>by rw[sV]at hj;rw[Ki x j hj,h.dQ _ bu];rfl);have hsz:Hid ((prog.info? 163).map (·.size)=bh (vP x).size):=hJ (by rw[sV];kernel_rfl);go_in
 go_wp2_with (refine iX rfl 163 _ rfl b 1 rfl (vP x) 30 162 LD.v bw hsz.v ?_)
 go_loopw [11] (λi wr=>∃(u:Nat),i=aa az u/\u<=30/\Hid (Below w.heap.size w wr/\∀v,v<u->x (1+v*4)=1->x (1+v*4+1)≠g)) (λi _=>30-(intOf i).toNat)
 case atStart=>exact⟨0,rfl,bu,aQ _ _,λj h1=>bu⟩
 case round=>
  obtain⟨u,rfl,hu30,HN⟩:=hrel;by_cases hu:u<30
  .have huI:(u:Int)<30:=bu
   have hix:=DF x u hu wr;unfold Oy at hix;have BL:Hid (∀o,Below w.heap.size w (wr.alloc o)):=hJ (λo=>HN.1.alloc HN.1.size o);have NX:Hid ((x (1+u*4)=1->x (1+u*4+1)≠g)->∀v,v<u+1->x (1+v*4)=1->x (1+v*4+1)≠g):=hJ (λc v hv=>by
    by_cases e:v=u
    .rw[e];exact c
    .exact HN.2 v bu)
   obtain⟨t,ht⟩:=hU (decide (x (1+u*4)=1));have T:=hJ ht;rw[ht]at hix;generalize hi:x (1+u*4+1)=ii at*;generalize x (1+u*4+2)=wt at*;generalize x (1+u*4+3)=tm at*;cases t
   .go_wp2
    go_roundw
    case rel=>exact⟨u+1,by go_num,bu,BL.v _,NX.v (λq=>aZ T.v (by simp[q]))⟩
    case measure=>simp[intOf];omega
   .by_cases ig:ii=(g:Int)
    .rw[ig]at hix;go_wp2
     go_ret
     exact⟨true,rfl,BL.v _,λq=>by cases q⟩
    .have ig':(ii==(g:Int))=false:=by simpa using ig
     go_wp2
     go_roundw
     case rel=>exact⟨u+1,by go_num,bu,BL.v _,NX.v (λ_=>ig)⟩
     case measure=>simp[intOf];omega
  .have huI:¬(u:Int)<30:=bu
   go_wp2
   go_ret
   exact⟨false,rfl,HN.1,λ_ v hv=>HN.2 v bu⟩
def zG:List Value:=(List.range 198).map λi=>V (K (121+i)) 0
theorem OG:Tryz.zeroCells169.toList=zG:=by kernel_rfl
theorem SA.QZ{w:bD}{b:Nat}{x:Nat->Int}(h:SA w b x)(g:Nat)(hg:g<10):SA (w.setCells b (121+g*198) zG) b (λi=>if 121+g*198<=i/\i<121+g*198+198 then 0 else x i)/\(storeCells ⟨b,121+g*198,bj⟩ zG).run prog w= .ok () (w.setCells b (121+g*198) zG):=by
 obtain⟨C,f,z⟩:=h.cU;obtain⟨C',e',z'⟩:=dY b zG (121+g*198) w C f;have len:zG.length=198:=by simp[zG]
 have is:∀j,j<198->(w.cell? ⟨b,121+g*198+j,bj⟩).isSome=true:=λj hj=>by rw[h.dQ _ bu];rfl
 refine⟨⟨⟨C',e',z'.trans z⟩,λi hi=>?_⟩,?_⟩
 .by_cases c:121+g*198<=i/\i<121+g*198+198
  .obtain⟨j,rfl⟩:∃j,i=121+g*198+j:=⟨i-(121+g*198),bu⟩;rw[aJ c,aS b zG (121+g*198) w (λi hi=>is i bu) j bu];have hj:j<198:=bu
   have e:K (121+g*198+j)=K (121+j):=by
    have e1:(121+g*198+j-121)%198=j:=bu
    have e2:(121+j-121)%198=j:=bu
    unfold K;rw[aI (show¬121+g*198+j<1 by omega),aI (show¬121+g*198+j<121 by omega),aJ (show 121+g*198+j<2101 by omega),e1,aI (show¬121+j<1 by omega),aI (show¬121+j<121 by omega),aJ (show 121+j<2101 by omega),e2]
   rw[e];simp[zG]
  .rw[aI c,aA b zG (121+g*198) w ⟨b,i,bj⟩ (λ_ _=>by show i<_\/_<=i;omega),h.dQ i hi]
 .exact run_storeCells_cells (P:=prog) b (121+g*198) zG 0 w (λj hj=>by rw[len]at hj;exact is j hj) (λj _=>h.frozen _) (λv hv=>by
   obtain⟨i,_,rfl⟩:=List.mem_map.1 hv;unfold V;split
   .rfl
   .split<;>rfl)
theorem Au(z:Int)(h:Fair w b m):Calls prog 114 #[ai (bh ⟨b,0,bj⟩),aa az z] w (St b m w):=by
 have WG:=hJ (lr b m w z h);have H:=hJ h;by_cases e:lX m z=0
 .rw[e,bB]at WG;obtain⟨g,rfl,hg,hh⟩:=qE e;obtain⟨x,d,s,i,r⟩:=h;have HO:=hJ (I4 b w g x s);have SI:=hJ (aK s (aK i (aK r hh)));by_cases g0:g=0
  .subst g0;go_in
   go_wp2_with fail
   refine cr WG.v ?_;go_wp2
   go_ret
   exact St.no 5 H.v
  .have gz:((g:Int)==0)=false:=by simp;omega
   have hgI:(g:Int)<10:=bu
   have hg30:(g:Int)<30:=bu
   go_in
   go_wp2_with fail
   refine cr WG.v ?_;go_wp2_with fail
   refine HO.mono ?_;rintro e w1 ⟨t,rfl,b1,hr⟩;have s1:=SI.1.same (b1.block b SI.1.lt);have S1:=hJ (aK (bE.cC (b:=b) b1) (aK s1 hr));cases t
   .have c0:=s1.bo _ (pP (u:=g) bu);have c1:=s1.i _ (nY (u:=g) bu);have c2:=s1.u _ (ie (u:=g) bu 2 bu);have c3:=s1.u _ (ie (u:=g) bu 3 bu);have cf:=s1.frozen;have h4:=s1.four g bu false 0 0 0;have st:=(h4.drew.QZ g hg).2;rw[<-OG]at st;have G4:=hJ (h4.drew.QZ g hg).1;go_wp2_with fail
    go_region
    generalize hW2:World.setCells _ _ _ _=W2;have F2:Hid (∃m',SG m m'/\Fair W2 b m'/\bE b w W2):=hJ (by
     obtain⟨f1,_,na⟩:=S1.v;obtain⟨s,i,r,hh⟩:=SI.v;have na:=na (by trivial);have q:=G4.v;rw[<-OG]at q;rw[<-hW2];have hx:=(r.here g bu).2 hh;have e:∀j,j<2101->j<1+g*4\/1+g*4+4<=j->j<121+g*198\/121+g*198+198<=j->(if 121+g*198<=j/\j<121+g*198+198 then 0 else up (up (up (up x (1+g*4) (bi false)) (1+g*4+1) 0) (1+g*4+2) 0) (1+g*4+3) 0 j)=x j:=λj a1 a2 a3=>by rw[nJ,cq _ _,cq _ _,cq _ _,cq _ _]
     have e0:(if 121+g*198<=1+g*4/\1+g*4<121+g*198+198 then 0 else up (up (up (up x (1+g*4) (bi false)) (1+g*4+1) 0) (1+g*4+2) 0) (1+g*4+3) 0 (1+g*4))≠(1:Int):=by rw[nJ,cq _ _,cq _ _,cq _ _,gU];decide
     have z0:g<10->∀i,i<198->(if 121+g*198<=121+g*198+i/\121+g*198+i<121+g*198+198 then 0 else up (up (up (up x (1+g*4) (bi false)) (1+g*4+1) 0) (1+g*4+2) 0) (1+g*4+3) 0 (121+g*198+i))=(0:Int):=λ_ i hi=>nK;refine⟨{m with here:=fb m.here g false,rd:=false},λn a=>?_,⟨_,d,q,i.drop bu g0 (λk hk p=>?_) (λv hv _ hv1=>na v hv hv1) e e0 z0,r.gone e e0 bu z0⟩,((((f1.setCell _ _).setCell _ _).setCell _ _).setCell _ _).drew.setCells _ _⟩
     .have a':fb m.here g false (10+n)=true:=a;rwa [sA _ _ bu]at a'
     .have many:=i.ne k g hk hg g0 p;obtain⟨mm,hp,pp,q1,q2⟩:=i.q g hg;rw[q1.m]at many;have a0:=q2.at_ 0 bu;have l0:0<x (121+g*198+65+hp 0):=by rw[q1.p _ a0.1];omega
      obtain⟨v1,v2,v3,v4⟩:=i.mem g (hp 0) hg a0.1 l0;exact na _ v1 v3 v4)
    go_wp2
    go_ret
    obtain⟨m',a⟩:=F2.v;exact⟨0,m',rfl,a⟩
   .clear s1 b1 hr HO WG;go_wp2
    go_ret
    exact⟨5,m,rfl,SG.refl m,⟨x,d,S1.2.1,SI.2.1,SI.2.2.1⟩,S1.1⟩
 .have EV:=hJ (bC e);rw[bC e]at WG;go_in
  go_wp2_with fail
  refine cr WG.v ?_;go_wp2
  go_ret
  exact⟨lX m z,m,by rw[EV.v];rfl,SG.refl m,H.v,bE.refl b w⟩
theorem Ct(z zg:Int)(h:Fair w b m):Calls prog 117 #[ai (bh ⟨b,0,bj⟩),aa az z,aa az zg] w (St b m w):=by
 have WT:=hJ (lW b m w z h);have WG:=hJ (lr b m w zg h);have H:=hJ h;by_cases e:lL m z=0
 .rw[e,bB]at WT;by_cases eg:lX m zg=0
  .rw[eg,bB]at WG;obtain⟨n,rfl,hn,hh⟩:=qN e;obtain⟨G,rfl,hG,hGh⟩:=qE eg;obtain⟨x,d,s,i,r⟩:=h;have hnI:(n:Int)<20:=bu
   have h30:(10:Int)+(n:Int)<30:=bu
   have h00:(0:Int)<=10+(n:Int):=bu
   have hwr:IntKind.i64.wrap (10+(n:Int))=10+(n:Int):=aN _ ⟨by omega,bu⟩;have hu:10+n<30:=bu
   have ca:=s.bo _ (rB hn);have hx:=(r.here (10+n) hu).2 hh;have RO:=hJ (qI b d x w n false s i hn hx);have SI:=hJ (aK i (aK r (aK hx ((r.here G bu).2 hGh))));obtain⟨aw,haw⟩:=hU (decide (x (2101+n*2)=1));rw[haw]at ca;go_in
   go_wp2_with fail
   refine cr WT.v ?_;go_wp2_with fail
   refine cr WG.v ?_;go_wp2_with fail
   refine sC RO.v ?_;rintro w1 ⟨x1,s1,f1,i1,k1,p1⟩;have cw:=s1.u _ (ie hu 2 bu);have S1:=hJ (aK s1 (aK f1 (aK i1 (aK k1 p1))));have HL:=hJ s1.lt;have WP:Hid (0<x1 (1+(10+n)*4+2)):=hJ (by
    obtain⟨_,_,_,_,_,q⟩:=i1.par (10+n) hu bu (by rw[k1 _ bu];exact SI.2.2.1);exact q)
   obtain⟨wt,hwt⟩:=hU (x1 (1+(10+n)*4+2));have HW:=hJ hwt;rw[hwt]at cw WP;go_wp2_with fail
   go_region_held3 (λw'=>w'.cell? ⟨b,1+(10+n)*4+2,bj⟩=bh (aa bd wt)) (first|go_keep|exact B3.v) ((go_at_call 193;refine sC (vM _ _ _) ?_;rintro w2 b2;have s2:SA w2 b x1:=S1.1.drew.same (b2.block b HL.v);have t0:=s2.bo _ (pP hu);have t1:=s2.i _ (nY hu);have t2:=s2.u _ (ie hu 2 bu);have t3:=s2.u _ (ie hu 3 bu);rw[HW.v]at t2;have cf:=s2.frozen;have B2:=hJ (aK s2 (S1.2.1.drew.trans (bE.cC b2)));have B3:Hid (((((w2.setCell ⟨b,1+(10+n)*4,bj⟩ (ar true)).setCell ⟨b,1+(10+n)*4+1,bj⟩ (aa az (G:Int))).setCell ⟨b,1+(10+n)*4+2,bj⟩ (aa bd wt)).setCell ⟨b,1+(10+n)*4+3,bj⟩ (aa .u64 0)).cell? ⟨b,1+(10+n)*4+2,bj⟩=bh (aa bd wt)):=hJ (by rw[(s2.four (10+n) hu true G wt 0).u _ (ie hu 2 bu),cq _ _,gU])))
   have A2:Hid (SA ((((w2.setCell ⟨b,1+(10+n)*4,bj⟩ (ar true)).setCell ⟨b,1+(10+n)*4+1,bj⟩ (aa az (G:Int))).setCell ⟨b,1+(10+n)*4+2,bj⟩ (aa bd wt)).setCell ⟨b,1+(10+n)*4+3,bj⟩ (aa .u64 0)) b (up (up (up (up x1 (1+(10+n)*4) (bi true)) (1+(10+n)*4+1) G) (1+(10+n)*4+2) wt) (1+(10+n)*4+3) 0)/\bE b w ((((w2.setCell ⟨b,1+(10+n)*4,bj⟩ (ar true)).setCell ⟨b,1+(10+n)*4+1,bj⟩ (aa az (G:Int))).setCell ⟨b,1+(10+n)*4+2,bj⟩ (aa bd wt)).setCell ⟨b,1+(10+n)*4+3,bj⟩ (aa .u64 0))):=hJ ⟨B2.1.four (10+n) hu true G wt 0,(((B2.2.setCell _ _).setCell _ _).setCell _ _).setCell _ _⟩;generalize (((w2.setCell ⟨b,1+(10+n)*4,bj⟩ (ar true)).setCell ⟨b,1+(10+n)*4+1,bj⟩ (aa az (G:Int))).setCell ⟨b,1+(10+n)*4+2,bj⟩ (aa bd wt)).setCell ⟨b,1+(10+n)*4+3,bj⟩ (aa .u64 0)=W3 at*;have E3:Hid (∀j,j<1+(10+n)*4\/1+(10+n)*4+4<=j->up (up (up (up x1 (1+(10+n)*4) (bi true)) (1+(10+n)*4+1) G) (1+(10+n)*4+2) wt) (1+(10+n)*4+3) 0 j=x1 j):=hJ (λj hj=>by rw[cq _ _,cq _ _,cq _ _,cq _ _]);have E0:Hid (up (up (up (up x1 (1+(10+n)*4) (bi true)) (1+(10+n)*4+1) G) (1+(10+n)*4+2) wt) (1+(10+n)*4+3) 0 (1+(10+n)*4)=1):=hJ (by rw[cq _ _,cq _ _,cq _ _,gU];rfl);have R2:=hJ (qI b _ _ W3 n aw A2.1 (S1.2.2.1.put hu bu (g:=G) (λk hk q=>by
     have:=(S1.2.2.2.2 k hk (by rw[<-S1.2.2.2.1 _ bu];exact(S1.2.2.1.mem k _ hk bu q).2.2.2)).1 q;simp at this) (λv hv v0 hv1 q=>by
     obtain⟨j,j1,j2,_⟩:=S1.2.2.1.par v hv v0 hv1;omega) hG bu (by rw[S1.2.2.2.1 _ bu];exact SI.2.2.2) E3.v E0.v (by rw[cq _ _,cq _ _,gU]) (by rw[cq _ _,gU];exact WP.v) (λq=>aZ q bu)) hn E0.v)
   go_wp2_with fail
   refine sC R2.v ?_;rintro w4 ⟨x4,s4,f4,i4,k4,_⟩;have FIN:Hid (∃m',SG m m'/\Fair w4 b m'/\bE b w w4):=hJ (by
    have r1:=SI.2.1.wk S1.2.2.2.1 false (λq=>by cases q);have r2:=(r1.new hu bu E3.v E0.v (g:=G) (by rw[cq _ _,cq _ _,gU])).wk k4 false (λq=>by cases q);refine⟨_,λj a=>?_,⟨x4,_,s4,i4,r2⟩,A2.2.trans f4⟩;have a':fb m.here (10+n) true (10+j)=true:=a;by_cases e:j=n
    .subst e;exact(SI.2.1.here _ hu).1 SI.2.2.1
    .rwa [sA _ _ bu]at a')
   go_wp2
   go_ret
   obtain⟨m',a⟩:=FIN.v;exact⟨0,m',rfl,a⟩
  .have EV:=hJ (bC eg);rw[bC eg]at WG;go_in
   go_wp2_with fail
   refine cr WT.v ?_;go_wp2_with fail
   refine cr WG.v ?_;go_wp2
   go_ret
   exact⟨lX m zg,m,by rw[EV.v];rfl,SG.refl m,H.v,bE.refl b w⟩
 .have EV:=hJ (bC e);rw[bC e]at WT;go_in
  go_wp2_with fail
  refine cr WT.v ?_;go_wp2
  go_ret
  exact⟨lL m z,m,by rw[EV.v];rfl,SG.refl m,H.v,bE.refl b w⟩
end
end Wf

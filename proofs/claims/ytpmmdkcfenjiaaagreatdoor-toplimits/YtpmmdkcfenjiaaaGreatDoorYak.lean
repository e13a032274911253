import Derived.Deep.Onto
import Derived.Test.YtpmmdkcfenjiaaaGreatDoorYai
set_option maxRecDepth 100000
set_option maxHeartbeats 8000000
set_option linter.unusedVariables false
set_option linter.unusedSimpArgs false
namespace Go.Proofs.YtpmmdkcfenjiaaaGreatDoor
open Value renaming int->aa,pointer->ai,slice->aj,string->ak,tuple->ao,iface->aq,agg->au,nilIface->ay
open IntKind renaming i64->az
open Ending renaming returned->bf
open Obj renaming cells->bh
open Option renaming some->bj,none->bu
open Tryz (prog)
open Go.RowKit
open Tr (Fo Nd)
variable {C:Array Value}{k:Nat}{U:TypeId}
namespace Mo
abbrev Wh:=Int×Int
abbrev Mt:=Wh×Wh
structure Tb where
 rt:Wh
 ms:List Mt
def uV(m:Mt):List Value:=[aa az m.1.1,aa az m.1.2,aa az m.2.1,aa az m.2.2]
def fQ(L:List Mt):List Value:=L.flatMap uV
theorem G0(L M:List Mt):fQ (L++M)=fQ L++fQ M:=List.flatMap_append
theorem RQ(x:Mt):fQ [x]=uV x:=by simp[fQ]
theorem mh:∀L:List Mt,(fQ L).length=L.length*4
 |[]=>rfl
 |x::L=>by
  show(uV x++fQ L).length=_;rw[List.length_append,mh L,List.length_cons];show 4+_=_;omega
theorem Lt:∀(L:List Mt) (i j:Nat) (x:Mt),L[i]? =bj x->j<4->(fQ L)[i*4+j]? =(uV x)[j]?
 |[],_,_,_,h,_=>by simp at h
 |y::L,0,j,x,h,hj=>by
  simp only[List.getElem?_cons_zero,Option.some.injEq]at h;subst h;show(uV y++fQ L)[0*4+j]? =_;rw[Nat.zero_mul,Nat.zero_add,List.getElem?_append_left (by show j<4;exact hj)]
 |y::L,i+1,j,x,h,hj=>by
  rw[List.getElem?_cons_succ]at h;show(uV y++fQ L)[(i+1)*4+j]? =_;rw[List.getElem?_append_right (by show 4<=_;omega)];show(fQ L)[(i+1)*4+j-4]? =_;rw[show(i+1)*4+j-4=i*4+j by omega];exact Lt L i j x h hj
def pZ(L:List Mt)(x:Wh)(z:Int):Prop:=(∃i:Nat,z=i/\∃m,L[i]? =bj m/\m.1=x/\∀(j:Nat) (m':Mt),j<i->L[j]? =bj m'->m'.1≠x)\/(z= -1/\∀(j:Nat) (m':Mt),L[j]? =bj m'->m'.1≠x)
def lk(L:List Mt)(x:Wh):Option Mt:=L.find? λm=>decide (m.1=x)
theorem pZ.find{L:List Mt}{x:Wh}{z:Int}(h:pZ L x z):(∃i:Nat,z=i/\i<L.length/\∃m,L[i]? =bj m/\lk L x=bj m)\/(z= -1/\lk L x=bu):=by
 rcases h with⟨i,rfl,m,h1,h2,h3⟩|⟨rfl,h1⟩
 .have hi:=(aY.1 h1).1;refine .inl ⟨i,rfl,hi,m,h1,?_⟩;unfold lk;rw[List.find?_eq_some_iff_getElem];refine⟨by simp[h2],i,hi,(aY.1 h1).2,λj hj=>?_⟩;have:=h3 j L[j] hj (aW bB);simp[this]
 .refine .inr ⟨rfl,?_⟩;unfold lk;rw[List.find?_eq_none];intro m hm;obtain⟨j,hj,e⟩:=List.getElem_of_mem hm;have:=h1 j m (by rw[aW hj,e]);simp[this]
def zl(L:List Mt):Nat->Wh->Wh
 |0,x=>x
 |k+1,x=>match lk L x with
  |none=>x
  |some m=>zl L k m.2
def sn(L:List Mt)(x:Wh):Wh:=zl L 6 x
theorem Pj{L:List Mt}{x:Wh}(h:lk L x=bu):zl L k x=x:=by
 cases k
 .rfl
 .unfold zl;rw[h]
theorem Pk{L:List Mt}{x:Wh}{m:Mt}(h:lk L x=bj m):zl L (k+1) x=zl L k m.2:=by
 conv=>lhs;unfold zl
 rw[h]
end Mo
open Mo (Wh Mt)
structure dS (S:Nat->Prop)(w w':bD):Prop where
 os:w'.os=w.os
 tape:w'.tape=w.tape
 output:w'.output=w.output
 size:w.heap.size<=w'.heap.size
 block:∀k,k<w.heap.size->¬S k->w'.heap[k]? =w.heap[k]?
section
variable {S:Nat->Prop}{u v w:bD}
theorem dS.refl(S:Nat->Prop)(w:bD):dS S w w:=⟨rfl,rfl,rfl,aL _,λ_ _ _=>rfl⟩
theorem dS.trans(h:dS S u v)(k:dS S v w):dS S u w:=
 ⟨k.os.trans h.os,k.tape.trans h.tape,k.output.trans h.output,aH h.size k.size,λj hj hn=>(k.block j (aD hj h.size) hn).trans (h.block j hj hn)⟩
theorem dS.mono{R:Nat->Prop}(h:dS S u v)(k:∀n,n<u.heap.size->S n->R n):dS R u v:=⟨h.os,h.tape,h.output,h.size,λj hj hn=>h.block j hj (λc=>hn (k j hj c))⟩
theorem dS.cL(h:Below u.heap.size u v):dS S u v:=⟨h.os,h.tape,h.output,h.size,λj hj _=>h.block j hj⟩
theorem dS.kS{b:Nat}(h:bG b u v)(hb:S b):dS S u v:=⟨h.os,h.tape,h.output,h.size,λj hj hn=>h.block j hj (λe=>hn (e▸hb))⟩
theorem dS.behind{B:Nat}{t:bD}(h:dS S u v)(k:Below B t u)(hS:∀n,S n->B<=n)(hs:B<=u.heap.size):Below B t v:=
 k.trans ⟨h.os,h.tape,h.output,h.size,λj hj=>h.block j bB (λc=>by have:=hS j c;omega)⟩
theorem dS.drew(h:dS S u v):dS S u v.drew:=⟨h.os,h.tape,h.output,h.size,h.block⟩
theorem dS.setCell(h:dS S u w){b:Nat}(hb:S b)(o:Nat)(x:Value):dS S u (w.setCell ⟨b,o,bu⟩ x):=
 ⟨h.os,h.tape,h.output,by simpa[World.setCell]using h.size,λk hk hn=>(dE _ _ _ _ (λe=>hn (by rw[e];exact hb))).trans (h.block k hk hn)⟩
end
def fF(w:bD)(Wt:Nat)(L:List Mt)(v:Value):Prop:=w.ownsRow Wt 273 4 v L.length (Mo.fQ L)
structure bT (w:bD)(Wt b f:Nat)(T:Mo.Tb)(v:Value):Prop where
 da:w.heap[b]? =bj (bh #[ai (bj ⟨f,0,bu⟩),aa az T.rt.1,aa az T.rt.2,v] 229 (0,0))
 row:fF w Wt T.ms v
 sH:T.ms.length<=6
section
variable {w w':bD}{Wt b f:Nat}{T:Mo.Tb}{v:Value}{L:List Mt}
theorem fF.form(h:fF w Wt L v):(v=aj bu 0 0/\L=[])\/∃g cap,v=aj (bj ⟨g,0,bu⟩) L.length cap/\Wt<=g/\g<w.heap.size/\L.length<=cap:=by
 rcases h.2 with⟨rfl,e⟩|⟨g,cap,cur,e,hb,hg,h1,h2,h3,h4⟩
 .exact .inl ⟨rfl,List.eq_nil_of_length_eq_zero e⟩
 .exact .inr ⟨g,cap,e,hb,(aX.1 hg).1,h1⟩
theorem fF.sl(h:fF w Wt L v):∃a c,v=aj a L.length c:=by
 rcases h.form with⟨rfl,rfl⟩|⟨g,cap,rfl,_⟩
 .exact⟨_,_,rfl⟩
 .exact⟨_,_,rfl⟩
theorem fF.cell{g n cap:Nat}(h:fF w Wt L (aj (bj ⟨g,0,bu⟩) n cap))(i j:Nat)(m:Mt)(hi:L[i]? =bj m)(hj:j<4):w.cell? ⟨g,i*4+j,bu⟩=(Mo.uV m)[j]? :=by
 have hl:=(aY.1 hi).1;rcases h.2 with⟨e,_⟩|⟨g',cap',cur,e,hb,hg,h1,h2,h3,h4⟩
 .cases e
 .cases e;rw[bR hg,<-Mo.Lt L i j m hi hj,<-h4];have hs:i*4+j<cur.size:=by rw[h3];omega
  rw[List.getElem?_take_of_lt bB,aM]
theorem fF.frozen{g n cap:Nat}(h:fF w Wt L (aj (bj ⟨g,0,bu⟩) n cap))(o:Nat):w.frozen? ⟨g,o,bu⟩=false:=by
 rcases h.2 with⟨e,_⟩|⟨g',cap',cur,e,hb,hg,_⟩
 .cases e
 .cases e;exact cE hg o
theorem fF.same(h:fF w Wt L v)(k:∀g,v.ownBlock=bj g->w'.heap[g]? =w.heap[g]?):fF w' Wt L v:=by
 refine⟨h.1,?_⟩;rcases h.2 with hn|⟨g,cap,cur,e,hb,hg,h1,h2,h3,h4⟩
 .exact .inl hn
 .exact .inr ⟨g,cap,cur,e,hb,by rw[k g (by rw[e];rfl)];exact hg,h1,h2,h3,h4⟩
theorem fF.lt(h:fF w Wt L v)(g:Nat)(e:v.ownBlock=bj g):Wt<=g/\g<w.heap.size:=by
 rcases h.2 with⟨hn,_⟩|⟨g',cap,cur,hv,hb,hg,_⟩
 .rw[hn]at e;cases e
 .rw[hv]at e;cases e;exact⟨hb,(aX.1 hg).1⟩
theorem fF.below(h:fF w Wt L v)(k:Below w.heap.size w w'):fF w' Wt L v:=h.same (λg e=>k.block g (h.lt g e).2)
theorem bT.lt(h:bT w Wt b f T v):b<w.heap.size:=(aX.1 h.da).1
theorem bT.frozen(h:bT w Wt b f T v)(o:Nat):w.frozen? ⟨b,o,bu⟩=false:=cE h.da o
theorem bT.c0(h:bT w Wt b f T v):w.cell? ⟨b,0,bu⟩=bj (ai (bj ⟨f,0,bu⟩)):=by rw[bR h.da];rfl
theorem bT.c1(h:bT w Wt b f T v):w.cell? ⟨b,1,bu⟩=bj (aa az T.rt.1):=by rw[bR h.da];rfl
theorem bT.c2(h:bT w Wt b f T v):w.cell? ⟨b,2,bu⟩=bj (aa az T.rt.2):=by rw[bR h.da];rfl
theorem bT.c3(h:bT w Wt b f T v):w.cell? ⟨b,3,bu⟩=bj v:=by rw[bR h.da];rfl
theorem bT.same(h:bT w Wt b f T v)(e:w'.heap[b]? =w.heap[b]?)(k:∀g,v.ownBlock=bj g->w'.heap[g]? =w.heap[g]?):bT w' Wt b f T v:=⟨e.trans h.da,h.row.same k,h.sH⟩
theorem bT.below(h:bT w Wt b f T v)(k:Below w.heap.size w w'):bT w' Wt b f T v:=h.same (k.block b h.lt) (λg e=>k.block g (h.row.lt g e).2)
theorem bT.drew(h:bT w Wt b f T v):bT w.drew Wt b f T v:=h.same rfl (λ_ _=>rfl)
theorem uq{w:bD}{a b:Nat}{D:Array Value}{T:TypeId}(h:w.heap[a]? =bj (bh C T (0,0)))(k:w.heap[b]? =bj (bh D U (0,0)))(n:T≠U):a≠b:=by
 intro e;subst e;rw[h]at k;cases k;exact n rfl
theorem fF.Qe{g':Nat}(h:fF w Wt L v)(k:w.heap[g']? =bj (bh C U (0,0)))(n:273≠U):∀g,v.ownBlock=bj g->g≠g':=λg e=>by
 rcases h.2 with⟨hn,_⟩|⟨g'',cap,cur,hv,hb,hg,_⟩
 .rw[hn]at e;cases e
 .rw[hv]at e;cases e;exact uq hg k n
end
theorem OZ(bx:Nat)(m:Mt)(x:Wh)(w:bD)(h0:w.cell? ⟨bx,0,bu⟩=bj (aa az x.1))(h1:w.cell? ⟨bx,1,bu⟩=bj (aa az x.2))(hb:bx<w.heap.size):
  Calls prog 286 #[au #[aa az m.1.1,aa az m.1.2,aa az m.2.1,aa az m.2.2],ai (bj ⟨bx,0,bu⟩)] w λe w'=>e=bf (.bool (decide (m.1=x)))/\Below w.heap.size w w':=by
 have hne:bx≠w.heap.size:=bB
 rcases m with⟨⟨p,q⟩,r,t⟩;rcases x with⟨y,z⟩;simp only at h0 h1;show Calls prog 286 #[au #[aa az p,aa az q,aa az r,aa az t],ai (bj ⟨bx,0,bu⟩)] w λe w'=>e=bf (.bool (decide ((p,q)=(y,z))))/\Below w.heap.size w w';by_cases e1:p=y
 .by_cases e2:q=z
  .rw[aO (by rw[e1,e2])];subst e1 e2;go_in
   go_wp2
   go_ret
   exact⟨rfl,(aQ _ _).alloc (aL _) _⟩
  .rw[aT (by simp[e2])];subst e1;have e2':(q==z)=false:=by simpa using e2
   go_in
   go_wp2
   go_ret
   exact⟨rfl,(aQ _ _).alloc (aL _) _⟩
 .rw[aT (by simp[e1])];have e1':(p==y)=false:=by simpa using e1
  go_in
  go_wp2
  go_ret
  exact⟨rfl,(aQ _ _).alloc (aL _) _⟩
theorem Je(bx Wt:Nat)(L:List Mt)(v:Value)(x:Wh)(w:bD)(h:fF w Wt L v)(h0:w.cell? ⟨bx,0,bu⟩=bj (aa az x.1))(h1:w.cell? ⟨bx,1,bu⟩=bj (aa az x.2))(h6:L.length<=6):
  Calls prog 285 #[v, .func (.func 286) #[] #[ai (bj ⟨bx,0,bu⟩)]] w λe w'=>∃z:Int,e=bf (aa az z)/\Mo.pZ L x z/\Below w.heap.size w w':=by
 have HB:=hJ (bZ _ _ h0);rcases h.form with⟨rfl,rfl⟩|⟨g,cap,rfl,hb,hg,hc⟩
 .have FIN:Hid (Mo.pZ [] x (-1)):=hJ (.inr ⟨rfl,λj m' e=>by simp at e⟩);go_in
  go_wp2_with fail
  go_loopw [5,8] (λ_ i wr=>i=aa az 0/\wr=w) (λ_ i _=>0)
  case atStart=>exact⟨rfl,rfl⟩
  case round=>
   obtain⟨rfl,hw⟩:=hrel;subst hw;go_wp2
   go_ret
   exact⟨_,rfl,FIN.v,aQ _ _⟩
 .have HR:=hJ h;have HX:=hJ (aK h0 h1);obtain⟨N,hN⟩:=hU (L.length);have HN:=hJ hN;rw[hN]at h6 HR|-;go_in
  go_wp2_with fail
  go_loopw [5,8] (λ_ i wr=>∃(j:Nat),i=aa az j/\j<=N/\Hid (Below w.heap.size w wr/\∀(y:Nat) (m':Mt),y<j->L[y]? =bj m'->m'.1≠x)) (λ_ i _=>N-(intOf i).toNat)
  case atStart=>exact⟨0,rfl,bB,aQ _ _,λy _ hy=>bB⟩
  case round=>
   obtain⟨j,rfl,hj,R⟩:=hrel;by_cases hlt:j<N
   .have hltI:(j:Int)<(N:Int):=bB
    obtain⟨m,hm⟩:∃m,L[j]? =bj m:=⟨L[j]'(by rw[HN.v];exact hlt),aW _⟩;have HM:=hJ hm;have RR:=HR.below R.1;have c0:wr.cell? ⟨g,j*4,bu⟩=bj (aa az m.1.1):=RR.cell j 0 m hm bB;have c1:wr.cell? ⟨g,j*4+1,bu⟩=bj (aa az m.1.2):=RR.cell j 1 m hm bB;have c2:wr.cell? ⟨g,j*4+2,bu⟩=bj (aa az m.2.1):=RR.cell j 2 m hm bB;have c3:wr.cell? ⟨g,j*4+3,bu⟩=bj (aa az m.2.2):=RR.cell j 3 m hm bB;go_wp2_with fail
    refine(OZ bx m x _ ((R.1.cell HB.v).trans HX.1) ((R.1.cell HB.v).trans HX.2) (aD HB.v R.1.size)).mono ?_;rintro e w1 ⟨rfl,b1⟩;have B1:=hJ (R.1.trans (b1.mono R.1.size));by_cases e:m.1=x
    .have FIN:Hid (Mo.pZ L x (j:Int)):=hJ (.inl ⟨j,rfl,m,HM.v,e,R.2⟩);rw[aO e];go_wp2
     go_ret
     exact⟨_,rfl,FIN.v,B1.v⟩
    .have NX:Hid (∀(y:Nat) (m':Mt),y<j+1->L[y]? =bj m'->m'.1≠x):=hJ (λy m' hy hm'=>by
      by_cases d:y=j
      .subst d;have:=HM.v;rw[hm']at this;cases this;exact e
      .exact R.2 y m' bB hm')
     rw[aT e];go_wp2
     go_roundw
     case rel=>exact⟨j+1,by go_num,bB,B1.v,NX.v⟩
     case measure=>simp[intOf];omega
   .have hltI:¬(j:Int)<(N:Int):=bB
    have FIN:Hid (Mo.pZ L x (-1)):=hJ (.inr ⟨rfl,λy m' hy=>R.2 y m' (by have:=(aY.1 hy).1;rw[HN.v]at this;omega) hy⟩);go_wp2
    go_ret
    exact⟨_,rfl,FIN.v,R.1⟩
theorem UH(w:bD)(x:Wh):(w.alloc (bh #[aa az x.1,aa az x.2] 224)).cell? ⟨w.heap.size,0,bu⟩=bj (aa az x.1)/\(w.alloc (bh #[aa az x.1,aa az x.2] 224)).cell? ⟨w.heap.size,1,bu⟩=bj (aa az x.2):=by
 rw[bR (heap_alloc_new w _),bR (heap_alloc_new w _)];exact⟨rfl,rfl⟩
theorem rU(Wt b f:Nat)(T:Mo.Tb)(v:Value)(x:Wh)(w:bD)(h:bT w Wt b f T v):
  Calls prog 262 #[ai (bj ⟨b,0,bu⟩),au #[aa az x.1,aa az x.2]] w λe w'=>∃z:Int,e=bf (aa az z)/\Mo.pZ T.ms x z/\Below w.heap.size w w':=by
 obtain⟨va,vc,hv⟩:=h.row.sl;have HV:=hJ hv;have bb:Below w.heap.size w (w.alloc (bh #[aa az x.1,aa az x.2] 224)):=(aQ _ _).alloc (aL _) _;have S1:=hJ (aK (h.below bb) bb);have BX:=hJ (UH w x);have c3:=h.c3;rw[hv]at c3;have hl:=h.lt;have hne:b≠w.heap.size:=bB
 go_in
 go_wp2_with fail
 rw[<-HV.v];refine(Je w.heap.size Wt T.ms v x _ S1.1.row BX.1 BX.2 S1.1.sH).mono ?_;rintro e w1 ⟨z,rfl,hz,b1⟩;have FIN:=hJ (aK hz (S1.2.trans (b1.mono S1.2.size)));go_wp2
 go_ret
 exact⟨z,rfl,FIN.v⟩
def WB(w:bD)(c:Nat)(x:Wh):Prop:=w.heap[c]? =bj (bh #[aa az x.1,aa az x.2] 224 (0,0))
section
variable {w w':bD}{c:Nat}{x:Wh}
theorem WB.c0(h:WB w c x):w.cell? ⟨c,0,bu⟩=bj (aa az x.1):=by rw[bR h];rfl
theorem WB.c1(h:WB w c x):w.cell? ⟨c,1,bu⟩=bj (aa az x.2):=by rw[bR h];rfl
theorem WB.fz(h:WB w c x)(o:Nat):w.frozen? ⟨c,o,bu⟩=false:=cE h o
theorem WB.lt(h:WB w c x):c<w.heap.size:=(aX.1 h).1
theorem WB.set(h:WB w c x)(y:Wh):WB ((w.setCell ⟨c,0,bu⟩ (aa az y.1)).setCell ⟨c,1,bu⟩ (aa az y.2)) c y/\bG c w ((w.setCell ⟨c,0,bu⟩ (aa az y.1)).setCell ⟨c,1,bu⟩ (aa az y.2)):=
 ⟨cQ (cQ h 0 _) 1 _,((bG.refl c w).setCell _ _).setCell _ _⟩
theorem WB.same(h:WB w c x)(e:w'.heap[c]? =w.heap[c]?):WB w' c x:=e.trans h
theorem WB.below(h:WB w c x)(k:Below w.heap.size w w'):WB w' c x:=h.same (k.block c h.lt)
end
theorem JZ(w:bD)(x:Wh):WB ((w.alloc (bh #[aa az x.1,aa az x.2] 224)).alloc (bh #[aa az 0,aa az 0] 224)) w.heap.size x/\WB ((w.alloc (bh #[aa az x.1,aa az x.2] 224)).alloc (bh #[aa az 0,aa az 0] 224)) (w.heap.size+1) (0,0)/\Below w.heap.size w ((w.alloc (bh #[aa az x.1,aa az x.2] 224)).alloc (bh #[aa az 0,aa az 0] 224)):=by
 refine⟨?_,?_,((aQ _ w).alloc (aL _) _).alloc (by simp) _⟩
 .show((w.heap.push _).push _)[w.heap.size]? =_;simp only[bJ,Array.size_push];rw[nJ,aJ trivial]
 .show((w.heap.push _).push _)[w.heap.size+1]? =_;simp only[bJ,Array.size_push];rw[aJ trivial]
theorem El(Wt b f:Nat)(T:Mo.Tb)(v:Value)(x:Wh)(w:bD)(h:bT w Wt b f T v):
  Calls prog 281 #[ai (bj ⟨b,0,bu⟩),au #[aa az x.1,aa az x.2]] w λe w'=>e=bf (au #[aa az (Mo.sn T.ms x).1,aa az (Mo.sn T.ms x).2])/\Below w.heap.size w w':=by
 have HT:=hJ h;have BX:=hJ (JZ w x);clear h;go_in
 go_upto_region 1 with fail
 refine cJ (λW'=>WB W' w.heap.size x/\WB W' (w.heap.size+1) (0,0)/\Below w.heap.size w W') BX.v ?_;intro W1 h1;have S1:Hid (WB W1 w.heap.size x/\WB W1 (w.heap.size+1) (0,0)/\Below w.heap.size w W1):=hJ h1;clear h1 BX;obtain⟨bx,hbx⟩:=hU (w.heap.size);have HBX:=hJ hbx;have LE:Hid (∀W,Below bx w W->bx<=W.heap.size):=hJ (λW h=>by have:=h.size;rw[hbx]at this;exact this);rw[hbx]at S1|-;clear hbx;go_wp2_with fail
 go_loopw [5,6] (λ_ i wr=>∃(k:Nat) (y:Wh),i=aa az k/\k<=6/\Hid (WB wr bx y/\WB wr (bx+1) (0,0)/\Below bx w wr/\Mo.zl T.ms (6-k) y=Mo.sn T.ms x)) (λ_ i _=>6-(intOf i).toNat)
 case atStart=>exact⟨0,x,rfl,bB,hJ ⟨S1.1,S1.2.1,S1.2.2,rfl⟩⟩
 case round=>
  clear S1;obtain⟨k,y,rfl,hk,S⟩:=hrel;have RET:Hid (∀W,WB W (bx+1) (0,0)->Below bx w W->WB ((W.setCell ⟨bx+1,0,bu⟩ (aa az y.1)).setCell ⟨bx+1,1,bu⟩ (aa az y.2)) (bx+1) y/\Below bx w ((W.setCell ⟨bx+1,0,bu⟩ (aa az y.1)).setCell ⟨bx+1,1,bu⟩ (aa az y.2))):=hJ (λW hW hb=>by
   have:=hW.set y;exact⟨this.1,this.2.below hb bB (LE.v _ hb)⟩)
  by_cases hlt:k<6
  .have hltI:(k:Int)<6:=bB
   have c0:=S.1.c0;have c1:=S.1.c1;go_wp2_with fail
   refine(rU Wt b f T v y _ (HT.below (by have:=HBX.v;subst this;exact S.2.2.1))).mono ?_;rintro e W2 ⟨z,rfl,hz,b2⟩;have S2:Hid (WB W2 bx y/\WB W2 (bx+1) (0,0)/\Below bx w W2):=hJ ⟨S.1.below b2,S.2.1.below b2,S.2.2.1.trans (b2.mono (LE.v _ S.2.2.1))⟩;clear b2 c0 c1;rcases hz.find with⟨i,rfl,il,m,hm,hl⟩|⟨rfl,hl⟩
   .have i0:¬(i:Int)<0:=bB
    have T2:=HT.below (show Below w.heap.size w W2 by rw[HBX.v];exact S2.2.2);have NX:Hid (Mo.zl T.ms (6-(k+1)) m.2=Mo.sn T.ms x):=hJ (by
     rw[<-S.2.2.2,show 6-k=(6-(k+1))+1 by omega,Mo.Pk hl])
    rcases T2.row.form with⟨_,e⟩|⟨g,cap,hv,hb,hg,hcap⟩
    .rw[e]at il;simp at il
    .have c3:=T2.c3;rw[hv]at c3;have r2:=T2.row;rw[hv]at r2;have d2:W2.cell? ⟨g,i*4+2,bu⟩=bj (aa az m.2.1):=r2.cell i 2 m hm bB;have d3:W2.cell? ⟨g,i*4+3,bu⟩=bj (aa az m.2.2):=r2.cell i 3 m hm bB;have x0:=S2.1.c0;have x1:=S2.1.c1;have xf:=S2.1.fz;have il':(i:Int)<(T.ms.length:Int):=bB
     have S3:Hid (WB ((W2.setCell ⟨bx,0,bu⟩ (aa az m.2.1)).setCell ⟨bx,1,bu⟩ (aa az m.2.2)) bx m.2/\WB ((W2.setCell ⟨bx,0,bu⟩ (aa az m.2.1)).setCell ⟨bx,1,bu⟩ (aa az m.2.2)) (bx+1) (0,0)/\Below bx w ((W2.setCell ⟨bx,0,bu⟩ (aa az m.2.1)).setCell ⟨bx,1,bu⟩ (aa az m.2.2))):=hJ (by
      have:=S2.1.set m.2;exact⟨this.1,S2.2.1.same (this.2.block _ S2.2.1.lt bB),this.2.below S2.2.2 (aL _) (LE.v _ S2.2.2)⟩)
     clear hz hl hm hb hg hcap hv r2 T2;go_wp2
     go_roundw
     case rel=>exact⟨k+1,m.2,by go_num,bB,hJ ⟨S3.1,S3.2.1,S3.2.2,NX.v⟩⟩
     case measure=>simp[intOf];omega
   .have FIN:Hid (Mo.sn T.ms x=y):=hJ (by rw[<-S.2.2.2,Mo.Pj hl]);have x0:=S2.1.c0;have x1:=S2.1.c1;have y0:=S2.2.1.c0;have y1:=S2.2.1.c1;have yf:=S2.2.1.fz;have R:=hJ (RET.v W2 S2.2.1 S2.2.2);clear hz hl RET;go_wp2_with fail
    generalize hWF:(W2.setCell ⟨bx+1,0,bu⟩ (aa az y.1)).setCell ⟨bx+1,1,bu⟩ (aa az y.2)=WF at R|-;have z0:=R.1.c0;have z1:=R.1.c1;refine bodyPost_ret (v:=au #[aa az y.1,aa az y.2]) (by simp[results,Tryz.f281,go_sem,z0,z1]) rfl ?_;rw[FIN.v,HBX.v];exact⟨rfl,R.2⟩
  .have hltI:¬(k:Int)<6:=bB
   have FIN:Hid (Mo.sn T.ms x=y):=hJ (by rw[<-S.2.2.2,show 6-k=0 by omega];rfl);have x0:=S.1.c0;have x1:=S.1.c1;have y0:=S.2.1.c0;have y1:=S.2.1.c1;have yf:=S.2.1.fz;have R:=hJ (RET.v wr S.2.1 S.2.2.1);clear RET;go_wp2_with fail
   generalize hWF:(wr.setCell ⟨bx+1,0,bu⟩ (aa az y.1)).setCell ⟨bx+1,1,bu⟩ (aa az y.2)=WF at R|-;have z0:=R.1.c0;have z1:=R.1.c1;refine bodyPost_ret (v:=au #[aa az y.1,aa az y.2]) (by simp[results,Tryz.f281,go_sem,z0,z1]) rfl ?_;rw[FIN.v,HBX.v];exact⟨rfl,R.2⟩
def Mo.st(x:Wh)(K:Nat)(E:Int):Wh:=if E=0 then(x.1,(K:Int))else(0,0)
theorem Eu(Wt b f:Nat)(T:Mo.Tb)(v:Value)(F:Fo)(x:Wh)(s:bU)(w:bD)(h:bT w Wt b f T v)(hF:bS w f F)(hs:Tr.kY F):
  Calls prog 260 #[ai (bj ⟨b,0,bu⟩),au #[aa az x.1,aa az x.2],ak s] w λe w'=>∃(K:Nat) (E:Int),e=bf (ao #[au #[aa az (Mo.st x K E).1,aa az (Mo.st x K E).2],bN E])/\Tr.lA F x.2 s K E/\Below w.heap.size w w':=by
 have HT:=hJ (aK h hF);have HS:=hJ hs;have BX:=hJ (JZ w x);clear h hF hs;go_in
 go_upto_region 1 with fail
 refine cJ (λW'=>WB W' w.heap.size x/\WB W' (w.heap.size+1) (0,0)/\Below w.heap.size w W') BX.v ?_;intro W1 h1;have S1:Hid (WB W1 w.heap.size x/\WB W1 (w.heap.size+1) (0,0)/\Below w.heap.size w W1):=hJ h1;have T1:=hJ (aK (HT.1.below h1.2.2) (HT.2.below h1.2.2));clear h1 BX;obtain⟨bx,hbx⟩:=hU (w.heap.size);have HBX:=hJ hbx;have LE:Hid (∀W,Below bx w W->bx<=W.heap.size):=hJ (λW h=>by have:=h.size;rw[hbx]at this;exact this);rw[hbx]at S1|-;clear hbx HT;have K0:Hid (W1.cell? ⟨b,0,bu⟩=bj (ai (bj ⟨f,0,bu⟩))/\W1.cell? ⟨bx,1,bu⟩=bj (aa az x.2)):=hJ ⟨T1.1.c0,S1.1.c1⟩;have KF:Hid (∀w':bD,Below W1.heap.size W1 w'->w'.cell? ⟨b,0,bu⟩=bj (ai (bj ⟨f,0,bu⟩))/\w'.cell? ⟨bx,1,bu⟩=bj (aa az x.2)):=hJ (λw' k=>⟨(T1.1.below k).c0,(S1.1.below k).c1⟩);go_upto_region 1 with fail
 go_region_held3 (λw'=>w'.cell? ⟨b,0,bu⟩=bj (ai (bj ⟨f,0,bu⟩))/\w'.cell? ⟨bx,1,bu⟩=bj (aa az x.2)) (first|exact K0.v|exact K4.v) ((go_at_call 251;refine(vq f x.2 s F _ T1.2.drew HS.v).mono ?_;rintro e w4 ⟨K,E,rfl,hf,b4⟩;have b5:Below W1.heap.size W1 w4:=⟨b4.os,b4.tape,b4.output,b4.size,b4.block⟩;have K4:=hJ (KF.v w4 b5);have P4:Hid (Tr.lA F x.2 s K E/\Below W1.heap.size W1 w4):=hJ ⟨hf,b5⟩;clear hf b4 b5))
 have S4:Hid (WB w4 bx x/\WB w4 (bx+1) (0,0)/\Below bx w w4):=hJ ⟨S1.1.below P4.2,S1.2.1.below P4.2,S1.2.2.trans (P4.2.mono (LE.v _ S1.2.2))⟩;have RET:Hid (∀y:Wh,WB ((w4.setCell ⟨bx+1,0,bu⟩ (aa az y.1)).setCell ⟨bx+1,1,bu⟩ (aa az y.2)) (bx+1) y/\Below bx w ((w4.setCell ⟨bx+1,0,bu⟩ (aa az y.1)).setCell ⟨bx+1,1,bu⟩ (aa az y.2))):=hJ (λy=>by
  have:=S4.2.1.set y;exact⟨this.1,this.2.below S4.2.2 bB (LE.v _ S4.2.2)⟩)
 have y0:=S4.2.1.c0;have y1:=S4.2.1.c1;have yf:=S4.2.1.fz;have x0:=S4.1.c0;by_cases e0:E=0
 .have R:=hJ (RET.v (x.1,(K:Int)));have FIN:Hid (Mo.st x K E=(x.1,(K:Int))/\bN E=ay):=hJ ⟨aJ e0,by rw[e0];rfl⟩;rw[FIN.2];clear e0 RET K4;go_wp2_with fail
  generalize hWF:(w4.setCell ⟨bx+1,0,bu⟩ (aa az x.1)).setCell ⟨bx+1,1,bu⟩ (aa az (K:Int))=WF at R|-;have z0:=R.1.c0;have z1:=R.1.c1;refine bodyPost_ret (v:=ao #[au #[aa az x.1,aa az (K:Int)],ay]) (by simp[results,Tryz.f260,go_sem,z0,z1]) rfl ?_;refine⟨K,E,?_,P4.1,by rw[HBX.v];exact R.2⟩;rw[FIN.1,FIN.2]
 .have R:=hJ (RET.v (0,0));have FIN:Hid (Mo.st x K E=(0,0)/\bN E=aq 100 (aa az E)):=hJ ⟨aI e0,bH e0⟩;rw[FIN.2];clear e0 RET K4;go_wp2_with fail
  generalize hWF:(w4.setCell ⟨bx+1,0,bu⟩ (aa .i64 0)).setCell ⟨bx+1,1,bu⟩ (aa .i64 0)=WF at R|-;have z0:=R.1.c0;have z1:=R.1.c1;refine bodyPost_ret (v:=ao #[au #[aa az 0,aa az 0],aq 100 (aa az E)]) (by simp[results,Tryz.f260,go_sem,z0,z1]) rfl ?_;refine⟨K,E,?_,P4.1,by rw[HBX.v];exact R.2⟩;rw[FIN.1,FIN.2]
namespace Mo
def nP(L:List Wh):List Value:=L.flatMap λx=>[aa az x.1,aa az x.2]
theorem SV(L M:List Wh):nP (L++M)=nP L++nP M:=List.flatMap_append
theorem SY(x:Wh):nP [x]=[aa az x.1,aa az x.2]:=by simp[nP]
theorem Ba:∀L:List Wh,(nP L).length=L.length*2
 |[]=>rfl
 |x::L=>by
  show([aa az x.1,aa az x.2]++nP L).length=(L.length+1)*2;rw[List.length_append,Ba L];grind
theorem MS:∀(L:List Wh) (i j:Nat) (x:Wh),L[i]? =bj x->j<2->(nP L)[i*2+j]? =[aa az x.1,aa az x.2][j]?
 |[],_,_,_,h,_=>by simp at h
 |y::L,0,j,x,h,hj=>by
  grind [nP]
 |y::L,i+1,j,x,h,hj=>by
  show([aa az y.1,aa az y.2]++nP L)[(i+1)*2+j]? =_;rw[List.getElem?_append_right (by show 2<=_;omega)];show(nP L)[(i+1)*2+j-2]? =_;rw[show(i+1)*2+j-2=i*2+j by omega];exact MS L i j x h hj
theorem Fh:∀(L:List Wh) (n:Nat),nP (L.take n)=(nP L).take (n*2)
 |[],n=>by simp[nP]
 |x::L,0=>by simp[nP]
 |x::L,n+1=>by
  show[aa az x.1,aa az x.2]++nP (L.take n)=([aa az x.1,aa az x.2]++nP L).take ((n+1)*2);rw[Fh L n,show(n+1)*2=n*2+2 by omega];rfl
def lQ(W:List Wh):Wh:=W.getLast?.getD (0,0)
def bk(W:List Wh):List Wh:=W.take (max (W.length-1) 1)
def Du(s:bU):Bool:=s.toList==[46,46]
theorem T8{W:List Wh}(h:W.length=k+1):W[k]? =bj (lQ W):=by grind [lQ]
def lY(F:Fo)(L:List Mt):List bU->List Wh->List Wh->Int->Prop
 |[],W,W',E=>W'=W/\E=0
 |s::r,W,W',E=>(Du s=true/\lY F L r (bk W) W' E)\/(Du s=false/\∃(K:Nat) (e:Int),Tr.lA F (lQ W).2 s K e/\((e≠0/\W'=[(0,0)]/\E=e)\/(e=0/\lY F L r (W++[sn L ((lQ W).1,(K:Int))]) W' E)))
end Mo
def jV(w:bD)(Wt:Nat)(W:List Wh)(v:Value):Prop:=w.ownsRow Wt 224 2 v W.length (Mo.nP W)
section
variable {w w':bD}{Wt:Nat}{W:List Wh}{v:Value}
theorem jV.form(h:jV w Wt W v)(h1:1<=W.length):∃g cap,v=aj (bj ⟨g,0,bu⟩) W.length cap/\Wt<=g/\g<w.heap.size/\W.length<=cap:=by
 rcases h.2 with⟨_,e⟩|⟨g,cap,cur,e,hb,hg,h1,_⟩
 .omega
 grind
theorem jV.below(h:jV w Wt W v)(k:Below w.heap.size w w'):jV w' Wt W v:=by
 refine⟨h.1,?_⟩;rcases h.2 with hn|⟨g,cap,cur,e,hb,hg,h1⟩
 .exact .inl hn
 .exact .inr ⟨g,cap,cur,e,hb,by rw[k.block g (aX.1 hg).1];exact hg,h1⟩
theorem jV.cell{g n cap:Nat}(h:jV w Wt W (aj (bj ⟨g,0,bu⟩) n cap))(i j:Nat)(x:Wh)(hi:W[i]? =bj x)(hj:j<2):w.cell? ⟨g,i*2+j,bu⟩=[aa az x.1,aa az x.2][j]? :=by
 rcases h.2 with⟨e,_⟩|⟨g',cap',cur,e,hb,hg,h1,h2,h3,h4⟩
 .cases e
 .cases e;rw[bR hg,<-Mo.MS W i j x hi hj,<-h4];grind
theorem jV.cut{g cap:Nat}(h:jV w Wt W (aj (bj ⟨g,0,bu⟩) W.length cap))(n:Nat)(hn:n<=W.length):jV w Wt (W.take n) (aj (bj ⟨g,0,bu⟩) n cap):=by
 have hl:(W.take n).length=n:=by rw[List.length_take];omega
 unfold jV;rw[hl];refine⟨by rw[Mo.Ba,hl],?_⟩;rcases h.2 with⟨e,_⟩|⟨g',cap',cur,e,hb,hg,h1,h2,h3,h4⟩
 .cases e
 .cases e;refine .inr ⟨g,cap,cur,rfl,hb,hg,bB,h2,h3,?_⟩;rw[Mo.Fh,<-h4,List.take_take,Nat.min_eq_left bB]
end
theorem TY:∃i z,prog.info? 224=bj i/\i.zero=bj z/\i.size=2/\i.bytes=16/\z.cells.size=2:=by
 have h:(prog.info? 224).map (λi=>(i.size,i.bytes,i.zero.map (λz=>z.cells.size)))=bj (2,16,bj 2):=by kernel_rfl
 cases hi:prog.info? 224 with
 |none=>rw[hi]at h;cases h
 |some i=>
  rw[hi]at h;simp only[Option.map_some,Option.some.injEq,Prod.mk.injEq]at h;obtain⟨h1,h2,h3⟩:=h;cases hz:i.zero with
  |none=>rw[hz]at h3;cases h3
  |some z=>
   grind
theorem Dt:∃i z,prog.info? 273=bj i/\i.zero=bj z/\i.size=4/\i.bytes=32/\z.cells.size=4:=by
 have h:(prog.info? 273).map (λi=>(i.size,i.bytes,i.zero.map (λz=>z.cells.size)))=bj (4,32,bj 4):=by kernel_rfl
 cases hi:prog.info? 273 with
 |none=>rw[hi]at h;cases h
 |some i=>
  rw[hi]at h;simp only[Option.map_some,Option.some.injEq,Prod.mk.injEq]at h;obtain⟨h1,h2,h3⟩:=h;cases hz:i.zero with
  |none=>rw[hz]at h3;cases h3
  |some z=>
   grind
def NS(w:bD)(v:Value)(ns:List bU):Prop:=∃a c,v=aj a ns.length c/\ns.length<=c/\(ns≠[]->∃nb no,a=bj ⟨nb,no,bu⟩/\∀(i:Nat) (s:bU),ns[i]? =bj s->w.cell? ⟨nb,no+i,bu⟩=bj (ak s))
theorem NS.below{w w':bD}{v:Value}{ns:List bU}(h:NS w v ns)(k:Below w.heap.size w w'):NS w' v ns:=by
 obtain⟨a,c,hv,hc,hx⟩:=h;refine⟨a,c,hv,hc,λhn=>?_⟩;obtain⟨nb,no,ha,hcell⟩:=hx hn;exact⟨nb,no,ha,λi s hi=>by
  have:=hcell i s hi;rw[k.cell (p:=⟨nb,no+i,bu⟩) (bZ _ _ this)];exact this⟩
theorem yQ(Wt b f:Nat)(T:Mo.Tb)(v:Value)(F:Fo)(ns:List bU)(vn:Value)(w:bD)(h:bT w Wt b f T v)(hF:bS w f F)(hs:Tr.kY F)(hn:NS w vn ns)(hl:ns.length<=100):
  Calls prog 250 #[ai (bj ⟨b,0,bu⟩),vn] w λe w'=>∃(W:List Wh) (E:Int),e=bf (ao #[au #[aa az (Mo.lQ W).1,aa az (Mo.lQ W).2],bN E])/\Mo.lY F T.ms ns [Mo.sn T.ms T.rt] W E/\Below w.heap.size w w':=by
 have HT:=hJ (aK h (aK hF (aK hs hn)));obtain⟨na,nc,hvn,hnc,hx⟩:=hn;have HX:=hJ hx;subst hvn;clear h hF hs hx hnc;obtain⟨i0,z0,hi0,hz0,hz1,hz2,hz3⟩:=TY;obtain⟨N,hN⟩:=hU (ns.length);have HN:=hJ hN;rw[hN]at hl|-;clear hN;have A1:Hid (WB (w.alloc (bh #[aa az 0,aa az 0] 224)) w.heap.size (0,0)/\Below w.heap.size w (w.alloc (bh #[aa az 0,aa az 0] 224))):=hJ ⟨heap_alloc_new w _,(aQ _ _).alloc (aL _) _⟩;go_in
 go_upto_region 1 with fail
 refine cJ (λW'=>WB W' w.heap.size (0,0)/\Below w.heap.size w W') A1.v ?_;rintro W1 h1;have S1:=hJ h1;have T1:=hJ (HT.1.below h1.2);clear h1 A1;have c1:=T1.c1;have c2:=T1.c2;go_wp2_with fail
 refine sC (El Wt b f T v T.rt _ T1.v) ?_;rintro W2 b2;have S2:Hid (WB W2 w.heap.size (0,0)/\Below w.heap.size w W2):=hJ ⟨S1.1.below b2,S1.2.trans (b2.mono S1.2.size)⟩;clear b2 c1 c2 S1 T1;obtain⟨q0,hq0⟩:=hU (Mo.sn T.ms T.rt);have HQ:=hJ hq0;rw[hq0];clear hq0;have A3:Hid (jV (W2.alloc (bh #[aa az q0.1,aa az q0.2] 224)) (w.heap.size+1) [q0] (aj (bj ⟨W2.heap.size,0,bu⟩) 1 1)/\WB (W2.alloc (bh #[aa az q0.1,aa az q0.2] 224)) w.heap.size (0,0)/\Below w.heap.size w (W2.alloc (bh #[aa az q0.1,aa az q0.2] 224))):=hJ (by
  have bb:Below W2.heap.size W2 (W2.alloc (bh #[aa az q0.1,aa az q0.2] 224)):=(aQ _ _).alloc (aL _) _;refine⟨⟨by rw[Mo.Ba], .inr ⟨W2.heap.size,1,_,rfl,S2.1.lt,heap_alloc_new W2 _,aL _,by decide,rfl,rfl⟩⟩,S2.1.below bb,S2.2.trans (bb.mono S2.2.size)⟩)
 go_upto_region 2 with fail
 refine cJ (λW'=>jV W' (w.heap.size+1) [q0] (aj (bj ⟨W2.heap.size,0,bu⟩) 1 1)/\WB W' w.heap.size (0,0)/\Below w.heap.size w W') A3.v ?_;rintro W3 h3;have S3:=hJ h3;clear h3 A3 S2;obtain⟨rx,hrx⟩:=hU (w.heap.size);have HRX:=hJ hrx;have LE:Hid (∀W,Below rx w W->rx<=W.heap.size/\bT W Wt b f T v/\bS W f F/\NS W (aj na N nc) ns):=hJ (λW h=>by
  have e:=h.size;rw[hrx]at e;subst hrx;exact⟨e,HT.1.below h,HT.2.1.below h,by have:=HT.2.2.2.below h;rw[HN.v]at this;exact this⟩)
 rw[hrx]at S3|-;generalize W2.heap.size=g0 at*;clear hrx;go_wp2_with fail
 go_loopw [6,8,9,10,11,21] (λvw _ _ _ _ i wr=>∃(j:Nat) (W:List Wh),i=aa az j/\j<=N/\1<=W.length/\W.length<=j+1/\Hid (jV wr (rx+1) W vw/\WB wr rx (0,0)/\Below rx w wr/\∀W' E,Mo.lY F T.ms (ns.drop j) W W' E->Mo.lY F T.ms ns [q0] W' E)) (λ_ _ _ _ _ i _=>N-(intOf i).toNat)
 case atStart=>exact⟨0,[q0],rfl,bB,by simp,by simp,hJ ⟨S3.1,S3.2.1,S3.2.2,λW' E h=>h⟩⟩
 case round=>
  clear S3;obtain⟨j,W,rfl,hj,w1,wj,S⟩:=hrel;obtain⟨k,hk⟩:∃k,W.length=k+1:=⟨W.length-1,bB⟩;obtain⟨g,cap,hv,hb,hg,hcap⟩:=S.1.form w1;have HW:=hJ hk;have S':=S.v;rw[hv,hk]at S';have SS:=hJ S';have HG:=hJ (aK hb hg);subst hv;rw[hk]at wj hcap|-;clear S S' w1 hk hb hg;have k100:k<=100:=bB
  have hw2:IntKind.i64.wrap (((k+1:Nat):Int)-1)=(k:Int):=by rw[aN _ ⟨by omega,bB⟩];omega
  have LA:=hJ (Mo.T8 HW.v);by_cases hlt:j<N
  .have hltI:(j:Int)<(N:Int):=bB
   obtain⟨s,hsj⟩:∃s,ns[j]? =bj s:=⟨ns[j]'(by rw[HN.v];exact hlt),aW _⟩;have DR:Hid (ns.drop j=s::ns.drop (j+1)):=hJ (by
    obtain⟨h1,h2⟩:=aY.1 hsj;rw[List.drop_eq_getElem_cons h1,h2])
   obtain⟨nb,no,hna,hnc⟩:=HX.v (λe=>by rw[e]at hsj;simp at hsj);subst hna;have LL:=LE.v _ SS.2.2.1;have cs:wr.cell? ⟨nb,no+j,bu⟩=bj (ak s):=by
    obtain⟨_,_,e,_,hx⟩:=LL.2.2.2;obtain⟨nb',no',e',hc'⟩:=hx (λe=>by rw[e]at hsj;simp at hsj);cases e;cases e';exact hc' j s hsj
   clear hsj LL hnc;have DD:Hid (wr.cell? ⟨g,k*2,bu⟩=bj (aa az (Mo.lQ W).1)/\wr.cell? ⟨g,k*2+1,bu⟩=bj (aa az (Mo.lQ W).2)):=hJ ⟨SS.1.cell k 0 _ LA.v bB,SS.1.cell k 1 _ LA.v bB⟩;by_cases bkS:(s.toList==[46,46])=true
   .have NX:Hid (jV wr (rx+1) (Mo.bk W) (aj (bj ⟨g,0,bu⟩) (max k 1) cap)/\(Mo.bk W).length=max k 1/\∀W' E,Mo.lY F T.ms (ns.drop (j+1)) (Mo.bk W) W' E->Mo.lY F T.ms ns [q0] W' E):=hJ (by
     have r:=SS.1;rw[<-HW.v]at r;have c:=r.cut (max k 1) (by rw[HW.v];omega);have e:Mo.bk W=W.take (max k 1):=by unfold Mo.bk;rw[HW.v,aP]
     rw[e];refine⟨c,by rw[List.length_take,HW.v];omega,λW' E h=>SS.2.2.2 W' E ?_⟩;rw[DR.v];exact .inl ⟨bkS,by rw[e];exact h⟩)
    by_cases k0:k=0
    .subst k0;rw[show max 0 1=1 from rfl]at NX;go_wp2
     go_roundw
     case rel=>exact⟨j+1,Mo.bk W,by go_num,bB,by rw[NX.2.1];omega,by rw[NX.2.1];omega,hJ ⟨NX.1,SS.2.1,SS.2.2.1,NX.2.2⟩⟩
     case measure=>simp[intOf];omega
    .rw[show max k 1=k by omega]at NX;have k1:¬(k:Int)<1:=bB
     have k2:(k:Int)<=(cap:Int):=bB
     have k3:(if(1:Int)>(k:Int)then(1:Int)else(k:Int))=k:=nJ;have k4:max (k:Int) 1=k:=bB
     go_wp2
     go_roundw
     case rel=>exact⟨j+1,Mo.bk W,by go_num,bB,by rw[NX.2.1];omega,by rw[NX.2.1];omega,hJ ⟨NX.1,SS.2.1,SS.2.2.1,NX.2.2⟩⟩
     case measure=>simp[intOf];omega
   .have bk':(s.toList==[46,46])=false:=by simpa using bkS
    clear bkS;obtain⟨d0,d1⟩:=DD.v;obtain⟨y,hy⟩:=hU (Mo.lQ W);have HY:=hJ hy;rw[hy]at d0 d1;clear hy DD;go_wp2_with fail
    refine(Eu Wt b f T v F y s _ (LE.v _ SS.2.2.1).2.1 (LE.v _ SS.2.2.1).2.2.1 HT.2.2.1).mono ?_;rintro e W4 ⟨K,E,rfl,hf,b4⟩;have S4:Hid (jV W4 (rx+1) W (aj (bj ⟨g,0,bu⟩) (k+1) cap)/\WB W4 rx (0,0)/\Below rx w W4):=hJ ⟨SS.1.below b4,SS.2.1.below b4,SS.2.2.1.trans (b4.mono (LE.v _ SS.2.2.1).1)⟩;have HFD:=hJ hf;clear hf b4 d0 d1 cs;by_cases e0:E=0
    .subst e0;rw[show Mo.st y K 0=(y.1,(K:Int))from aJ rfl,bF];go_upto_region 9 with fail
     have A5:Hid (WB (W4.alloc (bh #[aa az y.1,aa az (K:Int)] 224)) W4.heap.size (y.1,(K:Int))/\Below W4.heap.size W4 (W4.alloc (bh #[aa az y.1,aa az (K:Int)] 224))):=hJ ⟨heap_alloc_new W4 _,(aQ _ _).alloc (aL _) _⟩;refine cJ (λW'=>WB W' W4.heap.size (y.1,(K:Int))/\Below W4.heap.size W4 W') A5.v ?_;rintro W5 ⟨n5,b5⟩;have S5:Hid (jV W5 (rx+1) W (aj (bj ⟨g,0,bu⟩) (k+1) cap)/\WB W5 rx (0,0)/\Below rx w W5):=hJ ⟨S4.1.below b5,S4.2.1.below b5,S4.2.2.trans (b5.mono (LE.v _ S4.2.2).1)⟩;have n0:=n5.c0;have n1:=n5.c1;clear n5 b5 A5;generalize W4.heap.size=nx at*;clear S4;go_wp2_with fail
     refine sC (El Wt b f T v (y.1,(K:Int)) _ (LE.v _ S5.2.2).2.1) ?_;rintro W6 b6;have S6:Hid (jV W6 (rx+1) W (aj (bj ⟨g,0,bu⟩) (k+1) cap)/\WB W6 rx (0,0)/\Below rx w W6):=hJ ⟨S5.1.below b6,S5.2.1.below b6,S5.2.2.trans (b6.mono (LE.v _ S5.2.2).1)⟩;clear b6 n0 n1 S5;obtain⟨q,hq⟩:=hU (Mo.sn T.ms (y.1,(K:Int)));have NX:Hid (∀W' E,Mo.lY F T.ms (ns.drop (j+1)) (W++[q]) W' E->Mo.lY F T.ms ns [q0] W' E):=hJ (λW' E h=>SS.2.2.2 W' E (by
      rw[DR.v];refine .inr ⟨bk',K,0,by rw[HY.v];exact HFD.v, .inr ⟨rfl,?_⟩⟩;rw[HY.v,hq];exact h))
     rw[hq];clear hq HFD;have MORE:Hid (∀g2 cap2 W7,W7.ownsRow (rx+1) 224 2 (aj (bj ⟨g2,0,bu⟩) (k+1+1) cap2) (k+1+1) (Mo.nP W++[aa az q.1,aa az q.2])->(W6.alloc (bh #[aa az q.1,aa az q.2] 224)).grownBy W7 (bj g)->jV W7 (rx+1) (W++[q]) (aj (bj ⟨g2,0,bu⟩) (k+1+1) cap2)/\WB W7 rx (0,0)/\Below rx w W7):=hJ (λg2 cap2 W7 ho hg=>by
      have gl:=(S6.1.lt g rfl).1;have rl:=S6.2.1.lt;have bl:=S6.2.2;have bz:=(LE.v _ bl).1;have aw:Below rx w (W6.alloc (bh #[aa az q.1,aa az q.2] 224)):=bl.alloc bz _;refine⟨?_,?_,aw.trans ⟨hg.os,hg.tape,hg.output,hg.size,λn hn=>hg.block n (by simp;omega) (λe=>by cases e;omega)⟩⟩
      .unfold jV;rw[Mo.SV,Mo.SY,List.length_append,List.length_singleton,HW.v];exact ho
      .have e1:=hg.block rx (by simp;omega) (λe=>by cases e;omega);have e2:(W6.alloc (bh #[aa az q.1,aa az q.2] 224)).heap[rx]? =W6.heap[rx]? :=((aQ W6.heap.size W6).alloc (aL _) _).block rx rl;exact(e1.trans e2).trans S6.2.1)
     go_wp2_with (at_builtin;refine wpList_append_lies _ rfl _ _ 300 (by rfl) (rx+1) 224 i0 z0 2 16 Tryz.underlying300 hi0 hz0 hz1 hz2 hz3 bE (aj (bj ⟨g,0,bu⟩) (k+1) cap) (k+1) (Mo.nP W) (by rfl) (by have:=S6.1;unfold jV at this;rw[HW.v]at this;exact this.alloc _) ⟨W6.heap.size,0,bu⟩ 1 1 [aa az q.1,aa az q.2] (by rfl) rfl (World.news_of_block (heap_alloc_new W6 _)) (by simp[Value.oneCell']) bE (by unfold maxLen;omega) bB (by have:=S6.2.1.lt;simp;omega) (W6.heap.size+1) (by simp) ?_;intro gg cap2 W7 hown hgrow hat hlt2;have Q1:=hJ (MORE.v gg cap2 W7 hown hgrow);clear hown hgrow hat hlt2)
     go_roundw
     case rel=>exact⟨j+1,W++[q],by go_num,bB,by simp,by simp;have:=HW.v;omega,hJ ⟨Q1.1,Q1.2.1,Q1.2.2,NX.v⟩⟩
     case measure=>simp[intOf];omega
    .have FIN:Hid (Mo.lY F T.ms ns [q0] [(0,0)] E/\bN E=aq 100 (aa az E)):=hJ ⟨SS.2.2.2 _ _ (by rw[DR.v];exact .inr ⟨bk',K,E,by rw[HY.v];exact HFD.v, .inl ⟨e0,rfl,rfl⟩⟩),bH e0⟩;rw[show Mo.st y K E=(0,0)from aI e0,FIN.2];clear e0 HFD;go_upto_region 9 with fail
     refine cJ (λW'=>WB W' rx (0,0)/\Below rx w W') (by
      have bb:Below W4.heap.size W4 (W4.alloc (bh #[aa az 0,aa az 0] 224)):=(aQ _ _).alloc (aL _) _;exact⟨S4.2.1.below bb,S4.2.2.trans (bb.mono (LE.v _ S4.2.2).1)⟩) ?_
     rintro W5 h5;have S5:=hJ h5;clear h5;have y0:=S5.1.c0;have y1:=S5.1.c1;have yf:=S5.1.fz;have R:Hid (WB ((W5.setCell ⟨rx,0,bu⟩ (aa .i64 0)).setCell ⟨rx,1,bu⟩ (aa .i64 0)) rx (0,0)/\Below rx w ((W5.setCell ⟨rx,0,bu⟩ (aa .i64 0)).setCell ⟨rx,1,bu⟩ (aa .i64 0))):=hJ (by
      have:=S5.1.set (0,0);exact⟨this.1,this.2.below S5.2 (aL _) (LE.v _ S5.2).1⟩)
     generalize W4.heap.size=nx at*;go_wp2_with fail
     generalize hWF:(W5.setCell ⟨rx,0,bu⟩ (aa .i64 0)).setCell ⟨rx,1,bu⟩ (aa .i64 0)=WF at R|-;have z0:=R.1.c0;have z1:=R.1.c1;refine bodyPost_ret (v:=ao #[au #[aa az 0,aa az 0],aq 100 (aa az E)]) (by simp[results,Tryz.f250,go_sem,z0,z1]) rfl ?_;rw[HRX.v,HQ.v];exact⟨[(0,0)],E,by rw[FIN.2];rfl,FIN.1,R.2⟩
  .have hltI:¬(j:Int)<(N:Int):=bB
   have FIN:Hid (Mo.lY F T.ms ns [q0] W 0):=hJ (SS.2.2.2 W 0 (by rw[List.drop_of_length_le (by rw[HN.v];omega)];exact⟨rfl,rfl⟩));have d0:wr.cell? ⟨g,k*2,bu⟩=bj (aa az (Mo.lQ W).1):=SS.1.cell k 0 _ LA.v bB;have d1:wr.cell? ⟨g,k*2+1,bu⟩=bj (aa az (Mo.lQ W).2):=SS.1.cell k 1 _ LA.v bB;have y0:=SS.2.1.c0;have y1:=SS.2.1.c1;have yf:=SS.2.1.fz;have R:Hid (WB ((wr.setCell ⟨rx,0,bu⟩ (aa az (Mo.lQ W).1)).setCell ⟨rx,1,bu⟩ (aa az (Mo.lQ W).2)) rx (Mo.lQ W)/\Below rx w ((wr.setCell ⟨rx,0,bu⟩ (aa az (Mo.lQ W).1)).setCell ⟨rx,1,bu⟩ (aa az (Mo.lQ W).2))):=hJ (by
    have:=SS.2.1.set (Mo.lQ W);exact⟨this.1,this.2.below SS.2.2.1 (aL _) (LE.v _ SS.2.2.1).1⟩)
   obtain⟨y,hy⟩:=hU (Mo.lQ W);have HY:=hJ hy;rw[hy]at d0 d1 R;clear hy;go_wp2_with fail
   generalize hWF:(wr.setCell ⟨rx,0,bu⟩ (aa az y.1)).setCell ⟨rx,1,bu⟩ (aa az y.2)=WF at R|-;have z0:=R.1.c0;have z1:=R.1.c1;refine bodyPost_ret (v:=ao #[au #[aa az y.1,aa az y.2],ay]) (by simp[results,Tryz.f250,go_sem,z0,z1]) rfl ?_;rw[HRX.v,HQ.v];exact⟨W,0,by rw[HY.v];rfl,FIN.v,R.2⟩

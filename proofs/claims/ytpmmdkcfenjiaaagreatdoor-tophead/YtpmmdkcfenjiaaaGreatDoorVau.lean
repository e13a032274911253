import Derived.Deep.Onto
import Derived.Test.YtpmmdkcfenjiaaaGreatDoorVaq
set_option linter.unusedVariables false
set_option linter.unusedSimpArgs false
set_option maxRecDepth 100000
set_option maxHeartbeats 8000000
namespace Go.Proofs.YtpmmdkcfenjiaaaGreatDoor
open Go.RowKit
open Tr (Fo Nd)
namespace Mo
abbrev Wh:=Int×Int
abbrev Mt:=Wh×Wh
structure Tb where
 rt:Wh
 ms:List Mt
def sS (m:Mt):List Value:=[.int .i64 m.1.1, .int .i64 m.1.2, .int .i64 m.2.1, .int .i64 m.2.2]
def eN (L:List Mt):List Value:=L.flatMap sS
theorem C9 (L M:List Mt):eN (L++M)=eN L++eN M:=List.flatMap_append
theorem Mi (x:Mt):eN [x]=sS x:=by simp[eN]
theorem kv: ∀L:List Mt,(eN L).length=L.length*4
 |[]=>rfl
 |x::L=>by
  show(sS x++eN L).length=_;rw[List.length_append,kv L,List.length_cons];show 4+_=_;omega
theorem IN: ∀(L:List Mt) (i j:Nat) (x:Mt),L[i]? =some x->j<4->(eN L)[i*4+j]? =(sS x)[j]?
 |[],_,_,_,h,_=>by simp at h
 |y::L,0,j,x,h,hj=>by
  simp only[List.getElem?_cons_zero,Option.some.injEq]at h;subst h;show(sS y++eN L)[0*4+j]? =_;rw[Nat.zero_mul,Nat.zero_add,List.getElem?_append_left (by show j<4;exact hj)]
 |y::L,i+1,j,x,h,hj=>by
  rw[List.getElem?_cons_succ]at h;show(sS y++eN L)[(i+1)*4+j]? =_;rw[List.getElem?_append_right (by show 4<=_;omega)];show(eN L)[(i+1)*4+j-4]? =_;rw[show(i+1)*4+j-4=i*4+j by omega];exact IN L i j x h hj
def nY (L:List Mt)(x:Wh)(z:Int):Prop:=(∃i:Nat,z=i/\ ∃m,L[i]? =some m/\m.1=x/\ ∀(j:Nat) (m':Mt),j<i->L[j]? =some m'->m'.1≠x)\/(z= -1/\ ∀(j:Nat) (m':Mt),L[j]? =some m'->m'.1≠x)
def lk (L:List Mt)(x:Wh):Option Mt:=L.find? fun m=>decide (m.1=x)
theorem nY.find {L:List Mt}{x:Wh}{z:Int}(h:nY L x z):(∃i:Nat,z=i/\i<L.length/\ ∃m,L[i]? =some m/\lk L x=some m)\/(z= -1/\lk L x=none):=by
 rcases h with⟨i,rfl,m,h1,h2,h3⟩|⟨rfl,h1⟩
 ·have hi:=(aY.1 h1).1;refine .inl ⟨i,rfl,hi,m,h1,?_⟩;unfold lk;rw[List.find?_eq_some_iff_getElem];refine⟨by simp[h2],i,hi,(aY.1 h1).2,fun j hj=>?_⟩;have:=h3 j L[j] hj (aW (by omega));simp[this]
 ·refine .inr ⟨rfl,?_⟩;unfold lk;rw[List.find?_eq_none];intro m hm;obtain⟨j,hj,e⟩:=List.getElem_of_mem hm;have:=h1 j m (by rw[aW hj,e]);simp[this]
def vR (L:List Mt):Nat->Wh->Wh
 |0,x=>x
 |k+1,x=>match lk L x with
  |none=>x
  |some m=>vR L k m.2
def sn (L:List Mt)(x:Wh):Wh:=vR L 6 x
theorem Jy {L:List Mt}{k:Nat}{x:Wh}(h:lk L x=none):vR L k x=x:=by
 cases k
 ·rfl
 ·unfold vR;rw[h]
theorem I1 {L:List Mt}{k:Nat}{x:Wh}{m:Mt}(h:lk L x=some m):vR L (k+1) x=vR L k m.2:=by
 conv=>lhs;unfold vR
 rw[h]
end Mo
open Mo (Wh Mt Tb)
structure dq (S:Nat->Prop)(w w':bD):Prop where
 os:w'.os=w.os
 tape:w'.tape=w.tape
 output:w'.output=w.output
 size:w.heap.size<=w'.heap.size
 block: ∀k,k<w.heap.size-> ¬S k->w'.heap[k]? =w.heap[k]?
section
variable {S : Nat -> Prop} {u v w : bD}
theorem dq.refl (S:Nat->Prop)(w:bD):dq S w w:=⟨rfl,rfl,rfl,aL _,fun _ _ _=>rfl⟩
theorem dq.trans (h:dq S u v)(k:dq S v w):dq S u w:=
 ⟨k.os.trans h.os,k.tape.trans h.tape,k.output.trans h.output,aH h.size k.size,fun j hj hn=>(k.block j (aD hj h.size) hn).trans (h.block j hj hn)⟩
theorem dq.mono {R:Nat->Prop}(h:dq S u v)(k: ∀n,n<u.heap.size->S n->R n):dq R u v:=⟨h.os,h.tape,h.output,h.size,fun j hj hn=>h.block j hj (fun c=>hn (k j hj c))⟩
theorem dq.bB (h:Below u.heap.size u v):dq S u v:=⟨h.os,h.tape,h.output,h.size,fun j hj _=>h.block j hj⟩
theorem dq.kR {b:Nat}(h:af b u v)(hb:S b):dq S u v:=⟨h.os,h.tape,h.output,h.size,fun j hj hn=>h.block j hj (fun e=>hn (e▸hb))⟩
theorem dq.behind {B:Nat}{t:bD}(h:dq S u v)(k:Below B t u)(hS: ∀n,S n->B<=n)(hs:B<=u.heap.size):Below B t v:=
 k.trans ⟨h.os,h.tape,h.output,h.size,fun j hj=>h.block j (by omega) (fun c=>by have:=hS j c;omega)⟩
theorem dq.drew (h:dq S u v):dq S u v.drew:=⟨h.os,h.tape,h.output,h.size,h.block⟩
theorem dq.setCell (h:dq S u w){b:Nat}(hb:S b)(o:Nat)(x:Value):dq S u (w.setCell ⟨b,o,none⟩ x):=
 ⟨h.os,h.tape,h.output,by simpa[World.setCell]using h.size,fun k hk hn=>(dD _ _ _ _ (fun e=>hn (by rw[e];exact hb))).trans (h.block k hk hn)⟩
end
def eF (w:bD)(base:Nat)(L:List Mt)(v:Value):Prop:=w.ownsRow base 273 4 v L.length (Mo.eN L)
structure bd (w:bD)(base b f:Nat)(T:Tb)(v:Value):Prop where
 cv:w.heap[b]? =some (.cells #[.pointer (some ⟨f,0,none⟩), .int .i64 T.rt.1, .int .i64 T.rt.2,v] 229 (0,0))
 row:eF w base T.ms v
 qB:T.ms.length<=6
section
variable {w w' : bD} {base b f : Nat} {T : Tb} {v : Value} {L : List Mt}
theorem eF.form (h:eF w base L v):(v= .slice none 0 0/\L=[])\/ ∃g cap,v= .slice (some ⟨g,0,none⟩) L.length cap/\base<=g/\g<w.heap.size/\L.length<=cap:=by
 rcases h.2 with⟨rfl,e⟩|⟨g,cap,cur,e,hb,hg,h1,h2,h3,h4⟩
 ·exact .inl ⟨rfl,List.eq_nil_of_length_eq_zero e⟩
 ·exact .inr ⟨g,cap,e,hb,(aX.1 hg).1,h1⟩
theorem eF.sl (h:eF w base L v): ∃a c,v= .slice a L.length c:=by
 rcases h.form with⟨rfl,rfl⟩|⟨g,cap,rfl,_⟩
 ·exact⟨_,_,rfl⟩
 ·exact⟨_,_,rfl⟩
theorem eF.cell {g n cap:Nat}(h:eF w base L (.slice (some ⟨g,0,none⟩) n cap))(i j:Nat)(m:Mt)(hi:L[i]? =some m)(hj:j<4):w.cell? ⟨g,i*4+j,none⟩=(Mo.sS m)[j]? :=by
 have hl:=(aY.1 hi).1;rcases h.2 with⟨e,_⟩|⟨g',cap',cur,e,hb,hg,h1,h2,h3,h4⟩
 ·cases e
 ·cases e;rw[au hg,<-Mo.IN L i j m hi hj,<-h4];have hs:i*4+j<cur.size:=by rw[h3];omega
  rw[List.getElem?_take_of_lt (by omega),aM]
theorem eF.frozen {g n cap:Nat}(h:eF w base L (.slice (some ⟨g,0,none⟩) n cap))(o:Nat):w.frozen? ⟨g,o,none⟩=false:=by
 rcases h.2 with⟨e,_⟩|⟨g',cap',cur,e,hb,hg,_⟩
 ·cases e
 ·cases e;exact bf hg o
theorem eF.same (h:eF w base L v)(k: ∀g,v.ownBlock=some g->w'.heap[g]? =w.heap[g]?):eF w' base L v:=by
 refine⟨h.1,?_⟩;rcases h.2 with hn|⟨g,cap,cur,e,hb,hg,h1,h2,h3,h4⟩
 ·exact .inl hn
 ·exact .inr ⟨g,cap,cur,e,hb,by rw[k g (by rw[e];rfl)];exact hg,h1,h2,h3,h4⟩
theorem eF.lt (h:eF w base L v)(g:Nat)(e:v.ownBlock=some g):base<=g/\g<w.heap.size:=by
 rcases h.2 with⟨hn,_⟩|⟨g',cap,cur,hv,hb,hg,_⟩
 ·rw[hn]at e;cases e
 ·rw[hv]at e;cases e;exact⟨hb,(aX.1 hg).1⟩
theorem eF.below (h:eF w base L v)(k:Below w.heap.size w w'):eF w' base L v:=h.same (fun g e=>k.block g (h.lt g e).2)
theorem bd.lt (h:bd w base b f T v):b<w.heap.size:=(aX.1 h.cv).1
theorem bd.frozen (h:bd w base b f T v)(o:Nat):w.frozen? ⟨b,o,none⟩=false:=bf h.cv o
theorem bd.c0 (h:bd w base b f T v):w.cell? ⟨b,0,none⟩=some (.pointer (some ⟨f,0,none⟩)):=by rw[au h.cv];rfl
theorem bd.c1 (h:bd w base b f T v):w.cell? ⟨b,1,none⟩=some (.int .i64 T.rt.1):=by rw[au h.cv];rfl
theorem bd.c2 (h:bd w base b f T v):w.cell? ⟨b,2,none⟩=some (.int .i64 T.rt.2):=by rw[au h.cv];rfl
theorem bd.c3 (h:bd w base b f T v):w.cell? ⟨b,3,none⟩=some v:=by rw[au h.cv];rfl
theorem bd.same (h:bd w base b f T v)(e:w'.heap[b]? =w.heap[b]?)(k: ∀g,v.ownBlock=some g->w'.heap[g]? =w.heap[g]?):bd w' base b f T v:=⟨e.trans h.cv,h.row.same k,h.qB⟩
theorem bd.below (h:bd w base b f T v)(k:Below w.heap.size w w'):bd w' base b f T v:=h.same (k.block b h.lt) (fun g e=>k.block g (h.row.lt g e).2)
theorem bd.drew (h:bd w base b f T v):bd w.drew base b f T v:=h.same rfl (fun _ _=>rfl)
theorem wR {w:bD}{a b:Nat}{C D:Array Value}{T U:TypeId}(h:w.heap[a]? =some (.cells C T (0,0)))(k:w.heap[b]? =some (.cells D U (0,0)))(n:T≠U):a≠b:=by
 intro e;subst e;rw[h]at k;cases k;exact n rfl
theorem eF.KY {g':Nat}{C:Array Value}{U:TypeId}(h:eF w base L v)(k:w.heap[g']? =some (.cells C U (0,0)))(n:273≠U): ∀g,v.ownBlock=some g->g≠g':=fun g e=>by
 rcases h.2 with⟨hn,_⟩|⟨g'',cap,cur,hv,hb,hg,_⟩
 ·rw[hn]at e;cases e
 ·rw[hv]at e;cases e;exact wR hg k n
end
theorem KV (bx:Nat)(m:Mt)(x:Wh)(w:bD)(h0:w.cell? ⟨bx,0,none⟩=some (.int .i64 x.1))(h1:w.cell? ⟨bx,1,none⟩=some (.int .i64 x.2))(hb:bx<w.heap.size):
  Calls Tryz.prog 286 #[.agg #[.int .i64 m.1.1, .int .i64 m.1.2, .int .i64 m.2.1, .int .i64 m.2.2], .pointer (some ⟨bx,0,none⟩)] w fun e w'=>e= .returned (.bool (decide (m.1=x)))/\Below w.heap.size w w':=by
 have hne:bx≠w.heap.size:=by omega
 rcases m with⟨⟨p,q⟩,r,t⟩;rcases x with⟨y,z⟩;simp only at h0 h1;show Calls Tryz.prog 286 #[.agg #[.int .i64 p, .int .i64 q, .int .i64 r, .int .i64 t], .pointer (some ⟨bx,0,none⟩)] w fun e w'=>e= .returned (.bool (decide ((p,q)=(y,z))))/\Below w.heap.size w w';by_cases e1:p=y
 ·by_cases e2:q=z
  ·rw[aO (by rw[e1,e2])];subst e1 e2;go_in
   go_wp2
   go_ret
   exact⟨rfl,(aQ _ _).alloc (aL _) _⟩
  ·rw[aT (by simp[e2])];subst e1;have e2':(q==z)=false:=by simpa using e2
   go_in
   go_wp2
   go_ret
   exact⟨rfl,(aQ _ _).alloc (aL _) _⟩
 ·rw[aT (by simp[e1])];have e1':(p==y)=false:=by simpa using e1
  go_in
  go_wp2
  go_ret
  exact⟨rfl,(aQ _ _).alloc (aL _) _⟩
theorem Fk (bx base:Nat)(L:List Mt)(v:Value)(x:Wh)(w:bD)(h:eF w base L v)(h0:w.cell? ⟨bx,0,none⟩=some (.int .i64 x.1))(h1:w.cell? ⟨bx,1,none⟩=some (.int .i64 x.2))(h6:L.length<=6):
  Calls Tryz.prog 285 #[v, .func (.func 286) #[] #[.pointer (some ⟨bx,0,none⟩)]] w fun e w'=> ∃z:Int,e= .returned (.int .i64 z)/\Mo.nY L x z/\Below w.heap.size w w':=by
 have HB:=hZ (bZ _ _ h0);rcases h.form with⟨rfl,rfl⟩|⟨g,cap,rfl,hb,hg,hc⟩
 ·have FIN:Hid (Mo.nY [] x (-1)):=hZ (.inr ⟨rfl,fun j m' e=>by simp at e⟩);clear h;go_in
  go_wp2_with fail
  go_loopw [5,8] (fun _ i wr=>i= .int .i64 0/\wr=w) (fun _ i _=>0)
  case atStart=>exact⟨rfl,rfl⟩
  case round=>
   obtain⟨rfl,hw⟩:=hrel;subst hw;go_wp2
   go_ret
   exact⟨_,rfl,FIN.out,aQ _ _⟩
 ·have HR:=hZ h;have HX:=hZ (aK h0 h1);obtain⟨N,hN⟩:=nJ (L.length);have HN:=hZ hN;rw[hN]at h6 HR|-;clear h h0 h1 hc hN hb hg;go_in
  go_wp2_with fail
  go_loopw [5,8] (fun _ i wr=> ∃(j:Nat),i= .int .i64 j/\j<=N/\Hid (Below w.heap.size w wr/\ ∀(y:Nat) (m':Mt),y<j->L[y]? =some m'->m'.1≠x)) (fun _ i _=>N-(intOf i).toNat)
  case atStart=>exact⟨0,rfl,by omega,aQ _ _,fun y _ hy=>by omega⟩
  case round=>
   obtain⟨j,rfl,hj,R⟩:=hrel;by_cases hlt:j<N
   ·have hltI:(j:Int)<(N:Int):=by omega
    obtain⟨m,hm⟩: ∃m,L[j]? =some m:=⟨L[j]'(by rw[HN.out];exact hlt),aW _⟩;have HM:=hZ hm;have RR:=HR.out.below R.out.1;have c0:wr.cell? ⟨g,j*4,none⟩=some (.int .i64 m.1.1):=RR.cell j 0 m hm (by omega);have c1:wr.cell? ⟨g,j*4+1,none⟩=some (.int .i64 m.1.2):=RR.cell j 1 m hm (by omega);have c2:wr.cell? ⟨g,j*4+2,none⟩=some (.int .i64 m.2.1):=RR.cell j 2 m hm (by omega);have c3:wr.cell? ⟨g,j*4+3,none⟩=some (.int .i64 m.2.2):=RR.cell j 3 m hm (by omega);clear RR hm;go_wp2_with fail
    refine(KV bx m x _ ((R.out.1.cell HB.out).trans HX.out.1) ((R.out.1.cell HB.out).trans HX.out.2) (aD HB.out R.out.1.size)).mono ?_;rintro e w1 ⟨rfl,b1⟩;have B1:=hZ (R.out.1.trans (b1.mono R.out.1.size));clear b1 c0 c1 c2 c3;by_cases e:m.1=x
    ·have FIN:Hid (Mo.nY L x (j:Int)):=hZ (.inl ⟨j,rfl,m,HM.out,e,R.out.2⟩);rw[aO e];clear e;go_wp2
     go_ret
     exact⟨_,rfl,FIN.out,B1.out⟩
    ·have NX:Hid (∀(y:Nat) (m':Mt),y<j+1->L[y]? =some m'->m'.1≠x):=hZ (fun y m' hy hm'=>by
      by_cases d:y=j
      ·subst d;have:=HM.out;rw[hm']at this;cases this;exact e
      ·exact R.out.2 y m' (by omega) hm')
     rw[aT e];clear e;go_wp2
     go_roundw
     case rel=>exact⟨j+1,by go_num,by omega,B1.out,NX.out⟩
     case measure=>simp[intOf];omega
   ·have hltI: ¬(j:Int)<(N:Int):=by omega
    have FIN:Hid (Mo.nY L x (-1)):=hZ (.inr ⟨rfl,fun y m' hy=>R.out.2 y m' (by have:=(aY.1 hy).1;rw[HN.out]at this;omega) hy⟩);go_wp2
    go_ret
    exact⟨_,rfl,FIN.out,R.out.1⟩
theorem PK (w:bD)(x:Wh):(w.alloc (.cells #[.int .i64 x.1, .int .i64 x.2] 224)).cell? ⟨w.heap.size,0,none⟩=some (.int .i64 x.1)/\(w.alloc (.cells #[.int .i64 x.1, .int .i64 x.2] 224)).cell? ⟨w.heap.size,1,none⟩=some (.int .i64 x.2):=by
 rw[au (heap_alloc_new w _),au (heap_alloc_new w _)];exact⟨rfl,rfl⟩
theorem p8 (base b f:Nat)(T:Tb)(v:Value)(x:Wh)(w:bD)(h:bd w base b f T v):
  Calls Tryz.prog 262 #[.pointer (some ⟨b,0,none⟩), .agg #[.int .i64 x.1, .int .i64 x.2]] w fun e w'=> ∃z:Int,e= .returned (.int .i64 z)/\Mo.nY T.ms x z/\Below w.heap.size w w':=by
 obtain⟨va,vc,hv⟩:=h.row.sl;have HV:=hZ hv;have bb:Below w.heap.size w (w.alloc (.cells #[.int .i64 x.1, .int .i64 x.2] 224)):=(aQ _ _).alloc (aL _) _;have S1:=hZ (aK (h.below bb) bb);have BX:=hZ (PK w x);have c3:=h.c3;rw[hv]at c3;have hl:=h.lt;have hne:b≠w.heap.size:=by omega
 clear h bb hv;go_in
 go_wp2_with fail
 rw[<-HV.out];refine(Fk w.heap.size base T.ms v x _ S1.out.1.row BX.out.1 BX.out.2 S1.out.1.qB).mono ?_;rintro e w1 ⟨z,rfl,hz,b1⟩;have FIN:=hZ (aK hz (S1.out.2.trans (b1.mono S1.out.2.size)));clear hz b1;go_wp2
 go_ret
 exact⟨z,rfl,FIN.out⟩
def WB (w:bD)(c:Nat)(x:Wh):Prop:=w.heap[c]? =some (.cells #[.int .i64 x.1, .int .i64 x.2] 224 (0,0))
section
variable {w w' : bD} {c : Nat} {x : Wh}
theorem WB.c0 (h:WB w c x):w.cell? ⟨c,0,none⟩=some (.int .i64 x.1):=by rw[au h];rfl
theorem WB.c1 (h:WB w c x):w.cell? ⟨c,1,none⟩=some (.int .i64 x.2):=by rw[au h];rfl
theorem WB.fz (h:WB w c x)(o:Nat):w.frozen? ⟨c,o,none⟩=false:=bf h o
theorem WB.lt (h:WB w c x):c<w.heap.size:=(aX.1 h).1
theorem WB.set (h:WB w c x)(y:Wh):WB ((w.setCell ⟨c,0,none⟩ (.int .i64 y.1)).setCell ⟨c,1,none⟩ (.int .i64 y.2)) c y/\af c w ((w.setCell ⟨c,0,none⟩ (.int .i64 y.1)).setCell ⟨c,1,none⟩ (.int .i64 y.2)):=
 ⟨bC (bC h 0 _) 1 _,((af.refl c w).setCell _ _).setCell _ _⟩
theorem WB.same (h:WB w c x)(e:w'.heap[c]? =w.heap[c]?):WB w' c x:=e.trans h
theorem WB.below (h:WB w c x)(k:Below w.heap.size w w'):WB w' c x:=h.same (k.block c h.lt)
end
theorem IC (w:bD)(x:Wh):WB ((w.alloc (.cells #[.int .i64 x.1, .int .i64 x.2] 224)).alloc (.cells #[.int .i64 0, .int .i64 0] 224)) w.heap.size x/\WB ((w.alloc (.cells #[.int .i64 x.1, .int .i64 x.2] 224)).alloc (.cells #[.int .i64 0, .int .i64 0] 224)) (w.heap.size+1) (0,0)/\Below w.heap.size w ((w.alloc (.cells #[.int .i64 x.1, .int .i64 x.2] 224)).alloc (.cells #[.int .i64 0, .int .i64 0] 224)):=by
 refine⟨?_,?_,((aQ _ w).alloc (aL _) _).alloc (by simp) _⟩
 ·show((w.heap.push _).push _)[w.heap.size]? =_;simp only[bJ,Array.size_push];rw[aI (by omega),aJ trivial]
 ·show((w.heap.push _).push _)[w.heap.size+1]? =_;simp only[bJ,Array.size_push];rw[aJ trivial]
theorem Bp (base b f:Nat)(T:Tb)(v:Value)(x:Wh)(w:bD)(h:bd w base b f T v):
  Calls Tryz.prog 281 #[.pointer (some ⟨b,0,none⟩), .agg #[.int .i64 x.1, .int .i64 x.2]] w fun e w'=>e= .returned (.agg #[.int .i64 (Mo.sn T.ms x).1, .int .i64 (Mo.sn T.ms x).2])/\Below w.heap.size w w':=by
 have HT:=hZ h;have BX:=hZ (IC w x);clear h;go_in
 go_upto_region 1 with fail
 refine bw (fun W'=>WB W' w.heap.size x/\WB W' (w.heap.size+1) (0,0)/\Below w.heap.size w W') BX.out ?_;intro W1 h1;have S1:Hid (WB W1 w.heap.size x/\WB W1 (w.heap.size+1) (0,0)/\Below w.heap.size w W1):=hZ h1;clear h1 BX;obtain⟨bx,hbx⟩:=nJ (w.heap.size);have HBX:=hZ hbx;have LE:Hid (∀W,Below bx w W->bx<=W.heap.size):=hZ (fun W h=>by have:=h.size;rw[hbx]at this;exact this);rw[hbx]at S1|-;clear hbx;go_wp2_with fail
 go_loopw [5,6] (fun _ i wr=> ∃(k:Nat) (y:Wh),i= .int .i64 k/\k<=6/\Hid (WB wr bx y/\WB wr (bx+1) (0,0)/\Below bx w wr/\Mo.vR T.ms (6-k) y=Mo.sn T.ms x)) (fun _ i _=>6-(intOf i).toNat)
 case atStart=>exact⟨0,x,rfl,by omega,hZ ⟨S1.out.1,S1.out.2.1,S1.out.2.2,rfl⟩⟩
 case round=>
  clear S1;obtain⟨k,y,rfl,hk,S⟩:=hrel;have RET:Hid (∀W,WB W (bx+1) (0,0)->Below bx w W->WB ((W.setCell ⟨bx+1,0,none⟩ (.int .i64 y.1)).setCell ⟨bx+1,1,none⟩ (.int .i64 y.2)) (bx+1) y/\Below bx w ((W.setCell ⟨bx+1,0,none⟩ (.int .i64 y.1)).setCell ⟨bx+1,1,none⟩ (.int .i64 y.2))):=hZ (fun W hW hb=>by
   have:=hW.set y;exact⟨this.1,this.2.below hb (by omega) (LE.out _ hb)⟩)
  by_cases hlt:k<6
  ·have hltI:(k:Int)<6:=by omega
   have c0:=S.out.1.c0;have c1:=S.out.1.c1;go_wp2_with fail
   refine(p8 base b f T v y _ (HT.out.below (by have:=HBX.out;subst this;exact S.out.2.2.1))).mono ?_;rintro e W2 ⟨z,rfl,hz,b2⟩;have S2:Hid (WB W2 bx y/\WB W2 (bx+1) (0,0)/\Below bx w W2):=hZ ⟨S.out.1.below b2,S.out.2.1.below b2,S.out.2.2.1.trans (b2.mono (LE.out _ S.out.2.2.1))⟩;clear b2 c0 c1;rcases hz.find with⟨i,rfl,il,m,hm,hl⟩|⟨rfl,hl⟩
   ·have i0: ¬(i:Int)<0:=by omega
    have T2:=HT.out.below (show Below w.heap.size w W2 by rw[HBX.out];exact S2.out.2.2);have NX:Hid (Mo.vR T.ms (6-(k+1)) m.2=Mo.sn T.ms x):=hZ (by
     rw[<-S.out.2.2.2,show 6-k=(6-(k+1))+1 by omega,Mo.I1 hl])
    rcases T2.row.form with⟨_,e⟩|⟨g,cap,hv,hb,hg,hcap⟩
    ·rw[e]at il;simp at il
    ·have c3:=T2.c3;rw[hv]at c3;have r2:=T2.row;rw[hv]at r2;have d2:W2.cell? ⟨g,i*4+2,none⟩=some (.int .i64 m.2.1):=r2.cell i 2 m hm (by omega);have d3:W2.cell? ⟨g,i*4+3,none⟩=some (.int .i64 m.2.2):=r2.cell i 3 m hm (by omega);have x0:=S2.out.1.c0;have x1:=S2.out.1.c1;have xf:=S2.out.1.fz;have il':(i:Int)<(T.ms.length:Int):=by omega
     have S3:Hid (WB ((W2.setCell ⟨bx,0,none⟩ (.int .i64 m.2.1)).setCell ⟨bx,1,none⟩ (.int .i64 m.2.2)) bx m.2/\WB ((W2.setCell ⟨bx,0,none⟩ (.int .i64 m.2.1)).setCell ⟨bx,1,none⟩ (.int .i64 m.2.2)) (bx+1) (0,0)/\Below bx w ((W2.setCell ⟨bx,0,none⟩ (.int .i64 m.2.1)).setCell ⟨bx,1,none⟩ (.int .i64 m.2.2))):=hZ (by
      have:=S2.out.1.set m.2;exact⟨this.1,S2.out.2.1.same (this.2.block _ S2.out.2.1.lt (by omega)),this.2.below S2.out.2.2 (aL _) (LE.out _ S2.out.2.2)⟩)
     clear hz hl hm hb hg hcap hv r2 T2;go_wp2
     go_roundw
     case rel=>exact⟨k+1,m.2,by go_num,by omega,hZ ⟨S3.out.1,S3.out.2.1,S3.out.2.2,NX.out⟩⟩
     case measure=>simp[intOf];omega
   ·have FIN:Hid (Mo.sn T.ms x=y):=hZ (by rw[<-S.out.2.2.2,Mo.Jy hl]);have x0:=S2.out.1.c0;have x1:=S2.out.1.c1;have y0:=S2.out.2.1.c0;have y1:=S2.out.2.1.c1;have yf:=S2.out.2.1.fz;have R:=hZ (RET.out W2 S2.out.2.1 S2.out.2.2);clear hz hl RET;go_wp2_with fail
    generalize hWF:(W2.setCell ⟨bx+1,0,none⟩ (.int .i64 y.1)).setCell ⟨bx+1,1,none⟩ (.int .i64 y.2)=WF at R|-;have z0:=R.out.1.c0;have z1:=R.out.1.c1;refine bodyPost_ret (v:= .agg #[.int .i64 y.1, .int .i64 y.2]) (by simp[results,Tryz.f281,go_sem,z0,z1]) rfl ?_;rw[FIN.out,HBX.out];exact⟨rfl,R.out.2⟩
  ·have hltI: ¬(k:Int)<6:=by omega
   have FIN:Hid (Mo.sn T.ms x=y):=hZ (by rw[<-S.out.2.2.2,show 6-k=0 by omega];rfl);have x0:=S.out.1.c0;have x1:=S.out.1.c1;have y0:=S.out.2.1.c0;have y1:=S.out.2.1.c1;have yf:=S.out.2.1.fz;have R:=hZ (RET.out wr S.out.2.1 S.out.2.2.1);clear RET;go_wp2_with fail
   generalize hWF:(wr.setCell ⟨bx+1,0,none⟩ (.int .i64 y.1)).setCell ⟨bx+1,1,none⟩ (.int .i64 y.2)=WF at R|-;have z0:=R.out.1.c0;have z1:=R.out.1.c1;refine bodyPost_ret (v:= .agg #[.int .i64 y.1, .int .i64 y.2]) (by simp[results,Tryz.f281,go_sem,z0,z1]) rfl ?_;rw[FIN.out,HBX.out];exact⟨rfl,R.out.2⟩
def Mo.st (x:Wh)(K:Nat)(E:Int):Wh:=if E=0 then(x.1,(K:Int))else(0,0)
theorem BM (base b f:Nat)(T:Tb)(v:Value)(F:Fo)(x:Wh)(s:bU)(w:bD)(h:bd w base b f T v)(hF:ar w f F)(hs:Tr.jD F):
  Calls Tryz.prog 260 #[.pointer (some ⟨b,0,none⟩), .agg #[.int .i64 x.1, .int .i64 x.2], .string s] w fun e w'=> ∃(K:Nat) (E:Int),e= .returned (.tuple #[.agg #[.int .i64 (Mo.st x K E).1, .int .i64 (Mo.st x K E).2],aq E])/\Tr.jL F x.2 s K E/\Below w.heap.size w w':=by
 have HT:=hZ (aK h hF);have HS:=hZ hs;have BX:=hZ (IC w x);clear h hF hs;go_in
 go_upto_region 1 with fail
 refine bw (fun W'=>WB W' w.heap.size x/\WB W' (w.heap.size+1) (0,0)/\Below w.heap.size w W') BX.out ?_;intro W1 h1;have S1:Hid (WB W1 w.heap.size x/\WB W1 (w.heap.size+1) (0,0)/\Below w.heap.size w W1):=hZ h1;have T1:=hZ (aK (HT.out.1.below h1.2.2) (HT.out.2.below h1.2.2));clear h1 BX;obtain⟨bx,hbx⟩:=nJ (w.heap.size);have HBX:=hZ hbx;have LE:Hid (∀W,Below bx w W->bx<=W.heap.size):=hZ (fun W h=>by have:=h.size;rw[hbx]at this;exact this);rw[hbx]at S1|-;clear hbx HT;have K0:Hid (W1.cell? ⟨b,0,none⟩=some (.pointer (some ⟨f,0,none⟩))/\W1.cell? ⟨bx,1,none⟩=some (.int .i64 x.2)):=hZ ⟨T1.out.1.c0,S1.out.1.c1⟩;have KF:Hid (∀w':bD,Below W1.heap.size W1 w'->w'.cell? ⟨b,0,none⟩=some (.pointer (some ⟨f,0,none⟩))/\w'.cell? ⟨bx,1,none⟩=some (.int .i64 x.2)):=hZ (fun w' k=>⟨(T1.out.1.below k).c0,(S1.out.1.below k).c1⟩);go_upto_region 1 with fail
 go_region_held3 (fun w'=>w'.cell? ⟨b,0,none⟩=some (.pointer (some ⟨f,0,none⟩))/\w'.cell? ⟨bx,1,none⟩=some (.int .i64 x.2)) (first|exact K0.out|exact K4.out) ((go_at_call 251;refine(se f x.2 s F _ T1.out.2.drew HS.out).mono ?_;rintro e w4 ⟨K,E,rfl,hf,b4⟩;have b5:Below W1.heap.size W1 w4:=⟨b4.os,b4.tape,b4.output,b4.size,b4.block⟩;have K4:=hZ (KF.out w4 b5);have P4:Hid (Tr.jL F x.2 s K E/\Below W1.heap.size W1 w4):=hZ ⟨hf,b5⟩;clear hf b4 b5))
 have S4:Hid (WB w4 bx x/\WB w4 (bx+1) (0,0)/\Below bx w w4):=hZ ⟨S1.out.1.below P4.out.2,S1.out.2.1.below P4.out.2,S1.out.2.2.trans (P4.out.2.mono (LE.out _ S1.out.2.2))⟩;have RET:Hid (∀y:Wh,WB ((w4.setCell ⟨bx+1,0,none⟩ (.int .i64 y.1)).setCell ⟨bx+1,1,none⟩ (.int .i64 y.2)) (bx+1) y/\Below bx w ((w4.setCell ⟨bx+1,0,none⟩ (.int .i64 y.1)).setCell ⟨bx+1,1,none⟩ (.int .i64 y.2))):=hZ (fun y=>by
  have:=S4.out.2.1.set y;exact⟨this.1,this.2.below S4.out.2.2 (by omega) (LE.out _ S4.out.2.2)⟩)
 have y0:=S4.out.2.1.c0;have y1:=S4.out.2.1.c1;have yf:=S4.out.2.1.fz;have x0:=S4.out.1.c0;by_cases e0:E=0
 ·have R:=hZ (RET.out (x.1,(K:Int)));have FIN:Hid (Mo.st x K E=(x.1,(K:Int))/\aq E= .nilIface):=hZ ⟨aJ e0,by rw[e0];rfl⟩;rw[FIN.out.2];clear e0 RET K4;go_wp2_with fail
  generalize hWF:(w4.setCell ⟨bx+1,0,none⟩ (.int .i64 x.1)).setCell ⟨bx+1,1,none⟩ (.int .i64 (K:Int))=WF at R|-;have z0:=R.out.1.c0;have z1:=R.out.1.c1;refine bodyPost_ret (v:= .tuple #[.agg #[.int .i64 x.1, .int .i64 (K:Int)], .nilIface]) (by simp[results,Tryz.f260,go_sem,z0,z1]) rfl ?_;refine⟨K,E,?_,P4.out.1,by rw[HBX.out];exact R.out.2⟩;rw[FIN.out.1,FIN.out.2]
 ·have R:=hZ (RET.out (0,0));have FIN:Hid (Mo.st x K E=(0,0)/\aq E= .iface 100 (.int .i64 E)):=hZ ⟨aI e0,aj e0⟩;rw[FIN.out.2];clear e0 RET K4;go_wp2_with fail
  generalize hWF:(w4.setCell ⟨bx+1,0,none⟩ (.int .i64 0)).setCell ⟨bx+1,1,none⟩ (.int .i64 0)=WF at R|-;have z0:=R.out.1.c0;have z1:=R.out.1.c1;refine bodyPost_ret (v:= .tuple #[.agg #[.int .i64 0, .int .i64 0], .iface 100 (.int .i64 E)]) (by simp[results,Tryz.f260,go_sem,z0,z1]) rfl ?_;refine⟨K,E,?_,P4.out.1,by rw[HBX.out];exact R.out.2⟩;rw[FIN.out.1,FIN.out.2]
namespace Mo
def lG (L:List Wh):List Value:=L.flatMap fun x=>[Value.int .i64 x.1, .int .i64 x.2]
theorem Ni (L M:List Wh):lG (L++M)=lG L++lG M:=List.flatMap_append
theorem MJ (x:Wh):lG [x]=[.int .i64 x.1, .int .i64 x.2]:=by simp[lG]
theorem xH: ∀L:List Wh,(lG L).length=L.length*2
 |[]=>rfl
 |x::L=>by
  show([Value.int .i64 x.1, .int .i64 x.2]++lG L).length=(L.length+1)*2;rw[List.length_append,xH L];grind
theorem Ii: ∀(L:List Wh) (i j:Nat) (x:Wh),L[i]? =some x->j<2->(lG L)[i*2+j]? =[Value.int .i64 x.1, .int .i64 x.2][j]?
 |[],_,_,_,h,_=>by simp at h
 |y::L,0,j,x,h,hj=>by
  grind [lG]
 |y::L,i+1,j,x,h,hj=>by
  show([Value.int .i64 y.1, .int .i64 y.2]++lG L)[(i+1)*2+j]? =_;rw[List.getElem?_append_right (by show 2<=_;omega)];show(lG L)[(i+1)*2+j-2]? =_;rw[show(i+1)*2+j-2=i*2+j by omega];exact Ii L i j x h hj
theorem zV: ∀(L:List Wh) (n:Nat),lG (L.take n)=(lG L).take (n*2)
 |[],n=>by simp[lG]
 |x::L,0=>by simp[lG]
 |x::L,n+1=>by
  show[Value.int .i64 x.1, .int .i64 x.2]++lG (L.take n)=([Value.int .i64 x.1, .int .i64 x.2]++lG L).take ((n+1)*2);rw[zV L n,show(n+1)*2=n*2+2 by omega];rfl
def j4 (W:List Wh):Wh:=W.getLast?.getD (0,0)
def bk (W:List Wh):List Wh:=W.take (max (W.length-1) 1)
def Bb (s:bU):Bool:=s.toList==[46,46]
theorem Ot {W:List Wh}{k:Nat}(h:W.length=k+1):W[k]? =some (j4 W):=by grind [j4]
def ko (F:Fo)(L:List Mt):List bU->List Wh->List Wh->Int->Prop
 |[],W,W',E=>W'=W/\E=0
 |s::r,W,W',E=>(Bb s=true/\ko F L r (bk W) W' E)\/(Bb s=false/\ ∃(K:Nat) (e:Int),Tr.jL F (j4 W).2 s K e/\((e≠0/\W'=[(0,0)]/\E=e)\/(e=0/\ko F L r (W++[sn L ((j4 W).1,(K:Int))]) W' E)))
end Mo
def iP (w:bD)(base:Nat)(W:List Wh)(v:Value):Prop:=w.ownsRow base 224 2 v W.length (Mo.lG W)
section
variable {w w' : bD} {base : Nat} {W : List Wh} {v : Value}
theorem iP.form (h:iP w base W v)(h1:1<=W.length): ∃g cap,v= .slice (some ⟨g,0,none⟩) W.length cap/\base<=g/\g<w.heap.size/\W.length<=cap:=by
 rcases h.2 with⟨_,e⟩|⟨g,cap,cur,e,hb,hg,h1,_⟩
 ·omega
 grind
theorem iP.below (h:iP w base W v)(k:Below w.heap.size w w'):iP w' base W v:=by
 refine⟨h.1,?_⟩;rcases h.2 with hn|⟨g,cap,cur,e,hb,hg,h1⟩
 ·exact .inl hn
 ·exact .inr ⟨g,cap,cur,e,hb,by rw[k.block g (aX.1 hg).1];exact hg,h1⟩
theorem iP.cell {g n cap:Nat}(h:iP w base W (.slice (some ⟨g,0,none⟩) n cap))(i j:Nat)(x:Wh)(hi:W[i]? =some x)(hj:j<2):w.cell? ⟨g,i*2+j,none⟩=[Value.int .i64 x.1, .int .i64 x.2][j]? :=by
 rcases h.2 with⟨e,_⟩|⟨g',cap',cur,e,hb,hg,h1,h2,h3,h4⟩
 ·cases e
 ·cases e;rw[au hg,<-Mo.Ii W i j x hi hj,<-h4];grind
theorem iP.cut {g cap:Nat}(h:iP w base W (.slice (some ⟨g,0,none⟩) W.length cap))(n:Nat)(hn:n<=W.length):iP w base (W.take n) (.slice (some ⟨g,0,none⟩) n cap):=by
 have hl:(W.take n).length=n:=by rw[List.length_take];omega
 unfold iP;rw[hl];refine⟨by rw[Mo.xH,hl],?_⟩;rcases h.2 with⟨e,_⟩|⟨g',cap',cur,e,hb,hg,h1,h2,h3,h4⟩
 ·cases e
 ·cases e;refine .inr ⟨g,cap,cur,rfl,hb,hg,by omega,h2,h3,?_⟩;rw[Mo.zV,<-h4,List.take_take,Nat.min_eq_left (by omega)]
end
theorem Oa: ∃i z,Tryz.prog.info? 224=some i/\i.zero=some z/\i.size=2/\i.bytes=16/\z.cells.size=2:=by
 have h:(Tryz.prog.info? 224).map (fun i=>(i.size,i.bytes,i.zero.map (fun z=>z.cells.size)))=some (2,16,some 2):=by kernel_rfl
 cases hi:Tryz.prog.info? 224 with
 |none=>rw[hi]at h;cases h
 |some i=>
  rw[hi]at h;simp only[Option.map_some,Option.some.injEq,Prod.mk.injEq]at h;obtain⟨h1,h2,h3⟩:=h;cases hz:i.zero with
  |none=>rw[hz]at h3;cases h3
  |some z=>
   grind
theorem Bx: ∃i z,Tryz.prog.info? 273=some i/\i.zero=some z/\i.size=4/\i.bytes=32/\z.cells.size=4:=by
 have h:(Tryz.prog.info? 273).map (fun i=>(i.size,i.bytes,i.zero.map (fun z=>z.cells.size)))=some (4,32,some 4):=by kernel_rfl
 cases hi:Tryz.prog.info? 273 with
 |none=>rw[hi]at h;cases h
 |some i=>
  rw[hi]at h;simp only[Option.map_some,Option.some.injEq,Prod.mk.injEq]at h;obtain⟨h1,h2,h3⟩:=h;cases hz:i.zero with
  |none=>rw[hz]at h3;cases h3
  |some z=>
   grind
def NS (w:bD)(v:Value)(ns:List bU):Prop:= ∃a c,v= .slice a ns.length c/\ns.length<=c/\(ns≠[]-> ∃nb no,a=some ⟨nb,no,none⟩/\ ∀(i:Nat) (s:bU),ns[i]? =some s->w.cell? ⟨nb,no+i,none⟩=some (.string s))
theorem NS.below {w w':bD}{v:Value}{ns:List bU}(h:NS w v ns)(k:Below w.heap.size w w'):NS w' v ns:=by
 obtain⟨a,c,hv,hc,hx⟩:=h;refine⟨a,c,hv,hc,fun hn=>?_⟩;obtain⟨nb,no,ha,hcell⟩:=hx hn;exact⟨nb,no,ha,fun i s hi=>by
  have:=hcell i s hi;rw[k.cell (p:=⟨nb,no+i,none⟩) (bZ _ _ this)];exact this⟩
theorem vQ (base b f:Nat)(T:Tb)(v:Value)(F:Fo)(ns:List bU)(vn:Value)(w:bD)(h:bd w base b f T v)(hF:ar w f F)(hs:Tr.jD F)(hn:NS w vn ns)(hl:ns.length<=100):
  Calls Tryz.prog 250 #[.pointer (some ⟨b,0,none⟩),vn] w fun e w'=> ∃(W:List Wh) (E:Int),e= .returned (.tuple #[.agg #[.int .i64 (Mo.j4 W).1, .int .i64 (Mo.j4 W).2],aq E])/\Mo.ko F T.ms ns [Mo.sn T.ms T.rt] W E/\Below w.heap.size w w':=by
 have HT:=hZ (aK h (aK hF (aK hs hn)));obtain⟨na,nc,hvn,hnc,hx⟩:=hn;have HX:=hZ hx;subst hvn;clear h hF hs hx hnc;obtain⟨i0,z0,hi0,hz0,hz1,hz2,hz3⟩:=Oa;obtain⟨N,hN⟩:=nJ (ns.length);have HN:=hZ hN;rw[hN]at hl|-;clear hN;have A1:Hid (WB (w.alloc (.cells #[.int .i64 0, .int .i64 0] 224)) w.heap.size (0,0)/\Below w.heap.size w (w.alloc (.cells #[.int .i64 0, .int .i64 0] 224))):=hZ ⟨heap_alloc_new w _,(aQ _ _).alloc (aL _) _⟩;go_in
 go_upto_region 1 with fail
 refine bw (fun W'=>WB W' w.heap.size (0,0)/\Below w.heap.size w W') A1.out ?_;rintro W1 h1;have S1:=hZ h1;have T1:=hZ (HT.out.1.below h1.2);clear h1 A1;have c1:=T1.out.c1;have c2:=T1.out.c2;go_wp2_with fail
 refine(Bp base b f T v T.rt _ T1.out).mono ?_;rintro e W2 ⟨rfl,b2⟩;have S2:Hid (WB W2 w.heap.size (0,0)/\Below w.heap.size w W2):=hZ ⟨S1.out.1.below b2,S1.out.2.trans (b2.mono S1.out.2.size)⟩;clear b2 c1 c2 S1 T1;obtain⟨q0,hq0⟩:=nJ (Mo.sn T.ms T.rt);have HQ:=hZ hq0;rw[hq0];clear hq0;have A3:Hid (iP (W2.alloc (.cells #[.int .i64 q0.1, .int .i64 q0.2] 224)) (w.heap.size+1) [q0] (.slice (some ⟨W2.heap.size,0,none⟩) 1 1)/\WB (W2.alloc (.cells #[.int .i64 q0.1, .int .i64 q0.2] 224)) w.heap.size (0,0)/\Below w.heap.size w (W2.alloc (.cells #[.int .i64 q0.1, .int .i64 q0.2] 224))):=hZ (by
  have bb:Below W2.heap.size W2 (W2.alloc (.cells #[.int .i64 q0.1, .int .i64 q0.2] 224)):=(aQ _ _).alloc (aL _) _;refine⟨⟨by rw[Mo.xH], .inr ⟨W2.heap.size,1,_,rfl,S2.out.1.lt,heap_alloc_new W2 _,aL _,by decide,rfl,rfl⟩⟩,S2.out.1.below bb,S2.out.2.trans (bb.mono S2.out.2.size)⟩)
 go_upto_region 2 with fail
 refine bw (fun W'=>iP W' (w.heap.size+1) [q0] (.slice (some ⟨W2.heap.size,0,none⟩) 1 1)/\WB W' w.heap.size (0,0)/\Below w.heap.size w W') A3.out ?_;rintro W3 h3;have S3:=hZ h3;clear h3 A3 S2;obtain⟨rx,hrx⟩:=nJ (w.heap.size);have HRX:=hZ hrx;have LE:Hid (∀W,Below rx w W->rx<=W.heap.size/\bd W base b f T v/\ar W f F/\NS W (.slice na N nc) ns):=hZ (fun W h=>by
  have e:=h.size;rw[hrx]at e;subst hrx;exact⟨e,HT.out.1.below h,HT.out.2.1.below h,by have:=HT.out.2.2.2.below h;rw[HN.out]at this;exact this⟩)
 rw[hrx]at S3|-;generalize W2.heap.size=g0 at*;clear hrx;go_wp2_with fail
 go_loopw [6,8,9,10,11,21] (fun vw _ _ _ _ i wr=> ∃(j:Nat) (W:List Wh),i= .int .i64 j/\j<=N/\1<=W.length/\W.length<=j+1/\Hid (iP wr (rx+1) W vw/\WB wr rx (0,0)/\Below rx w wr/\ ∀W' E,Mo.ko F T.ms (ns.drop j) W W' E->Mo.ko F T.ms ns [q0] W' E)) (fun _ _ _ _ _ i _=>N-(intOf i).toNat)
 case atStart=>exact⟨0,[q0],rfl,by omega,by simp,by simp,hZ ⟨S3.out.1,S3.out.2.1,S3.out.2.2,fun W' E h=>h⟩⟩
 case round=>
  clear S3;obtain⟨j,W,rfl,hj,w1,wj,S⟩:=hrel;obtain⟨k,hk⟩: ∃k,W.length=k+1:=⟨W.length-1,by omega⟩;obtain⟨g,cap,hv,hb,hg,hcap⟩:=S.out.1.form w1;have HW:=hZ hk;have S':=S.out;rw[hv,hk]at S';have SS:=hZ S';have HG:=hZ (aK hb hg);subst hv;rw[hk]at wj hcap|-;clear S S' w1 hk hb hg;have k100:k<=100:=by omega
  have hw2:IntKind.i64.wrap (((k+1:Nat):Int)-1)=(k:Int):=by rw[aN _ ⟨by omega,by omega⟩];omega
  have LA:=hZ (Mo.Ot HW.out);by_cases hlt:j<N
  ·have hltI:(j:Int)<(N:Int):=by omega
   obtain⟨s,hsj⟩: ∃s,ns[j]? =some s:=⟨ns[j]'(by rw[HN.out];exact hlt),aW _⟩;have DR:Hid (ns.drop j=s::ns.drop (j+1)):=hZ (by
    obtain⟨h1,h2⟩:=aY.1 hsj;rw[List.drop_eq_getElem_cons h1,h2])
   obtain⟨nb,no,hna,hnc⟩:=HX.out (fun e=>by rw[e]at hsj;simp at hsj);subst hna;have LL:=LE.out _ SS.out.2.2.1;have cs:wr.cell? ⟨nb,no+j,none⟩=some (.string s):=by
    obtain⟨_,_,e,_,hx⟩:=LL.2.2.2;obtain⟨nb',no',e',hc'⟩:=hx (fun e=>by rw[e]at hsj;simp at hsj);cases e;cases e';exact hc' j s hsj
   clear hsj LL hnc;have DD:Hid (wr.cell? ⟨g,k*2,none⟩=some (.int .i64 (Mo.j4 W).1)/\wr.cell? ⟨g,k*2+1,none⟩=some (.int .i64 (Mo.j4 W).2)):=hZ ⟨SS.out.1.cell k 0 _ LA.out (by omega),SS.out.1.cell k 1 _ LA.out (by omega)⟩;by_cases bkS:(s.toList==[46,46])=true
   ·have NX:Hid (iP wr (rx+1) (Mo.bk W) (.slice (some ⟨g,0,none⟩) (max k 1) cap)/\(Mo.bk W).length=max k 1/\ ∀W' E,Mo.ko F T.ms (ns.drop (j+1)) (Mo.bk W) W' E->Mo.ko F T.ms ns [q0] W' E):=hZ (by
     have r:=SS.out.1;rw[<-HW.out]at r;have c:=r.cut (max k 1) (by rw[HW.out];omega);have e:Mo.bk W=W.take (max k 1):=by unfold Mo.bk;rw[HW.out,aP]
     rw[e];refine⟨c,by rw[List.length_take,HW.out];omega,fun W' E h=>SS.out.2.2.2 W' E ?_⟩;rw[DR.out];exact .inl ⟨bkS,by rw[e];exact h⟩)
    by_cases k0:k=0
    ·subst k0;rw[show max 0 1=1 from rfl]at NX;go_wp2
     go_roundw
     case rel=>exact⟨j+1,Mo.bk W,by go_num,by omega,by rw[NX.out.2.1];omega,by rw[NX.out.2.1];omega,hZ ⟨NX.out.1,SS.out.2.1,SS.out.2.2.1,NX.out.2.2⟩⟩
     case measure=>simp[intOf];omega
    ·rw[show max k 1=k by omega]at NX;have k1: ¬(k:Int)<1:=by omega
     have k2:(k:Int)<=(cap:Int):=by omega
     have k3:(if(1:Int)>(k:Int)then(1:Int)else(k:Int))=k:=aI (by omega);have k4:max (k:Int) 1=k:=by omega
     go_wp2
     go_roundw
     case rel=>exact⟨j+1,Mo.bk W,by go_num,by omega,by rw[NX.out.2.1];omega,by rw[NX.out.2.1];omega,hZ ⟨NX.out.1,SS.out.2.1,SS.out.2.2.1,NX.out.2.2⟩⟩
     case measure=>simp[intOf];omega
   ·have bk':(s.toList==[46,46])=false:=by simpa using bkS
    clear bkS;obtain⟨d0,d1⟩:=DD.out;obtain⟨y,hy⟩:=nJ (Mo.j4 W);have HY:=hZ hy;rw[hy]at d0 d1;clear hy DD;go_wp2_with fail
    refine(BM base b f T v F y s _ (LE.out _ SS.out.2.2.1).2.1 (LE.out _ SS.out.2.2.1).2.2.1 HT.out.2.2.1).mono ?_;rintro e W4 ⟨K,E,rfl,hf,b4⟩;have S4:Hid (iP W4 (rx+1) W (.slice (some ⟨g,0,none⟩) (k+1) cap)/\WB W4 rx (0,0)/\Below rx w W4):=hZ ⟨SS.out.1.below b4,SS.out.2.1.below b4,SS.out.2.2.1.trans (b4.mono (LE.out _ SS.out.2.2.1).1)⟩;have HFD:=hZ hf;clear hf b4 d0 d1 cs;by_cases e0:E=0
    ·subst e0;rw[show Mo.st y K 0=(y.1,(K:Int))from aJ rfl,aa];go_upto_region 9 with fail
     have A5:Hid (WB (W4.alloc (.cells #[.int .i64 y.1, .int .i64 (K:Int)] 224)) W4.heap.size (y.1,(K:Int))/\Below W4.heap.size W4 (W4.alloc (.cells #[.int .i64 y.1, .int .i64 (K:Int)] 224))):=hZ ⟨heap_alloc_new W4 _,(aQ _ _).alloc (aL _) _⟩;refine bw (fun W'=>WB W' W4.heap.size (y.1,(K:Int))/\Below W4.heap.size W4 W') A5.out ?_;rintro W5 ⟨n5,b5⟩;have S5:Hid (iP W5 (rx+1) W (.slice (some ⟨g,0,none⟩) (k+1) cap)/\WB W5 rx (0,0)/\Below rx w W5):=hZ ⟨S4.out.1.below b5,S4.out.2.1.below b5,S4.out.2.2.trans (b5.mono (LE.out _ S4.out.2.2).1)⟩;have n0:=n5.c0;have n1:=n5.c1;clear n5 b5 A5;generalize W4.heap.size=nx at*;clear S4;go_wp2_with fail
     refine(Bp base b f T v (y.1,(K:Int)) _ (LE.out _ S5.out.2.2).2.1).mono ?_;rintro e W6 ⟨rfl,b6⟩;have S6:Hid (iP W6 (rx+1) W (.slice (some ⟨g,0,none⟩) (k+1) cap)/\WB W6 rx (0,0)/\Below rx w W6):=hZ ⟨S5.out.1.below b6,S5.out.2.1.below b6,S5.out.2.2.trans (b6.mono (LE.out _ S5.out.2.2).1)⟩;clear b6 n0 n1 S5;obtain⟨q,hq⟩:=nJ (Mo.sn T.ms (y.1,(K:Int)));have NX:Hid (∀W' E,Mo.ko F T.ms (ns.drop (j+1)) (W++[q]) W' E->Mo.ko F T.ms ns [q0] W' E):=hZ (fun W' E h=>SS.out.2.2.2 W' E (by
      rw[DR.out];refine .inr ⟨bk',K,0,by rw[HY.out];exact HFD.out, .inr ⟨rfl,?_⟩⟩;rw[HY.out,hq];exact h))
     rw[hq];clear hq HFD;have MORE:Hid (∀g2 cap2 W7,W7.ownsRow (rx+1) 224 2 (.slice (some ⟨g2,0,none⟩) (k+1+1) cap2) (k+1+1) (Mo.lG W++[.int .i64 q.1, .int .i64 q.2])->(W6.alloc (.cells #[.int .i64 q.1, .int .i64 q.2] 224)).grownBy W7 (some g)->iP W7 (rx+1) (W++[q]) (.slice (some ⟨g2,0,none⟩) (k+1+1) cap2)/\WB W7 rx (0,0)/\Below rx w W7):=hZ (fun g2 cap2 W7 ho hg=>by
      have gl:=(S6.out.1.lt g rfl).1;have rl:=S6.out.2.1.lt;have bl:=S6.out.2.2;have bz:=(LE.out _ bl).1;have aw:Below rx w (W6.alloc (.cells #[.int .i64 q.1, .int .i64 q.2] 224)):=bl.alloc bz _;refine⟨?_,?_,aw.trans ⟨hg.os,hg.tape,hg.output,hg.size,fun n hn=>hg.block n (by simp;omega) (fun e=>by cases e;omega)⟩⟩
      ·unfold iP;rw[Mo.Ni,Mo.MJ,List.length_append,List.length_singleton,HW.out];exact ho
      ·have e1:=hg.block rx (by simp;omega) (fun e=>by cases e;omega);have e2:(W6.alloc (.cells #[.int .i64 q.1, .int .i64 q.2] 224)).heap[rx]? =W6.heap[rx]? :=((aQ W6.heap.size W6).alloc (aL _) _).block rx rl;exact(e1.trans e2).trans S6.out.2.1)
     go_wp2_with (at_builtin;refine wpList_append_lies _ rfl _ _ 300 (by rfl) (rx+1) 224 i0 z0 2 16 Tryz.underlying300 hi0 hz0 hz1 hz2 hz3 (by decide) (.slice (some ⟨g,0,none⟩) (k+1) cap) (k+1) (Mo.lG W) (by rfl) (by have:=S6.out.1;unfold iP at this;rw[HW.out]at this;exact this.alloc _) ⟨W6.heap.size,0,none⟩ 1 1 [.int .i64 q.1, .int .i64 q.2] (by rfl) rfl (World.news_of_block (heap_alloc_new W6 _)) (by simp[Value.oneCell']) (by decide) (by unfold maxLen;omega) (by omega) (by have:=S6.out.2.1.lt;simp;omega) (W6.heap.size+1) (by simp) ?_;intro gg cap2 W7 hown hgrow hat hlt2;have Q1:=hZ (MORE.out gg cap2 W7 hown hgrow);clear hown hgrow hat hlt2)
     go_roundw
     case rel=>exact⟨j+1,W++[q],by go_num,by omega,by simp,by simp;have:=HW.out;omega,hZ ⟨Q1.out.1,Q1.out.2.1,Q1.out.2.2,NX.out⟩⟩
     case measure=>simp[intOf];omega
    ·have FIN:Hid (Mo.ko F T.ms ns [q0] [(0,0)] E/\aq E= .iface 100 (.int .i64 E)):=hZ ⟨SS.out.2.2.2 _ _ (by rw[DR.out];exact .inr ⟨bk',K,E,by rw[HY.out];exact HFD.out, .inl ⟨e0,rfl,rfl⟩⟩),aj e0⟩;rw[show Mo.st y K E=(0,0)from aI e0,FIN.out.2];clear e0 HFD;go_upto_region 9 with fail
     refine bw (fun W'=>WB W' rx (0,0)/\Below rx w W') (by
      have bb:Below W4.heap.size W4 (W4.alloc (.cells #[.int .i64 0, .int .i64 0] 224)):=(aQ _ _).alloc (aL _) _;exact⟨S4.out.2.1.below bb,S4.out.2.2.trans (bb.mono (LE.out _ S4.out.2.2).1)⟩) ?_
     rintro W5 h5;have S5:=hZ h5;clear h5;have y0:=S5.out.1.c0;have y1:=S5.out.1.c1;have yf:=S5.out.1.fz;have R:Hid (WB ((W5.setCell ⟨rx,0,none⟩ (.int .i64 0)).setCell ⟨rx,1,none⟩ (.int .i64 0)) rx (0,0)/\Below rx w ((W5.setCell ⟨rx,0,none⟩ (.int .i64 0)).setCell ⟨rx,1,none⟩ (.int .i64 0))):=hZ (by
      have:=S5.out.1.set (0,0);exact⟨this.1,this.2.below S5.out.2 (aL _) (LE.out _ S5.out.2).1⟩)
     generalize W4.heap.size=nx at*;go_wp2_with fail
     generalize hWF:(W5.setCell ⟨rx,0,none⟩ (.int .i64 0)).setCell ⟨rx,1,none⟩ (.int .i64 0)=WF at R|-;have z0:=R.out.1.c0;have z1:=R.out.1.c1;refine bodyPost_ret (v:= .tuple #[.agg #[.int .i64 0, .int .i64 0], .iface 100 (.int .i64 E)]) (by simp[results,Tryz.f250,go_sem,z0,z1]) rfl ?_;rw[HRX.out,HQ.out];exact⟨[(0,0)],E,by rw[FIN.out.2];rfl,FIN.out.1,R.out.2⟩
  ·have hltI: ¬(j:Int)<(N:Int):=by omega
   have FIN:Hid (Mo.ko F T.ms ns [q0] W 0):=hZ (SS.out.2.2.2 W 0 (by rw[List.drop_of_length_le (by rw[HN.out];omega)];exact⟨rfl,rfl⟩));have d0:wr.cell? ⟨g,k*2,none⟩=some (.int .i64 (Mo.j4 W).1):=SS.out.1.cell k 0 _ LA.out (by omega);have d1:wr.cell? ⟨g,k*2+1,none⟩=some (.int .i64 (Mo.j4 W).2):=SS.out.1.cell k 1 _ LA.out (by omega);have y0:=SS.out.2.1.c0;have y1:=SS.out.2.1.c1;have yf:=SS.out.2.1.fz;have R:Hid (WB ((wr.setCell ⟨rx,0,none⟩ (.int .i64 (Mo.j4 W).1)).setCell ⟨rx,1,none⟩ (.int .i64 (Mo.j4 W).2)) rx (Mo.j4 W)/\Below rx w ((wr.setCell ⟨rx,0,none⟩ (.int .i64 (Mo.j4 W).1)).setCell ⟨rx,1,none⟩ (.int .i64 (Mo.j4 W).2))):=hZ (by
    have:=SS.out.2.1.set (Mo.j4 W);exact⟨this.1,this.2.below SS.out.2.2.1 (aL _) (LE.out _ SS.out.2.2.1).1⟩)
   obtain⟨y,hy⟩:=nJ (Mo.j4 W);have HY:=hZ hy;rw[hy]at d0 d1 R;clear hy;go_wp2_with fail
   generalize hWF:(wr.setCell ⟨rx,0,none⟩ (.int .i64 y.1)).setCell ⟨rx,1,none⟩ (.int .i64 y.2)=WF at R|-;have z0:=R.out.1.c0;have z1:=R.out.1.c1;refine bodyPost_ret (v:= .tuple #[.agg #[.int .i64 y.1, .int .i64 y.2], .nilIface]) (by simp[results,Tryz.f250,go_sem,z0,z1]) rfl ?_;rw[HRX.out,HQ.out];exact⟨W,0,by rw[HY.out];rfl,FIN.out,R.out.2⟩

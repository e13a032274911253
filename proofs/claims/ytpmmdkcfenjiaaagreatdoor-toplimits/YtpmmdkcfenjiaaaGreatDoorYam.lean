import Derived.Test.YtpmmdkcfenjiaaaGreatDoorYal
import Derived.Test.YtpmmdkcfenjiaaaGreatDoorYac
import Derived.Test.YtpmmdkcfenjiaaaGreatDoorYad
import Derived.Test.YtpmmdkcfenjiaaaGreatDoorYag
import Derived.Test.YtpmmdkcfenjiaaaGreatDoorYaj
set_option maxRecDepth 1000000
set_option maxHeartbeats 4000000
set_option linter.unusedVariables false
set_option linter.unusedSimpArgs false
namespace Go.Proofs.YtpmmdkcfenjiaaaGreatDoor
open Value renaming int->aa,pointer->ai,slice->aj,string->ak,tuple->ao,iface->aq,bool->ar,agg->au,nilIface->ay
open IntKind renaming i64->az
open Ending renaming returned->bf
open Obj renaming cells->bh
open Option renaming some->bj,none->bu
open Bool renaming true->bw,false->bA
open Tryz (prog)
open Go.RowKit
variable {E z:Int}{Wt b c cap g i j n:Nat}{f:Nat->Nat}{v:Value}{w:bD}
theorem FY(a:Option Addr)(c:Nat)(m:Int)(w:bD):Calls prog 39 #[aj a 0 c,aa az m] w λe w'=>e=bf (ar bw)/\w'=w:=by
 go_in
 go_wp2_with fail
 go_loopw [5] (λi wr=>i=aa az 0/\wr=w) (λ_ _=>0)
 case atStart=>exact⟨rfl,rfl⟩
 case round=>
  obtain⟨rfl,rfl⟩:=hrel;go_wp2
  go_ret
  exact⟨rfl,rfl⟩
def zS(ax:Nat->fk)(n:Nat)(m:Int)(v:Value):Prop:=v=ar bA\/(v=ar bw/\∀i,i<n->((ax i).s.size:Int)<=m/\((ax i).t.size:Int)<=m)
theorem F8(b o n c:Nat)(m:Int)(ax:Nat->fk)(w:bD)(hn:n<=1000)(h:∀i,i<n->∀j,j<8->w.cell? ⟨b,o+i*8+j,bu⟩=bj ((ax i).cell j)):
  Calls prog 39 #[aj (bj ⟨b,o,bu⟩) n c,aa az m] w λe w'=>∃v,e=bf v/\zS ax n m v/\w'=w:=by
 have H:=hJ h;clear h;go_in
 go_wp2_with fail
 go_loopw [5] (λi wr=>∃j:Nat,i=aa az j/\j<=n/\Hid (∀i,i<j->((ax i).s.size:Int)<=m/\((ax i).t.size:Int)<=m)/\wr=w) (λi _=>n-(intOf i).toNat)
 case atStart=>exact⟨0,rfl,bB,hJ (λi hi=>bB),rfl⟩
 case round=>
  obtain⟨j,rfl,hj,R,hwr⟩:=hrel;subst wr;by_cases hlt:j<n
  .have hltI:(j:Int)<(n:Int):=bB
   have c6:w.cell? ⟨b,o+j*8+6,bu⟩=bj (ak (ax j).s):=H.v j hlt 6 bB;have c7:w.cell? ⟨b,o+j*8+7,bu⟩=bj (ak (ax j).t):=H.v j hlt 7 bB;have NX:Hid (((ax j).s.size:Int)<=m->((ax j).t.size:Int)<=m->∀i,i<j+1->((ax i).s.size:Int)<=m/\((ax i).t.size:Int)<=m):=hJ (λh1 h2 i hi=>by
    by_cases d:i=j
    .subst d;exact⟨h1,h2⟩
    .exact R.v i bB)
   generalize (ax j).s=s1 at c6 NX;generalize (ax j).t=s2 at c7 NX;by_cases d1:m<(s1.size:Int)
   .go_wp2
    go_ret
    exact⟨_,rfl, .inl rfl,rfl⟩
   .by_cases d2:m<(s2.size:Int)
    .go_wp2
     go_ret
     exact⟨_,rfl, .inl rfl,rfl⟩
    .have N2:=hJ (NX.v bB bB);go_wp2
     go_roundw
     case rel=>exact⟨j+1,by go_num,bB,N2,by first|rfl|trivial⟩
     case measure=>simp[intOf];omega
  .have hltI:¬(j:Int)<(n:Int):=bB
   obtain rfl:j=n:=bB
   go_wp2
   go_ret
   exact⟨_,rfl, .inr ⟨rfl,R.v⟩,rfl⟩
theorem I8(a:Option Addr)(b o n c:Nat)(m:Int)(ax:Nat->fk)(w:bD)(hn:n<=1000)(ha:0<n->a=bj ⟨b,o,bu⟩)(h:∀i,i<n->∀j,j<8->w.cell? ⟨b,o+i*8+j,bu⟩=bj ((ax i).cell j)):
  Calls prog 39 #[aj a n c,aa az m] w λe w'=>∃v,e=bf v/\zS ax n m v/\w'=w:=by
 by_cases h0:n=0
 .subst h0;refine(FY a c m w).mono ?_;rintro e w' ⟨rfl,hw⟩;exact⟨_,rfl, .inr ⟨rfl,λi hi=>aZ hi (Nat.not_lt_zero i)⟩,hw⟩
 .rw[ha bB];exact F8 b o n c m ax w hn h
open Tr (Fo Nd)
def Tr.g1:Fo:=Tr.AE Tr.f0 0
theorem Tr.LU{T:Nat}{G:Fo}(h:Tr.ra Tr.f0 T E G):T=0/\E=0/\G=Tr.g1:=by
 have f:Tr.gJ Tr.f0 0 0:= .inl ⟨rfl,bB,rfl,λm hm=>bB⟩;rcases h with⟨a,_⟩|⟨_,n,e,hf,hm⟩
 .exact aZ a bE
 .obtain⟨rfl,rfl⟩:=hf.unique f;rcases hm with⟨a,_⟩|⟨_,b,c,d⟩
  .exact aZ rfl a
  .exact⟨b,c,d⟩
theorem Tr.U1:Tr.Ok Tr.g1:=Tr.We.Qj (T:=0) (E:=0) (.inr ⟨by decide,0,0, .inl ⟨rfl,bB,rfl,λm hm=>bB⟩, .inr ⟨rfl,rfl,rfl,rfl⟩⟩)
def TL(b:Nat)(L:List bU)(v:Value)(W:bD):Prop:=∃a c,v=aj a L.length c/\(0<L.length->∃g,a=bj ⟨g,0,bu⟩/\g≠b/\g<W.heap.size/\∀i,i<L.length->W.cell? ⟨g,i,bu⟩=bj (ak (L.getD i ⟨#[]⟩)))
theorem TL.mS{L:List bU}{W W':bD}(h:TL b L v W)(f:bG b W W'):TL b L v W':=by
 obtain⟨a,c,e,k⟩:=h;refine⟨a,c,e,λhl=>?_⟩;obtain⟨g,e1,e2,e3,e4⟩:=k hl;exact⟨g,e1,e2,aD e3 f.size,λi hi=>(aV (f.block g e3 e2)).trans (e4 i hi)⟩
theorem SO.tl{u W:bD}{L:List bU}(h:SO u L v W)(hb:b<u.heap.size):TL b L v W:=by
 by_cases hl:0<L.length
 .have ho:=h.own;obtain⟨gg,cap,hv,hgb,hg⟩:=ho.form hl;refine⟨_,cap,hv,λ_=>⟨gg,rfl,bB,hg,λi hi=>?_⟩⟩;rw[hv]at ho;rw[ho.cellAt i bB];simp[zn,hi]
 .obtain⟨a,c,e⟩:=h.form;exact⟨a,c,e,λh=>aZ h hl⟩
theorem Tr.OH{F:Fo}(h:Tr.kY F)(z:Int):(Tr.rS F z).length<=8:=by
 unfold Tr.rS;by_cases c:Tr.cN F z 2=0
 .rw[aJ c,qP,Tr.sB];obtain⟨n,rfl,n40,_,k2⟩:=Tr.fD c;rw[hZ];exact h n n40 k2
 .rw[aI c];exact aC _
def Tr.Hb(F:Fo)(k:Nat):Prop:=∀n,n<40->(F.nd n).held<=k
theorem Tr.Hb.mono{F:Fo}{k l:Nat}(h:Tr.Hb F k)(hl:k<=l):Tr.Hb F l:=λn hn=>aH (h n hn) hl
theorem Tr.Hb.put{F:Fo}{k n:Nat}{x:Nd}(h:Tr.Hb F k)(hx:x.held<=k):Tr.Hb (F.put n x) k:=λm hm=>by
 by_cases c:m=n
 .subst c;rw[Tr.bM];exact hx
 .rw[Tr.bP _ _ _ _ c];exact h m hm
theorem Tr.Hb.mF{F:Fo}{k n:Nat}(h:Tr.Hb F k):Tr.Hb (Tr.mF F n) k:=by
 unfold Tr.mF;split
 .exact h.put (aC _)
 .exact h
theorem Tr.Hb.dP{F:Fo}{k:Nat}(h:Tr.Hb F k)(z:Int):Tr.Hb (Tr.dP F z) (k+1):=by
 unfold Tr.dP;split
 .rename_i c;obtain⟨n,rfl,n40,_⟩:=Tr.gZ c;rw[hZ];refine(h.mono (Nat.le_succ k)).put ?_;exact Nat.succ_le_succ (h n n40)
 .exact h.mono (Nat.le_succ k)
theorem Tr.Hb.dD{F:Fo}{k:Nat}(h:Tr.Hb F k)(z:Int):Tr.Hb (Tr.dD F z) k:=by
 unfold Tr.dD;split
 .rename_i c;have c':Tr.cH F z=0:=by
   unfold Tr.letE at c;by_cases d:Tr.cH F z=0
   .exact d
   .rw[aI d]at c;exact c
  obtain⟨n,rfl,n40,_⟩:=Tr.gZ c';rw[hZ];refine Tr.Hb.mF (h.put ?_);exact aH (Nat.sub_le _ _) (h n n40)
 .exact h
theorem Tr.Hb.lt{F:Fo}{k:Nat}(h:Tr.Hb F k)(hk:k<1000):∀n,n<40->(F.nd n).held<2^60:=λn hn=>by have:=h n hn;omega
open Mo (Wh Mt)
namespace Mo
def nD(F:Fo)(m:Mt):Fo:=Tr.dP (Tr.dP F m.1.2) m.2.2
def jd(F:Fo)(m:Mt):Fo:=Tr.dD (Tr.dD F m.1.2) m.2.2
def nX(F:Fo)(T:Mo.Tb):Fo:=T.ms.foldl nD (Tr.dP F T.rt.2)
def lF(F:Fo)(T:Mo.Tb):Fo:=T.ms.foldl jd (Tr.dD F T.rt.2)
theorem UP{F:Fo}{k:Nat}(h:Tr.Hb F k)(m:Mt):Tr.Hb (nD F m) (k+2):=(h.dP _).dP _
theorem UQ{F:Fo}{k:Nat}(h:Tr.Hb F k)(m:Mt):Tr.Hb (jd F m) (k+2):=((h.dD _).dD _).mono bB
theorem Kv:∀(L:List Mt) {F:Fo} {k:Nat},Tr.Hb F k->Tr.Hb (L.foldl nD F) (k+2*L.length)
 |[],_,_,h=>h
 |m::L,_,k,h=>by
  have:=Kv L (UP h m);grind
theorem Kw:∀(L:List Mt) {F:Fo} {k:Nat},Tr.Hb F k->Tr.Hb (L.foldl jd F) (k+2*L.length)
 |[],_,_,h=>h
 |m::L,_,k,h=>by
  have:=Kw L (UQ h m);grind
theorem TC{F:Fo}{T:Mo.Tb}{k:Nat}(h:Tr.Hb F k):Tr.Hb (lF F T) k:=by
 have:∀(L:List Mt) {G:Fo},Tr.Hb G k->Tr.Hb (L.foldl jd G) k:=λL=>by
  induction L with
  |nil=>exact λh=>h
  |cons m L ih=>exact λh=>ih ((h.dD _).dD _)
 exact this _ (h.dD _)
theorem yP{α β:Type}(f:α->β->α)(L:List β)(j:Nat)(m:β)(a:α)(h:L[j]? =bj m):(L.take (j+1)).foldl f a=f ((L.take j).foldl f a) m:=by
 obtain⟨hl,e⟩:=aY.1 h;rw[List.take_succ_eq_append_getElem hl,List.foldl_append,e];rfl
end Mo
section
variable {w w':bD}{Wt b f:Nat}{T:Mo.Tb}{v:Value}{F:Fo}
theorem bT.ne(h:bT w Wt b f T v)(hF:bS w f F):b≠f/\∀g,v.ownBlock=bj g->g≠f:=by
 obtain⟨C,hC,_⟩:=hF.da;exact⟨uq h.da hC bE,h.row.Qe hC bE⟩
theorem bT.ko(h:bT w Wt b f T v)(hF:bS w f F)(k:bG f w w'):bT w' Wt b f T v:=
 h.same (k.block b h.lt (h.ne hF).1) (λg e=>k.block g (h.row.lt g e).2 ((h.ne hF).2 g e))
end
def MB(w:bD)(c:Nat)(m:Mt):Prop:=w.heap[c]? =bj (bh #[aa az m.1.1,aa az m.1.2,aa az m.2.1,aa az m.2.2] 273 (0,0))
section
variable {w w':bD}{c f:Nat}{m:Mt}{F:Fo}
theorem MB.c0(h:MB w c m):w.cell? ⟨c,0,bu⟩=bj (aa az m.1.1):=by rw[bR h];rfl
theorem MB.c1(h:MB w c m):w.cell? ⟨c,1,bu⟩=bj (aa az m.1.2):=by rw[bR h];rfl
theorem MB.c2(h:MB w c m):w.cell? ⟨c,2,bu⟩=bj (aa az m.2.1):=by rw[bR h];rfl
theorem MB.c3(h:MB w c m):w.cell? ⟨c,3,bu⟩=bj (aa az m.2.2):=by rw[bR h];rfl
theorem MB.lt(h:MB w c m):c<w.heap.size:=(aX.1 h).1
theorem MB.ko(h:MB w c m)(hF:bS w f F)(k:bG f w w'):MB w' c m:=by
 obtain⟨C,hC,_⟩:=hF.da;exact(k.block c h.lt (uq h hC bE)).trans h
end
theorem tT(Wt b f K:Nat)(T:Mo.Tb)(v:Value)(F:Fo)(m:Mt)(w:bD)(h:bT w Wt b f T v)(hF:bS w f F)(hb:Tr.Hb F K)(hK:K<900):
  Calls prog 232 #[ai (bj ⟨b,0,bu⟩),au #[aa az m.1.1,aa az m.1.2,aa az m.2.1,aa az m.2.2]] w λe w'=>e=bf (ao #[])/\bS w' f (Mo.nD F m)/\bG f w w':=by
 have HT:=hJ (aK h hF);have HB:=hJ hb;go_in
 go_upto_region 1 with fail
 refine cJ (λW'=>MB W' w.heap.size m/\Below w.heap.size w W') ⟨heap_alloc_new w _,(aQ _ _).alloc (aL _) _⟩ ?_;rintro W1 ⟨m1,b1⟩;have S1:Hid (MB W1 w.heap.size m/\bT W1 Wt b f T v/\bS W1 f F/\bG f w W1):=hJ ⟨m1,HT.1.below b1,HT.2.below b1,bG.cL b1⟩;generalize w.heap.size=mx at*;have K0:Hid (W1.cell? ⟨b,0,bu⟩=bj (ai (bj ⟨f,0,bu⟩))/\W1.cell? ⟨mx,1,bu⟩=bj (aa az m.1.2)):=hJ ⟨S1.2.1.c0,S1.1.c1⟩;have KF:Hid (∀w':bD,bG f W1 w'->w'.cell? ⟨b,0,bu⟩=bj (ai (bj ⟨f,0,bu⟩))/\w'.cell? ⟨mx,1,bu⟩=bj (aa az m.1.2)):=hJ (λw' k=>⟨(S1.2.1.ko S1.2.2.1 k).c0,(S1.1.ko S1.2.2.1 k).c1⟩);go_upto_region 1 with fail
 go_region_held3 (λw'=>w'.cell? ⟨b,0,bu⟩=bj (ai (bj ⟨f,0,bu⟩))/\w'.cell? ⟨mx,1,bu⟩=bj (aa az m.1.2)) (first|exact K0.v|exact K4.v) ((go_at_call 231;refine sC (rH f m.1.2 F _ S1.2.2.1.drew (HB.lt bB)) ?_;rintro w4 ⟨t4,f4⟩;have f5:bG f W1 w4:=⟨f4.os,f4.tape,f4.output,f4.size,f4.block⟩;have K4:=hJ (KF.v w4 f5);have P4:Hid (bS w4 f (Tr.dP F m.1.2)/\bG f W1 w4):=hJ ⟨t4,f5⟩))
 have S2:Hid (MB w4 mx m/\bT w4 Wt b f T v/\bS w4 f (Tr.dP F m.1.2)/\bG f w w4):=hJ ⟨S1.1.ko S1.2.2.1 P4.2,S1.2.1.ko S1.2.2.1 P4.2,P4.1,S1.2.2.2.trans P4.2⟩;have HB2:Hid (Tr.Hb (Tr.dP F m.1.2) (K+1)):=hJ (HB.dP _);have K0:Hid (w4.cell? ⟨b,0,bu⟩=bj (ai (bj ⟨f,0,bu⟩))/\w4.cell? ⟨mx,3,bu⟩=bj (aa az m.2.2)):=hJ ⟨S2.2.1.c0,S2.1.c3⟩;have KF:Hid (∀w':bD,bG f w4 w'->w'.cell? ⟨b,0,bu⟩=bj (ai (bj ⟨f,0,bu⟩))/\w'.cell? ⟨mx,3,bu⟩=bj (aa az m.2.2)):=hJ (λw' k=>⟨(S2.2.1.ko S2.2.2.1 k).c0,(S2.1.ko S2.2.2.1 k).c3⟩);go_upto_region 2 with fail
 go_region_held3 (λw'=>w'.cell? ⟨b,0,bu⟩=bj (ai (bj ⟨f,0,bu⟩))/\w'.cell? ⟨mx,3,bu⟩=bj (aa az m.2.2)) (first|exact K0.v|exact K5.v) ((go_at_call 231;refine sC (rH f m.2.2 _ _ S2.2.2.1.drew (HB2.lt bB)) ?_;rintro w5 ⟨t5,f4⟩;have f5:bG f w4 w5:=⟨f4.os,f4.tape,f4.output,f4.size,f4.block⟩;have K5:=hJ (KF.v w5 f5);have P5:Hid (bS w5 f (Mo.nD F m)/\bG f w w5):=hJ ⟨t5,S2.2.2.2.trans f5⟩))
 go_wp2_with fail
 go_end0
 exact⟨rfl,P5.v⟩
theorem xu(Wt b f K:Nat)(T:Mo.Tb)(v:Value)(F:Fo)(w:bD)(h:bT w Wt b f T v)(hF:bS w f F)(hb:Tr.Hb F K)(hK:K<800):
  Calls prog 166 #[ai (bj ⟨b,0,bu⟩)] w λe w'=>e=bf (ao #[])/\bS w' f (Mo.nX F T)/\bG f w w':=by
 have S1:Hid (bT w Wt b f T v/\bS w f F):=hJ ⟨h,hF⟩;have HB:=hJ hb;have h6:=h.sH;obtain⟨va,vc,hv⟩:=h.row.sl;have HV:=hJ hv;have K0:Hid (w.cell? ⟨b,0,bu⟩=bj (ai (bj ⟨f,0,bu⟩))/\w.cell? ⟨b,2,bu⟩=bj (aa az T.rt.2)):=hJ ⟨S1.1.c0,S1.1.c2⟩;have KF:Hid (∀w':bD,bG f w w'->w'.cell? ⟨b,0,bu⟩=bj (ai (bj ⟨f,0,bu⟩))/\w'.cell? ⟨b,2,bu⟩=bj (aa az T.rt.2)):=hJ (λw' k=>⟨(S1.1.ko S1.2 k).c0,(S1.1.ko S1.2 k).c2⟩);go_in
 go_upto_region 0 with fail
 go_region_held3 (λw'=>w'.cell? ⟨b,0,bu⟩=bj (ai (bj ⟨f,0,bu⟩))/\w'.cell? ⟨b,2,bu⟩=bj (aa az T.rt.2)) (first|exact K0.v|exact K4.v) ((go_at_call 231;refine sC (rH f T.rt.2 F _ S1.2.drew (HB.lt bB)) ?_;rintro w4 ⟨t4,f4⟩;have f5:bG f w w4:=⟨f4.os,f4.tape,f4.output,f4.size,f4.block⟩;have K4:=hJ (KF.v w4 f5);have P4:Hid (bS w4 f (Tr.dP F T.rt.2)/\bG f w w4):=hJ ⟨t4,f5⟩))
 have HB2:Hid (Tr.Hb (Tr.dP F T.rt.2) (K+1)):=hJ (HB.dP _);have T4:=hJ (S1.1.ko S1.2 P4.2);have c3:=T4.c3;rw[HV.v]at c3;obtain⟨N,hN⟩:=hU (T.ms.length);have HN:=hJ hN;rw[hN]at c3 h6;go_wp2_with fail
 go_loopw [3,19] (λ_ i wr=>∃(j:Nat),i=aa az j/\j<=N/\Hid (bS wr f ((T.ms.take j).foldl Mo.nD (Tr.dP F T.rt.2))/\bG f w wr)) (λ_ i _=>N-(intOf i).toNat)
 case atStart=>exact⟨0,rfl,bB,P4⟩
 case round=>
  obtain⟨j,rfl,hj,R⟩:=hrel;by_cases hlt:j<N
  .have hltI:(j:Int)<(N:Int):=bB
   obtain⟨m,hm⟩:∃m,T.ms[j]? =bj m:=⟨T.ms[j]'(by rw[HN.v];exact hlt),aW _⟩;have TW:=hJ (S1.1.ko S1.2 R.2);rcases TW.row.form with⟨_,e⟩|⟨g,cap,hv,_,_,_⟩
   .rw[e]at hm;simp at hm
   .have r:=TW.row;rw[hv]at r;have hv2:=HV.v;rw[hv]at hv2;rw[HN.v]at hv2;injection hv2 with e1 e2 e3
    subst e1;have d0:wr.cell? ⟨g,j*4,bu⟩=bj (aa az m.1.1):=r.cell j 0 m hm bB;have d1:wr.cell? ⟨g,j*4+1,bu⟩=bj (aa az m.1.2):=r.cell j 1 m hm bB;have d2:wr.cell? ⟨g,j*4+2,bu⟩=bj (aa az m.2.1):=r.cell j 2 m hm bB;have d3:wr.cell? ⟨g,j*4+3,bu⟩=bj (aa az m.2.2):=r.cell j 3 m hm bB;have NX:Hid ((T.ms.take (j+1)).foldl Mo.nD (Tr.dP F T.rt.2)=Mo.nD ((T.ms.take j).foldl Mo.nD (Tr.dP F T.rt.2)) m):=hJ (Mo.yP _ _ _ _ _ hm);have HBJ:Hid (Tr.Hb ((T.ms.take j).foldl Mo.nD (Tr.dP F T.rt.2)) (K+1+2*6)):=hJ ((Mo.Kv _ HB2.v).mono (by rw[List.length_take];omega));go_upto_region 4 with fail
    refine cJ (λW'=>MB W' wr.heap.size m/\Below wr.heap.size wr W') ⟨heap_alloc_new wr _,(aQ _ _).alloc (aL _) _⟩ ?_;rintro W5 ⟨m5,b5⟩;have S5:Hid (bT W5 Wt b f T v/\bS W5 f ((T.ms.take j).foldl Mo.nD (Tr.dP F T.rt.2))/\bG f w W5):=hJ ⟨TW.below b5,R.1.below b5,R.2.trans (bG.cL b5)⟩;have n0:=m5.c0;have n1:=m5.c1;have n2:=m5.c2;have n3:=m5.c3;generalize wr.heap.size=mx at*;go_wp2_with fail
    refine sC (tT Wt b f _ T v _ m _ S5.1 S5.2.1 HBJ.v bB) ?_;rintro W6 ⟨t6,f6⟩;have S6:Hid (bS W6 f ((T.ms.take (j+1)).foldl Mo.nD (Tr.dP F T.rt.2))/\bG f w W6):=hJ ⟨by rw[NX.v];exact t6,S5.2.2.trans f6⟩;go_wp2
    go_roundw
    case rel=>exact⟨j+1,by go_num,bB,S6⟩
    case measure=>simp[intOf];omega
  .have hltI:¬(j:Int)<(N:Int):=bB
   have FIN:Hid (bS wr f (Mo.nX F T)/\bG f w wr):=hJ ⟨by
    have:=R.1;rw[List.take_of_length_le (by rw[HN.v];omega)]at this;exact this,R.2⟩
   go_wp2_with fail
   go_end0
   exact⟨rfl,FIN.v⟩
theorem uN(Wt b f K:Nat)(T:Mo.Tb)(v:Value)(F:Fo)(m:Mt)(w:bD)(h:bT w Wt b f T v)(hF:bS w f F)(hb:Tr.Hb F K)(hK:K<900):
  Calls prog 233 #[ai (bj ⟨b,0,bu⟩),au #[aa az m.1.1,aa az m.1.2,aa az m.2.1,aa az m.2.2]] w λe w'=>e=bf (ao #[])/\bS w' f (Mo.jd F m)/\bG f w w':=by
 have HT:=hJ (aK h hF);have HB:=hJ hb;go_in
 go_upto_region 1 with fail
 refine cJ (λW'=>MB W' w.heap.size m/\Below w.heap.size w W') ⟨heap_alloc_new w _,(aQ _ _).alloc (aL _) _⟩ ?_;rintro W1 ⟨m1,b1⟩;have S1:Hid (MB W1 w.heap.size m/\bT W1 Wt b f T v/\bS W1 f F/\bG f w W1):=hJ ⟨m1,HT.1.below b1,HT.2.below b1,bG.cL b1⟩;generalize w.heap.size=mx at*;have K0:Hid (W1.cell? ⟨b,0,bu⟩=bj (ai (bj ⟨f,0,bu⟩))/\W1.cell? ⟨mx,1,bu⟩=bj (aa az m.1.2)):=hJ ⟨S1.2.1.c0,S1.1.c1⟩;have KF:Hid (∀w':bD,bG f W1 w'->w'.cell? ⟨b,0,bu⟩=bj (ai (bj ⟨f,0,bu⟩))/\w'.cell? ⟨mx,1,bu⟩=bj (aa az m.1.2)):=hJ (λw' k=>⟨(S1.2.1.ko S1.2.2.1 k).c0,(S1.1.ko S1.2.2.1 k).c1⟩);go_upto_region 1 with fail
 go_region_held3 (λw'=>w'.cell? ⟨b,0,bu⟩=bj (ai (bj ⟨f,0,bu⟩))/\w'.cell? ⟨mx,1,bu⟩=bj (aa az m.1.2)) (first|exact K0.v|exact K4.v) ((go_at_call 226;refine sC (tL f m.1.2 F _ S1.2.2.1.drew (HB.lt bB)) ?_;rintro w4 ⟨t4,f4⟩;have f5:bG f W1 w4:=⟨f4.os,f4.tape,f4.output,f4.size,f4.block⟩;have K4:=hJ (KF.v w4 f5);have P4:Hid (bS w4 f (Tr.dD F m.1.2)/\bG f W1 w4):=hJ ⟨t4,f5⟩))
 have S2:Hid (MB w4 mx m/\bT w4 Wt b f T v/\bS w4 f (Tr.dD F m.1.2)/\bG f w w4):=hJ ⟨S1.1.ko S1.2.2.1 P4.2,S1.2.1.ko S1.2.2.1 P4.2,P4.1,S1.2.2.2.trans P4.2⟩;have HB2:Hid (Tr.Hb (Tr.dD F m.1.2) (K+1)):=hJ ((HB.dD _).mono (by omega:K<=K+1));have K0:Hid (w4.cell? ⟨b,0,bu⟩=bj (ai (bj ⟨f,0,bu⟩))/\w4.cell? ⟨mx,3,bu⟩=bj (aa az m.2.2)):=hJ ⟨S2.2.1.c0,S2.1.c3⟩;have KF:Hid (∀w':bD,bG f w4 w'->w'.cell? ⟨b,0,bu⟩=bj (ai (bj ⟨f,0,bu⟩))/\w'.cell? ⟨mx,3,bu⟩=bj (aa az m.2.2)):=hJ (λw' k=>⟨(S2.2.1.ko S2.2.2.1 k).c0,(S2.1.ko S2.2.2.1 k).c3⟩);go_upto_region 2 with fail
 go_region_held3 (λw'=>w'.cell? ⟨b,0,bu⟩=bj (ai (bj ⟨f,0,bu⟩))/\w'.cell? ⟨mx,3,bu⟩=bj (aa az m.2.2)) (first|exact K0.v|exact K5.v) ((go_at_call 226;refine sC (tL f m.2.2 _ _ S2.2.2.1.drew (HB2.lt bB)) ?_;rintro w5 ⟨t5,f4⟩;have f5:bG f w4 w5:=⟨f4.os,f4.tape,f4.output,f4.size,f4.block⟩;have K5:=hJ (KF.v w5 f5);have P5:Hid (bS w5 f (Mo.jd F m)/\bG f w w5):=hJ ⟨t5,S2.2.2.2.trans f5⟩))
 go_wp2_with fail
 go_end0
 exact⟨rfl,P5.v⟩
theorem GY(Wt b f K:Nat)(T:Mo.Tb)(v:Value)(F:Fo)(w:bD)(h:bT w Wt b f T v)(hF:bS w f F)(hb:Tr.Hb F K)(hK:K<800):
  Calls prog 168 #[ai (bj ⟨b,0,bu⟩)] w λe w'=>e=bf (ao #[])/\bS w' f (Mo.lF F T)/\bG f w w':=by
 have S1:Hid (bT w Wt b f T v/\bS w f F):=hJ ⟨h,hF⟩;have HB:=hJ hb;have h6:=h.sH;obtain⟨va,vc,hv⟩:=h.row.sl;have HV:=hJ hv;have K0:Hid (w.cell? ⟨b,0,bu⟩=bj (ai (bj ⟨f,0,bu⟩))/\w.cell? ⟨b,2,bu⟩=bj (aa az T.rt.2)):=hJ ⟨S1.1.c0,S1.1.c2⟩;have KF:Hid (∀w':bD,bG f w w'->w'.cell? ⟨b,0,bu⟩=bj (ai (bj ⟨f,0,bu⟩))/\w'.cell? ⟨b,2,bu⟩=bj (aa az T.rt.2)):=hJ (λw' k=>⟨(S1.1.ko S1.2 k).c0,(S1.1.ko S1.2 k).c2⟩);go_in
 go_upto_region 0 with fail
 go_region_held3 (λw'=>w'.cell? ⟨b,0,bu⟩=bj (ai (bj ⟨f,0,bu⟩))/\w'.cell? ⟨b,2,bu⟩=bj (aa az T.rt.2)) (first|exact K0.v|exact K4.v) ((go_at_call 226;refine sC (tL f T.rt.2 F _ S1.2.drew (HB.lt bB)) ?_;rintro w4 ⟨t4,f4⟩;have f5:bG f w w4:=⟨f4.os,f4.tape,f4.output,f4.size,f4.block⟩;have K4:=hJ (KF.v w4 f5);have P4:Hid (bS w4 f (Tr.dD F T.rt.2)/\bG f w w4):=hJ ⟨t4,f5⟩))
 have HB2:Hid (Tr.Hb (Tr.dD F T.rt.2) (K+1)):=hJ ((HB.dD _).mono (by omega:K<=K+1));have T4:=hJ (S1.1.ko S1.2 P4.2);have c3:=T4.c3;rw[HV.v]at c3;obtain⟨N,hN⟩:=hU (T.ms.length);have HN:=hJ hN;rw[hN]at c3 h6;go_wp2_with fail
 go_loopw [3,19] (λ_ i wr=>∃(j:Nat),i=aa az j/\j<=N/\Hid (bS wr f ((T.ms.take j).foldl Mo.jd (Tr.dD F T.rt.2))/\bG f w wr)) (λ_ i _=>N-(intOf i).toNat)
 case atStart=>exact⟨0,rfl,bB,P4⟩
 case round=>
  obtain⟨j,rfl,hj,R⟩:=hrel;by_cases hlt:j<N
  .have hltI:(j:Int)<(N:Int):=bB
   obtain⟨m,hm⟩:∃m,T.ms[j]? =bj m:=⟨T.ms[j]'(by rw[HN.v];exact hlt),aW _⟩;have TW:=hJ (S1.1.ko S1.2 R.2);rcases TW.row.form with⟨_,e⟩|⟨g,cap,hv,_,_,_⟩
   .rw[e]at hm;simp at hm
   .have r:=TW.row;rw[hv]at r;have hv2:=HV.v;rw[hv]at hv2;rw[HN.v]at hv2;injection hv2 with e1 e2 e3
    subst e1;have d0:wr.cell? ⟨g,j*4,bu⟩=bj (aa az m.1.1):=r.cell j 0 m hm bB;have d1:wr.cell? ⟨g,j*4+1,bu⟩=bj (aa az m.1.2):=r.cell j 1 m hm bB;have d2:wr.cell? ⟨g,j*4+2,bu⟩=bj (aa az m.2.1):=r.cell j 2 m hm bB;have d3:wr.cell? ⟨g,j*4+3,bu⟩=bj (aa az m.2.2):=r.cell j 3 m hm bB;have NX:Hid ((T.ms.take (j+1)).foldl Mo.jd (Tr.dD F T.rt.2)=Mo.jd ((T.ms.take j).foldl Mo.jd (Tr.dD F T.rt.2)) m):=hJ (Mo.yP _ _ _ _ _ hm);have HBJ:Hid (Tr.Hb ((T.ms.take j).foldl Mo.jd (Tr.dD F T.rt.2)) (K+1+2*6)):=hJ ((Mo.Kw _ HB2.v).mono (by rw[List.length_take];omega));go_upto_region 4 with fail
    refine cJ (λW'=>MB W' wr.heap.size m/\Below wr.heap.size wr W') ⟨heap_alloc_new wr _,(aQ _ _).alloc (aL _) _⟩ ?_;rintro W5 ⟨m5,b5⟩;have S5:Hid (bT W5 Wt b f T v/\bS W5 f ((T.ms.take j).foldl Mo.jd (Tr.dD F T.rt.2))/\bG f w W5):=hJ ⟨TW.below b5,R.1.below b5,R.2.trans (bG.cL b5)⟩;have n0:=m5.c0;have n1:=m5.c1;have n2:=m5.c2;have n3:=m5.c3;generalize wr.heap.size=mx at*;go_wp2_with fail
    refine sC (uN Wt b f _ T v _ m _ S5.1 S5.2.1 HBJ.v bB) ?_;rintro W6 ⟨t6,f6⟩;have S6:Hid (bS W6 f ((T.ms.take (j+1)).foldl Mo.jd (Tr.dD F T.rt.2))/\bG f w W6):=hJ ⟨by rw[NX.v];exact t6,S5.2.2.trans f6⟩;go_wp2
    go_roundw
    case rel=>exact⟨j+1,by go_num,bB,S6⟩
    case measure=>simp[intOf];omega
  .have hltI:¬(j:Int)<(N:Int):=bB
   have FIN:Hid (bS wr f (Mo.lF F T)/\bG f w wr):=hJ ⟨by
    have:=R.1;rw[List.take_of_length_le (by rw[HN.v];omega)]at this;exact this,R.2⟩
   go_wp2_with fail
   go_end0
   exact⟨rfl,FIN.v⟩
def Mo.Ej(F:Fo)(t:Int):Wh:=if Tr.gF F t=0 then(t,(Tr.fR F t:Int))else(0,0)
theorem tG(f:Nat)(F:Fo)(t:Int)(w:bD)(hF:bS w f F):
  Calls prog 165 #[ai (bj ⟨f,0,bu⟩),aa az t] w λe w'=>e=bf (ao #[au #[aa az (Mo.Ej F t).1,aa az (Mo.Ej F t).2],bN (Tr.gF F t)])/\Below w.heap.size w w':=by
 have HF:=hJ hF;go_in
 go_upto_region 1 with fail
 refine cJ (λW'=>WB W' w.heap.size (0,0)/\Below w.heap.size w W') (Ij w) ?_;rintro W1 h1;have S1:=hJ h1;go_wp2_with fail
 refine sC (Mu f t F _ (HF.below S1.2)) ?_;rintro W2 hW;subst W2;obtain⟨rx,hrx⟩:=hU (w.heap.size);have HRX:=hJ hrx;rw[hrx]at S1|-;have y0:=S1.1.c0;have y1:=S1.1.c1;have yf:=S1.1.fz;by_cases e0:Tr.gF F t=0
 .have P:Hid (Mo.Ej F t=(t,(Tr.fR F t:Int))):=hJ (aJ e0);have E0:=hJ e0;rw[e0,bF];obtain⟨rn,hrn⟩:=hU ((Tr.fR F t:Int));rw[hrn]at P|-;have R:=hJ (S1.1.fin S1.2 HRX.v (t,rn));go_wp2_with fail
  generalize hWF:(W1.setCell ⟨rx,0,bu⟩ (aa az t)).setCell ⟨rx,1,bu⟩ (aa az rn)=WF at R|-;have z0:=R.1.c0;have z1:=R.1.c1;refine bodyPost_ret (v:=ao #[au #[aa az t,aa az rn],ay]) (by simp[results,Tryz.f165,go_sem,z0,z1]) rfl ?_;rw[P.v,E0.v];refine⟨rfl,by rw[HRX.v];exact R.2⟩
 .have P:Hid (Mo.Ej F t=(0,0)):=hJ (aI e0);have E0:=hJ (bH e0);rw[E0.v];have R:=hJ (S1.1.fin S1.2 HRX.v (0,0));go_wp2_with fail
  generalize hWF:(W1.setCell ⟨rx,0,bu⟩ (aa .i64 0)).setCell ⟨rx,1,bu⟩ (aa .i64 0)=WF at R|-;have z0:=R.1.c0;have z1:=R.1.c1;refine bodyPost_ret (v:=ao #[au #[aa az 0,aa az 0],aq 100 (aa az (Tr.gF F t))]) (by simp[results,Tryz.f165,go_sem,z0,z1]) rfl ?_;rw[P.v,E0.v];refine⟨rfl,by rw[HRX.v];exact R.2⟩
theorem RY(f K:Nat)(F:Fo)(t:Int)(w:bD)(hF:bS w f F)(e0:Tr.gF F t=0)(hb:Tr.Hb F K)(hK:K<800):
  Calls prog 90 #[ai (bj ⟨f,0,bu⟩),aa az t] w λe w'=>∃b,e=bf (ao #[ai (bj ⟨b,0,bu⟩),ay])/\w.heap.size<=b/\(∀Wt,bT w' Wt b f ⟨(t,(Tr.fR F t:Int)),[]⟩ (aj bu 0 0))/\bS w' f (Tr.dP F (Tr.fR F t))/\bG f w w':=by
 have HF:=hJ hF;have HB:=hJ hb;have P:Hid (Mo.Ej F t=(t,(Tr.fR F t:Int))):=hJ (aJ e0);have E0:=hJ e0;go_in
 go_wp2_with fail
 refine sC (tG f F t _ HF.v) ?_;rintro W1 b1;rw[P.v,E0.v,bF];obtain⟨rn,hrn⟩:=hU ((Tr.fR F t:Int));rw[hrn];have S1:Hid (∀o o',bS ((W1.alloc o).alloc o') f F/\Below w.heap.size w ((W1.alloc o).alloc o')):=hJ (λo o'=>by
  have a:Below w.heap.size w ((W1.alloc o).alloc o'):=(b1.alloc b1.size o).alloc (by have:=b1.size;simp;omega) o';exact⟨HF.below a,a⟩)
 have BZ:=hJ b1.size;go_upto_region 5 with fail
 refine cJ (λW'=>(∀Wt,bT W' Wt (W1.heap.size+1) f ⟨(t,rn),[]⟩ (aj bu 0 0))/\bS W' f F/\Below w.heap.size w W') ⟨λWt=>⟨by
  show((W1.heap.push _).push _)[W1.heap.size+1]? =_;simp only[bJ,Array.size_push];rw[aJ trivial],World.ownsRow_nil _ _ _ _,by simp⟩,S1.v _ _⟩ ?_
 rintro W2 ⟨t2,f2,b2⟩;have S2:=hJ (aK t2 (aK f2 b2));have LB:Hid (w.heap.size<=W1.heap.size+1):=hJ (by have:=BZ.v;omega);generalize W1.heap.size+1=b at*;generalize W1.heap.size=b' at*;go_wp2_with fail
 refine sC (xu 0 b f K ⟨(t,rn),[]⟩ _ F _ (S2.1 0) S2.2.1 HB.v hK) ?_;rintro W3 ⟨f3,k3⟩;have FIN:Hid ((∀Wt,bT W3 Wt b f ⟨(t,rn),[]⟩ (aj bu 0 0))/\bS W3 f (Tr.dP F rn)/\bG f w W3):=hJ ⟨λWt=>(S2.1 Wt).ko S2.2.1 k3,f3,(bG.cL S2.2.2).trans k3⟩;go_wp2
 go_ret2
 subst hrn;exact⟨b,rfl,LB.v,FIN.v⟩
section
variable {ops:Array Oper}{rest:List Oper}{o:Oper}{a:Act}{w:bD}{Q:Exit->Act->bD->Prop}
theorem zc{P:Program}(t ty e:TypeId)(i:TypeInfo)(ht:P.underlying t=bj (.slice e))(hi:P.info? e=bj i)(g:Nat)(ad:Addr)(n cap c:Nat)(hn:n<=cap):
  (Builtin.append_ #[t,t] ty #[aj (bj ⟨g,0,bu⟩) n cap,aj (bj ad) 0 c]).run P w= .ok (aj (bj ⟨g,0,bu⟩) n cap) w:=by
 simp[Builtin.append_,run_underlying ht,sizeOf,typeInfo,hi,Builtin.lenOf,Builtin.firstCells,hn,storeCells,loadCells,loadCellsFrom]
theorem vL(hgd:o.guard=bu)(s x:Operand)(t:TypeId)(ho:o.op= .call {callee:= .builtin .append,args:=#[s,x],argTypes:=#[t,t]})(e:TypeId)(i:TypeInfo)(ht:prog.underlying t=bj (.slice e))(hi:prog.info? e=bj i)
  (g:Nat) (ad:Addr) (n cap c:Nat) (hn:n<=cap) (hs:a.eval s=aj (bj ⟨g,0,bu⟩) n cap) (hx:a.eval x=aj (bj ad) 0 c) (h:wpList prog ops Q rest (a.put o.dst (aj (bj ⟨g,0,bu⟩) n cap)) w):wpList prog ops Q (o::rest) a w:=
 wpList_plain hgd λ_ hK=>by
  unfold Oper.wp execOp;simp only[ho,resolve,invoke,builtin,Sem.run_bind,Sem.run_pure,Result.andThen_ok,List.map_toArray,List.map_cons,List.map_nil,hs,hx,zc (P:=prog) (w:=w) t o.type e i ht hi g ad n cap c hn];exact hK _ _ h
end
theorem Mo.uT:∀(L:List Mt),∀u∈Mo.fQ L,u.oneCell'=bw:=λL u hu=>by
 unfold Mo.fQ at hu;obtain⟨m,_,hm⟩:=List.mem_flatMap.1 hu;simp only[Mo.uV,List.mem_cons,List.not_mem_nil,or_false]at hm;rcases hm with rfl|rfl|rfl|rfl<;>rfl
theorem fF.news{L:List Mt}(h:fF w Wt L (aj (bj ⟨g,0,bu⟩) n cap)):∀j u,(Mo.fQ L)[j]? =bj u->w.cell? ((⟨g,0,bu⟩:Addr).add j)=bj u:=World.ownsRow.cells h rfl
theorem R3(w:bD):Sem.run prog (binOp BinOp.eql 227 (aj bu 0 0) (aj bu 0 0)) w= .ok (ar bw) w:=by kernel_rfl
theorem G7(ad:Addr)(n c:Nat)(w:bD):Sem.run prog (binOp BinOp.eql 227 (aj (bj ad) n c) (aj bu 0 0)) w= .ok (ar bA) w:=by kernel_rfl
theorem Jd(Wt:Nat)(L:List Mt)(v:Value)(w:bD)(h:fF w Wt L v)(h6:L.length<=6):
  Calls prog 219 #[v] w λe w'=>∃v',e=bf v'/\fF w' w.heap.size L v'/\Below w.heap.size w w':=by
 obtain⟨i0,z0,hi0,hz0,hz1,hz2,hz3⟩:=Dt;rcases h.form with⟨rfl,rfl⟩|⟨g,cap,rfl,hb,hg,hc⟩
 .clear h;have cm:=R3 w;go_in
  go_wp2
  go_ret
  exact⟨_,rfl,World.ownsRow_nil _ _ _ _,aQ _ _⟩
 .have HR:=hJ h;obtain⟨N,hN⟩:=hU (L.length);have HN:=hJ hN;rw[hN]at h6 HR hc|-;have A1:Hid ((w.alloc (bh #[] 273)).ownsRow w.heap.size 273 4 (aj (bj ⟨w.heap.size,0,bu⟩) 0 0) 0 []/\Below w.heap.size w (w.alloc (bh #[] 273))):=hJ ⟨⟨rfl, .inr ⟨w.heap.size,0,#[],rfl,aL _,heap_alloc_new w _,aL _,by decide,rfl,rfl⟩⟩,(aQ _ _).alloc (aL _) _⟩;by_cases n0:N=0
  .subst n0;have L0:Hid (L=[]):=hJ (List.eq_nil_of_length_eq_zero hN);have cm:=G7 ⟨g,0,bu⟩ 0 cap w;go_in
   go_wp2_with (at_builtin;refine vL rfl _ _ 227 rfl 273 i0 Tryz.underlying227 hi0 w.heap.size ⟨g,0,bu⟩ 0 0 cap (aL _) (by rfl) (by rfl) ?_)
   go_ret
   refine⟨_,rfl,?_,A1.2⟩;rw[L0.v];exact A1.1
  .have HG:=hJ hg;have MORE:Hid (∀g2 cap2 W7,W7.ownsRow w.heap.size 273 4 (aj (bj ⟨g2,0,bu⟩) (0+N) cap2) (0+N) ([]++Mo.fQ L)->(w.alloc (bh #[] 273)).grownBy W7 (bj w.heap.size)->fF W7 w.heap.size L (aj (bj ⟨g2,0,bu⟩) (0+N) cap2)/\Below w.heap.size w W7):=hJ (λg2 cap2 W7 ho hgr=>by
    refine⟨?_,A1.2.trans ⟨hgr.os,hgr.tape,hgr.output,hgr.size,λn hn=>hgr.block n (by simp;omega) (λe=>by cases e;omega)⟩⟩;unfold fF;rw[HN.v];rw[Nat.zero_add,List.nil_append]at ho;rw[Nat.zero_add];exact ho)
   have cm:=G7 ⟨g,0,bu⟩ N cap w;go_in
   go_wp2_with (at_builtin;refine wpList_append_lies _ rfl _ _ 227 (by rfl) w.heap.size 273 i0 z0 4 32 Tryz.underlying227 hi0 hz0 hz1 hz2 hz3 bE (aj (bj ⟨w.heap.size,0,bu⟩) 0 0) 0 [] (by rfl) A1.1 ⟨g,0,bu⟩ N cap (Mo.fQ L) (by rfl) (by rw[Mo.mh,HN.v]) (HR.below A1.2).news (Mo.uT L) bB (by unfold maxLen;omega) bB (by simp) (w.heap.size+1) (by simp) ?_;intro gg cap2 W7 hown hgrow hat hlt2;have Q1:=hJ (MORE.v gg cap2 W7 hown hgrow))
   go_ret
   have Q2:=Q1.v;rw[Nat.zero_add]at Q2;exact⟨_,rfl,Q2⟩
theorem NG(Wt b f K:Nat)(T:Mo.Tb)(v:Value)(F:Fo)(w:bD)(h:bT w Wt b f T v)(hF:bS w f F)(hb:Tr.Hb F K)(hK:K<800):
  Calls prog 141 #[ai (bj ⟨b,0,bu⟩)] w λe w'=>∃c v',e=bf (ai (bj ⟨c,0,bu⟩))/\w.heap.size<=c/\bT w' w.heap.size c f T v'/\bS w' f (Mo.nX F T)/\bG f w w':=by
 have HT:=hJ (aK h hF);have HB:=hJ hb;obtain⟨va,vc,hv⟩:=h.row.sl;have HV:=hJ hv;have c0:=h.c0;have c1:=h.c1;have c2:=h.c2;have c3:=h.c3;rw[hv]at c3;have KF:Hid (∀w':bD,Below w.heap.size w w'->w'.cell? ⟨b,0,bu⟩=bj (ai (bj ⟨f,0,bu⟩))/\w'.cell? ⟨b,1,bu⟩=bj (aa az T.rt.1)/\w'.cell? ⟨b,2,bu⟩=bj (aa az T.rt.2)/\w'.cell? ⟨b,3,bu⟩=bj (aj va T.ms.length vc)):=hJ (λw' k=>⟨(h.below k).c0,(h.below k).c1,(h.below k).c2,by rw[<-hv];exact(h.below k).c3⟩);have K0:=hJ (KF.v w (aQ _ _));go_in
 go_upto_region 1 with fail
 go_region_held3 (λw'=>w'.cell? ⟨b,0,bu⟩=bj (ai (bj ⟨f,0,bu⟩))/\w'.cell? ⟨b,1,bu⟩=bj (aa az T.rt.1)/\w'.cell? ⟨b,2,bu⟩=bj (aa az T.rt.2)/\w'.cell? ⟨b,3,bu⟩=bj (aj va T.ms.length vc)) (first|exact K0.v|exact K4.v|exact(K5.v _)) ((go_at_call 219;rw[<-HV.v];refine(Jd Wt T.ms v _ HT.1.drew.row HT.1.sH).mono ?_;rintro e w4 ⟨v',rfl,r4,b4⟩;have b5:Below w.heap.size w w4:=⟨b4.os,b4.tape,b4.output,b4.size,b4.block⟩;have K4:=hJ (KF.v w4 b5);have K5:Hid (∀o,(w4.alloc o).cell? ⟨b,0,bu⟩=bj (ai (bj ⟨f,0,bu⟩))/\(w4.alloc o).cell? ⟨b,1,bu⟩=bj (aa az T.rt.1)/\(w4.alloc o).cell? ⟨b,2,bu⟩=bj (aa az T.rt.2)/\(w4.alloc o).cell? ⟨b,3,bu⟩=bj (aj va T.ms.length vc)):=hJ (λo=>KF.v _ (b5.alloc b5.size o));have P4:Hid (fF w4 w.heap.size T.ms v'/\Below w.heap.size w w4):=hJ ⟨r4,b5⟩;obtain⟨va',vc',hv'⟩:=r4.sl;have HV':=hJ hv';subst hv'))
 have S5:Hid (bT (w4.alloc (bh #[ai (bj ⟨f,0,bu⟩),aa az T.rt.1,aa az T.rt.2,aj va' T.ms.length vc'] 229)) w.heap.size w4.heap.size f T (aj va' T.ms.length vc')/\bS (w4.alloc (bh #[ai (bj ⟨f,0,bu⟩),aa az T.rt.1,aa az T.rt.2,aj va' T.ms.length vc'] 229)) f F/\Below w.heap.size w (w4.alloc (bh #[ai (bj ⟨f,0,bu⟩),aa az T.rt.1,aa az T.rt.2,aj va' T.ms.length vc'] 229))/\w.heap.size<=w4.heap.size):=hJ (by
  have b5:=P4.2.alloc P4.2.size (bh #[ai (bj ⟨f,0,bu⟩),aa az T.rt.1,aa az T.rt.2,aj va' T.ms.length vc'] 229);exact⟨⟨heap_alloc_new w4 _,P4.1.below ((aQ _ _).alloc (aL _) _),HT.1.sH⟩,HT.2.below b5,b5,P4.2.size⟩)
 generalize (w4.alloc (bh #[ai (bj ⟨f,0,bu⟩),aa az T.rt.1,aa az T.rt.2,aj va' T.ms.length vc'] 229))=W5 at*;generalize w4.heap.size=c at*;go_wp2_with fail
 refine sC (xu w.heap.size c f K T _ F _ S5.1 S5.2.1 HB.v hK) ?_;rintro W6 ⟨f6,k6⟩;have FIN:Hid (bT W6 w.heap.size c f T (aj va' T.ms.length vc')/\bS W6 f (Mo.nX F T)/\bG f w W6):=hJ ⟨S5.1.ko S5.2.1 k6,f6,(bG.cL S5.2.2.1).trans k6⟩;go_wp2
 go_ret
 exact⟨c,_,rfl,S5.2.2.2,FIN.v⟩
def BF(b f:Nat):Nat->Prop:=λk=>k=b\/k=f
theorem bT.RZ{f:Nat}{T:Mo.Tb}(h:bT w Wt b f T v)(x:Wh):bT (((w.setCell ⟨b,1,bu⟩ (aa az x.1)).setCell ⟨b,2,bu⟩ (aa az x.2)).setCell ⟨b,3,bu⟩ (aj bu 0 0)) Wt b f ⟨x,[]⟩ (aj bu 0 0):=
 ⟨cQ (cQ (cQ h.da 1 _) 2 _) 3 _,World.ownsRow_nil _ _ _ _,by simp⟩
theorem Kb(Wt b f K:Nat)(T:Mo.Tb)(v:Value)(F:Fo)(w:bD)(h:bT w Wt b f T v)(hF:bS w f F)(hb:Tr.Hb F K)(hK:K<800):
  Calls prog 154 #[ai (bj ⟨b,0,bu⟩)] w λe w'=>e=bf (ao #[])/\bS w' f (Mo.lF F T)/\dS (BF b f) w w':=by
 have HT:=hJ (aK h hF);have HB:=hJ hb;go_in
 go_wp2_with fail
 refine sC (GY Wt b f K T v F _ HT.1 HT.2 HB.v hK) ?_;rintro W1 ⟨f1,k1⟩;have T1:=HT.1.ko HT.2 k1;obtain⟨va,vc,hv⟩:=T1.row.sl;have c3:=T1.c3;rw[hv]at c3;have cf:=T1.frozen;have FIN:Hid (bS (W1.setCell ⟨b,3,bu⟩ (aj bu 0 0)) f (Mo.lF F T)/\dS (BF b f) w (W1.setCell ⟨b,3,bu⟩ (aj bu 0 0))):=hJ ⟨f1.same (dE _ _ _ _ (bQ (HT.1.ne HT.2).1)),(dS.kS k1 (.inr rfl)).setCell (.inl rfl) _ _⟩;go_wp2_with fail
 go_end0
 exact⟨rfl,FIN.v⟩
theorem O7(Wt b f:Nat)(T:Mo.Tb)(v:Value)(F:Fo)(t:Int)(w:bD)(h:bT w Wt b f T v)(hF:bS w f F)(e0:Tr.gF F t≠0):
  Calls prog 94 #[ai (bj ⟨b,0,bu⟩),aa az t] w λe w'=>e=bf (bN (Tr.gF F t))/\Below w.heap.size w w':=by
 have HT:=hJ (aK h hF);have E:=hJ (bH e0);have c0:=h.c0;go_in
 go_wp2_with fail
 refine sC (tG f F t _ HT.2) ?_;rintro W1 b1;have B1:=hJ b1;rw[E.v];obtain⟨y,hy⟩:=hU (Mo.Ej F t);rw[hy];go_wp2
 go_ret
 rw[E.v];exact⟨rfl,B1.alloc B1.size _⟩
theorem LR(Wt b f K:Nat)(T:Mo.Tb)(v:Value)(F:Fo)(t:Int)(w:bD)(h:bT w Wt b f T v)(hF:bS w f F)(e0:Tr.gF F t=0)(hb:Tr.Hb F K)(hK:K<800):
  Calls prog 94 #[ai (bj ⟨b,0,bu⟩),aa az t] w λe w'=>e=bf ay/\bT w' Wt b f ⟨(t,(Tr.fR F t:Int)),[]⟩ (aj bu 0 0)/\bS w' f (Tr.dP (Mo.lF F T) (Tr.fR F t))/\dS (BF b f) w w':=by
 have HT:=hJ (aK h hF);have HB:=hJ hb;have P:Hid (Mo.Ej F t=(t,(Tr.fR F t:Int))):=hJ (aJ e0);have E0:=hJ e0;have c0:=h.c0;go_in
 go_wp2_with fail
 refine sC (tG f F t _ HT.2) ?_;rintro W1 b1;rw[P.v,E0.v,bF];obtain⟨rn,hrn⟩:=hU ((Tr.fR F t:Int));have HRN:=hJ hrn;rw[hrn];have B1:=hJ b1;go_upto_region 2 with fail
 refine cJ (λW'=>WB W' W1.heap.size (t,rn)/\Below w.heap.size w W') ⟨heap_alloc_new W1 _,B1.alloc B1.size _⟩ ?_;rintro W2 ⟨x2,b2⟩;have S2:Hid (WB W2 W1.heap.size (t,rn)/\bT W2 Wt b f T v/\bS W2 f F/\dS (BF b f) w W2):=hJ ⟨x2,HT.1.below b2,HT.2.below b2,dS.cL b2⟩;generalize W1.heap.size=bx at*;go_wp2_with fail
 refine sC (GY Wt b f K T v F _ S2.2.1 S2.2.2.1 HB.v hK) ?_;rintro W3 ⟨f3,k3⟩;have S3:Hid (WB W3 bx (t,rn)/\bT W3 Wt b f T v/\bS W3 f (Mo.lF F T)/\dS (BF b f) w W3):=hJ ⟨S2.1.same (k3.block bx S2.1.lt (by
  obtain⟨C,hC,_⟩:=S2.2.2.1.da;exact uq S2.1 hC bE)),S2.2.1.ko S2.2.2.1 k3,f3,S2.2.2.2.trans (dS.kS k3 (.inr rfl))⟩
 have x0:=S3.1.c0;have x1:=S3.1.c1;obtain⟨va,vc,hv⟩:=S3.2.1.row.sl;have c1:=S3.2.1.c1;have c2:=S3.2.1.c2;have c3:=S3.2.1.c3;have cf:=S3.2.1.frozen;rw[hv]at c3;have S4:Hid (bT (((W3.setCell ⟨b,1,bu⟩ (aa az t)).setCell ⟨b,2,bu⟩ (aa az rn)).setCell ⟨b,3,bu⟩ (aj bu 0 0)) Wt b f ⟨(t,rn),[]⟩ (aj bu 0 0)/\bS (((W3.setCell ⟨b,1,bu⟩ (aa az t)).setCell ⟨b,2,bu⟩ (aa az rn)).setCell ⟨b,3,bu⟩ (aj bu 0 0)) f (Mo.lF F T)/\dS (BF b f) w (((W3.setCell ⟨b,1,bu⟩ (aa az t)).setCell ⟨b,2,bu⟩ (aa az rn)).setCell ⟨b,3,bu⟩ (aj bu 0 0))):=hJ (by
  have ne:=bQ (S3.2.1.ne S3.2.2.1).1;exact⟨S3.2.1.RZ (t,rn),S3.2.2.1.same ((dE _ _ _ _ ne).trans ((dE _ _ _ _ ne).trans (dE _ _ _ _ ne))),((S3.2.2.2.setCell (.inl rfl) _ _).setCell (.inl rfl) _ _).setCell (.inl rfl) _ _⟩)
 have HB2:Hid (Tr.Hb (Mo.lF F T) K):=hJ (Mo.TC HB.v);go_upto_region 6 with fail
 refine cJ (λW'=>bT W' Wt b f ⟨(t,rn),[]⟩ (aj bu 0 0)/\bS W' f (Mo.lF F T)/\dS (BF b f) w W') S4.v ?_;rintro W4 h4;have S5:=hJ h4;go_wp2_with fail
 refine sC (xu Wt b f K ⟨(t,rn),[]⟩ _ _ _ S5.1 S5.2.1 HB2.v hK) ?_;rintro W6 ⟨f6,k6⟩;have FIN:Hid (bT W6 Wt b f ⟨(t,rn),[]⟩ (aj bu 0 0)/\bS W6 f (Tr.dP (Mo.lF F T) rn)/\dS (BF b f) w W6):=hJ ⟨S5.1.ko S5.2.1 k6,f6,S5.2.2.trans (dS.kS k6 (.inr rfl))⟩;go_wp2
 go_ret
 rw[HRN.v];exact⟨rfl,FIN.v⟩
namespace Mo
theorem DU:∀(L:List Mt) (n:Nat),fQ (L.take n)=(fQ L).take (n*4)
 |[],n=>by simp[fQ]
 |x::L,0=>by simp[fQ]
 |x::L,n+1=>by
  show uV x++fQ (L.take n)=(uV x++fQ L).take ((n+1)*4);rw[DU L n,show(n+1)*4=n*4+4 by omega];rfl
theorem DS:∀(L:List Mt) (n:Nat),fQ (L.drop n)=(fQ L).drop (n*4)
 |[],n=>by simp[fQ]
 |x::L,0=>by simp[fQ]
 |x::L,n+1=>by
  show fQ (L.drop n)=(uV x++fQ L).drop ((n+1)*4);rw[DS L n,show(n+1)*4=4+n*4 by omega,<-List.drop_drop];rfl
end Mo
theorem qE{b:Nat}:∀(vs:List Value) (o:Nat) {u w:bD},bG b u w->bG b u (w.setCells b o vs)
 |[],_,_,_,h=>h
 |v::r,o,u,w,h=>by rw[World.setCells];exact qE r (o+1) (h.setCell o v)
theorem qF(b:Nat):∀(vs:List Value) (o:Nat) (w:bD) (C:Array Value) {T:TypeId},w.heap[b]? =bj (bh C T (0,0))->∃C',(w.setCells b o vs).heap[b]? =bj (bh C' T (0,0))/\C'.size=C.size
 |[],_,_,C,_,h=>⟨C,h,rfl⟩
 |v::r,o,w,C,T,h=>by
  rw[World.setCells];obtain⟨C',h1,h2⟩:=qF b r (o+1) _ _ (cQ h o v);exact⟨C',h1,by rw[h2];simp⟩
def mA:List Value:=[aa az 0,aa az 0,aa az 0,aa az 0]
theorem Jr(ty:TypeId)(b off c:Nat)(w:bD)(hc:∀j,j<4->(w.cell? ⟨b,off+j,bu⟩).isSome=bw)(hf:∀j,j<4->w.frozen? ⟨b,off+j,bu⟩=bA):
  Sem.run prog (Builtin.clear_ #[227] ty #[aj (bj ⟨b,off,bu⟩) 1 c]) w= .ok (ao #[]) (w.setCells b off mA):=by
 have hu:prog.underlying 227=bj (.slice 273):=by kernel_rfl
 have hv:∀w,(zeroValue 273).run prog w= .ok (au #[aa az 0,aa az 0,aa az 0,aa az 0]) w:=λw=>by kernel_rfl
 have hst:=run_storeCells_cells (P:=prog) b off mA 0 w (by simpa[mA]using hc) (by simpa[mA]using hf) (by
  intro v hv';simp only[mA,List.mem_cons,List.not_mem_nil,or_false]at hv';rcases hv' with rfl|rfl|rfl|rfl<;>rfl)
 simp only[Nat.add_zero]at hst;have hz:(Builtin.zeroCells (au #[aa az 0,aa az 0,aa az 0,aa az 0]).cells 1).toList=mA:=by kernel_rfl
 simp[Builtin.clear_,run_underlying hu,hv,hz,hst]
theorem fF.erased{M:Nat}{L:List Mt}(h:fF w Wt L (aj (bj ⟨g,0,bu⟩) (M+1) cap))(hM:L.length=M+1)(hi:i<=M):
  fF ((w.setCells g (i*4) (Mo.fQ (L.drop (i+1)))).setCells g (M*4) mA) Wt (L.eraseIdx i) (aj (bj ⟨g,0,bu⟩) M cap)/\bG g w ((w.setCells g (i*4) (Mo.fQ (L.drop (i+1)))).setCells g (M*4) mA):=by
 refine⟨?_,qE _ _ (qE _ _ (bG.refl g w))⟩;have hl:(L.eraseIdx i).length=M:=by rw[List.length_eraseIdx_of_lt bB];omega
 have hn:(Mo.fQ (L.drop (i+1))).length=(M-i)*4:=by rw[Mo.mh,List.length_drop,hM];omega
 unfold fF;rw[hl];refine⟨by rw[Mo.mh,hl],?_⟩;rcases h.2 with⟨e,_⟩|⟨g',cap',cur,e,hb,hg,h1,h2,h3,h4⟩
 .cases e
 .rw[hM]at e;cases e;rw[hM]at h1 h4;obtain⟨C1,k1,s1⟩:=qF g (Mo.fQ (L.drop (i+1))) (i*4) w cur hg;obtain⟨C2,k2,s2⟩:=qF g mA (M*4) _ C1 k1;refine .inr ⟨g,cap,C2,rfl,hb,k2,bB,h2,by rw[s2,s1];exact h3,?_⟩;have old:∀o,o<(M+1)*4->w.cell? ⟨g,o,bu⟩=(Mo.fQ L)[o]? :=λo ho=>by
   rw[bR hg,<-h4,List.getElem?_take_of_lt ho,aM]
  apply List.ext_getElem?;intro o;by_cases ho:o<M*4
  .rw[List.getElem?_take_of_lt ho,aM,<-bR k2,
    aA g mA (M*4) _ ⟨g,o,bu⟩ (λ_ _=> .inl ho),List.eraseIdx_eq_take_drop_succ,Mo.G0]
   have hta:(Mo.fQ (L.take i)).length=i*4:=by rw[Mo.mh,List.length_take,hM];omega
   by_cases c:o<i*4
   .rw[aA g _ (i*4) w ⟨g,o,bu⟩ (λ_ _=> .inl c),old o bB,List.getElem?_append_left bB,Mo.DU,List.getElem?_take_of_lt c]
   .rw[List.getElem?_append_right bB,hta];have:=aS g (Mo.fQ (L.drop (i+1))) (i*4) w (λj hj=>by rw[old _ bB,aW (by rw[Mo.mh,hM];omega)];rfl) (o-i*4) bB;rw[show i*4+(o-i*4)=o by omega]at this;rw[this,aW bB]
  .rw[List.getElem?_eq_none (by rw[List.length_take];omega),List.getElem?_eq_none (by rw[Mo.mh,hl];omega)]
theorem Ga(Wt g cap i M:Nat)(L:List Mt)(w:bD)(h:fF w Wt L (aj (bj ⟨g,0,bu⟩) (M+1) cap))(hM:L.length=M+1)(hi:i<=M)(h6:M<=5):
  Calls prog 263 #[aj (bj ⟨g,0,bu⟩) (M+1) cap,aa az i,aa az ((i:Int)+1)] w λe w'=>e=bf (aj (bj ⟨g,0,bu⟩) M cap)/\fF w' Wt (L.eraseIdx i) (aj (bj ⟨g,0,bu⟩) M cap)/\bG g w w':=by
 obtain⟨i0,z0,hi0,hz0,hz1,hz2,hz3⟩:=Dt;have hn:(Mo.fQ (L.drop (i+1))).length=(M-i)*4:=by rw[Mo.mh,List.length_drop,hM];omega
 have hcap:M+1<=cap/\cap<=maxLen:=by
  rcases h.2 with⟨e,_⟩|⟨g',cap',cur,e,hb,hg,h1,h2,h3,h4⟩
  .cases e
  .rw[hM]at e;cases e;exact⟨by omega,h2⟩
 unfold maxLen at hcap;have cl:∀o,o<(M+1)*4->w.cell? ⟨g,o,bu⟩=(Mo.fQ L)[o]? :=λo ho=>by
  rcases h.2 with⟨e,_⟩|⟨g',cap',cur,e,hb,hg,h1,h2,h3,h4⟩
  .cases e
  .rw[hM]at e;cases e;rw[bR hg,<-h4,List.getElem?_take_of_lt (by rw[hM];exact ho),aM]
 have cs:∀o,o<(M+1)*4->(w.cell? ⟨g,o,bu⟩).isSome=bw:=λo ho=>by
  rw[cl o ho,aW (by rw[Mo.mh,hM];omega)];rfl
 obtain⟨A,hA,hnews⟩:∃A:Addr,(if cap=i+1 then bj (⟨g,0,bu⟩:Addr)else bj ⟨g,(i+1)*4,bu⟩)=bj A/\Hid (∀j u,(Mo.fQ (L.drop (i+1)))[j]? =bj u->w.drew.cell? (A.add j)=bj u):=by
  by_cases c:cap=i+1
  .refine⟨⟨g,0,bu⟩,by simp[c],λj u hu=>?_⟩;have:=(aY.1 hu).1;omega
  .refine⟨⟨g,(i+1)*4,bu⟩,by simp[c],λj u hu=>?_⟩;have hj:=(aY.1 hu).1;rw[hn]at hj;rw[sV];show w.cell? ⟨g,(i+1)*4+j,bu⟩=bj u;rw[cl _ bB];rw[Mo.DS,List.getElem?_drop]at hu;exact hu
 have hd:fF w.drew Wt L (aj (bj ⟨g,0,bu⟩) (M+1) cap):=h;have FIN:Hid (∀W5,w.drew.setCells g (i*4) (Mo.fQ (L.drop (i+1)))=W5->fF (W5.setCells g (M*4) mA) Wt (L.eraseIdx i) (aj (bj ⟨g,0,bu⟩) M cap)/\bG g w (W5.setCells g (M*4) mA)):=hJ (λW5 e=>by
  subst e;have:=hd.erased hM hi;exact⟨this.1,⟨this.2.os,this.2.tape,this.2.output,this.2.size,this.2.block⟩⟩)
 have s1:Hid ((Mo.fQ (L.drop (i+1))).length=(M-i)*4):=hJ hn;have s2:Hid (∀u∈Mo.fQ (L.drop (i+1)),u.oneCell'=bw):=hJ (Mo.uT _);have s3:Hid (∀j,j<(Mo.fQ (L.drop (i+1))).length->(w.drew.cell? ⟨g,0+i*4+j,bu⟩).isSome=bw/\w.drew.frozen? ⟨g,0+i*4+j,bu⟩=bA):=hJ (λj hj=>by
  rw[hn]at hj;rw[Nat.zero_add];exact⟨cs (i*4+j) bB,h.frozen _⟩)
 have s4:Hid (∀W5,w.drew.setCells g (i*4) (Mo.fQ (L.drop (i+1)))=W5->∀j,j<4->(W5.cell? ⟨g,M*4+j,bu⟩).isSome=bw/\W5.frozen? ⟨g,M*4+j,bu⟩=bA):=hJ (λW5 e j hj=>by
  subst e;rw[World.frozen?_setCells,aA g _ (i*4) w.drew ⟨g,M*4+j,bu⟩ (λ_ _=> .inr (by rw[hn];show i*4+(M-i)*4<=M*4+j;omega))];exact⟨cs (M*4+j) bB,h.frozen _⟩)
 have q1:(i:Int)+1<=(M:Int)+1:=bB
 have q2:(0:Int)<=(i:Int)+1:=bB
 have q3:((i:Int)+1).toNat=i+1:=bB
 have q4:(M:Int)+1<=(cap:Int):=bB
 have q5:(i:Int)<=(cap:Int):=bB
 have q6:i<=cap:=bB
 have q7:((i:Int)==(i:Int)+1)=bA:=by simp;omega
 have q8:¬(i:Int)=(i:Int)+1:=bB
 have q9:i+(M-i)=M:=bB
 go_in
 go_upto_region 5 with fail
 go_region_law (refine step_append_room rfl (.tmp 22) (.tmp 25) 227 rfl 273 i0 4 Tryz.underlying227 hi0 hz1 g 0 i cap (by simp[Act.eval,Act.put]) A (M-i) (cap-(i+1)) (Mo.fQ (L.drop (i+1))) (by simp[Act.eval,Act.put]) s1.v hnews.v s2.v bB s3.v ?_)
 generalize hW5:w.drew.setCells g (i*4) (Mo.fQ (L.drop (i+1)))=W5;have S4:=hJ (s4.v W5 hW5);have F5:=hJ (FIN.v W5 hW5);have p1:¬cap=M:=bB
 have p2:(M:Int)<=(M:Int)+1:=bB
 have hcl:=Jr 0 g (M*4) (cap-M) W5 (λj hj=>(S4.v j hj).1) (λj hj=>(S4.v j hj).2);obtain⟨W6,hW6⟩:=hU (W5.setCells g (M*4) mA);rw[hW6]at hcl F5;go_wp2
 go_ret
 exact⟨rfl,F5.v⟩
namespace Mo
def iD(F:Fo)(x:Wh):Int:=if Tr.cH F x.2≠0 then Tr.cH F x.2 else if(F.nd x.2.toNat).kind=2/\((F.nd x.2.toNat).tree:Int)=x.1 then 0 else 11
def lL(F:Fo)(T:Mo.Tb)(x y:Wh):Int:=if iD F x≠0 then iD F x else if iD F y≠0 then iD F y else if x=y then 8 else if(lk T.ms x).isSome=bw then 3 else if T.ms.length=6 then 4 else 0
def zY(F:Fo)(T:Mo.Tb)(x y:Wh):Tb:=if lL F T x y=0 then⟨T.rt,T.ms++[(x,y)]⟩else T
def zX(F:Fo)(T:Mo.Tb)(x y:Wh):Fo:=if lL F T x y=0 then nD F (x,y)else F
def Cm(F:Fo)(T:Mo.Tb)(x:Wh)(E:Int)(T':Mo.Tb)(F':Fo):Prop:=(∃i:Nat,pZ T.ms x i/\∃m,T.ms[i]? =bj m/\E=0/\T'=⟨T.rt,T.ms.eraseIdx i⟩/\F'=jd F m)\/(pZ T.ms x (-1)/\E=2/\T'=T/\F'=F)
theorem Ly(F:Fo)(z:Int):∃o1 o2 o3 o4:Int,tW F z=#[aa az o1,aa az o2,aa az o3,aa az o4]/\(Tr.cH F z=0->o1=((F.nd z.toNat).kind:Int)):=by
 unfold tW;split
 .exact⟨_,_,_,_,rfl,λ_=>rfl⟩
 .rename_i h;exact⟨0,0,0,0,rfl,λe=>aZ e h⟩
end Mo
theorem jt(Wt b f:Nat)(T:Mo.Tb)(v:Value)(F:Fo)(x:Wh)(w:bD)(h:bT w Wt b f T v)(hF:bS w f F):
  Calls prog 261 #[ai (bj ⟨b,0,bu⟩),au #[aa az x.1,aa az x.2]] w λe w'=>e=bf (bN (Mo.iD F x))/\Below w.heap.size w w':=by
 have HT:=hJ (aK h hF);obtain⟨o1,o2,o3,o4,hO⟩:=Mo.Ly F x.2;have OE:=hJ hO;go_in
 go_upto_region 1 with fail
 refine cJ (λW'=>WB W' w.heap.size x/\Below w.heap.size w W') ⟨heap_alloc_new w _,(aQ _ _).alloc (aL _) _⟩ ?_;rintro W1 ⟨x1,b1⟩;obtain⟨bx,hbx⟩:=hU (w.heap.size);have HBX:=hJ hbx;rw[hbx]at x1;have LE:Hid (∀W,Below bx w W->bx<=W.heap.size/\bT W Wt b f T v/\bS W f F):=hJ (λW h=>by
  have e:=h.size;subst hbx;exact⟨e,HT.1.below h,HT.2.below h⟩)
 have S1:Hid (WB W1 bx x/\Below bx w W1):=hJ ⟨x1,by rw[<-hbx];exact b1⟩;rw[hbx];have c0:=(LE.v _ S1.2).2.1.c0;have cx:=S1.1.c1;have l0:=(LE.v _ S1.2).2.1.lt;have l1:=S1.1.lt;have n0:b≠W1.heap.size:=bB
 have n1:bx≠W1.heap.size:=bB
 have LA:Hid (∀o,bS (W1.alloc o) f F/\Below W1.heap.size W1 (W1.alloc o)):=hJ (λo=>by
  have bb:Below W1.heap.size W1 (W1.alloc o):=(aQ _ _).alloc (aL _) _;exact⟨(LE.v _ S1.2).2.2.below bb,bb⟩)
 have ZZ:Hid (∀w4:bD,Below (W1.alloc (bh #[aa az 0,aa az 0,aa az 0,aa az 0] 156)).drew.heap.size (W1.alloc (bh #[aa az 0,aa az 0,aa az 0,aa az 0] 156)).drew w4->w4.heap[W1.heap.size]? =bj (bh #[aa az 0,aa az 0,aa az 0,aa az 0] 156 (0,0))/\Below W1.heap.size W1 w4):=hJ (λw4 k=>by
  have bb:Below W1.heap.size W1 (W1.alloc (bh #[aa az 0,aa az 0,aa az 0,aa az 0] 156)):=(aQ _ _).alloc (aL _) _;exact⟨(k.block W1.heap.size (by show W1.heap.size<(W1.alloc _).heap.size;simp)).trans (heap_alloc_new W1 _),bb.drew.trans (k.mono (by show W1.heap.size<=(W1.alloc _).heap.size;simp))⟩)
 obtain⟨ev,hev⟩:=hU (bN (Tr.cH F x.2));have HEV:=hJ hev;go_upto_region 1 with fail
 go_cut [5,6,8]from 9 to 17 (λs5 s6 _ wc=>∃nb,s5=ai (bj ⟨nb,0,bu⟩)/\s6=ev/\Hid (WB wc bx x/\Below bx w wc/\wc.cell? ⟨nb,0,bu⟩=bj (aa az o1)))
 case first=>
  go_region_with (go_at_call 214;refine(qk f x.2 F _ (by first|exact(LE.v _ S1.2).2.2.drew|exact(LA.v _).1.drew)).mono ?_;rintro e w4 ⟨rfl,b4⟩;rw[OE.1,HEV.v];try (have ZW:=ZZ.v w4 b4;have z0:=cR ZW.1 0 (aa .i64 0) rfl;have z1:=cR ZW.1 1 (aa .i64 0) rfl;have z2:=cR ZW.1 2 (aa .i64 0) rfl;have z3:=cR ZW.1 3 (aa .i64 0) rfl;have zf:=cE ZW.1))
  all_goals
   first
    |have F1:Hid (WB (w4.alloc (bh #[aa az o1,aa az o2,aa az o3,aa az o4] 156)) bx x/\Below bx w (w4.alloc (bh #[aa az o1,aa az o2,aa az o3,aa az o4] 156))/\(w4.alloc (bh #[aa az o1,aa az o2,aa az o3,aa az o4] 156)).cell? ⟨w4.heap.size,0,bu⟩=bj (aa az o1)):=hJ (by
      have b5:Below W1.heap.size W1 w4:=⟨b4.os,b4.tape,b4.output,b4.size,b4.block⟩;have b6:=b5.alloc b5.size (bh #[aa az o1,aa az o2,aa az o3,aa az o4] 156);exact⟨S1.1.below b6,S1.2.trans (b6.mono (LE.v _ S1.2).1),cR (heap_alloc_new w4 _) 0 _ rfl⟩)
     generalize w4.alloc (bh #[aa az o1,aa az o2,aa az o3,aa az o4] 156)=W5 at*
     first|(go_wp2_with fail;go_meet)|go_meet
     case rel=>exact⟨_,rfl,rfl,F1⟩
    |have F1:Hid (WB ((((w4.setCell ⟨W1.heap.size,0,bu⟩ (aa az o1)).setCell ⟨W1.heap.size,1,bu⟩ (aa az o2)).setCell ⟨W1.heap.size,2,bu⟩ (aa az o3)).setCell ⟨W1.heap.size,3,bu⟩ (aa az o4)) bx x/\Below bx w ((((w4.setCell ⟨W1.heap.size,0,bu⟩ (aa az o1)).setCell ⟨W1.heap.size,1,bu⟩ (aa az o2)).setCell ⟨W1.heap.size,2,bu⟩ (aa az o3)).setCell ⟨W1.heap.size,3,bu⟩ (aa az o4))/\((((w4.setCell ⟨W1.heap.size,0,bu⟩ (aa az o1)).setCell ⟨W1.heap.size,1,bu⟩ (aa az o2)).setCell ⟨W1.heap.size,2,bu⟩ (aa az o3)).setCell ⟨W1.heap.size,3,bu⟩ (aa az o4)).cell? ⟨W1.heap.size,0,bu⟩=bj (aa az o1)):=hJ (by
      have k:=cQ (cQ (cQ (cQ ZW.1 0 (aa az o1)) 1 (aa az o2)) 2 (aa az o3)) 3 (aa az o4);have fr:=((((bG.refl W1.heap.size w4).setCell 0 (aa az o1)).setCell 1 (aa az o2)).setCell 2 (aa az o3)).setCell 3 (aa az o4);have b6:=fr.below ZW.2 (aL _) ZW.2.size;exact⟨S1.1.below b6,S1.2.trans (b6.mono (LE.v _ S1.2).1),cR k 0 _ rfl⟩)
     generalize (((w4.setCell ⟨W1.heap.size,0,bu⟩ (aa az o1)).setCell ⟨W1.heap.size,1,bu⟩ (aa az o2)).setCell ⟨W1.heap.size,2,bu⟩ (aa az o3)).setCell ⟨W1.heap.size,3,bu⟩ (aa az o4)=W5 at*
     first|(go_wp2_with fail;go_meet)|go_meet
     case rel=>exact⟨_,rfl,rfl,F1⟩
 case rest=>
  obtain⟨nb,rfl,rfl,S2⟩:=hcut;have PE:Hid (Mo.iD F x=if Tr.cH F x.2≠0 then Tr.cH F x.2 else if(F.nd x.2.toNat).kind=2/\((F.nd x.2.toNat).tree:Int)=x.1 then 0 else 11):=hJ rfl;by_cases e0:Tr.cH F x.2=0
  .have HK:=hJ (OE.2 e0);have TN:Hid (Tr.zu F x.2=(F.nd x.2.toNat).tree):=hJ (aJ e0);rw[e0,aI (λd=>d rfl)]at PE;have E0:=hJ e0;rw[<-HEV.v,e0,bF];have T2:=hJ (LE.v _ S2.2.1).2;have c0:=T2.1.c0;have cx:=S2.1.c1;obtain⟨tr,htr⟩:=hU ((F.nd x.2.toNat).tree);obtain⟨kd,hkd⟩:=hU ((F.nd x.2.toNat).kind);rw[htr,hkd]at PE;rw[hkd]at HK;have TT:Hid (∀nq,Calls prog 284 #[ai (bj ⟨f,0,bu⟩),aa az x.2] (wc.drewN nq) λe w'=>e=bf (ao #[aa az (tr:Int),ay])/\w'=wc.drewN nq):=hJ (λnq=>by
    have:=Mw f x.2 F _ (T2.2.drewN nq);rw[TN.v,htr,E0.v,bF]at this;exact this)
   have SQ:Hid (∀nq,WB (wc.drewN nq) bx x/\Below bx w (wc.drewN nq)/\(wc.drewN nq).cell? ⟨nb,0,bu⟩=bj (aa az (kd:Int))):=hJ (λnq=>⟨S2.1,⟨S2.2.1.os,S2.2.1.tape,S2.2.1.output,S2.2.1.size,S2.2.1.block⟩,by rw[<-HK.v];exact S2.2.2⟩);have d0:wc.cell? ⟨nb,0,bu⟩=bj (aa az (kd:Int)):=by rw[<-HK.v];exact S2.2.2
   have d1:=S2.1.c0;by_cases k2:kd=2
   .subst k2;by_cases t2:(tr:Int)=x.1
    .have FIN:Hid (Mo.iD F x=0):=hJ (by rw[PE.v,aJ ⟨rfl,t2⟩]);have t2':((tr:Int) !=x.1)=bA:=by simpa using t2
     have d0':wc.cell? ⟨nb,0,bu⟩=bj (aa .i64 2):=d0;have T2':=hJ t2;go_wp2_with fail
     go_quiet ((go_at_call 284;exact Calls.quiet_of_same (TT.v _)))
     go_wp2
     go_ret
     rw[FIN.v,HBX.v];exact⟨rfl,(SQ.v _).2.1⟩
    .have FIN:Hid (Mo.iD F x=11):=hJ (by rw[PE.v,aI (λh=>t2 h.2)]);have t2':((tr:Int) !=x.1)=bw:=by simpa using t2
     have d0':wc.cell? ⟨nb,0,bu⟩=bj (aa .i64 2):=d0;go_wp2_with fail
     go_quiet ((go_at_call 284;exact Calls.quiet_of_same (TT.v _)))
     go_wp2
     go_ret
     rw[FIN.v,HBX.v];exact⟨rfl,(SQ.v _).2.1⟩
   .have FIN:Hid (Mo.iD F x=11):=hJ (by rw[PE.v,aI (λh=>k2 h.1)]);have k2':((kd:Int) !=2)=bw:=by simp;omega
    have k2'':¬(kd:Int)=2:=bB
    go_wp2_with fail
    go_quiet ((go_at_call 284;exact Calls.quiet_of_same (TT.v _)))
    go_wp2
    go_ret
    rw[FIN.v,HBX.v];exact⟨rfl,(SQ.v _).2.1⟩
  .have FIN:Hid (Mo.iD F x=Tr.cH F x.2/\bN (Tr.cH F x.2)=aq 100 (aa az (Tr.cH F x.2))):=hJ ⟨by rw[PE.v,aJ e0],bH e0⟩;rw[<-HEV.v,FIN.2];go_wp2
   go_ret
   rw[FIN.1,FIN.2,HBX.v];exact⟨rfl,S2.2.1⟩
def BV(b f:Nat)(v:Value):Nat->Prop:=λk=>k=b\/k=f\/v.ownBlock=bj k
theorem bT.Qf{f:Nat}{T:Mo.Tb}(h:bT w Wt b f T v):∀g,v.ownBlock=bj g->g≠b:=h.row.Qe h.da bE
theorem bT.En{f:Nat}{T:Mo.Tb}{v':Value}{L:List Mt}(h:w.heap[b]? =bj (bh #[ai (bj ⟨f,0,bu⟩),aa az T.rt.1,aa az T.rt.2,v] 229 (0,0)))(r:fF w Wt L v')(h6:L.length<=6)(hn:∀g,v'.ownBlock=bj g->g≠b):bT (w.setCell ⟨b,3,bu⟩ v') Wt b f ⟨T.rt,L⟩ v':=
 ⟨cQ h 3 _,r.same (λg e=>dE _ _ _ _ (hn g e)),h6⟩
theorem JD(Wt b f K:Nat)(T:Mo.Tb)(v:Value)(F:Fo)(x:Wh)(w:bD)(h:bT w Wt b f T v)(hF:bS w f F)(hb:Tr.Hb F K)(hK:K<800):
  Calls prog 212 #[ai (bj ⟨b,0,bu⟩),au #[aa az x.1,aa az x.2]] w λe w'=>∃(E:Int) (T':Mo.Tb) (F':Fo) (v':Value),e=bf (bN E)/\Mo.Cm F T x E T' F'/\bT w' Wt b f T' v'/\bS w' f F'/\dS (BV b f v) w w'/\v'.ownBlock=v.ownBlock:=by
 have HT:=hJ (aK h hF);have HB:=hJ hb;go_in
 go_upto_region 1 with fail
 refine cJ (λW'=>WB W' w.heap.size x/\Below w.heap.size w W') ⟨heap_alloc_new w _,(aQ _ _).alloc (aL _) _⟩ ?_;rintro W1 ⟨x1,b1⟩;have c0:=x1.c0;have c1:=x1.c1;have S1:Hid (bT W1 Wt b f T v/\bS W1 f F/\dS (BV b f v) w W1):=hJ ⟨HT.1.below b1,HT.2.below b1,dS.cL b1⟩;generalize w.heap.size=bx at*;go_wp2_with fail
 refine(rU Wt b f T v x _ S1.1).mono ?_;rintro e W2 ⟨z,rfl,hz,b2⟩;have S2:Hid (bT W2 Wt b f T v/\bS W2 f F/\dS (BV b f v) w W2):=hJ ⟨S1.1.below b2,S1.2.1.below b2,S1.2.2.trans (dS.cL b2)⟩;have HZ:=hJ hz;rcases hz.find with⟨i,rfl,il,m,hm,hl⟩|⟨rfl,hl⟩
 .have i0:¬(i:Int)<0:=bB
  obtain⟨M,hM⟩:∃M,T.ms.length=M+1:=⟨T.ms.length-1,bB⟩;have HM:=hJ (aK hM hm);have M5:M<=5:=by have:=S2.1.sH;omega
  have iM:i<=M:=bB
  rcases S2.1.row.form with⟨_,e⟩|⟨g,cap,hv,_,_,_⟩
  .rw[e]at il;simp at il
  .rw[hM]at hv;have HV:=hJ hv;have r:=S2.1.row;rw[hv]at r;have c3:=S2.1.c3;rw[hv]at c3;have d0:W2.cell? ⟨g,i*4,bu⟩=bj (aa az m.1.1):=r.cell i 0 m hm bB;have d1:W2.cell? ⟨g,i*4+1,bu⟩=bj (aa az m.1.2):=r.cell i 1 m hm bB;have d2:W2.cell? ⟨g,i*4+2,bu⟩=bj (aa az m.2.1):=r.cell i 2 m hm bB;have d3:W2.cell? ⟨g,i*4+3,bu⟩=bj (aa az m.2.2):=r.cell i 3 m hm bB;have iI:(i:Int)<(M:Int)+1:=bB
   go_wp2_with fail
   refine(uN Wt b f K T v F m _ S2.1 S2.2.1 HB.v bB).mono ?_;rintro e W3 ⟨rfl,f3,k3⟩;have S3:Hid (bT W3 Wt b f T v/\bS W3 f (Mo.jd F m)/\dS (BV b f v) w W3):=hJ ⟨S2.1.ko S2.2.1 k3,f3,S2.2.2.trans (dS.kS k3 (.inr (.inl rfl)))⟩;have c3:=S3.1.c3;rw[HV.v]at c3;have hw:IntKind.i64.wrap ((i:Int)+1)=(i:Int)+1:=aN _ ⟨by omega,bB⟩;go_wp2_with fail
   refine(Ga Wt g cap i M T.ms _ (by have:=S3.1.row;rw[HV.v]at this;exact this) HM.1 iM M5).mono ?_;rintro e W4 ⟨rfl,r4,k4⟩;have gb:g≠b:=S3.1.Qf g (by rw[HV.v];rfl);have gf:g≠f:=(S3.1.ne S3.2.1).2 g (by rw[HV.v];rfl);have B4:W4.heap[b]? =bj (bh #[ai (bj ⟨f,0,bu⟩),aa az T.rt.1,aa az T.rt.2,v] 229 (0,0)):=(k4.block b S3.1.lt (bQ gb)).trans S3.1.da;have FIN:Hid (bT (W4.setCell ⟨b,3,bu⟩ (aj (bj ⟨g,0,bu⟩) M cap)) Wt b f ⟨T.rt,T.ms.eraseIdx i⟩ (aj (bj ⟨g,0,bu⟩) M cap)/\bS (W4.setCell ⟨b,3,bu⟩ (aj (bj ⟨g,0,bu⟩) M cap)) f (Mo.jd F m)/\dS (BV b f v) w (W4.setCell ⟨b,3,bu⟩ (aj (bj ⟨g,0,bu⟩) M cap))):=hJ ⟨bT.En B4 r4 (by rw[List.length_eraseIdx_of_lt (by have:=HM.1;omega)];have:=HM.1;omega) (λg' e=>by cases e;exact gb),
    (S3.2.1.same (k4.block f S3.2.1.lt (bQ gf))).same (dE _ _ _ _ (bQ (S3.1.ne S3.2.1).1)),
    (S3.2.2.trans (dS.kS k4 (.inr (.inr (by rw[HV.v];rfl))))).setCell (.inl rfl) _ _⟩
   have U:Hid (Mo.Cm F T x 0 ⟨T.rt,T.ms.eraseIdx i⟩ (Mo.jd F m)):=hJ (.inl ⟨i,HZ.v,m,HM.2,rfl,rfl,rfl⟩);have e3:W4.cell? ⟨b,3,bu⟩=bj (aj (bj ⟨g,0,bu⟩) (M+1) cap):=by rw[bR B4,<-HV.v];rfl
   have ef:W4.frozen? ⟨b,3,bu⟩=bA:=cE B4 3;go_wp2
   go_ret
   exact⟨0,_,_,_,rfl,U.v,FIN.1,FIN.2.1,FIN.2.2,by rw[HV.v];rfl⟩
 .have FIN:Hid (Mo.Cm F T x 2 T F):=hJ (.inr ⟨HZ.v,rfl,rfl,rfl⟩);go_wp2
  go_ret
  exact⟨2,T,F,v,rfl,FIN.v,S2.1,S2.2.1,S2.2.2,rfl⟩
def yv(w:bD)(c:Nat)(x y:Wh):Prop:=w.heap[c]? =bj (bh #[aa az x.1,aa az x.2,aa az y.1,aa az y.2] 224 (0,0))
theorem yv.lt{x y:Wh}(h:yv w c x y):c<w.heap.size:=(aX.1 h).1
theorem yv.below{w':bD}{x y:Wh}(h:yv w c x y)(k:Below w.heap.size w w'):yv w' c x y:=(k.block c h.lt).trans h
def Nw(w:bD)(v v':Value):Prop:=v'.ownBlock=v.ownBlock\/∀g,v'.ownBlock=bj g->w.heap.size<=g
theorem Np(Wt b f K:Nat)(T:Mo.Tb)(v:Value)(F:Fo)(x y:Wh)(w:bD)(h:bT w Wt b f T v)(hF:bS w f F)(hb:Tr.Hb F K)(hK:K<800)(hbs:Wt<=w.heap.size):
  Calls prog 211 #[ai (bj ⟨b,0,bu⟩),au #[aa az x.1,aa az x.2],au #[aa az y.1,aa az y.2]] w λe w'=>∃v',e=bf (bN (Mo.lL F T x y))/\bT w' Wt b f (Mo.zY F T x y) v'/\bS w' f (Mo.zX F T x y)/\dS (BV b f v) w w'/\Nw w v v':=by
 have HT:=hJ (aK h hF);have HB:=hJ (aK hb hbs);clear h hF hb hbs;obtain⟨i0,z0,hi0,hz0,hz1,hz2,hz3⟩:=Dt;have B2:Hid (WB ((w.alloc (bh #[aa az x.1,aa az x.2] 224)).alloc (bh #[aa az y.1,aa az y.2] 224)) w.heap.size x/\WB ((w.alloc (bh #[aa az x.1,aa az x.2] 224)).alloc (bh #[aa az y.1,aa az y.2] 224)) (w.heap.size+1) y/\Below w.heap.size w ((w.alloc (bh #[aa az x.1,aa az x.2] 224)).alloc (bh #[aa az y.1,aa az y.2] 224))):=hJ (by
  refine⟨?_,?_,((aQ _ w).alloc (aL _) _).alloc (by simp) _⟩
  .show((w.heap.push _).push _)[w.heap.size]? =_;simp only[bJ,Array.size_push];rw[nJ,aJ trivial]
  .show((w.heap.push _).push _)[w.heap.size+1]? =_;simp only[bJ,Array.size_push];rw[aJ trivial])
 go_in
 go_upto_region 1 with fail
 refine cJ (λW'=>WB W' w.heap.size x/\WB W' (w.heap.size+1) y/\Below w.heap.size w W') B2.v ?_;intro W1 h1;obtain⟨bx,hbx⟩:=hU (w.heap.size);have HBX:=hJ hbx;have LE:Hid (∀W,Below bx w W->bx<=W.heap.size/\bT W Wt b f T v/\bS W f F):=hJ (λW h=>by
  have e:=h.size;subst hbx;exact⟨e,HT.1.below h,HT.2.below h⟩)
 rw[hbx]at h1|-;have S1:=hJ h1;clear h1 B2 hbx;have x0:=S1.1.c0;have x1:=S1.1.c1;have y0:=S1.2.1.c0;have y1:=S1.2.1.c1;have A2:Hid (WB (W1.alloc (bh #[aa az x.1,aa az x.2,aa az y.1,aa az y.2] 224)) bx x/\WB (W1.alloc (bh #[aa az x.1,aa az x.2,aa az y.1,aa az y.2] 224)) (bx+1) y/\yv (W1.alloc (bh #[aa az x.1,aa az x.2,aa az y.1,aa az y.2] 224)) W1.heap.size x y/\Below bx w (W1.alloc (bh #[aa az x.1,aa az x.2,aa az y.1,aa az y.2] 224))):=hJ (by
  have bb:Below W1.heap.size W1 (W1.alloc (bh #[aa az x.1,aa az x.2,aa az y.1,aa az y.2] 224)):=(aQ _ _).alloc (aL _) _;exact⟨S1.1.below bb,S1.2.1.below bb,heap_alloc_new W1 _,S1.2.2.trans (bb.mono (LE.v _ S1.2.2).1)⟩)
 go_wp2_with fail
 generalize W1.alloc (bh #[aa az x.1,aa az x.2,aa az y.1,aa az y.2] 224)=W2 at*;generalize W1.heap.size=sx at*;clear x0 x1 y0 y1 S1;go_loopw [8,9,15] (λ_ _ i wr=>∃j:Nat,i=aa az j/\j<=2/\Hid (WB wr bx x/\WB wr (bx+1) y/\yv wr sx x y/\Below bx w wr/\(0<j->Mo.iD F x=0)/\(1<j->Mo.iD F y=0))) (λ_ _ i _=>2-(intOf i).toNat)
 case atStart=>exact⟨0,rfl,bB,hJ ⟨A2.1,A2.2.1,A2.2.2.1,A2.2.2.2,λh=>aZ h bB,λh=>aZ h bB⟩⟩
 case round=>
  clear A2;obtain⟨j,rfl,hj,S⟩:=hrel;by_cases hlt:j<2
  .have hltI:(j:Int)<2:=bB
   have STEP:Hid (∀q:Wh,(j=0->q=x)->(j=1->q=y)->True):=hJ (λ_ _ _=>trivial);obtain⟨q,hq0,hq1,cq0,cq1⟩:∃q:Wh,(j=0->q=x)/\(j=1->q=y)/\wr.cell? ⟨sx,j*2,bu⟩=bj (aa az q.1)/\wr.cell? ⟨sx,j*2+1,bu⟩=bj (aa az q.2):=by
    have p:=S.2.2.1;rcases(show j=0\/j=1 by omega)with rfl|rfl
    .exact⟨x,λ_=>rfl,λh=>bB,cR p 0 _ rfl,cR p 1 _ rfl⟩
    .exact⟨y,λh=>bB,λ_=>rfl,cR p 2 _ rfl,cR p 3 _ rfl⟩
   have HQ:=hJ (aK hq0 hq1);clear hq0 hq1 STEP;go_upto_region 4 with fail
   refine cJ (λW'=>WB W' wr.heap.size q/\Below wr.heap.size wr W') ⟨heap_alloc_new wr _,(aQ _ _).alloc (aL _) _⟩ ?_;rintro W3 ⟨q3,b3⟩;have S3:Hid (WB W3 bx x/\WB W3 (bx+1) y/\yv W3 sx x y/\Below bx w W3):=hJ ⟨S.1.below b3,S.2.1.below b3,S.2.2.1.below b3,S.2.2.2.1.trans (b3.mono (LE.v _ S.2.2.2.1).1)⟩;have n0:=q3.c0;have n1:=q3.c1;clear q3 b3 cq0 cq1;generalize wr.heap.size=qx at*;go_wp2_with fail
   refine sC (jt Wt b f T v F q _ (LE.v _ S3.2.2.2).2.1 (LE.v _ S3.2.2.2).2.2) ?_;rintro W4 b4;have S4:Hid (WB W4 bx x/\WB W4 (bx+1) y/\yv W4 sx x y/\Below bx w W4):=hJ ⟨S3.1.below b4,S3.2.1.below b4,S3.2.2.1.below b4,S3.2.2.2.trans (b4.mono (LE.v _ S3.2.2.2).1)⟩;clear b4 n0 n1 S3;by_cases e0:Mo.iD F q=0
   .have NX:Hid ((0<j+1->Mo.iD F x=0)/\(1<j+1->Mo.iD F y=0)):=hJ (by
     rcases(show j=0\/j=1 by omega)with rfl|rfl
     .exact⟨λ_=>by rw[<-HQ.1 rfl];exact e0,λh=>bB⟩
     .exact⟨λ_=>S.2.2.2.2.1 bB,λ_=>by rw[<-HQ.2 rfl];exact e0⟩)
    rw[e0,bF];clear e0;go_wp2
    go_roundw
    case rel=>exact⟨j+1,by go_num,bB,hJ ⟨S4.1,S4.2.1,S4.2.2.1,S4.2.2.2,NX.v⟩⟩
    case measure=>simp[intOf];omega
   .have FIN:Hid (Mo.lL F T x y=Mo.iD F q/\bN (Mo.iD F q)=aq 100 (aa az (Mo.iD F q))/\Mo.zY F T x y=T/\Mo.zX F T x y=F):=hJ (by
     have e:Mo.lL F T x y=Mo.iD F q:=by
      unfold Mo.lL;rcases(show j=0\/j=1 by omega)with rfl|rfl
      .rw[<-HQ.1 rfl,aJ e0]
      .rw[S.2.2.2.2.1 bB,aI (λd=>d rfl),<-HQ.2 rfl,aJ e0]
     exact⟨e,bH e0,aI (by rw[e];exact e0),aI (by rw[e];exact e0)⟩)
    rw[FIN.2.1];clear e0;go_wp2
    go_ret
    rw[FIN.1,FIN.2.1,FIN.2.2.1,FIN.2.2.2];exact⟨v,rfl,(LE.v _ S4.2.2.2).2.1,(LE.v _ S4.2.2.2).2.2,dS.cL (by rw[HBX.v];exact S4.2.2.2), .inl rfl⟩
  .have hltI:¬(j:Int)<2:=bB
   have WX:Hid (Mo.iD F x=0/\Mo.iD F y=0):=hJ ⟨S.2.2.2.2.1 bB,S.2.2.2.2.2 bB⟩;have x0:=S.1.c0;have x1:=S.1.c1;have y0:=S.2.1.c0;have y1:=S.2.1.c1;have DONE:Hid (∀E:Int,Mo.lL F T x y=E->E≠0->Mo.zY F T x y=T/\Mo.zX F T x y=F):=hJ (λE e n=>⟨aI (by rw[e];exact n),aI (by rw[e];exact n)⟩);have BE:Hid (Mo.lL F T x y=if x=y then 8 else if(Mo.lk T.ms x).isSome=bw then 3 else if T.ms.length=6 then 4 else 0):=hJ (by unfold Mo.lL;rw[WX.1,WX.2];simp);by_cases exy:x=y
   .have E8:Hid (Mo.lL F T x y=8):=hJ (by rw[BE.v,aJ exy]);have D8:=hJ (DONE.v 8 E8.v bE);have y0':wr.cell? ⟨bx+1,0,bu⟩=bj (aa az x.1):=by rw[exy];exact y0
    have y1':wr.cell? ⟨bx+1,1,bu⟩=bj (aa az x.2):=by rw[exy];exact y1
    clear y0 y1 exy;go_wp2
    go_ret
    rw[E8.v,D8.1,D8.2];exact⟨rfl,v,(LE.v _ S.2.2.2.1).2.1,(LE.v _ S.2.2.2.1).2.2,dS.cL (by rw[HBX.v];exact S.2.2.2.1), .inl rfl⟩
   .rw[aI exy]at BE;go_upto_region 8 with fail
    go_cut [26]from 27 to 29 (λs wx=>s=ar bA/\wx=wr)
    case first=>
     by_cases e1:x.1=y.1
     .have e2:¬x.2=y.2:=λe2=>exy (Prod.ext e1 e2);have e2':(x.2==y.2)=bA:=by simpa using e2
      have y0':wr.cell? ⟨bx+1,0,bu⟩=bj (aa az x.1):=by rw[e1];exact y0
      clear y0 e1;go_wp2
      go_meet
      case rel=>exact⟨rfl,rfl⟩
     .have e1':(x.1==y.1)=bA:=by simpa using e1
      go_wp2
      go_meet
      case rel=>exact⟨rfl,rfl⟩
    case rest=>
     obtain⟨rfl,hwc⟩:=hcut;subst hwc;clear y0 y1 exy;go_wp2_with fail
     refine(rU Wt b f T v x _ (LE.v _ S.2.2.2.1).2.1).mono ?_;rintro e W3 ⟨z,rfl,hz,b3⟩;have S3:Hid (WB W3 bx x/\WB W3 (bx+1) y/\Below bx w W3):=hJ ⟨S.1.below b3,S.2.1.below b3,S.2.2.2.1.trans (b3.mono (LE.v _ S.2.2.2.1).1)⟩;clear b3 x0 x1 S;rcases hz.find with⟨i,rfl,il,m,hm,hl⟩|⟨rfl,hl⟩
     .have E3:Hid (Mo.lL F T x y=3):=hJ (by rw[BE.v,hl];rfl);have D3:=hJ (DONE.v 3 E3.v bE);have i0:(0:Int)<=(i:Int):=bB
      clear hz hl hm il;go_wp2
      go_ret
      rw[E3.v,D3.1,D3.2]
      first
       |exact⟨v,rfl,(LE.v _ S3.2.2).2.1,(LE.v _ S3.2.2).2.2,dS.cL (by rw[HBX.v];exact S3.2.2), .inl rfl⟩
       |exact⟨rfl,v,(LE.v _ S3.2.2).2.1,(LE.v _ S3.2.2).2.2,dS.cL (by rw[HBX.v];exact S3.2.2), .inl rfl⟩
     .rw[hl,Option.isSome_none,aI bE]at BE;clear hz hl;have T3:=hJ (LE.v _ S3.2.2).2;obtain⟨va,vc,hv⟩:=T3.1.row.sl;have HV:=hJ hv;have c3:=T3.1.c3;rw[hv]at c3;obtain⟨N,hN⟩:=hU (T.ms.length);have HN:=hJ hN;have N6:N<=6:=by have:=T3.1.sH;omega
      rw[hN]at c3 BE;clear hv hN;by_cases n6:N=6
      .have E4:Hid (Mo.lL F T x y=4):=hJ (by rw[BE.v,aJ n6]);have D4:=hJ (DONE.v 4 E4.v bE);have n6':((N:Int)==6)=bw:=by simp;omega
       clear n6;go_wp2
       go_ret
       rw[E4.v,D4.1,D4.2]
       first
        |exact⟨v,rfl,T3.1,T3.2,dS.cL (by rw[HBX.v];exact S3.2.2), .inl rfl⟩
        |exact⟨rfl,v,T3.1,T3.2,dS.cL (by rw[HBX.v];exact S3.2.2), .inl rfl⟩
      .have E0:Hid (Mo.lL F T x y=0/\Mo.zY F T x y=⟨T.rt,T.ms++[(x,y)]⟩/\Mo.zX F T x y=Mo.nD F (x,y)):=hJ (by
        have e:Mo.lL F T x y=0:=by rw[BE.v,aI n6]
        exact⟨e,aJ e,aJ e⟩)
       have n6':((N:Int)==6)=bA:=by simp;omega
       have N5:N<=5:=bB
       have x0:=S3.1.c0;have x1:=S3.1.c1;have y0:=S3.2.1.c0;have y1:=S3.2.1.c1;clear n6 BE DONE;go_upto_region 15 with fail
       refine cJ (λW'=>MB W' W3.heap.size (x,y)/\Below W3.heap.size W3 W') ⟨heap_alloc_new W3 _,(aQ _ _).alloc (aL _) _⟩ ?_;rintro W4 ⟨m4,b4⟩;have S4:Hid (MB W4 W3.heap.size (x,y)/\Below bx w W4/\bT W4 Wt b f T v/\bS W4 f F):=hJ (by
        have bb:=S3.2.2.trans (b4.mono (LE.v _ S3.2.2).1);exact⟨m4,bb,(LE.v _ bb).2⟩)
       have GL:Hid ((∀g,v.ownBlock=bj g->g<W3.heap.size)/\W3.heap.size<W4.heap.size):=hJ ⟨λg e=>(T3.1.row.lt g e).2,m4.lt⟩;clear m4 b4 c3 x0 x1 y0 y1 T3 S3;generalize W3.heap.size=mx at*;have m0:W4.cell? ⟨mx,0,bu⟩=bj (aa az x.1):=S4.1.c0;have m1:W4.cell? ⟨mx,1,bu⟩=bj (aa az x.2):=S4.1.c1;have m2:W4.cell? ⟨mx,2,bu⟩=bj (aa az y.1):=S4.1.c2;have m3:W4.cell? ⟨mx,3,bu⟩=bj (aa az y.2):=S4.1.c3;have c3:=S4.2.2.1.c3;rw[HV.v,HN.v]at c3;have lb:=S4.2.2.1.lt;have nbb:b≠W4.heap.size:=bB
       have OWN:Hid ((W4.alloc (bh #[aa az x.1,aa az x.2,aa az y.1,aa az y.2] 273)).drew.ownsRow Wt 273 4 (aj va N vc) N (Mo.fQ T.ms)):=hJ (by
        have r:=S4.2.2.1.row;unfold fF at r;rw[HV.v,HN.v]at r;exact r.alloc _)
       have NEWS:Hid (∀j u,[aa az x.1,aa az x.2,aa az y.1,aa az y.2][j]? =bj u->(W4.alloc (bh #[aa az x.1,aa az x.2,aa az y.1,aa az y.2] 273)).drew.cell? ((⟨W4.heap.size,0,bu⟩:Addr).add j)=bj u):=hJ (World.news_of_block (w:=(W4.alloc (bh #[aa az x.1,aa az x.2,aa az y.1,aa az y.2] 273)).drew) (heap_alloc_new W4 (bh #[aa az x.1,aa az x.2,aa az y.1,aa az y.2] 273)));have BASE:Hid (Wt<=W4.heap.size):=hJ (by have h1:=(LE.v _ S4.2.1).1;have h2:=HB.2;have h3:=HBX.v;omega);have AFT:Hid (∀g2 cap2 W5,W5.ownsRow Wt 273 4 (aj (bj ⟨g2,0,bu⟩) (N+1) cap2) (N+1) (Mo.fQ T.ms++[aa az x.1,aa az x.2,aa az y.1,aa az y.2])->(W4.alloc (bh #[aa az x.1,aa az x.2,aa az y.1,aa az y.2] 273)).drew.grownBy W5 (aj va N vc).ownBlock->((aj va N vc).ownBlock=bj g2\/g2=W4.heap.size+1)->
         W5.cell? ⟨b,3,bu⟩=bj (aj va N vc)/\W5.frozen? ⟨b,3,bu⟩=bA/\MB (W5.setCell ⟨b,3,bu⟩ (aj (bj ⟨g2,0,bu⟩) (N+1) cap2)) mx (x,y)/\bT (W5.setCell ⟨b,3,bu⟩ (aj (bj ⟨g2,0,bu⟩) (N+1) cap2)) Wt b f ⟨T.rt,T.ms++[(x,y)]⟩ (aj (bj ⟨g2,0,bu⟩) (N+1) cap2)/\bS (W5.setCell ⟨b,3,bu⟩ (aj (bj ⟨g2,0,bu⟩) (N+1) cap2)) f F/\dS (BV b f v) w (W5.setCell ⟨b,3,bu⟩ (aj (bj ⟨g2,0,bu⟩) (N+1) cap2))/\Nw w v (aj (bj ⟨g2,0,bu⟩) (N+1) cap2)):=hJ (λg2 cap2 W5 ho hg ha=>by
        have lt:=S4.2.2.1.lt;have gne:=S4.2.2.1.Qf;have fne:=S4.2.2.1.ne S4.2.2.2;rw[HV.v,HN.v]at gne fne;have al:∀k,k<W4.heap.size->(W4.alloc (bh #[aa az x.1,aa az x.2,aa az y.1,aa az y.2] 273)).heap[k]? =W4.heap[k]? :=λk hk=>((aQ W4.heap.size W4).alloc (aL _) _).block k hk;have bk:∀k,k<W4.heap.size->(∀g,(aj va N vc).ownBlock=bj g->g≠k)->W5.heap[k]? =W4.heap[k]? :=λk hk hn=>(hg.block k (by show k<(W4.alloc _).heap.size;simp;omega) (λe=>hn k e.symm rfl)).trans (al k hk);have B5:=(bk b lt gne).trans S4.2.2.1.da;have g2b:g2≠b:=by
         rcases ha with e|e
         .exact gne g2 e
         .omega
        have MBne:mx≠b:=uq S4.1 S4.2.2.1.da bE;have O5:dS (BV b f v) w W5:=by
         have o4:dS (BV b f v) w W4:=dS.cL (by rw[HBX.v];exact S4.2.1);refine o4.trans ⟨hg.os,hg.tape,hg.output,aH (by simp) hg.size,λk hk hn=>bk k hk (λg e h=>?_)⟩;subst h;exact hn (.inr (.inr (by rw[HV.v,HN.v];exact e)))
        refine⟨by rw[bR B5];show bj v=_;rw[HV.v,HN.v],cE B5 3,?_,bT.En B5 ?_ ?_ (λg' e=>by cases e;exact g2b),(S4.2.2.2.same (bk f S4.2.2.2.lt fne.2)).same (dE _ _ _ _ (bQ fne.1)),O5.setCell (.inl rfl) _ _,?_⟩
        .exact(dE _ _ _ _ MBne).trans ((bk mx S4.1.lt (λg e=>by have:=GL.1 g (by rw[HV.v,HN.v];exact e);omega)).trans S4.1)
        .unfold fF;rw[Mo.G0,Mo.RQ,List.length_append,List.length_singleton,HN.v];exact ho
        .rw[List.length_append,List.length_singleton,HN.v];omega
        .rcases ha with e|e
         .exact .inl (by rw[HV.v,HN.v];exact e.symm)
         .exact .inr (λg' e'=>by
          cases e';show w.heap.size<=g2;have h1:=(LE.v _ S4.2.1).1;have h2:=HBX.v;omega))
       go_region_law (refine step_append_lies _ rfl (.tmp 52) (.tmp 54) 227 rfl Wt 273 i0 z0 4 32 Tryz.underlying227 hi0 hz0 hz1 hz2 hz3 bE (aj va N vc) N (Mo.fQ T.ms) (by simp[Act.eval]) OWN.v ⟨W4.heap.size,0,bu⟩ 1 1 [aa az x.1,aa az x.2,aa az y.1,aa az y.2] (by simp[Act.eval]) rfl NEWS.v (by simp[Value.oneCell']) bE (by unfold maxLen;omega) bB (by have:=BASE.v;simp;omega) (W4.heap.size+1) (by simp) ?_;intro g2 cap2 W5 hown hgrow hat hlt2;obtain⟨e3,ef,A5⟩:=AFT.v g2 cap2 W5 hown hgrow hat;have Q5:=hJ A5;clear A5 hown hgrow hat hlt2)
       all_goals
        generalize W5.setCell ⟨b,3,bu⟩ (aj (bj ⟨g2,0,bu⟩) (N+1) cap2)=W6 at*;have m0:=Q5.1.c0;have m1:=Q5.1.c1;have m2:=Q5.1.c2;have m3:=Q5.1.c3;go_wp2_with fail
        refine sC (tT Wt b f K ⟨T.rt,T.ms++[(x,y)]⟩ _ F (x,y) _ Q5.2.1 Q5.2.2.1 HB.1 bB) ?_;rintro W7 ⟨f7,k7⟩;have FIN:Hid (bT W7 Wt b f ⟨T.rt,T.ms++[(x,y)]⟩ (aj (bj ⟨g2,0,bu⟩) (N+1) cap2)/\bS W7 f (Mo.nD F (x,y))/\dS (BV b f v) w W7/\Nw w v (aj (bj ⟨g2,0,bu⟩) (N+1) cap2)):=hJ ⟨Q5.2.1.ko Q5.2.2.1 k7,f7,Q5.2.2.2.1.trans (dS.kS k7 (.inr (.inl rfl))),Q5.2.2.2.2⟩;clear f7 k7 m0 m1 m2 m3;go_wp2
        go_ret
        rw[E0.1,E0.2.1,E0.2.2]
        first
         |exact⟨_,rfl,FIN.v⟩
         |exact⟨rfl,_,FIN.v⟩
namespace Mo
def gT(z:Int)(n:Nat):Nat:=if z=(n:Int)then 1 else 0
theorem rD(n:Nat):gT (n:Int) n=1:=aJ rfl
theorem Ax(h:z≠(n:Int)):gT z n=0:=aI h
theorem Aw(z:Int)(n:Nat):gT z n<=1:=by unfold gT;split<;>omega
def mc(L:List Mt)(n:Nat):Nat:=(L.map λm=>gT m.1.2 n+gT m.2.2 n).sum
def tc(T:Mo.Tb)(n:Nat):Nat:=gT T.rt.2 n+mc T.ms n
theorem uS(n:Nat):mc [] n=0:=rfl
theorem nH(m:Mt)(L:List Mt)(n:Nat):mc (m::L) n=gT m.1.2 n+gT m.2.2 n+mc L n:=by simp[mc]
theorem Ua(L M:List Mt)(n:Nat):mc (L++M) n=mc L n+mc M n:=by simp[mc]
theorem UZ(L:List Mt)(n:Nat):mc L n<=2*L.length:=by
 induction L with
 |nil=>simp[mc]
 |cons m L ih=>
  rw[nH,List.length_cons];have:=Aw m.1.2 n;have:=Aw m.2.2 n;omega
theorem OP{L:List Mt}{m:Mt}(h:L[i]? =bj m)(n:Nat):mc L n=gT m.1.2 n+gT m.2.2 n+mc (L.eraseIdx i) n:=by
 induction L generalizing i with
 |nil=>simp at h
 |cons x L ih=>
  cases i with
  |zero=>
   simp only[List.getElem?_cons_zero,Option.some.injEq]at h;subst h;rw[nH];rfl
  |succ i=>
   rw[List.getElem?_cons_succ]at h;rw[nH,ih h,List.eraseIdx_cons_succ,nH];omega
structure HI (F:Fo)(f:Nat->Nat):Prop where
 hd:∀n,n<40->(F.nd n).held=f n
 lv:∀n,n<40->0<f n->(F.nd n).kind≠0
def wR(z:Int):Prop:=∃n:Nat,z=n/\n<40
theorem HI.congr{F:Fo}{g:Nat->Nat}(h:HI F f)(e:∀n,n<40->f n=g n):HI F g:=⟨λn hn=>(h.hd n hn).trans (e n hn),λn hn h0=>h.lv n hn (by rw[e n hn];exact h0)⟩
theorem HI.dP{F:Fo}{f:Nat->Nat}(h:HI F f){z:Int}(hz:Tr.cH F z=0):HI (Tr.dP F z) (λn=>f n+gT z n):=by
 obtain⟨k,rfl,k40,kk⟩:=Tr.gZ hz;unfold Tr.dP;rw[aJ hz,hZ];refine⟨λn hn=>?_,λn hn h0=>?_⟩
 .by_cases e:n=k
  .subst e;rw[Tr.bM,rD];show(F.nd n).held+1=_;rw[h.hd n hn]
  .rw[Tr.bP _ _ _ _ e,Ax bB];exact h.hd n hn
 .by_cases e:n=k
  .subst e;rw[Tr.bM];exact kk
  .rw[Tr.bP _ _ _ _ e];rw[Ax bB]at h0;exact h.lv n hn h0
theorem xU(F:Fo)(k n:Nat):((Tr.mF F k).nd n).held=(F.nd n).held:=by
 unfold Tr.mF;split
 .rename_i c;by_cases e:n=k
  .subst e;rw[Tr.bM];exact c.2.symm
  .rw[Tr.bP _ _ _ _ e]
 .rfl
theorem Ex(F:Fo)(k n:Nat)(h:0<(F.nd n).held):((Tr.mF F k).nd n).kind=(F.nd n).kind:=by
 unfold Tr.mF;split
 .rename_i c;by_cases e:n=k
  .subst e;omega
  .rw[Tr.bP _ _ _ _ e]
 .rfl
theorem HI.dD{F:Fo}{f:Nat->Nat}{z:Int}(h:HI F (λn=>f n+gT z n))(hz:wR z):HI (Tr.dD F z) f:=by
 obtain⟨k,rfl,k40⟩:=hz;have hk:=h.hd k k40;rw[rD]at hk;have e0:Tr.letE F (k:Int)=0:=by
  unfold Tr.letE;have:Tr.cH F (k:Int)=0:=by
   unfold Tr.cH;rw[nJ,hZ,aI (h.lv k k40 (by rw[rD];omega))]
  rw[aJ this,hZ,nJ]
 unfold Tr.dD;rw[aJ e0,hZ];have hd:∀n,n<40->((F.put k {F.nd k with held:=(F.nd k).held-1}).nd n).held=f n:=λn hn=>by
  by_cases e:n=k
  .subst e;rw[Tr.bM];show(F.nd n).held-1=f n;omega
  .rw[Tr.bP _ _ _ _ e,h.hd n hn,Ax bB];rfl
 refine⟨λn hn=>by rw[xU];exact hd n hn,λn hn h0=>?_⟩;rw[Ex _ _ _ (by rw[hd n hn];exact h0)];by_cases e:n=k
 .subst e;rw[Tr.bM];exact h.lv n hn bB
 .rw[Tr.bP _ _ _ _ e];exact h.lv n hn bB
def Rg(T:Mo.Tb):Prop:=wR T.rt.2/\∀m∈T.ms,wR m.1.2/\wR m.2.2
theorem Kx{F:Fo}{m:Mt}(h:HI F f)(h1:Tr.cH F m.1.2=0)(h2:Tr.cH F m.2.2=0):HI (nD F m) (λn=>f n+gT m.1.2 n+gT m.2.2 n):=by
 have a:=h.dP h1;refine a.dP ?_;obtain⟨k,e,k40,kk⟩:=Tr.gZ h2;rw[e];unfold Tr.cH;rw[nJ,hZ,aI];unfold Tr.dP;rw[aJ h1];by_cases c:k=m.1.2.toNat
 .rw[c,Tr.bM];rw[<-c];exact kk
 .rw[Tr.bP _ _ _ _ c];exact kk
theorem Lm{F:Fo}{m:Mt}(h:HI F (λn=>f n+gT m.1.2 n+gT m.2.2 n))(h1:wR m.1.2)(h2:wR m.2.2):HI (jd F m) f:=
 HI.dD (HI.dD (f:=λn=>f n+gT m.2.2 n) (h.congr (λn _=>bB)) h1) h2
theorem Lj{F:Fo}{T:Mo.Tb}(h:HI F (λn=>f n+tc T n))(hr:Rg T):HI (lF F T) f:=by
 have a:HI (Tr.dD F T.rt.2) (λn=>f n+mc T.ms n):=HI.dD (h.congr (λn _=>by unfold tc;omega)) hr.1;have b:∀(L:List Mt) (G:Fo),HI G (λn=>f n+mc L n)->(∀m∈L,wR m.1.2/\wR m.2.2)->HI (L.foldl jd G) f:=λL=>by
  induction L with
  |nil=>exact λG hG _=>hG.congr (λn _=>by rw[uS];omega)
  |cons m L ih=>
   intro G hG hm;refine ih (jd G m) (Lm (hG.congr (λn _=>by rw[nH];omega)) (hm m (by simp)).1 (hm m (by simp)).2) (λx hx=>hm x (by simp[hx]))
 exact b _ _ a hr.2
theorem nE{F:Fo}{y:Int}(h:Tr.cH F y=0):Tr.cH (Tr.dP F z) y=0:=by
 obtain⟨k,rfl,k40,kk⟩:=Tr.gZ h;unfold Tr.cH;rw[nJ,hZ,aI];unfold Tr.dP;split
 .by_cases c:k=z.toNat
  .rw[c,Tr.bM];rw[<-c];exact kk
  .rw[Tr.bP _ _ _ _ c];exact kk
 .exact kk
theorem TI{F:Fo}{T:Mo.Tb}(h:HI F f)(hr:Tr.cH F T.rt.2=0)(hm:∀m∈T.ms,Tr.cH F m.1.2=0/\Tr.cH F m.2.2=0):HI (nX F T) (λn=>f n+tc T n):=by
 have b:∀(L:List Mt) (G:Fo) (g:Nat->Nat),HI G g->(∀m∈L,Tr.cH G m.1.2=0/\Tr.cH G m.2.2=0)->HI (L.foldl nD G) (λn=>g n+mc L n):=λL=>by
  induction L with
  |nil=>exact λG g hG _=>hG.congr (λn _=>by rw[uS];omega)
  |cons m L ih=>
   intro G g hG hm;refine(ih (nD G m) _ (Kx hG (hm m (by simp)).1 (hm m (by simp)).2) (λx hx=>?_)).congr (λn _=>by rw[nH];omega);exact⟨nE (nE (hm x (by simp[hx])).1),nE (nE (hm x (by simp[hx])).2)⟩
 exact(b T.ms _ _ (h.dP hr) (λm hx=>⟨nE (hm m hx).1,nE (hm m hx).2⟩)).congr (λn _=>by unfold tc;omega)
theorem Va(T:Mo.Tb)(h6:T.ms.length<=6)(n:Nat):tc T n<=13:=by
 have:=Aw T.rt.2 n;have:=UZ T.ms n;unfold tc;omega
theorem zM{F:Fo}{x:Wh}(h:iD F x=0):Tr.cH F x.2=0:=by
 unfold iD at h;by_cases c:Tr.cH F x.2=0
 .exact c
 .rw[aJ c]at h;exact h
theorem Th{F:Fo}{T:Mo.Tb}{x y:Wh}(h:lL F T x y=0):iD F x=0/\iD F y=0/\T.ms.length≠6:=by
 unfold lL at h;by_cases c1:iD F x=0
 .rw[c1,aI (λd=>d rfl)]at h;by_cases c2:iD F y=0
  .rw[c2,aI (λd=>d rfl)]at h;refine⟨c1,c2,λc3=>?_⟩;by_cases c4:x=y
   .rw[aJ c4]at h;omega
   .rw[aI c4]at h;by_cases c5:(lk T.ms x).isSome=bw
    .rw[aJ c5]at h;omega
    .rw[aI c5,aJ c3]at h;omega
  .rw[aJ c2]at h;exact aZ h c2
 .rw[aJ c1]at h;exact aZ h c1
theorem xH{F:Fo}(h:Tr.cH F z=0):wR z:=by
 obtain⟨n,e,hn,_⟩:=Tr.gZ h;exact⟨n,e,hn⟩
theorem Ll{F:Fo}{T:Mo.Tb}(h:Tr.Ok F):Tr.Ok (lF F T):=by
 have:∀(L:List Mt) (G:Fo),Tr.Ok G->Tr.Ok (L.foldl jd G):=λL=>by
  induction L with
  |nil=>exact λ_ h=>h
  |cons m L ih=>exact λG h=>ih _ ((h.dD _).dD _)
 exact this _ _ (h.dD _)
theorem uQ(F:Fo)(z:Int):(Tr.dD F z).root=F.root/\(Tr.dD F z).trees=F.trees:=by
 unfold Tr.dD Tr.mF
 repeat' split
 all_goals exact⟨rfl,rfl⟩
theorem DH(F:Fo)(T:Mo.Tb):(lF F T).root=F.root/\(lF F T).trees=F.trees:=by
 have:∀(L:List Mt) (G:Fo),(L.foldl jd G).root=G.root/\(L.foldl jd G).trees=G.trees:=λL=>by
  induction L with
  |nil=>exact λG=>⟨rfl,rfl⟩
  |cons m L ih=>
   intro G;have a:=ih (jd G m);have b1:=uQ G m.1.2;have b2:=uQ (Tr.dD G m.1.2) m.2.2;exact⟨a.1.trans (b2.1.trans b1.1),a.2.trans (b2.2.trans b1.2)⟩
 have a:=this T.ms (Tr.dD F T.rt.2);have b:=uQ F T.rt.2;exact⟨a.1.trans b.1,a.2.trans b.2⟩
theorem Jq{F:Fo}(h:Tr.Ok F){t:Int}(e0:Tr.gF F t=0):Tr.cH F (Tr.fR F t)=0:=by
 have:0<=t/\t<=3/\t.toNat<F.trees:=by
  unfold Tr.gF at e0;by_cases c:t<0\/3<t
  .rw[aJ c]at e0;omega
  .rw[aI c]at e0;by_cases d:F.trees<=t.toNat
   .rw[aJ d]at e0;omega
   .omega
 have r:=h.rt t.toNat this.2.2;unfold Tr.fR;rw[aJ e0];unfold Tr.cH;rw[nJ,hZ,nJ]
end Mo
open Mv (Me Bk)
open Sg (S1)
open Fx (Fi)
open Pp (Pi)
namespace Kn
structure Pr where
 st:Nat
 par:Int
 cA:Int
 code:Int
 fd:Nat->Int
 has:Bool
 mem:Me
 box:Nat->S1
def Pr.no:Pr:=⟨0,0,0,0,λ_=>0,bA,Mv.lR,Sg.gB⟩
structure Kp where
 p:Nat->Pr
 ht:Nat->Bool
 tb:Nat->Mo.Tb
 sp:Sp.T
 gr:Nat->Gr.Gp
 sc:Wf.M
 bk:Bk
 fo:Fo
 pi:Nat->Pi
 fi:Nat->Fi
def Kp.put(k:Kp)(n:Nat)(x:Pr):Kp:={k with p:=λm=>if m=n then x else k.p m}
theorem bM(k:Kp)(n:Nat)(x:Pr):(k.put n x).p n=x:=aJ rfl
theorem bP(k:Kp)(n m:Nat)(x:Pr)(h:m≠n):(k.put n x).p m=k.p m:=aI h
structure St where
 A:Nat->Nat
 V:Nat->Value
 k:Kp
def us(s:St)(i:Nat):Prop:=i<9\/(9<=i/\i<29/\(s.k.p (i-9)).has=bw)\/(29<=i/\i<49/\(s.k.p (i-29)).has=bw)\/(49<=i/\i<55/\s.k.ht (i-49)=bw)\/(55<=i/\i<61/\s.k.ht (i-55)=bw/\(s.V (i-55)).ownBlock≠bu)
theorem ja{s:St}(hn:n<20)(h:(s.k.p n).has=bw):us s (9+n):= .inr (.inl ⟨by omega,bB,by rw[show 9+n-9=n by omega];exact h⟩)
theorem j9{s:St}(hn:n<20)(h:(s.k.p n).has=bw):us s (29+n):= .inr (.inr (.inl ⟨by omega,bB,by rw[show 29+n-29=n by omega];exact h⟩))
theorem kE{s:St}(hn:n<6)(h:s.k.ht n=bw):us s (49+n):= .inr (.inr (.inr (.inl ⟨by omega,bB,by rw[show 49+n-49=n by omega];exact h⟩)))
theorem km{s:St}(hn:n<6)(h:s.k.ht n=bw)(e:(s.V n).ownBlock=bj g):us s (55+n):= .inr (.inr (.inr (.inr ⟨by omega,bB,by rw[show 55+n-55=n by omega];exact h,by rw[show 55+n-55=n by omega,e];simp⟩)))
def KB(s:St)(b:Nat):Prop:=∃i,us s i/\b=s.A i
def ptr(b:Nat)(on:Bool):Value:=if on then ai (bj ⟨b,0,bu⟩)else ai bu
def fw(a b:Nat)(x:Pr)(j:Nat):Value:=
 if j=0 then aa az (x.st:Int)else if j=1 then aa az x.par else if j=2 then aa az x.cA else if j=3 then aa az x.code
 else if j=4 then ptr a x.has else if j=5 then ptr b x.has else aa az (x.fd (j-6))
def pc(s:St)(n j:Nat):Value:=fw (s.A (9+n)) (s.A (29+n)) (s.k.p n) j
def kc(s:St)(o:Nat):Value:=if o<240 then pc s (o/12) (o%12)else if o<246 then ptr (s.A (49+(o-240))) (s.k.ht (o-240))else if o<250 then ai (bj ⟨s.A (o-245),0,bu⟩)else ai (bj ⟨s.A (o-244),0,bu⟩)
end Kn
open Kn (Pr Kp St us KB)
structure bO (w:bD)(Wt:Nat)(s:St):Prop where
 mT:∃C,w.heap[s.A 0]? =bj (bh C 86 (0,0))/\C.size=253
 eE:∀o,o<253->w.cell? ⟨s.A 0,o,bu⟩=bj (Kn.kc s o)
 sp:Tb bw w (s.A 1) s.k.sp
 gr:Gr.bT w (s.A 2) s.k.gr
 sc:Wf.Fair w (s.A 3) s.k.sc
 bk:dN w (s.A 4) (s.A 5) s.k.bk
 fi:eG w (s.A 8) (s.A 6) (s.A 7) s.k.fi
 fo:bS w (s.A 6) s.k.fo
 pi:dW w (s.A 7) s.k.pi
 me:∀n,n<20->(s.k.p n).has=bw->dj w (s.A (9+n)) (s.A 4) (s.k.p n).mem
 bx:∀n,n<20->(s.k.p n).has=bw->CX w (s.A (29+n)) (s.k.p n).box
 tb:∀n,n<6->s.k.ht n=bw->bT w Wt (s.A (49+n)) (s.A 6) (s.k.tb n) (s.V n)
 ro:∀n,n<6->s.k.ht n=bw->∀g,(s.V n).ownBlock=bj g->s.A (55+n)=g
 inj:∀i j,us s i->us s j->s.A i=s.A j->i=j
 low:∀i,us s i->Wt<=s.A i
section
variable {w w':bD}{Wt:Nat}{s s':St}
theorem bO.lt(h:bO w Wt s){i:Nat}(hi:us s i):s.A i<w.heap.size:=by
 rcases hi with hi|⟨h1,h2,h3⟩|⟨h1,h2,h3⟩|⟨h1,h2,h3⟩|⟨h1,h2,h3,h4⟩
 .match i,hi with
  |0,_=>obtain⟨C,e,_⟩:=h.mT;exact(aX.1 e).1
  |1,_=>exact h.sp.lt
  |2,_=>exact h.gr.lt
  |3,_=>exact h.sc.lt
  |4,_=>exact h.bk.lt
  |5,_=>exact h.bk.DQ
  |6,_=>exact h.fo.lt
  |7,_=>exact h.pi.lt
  |8,_=>exact h.fi.lt
 .have:=(h.me (i-9) bB h3).lt;rwa [show 9+(i-9)=i by omega]at this
 .have:=(h.bx (i-29) bB h3).lt;rwa [show 29+(i-29)=i by omega]at this
 .have:=(h.tb (i-49) bB h3).lt;rwa [show 49+(i-49)=i by omega]at this
 .cases e:(s.V (i-55)).ownBlock with
  |none=>exact aZ e h4
  |some g=>
   have a:=h.ro (i-55) bB h3 g e;have b:=((h.tb (i-55) bB h3).row.lt g e).2;rw[show 55+(i-55)=i by omega]at a;rw[a];exact b
theorem bO.Vt(h:bO w Wt s)(hb:KB s b):b<w.heap.size:=by obtain⟨i,hi,rfl⟩:=hb;exact h.lt hi
theorem bO.TZ(h:bO w Wt s)(hb:KB s b):Wt<=b:=by obtain⟨i,hi,rfl⟩:=hb;exact h.low i hi
theorem bO.ne(h:bO w Wt s)(hi:us s i)(hj:us s j)(n:i≠j):s.A i≠s.A j:=λe=>n (h.inj i j hi hj e)
theorem bO.frozen(h:bO w Wt s)(o:Nat):w.frozen? ⟨s.A 0,o,bu⟩=bA:=by obtain⟨C,h1,_⟩:=h.mT;exact cE h1 o
theorem bO.same(h:bO w Wt s)(e:∀i,us s i->w'.heap[s.A i]? =w.heap[s.A i]?):bO w' Wt s:=by
 have e0:=e 0 (.inl bB);exact⟨by rw[e0];exact h.mT,λo ho=>(aV e0).trans (h.eE o ho),h.sp.same (e 1 (.inl bB)),(e 2 (.inl bB)).trans h.gr,h.sc.same (e 3 (.inl bB)),h.bk.same (e 4 (.inl bB)) (e 5 (.inl bB)),h.fi.same (e 8 (.inl bB)),h.fo.same (e 6 (.inl bB)),h.pi.same (e 7 (.inl bB)),
  λn hn hh=>(h.me n hn hh).same (e _ (Kn.ja hn hh)),λn hn hh=>(h.bx n hn hh).same (e _ (Kn.j9 hn hh)),
  λn hn hh=>(h.tb n hn hh).same (e _ (Kn.kE hn hh)) (λg eg=>by have:=e _ (Kn.km hn hh eg);rwa [h.ro n hn hh g eg]at this),h.ro,h.inj,h.low⟩
theorem bO.below(h:bO w Wt s)(k:Below w.heap.size w w'):bO w' Wt s:=h.same (λ_ hi=>k.block _ (h.lt hi))
theorem bO.drew(h:bO w Wt s):bO w.drew Wt s:=h.same (λ_ _=>rfl)
theorem bO.drewN(h:bO w Wt s)(n:Nat):bO (w.drewN n) Wt s:=h.same (λ_ _=>rfl)
end
structure KF (s:St)(w:bD)(s':St)(w':bD):Prop where
 ia:dS (KB s) w w'
 sub:∀b,KB s' b->KB s b\/w.heap.size<=b
 a0:s'.A 0=s.A 0
section
variable {s s1 s2:St}{w w1 w2:bD}{Wt:Nat}
theorem KF.refl(s:St)(w:bD):KF s w s w:=⟨dS.refl _ _,λ_ h=> .inl h,rfl⟩
theorem KF.trans(h:KF s w s1 w1)(k:KF s1 w1 s2 w2):KF s w s2 w2:=
 ⟨⟨k.ia.os.trans h.ia.os,k.ia.tape.trans h.ia.tape,k.ia.output.trans h.ia.output,aH h.ia.size k.ia.size,λb hb hn=>(k.ia.block b (aD hb h.ia.size) (λc=>(h.sub b c).elim hn (λc=>bB))).trans (h.ia.block b hb hn)⟩,
  λb hb=>(k.sub b hb).elim (h.sub b) (λc=> .inr (aH h.ia.size c)),k.a0.trans h.a0⟩
theorem KF.below(h:Below w.heap.size w w1):KF s w s w1:=⟨dS.cL h,λ_ h=> .inl h,rfl⟩
theorem KF.drew(s:St)(w:bD):KF s w s w.drew:=KF.below ((aQ _ _).drew)
theorem KF.behind(h:KF s w s1 w1)(hk:bO w Wt s){t:bD}{B:Nat}(b:Below B t w)(hB:B<=Wt)(hs:B<=w.heap.size):Below B t w1:=h.ia.behind b (λ_ c=>aH hB (hk.TZ c)) hs
theorem KF.jj(h:KF s w s1 w1)(hc:c<w.heap.size)(hn:¬KB s c):w1.heap[c]? =w.heap[c]? :=h.ia.block c hc hn
theorem KF.apart(h:KF s w s1 w1)(hc:c<w.heap.size)(hn:¬KB s c):¬KB s1 c:=λd=>(h.sub c d).elim hn (λe=>bB)
end
section
variable {w w':bD}{Wt:Nat}{s s':St}
theorem cv{s:St}(h:i<9:=by omega):us s i:= .inl h
theorem Kn.VF(s:St)(n j:Nat)(hn:n<20)(hj:j<12):Kn.kc s (n*12+j)=Kn.pc s n j:=by
 unfold Kn.kc;rw[nK,show(n*12+j)/12=n by omega,show(n*12+j)%12=j by omega]
theorem bO.cP(h:bO w Wt s)(n j:Nat)(hn:n<20)(hj:j<12):w.cell? ⟨s.A 0,n*12+j,bu⟩=bj (Kn.pc s n j):=by rw[h.eE _ bB,Kn.VF s n j hn hj]
theorem bO.uA(h:bO w Wt s)(n:Nat)(hn:n<20):w.cell? ⟨s.A 0,n*12,bu⟩=bj (aa az ((s.k.p n).st:Int)):=h.cP n 0 hn bB
theorem bO.uz(h:bO w Wt s)(n:Nat)(hn:n<20):w.cell? ⟨s.A 0,n*12+1,bu⟩=bj (aa az (s.k.p n).par):=h.cP n 1 hn bB
theorem bO.pP(h:bO w Wt s)(n:Nat)(hn:n<20):w.cell? ⟨s.A 0,n*12+2,bu⟩=bj (aa az (s.k.p n).cA):=h.cP n 2 hn bB
theorem bO.PS(h:bO w Wt s)(n:Nat)(hn:n<20):w.cell? ⟨s.A 0,n*12+3,bu⟩=bj (aa az (s.k.p n).code):=h.cP n 3 hn bB
theorem bO.qv(h:bO w Wt s)(n:Nat)(hn:n<20)(hh:(s.k.p n).has=bw):w.cell? ⟨s.A 0,n*12+4,bu⟩=bj (ai (bj ⟨s.A (9+n),0,bu⟩)):=by rw[h.cP n 4 hn bB];unfold Kn.pc Kn.fw;rw[hh];rfl
theorem bO.sX(h:bO w Wt s)(n:Nat)(hn:n<20)(hh:(s.k.p n).has=bw):w.cell? ⟨s.A 0,n*12+5,bu⟩=bj (ai (bj ⟨s.A (29+n),0,bu⟩)):=by rw[h.cP n 5 hn bB];unfold Kn.pc Kn.fw;rw[hh];rfl
theorem bO.qt(h:bO w Wt s)(n f:Nat)(hn:n<20)(hf:f<6):w.cell? ⟨s.A 0,n*12+6+f,bu⟩=bj (aa az ((s.k.p n).fd f)):=by
 rw[Nat.add_assoc,h.cP n (6+f) hn bB];unfold Kn.pc Kn.fw;rw[nJ,nJ,nJ,nJ,nJ,nJ,show 6+f-6=f by omega]
theorem bO.Ns(h:bO w Wt s)(n:Nat)(hn:n<6)(hh:s.k.ht n=bw):w.cell? ⟨s.A 0,240+n,bu⟩=bj (ai (bj ⟨s.A (49+n),0,bu⟩)):=by
 rw[h.eE _ bB];unfold Kn.kc;rw[nJ,nK,show 240+n-240=n by omega,hh];rfl
theorem bO.yL(h:bO w Wt s):w.cell? ⟨s.A 0,246,bu⟩=bj (ai (bj ⟨s.A 1,0,bu⟩)):=h.eE 246 bB
theorem bO.pA(h:bO w Wt s):w.cell? ⟨s.A 0,247,bu⟩=bj (ai (bj ⟨s.A 2,0,bu⟩)):=h.eE 247 bB
theorem bO.wM(h:bO w Wt s):w.cell? ⟨s.A 0,248,bu⟩=bj (ai (bj ⟨s.A 3,0,bu⟩)):=h.eE 248 bB
theorem bO.V8(h:bO w Wt s):w.cell? ⟨s.A 0,249,bu⟩=bj (ai (bj ⟨s.A 4,0,bu⟩)):=h.eE 249 bB
theorem bO.wJ(h:bO w Wt s):w.cell? ⟨s.A 0,250,bu⟩=bj (ai (bj ⟨s.A 6,0,bu⟩)):=h.eE 250 bB
theorem bO.tS(h:bO w Wt s):w.cell? ⟨s.A 0,252,bu⟩=bj (ai (bj ⟨s.A 8,0,bu⟩)):=h.eE 252 bB
theorem bO.others(h:bO w Wt s)(hj:us s j)(f:bG (s.A j) w w'):∀i,us s i->i≠j->w'.heap[s.A i]? =w.heap[s.A i]? :=λ_ hi n=>f.block _ (h.lt hi) (h.ne hi hj n)
theorem KF.one(s':St)(hj:us s j)(f:bG (s.A j) w w')(hA:s'.A=s.A)(hu:∀i,us s' i->us s i):KF s w s' w':=⟨dS.kS f ⟨j,hj,rfl⟩,λb ⟨i,hi,e⟩=> .inl ⟨i,hu i hi,by rw[e,hA]⟩,by rw[hA]⟩
theorem Gr.bG.sK(f:Gr.bG b w w'):Go.Proofs.YtpmmdkcfenjiaaaGreatDoor.bG b w w':=⟨f.os,f.tape,f.output,f.size,f.block⟩
theorem bO.ze(h:bO w Wt s){t:Sp.T}(u:Tb bw w' (s.A 1) t)(f:bG (s.A 1) w w'):bO w' Wt {s with k:={s.k with sp:=t}}/\KF s w {s with k:={s.k with sp:=t}} w':=by
 have o:=h.others cv f;refine⟨⟨by rw[o 0 cv bB];exact h.mT,λx hx=>(aV (o 0 cv bB)).trans (h.eE x hx),u,(o 2 cv bB).trans h.gr,h.sc.same (o 3 cv bB),h.bk.same (o 4 cv bB) (o 5 cv bB),h.fi.same (o 8 cv bB),h.fo.same (o 6 cv bB),h.pi.same (o 7 cv bB),
  λn hn hh=>(h.me n hn hh).same (o _ (Kn.ja hn hh) bB),λn hn hh=>(h.bx n hn hh).same (o _ (Kn.j9 hn hh) bB),
  λn hn hh=>(h.tb n hn hh).same (o _ (Kn.kE hn hh) bB) (λg eg=>by have:=o _ (Kn.km hn hh eg) bB;rwa [h.ro n hn hh g eg]at this),h.ro,h.inj,h.low⟩,KF.one _ cv f rfl (λ_ hi=>hi)⟩
theorem bO.ks(h:bO w Wt s){t:Nat->Gr.Gp}(u:Gr.bT w' (s.A 2) t)(f:bG (s.A 2) w w'):bO w' Wt {s with k:={s.k with gr:=t}}/\KF s w {s with k:={s.k with gr:=t}} w':=by
 have o:=h.others cv f;refine⟨⟨by rw[o 0 cv bB];exact h.mT,λx hx=>(aV (o 0 cv bB)).trans (h.eE x hx),h.sp.same (o 1 cv bB),u,h.sc.same (o 3 cv bB),h.bk.same (o 4 cv bB) (o 5 cv bB),h.fi.same (o 8 cv bB),h.fo.same (o 6 cv bB),h.pi.same (o 7 cv bB),
  λn hn hh=>(h.me n hn hh).same (o _ (Kn.ja hn hh) bB),λn hn hh=>(h.bx n hn hh).same (o _ (Kn.j9 hn hh) bB),
  λn hn hh=>(h.tb n hn hh).same (o _ (Kn.kE hn hh) bB) (λg eg=>by have:=o _ (Kn.km hn hh eg) bB;rwa [h.ro n hn hh g eg]at this),h.ro,h.inj,h.low⟩,KF.one _ cv f rfl (λ_ hi=>hi)⟩
theorem bO.lH(h:bO w Wt s){t:Wf.M}(u:Wf.Fair w' (s.A 3) t)(f:bG (s.A 3) w w'):bO w' Wt {s with k:={s.k with sc:=t}}/\KF s w {s with k:={s.k with sc:=t}} w':=by
 have o:=h.others cv f;refine⟨⟨by rw[o 0 cv bB];exact h.mT,λx hx=>(aV (o 0 cv bB)).trans (h.eE x hx),h.sp.same (o 1 cv bB),(o 2 cv bB).trans h.gr,u,h.bk.same (o 4 cv bB) (o 5 cv bB),h.fi.same (o 8 cv bB),h.fo.same (o 6 cv bB),h.pi.same (o 7 cv bB),
  λn hn hh=>(h.me n hn hh).same (o _ (Kn.ja hn hh) bB),λn hn hh=>(h.bx n hn hh).same (o _ (Kn.j9 hn hh) bB),
  λn hn hh=>(h.tb n hn hh).same (o _ (Kn.kE hn hh) bB) (λg eg=>by have:=o _ (Kn.km hn hh eg) bB;rwa [h.ro n hn hh g eg]at this),h.ro,h.inj,h.low⟩,KF.one _ cv f rfl (λ_ hi=>hi)⟩
theorem bO.Cv(h:bO w Wt s){F:Fo}(u:bS w' (s.A 6) F)(f:bG (s.A 6) w w'):bO w' Wt {s with k:={s.k with fo:=F}}/\KF s w {s with k:={s.k with fo:=F}} w':=by
 have o:=h.others cv f;refine⟨⟨by rw[o 0 cv bB];exact h.mT,λx hx=>(aV (o 0 cv bB)).trans (h.eE x hx),h.sp.same (o 1 cv bB),(o 2 cv bB).trans h.gr,h.sc.same (o 3 cv bB),h.bk.same (o 4 cv bB) (o 5 cv bB),h.fi.same (o 8 cv bB),u,h.pi.same (o 7 cv bB),
  λn hn hh=>(h.me n hn hh).same (o _ (Kn.ja hn hh) bB),λn hn hh=>(h.bx n hn hh).same (o _ (Kn.j9 hn hh) bB),
  λn hn hh=>(h.tb n hn hh).same (o _ (Kn.kE hn hh) bB) (λg eg=>by have:=o _ (Kn.km hn hh eg) bB;rwa [h.ro n hn hh g eg]at this),h.ro,h.inj,h.low⟩,KF.one _ cv f rfl (λ_ hi=>hi)⟩
theorem bO.fx(h:bO w Wt s):FX w (s.A 8) (s.A 6) (s.A 7) s.k.fi s.k.fo s.k.pi:=⟨h.fi,h.fo,h.pi,h.ne cv cv bB,h.ne cv cv bB,h.ne cv cv bB⟩
theorem bO.wo(h:bO w Wt s){T:Nat->Fi}{F:Fo}{S:Nat->Pi}(u:FX w' (s.A 8) (s.A 6) (s.A 7) T F S)(f:dJ (s.A 8) (s.A 6) (s.A 7) w w'):bO w' Wt {s with k:={s.k with fi:=T,fo:=F,pi:=S}}/\KF s w {s with k:={s.k with fi:=T,fo:=F,pi:=S}} w':=by
 have o:∀i,us s i->i≠8->i≠6->i≠7->w'.heap[s.A i]? =w.heap[s.A i]? :=λi hi a b c=>f.block _ (h.lt hi) (h.ne hi cv a) (h.ne hi cv b) (h.ne hi cv c);refine⟨⟨by rw[o 0 cv bB bB bB];exact h.mT,λx hx=>(aV (o 0 cv bB bB bB)).trans (h.eE x hx),h.sp.same (o 1 cv bB bB bB),(o 2 cv bB bB bB).trans h.gr,h.sc.same (o 3 cv bB bB bB),h.bk.same (o 4 cv bB bB bB) (o 5 cv bB bB bB),u.1,u.2.1,u.2.2.1,
  λn hn hh=>(h.me n hn hh).same (o _ (Kn.ja hn hh) bB bB bB),λn hn hh=>(h.bx n hn hh).same (o _ (Kn.j9 hn hh) bB bB bB),
  λn hn hh=>(h.tb n hn hh).same (o _ (Kn.kE hn hh) bB bB bB) (λg eg=>by have:=o _ (Kn.km hn hh eg) bB bB bB;rwa [h.ro n hn hh g eg]at this),h.ro,h.inj,h.low⟩,
  ⟨⟨f.os,f.tape,f.output,f.size,λb hb hn=>f.block b hb (λe=>hn ⟨8,cv,e⟩) (λe=>hn ⟨6,cv,e⟩) (λe=>hn ⟨7,cv,e⟩)⟩,λb hb=> .inl hb,rfl⟩⟩
theorem bO.ub(h:bO w Wt s)(hn:n<20)(hh:(s.k.p n).has=bw):UB w (s.A (9+n)) (s.A 4) (s.A 5) (s.k.p n).mem s.k.bk:=⟨h.me n hn hh,h.bk,h.ne (Kn.ja hn hh) cv bB,h.ne (Kn.ja hn hh) cv bB⟩
def Kn.cT(k:Kp)(n:Nat)(m:Me)(b:Bk):Kp:={k.put n {k.p n with mem:=m}with bk:=b}
theorem Kn.MF{s:St}{x:Pr}(hx:x.has=(s.k.p n).has)(b:Bk)(i:Nat):us {s with k:={s.k.put n x with bk:=b}} i↔us s i:=by
 have e:∀j,((s.k.put n x).p j).has=(s.k.p j).has:=λj=>by
  by_cases c:j=n
  .rw[c,Kn.bM,hx]
  .rw[Kn.bP _ _ _ _ c]
 unfold us;show(_\/(_/\_/\((s.k.put n x).p _).has=bw)\/(_/\_/\((s.k.put n x).p _).has=bw)\/_\/_)↔_;rw[e,e];exact Iff.rfl
theorem bO.zd(h:bO w Wt s)(hn:n<20)(hh:(s.k.p n).has=bw){m:Me}{b:Bk}(u:UB w' (s.A (9+n)) (s.A 4) (s.A 5) m b)(f:fS (s.A (9+n)) (s.A 4) (s.A 5) w w'):bO w' Wt {s with k:=Kn.cT s.k n m b}/\KF s w {s with k:=Kn.cT s.k n m b} w':=by
 have o:∀i,us s i->i≠9+n->i≠4->i≠5->w'.heap[s.A i]? =w.heap[s.A i]? :=λi hi a b c=>f.block _ (h.lt hi) (h.ne hi (Kn.ja hn hh) a) (h.ne hi cv b) (h.ne hi cv c);have pu:∀i,us {s with k:=Kn.cT s.k n m b} i↔us s i:=Kn.MF (n:=n) (x:={s.k.p n with mem:=m}) rfl b;have pk:∀x,Kn.kc {s with k:=Kn.cT s.k n m b} x=Kn.kc s x:=λx=>by
  unfold Kn.kc Kn.pc Kn.fw;by_cases c:x/12=n
  .rw[show(Kn.cT s.k n m b).p (x/12)={s.k.p n with mem:=m}by rw[c];exact Kn.bM _ _ _,<-c];rfl
  .rw[show(Kn.cT s.k n m b).p (x/12)=s.k.p (x/12)from Kn.bP _ _ _ _ c];rfl
 refine⟨⟨by rw[show({s with k:=Kn.cT s.k n m b}:St).A 0=s.A 0 from rfl,o 0 cv bB bB bB];exact h.mT,λx hx=>by rw[pk];exact(aV (o 0 cv bB bB bB)).trans (h.eE x hx),h.sp.same (o 1 cv bB bB bB),(o 2 cv bB bB bB).trans h.gr,h.sc.same (o 3 cv bB bB bB),u.bk,h.fi.same (o 8 cv bB bB bB),h.fo.same (o 6 cv bB bB bB),h.pi.same (o 7 cv bB bB bB),
  λj hj jh=>?_,λj hj jh=>?_,
  λn hn hh=>(h.tb n hn hh).same (o _ (Kn.kE hn hh) bB bB bB) (λg eg=>by have:=o _ (Kn.km hn hh eg) bB bB bB;rwa [h.ro n hn hh g eg]at this),h.ro,λi j hi hj=>h.inj i j ((pu i).1 hi) ((pu j).1 hj),λi hi=>h.low i ((pu i).1 hi)⟩,
  ⟨⟨f.os,f.tape,f.output,f.size,λb hb hc=>f.block b hb (λe=>hc ⟨_,Kn.ja hn hh,e⟩) (λe=>hc ⟨4,cv,e⟩) (λe=>hc ⟨5,cv,e⟩)⟩,λb ⟨i,hi,e⟩=> .inl ⟨i,(pu i).1 hi,e⟩,rfl⟩⟩
 .by_cases c:j=n
  .subst c;rw[show(Kn.cT s.k j m b).p j={s.k.p j with mem:=m}from Kn.bM _ _ _];exact u.me
  .rw[show(Kn.cT s.k n m b).p j=s.k.p j from Kn.bP _ _ _ _ c]at jh|-;exact(h.me j hj jh).same (o _ (Kn.ja hj jh) bB bB bB)
 .by_cases c:j=n
  .subst c;rw[show(Kn.cT s.k j m b).p j={s.k.p j with mem:=m}from Kn.bM _ _ _];exact(h.bx j hj hh).same (o _ (Kn.j9 hj hh) bB bB bB)
  .rw[show(Kn.cT s.k n m b).p j=s.k.p j from Kn.bP _ _ _ _ c]at jh|-;exact(h.bx j hj jh).same (o _ (Kn.j9 hj jh) bB bB bB)
end
section
variable {w w':bD}{Wt:Nat}{s s':St}
theorem bO.U3(h:bO w Wt s){b:Bk}(u:dN w' (s.A 4) (s.A 5) b)(f:jm (s.A 4) (s.A 5) w w'):bO w' Wt {s with k:={s.k with bk:=b}}/\KF s w {s with k:={s.k with bk:=b}} w':=by
 have o:∀i,us s i->i≠4->i≠5->w'.heap[s.A i]? =w.heap[s.A i]? :=λi hi a b=>f.block _ (h.lt hi) (h.ne hi cv a) (h.ne hi cv b);refine⟨⟨by rw[o 0 cv bB bB];exact h.mT,λx hx=>(aV (o 0 cv bB bB)).trans (h.eE x hx),h.sp.same (o 1 cv bB bB),(o 2 cv bB bB).trans h.gr,h.sc.same (o 3 cv bB bB),u,h.fi.same (o 8 cv bB bB),h.fo.same (o 6 cv bB bB),h.pi.same (o 7 cv bB bB),
  λn hn hh=>(h.me n hn hh).same (o _ (Kn.ja hn hh) bB bB),λn hn hh=>(h.bx n hn hh).same (o _ (Kn.j9 hn hh) bB bB),
  λn hn hh=>(h.tb n hn hh).same (o _ (Kn.kE hn hh) bB bB) (λg eg=>by have:=o _ (Kn.km hn hh eg) bB bB;rwa [h.ro n hn hh g eg]at this),h.ro,h.inj,h.low⟩,
  ⟨⟨f.os,f.tape,f.output,f.size,λb hb hc=>f.block b hb (λe=>hc ⟨4,cv,e⟩) (λe=>hc ⟨5,cv,e⟩)⟩,λb hb=> .inl hb,rfl⟩⟩
theorem Kn.yU(s:St)(n:Nat)(x:Pr)(o:Nat):Kn.kc {s with k:=s.k.put n x} o=if o<240/\o/12=n then Kn.fw (s.A (9+n)) (s.A (29+n)) x (o%12)else Kn.kc s o:=by
 unfold Kn.kc;by_cases c:o<240
 .rw[aJ c,aJ c];by_cases d:o/12=n
  .rw[aJ ⟨c,d⟩];unfold Kn.pc;rw[d];show Kn.fw (s.A (9+n)) (s.A (29+n)) ((s.k.put n x).p n) _=_;rw[Kn.bM]
  .rw[aI (λe=>d e.2)];unfold Kn.pc;show Kn.fw (s.A (9+o/12)) (s.A (29+o/12)) ((s.k.put n x).p (o/12)) _=_;rw[Kn.bP _ _ _ _ d]
 .rw[aI c,aI (show¬(o<240/\o/12=n)from λe=>c e.1),aI c];rfl
theorem Kn.AX{s:St}{x:Pr}(hx:x.has=(s.k.p n).has)(i:Nat):us {s with k:=s.k.put n x} i↔us s i:=Kn.MF hx s.k.bk i
theorem bO.Vd(h:bO w Wt s){x:Pr}(hx:x.has=(s.k.p n).has)(hm:x.mem=(s.k.p n).mem)(hb:x.box=(s.k.p n).box)(f:bG (s.A 0) w w')(hk:∃C,w'.heap[s.A 0]? =bj (bh C 86 (0,0))/\C.size=253)
  (hc:∀o,o<253->w'.cell? ⟨s.A 0,o,bu⟩=bj (Kn.kc {s with k:=s.k.put n x} o)):bO w' Wt {s with k:=s.k.put n x}/\KF s w {s with k:=s.k.put n x} w':=by
 have o:=h.others cv f;have pu:=Kn.AX (s:=s) hx;refine⟨⟨hk,hc,h.sp.same (o 1 cv bB),(o 2 cv bB).trans h.gr,h.sc.same (o 3 cv bB),h.bk.same (o 4 cv bB) (o 5 cv bB),h.fi.same (o 8 cv bB),h.fo.same (o 6 cv bB),h.pi.same (o 7 cv bB),
  λj hj jh=>?_,λj hj jh=>?_,
  λn hn hh=>(h.tb n hn hh).same (o _ (Kn.kE hn hh) bB) (λg eg=>by have:=o _ (Kn.km hn hh eg) bB;rwa [h.ro n hn hh g eg]at this),h.ro,λi j hi hj=>h.inj i j ((pu i).1 hi) ((pu j).1 hj),λi hi=>h.low i ((pu i).1 hi)⟩,KF.one _ cv f rfl (λi hi=>(pu i).1 hi)⟩
 .by_cases c:j=n
  .subst c;rw[show((s.k.put j x).p j)=x from Kn.bM _ _ _]at jh|-;rw[hm];rw[hx]at jh;exact(h.me j hj jh).same (o _ (Kn.ja hj jh) bB)
  .rw[show((s.k.put n x).p j)=s.k.p j from Kn.bP _ _ _ _ c]at jh|-;exact(h.me j hj jh).same (o _ (Kn.ja hj jh) bB)
 .by_cases c:j=n
  .subst c;rw[show((s.k.put j x).p j)=x from Kn.bM _ _ _]at jh|-;rw[hb];rw[hx]at jh;exact(h.bx j hj jh).same (o _ (Kn.j9 hj jh) bB)
  .rw[show((s.k.put n x).p j)=s.k.p j from Kn.bP _ _ _ _ c]at jh|-;exact(h.bx j hj jh).same (o _ (Kn.j9 hj jh) bB)
theorem bO.Em(h:bO w Wt s)(hn:n<20)(hj:j<12){x:Pr}(v:Value)(hx:x.has=(s.k.p n).has)(hm:x.mem=(s.k.p n).mem)(hb:x.box=(s.k.p n).box)(hv:∀a b i,i<12->Kn.fw a b x i=if i=j then v else Kn.fw a b (s.k.p n) i):
  bO (w.setCell ⟨s.A 0,n*12+j,bu⟩ v) Wt {s with k:=s.k.put n x}/\KF s w {s with k:=s.k.put n x} (w.setCell ⟨s.A 0,n*12+j,bu⟩ v):=by
 obtain⟨C,e,sz⟩:=h.mT;refine h.Vd hx hm hb ((bG.refl _ _).setCell _ _) ⟨_,cQ e _ v,by simpa using sz⟩ (λo ho=>?_);rw[Kn.yU];by_cases c:o=n*12+j
 .subst c;rw[dF e _ v bB,aJ ⟨by omega,bB⟩,show(n*12+j)%12=j by omega,hv _ _ j hj,aJ rfl]
 .rw[dm e _ _ v (bQ c)];by_cases d:o<240/\o/12=n
  .rw[aJ d,hv _ _ _ bB,nJ,h.eE o ho];unfold Kn.kc Kn.pc;rw[aJ d.1,d.2]
  .rw[aI d];exact h.eE o ho
theorem bO.U5(h:bO w Wt s)(hn:n<20)(v:Nat):bO (w.setCell ⟨s.A 0,n*12,bu⟩ (aa az (v:Int))) Wt {s with k:=s.k.put n {s.k.p n with st:=v}}/\KF s w {s with k:=s.k.put n {s.k.p n with st:=v}} (w.setCell ⟨s.A 0,n*12,bu⟩ (aa az (v:Int))):=
 h.Em hn (j:=0) bB _ rfl rfl rfl (λa b i hi=>by
  match i,hi with
  |0,_=>rfl
  |i+1,_=>rw[nJ];rfl)
theorem bO.Eo(h:bO w Wt s)(hn:n<20)(v:Int):bO (w.setCell ⟨s.A 0,n*12+1,bu⟩ (aa az v)) Wt {s with k:=s.k.put n {s.k.p n with par:=v}}/\KF s w {s with k:=s.k.put n {s.k.p n with par:=v}} (w.setCell ⟨s.A 0,n*12+1,bu⟩ (aa az v)):=
 h.Em hn (j:=1) bB _ rfl rfl rfl (λa b i hi=>by
  match i,hi with
  |0,_=>rfl
  |1,_=>rfl
  |i+2,_=>rw[nJ];rfl)
theorem bO.Uo(h:bO w Wt s)(hn:n<20)(v:Int):bO (w.setCell ⟨s.A 0,n*12+2,bu⟩ (aa az v)) Wt {s with k:=s.k.put n {s.k.p n with cA:=v}}/\KF s w {s with k:=s.k.put n {s.k.p n with cA:=v}} (w.setCell ⟨s.A 0,n*12+2,bu⟩ (aa az v)):=
 h.Em hn (j:=2) bB _ rfl rfl rfl (λa b i hi=>by
  match i,hi with
  |0,_=>rfl
  |1,_=>rfl
  |2,_=>rfl
  |i+3,_=>rw[nJ];rfl)
theorem bO.Sn(h:bO w Wt s)(hn:n<20)(v:Int):bO (w.setCell ⟨s.A 0,n*12+3,bu⟩ (aa az v)) Wt {s with k:=s.k.put n {s.k.p n with code:=v}}/\KF s w {s with k:=s.k.put n {s.k.p n with code:=v}} (w.setCell ⟨s.A 0,n*12+3,bu⟩ (aa az v)):=
 h.Em hn (j:=3) bB _ rfl rfl rfl (λa b i hi=>by
  match i,hi with
  |0,_=>rfl
  |1,_=>rfl
  |2,_=>rfl
  |3,_=>rfl
  |i+4,_=>rw[nJ];rfl)
def Kn.fT(k:Kp)(n f:Nat)(v:Int):Kp:=k.put n {k.p n with fd:=λi=>if i=f then v else(k.p n).fd i}
theorem bO.rF(h:bO w Wt s){f:Nat}(hn:n<20)(hf:f<6)(v:Int):bO (w.setCell ⟨s.A 0,n*12+6+f,bu⟩ (aa az v)) Wt {s with k:=Kn.fT s.k n f v}/\KF s w {s with k:=Kn.fT s.k n f v} (w.setCell ⟨s.A 0,n*12+6+f,bu⟩ (aa az v)):=by
 rw[Nat.add_assoc];exact h.Em hn (j:=6+f) bB _ rfl rfl rfl (λa b i hi=>by
  unfold Kn.fw;by_cases c:i=6+f
  .rw[aJ c,nJ,nJ,nJ,nJ,nJ,nJ];simp[show i-6=f by omega]
  .rw[aI c];by_cases d:i<6
   .have q:i=0\/i=1\/i=2\/i=3\/i=4\/i=5:=bB
    rcases q with rfl|rfl|rfl|rfl|rfl|rfl<;>rfl
   .rw[nJ,nJ,nJ,nJ,nJ,nJ];simp[show i-6≠f by omega,show i≠0 by omega,show i≠1 by omega,show i≠2 by omega,show i≠3 by omega,show i≠4 by omega,show i≠5 by omega])
theorem bO.wm(h:bO w Wt s)(hn:n<20)(hh:(s.k.p n).has=bw){X:Nat->S1}(u:CX w' (s.A (29+n)) X)(f:bG (s.A (29+n)) w w'):bO w' Wt {s with k:=s.k.put n {s.k.p n with box:=X}}/\KF s w {s with k:=s.k.put n {s.k.p n with box:=X}} w':=by
 have o:=h.others (Kn.j9 hn hh) f;have pu:=Kn.AX (s:=s) (n:=n) (x:={s.k.p n with box:=X}) rfl;have pk:∀x,Kn.kc {s with k:=s.k.put n {s.k.p n with box:=X}} x=Kn.kc s x:=λx=>by
  rw[Kn.yU];by_cases c:x<240/\x/12=n
  .rw[aJ c];unfold Kn.kc Kn.pc;rw[aJ c.1,c.2];rfl
  .rw[aI c]
 refine⟨⟨by rw[show({s with k:=s.k.put n {s.k.p n with box:=X}}:St).A 0=s.A 0 from rfl,o 0 cv bB];exact h.mT,λx hx=>by rw[pk];exact(aV (o 0 cv bB)).trans (h.eE x hx),h.sp.same (o 1 cv bB),(o 2 cv bB).trans h.gr,h.sc.same (o 3 cv bB),h.bk.same (o 4 cv bB) (o 5 cv bB),h.fi.same (o 8 cv bB),h.fo.same (o 6 cv bB),h.pi.same (o 7 cv bB),
  λj hj jh=>?_,λj hj jh=>?_,
  λn hn hh=>(h.tb n hn hh).same (o _ (Kn.kE hn hh) bB) (λg eg=>by have:=o _ (Kn.km hn hh eg) bB;rwa [h.ro n hn hh g eg]at this),h.ro,λi j hi hj=>h.inj i j ((pu i).1 hi) ((pu j).1 hj),λi hi=>h.low i ((pu i).1 hi)⟩,KF.one _ (Kn.j9 hn hh) f rfl (λi hi=>(pu i).1 hi)⟩
 .by_cases c:j=n
  .subst c;rw[show((s.k.put j {s.k.p j with box:=X}).p j)={s.k.p j with box:=X}from Kn.bM _ _ _];exact(h.me j hj hh).same (o _ (Kn.ja hj hh) bB)
  .rw[show((s.k.put n {s.k.p n with box:=X}).p j)=s.k.p j from Kn.bP _ _ _ _ c]at jh|-;exact(h.me j hj jh).same (o _ (Kn.ja hj jh) bB)
 .by_cases c:j=n
  .subst c;rw[show((s.k.put j {s.k.p j with box:=X}).p j)={s.k.p j with box:=X}from Kn.bM _ _ _];exact u
  .rw[show((s.k.put n {s.k.p n with box:=X}).p j)=s.k.p j from Kn.bP _ _ _ _ c]at jh|-;exact(h.bx j hj jh).same (o _ (Kn.j9 hj jh) bB)
end
def Kn.lv(k:Kp)(n:Nat):Bool:=decide ((k.p n).st=1)
def Kn.cD(k:Kp)(z:Int):Int:=if z<0\/20<=z then 1 else if Kn.lv k z.toNat=bw then 0 else 2
theorem Kn.xe{k:Kp}(h:Kn.cD k z≠0):0<Kn.cD k z:=by
 unfold Kn.cD at h|-;split
 .decide
 .split
  .rename_i a b;rw[aI a,aJ b]at h;exact aZ rfl h
  .decide
theorem Kn.fL{k:Kp}(h:Kn.cD k z=0):∃n:Nat,z=n/\n<20/\Kn.lv k n=bw:=by
 unfold Kn.cD at h;by_cases c:z<0\/20<=z
 .rw[aJ c]at h;omega
 .rw[aI c]at h;by_cases d:Kn.lv k z.toNat=bw
  .exact⟨z.toNat,bB,bB,d⟩
  .rw[aI d]at h;omega
theorem Kn.VX{k:Kp}(hn:n<20)(h:Kn.lv k n=bw):Kn.cD k (n:Int)=0:=by
 unfold Kn.cD;rw[nJ,hZ,aJ h]
def gQ(b:Nat)(z E:Int):Value:=if E=0 then ai (bj ⟨b,z.toNat*12,bu⟩)else ai bu
theorem gC(b n:Nat):gQ b (n:Int) 0=ai (bj ⟨b,n*12,bu⟩):=by unfold gQ;rw[aJ rfl,hZ]
theorem Gs(h:E≠0):gQ b z E=ai none:=aI h
section
variable (Wt:Nat)(s:St)(w:bD)
theorem jq(n:Nat)(h:bO w Wt s)(hn:n<20)(v:Bool)(hv:Kn.lv s.k n=v):
  Calls prog 60 #[ai (bj ⟨s.A 0,0,bu⟩),aa az n] w λe w'=>e=bf (ar v)/\w'=w:=by
 have c0:=h.uA n hn;have hnI:(n:Int)<20:=bB
 generalize s.A 0=kb at*;unfold Kn.lv at hv;generalize (s.k.p n).st=st at*;by_cases d:st=1
 .subst d;have E:v=bw:=by rw[<-hv];rfl
  subst E;have c0':w.cell? ⟨kb,n*12,bu⟩=bj (aa .i64 1):=c0;go_in
  go_wp2
  go_ret
  exact⟨rfl,rfl⟩
 .have E:v=bA:=by rw[<-hv];exact aT d
  subst E;have d1:((st:Int)==1)=bA:=by simp;omega
  go_in
  go_wp2
  go_ret
  exact⟨rfl,rfl⟩
theorem dG(z:Int)(h:bO w Wt s):
  Calls prog 57 #[ai (bj ⟨s.A 0,0,bu⟩),aa az z] w λe w'=>e=bf (ao #[gQ (s.A 0) z (Kn.cD s.k z),bN (Kn.cD s.k z)])/\w'=w:=by
 by_cases c:z<0\/20<=z
 .have E:Hid (Kn.cD s.k z=1/\gQ (s.A 0) z 1=ai bu):=hJ ⟨aJ c,Gs bE⟩;generalize s.A 0=kb at*;by_cases c1:z<0
  .clear c;go_in
   go_wp2
   go_ret2
   rw[E.1,E.2];exact⟨rfl,rfl⟩
  .have c2:20<=z:=bB
   go_in
   go_wp2
   go_ret2
   rw[E.1,E.2];exact⟨rfl,rfl⟩
 .obtain⟨n,rfl⟩:∃n:Nat,z=n:=⟨z.toNat,bB⟩;have hn:n<20:=bB
  have hnI:(n:Int)<20:=bB
  have E0:Kn.cD s.k (n:Int)=if Kn.lv s.k n=bw then 0 else 2:=by unfold Kn.cD;rw[aI c,hZ]
  obtain⟨v,hv⟩:=hU (Kn.lv s.k n);have LV:=hJ (jq Wt s w n h hn v hv);cases v
  .have E:Hid (Kn.cD s.k (n:Int)=2/\gQ (s.A 0) (n:Int) 2=ai bu):=hJ ⟨by rw[E0,hv];rfl,Gs bE⟩;generalize s.A 0=kb at*;go_in
   go_wp2_with fail
   refine sC LV.v ?_;rintro w1 hw;subst w1;go_wp2
   go_ret2
   rw[E.1,E.2];exact⟨rfl,rfl⟩
  .have E:Hid (Kn.cD s.k (n:Int)=0/\gQ (s.A 0) (n:Int) 0=ai (bj ⟨s.A 0,n*12,bu⟩)):=hJ ⟨by rw[E0,hv];rfl,gC _ _⟩;generalize s.A 0=kb at*;go_in
   go_wp2_with fail
   refine sC LV.v ?_;rintro w1 hw;subst w1;go_wp2
   go_ret2
   rw[E.1,E.2];exact⟨rfl,rfl⟩
theorem iJ(z:Int)(h:bO w Wt s):
  Calls prog 62 #[ai (bj ⟨s.A 0,0,bu⟩),aa az z] w λe w'=>e=bf (aa az (Sp.dX s.k.sp z:Int))/\w'=w:=by
 have c0:=h.yL;have OF:=hJ (D7 (s.A 1) z s.k.sp w h.sp);generalize s.A 0=kb at*;go_in
 go_wp2_with fail
 refine sC OF.v ?_;rintro w1 hw;subst w1;go_wp2
 go_ret
 exact⟨rfl,rfl⟩
theorem DB(x z:Int)(h:bO w Wt s)(h0:∀n,n<6->s.k.sp.b7 n 0=0):
  Calls prog 70 #[ai (bj ⟨s.A 0,0,bu⟩),aa az x,aa az z] w λe w'=>e=bf (aa az (Sp.pS s.k.sp x z:Int))/\w'=w:=by
 have c0:=h.yL;have OF:=hJ (O4 (s.A 1) x z s.k.sp w h.sp h0);generalize s.A 0=kb at*;go_in
 go_wp2_with fail
 refine sC OF.v ?_;rintro w1 hw;subst w1;go_wp2
 go_ret
 exact⟨rfl,rfl⟩
theorem Bq(z:Int)(h:bO w Wt s):
  Calls prog 150 #[ai (bj ⟨s.A 0,0,bu⟩),aa az z] w λe w'=>e=bf (aa az (Sp.fc s.k.sp z 1:Int))/\w'=w:=by
 have c0:=h.yL;have OF:=hJ (Dm (s.A 1) z 1 s.k.sp w h.sp);generalize s.A 0=kb at*;go_in
 go_wp2_with fail
 refine sC OF.v ?_;rintro w1 hw;subst w1;go_wp2
 go_ret
 exact⟨rfl,rfl⟩
theorem qH(z:Int)(h:bO w Wt s):
  Calls prog 75 #[ai (bj ⟨s.A 0,0,bu⟩),aa az z] w λe w'=>∃v,e=bf v/\LO w (eQ s.k.sp z) v w':=by
 have c0:=h.yL;have OF:=hJ (DY (s.A 1) z s.k.sp w h.sp);generalize s.A 0=kb at*;go_in
 go_wp2_with fail
 refine OF.mono ?_;rintro e w1 ⟨v,rfl,hL⟩;have HL:=hJ hL;go_wp2
 go_ret
 exact⟨v,rfl,HL.v⟩
def Kn.hd(k:Kp)(n:Nat):Nat:=Sp.fc k.sp (Sp.dX k.sp (n:Int):Int) 1
theorem mU(n:Nat)(h:bO w Wt s)(v:Bool)(hv:decide (Kn.hd s.k n=n)=v):
  Calls prog 93 #[ai (bj ⟨s.A 0,0,bu⟩),aa az n] w λe w'=>e=bf (ar v)/\w'=w:=by
 have SP:=hJ (iJ Wt s w (n:Int) h);have HD:=hJ (Bq Wt s w (Sp.dX s.k.sp (n:Int):Int) h);unfold Kn.hd at hv;generalize Sp.fc s.k.sp (Sp.dX s.k.sp (n:Int):Int) 1=x at*;generalize Sp.dX s.k.sp (n:Int)=y at*;generalize s.A 0=kb at*;by_cases d:x=n
 .subst d;have E:v=bw:=by rw[<-hv];simp
  subst E;go_in
  go_wp2_with fail
  refine sC SP.v ?_;rintro w1 hw;subst w1;go_wp2_with fail
  refine sC HD.v ?_;rintro w1 hw;subst w1;go_wp2
  go_ret
  exact⟨rfl,rfl⟩
 .have E:v=bA:=by rw[<-hv];exact aT d
  subst E;have d1:((x:Int)==(n:Int))=bA:=by simp;omega
  go_in
  go_wp2_with fail
  refine sC SP.v ?_;rintro w1 hw;subst w1;go_wp2_with fail
  refine sC HD.v ?_;rintro w1 hw;subst w1;go_wp2
  go_ret
  exact⟨rfl,rfl⟩
def Kn.dY(k:Kp)(n:Nat):List Nat:=(List.range n).filter (Kn.lv k)
theorem Kn.rC{k:Kp}(h:Kn.lv k n=bw):Kn.dY k (n+1)=Kn.dY k n++[n]:=by
 unfold Kn.dY;rw[List.range_succ,List.filter_append];simp[h]
theorem Kn.xE{k:Kp}(h:Kn.lv k n=bA):Kn.dY k (n+1)=Kn.dY k n:=by
 unfold Kn.dY;rw[List.range_succ,List.filter_append];simp[h]
theorem Kn.Bw(k:Kp)(n:Nat):(Kn.dY k n).length<=n:=by
 have:=bW (Kn.lv k) (List.range n);simpa[Kn.dY]using this
theorem yW(h:bO w Wt s):
  Calls prog 15 #[ai (bj ⟨s.A 0,0,bu⟩)] w λe w'=>∃v,e=bf v/\LO w (Kn.dY s.k 20) v w':=by
 obtain⟨i0,hi,hz0,hz1,hz2⟩:=info_parts Cq;have H:=hJ h;go_in
 go_wp2_with fail
 go_loopw [3,5] (λl i wr=>∃(k:Nat),i=aa az k/\k<=20/\Hid (LO w (Kn.dY s.k k) l wr)) (λ_ i _=>20-(intOf i).toNat)
 case atStart=>exact⟨0,rfl,bB,LO.nil w⟩
 case round=>
  obtain⟨k,rfl,hk,R⟩:=hrel;by_cases hlt:k<20
  .have hltI:(k:Int)<20:=bB
   cases hth:Kn.lv s.k k
   .have HM:=hJ (Kn.xE hth);have LV:=hJ (jq Wt s wr k (H.below R.cU) hlt bA hth);go_wp2_with fail
    refine sC LV.v ?_;rintro w1 hw;subst w1;go_wp2
    go_roundw
    case rel=>exact⟨k+1,by go_num,bB,by rw[HM.v];exact R⟩
    case measure=>simp[intOf];omega
   .have HM:=hJ (Kn.rC hth);have LV:=hJ (jq Wt s wr k (H.below R.cU) hlt bw hth);obtain⟨a,cap,hv⟩:=ib R.own;rw[hv];have HV:=hJ hv;have hlm:=Kn.Bw s.k k;generalize hN:(Kn.dY s.k k).length=N at*;have HN:=hJ hN;go_wp2_with fail
    refine sC LV.v ?_;rintro w1 hw;subst w1;go_wp2_with (at_builtin;refine wpList_append_lies _ rfl _ _ 46 (by rfl) w.heap.size 3 i0 (aa .i64 0) 1 8 Tryz.underlying46 hi hz0 hz1 hz2 rfl bE (aj a N cap) N (rowOf (Kn.dY s.k k)) (by rfl) (by rw[<-HV.v,<-HN.v];exact R.own.alloc _) ⟨wr.heap.size,0,bu⟩ 1 1 [aa az k] (by rfl) rfl (cell_one_new _ _ _) (by simp[Value.oneCell']) bE (by unfold maxLen;omega) bB (by have:=R.cU.size;simp;omega) (wr.heap.size+1) (by simp) ?_;intro gg cap2 w1 hown hgrow hat hlt2;have Q1:Hid (LO w (Kn.dY s.k k++[k]) (aj (bj ⟨gg,0,bu⟩) (N+1) cap2) w1):=R.more HN.v hown _ (by rw[HV.v];exact hgrow))
    go_roundw
    case rel=>exact⟨k+1,by go_num,bB,by rw[HM.v];exact Q1⟩
    case measure=>simp[intOf];omega
  .obtain rfl:k=20:=bB
   go_wp2
   go_ret
   exact⟨_,rfl,R.v⟩
def Kn.gJ(k:Kp)(n:Nat)(E:Int):Prop:=(E=0/\n<20/\(k.p n).st=0/\∀m,m<n->(k.p m).st≠0)\/(E=4/\n=0/\∀m,m<20->(k.p m).st≠0)
theorem IW(h:bO w Wt s):
  Calls prog 63 #[ai (bj ⟨s.A 0,0,bu⟩)] w λe w'=>∃(n:Nat) (E:Int),e=bf (ao #[aa az (n:Int),bN E])/\Kn.gJ s.k n E/\w'=w:=by
 have H:=hJ h;obtain⟨kb,hkb⟩:=hU (s.A 0);have HK:=hJ hkb;rw[hkb];go_in
 go_wp2
 go_loopw [4,5] (λ_ i wr=>∃(k:Nat),i=aa az k/\k<=20/\wr=w/\Hid (∀m,m<k->(s.k.p m).st≠0)) (λ_ i _=>20-(intOf i).toNat)
 case atStart=>exact⟨0,rfl,bB,rfl,hJ (λm hm=>aZ hm (Nat.not_lt_zero m))⟩
 case round=>
  obtain⟨k,rfl,hk,hwr,R⟩:=hrel;subst wr;by_cases hlt:k<20
  .have hltI:(k:Int)<20:=bB
   have c0:=H.uA k hlt;rw[HK.v]at c0;by_cases d:(s.k.p k).st=0
   .have FT:Hid (Kn.gJ s.k k 0):=hJ (.inl ⟨rfl,hlt,d,R.v⟩);rw[d]at c0;have c0':w.cell? ⟨kb,k*12,bu⟩=bj (aa .i64 0):=c0;go_wp2
    go_ret2
    exact⟨k,0,by rw[bF];rfl,FT.v,rfl⟩
   .have R1:Hid (∀m,m<k+1->(s.k.p m).st≠0):=hJ (λm hm=>by
     by_cases e:m=k
     .rw[e];exact d
     .exact R.v m bB)
    generalize (s.k.p k).st=st at*;have d1:((st:Int)==0)=bA:=by simp;omega
    go_wp2
    go_roundw
    case rel=>exact⟨k+1,by go_num,bB,by first|rfl|trivial,R1⟩
    case measure=>simp[intOf];omega
  .obtain rfl:k=20:=bB
   have FT:Hid (Kn.gJ s.k 0 4):=hJ (.inr ⟨rfl,rfl,R.v⟩);go_wp2
   go_ret2
   exact⟨0,4,rfl,FT.v,rfl⟩
end
def LV(P:Nat->Prop)(xs:List Value)(v:Value)(W:bD):Prop:=∃a c,v=aj a xs.length c/\(0<xs.length->∃g,a=bj ⟨g,0,bu⟩/\P g/\g<W.heap.size/\∀i,i<xs.length->W.cell? ⟨g,i,bu⟩=xs[i]?)

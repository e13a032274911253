import Derived.Test.YtpmmdkcfenjiaaaGreatDoorUat
set_option maxRecDepth 1000000
set_option maxHeartbeats 4000000
set_option linter.unusedVariables false
set_option linter.unusedSimpArgs false
namespace Go.Proofs.YtpmmdkcfenjiaaaGreatDoor
open Value renaming int->aa,pointer->ai,slice->aj,string->ak,tuple->ao,iface->aq,bool->ar,agg->au,nilIface->ay
open IntKind renaming i64->az
open Ending renaming returned->bf
open Obj renaming cells->bg
open Option renaming some->bh,none->bj
open Tryz (prog)
open Go.RowKit
theorem DX(a:Option Addr)(c:Nat)(m:Int)(w:bD):Calls prog 39 #[aj a 0 c,aa az m] w λe w'=>e=bf (ar true)/\w'=w:=by
 go_in
 go_wp2_with fail
 go_loopw [5] (λi wr=>i=aa az 0/\wr=w) (λ_ _=>0)
 case atStart=>exact⟨rfl,rfl⟩
 case round=>
  obtain⟨rfl,rfl⟩:=hrel;go_wp2
  go_ret
  exact⟨rfl,rfl⟩
def yL(ax:Nat->gD)(n:Nat)(m:Int)(v:Value):Prop:=v=ar false\/(v=ar true/\∀i,i<n->((ax i).s.size:Int)<=m/\((ax i).t.size:Int)<=m)
theorem DY(b o n c:Nat)(m:Int)(ax:Nat->gD)(w:bD)(hn:n<=1000)(h:∀i,i<n->∀j,j<8->w.cell? ⟨b,o+i*8+j,bj⟩=bh ((ax i).cell j)):
  Calls prog 39 #[aj (bh ⟨b,o,bj⟩) n c,aa az m] w λe w'=>∃v,e=bf v/\yL ax n m v/\w'=w:=by
 have H:=hJ h;clear h;go_in
 go_wp2_with fail
 go_loopw [5] (λi wr=>∃j:Nat,i=aa az j/\j<=n/\Hid (∀i,i<j->((ax i).s.size:Int)<=m/\((ax i).t.size:Int)<=m)/\wr=w) (λi _=>n-(intOf i).toNat)
 case atStart=>exact⟨0,rfl,bu,hJ (λi hi=>bu),rfl⟩
 case round=>
  obtain⟨j,rfl,hj,R,hwr⟩:=hrel;subst wr;by_cases hlt:j<n
  .have hltI:(j:Int)<(n:Int):=bu
   have c6:w.cell? ⟨b,o+j*8+6,bj⟩=bh (ak (ax j).s):=H.v j hlt 6 bu;have c7:w.cell? ⟨b,o+j*8+7,bj⟩=bh (ak (ax j).t):=H.v j hlt 7 bu;have NX:Hid (((ax j).s.size:Int)<=m->((ax j).t.size:Int)<=m->∀i,i<j+1->((ax i).s.size:Int)<=m/\((ax i).t.size:Int)<=m):=hJ (λh1 h2 i hi=>by
    by_cases d:i=j
    .subst d;exact⟨h1,h2⟩
    .exact R.v i bu)
   generalize (ax j).s=s1 at c6 NX;generalize (ax j).t=s2 at c7 NX;by_cases d1:m<(s1.size:Int)
   .go_wp2
    go_ret
    exact⟨_,rfl, .inl rfl,rfl⟩
   .by_cases d2:m<(s2.size:Int)
    .go_wp2
     go_ret
     exact⟨_,rfl, .inl rfl,rfl⟩
    .have N2:=hJ (NX.v bu bu);go_wp2
     go_roundw
     case rel=>exact⟨j+1,by go_num,bu,N2,by first|rfl|trivial⟩
     case measure=>simp[intOf];omega
  .have hltI:¬(j:Int)<(n:Int):=bu
   obtain rfl:j=n:=bu
   go_wp2
   go_ret
   exact⟨_,rfl, .inr ⟨rfl,R.v⟩,rfl⟩
theorem G7(a:Option Addr)(b o n c:Nat)(m:Int)(ax:Nat->gD)(w:bD)(hn:n<=1000)(ha:0<n->a=bh ⟨b,o,bj⟩)(h:∀i,i<n->∀j,j<8->w.cell? ⟨b,o+i*8+j,bj⟩=bh ((ax i).cell j)):
  Calls prog 39 #[aj a n c,aa az m] w λe w'=>∃v,e=bf v/\yL ax n m v/\w'=w:=by
 by_cases h0:n=0
 .subst h0;refine(DX a c m w).mono ?_;rintro e w' ⟨rfl,hw⟩;exact⟨_,rfl, .inr ⟨rfl,λi hi=>aZ hi (Nat.not_lt_zero i)⟩,hw⟩
 .rw[ha bu];exact DY b o n c m ax w hn h
open Tr (Fo Nd)
def Tr.g1:Fo:=Tr.zl Tr.f0 0
theorem Tr.JN{T:Nat}{E:Int}{G:Fo}(h:Tr.qs Tr.f0 T E G):T=0/\E=0/\G=Tr.g1:=by
 have f:Tr.gq Tr.f0 0 0:= .inl ⟨rfl,bu,rfl,λm hm=>bu⟩;rcases h with⟨a,_⟩|⟨_,n,e,hf,hm⟩
 .exact aZ a bA
 .obtain⟨rfl,rfl⟩:=hf.unique f;rcases hm with⟨a,_⟩|⟨_,b,c,d⟩
  .exact aZ rfl a
  .exact⟨b,c,d⟩
theorem Tr.Sz:Tr.Ok Tr.g1:=Tr.Up.Ol (T:=0) (E:=0) (.inr ⟨by decide,0,0, .inl ⟨rfl,bu,rfl,λm hm=>bu⟩, .inr ⟨rfl,rfl,rfl,rfl⟩⟩)
def TL(b:Nat)(L:List bU)(v:Value)(W:bD):Prop:=∃a c,v=aj a L.length c/\(0<L.length->∃g,a=bh ⟨g,0,bj⟩/\g≠b/\g<W.heap.size/\∀i,i<L.length->W.cell? ⟨g,i,bj⟩=bh (ak (L.getD i ⟨#[]⟩)))
theorem TL.lN{b:Nat}{L:List bU}{v:Value}{W W':bD}(h:TL b L v W)(f:bE b W W'):TL b L v W':=by
 obtain⟨a,c,e,k⟩:=h;refine⟨a,c,e,λhl=>?_⟩;obtain⟨g,e1,e2,e3,e4⟩:=k hl;exact⟨g,e1,e2,aD e3 f.size,λi hi=>(aV (f.block g e3 e2)).trans (e4 i hi)⟩
theorem SO.tl{u W:bD}{L:List bU}{v:Value}(h:SO u L v W){b:Nat}(hb:b<u.heap.size):TL b L v W:=by
 by_cases hl:0<L.length
 .have ho:=h.own;obtain⟨gg,cap,hv,hgb,hg⟩:=ho.form hl;refine⟨_,cap,hv,λ_=>⟨gg,rfl,bu,hg,λi hi=>?_⟩⟩;rw[hv]at ho;rw[ho.cellAt i bu];simp[yg,hi]
 .obtain⟨a,c,e⟩:=h.form;exact⟨a,c,e,λh=>aZ h hl⟩
theorem Tr.Mp{F:Fo}(h:Tr.j5 F)(z:Int):(Tr.qW F z).length<=8:=by
 unfold Tr.qW;by_cases c:Tr.cD F z 2=0
 .rw[aJ c,qa,Tr.rE];obtain⟨n,rfl,n40,_,k2⟩:=Tr.eZ c;rw[hZ];exact h n n40 k2
 .rw[aI c];exact aC _
def Tr.Hb(F:Fo)(k:Nat):Prop:=∀n,n<40->(F.nd n).held<=k
theorem Tr.Hb.mono{F:Fo}{k l:Nat}(h:Tr.Hb F k)(hl:k<=l):Tr.Hb F l:=λn hn=>aH (h n hn) hl
theorem Tr.Hb.put{F:Fo}{k n:Nat}{x:Nd}(h:Tr.Hb F k)(hx:x.held<=k):Tr.Hb (F.put n x) k:=λm hm=>by
 by_cases c:m=n
 .subst c;rw[Tr.bF];exact hx
 .rw[Tr.bM _ _ _ _ c];exact h m hm
theorem Tr.Hb.lB{F:Fo}{k n:Nat}(h:Tr.Hb F k):Tr.Hb (Tr.lB F n) k:=by
 unfold Tr.lB;split
 .exact h.put (aC _)
 .exact h
theorem Tr.Hb.dB{F:Fo}{k:Nat}(h:Tr.Hb F k)(z:Int):Tr.Hb (Tr.dB F z) (k+1):=by
 unfold Tr.dB;split
 .rename_i c;obtain⟨n,rfl,n40,_⟩:=Tr.gO c;rw[hZ];refine(h.mono (Nat.le_succ k)).put ?_;exact Nat.succ_le_succ (h n n40)
 .exact h.mono (Nat.le_succ k)
theorem Tr.Hb.dq{F:Fo}{k:Nat}(h:Tr.Hb F k)(z:Int):Tr.Hb (Tr.dq F z) k:=by
 unfold Tr.dq;split
 .rename_i c;have c':Tr.cA F z=0:=by
   unfold Tr.letE at c;by_cases d:Tr.cA F z=0
   .exact d
   .rw[aI d]at c;exact c
  obtain⟨n,rfl,n40,_⟩:=Tr.gO c';rw[hZ];refine Tr.Hb.lB (h.put ?_);exact aH (Nat.sub_le _ _) (h n n40)
 .exact h
theorem Tr.Hb.lt{F:Fo}{k:Nat}(h:Tr.Hb F k)(hk:k<1000):∀n,n<40->(F.nd n).held<2^60:=λn hn=>by have:=h n hn;omega
open Mo (Wh Mt Tb)
namespace Mo
def ml(F:Fo)(m:Mt):Fo:=Tr.dB (Tr.dB F m.1.2) m.2.2
def iG(F:Fo)(m:Mt):Fo:=Tr.dq (Tr.dq F m.1.2) m.2.2
def mO(F:Fo)(T:Tb):Fo:=T.ms.foldl ml (Tr.dB F T.rt.2)
def kF(F:Fo)(T:Tb):Fo:=T.ms.foldl iG (Tr.dq F T.rt.2)
theorem Sq{F:Fo}{k:Nat}(h:Tr.Hb F k)(m:Mt):Tr.Hb (ml F m) (k+2):=(h.dB _).dB _
theorem Sr{F:Fo}{k:Nat}(h:Tr.Hb F k)(m:Mt):Tr.Hb (iG F m) (k+2):=((h.dq _).dq _).mono bu
theorem I1:∀(L:List Mt) {F:Fo} {k:Nat},Tr.Hb F k->Tr.Hb (L.foldl ml F) (k+2*L.length)
 |[],_,_,h=>h
 |m::L,_,k,h=>by
  have:=I1 L (Sq h m);grind
theorem I2:∀(L:List Mt) {F:Fo} {k:Nat},Tr.Hb F k->Tr.Hb (L.foldl iG F) (k+2*L.length)
 |[],_,_,h=>h
 |m::L,_,k,h=>by
  have:=I2 L (Sr h m);grind
theorem Q3{F:Fo}{T:Tb}{k:Nat}(h:Tr.Hb F k):Tr.Hb (kF F T) k:=by
 have:∀(L:List Mt) {G:Fo},Tr.Hb G k->Tr.Hb (L.foldl iG G) k:=λL=>by
  induction L with
  |nil=>exact λh=>h
  |cons m L ih=>exact λh=>ih ((h.dq _).dq _)
 exact this _ (h.dq _)
theorem xH{α β:Type}(f:α->β->α)(L:List β)(j:Nat)(m:β)(a:α)(h:L[j]? =bh m):(L.take (j+1)).foldl f a=f ((L.take j).foldl f a) m:=by
 obtain⟨hl,e⟩:=aY.1 h;rw[List.take_succ_eq_append_getElem hl,List.foldl_append,e];rfl
end Mo
section
variable {w w':bD}{UE b f:Nat}{T:Tb}{v:Value}{F:Fo}
theorem bP.ne(h:bP w UE b f T v)(hF:bN w f F):b≠f/\∀g,v.ownBlock=bh g->g≠f:=by
 obtain⟨C,hC,_⟩:=hF.cU;exact⟨tq h.cU hC bA,h.row.Oc hC bA⟩
theorem bP.jE(h:bP w UE b f T v)(hF:bN w f F)(k:bE f w w'):bP w' UE b f T v:=
 h.same (k.block b h.lt (h.ne hF).1) (λg e=>k.block g (h.row.lt g e).2 ((h.ne hF).2 g e))
end
def MB(w:bD)(c:Nat)(m:Mt):Prop:=w.heap[c]? =bh (bg #[aa az m.1.1,aa az m.1.2,aa az m.2.1,aa az m.2.2] 273 (0,0))
section
variable {w w':bD}{c f:Nat}{m:Mt}{F:Fo}
theorem MB.c0(h:MB w c m):w.cell? ⟨c,0,bj⟩=bh (aa az m.1.1):=by rw[bO h];rfl
theorem MB.c1(h:MB w c m):w.cell? ⟨c,1,bj⟩=bh (aa az m.1.2):=by rw[bO h];rfl
theorem MB.c2(h:MB w c m):w.cell? ⟨c,2,bj⟩=bh (aa az m.2.1):=by rw[bO h];rfl
theorem MB.c3(h:MB w c m):w.cell? ⟨c,3,bj⟩=bh (aa az m.2.2):=by rw[bO h];rfl
theorem MB.lt(h:MB w c m):c<w.heap.size:=(aX.1 h).1
theorem MB.jE(h:MB w c m)(hF:bN w f F)(k:bE f w w'):MB w' c m:=by
 obtain⟨C,hC,_⟩:=hF.cU;exact(k.block c h.lt (tq h hC bA)).trans h
end
theorem sZ(UE b f K:Nat)(T:Tb)(v:Value)(F:Fo)(m:Mt)(w:bD)(h:bP w UE b f T v)(hF:bN w f F)(hb:Tr.Hb F K)(hK:K<900):
  Calls prog 232 #[ai (bh ⟨b,0,bj⟩),au #[aa az m.1.1,aa az m.1.2,aa az m.2.1,aa az m.2.2]] w λe w'=>e=bf (ao #[])/\bN w' f (Mo.ml F m)/\bE f w w':=by
 have HT:=hJ (aK h hF);have HB:=hJ hb;go_in
 go_upto_region 1 with fail
 refine cG (λW'=>MB W' w.heap.size m/\Below w.heap.size w W') ⟨heap_alloc_new w _,(aQ _ _).alloc (aL _) _⟩ ?_;rintro W1 ⟨m1,b1⟩;have S1:Hid (MB W1 w.heap.size m/\bP W1 UE b f T v/\bN W1 f F/\bE f w W1):=hJ ⟨m1,HT.1.below b1,HT.2.below b1,bE.cC b1⟩;generalize w.heap.size=mx at*;have K0:Hid (W1.cell? ⟨b,0,bj⟩=bh (ai (bh ⟨f,0,bj⟩))/\W1.cell? ⟨mx,1,bj⟩=bh (aa az m.1.2)):=hJ ⟨S1.2.1.c0,S1.1.c1⟩;have KF:Hid (∀w':bD,bE f W1 w'->w'.cell? ⟨b,0,bj⟩=bh (ai (bh ⟨f,0,bj⟩))/\w'.cell? ⟨mx,1,bj⟩=bh (aa az m.1.2)):=hJ (λw' k=>⟨(S1.2.1.jE S1.2.2.1 k).c0,(S1.1.jE S1.2.2.1 k).c1⟩);go_upto_region 1 with fail
 go_region_held3 (λw'=>w'.cell? ⟨b,0,bj⟩=bh (ai (bh ⟨f,0,bj⟩))/\w'.cell? ⟨mx,1,bj⟩=bh (aa az m.1.2)) (first|exact K0.v|exact K4.v) ((go_at_call 231;refine sC (qL f m.1.2 F _ S1.2.2.1.drew (HB.lt bu)) ?_;rintro w4 ⟨t4,f4⟩;have f5:bE f W1 w4:=⟨f4.os,f4.tape,f4.output,f4.size,f4.block⟩;have K4:=hJ (KF.v w4 f5);have P4:Hid (bN w4 f (Tr.dB F m.1.2)/\bE f W1 w4):=hJ ⟨t4,f5⟩))
 have S2:Hid (MB w4 mx m/\bP w4 UE b f T v/\bN w4 f (Tr.dB F m.1.2)/\bE f w w4):=hJ ⟨S1.1.jE S1.2.2.1 P4.2,S1.2.1.jE S1.2.2.1 P4.2,P4.1,S1.2.2.2.trans P4.2⟩;have HB2:Hid (Tr.Hb (Tr.dB F m.1.2) (K+1)):=hJ (HB.dB _);have K0:Hid (w4.cell? ⟨b,0,bj⟩=bh (ai (bh ⟨f,0,bj⟩))/\w4.cell? ⟨mx,3,bj⟩=bh (aa az m.2.2)):=hJ ⟨S2.2.1.c0,S2.1.c3⟩;have KF:Hid (∀w':bD,bE f w4 w'->w'.cell? ⟨b,0,bj⟩=bh (ai (bh ⟨f,0,bj⟩))/\w'.cell? ⟨mx,3,bj⟩=bh (aa az m.2.2)):=hJ (λw' k=>⟨(S2.2.1.jE S2.2.2.1 k).c0,(S2.1.jE S2.2.2.1 k).c3⟩);go_upto_region 2 with fail
 go_region_held3 (λw'=>w'.cell? ⟨b,0,bj⟩=bh (ai (bh ⟨f,0,bj⟩))/\w'.cell? ⟨mx,3,bj⟩=bh (aa az m.2.2)) (first|exact K0.v|exact K5.v) ((go_at_call 231;refine sC (qL f m.2.2 _ _ S2.2.2.1.drew (HB2.lt bu)) ?_;rintro w5 ⟨t5,f4⟩;have f5:bE f w4 w5:=⟨f4.os,f4.tape,f4.output,f4.size,f4.block⟩;have K5:=hJ (KF.v w5 f5);have P5:Hid (bN w5 f (Mo.ml F m)/\bE f w w5):=hJ ⟨t5,S2.2.2.2.trans f5⟩))
 go_wp2_with fail
 go_end0
 exact⟨rfl,P5.v⟩
theorem we(UE b f K:Nat)(T:Tb)(v:Value)(F:Fo)(w:bD)(h:bP w UE b f T v)(hF:bN w f F)(hb:Tr.Hb F K)(hK:K<800):
  Calls prog 166 #[ai (bh ⟨b,0,bj⟩)] w λe w'=>e=bf (ao #[])/\bN w' f (Mo.mO F T)/\bE f w w':=by
 have S1:Hid (bP w UE b f T v/\bN w f F):=hJ ⟨h,hF⟩;have HB:=hJ hb;have h6:=h.rJ;obtain⟨va,vc,hv⟩:=h.row.sl;have HV:=hJ hv;have K0:Hid (w.cell? ⟨b,0,bj⟩=bh (ai (bh ⟨f,0,bj⟩))/\w.cell? ⟨b,2,bj⟩=bh (aa az T.rt.2)):=hJ ⟨S1.1.c0,S1.1.c2⟩;have KF:Hid (∀w':bD,bE f w w'->w'.cell? ⟨b,0,bj⟩=bh (ai (bh ⟨f,0,bj⟩))/\w'.cell? ⟨b,2,bj⟩=bh (aa az T.rt.2)):=hJ (λw' k=>⟨(S1.1.jE S1.2 k).c0,(S1.1.jE S1.2 k).c2⟩);go_in
 go_upto_region 0 with fail
 go_region_held3 (λw'=>w'.cell? ⟨b,0,bj⟩=bh (ai (bh ⟨f,0,bj⟩))/\w'.cell? ⟨b,2,bj⟩=bh (aa az T.rt.2)) (first|exact K0.v|exact K4.v) ((go_at_call 231;refine sC (qL f T.rt.2 F _ S1.2.drew (HB.lt bu)) ?_;rintro w4 ⟨t4,f4⟩;have f5:bE f w w4:=⟨f4.os,f4.tape,f4.output,f4.size,f4.block⟩;have K4:=hJ (KF.v w4 f5);have P4:Hid (bN w4 f (Tr.dB F T.rt.2)/\bE f w w4):=hJ ⟨t4,f5⟩))
 have HB2:Hid (Tr.Hb (Tr.dB F T.rt.2) (K+1)):=hJ (HB.dB _);have T4:=hJ (S1.1.jE S1.2 P4.2);have c3:=T4.c3;rw[HV.v]at c3;obtain⟨N,hN⟩:=hU (T.ms.length);have HN:=hJ hN;rw[hN]at c3 h6;go_wp2_with fail
 go_loopw [3,19] (λ_ i wr=>∃(j:Nat),i=aa az j/\j<=N/\Hid (bN wr f ((T.ms.take j).foldl Mo.ml (Tr.dB F T.rt.2))/\bE f w wr)) (λ_ i _=>N-(intOf i).toNat)
 case atStart=>exact⟨0,rfl,bu,P4⟩
 case round=>
  obtain⟨j,rfl,hj,R⟩:=hrel;by_cases hlt:j<N
  .have hltI:(j:Int)<(N:Int):=bu
   obtain⟨m,hm⟩:∃m,T.ms[j]? =bh m:=⟨T.ms[j]'(by rw[HN.v];exact hlt),aW _⟩;have TW:=hJ (S1.1.jE S1.2 R.2);rcases TW.row.form with⟨_,e⟩|⟨g,cap,hv,_,_,_⟩
   .rw[e]at hm;simp at hm
   .have r:=TW.row;rw[hv]at r;have hv2:=HV.v;rw[hv]at hv2;rw[HN.v]at hv2;injection hv2 with e1 e2 e3
    subst e1;have d0:wr.cell? ⟨g,j*4,bj⟩=bh (aa az m.1.1):=r.cell j 0 m hm bu;have d1:wr.cell? ⟨g,j*4+1,bj⟩=bh (aa az m.1.2):=r.cell j 1 m hm bu;have d2:wr.cell? ⟨g,j*4+2,bj⟩=bh (aa az m.2.1):=r.cell j 2 m hm bu;have d3:wr.cell? ⟨g,j*4+3,bj⟩=bh (aa az m.2.2):=r.cell j 3 m hm bu;have NX:Hid ((T.ms.take (j+1)).foldl Mo.ml (Tr.dB F T.rt.2)=Mo.ml ((T.ms.take j).foldl Mo.ml (Tr.dB F T.rt.2)) m):=hJ (Mo.xH _ _ _ _ _ hm);have HBJ:Hid (Tr.Hb ((T.ms.take j).foldl Mo.ml (Tr.dB F T.rt.2)) (K+1+2*6)):=hJ ((Mo.I1 _ HB2.v).mono (by rw[List.length_take];omega));go_upto_region 4 with fail
    refine cG (λW'=>MB W' wr.heap.size m/\Below wr.heap.size wr W') ⟨heap_alloc_new wr _,(aQ _ _).alloc (aL _) _⟩ ?_;rintro W5 ⟨m5,b5⟩;have S5:Hid (bP W5 UE b f T v/\bN W5 f ((T.ms.take j).foldl Mo.ml (Tr.dB F T.rt.2))/\bE f w W5):=hJ ⟨TW.below b5,R.1.below b5,R.2.trans (bE.cC b5)⟩;have n0:=m5.c0;have n1:=m5.c1;have n2:=m5.c2;have n3:=m5.c3;generalize wr.heap.size=mx at*;go_wp2_with fail
    refine sC (sZ UE b f _ T v _ m _ S5.1 S5.2.1 HBJ.v bu) ?_;rintro W6 ⟨t6,f6⟩;have S6:Hid (bN W6 f ((T.ms.take (j+1)).foldl Mo.ml (Tr.dB F T.rt.2))/\bE f w W6):=hJ ⟨by rw[NX.v];exact t6,S5.2.2.trans f6⟩;go_wp2
    go_roundw
    case rel=>exact⟨j+1,by go_num,bu,S6⟩
    case measure=>simp[intOf];omega
  .have hltI:¬(j:Int)<(N:Int):=bu
   have FIN:Hid (bN wr f (Mo.mO F T)/\bE f w wr):=hJ ⟨by
    have:=R.1;rw[List.take_of_length_le (by rw[HN.v];omega)]at this;exact this,R.2⟩
   go_wp2_with fail
   go_end0
   exact⟨rfl,FIN.v⟩
theorem tR(UE b f K:Nat)(T:Tb)(v:Value)(F:Fo)(m:Mt)(w:bD)(h:bP w UE b f T v)(hF:bN w f F)(hb:Tr.Hb F K)(hK:K<900):
  Calls prog 233 #[ai (bh ⟨b,0,bj⟩),au #[aa az m.1.1,aa az m.1.2,aa az m.2.1,aa az m.2.2]] w λe w'=>e=bf (ao #[])/\bN w' f (Mo.iG F m)/\bE f w w':=by
 have HT:=hJ (aK h hF);have HB:=hJ hb;go_in
 go_upto_region 1 with fail
 refine cG (λW'=>MB W' w.heap.size m/\Below w.heap.size w W') ⟨heap_alloc_new w _,(aQ _ _).alloc (aL _) _⟩ ?_;rintro W1 ⟨m1,b1⟩;have S1:Hid (MB W1 w.heap.size m/\bP W1 UE b f T v/\bN W1 f F/\bE f w W1):=hJ ⟨m1,HT.1.below b1,HT.2.below b1,bE.cC b1⟩;generalize w.heap.size=mx at*;have K0:Hid (W1.cell? ⟨b,0,bj⟩=bh (ai (bh ⟨f,0,bj⟩))/\W1.cell? ⟨mx,1,bj⟩=bh (aa az m.1.2)):=hJ ⟨S1.2.1.c0,S1.1.c1⟩;have KF:Hid (∀w':bD,bE f W1 w'->w'.cell? ⟨b,0,bj⟩=bh (ai (bh ⟨f,0,bj⟩))/\w'.cell? ⟨mx,1,bj⟩=bh (aa az m.1.2)):=hJ (λw' k=>⟨(S1.2.1.jE S1.2.2.1 k).c0,(S1.1.jE S1.2.2.1 k).c1⟩);go_upto_region 1 with fail
 go_region_held3 (λw'=>w'.cell? ⟨b,0,bj⟩=bh (ai (bh ⟨f,0,bj⟩))/\w'.cell? ⟨mx,1,bj⟩=bh (aa az m.1.2)) (first|exact K0.v|exact K4.v) ((go_at_call 226;refine sC (sR f m.1.2 F _ S1.2.2.1.drew (HB.lt bu)) ?_;rintro w4 ⟨t4,f4⟩;have f5:bE f W1 w4:=⟨f4.os,f4.tape,f4.output,f4.size,f4.block⟩;have K4:=hJ (KF.v w4 f5);have P4:Hid (bN w4 f (Tr.dq F m.1.2)/\bE f W1 w4):=hJ ⟨t4,f5⟩))
 have S2:Hid (MB w4 mx m/\bP w4 UE b f T v/\bN w4 f (Tr.dq F m.1.2)/\bE f w w4):=hJ ⟨S1.1.jE S1.2.2.1 P4.2,S1.2.1.jE S1.2.2.1 P4.2,P4.1,S1.2.2.2.trans P4.2⟩;have HB2:Hid (Tr.Hb (Tr.dq F m.1.2) (K+1)):=hJ ((HB.dq _).mono (by omega:K<=K+1));have K0:Hid (w4.cell? ⟨b,0,bj⟩=bh (ai (bh ⟨f,0,bj⟩))/\w4.cell? ⟨mx,3,bj⟩=bh (aa az m.2.2)):=hJ ⟨S2.2.1.c0,S2.1.c3⟩;have KF:Hid (∀w':bD,bE f w4 w'->w'.cell? ⟨b,0,bj⟩=bh (ai (bh ⟨f,0,bj⟩))/\w'.cell? ⟨mx,3,bj⟩=bh (aa az m.2.2)):=hJ (λw' k=>⟨(S2.2.1.jE S2.2.2.1 k).c0,(S2.1.jE S2.2.2.1 k).c3⟩);go_upto_region 2 with fail
 go_region_held3 (λw'=>w'.cell? ⟨b,0,bj⟩=bh (ai (bh ⟨f,0,bj⟩))/\w'.cell? ⟨mx,3,bj⟩=bh (aa az m.2.2)) (first|exact K0.v|exact K5.v) ((go_at_call 226;refine sC (sR f m.2.2 _ _ S2.2.2.1.drew (HB2.lt bu)) ?_;rintro w5 ⟨t5,f4⟩;have f5:bE f w4 w5:=⟨f4.os,f4.tape,f4.output,f4.size,f4.block⟩;have K5:=hJ (KF.v w5 f5);have P5:Hid (bN w5 f (Mo.iG F m)/\bE f w w5):=hJ ⟨t5,S2.2.2.2.trans f5⟩))
 go_wp2_with fail
 go_end0
 exact⟨rfl,P5.v⟩
theorem ES(UE b f K:Nat)(T:Tb)(v:Value)(F:Fo)(w:bD)(h:bP w UE b f T v)(hF:bN w f F)(hb:Tr.Hb F K)(hK:K<800):
  Calls prog 168 #[ai (bh ⟨b,0,bj⟩)] w λe w'=>e=bf (ao #[])/\bN w' f (Mo.kF F T)/\bE f w w':=by
 have S1:Hid (bP w UE b f T v/\bN w f F):=hJ ⟨h,hF⟩;have HB:=hJ hb;have h6:=h.rJ;obtain⟨va,vc,hv⟩:=h.row.sl;have HV:=hJ hv;have K0:Hid (w.cell? ⟨b,0,bj⟩=bh (ai (bh ⟨f,0,bj⟩))/\w.cell? ⟨b,2,bj⟩=bh (aa az T.rt.2)):=hJ ⟨S1.1.c0,S1.1.c2⟩;have KF:Hid (∀w':bD,bE f w w'->w'.cell? ⟨b,0,bj⟩=bh (ai (bh ⟨f,0,bj⟩))/\w'.cell? ⟨b,2,bj⟩=bh (aa az T.rt.2)):=hJ (λw' k=>⟨(S1.1.jE S1.2 k).c0,(S1.1.jE S1.2 k).c2⟩);go_in
 go_upto_region 0 with fail
 go_region_held3 (λw'=>w'.cell? ⟨b,0,bj⟩=bh (ai (bh ⟨f,0,bj⟩))/\w'.cell? ⟨b,2,bj⟩=bh (aa az T.rt.2)) (first|exact K0.v|exact K4.v) ((go_at_call 226;refine sC (sR f T.rt.2 F _ S1.2.drew (HB.lt bu)) ?_;rintro w4 ⟨t4,f4⟩;have f5:bE f w w4:=⟨f4.os,f4.tape,f4.output,f4.size,f4.block⟩;have K4:=hJ (KF.v w4 f5);have P4:Hid (bN w4 f (Tr.dq F T.rt.2)/\bE f w w4):=hJ ⟨t4,f5⟩))
 have HB2:Hid (Tr.Hb (Tr.dq F T.rt.2) (K+1)):=hJ ((HB.dq _).mono (by omega:K<=K+1));have T4:=hJ (S1.1.jE S1.2 P4.2);have c3:=T4.c3;rw[HV.v]at c3;obtain⟨N,hN⟩:=hU (T.ms.length);have HN:=hJ hN;rw[hN]at c3 h6;go_wp2_with fail
 go_loopw [3,19] (λ_ i wr=>∃(j:Nat),i=aa az j/\j<=N/\Hid (bN wr f ((T.ms.take j).foldl Mo.iG (Tr.dq F T.rt.2))/\bE f w wr)) (λ_ i _=>N-(intOf i).toNat)
 case atStart=>exact⟨0,rfl,bu,P4⟩
 case round=>
  obtain⟨j,rfl,hj,R⟩:=hrel;by_cases hlt:j<N
  .have hltI:(j:Int)<(N:Int):=bu
   obtain⟨m,hm⟩:∃m,T.ms[j]? =bh m:=⟨T.ms[j]'(by rw[HN.v];exact hlt),aW _⟩;have TW:=hJ (S1.1.jE S1.2 R.2);rcases TW.row.form with⟨_,e⟩|⟨g,cap,hv,_,_,_⟩
   .rw[e]at hm;simp at hm
   .have r:=TW.row;rw[hv]at r;have hv2:=HV.v;rw[hv]at hv2;rw[HN.v]at hv2;injection hv2 with e1 e2 e3
    subst e1;have d0:wr.cell? ⟨g,j*4,bj⟩=bh (aa az m.1.1):=r.cell j 0 m hm bu;have d1:wr.cell? ⟨g,j*4+1,bj⟩=bh (aa az m.1.2):=r.cell j 1 m hm bu;have d2:wr.cell? ⟨g,j*4+2,bj⟩=bh (aa az m.2.1):=r.cell j 2 m hm bu;have d3:wr.cell? ⟨g,j*4+3,bj⟩=bh (aa az m.2.2):=r.cell j 3 m hm bu;have NX:Hid ((T.ms.take (j+1)).foldl Mo.iG (Tr.dq F T.rt.2)=Mo.iG ((T.ms.take j).foldl Mo.iG (Tr.dq F T.rt.2)) m):=hJ (Mo.xH _ _ _ _ _ hm);have HBJ:Hid (Tr.Hb ((T.ms.take j).foldl Mo.iG (Tr.dq F T.rt.2)) (K+1+2*6)):=hJ ((Mo.I2 _ HB2.v).mono (by rw[List.length_take];omega));go_upto_region 4 with fail
    refine cG (λW'=>MB W' wr.heap.size m/\Below wr.heap.size wr W') ⟨heap_alloc_new wr _,(aQ _ _).alloc (aL _) _⟩ ?_;rintro W5 ⟨m5,b5⟩;have S5:Hid (bP W5 UE b f T v/\bN W5 f ((T.ms.take j).foldl Mo.iG (Tr.dq F T.rt.2))/\bE f w W5):=hJ ⟨TW.below b5,R.1.below b5,R.2.trans (bE.cC b5)⟩;have n0:=m5.c0;have n1:=m5.c1;have n2:=m5.c2;have n3:=m5.c3;generalize wr.heap.size=mx at*;go_wp2_with fail
    refine sC (tR UE b f _ T v _ m _ S5.1 S5.2.1 HBJ.v bu) ?_;rintro W6 ⟨t6,f6⟩;have S6:Hid (bN W6 f ((T.ms.take (j+1)).foldl Mo.iG (Tr.dq F T.rt.2))/\bE f w W6):=hJ ⟨by rw[NX.v];exact t6,S5.2.2.trans f6⟩;go_wp2
    go_roundw
    case rel=>exact⟨j+1,by go_num,bu,S6⟩
    case measure=>simp[intOf];omega
  .have hltI:¬(j:Int)<(N:Int):=bu
   have FIN:Hid (bN wr f (Mo.kF F T)/\bE f w wr):=hJ ⟨by
    have:=R.1;rw[List.take_of_length_le (by rw[HN.v];omega)]at this;exact this,R.2⟩
   go_wp2_with fail
   go_end0
   exact⟨rfl,FIN.v⟩
def Mo.CS(F:Fo)(t:Int):Wh:=if Tr.ga F t=0 then(t,(Tr.fB F t:Int))else(0,0)
theorem sN(f:Nat)(F:Fo)(t:Int)(w:bD)(hF:bN w f F):
  Calls prog 165 #[ai (bh ⟨f,0,bj⟩),aa az t] w λe w'=>e=bf (ao #[au #[aa az (Mo.CS F t).1,aa az (Mo.CS F t).2],bG (Tr.ga F t)])/\Below w.heap.size w w':=by
 have HF:=hJ hF;go_in
 go_upto_region 1 with fail
 refine cG (λW'=>WB W' w.heap.size (0,0)/\Below w.heap.size w W') (Gc w) ?_;rintro W1 h1;have S1:=hJ h1;go_wp2_with fail
 refine sC (Kf f t F _ (HF.below S1.2)) ?_;rintro W2 hW;subst W2;obtain⟨rx,hrx⟩:=hU (w.heap.size);have HRX:=hJ hrx;rw[hrx]at S1|-;have y0:=S1.1.c0;have y1:=S1.1.c1;have yf:=S1.1.fz;by_cases e0:Tr.ga F t=0
 .have P:Hid (Mo.CS F t=(t,(Tr.fB F t:Int))):=hJ (aJ e0);have E0:=hJ e0;rw[e0,bB];obtain⟨rn,hrn⟩:=hU ((Tr.fB F t:Int));rw[hrn]at P|-;have R:=hJ (S1.1.fin S1.2 HRX.v (t,rn));go_wp2_with fail
  generalize hWF:(W1.setCell ⟨rx,0,bj⟩ (aa az t)).setCell ⟨rx,1,bj⟩ (aa az rn)=WF at R|-;have z0:=R.1.c0;have z1:=R.1.c1;refine bodyPost_ret (v:=ao #[au #[aa az t,aa az rn],ay]) (by simp[results,Tryz.f165,go_sem,z0,z1]) rfl ?_;rw[P.v,E0.v];refine⟨rfl,by rw[HRX.v];exact R.2⟩
 .have P:Hid (Mo.CS F t=(0,0)):=hJ (aI e0);have E0:=hJ (bC e0);rw[E0.v];have R:=hJ (S1.1.fin S1.2 HRX.v (0,0));go_wp2_with fail
  generalize hWF:(W1.setCell ⟨rx,0,bj⟩ (aa .i64 0)).setCell ⟨rx,1,bj⟩ (aa .i64 0)=WF at R|-;have z0:=R.1.c0;have z1:=R.1.c1;refine bodyPost_ret (v:=ao #[au #[aa az 0,aa az 0],aq 100 (aa az (Tr.ga F t))]) (by simp[results,Tryz.f165,go_sem,z0,z1]) rfl ?_;rw[P.v,E0.v];refine⟨rfl,by rw[HRX.v];exact R.2⟩
theorem PM(f K:Nat)(F:Fo)(t:Int)(w:bD)(hF:bN w f F)(e0:Tr.ga F t=0)(hb:Tr.Hb F K)(hK:K<800):
  Calls prog 90 #[ai (bh ⟨f,0,bj⟩),aa az t] w λe w'=>∃b,e=bf (ao #[ai (bh ⟨b,0,bj⟩),ay])/\w.heap.size<=b/\(∀UE,bP w' UE b f ⟨(t,(Tr.fB F t:Int)),[]⟩ (aj bj 0 0))/\bN w' f (Tr.dB F (Tr.fB F t))/\bE f w w':=by
 have HF:=hJ hF;have HB:=hJ hb;have P:Hid (Mo.CS F t=(t,(Tr.fB F t:Int))):=hJ (aJ e0);have E0:=hJ e0;go_in
 go_wp2_with fail
 refine sC (sN f F t _ HF.v) ?_;rintro W1 b1;rw[P.v,E0.v,bB];obtain⟨rn,hrn⟩:=hU ((Tr.fB F t:Int));rw[hrn];have S1:Hid (∀o o',bN ((W1.alloc o).alloc o') f F/\Below w.heap.size w ((W1.alloc o).alloc o')):=hJ (λo o'=>by
  have a:Below w.heap.size w ((W1.alloc o).alloc o'):=(b1.alloc b1.size o).alloc (by have:=b1.size;simp;omega) o';exact⟨HF.below a,a⟩)
 have BZ:=hJ b1.size;go_upto_region 5 with fail
 refine cG (λW'=>(∀UE,bP W' UE (W1.heap.size+1) f ⟨(t,rn),[]⟩ (aj bj 0 0))/\bN W' f F/\Below w.heap.size w W') ⟨λUE=>⟨by
  show((W1.heap.push _).push _)[W1.heap.size+1]? =_;simp only[bJ,Array.size_push];rw[aJ trivial],World.ownsRow_nil _ _ _ _,by simp⟩,S1.v _ _⟩ ?_
 rintro W2 ⟨t2,f2,b2⟩;have S2:=hJ (aK t2 (aK f2 b2));have LB:Hid (w.heap.size<=W1.heap.size+1):=hJ (by have:=BZ.v;omega);generalize W1.heap.size+1=b at*;generalize W1.heap.size=b' at*;go_wp2_with fail
 refine sC (we 0 b f K ⟨(t,rn),[]⟩ _ F _ (S2.1 0) S2.2.1 HB.v hK) ?_;rintro W3 ⟨f3,k3⟩;have FIN:Hid ((∀UE,bP W3 UE b f ⟨(t,rn),[]⟩ (aj bj 0 0))/\bN W3 f (Tr.dB F rn)/\bE f w W3):=hJ ⟨λUE=>(S2.1 UE).jE S2.2.1 k3,f3,(bE.cC S2.2.2).trans k3⟩;go_wp2
 go_ret2
 subst hrn;exact⟨b,rfl,LB.v,FIN.v⟩
section
variable {ops:Array Oper}{rest:List Oper}{o:Oper}{a:Act}{w:bD}{Q:Exit->Act->bD->Prop}
theorem xY{P:Program}(t ty e:TypeId)(i:TypeInfo)(ht:P.underlying t=bh (.slice e))(hi:P.info? e=bh i)(g:Nat)(ad:Addr)(n cap c:Nat)(hn:n<=cap):
  (Builtin.append_ #[t,t] ty #[aj (bh ⟨g,0,bj⟩) n cap,aj (bh ad) 0 c]).run P w= .ok (aj (bh ⟨g,0,bj⟩) n cap) w:=by
 simp[Builtin.append_,run_underlying ht,sizeOf,typeInfo,hi,Builtin.lenOf,Builtin.firstCells,hn,storeCells,loadCells,loadCellsFrom]
theorem uO(hgd:o.guard=bj)(s x:Operand)(t:TypeId)(ho:o.op= .call {callee:= .builtin .append,args:=#[s,x],argTypes:=#[t,t]})(e:TypeId)(i:TypeInfo)(ht:prog.underlying t=bh (.slice e))(hi:prog.info? e=bh i)
  (g:Nat) (ad:Addr) (n cap c:Nat) (hn:n<=cap) (hs:a.eval s=aj (bh ⟨g,0,bj⟩) n cap) (hx:a.eval x=aj (bh ad) 0 c) (h:wpList prog ops Q rest (a.put o.dst (aj (bh ⟨g,0,bj⟩) n cap)) w):wpList prog ops Q (o::rest) a w:=
 wpList_plain hgd λ_ hK=>by
  unfold Oper.wp execOp;simp only[ho,resolve,invoke,builtin,Sem.run_bind,Sem.run_pure,Result.andThen_ok,List.map_toArray,List.map_cons,List.map_nil,hs,hx,xY (P:=prog) (w:=w) t o.type e i ht hi g ad n cap c hn];exact hK _ _ h
end
theorem Mo.tY:∀(L:List Mt),∀u∈Mo.fw L,u.oneCell'=true:=λL u hu=>by
 unfold Mo.fw at hu;obtain⟨m,_,hm⟩:=List.mem_flatMap.1 hu;simp only[Mo.ud,List.mem_cons,List.not_mem_nil,or_false]at hm;rcases hm with rfl|rfl|rfl|rfl<;>rfl
theorem fj.news{w:bD}{UE g n cap:Nat}{L:List Mt}(h:fj w UE L (aj (bh ⟨g,0,bj⟩) n cap)):∀j u,(Mo.fw L)[j]? =bh u->w.cell? ((⟨g,0,bj⟩:Addr).add j)=bh u:=World.ownsRow.cells h rfl
theorem PO(w:bD):Sem.run prog (binOp BinOp.eql 227 (aj bj 0 0) (aj bj 0 0)) w= .ok (ar true) w:=by kernel_rfl
theorem Fb(ad:Addr)(n c:Nat)(w:bD):Sem.run prog (binOp BinOp.eql 227 (aj (bh ad) n c) (aj bj 0 0)) w= .ok (ar false) w:=by kernel_rfl
theorem Hc(UE:Nat)(L:List Mt)(v:Value)(w:bD)(h:fj w UE L v)(h6:L.length<=6):
  Calls prog 219 #[v] w λe w'=>∃v',e=bf v'/\fj w' w.heap.size L v'/\Below w.heap.size w w':=by
 obtain⟨i0,z0,hi0,hz0,hz1,hz2,hz3⟩:=BP;rcases h.form with⟨rfl,rfl⟩|⟨g,cap,rfl,hb,hg,hc⟩
 .clear h;have cm:=PO w;go_in
  go_wp2
  go_ret
  exact⟨_,rfl,World.ownsRow_nil _ _ _ _,aQ _ _⟩
 .have HR:=hJ h;obtain⟨N,hN⟩:=hU (L.length);have HN:=hJ hN;rw[hN]at h6 HR hc|-;have A1:Hid ((w.alloc (bg #[] 273)).ownsRow w.heap.size 273 4 (aj (bh ⟨w.heap.size,0,bj⟩) 0 0) 0 []/\Below w.heap.size w (w.alloc (bg #[] 273))):=hJ ⟨⟨rfl, .inr ⟨w.heap.size,0,#[],rfl,aL _,heap_alloc_new w _,aL _,by decide,rfl,rfl⟩⟩,(aQ _ _).alloc (aL _) _⟩;by_cases n0:N=0
  .subst n0;have L0:Hid (L=[]):=hJ (List.eq_nil_of_length_eq_zero hN);have cm:=Fb ⟨g,0,bj⟩ 0 cap w;go_in
   go_wp2_with (at_builtin;refine uO rfl _ _ 227 rfl 273 i0 Tryz.underlying227 hi0 w.heap.size ⟨g,0,bj⟩ 0 0 cap (aL _) (by rfl) (by rfl) ?_)
   go_ret
   refine⟨_,rfl,?_,A1.2⟩;rw[L0.v];exact A1.1
  .have HG:=hJ hg;have MORE:Hid (∀g2 cap2 W7,W7.ownsRow w.heap.size 273 4 (aj (bh ⟨g2,0,bj⟩) (0+N) cap2) (0+N) ([]++Mo.fw L)->(w.alloc (bg #[] 273)).grownBy W7 (bh w.heap.size)->fj W7 w.heap.size L (aj (bh ⟨g2,0,bj⟩) (0+N) cap2)/\Below w.heap.size w W7):=hJ (λg2 cap2 W7 ho hgr=>by
    refine⟨?_,A1.2.trans ⟨hgr.os,hgr.tape,hgr.output,hgr.size,λn hn=>hgr.block n (by simp;omega) (λe=>by cases e;omega)⟩⟩;unfold fj;rw[HN.v];rw[Nat.zero_add,List.nil_append]at ho;rw[Nat.zero_add];exact ho)
   have cm:=Fb ⟨g,0,bj⟩ N cap w;go_in
   go_wp2_with (at_builtin;refine wpList_append_lies _ rfl _ _ 227 (by rfl) w.heap.size 273 i0 z0 4 32 Tryz.underlying227 hi0 hz0 hz1 hz2 hz3 bA (aj (bh ⟨w.heap.size,0,bj⟩) 0 0) 0 [] (by rfl) A1.1 ⟨g,0,bj⟩ N cap (Mo.fw L) (by rfl) (by rw[Mo.la,HN.v]) (HR.below A1.2).news (Mo.tY L) bu (by unfold maxLen;omega) bu (by simp) (w.heap.size+1) (by simp) ?_;intro gg cap2 W7 hown hgrow hat hlt2;have Q1:=hJ (MORE.v gg cap2 W7 hown hgrow))
   go_ret
   have Q2:=Q1.v;rw[Nat.zero_add]at Q2;exact⟨_,rfl,Q2⟩
theorem Lo(UE b f K:Nat)(T:Tb)(v:Value)(F:Fo)(w:bD)(h:bP w UE b f T v)(hF:bN w f F)(hb:Tr.Hb F K)(hK:K<800):
  Calls prog 141 #[ai (bh ⟨b,0,bj⟩)] w λe w'=>∃c v',e=bf (ai (bh ⟨c,0,bj⟩))/\w.heap.size<=c/\bP w' w.heap.size c f T v'/\bN w' f (Mo.mO F T)/\bE f w w':=by
 have HT:=hJ (aK h hF);have HB:=hJ hb;obtain⟨va,vc,hv⟩:=h.row.sl;have HV:=hJ hv;have c0:=h.c0;have c1:=h.c1;have c2:=h.c2;have c3:=h.c3;rw[hv]at c3;have KF:Hid (∀w':bD,Below w.heap.size w w'->w'.cell? ⟨b,0,bj⟩=bh (ai (bh ⟨f,0,bj⟩))/\w'.cell? ⟨b,1,bj⟩=bh (aa az T.rt.1)/\w'.cell? ⟨b,2,bj⟩=bh (aa az T.rt.2)/\w'.cell? ⟨b,3,bj⟩=bh (aj va T.ms.length vc)):=hJ (λw' k=>⟨(h.below k).c0,(h.below k).c1,(h.below k).c2,by rw[<-hv];exact(h.below k).c3⟩);have K0:=hJ (KF.v w (aQ _ _));go_in
 go_upto_region 1 with fail
 go_region_held3 (λw'=>w'.cell? ⟨b,0,bj⟩=bh (ai (bh ⟨f,0,bj⟩))/\w'.cell? ⟨b,1,bj⟩=bh (aa az T.rt.1)/\w'.cell? ⟨b,2,bj⟩=bh (aa az T.rt.2)/\w'.cell? ⟨b,3,bj⟩=bh (aj va T.ms.length vc)) (first|exact K0.v|exact K4.v|exact(K5.v _)) ((go_at_call 219;rw[<-HV.v];refine(Hc UE T.ms v _ HT.1.drew.row HT.1.rJ).mono ?_;rintro e w4 ⟨v',rfl,r4,b4⟩;have b5:Below w.heap.size w w4:=⟨b4.os,b4.tape,b4.output,b4.size,b4.block⟩;have K4:=hJ (KF.v w4 b5);have K5:Hid (∀o,(w4.alloc o).cell? ⟨b,0,bj⟩=bh (ai (bh ⟨f,0,bj⟩))/\(w4.alloc o).cell? ⟨b,1,bj⟩=bh (aa az T.rt.1)/\(w4.alloc o).cell? ⟨b,2,bj⟩=bh (aa az T.rt.2)/\(w4.alloc o).cell? ⟨b,3,bj⟩=bh (aj va T.ms.length vc)):=hJ (λo=>KF.v _ (b5.alloc b5.size o));have P4:Hid (fj w4 w.heap.size T.ms v'/\Below w.heap.size w w4):=hJ ⟨r4,b5⟩;obtain⟨va',vc',hv'⟩:=r4.sl;have HV':=hJ hv';subst hv'))
 have S5:Hid (bP (w4.alloc (bg #[ai (bh ⟨f,0,bj⟩),aa az T.rt.1,aa az T.rt.2,aj va' T.ms.length vc'] 229)) w.heap.size w4.heap.size f T (aj va' T.ms.length vc')/\bN (w4.alloc (bg #[ai (bh ⟨f,0,bj⟩),aa az T.rt.1,aa az T.rt.2,aj va' T.ms.length vc'] 229)) f F/\Below w.heap.size w (w4.alloc (bg #[ai (bh ⟨f,0,bj⟩),aa az T.rt.1,aa az T.rt.2,aj va' T.ms.length vc'] 229))/\w.heap.size<=w4.heap.size):=hJ (by
  have b5:=P4.2.alloc P4.2.size (bg #[ai (bh ⟨f,0,bj⟩),aa az T.rt.1,aa az T.rt.2,aj va' T.ms.length vc'] 229);exact⟨⟨heap_alloc_new w4 _,P4.1.below ((aQ _ _).alloc (aL _) _),HT.1.rJ⟩,HT.2.below b5,b5,P4.2.size⟩)
 generalize (w4.alloc (bg #[ai (bh ⟨f,0,bj⟩),aa az T.rt.1,aa az T.rt.2,aj va' T.ms.length vc'] 229))=W5 at*;generalize w4.heap.size=c at*;go_wp2_with fail
 refine sC (we w.heap.size c f K T _ F _ S5.1 S5.2.1 HB.v hK) ?_;rintro W6 ⟨f6,k6⟩;have FIN:Hid (bP W6 w.heap.size c f T (aj va' T.ms.length vc')/\bN W6 f (Mo.mO F T)/\bE f w W6):=hJ ⟨S5.1.jE S5.2.1 k6,f6,(bE.cC S5.2.2.1).trans k6⟩;go_wp2
 go_ret
 exact⟨c,_,rfl,S5.2.2.2,FIN.v⟩
def BF(b f:Nat):Nat->Prop:=λk=>k=b\/k=f
theorem bP.PN{w:bD}{UE b f:Nat}{T:Tb}{v:Value}(h:bP w UE b f T v)(x:Wh):bP (((w.setCell ⟨b,1,bj⟩ (aa az x.1)).setCell ⟨b,2,bj⟩ (aa az x.2)).setCell ⟨b,3,bj⟩ (aj bj 0 0)) UE b f ⟨x,[]⟩ (aj bj 0 0):=
 ⟨cE (cE (cE h.cU 1 _) 2 _) 3 _,World.ownsRow_nil _ _ _ _,by simp⟩
theorem IJ(UE b f K:Nat)(T:Tb)(v:Value)(F:Fo)(w:bD)(h:bP w UE b f T v)(hF:bN w f F)(hb:Tr.Hb F K)(hK:K<800):
  Calls prog 154 #[ai (bh ⟨b,0,bj⟩)] w λe w'=>e=bf (ao #[])/\bN w' f (Mo.kF F T)/\dF (BF b f) w w':=by
 have HT:=hJ (aK h hF);have HB:=hJ hb;go_in
 go_wp2_with fail
 refine sC (ES UE b f K T v F _ HT.1 HT.2 HB.v hK) ?_;rintro W1 ⟨f1,k1⟩;have T1:=HT.1.jE HT.2 k1;obtain⟨va,vc,hv⟩:=T1.row.sl;have c3:=T1.c3;rw[hv]at c3;have cf:=T1.frozen;have FIN:Hid (bN (W1.setCell ⟨b,3,bj⟩ (aj bj 0 0)) f (Mo.kF F T)/\dF (BF b f) w (W1.setCell ⟨b,3,bj⟩ (aj bj 0 0))):=hJ ⟨f1.same (dJ _ _ _ _ (bQ (HT.1.ne HT.2).1)),(dF.jW k1 (.inr rfl)).setCell (.inl rfl) _ _⟩;go_wp2_with fail
 go_end0
 exact⟨rfl,FIN.v⟩
theorem M4(UE b f:Nat)(T:Tb)(v:Value)(F:Fo)(t:Int)(w:bD)(h:bP w UE b f T v)(hF:bN w f F)(e0:Tr.ga F t≠0):
  Calls prog 94 #[ai (bh ⟨b,0,bj⟩),aa az t] w λe w'=>e=bf (bG (Tr.ga F t))/\Below w.heap.size w w':=by
 have HT:=hJ (aK h hF);have E:=hJ (bC e0);have c0:=h.c0;go_in
 go_wp2_with fail
 refine sC (sN f F t _ HT.2) ?_;rintro W1 b1;have B1:=hJ b1;rw[E.v];obtain⟨y,hy⟩:=hU (Mo.CS F t);rw[hy];go_wp2
 go_ret
 rw[E.v];exact⟨rfl,B1.alloc B1.size _⟩
theorem JM(UE b f K:Nat)(T:Tb)(v:Value)(F:Fo)(t:Int)(w:bD)(h:bP w UE b f T v)(hF:bN w f F)(e0:Tr.ga F t=0)(hb:Tr.Hb F K)(hK:K<800):
  Calls prog 94 #[ai (bh ⟨b,0,bj⟩),aa az t] w λe w'=>e=bf ay/\bP w' UE b f ⟨(t,(Tr.fB F t:Int)),[]⟩ (aj bj 0 0)/\bN w' f (Tr.dB (Mo.kF F T) (Tr.fB F t))/\dF (BF b f) w w':=by
 have HT:=hJ (aK h hF);have HB:=hJ hb;have P:Hid (Mo.CS F t=(t,(Tr.fB F t:Int))):=hJ (aJ e0);have E0:=hJ e0;have c0:=h.c0;go_in
 go_wp2_with fail
 refine sC (sN f F t _ HT.2) ?_;rintro W1 b1;rw[P.v,E0.v,bB];obtain⟨rn,hrn⟩:=hU ((Tr.fB F t:Int));have HRN:=hJ hrn;rw[hrn];have B1:=hJ b1;go_upto_region 2 with fail
 refine cG (λW'=>WB W' W1.heap.size (t,rn)/\Below w.heap.size w W') ⟨heap_alloc_new W1 _,B1.alloc B1.size _⟩ ?_;rintro W2 ⟨x2,b2⟩;have S2:Hid (WB W2 W1.heap.size (t,rn)/\bP W2 UE b f T v/\bN W2 f F/\dF (BF b f) w W2):=hJ ⟨x2,HT.1.below b2,HT.2.below b2,dF.cC b2⟩;generalize W1.heap.size=bx at*;go_wp2_with fail
 refine sC (ES UE b f K T v F _ S2.2.1 S2.2.2.1 HB.v hK) ?_;rintro W3 ⟨f3,k3⟩;have S3:Hid (WB W3 bx (t,rn)/\bP W3 UE b f T v/\bN W3 f (Mo.kF F T)/\dF (BF b f) w W3):=hJ ⟨S2.1.same (k3.block bx S2.1.lt (by
  obtain⟨C,hC,_⟩:=S2.2.2.1.cU;exact tq S2.1 hC bA)),S2.2.1.jE S2.2.2.1 k3,f3,S2.2.2.2.trans (dF.jW k3 (.inr rfl))⟩
 have x0:=S3.1.c0;have x1:=S3.1.c1;obtain⟨va,vc,hv⟩:=S3.2.1.row.sl;have c1:=S3.2.1.c1;have c2:=S3.2.1.c2;have c3:=S3.2.1.c3;have cf:=S3.2.1.frozen;rw[hv]at c3;have S4:Hid (bP (((W3.setCell ⟨b,1,bj⟩ (aa az t)).setCell ⟨b,2,bj⟩ (aa az rn)).setCell ⟨b,3,bj⟩ (aj bj 0 0)) UE b f ⟨(t,rn),[]⟩ (aj bj 0 0)/\bN (((W3.setCell ⟨b,1,bj⟩ (aa az t)).setCell ⟨b,2,bj⟩ (aa az rn)).setCell ⟨b,3,bj⟩ (aj bj 0 0)) f (Mo.kF F T)/\dF (BF b f) w (((W3.setCell ⟨b,1,bj⟩ (aa az t)).setCell ⟨b,2,bj⟩ (aa az rn)).setCell ⟨b,3,bj⟩ (aj bj 0 0))):=hJ (by
  have ne:=bQ (S3.2.1.ne S3.2.2.1).1;exact⟨S3.2.1.PN (t,rn),S3.2.2.1.same ((dJ _ _ _ _ ne).trans ((dJ _ _ _ _ ne).trans (dJ _ _ _ _ ne))),((S3.2.2.2.setCell (.inl rfl) _ _).setCell (.inl rfl) _ _).setCell (.inl rfl) _ _⟩)
 have HB2:Hid (Tr.Hb (Mo.kF F T) K):=hJ (Mo.Q3 HB.v);go_upto_region 6 with fail
 refine cG (λW'=>bP W' UE b f ⟨(t,rn),[]⟩ (aj bj 0 0)/\bN W' f (Mo.kF F T)/\dF (BF b f) w W') S4.v ?_;rintro W4 h4;have S5:=hJ h4;go_wp2_with fail
 refine sC (we UE b f K ⟨(t,rn),[]⟩ _ _ _ S5.1 S5.2.1 HB2.v hK) ?_;rintro W6 ⟨f6,k6⟩;have FIN:Hid (bP W6 UE b f ⟨(t,rn),[]⟩ (aj bj 0 0)/\bN W6 f (Tr.dB (Mo.kF F T) rn)/\dF (BF b f) w W6):=hJ ⟨S5.1.jE S5.2.1 k6,f6,S5.2.2.trans (dF.jW k6 (.inr rfl))⟩;go_wp2
 go_ret
 rw[HRN.v];exact⟨rfl,FIN.v⟩
namespace Mo
theorem Co:∀(L:List Mt) (n:Nat),fw (L.take n)=(fw L).take (n*4)
 |[],n=>by simp[fw]
 |x::L,0=>by simp[fw]
 |x::L,n+1=>by
  show ud x++fw (L.take n)=(ud x++fw L).take ((n+1)*4);rw[Co L n,show(n+1)*4=n*4+4 by omega];rfl
theorem Cn:∀(L:List Mt) (n:Nat),fw (L.drop n)=(fw L).drop (n*4)
 |[],n=>by simp[fw]
 |x::L,0=>by simp[fw]
 |x::L,n+1=>by
  show fw (L.drop n)=(ud x++fw L).drop ((n+1)*4);rw[Cn L n,show(n+1)*4=4+n*4 by omega,<-List.drop_drop];rfl
end Mo
theorem pN{b:Nat}:∀(vs:List Value) (o:Nat) {u w:bD},bE b u w->bE b u (w.setCells b o vs)
 |[],_,_,_,h=>h
 |v::r,o,u,w,h=>by rw[World.setCells];exact pN r (o+1) (h.setCell o v)
theorem pO(b:Nat):∀(vs:List Value) (o:Nat) (w:bD) (C:Array Value) {T:TypeId},w.heap[b]? =bh (bg C T (0,0))->∃C',(w.setCells b o vs).heap[b]? =bh (bg C' T (0,0))/\C'.size=C.size
 |[],_,_,C,_,h=>⟨C,h,rfl⟩
 |v::r,o,w,C,T,h=>by
  rw[World.setCells];obtain⟨C',h1,h2⟩:=pO b r (o+1) _ _ (cE h o v);exact⟨C',h1,by rw[h2];simp⟩
def lu:List Value:=[aa az 0,aa az 0,aa az 0,aa az 0]
theorem Hq(ty:TypeId)(b off c:Nat)(w:bD)(hc:∀j,j<4->(w.cell? ⟨b,off+j,bj⟩).isSome=true)(hf:∀j,j<4->w.frozen? ⟨b,off+j,bj⟩=false):
  Sem.run prog (Builtin.clear_ #[227] ty #[aj (bh ⟨b,off,bj⟩) 1 c]) w= .ok (ao #[]) (w.setCells b off lu):=by
 have hu:prog.underlying 227=bh (.slice 273):=by kernel_rfl
 have hv:∀w,(zeroValue 273).run prog w= .ok (au #[aa az 0,aa az 0,aa az 0,aa az 0]) w:=λw=>by kernel_rfl
 have hst:=run_storeCells_cells (P:=prog) b off lu 0 w (by simpa[lu]using hc) (by simpa[lu]using hf) (by
  intro v hv';simp only[lu,List.mem_cons,List.not_mem_nil,or_false]at hv';rcases hv' with rfl|rfl|rfl|rfl<;>rfl)
 simp only[Nat.add_zero]at hst;have hz:(Builtin.zeroCells (au #[aa az 0,aa az 0,aa az 0,aa az 0]).cells 1).toList=lu:=by kernel_rfl
 simp[Builtin.clear_,run_underlying hu,hv,hz,hst]
theorem fj.erased{w:bD}{UE g cap i M:Nat}{L:List Mt}(h:fj w UE L (aj (bh ⟨g,0,bj⟩) (M+1) cap))(hM:L.length=M+1)(hi:i<=M):
  fj ((w.setCells g (i*4) (Mo.fw (L.drop (i+1)))).setCells g (M*4) lu) UE (L.eraseIdx i) (aj (bh ⟨g,0,bj⟩) M cap)/\bE g w ((w.setCells g (i*4) (Mo.fw (L.drop (i+1)))).setCells g (M*4) lu):=by
 refine⟨?_,pN _ _ (pN _ _ (bE.refl g w))⟩;have hl:(L.eraseIdx i).length=M:=by rw[List.length_eraseIdx_of_lt bu];omega
 have hn:(Mo.fw (L.drop (i+1))).length=(M-i)*4:=by rw[Mo.la,List.length_drop,hM];omega
 unfold fj;rw[hl];refine⟨by rw[Mo.la,hl],?_⟩;rcases h.2 with⟨e,_⟩|⟨g',cap',cur,e,hb,hg,h1,h2,h3,h4⟩
 .cases e
 .rw[hM]at e;cases e;rw[hM]at h1 h4;obtain⟨C1,k1,s1⟩:=pO g (Mo.fw (L.drop (i+1))) (i*4) w cur hg;obtain⟨C2,k2,s2⟩:=pO g lu (M*4) _ C1 k1;refine .inr ⟨g,cap,C2,rfl,hb,k2,bu,h2,by rw[s2,s1];exact h3,?_⟩;have old:∀o,o<(M+1)*4->w.cell? ⟨g,o,bj⟩=(Mo.fw L)[o]? :=λo ho=>by
   rw[bO hg,<-h4,List.getElem?_take_of_lt ho,aM]
  apply List.ext_getElem?;intro o;by_cases ho:o<M*4
  .rw[List.getElem?_take_of_lt ho,aM,<-bO k2,
    aA g lu (M*4) _ ⟨g,o,bj⟩ (λ_ _=> .inl ho),List.eraseIdx_eq_take_drop_succ,Mo.EY]
   have hta:(Mo.fw (L.take i)).length=i*4:=by rw[Mo.la,List.length_take,hM];omega
   by_cases c:o<i*4
   .rw[aA g _ (i*4) w ⟨g,o,bj⟩ (λ_ _=> .inl c),old o bu,List.getElem?_append_left bu,Mo.Co,List.getElem?_take_of_lt c]
   .rw[List.getElem?_append_right bu,hta];have:=aS g (Mo.fw (L.drop (i+1))) (i*4) w (λj hj=>by rw[old _ bu,aW (by rw[Mo.la,hM];omega)];rfl) (o-i*4) bu;rw[show i*4+(o-i*4)=o by omega]at this;rw[this,aW bu]
  .rw[List.getElem?_eq_none (by rw[List.length_take];omega),List.getElem?_eq_none (by rw[Mo.la,hl];omega)]
theorem D1(UE g cap i M:Nat)(L:List Mt)(w:bD)(h:fj w UE L (aj (bh ⟨g,0,bj⟩) (M+1) cap))(hM:L.length=M+1)(hi:i<=M)(h6:M<=5):
  Calls prog 263 #[aj (bh ⟨g,0,bj⟩) (M+1) cap,aa az i,aa az ((i:Int)+1)] w λe w'=>e=bf (aj (bh ⟨g,0,bj⟩) M cap)/\fj w' UE (L.eraseIdx i) (aj (bh ⟨g,0,bj⟩) M cap)/\bE g w w':=by
 obtain⟨i0,z0,hi0,hz0,hz1,hz2,hz3⟩:=BP;have hn:(Mo.fw (L.drop (i+1))).length=(M-i)*4:=by rw[Mo.la,List.length_drop,hM];omega
 have hcap:M+1<=cap/\cap<=maxLen:=by
  rcases h.2 with⟨e,_⟩|⟨g',cap',cur,e,hb,hg,h1,h2,h3,h4⟩
  .cases e
  .rw[hM]at e;cases e;exact⟨by omega,h2⟩
 unfold maxLen at hcap;have cl:∀o,o<(M+1)*4->w.cell? ⟨g,o,bj⟩=(Mo.fw L)[o]? :=λo ho=>by
  rcases h.2 with⟨e,_⟩|⟨g',cap',cur,e,hb,hg,h1,h2,h3,h4⟩
  .cases e
  .rw[hM]at e;cases e;rw[bO hg,<-h4,List.getElem?_take_of_lt (by rw[hM];exact ho),aM]
 have cs:∀o,o<(M+1)*4->(w.cell? ⟨g,o,bj⟩).isSome=true:=λo ho=>by
  rw[cl o ho,aW (by rw[Mo.la,hM];omega)];rfl
 obtain⟨A,hA,hnews⟩:∃A:Addr,(if cap=i+1 then bh (⟨g,0,bj⟩:Addr)else bh ⟨g,(i+1)*4,bj⟩)=bh A/\Hid (∀j u,(Mo.fw (L.drop (i+1)))[j]? =bh u->w.drew.cell? (A.add j)=bh u):=by
  by_cases c:cap=i+1
  .refine⟨⟨g,0,bj⟩,by simp[c],λj u hu=>?_⟩;have:=(aY.1 hu).1;omega
  .refine⟨⟨g,(i+1)*4,bj⟩,by simp[c],λj u hu=>?_⟩;have hj:=(aY.1 hu).1;rw[hn]at hj;rw[rZ];show w.cell? ⟨g,(i+1)*4+j,bj⟩=bh u;rw[cl _ bu];rw[Mo.Cn,List.getElem?_drop]at hu;exact hu
 have hd:fj w.drew UE L (aj (bh ⟨g,0,bj⟩) (M+1) cap):=h;have FIN:Hid (∀W5,w.drew.setCells g (i*4) (Mo.fw (L.drop (i+1)))=W5->fj (W5.setCells g (M*4) lu) UE (L.eraseIdx i) (aj (bh ⟨g,0,bj⟩) M cap)/\bE g w (W5.setCells g (M*4) lu)):=hJ (λW5 e=>by
  subst e;have:=hd.erased hM hi;exact⟨this.1,⟨this.2.os,this.2.tape,this.2.output,this.2.size,this.2.block⟩⟩)
 have s1:Hid ((Mo.fw (L.drop (i+1))).length=(M-i)*4):=hJ hn;have s2:Hid (∀u∈Mo.fw (L.drop (i+1)),u.oneCell'=true):=hJ (Mo.tY _);have s3:Hid (∀j,j<(Mo.fw (L.drop (i+1))).length->(w.drew.cell? ⟨g,0+i*4+j,bj⟩).isSome=true/\w.drew.frozen? ⟨g,0+i*4+j,bj⟩=false):=hJ (λj hj=>by
  rw[hn]at hj;rw[Nat.zero_add];exact⟨cs (i*4+j) bu,h.frozen _⟩)
 have s4:Hid (∀W5,w.drew.setCells g (i*4) (Mo.fw (L.drop (i+1)))=W5->∀j,j<4->(W5.cell? ⟨g,M*4+j,bj⟩).isSome=true/\W5.frozen? ⟨g,M*4+j,bj⟩=false):=hJ (λW5 e j hj=>by
  subst e;rw[World.frozen?_setCells,aA g _ (i*4) w.drew ⟨g,M*4+j,bj⟩ (λ_ _=> .inr (by rw[hn];show i*4+(M-i)*4<=M*4+j;omega))];exact⟨cs (M*4+j) bu,h.frozen _⟩)
 have q1:(i:Int)+1<=(M:Int)+1:=bu
 have q2:(0:Int)<=(i:Int)+1:=bu
 have q3:((i:Int)+1).toNat=i+1:=bu
 have q4:(M:Int)+1<=(cap:Int):=bu
 have q5:(i:Int)<=(cap:Int):=bu
 have q6:i<=cap:=bu
 have q7:((i:Int)==(i:Int)+1)=false:=by simp;omega
 have q8:¬(i:Int)=(i:Int)+1:=bu
 have q9:i+(M-i)=M:=bu
 go_in
 go_upto_region 5 with fail
 go_region_law (refine step_append_room rfl (.tmp 22) (.tmp 25) 227 rfl 273 i0 4 Tryz.underlying227 hi0 hz1 g 0 i cap (by simp[Act.eval,Act.put]) A (M-i) (cap-(i+1)) (Mo.fw (L.drop (i+1))) (by simp[Act.eval,Act.put]) s1.v hnews.v s2.v bu s3.v ?_)
 generalize hW5:w.drew.setCells g (i*4) (Mo.fw (L.drop (i+1)))=W5;have S4:=hJ (s4.v W5 hW5);have F5:=hJ (FIN.v W5 hW5);have p1:¬cap=M:=bu
 have p2:(M:Int)<=(M:Int)+1:=bu
 have hcl:=Hq 0 g (M*4) (cap-M) W5 (λj hj=>(S4.v j hj).1) (λj hj=>(S4.v j hj).2);obtain⟨W6,hW6⟩:=hU (W5.setCells g (M*4) lu);rw[hW6]at hcl F5;go_wp2
 go_ret
 exact⟨rfl,F5.v⟩
namespace Mo
def ij(F:Fo)(x:Wh):Int:=if Tr.cA F x.2≠0 then Tr.cA F x.2 else if(F.nd x.2.toNat).kind=2/\((F.nd x.2.toNat).tree:Int)=x.1 then 0 else 11
def kL(F:Fo)(T:Tb)(x y:Wh):Int:=if ij F x≠0 then ij F x else if ij F y≠0 then ij F y else if x=y then 8 else if(lk T.ms x).isSome=true then 3 else if T.ms.length=6 then 4 else 0
def yP(F:Fo)(T:Tb)(x y:Wh):Tb:=if kL F T x y=0 then⟨T.rt,T.ms++[(x,y)]⟩else T
def yO(F:Fo)(T:Tb)(x y:Wh):Fo:=if kL F T x y=0 then ml F (x,y)else F
def AK(F:Fo)(T:Tb)(x:Wh)(E:Int)(T':Tb)(F':Fo):Prop:=(∃i:Nat,oW T.ms x i/\∃m,T.ms[i]? =bh m/\E=0/\T'=⟨T.rt,T.ms.eraseIdx i⟩/\F'=iG F m)\/(oW T.ms x (-1)/\E=2/\T'=T/\F'=F)
theorem JI(F:Fo)(z:Int):∃o1 o2 o3 o4:Int,td F z=#[aa az o1,aa az o2,aa az o3,aa az o4]/\(Tr.cA F z=0->o1=((F.nd z.toNat).kind:Int)):=by
 unfold td;split
 .exact⟨_,_,_,_,rfl,λ_=>rfl⟩
 .rename_i h;exact⟨0,0,0,0,rfl,λe=>aZ e h⟩
end Mo
theorem jw(UE b f:Nat)(T:Tb)(v:Value)(F:Fo)(x:Wh)(w:bD)(h:bP w UE b f T v)(hF:bN w f F):
  Calls prog 261 #[ai (bh ⟨b,0,bj⟩),au #[aa az x.1,aa az x.2]] w λe w'=>e=bf (bG (Mo.ij F x))/\Below w.heap.size w w':=by
 have HT:=hJ (aK h hF);obtain⟨o1,o2,o3,o4,hO⟩:=Mo.JI F x.2;have OE:=hJ hO;go_in
 go_upto_region 1 with fail
 refine cG (λW'=>WB W' w.heap.size x/\Below w.heap.size w W') ⟨heap_alloc_new w _,(aQ _ _).alloc (aL _) _⟩ ?_;rintro W1 ⟨x1,b1⟩;obtain⟨bx,hbx⟩:=hU (w.heap.size);have HBX:=hJ hbx;rw[hbx]at x1;have LE:Hid (∀W,Below bx w W->bx<=W.heap.size/\bP W UE b f T v/\bN W f F):=hJ (λW h=>by
  have e:=h.size;subst hbx;exact⟨e,HT.1.below h,HT.2.below h⟩)
 have S1:Hid (WB W1 bx x/\Below bx w W1):=hJ ⟨x1,by rw[<-hbx];exact b1⟩;rw[hbx];have c0:=(LE.v _ S1.2).2.1.c0;have cx:=S1.1.c1;have l0:=(LE.v _ S1.2).2.1.lt;have l1:=S1.1.lt;have n0:b≠W1.heap.size:=bu
 have n1:bx≠W1.heap.size:=bu
 have LA:Hid (∀o,bN (W1.alloc o) f F/\Below W1.heap.size W1 (W1.alloc o)):=hJ (λo=>by
  have bb:Below W1.heap.size W1 (W1.alloc o):=(aQ _ _).alloc (aL _) _;exact⟨(LE.v _ S1.2).2.2.below bb,bb⟩)
 have ZZ:Hid (∀w4:bD,Below (W1.alloc (bg #[aa az 0,aa az 0,aa az 0,aa az 0] 156)).drew.heap.size (W1.alloc (bg #[aa az 0,aa az 0,aa az 0,aa az 0] 156)).drew w4->w4.heap[W1.heap.size]? =bh (bg #[aa az 0,aa az 0,aa az 0,aa az 0] 156 (0,0))/\Below W1.heap.size W1 w4):=hJ (λw4 k=>by
  have bb:Below W1.heap.size W1 (W1.alloc (bg #[aa az 0,aa az 0,aa az 0,aa az 0] 156)):=(aQ _ _).alloc (aL _) _;exact⟨(k.block W1.heap.size (by show W1.heap.size<(W1.alloc _).heap.size;simp)).trans (heap_alloc_new W1 _),bb.drew.trans (k.mono (by show W1.heap.size<=(W1.alloc _).heap.size;simp))⟩)
 obtain⟨ev,hev⟩:=hU (bG (Tr.cA F x.2));have HEV:=hJ hev;go_upto_region 1 with fail
 go_cut [5,6,8]from 9 to 17 (λs5 s6 _ wc=>∃nb,s5=ai (bh ⟨nb,0,bj⟩)/\s6=ev/\Hid (WB wc bx x/\Below bx w wc/\wc.cell? ⟨nb,0,bj⟩=bh (aa az o1)))
 case first=>
  go_region_with (go_at_call 214;refine(pB f x.2 F _ (by first|exact(LE.v _ S1.2).2.2.drew|exact(LA.v _).1.drew)).mono ?_;rintro e w4 ⟨rfl,b4⟩;rw[OE.1,HEV.v];try (have ZW:=ZZ.v w4 b4;have z0:=cH ZW.1 0 (aa .i64 0) rfl;have z1:=cH ZW.1 1 (aa .i64 0) rfl;have z2:=cH ZW.1 2 (aa .i64 0) rfl;have z3:=cH ZW.1 3 (aa .i64 0) rfl;have zf:=cv ZW.1))
  all_goals
   first
    |have F1:Hid (WB (w4.alloc (bg #[aa az o1,aa az o2,aa az o3,aa az o4] 156)) bx x/\Below bx w (w4.alloc (bg #[aa az o1,aa az o2,aa az o3,aa az o4] 156))/\(w4.alloc (bg #[aa az o1,aa az o2,aa az o3,aa az o4] 156)).cell? ⟨w4.heap.size,0,bj⟩=bh (aa az o1)):=hJ (by
      have b5:Below W1.heap.size W1 w4:=⟨b4.os,b4.tape,b4.output,b4.size,b4.block⟩;have b6:=b5.alloc b5.size (bg #[aa az o1,aa az o2,aa az o3,aa az o4] 156);exact⟨S1.1.below b6,S1.2.trans (b6.mono (LE.v _ S1.2).1),cH (heap_alloc_new w4 _) 0 _ rfl⟩)
     generalize w4.alloc (bg #[aa az o1,aa az o2,aa az o3,aa az o4] 156)=W5 at*
     first|(go_wp2_with fail;go_meet)|go_meet
     case rel=>exact⟨_,rfl,rfl,F1⟩
    |have F1:Hid (WB ((((w4.setCell ⟨W1.heap.size,0,bj⟩ (aa az o1)).setCell ⟨W1.heap.size,1,bj⟩ (aa az o2)).setCell ⟨W1.heap.size,2,bj⟩ (aa az o3)).setCell ⟨W1.heap.size,3,bj⟩ (aa az o4)) bx x/\Below bx w ((((w4.setCell ⟨W1.heap.size,0,bj⟩ (aa az o1)).setCell ⟨W1.heap.size,1,bj⟩ (aa az o2)).setCell ⟨W1.heap.size,2,bj⟩ (aa az o3)).setCell ⟨W1.heap.size,3,bj⟩ (aa az o4))/\((((w4.setCell ⟨W1.heap.size,0,bj⟩ (aa az o1)).setCell ⟨W1.heap.size,1,bj⟩ (aa az o2)).setCell ⟨W1.heap.size,2,bj⟩ (aa az o3)).setCell ⟨W1.heap.size,3,bj⟩ (aa az o4)).cell? ⟨W1.heap.size,0,bj⟩=bh (aa az o1)):=hJ (by
      have k:=cE (cE (cE (cE ZW.1 0 (aa az o1)) 1 (aa az o2)) 2 (aa az o3)) 3 (aa az o4);have fr:=((((bE.refl W1.heap.size w4).setCell 0 (aa az o1)).setCell 1 (aa az o2)).setCell 2 (aa az o3)).setCell 3 (aa az o4);have b6:=fr.below ZW.2 (aL _) ZW.2.size;exact⟨S1.1.below b6,S1.2.trans (b6.mono (LE.v _ S1.2).1),cH k 0 _ rfl⟩)
     generalize (((w4.setCell ⟨W1.heap.size,0,bj⟩ (aa az o1)).setCell ⟨W1.heap.size,1,bj⟩ (aa az o2)).setCell ⟨W1.heap.size,2,bj⟩ (aa az o3)).setCell ⟨W1.heap.size,3,bj⟩ (aa az o4)=W5 at*
     first|(go_wp2_with fail;go_meet)|go_meet
     case rel=>exact⟨_,rfl,rfl,F1⟩
 case rest=>
  obtain⟨nb,rfl,rfl,S2⟩:=hcut;have PE:Hid (Mo.ij F x=if Tr.cA F x.2≠0 then Tr.cA F x.2 else if(F.nd x.2.toNat).kind=2/\((F.nd x.2.toNat).tree:Int)=x.1 then 0 else 11):=hJ rfl;by_cases e0:Tr.cA F x.2=0
  .have HK:=hJ (OE.2 e0);have TN:Hid (Tr.yn F x.2=(F.nd x.2.toNat).tree):=hJ (aJ e0);rw[e0,aI (λd=>d rfl)]at PE;have E0:=hJ e0;rw[<-HEV.v,e0,bB];have T2:=hJ (LE.v _ S2.2.1).2;have c0:=T2.1.c0;have cx:=S2.1.c1;obtain⟨tr,htr⟩:=hU ((F.nd x.2.toNat).tree);obtain⟨kd,hkd⟩:=hU ((F.nd x.2.toNat).kind);rw[htr,hkd]at PE;rw[hkd]at HK;have TT:Hid (∀nq,Calls prog 284 #[ai (bh ⟨f,0,bj⟩),aa az x.2] (wc.drewN nq) λe w'=>e=bf (ao #[aa az (tr:Int),ay])/\w'=wc.drewN nq):=hJ (λnq=>by
    have:=Kg f x.2 F _ (T2.2.drewN nq);rw[TN.v,htr,E0.v,bB]at this;exact this)
   have SQ:Hid (∀nq,WB (wc.drewN nq) bx x/\Below bx w (wc.drewN nq)/\(wc.drewN nq).cell? ⟨nb,0,bj⟩=bh (aa az (kd:Int))):=hJ (λnq=>⟨S2.1,⟨S2.2.1.os,S2.2.1.tape,S2.2.1.output,S2.2.1.size,S2.2.1.block⟩,by rw[<-HK.v];exact S2.2.2⟩);have d0:wc.cell? ⟨nb,0,bj⟩=bh (aa az (kd:Int)):=by rw[<-HK.v];exact S2.2.2
   have d1:=S2.1.c0;by_cases k2:kd=2
   .subst k2;by_cases t2:(tr:Int)=x.1
    .have FIN:Hid (Mo.ij F x=0):=hJ (by rw[PE.v,aJ ⟨rfl,t2⟩]);have t2':((tr:Int) !=x.1)=false:=by simpa using t2
     have d0':wc.cell? ⟨nb,0,bj⟩=bh (aa .i64 2):=d0;have T2':=hJ t2;go_wp2_with fail
     go_quiet ((go_at_call 284;exact Calls.quiet_of_same (TT.v _)))
     go_wp2
     go_ret
     rw[FIN.v,HBX.v];exact⟨rfl,(SQ.v _).2.1⟩
    .have FIN:Hid (Mo.ij F x=11):=hJ (by rw[PE.v,aI (λh=>t2 h.2)]);have t2':((tr:Int) !=x.1)=true:=by simpa using t2
     have d0':wc.cell? ⟨nb,0,bj⟩=bh (aa .i64 2):=d0;go_wp2_with fail
     go_quiet ((go_at_call 284;exact Calls.quiet_of_same (TT.v _)))
     go_wp2
     go_ret
     rw[FIN.v,HBX.v];exact⟨rfl,(SQ.v _).2.1⟩
   .have FIN:Hid (Mo.ij F x=11):=hJ (by rw[PE.v,aI (λh=>k2 h.1)]);have k2':((kd:Int) !=2)=true:=by simp;omega
    have k2'':¬(kd:Int)=2:=bu
    go_wp2_with fail
    go_quiet ((go_at_call 284;exact Calls.quiet_of_same (TT.v _)))
    go_wp2
    go_ret
    rw[FIN.v,HBX.v];exact⟨rfl,(SQ.v _).2.1⟩
  .have FIN:Hid (Mo.ij F x=Tr.cA F x.2/\bG (Tr.cA F x.2)=aq 100 (aa az (Tr.cA F x.2))):=hJ ⟨by rw[PE.v,aJ e0],bC e0⟩;rw[<-HEV.v,FIN.2];go_wp2
   go_ret
   rw[FIN.1,FIN.2,HBX.v];exact⟨rfl,S2.2.1⟩
def BV(b f:Nat)(v:Value):Nat->Prop:=λk=>k=b\/k=f\/v.ownBlock=bh k
theorem bP.Od{w:bD}{UE b f:Nat}{T:Tb}{v:Value}(h:bP w UE b f T v):∀g,v.ownBlock=bh g->g≠b:=h.row.Oc h.cU bA
theorem bP.CZ{w:bD}{UE b f:Nat}{T:Tb}{v v':Value}{L:List Mt}(h:w.heap[b]? =bh (bg #[ai (bh ⟨f,0,bj⟩),aa az T.rt.1,aa az T.rt.2,v] 229 (0,0)))(r:fj w UE L v')(h6:L.length<=6)(hn:∀g,v'.ownBlock=bh g->g≠b):bP (w.setCell ⟨b,3,bj⟩ v') UE b f ⟨T.rt,L⟩ v':=
 ⟨cE h 3 _,r.same (λg e=>dJ _ _ _ _ (hn g e)),h6⟩
theorem Ib(UE b f K:Nat)(T:Tb)(v:Value)(F:Fo)(x:Wh)(w:bD)(h:bP w UE b f T v)(hF:bN w f F)(hb:Tr.Hb F K)(hK:K<800):
  Calls prog 212 #[ai (bh ⟨b,0,bj⟩),au #[aa az x.1,aa az x.2]] w λe w'=>∃(E:Int) (T':Tb) (F':Fo) (v':Value),e=bf (bG E)/\Mo.AK F T x E T' F'/\bP w' UE b f T' v'/\bN w' f F'/\dF (BV b f v) w w'/\v'.ownBlock=v.ownBlock:=by
 have HT:=hJ (aK h hF);have HB:=hJ hb;go_in
 go_upto_region 1 with fail
 refine cG (λW'=>WB W' w.heap.size x/\Below w.heap.size w W') ⟨heap_alloc_new w _,(aQ _ _).alloc (aL _) _⟩ ?_;rintro W1 ⟨x1,b1⟩;have c0:=x1.c0;have c1:=x1.c1;have S1:Hid (bP W1 UE b f T v/\bN W1 f F/\dF (BV b f v) w W1):=hJ ⟨HT.1.below b1,HT.2.below b1,dF.cC b1⟩;generalize w.heap.size=bx at*;go_wp2_with fail
 refine(qY UE b f T v x _ S1.1).mono ?_;rintro e W2 ⟨z,rfl,hz,b2⟩;have S2:Hid (bP W2 UE b f T v/\bN W2 f F/\dF (BV b f v) w W2):=hJ ⟨S1.1.below b2,S1.2.1.below b2,S1.2.2.trans (dF.cC b2)⟩;have HZ:=hJ hz;rcases hz.find with⟨i,rfl,il,m,hm,hl⟩|⟨rfl,hl⟩
 .have i0:¬(i:Int)<0:=bu
  obtain⟨M,hM⟩:∃M,T.ms.length=M+1:=⟨T.ms.length-1,bu⟩;have HM:=hJ (aK hM hm);have M5:M<=5:=by have:=S2.1.rJ;omega
  have iM:i<=M:=bu
  rcases S2.1.row.form with⟨_,e⟩|⟨g,cap,hv,_,_,_⟩
  .rw[e]at il;simp at il
  .rw[hM]at hv;have HV:=hJ hv;have r:=S2.1.row;rw[hv]at r;have c3:=S2.1.c3;rw[hv]at c3;have d0:W2.cell? ⟨g,i*4,bj⟩=bh (aa az m.1.1):=r.cell i 0 m hm bu;have d1:W2.cell? ⟨g,i*4+1,bj⟩=bh (aa az m.1.2):=r.cell i 1 m hm bu;have d2:W2.cell? ⟨g,i*4+2,bj⟩=bh (aa az m.2.1):=r.cell i 2 m hm bu;have d3:W2.cell? ⟨g,i*4+3,bj⟩=bh (aa az m.2.2):=r.cell i 3 m hm bu;have iI:(i:Int)<(M:Int)+1:=bu
   go_wp2_with fail
   refine(tR UE b f K T v F m _ S2.1 S2.2.1 HB.v bu).mono ?_;rintro e W3 ⟨rfl,f3,k3⟩;have S3:Hid (bP W3 UE b f T v/\bN W3 f (Mo.iG F m)/\dF (BV b f v) w W3):=hJ ⟨S2.1.jE S2.2.1 k3,f3,S2.2.2.trans (dF.jW k3 (.inr (.inl rfl)))⟩;have c3:=S3.1.c3;rw[HV.v]at c3;have hw:IntKind.i64.wrap ((i:Int)+1)=(i:Int)+1:=aN _ ⟨by omega,bu⟩;go_wp2_with fail
   refine(D1 UE g cap i M T.ms _ (by have:=S3.1.row;rw[HV.v]at this;exact this) HM.1 iM M5).mono ?_;rintro e W4 ⟨rfl,r4,k4⟩;have gb:g≠b:=S3.1.Od g (by rw[HV.v];rfl);have gf:g≠f:=(S3.1.ne S3.2.1).2 g (by rw[HV.v];rfl);have B4:W4.heap[b]? =bh (bg #[ai (bh ⟨f,0,bj⟩),aa az T.rt.1,aa az T.rt.2,v] 229 (0,0)):=(k4.block b S3.1.lt (bQ gb)).trans S3.1.cU;have FIN:Hid (bP (W4.setCell ⟨b,3,bj⟩ (aj (bh ⟨g,0,bj⟩) M cap)) UE b f ⟨T.rt,T.ms.eraseIdx i⟩ (aj (bh ⟨g,0,bj⟩) M cap)/\bN (W4.setCell ⟨b,3,bj⟩ (aj (bh ⟨g,0,bj⟩) M cap)) f (Mo.iG F m)/\dF (BV b f v) w (W4.setCell ⟨b,3,bj⟩ (aj (bh ⟨g,0,bj⟩) M cap))):=hJ ⟨bP.CZ B4 r4 (by rw[List.length_eraseIdx_of_lt (by have:=HM.1;omega)];have:=HM.1;omega) (λg' e=>by cases e;exact gb),
    (S3.2.1.same (k4.block f S3.2.1.lt (bQ gf))).same (dJ _ _ _ _ (bQ (S3.1.ne S3.2.1).1)),
    (S3.2.2.trans (dF.jW k4 (.inr (.inr (by rw[HV.v];rfl))))).setCell (.inl rfl) _ _⟩
   have U:Hid (Mo.AK F T x 0 ⟨T.rt,T.ms.eraseIdx i⟩ (Mo.iG F m)):=hJ (.inl ⟨i,HZ.v,m,HM.2,rfl,rfl,rfl⟩);have e3:W4.cell? ⟨b,3,bj⟩=bh (aj (bh ⟨g,0,bj⟩) (M+1) cap):=by rw[bO B4,<-HV.v];rfl
   have ef:W4.frozen? ⟨b,3,bj⟩=false:=cv B4 3;go_wp2
   go_ret
   exact⟨0,_,_,_,rfl,U.v,FIN.1,FIN.2.1,FIN.2.2,by rw[HV.v];rfl⟩
 .have FIN:Hid (Mo.AK F T x 2 T F):=hJ (.inr ⟨HZ.v,rfl,rfl,rfl⟩);go_wp2
  go_ret
  exact⟨2,T,F,v,rfl,FIN.v,S2.1,S2.2.1,S2.2.2,rfl⟩
def xh(w:bD)(c:Nat)(x y:Wh):Prop:=w.heap[c]? =bh (bg #[aa az x.1,aa az x.2,aa az y.1,aa az y.2] 224 (0,0))
theorem xh.lt{w:bD}{c:Nat}{x y:Wh}(h:xh w c x y):c<w.heap.size:=(aX.1 h).1
theorem xh.below{w w':bD}{c:Nat}{x y:Wh}(h:xh w c x y)(k:Below w.heap.size w w'):xh w' c x y:=(k.block c h.lt).trans h
def Nw(w:bD)(v v':Value):Prop:=v'.ownBlock=v.ownBlock\/∀g,v'.ownBlock=bh g->w.heap.size<=g
theorem La(UE b f K:Nat)(T:Mo.Tb)(v:Value)(F:Fo)(x y:Wh)(w:bD)(h:bP w UE b f T v)(hF:bN w f F)(hb:Tr.Hb F K)(hK:K<800)(hbs:UE<=w.heap.size):
  Calls prog 211 #[ai (bh ⟨b,0,bj⟩),au #[aa az x.1,aa az x.2],au #[aa az y.1,aa az y.2]] w λe w'=>∃v',e=bf (bG (Mo.kL F T x y))/\bP w' UE b f (Mo.yP F T x y) v'/\bN w' f (Mo.yO F T x y)/\dF (BV b f v) w w'/\Nw w v v':=by
 have HT:=hJ (aK h hF);have HB:=hJ (aK hb hbs);clear h hF hb hbs;obtain⟨i0,z0,hi0,hz0,hz1,hz2,hz3⟩:=BP;have B2:Hid (WB ((w.alloc (bg #[aa az x.1,aa az x.2] 224)).alloc (bg #[aa az y.1,aa az y.2] 224)) w.heap.size x/\WB ((w.alloc (bg #[aa az x.1,aa az x.2] 224)).alloc (bg #[aa az y.1,aa az y.2] 224)) (w.heap.size+1) y/\Below w.heap.size w ((w.alloc (bg #[aa az x.1,aa az x.2] 224)).alloc (bg #[aa az y.1,aa az y.2] 224))):=hJ (by
  refine⟨?_,?_,((aQ _ w).alloc (aL _) _).alloc (by simp) _⟩
  .show((w.heap.push _).push _)[w.heap.size]? =_;simp only[bJ,Array.size_push];rw[nJ,aJ trivial]
  .show((w.heap.push _).push _)[w.heap.size+1]? =_;simp only[bJ,Array.size_push];rw[aJ trivial])
 go_in
 go_upto_region 1 with fail
 refine cG (λW'=>WB W' w.heap.size x/\WB W' (w.heap.size+1) y/\Below w.heap.size w W') B2.v ?_;intro W1 h1;obtain⟨bx,hbx⟩:=hU (w.heap.size);have HBX:=hJ hbx;have LE:Hid (∀W,Below bx w W->bx<=W.heap.size/\bP W UE b f T v/\bN W f F):=hJ (λW h=>by
  have e:=h.size;subst hbx;exact⟨e,HT.1.below h,HT.2.below h⟩)
 rw[hbx]at h1|-;have S1:=hJ h1;clear h1 B2 hbx;have x0:=S1.1.c0;have x1:=S1.1.c1;have y0:=S1.2.1.c0;have y1:=S1.2.1.c1;have A2:Hid (WB (W1.alloc (bg #[aa az x.1,aa az x.2,aa az y.1,aa az y.2] 224)) bx x/\WB (W1.alloc (bg #[aa az x.1,aa az x.2,aa az y.1,aa az y.2] 224)) (bx+1) y/\xh (W1.alloc (bg #[aa az x.1,aa az x.2,aa az y.1,aa az y.2] 224)) W1.heap.size x y/\Below bx w (W1.alloc (bg #[aa az x.1,aa az x.2,aa az y.1,aa az y.2] 224))):=hJ (by
  have bb:Below W1.heap.size W1 (W1.alloc (bg #[aa az x.1,aa az x.2,aa az y.1,aa az y.2] 224)):=(aQ _ _).alloc (aL _) _;exact⟨S1.1.below bb,S1.2.1.below bb,heap_alloc_new W1 _,S1.2.2.trans (bb.mono (LE.v _ S1.2.2).1)⟩)
 go_wp2_with fail
 generalize W1.alloc (bg #[aa az x.1,aa az x.2,aa az y.1,aa az y.2] 224)=W2 at*;generalize W1.heap.size=sx at*;clear x0 x1 y0 y1 S1;go_loopw [8,9,15] (λ_ _ i wr=>∃j:Nat,i=aa az j/\j<=2/\Hid (WB wr bx x/\WB wr (bx+1) y/\xh wr sx x y/\Below bx w wr/\(0<j->Mo.ij F x=0)/\(1<j->Mo.ij F y=0))) (λ_ _ i _=>2-(intOf i).toNat)
 case atStart=>exact⟨0,rfl,bu,hJ ⟨A2.1,A2.2.1,A2.2.2.1,A2.2.2.2,λh=>aZ h bu,λh=>aZ h bu⟩⟩
 case round=>
  clear A2;obtain⟨j,rfl,hj,S⟩:=hrel;by_cases hlt:j<2
  .have hltI:(j:Int)<2:=bu
   have STEP:Hid (∀q:Wh,(j=0->q=x)->(j=1->q=y)->True):=hJ (λ_ _ _=>trivial);obtain⟨q,hq0,hq1,cq0,cq1⟩:∃q:Wh,(j=0->q=x)/\(j=1->q=y)/\wr.cell? ⟨sx,j*2,bj⟩=bh (aa az q.1)/\wr.cell? ⟨sx,j*2+1,bj⟩=bh (aa az q.2):=by
    have p:=S.2.2.1;rcases(show j=0\/j=1 by omega)with rfl|rfl
    .exact⟨x,λ_=>rfl,λh=>bu,cH p 0 _ rfl,cH p 1 _ rfl⟩
    .exact⟨y,λh=>bu,λ_=>rfl,cH p 2 _ rfl,cH p 3 _ rfl⟩
   have HQ:=hJ (aK hq0 hq1);clear hq0 hq1 STEP;go_upto_region 4 with fail
   refine cG (λW'=>WB W' wr.heap.size q/\Below wr.heap.size wr W') ⟨heap_alloc_new wr _,(aQ _ _).alloc (aL _) _⟩ ?_;rintro W3 ⟨q3,b3⟩;have S3:Hid (WB W3 bx x/\WB W3 (bx+1) y/\xh W3 sx x y/\Below bx w W3):=hJ ⟨S.1.below b3,S.2.1.below b3,S.2.2.1.below b3,S.2.2.2.1.trans (b3.mono (LE.v _ S.2.2.2.1).1)⟩;have n0:=q3.c0;have n1:=q3.c1;clear q3 b3 cq0 cq1;generalize wr.heap.size=qx at*;go_wp2_with fail
   refine sC (jw UE b f T v F q _ (LE.v _ S3.2.2.2).2.1 (LE.v _ S3.2.2.2).2.2) ?_;rintro W4 b4;have S4:Hid (WB W4 bx x/\WB W4 (bx+1) y/\xh W4 sx x y/\Below bx w W4):=hJ ⟨S3.1.below b4,S3.2.1.below b4,S3.2.2.1.below b4,S3.2.2.2.trans (b4.mono (LE.v _ S3.2.2.2).1)⟩;clear b4 n0 n1 S3;by_cases e0:Mo.ij F q=0
   .have NX:Hid ((0<j+1->Mo.ij F x=0)/\(1<j+1->Mo.ij F y=0)):=hJ (by
     rcases(show j=0\/j=1 by omega)with rfl|rfl
     .exact⟨λ_=>by rw[<-HQ.1 rfl];exact e0,λh=>bu⟩
     .exact⟨λ_=>S.2.2.2.2.1 bu,λ_=>by rw[<-HQ.2 rfl];exact e0⟩)
    rw[e0,bB];clear e0;go_wp2
    go_roundw
    case rel=>exact⟨j+1,by go_num,bu,hJ ⟨S4.1,S4.2.1,S4.2.2.1,S4.2.2.2,NX.v⟩⟩
    case measure=>simp[intOf];omega
   .have FIN:Hid (Mo.kL F T x y=Mo.ij F q/\bG (Mo.ij F q)=aq 100 (aa az (Mo.ij F q))/\Mo.yP F T x y=T/\Mo.yO F T x y=F):=hJ (by
     have e:Mo.kL F T x y=Mo.ij F q:=by
      unfold Mo.kL;rcases(show j=0\/j=1 by omega)with rfl|rfl
      .rw[<-HQ.1 rfl,aJ e0]
      .rw[S.2.2.2.2.1 bu,aI (λd=>d rfl),<-HQ.2 rfl,aJ e0]
     exact⟨e,bC e0,aI (by rw[e];exact e0),aI (by rw[e];exact e0)⟩)
    rw[FIN.2.1];clear e0;go_wp2
    go_ret
    rw[FIN.1,FIN.2.1,FIN.2.2.1,FIN.2.2.2];exact⟨v,rfl,(LE.v _ S4.2.2.2).2.1,(LE.v _ S4.2.2.2).2.2,dF.cC (by rw[HBX.v];exact S4.2.2.2), .inl rfl⟩
  .have hltI:¬(j:Int)<2:=bu
   have WX:Hid (Mo.ij F x=0/\Mo.ij F y=0):=hJ ⟨S.2.2.2.2.1 bu,S.2.2.2.2.2 bu⟩;have x0:=S.1.c0;have x1:=S.1.c1;have y0:=S.2.1.c0;have y1:=S.2.1.c1;have DONE:Hid (∀E:Int,Mo.kL F T x y=E->E≠0->Mo.yP F T x y=T/\Mo.yO F T x y=F):=hJ (λE e n=>⟨aI (by rw[e];exact n),aI (by rw[e];exact n)⟩);have BE:Hid (Mo.kL F T x y=if x=y then 8 else if(Mo.lk T.ms x).isSome=true then 3 else if T.ms.length=6 then 4 else 0):=hJ (by unfold Mo.kL;rw[WX.1,WX.2];simp);by_cases exy:x=y
   .have E8:Hid (Mo.kL F T x y=8):=hJ (by rw[BE.v,aJ exy]);have D8:=hJ (DONE.v 8 E8.v bA);have y0':wr.cell? ⟨bx+1,0,bj⟩=bh (aa az x.1):=by rw[exy];exact y0
    have y1':wr.cell? ⟨bx+1,1,bj⟩=bh (aa az x.2):=by rw[exy];exact y1
    clear y0 y1 exy;go_wp2
    go_ret
    rw[E8.v,D8.1,D8.2];exact⟨rfl,v,(LE.v _ S.2.2.2.1).2.1,(LE.v _ S.2.2.2.1).2.2,dF.cC (by rw[HBX.v];exact S.2.2.2.1), .inl rfl⟩
   .rw[aI exy]at BE;go_upto_region 8 with fail
    go_cut [26]from 27 to 29 (λs wx=>s=ar false/\wx=wr)
    case first=>
     by_cases e1:x.1=y.1
     .have e2:¬x.2=y.2:=λe2=>exy (Prod.ext e1 e2);have e2':(x.2==y.2)=false:=by simpa using e2
      have y0':wr.cell? ⟨bx+1,0,bj⟩=bh (aa az x.1):=by rw[e1];exact y0
      clear y0 e1;go_wp2
      go_meet
      case rel=>exact⟨rfl,rfl⟩
     .have e1':(x.1==y.1)=false:=by simpa using e1
      go_wp2
      go_meet
      case rel=>exact⟨rfl,rfl⟩
    case rest=>
     obtain⟨rfl,hwc⟩:=hcut;subst hwc;clear y0 y1 exy;go_wp2_with fail
     refine(qY UE b f T v x _ (LE.v _ S.2.2.2.1).2.1).mono ?_;rintro e W3 ⟨z,rfl,hz,b3⟩;have S3:Hid (WB W3 bx x/\WB W3 (bx+1) y/\Below bx w W3):=hJ ⟨S.1.below b3,S.2.1.below b3,S.2.2.2.1.trans (b3.mono (LE.v _ S.2.2.2.1).1)⟩;clear b3 x0 x1 S;rcases hz.find with⟨i,rfl,il,m,hm,hl⟩|⟨rfl,hl⟩
     .have E3:Hid (Mo.kL F T x y=3):=hJ (by rw[BE.v,hl];rfl);have D3:=hJ (DONE.v 3 E3.v bA);have i0:(0:Int)<=(i:Int):=bu
      clear hz hl hm il;go_wp2
      go_ret
      rw[E3.v,D3.1,D3.2]
      first
       |exact⟨v,rfl,(LE.v _ S3.2.2).2.1,(LE.v _ S3.2.2).2.2,dF.cC (by rw[HBX.v];exact S3.2.2), .inl rfl⟩
       |exact⟨rfl,v,(LE.v _ S3.2.2).2.1,(LE.v _ S3.2.2).2.2,dF.cC (by rw[HBX.v];exact S3.2.2), .inl rfl⟩
     .rw[hl,Option.isSome_none,aI bA]at BE;clear hz hl;have T3:=hJ (LE.v _ S3.2.2).2;obtain⟨va,vc,hv⟩:=T3.1.row.sl;have HV:=hJ hv;have c3:=T3.1.c3;rw[hv]at c3;obtain⟨N,hN⟩:=hU (T.ms.length);have HN:=hJ hN;have N6:N<=6:=by have:=T3.1.rJ;omega
      rw[hN]at c3 BE;clear hv hN;by_cases n6:N=6
      .have E4:Hid (Mo.kL F T x y=4):=hJ (by rw[BE.v,aJ n6]);have D4:=hJ (DONE.v 4 E4.v bA);have n6':((N:Int)==6)=true:=by simp;omega
       clear n6;go_wp2
       go_ret
       rw[E4.v,D4.1,D4.2]
       first
        |exact⟨v,rfl,T3.1,T3.2,dF.cC (by rw[HBX.v];exact S3.2.2), .inl rfl⟩
        |exact⟨rfl,v,T3.1,T3.2,dF.cC (by rw[HBX.v];exact S3.2.2), .inl rfl⟩
      .have E0:Hid (Mo.kL F T x y=0/\Mo.yP F T x y=⟨T.rt,T.ms++[(x,y)]⟩/\Mo.yO F T x y=Mo.ml F (x,y)):=hJ (by
        have e:Mo.kL F T x y=0:=by rw[BE.v,aI n6]
        exact⟨e,aJ e,aJ e⟩)
       have n6':((N:Int)==6)=false:=by simp;omega
       have N5:N<=5:=bu
       have x0:=S3.1.c0;have x1:=S3.1.c1;have y0:=S3.2.1.c0;have y1:=S3.2.1.c1;clear n6 BE DONE;go_upto_region 15 with fail
       refine cG (λW'=>MB W' W3.heap.size (x,y)/\Below W3.heap.size W3 W') ⟨heap_alloc_new W3 _,(aQ _ _).alloc (aL _) _⟩ ?_;rintro W4 ⟨m4,b4⟩;have S4:Hid (MB W4 W3.heap.size (x,y)/\Below bx w W4/\bP W4 UE b f T v/\bN W4 f F):=hJ (by
        have bb:=S3.2.2.trans (b4.mono (LE.v _ S3.2.2).1);exact⟨m4,bb,(LE.v _ bb).2⟩)
       have GL:Hid ((∀g,v.ownBlock=bh g->g<W3.heap.size)/\W3.heap.size<W4.heap.size):=hJ ⟨λg e=>(T3.1.row.lt g e).2,m4.lt⟩;clear m4 b4 c3 x0 x1 y0 y1 T3 S3;generalize W3.heap.size=mx at*;have m0:W4.cell? ⟨mx,0,bj⟩=bh (aa az x.1):=S4.1.c0;have m1:W4.cell? ⟨mx,1,bj⟩=bh (aa az x.2):=S4.1.c1;have m2:W4.cell? ⟨mx,2,bj⟩=bh (aa az y.1):=S4.1.c2;have m3:W4.cell? ⟨mx,3,bj⟩=bh (aa az y.2):=S4.1.c3;have c3:=S4.2.2.1.c3;rw[HV.v,HN.v]at c3;have lb:=S4.2.2.1.lt;have nbb:b≠W4.heap.size:=bu
       have OWN:Hid ((W4.alloc (bg #[aa az x.1,aa az x.2,aa az y.1,aa az y.2] 273)).drew.ownsRow UE 273 4 (aj va N vc) N (Mo.fw T.ms)):=hJ (by
        have r:=S4.2.2.1.row;unfold fj at r;rw[HV.v,HN.v]at r;exact r.alloc _)
       have NEWS:Hid (∀j u,[aa az x.1,aa az x.2,aa az y.1,aa az y.2][j]? =bh u->(W4.alloc (bg #[aa az x.1,aa az x.2,aa az y.1,aa az y.2] 273)).drew.cell? ((⟨W4.heap.size,0,bj⟩:Addr).add j)=bh u):=hJ (World.news_of_block (w:=(W4.alloc (bg #[aa az x.1,aa az x.2,aa az y.1,aa az y.2] 273)).drew) (heap_alloc_new W4 (bg #[aa az x.1,aa az x.2,aa az y.1,aa az y.2] 273)));have BASE:Hid (UE<=W4.heap.size):=hJ (by have h1:=(LE.v _ S4.2.1).1;have h2:=HB.2;have h3:=HBX.v;omega);have AFT:Hid (∀g2 cap2 W5,W5.ownsRow UE 273 4 (aj (bh ⟨g2,0,bj⟩) (N+1) cap2) (N+1) (Mo.fw T.ms++[aa az x.1,aa az x.2,aa az y.1,aa az y.2])->(W4.alloc (bg #[aa az x.1,aa az x.2,aa az y.1,aa az y.2] 273)).drew.grownBy W5 (aj va N vc).ownBlock->((aj va N vc).ownBlock=bh g2\/g2=W4.heap.size+1)->
         W5.cell? ⟨b,3,bj⟩=bh (aj va N vc)/\W5.frozen? ⟨b,3,bj⟩=false/\MB (W5.setCell ⟨b,3,bj⟩ (aj (bh ⟨g2,0,bj⟩) (N+1) cap2)) mx (x,y)/\bP (W5.setCell ⟨b,3,bj⟩ (aj (bh ⟨g2,0,bj⟩) (N+1) cap2)) UE b f ⟨T.rt,T.ms++[(x,y)]⟩ (aj (bh ⟨g2,0,bj⟩) (N+1) cap2)/\bN (W5.setCell ⟨b,3,bj⟩ (aj (bh ⟨g2,0,bj⟩) (N+1) cap2)) f F/\dF (BV b f v) w (W5.setCell ⟨b,3,bj⟩ (aj (bh ⟨g2,0,bj⟩) (N+1) cap2))/\Nw w v (aj (bh ⟨g2,0,bj⟩) (N+1) cap2)):=hJ (λg2 cap2 W5 ho hg ha=>by
        have lt:=S4.2.2.1.lt;have gne:=S4.2.2.1.Od;have fne:=S4.2.2.1.ne S4.2.2.2;rw[HV.v,HN.v]at gne fne;have al:∀k,k<W4.heap.size->(W4.alloc (bg #[aa az x.1,aa az x.2,aa az y.1,aa az y.2] 273)).heap[k]? =W4.heap[k]? :=λk hk=>((aQ W4.heap.size W4).alloc (aL _) _).block k hk;have bk:∀k,k<W4.heap.size->(∀g,(aj va N vc).ownBlock=bh g->g≠k)->W5.heap[k]? =W4.heap[k]? :=λk hk hn=>(hg.block k (by show k<(W4.alloc _).heap.size;simp;omega) (λe=>hn k e.symm rfl)).trans (al k hk);have B5:=(bk b lt gne).trans S4.2.2.1.cU;have g2b:g2≠b:=by
         rcases ha with e|e
         .exact gne g2 e
         .omega
        have MBne:mx≠b:=tq S4.1 S4.2.2.1.cU bA;have O5:dF (BV b f v) w W5:=by
         have o4:dF (BV b f v) w W4:=dF.cC (by rw[HBX.v];exact S4.2.1);refine o4.trans ⟨hg.os,hg.tape,hg.output,aH (by simp) hg.size,λk hk hn=>bk k hk (λg e h=>?_)⟩;subst h;exact hn (.inr (.inr (by rw[HV.v,HN.v];exact e)))
        refine⟨by rw[bO B5];show bh v=_;rw[HV.v,HN.v],cv B5 3,?_,bP.CZ B5 ?_ ?_ (λg' e=>by cases e;exact g2b),(S4.2.2.2.same (bk f S4.2.2.2.lt fne.2)).same (dJ _ _ _ _ (bQ fne.1)),O5.setCell (.inl rfl) _ _,?_⟩
        .exact(dJ _ _ _ _ MBne).trans ((bk mx S4.1.lt (λg e=>by have:=GL.1 g (by rw[HV.v,HN.v];exact e);omega)).trans S4.1)
        .unfold fj;rw[Mo.EY,Mo.Py,List.length_append,List.length_singleton,HN.v];exact ho
        .rw[List.length_append,List.length_singleton,HN.v];omega
        .rcases ha with e|e
         .exact .inl (by rw[HV.v,HN.v];exact e.symm)
         .exact .inr (λg' e'=>by
          cases e';show w.heap.size<=g2;have h1:=(LE.v _ S4.2.1).1;have h2:=HBX.v;omega))
       go_region_law (refine step_append_lies _ rfl (.tmp 52) (.tmp 54) 227 rfl UE 273 i0 z0 4 32 Tryz.underlying227 hi0 hz0 hz1 hz2 hz3 bA (aj va N vc) N (Mo.fw T.ms) (by simp[Act.eval]) OWN.v ⟨W4.heap.size,0,bj⟩ 1 1 [aa az x.1,aa az x.2,aa az y.1,aa az y.2] (by simp[Act.eval]) rfl NEWS.v (by simp[Value.oneCell']) bA (by unfold maxLen;omega) bu (by have:=BASE.v;simp;omega) (W4.heap.size+1) (by simp) ?_;intro g2 cap2 W5 hown hgrow hat hlt2;obtain⟨e3,ef,A5⟩:=AFT.v g2 cap2 W5 hown hgrow hat;have Q5:=hJ A5;clear A5 hown hgrow hat hlt2)
       all_goals
        generalize W5.setCell ⟨b,3,bj⟩ (aj (bh ⟨g2,0,bj⟩) (N+1) cap2)=W6 at*;have m0:=Q5.1.c0;have m1:=Q5.1.c1;have m2:=Q5.1.c2;have m3:=Q5.1.c3;go_wp2_with fail
        refine sC (sZ UE b f K ⟨T.rt,T.ms++[(x,y)]⟩ _ F (x,y) _ Q5.2.1 Q5.2.2.1 HB.1 bu) ?_;rintro W7 ⟨f7,k7⟩;have FIN:Hid (bP W7 UE b f ⟨T.rt,T.ms++[(x,y)]⟩ (aj (bh ⟨g2,0,bj⟩) (N+1) cap2)/\bN W7 f (Mo.ml F (x,y))/\dF (BV b f v) w W7/\Nw w v (aj (bh ⟨g2,0,bj⟩) (N+1) cap2)):=hJ ⟨Q5.2.1.jE Q5.2.2.1 k7,f7,Q5.2.2.2.1.trans (dF.jW k7 (.inr (.inl rfl))),Q5.2.2.2.2⟩;clear f7 k7 m0 m1 m2 m3;go_wp2
        go_ret
        rw[E0.1,E0.2.1,E0.2.2]
        first
         |exact⟨_,rfl,FIN.v⟩
         |exact⟨rfl,_,FIN.v⟩
namespace Mo
def gG(z:Int)(n:Nat):Nat:=if z=(n:Int)then 1 else 0
theorem qH(n:Nat):gG (n:Int) n=1:=aJ rfl
theorem zj{z:Int}{n:Nat}(h:z≠(n:Int)):gG z n=0:=aI h
theorem ze(z:Int)(n:Nat):gG z n<=1:=by unfold gG;split<;>omega
def mc(L:List Mt)(n:Nat):Nat:=(L.map λm=>gG m.1.2 n+gG m.2.2 n).sum
def tc(T:Tb)(n:Nat):Nat:=gG T.rt.2 n+mc T.ms n
theorem tX(n:Nat):mc [] n=0:=rfl
theorem mw(m:Mt)(L:List Mt)(n:Nat):mc (m::L) n=gG m.1.2 n+gG m.2.2 n+mc L n:=by simp[mc]
theorem Rr(L M:List Mt)(n:Nat):mc (L++M) n=mc L n+mc M n:=by simp[mc]
theorem Sy(L:List Mt)(n:Nat):mc L n<=2*L.length:=by
 induction L with
 |nil=>simp[mc]
 |cons m L ih=>
  rw[mw,List.length_cons];have:=ze m.1.2 n;have:=ze m.2.2 n;omega
theorem My{L:List Mt}{i:Nat}{m:Mt}(h:L[i]? =bh m)(n:Nat):mc L n=gG m.1.2 n+gG m.2.2 n+mc (L.eraseIdx i) n:=by
 induction L generalizing i with
 |nil=>simp at h
 |cons x L ih=>
  cases i with
  |zero=>
   simp only[List.getElem?_cons_zero,Option.some.injEq]at h;subst h;rw[mw];rfl
  |succ i=>
   rw[List.getElem?_cons_succ]at h;rw[mw,ih h,List.eraseIdx_cons_succ,mw];omega
structure HI (F:Fo)(f:Nat->Nat):Prop where
 hd:∀n,n<40->(F.nd n).held=f n
 lv:∀n,n<40->0<f n->(F.nd n).kind≠0
def vJ(z:Int):Prop:=∃n:Nat,z=n/\n<40
theorem HI.congr{F:Fo}{f g:Nat->Nat}(h:HI F f)(e:∀n,n<40->f n=g n):HI F g:=⟨λn hn=>(h.hd n hn).trans (e n hn),λn hn h0=>h.lv n hn (by rw[e n hn];exact h0)⟩
theorem HI.dB{F:Fo}{f:Nat->Nat}(h:HI F f){z:Int}(hz:Tr.cA F z=0):HI (Tr.dB F z) (λn=>f n+gG z n):=by
 obtain⟨k,rfl,k40,kk⟩:=Tr.gO hz;unfold Tr.dB;rw[aJ hz,hZ];refine⟨λn hn=>?_,λn hn h0=>?_⟩
 .by_cases e:n=k
  .subst e;rw[Tr.bF,qH];show(F.nd n).held+1=_;rw[h.hd n hn]
  .rw[Tr.bM _ _ _ _ e,zj bu];exact h.hd n hn
 .by_cases e:n=k
  .subst e;rw[Tr.bF];exact kk
  .rw[Tr.bM _ _ _ _ e];rw[zj bu]at h0;exact h.lv n hn h0
theorem wL(F:Fo)(k n:Nat):((Tr.lB F k).nd n).held=(F.nd n).held:=by
 unfold Tr.lB;split
 .rename_i c;by_cases e:n=k
  .subst e;rw[Tr.bF];exact c.2.symm
  .rw[Tr.bM _ _ _ _ e]
 .rfl
theorem Dc(F:Fo)(k n:Nat)(h:0<(F.nd n).held):((Tr.lB F k).nd n).kind=(F.nd n).kind:=by
 unfold Tr.lB;split
 .rename_i c;by_cases e:n=k
  .subst e;omega
  .rw[Tr.bM _ _ _ _ e]
 .rfl
theorem HI.dq{F:Fo}{f:Nat->Nat}{z:Int}(h:HI F (λn=>f n+gG z n))(hz:vJ z):HI (Tr.dq F z) f:=by
 obtain⟨k,rfl,k40⟩:=hz;have hk:=h.hd k k40;rw[qH]at hk;have e0:Tr.letE F (k:Int)=0:=by
  unfold Tr.letE;have:Tr.cA F (k:Int)=0:=by
   unfold Tr.cA;rw[nJ,hZ,aI (h.lv k k40 (by rw[qH];omega))]
  rw[aJ this,hZ,nJ]
 unfold Tr.dq;rw[aJ e0,hZ];have hd:∀n,n<40->((F.put k {F.nd k with held:=(F.nd k).held-1}).nd n).held=f n:=λn hn=>by
  by_cases e:n=k
  .subst e;rw[Tr.bF];show(F.nd n).held-1=f n;omega
  .rw[Tr.bM _ _ _ _ e,h.hd n hn,zj bu];rfl
 refine⟨λn hn=>by rw[wL];exact hd n hn,λn hn h0=>?_⟩;rw[Dc _ _ _ (by rw[hd n hn];exact h0)];by_cases e:n=k
 .subst e;rw[Tr.bF];exact h.lv n hn bu
 .rw[Tr.bM _ _ _ _ e];exact h.lv n hn bu
def Rg(T:Tb):Prop:=vJ T.rt.2/\∀m∈T.ms,vJ m.1.2/\vJ m.2.2
theorem I3{F:Fo}{f:Nat->Nat}{m:Mt}(h:HI F f)(h1:Tr.cA F m.1.2=0)(h2:Tr.cA F m.2.2=0):HI (ml F m) (λn=>f n+gG m.1.2 n+gG m.2.2 n):=by
 have a:=h.dB h1;refine a.dB ?_;obtain⟨k,e,k40,kk⟩:=Tr.gO h2;rw[e];unfold Tr.cA;rw[nJ,hZ,aI];unfold Tr.dB;rw[aJ h1];by_cases c:k=m.1.2.toNat
 .rw[c,Tr.bF];rw[<-c];exact kk
 .rw[Tr.bM _ _ _ _ c];exact kk
theorem Jw{F:Fo}{f:Nat->Nat}{m:Mt}(h:HI F (λn=>f n+gG m.1.2 n+gG m.2.2 n))(h1:vJ m.1.2)(h2:vJ m.2.2):HI (iG F m) f:=
 HI.dq (HI.dq (f:=λn=>f n+gG m.2.2 n) (h.congr (λn _=>bu)) h1) h2
theorem Ju{F:Fo}{f:Nat->Nat}{T:Tb}(h:HI F (λn=>f n+tc T n))(hr:Rg T):HI (kF F T) f:=by
 have a:HI (Tr.dq F T.rt.2) (λn=>f n+mc T.ms n):=HI.dq (h.congr (λn _=>by unfold tc;omega)) hr.1;have b:∀(L:List Mt) (G:Fo),HI G (λn=>f n+mc L n)->(∀m∈L,vJ m.1.2/\vJ m.2.2)->HI (L.foldl iG G) f:=λL=>by
  induction L with
  |nil=>exact λG hG _=>hG.congr (λn _=>by rw[tX];omega)
  |cons m L ih=>
   intro G hG hm;refine ih (iG G m) (Jw (hG.congr (λn _=>by rw[mw];omega)) (hm m (by simp)).1 (hm m (by simp)).2) (λx hx=>hm x (by simp[hx]))
 exact b _ _ a hr.2
theorem mr{F:Fo}{z y:Int}(h:Tr.cA F y=0):Tr.cA (Tr.dB F z) y=0:=by
 obtain⟨k,rfl,k40,kk⟩:=Tr.gO h;unfold Tr.cA;rw[nJ,hZ,aI];unfold Tr.dB;split
 .by_cases c:k=z.toNat
  .rw[c,Tr.bF];rw[<-c];exact kk
  .rw[Tr.bM _ _ _ _ c];exact kk
 .exact kk
theorem Q7{F:Fo}{f:Nat->Nat}{T:Tb}(h:HI F f)(hr:Tr.cA F T.rt.2=0)(hm:∀m∈T.ms,Tr.cA F m.1.2=0/\Tr.cA F m.2.2=0):HI (mO F T) (λn=>f n+tc T n):=by
 have b:∀(L:List Mt) (G:Fo) (g:Nat->Nat),HI G g->(∀m∈L,Tr.cA G m.1.2=0/\Tr.cA G m.2.2=0)->HI (L.foldl ml G) (λn=>g n+mc L n):=λL=>by
  induction L with
  |nil=>exact λG g hG _=>hG.congr (λn _=>by rw[tX];omega)
  |cons m L ih=>
   intro G g hG hm;refine(ih (ml G m) _ (I3 hG (hm m (by simp)).1 (hm m (by simp)).2) (λx hx=>?_)).congr (λn _=>by rw[mw];omega);exact⟨mr (mr (hm x (by simp[hx])).1),mr (mr (hm x (by simp[hx])).2)⟩
 exact(b T.ms _ _ (h.dB hr) (λm hx=>⟨mr (hm m hx).1,mr (hm m hx).2⟩)).congr (λn _=>by unfold tc;omega)
theorem Tc(T:Tb)(h6:T.ms.length<=6)(n:Nat):tc T n<=13:=by
 have:=ze T.rt.2 n;have:=Sy T.ms n;unfold tc;omega
theorem yE{F:Fo}{x:Wh}(h:ij F x=0):Tr.cA F x.2=0:=by
 unfold ij at h;by_cases c:Tr.cA F x.2=0
 .exact c
 .rw[aJ c]at h;exact h
theorem QG{F:Fo}{T:Tb}{x y:Wh}(h:kL F T x y=0):ij F x=0/\ij F y=0/\T.ms.length≠6:=by
 unfold kL at h;by_cases c1:ij F x=0
 .rw[c1,aI (λd=>d rfl)]at h;by_cases c2:ij F y=0
  .rw[c2,aI (λd=>d rfl)]at h;refine⟨c1,c2,λc3=>?_⟩;by_cases c4:x=y
   .rw[aJ c4]at h;omega
   .rw[aI c4]at h;by_cases c5:(lk T.ms x).isSome=true
    .rw[aJ c5]at h;omega
    .rw[aI c5,aJ c3]at h;omega
  .rw[aJ c2]at h;exact aZ h c2
 .rw[aJ c1]at h;exact aZ h c1
theorem wA{F:Fo}{z:Int}(h:Tr.cA F z=0):vJ z:=by
 obtain⟨n,e,hn,_⟩:=Tr.gO h;exact⟨n,e,hn⟩
theorem Jv{F:Fo}{T:Tb}(h:Tr.Ok F):Tr.Ok (kF F T):=by
 have:∀(L:List Mt) (G:Fo),Tr.Ok G->Tr.Ok (L.foldl iG G):=λL=>by
  induction L with
  |nil=>exact λ_ h=>h
  |cons m L ih=>exact λG h=>ih _ ((h.dq _).dq _)
 exact this _ _ (h.dq _)
theorem tU(F:Fo)(z:Int):(Tr.dq F z).root=F.root/\(Tr.dq F z).trees=F.trees:=by
 unfold Tr.dq Tr.lB
 repeat' split
 all_goals exact⟨rfl,rfl⟩
theorem Cf(F:Fo)(T:Tb):(kF F T).root=F.root/\(kF F T).trees=F.trees:=by
 have:∀(L:List Mt) (G:Fo),(L.foldl iG G).root=G.root/\(L.foldl iG G).trees=G.trees:=λL=>by
  induction L with
  |nil=>exact λG=>⟨rfl,rfl⟩
  |cons m L ih=>
   intro G;have a:=ih (iG G m);have b1:=tU G m.1.2;have b2:=tU (Tr.dq G m.1.2) m.2.2;exact⟨a.1.trans (b2.1.trans b1.1),a.2.trans (b2.2.trans b1.2)⟩
 have a:=this T.ms (Tr.dq F T.rt.2);have b:=tU F T.rt.2;exact⟨a.1.trans b.1,a.2.trans b.2⟩
theorem Hp{F:Fo}(h:Tr.Ok F){t:Int}(e0:Tr.ga F t=0):Tr.cA F (Tr.fB F t)=0:=by
 have:0<=t/\t<=3/\t.toNat<F.trees:=by
  unfold Tr.ga at e0;by_cases c:t<0\/3<t
  .rw[aJ c]at e0;omega
  .rw[aI c]at e0;by_cases d:F.trees<=t.toNat
   .rw[aJ d]at e0;omega
   .omega
 have r:=h.rt t.toNat this.2.2;unfold Tr.fB;rw[aJ e0];unfold Tr.cA;rw[nJ,hZ,nJ]
end Mo

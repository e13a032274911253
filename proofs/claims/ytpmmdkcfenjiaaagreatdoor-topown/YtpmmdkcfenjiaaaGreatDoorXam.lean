import Derived.Test.YtpmmdkcfenjiaaaGreatDoorXal
import Derived.Test.YtpmmdkcfenjiaaaGreatDoorXac
import Derived.Test.YtpmmdkcfenjiaaaGreatDoorXad
import Derived.Test.YtpmmdkcfenjiaaaGreatDoorXag
import Derived.Test.YtpmmdkcfenjiaaaGreatDoorXaj
set_option maxRecDepth 1000000
set_option maxHeartbeats 4000000
set_option linter.unusedVariables false
set_option linter.unusedSimpArgs false
namespace Go.Proofs.YtpmmdkcfenjiaaaGreatDoor
open Value renaming int->aa,pointer->ai,slice->aj,string->ak,tuple->ao,iface->aq,bool->ar,agg->au,nilIface->az
open IntKind renaming i64->bf
open Ending renaming returned->bw
open Obj renaming cells->bA
open Option renaming some->bB,none->bC
open Bool renaming true->bE,false->bF
open Tryz (prog)
open Go.RowKit
variable {E z:Int}{VK b c cap g i j n:Nat}{f:Nat->Nat}{v:Value}{w:bD}
theorem Fq(a:Option Addr)(c:Nat)(m:Int)(w:bD):Calls prog 39 #[aj a 0 c,aa bf m] w λe w'=>e=bw (ar bE)/\w'=w:=by
 go_in
 go_wp2_with fail
 go_loopw [5] (λi wr=>i=aa bf 0/\wr=w) (λ_ _=>0)
 case atStart=>exact⟨rfl,rfl⟩
 case round=>
  obtain⟨rfl,rfl⟩:=hrel;go_wp2
  go_ret
  exact⟨rfl,rfl⟩
def zN(ax:Nat->fp)(n:Nat)(m:Int)(v:Value):Prop:=v=ar bF\/(v=ar bE/\∀i,i<n->((ax i).s.size:Int)<=m/\((ax i).t.size:Int)<=m)
theorem Fs(b o n c:Nat)(m:Int)(ax:Nat->fp)(w:bD)(hn:n<=1000)(h:∀i,i<n->∀j,j<8->w.cell? ⟨b,o+i*8+j,bC⟩=bB ((ax i).cell j)):
  Calls prog 39 #[aj (bB ⟨b,o,bC⟩) n c,aa bf m] w λe w'=>∃v,e=bw v/\zN ax n m v/\w'=w:=by
 have H:=hJ h;clear h;go_in
 go_wp2_with fail
 go_loopw [5] (λi wr=>∃j:Nat,i=aa bf j/\j<=n/\Hid (∀i,i<j->((ax i).s.size:Int)<=m/\((ax i).t.size:Int)<=m)/\wr=w) (λi _=>n-(intOf i).toNat)
 case atStart=>exact⟨0,rfl,bG,hJ (λi hi=>bG),rfl⟩
 case round=>
  obtain⟨j,rfl,hj,R,hwr⟩:=hrel;subst wr;by_cases hlt:j<n
  .have hltI:(j:Int)<(n:Int):=bG
   have c6:w.cell? ⟨b,o+j*8+6,bC⟩=bB (ak (ax j).s):=H.v j hlt 6 bG;have c7:w.cell? ⟨b,o+j*8+7,bC⟩=bB (ak (ax j).t):=H.v j hlt 7 bG;have NX:Hid (((ax j).s.size:Int)<=m->((ax j).t.size:Int)<=m->∀i,i<j+1->((ax i).s.size:Int)<=m/\((ax i).t.size:Int)<=m):=hJ (λh1 h2 i hi=>by
    by_cases d:i=j
    .subst d;exact⟨h1,h2⟩
    .exact R.v i bG)
   generalize (ax j).s=s1 at c6 NX;generalize (ax j).t=s2 at c7 NX;by_cases d1:m<(s1.size:Int)
   .go_wp2
    go_ret
    exact⟨_,rfl, .inl rfl,rfl⟩
   .by_cases d2:m<(s2.size:Int)
    .go_wp2
     go_ret
     exact⟨_,rfl, .inl rfl,rfl⟩
    .have N2:=hJ (NX.v bG bG);go_wp2
     go_roundw
     case rel=>exact⟨j+1,by go_num,bG,N2,by first|rfl|trivial⟩
     case measure=>simp[intOf];omega
  .have hltI:¬(j:Int)<(n:Int):=bG
   obtain rfl:j=n:=bG
   go_wp2
   go_ret
   exact⟨_,rfl, .inr ⟨rfl,R.v⟩,rfl⟩
theorem IK(a:Option Addr)(b o n c:Nat)(m:Int)(ax:Nat->fp)(w:bD)(hn:n<=1000)(ha:0<n->a=bB ⟨b,o,bC⟩)(h:∀i,i<n->∀j,j<8->w.cell? ⟨b,o+i*8+j,bC⟩=bB ((ax i).cell j)):
  Calls prog 39 #[aj a n c,aa bf m] w λe w'=>∃v,e=bw v/\zN ax n m v/\w'=w:=by
 by_cases h0:n=0
 .subst h0;refine(Fq a c m w).mono ?_;rintro e w' ⟨rfl,hw⟩;exact⟨_,rfl, .inr ⟨rfl,λi hi=>aZ hi (Nat.not_lt_zero i)⟩,hw⟩
 .rw[ha bG];exact Fs b o n c m ax w hn h
open Tr (Fo Nd)
def Tr.g1:Fo:=Tr.Ao Tr.f0 0
theorem Tr.Lf{T:Nat}{G:Fo}(h:Tr.qY Tr.f0 T E G):T=0/\E=0/\G=Tr.g1:=by
 have f:Tr.gJ Tr.f0 0 0:= .inl ⟨rfl,bG,rfl,λm hm=>bG⟩;rcases h with⟨a,_⟩|⟨_,n,e,hf,hm⟩
 .exact aZ a bM
 .obtain⟨rfl,rfl⟩:=hf.unique f;rcases hm with⟨a,_⟩|⟨_,b,c,d⟩
  .exact aZ rfl a
  .exact⟨b,c,d⟩
theorem Tr.Uo:Tr.Ok Tr.g1:=Tr.Vx.Py (T:=0) (E:=0) (.inr ⟨by decide,0,0, .inl ⟨rfl,bG,rfl,λm hm=>bG⟩, .inr ⟨rfl,rfl,rfl,rfl⟩⟩)
def TL(b:Nat)(L:List bU)(v:Value)(W:bD):Prop:=∃a c,v=aj a L.length c/\(0<L.length->∃g,a=bB ⟨g,0,bC⟩/\g≠b/\g<W.heap.size/\∀i,i<L.length->W.cell? ⟨g,i,bC⟩=bB (ak (L.getD i ⟨#[]⟩)))
theorem TL.mK{L:List bU}{W W':bD}(h:TL b L v W)(f:bO b W W'):TL b L v W':=by
 obtain⟨a,c,e,k⟩:=h;refine⟨a,c,e,λhl=>?_⟩;obtain⟨g,e1,e2,e3,e4⟩:=k hl;exact⟨g,e1,e2,aD e3 f.size,λi hi=>(aV (f.block g e3 e2)).trans (e4 i hi)⟩
theorem SO.tl{u W:bD}{L:List bU}(h:SO u L v W)(hb:b<u.heap.size):TL b L v W:=by
 by_cases hl:0<L.length
 .have ho:=h.own;obtain⟨gg,cap,hv,hgb,hg⟩:=ho.form hl;refine⟨_,cap,hv,λ_=>⟨gg,rfl,bG,hg,λi hi=>?_⟩⟩;rw[hv]at ho;rw[ho.cellAt i bG];simp[zb,hi]
 .obtain⟨a,c,e⟩:=h.form;exact⟨a,c,e,λh=>aZ h hl⟩
theorem Tr.N4{F:Fo}(h:Tr.kV F)(z:Int):(Tr.rR F z).length<=8:=by
 unfold Tr.rR;by_cases c:Tr.cQ F z 2=0
 .rw[aJ c,qJ,Tr.sv];obtain⟨n,rfl,n40,_,k2⟩:=Tr.fE c;rw[hZ];exact h n n40 k2
 .rw[aI c];exact aC _
def Tr.Hb(F:Fo)(k:Nat):Prop:=∀n,n<40->(F.nd n).held<=k
theorem Tr.Hb.mono{F:Fo}{k l:Nat}(h:Tr.Hb F k)(hl:k<=l):Tr.Hb F l:=λn hn=>aH (h n hn) hl
theorem Tr.Hb.put{F:Fo}{k n:Nat}{x:Nd}(h:Tr.Hb F k)(hx:x.held<=k):Tr.Hb (F.put n x) k:=λm hm=>by
 by_cases c:m=n
 .subst c;rw[Tr.bR];exact hx
 .rw[Tr.cr _ _ _ _ c];exact h m hm
theorem Tr.Hb.mj{F:Fo}{k n:Nat}(h:Tr.Hb F k):Tr.Hb (Tr.mj F n) k:=by
 unfold Tr.mj;split
 .exact h.put (aC _)
 .exact h
theorem Tr.Hb.dO{F:Fo}{k:Nat}(h:Tr.Hb F k)(z:Int):Tr.Hb (Tr.dO F z) (k+1):=by
 unfold Tr.dO;split
 .rename_i c;obtain⟨n,rfl,n40,_⟩:=Tr.ic c;rw[hZ];refine(h.mono (Nat.le_succ k)).put ?_;exact Nat.succ_le_succ (h n n40)
 .exact h.mono (Nat.le_succ k)
theorem Tr.Hb.dF{F:Fo}{k:Nat}(h:Tr.Hb F k)(z:Int):Tr.Hb (Tr.dF F z) k:=by
 unfold Tr.dF;split
 .rename_i c;have c':Tr.cM F z=0:=by
   unfold Tr.letE at c;by_cases d:Tr.cM F z=0
   .exact d
   .rw[aI d]at c;exact c
  obtain⟨n,rfl,n40,_⟩:=Tr.ic c';rw[hZ];refine Tr.Hb.mj (h.put ?_);exact aH (Nat.sub_le _ _) (h n n40)
 .exact h
theorem Tr.Hb.lt{F:Fo}{k:Nat}(h:Tr.Hb F k)(hk:k<1000):∀n,n<40->(F.nd n).held<2^60:=λn hn=>by have:=h n hn;omega
open Mo (Wh Mt)
namespace Mo
def nu(F:Fo)(m:Mt):Fo:=Tr.dO (Tr.dO F m.1.2) m.2.2
def jf(F:Fo)(m:Mt):Fo:=Tr.dF (Tr.dF F m.1.2) m.2.2
def nQ(F:Fo)(T:Mo.Tb):Fo:=T.ms.foldl nu (Tr.dO F T.rt.2)
def lA(F:Fo)(T:Mo.Tb):Fo:=T.ms.foldl jf (Tr.dF F T.rt.2)
theorem Ug{F:Fo}{k:Nat}(h:Tr.Hb F k)(m:Mt):Tr.Hb (nu F m) (k+2):=(h.dO _).dO _
theorem Uh{F:Fo}{k:Nat}(h:Tr.Hb F k)(m:Mt):Tr.Hb (jf F m) (k+2):=((h.dF _).dF _).mono bG
theorem J7:∀(L:List Mt) {F:Fo} {k:Nat},Tr.Hb F k->Tr.Hb (L.foldl nu F) (k+2*L.length)
 |[],_,_,h=>h
 |m::L,_,k,h=>by
  have:=J7 L (Ug h m);grind
theorem J8:∀(L:List Mt) {F:Fo} {k:Nat},Tr.Hb F k->Tr.Hb (L.foldl jf F) (k+2*L.length)
 |[],_,_,h=>h
 |m::L,_,k,h=>by
  have:=J8 L (Uh h m);grind
theorem Sx{F:Fo}{T:Mo.Tb}{k:Nat}(h:Tr.Hb F k):Tr.Hb (lA F T) k:=by
 have:∀(L:List Mt) {G:Fo},Tr.Hb G k->Tr.Hb (L.foldl jf G) k:=λL=>by
  induction L with
  |nil=>exact λh=>h
  |cons m L ih=>exact λh=>ih ((h.dF _).dF _)
 exact this _ (h.dF _)
theorem yG{α β:Type}(f:α->β->α)(L:List β)(j:Nat)(m:β)(a:α)(h:L[j]? =bB m):(L.take (j+1)).foldl f a=f ((L.take j).foldl f a) m:=by
 obtain⟨hl,e⟩:=aY.1 h;rw[List.take_succ_eq_append_getElem hl,List.foldl_append,e];rfl
end Mo
section
variable {w w':bD}{VK b f:Nat}{T:Mo.Tb}{v:Value}{F:Fo}
theorem cC.ne(h:cC w VK b f T v)(hF:cv w f F):b≠f/\∀g,v.ownBlock=bB g->g≠f:=by
 obtain⟨C,hC,_⟩:=hF.dk;exact⟨ur h.dk hC bM,h.row.Pt hC bM⟩
theorem cC.j6(h:cC w VK b f T v)(hF:cv w f F)(k:bO f w w'):cC w' VK b f T v:=
 h.same (k.block b h.lt (h.ne hF).1) (λg e=>k.block g (h.row.lt g e).2 ((h.ne hF).2 g e))
end
def MB(w:bD)(c:Nat)(m:Mt):Prop:=w.heap[c]? =bB (bA #[aa bf m.1.1,aa bf m.1.2,aa bf m.2.1,aa bf m.2.2] 273 (0,0))
section
variable {w w':bD}{c f:Nat}{m:Mt}{F:Fo}
theorem MB.c0(h:MB w c m):w.cell? ⟨c,0,bC⟩=bB (aa bf m.1.1):=by rw[cA h];rfl
theorem MB.c1(h:MB w c m):w.cell? ⟨c,1,bC⟩=bB (aa bf m.1.2):=by rw[cA h];rfl
theorem MB.c2(h:MB w c m):w.cell? ⟨c,2,bC⟩=bB (aa bf m.2.1):=by rw[cA h];rfl
theorem MB.c3(h:MB w c m):w.cell? ⟨c,3,bC⟩=bB (aa bf m.2.2):=by rw[cA h];rfl
theorem MB.lt(h:MB w c m):c<w.heap.size:=(aX.1 h).1
theorem MB.j6(h:MB w c m)(hF:cv w f F)(k:bO f w w'):MB w' c m:=by
 obtain⟨C,hC,_⟩:=hF.dk;exact(k.block c h.lt (ur h hC bM)).trans h
end
theorem tU(VK b f K:Nat)(T:Mo.Tb)(v:Value)(F:Fo)(m:Mt)(w:bD)(h:cC w VK b f T v)(hF:cv w f F)(hb:Tr.Hb F K)(hK:K<900):
  Calls prog 232 #[ai (bB ⟨b,0,bC⟩),au #[aa bf m.1.1,aa bf m.1.2,aa bf m.2.1,aa bf m.2.2]] w λe w'=>e=bw (ao #[])/\cv w' f (Mo.nu F m)/\bO f w w':=by
 have HT:=hJ (aK h hF);have HB:=hJ hb;go_in
 go_upto_region 1 with fail
 refine cR (λW'=>MB W' w.heap.size m/\Below w.heap.size w W') ⟨heap_alloc_new w _,(aQ _ _).alloc (aL _) _⟩ ?_;rintro W1 ⟨m1,b1⟩;have S1:Hid (MB W1 w.heap.size m/\cC W1 VK b f T v/\cv W1 f F/\bO f w W1):=hJ ⟨m1,HT.1.below b1,HT.2.below b1,bO.cO b1⟩;generalize w.heap.size=mx at*;have K0:Hid (W1.cell? ⟨b,0,bC⟩=bB (ai (bB ⟨f,0,bC⟩))/\W1.cell? ⟨mx,1,bC⟩=bB (aa bf m.1.2)):=hJ ⟨S1.2.1.c0,S1.1.c1⟩;have KF:Hid (∀w':bD,bO f W1 w'->w'.cell? ⟨b,0,bC⟩=bB (ai (bB ⟨f,0,bC⟩))/\w'.cell? ⟨mx,1,bC⟩=bB (aa bf m.1.2)):=hJ (λw' k=>⟨(S1.2.1.j6 S1.2.2.1 k).c0,(S1.1.j6 S1.2.2.1 k).c1⟩);go_upto_region 1 with fail
 go_region_held3 (λw'=>w'.cell? ⟨b,0,bC⟩=bB (ai (bB ⟨f,0,bC⟩))/\w'.cell? ⟨mx,1,bC⟩=bB (aa bf m.1.2)) (first|exact K0.v|exact K4.v) ((go_at_call 231;refine sC (rG f m.1.2 F _ S1.2.2.1.drew (HB.lt bG)) ?_;rintro w4 ⟨t4,f4⟩;have f5:bO f W1 w4:=⟨f4.os,f4.tape,f4.output,f4.size,f4.block⟩;have K4:=hJ (KF.v w4 f5);have P4:Hid (cv w4 f (Tr.dO F m.1.2)/\bO f W1 w4):=hJ ⟨t4,f5⟩))
 have S2:Hid (MB w4 mx m/\cC w4 VK b f T v/\cv w4 f (Tr.dO F m.1.2)/\bO f w w4):=hJ ⟨S1.1.j6 S1.2.2.1 P4.2,S1.2.1.j6 S1.2.2.1 P4.2,P4.1,S1.2.2.2.trans P4.2⟩;have HB2:Hid (Tr.Hb (Tr.dO F m.1.2) (K+1)):=hJ (HB.dO _);have K0:Hid (w4.cell? ⟨b,0,bC⟩=bB (ai (bB ⟨f,0,bC⟩))/\w4.cell? ⟨mx,3,bC⟩=bB (aa bf m.2.2)):=hJ ⟨S2.2.1.c0,S2.1.c3⟩;have KF:Hid (∀w':bD,bO f w4 w'->w'.cell? ⟨b,0,bC⟩=bB (ai (bB ⟨f,0,bC⟩))/\w'.cell? ⟨mx,3,bC⟩=bB (aa bf m.2.2)):=hJ (λw' k=>⟨(S2.2.1.j6 S2.2.2.1 k).c0,(S2.1.j6 S2.2.2.1 k).c3⟩);go_upto_region 2 with fail
 go_region_held3 (λw'=>w'.cell? ⟨b,0,bC⟩=bB (ai (bB ⟨f,0,bC⟩))/\w'.cell? ⟨mx,3,bC⟩=bB (aa bf m.2.2)) (first|exact K0.v|exact K5.v) ((go_at_call 231;refine sC (rG f m.2.2 _ _ S2.2.2.1.drew (HB2.lt bG)) ?_;rintro w5 ⟨t5,f4⟩;have f5:bO f w4 w5:=⟨f4.os,f4.tape,f4.output,f4.size,f4.block⟩;have K5:=hJ (KF.v w5 f5);have P5:Hid (cv w5 f (Mo.nu F m)/\bO f w w5):=hJ ⟨t5,S2.2.2.2.trans f5⟩))
 go_wp2_with fail
 go_end0
 exact⟨rfl,P5.v⟩
theorem xh(VK b f K:Nat)(T:Mo.Tb)(v:Value)(F:Fo)(w:bD)(h:cC w VK b f T v)(hF:cv w f F)(hb:Tr.Hb F K)(hK:K<800):
  Calls prog 166 #[ai (bB ⟨b,0,bC⟩)] w λe w'=>e=bw (ao #[])/\cv w' f (Mo.nQ F T)/\bO f w w':=by
 have S1:Hid (cC w VK b f T v/\cv w f F):=hJ ⟨h,hF⟩;have HB:=hJ hb;have h6:=h.sF;obtain⟨va,vc,hv⟩:=h.row.sl;have HV:=hJ hv;have K0:Hid (w.cell? ⟨b,0,bC⟩=bB (ai (bB ⟨f,0,bC⟩))/\w.cell? ⟨b,2,bC⟩=bB (aa bf T.rt.2)):=hJ ⟨S1.1.c0,S1.1.c2⟩;have KF:Hid (∀w':bD,bO f w w'->w'.cell? ⟨b,0,bC⟩=bB (ai (bB ⟨f,0,bC⟩))/\w'.cell? ⟨b,2,bC⟩=bB (aa bf T.rt.2)):=hJ (λw' k=>⟨(S1.1.j6 S1.2 k).c0,(S1.1.j6 S1.2 k).c2⟩);go_in
 go_upto_region 0 with fail
 go_region_held3 (λw'=>w'.cell? ⟨b,0,bC⟩=bB (ai (bB ⟨f,0,bC⟩))/\w'.cell? ⟨b,2,bC⟩=bB (aa bf T.rt.2)) (first|exact K0.v|exact K4.v) ((go_at_call 231;refine sC (rG f T.rt.2 F _ S1.2.drew (HB.lt bG)) ?_;rintro w4 ⟨t4,f4⟩;have f5:bO f w w4:=⟨f4.os,f4.tape,f4.output,f4.size,f4.block⟩;have K4:=hJ (KF.v w4 f5);have P4:Hid (cv w4 f (Tr.dO F T.rt.2)/\bO f w w4):=hJ ⟨t4,f5⟩))
 have HB2:Hid (Tr.Hb (Tr.dO F T.rt.2) (K+1)):=hJ (HB.dO _);have T4:=hJ (S1.1.j6 S1.2 P4.2);have c3:=T4.c3;rw[HV.v]at c3;obtain⟨N,hN⟩:=hU (T.ms.length);have HN:=hJ hN;rw[hN]at c3 h6;go_wp2_with fail
 go_loopw [3,19] (λ_ i wr=>∃(j:Nat),i=aa bf j/\j<=N/\Hid (cv wr f ((T.ms.take j).foldl Mo.nu (Tr.dO F T.rt.2))/\bO f w wr)) (λ_ i _=>N-(intOf i).toNat)
 case atStart=>exact⟨0,rfl,bG,P4⟩
 case round=>
  obtain⟨j,rfl,hj,R⟩:=hrel;by_cases hlt:j<N
  .have hltI:(j:Int)<(N:Int):=bG
   obtain⟨m,hm⟩:∃m,T.ms[j]? =bB m:=⟨T.ms[j]'(by rw[HN.v];exact hlt),aW _⟩;have TW:=hJ (S1.1.j6 S1.2 R.2);rcases TW.row.form with⟨_,e⟩|⟨g,cap,hv,_,_,_⟩
   .rw[e]at hm;simp at hm
   .have r:=TW.row;rw[hv]at r;have hv2:=HV.v;rw[hv]at hv2;rw[HN.v]at hv2;injection hv2 with e1 e2 e3
    subst e1;have d0:wr.cell? ⟨g,j*4,bC⟩=bB (aa bf m.1.1):=r.cell j 0 m hm bG;have d1:wr.cell? ⟨g,j*4+1,bC⟩=bB (aa bf m.1.2):=r.cell j 1 m hm bG;have d2:wr.cell? ⟨g,j*4+2,bC⟩=bB (aa bf m.2.1):=r.cell j 2 m hm bG;have d3:wr.cell? ⟨g,j*4+3,bC⟩=bB (aa bf m.2.2):=r.cell j 3 m hm bG;have NX:Hid ((T.ms.take (j+1)).foldl Mo.nu (Tr.dO F T.rt.2)=Mo.nu ((T.ms.take j).foldl Mo.nu (Tr.dO F T.rt.2)) m):=hJ (Mo.yG _ _ _ _ _ hm);have HBJ:Hid (Tr.Hb ((T.ms.take j).foldl Mo.nu (Tr.dO F T.rt.2)) (K+1+2*6)):=hJ ((Mo.J7 _ HB2.v).mono (by rw[List.length_take];omega));go_upto_region 4 with fail
    refine cR (λW'=>MB W' wr.heap.size m/\Below wr.heap.size wr W') ⟨heap_alloc_new wr _,(aQ _ _).alloc (aL _) _⟩ ?_;rintro W5 ⟨m5,b5⟩;have S5:Hid (cC W5 VK b f T v/\cv W5 f ((T.ms.take j).foldl Mo.nu (Tr.dO F T.rt.2))/\bO f w W5):=hJ ⟨TW.below b5,R.1.below b5,R.2.trans (bO.cO b5)⟩;have n0:=m5.c0;have n1:=m5.c1;have n2:=m5.c2;have n3:=m5.c3;generalize wr.heap.size=mx at*;go_wp2_with fail
    refine sC (tU VK b f _ T v _ m _ S5.1 S5.2.1 HBJ.v bG) ?_;rintro W6 ⟨t6,f6⟩;have S6:Hid (cv W6 f ((T.ms.take (j+1)).foldl Mo.nu (Tr.dO F T.rt.2))/\bO f w W6):=hJ ⟨by rw[NX.v];exact t6,S5.2.2.trans f6⟩;go_wp2
    go_roundw
    case rel=>exact⟨j+1,by go_num,bG,S6⟩
    case measure=>simp[intOf];omega
  .have hltI:¬(j:Int)<(N:Int):=bG
   have FIN:Hid (cv wr f (Mo.nQ F T)/\bO f w wr):=hJ ⟨by
    have:=R.1;rw[List.take_of_length_le (by rw[HN.v];omega)]at this;exact this,R.2⟩
   go_wp2_with fail
   go_end0
   exact⟨rfl,FIN.v⟩
theorem uO(VK b f K:Nat)(T:Mo.Tb)(v:Value)(F:Fo)(m:Mt)(w:bD)(h:cC w VK b f T v)(hF:cv w f F)(hb:Tr.Hb F K)(hK:K<900):
  Calls prog 233 #[ai (bB ⟨b,0,bC⟩),au #[aa bf m.1.1,aa bf m.1.2,aa bf m.2.1,aa bf m.2.2]] w λe w'=>e=bw (ao #[])/\cv w' f (Mo.jf F m)/\bO f w w':=by
 have HT:=hJ (aK h hF);have HB:=hJ hb;go_in
 go_upto_region 1 with fail
 refine cR (λW'=>MB W' w.heap.size m/\Below w.heap.size w W') ⟨heap_alloc_new w _,(aQ _ _).alloc (aL _) _⟩ ?_;rintro W1 ⟨m1,b1⟩;have S1:Hid (MB W1 w.heap.size m/\cC W1 VK b f T v/\cv W1 f F/\bO f w W1):=hJ ⟨m1,HT.1.below b1,HT.2.below b1,bO.cO b1⟩;generalize w.heap.size=mx at*;have K0:Hid (W1.cell? ⟨b,0,bC⟩=bB (ai (bB ⟨f,0,bC⟩))/\W1.cell? ⟨mx,1,bC⟩=bB (aa bf m.1.2)):=hJ ⟨S1.2.1.c0,S1.1.c1⟩;have KF:Hid (∀w':bD,bO f W1 w'->w'.cell? ⟨b,0,bC⟩=bB (ai (bB ⟨f,0,bC⟩))/\w'.cell? ⟨mx,1,bC⟩=bB (aa bf m.1.2)):=hJ (λw' k=>⟨(S1.2.1.j6 S1.2.2.1 k).c0,(S1.1.j6 S1.2.2.1 k).c1⟩);go_upto_region 1 with fail
 go_region_held3 (λw'=>w'.cell? ⟨b,0,bC⟩=bB (ai (bB ⟨f,0,bC⟩))/\w'.cell? ⟨mx,1,bC⟩=bB (aa bf m.1.2)) (first|exact K0.v|exact K4.v) ((go_at_call 226;refine sC (tO f m.1.2 F _ S1.2.2.1.drew (HB.lt bG)) ?_;rintro w4 ⟨t4,f4⟩;have f5:bO f W1 w4:=⟨f4.os,f4.tape,f4.output,f4.size,f4.block⟩;have K4:=hJ (KF.v w4 f5);have P4:Hid (cv w4 f (Tr.dF F m.1.2)/\bO f W1 w4):=hJ ⟨t4,f5⟩))
 have S2:Hid (MB w4 mx m/\cC w4 VK b f T v/\cv w4 f (Tr.dF F m.1.2)/\bO f w w4):=hJ ⟨S1.1.j6 S1.2.2.1 P4.2,S1.2.1.j6 S1.2.2.1 P4.2,P4.1,S1.2.2.2.trans P4.2⟩;have HB2:Hid (Tr.Hb (Tr.dF F m.1.2) (K+1)):=hJ ((HB.dF _).mono (by omega:K<=K+1));have K0:Hid (w4.cell? ⟨b,0,bC⟩=bB (ai (bB ⟨f,0,bC⟩))/\w4.cell? ⟨mx,3,bC⟩=bB (aa bf m.2.2)):=hJ ⟨S2.2.1.c0,S2.1.c3⟩;have KF:Hid (∀w':bD,bO f w4 w'->w'.cell? ⟨b,0,bC⟩=bB (ai (bB ⟨f,0,bC⟩))/\w'.cell? ⟨mx,3,bC⟩=bB (aa bf m.2.2)):=hJ (λw' k=>⟨(S2.2.1.j6 S2.2.2.1 k).c0,(S2.1.j6 S2.2.2.1 k).c3⟩);go_upto_region 2 with fail
 go_region_held3 (λw'=>w'.cell? ⟨b,0,bC⟩=bB (ai (bB ⟨f,0,bC⟩))/\w'.cell? ⟨mx,3,bC⟩=bB (aa bf m.2.2)) (first|exact K0.v|exact K5.v) ((go_at_call 226;refine sC (tO f m.2.2 _ _ S2.2.2.1.drew (HB2.lt bG)) ?_;rintro w5 ⟨t5,f4⟩;have f5:bO f w4 w5:=⟨f4.os,f4.tape,f4.output,f4.size,f4.block⟩;have K5:=hJ (KF.v w5 f5);have P5:Hid (cv w5 f (Mo.jf F m)/\bO f w w5):=hJ ⟨t5,S2.2.2.2.trans f5⟩))
 go_wp2_with fail
 go_end0
 exact⟨rfl,P5.v⟩
theorem Gw(VK b f K:Nat)(T:Mo.Tb)(v:Value)(F:Fo)(w:bD)(h:cC w VK b f T v)(hF:cv w f F)(hb:Tr.Hb F K)(hK:K<800):
  Calls prog 168 #[ai (bB ⟨b,0,bC⟩)] w λe w'=>e=bw (ao #[])/\cv w' f (Mo.lA F T)/\bO f w w':=by
 have S1:Hid (cC w VK b f T v/\cv w f F):=hJ ⟨h,hF⟩;have HB:=hJ hb;have h6:=h.sF;obtain⟨va,vc,hv⟩:=h.row.sl;have HV:=hJ hv;have K0:Hid (w.cell? ⟨b,0,bC⟩=bB (ai (bB ⟨f,0,bC⟩))/\w.cell? ⟨b,2,bC⟩=bB (aa bf T.rt.2)):=hJ ⟨S1.1.c0,S1.1.c2⟩;have KF:Hid (∀w':bD,bO f w w'->w'.cell? ⟨b,0,bC⟩=bB (ai (bB ⟨f,0,bC⟩))/\w'.cell? ⟨b,2,bC⟩=bB (aa bf T.rt.2)):=hJ (λw' k=>⟨(S1.1.j6 S1.2 k).c0,(S1.1.j6 S1.2 k).c2⟩);go_in
 go_upto_region 0 with fail
 go_region_held3 (λw'=>w'.cell? ⟨b,0,bC⟩=bB (ai (bB ⟨f,0,bC⟩))/\w'.cell? ⟨b,2,bC⟩=bB (aa bf T.rt.2)) (first|exact K0.v|exact K4.v) ((go_at_call 226;refine sC (tO f T.rt.2 F _ S1.2.drew (HB.lt bG)) ?_;rintro w4 ⟨t4,f4⟩;have f5:bO f w w4:=⟨f4.os,f4.tape,f4.output,f4.size,f4.block⟩;have K4:=hJ (KF.v w4 f5);have P4:Hid (cv w4 f (Tr.dF F T.rt.2)/\bO f w w4):=hJ ⟨t4,f5⟩))
 have HB2:Hid (Tr.Hb (Tr.dF F T.rt.2) (K+1)):=hJ ((HB.dF _).mono (by omega:K<=K+1));have T4:=hJ (S1.1.j6 S1.2 P4.2);have c3:=T4.c3;rw[HV.v]at c3;obtain⟨N,hN⟩:=hU (T.ms.length);have HN:=hJ hN;rw[hN]at c3 h6;go_wp2_with fail
 go_loopw [3,19] (λ_ i wr=>∃(j:Nat),i=aa bf j/\j<=N/\Hid (cv wr f ((T.ms.take j).foldl Mo.jf (Tr.dF F T.rt.2))/\bO f w wr)) (λ_ i _=>N-(intOf i).toNat)
 case atStart=>exact⟨0,rfl,bG,P4⟩
 case round=>
  obtain⟨j,rfl,hj,R⟩:=hrel;by_cases hlt:j<N
  .have hltI:(j:Int)<(N:Int):=bG
   obtain⟨m,hm⟩:∃m,T.ms[j]? =bB m:=⟨T.ms[j]'(by rw[HN.v];exact hlt),aW _⟩;have TW:=hJ (S1.1.j6 S1.2 R.2);rcases TW.row.form with⟨_,e⟩|⟨g,cap,hv,_,_,_⟩
   .rw[e]at hm;simp at hm
   .have r:=TW.row;rw[hv]at r;have hv2:=HV.v;rw[hv]at hv2;rw[HN.v]at hv2;injection hv2 with e1 e2 e3
    subst e1;have d0:wr.cell? ⟨g,j*4,bC⟩=bB (aa bf m.1.1):=r.cell j 0 m hm bG;have d1:wr.cell? ⟨g,j*4+1,bC⟩=bB (aa bf m.1.2):=r.cell j 1 m hm bG;have d2:wr.cell? ⟨g,j*4+2,bC⟩=bB (aa bf m.2.1):=r.cell j 2 m hm bG;have d3:wr.cell? ⟨g,j*4+3,bC⟩=bB (aa bf m.2.2):=r.cell j 3 m hm bG;have NX:Hid ((T.ms.take (j+1)).foldl Mo.jf (Tr.dF F T.rt.2)=Mo.jf ((T.ms.take j).foldl Mo.jf (Tr.dF F T.rt.2)) m):=hJ (Mo.yG _ _ _ _ _ hm);have HBJ:Hid (Tr.Hb ((T.ms.take j).foldl Mo.jf (Tr.dF F T.rt.2)) (K+1+2*6)):=hJ ((Mo.J8 _ HB2.v).mono (by rw[List.length_take];omega));go_upto_region 4 with fail
    refine cR (λW'=>MB W' wr.heap.size m/\Below wr.heap.size wr W') ⟨heap_alloc_new wr _,(aQ _ _).alloc (aL _) _⟩ ?_;rintro W5 ⟨m5,b5⟩;have S5:Hid (cC W5 VK b f T v/\cv W5 f ((T.ms.take j).foldl Mo.jf (Tr.dF F T.rt.2))/\bO f w W5):=hJ ⟨TW.below b5,R.1.below b5,R.2.trans (bO.cO b5)⟩;have n0:=m5.c0;have n1:=m5.c1;have n2:=m5.c2;have n3:=m5.c3;generalize wr.heap.size=mx at*;go_wp2_with fail
    refine sC (uO VK b f _ T v _ m _ S5.1 S5.2.1 HBJ.v bG) ?_;rintro W6 ⟨t6,f6⟩;have S6:Hid (cv W6 f ((T.ms.take (j+1)).foldl Mo.jf (Tr.dF F T.rt.2))/\bO f w W6):=hJ ⟨by rw[NX.v];exact t6,S5.2.2.trans f6⟩;go_wp2
    go_roundw
    case rel=>exact⟨j+1,by go_num,bG,S6⟩
    case measure=>simp[intOf];omega
  .have hltI:¬(j:Int)<(N:Int):=bG
   have FIN:Hid (cv wr f (Mo.lA F T)/\bO f w wr):=hJ ⟨by
    have:=R.1;rw[List.take_of_length_le (by rw[HN.v];omega)]at this;exact this,R.2⟩
   go_wp2_with fail
   go_end0
   exact⟨rfl,FIN.v⟩
def Mo.D7(F:Fo)(t:Int):Wh:=if Tr.gG F t=0 then(t,(Tr.fW F t:Int))else(0,0)
theorem tH(f:Nat)(F:Fo)(t:Int)(w:bD)(hF:cv w f F):
  Calls prog 165 #[ai (bB ⟨f,0,bC⟩),aa bf t] w λe w'=>e=bw (ao #[au #[aa bf (Mo.D7 F t).1,aa bf (Mo.D7 F t).2],bS (Tr.gG F t)])/\Below w.heap.size w w':=by
 have HF:=hJ hF;go_in
 go_upto_region 1 with fail
 refine cR (λW'=>WB W' w.heap.size (0,0)/\Below w.heap.size w W') (Ho w) ?_;rintro W1 h1;have S1:=hJ h1;go_wp2_with fail
 refine sC (LX f t F _ (HF.below S1.2)) ?_;rintro W2 hW;subst W2;obtain⟨rx,hrx⟩:=hU (w.heap.size);have HRX:=hJ hrx;rw[hrx]at S1|-;have y0:=S1.1.c0;have y1:=S1.1.c1;have yf:=S1.1.fz;by_cases e0:Tr.gG F t=0
 .have P:Hid (Mo.D7 F t=(t,(Tr.fW F t:Int))):=hJ (aJ e0);have E0:=hJ e0;rw[e0,bN];obtain⟨rn,hrn⟩:=hU ((Tr.fW F t:Int));rw[hrn]at P|-;have R:=hJ (S1.1.fin S1.2 HRX.v (t,rn));go_wp2_with fail
  generalize hWF:(W1.setCell ⟨rx,0,bC⟩ (aa bf t)).setCell ⟨rx,1,bC⟩ (aa bf rn)=WF at R|-;have z0:=R.1.c0;have z1:=R.1.c1;refine bodyPost_ret (v:=ao #[au #[aa bf t,aa bf rn],az]) (by simp[results,Tryz.f165,go_sem,z0,z1]) rfl ?_;rw[P.v,E0.v];refine⟨rfl,by rw[HRX.v];exact R.2⟩
 .have P:Hid (Mo.D7 F t=(0,0)):=hJ (aI e0);have E0:=hJ (bP e0);rw[E0.v];have R:=hJ (S1.1.fin S1.2 HRX.v (0,0));go_wp2_with fail
  generalize hWF:(W1.setCell ⟨rx,0,bC⟩ (aa .i64 0)).setCell ⟨rx,1,bC⟩ (aa .i64 0)=WF at R|-;have z0:=R.1.c0;have z1:=R.1.c1;refine bodyPost_ret (v:=ao #[au #[aa bf 0,aa bf 0],aq 100 (aa bf (Tr.gG F t))]) (by simp[results,Tryz.f165,go_sem,z0,z1]) rfl ?_;rw[P.v,E0.v];refine⟨rfl,by rw[HRX.v];exact R.2⟩
theorem Q7(f K:Nat)(F:Fo)(t:Int)(w:bD)(hF:cv w f F)(e0:Tr.gG F t=0)(hb:Tr.Hb F K)(hK:K<800):
  Calls prog 90 #[ai (bB ⟨f,0,bC⟩),aa bf t] w λe w'=>∃b,e=bw (ao #[ai (bB ⟨b,0,bC⟩),az])/\w.heap.size<=b/\(∀VK,cC w' VK b f ⟨(t,(Tr.fW F t:Int)),[]⟩ (aj bC 0 0))/\cv w' f (Tr.dO F (Tr.fW F t))/\bO f w w':=by
 have HF:=hJ hF;have HB:=hJ hb;have P:Hid (Mo.D7 F t=(t,(Tr.fW F t:Int))):=hJ (aJ e0);have E0:=hJ e0;go_in
 go_wp2_with fail
 refine sC (tH f F t _ HF.v) ?_;rintro W1 b1;rw[P.v,E0.v,bN];obtain⟨rn,hrn⟩:=hU ((Tr.fW F t:Int));rw[hrn];have S1:Hid (∀o o',cv ((W1.alloc o).alloc o') f F/\Below w.heap.size w ((W1.alloc o).alloc o')):=hJ (λo o'=>by
  have a:Below w.heap.size w ((W1.alloc o).alloc o'):=(b1.alloc b1.size o).alloc (by have:=b1.size;simp;omega) o';exact⟨HF.below a,a⟩)
 have BZ:=hJ b1.size;go_upto_region 5 with fail
 refine cR (λW'=>(∀VK,cC W' VK (W1.heap.size+1) f ⟨(t,rn),[]⟩ (aj bC 0 0))/\cv W' f F/\Below w.heap.size w W') ⟨λVK=>⟨by
  show((W1.heap.push _).push _)[W1.heap.size+1]? =_;simp only[bJ,Array.size_push];rw[aJ trivial],World.ownsRow_nil _ _ _ _,by simp⟩,S1.v _ _⟩ ?_
 rintro W2 ⟨t2,f2,b2⟩;have S2:=hJ (aK t2 (aK f2 b2));have LB:Hid (w.heap.size<=W1.heap.size+1):=hJ (by have:=BZ.v;omega);generalize W1.heap.size+1=b at*;generalize W1.heap.size=b' at*;go_wp2_with fail
 refine sC (xh 0 b f K ⟨(t,rn),[]⟩ _ F _ (S2.1 0) S2.2.1 HB.v hK) ?_;rintro W3 ⟨f3,k3⟩;have FIN:Hid ((∀VK,cC W3 VK b f ⟨(t,rn),[]⟩ (aj bC 0 0))/\cv W3 f (Tr.dO F rn)/\bO f w W3):=hJ ⟨λVK=>(S2.1 VK).j6 S2.2.1 k3,f3,(bO.cO S2.2.2).trans k3⟩;go_wp2
 go_ret2
 subst hrn;exact⟨b,rfl,LB.v,FIN.v⟩
section
variable {ops:Array Oper}{rest:List Oper}{o:Oper}{a:Act}{w:bD}{Q:Exit->Act->bD->Prop}
theorem yV{P:Program}(t ty e:TypeId)(i:TypeInfo)(ht:P.underlying t=bB (.slice e))(hi:P.info? e=bB i)(g:Nat)(ad:Addr)(n cap c:Nat)(hn:n<=cap):
  (Builtin.append_ #[t,t] ty #[aj (bB ⟨g,0,bC⟩) n cap,aj (bB ad) 0 c]).run P w= .ok (aj (bB ⟨g,0,bC⟩) n cap) w:=by
 simp[Builtin.append_,run_underlying ht,sizeOf,typeInfo,hi,Builtin.lenOf,Builtin.firstCells,hn,storeCells,loadCells,loadCellsFrom]
theorem vH(hgd:o.guard=bC)(s x:Operand)(t:TypeId)(ho:o.op= .call {callee:= .builtin .append,args:=#[s,x],argTypes:=#[t,t]})(e:TypeId)(i:TypeInfo)(ht:prog.underlying t=bB (.slice e))(hi:prog.info? e=bB i)
  (g:Nat) (ad:Addr) (n cap c:Nat) (hn:n<=cap) (hs:a.eval s=aj (bB ⟨g,0,bC⟩) n cap) (hx:a.eval x=aj (bB ad) 0 c) (h:wpList prog ops Q rest (a.put o.dst (aj (bB ⟨g,0,bC⟩) n cap)) w):wpList prog ops Q (o::rest) a w:=
 wpList_plain hgd λ_ hK=>by
  unfold Oper.wp execOp;simp only[ho,resolve,invoke,builtin,Sem.run_bind,Sem.run_pure,Result.andThen_ok,List.map_toArray,List.map_cons,List.map_nil,hs,hx,yV (P:=prog) (w:=w) t o.type e i ht hi g ad n cap c hn];exact hK _ _ h
end
theorem Mo.uV:∀(L:List Mt),∀u∈Mo.fT L,u.oneCell'=bE:=λL u hu=>by
 unfold Mo.fT at hu;obtain⟨m,_,hm⟩:=List.mem_flatMap.1 hu;simp only[Mo.uX,List.mem_cons,List.not_mem_nil,or_false]at hm;rcases hm with rfl|rfl|rfl|rfl<;>rfl
theorem fG.news{L:List Mt}(h:fG w VK L (aj (bB ⟨g,0,bC⟩) n cap)):∀j u,(Mo.fT L)[j]? =bB u->w.cell? ((⟨g,0,bC⟩:Addr).add j)=bB u:=World.ownsRow.cells h rfl
theorem Q9(w:bD):Sem.run prog (binOp BinOp.eql 227 (aj bC 0 0) (aj bC 0 0)) w= .ok (ar bE) w:=by kernel_rfl
theorem GF(ad:Addr)(n c:Nat)(w:bD):Sem.run prog (binOp BinOp.eql 227 (aj (bB ad) n c) (aj bC 0 0)) w= .ok (ar bF) w:=by kernel_rfl
theorem IT(VK:Nat)(L:List Mt)(v:Value)(w:bD)(h:fG w VK L v)(h6:L.length<=6):
  Calls prog 219 #[v] w λe w'=>∃v',e=bw v'/\fG w' w.heap.size L v'/\Below w.heap.size w w':=by
 obtain⟨i0,z0,hi0,hz0,hz1,hz2,hz3⟩:=Di;rcases h.form with⟨rfl,rfl⟩|⟨g,cap,rfl,hb,hg,hc⟩
 .clear h;have cm:=Q9 w;go_in
  go_wp2
  go_ret
  exact⟨_,rfl,World.ownsRow_nil _ _ _ _,aQ _ _⟩
 .have HR:=hJ h;obtain⟨N,hN⟩:=hU (L.length);have HN:=hJ hN;rw[hN]at h6 HR hc|-;have A1:Hid ((w.alloc (bA #[] 273)).ownsRow w.heap.size 273 4 (aj (bB ⟨w.heap.size,0,bC⟩) 0 0) 0 []/\Below w.heap.size w (w.alloc (bA #[] 273))):=hJ ⟨⟨rfl, .inr ⟨w.heap.size,0,#[],rfl,aL _,heap_alloc_new w _,aL _,by decide,rfl,rfl⟩⟩,(aQ _ _).alloc (aL _) _⟩;by_cases n0:N=0
  .subst n0;have L0:Hid (L=[]):=hJ (List.eq_nil_of_length_eq_zero hN);have cm:=GF ⟨g,0,bC⟩ 0 cap w;go_in
   go_wp2_with (at_builtin;refine vH rfl _ _ 227 rfl 273 i0 Tryz.underlying227 hi0 w.heap.size ⟨g,0,bC⟩ 0 0 cap (aL _) (by rfl) (by rfl) ?_)
   go_ret
   refine⟨_,rfl,?_,A1.2⟩;rw[L0.v];exact A1.1
  .have HG:=hJ hg;have MORE:Hid (∀g2 cap2 W7,W7.ownsRow w.heap.size 273 4 (aj (bB ⟨g2,0,bC⟩) (0+N) cap2) (0+N) ([]++Mo.fT L)->(w.alloc (bA #[] 273)).grownBy W7 (bB w.heap.size)->fG W7 w.heap.size L (aj (bB ⟨g2,0,bC⟩) (0+N) cap2)/\Below w.heap.size w W7):=hJ (λg2 cap2 W7 ho hgr=>by
    refine⟨?_,A1.2.trans ⟨hgr.os,hgr.tape,hgr.output,hgr.size,λn hn=>hgr.block n (by simp;omega) (λe=>by cases e;omega)⟩⟩;unfold fG;rw[HN.v];rw[Nat.zero_add,List.nil_append]at ho;rw[Nat.zero_add];exact ho)
   have cm:=GF ⟨g,0,bC⟩ N cap w;go_in
   go_wp2_with (at_builtin;refine wpList_append_lies _ rfl _ _ 227 (by rfl) w.heap.size 273 i0 z0 4 32 Tryz.underlying227 hi0 hz0 hz1 hz2 hz3 bM (aj (bB ⟨w.heap.size,0,bC⟩) 0 0) 0 [] (by rfl) A1.1 ⟨g,0,bC⟩ N cap (Mo.fT L) (by rfl) (by rw[Mo.lW,HN.v]) (HR.below A1.2).news (Mo.uV L) bG (by unfold maxLen;omega) bG (by simp) (w.heap.size+1) (by simp) ?_;intro gg cap2 W7 hown hgrow hat hlt2;have Q1:=hJ (MORE.v gg cap2 W7 hown hgrow))
   go_ret
   have Q2:=Q1.v;rw[Nat.zero_add]at Q2;exact⟨_,rfl,Q2⟩
theorem M4(VK b f K:Nat)(T:Mo.Tb)(v:Value)(F:Fo)(w:bD)(h:cC w VK b f T v)(hF:cv w f F)(hb:Tr.Hb F K)(hK:K<800):
  Calls prog 141 #[ai (bB ⟨b,0,bC⟩)] w λe w'=>∃c v',e=bw (ai (bB ⟨c,0,bC⟩))/\w.heap.size<=c/\cC w' w.heap.size c f T v'/\cv w' f (Mo.nQ F T)/\bO f w w':=by
 have HT:=hJ (aK h hF);have HB:=hJ hb;obtain⟨va,vc,hv⟩:=h.row.sl;have HV:=hJ hv;have c0:=h.c0;have c1:=h.c1;have c2:=h.c2;have c3:=h.c3;rw[hv]at c3;have KF:Hid (∀w':bD,Below w.heap.size w w'->w'.cell? ⟨b,0,bC⟩=bB (ai (bB ⟨f,0,bC⟩))/\w'.cell? ⟨b,1,bC⟩=bB (aa bf T.rt.1)/\w'.cell? ⟨b,2,bC⟩=bB (aa bf T.rt.2)/\w'.cell? ⟨b,3,bC⟩=bB (aj va T.ms.length vc)):=hJ (λw' k=>⟨(h.below k).c0,(h.below k).c1,(h.below k).c2,by rw[<-hv];exact(h.below k).c3⟩);have K0:=hJ (KF.v w (aQ _ _));go_in
 go_upto_region 1 with fail
 go_region_held3 (λw'=>w'.cell? ⟨b,0,bC⟩=bB (ai (bB ⟨f,0,bC⟩))/\w'.cell? ⟨b,1,bC⟩=bB (aa bf T.rt.1)/\w'.cell? ⟨b,2,bC⟩=bB (aa bf T.rt.2)/\w'.cell? ⟨b,3,bC⟩=bB (aj va T.ms.length vc)) (first|exact K0.v|exact K4.v|exact(K5.v _)) ((go_at_call 219;rw[<-HV.v];refine(IT VK T.ms v _ HT.1.drew.row HT.1.sF).mono ?_;rintro e w4 ⟨v',rfl,r4,b4⟩;have b5:Below w.heap.size w w4:=⟨b4.os,b4.tape,b4.output,b4.size,b4.block⟩;have K4:=hJ (KF.v w4 b5);have K5:Hid (∀o,(w4.alloc o).cell? ⟨b,0,bC⟩=bB (ai (bB ⟨f,0,bC⟩))/\(w4.alloc o).cell? ⟨b,1,bC⟩=bB (aa bf T.rt.1)/\(w4.alloc o).cell? ⟨b,2,bC⟩=bB (aa bf T.rt.2)/\(w4.alloc o).cell? ⟨b,3,bC⟩=bB (aj va T.ms.length vc)):=hJ (λo=>KF.v _ (b5.alloc b5.size o));have P4:Hid (fG w4 w.heap.size T.ms v'/\Below w.heap.size w w4):=hJ ⟨r4,b5⟩;obtain⟨va',vc',hv'⟩:=r4.sl;have HV':=hJ hv';subst hv'))
 have S5:Hid (cC (w4.alloc (bA #[ai (bB ⟨f,0,bC⟩),aa bf T.rt.1,aa bf T.rt.2,aj va' T.ms.length vc'] 229)) w.heap.size w4.heap.size f T (aj va' T.ms.length vc')/\cv (w4.alloc (bA #[ai (bB ⟨f,0,bC⟩),aa bf T.rt.1,aa bf T.rt.2,aj va' T.ms.length vc'] 229)) f F/\Below w.heap.size w (w4.alloc (bA #[ai (bB ⟨f,0,bC⟩),aa bf T.rt.1,aa bf T.rt.2,aj va' T.ms.length vc'] 229))/\w.heap.size<=w4.heap.size):=hJ (by
  have b5:=P4.2.alloc P4.2.size (bA #[ai (bB ⟨f,0,bC⟩),aa bf T.rt.1,aa bf T.rt.2,aj va' T.ms.length vc'] 229);exact⟨⟨heap_alloc_new w4 _,P4.1.below ((aQ _ _).alloc (aL _) _),HT.1.sF⟩,HT.2.below b5,b5,P4.2.size⟩)
 generalize (w4.alloc (bA #[ai (bB ⟨f,0,bC⟩),aa bf T.rt.1,aa bf T.rt.2,aj va' T.ms.length vc'] 229))=W5 at*;generalize w4.heap.size=c at*;go_wp2_with fail
 refine sC (xh w.heap.size c f K T _ F _ S5.1 S5.2.1 HB.v hK) ?_;rintro W6 ⟨f6,k6⟩;have FIN:Hid (cC W6 w.heap.size c f T (aj va' T.ms.length vc')/\cv W6 f (Mo.nQ F T)/\bO f w W6):=hJ ⟨S5.1.j6 S5.2.1 k6,f6,(bO.cO S5.2.2.1).trans k6⟩;go_wp2
 go_ret
 exact⟨c,_,rfl,S5.2.2.2,FIN.v⟩
def BF(b f:Nat):Nat->Prop:=λk=>k=b\/k=f
theorem cC.Q8{f:Nat}{T:Mo.Tb}(h:cC w VK b f T v)(x:Wh):cC (((w.setCell ⟨b,1,bC⟩ (aa bf x.1)).setCell ⟨b,2,bC⟩ (aa bf x.2)).setCell ⟨b,3,bC⟩ (aj bC 0 0)) VK b f ⟨x,[]⟩ (aj bC 0 0):=
 ⟨cT (cT (cT h.dk 1 _) 2 _) 3 _,World.ownsRow_nil _ _ _ _,by simp⟩
theorem JP(VK b f K:Nat)(T:Mo.Tb)(v:Value)(F:Fo)(w:bD)(h:cC w VK b f T v)(hF:cv w f F)(hb:Tr.Hb F K)(hK:K<800):
  Calls prog 154 #[ai (bB ⟨b,0,bC⟩)] w λe w'=>e=bw (ao #[])/\cv w' f (Mo.lA F T)/\dR (BF b f) w w':=by
 have HT:=hJ (aK h hF);have HB:=hJ hb;go_in
 go_wp2_with fail
 refine sC (Gw VK b f K T v F _ HT.1 HT.2 HB.v hK) ?_;rintro W1 ⟨f1,k1⟩;have T1:=HT.1.j6 HT.2 k1;obtain⟨va,vc,hv⟩:=T1.row.sl;have c3:=T1.c3;rw[hv]at c3;have cf:=T1.frozen;have FIN:Hid (cv (W1.setCell ⟨b,3,bC⟩ (aj bC 0 0)) f (Mo.lA F T)/\dR (BF b f) w (W1.setCell ⟨b,3,bC⟩ (aj bC 0 0))):=hJ ⟨f1.same (dS _ _ _ _ (bQ (HT.1.ne HT.2).1)),(dR.kP k1 (.inr rfl)).setCell (.inl rfl) _ _⟩;go_wp2_with fail
 go_end0
 exact⟨rfl,FIN.v⟩
theorem Oz(VK b f:Nat)(T:Mo.Tb)(v:Value)(F:Fo)(t:Int)(w:bD)(h:cC w VK b f T v)(hF:cv w f F)(e0:Tr.gG F t≠0):
  Calls prog 94 #[ai (bB ⟨b,0,bC⟩),aa bf t] w λe w'=>e=bw (bS (Tr.gG F t))/\Below w.heap.size w w':=by
 have HT:=hJ (aK h hF);have E:=hJ (bP e0);have c0:=h.c0;go_in
 go_wp2_with fail
 refine sC (tH f F t _ HT.2) ?_;rintro W1 b1;have B1:=hJ b1;rw[E.v];obtain⟨y,hy⟩:=hU (Mo.D7 F t);rw[hy];go_wp2
 go_ret
 rw[E.v];exact⟨rfl,B1.alloc B1.size _⟩
theorem Le(VK b f K:Nat)(T:Mo.Tb)(v:Value)(F:Fo)(t:Int)(w:bD)(h:cC w VK b f T v)(hF:cv w f F)(e0:Tr.gG F t=0)(hb:Tr.Hb F K)(hK:K<800):
  Calls prog 94 #[ai (bB ⟨b,0,bC⟩),aa bf t] w λe w'=>e=bw az/\cC w' VK b f ⟨(t,(Tr.fW F t:Int)),[]⟩ (aj bC 0 0)/\cv w' f (Tr.dO (Mo.lA F T) (Tr.fW F t))/\dR (BF b f) w w':=by
 have HT:=hJ (aK h hF);have HB:=hJ hb;have P:Hid (Mo.D7 F t=(t,(Tr.fW F t:Int))):=hJ (aJ e0);have E0:=hJ e0;have c0:=h.c0;go_in
 go_wp2_with fail
 refine sC (tH f F t _ HT.2) ?_;rintro W1 b1;rw[P.v,E0.v,bN];obtain⟨rn,hrn⟩:=hU ((Tr.fW F t:Int));have HRN:=hJ hrn;rw[hrn];have B1:=hJ b1;go_upto_region 2 with fail
 refine cR (λW'=>WB W' W1.heap.size (t,rn)/\Below w.heap.size w W') ⟨heap_alloc_new W1 _,B1.alloc B1.size _⟩ ?_;rintro W2 ⟨x2,b2⟩;have S2:Hid (WB W2 W1.heap.size (t,rn)/\cC W2 VK b f T v/\cv W2 f F/\dR (BF b f) w W2):=hJ ⟨x2,HT.1.below b2,HT.2.below b2,dR.cO b2⟩;generalize W1.heap.size=bx at*;go_wp2_with fail
 refine sC (Gw VK b f K T v F _ S2.2.1 S2.2.2.1 HB.v hK) ?_;rintro W3 ⟨f3,k3⟩;have S3:Hid (WB W3 bx (t,rn)/\cC W3 VK b f T v/\cv W3 f (Mo.lA F T)/\dR (BF b f) w W3):=hJ ⟨S2.1.same (k3.block bx S2.1.lt (by
  obtain⟨C,hC,_⟩:=S2.2.2.1.dk;exact ur S2.1 hC bM)),S2.2.1.j6 S2.2.2.1 k3,f3,S2.2.2.2.trans (dR.kP k3 (.inr rfl))⟩
 have x0:=S3.1.c0;have x1:=S3.1.c1;obtain⟨va,vc,hv⟩:=S3.2.1.row.sl;have c1:=S3.2.1.c1;have c2:=S3.2.1.c2;have c3:=S3.2.1.c3;have cf:=S3.2.1.frozen;rw[hv]at c3;have S4:Hid (cC (((W3.setCell ⟨b,1,bC⟩ (aa bf t)).setCell ⟨b,2,bC⟩ (aa bf rn)).setCell ⟨b,3,bC⟩ (aj bC 0 0)) VK b f ⟨(t,rn),[]⟩ (aj bC 0 0)/\cv (((W3.setCell ⟨b,1,bC⟩ (aa bf t)).setCell ⟨b,2,bC⟩ (aa bf rn)).setCell ⟨b,3,bC⟩ (aj bC 0 0)) f (Mo.lA F T)/\dR (BF b f) w (((W3.setCell ⟨b,1,bC⟩ (aa bf t)).setCell ⟨b,2,bC⟩ (aa bf rn)).setCell ⟨b,3,bC⟩ (aj bC 0 0))):=hJ (by
  have ne:=bQ (S3.2.1.ne S3.2.2.1).1;exact⟨S3.2.1.Q8 (t,rn),S3.2.2.1.same ((dS _ _ _ _ ne).trans ((dS _ _ _ _ ne).trans (dS _ _ _ _ ne))),((S3.2.2.2.setCell (.inl rfl) _ _).setCell (.inl rfl) _ _).setCell (.inl rfl) _ _⟩)
 have HB2:Hid (Tr.Hb (Mo.lA F T) K):=hJ (Mo.Sx HB.v);go_upto_region 6 with fail
 refine cR (λW'=>cC W' VK b f ⟨(t,rn),[]⟩ (aj bC 0 0)/\cv W' f (Mo.lA F T)/\dR (BF b f) w W') S4.v ?_;rintro W4 h4;have S5:=hJ h4;go_wp2_with fail
 refine sC (xh VK b f K ⟨(t,rn),[]⟩ _ _ _ S5.1 S5.2.1 HB2.v hK) ?_;rintro W6 ⟨f6,k6⟩;have FIN:Hid (cC W6 VK b f ⟨(t,rn),[]⟩ (aj bC 0 0)/\cv W6 f (Tr.dO (Mo.lA F T) rn)/\dR (BF b f) w W6):=hJ ⟨S5.1.j6 S5.2.1 k6,f6,S5.2.2.trans (dR.kP k6 (.inr rfl))⟩;go_wp2
 go_ret
 rw[HRN.v];exact⟨rfl,FIN.v⟩
namespace Mo
theorem DF:∀(L:List Mt) (n:Nat),fT (L.take n)=(fT L).take (n*4)
 |[],n=>by simp[fT]
 |x::L,0=>by simp[fT]
 |x::L,n+1=>by
  show uX x++fT (L.take n)=(uX x++fT L).take ((n+1)*4);rw[DF L n,show(n+1)*4=n*4+4 by omega];rfl
theorem DC:∀(L:List Mt) (n:Nat),fT (L.drop n)=(fT L).drop (n*4)
 |[],n=>by simp[fT]
 |x::L,0=>by simp[fT]
 |x::L,n+1=>by
  show fT (L.drop n)=(uX x++fT L).drop ((n+1)*4);rw[DC L n,show(n+1)*4=4+n*4 by omega,<-List.drop_drop];rfl
end Mo
theorem qy{b:Nat}:∀(vs:List Value) (o:Nat) {u w:bD},bO b u w->bO b u (w.setCells b o vs)
 |[],_,_,_,h=>h
 |v::r,o,u,w,h=>by rw[World.setCells];exact qy r (o+1) (h.setCell o v)
theorem qz(b:Nat):∀(vs:List Value) (o:Nat) (w:bD) (C:Array Value) {T:TypeId},w.heap[b]? =bB (bA C T (0,0))->∃C',(w.setCells b o vs).heap[b]? =bB (bA C' T (0,0))/\C'.size=C.size
 |[],_,_,C,_,h=>⟨C,h,rfl⟩
 |v::r,o,w,C,T,h=>by
  rw[World.setCells];obtain⟨C',h1,h2⟩:=qz b r (o+1) _ _ (cT h o v);exact⟨C',h1,by rw[h2];simp⟩
def ma:List Value:=[aa bf 0,aa bf 0,aa bf 0,aa bf 0]
theorem I7(ty:TypeId)(b off c:Nat)(w:bD)(hc:∀j,j<4->(w.cell? ⟨b,off+j,bC⟩).isSome=bE)(hf:∀j,j<4->w.frozen? ⟨b,off+j,bC⟩=bF):
  Sem.run prog (Builtin.clear_ #[227] ty #[aj (bB ⟨b,off,bC⟩) 1 c]) w= .ok (ao #[]) (w.setCells b off ma):=by
 have hu:prog.underlying 227=bB (.slice 273):=by kernel_rfl
 have hv:∀w,(zeroValue 273).run prog w= .ok (au #[aa bf 0,aa bf 0,aa bf 0,aa bf 0]) w:=λw=>by kernel_rfl
 have hst:=run_storeCells_cells (P:=prog) b off ma 0 w (by simpa[ma]using hc) (by simpa[ma]using hf) (by
  intro v hv';simp only[ma,List.mem_cons,List.not_mem_nil,or_false]at hv';rcases hv' with rfl|rfl|rfl|rfl<;>rfl)
 simp only[Nat.add_zero]at hst;have hz:(Builtin.zeroCells (au #[aa bf 0,aa bf 0,aa bf 0,aa bf 0]).cells 1).toList=ma:=by kernel_rfl
 simp[Builtin.clear_,run_underlying hu,hv,hz,hst]
theorem fG.erased{M:Nat}{L:List Mt}(h:fG w VK L (aj (bB ⟨g,0,bC⟩) (M+1) cap))(hM:L.length=M+1)(hi:i<=M):
  fG ((w.setCells g (i*4) (Mo.fT (L.drop (i+1)))).setCells g (M*4) ma) VK (L.eraseIdx i) (aj (bB ⟨g,0,bC⟩) M cap)/\bO g w ((w.setCells g (i*4) (Mo.fT (L.drop (i+1)))).setCells g (M*4) ma):=by
 refine⟨?_,qy _ _ (qy _ _ (bO.refl g w))⟩;have hl:(L.eraseIdx i).length=M:=by rw[List.length_eraseIdx_of_lt bG];omega
 have hn:(Mo.fT (L.drop (i+1))).length=(M-i)*4:=by rw[Mo.lW,List.length_drop,hM];omega
 unfold fG;rw[hl];refine⟨by rw[Mo.lW,hl],?_⟩;rcases h.2 with⟨e,_⟩|⟨g',cap',cur,e,hb,hg,h1,h2,h3,h4⟩
 .cases e
 .rw[hM]at e;cases e;rw[hM]at h1 h4;obtain⟨C1,k1,s1⟩:=qz g (Mo.fT (L.drop (i+1))) (i*4) w cur hg;obtain⟨C2,k2,s2⟩:=qz g ma (M*4) _ C1 k1;refine .inr ⟨g,cap,C2,rfl,hb,k2,bG,h2,by rw[s2,s1];exact h3,?_⟩;have old:∀o,o<(M+1)*4->w.cell? ⟨g,o,bC⟩=(Mo.fT L)[o]? :=λo ho=>by
   rw[cA hg,<-h4,List.getElem?_take_of_lt ho,aM]
  apply List.ext_getElem?;intro o;by_cases ho:o<M*4
  .rw[List.getElem?_take_of_lt ho,aM,<-cA k2,
    aA g ma (M*4) _ ⟨g,o,bC⟩ (λ_ _=> .inl ho),List.eraseIdx_eq_take_drop_succ,Mo.Gy]
   have hta:(Mo.fT (L.take i)).length=i*4:=by rw[Mo.lW,List.length_take,hM];omega
   by_cases c:o<i*4
   .rw[aA g _ (i*4) w ⟨g,o,bC⟩ (λ_ _=> .inl c),old o bG,List.getElem?_append_left bG,Mo.DF,List.getElem?_take_of_lt c]
   .rw[List.getElem?_append_right bG,hta];have:=aS g (Mo.fT (L.drop (i+1))) (i*4) w (λj hj=>by rw[old _ bG,aW (by rw[Mo.lW,hM];omega)];rfl) (o-i*4) bG;rw[show i*4+(o-i*4)=o by omega]at this;rw[this,aW bG]
  .rw[List.getElem?_eq_none (by rw[List.length_take];omega),List.getElem?_eq_none (by rw[Mo.lW,hl];omega)]
theorem Fu(VK g cap i M:Nat)(L:List Mt)(w:bD)(h:fG w VK L (aj (bB ⟨g,0,bC⟩) (M+1) cap))(hM:L.length=M+1)(hi:i<=M)(h6:M<=5):
  Calls prog 263 #[aj (bB ⟨g,0,bC⟩) (M+1) cap,aa bf i,aa bf ((i:Int)+1)] w λe w'=>e=bw (aj (bB ⟨g,0,bC⟩) M cap)/\fG w' VK (L.eraseIdx i) (aj (bB ⟨g,0,bC⟩) M cap)/\bO g w w':=by
 obtain⟨i0,z0,hi0,hz0,hz1,hz2,hz3⟩:=Di;have hn:(Mo.fT (L.drop (i+1))).length=(M-i)*4:=by rw[Mo.lW,List.length_drop,hM];omega
 have hcap:M+1<=cap/\cap<=maxLen:=by
  rcases h.2 with⟨e,_⟩|⟨g',cap',cur,e,hb,hg,h1,h2,h3,h4⟩
  .cases e
  .rw[hM]at e;cases e;exact⟨by omega,h2⟩
 unfold maxLen at hcap;have cl:∀o,o<(M+1)*4->w.cell? ⟨g,o,bC⟩=(Mo.fT L)[o]? :=λo ho=>by
  rcases h.2 with⟨e,_⟩|⟨g',cap',cur,e,hb,hg,h1,h2,h3,h4⟩
  .cases e
  .rw[hM]at e;cases e;rw[cA hg,<-h4,List.getElem?_take_of_lt (by rw[hM];exact ho),aM]
 have cs:∀o,o<(M+1)*4->(w.cell? ⟨g,o,bC⟩).isSome=bE:=λo ho=>by
  rw[cl o ho,aW (by rw[Mo.lW,hM];omega)];rfl
 obtain⟨A,hA,hnews⟩:∃A:Addr,(if cap=i+1 then bB (⟨g,0,bC⟩:Addr)else bB ⟨g,(i+1)*4,bC⟩)=bB A/\Hid (∀j u,(Mo.fT (L.drop (i+1)))[j]? =bB u->w.drew.cell? (A.add j)=bB u):=by
  by_cases c:cap=i+1
  .refine⟨⟨g,0,bC⟩,by simp[c],λj u hu=>?_⟩;have:=(aY.1 hu).1;omega
  .refine⟨⟨g,(i+1)*4,bC⟩,by simp[c],λj u hu=>?_⟩;have hj:=(aY.1 hu).1;rw[hn]at hj;rw[sV];show w.cell? ⟨g,(i+1)*4+j,bC⟩=bB u;rw[cl _ bG];rw[Mo.DC,List.getElem?_drop]at hu;exact hu
 have hd:fG w.drew VK L (aj (bB ⟨g,0,bC⟩) (M+1) cap):=h;have FIN:Hid (∀W5,w.drew.setCells g (i*4) (Mo.fT (L.drop (i+1)))=W5->fG (W5.setCells g (M*4) ma) VK (L.eraseIdx i) (aj (bB ⟨g,0,bC⟩) M cap)/\bO g w (W5.setCells g (M*4) ma)):=hJ (λW5 e=>by
  subst e;have:=hd.erased hM hi;exact⟨this.1,⟨this.2.os,this.2.tape,this.2.output,this.2.size,this.2.block⟩⟩)
 have s1:Hid ((Mo.fT (L.drop (i+1))).length=(M-i)*4):=hJ hn;have s2:Hid (∀u∈Mo.fT (L.drop (i+1)),u.oneCell'=bE):=hJ (Mo.uV _);have s3:Hid (∀j,j<(Mo.fT (L.drop (i+1))).length->(w.drew.cell? ⟨g,0+i*4+j,bC⟩).isSome=bE/\w.drew.frozen? ⟨g,0+i*4+j,bC⟩=bF):=hJ (λj hj=>by
  rw[hn]at hj;rw[Nat.zero_add];exact⟨cs (i*4+j) bG,h.frozen _⟩)
 have s4:Hid (∀W5,w.drew.setCells g (i*4) (Mo.fT (L.drop (i+1)))=W5->∀j,j<4->(W5.cell? ⟨g,M*4+j,bC⟩).isSome=bE/\W5.frozen? ⟨g,M*4+j,bC⟩=bF):=hJ (λW5 e j hj=>by
  subst e;rw[World.frozen?_setCells,aA g _ (i*4) w.drew ⟨g,M*4+j,bC⟩ (λ_ _=> .inr (by rw[hn];show i*4+(M-i)*4<=M*4+j;omega))];exact⟨cs (M*4+j) bG,h.frozen _⟩)
 have q1:(i:Int)+1<=(M:Int)+1:=bG
 have q2:(0:Int)<=(i:Int)+1:=bG
 have q3:((i:Int)+1).toNat=i+1:=bG
 have q4:(M:Int)+1<=(cap:Int):=bG
 have q5:(i:Int)<=(cap:Int):=bG
 have q6:i<=cap:=bG
 have q7:((i:Int)==(i:Int)+1)=bF:=by simp;omega
 have q8:¬(i:Int)=(i:Int)+1:=bG
 have q9:i+(M-i)=M:=bG
 go_in
 go_upto_region 5 with fail
 go_region_law (refine step_append_room rfl (.tmp 22) (.tmp 25) 227 rfl 273 i0 4 Tryz.underlying227 hi0 hz1 g 0 i cap (by simp[Act.eval,Act.put]) A (M-i) (cap-(i+1)) (Mo.fT (L.drop (i+1))) (by simp[Act.eval,Act.put]) s1.v hnews.v s2.v bG s3.v ?_)
 generalize hW5:w.drew.setCells g (i*4) (Mo.fT (L.drop (i+1)))=W5;have S4:=hJ (s4.v W5 hW5);have F5:=hJ (FIN.v W5 hW5);have p1:¬cap=M:=bG
 have p2:(M:Int)<=(M:Int)+1:=bG
 have hcl:=I7 0 g (M*4) (cap-M) W5 (λj hj=>(S4.v j hj).1) (λj hj=>(S4.v j hj).2);obtain⟨W6,hW6⟩:=hU (W5.setCells g (M*4) ma);rw[hW6]at hcl F5;go_wp2
 go_ret
 exact⟨rfl,F5.v⟩
namespace Mo
def iH(F:Fo)(x:Wh):Int:=if Tr.cM F x.2≠0 then Tr.cM F x.2 else if(F.nd x.2.toNat).kind=2/\((F.nd x.2.toNat).tree:Int)=x.1 then 0 else 11
def lF(F:Fo)(T:Mo.Tb)(x y:Wh):Int:=if iH F x≠0 then iH F x else if iH F y≠0 then iH F y else if x=y then 8 else if(lk T.ms x).isSome=bE then 3 else if T.ms.length=6 then 4 else 0
def zQ(F:Fo)(T:Mo.Tb)(x y:Wh):Tb:=if lF F T x y=0 then⟨T.rt,T.ms++[(x,y)]⟩else T
def zP(F:Fo)(T:Mo.Tb)(x y:Wh):Fo:=if lF F T x y=0 then nu F (x,y)else F
def B8(F:Fo)(T:Mo.Tb)(x:Wh)(E:Int)(T':Mo.Tb)(F':Fo):Prop:=(∃i:Nat,pS T.ms x i/\∃m,T.ms[i]? =bB m/\E=0/\T'=⟨T.rt,T.ms.eraseIdx i⟩/\F'=jf F m)\/(pS T.ms x (-1)/\E=2/\T'=T/\F'=F)
theorem La(F:Fo)(z:Int):∃o1 o2 o3 o4:Int,tY F z=#[aa bf o1,aa bf o2,aa bf o3,aa bf o4]/\(Tr.cM F z=0->o1=((F.nd z.toNat).kind:Int)):=by
 unfold tY;split
 .exact⟨_,_,_,_,rfl,λ_=>rfl⟩
 .rename_i h;exact⟨0,0,0,0,rfl,λe=>aZ e h⟩
end Mo
theorem jS(VK b f:Nat)(T:Mo.Tb)(v:Value)(F:Fo)(x:Wh)(w:bD)(h:cC w VK b f T v)(hF:cv w f F):
  Calls prog 261 #[ai (bB ⟨b,0,bC⟩),au #[aa bf x.1,aa bf x.2]] w λe w'=>e=bw (bS (Mo.iH F x))/\Below w.heap.size w w':=by
 have HT:=hJ (aK h hF);obtain⟨o1,o2,o3,o4,hO⟩:=Mo.La F x.2;have OE:=hJ hO;go_in
 go_upto_region 1 with fail
 refine cR (λW'=>WB W' w.heap.size x/\Below w.heap.size w W') ⟨heap_alloc_new w _,(aQ _ _).alloc (aL _) _⟩ ?_;rintro W1 ⟨x1,b1⟩;obtain⟨bx,hbx⟩:=hU (w.heap.size);have HBX:=hJ hbx;rw[hbx]at x1;have LE:Hid (∀W,Below bx w W->bx<=W.heap.size/\cC W VK b f T v/\cv W f F):=hJ (λW h=>by
  have e:=h.size;subst hbx;exact⟨e,HT.1.below h,HT.2.below h⟩)
 have S1:Hid (WB W1 bx x/\Below bx w W1):=hJ ⟨x1,by rw[<-hbx];exact b1⟩;rw[hbx];have c0:=(LE.v _ S1.2).2.1.c0;have cx:=S1.1.c1;have l0:=(LE.v _ S1.2).2.1.lt;have l1:=S1.1.lt;have n0:b≠W1.heap.size:=bG
 have n1:bx≠W1.heap.size:=bG
 have LA:Hid (∀o,cv (W1.alloc o) f F/\Below W1.heap.size W1 (W1.alloc o)):=hJ (λo=>by
  have bb:Below W1.heap.size W1 (W1.alloc o):=(aQ _ _).alloc (aL _) _;exact⟨(LE.v _ S1.2).2.2.below bb,bb⟩)
 have ZZ:Hid (∀w4:bD,Below (W1.alloc (bA #[aa bf 0,aa bf 0,aa bf 0,aa bf 0] 156)).drew.heap.size (W1.alloc (bA #[aa bf 0,aa bf 0,aa bf 0,aa bf 0] 156)).drew w4->w4.heap[W1.heap.size]? =bB (bA #[aa bf 0,aa bf 0,aa bf 0,aa bf 0] 156 (0,0))/\Below W1.heap.size W1 w4):=hJ (λw4 k=>by
  have bb:Below W1.heap.size W1 (W1.alloc (bA #[aa bf 0,aa bf 0,aa bf 0,aa bf 0] 156)):=(aQ _ _).alloc (aL _) _;exact⟨(k.block W1.heap.size (by show W1.heap.size<(W1.alloc _).heap.size;simp)).trans (heap_alloc_new W1 _),bb.drew.trans (k.mono (by show W1.heap.size<=(W1.alloc _).heap.size;simp))⟩)
 obtain⟨ev,hev⟩:=hU (bS (Tr.cM F x.2));have HEV:=hJ hev;go_upto_region 1 with fail
 go_cut [5,6,8]from 9 to 17 (λs5 s6 _ wc=>∃nb,s5=ai (bB ⟨nb,0,bC⟩)/\s6=ev/\Hid (WB wc bx x/\Below bx w wc/\wc.cell? ⟨nb,0,bC⟩=bB (aa bf o1)))
 case first=>
  go_region_with (go_at_call 214;refine(qd f x.2 F _ (by first|exact(LE.v _ S1.2).2.2.drew|exact(LA.v _).1.drew)).mono ?_;rintro e w4 ⟨rfl,b4⟩;rw[OE.1,HEV.v];try (have ZW:=ZZ.v w4 b4;have z0:=cU ZW.1 0 (aa .i64 0) rfl;have z1:=cU ZW.1 1 (aa .i64 0) rfl;have z2:=cU ZW.1 2 (aa .i64 0) rfl;have z3:=cU ZW.1 3 (aa .i64 0) rfl;have zf:=cL ZW.1))
  all_goals
   first
    |have F1:Hid (WB (w4.alloc (bA #[aa bf o1,aa bf o2,aa bf o3,aa bf o4] 156)) bx x/\Below bx w (w4.alloc (bA #[aa bf o1,aa bf o2,aa bf o3,aa bf o4] 156))/\(w4.alloc (bA #[aa bf o1,aa bf o2,aa bf o3,aa bf o4] 156)).cell? ⟨w4.heap.size,0,bC⟩=bB (aa bf o1)):=hJ (by
      have b5:Below W1.heap.size W1 w4:=⟨b4.os,b4.tape,b4.output,b4.size,b4.block⟩;have b6:=b5.alloc b5.size (bA #[aa bf o1,aa bf o2,aa bf o3,aa bf o4] 156);exact⟨S1.1.below b6,S1.2.trans (b6.mono (LE.v _ S1.2).1),cU (heap_alloc_new w4 _) 0 _ rfl⟩)
     generalize w4.alloc (bA #[aa bf o1,aa bf o2,aa bf o3,aa bf o4] 156)=W5 at*
     first|(go_wp2_with fail;go_meet)|go_meet
     case rel=>exact⟨_,rfl,rfl,F1⟩
    |have F1:Hid (WB ((((w4.setCell ⟨W1.heap.size,0,bC⟩ (aa bf o1)).setCell ⟨W1.heap.size,1,bC⟩ (aa bf o2)).setCell ⟨W1.heap.size,2,bC⟩ (aa bf o3)).setCell ⟨W1.heap.size,3,bC⟩ (aa bf o4)) bx x/\Below bx w ((((w4.setCell ⟨W1.heap.size,0,bC⟩ (aa bf o1)).setCell ⟨W1.heap.size,1,bC⟩ (aa bf o2)).setCell ⟨W1.heap.size,2,bC⟩ (aa bf o3)).setCell ⟨W1.heap.size,3,bC⟩ (aa bf o4))/\((((w4.setCell ⟨W1.heap.size,0,bC⟩ (aa bf o1)).setCell ⟨W1.heap.size,1,bC⟩ (aa bf o2)).setCell ⟨W1.heap.size,2,bC⟩ (aa bf o3)).setCell ⟨W1.heap.size,3,bC⟩ (aa bf o4)).cell? ⟨W1.heap.size,0,bC⟩=bB (aa bf o1)):=hJ (by
      have k:=cT (cT (cT (cT ZW.1 0 (aa bf o1)) 1 (aa bf o2)) 2 (aa bf o3)) 3 (aa bf o4);have fr:=((((bO.refl W1.heap.size w4).setCell 0 (aa bf o1)).setCell 1 (aa bf o2)).setCell 2 (aa bf o3)).setCell 3 (aa bf o4);have b6:=fr.below ZW.2 (aL _) ZW.2.size;exact⟨S1.1.below b6,S1.2.trans (b6.mono (LE.v _ S1.2).1),cU k 0 _ rfl⟩)
     generalize (((w4.setCell ⟨W1.heap.size,0,bC⟩ (aa bf o1)).setCell ⟨W1.heap.size,1,bC⟩ (aa bf o2)).setCell ⟨W1.heap.size,2,bC⟩ (aa bf o3)).setCell ⟨W1.heap.size,3,bC⟩ (aa bf o4)=W5 at*
     first|(go_wp2_with fail;go_meet)|go_meet
     case rel=>exact⟨_,rfl,rfl,F1⟩
 case rest=>
  obtain⟨nb,rfl,rfl,S2⟩:=hcut;have PE:Hid (Mo.iH F x=if Tr.cM F x.2≠0 then Tr.cM F x.2 else if(F.nd x.2.toNat).kind=2/\((F.nd x.2.toNat).tree:Int)=x.1 then 0 else 11):=hJ rfl;by_cases e0:Tr.cM F x.2=0
  .have HK:=hJ (OE.2 e0);have TN:Hid (Tr.zm F x.2=(F.nd x.2.toNat).tree):=hJ (aJ e0);rw[e0,aI (λd=>d rfl)]at PE;have E0:=hJ e0;rw[<-HEV.v,e0,bN];have T2:=hJ (LE.v _ S2.2.1).2;have c0:=T2.1.c0;have cx:=S2.1.c1;obtain⟨tr,htr⟩:=hU ((F.nd x.2.toNat).tree);obtain⟨kd,hkd⟩:=hU ((F.nd x.2.toNat).kind);rw[htr,hkd]at PE;rw[hkd]at HK;have TT:Hid (∀nq,Calls prog 284 #[ai (bB ⟨f,0,bC⟩),aa bf x.2] (wc.drewN nq) λe w'=>e=bw (ao #[aa bf (tr:Int),az])/\w'=wc.drewN nq):=hJ (λnq=>by
    have:=LY f x.2 F _ (T2.2.drewN nq);rw[TN.v,htr,E0.v,bN]at this;exact this)
   have SQ:Hid (∀nq,WB (wc.drewN nq) bx x/\Below bx w (wc.drewN nq)/\(wc.drewN nq).cell? ⟨nb,0,bC⟩=bB (aa bf (kd:Int))):=hJ (λnq=>⟨S2.1,⟨S2.2.1.os,S2.2.1.tape,S2.2.1.output,S2.2.1.size,S2.2.1.block⟩,by rw[<-HK.v];exact S2.2.2⟩);have d0:wc.cell? ⟨nb,0,bC⟩=bB (aa bf (kd:Int)):=by rw[<-HK.v];exact S2.2.2
   have d1:=S2.1.c0;by_cases k2:kd=2
   .subst k2;by_cases t2:(tr:Int)=x.1
    .have FIN:Hid (Mo.iH F x=0):=hJ (by rw[PE.v,aJ ⟨rfl,t2⟩]);have t2':((tr:Int) !=x.1)=bF:=by simpa using t2
     have d0':wc.cell? ⟨nb,0,bC⟩=bB (aa .i64 2):=d0;have T2':=hJ t2;go_wp2_with fail
     go_quiet ((go_at_call 284;exact Calls.quiet_of_same (TT.v _)))
     go_wp2
     go_ret
     rw[FIN.v,HBX.v];exact⟨rfl,(SQ.v _).2.1⟩
    .have FIN:Hid (Mo.iH F x=11):=hJ (by rw[PE.v,aI (λh=>t2 h.2)]);have t2':((tr:Int) !=x.1)=bE:=by simpa using t2
     have d0':wc.cell? ⟨nb,0,bC⟩=bB (aa .i64 2):=d0;go_wp2_with fail
     go_quiet ((go_at_call 284;exact Calls.quiet_of_same (TT.v _)))
     go_wp2
     go_ret
     rw[FIN.v,HBX.v];exact⟨rfl,(SQ.v _).2.1⟩
   .have FIN:Hid (Mo.iH F x=11):=hJ (by rw[PE.v,aI (λh=>k2 h.1)]);have k2':((kd:Int) !=2)=bE:=by simp;omega
    have k2'':¬(kd:Int)=2:=bG
    go_wp2_with fail
    go_quiet ((go_at_call 284;exact Calls.quiet_of_same (TT.v _)))
    go_wp2
    go_ret
    rw[FIN.v,HBX.v];exact⟨rfl,(SQ.v _).2.1⟩
  .have FIN:Hid (Mo.iH F x=Tr.cM F x.2/\bS (Tr.cM F x.2)=aq 100 (aa bf (Tr.cM F x.2))):=hJ ⟨by rw[PE.v,aJ e0],bP e0⟩;rw[<-HEV.v,FIN.2];go_wp2
   go_ret
   rw[FIN.1,FIN.2,HBX.v];exact⟨rfl,S2.2.1⟩
def BV(b f:Nat)(v:Value):Nat->Prop:=λk=>k=b\/k=f\/v.ownBlock=bB k
theorem cC.Pu{f:Nat}{T:Mo.Tb}(h:cC w VK b f T v):∀g,v.ownBlock=bB g->g≠b:=h.row.Pt h.dk bM
theorem cC.Ec{f:Nat}{T:Mo.Tb}{v':Value}{L:List Mt}(h:w.heap[b]? =bB (bA #[ai (bB ⟨f,0,bC⟩),aa bf T.rt.1,aa bf T.rt.2,v] 229 (0,0)))(r:fG w VK L v')(h6:L.length<=6)(hn:∀g,v'.ownBlock=bB g->g≠b):cC (w.setCell ⟨b,3,bC⟩ v') VK b f ⟨T.rt,L⟩ v':=
 ⟨cT h 3 _,r.same (λg e=>dS _ _ _ _ (hn g e)),h6⟩
theorem Ji(VK b f K:Nat)(T:Mo.Tb)(v:Value)(F:Fo)(x:Wh)(w:bD)(h:cC w VK b f T v)(hF:cv w f F)(hb:Tr.Hb F K)(hK:K<800):
  Calls prog 212 #[ai (bB ⟨b,0,bC⟩),au #[aa bf x.1,aa bf x.2]] w λe w'=>∃(E:Int) (T':Mo.Tb) (F':Fo) (v':Value),e=bw (bS E)/\Mo.B8 F T x E T' F'/\cC w' VK b f T' v'/\cv w' f F'/\dR (BV b f v) w w'/\v'.ownBlock=v.ownBlock:=by
 have HT:=hJ (aK h hF);have HB:=hJ hb;go_in
 go_upto_region 1 with fail
 refine cR (λW'=>WB W' w.heap.size x/\Below w.heap.size w W') ⟨heap_alloc_new w _,(aQ _ _).alloc (aL _) _⟩ ?_;rintro W1 ⟨x1,b1⟩;have c0:=x1.c0;have c1:=x1.c1;have S1:Hid (cC W1 VK b f T v/\cv W1 f F/\dR (BV b f v) w W1):=hJ ⟨HT.1.below b1,HT.2.below b1,dR.cO b1⟩;generalize w.heap.size=bx at*;go_wp2_with fail
 refine(rT VK b f T v x _ S1.1).mono ?_;rintro e W2 ⟨z,rfl,hz,b2⟩;have S2:Hid (cC W2 VK b f T v/\cv W2 f F/\dR (BV b f v) w W2):=hJ ⟨S1.1.below b2,S1.2.1.below b2,S1.2.2.trans (dR.cO b2)⟩;have HZ:=hJ hz;rcases hz.find with⟨i,rfl,il,m,hm,hl⟩|⟨rfl,hl⟩
 .have i0:¬(i:Int)<0:=bG
  obtain⟨M,hM⟩:∃M,T.ms.length=M+1:=⟨T.ms.length-1,bG⟩;have HM:=hJ (aK hM hm);have M5:M<=5:=by have:=S2.1.sF;omega
  have iM:i<=M:=bG
  rcases S2.1.row.form with⟨_,e⟩|⟨g,cap,hv,_,_,_⟩
  .rw[e]at il;simp at il
  .rw[hM]at hv;have HV:=hJ hv;have r:=S2.1.row;rw[hv]at r;have c3:=S2.1.c3;rw[hv]at c3;have d0:W2.cell? ⟨g,i*4,bC⟩=bB (aa bf m.1.1):=r.cell i 0 m hm bG;have d1:W2.cell? ⟨g,i*4+1,bC⟩=bB (aa bf m.1.2):=r.cell i 1 m hm bG;have d2:W2.cell? ⟨g,i*4+2,bC⟩=bB (aa bf m.2.1):=r.cell i 2 m hm bG;have d3:W2.cell? ⟨g,i*4+3,bC⟩=bB (aa bf m.2.2):=r.cell i 3 m hm bG;have iI:(i:Int)<(M:Int)+1:=bG
   go_wp2_with fail
   refine(uO VK b f K T v F m _ S2.1 S2.2.1 HB.v bG).mono ?_;rintro e W3 ⟨rfl,f3,k3⟩;have S3:Hid (cC W3 VK b f T v/\cv W3 f (Mo.jf F m)/\dR (BV b f v) w W3):=hJ ⟨S2.1.j6 S2.2.1 k3,f3,S2.2.2.trans (dR.kP k3 (.inr (.inl rfl)))⟩;have c3:=S3.1.c3;rw[HV.v]at c3;have hw:IntKind.i64.wrap ((i:Int)+1)=(i:Int)+1:=aN _ ⟨by omega,bG⟩;go_wp2_with fail
   refine(Fu VK g cap i M T.ms _ (by have:=S3.1.row;rw[HV.v]at this;exact this) HM.1 iM M5).mono ?_;rintro e W4 ⟨rfl,r4,k4⟩;have gb:g≠b:=S3.1.Pu g (by rw[HV.v];rfl);have gf:g≠f:=(S3.1.ne S3.2.1).2 g (by rw[HV.v];rfl);have B4:W4.heap[b]? =bB (bA #[ai (bB ⟨f,0,bC⟩),aa bf T.rt.1,aa bf T.rt.2,v] 229 (0,0)):=(k4.block b S3.1.lt (bQ gb)).trans S3.1.dk;have FIN:Hid (cC (W4.setCell ⟨b,3,bC⟩ (aj (bB ⟨g,0,bC⟩) M cap)) VK b f ⟨T.rt,T.ms.eraseIdx i⟩ (aj (bB ⟨g,0,bC⟩) M cap)/\cv (W4.setCell ⟨b,3,bC⟩ (aj (bB ⟨g,0,bC⟩) M cap)) f (Mo.jf F m)/\dR (BV b f v) w (W4.setCell ⟨b,3,bC⟩ (aj (bB ⟨g,0,bC⟩) M cap))):=hJ ⟨cC.Ec B4 r4 (by rw[List.length_eraseIdx_of_lt (by have:=HM.1;omega)];have:=HM.1;omega) (λg' e=>by cases e;exact gb),
    (S3.2.1.same (k4.block f S3.2.1.lt (bQ gf))).same (dS _ _ _ _ (bQ (S3.1.ne S3.2.1).1)),
    (S3.2.2.trans (dR.kP k4 (.inr (.inr (by rw[HV.v];rfl))))).setCell (.inl rfl) _ _⟩
   have U:Hid (Mo.B8 F T x 0 ⟨T.rt,T.ms.eraseIdx i⟩ (Mo.jf F m)):=hJ (.inl ⟨i,HZ.v,m,HM.2,rfl,rfl,rfl⟩);have e3:W4.cell? ⟨b,3,bC⟩=bB (aj (bB ⟨g,0,bC⟩) (M+1) cap):=by rw[cA B4,<-HV.v];rfl
   have ef:W4.frozen? ⟨b,3,bC⟩=bF:=cL B4 3;go_wp2
   go_ret
   exact⟨0,_,_,_,rfl,U.v,FIN.1,FIN.2.1,FIN.2.2,by rw[HV.v];rfl⟩
 .have FIN:Hid (Mo.B8 F T x 2 T F):=hJ (.inr ⟨HZ.v,rfl,rfl,rfl⟩);go_wp2
  go_ret
  exact⟨2,T,F,v,rfl,FIN.v,S2.1,S2.2.1,S2.2.2,rfl⟩
def yn(w:bD)(c:Nat)(x y:Wh):Prop:=w.heap[c]? =bB (bA #[aa bf x.1,aa bf x.2,aa bf y.1,aa bf y.2] 224 (0,0))
theorem yn.lt{x y:Wh}(h:yn w c x y):c<w.heap.size:=(aX.1 h).1
theorem yn.below{w':bD}{x y:Wh}(h:yn w c x y)(k:Below w.heap.size w w'):yn w' c x y:=(k.block c h.lt).trans h
def Nw(w:bD)(v v':Value):Prop:=v'.ownBlock=v.ownBlock\/∀g,v'.ownBlock=bB g->w.heap.size<=g
theorem MF(VK b f K:Nat)(T:Mo.Tb)(v:Value)(F:Fo)(x y:Wh)(w:bD)(h:cC w VK b f T v)(hF:cv w f F)(hb:Tr.Hb F K)(hK:K<800)(hbs:VK<=w.heap.size):
  Calls prog 211 #[ai (bB ⟨b,0,bC⟩),au #[aa bf x.1,aa bf x.2],au #[aa bf y.1,aa bf y.2]] w λe w'=>∃v',e=bw (bS (Mo.lF F T x y))/\cC w' VK b f (Mo.zQ F T x y) v'/\cv w' f (Mo.zP F T x y)/\dR (BV b f v) w w'/\Nw w v v':=by
 have HT:=hJ (aK h hF);have HB:=hJ (aK hb hbs);clear h hF hb hbs;obtain⟨i0,z0,hi0,hz0,hz1,hz2,hz3⟩:=Di;have B2:Hid (WB ((w.alloc (bA #[aa bf x.1,aa bf x.2] 224)).alloc (bA #[aa bf y.1,aa bf y.2] 224)) w.heap.size x/\WB ((w.alloc (bA #[aa bf x.1,aa bf x.2] 224)).alloc (bA #[aa bf y.1,aa bf y.2] 224)) (w.heap.size+1) y/\Below w.heap.size w ((w.alloc (bA #[aa bf x.1,aa bf x.2] 224)).alloc (bA #[aa bf y.1,aa bf y.2] 224))):=hJ (by
  refine⟨?_,?_,((aQ _ w).alloc (aL _) _).alloc (by simp) _⟩
  .show((w.heap.push _).push _)[w.heap.size]? =_;simp only[bJ,Array.size_push];rw[nJ,aJ trivial]
  .show((w.heap.push _).push _)[w.heap.size+1]? =_;simp only[bJ,Array.size_push];rw[aJ trivial])
 go_in
 go_upto_region 1 with fail
 refine cR (λW'=>WB W' w.heap.size x/\WB W' (w.heap.size+1) y/\Below w.heap.size w W') B2.v ?_;intro W1 h1;obtain⟨bx,hbx⟩:=hU (w.heap.size);have HBX:=hJ hbx;have LE:Hid (∀W,Below bx w W->bx<=W.heap.size/\cC W VK b f T v/\cv W f F):=hJ (λW h=>by
  have e:=h.size;subst hbx;exact⟨e,HT.1.below h,HT.2.below h⟩)
 rw[hbx]at h1|-;have S1:=hJ h1;clear h1 B2 hbx;have x0:=S1.1.c0;have x1:=S1.1.c1;have y0:=S1.2.1.c0;have y1:=S1.2.1.c1;have A2:Hid (WB (W1.alloc (bA #[aa bf x.1,aa bf x.2,aa bf y.1,aa bf y.2] 224)) bx x/\WB (W1.alloc (bA #[aa bf x.1,aa bf x.2,aa bf y.1,aa bf y.2] 224)) (bx+1) y/\yn (W1.alloc (bA #[aa bf x.1,aa bf x.2,aa bf y.1,aa bf y.2] 224)) W1.heap.size x y/\Below bx w (W1.alloc (bA #[aa bf x.1,aa bf x.2,aa bf y.1,aa bf y.2] 224))):=hJ (by
  have bb:Below W1.heap.size W1 (W1.alloc (bA #[aa bf x.1,aa bf x.2,aa bf y.1,aa bf y.2] 224)):=(aQ _ _).alloc (aL _) _;exact⟨S1.1.below bb,S1.2.1.below bb,heap_alloc_new W1 _,S1.2.2.trans (bb.mono (LE.v _ S1.2.2).1)⟩)
 go_wp2_with fail
 generalize W1.alloc (bA #[aa bf x.1,aa bf x.2,aa bf y.1,aa bf y.2] 224)=W2 at*;generalize W1.heap.size=sx at*;clear x0 x1 y0 y1 S1;go_loopw [8,9,15] (λ_ _ i wr=>∃j:Nat,i=aa bf j/\j<=2/\Hid (WB wr bx x/\WB wr (bx+1) y/\yn wr sx x y/\Below bx w wr/\(0<j->Mo.iH F x=0)/\(1<j->Mo.iH F y=0))) (λ_ _ i _=>2-(intOf i).toNat)
 case atStart=>exact⟨0,rfl,bG,hJ ⟨A2.1,A2.2.1,A2.2.2.1,A2.2.2.2,λh=>aZ h bG,λh=>aZ h bG⟩⟩
 case round=>
  clear A2;obtain⟨j,rfl,hj,S⟩:=hrel;by_cases hlt:j<2
  .have hltI:(j:Int)<2:=bG
   have STEP:Hid (∀q:Wh,(j=0->q=x)->(j=1->q=y)->True):=hJ (λ_ _ _=>trivial);obtain⟨q,hq0,hq1,cq0,cq1⟩:∃q:Wh,(j=0->q=x)/\(j=1->q=y)/\wr.cell? ⟨sx,j*2,bC⟩=bB (aa bf q.1)/\wr.cell? ⟨sx,j*2+1,bC⟩=bB (aa bf q.2):=by
    have p:=S.2.2.1;rcases(show j=0\/j=1 by omega)with rfl|rfl
    .exact⟨x,λ_=>rfl,λh=>bG,cU p 0 _ rfl,cU p 1 _ rfl⟩
    .exact⟨y,λh=>bG,λ_=>rfl,cU p 2 _ rfl,cU p 3 _ rfl⟩
   have HQ:=hJ (aK hq0 hq1);clear hq0 hq1 STEP;go_upto_region 4 with fail
   refine cR (λW'=>WB W' wr.heap.size q/\Below wr.heap.size wr W') ⟨heap_alloc_new wr _,(aQ _ _).alloc (aL _) _⟩ ?_;rintro W3 ⟨q3,b3⟩;have S3:Hid (WB W3 bx x/\WB W3 (bx+1) y/\yn W3 sx x y/\Below bx w W3):=hJ ⟨S.1.below b3,S.2.1.below b3,S.2.2.1.below b3,S.2.2.2.1.trans (b3.mono (LE.v _ S.2.2.2.1).1)⟩;have n0:=q3.c0;have n1:=q3.c1;clear q3 b3 cq0 cq1;generalize wr.heap.size=qx at*;go_wp2_with fail
   refine sC (jS VK b f T v F q _ (LE.v _ S3.2.2.2).2.1 (LE.v _ S3.2.2.2).2.2) ?_;rintro W4 b4;have S4:Hid (WB W4 bx x/\WB W4 (bx+1) y/\yn W4 sx x y/\Below bx w W4):=hJ ⟨S3.1.below b4,S3.2.1.below b4,S3.2.2.1.below b4,S3.2.2.2.trans (b4.mono (LE.v _ S3.2.2.2).1)⟩;clear b4 n0 n1 S3;by_cases e0:Mo.iH F q=0
   .have NX:Hid ((0<j+1->Mo.iH F x=0)/\(1<j+1->Mo.iH F y=0)):=hJ (by
     rcases(show j=0\/j=1 by omega)with rfl|rfl
     .exact⟨λ_=>by rw[<-HQ.1 rfl];exact e0,λh=>bG⟩
     .exact⟨λ_=>S.2.2.2.2.1 bG,λ_=>by rw[<-HQ.2 rfl];exact e0⟩)
    rw[e0,bN];clear e0;go_wp2
    go_roundw
    case rel=>exact⟨j+1,by go_num,bG,hJ ⟨S4.1,S4.2.1,S4.2.2.1,S4.2.2.2,NX.v⟩⟩
    case measure=>simp[intOf];omega
   .have FIN:Hid (Mo.lF F T x y=Mo.iH F q/\bS (Mo.iH F q)=aq 100 (aa bf (Mo.iH F q))/\Mo.zQ F T x y=T/\Mo.zP F T x y=F):=hJ (by
     have e:Mo.lF F T x y=Mo.iH F q:=by
      unfold Mo.lF;rcases(show j=0\/j=1 by omega)with rfl|rfl
      .rw[<-HQ.1 rfl,aJ e0]
      .rw[S.2.2.2.2.1 bG,aI (λd=>d rfl),<-HQ.2 rfl,aJ e0]
     exact⟨e,bP e0,aI (by rw[e];exact e0),aI (by rw[e];exact e0)⟩)
    rw[FIN.2.1];clear e0;go_wp2
    go_ret
    rw[FIN.1,FIN.2.1,FIN.2.2.1,FIN.2.2.2];exact⟨v,rfl,(LE.v _ S4.2.2.2).2.1,(LE.v _ S4.2.2.2).2.2,dR.cO (by rw[HBX.v];exact S4.2.2.2), .inl rfl⟩
  .have hltI:¬(j:Int)<2:=bG
   have WX:Hid (Mo.iH F x=0/\Mo.iH F y=0):=hJ ⟨S.2.2.2.2.1 bG,S.2.2.2.2.2 bG⟩;have x0:=S.1.c0;have x1:=S.1.c1;have y0:=S.2.1.c0;have y1:=S.2.1.c1;have DONE:Hid (∀E:Int,Mo.lF F T x y=E->E≠0->Mo.zQ F T x y=T/\Mo.zP F T x y=F):=hJ (λE e n=>⟨aI (by rw[e];exact n),aI (by rw[e];exact n)⟩);have BE:Hid (Mo.lF F T x y=if x=y then 8 else if(Mo.lk T.ms x).isSome=bE then 3 else if T.ms.length=6 then 4 else 0):=hJ (by unfold Mo.lF;rw[WX.1,WX.2];simp);by_cases exy:x=y
   .have E8:Hid (Mo.lF F T x y=8):=hJ (by rw[BE.v,aJ exy]);have D8:=hJ (DONE.v 8 E8.v bM);have y0':wr.cell? ⟨bx+1,0,bC⟩=bB (aa bf x.1):=by rw[exy];exact y0
    have y1':wr.cell? ⟨bx+1,1,bC⟩=bB (aa bf x.2):=by rw[exy];exact y1
    clear y0 y1 exy;go_wp2
    go_ret
    rw[E8.v,D8.1,D8.2];exact⟨rfl,v,(LE.v _ S.2.2.2.1).2.1,(LE.v _ S.2.2.2.1).2.2,dR.cO (by rw[HBX.v];exact S.2.2.2.1), .inl rfl⟩
   .rw[aI exy]at BE;go_upto_region 8 with fail
    go_cut [26]from 27 to 29 (λs wx=>s=ar bF/\wx=wr)
    case first=>
     by_cases e1:x.1=y.1
     .have e2:¬x.2=y.2:=λe2=>exy (Prod.ext e1 e2);have e2':(x.2==y.2)=bF:=by simpa using e2
      have y0':wr.cell? ⟨bx+1,0,bC⟩=bB (aa bf x.1):=by rw[e1];exact y0
      clear y0 e1;go_wp2
      go_meet
      case rel=>exact⟨rfl,rfl⟩
     .have e1':(x.1==y.1)=bF:=by simpa using e1
      go_wp2
      go_meet
      case rel=>exact⟨rfl,rfl⟩
    case rest=>
     obtain⟨rfl,hwc⟩:=hcut;subst hwc;clear y0 y1 exy;go_wp2_with fail
     refine(rT VK b f T v x _ (LE.v _ S.2.2.2.1).2.1).mono ?_;rintro e W3 ⟨z,rfl,hz,b3⟩;have S3:Hid (WB W3 bx x/\WB W3 (bx+1) y/\Below bx w W3):=hJ ⟨S.1.below b3,S.2.1.below b3,S.2.2.2.1.trans (b3.mono (LE.v _ S.2.2.2.1).1)⟩;clear b3 x0 x1 S;rcases hz.find with⟨i,rfl,il,m,hm,hl⟩|⟨rfl,hl⟩
     .have E3:Hid (Mo.lF F T x y=3):=hJ (by rw[BE.v,hl];rfl);have D3:=hJ (DONE.v 3 E3.v bM);have i0:(0:Int)<=(i:Int):=bG
      clear hz hl hm il;go_wp2
      go_ret
      rw[E3.v,D3.1,D3.2]
      first
       |exact⟨v,rfl,(LE.v _ S3.2.2).2.1,(LE.v _ S3.2.2).2.2,dR.cO (by rw[HBX.v];exact S3.2.2), .inl rfl⟩
       |exact⟨rfl,v,(LE.v _ S3.2.2).2.1,(LE.v _ S3.2.2).2.2,dR.cO (by rw[HBX.v];exact S3.2.2), .inl rfl⟩
     .rw[hl,Option.isSome_none,aI bM]at BE;clear hz hl;have T3:=hJ (LE.v _ S3.2.2).2;obtain⟨va,vc,hv⟩:=T3.1.row.sl;have HV:=hJ hv;have c3:=T3.1.c3;rw[hv]at c3;obtain⟨N,hN⟩:=hU (T.ms.length);have HN:=hJ hN;have N6:N<=6:=by have:=T3.1.sF;omega
      rw[hN]at c3 BE;clear hv hN;by_cases n6:N=6
      .have E4:Hid (Mo.lF F T x y=4):=hJ (by rw[BE.v,aJ n6]);have D4:=hJ (DONE.v 4 E4.v bM);have n6':((N:Int)==6)=bE:=by simp;omega
       clear n6;go_wp2
       go_ret
       rw[E4.v,D4.1,D4.2]
       first
        |exact⟨v,rfl,T3.1,T3.2,dR.cO (by rw[HBX.v];exact S3.2.2), .inl rfl⟩
        |exact⟨rfl,v,T3.1,T3.2,dR.cO (by rw[HBX.v];exact S3.2.2), .inl rfl⟩
      .have E0:Hid (Mo.lF F T x y=0/\Mo.zQ F T x y=⟨T.rt,T.ms++[(x,y)]⟩/\Mo.zP F T x y=Mo.nu F (x,y)):=hJ (by
        have e:Mo.lF F T x y=0:=by rw[BE.v,aI n6]
        exact⟨e,aJ e,aJ e⟩)
       have n6':((N:Int)==6)=bF:=by simp;omega
       have N5:N<=5:=bG
       have x0:=S3.1.c0;have x1:=S3.1.c1;have y0:=S3.2.1.c0;have y1:=S3.2.1.c1;clear n6 BE DONE;go_upto_region 15 with fail
       refine cR (λW'=>MB W' W3.heap.size (x,y)/\Below W3.heap.size W3 W') ⟨heap_alloc_new W3 _,(aQ _ _).alloc (aL _) _⟩ ?_;rintro W4 ⟨m4,b4⟩;have S4:Hid (MB W4 W3.heap.size (x,y)/\Below bx w W4/\cC W4 VK b f T v/\cv W4 f F):=hJ (by
        have bb:=S3.2.2.trans (b4.mono (LE.v _ S3.2.2).1);exact⟨m4,bb,(LE.v _ bb).2⟩)
       have GL:Hid ((∀g,v.ownBlock=bB g->g<W3.heap.size)/\W3.heap.size<W4.heap.size):=hJ ⟨λg e=>(T3.1.row.lt g e).2,m4.lt⟩;clear m4 b4 c3 x0 x1 y0 y1 T3 S3;generalize W3.heap.size=mx at*;have m0:W4.cell? ⟨mx,0,bC⟩=bB (aa bf x.1):=S4.1.c0;have m1:W4.cell? ⟨mx,1,bC⟩=bB (aa bf x.2):=S4.1.c1;have m2:W4.cell? ⟨mx,2,bC⟩=bB (aa bf y.1):=S4.1.c2;have m3:W4.cell? ⟨mx,3,bC⟩=bB (aa bf y.2):=S4.1.c3;have c3:=S4.2.2.1.c3;rw[HV.v,HN.v]at c3;have lb:=S4.2.2.1.lt;have nbb:b≠W4.heap.size:=bG
       have OWN:Hid ((W4.alloc (bA #[aa bf x.1,aa bf x.2,aa bf y.1,aa bf y.2] 273)).drew.ownsRow VK 273 4 (aj va N vc) N (Mo.fT T.ms)):=hJ (by
        have r:=S4.2.2.1.row;unfold fG at r;rw[HV.v,HN.v]at r;exact r.alloc _)
       have NEWS:Hid (∀j u,[aa bf x.1,aa bf x.2,aa bf y.1,aa bf y.2][j]? =bB u->(W4.alloc (bA #[aa bf x.1,aa bf x.2,aa bf y.1,aa bf y.2] 273)).drew.cell? ((⟨W4.heap.size,0,bC⟩:Addr).add j)=bB u):=hJ (World.news_of_block (w:=(W4.alloc (bA #[aa bf x.1,aa bf x.2,aa bf y.1,aa bf y.2] 273)).drew) (heap_alloc_new W4 (bA #[aa bf x.1,aa bf x.2,aa bf y.1,aa bf y.2] 273)));have BASE:Hid (VK<=W4.heap.size):=hJ (by have h1:=(LE.v _ S4.2.1).1;have h2:=HB.2;have h3:=HBX.v;omega);have AFT:Hid (∀g2 cap2 W5,W5.ownsRow VK 273 4 (aj (bB ⟨g2,0,bC⟩) (N+1) cap2) (N+1) (Mo.fT T.ms++[aa bf x.1,aa bf x.2,aa bf y.1,aa bf y.2])->(W4.alloc (bA #[aa bf x.1,aa bf x.2,aa bf y.1,aa bf y.2] 273)).drew.grownBy W5 (aj va N vc).ownBlock->((aj va N vc).ownBlock=bB g2\/g2=W4.heap.size+1)->
         W5.cell? ⟨b,3,bC⟩=bB (aj va N vc)/\W5.frozen? ⟨b,3,bC⟩=bF/\MB (W5.setCell ⟨b,3,bC⟩ (aj (bB ⟨g2,0,bC⟩) (N+1) cap2)) mx (x,y)/\cC (W5.setCell ⟨b,3,bC⟩ (aj (bB ⟨g2,0,bC⟩) (N+1) cap2)) VK b f ⟨T.rt,T.ms++[(x,y)]⟩ (aj (bB ⟨g2,0,bC⟩) (N+1) cap2)/\cv (W5.setCell ⟨b,3,bC⟩ (aj (bB ⟨g2,0,bC⟩) (N+1) cap2)) f F/\dR (BV b f v) w (W5.setCell ⟨b,3,bC⟩ (aj (bB ⟨g2,0,bC⟩) (N+1) cap2))/\Nw w v (aj (bB ⟨g2,0,bC⟩) (N+1) cap2)):=hJ (λg2 cap2 W5 ho hg ha=>by
        have lt:=S4.2.2.1.lt;have gne:=S4.2.2.1.Pu;have fne:=S4.2.2.1.ne S4.2.2.2;rw[HV.v,HN.v]at gne fne;have al:∀k,k<W4.heap.size->(W4.alloc (bA #[aa bf x.1,aa bf x.2,aa bf y.1,aa bf y.2] 273)).heap[k]? =W4.heap[k]? :=λk hk=>((aQ W4.heap.size W4).alloc (aL _) _).block k hk;have bk:∀k,k<W4.heap.size->(∀g,(aj va N vc).ownBlock=bB g->g≠k)->W5.heap[k]? =W4.heap[k]? :=λk hk hn=>(hg.block k (by show k<(W4.alloc _).heap.size;simp;omega) (λe=>hn k e.symm rfl)).trans (al k hk);have B5:=(bk b lt gne).trans S4.2.2.1.dk;have g2b:g2≠b:=by
         rcases ha with e|e
         .exact gne g2 e
         .omega
        have MBne:mx≠b:=ur S4.1 S4.2.2.1.dk bM;have O5:dR (BV b f v) w W5:=by
         have o4:dR (BV b f v) w W4:=dR.cO (by rw[HBX.v];exact S4.2.1);refine o4.trans ⟨hg.os,hg.tape,hg.output,aH (by simp) hg.size,λk hk hn=>bk k hk (λg e h=>?_)⟩;subst h;exact hn (.inr (.inr (by rw[HV.v,HN.v];exact e)))
        refine⟨by rw[cA B5];show bB v=_;rw[HV.v,HN.v],cL B5 3,?_,cC.Ec B5 ?_ ?_ (λg' e=>by cases e;exact g2b),(S4.2.2.2.same (bk f S4.2.2.2.lt fne.2)).same (dS _ _ _ _ (bQ fne.1)),O5.setCell (.inl rfl) _ _,?_⟩
        .exact(dS _ _ _ _ MBne).trans ((bk mx S4.1.lt (λg e=>by have:=GL.1 g (by rw[HV.v,HN.v];exact e);omega)).trans S4.1)
        .unfold fG;rw[Mo.Gy,Mo.QY,List.length_append,List.length_singleton,HN.v];exact ho
        .rw[List.length_append,List.length_singleton,HN.v];omega
        .rcases ha with e|e
         .exact .inl (by rw[HV.v,HN.v];exact e.symm)
         .exact .inr (λg' e'=>by
          cases e';show w.heap.size<=g2;have h1:=(LE.v _ S4.2.1).1;have h2:=HBX.v;omega))
       go_region_law (refine step_append_lies _ rfl (.tmp 52) (.tmp 54) 227 rfl VK 273 i0 z0 4 32 Tryz.underlying227 hi0 hz0 hz1 hz2 hz3 bM (aj va N vc) N (Mo.fT T.ms) (by simp[Act.eval]) OWN.v ⟨W4.heap.size,0,bC⟩ 1 1 [aa bf x.1,aa bf x.2,aa bf y.1,aa bf y.2] (by simp[Act.eval]) rfl NEWS.v (by simp[Value.oneCell']) bM (by unfold maxLen;omega) bG (by have:=BASE.v;simp;omega) (W4.heap.size+1) (by simp) ?_;intro g2 cap2 W5 hown hgrow hat hlt2;obtain⟨e3,ef,A5⟩:=AFT.v g2 cap2 W5 hown hgrow hat;have Q5:=hJ A5;clear A5 hown hgrow hat hlt2)
       all_goals
        generalize W5.setCell ⟨b,3,bC⟩ (aj (bB ⟨g2,0,bC⟩) (N+1) cap2)=W6 at*;have m0:=Q5.1.c0;have m1:=Q5.1.c1;have m2:=Q5.1.c2;have m3:=Q5.1.c3;go_wp2_with fail
        refine sC (tU VK b f K ⟨T.rt,T.ms++[(x,y)]⟩ _ F (x,y) _ Q5.2.1 Q5.2.2.1 HB.1 bG) ?_;rintro W7 ⟨f7,k7⟩;have FIN:Hid (cC W7 VK b f ⟨T.rt,T.ms++[(x,y)]⟩ (aj (bB ⟨g2,0,bC⟩) (N+1) cap2)/\cv W7 f (Mo.nu F (x,y))/\dR (BV b f v) w W7/\Nw w v (aj (bB ⟨g2,0,bC⟩) (N+1) cap2)):=hJ ⟨Q5.2.1.j6 Q5.2.2.1 k7,f7,Q5.2.2.2.1.trans (dR.kP k7 (.inr (.inl rfl))),Q5.2.2.2.2⟩;clear f7 k7 m0 m1 m2 m3;go_wp2
        go_ret
        rw[E0.1,E0.2.1,E0.2.2]
        first
         |exact⟨_,rfl,FIN.v⟩
         |exact⟨rfl,_,FIN.v⟩
namespace Mo
def gS(z:Int)(n:Nat):Nat:=if z=(n:Int)then 1 else 0
theorem rB(n:Nat):gS (n:Int) n=1:=aJ rfl
theorem Al(h:z≠(n:Int)):gS z n=0:=aI h
theorem Ak(z:Int)(n:Nat):gS z n<=1:=by unfold gS;split<;>omega
def mc(L:List Mt)(n:Nat):Nat:=(L.map λm=>gS m.1.2 n+gS m.2.2 n).sum
def tc(T:Mo.Tb)(n:Nat):Nat:=gS T.rt.2 n+mc T.ms n
theorem uU(n:Nat):mc [] n=0:=rfl
theorem nC(m:Mt)(L:List Mt)(n:Nat):mc (m::L) n=gS m.1.2 n+gS m.2.2 n+mc L n:=by simp[mc]
theorem Tj(L M:List Mt)(n:Nat):mc (L++M) n=mc L n+mc M n:=by simp[mc]
theorem Un(L:List Mt)(n:Nat):mc L n<=2*L.length:=by
 induction L with
 |nil=>simp[mc]
 |cons m L ih=>
  rw[nC,List.length_cons];have:=Ak m.1.2 n;have:=Ak m.2.2 n;omega
theorem Oe{L:List Mt}{m:Mt}(h:L[i]? =bB m)(n:Nat):mc L n=gS m.1.2 n+gS m.2.2 n+mc (L.eraseIdx i) n:=by
 induction L generalizing i with
 |nil=>simp at h
 |cons x L ih=>
  cases i with
  |zero=>
   simp only[List.getElem?_cons_zero,Option.some.injEq]at h;subst h;rw[nC];rfl
  |succ i=>
   rw[List.getElem?_cons_succ]at h;rw[nC,ih h,List.eraseIdx_cons_succ,nC];omega
structure HI (F:Fo)(f:Nat->Nat):Prop where
 hd:∀n,n<40->(F.nd n).held=f n
 lv:∀n,n<40->0<f n->(F.nd n).kind≠0
def wO(z:Int):Prop:=∃n:Nat,z=n/\n<40
theorem HI.congr{F:Fo}{g:Nat->Nat}(h:HI F f)(e:∀n,n<40->f n=g n):HI F g:=⟨λn hn=>(h.hd n hn).trans (e n hn),λn hn h0=>h.lv n hn (by rw[e n hn];exact h0)⟩
theorem HI.dO{F:Fo}{f:Nat->Nat}(h:HI F f){z:Int}(hz:Tr.cM F z=0):HI (Tr.dO F z) (λn=>f n+gS z n):=by
 obtain⟨k,rfl,k40,kk⟩:=Tr.ic hz;unfold Tr.dO;rw[aJ hz,hZ];refine⟨λn hn=>?_,λn hn h0=>?_⟩
 .by_cases e:n=k
  .subst e;rw[Tr.bR,rB];show(F.nd n).held+1=_;rw[h.hd n hn]
  .rw[Tr.cr _ _ _ _ e,Al bG];exact h.hd n hn
 .by_cases e:n=k
  .subst e;rw[Tr.bR];exact kk
  .rw[Tr.cr _ _ _ _ e];rw[Al bG]at h0;exact h.lv n hn h0
theorem xO(F:Fo)(k n:Nat):((Tr.mj F k).nd n).held=(F.nd n).held:=by
 unfold Tr.mj;split
 .rename_i c;by_cases e:n=k
  .subst e;rw[Tr.bR];exact c.2.symm
  .rw[Tr.cr _ _ _ _ e]
 .rfl
theorem El(F:Fo)(k n:Nat)(h:0<(F.nd n).held):((Tr.mj F k).nd n).kind=(F.nd n).kind:=by
 unfold Tr.mj;split
 .rename_i c;by_cases e:n=k
  .subst e;omega
  .rw[Tr.cr _ _ _ _ e]
 .rfl
theorem HI.dF{F:Fo}{f:Nat->Nat}{z:Int}(h:HI F (λn=>f n+gS z n))(hz:wO z):HI (Tr.dF F z) f:=by
 obtain⟨k,rfl,k40⟩:=hz;have hk:=h.hd k k40;rw[rB]at hk;have e0:Tr.letE F (k:Int)=0:=by
  unfold Tr.letE;have:Tr.cM F (k:Int)=0:=by
   unfold Tr.cM;rw[nJ,hZ,aI (h.lv k k40 (by rw[rB];omega))]
  rw[aJ this,hZ,nJ]
 unfold Tr.dF;rw[aJ e0,hZ];have hd:∀n,n<40->((F.put k {F.nd k with held:=(F.nd k).held-1}).nd n).held=f n:=λn hn=>by
  by_cases e:n=k
  .subst e;rw[Tr.bR];show(F.nd n).held-1=f n;omega
  .rw[Tr.cr _ _ _ _ e,h.hd n hn,Al bG];rfl
 refine⟨λn hn=>by rw[xO];exact hd n hn,λn hn h0=>?_⟩;rw[El _ _ _ (by rw[hd n hn];exact h0)];by_cases e:n=k
 .subst e;rw[Tr.bR];exact h.lv n hn bG
 .rw[Tr.cr _ _ _ _ e];exact h.lv n hn bG
def Rg(T:Mo.Tb):Prop:=wO T.rt.2/\∀m∈T.ms,wO m.1.2/\wO m.2.2
theorem J9{F:Fo}{m:Mt}(h:HI F f)(h1:Tr.cM F m.1.2=0)(h2:Tr.cM F m.2.2=0):HI (nu F m) (λn=>f n+gS m.1.2 n+gS m.2.2 n):=by
 have a:=h.dO h1;refine a.dO ?_;obtain⟨k,e,k40,kk⟩:=Tr.ic h2;rw[e];unfold Tr.cM;rw[nJ,hZ,aI];unfold Tr.dO;rw[aJ h1];by_cases c:k=m.1.2.toNat
 .rw[c,Tr.bR];rw[<-c];exact kk
 .rw[Tr.cr _ _ _ _ c];exact kk
theorem KT{F:Fo}{m:Mt}(h:HI F (λn=>f n+gS m.1.2 n+gS m.2.2 n))(h1:wO m.1.2)(h2:wO m.2.2):HI (jf F m) f:=
 HI.dF (HI.dF (f:=λn=>f n+gS m.2.2 n) (h.congr (λn _=>bG)) h1) h2
theorem KQ{F:Fo}{T:Mo.Tb}(h:HI F (λn=>f n+tc T n))(hr:Rg T):HI (lA F T) f:=by
 have a:HI (Tr.dF F T.rt.2) (λn=>f n+mc T.ms n):=HI.dF (h.congr (λn _=>by unfold tc;omega)) hr.1;have b:∀(L:List Mt) (G:Fo),HI G (λn=>f n+mc L n)->(∀m∈L,wO m.1.2/\wO m.2.2)->HI (L.foldl jf G) f:=λL=>by
  induction L with
  |nil=>exact λG hG _=>hG.congr (λn _=>by rw[uU];omega)
  |cons m L ih=>
   intro G hG hm;refine ih (jf G m) (KT (hG.congr (λn _=>by rw[nC];omega)) (hm m (by simp)).1 (hm m (by simp)).2) (λx hx=>hm x (by simp[hx]))
 exact b _ _ a hr.2
theorem nv{F:Fo}{y:Int}(h:Tr.cM F y=0):Tr.cM (Tr.dO F z) y=0:=by
 obtain⟨k,rfl,k40,kk⟩:=Tr.ic h;unfold Tr.cM;rw[nJ,hZ,aI];unfold Tr.dO;split
 .by_cases c:k=z.toNat
  .rw[c,Tr.bR];rw[<-c];exact kk
  .rw[Tr.cr _ _ _ _ c];exact kk
 .exact kk
theorem SF{F:Fo}{T:Mo.Tb}(h:HI F f)(hr:Tr.cM F T.rt.2=0)(hm:∀m∈T.ms,Tr.cM F m.1.2=0/\Tr.cM F m.2.2=0):HI (nQ F T) (λn=>f n+tc T n):=by
 have b:∀(L:List Mt) (G:Fo) (g:Nat->Nat),HI G g->(∀m∈L,Tr.cM G m.1.2=0/\Tr.cM G m.2.2=0)->HI (L.foldl nu G) (λn=>g n+mc L n):=λL=>by
  induction L with
  |nil=>exact λG g hG _=>hG.congr (λn _=>by rw[uU];omega)
  |cons m L ih=>
   intro G g hG hm;refine(ih (nu G m) _ (J9 hG (hm m (by simp)).1 (hm m (by simp)).2) (λx hx=>?_)).congr (λn _=>by rw[nC];omega);exact⟨nv (nv (hm x (by simp[hx])).1),nv (nv (hm x (by simp[hx])).2)⟩
 exact(b T.ms _ _ (h.dO hr) (λm hx=>⟨nv (hm m hx).1,nv (hm m hx).2⟩)).congr (λn _=>by unfold tc;omega)
theorem Uw(T:Mo.Tb)(h6:T.ms.length<=6)(n:Nat):tc T n<=13:=by
 have:=Ak T.rt.2 n;have:=Un T.ms n;unfold tc;omega
theorem zE{F:Fo}{x:Wh}(h:iH F x=0):Tr.cM F x.2=0:=by
 unfold iH at h;by_cases c:Tr.cM F x.2=0
 .exact c
 .rw[aJ c]at h;exact h
theorem Sb{F:Fo}{T:Mo.Tb}{x y:Wh}(h:lF F T x y=0):iH F x=0/\iH F y=0/\T.ms.length≠6:=by
 unfold lF at h;by_cases c1:iH F x=0
 .rw[c1,aI (λd=>d rfl)]at h;by_cases c2:iH F y=0
  .rw[c2,aI (λd=>d rfl)]at h;refine⟨c1,c2,λc3=>?_⟩;by_cases c4:x=y
   .rw[aJ c4]at h;omega
   .rw[aI c4]at h;by_cases c5:(lk T.ms x).isSome=bE
    .rw[aJ c5]at h;omega
    .rw[aI c5,aJ c3]at h;omega
  .rw[aJ c2]at h;exact aZ h c2
 .rw[aJ c1]at h;exact aZ h c1
theorem xA{F:Fo}(h:Tr.cM F z=0):wO z:=by
 obtain⟨n,e,hn,_⟩:=Tr.ic h;exact⟨n,e,hn⟩
theorem KR{F:Fo}{T:Mo.Tb}(h:Tr.Ok F):Tr.Ok (lA F T):=by
 have:∀(L:List Mt) (G:Fo),Tr.Ok G->Tr.Ok (L.foldl jf G):=λL=>by
  induction L with
  |nil=>exact λ_ h=>h
  |cons m L ih=>exact λG h=>ih _ ((h.dF _).dF _)
 exact this _ _ (h.dF _)
theorem uR(F:Fo)(z:Int):(Tr.dF F z).root=F.root/\(Tr.dF F z).trees=F.trees:=by
 unfold Tr.dF Tr.mj
 repeat' split
 all_goals exact⟨rfl,rfl⟩
theorem Dv(F:Fo)(T:Mo.Tb):(lA F T).root=F.root/\(lA F T).trees=F.trees:=by
 have:∀(L:List Mt) (G:Fo),(L.foldl jf G).root=G.root/\(L.foldl jf G).trees=G.trees:=λL=>by
  induction L with
  |nil=>exact λG=>⟨rfl,rfl⟩
  |cons m L ih=>
   intro G;have a:=ih (jf G m);have b1:=uR G m.1.2;have b2:=uR (Tr.dF G m.1.2) m.2.2;exact⟨a.1.trans (b2.1.trans b1.1),a.2.trans (b2.2.trans b1.2)⟩
 have a:=this T.ms (Tr.dF F T.rt.2);have b:=uR F T.rt.2;exact⟨a.1.trans b.1,a.2.trans b.2⟩
theorem I6{F:Fo}(h:Tr.Ok F){t:Int}(e0:Tr.gG F t=0):Tr.cM F (Tr.fW F t)=0:=by
 have:0<=t/\t<=3/\t.toNat<F.trees:=by
  unfold Tr.gG at e0;by_cases c:t<0\/3<t
  .rw[aJ c]at e0;omega
  .rw[aI c]at e0;by_cases d:F.trees<=t.toNat
   .rw[aJ d]at e0;omega
   .omega
 have r:=h.rt t.toNat this.2.2;unfold Tr.fW;rw[aJ e0];unfold Tr.cM;rw[nJ,hZ,nJ]
end Mo
open Mv (Me Bk)
open Sg (S1)
open Fx (Fi)
open Pp (Pi)
namespace Kn
structure Pr where
 st:Nat
 par:Int
 cJ:Int
 code:Int
 fd:Nat->Int
 has:Bool
 mem:Me
 box:Nat->S1
def Pr.no:Pr:=⟨0,0,0,0,λ_=>0,bF,Mv.j5,Sg.gC⟩
structure Kp where
 p:Nat->Pr
 ht:Nat->Bool
 tb:Nat->Mo.Tb
 sp:Sp.T
 gr:Nat->Gr.Gp
 sc:Wf.M
 bk:Bk
 fo:Fo
 pi:Nat->Pi
 fi:Nat->Fi
def Kp.put(k:Kp)(n:Nat)(x:Pr):Kp:={k with p:=λm=>if m=n then x else k.p m}
theorem bR(k:Kp)(n:Nat)(x:Pr):(k.put n x).p n=x:=aJ rfl
theorem cr(k:Kp)(n m:Nat)(x:Pr)(h:m≠n):(k.put n x).p m=k.p m:=aI h
structure St where
 A:Nat->Nat
 V:Nat->Value
 k:Kp
def us(s:St)(i:Nat):Prop:=i<9\/(9<=i/\i<29/\(s.k.p (i-9)).has=bE)\/(29<=i/\i<49/\(s.k.p (i-29)).has=bE)\/(49<=i/\i<55/\s.k.ht (i-49)=bE)\/(55<=i/\i<61/\s.k.ht (i-55)=bE/\(s.V (i-55)).ownBlock≠bC)
theorem jb{s:St}(hn:n<20)(h:(s.k.p n).has=bE):us s (9+n):= .inr (.inl ⟨by omega,bG,by rw[show 9+n-9=n by omega];exact h⟩)
theorem jY{s:St}(hn:n<20)(h:(s.k.p n).has=bE):us s (29+n):= .inr (.inr (.inl ⟨by omega,bG,by rw[show 29+n-29=n by omega];exact h⟩))
theorem kv{s:St}(hn:n<6)(h:s.k.ht n=bE):us s (49+n):= .inr (.inr (.inr (.inl ⟨by omega,bG,by rw[show 49+n-49=n by omega];exact h⟩)))
theorem jZ{s:St}(hn:n<6)(h:s.k.ht n=bE)(e:(s.V n).ownBlock=bB g):us s (55+n):= .inr (.inr (.inr (.inr ⟨by omega,bG,by rw[show 55+n-55=n by omega];exact h,by rw[show 55+n-55=n by omega,e];simp⟩)))
def KB(s:St)(b:Nat):Prop:=∃i,us s i/\b=s.A i
def ptr(b:Nat)(on:Bool):Value:=if on then ai (bB ⟨b,0,bC⟩)else ai bC
def fB(a b:Nat)(x:Pr)(j:Nat):Value:=
 if j=0 then aa bf (x.st:Int)else if j=1 then aa bf x.par else if j=2 then aa bf x.cJ else if j=3 then aa bf x.code
 else if j=4 then ptr a x.has else if j=5 then ptr b x.has else aa bf (x.fd (j-6))
def pc(s:St)(n j:Nat):Value:=fB (s.A (9+n)) (s.A (29+n)) (s.k.p n) j
def kc(s:St)(o:Nat):Value:=if o<240 then pc s (o/12) (o%12)else if o<246 then ptr (s.A (49+(o-240))) (s.k.ht (o-240))else if o<250 then ai (bB ⟨s.A (o-245),0,bC⟩)else ai (bB ⟨s.A (o-244),0,bC⟩)
end Kn
open Kn (Pr Kp St us KB)
structure bT (w:bD)(VK:Nat)(s:St):Prop where
 mL:∃C,w.heap[s.A 0]? =bB (bA C 86 (0,0))/\C.size=253
 eF:∀o,o<253->w.cell? ⟨s.A 0,o,bC⟩=bB (Kn.kc s o)
 sp:Tb bE w (s.A 1) s.k.sp
 gr:Gr.cC w (s.A 2) s.k.gr
 sc:Wf.Fair w (s.A 3) s.k.sc
 bk:dN w (s.A 4) (s.A 5) s.k.bk
 fi:eI w (s.A 8) (s.A 6) (s.A 7) s.k.fi
 fo:cv w (s.A 6) s.k.fo
 pi:dU w (s.A 7) s.k.pi
 me:∀n,n<20->(s.k.p n).has=bE->du w (s.A (9+n)) (s.A 4) (s.k.p n).mem
 bx:∀n,n<20->(s.k.p n).has=bE->CX w (s.A (29+n)) (s.k.p n).box
 tb:∀n,n<6->s.k.ht n=bE->cC w VK (s.A (49+n)) (s.A 6) (s.k.tb n) (s.V n)
 ro:∀n,n<6->s.k.ht n=bE->∀g,(s.V n).ownBlock=bB g->s.A (55+n)=g
 inj:∀i j,us s i->us s j->s.A i=s.A j->i=j
 low:∀i,us s i->VK<=s.A i
section
variable {w w':bD}{VK:Nat}{s s':St}
theorem bT.lt(h:bT w VK s){i:Nat}(hi:us s i):s.A i<w.heap.size:=by
 rcases hi with hi|⟨h1,h2,h3⟩|⟨h1,h2,h3⟩|⟨h1,h2,h3⟩|⟨h1,h2,h3,h4⟩
 .match i,hi with
  |0,_=>obtain⟨C,e,_⟩:=h.mL;exact(aX.1 e).1
  |1,_=>exact h.sp.lt
  |2,_=>exact h.gr.lt
  |3,_=>exact h.sc.lt
  |4,_=>exact h.bk.lt
  |5,_=>exact h.bk.DB
  |6,_=>exact h.fo.lt
  |7,_=>exact h.pi.lt
  |8,_=>exact h.fi.lt
 .have:=(h.me (i-9) bG h3).lt;rwa [show 9+(i-9)=i by omega]at this
 .have:=(h.bx (i-29) bG h3).lt;rwa [show 29+(i-29)=i by omega]at this
 .have:=(h.tb (i-49) bG h3).lt;rwa [show 49+(i-49)=i by omega]at this
 .cases e:(s.V (i-55)).ownBlock with
  |none=>exact aZ e h4
  |some g=>
   have a:=h.ro (i-55) bG h3 g e;have b:=((h.tb (i-55) bG h3).row.lt g e).2;rw[show 55+(i-55)=i by omega]at a;rw[a];exact b
theorem bT.UR(h:bT w VK s)(hb:KB s b):b<w.heap.size:=by obtain⟨i,hi,rfl⟩:=hb;exact h.lt hi
theorem bT.Tc(h:bT w VK s)(hb:KB s b):VK<=b:=by obtain⟨i,hi,rfl⟩:=hb;exact h.low i hi
theorem bT.ne(h:bT w VK s)(hi:us s i)(hj:us s j)(n:i≠j):s.A i≠s.A j:=λe=>n (h.inj i j hi hj e)
theorem bT.frozen(h:bT w VK s)(o:Nat):w.frozen? ⟨s.A 0,o,bC⟩=bF:=by obtain⟨C,h1,_⟩:=h.mL;exact cL h1 o
theorem bT.same(h:bT w VK s)(e:∀i,us s i->w'.heap[s.A i]? =w.heap[s.A i]?):bT w' VK s:=by
 have e0:=e 0 (.inl bG);exact⟨by rw[e0];exact h.mL,λo ho=>(aV e0).trans (h.eF o ho),h.sp.same (e 1 (.inl bG)),(e 2 (.inl bG)).trans h.gr,h.sc.same (e 3 (.inl bG)),h.bk.same (e 4 (.inl bG)) (e 5 (.inl bG)),h.fi.same (e 8 (.inl bG)),h.fo.same (e 6 (.inl bG)),h.pi.same (e 7 (.inl bG)),
  λn hn hh=>(h.me n hn hh).same (e _ (Kn.jb hn hh)),λn hn hh=>(h.bx n hn hh).same (e _ (Kn.jY hn hh)),
  λn hn hh=>(h.tb n hn hh).same (e _ (Kn.kv hn hh)) (λg eg=>by have:=e _ (Kn.jZ hn hh eg);rwa [h.ro n hn hh g eg]at this),h.ro,h.inj,h.low⟩
theorem bT.below(h:bT w VK s)(k:Below w.heap.size w w'):bT w' VK s:=h.same (λ_ hi=>k.block _ (h.lt hi))
theorem bT.drew(h:bT w VK s):bT w.drew VK s:=h.same (λ_ _=>rfl)
theorem bT.drewN(h:bT w VK s)(n:Nat):bT (w.drewN n) VK s:=h.same (λ_ _=>rfl)
end
structure KF (s:St)(w:bD)(s':St)(w':bD):Prop where
 ie:dR (KB s) w w'
 sub:∀b,KB s' b->KB s b\/w.heap.size<=b
 a0:s'.A 0=s.A 0
section
variable {s s1 s2:St}{w w1 w2:bD}{VK:Nat}
theorem KF.refl(s:St)(w:bD):KF s w s w:=⟨dR.refl _ _,λ_ h=> .inl h,rfl⟩
theorem KF.trans(h:KF s w s1 w1)(k:KF s1 w1 s2 w2):KF s w s2 w2:=
 ⟨⟨k.ie.os.trans h.ie.os,k.ie.tape.trans h.ie.tape,k.ie.output.trans h.ie.output,aH h.ie.size k.ie.size,λb hb hn=>(k.ie.block b (aD hb h.ie.size) (λc=>(h.sub b c).elim hn (λc=>bG))).trans (h.ie.block b hb hn)⟩,
  λb hb=>(k.sub b hb).elim (h.sub b) (λc=> .inr (aH h.ie.size c)),k.a0.trans h.a0⟩
theorem KF.below(h:Below w.heap.size w w1):KF s w s w1:=⟨dR.cO h,λ_ h=> .inl h,rfl⟩
theorem KF.drew(s:St)(w:bD):KF s w s w.drew:=KF.below ((aQ _ _).drew)
theorem KF.behind(h:KF s w s1 w1)(hk:bT w VK s){t:bD}{B:Nat}(b:Below B t w)(hB:B<=VK)(hs:B<=w.heap.size):Below B t w1:=h.ie.behind b (λ_ c=>aH hB (hk.Tc c)) hs
theorem KF.jl(h:KF s w s1 w1)(hc:c<w.heap.size)(hn:¬KB s c):w1.heap[c]? =w.heap[c]? :=h.ie.block c hc hn
theorem KF.apart(h:KF s w s1 w1)(hc:c<w.heap.size)(hn:¬KB s c):¬KB s1 c:=λd=>(h.sub c d).elim hn (λe=>bG)
end
section
variable {w w':bD}{VK:Nat}{s s':St}
theorem cE{s:St}(h:i<9:=by omega):us s i:= .inl h
theorem Kn.U5(s:St)(n j:Nat)(hn:n<20)(hj:j<12):Kn.kc s (n*12+j)=Kn.pc s n j:=by
 unfold Kn.kc;rw[nK,show(n*12+j)/12=n by omega,show(n*12+j)%12=j by omega]
theorem bT.cP(h:bT w VK s)(n j:Nat)(hn:n<20)(hj:j<12):w.cell? ⟨s.A 0,n*12+j,bC⟩=bB (Kn.pc s n j):=by rw[h.eF _ bG,Kn.U5 s n j hn hj]
theorem bT.uB(h:bT w VK s)(n:Nat)(hn:n<20):w.cell? ⟨s.A 0,n*12,bC⟩=bB (aa bf ((s.k.p n).st:Int)):=h.cP n 0 hn bG
theorem bT.uA(h:bT w VK s)(n:Nat)(hn:n<20):w.cell? ⟨s.A 0,n*12+1,bC⟩=bB (aa bf (s.k.p n).par):=h.cP n 1 hn bG
theorem bT.qj(h:bT w VK s)(n:Nat)(hn:n<20):w.cell? ⟨s.A 0,n*12+2,bC⟩=bB (aa bf (s.k.p n).cJ):=h.cP n 2 hn bG
theorem bT.Pc(h:bT w VK s)(n:Nat)(hn:n<20):w.cell? ⟨s.A 0,n*12+3,bC⟩=bB (aa bf (s.k.p n).code):=h.cP n 3 hn bG
theorem bT.rM(h:bT w VK s)(n:Nat)(hn:n<20)(hh:(s.k.p n).has=bE):w.cell? ⟨s.A 0,n*12+4,bC⟩=bB (ai (bB ⟨s.A (9+n),0,bC⟩)):=by rw[h.cP n 4 hn bG];unfold Kn.pc Kn.fB;rw[hh];rfl
theorem bT.sX(h:bT w VK s)(n:Nat)(hn:n<20)(hh:(s.k.p n).has=bE):w.cell? ⟨s.A 0,n*12+5,bC⟩=bB (ai (bB ⟨s.A (29+n),0,bC⟩)):=by rw[h.cP n 5 hn bG];unfold Kn.pc Kn.fB;rw[hh];rfl
theorem bT.qi(h:bT w VK s)(n f:Nat)(hn:n<20)(hf:f<6):w.cell? ⟨s.A 0,n*12+6+f,bC⟩=bB (aa bf ((s.k.p n).fd f)):=by
 rw[Nat.add_assoc,h.cP n (6+f) hn bG];unfold Kn.pc Kn.fB;rw[nJ,nJ,nJ,nJ,nJ,nJ,show 6+f-6=f by omega]
theorem bT.MJ(h:bT w VK s)(n:Nat)(hn:n<6)(hh:s.k.ht n=bE):w.cell? ⟨s.A 0,240+n,bC⟩=bB (ai (bB ⟨s.A (49+n),0,bC⟩)):=by
 rw[h.eF _ bG];unfold Kn.kc;rw[nJ,nK,show 240+n-240=n by omega,hh];rfl
theorem bT.yD(h:bT w VK s):w.cell? ⟨s.A 0,246,bC⟩=bB (ai (bB ⟨s.A 1,0,bC⟩)):=h.eF 246 bG
theorem bT.pP(h:bT w VK s):w.cell? ⟨s.A 0,247,bC⟩=bB (ai (bB ⟨s.A 2,0,bC⟩)):=h.eF 247 bG
theorem bT.yC(h:bT w VK s):w.cell? ⟨s.A 0,248,bC⟩=bB (ai (bB ⟨s.A 3,0,bC⟩)):=h.eF 248 bG
theorem bT.Vr(h:bT w VK s):w.cell? ⟨s.A 0,249,bC⟩=bB (ai (bB ⟨s.A 4,0,bC⟩)):=h.eF 249 bG
theorem bT.wI(h:bT w VK s):w.cell? ⟨s.A 0,250,bC⟩=bB (ai (bB ⟨s.A 6,0,bC⟩)):=h.eF 250 bG
theorem bT.tT(h:bT w VK s):w.cell? ⟨s.A 0,252,bC⟩=bB (ai (bB ⟨s.A 8,0,bC⟩)):=h.eF 252 bG
theorem bT.others(h:bT w VK s)(hj:us s j)(f:bO (s.A j) w w'):∀i,us s i->i≠j->w'.heap[s.A i]? =w.heap[s.A i]? :=λ_ hi n=>f.block _ (h.lt hi) (h.ne hi hj n)
theorem KF.one(s':St)(hj:us s j)(f:bO (s.A j) w w')(hA:s'.A=s.A)(hu:∀i,us s' i->us s i):KF s w s' w':=⟨dR.kP f ⟨j,hj,rfl⟩,λb ⟨i,hi,e⟩=> .inl ⟨i,hu i hi,by rw[e,hA]⟩,by rw[hA]⟩
theorem Gr.bO.sI(f:Gr.bO b w w'):Go.Proofs.YtpmmdkcfenjiaaaGreatDoor.bO b w w':=⟨f.os,f.tape,f.output,f.size,f.block⟩
theorem bT.yY(h:bT w VK s){t:Sp.T}(u:Tb bE w' (s.A 1) t)(f:bO (s.A 1) w w'):bT w' VK {s with k:={s.k with sp:=t}}/\KF s w {s with k:={s.k with sp:=t}} w':=by
 have o:=h.others cE f;refine⟨⟨by rw[o 0 cE bG];exact h.mL,λx hx=>(aV (o 0 cE bG)).trans (h.eF x hx),u,(o 2 cE bG).trans h.gr,h.sc.same (o 3 cE bG),h.bk.same (o 4 cE bG) (o 5 cE bG),h.fi.same (o 8 cE bG),h.fo.same (o 6 cE bG),h.pi.same (o 7 cE bG),
  λn hn hh=>(h.me n hn hh).same (o _ (Kn.jb hn hh) bG),λn hn hh=>(h.bx n hn hh).same (o _ (Kn.jY hn hh) bG),
  λn hn hh=>(h.tb n hn hh).same (o _ (Kn.kv hn hh) bG) (λg eg=>by have:=o _ (Kn.jZ hn hh eg) bG;rwa [h.ro n hn hh g eg]at this),h.ro,h.inj,h.low⟩,KF.one _ cE f rfl (λ_ hi=>hi)⟩
theorem bT.j8(h:bT w VK s){t:Nat->Gr.Gp}(u:Gr.cC w' (s.A 2) t)(f:bO (s.A 2) w w'):bT w' VK {s with k:={s.k with gr:=t}}/\KF s w {s with k:={s.k with gr:=t}} w':=by
 have o:=h.others cE f;refine⟨⟨by rw[o 0 cE bG];exact h.mL,λx hx=>(aV (o 0 cE bG)).trans (h.eF x hx),h.sp.same (o 1 cE bG),u,h.sc.same (o 3 cE bG),h.bk.same (o 4 cE bG) (o 5 cE bG),h.fi.same (o 8 cE bG),h.fo.same (o 6 cE bG),h.pi.same (o 7 cE bG),
  λn hn hh=>(h.me n hn hh).same (o _ (Kn.jb hn hh) bG),λn hn hh=>(h.bx n hn hh).same (o _ (Kn.jY hn hh) bG),
  λn hn hh=>(h.tb n hn hh).same (o _ (Kn.kv hn hh) bG) (λg eg=>by have:=o _ (Kn.jZ hn hh eg) bG;rwa [h.ro n hn hh g eg]at this),h.ro,h.inj,h.low⟩,KF.one _ cE f rfl (λ_ hi=>hi)⟩
theorem bT.lC(h:bT w VK s){t:Wf.M}(u:Wf.Fair w' (s.A 3) t)(f:bO (s.A 3) w w'):bT w' VK {s with k:={s.k with sc:=t}}/\KF s w {s with k:={s.k with sc:=t}} w':=by
 have o:=h.others cE f;refine⟨⟨by rw[o 0 cE bG];exact h.mL,λx hx=>(aV (o 0 cE bG)).trans (h.eF x hx),h.sp.same (o 1 cE bG),(o 2 cE bG).trans h.gr,u,h.bk.same (o 4 cE bG) (o 5 cE bG),h.fi.same (o 8 cE bG),h.fo.same (o 6 cE bG),h.pi.same (o 7 cE bG),
  λn hn hh=>(h.me n hn hh).same (o _ (Kn.jb hn hh) bG),λn hn hh=>(h.bx n hn hh).same (o _ (Kn.jY hn hh) bG),
  λn hn hh=>(h.tb n hn hh).same (o _ (Kn.kv hn hh) bG) (λg eg=>by have:=o _ (Kn.jZ hn hh eg) bG;rwa [h.ro n hn hh g eg]at this),h.ro,h.inj,h.low⟩,KF.one _ cE f rfl (λ_ hi=>hi)⟩
theorem bT.Cm(h:bT w VK s){F:Fo}(u:cv w' (s.A 6) F)(f:bO (s.A 6) w w'):bT w' VK {s with k:={s.k with fo:=F}}/\KF s w {s with k:={s.k with fo:=F}} w':=by
 have o:=h.others cE f;refine⟨⟨by rw[o 0 cE bG];exact h.mL,λx hx=>(aV (o 0 cE bG)).trans (h.eF x hx),h.sp.same (o 1 cE bG),(o 2 cE bG).trans h.gr,h.sc.same (o 3 cE bG),h.bk.same (o 4 cE bG) (o 5 cE bG),h.fi.same (o 8 cE bG),u,h.pi.same (o 7 cE bG),
  λn hn hh=>(h.me n hn hh).same (o _ (Kn.jb hn hh) bG),λn hn hh=>(h.bx n hn hh).same (o _ (Kn.jY hn hh) bG),
  λn hn hh=>(h.tb n hn hh).same (o _ (Kn.kv hn hh) bG) (λg eg=>by have:=o _ (Kn.jZ hn hh eg) bG;rwa [h.ro n hn hh g eg]at this),h.ro,h.inj,h.low⟩,KF.one _ cE f rfl (λ_ hi=>hi)⟩
theorem bT.fx(h:bT w VK s):FX w (s.A 8) (s.A 6) (s.A 7) s.k.fi s.k.fo s.k.pi:=⟨h.fi,h.fo,h.pi,h.ne cE cE bG,h.ne cE cE bG,h.ne cE cE bG⟩
theorem bT.wo(h:bT w VK s){T:Nat->Fi}{F:Fo}{S:Nat->Pi}(u:FX w' (s.A 8) (s.A 6) (s.A 7) T F S)(f:dK (s.A 8) (s.A 6) (s.A 7) w w'):bT w' VK {s with k:={s.k with fi:=T,fo:=F,pi:=S}}/\KF s w {s with k:={s.k with fi:=T,fo:=F,pi:=S}} w':=by
 have o:∀i,us s i->i≠8->i≠6->i≠7->w'.heap[s.A i]? =w.heap[s.A i]? :=λi hi a b c=>f.block _ (h.lt hi) (h.ne hi cE a) (h.ne hi cE b) (h.ne hi cE c);refine⟨⟨by rw[o 0 cE bG bG bG];exact h.mL,λx hx=>(aV (o 0 cE bG bG bG)).trans (h.eF x hx),h.sp.same (o 1 cE bG bG bG),(o 2 cE bG bG bG).trans h.gr,h.sc.same (o 3 cE bG bG bG),h.bk.same (o 4 cE bG bG bG) (o 5 cE bG bG bG),u.1,u.2.1,u.2.2.1,
  λn hn hh=>(h.me n hn hh).same (o _ (Kn.jb hn hh) bG bG bG),λn hn hh=>(h.bx n hn hh).same (o _ (Kn.jY hn hh) bG bG bG),
  λn hn hh=>(h.tb n hn hh).same (o _ (Kn.kv hn hh) bG bG bG) (λg eg=>by have:=o _ (Kn.jZ hn hh eg) bG bG bG;rwa [h.ro n hn hh g eg]at this),h.ro,h.inj,h.low⟩,
  ⟨⟨f.os,f.tape,f.output,f.size,λb hb hn=>f.block b hb (λe=>hn ⟨8,cE,e⟩) (λe=>hn ⟨6,cE,e⟩) (λe=>hn ⟨7,cE,e⟩)⟩,λb hb=> .inl hb,rfl⟩⟩
theorem bT.ub(h:bT w VK s)(hn:n<20)(hh:(s.k.p n).has=bE):UB w (s.A (9+n)) (s.A 4) (s.A 5) (s.k.p n).mem s.k.bk:=⟨h.me n hn hh,h.bk,h.ne (Kn.jb hn hh) cE bG,h.ne (Kn.jb hn hh) cE bG⟩
def Kn.cV(k:Kp)(n:Nat)(m:Me)(b:Bk):Kp:={k.put n {k.p n with mem:=m}with bk:=b}
theorem Kn.L9{s:St}{x:Pr}(hx:x.has=(s.k.p n).has)(b:Bk)(i:Nat):us {s with k:={s.k.put n x with bk:=b}} i↔us s i:=by
 have e:∀j,((s.k.put n x).p j).has=(s.k.p j).has:=λj=>by
  by_cases c:j=n
  .rw[c,Kn.bR,hx]
  .rw[Kn.cr _ _ _ _ c]
 unfold us;show(_\/(_/\_/\((s.k.put n x).p _).has=bE)\/(_/\_/\((s.k.put n x).p _).has=bE)\/_\/_)↔_;rw[e,e];exact Iff.rfl
theorem bT.yX(h:bT w VK s)(hn:n<20)(hh:(s.k.p n).has=bE){m:Me}{b:Bk}(u:UB w' (s.A (9+n)) (s.A 4) (s.A 5) m b)(f:fX (s.A (9+n)) (s.A 4) (s.A 5) w w'):bT w' VK {s with k:=Kn.cV s.k n m b}/\KF s w {s with k:=Kn.cV s.k n m b} w':=by
 have o:∀i,us s i->i≠9+n->i≠4->i≠5->w'.heap[s.A i]? =w.heap[s.A i]? :=λi hi a b c=>f.block _ (h.lt hi) (h.ne hi (Kn.jb hn hh) a) (h.ne hi cE b) (h.ne hi cE c);have pu:∀i,us {s with k:=Kn.cV s.k n m b} i↔us s i:=Kn.L9 (n:=n) (x:={s.k.p n with mem:=m}) rfl b;have pk:∀x,Kn.kc {s with k:=Kn.cV s.k n m b} x=Kn.kc s x:=λx=>by
  unfold Kn.kc Kn.pc Kn.fB;by_cases c:x/12=n
  .rw[show(Kn.cV s.k n m b).p (x/12)={s.k.p n with mem:=m}by rw[c];exact Kn.bR _ _ _,<-c];rfl
  .rw[show(Kn.cV s.k n m b).p (x/12)=s.k.p (x/12)from Kn.cr _ _ _ _ c];rfl
 refine⟨⟨by rw[show({s with k:=Kn.cV s.k n m b}:St).A 0=s.A 0 from rfl,o 0 cE bG bG bG];exact h.mL,λx hx=>by rw[pk];exact(aV (o 0 cE bG bG bG)).trans (h.eF x hx),h.sp.same (o 1 cE bG bG bG),(o 2 cE bG bG bG).trans h.gr,h.sc.same (o 3 cE bG bG bG),u.bk,h.fi.same (o 8 cE bG bG bG),h.fo.same (o 6 cE bG bG bG),h.pi.same (o 7 cE bG bG bG),
  λj hj jh=>?_,λj hj jh=>?_,
  λn hn hh=>(h.tb n hn hh).same (o _ (Kn.kv hn hh) bG bG bG) (λg eg=>by have:=o _ (Kn.jZ hn hh eg) bG bG bG;rwa [h.ro n hn hh g eg]at this),h.ro,λi j hi hj=>h.inj i j ((pu i).1 hi) ((pu j).1 hj),λi hi=>h.low i ((pu i).1 hi)⟩,
  ⟨⟨f.os,f.tape,f.output,f.size,λb hb hc=>f.block b hb (λe=>hc ⟨_,Kn.jb hn hh,e⟩) (λe=>hc ⟨4,cE,e⟩) (λe=>hc ⟨5,cE,e⟩)⟩,λb ⟨i,hi,e⟩=> .inl ⟨i,(pu i).1 hi,e⟩,rfl⟩⟩
 .by_cases c:j=n
  .subst c;rw[show(Kn.cV s.k j m b).p j={s.k.p j with mem:=m}from Kn.bR _ _ _];exact u.me
  .rw[show(Kn.cV s.k n m b).p j=s.k.p j from Kn.cr _ _ _ _ c]at jh|-;exact(h.me j hj jh).same (o _ (Kn.jb hj jh) bG bG bG)
 .by_cases c:j=n
  .subst c;rw[show(Kn.cV s.k j m b).p j={s.k.p j with mem:=m}from Kn.bR _ _ _];exact(h.bx j hj hh).same (o _ (Kn.jY hj hh) bG bG bG)
  .rw[show(Kn.cV s.k n m b).p j=s.k.p j from Kn.cr _ _ _ _ c]at jh|-;exact(h.bx j hj jh).same (o _ (Kn.jY hj jh) bG bG bG)
end
section
variable {w w':bD}{VK:Nat}{s s':St}
theorem bT.Uq(h:bT w VK s){b:Bk}(u:dN w' (s.A 4) (s.A 5) b)(f:jm (s.A 4) (s.A 5) w w'):bT w' VK {s with k:={s.k with bk:=b}}/\KF s w {s with k:={s.k with bk:=b}} w':=by
 have o:∀i,us s i->i≠4->i≠5->w'.heap[s.A i]? =w.heap[s.A i]? :=λi hi a b=>f.block _ (h.lt hi) (h.ne hi cE a) (h.ne hi cE b);refine⟨⟨by rw[o 0 cE bG bG];exact h.mL,λx hx=>(aV (o 0 cE bG bG)).trans (h.eF x hx),h.sp.same (o 1 cE bG bG),(o 2 cE bG bG).trans h.gr,h.sc.same (o 3 cE bG bG),u,h.fi.same (o 8 cE bG bG),h.fo.same (o 6 cE bG bG),h.pi.same (o 7 cE bG bG),
  λn hn hh=>(h.me n hn hh).same (o _ (Kn.jb hn hh) bG bG),λn hn hh=>(h.bx n hn hh).same (o _ (Kn.jY hn hh) bG bG),
  λn hn hh=>(h.tb n hn hh).same (o _ (Kn.kv hn hh) bG bG) (λg eg=>by have:=o _ (Kn.jZ hn hh eg) bG bG;rwa [h.ro n hn hh g eg]at this),h.ro,h.inj,h.low⟩,
  ⟨⟨f.os,f.tape,f.output,f.size,λb hb hc=>f.block b hb (λe=>hc ⟨4,cE,e⟩) (λe=>hc ⟨5,cE,e⟩)⟩,λb hb=> .inl hb,rfl⟩⟩
theorem Kn.yM(s:St)(n:Nat)(x:Pr)(o:Nat):Kn.kc {s with k:=s.k.put n x} o=if o<240/\o/12=n then Kn.fB (s.A (9+n)) (s.A (29+n)) x (o%12)else Kn.kc s o:=by
 unfold Kn.kc;by_cases c:o<240
 .rw[aJ c,aJ c];by_cases d:o/12=n
  .rw[aJ ⟨c,d⟩];unfold Kn.pc;rw[d];show Kn.fB (s.A (9+n)) (s.A (29+n)) ((s.k.put n x).p n) _=_;rw[Kn.bR]
  .rw[aI (λe=>d e.2)];unfold Kn.pc;show Kn.fB (s.A (9+o/12)) (s.A (29+o/12)) ((s.k.put n x).p (o/12)) _=_;rw[Kn.cr _ _ _ _ d]
 .rw[aI c,aI (show¬(o<240/\o/12=n)from λe=>c e.1),aI c];rfl
theorem Kn.AJ{s:St}{x:Pr}(hx:x.has=(s.k.p n).has)(i:Nat):us {s with k:=s.k.put n x} i↔us s i:=Kn.L9 hx s.k.bk i
theorem bT.Uz(h:bT w VK s){x:Pr}(hx:x.has=(s.k.p n).has)(hm:x.mem=(s.k.p n).mem)(hb:x.box=(s.k.p n).box)(f:bO (s.A 0) w w')(hk:∃C,w'.heap[s.A 0]? =bB (bA C 86 (0,0))/\C.size=253)
  (hc:∀o,o<253->w'.cell? ⟨s.A 0,o,bC⟩=bB (Kn.kc {s with k:=s.k.put n x} o)):bT w' VK {s with k:=s.k.put n x}/\KF s w {s with k:=s.k.put n x} w':=by
 have o:=h.others cE f;have pu:=Kn.AJ (s:=s) hx;refine⟨⟨hk,hc,h.sp.same (o 1 cE bG),(o 2 cE bG).trans h.gr,h.sc.same (o 3 cE bG),h.bk.same (o 4 cE bG) (o 5 cE bG),h.fi.same (o 8 cE bG),h.fo.same (o 6 cE bG),h.pi.same (o 7 cE bG),
  λj hj jh=>?_,λj hj jh=>?_,
  λn hn hh=>(h.tb n hn hh).same (o _ (Kn.kv hn hh) bG) (λg eg=>by have:=o _ (Kn.jZ hn hh eg) bG;rwa [h.ro n hn hh g eg]at this),h.ro,λi j hi hj=>h.inj i j ((pu i).1 hi) ((pu j).1 hj),λi hi=>h.low i ((pu i).1 hi)⟩,KF.one _ cE f rfl (λi hi=>(pu i).1 hi)⟩
 .by_cases c:j=n
  .subst c;rw[show((s.k.put j x).p j)=x from Kn.bR _ _ _]at jh|-;rw[hm];rw[hx]at jh;exact(h.me j hj jh).same (o _ (Kn.jb hj jh) bG)
  .rw[show((s.k.put n x).p j)=s.k.p j from Kn.cr _ _ _ _ c]at jh|-;exact(h.me j hj jh).same (o _ (Kn.jb hj jh) bG)
 .by_cases c:j=n
  .subst c;rw[show((s.k.put j x).p j)=x from Kn.bR _ _ _]at jh|-;rw[hb];rw[hx]at jh;exact(h.bx j hj jh).same (o _ (Kn.jY hj jh) bG)
  .rw[show((s.k.put n x).p j)=s.k.p j from Kn.cr _ _ _ _ c]at jh|-;exact(h.bx j hj jh).same (o _ (Kn.jY hj jh) bG)
theorem bT.Eb(h:bT w VK s)(hn:n<20)(hj:j<12){x:Pr}(v:Value)(hx:x.has=(s.k.p n).has)(hm:x.mem=(s.k.p n).mem)(hb:x.box=(s.k.p n).box)(hv:∀a b i,i<12->Kn.fB a b x i=if i=j then v else Kn.fB a b (s.k.p n) i):
  bT (w.setCell ⟨s.A 0,n*12+j,bC⟩ v) VK {s with k:=s.k.put n x}/\KF s w {s with k:=s.k.put n x} (w.setCell ⟨s.A 0,n*12+j,bC⟩ v):=by
 obtain⟨C,e,sz⟩:=h.mL;refine h.Uz hx hm hb ((bO.refl _ _).setCell _ _) ⟨_,cT e _ v,by simpa using sz⟩ (λo ho=>?_);rw[Kn.yM];by_cases c:o=n*12+j
 .subst c;rw[dH e _ v bG,aJ ⟨by omega,bG⟩,show(n*12+j)%12=j by omega,hv _ _ j hj,aJ rfl]
 .rw[dw e _ _ v (bQ c)];by_cases d:o<240/\o/12=n
  .rw[aJ d,hv _ _ _ bG,nJ,h.eF o ho];unfold Kn.kc Kn.pc;rw[aJ d.1,d.2]
  .rw[aI d];exact h.eF o ho
theorem bT.Ur(h:bT w VK s)(hn:n<20)(v:Nat):bT (w.setCell ⟨s.A 0,n*12,bC⟩ (aa bf (v:Int))) VK {s with k:=s.k.put n {s.k.p n with st:=v}}/\KF s w {s with k:=s.k.put n {s.k.p n with st:=v}} (w.setCell ⟨s.A 0,n*12,bC⟩ (aa bf (v:Int))):=
 h.Eb hn (j:=0) bG _ rfl rfl rfl (λa b i hi=>by
  match i,hi with
  |0,_=>rfl
  |i+1,_=>rw[nJ];rfl)
theorem bT.Ed(h:bT w VK s)(hn:n<20)(v:Int):bT (w.setCell ⟨s.A 0,n*12+1,bC⟩ (aa bf v)) VK {s with k:=s.k.put n {s.k.p n with par:=v}}/\KF s w {s with k:=s.k.put n {s.k.p n with par:=v}} (w.setCell ⟨s.A 0,n*12+1,bC⟩ (aa bf v)):=
 h.Eb hn (j:=1) bG _ rfl rfl rfl (λa b i hi=>by
  match i,hi with
  |0,_=>rfl
  |1,_=>rfl
  |i+2,_=>rw[nJ];rfl)
theorem bT.TF(h:bT w VK s)(hn:n<20)(v:Int):bT (w.setCell ⟨s.A 0,n*12+2,bC⟩ (aa bf v)) VK {s with k:=s.k.put n {s.k.p n with cJ:=v}}/\KF s w {s with k:=s.k.put n {s.k.p n with cJ:=v}} (w.setCell ⟨s.A 0,n*12+2,bC⟩ (aa bf v)):=
 h.Eb hn (j:=2) bG _ rfl rfl rfl (λa b i hi=>by
  match i,hi with
  |0,_=>rfl
  |1,_=>rfl
  |2,_=>rfl
  |i+3,_=>rw[nJ];rfl)
theorem bT.Ru(h:bT w VK s)(hn:n<20)(v:Int):bT (w.setCell ⟨s.A 0,n*12+3,bC⟩ (aa bf v)) VK {s with k:=s.k.put n {s.k.p n with code:=v}}/\KF s w {s with k:=s.k.put n {s.k.p n with code:=v}} (w.setCell ⟨s.A 0,n*12+3,bC⟩ (aa bf v)):=
 h.Eb hn (j:=3) bG _ rfl rfl rfl (λa b i hi=>by
  match i,hi with
  |0,_=>rfl
  |1,_=>rfl
  |2,_=>rfl
  |3,_=>rfl
  |i+4,_=>rw[nJ];rfl)
def Kn.fS(k:Kp)(n f:Nat)(v:Int):Kp:=k.put n {k.p n with fd:=λi=>if i=f then v else(k.p n).fd i}
theorem bT.rE(h:bT w VK s){f:Nat}(hn:n<20)(hf:f<6)(v:Int):bT (w.setCell ⟨s.A 0,n*12+6+f,bC⟩ (aa bf v)) VK {s with k:=Kn.fS s.k n f v}/\KF s w {s with k:=Kn.fS s.k n f v} (w.setCell ⟨s.A 0,n*12+6+f,bC⟩ (aa bf v)):=by
 rw[Nat.add_assoc];exact h.Eb hn (j:=6+f) bG _ rfl rfl rfl (λa b i hi=>by
  unfold Kn.fB;by_cases c:i=6+f
  .rw[aJ c,nJ,nJ,nJ,nJ,nJ,nJ];simp[show i-6=f by omega]
  .rw[aI c];by_cases d:i<6
   .have q:i=0\/i=1\/i=2\/i=3\/i=4\/i=5:=bG
    rcases q with rfl|rfl|rfl|rfl|rfl|rfl<;>rfl
   .rw[nJ,nJ,nJ,nJ,nJ,nJ];simp[show i-6≠f by omega,show i≠0 by omega,show i≠1 by omega,show i≠2 by omega,show i≠3 by omega,show i≠4 by omega,show i≠5 by omega])
theorem bT.wm(h:bT w VK s)(hn:n<20)(hh:(s.k.p n).has=bE){X:Nat->S1}(u:CX w' (s.A (29+n)) X)(f:bO (s.A (29+n)) w w'):bT w' VK {s with k:=s.k.put n {s.k.p n with box:=X}}/\KF s w {s with k:=s.k.put n {s.k.p n with box:=X}} w':=by
 have o:=h.others (Kn.jY hn hh) f;have pu:=Kn.AJ (s:=s) (n:=n) (x:={s.k.p n with box:=X}) rfl;have pk:∀x,Kn.kc {s with k:=s.k.put n {s.k.p n with box:=X}} x=Kn.kc s x:=λx=>by
  rw[Kn.yM];by_cases c:x<240/\x/12=n
  .rw[aJ c];unfold Kn.kc Kn.pc;rw[aJ c.1,c.2];rfl
  .rw[aI c]
 refine⟨⟨by rw[show({s with k:=s.k.put n {s.k.p n with box:=X}}:St).A 0=s.A 0 from rfl,o 0 cE bG];exact h.mL,λx hx=>by rw[pk];exact(aV (o 0 cE bG)).trans (h.eF x hx),h.sp.same (o 1 cE bG),(o 2 cE bG).trans h.gr,h.sc.same (o 3 cE bG),h.bk.same (o 4 cE bG) (o 5 cE bG),h.fi.same (o 8 cE bG),h.fo.same (o 6 cE bG),h.pi.same (o 7 cE bG),
  λj hj jh=>?_,λj hj jh=>?_,
  λn hn hh=>(h.tb n hn hh).same (o _ (Kn.kv hn hh) bG) (λg eg=>by have:=o _ (Kn.jZ hn hh eg) bG;rwa [h.ro n hn hh g eg]at this),h.ro,λi j hi hj=>h.inj i j ((pu i).1 hi) ((pu j).1 hj),λi hi=>h.low i ((pu i).1 hi)⟩,KF.one _ (Kn.jY hn hh) f rfl (λi hi=>(pu i).1 hi)⟩
 .by_cases c:j=n
  .subst c;rw[show((s.k.put j {s.k.p j with box:=X}).p j)={s.k.p j with box:=X}from Kn.bR _ _ _];exact(h.me j hj hh).same (o _ (Kn.jb hj hh) bG)
  .rw[show((s.k.put n {s.k.p n with box:=X}).p j)=s.k.p j from Kn.cr _ _ _ _ c]at jh|-;exact(h.me j hj jh).same (o _ (Kn.jb hj jh) bG)
 .by_cases c:j=n
  .subst c;rw[show((s.k.put j {s.k.p j with box:=X}).p j)={s.k.p j with box:=X}from Kn.bR _ _ _];exact u
  .rw[show((s.k.put n {s.k.p n with box:=X}).p j)=s.k.p j from Kn.cr _ _ _ _ c]at jh|-;exact(h.bx j hj jh).same (o _ (Kn.jY hj jh) bG)
end
def Kn.lv(k:Kp)(n:Nat):Bool:=decide ((k.p n).st=1)
def Kn.cH(k:Kp)(z:Int):Int:=if z<0\/20<=z then 1 else if Kn.lv k z.toNat=bE then 0 else 2
theorem Kn.sR{k:Kp}(h:Kn.cH k z≠0):0<Kn.cH k z:=by
 unfold Kn.cH at h|-;split
 .decide
 .split
  .rename_i a b;rw[aI a,aJ b]at h;exact aZ rfl h
  .decide
theorem Kn.fY{k:Kp}(h:Kn.cH k z=0):∃n:Nat,z=n/\n<20/\Kn.lv k n=bE:=by
 unfold Kn.cH at h;by_cases c:z<0\/20<=z
 .rw[aJ c]at h;omega
 .rw[aI c]at h;by_cases d:Kn.lv k z.toNat=bE
  .exact⟨z.toNat,bG,bG,d⟩
  .rw[aI d]at h;omega
theorem Kn.Vi{k:Kp}(hn:n<20)(h:Kn.lv k n=bE):Kn.cH k (n:Int)=0:=by
 unfold Kn.cH;rw[nJ,hZ,aJ h]
def gW(b:Nat)(z E:Int):Value:=if E=0 then ai (bB ⟨b,z.toNat*12,bC⟩)else ai bC
theorem iG(b n:Nat):gW b (n:Int) 0=ai (bB ⟨b,n*12,bC⟩):=by unfold gW;rw[aJ rfl,hZ]
theorem F9(h:E≠0):gW b z E=ai none:=aI h
section
variable (VK:Nat)(s:St)(w:bD)
theorem jq(n:Nat)(h:bT w VK s)(hn:n<20)(v:Bool)(hv:Kn.lv s.k n=v):
  Calls prog 60 #[ai (bB ⟨s.A 0,0,bC⟩),aa bf n] w λe w'=>e=bw (ar v)/\w'=w:=by
 have c0:=h.uB n hn;have hnI:(n:Int)<20:=bG
 generalize s.A 0=kb at*;unfold Kn.lv at hv;generalize (s.k.p n).st=st at*;by_cases d:st=1
 .subst d;have E:v=bE:=by rw[<-hv];rfl
  subst E;have c0':w.cell? ⟨kb,n*12,bC⟩=bB (aa .i64 1):=c0;go_in
  go_wp2
  go_ret
  exact⟨rfl,rfl⟩
 .have E:v=bF:=by rw[<-hv];exact aT d
  subst E;have d1:((st:Int)==1)=bF:=by simp;omega
  go_in
  go_wp2
  go_ret
  exact⟨rfl,rfl⟩
theorem dX(z:Int)(h:bT w VK s):
  Calls prog 57 #[ai (bB ⟨s.A 0,0,bC⟩),aa bf z] w λe w'=>e=bw (ao #[gW (s.A 0) z (Kn.cH s.k z),bS (Kn.cH s.k z)])/\w'=w:=by
 by_cases c:z<0\/20<=z
 .have E:Hid (Kn.cH s.k z=1/\gW (s.A 0) z 1=ai bC):=hJ ⟨aJ c,F9 bM⟩;generalize s.A 0=kb at*;by_cases c1:z<0
  .clear c;go_in
   go_wp2
   go_ret2
   rw[E.1,E.2];exact⟨rfl,rfl⟩
  .have c2:20<=z:=bG
   go_in
   go_wp2
   go_ret2
   rw[E.1,E.2];exact⟨rfl,rfl⟩
 .obtain⟨n,rfl⟩:∃n:Nat,z=n:=⟨z.toNat,bG⟩;have hn:n<20:=bG
  have hnI:(n:Int)<20:=bG
  have E0:Kn.cH s.k (n:Int)=if Kn.lv s.k n=bE then 0 else 2:=by unfold Kn.cH;rw[aI c,hZ]
  obtain⟨v,hv⟩:=hU (Kn.lv s.k n);have LV:=hJ (jq VK s w n h hn v hv);cases v
  .have E:Hid (Kn.cH s.k (n:Int)=2/\gW (s.A 0) (n:Int) 2=ai bC):=hJ ⟨by rw[E0,hv];rfl,F9 bM⟩;generalize s.A 0=kb at*;go_in
   go_wp2_with fail
   refine sC LV.v ?_;rintro w1 hw;subst w1;go_wp2
   go_ret2
   rw[E.1,E.2];exact⟨rfl,rfl⟩
  .have E:Hid (Kn.cH s.k (n:Int)=0/\gW (s.A 0) (n:Int) 0=ai (bB ⟨s.A 0,n*12,bC⟩)):=hJ ⟨by rw[E0,hv];rfl,iG _ _⟩;generalize s.A 0=kb at*;go_in
   go_wp2_with fail
   refine sC LV.v ?_;rintro w1 hw;subst w1;go_wp2
   go_ret2
   rw[E.1,E.2];exact⟨rfl,rfl⟩
theorem iK(z:Int)(h:bT w VK s):
  Calls prog 62 #[ai (bB ⟨s.A 0,0,bC⟩),aa bf z] w λe w'=>e=bw (aa bf (Sp.dV s.k.sp z:Int))/\w'=w:=by
 have c0:=h.yD;have OF:=hJ (DP (s.A 1) z s.k.sp w h.sp);generalize s.A 0=kb at*;go_in
 go_wp2_with fail
 refine sC OF.v ?_;rintro w1 hw;subst w1;go_wp2
 go_ret
 exact⟨rfl,rfl⟩
theorem Dq(x z:Int)(h:bT w VK s)(h0:∀n,n<6->s.k.sp.cD n 0=0):
  Calls prog 70 #[ai (bB ⟨s.A 0,0,bC⟩),aa bf x,aa bf z] w λe w'=>e=bw (aa bf (Sp.mA s.k.sp x z:Int))/\w'=w:=by
 have c0:=h.yD;have OF:=hJ (Ox (s.A 1) x z s.k.sp w h.sp h0);generalize s.A 0=kb at*;go_in
 go_wp2_with fail
 refine sC OF.v ?_;rintro w1 hw;subst w1;go_wp2
 go_ret
 exact⟨rfl,rfl⟩
theorem Be(z:Int)(h:bT w VK s):
  Calls prog 150 #[ai (bB ⟨s.A 0,0,bC⟩),aa bf z] w λe w'=>e=bw (aa bf (Sp.eV s.k.sp z 1:Int))/\w'=w:=by
 have c0:=h.yD;have OF:=hJ (Dc (s.A 1) z 1 s.k.sp w h.sp);generalize s.A 0=kb at*;go_in
 go_wp2_with fail
 refine sC OF.v ?_;rintro w1 hw;subst w1;go_wp2
 go_ret
 exact⟨rfl,rfl⟩
theorem qB(z:Int)(h:bT w VK s):
  Calls prog 75 #[ai (bB ⟨s.A 0,0,bC⟩),aa bf z] w λe w'=>∃v,e=bw v/\LO w (eR s.k.sp z) v w':=by
 have c0:=h.yD;have OF:=hJ (DJ (s.A 1) z s.k.sp w h.sp);generalize s.A 0=kb at*;go_in
 go_wp2_with fail
 refine OF.mono ?_;rintro e w1 ⟨v,rfl,hL⟩;have HL:=hJ hL;go_wp2
 go_ret
 exact⟨v,rfl,HL.v⟩
def Kn.hd(k:Kp)(n:Nat):Nat:=Sp.eV k.sp (Sp.dV k.sp (n:Int):Int) 1
theorem mM(n:Nat)(h:bT w VK s)(v:Bool)(hv:decide (Kn.hd s.k n=n)=v):
  Calls prog 93 #[ai (bB ⟨s.A 0,0,bC⟩),aa bf n] w λe w'=>e=bw (ar v)/\w'=w:=by
 have SP:=hJ (iK VK s w (n:Int) h);have HD:=hJ (Be VK s w (Sp.dV s.k.sp (n:Int):Int) h);unfold Kn.hd at hv;generalize Sp.eV s.k.sp (Sp.dV s.k.sp (n:Int):Int) 1=x at*;generalize Sp.dV s.k.sp (n:Int)=y at*;generalize s.A 0=kb at*;by_cases d:x=n
 .subst d;have E:v=bE:=by rw[<-hv];simp
  subst E;go_in
  go_wp2_with fail
  refine sC SP.v ?_;rintro w1 hw;subst w1;go_wp2_with fail
  refine sC HD.v ?_;rintro w1 hw;subst w1;go_wp2
  go_ret
  exact⟨rfl,rfl⟩
 .have E:v=bF:=by rw[<-hv];exact aT d
  subst E;have d1:((x:Int)==(n:Int))=bF:=by simp;omega
  go_in
  go_wp2_with fail
  refine sC SP.v ?_;rintro w1 hw;subst w1;go_wp2_with fail
  refine sC HD.v ?_;rintro w1 hw;subst w1;go_wp2
  go_ret
  exact⟨rfl,rfl⟩
def Kn.fN(k:Kp)(n:Nat):List Nat:=(List.range n).filter (Kn.lv k)
theorem Kn.rA{k:Kp}(h:Kn.lv k n=bE):Kn.fN k (n+1)=Kn.fN k n++[n]:=by
 unfold Kn.fN;rw[List.range_succ,List.filter_append];simp[h]
theorem Kn.xv{k:Kp}(h:Kn.lv k n=bF):Kn.fN k (n+1)=Kn.fN k n:=by
 unfold Kn.fN;rw[List.range_succ,List.filter_append];simp[h]
theorem Kn.Bl(k:Kp)(n:Nat):(Kn.fN k n).length<=n:=by
 have:=bW (Kn.lv k) (List.range n);simpa[Kn.fN]using this
theorem tB(h:bT w VK s):
  Calls prog 15 #[ai (bB ⟨s.A 0,0,bC⟩)] w λe w'=>∃v,e=bw v/\LO w (Kn.fN s.k 20) v w':=by
 obtain⟨i0,hi,hz0,hz1,hz2⟩:=info_parts Cf;have H:=hJ h;go_in
 go_wp2_with fail
 go_loopw [3,5] (λl i wr=>∃(k:Nat),i=aa bf k/\k<=20/\Hid (LO w (Kn.fN s.k k) l wr)) (λ_ i _=>20-(intOf i).toNat)
 case atStart=>exact⟨0,rfl,bG,LO.nil w⟩
 case round=>
  obtain⟨k,rfl,hk,R⟩:=hrel;by_cases hlt:k<20
  .have hltI:(k:Int)<20:=bG
   cases hth:Kn.lv s.k k
   .have HM:=hJ (Kn.xv hth);have LV:=hJ (jq VK s wr k (H.below R.cZ) hlt bF hth);go_wp2_with fail
    refine sC LV.v ?_;rintro w1 hw;subst w1;go_wp2
    go_roundw
    case rel=>exact⟨k+1,by go_num,bG,by rw[HM.v];exact R⟩
    case measure=>simp[intOf];omega
   .have HM:=hJ (Kn.rA hth);have LV:=hJ (jq VK s wr k (H.below R.cZ) hlt bE hth);obtain⟨a,cap,hv⟩:=ij R.own;rw[hv];have HV:=hJ hv;have hlm:=Kn.Bl s.k k;generalize hN:(Kn.fN s.k k).length=N at*;have HN:=hJ hN;go_wp2_with fail
    refine sC LV.v ?_;rintro w1 hw;subst w1;go_wp2_with (at_builtin;refine wpList_append_lies _ rfl _ _ 46 (by rfl) w.heap.size 3 i0 (aa .i64 0) 1 8 Tryz.underlying46 hi hz0 hz1 hz2 rfl bM (aj a N cap) N (rowOf (Kn.fN s.k k)) (by rfl) (by rw[<-HV.v,<-HN.v];exact R.own.alloc _) ⟨wr.heap.size,0,bC⟩ 1 1 [aa bf k] (by rfl) rfl (cell_one_new _ _ _) (by simp[Value.oneCell']) bM (by unfold maxLen;omega) bG (by have:=R.cZ.size;simp;omega) (wr.heap.size+1) (by simp) ?_;intro gg cap2 w1 hown hgrow hat hlt2;have Q1:Hid (LO w (Kn.fN s.k k++[k]) (aj (bB ⟨gg,0,bC⟩) (N+1) cap2) w1):=R.more HN.v hown _ (by rw[HV.v];exact hgrow))
    go_roundw
    case rel=>exact⟨k+1,by go_num,bG,by rw[HM.v];exact Q1⟩
    case measure=>simp[intOf];omega
  .obtain rfl:k=20:=bG
   go_wp2
   go_ret
   exact⟨_,rfl,R.v⟩
def Kn.gJ(k:Kp)(n:Nat)(E:Int):Prop:=(E=0/\n<20/\(k.p n).st=0/\∀m,m<n->(k.p m).st≠0)\/(E=4/\n=0/\∀m,m<20->(k.p m).st≠0)
theorem Iw(h:bT w VK s):
  Calls prog 63 #[ai (bB ⟨s.A 0,0,bC⟩)] w λe w'=>∃(n:Nat) (E:Int),e=bw (ao #[aa bf (n:Int),bS E])/\Kn.gJ s.k n E/\w'=w:=by
 have H:=hJ h;obtain⟨kb,hkb⟩:=hU (s.A 0);have HK:=hJ hkb;rw[hkb];go_in
 go_wp2
 go_loopw [4,5] (λ_ i wr=>∃(k:Nat),i=aa bf k/\k<=20/\wr=w/\Hid (∀m,m<k->(s.k.p m).st≠0)) (λ_ i _=>20-(intOf i).toNat)
 case atStart=>exact⟨0,rfl,bG,rfl,hJ (λm hm=>aZ hm (Nat.not_lt_zero m))⟩
 case round=>
  obtain⟨k,rfl,hk,hwr,R⟩:=hrel;subst wr;by_cases hlt:k<20
  .have hltI:(k:Int)<20:=bG
   have c0:=H.uB k hlt;rw[HK.v]at c0;by_cases d:(s.k.p k).st=0
   .have FT:Hid (Kn.gJ s.k k 0):=hJ (.inl ⟨rfl,hlt,d,R.v⟩);rw[d]at c0;have c0':w.cell? ⟨kb,k*12,bC⟩=bB (aa .i64 0):=c0;go_wp2
    go_ret2
    exact⟨k,0,by rw[bN];rfl,FT.v,rfl⟩
   .have R1:Hid (∀m,m<k+1->(s.k.p m).st≠0):=hJ (λm hm=>by
     by_cases e:m=k
     .rw[e];exact d
     .exact R.v m bG)
    generalize (s.k.p k).st=st at*;have d1:((st:Int)==0)=bF:=by simp;omega
    go_wp2
    go_roundw
    case rel=>exact⟨k+1,by go_num,bG,by first|rfl|trivial,R1⟩
    case measure=>simp[intOf];omega
  .obtain rfl:k=20:=bG
   have FT:Hid (Kn.gJ s.k 0 4):=hJ (.inr ⟨rfl,rfl,R.v⟩);go_wp2
   go_ret2
   exact⟨0,4,rfl,FT.v,rfl⟩
end
def LV(P:Nat->Prop)(xs:List Value)(v:Value)(W:bD):Prop:=∃a c,v=aj a xs.length c/\(0<xs.length->∃g,a=bB ⟨g,0,bC⟩/\P g/\g<W.heap.size/\∀i,i<xs.length->W.cell? ⟨g,i,bC⟩=xs[i]?)

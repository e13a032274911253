import Derived.Test.YtpmmdkcfenjiaaaGreatDoorVav
set_option linter.unusedVariables false
set_option linter.unusedSimpArgs false
set_option maxRecDepth 1000000
set_option maxHeartbeats 2000000
namespace Go.Proofs.YtpmmdkcfenjiaaaGreatDoor
open Go.RowKit
theorem Cp (a:Option Addr)(c:Nat)(m:Int)(w:bD):Calls Tryz.prog 39 #[.slice a 0 c, .int .i64 m] w fun e w'=>e= .returned (.bool true)/\w'=w:=by
 go_in
 go_wp2_with fail
 go_loopw [5] (fun i wr=>i= .int .i64 0/\wr=w) (fun _ _=>0)
 case atStart=>exact⟨rfl,rfl⟩
 case round=>
  obtain⟨rfl,rfl⟩:=hrel;go_wp2
  go_ret
  exact⟨rfl,rfl⟩
def xT (ax:Nat->eQ)(n:Nat)(m:Int)(v:Value):Prop:=v= .bool false\/(v= .bool true/\ ∀i,i<n->((ax i).s.size:Int)<=m/\((ax i).t.size:Int)<=m)
theorem B7 (b o n c:Nat)(m:Int)(ax:Nat->eQ)(w:bD)(hn:n<=1000)(h: ∀i,i<n-> ∀j,j<8->w.cell? ⟨b,o+i*8+j,none⟩=some ((ax i).cell j)):
  Calls Tryz.prog 39 #[.slice (some ⟨b,o,none⟩) n c, .int .i64 m] w fun e w'=> ∃v,e= .returned v/\xT ax n m v/\w'=w:=by
 have H:=hZ h;clear h;go_in
 go_wp2_with fail
 go_loopw [5] (fun i wr=> ∃j:Nat,i= .int .i64 j/\j<=n/\Hid (∀i,i<j->((ax i).s.size:Int)<=m/\((ax i).t.size:Int)<=m)/\wr=w) (fun i _=>n-(intOf i).toNat)
 case atStart=>exact⟨0,rfl,by omega,hZ (fun i hi=>by omega),rfl⟩
 case round=>
  obtain⟨j,rfl,hj,R,hwr⟩:=hrel;subst wr;by_cases hlt:j<n
  ·have hltI:(j:Int)<(n:Int):=by omega
   have c6:w.cell? ⟨b,o+j*8+6,none⟩=some (.string (ax j).s):=H.out j hlt 6 (by omega);have c7:w.cell? ⟨b,o+j*8+7,none⟩=some (.string (ax j).t):=H.out j hlt 7 (by omega);have NX:Hid (((ax j).s.size:Int)<=m->((ax j).t.size:Int)<=m-> ∀i,i<j+1->((ax i).s.size:Int)<=m/\((ax i).t.size:Int)<=m):=hZ (fun h1 h2 i hi=>by
    by_cases d:i=j
    ·subst d;exact⟨h1,h2⟩
    ·exact R.out i (by omega))
   generalize (ax j).s=s1 at c6 NX;generalize (ax j).t=s2 at c7 NX;by_cases d1:m<(s1.size:Int)
   ·go_wp2
    go_ret
    exact⟨_,rfl, .inl rfl,rfl⟩
   ·by_cases d2:m<(s2.size:Int)
    ·go_wp2
     go_ret
     exact⟨_,rfl, .inl rfl,rfl⟩
    ·have N2:=hZ (NX.out (by omega) (by omega));go_wp2
     go_roundw
     case rel=>exact⟨j+1,by go_num,by omega,N2,by first|rfl|trivial⟩
     case measure=>simp[intOf];omega
  ·have hltI: ¬(j:Int)<(n:Int):=by omega
   obtain rfl:j=n:=by omega
   go_wp2
   go_ret
   exact⟨_,rfl, .inr ⟨rfl,R.out⟩,rfl⟩
theorem Eo (a:Option Addr)(b o n c:Nat)(m:Int)(ax:Nat->eQ)(w:bD)(hn:n<=1000)(ha:0<n->a=some ⟨b,o,none⟩)(h: ∀i,i<n-> ∀j,j<8->w.cell? ⟨b,o+i*8+j,none⟩=some ((ax i).cell j)):
  Calls Tryz.prog 39 #[.slice a n c, .int .i64 m] w fun e w'=> ∃v,e= .returned v/\xT ax n m v/\w'=w:=by
 by_cases h0:n=0
 ·subst h0;refine(Cp a c m w).mono ?_;rintro e w' ⟨rfl,hw⟩;exact⟨_,rfl, .inr ⟨rfl,fun i hi=>aZ hi (Nat.not_lt_zero i)⟩,hw⟩
 ·rw[ha (by omega)];exact B7 b o n c m ax w hn h
theorem SO.cells {u w:bD}{L:List bU}{v:Value}(h:SO u L v w)(hl:0<L.length): ∃gg cap,v= .slice (some ⟨gg,0,none⟩) L.length cap/\gg<w.heap.size/\ ∀i,i<L.length->w.cell? ⟨gg,i,none⟩=some (.string (L.getD i ⟨#[]⟩)):=by
 have ho:=h.own;obtain⟨gg,cap,hv,_,hg⟩:=ho.form hl;refine⟨gg,cap,hv,hg,fun i hi=>?_⟩;rw[hv]at ho;rw[ho.cellAt i (by omega)];simp[uD,hi]
open Tr (Fo Nd)
def TM (w W:bD)(b:Nat)(F:Fo):Prop:=Below w.heap.size w W/\ar W b F/\Tr.Ok F/\w.heap.size<=b
theorem TM.bE {w W:bD}{b:Nat}{F:Fo}(h:TM w W b F): ∀n,n<40->(F.nd n).kind≠0->(F.nd n).bE<2^60:=fun n hn k0=>by
 have:=h.2.2.1.uR n hn k0;omega
def Tr.g1:Fo:=Tr.xZ Tr.f0 0
theorem Tr.Gn {T:Nat}{E:Int}{G:Fo}(h:Tr.tJ Tr.f0 T E G):T=0/\E=0/\G=Tr.g1:=by
 have f:Tr.fF Tr.f0 0 0:= .inl ⟨rfl,by omega,rfl,fun m hm=>by omega⟩;rcases h with⟨a,_⟩|⟨_,n,e,hf,hm⟩
 ·exact aZ a (by decide)
 ·obtain⟨rfl,rfl⟩:=hf.unique f;rcases hm with⟨a,_⟩|⟨_,b,c,d⟩
  ·exact aZ rfl a
  ·exact⟨b,c,d⟩
theorem Tr.Pe:Tr.Ok Tr.g1:=Tr.Q9.Lw (T:=0) (E:=0) (.inr ⟨by decide,0,0, .inl ⟨rfl,by omega,rfl,fun m hm=>by omega⟩, .inr ⟨rfl,rfl,rfl,rfl⟩⟩)
def TL (b:Nat)(L:List bU)(v:Value)(W:bD):Prop:= ∃a c,v= .slice a L.length c/\(0<L.length-> ∃g,a=some ⟨g,0,none⟩/\g≠b/\g<W.heap.size/\ ∀i,i<L.length->W.cell? ⟨g,i,none⟩=some (.string (L.getD i ⟨#[]⟩)))
theorem TL.jW {b:Nat}{L:List bU}{v:Value}{W W':bD}(h:TL b L v W)(f:af b W W'):TL b L v W':=by
 obtain⟨a,c,e,k⟩:=h;refine⟨a,c,e,fun hl=>?_⟩;obtain⟨g,e1,e2,e3,e4⟩:=k hl;exact⟨g,e1,e2,aD e3 f.size,fun i hi=>(aV (f.block g e3 e2)).trans (e4 i hi)⟩
theorem SO.tl {u W:bD}{L:List bU}{v:Value}(h:SO u L v W){b:Nat}(hb:b<u.heap.size):TL b L v W:=by
 by_cases hl:0<L.length
 ·have ho:=h.own;obtain⟨gg,cap,hv,hgb,hg⟩:=ho.form hl;refine⟨_,cap,hv,fun _=>⟨gg,rfl,by omega,hg,fun i hi=>?_⟩⟩;rw[hv]at ho;rw[ho.cellAt i (by omega)];simp[uD,hi]
 ·obtain⟨a,c,e⟩:=h.form;exact⟨a,c,e,fun h=>aZ h hl⟩
theorem Tr.JG {F:Fo}(h:Tr.jD F)(z:Int):(Tr.pV F z).length<=8:=by
 unfold Tr.pV;by_cases c:Tr.bj F z 2=0
 ·rw[aJ c,oX,Tr.qj];obtain⟨n,rfl,n40,_,k2⟩:=Tr.dY c;rw[hU];exact h n n40 k2
 ·rw[aI c];exact aC _
def Tr.Hb (F:Fo)(k:Nat):Prop:= ∀n,n<40->(F.nd n).held<=k
theorem Tr.Hb.mono {F:Fo}{k l:Nat}(h:Tr.Hb F k)(hl:k<=l):Tr.Hb F l:=fun n hn=>aH (h n hn) hl
theorem Tr.Hb.put {F:Fo}{k n:Nat}{x:Nd}(h:Tr.Hb F k)(hx:x.held<=k):Tr.Hb (F.put n x) k:=fun m hm=>by
 by_cases c:m=n
 ·subst c;rw[Tr.ai];exact hx
 ·rw[Tr.ao _ _ _ _ c];exact h m hm
theorem Tr.Hb.kV {F:Fo}{k n:Nat}(h:Tr.Hb F k):Tr.Hb (Tr.kV F n) k:=by
 unfold Tr.kV;split
 ·exact h.put (aC _)
 ·exact h
theorem Tr.Hb.dc {F:Fo}{k:Nat}(h:Tr.Hb F k)(z:Int):Tr.Hb (Tr.dc F z) (k+1):=by
 unfold Tr.dc;split
 ·rename_i c;obtain⟨n,rfl,n40,_⟩:=Tr.fW c;rw[hU];refine(h.mono (Nat.le_succ k)).put ?_;exact Nat.succ_le_succ (h n n40)
 ·exact h.mono (Nat.le_succ k)
theorem Tr.Hb.cZ {F:Fo}{k:Nat}(h:Tr.Hb F k)(z:Int):Tr.Hb (Tr.cZ F z) k:=by
 unfold Tr.cZ;split
 ·rename_i c;have c':Tr.bh F z=0:=by
   unfold Tr.letE at c;by_cases d:Tr.bh F z=0
   ·exact d
   ·rw[aI d]at c;exact c
  obtain⟨n,rfl,n40,_⟩:=Tr.fW c';rw[hU];refine Tr.Hb.kV (h.put ?_);exact aH (Nat.sub_le _ _) (h n n40)
 ·exact h
theorem Tr.Hb.lt {F:Fo}{k:Nat}(h:Tr.Hb F k)(hk:k<1000): ∀n,n<40->(F.nd n).held<2^60:=fun n hn=>by have:=h n hn;omega
open Mo (Wh Mt Tb)
namespace Mo
def lH (F:Fo)(m:Mt):Fo:=Tr.dc (Tr.dc F m.1.2) m.2.2
def iL (F:Fo)(m:Mt):Fo:=Tr.cZ (Tr.cZ F m.1.2) m.2.2
def lR (F:Fo)(T:Tb):Fo:=T.ms.foldl lH (Tr.dc F T.rt.2)
def rX (F:Fo)(T:Tb):Fo:=T.ms.foldl iL (Tr.cZ F T.rt.2)
theorem PO {F:Fo}{k:Nat}(h:Tr.Hb F k)(m:Mt):Tr.Hb (lH F m) (k+2):=(h.dc _).dc _
theorem Pj {F:Fo}{k:Nat}(h:Tr.Hb F k)(m:Mt):Tr.Hb (iL F m) (k+2):=((h.cZ _).cZ _).mono (by omega)
theorem ID: ∀(L:List Mt) {F:Fo} {k:Nat},Tr.Hb F k->Tr.Hb (L.foldl lH F) (k+2*L.length)
 |[],_,_,h=>h
 |m::L,_,k,h=>by
  have:=ID L (PO h m);grind
theorem Ij: ∀(L:List Mt) {F:Fo} {k:Nat},Tr.Hb F k->Tr.Hb (L.foldl iL F) (k+2*L.length)
 |[],_,_,h=>h
 |m::L,_,k,h=>by
  have:=Ij L (Pj h m);grind
theorem vP {α β:Type}(f:α->β->α)(L:List β)(j:Nat)(m:β)(a:α)(h:L[j]? =some m):(L.take (j+1)).foldl f a=f ((L.take j).foldl f a) m:=by
 obtain⟨hl,e⟩:=aY.1 h;rw[List.take_succ_eq_append_getElem hl,List.foldl_append,e];rfl
end Mo
section
variable {w w' : bD} {base b f : Nat} {T : Tb} {v : Value} {F : Fo}
theorem bd.ne (h:bd w base b f T v)(hF:ar w f F):b≠f/\ ∀g,v.ownBlock=some g->g≠f:=by
 obtain⟨C,hC,_⟩:=hF.cv;exact⟨wR h.cv hC (by decide),h.row.KY hC (by decide)⟩
theorem bd.jg (h:bd w base b f T v)(hF:ar w f F)(k:af f w w'):bd w' base b f T v:=
 h.same (k.block b h.lt (h.ne hF).1) (fun g e=>k.block g (h.row.lt g e).2 ((h.ne hF).2 g e))
end
def MB (w:bD)(c:Nat)(m:Mt):Prop:=w.heap[c]? =some (.cells #[.int .i64 m.1.1, .int .i64 m.1.2, .int .i64 m.2.1, .int .i64 m.2.2] 273 (0,0))
section
variable {w w' : bD} {c f : Nat} {m : Mt} {F : Fo}
theorem MB.c0 (h:MB w c m):w.cell? ⟨c,0,none⟩=some (.int .i64 m.1.1):=by rw[au h];rfl
theorem MB.c1 (h:MB w c m):w.cell? ⟨c,1,none⟩=some (.int .i64 m.1.2):=by rw[au h];rfl
theorem MB.c2 (h:MB w c m):w.cell? ⟨c,2,none⟩=some (.int .i64 m.2.1):=by rw[au h];rfl
theorem MB.c3 (h:MB w c m):w.cell? ⟨c,3,none⟩=some (.int .i64 m.2.2):=by rw[au h];rfl
theorem MB.lt (h:MB w c m):c<w.heap.size:=(aX.1 h).1
theorem MB.jg (h:MB w c m)(hF:ar w f F)(k:af f w w'):MB w' c m:=by
 obtain⟨C,hC,_⟩:=hF.cv;exact(k.block c h.lt (wR h hC (by decide))).trans h
end
theorem rE (base b f K:Nat)(T:Tb)(v:Value)(F:Fo)(m:Mt)(w:bD)(h:bd w base b f T v)(hF:ar w f F)(hb:Tr.Hb F K)(hK:K<900):
  Calls Tryz.prog 232 #[.pointer (some ⟨b,0,none⟩), .agg #[.int .i64 m.1.1, .int .i64 m.1.2, .int .i64 m.2.1, .int .i64 m.2.2]] w fun e w'=>e= .returned (.tuple #[])/\ar w' f (Mo.lH F m)/\af f w w':=by
 have HT:=hZ (aK h hF);have HB:=hZ hb;clear h hF hb;go_in
 go_upto_region 1 with fail
 refine bw (fun W'=>MB W' w.heap.size m/\Below w.heap.size w W') ⟨heap_alloc_new w _,(aQ _ _).alloc (aL _) _⟩ ?_;rintro W1 ⟨m1,b1⟩;have S1:Hid (MB W1 w.heap.size m/\bd W1 base b f T v/\ar W1 f F/\af f w W1):=hZ ⟨m1,HT.out.1.below b1,HT.out.2.below b1,af.bB b1⟩;clear m1 b1 HT;generalize w.heap.size=mx at*;have K0:Hid (W1.cell? ⟨b,0,none⟩=some (.pointer (some ⟨f,0,none⟩))/\W1.cell? ⟨mx,1,none⟩=some (.int .i64 m.1.2)):=hZ ⟨S1.out.2.1.c0,S1.out.1.c1⟩;have KF:Hid (∀w':bD,af f W1 w'->w'.cell? ⟨b,0,none⟩=some (.pointer (some ⟨f,0,none⟩))/\w'.cell? ⟨mx,1,none⟩=some (.int .i64 m.1.2)):=hZ (fun w' k=>⟨(S1.out.2.1.jg S1.out.2.2.1 k).c0,(S1.out.1.jg S1.out.2.2.1 k).c1⟩);go_upto_region 1 with fail
 go_region_held3 (fun w'=>w'.cell? ⟨b,0,none⟩=some (.pointer (some ⟨f,0,none⟩))/\w'.cell? ⟨mx,1,none⟩=some (.int .i64 m.1.2)) (first|exact K0.out|exact K4.out) ((go_at_call 231;refine(pK f m.1.2 F _ S1.out.2.2.1.drew (HB.out.lt (by omega))).mono ?_;rintro e w4 ⟨rfl,t4,f4⟩;have f5:af f W1 w4:=⟨f4.os,f4.tape,f4.output,f4.size,f4.block⟩;have K4:=hZ (KF.out w4 f5);have P4:Hid (ar w4 f (Tr.dc F m.1.2)/\af f W1 w4):=hZ ⟨t4,f5⟩;clear t4 f4 f5))
 have S2:Hid (MB w4 mx m/\bd w4 base b f T v/\ar w4 f (Tr.dc F m.1.2)/\af f w w4):=hZ ⟨S1.out.1.jg S1.out.2.2.1 P4.out.2,S1.out.2.1.jg S1.out.2.2.1 P4.out.2,P4.out.1,S1.out.2.2.2.trans P4.out.2⟩;have HB2:Hid (Tr.Hb (Tr.dc F m.1.2) (K+1)):=hZ (HB.out.dc _);clear K4 K0 KF P4 S1;have K0:Hid (w4.cell? ⟨b,0,none⟩=some (.pointer (some ⟨f,0,none⟩))/\w4.cell? ⟨mx,3,none⟩=some (.int .i64 m.2.2)):=hZ ⟨S2.out.2.1.c0,S2.out.1.c3⟩;have KF:Hid (∀w':bD,af f w4 w'->w'.cell? ⟨b,0,none⟩=some (.pointer (some ⟨f,0,none⟩))/\w'.cell? ⟨mx,3,none⟩=some (.int .i64 m.2.2)):=hZ (fun w' k=>⟨(S2.out.2.1.jg S2.out.2.2.1 k).c0,(S2.out.1.jg S2.out.2.2.1 k).c3⟩);go_upto_region 2 with fail
 go_region_held3 (fun w'=>w'.cell? ⟨b,0,none⟩=some (.pointer (some ⟨f,0,none⟩))/\w'.cell? ⟨mx,3,none⟩=some (.int .i64 m.2.2)) (first|exact K0.out|exact K5.out) ((go_at_call 231;refine(pK f m.2.2 _ _ S2.out.2.2.1.drew (HB2.out.lt (by omega))).mono ?_;rintro e w5 ⟨rfl,t5,f4⟩;have f5:af f w4 w5:=⟨f4.os,f4.tape,f4.output,f4.size,f4.block⟩;have K5:=hZ (KF.out w5 f5);have P5:Hid (ar w5 f (Mo.lH F m)/\af f w w5):=hZ ⟨t5,S2.out.2.2.2.trans f5⟩;clear t5 f4 f5))
 go_wp2_with fail
 go_end0
 exact⟨rfl,P5.out⟩
theorem Bi (base b f K:Nat)(T:Tb)(v:Value)(F:Fo)(w:bD)(h:bd w base b f T v)(hF:ar w f F)(hb:Tr.Hb F K)(hK:K<800):
  Calls Tryz.prog 166 #[.pointer (some ⟨b,0,none⟩)] w fun e w'=>e= .returned (.tuple #[])/\ar w' f (Mo.lR F T)/\af f w w':=by
 have S1:Hid (bd w base b f T v/\ar w f F):=hZ ⟨h,hF⟩;have HB:=hZ hb;have h6:=h.qB;obtain⟨va,vc,hv⟩:=h.row.sl;have HV:=hZ hv;clear h hF hb hv;have K0:Hid (w.cell? ⟨b,0,none⟩=some (.pointer (some ⟨f,0,none⟩))/\w.cell? ⟨b,2,none⟩=some (.int .i64 T.rt.2)):=hZ ⟨S1.out.1.c0,S1.out.1.c2⟩;have KF:Hid (∀w':bD,af f w w'->w'.cell? ⟨b,0,none⟩=some (.pointer (some ⟨f,0,none⟩))/\w'.cell? ⟨b,2,none⟩=some (.int .i64 T.rt.2)):=hZ (fun w' k=>⟨(S1.out.1.jg S1.out.2 k).c0,(S1.out.1.jg S1.out.2 k).c2⟩);go_in
 go_upto_region 0 with fail
 go_region_held3 (fun w'=>w'.cell? ⟨b,0,none⟩=some (.pointer (some ⟨f,0,none⟩))/\w'.cell? ⟨b,2,none⟩=some (.int .i64 T.rt.2)) (first|exact K0.out|exact K4.out) ((go_at_call 231;refine(pK f T.rt.2 F _ S1.out.2.drew (HB.out.lt (by omega))).mono ?_;rintro e w4 ⟨rfl,t4,f4⟩;have f5:af f w w4:=⟨f4.os,f4.tape,f4.output,f4.size,f4.block⟩;have K4:=hZ (KF.out w4 f5);have P4:Hid (ar w4 f (Tr.dc F T.rt.2)/\af f w w4):=hZ ⟨t4,f5⟩;clear t4 f4 f5))
 have HB2:Hid (Tr.Hb (Tr.dc F T.rt.2) (K+1)):=hZ (HB.out.dc _);have T4:=hZ (S1.out.1.jg S1.out.2 P4.out.2);have c3:=T4.out.c3;rw[HV.out]at c3;obtain⟨N,hN⟩:=nJ (T.ms.length);have HN:=hZ hN;rw[hN]at c3 h6;clear K4 K0 KF hN;go_wp2_with fail
 clear c3;go_loopw [3,19] (fun _ i wr=> ∃(j:Nat),i= .int .i64 j/\j<=N/\Hid (ar wr f ((T.ms.take j).foldl Mo.lH (Tr.dc F T.rt.2))/\af f w wr)) (fun _ i _=>N-(intOf i).toNat)
 case atStart=>exact⟨0,rfl,by omega,P4⟩
 case round=>
  obtain⟨j,rfl,hj,R⟩:=hrel;by_cases hlt:j<N
  ·have hltI:(j:Int)<(N:Int):=by omega
   obtain⟨m,hm⟩: ∃m,T.ms[j]? =some m:=⟨T.ms[j]'(by rw[HN.out];exact hlt),aW _⟩;have TW:=hZ (S1.out.1.jg S1.out.2 R.out.2);rcases TW.out.row.form with⟨_,e⟩|⟨g,cap,hv,_,_,_⟩
   ·rw[e]at hm;simp at hm
   ·have r:=TW.out.row;rw[hv]at r;have hv2:=HV.out;rw[hv]at hv2;rw[HN.out]at hv2;injection hv2 with e1 e2 e3
    subst e1;have d0:wr.cell? ⟨g,j*4,none⟩=some (.int .i64 m.1.1):=r.cell j 0 m hm (by omega);have d1:wr.cell? ⟨g,j*4+1,none⟩=some (.int .i64 m.1.2):=r.cell j 1 m hm (by omega);have d2:wr.cell? ⟨g,j*4+2,none⟩=some (.int .i64 m.2.1):=r.cell j 2 m hm (by omega);have d3:wr.cell? ⟨g,j*4+3,none⟩=some (.int .i64 m.2.2):=r.cell j 3 m hm (by omega);have NX:Hid ((T.ms.take (j+1)).foldl Mo.lH (Tr.dc F T.rt.2)=Mo.lH ((T.ms.take j).foldl Mo.lH (Tr.dc F T.rt.2)) m):=hZ (Mo.vP _ _ _ _ _ hm);have HBJ:Hid (Tr.Hb ((T.ms.take j).foldl Mo.lH (Tr.dc F T.rt.2)) (K+1+2*6)):=hZ ((Mo.ID _ HB2.out).mono (by rw[List.length_take];omega));clear hm r hv e2 e3;go_upto_region 4 with fail
    refine bw (fun W'=>MB W' wr.heap.size m/\Below wr.heap.size wr W') ⟨heap_alloc_new wr _,(aQ _ _).alloc (aL _) _⟩ ?_;rintro W5 ⟨m5,b5⟩;have S5:Hid (bd W5 base b f T v/\ar W5 f ((T.ms.take j).foldl Mo.lH (Tr.dc F T.rt.2))/\af f w W5):=hZ ⟨TW.out.below b5,R.out.1.below b5,R.out.2.trans (af.bB b5)⟩;have n0:=m5.c0;have n1:=m5.c1;have n2:=m5.c2;have n3:=m5.c3;clear m5 b5 d0 d1 d2 d3;generalize wr.heap.size=mx at*;go_wp2_with fail
    refine(rE base b f _ T v _ m _ S5.out.1 S5.out.2.1 HBJ.out (by omega)).mono ?_;rintro e W6 ⟨rfl,t6,f6⟩;have S6:Hid (ar W6 f ((T.ms.take (j+1)).foldl Mo.lH (Tr.dc F T.rt.2))/\af f w W6):=hZ ⟨by rw[NX.out];exact t6,S5.out.2.2.trans f6⟩;clear t6 f6;go_wp2
    go_roundw
    case rel=>exact⟨j+1,by go_num,by omega,S6⟩
    case measure=>simp[intOf];omega
  ·have hltI: ¬(j:Int)<(N:Int):=by omega
   have FIN:Hid (ar wr f (Mo.lR F T)/\af f w wr):=hZ ⟨by
    have:=R.out.1;rw[List.take_of_length_le (by rw[HN.out];omega)]at this;exact this,R.out.2⟩
   go_wp2_with fail
   go_end0
   exact⟨rfl,FIN.out⟩
theorem sf (base b f K:Nat)(T:Tb)(v:Value)(F:Fo)(m:Mt)(w:bD)(h:bd w base b f T v)(hF:ar w f F)(hb:Tr.Hb F K)(hK:K<900):
  Calls Tryz.prog 233 #[.pointer (some ⟨b,0,none⟩), .agg #[.int .i64 m.1.1, .int .i64 m.1.2, .int .i64 m.2.1, .int .i64 m.2.2]] w fun e w'=>e= .returned (.tuple #[])/\ar w' f (Mo.iL F m)/\af f w w':=by
 have HT:=hZ (aK h hF);have HB:=hZ hb;clear h hF hb;go_in
 go_upto_region 1 with fail
 refine bw (fun W'=>MB W' w.heap.size m/\Below w.heap.size w W') ⟨heap_alloc_new w _,(aQ _ _).alloc (aL _) _⟩ ?_;rintro W1 ⟨m1,b1⟩;have S1:Hid (MB W1 w.heap.size m/\bd W1 base b f T v/\ar W1 f F/\af f w W1):=hZ ⟨m1,HT.out.1.below b1,HT.out.2.below b1,af.bB b1⟩;clear m1 b1 HT;generalize w.heap.size=mx at*;have K0:Hid (W1.cell? ⟨b,0,none⟩=some (.pointer (some ⟨f,0,none⟩))/\W1.cell? ⟨mx,1,none⟩=some (.int .i64 m.1.2)):=hZ ⟨S1.out.2.1.c0,S1.out.1.c1⟩;have KF:Hid (∀w':bD,af f W1 w'->w'.cell? ⟨b,0,none⟩=some (.pointer (some ⟨f,0,none⟩))/\w'.cell? ⟨mx,1,none⟩=some (.int .i64 m.1.2)):=hZ (fun w' k=>⟨(S1.out.2.1.jg S1.out.2.2.1 k).c0,(S1.out.1.jg S1.out.2.2.1 k).c1⟩);go_upto_region 1 with fail
 go_region_held3 (fun w'=>w'.cell? ⟨b,0,none⟩=some (.pointer (some ⟨f,0,none⟩))/\w'.cell? ⟨mx,1,none⟩=some (.int .i64 m.1.2)) (first|exact K0.out|exact K4.out) ((go_at_call 226;refine(qR f m.1.2 F _ S1.out.2.2.1.drew (HB.out.lt (by omega))).mono ?_;rintro e w4 ⟨rfl,t4,f4⟩;have f5:af f W1 w4:=⟨f4.os,f4.tape,f4.output,f4.size,f4.block⟩;have K4:=hZ (KF.out w4 f5);have P4:Hid (ar w4 f (Tr.cZ F m.1.2)/\af f W1 w4):=hZ ⟨t4,f5⟩;clear t4 f4 f5))
 have S2:Hid (MB w4 mx m/\bd w4 base b f T v/\ar w4 f (Tr.cZ F m.1.2)/\af f w w4):=hZ ⟨S1.out.1.jg S1.out.2.2.1 P4.out.2,S1.out.2.1.jg S1.out.2.2.1 P4.out.2,P4.out.1,S1.out.2.2.2.trans P4.out.2⟩;have HB2:Hid (Tr.Hb (Tr.cZ F m.1.2) (K+1)):=hZ ((HB.out.cZ _).mono (by omega:K<=K+1));clear K4 K0 KF P4 S1;have K0:Hid (w4.cell? ⟨b,0,none⟩=some (.pointer (some ⟨f,0,none⟩))/\w4.cell? ⟨mx,3,none⟩=some (.int .i64 m.2.2)):=hZ ⟨S2.out.2.1.c0,S2.out.1.c3⟩;have KF:Hid (∀w':bD,af f w4 w'->w'.cell? ⟨b,0,none⟩=some (.pointer (some ⟨f,0,none⟩))/\w'.cell? ⟨mx,3,none⟩=some (.int .i64 m.2.2)):=hZ (fun w' k=>⟨(S2.out.2.1.jg S2.out.2.2.1 k).c0,(S2.out.1.jg S2.out.2.2.1 k).c3⟩);go_upto_region 2 with fail
 go_region_held3 (fun w'=>w'.cell? ⟨b,0,none⟩=some (.pointer (some ⟨f,0,none⟩))/\w'.cell? ⟨mx,3,none⟩=some (.int .i64 m.2.2)) (first|exact K0.out|exact K5.out) ((go_at_call 226;refine(qR f m.2.2 _ _ S2.out.2.2.1.drew (HB2.out.lt (by omega))).mono ?_;rintro e w5 ⟨rfl,t5,f4⟩;have f5:af f w4 w5:=⟨f4.os,f4.tape,f4.output,f4.size,f4.block⟩;have K5:=hZ (KF.out w5 f5);have P5:Hid (ar w5 f (Mo.iL F m)/\af f w w5):=hZ ⟨t5,S2.out.2.2.2.trans f5⟩;clear t5 f4 f5))
 go_wp2_with fail
 go_end0
 exact⟨rfl,P5.out⟩
theorem Ml (base b f K:Nat)(T:Tb)(v:Value)(F:Fo)(w:bD)(h:bd w base b f T v)(hF:ar w f F)(hb:Tr.Hb F K)(hK:K<800):
  Calls Tryz.prog 168 #[.pointer (some ⟨b,0,none⟩)] w fun e w'=>e= .returned (.tuple #[])/\ar w' f (Mo.rX F T)/\af f w w':=by
 have S1:Hid (bd w base b f T v/\ar w f F):=hZ ⟨h,hF⟩;have HB:=hZ hb;have h6:=h.qB;obtain⟨va,vc,hv⟩:=h.row.sl;have HV:=hZ hv;clear h hF hb hv;have K0:Hid (w.cell? ⟨b,0,none⟩=some (.pointer (some ⟨f,0,none⟩))/\w.cell? ⟨b,2,none⟩=some (.int .i64 T.rt.2)):=hZ ⟨S1.out.1.c0,S1.out.1.c2⟩;have KF:Hid (∀w':bD,af f w w'->w'.cell? ⟨b,0,none⟩=some (.pointer (some ⟨f,0,none⟩))/\w'.cell? ⟨b,2,none⟩=some (.int .i64 T.rt.2)):=hZ (fun w' k=>⟨(S1.out.1.jg S1.out.2 k).c0,(S1.out.1.jg S1.out.2 k).c2⟩);go_in
 go_upto_region 0 with fail
 go_region_held3 (fun w'=>w'.cell? ⟨b,0,none⟩=some (.pointer (some ⟨f,0,none⟩))/\w'.cell? ⟨b,2,none⟩=some (.int .i64 T.rt.2)) (first|exact K0.out|exact K4.out) ((go_at_call 226;refine(qR f T.rt.2 F _ S1.out.2.drew (HB.out.lt (by omega))).mono ?_;rintro e w4 ⟨rfl,t4,f4⟩;have f5:af f w w4:=⟨f4.os,f4.tape,f4.output,f4.size,f4.block⟩;have K4:=hZ (KF.out w4 f5);have P4:Hid (ar w4 f (Tr.cZ F T.rt.2)/\af f w w4):=hZ ⟨t4,f5⟩;clear t4 f4 f5))
 have HB2:Hid (Tr.Hb (Tr.cZ F T.rt.2) (K+1)):=hZ ((HB.out.cZ _).mono (by omega:K<=K+1));have T4:=hZ (S1.out.1.jg S1.out.2 P4.out.2);have c3:=T4.out.c3;rw[HV.out]at c3;obtain⟨N,hN⟩:=nJ (T.ms.length);have HN:=hZ hN;rw[hN]at c3 h6;clear K4 K0 KF hN;go_wp2_with fail
 clear c3;go_loopw [3,19] (fun _ i wr=> ∃(j:Nat),i= .int .i64 j/\j<=N/\Hid (ar wr f ((T.ms.take j).foldl Mo.iL (Tr.cZ F T.rt.2))/\af f w wr)) (fun _ i _=>N-(intOf i).toNat)
 case atStart=>exact⟨0,rfl,by omega,P4⟩
 case round=>
  obtain⟨j,rfl,hj,R⟩:=hrel;by_cases hlt:j<N
  ·have hltI:(j:Int)<(N:Int):=by omega
   obtain⟨m,hm⟩: ∃m,T.ms[j]? =some m:=⟨T.ms[j]'(by rw[HN.out];exact hlt),aW _⟩;have TW:=hZ (S1.out.1.jg S1.out.2 R.out.2);rcases TW.out.row.form with⟨_,e⟩|⟨g,cap,hv,_,_,_⟩
   ·rw[e]at hm;simp at hm
   ·have r:=TW.out.row;rw[hv]at r;have hv2:=HV.out;rw[hv]at hv2;rw[HN.out]at hv2;injection hv2 with e1 e2 e3
    subst e1;have d0:wr.cell? ⟨g,j*4,none⟩=some (.int .i64 m.1.1):=r.cell j 0 m hm (by omega);have d1:wr.cell? ⟨g,j*4+1,none⟩=some (.int .i64 m.1.2):=r.cell j 1 m hm (by omega);have d2:wr.cell? ⟨g,j*4+2,none⟩=some (.int .i64 m.2.1):=r.cell j 2 m hm (by omega);have d3:wr.cell? ⟨g,j*4+3,none⟩=some (.int .i64 m.2.2):=r.cell j 3 m hm (by omega);have NX:Hid ((T.ms.take (j+1)).foldl Mo.iL (Tr.cZ F T.rt.2)=Mo.iL ((T.ms.take j).foldl Mo.iL (Tr.cZ F T.rt.2)) m):=hZ (Mo.vP _ _ _ _ _ hm);have HBJ:Hid (Tr.Hb ((T.ms.take j).foldl Mo.iL (Tr.cZ F T.rt.2)) (K+1+2*6)):=hZ ((Mo.Ij _ HB2.out).mono (by rw[List.length_take];omega));clear hm r hv e2 e3;go_upto_region 4 with fail
    refine bw (fun W'=>MB W' wr.heap.size m/\Below wr.heap.size wr W') ⟨heap_alloc_new wr _,(aQ _ _).alloc (aL _) _⟩ ?_;rintro W5 ⟨m5,b5⟩;have S5:Hid (bd W5 base b f T v/\ar W5 f ((T.ms.take j).foldl Mo.iL (Tr.cZ F T.rt.2))/\af f w W5):=hZ ⟨TW.out.below b5,R.out.1.below b5,R.out.2.trans (af.bB b5)⟩;have n0:=m5.c0;have n1:=m5.c1;have n2:=m5.c2;have n3:=m5.c3;clear m5 b5 d0 d1 d2 d3;generalize wr.heap.size=mx at*;go_wp2_with fail
    refine(sf base b f _ T v _ m _ S5.out.1 S5.out.2.1 HBJ.out (by omega)).mono ?_;rintro e W6 ⟨rfl,t6,f6⟩;have S6:Hid (ar W6 f ((T.ms.take (j+1)).foldl Mo.iL (Tr.cZ F T.rt.2))/\af f w W6):=hZ ⟨by rw[NX.out];exact t6,S5.out.2.2.trans f6⟩;clear t6 f6;go_wp2
    go_roundw
    case rel=>exact⟨j+1,by go_num,by omega,S6⟩
    case measure=>simp[intOf];omega
  ·have hltI: ¬(j:Int)<(N:Int):=by omega
   have FIN:Hid (ar wr f (Mo.rX F T)/\af f w wr):=hZ ⟨by
    have:=R.out.1;rw[List.take_of_length_le (by rw[HN.out];omega)]at this;exact this,R.out.2⟩
   go_wp2_with fail
   go_end0
   exact⟨rfl,FIN.out⟩
def Mo.Gv (F:Fo)(t:Int):Wh:=if Tr.jo F t=0 then(t,(Tr.jl F t:Int))else(0,0)
theorem Fc (f:Nat)(F:Fo)(t:Int)(w:bD)(hF:ar w f F):
  Calls Tryz.prog 165 #[.pointer (some ⟨f,0,none⟩), .int .i64 t] w fun e w'=>e= .returned (.tuple #[.agg #[.int .i64 (Mo.Gv F t).1, .int .i64 (Mo.Gv F t).2],aq (Tr.jo F t)])/\Below w.heap.size w w':=by
 have HF:=hZ hF;clear hF;go_in
 go_upto_region 1 with fail
 refine bw (fun W'=>WB W' w.heap.size (0,0)/\Below w.heap.size w W') (Dy w) ?_;rintro W1 h1;have S1:=hZ h1;clear h1;go_wp2_with fail
 refine(Ho f t F _ (HF.out.below S1.out.2)).mono ?_;rintro e W2 ⟨rfl,hW⟩;subst W2;obtain⟨rx,hrx⟩:=nJ (w.heap.size);have HRX:=hZ hrx;rw[hrx]at S1|-;clear hrx;have y0:=S1.out.1.c0;have y1:=S1.out.1.c1;have yf:=S1.out.1.fz;by_cases e0:Tr.jo F t=0
 ·have P:Hid (Mo.Gv F t=(t,(Tr.jl F t:Int))):=hZ (aJ e0);have E0:=hZ e0;rw[e0,aa];obtain⟨rn,hrn⟩:=nJ ((Tr.jl F t:Int));rw[hrn]at P|-;have R:=hZ (S1.out.1.fin S1.out.2 HRX.out (t,rn));clear e0 hrn;go_wp2_with fail
  generalize hWF:(W1.setCell ⟨rx,0,none⟩ (.int .i64 t)).setCell ⟨rx,1,none⟩ (.int .i64 rn)=WF at R|-;have z0:=R.out.1.c0;have z1:=R.out.1.c1;refine bodyPost_ret (v:= .tuple #[.agg #[.int .i64 t, .int .i64 rn], .nilIface]) (by simp[results,Tryz.f165,go_sem,z0,z1]) rfl ?_;rw[P.out,E0.out];refine⟨rfl,by rw[HRX.out];exact R.out.2⟩
 ·have P:Hid (Mo.Gv F t=(0,0)):=hZ (aI e0);have E0:=hZ (aj e0);rw[E0.out];have R:=hZ (S1.out.1.fin S1.out.2 HRX.out (0,0));clear e0;go_wp2_with fail
  generalize hWF:(W1.setCell ⟨rx,0,none⟩ (.int .i64 0)).setCell ⟨rx,1,none⟩ (.int .i64 0)=WF at R|-;have z0:=R.out.1.c0;have z1:=R.out.1.c1;refine bodyPost_ret (v:= .tuple #[.agg #[.int .i64 0, .int .i64 0], .iface 100 (.int .i64 (Tr.jo F t))]) (by simp[results,Tryz.f165,go_sem,z0,z1]) rfl ?_;rw[P.out,E0.out];refine⟨rfl,by rw[HRX.out];exact R.out.2⟩
theorem bd.made (w:bD)(f base:Nat)(x:Wh):bd (w.alloc (.cells #[.pointer (some ⟨f,0,none⟩), .int .i64 x.1, .int .i64 x.2, .slice none 0 0] 229)) base w.heap.size f ⟨x,[]⟩ (.slice none 0 0):=
 ⟨heap_alloc_new w _,World.ownsRow_nil _ _ _ _,by simp⟩
theorem Mr (f K:Nat)(F:Fo)(t:Int)(w:bD)(hF:ar w f F)(e0:Tr.jo F t=0)(hb:Tr.Hb F K)(hK:K<800):
  Calls Tryz.prog 90 #[.pointer (some ⟨f,0,none⟩), .int .i64 t] w fun e w'=> ∃b,e= .returned (.tuple #[.pointer (some ⟨b,0,none⟩), .nilIface])/\w.heap.size<=b/\(∀base,bd w' base b f ⟨(t,(Tr.jl F t:Int)),[]⟩ (.slice none 0 0))/\ar w' f (Tr.dc F (Tr.jl F t))/\af f w w':=by
 have HF:=hZ hF;have HB:=hZ hb;have P:Hid (Mo.Gv F t=(t,(Tr.jl F t:Int))):=hZ (aJ e0);have E0:=hZ e0;clear hF hb e0;go_in
 go_wp2_with fail
 refine(Fc f F t _ HF.out).mono ?_;rintro e W1 ⟨rfl,b1⟩;rw[P.out,E0.out,aa];obtain⟨rn,hrn⟩:=nJ ((Tr.jl F t:Int));rw[hrn];have S1:Hid (∀o o',ar ((W1.alloc o).alloc o') f F/\Below w.heap.size w ((W1.alloc o).alloc o')):=hZ (fun o o'=>by
  have a:Below w.heap.size w ((W1.alloc o).alloc o'):=(b1.alloc b1.size o).alloc (by have:=b1.size;simp;omega) o';exact⟨HF.out.below a,a⟩)
 have BZ:=hZ b1.size;clear b1 E0 P;go_upto_region 5 with fail
 refine bw (fun W'=>(∀base,bd W' base (W1.heap.size+1) f ⟨(t,rn),[]⟩ (.slice none 0 0))/\ar W' f F/\Below w.heap.size w W') ⟨fun base=>⟨by
  show((W1.heap.push _).push _)[W1.heap.size+1]? =_;simp only[bJ,Array.size_push];rw[aJ trivial],World.ownsRow_nil _ _ _ _,by simp⟩,S1.out _ _⟩ ?_
 rintro W2 ⟨t2,f2,b2⟩;have S2:=hZ (aK t2 (aK f2 b2));have LB:Hid (w.heap.size<=W1.heap.size+1):=hZ (by have:=BZ.out;omega);clear t2 f2 b2 S1 BZ;generalize W1.heap.size+1=b at*;generalize W1.heap.size=b' at*;go_wp2_with fail
 refine(Bi 0 b f K ⟨(t,rn),[]⟩ _ F _ (S2.out.1 0) S2.out.2.1 HB.out hK).mono ?_;rintro e W3 ⟨rfl,f3,k3⟩;have FIN:Hid ((∀base,bd W3 base b f ⟨(t,rn),[]⟩ (.slice none 0 0))/\ar W3 f (Tr.dc F rn)/\af f w W3):=hZ ⟨fun base=>(S2.out.1 base).jg S2.out.2.1 k3,f3,(af.bB S2.out.2.2).trans k3⟩;clear f3 k3;go_wp2
 go_ret2
 subst hrn;exact⟨b,rfl,LB.out,FIN.out⟩
section
variable {ops : Array Oper} {rest : List Oper} {o : Oper} {a : Act} {w : bD} {Q : Exit -> Act -> bD -> Prop}
theorem wG {P:Program}(t ty e:TypeId)(i:TypeInfo)(ht:P.underlying t=some (.slice e))(hi:P.info? e=some i)(g:Nat)(ad:Addr)(n cap c:Nat)(hn:n<=cap):
  (Builtin.append_ #[t,t] ty #[.slice (some ⟨g,0,none⟩) n cap, .slice (some ad) 0 c]).run P w= .ok (.slice (some ⟨g,0,none⟩) n cap) w:=by
 simp[Builtin.append_,run_underlying ht,sizeOf,typeInfo,hi,Builtin.lenOf,Builtin.firstCells,hn,storeCells,loadCells,loadCellsFrom]
theorem sQ (hgd:o.guard=none)(s x:Operand)(t:TypeId)(ho:o.op= .call {callee:= .builtin .append,args:=#[s,x],argTypes:=#[t,t]})(e:TypeId)(i:TypeInfo)(ht:Tryz.prog.underlying t=some (.slice e))(hi:Tryz.prog.info? e=some i)
  (g:Nat) (ad:Addr) (n cap c:Nat) (hn:n<=cap) (hs:a.eval s= .slice (some ⟨g,0,none⟩) n cap) (hx:a.eval x= .slice (some ad) 0 c) (h:wpList Tryz.prog ops Q rest (a.put o.dst (.slice (some ⟨g,0,none⟩) n cap)) w):wpList Tryz.prog ops Q (o::rest) a w:=
 wpList_plain hgd fun _ hK=>by
  unfold Oper.wp execOp;simp only[ho,resolve,invoke,builtin,Sem.run_bind,Sem.run_pure,Result.andThen_ok,List.map_toArray,List.map_cons,List.map_nil,hs,hx,wG (P:=Tryz.prog) (w:=w) t o.type e i ht hi g ad n cap c hn];exact hK _ _ h
end
theorem Mo.sG: ∀(L:List Mt),∀u∈Mo.eN L,u.oneCell'=true:=fun L u hu=>by
 unfold Mo.eN at hu;obtain⟨m,_,hm⟩:=List.mem_flatMap.1 hu;simp only[Mo.sS,List.mem_cons,List.not_mem_nil,or_false]at hm;rcases hm with rfl|rfl|rfl|rfl<;>rfl
theorem eF.news {w:bD}{base g n cap:Nat}{L:List Mt}(h:eF w base L (.slice (some ⟨g,0,none⟩) n cap)): ∀j u,(Mo.eN L)[j]? =some u->w.cell? ((⟨g,0,none⟩:Addr).add j)=some u:=World.ownsRow.cells h rfl
theorem Nk (w:bD):Sem.run Tryz.prog (binOp BinOp.eql 227 (.slice none 0 0) (.slice none 0 0)) w= .ok (.bool true) w:=by kernel_rfl
theorem CI (ad:Addr)(n c:Nat)(w:bD):Sem.run Tryz.prog (binOp BinOp.eql 227 (.slice (some ad) n c) (.slice none 0 0)) w= .ok (.bool false) w:=by kernel_rfl
theorem DG (base:Nat)(L:List Mt)(v:Value)(w:bD)(h:eF w base L v)(h6:L.length<=6):
  Calls Tryz.prog 219 #[v] w fun e w'=> ∃v',e= .returned v'/\eF w' w.heap.size L v'/\Below w.heap.size w w':=by
 obtain⟨i0,z0,hi0,hz0,hz1,hz2,hz3⟩:=Bx;rcases h.form with⟨rfl,rfl⟩|⟨g,cap,rfl,hb,hg,hc⟩
 ·clear h;have cm:=Nk w;go_in
  go_wp2
  go_ret
  exact⟨_,rfl,World.ownsRow_nil _ _ _ _,aQ _ _⟩
 ·have HR:=hZ h;obtain⟨N,hN⟩:=nJ (L.length);have HN:=hZ hN;rw[hN]at h6 HR hc|-;have A1:Hid ((w.alloc (.cells #[] 273)).ownsRow w.heap.size 273 4 (.slice (some ⟨w.heap.size,0,none⟩) 0 0) 0 []/\Below w.heap.size w (w.alloc (.cells #[] 273))):=hZ ⟨⟨rfl, .inr ⟨w.heap.size,0,#[],rfl,aL _,heap_alloc_new w _,aL _,by decide,rfl,rfl⟩⟩,(aQ _ _).alloc (aL _) _⟩;by_cases n0:N=0
  ·subst n0;have L0:Hid (L=[]):=hZ (List.eq_nil_of_length_eq_zero hN);clear h hN hb hg;have cm:=CI ⟨g,0,none⟩ 0 cap w;go_in
   go_wp2_with (at_builtin;refine sQ rfl _ _ 227 rfl 273 i0 Tryz.underlying227 hi0 w.heap.size ⟨g,0,none⟩ 0 0 cap (aL _) (by rfl) (by rfl) ?_)
   go_ret
   refine⟨_,rfl,?_,A1.out.2⟩;rw[L0.out];exact A1.out.1
  ·have HG:=hZ hg;clear h hN hb hg;have MORE:Hid (∀g2 cap2 W7,W7.ownsRow w.heap.size 273 4 (.slice (some ⟨g2,0,none⟩) (0+N) cap2) (0+N) ([]++Mo.eN L)->(w.alloc (.cells #[] 273)).grownBy W7 (some w.heap.size)->eF W7 w.heap.size L (.slice (some ⟨g2,0,none⟩) (0+N) cap2)/\Below w.heap.size w W7):=hZ (fun g2 cap2 W7 ho hgr=>by
    refine⟨?_,A1.out.2.trans ⟨hgr.os,hgr.tape,hgr.output,hgr.size,fun n hn=>hgr.block n (by simp;omega) (fun e=>by cases e;omega)⟩⟩;unfold eF;rw[HN.out];rw[Nat.zero_add,List.nil_append]at ho;rw[Nat.zero_add];exact ho)
   have cm:=CI ⟨g,0,none⟩ N cap w;go_in
   go_wp2_with (at_builtin;refine wpList_append_lies _ rfl _ _ 227 (by rfl) w.heap.size 273 i0 z0 4 32 Tryz.underlying227 hi0 hz0 hz1 hz2 hz3 (by decide) (.slice (some ⟨w.heap.size,0,none⟩) 0 0) 0 [] (by rfl) A1.out.1 ⟨g,0,none⟩ N cap (Mo.eN L) (by rfl) (by rw[Mo.kv,HN.out]) (HR.out.below A1.out.2).news (Mo.sG L) (by omega) (by unfold maxLen;omega) (by omega) (by simp) (w.heap.size+1) (by simp) ?_;intro gg cap2 W7 hown hgrow hat hlt2;have Q1:=hZ (MORE.out gg cap2 W7 hown hgrow);clear hown hgrow hat hlt2)
   go_ret
   have Q2:=Q1.out;rw[Nat.zero_add]at Q2;exact⟨_,rfl,Q2⟩
theorem Kr (base b f K:Nat)(T:Tb)(v:Value)(F:Fo)(w:bD)(h:bd w base b f T v)(hF:ar w f F)(hb:Tr.Hb F K)(hK:K<800):
  Calls Tryz.prog 141 #[.pointer (some ⟨b,0,none⟩)] w fun e w'=> ∃c v',e= .returned (.pointer (some ⟨c,0,none⟩))/\w.heap.size<=c/\bd w' w.heap.size c f T v'/\ar w' f (Mo.lR F T)/\af f w w':=by
 have HT:=hZ (aK h hF);have HB:=hZ hb;obtain⟨va,vc,hv⟩:=h.row.sl;have HV:=hZ hv;have c0:=h.c0;have c1:=h.c1;have c2:=h.c2;have c3:=h.c3;rw[hv]at c3;have KF:Hid (∀w':bD,Below w.heap.size w w'->w'.cell? ⟨b,0,none⟩=some (.pointer (some ⟨f,0,none⟩))/\w'.cell? ⟨b,1,none⟩=some (.int .i64 T.rt.1)/\w'.cell? ⟨b,2,none⟩=some (.int .i64 T.rt.2)/\w'.cell? ⟨b,3,none⟩=some (.slice va T.ms.length vc)):=hZ (fun w' k=>⟨(h.below k).c0,(h.below k).c1,(h.below k).c2,by rw[<-hv];exact(h.below k).c3⟩);have K0:=hZ (KF.out w (aQ _ _));clear h hF hb hv c0 c1 c2 c3;go_in
 go_upto_region 1 with fail
 go_region_held3 (fun w'=>w'.cell? ⟨b,0,none⟩=some (.pointer (some ⟨f,0,none⟩))/\w'.cell? ⟨b,1,none⟩=some (.int .i64 T.rt.1)/\w'.cell? ⟨b,2,none⟩=some (.int .i64 T.rt.2)/\w'.cell? ⟨b,3,none⟩=some (.slice va T.ms.length vc)) (first|exact K0.out|exact K4.out|exact(K5.out _)) ((go_at_call 219;rw[<-HV.out];refine(DG base T.ms v _ HT.out.1.drew.row HT.out.1.qB).mono ?_;rintro e w4 ⟨v',rfl,r4,b4⟩;have b5:Below w.heap.size w w4:=⟨b4.os,b4.tape,b4.output,b4.size,b4.block⟩;have K4:=hZ (KF.out w4 b5);have K5:Hid (∀o,(w4.alloc o).cell? ⟨b,0,none⟩=some (.pointer (some ⟨f,0,none⟩))/\(w4.alloc o).cell? ⟨b,1,none⟩=some (.int .i64 T.rt.1)/\(w4.alloc o).cell? ⟨b,2,none⟩=some (.int .i64 T.rt.2)/\(w4.alloc o).cell? ⟨b,3,none⟩=some (.slice va T.ms.length vc)):=hZ (fun o=>KF.out _ (b5.alloc b5.size o));have P4:Hid (eF w4 w.heap.size T.ms v'/\Below w.heap.size w w4):=hZ ⟨r4,b5⟩;obtain⟨va',vc',hv'⟩:=r4.sl;have HV':=hZ hv';subst hv';clear r4 b4 b5))
 have S5:Hid (bd (w4.alloc (.cells #[.pointer (some ⟨f,0,none⟩), .int .i64 T.rt.1, .int .i64 T.rt.2, .slice va' T.ms.length vc'] 229)) w.heap.size w4.heap.size f T (.slice va' T.ms.length vc')/\ar (w4.alloc (.cells #[.pointer (some ⟨f,0,none⟩), .int .i64 T.rt.1, .int .i64 T.rt.2, .slice va' T.ms.length vc'] 229)) f F/\Below w.heap.size w (w4.alloc (.cells #[.pointer (some ⟨f,0,none⟩), .int .i64 T.rt.1, .int .i64 T.rt.2, .slice va' T.ms.length vc'] 229))/\w.heap.size<=w4.heap.size):=hZ (by
  have b5:=P4.out.2.alloc P4.out.2.size (.cells #[.pointer (some ⟨f,0,none⟩), .int .i64 T.rt.1, .int .i64 T.rt.2, .slice va' T.ms.length vc'] 229);exact⟨⟨heap_alloc_new w4 _,P4.out.1.below ((aQ _ _).alloc (aL _) _),HT.out.1.qB⟩,HT.out.2.below b5,b5,P4.out.2.size⟩)
 generalize (w4.alloc (.cells #[.pointer (some ⟨f,0,none⟩), .int .i64 T.rt.1, .int .i64 T.rt.2, .slice va' T.ms.length vc'] 229))=W5 at*;generalize w4.heap.size=c at*;clear K0 K4 K5 KF P4;go_wp2_with fail
 refine(Bi w.heap.size c f K T _ F _ S5.out.1 S5.out.2.1 HB.out hK).mono ?_;rintro e W6 ⟨rfl,f6,k6⟩;have FIN:Hid (bd W6 w.heap.size c f T (.slice va' T.ms.length vc')/\ar W6 f (Mo.lR F T)/\af f w W6):=hZ ⟨S5.out.1.jg S5.out.2.1 k6,f6,(af.bB S5.out.2.2.1).trans k6⟩;clear f6 k6;go_wp2
 go_ret
 exact⟨c,_,rfl,S5.out.2.2.2,FIN.out⟩
def BF (b f:Nat):Nat->Prop:=fun k=>k=b\/k=f
theorem GI (base b f K:Nat)(T:Tb)(v:Value)(F:Fo)(w:bD)(h:bd w base b f T v)(hF:ar w f F)(hb:Tr.Hb F K)(hK:K<800):
  Calls Tryz.prog 154 #[.pointer (some ⟨b,0,none⟩)] w fun e w'=>e= .returned (.tuple #[])/\ar w' f (Mo.rX F T)/\dq (BF b f) w w':=by
 have HT:=hZ (aK h hF);have HB:=hZ hb;clear h hF hb;go_in
 go_wp2_with fail
 refine(Ml base b f K T v F _ HT.out.1 HT.out.2 HB.out hK).mono ?_;rintro e W1 ⟨rfl,f1,k1⟩;have T1:=HT.out.1.jg HT.out.2 k1;obtain⟨va,vc,hv⟩:=T1.row.sl;have c3:=T1.c3;rw[hv]at c3;have cf:=T1.frozen;have FIN:Hid (ar (W1.setCell ⟨b,3,none⟩ (.slice none 0 0)) f (Mo.rX F T)/\dq (BF b f) w (W1.setCell ⟨b,3,none⟩ (.slice none 0 0))):=hZ ⟨f1.same (dD _ _ _ _ (bQ (HT.out.1.ne HT.out.2).1)),(dq.kR k1 (.inr rfl)).setCell (.inl rfl) _ _⟩;clear f1 k1 T1 hv;go_wp2_with fail
 go_end0
 exact⟨rfl,FIN.out⟩
namespace Mo
theorem Az: ∀(L:List Mt) (n:Nat),eN (L.take n)=(eN L).take (n*4)
 |[],n=>by simp[eN]
 |x::L,0=>by simp[eN]
 |x::L,n+1=>by
  show sS x++eN (L.take n)=(sS x++eN L).take ((n+1)*4);rw[Az L n,show(n+1)*4=n*4+4 by omega];rfl
theorem Al: ∀(L:List Mt) (n:Nat),eN (L.drop n)=(eN L).drop (n*4)
 |[],n=>by simp[eN]
 |x::L,0=>by simp[eN]
 |x::L,n+1=>by
  show eN (L.drop n)=(sS x++eN L).drop ((n+1)*4);rw[Al L n,show(n+1)*4=4+n*4 by omega,<-List.drop_drop];rfl
end Mo
theorem oY {b:Nat}: ∀(vs:List Value) (o:Nat) {u w:bD},af b u w->af b u (w.setCells b o vs)
 |[],_,_,_,h=>h
 |v::r,o,u,w,h=>by rw[World.setCells];exact oY r (o+1) (h.setCell o v)
theorem oS (b:Nat): ∀(vs:List Value) (o:Nat) (w:bD) (C:Array Value) {T:TypeId},w.heap[b]? =some (.cells C T (0,0))-> ∃C',(w.setCells b o vs).heap[b]? =some (.cells C' T (0,0))/\C'.size=C.size
 |[],_,_,C,_,h=>⟨C,h,rfl⟩
 |v::r,o,w,C,T,h=>by
  rw[World.setCells];obtain⟨C',h1,h2⟩:=oS b r (o+1) _ _ (bC h o v);exact⟨C',h1,by rw[h2];simp⟩
def km:List Value:=[.int .i64 0, .int .i64 0, .int .i64 0, .int .i64 0]
theorem Fl (ty:TypeId)(b off c:Nat)(w:bD)(hc: ∀j,j<4->(w.cell? ⟨b,off+j,none⟩).isSome=true)(hf: ∀j,j<4->w.frozen? ⟨b,off+j,none⟩=false):
  Sem.run Tryz.prog (Builtin.clear_ #[227] ty #[.slice (some ⟨b,off,none⟩) 1 c]) w= .ok (.tuple #[]) (w.setCells b off km):=by
 have hu:Tryz.prog.underlying 227=some (.slice 273):=by kernel_rfl
 have hv: ∀w,(zeroValue 273).run Tryz.prog w= .ok (.agg #[.int .i64 0, .int .i64 0, .int .i64 0, .int .i64 0]) w:=fun w=>by kernel_rfl
 have hst:=run_storeCells_cells (P:=Tryz.prog) b off km 0 w (by simpa[km]using hc) (by simpa[km]using hf) (by
  intro v hv';simp only[km,List.mem_cons,List.not_mem_nil,or_false]at hv';rcases hv' with rfl|rfl|rfl|rfl<;>rfl)
 simp only[Nat.add_zero]at hst;have hz:(Builtin.zeroCells (Value.agg #[.int .i64 0, .int .i64 0, .int .i64 0, .int .i64 0]).cells 1).toList=km:=by kernel_rfl
 simp[Builtin.clear_,run_underlying hu,hv,hz,hst]
theorem eF.erased {w:bD}{base g cap i M:Nat}{L:List Mt}(h:eF w base L (.slice (some ⟨g,0,none⟩) (M+1) cap))(hM:L.length=M+1)(hi:i<=M):
  eF ((w.setCells g (i*4) (Mo.eN (L.drop (i+1)))).setCells g (M*4) km) base (L.eraseIdx i) (.slice (some ⟨g,0,none⟩) M cap)/\af g w ((w.setCells g (i*4) (Mo.eN (L.drop (i+1)))).setCells g (M*4) km):=by
 refine⟨?_,oY _ _ (oY _ _ (af.refl g w))⟩;have hl:(L.eraseIdx i).length=M:=by rw[List.length_eraseIdx_of_lt (by omega)];omega
 have hn:(Mo.eN (L.drop (i+1))).length=(M-i)*4:=by rw[Mo.kv,List.length_drop,hM];omega
 unfold eF;rw[hl];refine⟨by rw[Mo.kv,hl],?_⟩;rcases h.2 with⟨e,_⟩|⟨g',cap',cur,e,hb,hg,h1,h2,h3,h4⟩
 ·cases e
 ·rw[hM]at e;cases e;rw[hM]at h1 h4;obtain⟨C1,k1,s1⟩:=oS g (Mo.eN (L.drop (i+1))) (i*4) w cur hg;obtain⟨C2,k2,s2⟩:=oS g km (M*4) _ C1 k1;refine .inr ⟨g,cap,C2,rfl,hb,k2,by omega,h2,by rw[s2,s1];exact h3,?_⟩;have old: ∀o,o<(M+1)*4->w.cell? ⟨g,o,none⟩=(Mo.eN L)[o]? :=fun o ho=>by
   rw[au hg,<-h4,List.getElem?_take_of_lt ho,aM]
  apply List.ext_getElem?;intro o;by_cases ho:o<M*4
  ·rw[List.getElem?_take_of_lt ho,aM,<-au k2,
    aA g km (M*4) _ ⟨g,o,none⟩ (fun _ _=> .inl ho),List.eraseIdx_eq_take_drop_succ,Mo.C9]
   have hta:(Mo.eN (L.take i)).length=i*4:=by rw[Mo.kv,List.length_take,hM];omega
   by_cases c:o<i*4
   ·rw[aA g _ (i*4) w ⟨g,o,none⟩ (fun _ _=> .inl c),old o (by omega),List.getElem?_append_left (by omega),Mo.Az,List.getElem?_take_of_lt c]
   ·rw[List.getElem?_append_right (by omega),hta];have:=aS g (Mo.eN (L.drop (i+1))) (i*4) w (fun j hj=>by rw[old _ (by omega),aW (by rw[Mo.kv,hM];omega)];rfl) (o-i*4) (by omega);rw[show i*4+(o-i*4)=o by omega]at this;rw[this,aW (by omega)]
  ·rw[List.getElem?_eq_none (by rw[List.length_take];omega),List.getElem?_eq_none (by rw[Mo.kv,hl];omega)]
theorem Cr (base g cap i M:Nat)(L:List Mt)(w:bD)(h:eF w base L (.slice (some ⟨g,0,none⟩) (M+1) cap))(hM:L.length=M+1)(hi:i<=M)(h6:M<=5):
  Calls Tryz.prog 263 #[.slice (some ⟨g,0,none⟩) (M+1) cap, .int .i64 i, .int .i64 ((i:Int)+1)] w fun e w'=>e= .returned (.slice (some ⟨g,0,none⟩) M cap)/\eF w' base (L.eraseIdx i) (.slice (some ⟨g,0,none⟩) M cap)/\af g w w':=by
 obtain⟨i0,z0,hi0,hz0,hz1,hz2,hz3⟩:=Bx;have hn:(Mo.eN (L.drop (i+1))).length=(M-i)*4:=by rw[Mo.kv,List.length_drop,hM];omega
 have hcap:M+1<=cap/\cap<=maxLen:=by
  rcases h.2 with⟨e,_⟩|⟨g',cap',cur,e,hb,hg,h1,h2,h3,h4⟩
  ·cases e
  ·rw[hM]at e;cases e;exact⟨by omega,h2⟩
 unfold maxLen at hcap;have cl: ∀o,o<(M+1)*4->w.cell? ⟨g,o,none⟩=(Mo.eN L)[o]? :=fun o ho=>by
  rcases h.2 with⟨e,_⟩|⟨g',cap',cur,e,hb,hg,h1,h2,h3,h4⟩
  ·cases e
  ·rw[hM]at e;cases e;rw[au hg,<-h4,List.getElem?_take_of_lt (by rw[hM];exact ho),aM]
 have cs: ∀o,o<(M+1)*4->(w.cell? ⟨g,o,none⟩).isSome=true:=fun o ho=>by
  rw[cl o ho,aW (by rw[Mo.kv,hM];omega)];rfl
 obtain⟨A,hA,hnews⟩: ∃A:Addr,(if cap=i+1 then some (⟨g,0,none⟩:Addr)else some ⟨g,(i+1)*4,none⟩)=some A/\Hid (∀j u,(Mo.eN (L.drop (i+1)))[j]? =some u->w.drew.cell? (A.add j)=some u):=by
  by_cases c:cap=i+1
  ·refine⟨⟨g,0,none⟩,by simp[c],fun j u hu=>?_⟩;have:=(aY.1 hu).1;omega
  ·refine⟨⟨g,(i+1)*4,none⟩,by simp[c],fun j u hu=>?_⟩;have hj:=(aY.1 hu).1;rw[hn]at hj;rw[qG];show w.cell? ⟨g,(i+1)*4+j,none⟩=some u;rw[cl _ (by omega)];rw[Mo.Al,List.getElem?_drop]at hu;exact hu
 have hd:eF w.drew base L (.slice (some ⟨g,0,none⟩) (M+1) cap):=h;have FIN:Hid (∀W5,w.drew.setCells g (i*4) (Mo.eN (L.drop (i+1)))=W5->eF (W5.setCells g (M*4) km) base (L.eraseIdx i) (.slice (some ⟨g,0,none⟩) M cap)/\af g w (W5.setCells g (M*4) km)):=hZ (fun W5 e=>by
  subst e;have:=hd.erased hM hi;exact⟨this.1,⟨this.2.os,this.2.tape,this.2.output,this.2.size,this.2.block⟩⟩)
 have s1:Hid ((Mo.eN (L.drop (i+1))).length=(M-i)*4):=hZ hn;have s2:Hid (∀u∈Mo.eN (L.drop (i+1)),u.oneCell'=true):=hZ (Mo.sG _);have s3:Hid (∀j,j<(Mo.eN (L.drop (i+1))).length->(w.drew.cell? ⟨g,0+i*4+j,none⟩).isSome=true/\w.drew.frozen? ⟨g,0+i*4+j,none⟩=false):=hZ (fun j hj=>by
  rw[hn]at hj;rw[Nat.zero_add];exact⟨cs (i*4+j) (by omega),h.frozen _⟩)
 have s4:Hid (∀W5,w.drew.setCells g (i*4) (Mo.eN (L.drop (i+1)))=W5-> ∀j,j<4->(W5.cell? ⟨g,M*4+j,none⟩).isSome=true/\W5.frozen? ⟨g,M*4+j,none⟩=false):=hZ (fun W5 e j hj=>by
  subst e;rw[World.frozen?_setCells,aA g _ (i*4) w.drew ⟨g,M*4+j,none⟩ (fun _ _=> .inr (by rw[hn];show i*4+(M-i)*4<=M*4+j;omega))];exact⟨cs (M*4+j) (by omega),h.frozen _⟩)
 have q1:(i:Int)+1<=(M:Int)+1:=by omega
 have q2:(0:Int)<=(i:Int)+1:=by omega
 have q3:((i:Int)+1).toNat=i+1:=by omega
 have q4:(M:Int)+1<=(cap:Int):=by omega
 have q5:(i:Int)<=(cap:Int):=by omega
 have q6:i<=cap:=by omega
 have q7:((i:Int)==(i:Int)+1)=false:=by simp;omega
 have q8: ¬(i:Int)=(i:Int)+1:=by omega
 have q9:i+(M-i)=M:=by omega
 clear h hd hM cl cs hn;go_in
 go_upto_region 5 with fail
 go_region_law (refine step_append_room rfl (.tmp 22) (.tmp 25) 227 rfl 273 i0 4 Tryz.underlying227 hi0 hz1 g 0 i cap (by simp[Act.eval,Act.put]) A (M-i) (cap-(i+1)) (Mo.eN (L.drop (i+1))) (by simp[Act.eval,Act.put]) s1.out hnews.out s2.out (by omega) s3.out ?_)
 generalize hW5:w.drew.setCells g (i*4) (Mo.eN (L.drop (i+1)))=W5;have S4:=hZ (s4.out W5 hW5);have F5:=hZ (FIN.out W5 hW5);have p1: ¬cap=M:=by omega
 have p2:(M:Int)<=(M:Int)+1:=by omega
 have hcl:=Fl 0 g (M*4) (cap-M) W5 (fun j hj=>(S4.out j hj).1) (fun j hj=>(S4.out j hj).2);obtain⟨W6,hW6⟩:=nJ (W5.setCells g (M*4) km);rw[hW6]at hcl F5;clear hW5 s4 FIN s1 s2 s3 hnews hA hW6;go_wp2
 go_ret
 exact⟨rfl,F5.out⟩
namespace Mo
def gy (F:Fo)(x:Wh):Int:=if Tr.bh F x.2≠0 then Tr.bh F x.2 else if(F.nd x.2.toNat).kind=2/\((F.nd x.2.toNat).tree:Int)=x.1 then 0 else 11
def jV (F:Fo)(T:Tb)(x y:Wh):Int:=if gy F x≠0 then gy F x else if gy F y≠0 then gy F y else if x=y then 8 else if(lk T.ms x).isSome=true then 3 else if T.ms.length=6 then 4 else 0
def xA (F:Fo)(T:Tb)(x y:Wh):Tb:=if jV F T x y=0 then⟨T.rt,T.ms++[(x,y)]⟩else T
def xG (F:Fo)(T:Tb)(x y:Wh):Fo:=if jV F T x y=0 then lH F (x,y)else F
def zC (F:Fo)(T:Tb)(x:Wh)(E:Int)(T':Tb)(F':Fo):Prop:=(∃i:Nat,nY T.ms x i/\ ∃m,T.ms[i]? =some m/\E=0/\T'=⟨T.rt,T.ms.eraseIdx i⟩/\F'=iL F m)\/(nY T.ms x (-1)/\E=2/\T'=T/\F'=F)
theorem GX (F:Fo)(z:Int): ∃o1 o2 o3 o4:Int,rI F z=#[.int .i64 o1, .int .i64 o2, .int .i64 o3, .int .i64 o4]/\(Tr.bh F z=0->o1=((F.nd z.toNat).kind:Int)):=by
 unfold rI;split
 ·exact⟨_,_,_,_,rfl,fun _=>rfl⟩
 ·rename_i h;exact⟨0,0,0,0,rfl,fun e=>aZ e h⟩
end Mo
theorem Hk (base b f:Nat)(T:Tb)(v:Value)(F:Fo)(x:Wh)(w:bD)(h:bd w base b f T v)(hF:ar w f F):
  Calls Tryz.prog 261 #[.pointer (some ⟨b,0,none⟩), .agg #[.int .i64 x.1, .int .i64 x.2]] w fun e w'=>e= .returned (aq (Mo.gy F x))/\Below w.heap.size w w':=by
 have HT:=hZ (aK h hF);obtain⟨o1,o2,o3,o4,hO⟩:=Mo.GX F x.2;have OE:=hZ hO;clear h hF hO;go_in
 go_upto_region 1 with fail
 refine bw (fun W'=>WB W' w.heap.size x/\Below w.heap.size w W') ⟨heap_alloc_new w _,(aQ _ _).alloc (aL _) _⟩ ?_;rintro W1 ⟨x1,b1⟩;obtain⟨bx,hbx⟩:=nJ (w.heap.size);have HBX:=hZ hbx;rw[hbx]at x1;have LE:Hid (∀W,Below bx w W->bx<=W.heap.size/\bd W base b f T v/\ar W f F):=hZ (fun W h=>by
  have e:=h.size;subst hbx;exact⟨e,HT.out.1.below h,HT.out.2.below h⟩)
 have S1:Hid (WB W1 bx x/\Below bx w W1):=hZ ⟨x1,by rw[<-hbx];exact b1⟩;rw[hbx];clear hbx x1 b1;have c0:=(LE.out _ S1.out.2).2.1.c0;have cx:=S1.out.1.c1;have l0:=(LE.out _ S1.out.2).2.1.lt;have l1:=S1.out.1.lt;have n0:b≠W1.heap.size:=by omega
 have n1:bx≠W1.heap.size:=by omega
 have LA:Hid (∀o,ar (W1.alloc o) f F/\Below W1.heap.size W1 (W1.alloc o)):=hZ (fun o=>by
  have bb:Below W1.heap.size W1 (W1.alloc o):=(aQ _ _).alloc (aL _) _;exact⟨(LE.out _ S1.out.2).2.2.below bb,bb⟩)
 have ZZ:Hid (∀w4:bD,Below (W1.alloc (.cells #[.int .i64 0, .int .i64 0, .int .i64 0, .int .i64 0] 156)).drew.heap.size (W1.alloc (.cells #[.int .i64 0, .int .i64 0, .int .i64 0, .int .i64 0] 156)).drew w4->w4.heap[W1.heap.size]? =some (.cells #[.int .i64 0, .int .i64 0, .int .i64 0, .int .i64 0] 156 (0,0))/\Below W1.heap.size W1 w4):=hZ (fun w4 k=>by
  have bb:Below W1.heap.size W1 (W1.alloc (.cells #[.int .i64 0, .int .i64 0, .int .i64 0, .int .i64 0] 156)):=(aQ _ _).alloc (aL _) _;exact⟨(k.block W1.heap.size (by show W1.heap.size<(W1.alloc _).heap.size;simp)).trans (heap_alloc_new W1 _),bb.drew.trans (k.mono (by show W1.heap.size<=(W1.alloc _).heap.size;simp))⟩)
 obtain⟨ev,hev⟩:=nJ (aq (Tr.bh F x.2));have HEV:=hZ hev;clear hev;go_upto_region 1 with fail
 go_cut [5,6,8]from 9 to 17 (fun s5 s6 _ wc=> ∃nb,s5= .pointer (some ⟨nb,0,none⟩)/\s6=ev/\Hid (WB wc bx x/\Below bx w wc/\wc.cell? ⟨nb,0,none⟩=some (.int .i64 o1)))
 case first=>
  go_region_with (go_at_call 214;refine(ow f x.2 F _ (by first|exact(LE.out _ S1.out.2).2.2.drew|exact(LA.out _).1.drew)).mono ?_;rintro e w4 ⟨rfl,b4⟩;rw[OE.out.1,HEV.out];try (have ZW:=ZZ.out w4 b4;have z0:=bA ZW.1 0 (.int .i64 0) rfl;have z1:=bA ZW.1 1 (.int .i64 0) rfl;have z2:=bA ZW.1 2 (.int .i64 0) rfl;have z3:=bA ZW.1 3 (.int .i64 0) rfl;have zf:=bf ZW.1))
  all_goals
   first
    |have F1:Hid (WB (w4.alloc (.cells #[.int .i64 o1, .int .i64 o2, .int .i64 o3, .int .i64 o4] 156)) bx x/\Below bx w (w4.alloc (.cells #[.int .i64 o1, .int .i64 o2, .int .i64 o3, .int .i64 o4] 156))/\(w4.alloc (.cells #[.int .i64 o1, .int .i64 o2, .int .i64 o3, .int .i64 o4] 156)).cell? ⟨w4.heap.size,0,none⟩=some (.int .i64 o1)):=hZ (by
      have b5:Below W1.heap.size W1 w4:=⟨b4.os,b4.tape,b4.output,b4.size,b4.block⟩;have b6:=b5.alloc b5.size (.cells #[.int .i64 o1, .int .i64 o2, .int .i64 o3, .int .i64 o4] 156);exact⟨S1.out.1.below b6,S1.out.2.trans (b6.mono (LE.out _ S1.out.2).1),bA (heap_alloc_new w4 _) 0 _ rfl⟩)
     generalize w4.alloc (.cells #[.int .i64 o1, .int .i64 o2, .int .i64 o3, .int .i64 o4] 156)=W5 at*
     first|(go_wp2_with fail;go_meet)|go_meet
     case rel=>exact⟨_,rfl,rfl,F1⟩
    |have F1:Hid (WB ((((w4.setCell ⟨W1.heap.size,0,none⟩ (.int .i64 o1)).setCell ⟨W1.heap.size,1,none⟩ (.int .i64 o2)).setCell ⟨W1.heap.size,2,none⟩ (.int .i64 o3)).setCell ⟨W1.heap.size,3,none⟩ (.int .i64 o4)) bx x/\Below bx w ((((w4.setCell ⟨W1.heap.size,0,none⟩ (.int .i64 o1)).setCell ⟨W1.heap.size,1,none⟩ (.int .i64 o2)).setCell ⟨W1.heap.size,2,none⟩ (.int .i64 o3)).setCell ⟨W1.heap.size,3,none⟩ (.int .i64 o4))/\((((w4.setCell ⟨W1.heap.size,0,none⟩ (.int .i64 o1)).setCell ⟨W1.heap.size,1,none⟩ (.int .i64 o2)).setCell ⟨W1.heap.size,2,none⟩ (.int .i64 o3)).setCell ⟨W1.heap.size,3,none⟩ (.int .i64 o4)).cell? ⟨W1.heap.size,0,none⟩=some (.int .i64 o1)):=hZ (by
      have k:=bC (bC (bC (bC ZW.1 0 (.int .i64 o1)) 1 (.int .i64 o2)) 2 (.int .i64 o3)) 3 (.int .i64 o4);have fr:=((((af.refl W1.heap.size w4).setCell 0 (.int .i64 o1)).setCell 1 (.int .i64 o2)).setCell 2 (.int .i64 o3)).setCell 3 (.int .i64 o4);have b6:=fr.below ZW.2 (aL _) ZW.2.size;exact⟨S1.out.1.below b6,S1.out.2.trans (b6.mono (LE.out _ S1.out.2).1),bA k 0 _ rfl⟩)
     generalize (((w4.setCell ⟨W1.heap.size,0,none⟩ (.int .i64 o1)).setCell ⟨W1.heap.size,1,none⟩ (.int .i64 o2)).setCell ⟨W1.heap.size,2,none⟩ (.int .i64 o3)).setCell ⟨W1.heap.size,3,none⟩ (.int .i64 o4)=W5 at*
     first|(go_wp2_with fail;go_meet)|go_meet
     case rel=>exact⟨_,rfl,rfl,F1⟩
 case rest=>
  obtain⟨nb,rfl,rfl,S2⟩:=hcut;clear c0 cx l0 l1 n0 n1 LA ZZ S1;have PE:Hid (Mo.gy F x=if Tr.bh F x.2≠0 then Tr.bh F x.2 else if(F.nd x.2.toNat).kind=2/\((F.nd x.2.toNat).tree:Int)=x.1 then 0 else 11):=hZ rfl;by_cases e0:Tr.bh F x.2=0
  ·have HK:=hZ (OE.out.2 e0);have TN:Hid (Tr.wK F x.2=(F.nd x.2.toNat).tree):=hZ (aJ e0);rw[e0,aI (fun d=>d rfl)]at PE;have E0:=hZ e0;rw[<-HEV.out,e0,aa];clear e0;have T2:=hZ (LE.out _ S2.out.2.1).2;have c0:=T2.out.1.c0;have cx:=S2.out.1.c1;obtain⟨tr,htr⟩:=nJ ((F.nd x.2.toNat).tree);obtain⟨kd,hkd⟩:=nJ ((F.nd x.2.toNat).kind);rw[htr,hkd]at PE;rw[hkd]at HK;have TT:Hid (∀nq,Calls Tryz.prog 284 #[.pointer (some ⟨f,0,none⟩), .int .i64 x.2] (wc.drewN nq) fun e w'=>e= .returned (.tuple #[.int .i64 (tr:Int), .nilIface])/\w'=wc.drewN nq):=hZ (fun nq=>by
    have:=Hz f x.2 F _ (T2.out.2.drewN nq);rw[TN.out,htr,E0.out,aa]at this;exact this)
   have SQ:Hid (∀nq,WB (wc.drewN nq) bx x/\Below bx w (wc.drewN nq)/\(wc.drewN nq).cell? ⟨nb,0,none⟩=some (.int .i64 (kd:Int))):=hZ (fun nq=>⟨S2.out.1,⟨S2.out.2.1.os,S2.out.2.1.tape,S2.out.2.1.output,S2.out.2.1.size,S2.out.2.1.block⟩,by rw[<-HK.out];exact S2.out.2.2⟩);have d0:wc.cell? ⟨nb,0,none⟩=some (.int .i64 (kd:Int)):=by rw[<-HK.out];exact S2.out.2.2
   have d1:=S2.out.1.c0;clear htr hkd TN;by_cases k2:kd=2
   ·subst k2;by_cases t2:(tr:Int)=x.1
    ·have FIN:Hid (Mo.gy F x=0):=hZ (by rw[PE.out,aJ ⟨rfl,t2⟩]);have t2':((tr:Int) !=x.1)=false:=by simpa using t2
     have d0':wc.cell? ⟨nb,0,none⟩=some (.int .i64 2):=d0;have T2':=hZ t2;clear t2 d0;go_wp2_with fail
     go_quiet ((go_at_call 284;exact Calls.quiet_of_same (TT.out _)))
     go_wp2
     go_ret
     rw[FIN.out,HBX.out];exact⟨rfl,(SQ.out _).2.1⟩
    ·have FIN:Hid (Mo.gy F x=11):=hZ (by rw[PE.out,aI (fun h=>t2 h.2)]);have t2':((tr:Int) !=x.1)=true:=by simpa using t2
     have d0':wc.cell? ⟨nb,0,none⟩=some (.int .i64 2):=d0;clear d0;go_wp2_with fail
     go_quiet ((go_at_call 284;exact Calls.quiet_of_same (TT.out _)))
     go_wp2
     go_ret
     rw[FIN.out,HBX.out];exact⟨rfl,(SQ.out _).2.1⟩
   ·have FIN:Hid (Mo.gy F x=11):=hZ (by rw[PE.out,aI (fun h=>k2 h.1)]);have k2':((kd:Int) !=2)=true:=by simp;omega
    have k2'': ¬(kd:Int)=2:=by omega
    go_wp2_with fail
    go_quiet ((go_at_call 284;exact Calls.quiet_of_same (TT.out _)))
    go_wp2
    go_ret
    rw[FIN.out,HBX.out];exact⟨rfl,(SQ.out _).2.1⟩
  ·have FIN:Hid (Mo.gy F x=Tr.bh F x.2/\aq (Tr.bh F x.2)= .iface 100 (.int .i64 (Tr.bh F x.2))):=hZ ⟨by rw[PE.out,aJ e0],aj e0⟩;rw[<-HEV.out,FIN.out.2];clear e0;go_wp2
   go_ret
   rw[FIN.out.1,FIN.out.2,HBX.out];exact⟨rfl,S2.out.2.1⟩
def BV (b f:Nat)(v:Value):Nat->Prop:=fun k=>k=b\/k=f\/v.ownBlock=some k
theorem bd.Lf {w:bD}{base b f:Nat}{T:Tb}{v:Value}(h:bd w base b f T v): ∀g,v.ownBlock=some g->g≠b:=h.row.KY h.cv (by decide)
theorem bd.zJ {w:bD}{base b f:Nat}{T:Tb}{v v':Value}{L:List Mt}(h:w.heap[b]? =some (.cells #[.pointer (some ⟨f,0,none⟩), .int .i64 T.rt.1, .int .i64 T.rt.2,v] 229 (0,0)))(r:eF w base L v')(h6:L.length<=6)(hn: ∀g,v'.ownBlock=some g->g≠b):bd (w.setCell ⟨b,3,none⟩ v') base b f ⟨T.rt,L⟩ v':=
 ⟨bC h 3 _,r.same (fun g e=>dD _ _ _ _ (hn g e)),h6⟩
theorem DU (base b f K:Nat)(T:Tb)(v:Value)(F:Fo)(x:Wh)(w:bD)(h:bd w base b f T v)(hF:ar w f F)(hb:Tr.Hb F K)(hK:K<800):
  Calls Tryz.prog 212 #[.pointer (some ⟨b,0,none⟩), .agg #[.int .i64 x.1, .int .i64 x.2]] w fun e w'=> ∃(E:Int) (T':Tb) (F':Fo) (v':Value),e= .returned (aq E)/\Mo.zC F T x E T' F'/\bd w' base b f T' v'/\ar w' f F'/\dq (BV b f v) w w'/\v'.ownBlock=v.ownBlock:=by
 have HT:=hZ (aK h hF);have HB:=hZ hb;clear h hF hb;go_in
 go_upto_region 1 with fail
 refine bw (fun W'=>WB W' w.heap.size x/\Below w.heap.size w W') ⟨heap_alloc_new w _,(aQ _ _).alloc (aL _) _⟩ ?_;rintro W1 ⟨x1,b1⟩;have c0:=x1.c0;have c1:=x1.c1;have S1:Hid (bd W1 base b f T v/\ar W1 f F/\dq (BV b f v) w W1):=hZ ⟨HT.out.1.below b1,HT.out.2.below b1,dq.bB b1⟩;clear x1 b1 HT;generalize w.heap.size=bx at*;go_wp2_with fail
 refine(p8 base b f T v x _ S1.out.1).mono ?_;rintro e W2 ⟨z,rfl,hz,b2⟩;have S2:Hid (bd W2 base b f T v/\ar W2 f F/\dq (BV b f v) w W2):=hZ ⟨S1.out.1.below b2,S1.out.2.1.below b2,S1.out.2.2.trans (dq.bB b2)⟩;have HZ:=hZ hz;clear b2 c0 c1 S1;rcases hz.find with⟨i,rfl,il,m,hm,hl⟩|⟨rfl,hl⟩
 ·have i0: ¬(i:Int)<0:=by omega
  obtain⟨M,hM⟩: ∃M,T.ms.length=M+1:=⟨T.ms.length-1,by omega⟩;have HM:=hZ (aK hM hm);have M5:M<=5:=by have:=S2.out.1.qB;omega
  have iM:i<=M:=by omega
  rcases S2.out.1.row.form with⟨_,e⟩|⟨g,cap,hv,_,_,_⟩
  ·rw[e]at il;simp at il
  ·rw[hM]at hv;have HV:=hZ hv;have r:=S2.out.1.row;rw[hv]at r;have c3:=S2.out.1.c3;rw[hv]at c3;have d0:W2.cell? ⟨g,i*4,none⟩=some (.int .i64 m.1.1):=r.cell i 0 m hm (by omega);have d1:W2.cell? ⟨g,i*4+1,none⟩=some (.int .i64 m.1.2):=r.cell i 1 m hm (by omega);have d2:W2.cell? ⟨g,i*4+2,none⟩=some (.int .i64 m.2.1):=r.cell i 2 m hm (by omega);have d3:W2.cell? ⟨g,i*4+3,none⟩=some (.int .i64 m.2.2):=r.cell i 3 m hm (by omega);have iI:(i:Int)<(M:Int)+1:=by omega
   clear hz hl hm hM hv r il;go_wp2_with fail
   refine(sf base b f K T v F m _ S2.out.1 S2.out.2.1 HB.out (by omega)).mono ?_;rintro e W3 ⟨rfl,f3,k3⟩;have S3:Hid (bd W3 base b f T v/\ar W3 f (Mo.iL F m)/\dq (BV b f v) w W3):=hZ ⟨S2.out.1.jg S2.out.2.1 k3,f3,S2.out.2.2.trans (dq.kR k3 (.inr (.inl rfl)))⟩;clear f3 k3 c3 d0 d1 d2 d3 S2;have c3:=S3.out.1.c3;rw[HV.out]at c3;have hw:IntKind.i64.wrap ((i:Int)+1)=(i:Int)+1:=aN _ ⟨by omega,by omega⟩;go_wp2_with fail
   refine(Cr base g cap i M T.ms _ (by have:=S3.out.1.row;rw[HV.out]at this;exact this) HM.out.1 iM M5).mono ?_;rintro e W4 ⟨rfl,r4,k4⟩;have gb:g≠b:=S3.out.1.Lf g (by rw[HV.out];rfl);have gf:g≠f:=(S3.out.1.ne S3.out.2.1).2 g (by rw[HV.out];rfl);have B4:W4.heap[b]? =some (.cells #[.pointer (some ⟨f,0,none⟩), .int .i64 T.rt.1, .int .i64 T.rt.2,v] 229 (0,0)):=(k4.block b S3.out.1.lt (bQ gb)).trans S3.out.1.cv;have FIN:Hid (bd (W4.setCell ⟨b,3,none⟩ (.slice (some ⟨g,0,none⟩) M cap)) base b f ⟨T.rt,T.ms.eraseIdx i⟩ (.slice (some ⟨g,0,none⟩) M cap)/\ar (W4.setCell ⟨b,3,none⟩ (.slice (some ⟨g,0,none⟩) M cap)) f (Mo.iL F m)/\dq (BV b f v) w (W4.setCell ⟨b,3,none⟩ (.slice (some ⟨g,0,none⟩) M cap))):=hZ ⟨bd.zJ B4 r4 (by rw[List.length_eraseIdx_of_lt (by have:=HM.out.1;omega)];have:=HM.out.1;omega) (fun g' e=>by cases e;exact gb),
    (S3.out.2.1.same (k4.block f S3.out.2.1.lt (bQ gf))).same (dD _ _ _ _ (bQ (S3.out.1.ne S3.out.2.1).1)),
    (S3.out.2.2.trans (dq.kR k4 (.inr (.inr (by rw[HV.out];rfl))))).setCell (.inl rfl) _ _⟩
   have U:Hid (Mo.zC F T x 0 ⟨T.rt,T.ms.eraseIdx i⟩ (Mo.iL F m)):=hZ (.inl ⟨i,HZ.out,m,HM.out.2,rfl,rfl,rfl⟩);have e3:W4.cell? ⟨b,3,none⟩=some (.slice (some ⟨g,0,none⟩) (M+1) cap):=by rw[au B4,<-HV.out];rfl
   have ef:W4.frozen? ⟨b,3,none⟩=false:=bf B4 3;clear r4 k4 B4 c3;go_wp2
   go_ret
   exact⟨0,_,_,_,rfl,U.out,FIN.out.1,FIN.out.2.1,FIN.out.2.2,by rw[HV.out];rfl⟩
 ·have FIN:Hid (Mo.zC F T x 2 T F):=hZ (.inr ⟨HZ.out,rfl,rfl,rfl⟩);clear hz hl;go_wp2
  go_ret
  exact⟨2,T,F,v,rfl,FIN.out,S2.out.1,S2.out.2.1,S2.out.2.2,rfl⟩

import Derived.Shelf.Small.Bits
import Derived.Shelf.Strconv.Clone
import Derived.Shelf.Sort.Plain
import Derived.Shelf.Slices.In.SortNone
import Derived.Lib.LazyBuf
import Derived.Test.YtpmmdkcfenjiaaaGreatDoorYah
set_option maxRecDepth 100000
set_option maxHeartbeats 4000000
set_option linter.unusedVariables false
set_option linter.unusedSimpArgs false
namespace Go.Proofs
open Go.Shelf
def Tryz.DF:Go.Shelf.Ren:=⟨λ|316=>302|n=>n,λ|9=>9|3=>3|4=>4|37=>316|0=>0|127=>248|5=>5|n=>n,λ|n=>n⟩
theorem Tryz.Oz:Go.Proofs.LaysM.n316 Tryz.prog Tryz.DF:={
 mixed:=by kernel_rfl
 f316:=Tryz.func302.trans (congrArg some (by kernel_rfl))
 t0:=Tryz.underlying0
 a0:=Tryz.isAgg0
 z0:=Tryz.sizeOf0
 v0:=Tryz.zeroValue0
 t3:=Tryz.underlying3
 a3:=Tryz.isAgg3
 z3:=Tryz.sizeOf3
 v3:=Tryz.zeroValue3
 t4:=Tryz.underlying4
 a4:=Tryz.isAgg4
 z4:=Tryz.sizeOf4
 v4:=Tryz.zeroValue4
 t9:=Tryz.underlying9
 a9:=Tryz.isAgg9
 z9:=Tryz.sizeOf9
 v9:=Tryz.zeroValue9
 t37:=Tryz.underlying316
 a37:=Tryz.isAgg316
 z37:=Tryz.sizeOf316
 v37:=Tryz.zeroValue316
 t127:=Tryz.underlying248
 a127:=Tryz.isAgg248
 z127:=Tryz.sizeOf248
 v127:=Tryz.zeroValue248
 t5:=Tryz.underlying5
 a5:=Tryz.isAgg5
 z5:=Tryz.sizeOf5
 v5:=Tryz.zeroValue5
 i0:=by kernel_rfl
 i3:=by kernel_rfl
 i4:=by kernel_rfl
 i5:=by kernel_rfl
 i9:=by kernel_rfl
 i37:=by kernel_rfl
 i127:=by kernel_rfl}
open Go.RowKit in
theorem Tryz.stringslite_Clone(s:ByteArray)(w:World)(hlim:s.size<=281474976710656):
 Calls Tryz.prog 302 #[.string s] w λe w'=>e= .returned (.string s)/\Below w.heap.size w w':=Any.stringslite_Clone Tryz.Oz s w hlim
def Tryz.FQ:Go.Shelf.Ren:=⟨λ|190=>265|125=>288|258=>287|128=>315|129=>316|302=>306|303=>307|304=>308|305=>309|306=>310|307=>311|308=>312|309=>313|310=>314|333=>326|329=>327|330=>328|334=>329|335=>330|336=>331|344=>336|n=>n,λ|31=>152|9=>9|3=>3|46=>327|0=>0|51=>341|53=>27|4=>4|183=>335|182=>334|131=>137|5=>5|218=>345|222=>108|228=>353|229=>354|n=>n,λ|n=>n⟩
theorem Tryz.GX:Go.Proofs.Lays.n190 Tryz.prog Tryz.FQ:={
 mixed:=by kernel_rfl
 f125:=Tryz.func288.trans (congrArg some (by kernel_rfl))
 f128:=Tryz.func315.trans (congrArg some (by kernel_rfl))
 f129:=Tryz.func316.trans (congrArg some (by kernel_rfl))
 f190:=Tryz.func265.trans (congrArg some (by kernel_rfl))
 f258:=Tryz.func287.trans (congrArg some (by kernel_rfl))
 f302:=Tryz.func306.trans (congrArg some (by kernel_rfl))
 f303:=Tryz.func307.trans (congrArg some (by kernel_rfl))
 f304:=Tryz.func308.trans (congrArg some (by kernel_rfl))
 f305:=Tryz.func309.trans (congrArg some (by kernel_rfl))
 f306:=Tryz.func310.trans (congrArg some (by kernel_rfl))
 f307:=Tryz.func311.trans (congrArg some (by kernel_rfl))
 f308:=Tryz.func312.trans (congrArg some (by kernel_rfl))
 f309:=Tryz.func313.trans (congrArg some (by kernel_rfl))
 f310:=Tryz.func314.trans (congrArg some (by kernel_rfl))
 f329:=Tryz.func327.trans (congrArg some (by kernel_rfl))
 f330:=Tryz.func328.trans (congrArg some (by kernel_rfl))
 f333:=Tryz.func326.trans (congrArg some (by kernel_rfl))
 f334:=Tryz.func329.trans (congrArg some (by kernel_rfl))
 f335:=Tryz.func330.trans (congrArg some (by kernel_rfl))
 f336:=Tryz.func331.trans (congrArg some (by kernel_rfl))
 f344:=Tryz.func336.trans (congrArg some (by kernel_rfl))
 t0:=Tryz.underlying0
 a0:=Tryz.isAgg0
 z0:=Tryz.sizeOf0
 v0:=Tryz.zeroValue0
 t3:=Tryz.underlying3
 a3:=Tryz.isAgg3
 z3:=Tryz.sizeOf3
 v3:=Tryz.zeroValue3
 t4:=Tryz.underlying4
 a4:=Tryz.isAgg4
 z4:=Tryz.sizeOf4
 v4:=Tryz.zeroValue4
 t5:=Tryz.underlying5
 a5:=Tryz.isAgg5
 z5:=Tryz.sizeOf5
 v5:=Tryz.zeroValue5
 t9:=Tryz.underlying9
 a9:=Tryz.isAgg9
 z9:=Tryz.sizeOf9
 v9:=Tryz.zeroValue9
 t31:=Tryz.underlying152
 a31:=Tryz.isAgg152
 z31:=Tryz.sizeOf152
 v31:=Tryz.zeroValue152
 t46:=Tryz.underlying327
 a46:=Tryz.isAgg327
 z46:=Tryz.sizeOf327
 v46:=Tryz.zeroValue327
 t51:=Tryz.underlying341
 a51:=Tryz.isAgg341
 z51:=Tryz.sizeOf341
 v51:=Tryz.zeroValue341
 t53:=Tryz.underlying27
 a53:=Tryz.isAgg27
 z53:=Tryz.sizeOf27
 v53:=Tryz.zeroValue27
 t131:=Tryz.underlying137
 a131:=Tryz.isAgg137
 z131:=Tryz.sizeOf137
 v131:=Tryz.zeroValue137
 t182:=Tryz.underlying334
 a182:=Tryz.isAgg334
 z182:=Tryz.sizeOf334
 v182:=Tryz.zeroValue334
 t183:=Tryz.underlying335
 a183:=Tryz.isAgg335
 z183:=Tryz.sizeOf335
 v183:=Tryz.zeroValue335
 t218:=Tryz.underlying345
 a218:=Tryz.isAgg345
 z218:=Tryz.sizeOf345
 v218:=Tryz.zeroValue345
 t222:=Tryz.underlying108
 a222:=Tryz.isAgg108
 z222:=Tryz.sizeOf108
 v222:=Tryz.zeroValue108
 t228:=Tryz.underlying353
 a228:=Tryz.isAgg353
 z228:=Tryz.sizeOf353
 v228:=Tryz.zeroValue353
 t229:=Tryz.underlying354
 a229:=Tryz.isAgg354
 z229:=Tryz.sizeOf354
 v229:=Tryz.zeroValue354}
open Go.Sort Go.RowKit in
theorem Tryz.slices_Sort_string(da off cap:Nat)(ss:List (List UInt8))(w:World)(hH:Holds encStr w da off ss.toArray)(hblk:da<w.heap.size)(hsz:ss.length<4611686018427387904):
 Calls Tryz.prog 265 #[.slice (some ⟨da,off,none⟩) ss.length cap] w λe w'=>
  e= .returned (.tuple #[])/\∃n os,w'=grow (putRow encStr (Sort.ahead w n) da off (ss.mergeSort λx y=>decide (x<=y)).toArray) os:=Any.slices_Sort_string Tryz.GX da off cap ss w hH hblk hsz
open Go.RowKit Go.Sort in
theorem Tryz.slices_Sort_string_none(p:Option Addr)(cap:Nat)(w:World):
 Calls Tryz.prog 265 #[.slice p 0 cap] w λe w'=>e= .returned (.tuple #[])/\w'=w:=Any.slices_Sort_string_none Tryz.GX p cap w
end Go.Proofs
namespace Go.Proofs.YtpmmdkcfenjiaaaGreatDoor
open Value renaming int->aa,pointer->ai,slice->aj,string->ak,tuple->ao,iface->aq,agg->au
open IntKind renaming i64->az,u8->bc
open Ending renaming returned->bf
open Obj renaming cells->bh
open Option renaming some->bj,none->bu
open Bool renaming true->bw,false->bA
open Tryz (prog)
open Go.RowKit
open Tr (Fo Nd)
variable {A:Array Value}{F G:Fo}{E y z:Int}{b c i j k m n:Nat}{x:Nd}{v:Value}{w w1:bD}{s:bU}
theorem zp(s:bU)(w:bD)(hs:s.size<=1000000):Calls prog 279 #[ak s] w λe w'=>e=bf (ak s)/\Below w.heap.size w w':=by
 have HC:=hJ (Tryz.stringslite_Clone s w bB);go_in
 go_wp2_with fail
 refine sC HC.v ?_;rintro w1 b1;have B1:=hJ b1;go_wp2
 go_ret
 exact⟨rfl,B1.v⟩
def Tr.jc(x:Nd)(s:bU)(k:Nat):Nd:={x with eJ:=iu x.eJ x.size s,cY:=iu x.cY x.size k,size:=x.size+1}
def Tr.lr(F:Fo)(n:Nat)(s:bU)(k:Nat):Fo:=
 if((F.put n (Tr.jc (F.nd n) s k)).nd k).kind=2 then(F.put n (Tr.jc (F.nd n) s k)).put k {(F.put n (Tr.jc (F.nd n) s k)).nd k with up:=n}else F.put n (Tr.jc (F.nd n) s k)
theorem bS.ru(h:bS w b F)(n i k:Nat)(s:bU)(hn:n<40)(hi:i<8):bS ((w.setCell ⟨b,n*62+6+i*2,bu⟩ (ak s)).setCell ⟨b,n*62+6+i*2+1,bu⟩ (aa az (k:Int))) b (F.put n {F.nd n with eJ:=iu (F.nd n).eJ i s,cY:=iu (F.nd n).cY i k}):=by
 have a:=(h.Ur n i s hn hi).Up n i k hn hi;rw[Tr.bM]at a;refine a.congr (λo _=>?_);unfold jQ;by_cases c:o<2480
 .rw[aJ c,aJ c];by_cases d:o/62=n
  .rw[d,Tr.bM,Tr.bM]
  .rw[Tr.bP _ _ _ _ d,Tr.bP _ _ _ _ d,Tr.bP _ _ _ _ d]
 .rw[aI c,aI c];rfl
theorem Tr.gM(F:Fo)(n:Nat)(x y:Nd):(F.put n x).put n y=F.put n y:=by unfold Fo.put;grind
theorem rI(b n k:Nat)(s:bU)(F:Fo)(w:bD)(h:bS w b F)(hn:n<40)(hk:k<40)(hz:(F.nd n).size<8)(hs:s.size<=1000000):
  Calls prog 257 #[ai (bj ⟨b,0,bu⟩),aa az (n:Int),ak s,aa az (k:Int)] w λe w'=>e=bf (ao #[])/\bS w' b (Tr.lr F n s k)/\bG b w w':=by
 have HF:=hJ h;have nI:(n:Int)<40:=bB
 have kI:(k:Int)<40:=bB
 obtain⟨sz,hsz⟩:=hU ((F.nd n).size);have HSZ:=hJ hsz;rw[hsz]at hz;have szI:(sz:Int)<8:=bB
 have hw:IntKind.i64.wrap ((sz:Int)+1)=(sz:Int)+1:=aN _ ⟨by omega,bB⟩;go_in
 go_wp2
 go_quiet (fail)
 generalize hW:World.drewN w _=W1;have S1:Hid (bS W1 b F/\bG b w W1):=hJ (by rw[<-hW];exact⟨HF.drewN _,(bG.refl b w).drewN _⟩);have K0:Hid (W1.cell? ⟨b,n*62+3,bu⟩=bj (aa az (sz:Int))):=hJ (by rw[<-HSZ.v];exact S1.1.nT n hn);have KS:Hid (∀W,bS W b F->((W.setCell ⟨b,n*62+6+sz*2,bu⟩ (ak s)).setCell ⟨b,n*62+6+sz*2+1,bu⟩ (aa az (k:Int))).cell? ⟨b,n*62+3,bu⟩=bj (aa az (sz:Int))):=hJ (λW hW=>by
  have:=(hW.ru n sz k s hn hz).nT n hn;rw[Tr.bM]at this;rw[this,<-HSZ.v])
 have c0:∀W,bS W b F->(∃v,W.cell? ⟨b,n*62+6+sz*2,bu⟩=bj (ak v))/\(∃v:Nat,W.cell? ⟨b,n*62+6+sz*2+1,bu⟩=bj (aa az (v:Int))):=λW hW=>⟨⟨_,hW.xk n sz hn hz⟩,⟨_,hW.ux n sz hn hz⟩⟩;have HC0:=hJ c0;go_wp2
 go_region_held3 (λw'=>w'.cell? ⟨b,n*62+3,bu⟩=bj (aa az (sz:Int))) (first|exact K0.v|exact K2.v|exact KS.v _ H2.1|go_keep) ((go_at_call 279;refine sC (zp s _ hs) ?_;rintro w2 b2;have H2:Hid (bS w2 b F/\bG b w w2):=hJ ⟨S1.1.drew.below b2,S1.2.drew.trans (bG.cL b2)⟩;have K2:Hid (w2.cell? ⟨b,n*62+3,bu⟩=bj (aa az (sz:Int))):=hJ (by rw[<-HSZ.v];exact H2.1.nT n hn);obtain⟨⟨v1,q1⟩,⟨v2,q2⟩⟩:=HC0.v w2 H2.1;have qf:=H2.1.frozen))
 generalize hW3:(w2.setCell ⟨b,n*62+6+sz*2,bu⟩ (ak s)).setCell ⟨b,n*62+6+sz*2+1,bu⟩ (aa az (k:Int))=W3;have S3:Hid (bS W3 b (F.put n {F.nd n with eJ:=iu (F.nd n).eJ sz s,cY:=iu (F.nd n).cY sz k})/\bG b w W3):=hJ (by
  rw[<-hW3];exact⟨H2.1.ru n sz k s hn hz,(H2.2.setCell _ _).setCell _ _⟩)
 have c3:W3.cell? ⟨b,n*62+3,bu⟩=bj (aa az (sz:Int)):=by
  have:=S3.1.nT n hn;rw[Tr.bM]at this;rw[this,<-HSZ.v]
 have cf3:=S3.1.frozen;have S4:Hid (bS (W3.setCell ⟨b,n*62+3,bu⟩ (aa az ((sz:Int)+1))) b (F.put n (Tr.jc (F.nd n) s k))/\bG b w (W3.setCell ⟨b,n*62+3,bu⟩ (aa az ((sz:Int)+1)))):=hJ (by
  have a:=S3.1.AM n (sz+1) hn;rw[Tr.bM,Tr.gM]at a;have e:Tr.jc (F.nd n) s k={F.nd n with eJ:=iu (F.nd n).eJ sz s,cY:=iu (F.nd n).cY sz k,size:=sz+1}:=by unfold Tr.jc;rw[HSZ.v]
  rw[e];exact⟨a,S3.2.setCell _ _⟩)
 go_upto_region 3 with fail
 refine cJ (λW=>bS W b (F.put n (Tr.jc (F.nd n) s k))/\bG b w W) S4.v ?_;intro W4 h4;have S5:=hJ h4;obtain⟨F2,hF2⟩:=hU (F.put n (Tr.jc (F.nd n) s k));have HL:Hid (Tr.lr F n s k=if(F2.nd k).kind=2 then F2.put k {F2.nd k with up:=n}else F2):=hJ (by unfold Tr.lr;rw[hF2]);rw[hF2]at S5;have c5:=S5.1.sZ k hk;have cu:=S5.1.Vr k hk;have cf:=S5.1.frozen;by_cases k2:(F2.nd k).kind=2
 .have FIN:Hid (bS (W4.setCell ⟨b,k*62+5,bu⟩ (aa az (n:Int))) b (Tr.lr F n s k)/\bG b w (W4.setCell ⟨b,k*62+5,bu⟩ (aa az (n:Int)))):=hJ (by
   rw[HL.v,aJ k2];exact⟨S5.1.U6 k n hk,S5.2.setCell _ _⟩)
  rw[k2]at c5;have c5':W4.cell? ⟨b,k*62,bu⟩=bj (aa .i64 2):=c5;generalize (F2.nd k).up=uu at*;go_wp2
  go_end0
  exact⟨rfl,FIN.v⟩
 .have FIN:Hid (bS W4 b (Tr.lr F n s k)):=hJ (by rw[HL.v,aI k2];exact S5.1);have k2':(((F2.nd k).kind:Int)==2)=bA:=by simp;omega
  generalize (F2.nd k).kind=kk at*;go_wp2
  go_end0
  exact⟨rfl,FIN.v,S5.2⟩
section
variable {ops:Array Oper}{rest:List Oper}{x:Oper}{a:Act}{w:bD}{Q:Exit->Act->bD->Prop}
def fq(kd tr up:Nat):Nd:={Nd.no with kind:=kd,cV:=1,tree:=tr,up:=up}
theorem ya(hgd:x.guard=bu)(y0 y1 y2:Operand)(kd tr up:Nat)(ho:x.op= .build 204 #[(0,y0),(1,y1),(2,y2)])(h0:a.eval y0=au #[aa az (kd:Int),aa az 1,aa az 0,aa az 0])(h1:a.eval y1=aa az (tr:Int))(h2:a.eval y2=aa az (up:Int))(h:wpList prog ops Q rest (a.put x.dst (au (du (fq kd tr up)))) w):wpList prog ops Q (x::rest) a w:=
 wpList_plain hgd λ_ hK=>by
  unfold Oper.wp execOp;simp only[ho,List.map_toArray,List.map_cons,List.map_nil,h0,h1,h2];simp[go_sem];exact hK _ _ h
end
def Tr.AE(F:Fo)(n:Nat):Fo:={F.put n (fq 2 F.trees n)with root:=iu F.root F.trees n,trees:=F.trees+1}
def Tr.ra(F:Fo)(T:Nat)(E:Int)(G:Fo):Prop:=(F.trees=4/\T=0/\E=4/\G=F)\/(F.trees≠4/\∃n e,Tr.gJ F n e/\((e≠0/\T=0/\E=e/\G=F)\/(e=0/\T=F.trees/\E=0/\G=Tr.AE F n)))
theorem zs(b:Nat)(F:Fo)(w:bD)(h:bS w b F)(ht:F.trees<=4):
  Calls prog 89 #[ai (bj ⟨b,0,bu⟩)] w λe w'=>∃(T:Nat) (E:Int) (G:Fo),e=bf (ao #[aa az (T:Int),bN E])/\Tr.ra F T E G/\bS w' b G/\bG b w w':=by
 have HF:=hJ h;have c0:=h.C7;by_cases t4:F.trees=4
 .have FIN:Hid (Tr.ra F 0 4 F):=hJ (.inl ⟨t4,rfl,rfl,rfl⟩);rw[t4]at c0;have c0':w.cell? ⟨b,2484,bu⟩=bj (aa .i64 4):=c0;go_in
  go_wp2
  go_ret2
  exact⟨0,4,F,rfl,FIN.v,HF.v,bG.refl _ _⟩
 .have HT4:=hJ t4;obtain⟨tt,htt⟩:=hU (F.trees);have HTT:=hJ htt;rw[htt]at c0;have tI:(tt:Int)<4:=bB
  have t4':((tt:Int)==4)=bA:=by simp;omega
  have hw:IntKind.i64.wrap ((tt:Int)+1)=(tt:Int)+1:=aN _ ⟨by omega,bB⟩;have tN:tt<4:=bB
  go_in
  go_wp2_with fail
  refine(vr b F _ HF.v).mono ?_;rintro e w1 ⟨n,E,rfl,hf,hw1⟩;subst w1;have HFR:=hJ hf;by_cases e0:E=0
  .subst e0;have n40:n<40:=by
    rcases hf with⟨_,h1,_⟩|⟨h1,_⟩
    .exact h1
    .omega
   have nI:(n:Int)<40:=bB
   have TH:=hJ (HF.there n n40 (fq 2 tt n));have HS:=hJ (pC (fq 2 tt n));have H1:=hJ (pE (fq 2 tt n));have S1:Hid (bS (w.setCells b (n*62) (du (fq 2 tt n)).toList) b (F.put n (fq 2 tt n))/\bG b w (w.setCells b (n*62) (du (fq 2 tt n)).toList)):=hJ ⟨HF.setNode n n40 _,bG.setCells _ _ (bG.refl b w)⟩;obtain⟨A,hA⟩:=hU (du (fq 2 tt n));rw[hA]at TH HS H1 S1;rw[bF];go_upto_region 8 with(first|(refine ya rfl _ _ _ 2 tt n rfl rfl rfl rfl ?_;rw[hA])|(refine wpList_store_mid rfl 204 _ _ rfl b (n*62) A rfl rfl TH.v HS.v H1.v ?_))
   refine cJ (λW=>bS W b (F.put n (fq 2 tt n))/\bG b w W) S1.v ?_;intro W2 h2;have S2:=hJ h2;have c2:=h2.1.C7;have c3:=h2.1.PW tt tN;have cf:=h2.1.frozen;rw[show(F.put n (fq 2 tt n)).trees=tt from HTT.v]at c2;generalize (F.put n (fq 2 tt n)).root tt=rr at*;have S3:Hid (bS ((W2.setCell ⟨b,2480+tt,bu⟩ (aa az (n:Int))).setCell ⟨b,2484,bu⟩ (aa az ((tt:Int)+1))) b (Tr.AE F n)/\bG b w ((W2.setCell ⟨b,2480+tt,bu⟩ (aa az (n:Int))).setCell ⟨b,2484,bu⟩ (aa az ((tt:Int)+1)))):=hJ (by
    have a:=(h2.1.Sq tt n tN).Pe (tt+1);refine⟨?_,(h2.2.setCell _ _).setCell _ _⟩;unfold Tr.AE;rw[HTT.v];exact a)
   go_wp2
   go_ret2
   exact⟨tt,0,_,rfl, .inr ⟨HT4.v,n,0,HFR.v, .inr ⟨rfl,HTT.symm,rfl,rfl⟩⟩,S3.v⟩
  .have E2:Hid (bN E=aq 100 (aa az E)/\E≠0):=hJ ⟨bH e0,e0⟩;rw[E2.1];go_wp2
   go_ret2
   exact⟨0,E,F,by rw[E2.1];rfl, .inr ⟨HT4.v,n,E,HFR.v, .inl ⟨E2.2,rfl,rfl,rfl⟩⟩,HF.v,bG.refl _ _⟩
def fA(F:Fo):Array Value:=((List.range 2485).map (jQ F)).toArray
theorem UI(F:Fo)(i:Nat)(h:i<2485):(fA F)[i]? =bj (jQ F i):=by simp[fA,h]
theorem UL:Tryz.zeroCells208=fA Tr.f0:=by kernel_rfl
theorem Px(w:bD):Calls prog 87 #[] w λe w'=>e=bf (ai (bj ⟨w.heap.size,0,bu⟩))/\bS w' w.heap.size Tr.f0/\Below w.heap.size w w':=by
 have FIN:Hid (bS (w.alloc (bh Tryz.zeroCells208 208)) w.heap.size Tr.f0):=hJ (by
  have h:=heap_alloc_new w (bh Tryz.zeroCells208 208);have h2:(w.alloc (bh Tryz.zeroCells208 208)).heap[w.heap.size]? =bj (bh (fA Tr.f0) 208 (0,0)):=by rw[<-UL];exact h
  exact⟨⟨_,h2,by simp[fA]⟩,λo ho=>by rw[bR h2,UI _ o ho]⟩)
 go_in
 go_wp2
 go_ret
 exact⟨rfl,FIN.v,(aQ _ _).alloc (aL _) _⟩
theorem Tr.oU.ok(h:Tr.oU F z s 0):∃n:Nat,z=n/\n<40/\(F.nd n).kind=2/\Tr.gd s=bw/\Tr.fJ (F.nd n) s (-1)/\(F.nd n).size≠8:=by
 rcases h with⟨h1,h2⟩|⟨h1,h2⟩
 .omega
 .obtain⟨n,rfl,h3,_,h5⟩:=Tr.fD h1;rcases h2 with⟨_,h6⟩|⟨h6,⟨_,_,h7⟩|⟨h7,⟨_,h8⟩|⟨h8,_⟩⟩⟩
  .omega
  .omega
  .omega
  .exact⟨n,rfl,h3,h5,h6,h7,h8⟩
theorem Tr.qb(h:Tr.gd s=bw):s.size<=8:=by grind [Tr.gd]
def Tr.jX(F:Fo)(n:Nat)(s:bU)(kd k:Nat):Fo:=Tr.lr (F.put k (fq kd (F.nd n).tree 0)) n s k
def Tr.sS(F:Fo)(z:Int)(s:bU)(kz:Int)(K:Nat)(E:Int)(G:Fo):Prop:=
 (kz≠1/\kz≠2/\K=0/\E=1/\G=F)\/((kz=1\/kz=2)/\∃e,Tr.oU F z s e/\((e≠0/\K=0/\E=e/\G=F)\/(e=0/\∃k e2,Tr.gJ F k e2/\((e2≠0/\K=0/\E=e2/\G=F)\/(e2=0/\K=k/\E=0/\G=Tr.jX F z.toNat s kz.toNat k)))))
theorem J2(kd tr:Nat)(w:bD):(Instr.build 204 #[(0,au #[aa az (kd:Int),aa az 1,aa az 0,aa az 0]),(1,aa az (tr:Int))]).run prog w= .ok (au (du (fq kd tr 0))) w:=by
 simp[go_sem];rfl
theorem rG{ops:Array Oper}{rest:List Oper}{x:Oper}{a:Act}{Q:Act->Prop}(hgd:x.guard=bu)(y0 y1:Operand)(kd tr:Nat)(ho:x.op= .build 204 #[(0,y0),(1,y1)])(h0:a.eval y0=au #[aa az (kd:Int),aa az 1,aa az 0,aa az 0])(h1:a.eval y1=aa az (tr:Int))
  (h:wpStill prog ops w Q rest (a.put x.dst (au (du (fq kd tr 0))))):wpStill prog ops w Q (x::rest) a:=by
 refine wpStill_step (λK hK=>?_);have hw:Region.wanted x (yielded ops a.tmps)=bw:=by simp[Region.wanted,hgd]
 rw[aJ hw];have hb:=J2 kd tr w;unfold Oper.still execOp;simp only[ho,List.map_toArray,List.map_cons,List.map_nil,h0,h1,Sem.run_bind,hb,Result.andThen_ok,Sem.run_pure,Oper.stillUpon_value];exact hK _ h
theorem Pw(b:Nat)(z:Int)(s:bU)(kz:Int)(F:Fo)(w:bD)(h:bS w b F)(k1:¬kz=1)(k2:¬kz=2):
  Calls prog 242 #[ai (bj ⟨b,0,bu⟩),aa az z,ak s,aa az kz] w λe w'=>∃(K:Nat) (E:Int) (G:Fo),e=bf (ao #[aa az (K:Int),bN E])/\Tr.sS F z s kz K E G/\bS w' b G/\bG b w w':=by
 have HF:=hJ h;have FIN:Hid (Tr.sS F z s kz 0 1 F):=hJ (.inl ⟨k1,k2,rfl,rfl,rfl⟩);have d1:(kz==1)=bA:=by simpa using k1
 have d3:(kz !=1)=bw:=by simpa using k1
 have d4:(kz !=2)=bw:=by simpa using k2
 go_in
 go_wp2
 go_ret2
 exact⟨0,1,F,rfl,FIN.v,HF.v,bG.refl _ _⟩
theorem Sv(b:Nat)(z:Int)(s:bU)(F:Fo)(w:bD)(h:bS w b F)(hs:Tr.kY F):
  Calls prog 242 #[ai (bj ⟨b,0,bu⟩),aa az z,ak s,aa az 1] w λe w'=>∃(K:Nat) (E:Int) (G:Fo),e=bf (ao #[aa az (K:Int),bN E])/\Tr.sS F z s 1 K E G/\bS w' b G/\bG b w w':=by
 have HF:=hJ (aK h hs);go_in
 go_wp2_with fail
 refine(r8 b z s F _ HF.1 HF.2).mono ?_;rintro e w1 ⟨E,rfl,hw1,b1⟩;have S1:Hid (Tr.oU F z s E/\bS w1 b F/\bG b w w1):=hJ ⟨hw1,HF.1.below b1,bG.cL b1⟩;by_cases e0:E=0
 .subst e0;obtain⟨n,rfl,n40,k2,hnm,_,hsz⟩:=S1.1.ok;have HN:Hid ((F.nd n).kind=2/\s.size<=8/\(F.nd n).size<8):=hJ ⟨k2,Tr.qb hnm,by have:=HF.2 n n40 k2;omega⟩;rw[gL,bF];go_wp2_with fail
  refine(vr b F _ S1.2.1).mono ?_;rintro e w2 ⟨k,E,rfl,hf,hw2⟩;subst w2;have HFR:=hJ hf;by_cases f0:E=0
  .subst f0;obtain⟨k40,kk0⟩:k<40/\(F.nd k).kind=0:=by
    rcases hf with⟨_,h1,h2,_⟩|⟨h1,_⟩
    .exact⟨h1,h2⟩
    .omega
   have kI:(k:Int)<40:=bB
   have nk:n≠k:=λe=>by rw[e]at HN;rw[kk0]at HN;exact aZ HN.1 bE
   obtain⟨tr,htr⟩:=hU ((F.nd n).tree);have K0:w1.cell? ⟨b,n*62+4,bu⟩=bj (aa az (tr:Int)):=by rw[<-htr];exact S1.2.1.s9 n n40
   have K1:w1.drew.cell? ⟨b,n*62+4,bu⟩=bj (aa az (tr:Int)):=K0;have S3:Hid (bS (w1.drew.setCells b (k*62) (du (fq 1 tr 0)).toList) b (F.put k (fq 1 tr 0))/\bG b w (w1.drew.setCells b (k*62) (du (fq 1 tr 0)).toList)):=hJ ⟨S1.2.1.drew.setNode k k40 _,bG.setCells _ _ S1.2.2.drew⟩;have TH:=hJ (S1.2.1.drew.there k k40 (fq 1 tr 0));have HS:=hJ (pC (fq 1 tr 0));have H1:=hJ (pE (fq 1 tr 0));have HMK:Hid (Tr.jX F n s 1 k=Tr.lr (F.put k (fq 1 tr 0)) n s k):=hJ (by unfold Tr.jX;rw[htr]);obtain⟨A,hA⟩:=hU (du (fq 1 tr 0));rw[hA]at S3 TH HS H1;rw[bF];go_upto_region 9 with fail
   refine wp_region_still_tail 12 bC bC ?_;simp only[List.take_succ_cons,List.take_zero,List.drop_succ_cons,List.drop_zero]
   iterate 8 still_step
   refine rG rfl _ _ 1 tr rfl rfl rfl ?_;rw[hA]
   iterate 3 still_step
   refine wpStill_nil ?_;refine wpList_store_mid rfl 204 _ _ rfl b (k*62) A rfl rfl TH.v HS.v H1.v ?_;refine wpList_nil ?_;have S4:=S3;have TN:Hid ((F.put k (fq 1 tr 0)).nd n=F.nd n):=hJ (Tr.bP _ _ _ _ nk);go_wp2_with fail
   refine sC (rI b n k s _ _ S4.1 n40 k40 (by rw[TN.v];exact HN.2.2) (aH HN.2.1 bE)) ?_;rintro W5 ⟨h5,f5⟩;have S5:Hid (bS W5 b (Tr.jX F n s 1 k)/\bG b w W5):=hJ ⟨by rw[HMK.v];exact h5,S4.2.trans f5⟩;go_wp2
   go_ret2
   exact⟨k,0,_,rfl, .inr ⟨by decide,0,S1.1, .inr ⟨rfl,k,0,HFR.v, .inr ⟨rfl,rfl,rfl,rfl⟩⟩⟩,S5.v⟩
  .have E2:Hid (bN E=aq 100 (aa az E)/\E≠0):=hJ ⟨bH f0,f0⟩;rw[E2.1];go_wp2
   go_ret2
   exact⟨0,E,F,by rw[E2.1];rfl, .inr ⟨by decide,0,S1.1, .inr ⟨rfl,k,E,HFR.v, .inl ⟨E2.2,rfl,rfl,rfl⟩⟩⟩,S1.2⟩
 .have E2:Hid (bN E=aq 100 (aa az E)/\E≠0):=hJ ⟨bH e0,e0⟩;rw[E2.1];go_wp2
  go_ret2
  exact⟨0,E,F,by rw[E2.1];rfl, .inr ⟨by decide,E,S1.1, .inl ⟨E2.2,rfl,rfl,rfl⟩⟩,S1.2⟩
theorem Sw(b:Nat)(z:Int)(s:bU)(F:Fo)(w:bD)(h:bS w b F)(hs:Tr.kY F):
  Calls prog 242 #[ai (bj ⟨b,0,bu⟩),aa az z,ak s,aa az 2] w λe w'=>∃(K:Nat) (E:Int) (G:Fo),e=bf (ao #[aa az (K:Int),bN E])/\Tr.sS F z s 2 K E G/\bS w' b G/\bG b w w':=by
 have HF:=hJ (aK h hs);go_in
 go_wp2_with fail
 refine(r8 b z s F _ HF.1 HF.2).mono ?_;rintro e w1 ⟨E,rfl,hw1,b1⟩;have S1:Hid (Tr.oU F z s E/\bS w1 b F/\bG b w w1):=hJ ⟨hw1,HF.1.below b1,bG.cL b1⟩;by_cases e0:E=0
 .subst e0;obtain⟨n,rfl,n40,k2,hnm,_,hsz⟩:=S1.1.ok;have HN:Hid ((F.nd n).kind=2/\s.size<=8/\(F.nd n).size<8):=hJ ⟨k2,Tr.qb hnm,by have:=HF.2 n n40 k2;omega⟩;rw[gL,bF];go_wp2_with fail
  refine(vr b F _ S1.2.1).mono ?_;rintro e w2 ⟨k,E,rfl,hf,hw2⟩;subst w2;have HFR:=hJ hf;by_cases f0:E=0
  .subst f0;obtain⟨k40,kk0⟩:k<40/\(F.nd k).kind=0:=by
    rcases hf with⟨_,h1,h2,_⟩|⟨h1,_⟩
    .exact⟨h1,h2⟩
    .omega
   have kI:(k:Int)<40:=bB
   have nk:n≠k:=λe=>by rw[e]at HN;rw[kk0]at HN;exact aZ HN.1 bE
   obtain⟨tr,htr⟩:=hU ((F.nd n).tree);have K0:w1.cell? ⟨b,n*62+4,bu⟩=bj (aa az (tr:Int)):=by rw[<-htr];exact S1.2.1.s9 n n40
   have K1:w1.drew.cell? ⟨b,n*62+4,bu⟩=bj (aa az (tr:Int)):=K0;have S3:Hid (bS (w1.drew.setCells b (k*62) (du (fq 2 tr 0)).toList) b (F.put k (fq 2 tr 0))/\bG b w (w1.drew.setCells b (k*62) (du (fq 2 tr 0)).toList)):=hJ ⟨S1.2.1.drew.setNode k k40 _,bG.setCells _ _ S1.2.2.drew⟩;have TH:=hJ (S1.2.1.drew.there k k40 (fq 2 tr 0));have HS:=hJ (pC (fq 2 tr 0));have H1:=hJ (pE (fq 2 tr 0));have HMK:Hid (Tr.jX F n s 2 k=Tr.lr (F.put k (fq 2 tr 0)) n s k):=hJ (by unfold Tr.jX;rw[htr]);obtain⟨A,hA⟩:=hU (du (fq 2 tr 0));rw[hA]at S3 TH HS H1;rw[bF];go_upto_region 9 with fail
   refine wp_region_still_tail 12 bC bC ?_;simp only[List.take_succ_cons,List.take_zero,List.drop_succ_cons,List.drop_zero]
   iterate 8 still_step
   refine rG rfl _ _ 2 tr rfl rfl rfl ?_;rw[hA]
   iterate 3 still_step
   refine wpStill_nil ?_;refine wpList_store_mid rfl 204 _ _ rfl b (k*62) A rfl rfl TH.v HS.v H1.v ?_;refine wpList_nil ?_;have S4:=S3;have TN:Hid ((F.put k (fq 2 tr 0)).nd n=F.nd n):=hJ (Tr.bP _ _ _ _ nk);go_wp2_with fail
   refine sC (rI b n k s _ _ S4.1 n40 k40 (by rw[TN.v];exact HN.2.2) (aH HN.2.1 bE)) ?_;rintro W5 ⟨h5,f5⟩;have S5:Hid (bS W5 b (Tr.jX F n s 2 k)/\bG b w W5):=hJ ⟨by rw[HMK.v];exact h5,S4.2.trans f5⟩;go_wp2
   go_ret2
   exact⟨k,0,_,rfl, .inr ⟨by decide,0,S1.1, .inr ⟨rfl,k,0,HFR.v, .inr ⟨rfl,rfl,rfl,rfl⟩⟩⟩,S5.v⟩
  .have E2:Hid (bN E=aq 100 (aa az E)/\E≠0):=hJ ⟨bH f0,f0⟩;rw[E2.1];go_wp2
   go_ret2
   exact⟨0,E,F,by rw[E2.1];rfl, .inr ⟨by decide,0,S1.1, .inr ⟨rfl,k,E,HFR.v, .inl ⟨E2.2,rfl,rfl,rfl⟩⟩⟩,S1.2⟩
 .have E2:Hid (bN E=aq 100 (aa az E)/\E≠0):=hJ ⟨bH e0,e0⟩;rw[E2.1];go_wp2
  go_ret2
  exact⟨0,E,F,by rw[E2.1];rfl, .inr ⟨by decide,E,S1.1, .inl ⟨E2.2,rfl,rfl,rfl⟩⟩,S1.2⟩
theorem Mn(b:Nat)(z:Int)(s:bU)(kz:Int)(F:Fo)(w:bD)(h:bS w b F)(hs:Tr.kY F):
 Calls prog 242 #[ai (bj ⟨b,0,bu⟩),aa az z,ak s,aa az kz] w λe w'=>∃(K:Nat) (E:Int) (G:Fo),e=bf (ao #[aa az (K:Int),bN E])/\Tr.sS F z s kz K E G/\bS w' b G/\bG b w w':=by grind [Sv,Sw,Pw]
def Tr.eZ(x:Nd)(i:Nat):Nd:={x with eJ:=iu (iu x.eJ i (x.eJ (x.size-1))) (x.size-1) ByteArray.empty,cY:=iu (iu x.cY i (x.cY (x.size-1))) (x.size-1) 0,size:=x.size-1}
theorem rZ(b n i:Nat)(s:bU)(F:Fo)(w:bD)(h:bS w b F)(hn:n<40)(hm8:(F.nd n).size<=8)(hp:Tr.fJ (F.nd n) s (i:Int)):
  Calls prog 252 #[ai (bj ⟨b,n*62,bu⟩),ak s] w λe w'=>e=bf (ao #[])/\bS w' b (F.put n (Tr.eZ (F.nd n) i))/\bG b w w':=by
 have HF:=hJ h;have hi:i<(F.nd n).size:=by
  rcases hp with⟨j,e,h1,_⟩|⟨e,_⟩
  .omega
  .omega
 have HP:=hJ hp;obtain⟨sz,hsz⟩:=hU ((F.nd n).size);obtain⟨l,hl⟩:=hU (sz-1);have HSZ:Hid ((F.nd n).size=sz/\(F.nd n).size-1=l):=hJ ⟨hsz,bB⟩;have hm:Hid ((F.nd n).size<=8):=hJ hm8;rw[hsz]at hi hm8;have iI:(i:Int)<(sz:Int):=bB
 have lI:(l:Int)<(sz:Int):=bB
 have hw:IntKind.i64.wrap ((sz:Int)-1)=(l:Int):=(aN _ ⟨by omega,bB⟩).trans bB;have l8:l<8:=bB
 have i8:i<8:=bB
 obtain⟨sl,hsl⟩:=hU ((F.nd n).eJ l);obtain⟨kl,hkl⟩:=hU ((F.nd n).cY l);have HL:Hid ((F.nd n).eJ l=sl/\(F.nd n).cY l=kl):=hJ ⟨hsl,hkl⟩;clear h hp hsz hi hl hm8 hsl hkl;go_in
 go_wp2_with fail
 refine sC (qR b n F _ HF.v hn hm.v) ?_;rintro W1 ⟨k,hW⟩;rw[HSZ.1];have S1:Hid (bS W1 b F/\bG b w W1):=hJ (by rw[hW];exact⟨HF.drewN _,(bG.refl b w).drewN _⟩);clear hW;have K0:Hid (∀W,bS W b F->W.cell? ⟨b,n*62+6+l*2,bu⟩=bj (ak sl)/\W.cell? ⟨b,n*62+6+l*2+1,bu⟩=bj (aa az (kl:Int))):=hJ (λW hW=>by
  rw[<-HL.1,<-HL.2];exact⟨hW.xk n l hn l8,hW.ux n l hn l8⟩)
 have KS:Hid (∀W,bS W b F->((W.setCell ⟨b,n*62+6+i*2,bu⟩ (ak sl)).setCell ⟨b,n*62+6+i*2+1,bu⟩ (aa az (kl:Int))).cell? ⟨b,n*62+6+l*2,bu⟩=bj (ak sl)/\((W.setCell ⟨b,n*62+6+i*2,bu⟩ (ak sl)).setCell ⟨b,n*62+6+i*2+1,bu⟩ (aa az (kl:Int))).cell? ⟨b,n*62+6+l*2+1,bu⟩=bj (aa az (kl:Int))):=hJ (λW hW=>by
  have a:=hW.ru n i kl sl hn i8;have c1:=a.xk n l hn l8;have c2:=a.ux n l hn l8;rw[Tr.bM]at c1 c2;rw[c1,c2];show bj (ak (iu (F.nd n).eJ i sl l))=_/\bj (aa az ((iu (F.nd n).cY i kl l:Nat):Int))=_;unfold iu;rw[HL.1,HL.2,ite_self,ite_self];exact⟨rfl,rfl⟩)
 have HC0:Hid (∀W,bS W b F->(∃v,W.cell? ⟨b,n*62+6+i*2,bu⟩=bj (ak v))/\(∃v:Nat,W.cell? ⟨b,n*62+6+i*2+1,bu⟩=bj (aa az (v:Int)))):=hJ (λW hW=>⟨⟨_,hW.xk n i hn i8⟩,⟨_,hW.ux n i hn i8⟩⟩);have K1:Hid (W1.cell? ⟨b,n*62+6+l*2,bu⟩=bj (ak sl)/\W1.cell? ⟨b,n*62+6+l*2+1,bu⟩=bj (aa az (kl:Int))):=hJ (K0.v W1 S1.1);go_wp2_with fail
 go_region_held3 (λw'=>w'.cell? ⟨b,n*62+6+l*2,bu⟩=bj (ak sl)/\w'.cell? ⟨b,n*62+6+l*2+1,bu⟩=bj (aa az (kl:Int))) (first|exact K1.v|exact K2.v|exact KS.v _ H2.1|go_keep) ((go_at_call 282;refine(tO b n s F _ S1.1.drew hn hm.v).mono ?_;rintro e w2 ⟨y,rfl,hp2,b2⟩;have hy:=hp2.unique HP.v;subst hy;have H2:Hid (bS w2 b F/\bG b w w2):=hJ ⟨S1.1.drew.below b2,S1.2.drew.trans (bG.cL b2)⟩;have K2:Hid (w2.cell? ⟨b,n*62+6+l*2,bu⟩=bj (ak sl)/\w2.cell? ⟨b,n*62+6+l*2+1,bu⟩=bj (aa az (kl:Int))):=hJ (K0.v w2 H2.1);obtain⟨⟨v1,q1⟩,⟨v2,q2⟩⟩:=HC0.v w2 H2.1;have qf:=H2.1.frozen;clear b2 hp2))
 generalize hW3:(w2.setCell ⟨b,n*62+6+i*2,bu⟩ (ak sl)).setCell ⟨b,n*62+6+i*2+1,bu⟩ (aa az (kl:Int))=W3;have S3:Hid (bS W3 b (F.put n {F.nd n with eJ:=iu (F.nd n).eJ i sl,cY:=iu (F.nd n).cY i kl})/\bG b w W3):=hJ (by
  rw[<-hW3];exact⟨H2.1.ru n i kl sl hn i8,(H2.2.setCell _ _).setCell _ _⟩)
 clear hW3 K0 K1 K2 KS HC0 q1 q2 qf H2 S1;obtain⟨⟨v1,q1⟩,⟨v2,q2⟩⟩:(∃v,W3.cell? ⟨b,n*62+6+l*2,bu⟩=bj (ak v))/\(∃v:Nat,W3.cell? ⟨b,n*62+6+l*2+1,bu⟩=bj (aa az (v:Int))):=⟨⟨_,S3.1.xk n l hn l8⟩,⟨_,S3.1.ux n l hn l8⟩⟩;have qf:=S3.1.frozen;have S4:Hid (bS ((W3.setCell ⟨b,n*62+6+l*2,bu⟩ (ak ByteArray.empty)).setCell ⟨b,n*62+6+l*2+1,bu⟩ (aa .i64 0)) b (F.put n {F.nd n with eJ:=iu (iu (F.nd n).eJ i sl) l ByteArray.empty,cY:=iu (iu (F.nd n).cY i kl) l 0})/\bG b w ((W3.setCell ⟨b,n*62+6+l*2,bu⟩ (ak ByteArray.empty)).setCell ⟨b,n*62+6+l*2+1,bu⟩ (aa .i64 0))):=hJ (by
  have a:=S3.1.ru n l 0 ByteArray.empty hn l8;rw[Tr.bM,Tr.gM]at a;exact⟨a,(S3.2.setCell _ _).setCell _ _⟩)
 go_upto_region 4 with fail
 refine cJ (λW=>bS W b (F.put n {F.nd n with eJ:=iu (iu (F.nd n).eJ i sl) l ByteArray.empty,cY:=iu (iu (F.nd n).cY i kl) l 0})/\bG b w W) S4.v ?_;intro W4 h4;have S5:=hJ h4;clear h4 S4 S3 q1 q2 qf;have c3:=S5.1.nT n hn;rw[Tr.bM]at c3;have c3':W4.cell? ⟨b,n*62+3,bu⟩=bj (aa az (sz:Int)):=by rw[c3];show bj (aa az (((F.nd n).size:Nat):Int))=_;rw[HSZ.1]
 have cf:=S5.1.frozen;have FIN:Hid (bS (W4.setCell ⟨b,n*62+3,bu⟩ (aa az (l:Int))) b (F.put n (Tr.eZ (F.nd n) i))/\bG b w (W4.setCell ⟨b,n*62+3,bu⟩ (aa az (l:Int)))):=hJ (by
  have a:=S5.1.AM n l hn;rw[Tr.bM,Tr.gM]at a;unfold Tr.eZ;rw[HSZ.2,HL.1,HL.2];exact⟨a,S5.2.setCell _ _⟩)
 clear c3;go_wp2_with fail
 go_end0
 exact⟨rfl,FIN.v⟩
def Tr.Aq(F:Fo)(k n:Nat)(s:bU):Fo:=Tr.lr (F.put k {F.nd k with cV:=(F.nd k).cV+1}) n s k
def Tr.Cj(F:Fo)(y z:Int)(s:bU)(E:Int)(G:Fo):Prop:=
 (Tr.cN F y 1≠0/\E=Tr.cN F y 1/\G=F)\/(Tr.cN F y 1=0/\∃e,Tr.oU F z s e/\((e≠0/\E=e/\G=F)\/(e=0/\(((F.nd y.toNat).tree≠(F.nd z.toNat).tree/\E=11/\G=F)\/((F.nd y.toNat).tree=(F.nd z.toNat).tree/\E=0/\G=Tr.Aq F y.toNat z.toNat s)))))
theorem Ml(b:Nat)(y z:Int)(s:bU)(F:Fo)(w:bD)(h:bS w b F)(hs:Tr.kY F)(hL:∀n,n<40->(F.nd n).kind≠0->(F.nd n).cV<2^60):
  Calls prog 209 #[ai (bj ⟨b,0,bu⟩),aa az y,aa az z,ak s] w λe w'=>∃(E:Int) (G:Fo),e=bf (bN E)/\Tr.Cj F y z s E G/\bS w' b G/\bG b w w':=by
 have HF:=hJ (aK h hs);by_cases c:Tr.cN F y 1=0
 .obtain⟨k,rfl,k40,kk0,kk1⟩:=Tr.fD c;have EP:Hid (Tr.cN F (k:Int) 1=0/\fC b (k:Int) 0=ai (bj ⟨b,k*62,bu⟩)):=hJ ⟨c,gL b k⟩;have HK1:=hJ (aK kk1 (hL k k40 kk0));go_in
  go_wp2_with fail
  refine sC (iQ b k F _ HF.1) ?_;rintro w0 hw0;subst w0;rw[EP.1,EP.2,bF];go_wp2_with fail
  refine(r8 b z s F _ HF.1 HF.2).mono ?_;rintro e w1 ⟨E,rfl,hw1,b1⟩;have S1:Hid (Tr.oU F z s E/\bS w1 b F/\bG b w w1):=hJ ⟨hw1,HF.1.below b1,bG.cL b1⟩;by_cases e0:E=0
  .subst e0;obtain⟨n,rfl,n40,k2,hnm,_,hsz⟩:=S1.1.ok;have HN:Hid ((F.nd n).kind=2/\s.size<=8/\(F.nd n).size<8):=hJ ⟨k2,Tr.qb hnm,by have:=HF.2 n n40 k2;omega⟩;have nk:n≠k:=λe=>by have:=HK1.1;rw[<-e,k2]at this;exact aZ this bE
   rw[gL,bF];have c1:=S1.2.1.s9 k k40;have c2:=S1.2.1.s9 n n40;by_cases tt:(F.nd k).tree=(F.nd n).tree
   .have HT:=hJ tt;rw[tt]at c1;obtain⟨tr,htr⟩:=hU ((F.nd n).tree);rw[htr]at c1 c2;obtain⟨lk,hlk⟩:=hU ((F.nd k).cV);have c3:=S1.2.1.drew.uy k k40;rw[hlk]at c3;have c4:w1.cell? ⟨b,k*62+1,bu⟩=bj (aa az (lk:Int)):=c3;have hb:=HK1.2;rw[hlk]at hb;have hw:IntKind.i64.wrap ((lk:Int)+1)=(lk:Int)+1:=aN _ ⟨by omega,bB⟩;have cf:=S1.2.1.frozen;have S3:Hid (∀nq,bS ((w1.drewN nq).setCell ⟨b,k*62+1,bu⟩ (aa az ((lk:Int)+1))) b (F.put k {F.nd k with cV:=lk+1})/\bG b w ((w1.drewN nq).setCell ⟨b,k*62+1,bu⟩ (aa az ((lk:Int)+1)))):=hJ (λnq=>⟨(S1.2.1.drewN nq).xP k (lk+1) k40,(S1.2.2.drewN nq).setCell _ _⟩);have HMK:Hid (Tr.Aq F k n s=Tr.lr (F.put k {F.nd k with cV:=lk+1}) n s k):=hJ (by unfold Tr.Aq;rw[hlk]);have TN:Hid ((F.put k {F.nd k with cV:=lk+1}).nd n=F.nd n):=hJ (Tr.bP _ _ _ _ nk);go_wp2_with fail
    go_quiet (fail)
    go_upto_region 10 with fail
    refine cJ (λW=>bS W b (F.put k {F.nd k with cV:=lk+1})/\bG b w W) (S3.v _) ?_;intro W4 h4;have S4:=hJ h4;go_wp2_with fail
    refine sC (rI b n k s _ _ S4.1 n40 k40 (by rw[TN.v];exact HN.2.2) (aH HN.2.1 bE)) ?_;rintro W5 ⟨h5,f5⟩;have S5:Hid (bS W5 b (Tr.Aq F k n s)/\bG b w W5):=hJ ⟨by rw[HMK.v];exact h5,S4.2.trans f5⟩;go_wp2
    go_ret
    exact⟨0,_,rfl, .inr ⟨EP.1,0,S1.1, .inr ⟨rfl, .inr ⟨HT.v,rfl,rfl⟩⟩⟩,S5.v⟩
   .have HT:=hJ tt;generalize (F.nd k).tree=t1 at c1 tt;generalize (F.nd n).tree=t2 at c2 tt;have tI:((t1:Int)==(t2:Int))=bA:=by simp;omega
    have tI2:¬(t1:Int)=(t2:Int):=bB
    go_wp2_with fail
    go_quiet (fail)
    go_wp2
    go_ret
    exact⟨11,F,rfl, .inr ⟨EP.1,0,S1.1, .inr ⟨rfl, .inl ⟨HT.v,rfl,rfl⟩⟩⟩,S1.2.1.drewN _,S1.2.2.drewN _⟩
  .have E2:Hid (bN E=aq 100 (aa az E)/\E≠0):=hJ ⟨bH e0,e0⟩;rw[E2.1];go_wp2
   go_ret
   exact⟨E,F,by rw[E2.1];rfl, .inr ⟨EP.1,E,S1.1, .inl ⟨E2.2,rfl,rfl⟩⟩,S1.2⟩
 .have E2:Hid (fC b y (Tr.cN F y 1)=ai bu/\bN (Tr.cN F y 1)=aq 100 (aa az (Tr.cN F y 1))/\Tr.Cj F y z s (Tr.cN F y 1) F):=hJ ⟨ij c,bH c, .inl ⟨c,rfl,rfl⟩⟩;go_in
  go_wp2_with fail
  refine sC (iQ b y F _ HF.1) ?_;rintro w1 hw;subst w1;rw[E2.1,E2.2.1];go_wp2
  go_ret
  exact⟨_,F,by rw[E2.2.1];rfl,E2.2.2,HF.1,bG.refl _ _⟩
def Tr.dB(F:Fo):Nat->Nat->Prop
 |0,n=>n<40/\(F.nd n).up=n
 |m+1,n=>n<40/\((F.nd n).up=n\/Tr.dB F m (F.nd n).up)
def Tr.gR(F:Fo)(o:Nat):Nat->Nat->Bool
 |0,n=>n==o
 |m+1,n=>n==o||(!((F.nd n).up==n)&&Tr.gR F o m (F.nd n).up)
def Tr.rP(F:Fo):Nat->Nat->Nat
 |0,_=>0
 |m+1,n=>if(F.nd n).up=n then 0 else 1+Tr.rP F m (F.nd n).up
theorem Tr.dB.lt(h:Tr.dB F m n):n<40:=by cases m<;>exact h.1
theorem Tr.dB.more{F:Fo}:∀{m n:Nat},Tr.dB F m n->Tr.dB F (m+1) n/\Tr.rP F (m+1) n=Tr.rP F m n/\∀o,Tr.gR F o (m+1) n=Tr.gR F o m n
 |0,n,h=>⟨⟨h.1, .inl h.2⟩,aJ h.2,λo=>by
  show(n==o||(!((F.nd n).up==n)&&_))=(n==o);rw[h.2];simp⟩
 |m+1,n,⟨h1,h2⟩=>by
  by_cases c:(F.nd n).up=n
  .refine⟨⟨h1, .inl c⟩,?_,λo=>?_⟩
   .unfold Tr.rP;rw[aJ c,aJ c]
   .unfold Tr.gR;simp[c]
  .rcases h2 with h2|h2
   .exact aZ h2 c
   .obtain⟨a1,a2,a3⟩:=Tr.dB.more h2;refine⟨⟨h1, .inr a1⟩,?_,λo=>?_⟩
    .show(if _ then 0 else 1+Tr.rP F (m+1) _)=(if _ then 0 else 1+Tr.rP F m _);rw[a2]
    .show(n==o||(!((F.nd n).up==n)&&Tr.gR F o (m+1) (F.nd n).up))=(n==o||(!((F.nd n).up==n)&&Tr.gR F o m (F.nd n).up));rw[a3]
theorem Tr.dB.step(h:Tr.dB F m n)(c:(F.nd n).up≠n):Tr.dB F m (F.nd n).up/\Tr.rP F m (F.nd n).up<Tr.rP F m n/\∀o,n≠o->Tr.gR F o m n=Tr.gR F o m (F.nd n).up:=by
 cases m with
 |zero=>exact aZ h.2 c
 |succ m=>
  rcases h.2 with h2|h2
  .exact aZ h2 c
  .obtain⟨a1,a2,a3⟩:=h2.more;refine⟨a1,?_,λo ho=>?_⟩
   .rw[a2];show _<(if _ then 0 else 1+Tr.rP F m _);rw[aI c];omega
   .rw[a3];show(n==o||(!((F.nd n).up==n)&&Tr.gR F o m (F.nd n).up))=_;rw[show(n==o)=bA from by simpa using ho,show((F.nd n).up==n)=bA from by simpa using c];rfl
theorem Tr.rk(F:Fo)(m n:Nat):Tr.gR F n m n=bw:=by cases m<;>simp[Tr.gR]
theorem Tr.JX(m:Nat){o:Nat}(c:(F.nd n).up=n)(h:n≠o):Tr.gR F o m n=bA:=by cases m<;>simp[Tr.gR,c,h]
theorem JA(b n o m:Nat)(F:Fo)(w:bD)(h:bS w b F)(he:Tr.dB F m n):
  Calls prog 255 #[ai (bj ⟨b,0,bu⟩),aa az (n:Int),aa az (o:Int)] w λe w'=>e=bf (.bool (Tr.gR F o m n))/\w'=w:=by
 have HF:=hJ h;have HE:=hJ he;go_in
 go_wp2
 go_loopw [1] (λi wr=>∃(y:Nat),i=aa az y/\Hid (Tr.dB F m y/\Tr.gR F o m n=Tr.gR F o m y)/\wr=w) (λi _=>Tr.rP F m (intOf i).toNat)
 case atStart=>exact⟨n,rfl,hJ ⟨HE.v,rfl⟩,rfl⟩
 case round=>
  obtain⟨y,rfl,R,hwr⟩:=hrel;subst wr;have y40:=R.1.lt;have yI:(y:Int)<40:=bB
  by_cases c:y=o
  .subst c;have FIN:Hid (Tr.gR F y m n=bw):=hJ (by rw[R.2];exact Tr.rk F m y);go_wp2
   go_ret
   exact⟨by rw[FIN.v];simp,rfl⟩
  .have c1:((y:Int)==(o:Int))=bA:=by simp;omega
   have c2:¬(y:Int)=(o:Int):=bB
   have c3:((y:Int) !=(o:Int))=bw:=by simp;omega
   have c0:=HF.Vr y y40;by_cases d:(F.nd y).up=y
   .rw[d]at c0;have FIN:Hid (Tr.gR F o m n=bA):=hJ (by rw[R.2];exact Tr.JX m d c);go_wp2
    go_ret
    exact⟨by rw[FIN.v];simp,rfl⟩
   .have NX:=hJ (R.1.step d);obtain⟨u,hu⟩:=hU ((F.nd y).up);rw[hu]at c0 NX d;have d2:¬(y:Int)=(u:Int):=bB
    have d3:((y:Int) !=(u:Int))=bw:=by simp;omega
    go_wp2
    go_roundw
    case rel=>exact⟨u,rfl,hJ ⟨NX.1,R.2.trans (NX.2.2 o c)⟩,by first|rfl|trivial⟩
    case measure=>simp[intOf];exact NX.2.1
def Tr.Hv(F:Fo):Prop:=∀n,n<40->(F.nd n).kind=2->∀i,i<(F.nd n).size->(F.nd n).cY i<40/\1<=(F.nd ((F.nd n).cY i)).cV/\(F.nd ((F.nd n).cY i)).cV<2^60
def Tr.xK(F:Fo)(n i k:Nat):Fo:=
 Tr.mF ((F.put n (Tr.eZ (F.nd n) i)).put k {(F.put n (Tr.eZ (F.nd n) i)).nd k with cV:=(F.nd k).cV-1}) k
def Tr.yw(F:Fo)(z:Int)(s:bU)(E:Int)(G:Fo):Prop:=
 ∃K e,Tr.lA F z s K e/\((e≠0/\E=e/\G=F)\/(e=0/\(((F.nd K).kind=2/\(0<(F.nd K).size\/0<(F.nd K).held)/\E=5/\G=F)\/(¬((F.nd K).kind=2/\(0<(F.nd K).size\/0<(F.nd K).held))/\E=0/\∃i:Nat,Tr.fJ (F.nd z.toNat) s (i:Int)/\G=Tr.xK F z.toNat i K))))
theorem Tr.fJ.lt(h:Tr.fJ x s (i:Int)):i<x.size:=by
 rcases h with⟨j,e,h1,_⟩|⟨e,_⟩
 .omega
 .omega
theorem Tr.lA.ok{K:Nat}(h:Tr.lA F z s K 0):∃n i:Nat,z=n/\n<40/\(F.nd n).kind=2/\Tr.fJ (F.nd n) s (i:Int)/\K=(F.nd n).cY i:=by
 rcases h with⟨h1,_,h2⟩|⟨h1,h2⟩
 .exact aZ h2.symm h1
 .obtain⟨n,rfl,h3,_,h5⟩:=Tr.fD h1;rw[hZ]at h2;rcases h2 with⟨i,h6,h7,_⟩|⟨_,_,h7⟩
  .exact⟨n,i,rfl,h3,h5,h6,h7⟩
  .exact aZ h7 bE
theorem Tr.Bn(F:Fo)(n i k:Nat):((F.put n (Tr.eZ (F.nd n) i)).nd k).cV=(F.nd k).cV:=by
 by_cases c:k=n
 .subst c;rw[Tr.bM];rfl
 .rw[Tr.bP _ _ _ _ c]
theorem Gi(b:Nat)(z:Int)(s:bU)(F:Fo)(w:bD)(h:bS w b F)(hs:Tr.kY F)(hK:Tr.Hv F):
  Calls prog 206 #[ai (bj ⟨b,0,bu⟩),aa az z,ak s] w λe w'=>∃(E:Int) (G:Fo),e=bf (bN E)/\Tr.yw F z s E G/\bS w' b G/\bG b w w':=by
 have HF:=hJ (aK h hs);have HH:=hJ (aK True.intro hK);clear h hs hK;go_in
 go_wp2_with fail
 refine(vq b z s F _ HF.1 HF.2).mono ?_;rintro e w1 ⟨k,E,rfl,hw1,b1⟩;have S1:Hid (Tr.lA F z s k E/\bS w1 b F/\bG b w w1):=hJ ⟨hw1,HF.1.below b1,bG.cL b1⟩;clear hw1 b1;by_cases e0:E=0
 .subst e0;obtain⟨n,i,rfl,n40,k2,hp,hk⟩:=S1.1.ok;have k40:k<40:=by rw[hk];exact(HH.2 n n40 k2 i hp.lt).1
  have l1:1<=(F.nd k).cV:=by rw[hk];exact(HH.2 n n40 k2 i hp.lt).2.1
  have l2:(F.nd k).cV<2^60:=by rw[hk];exact(HH.2 n n40 k2 i hp.lt).2.2
  have HN:Hid ((F.nd n).size<=8/\Tr.fJ (F.nd n) s (i:Int)):=hJ ⟨HF.2 n n40 k2,hp⟩;have nI:(n:Int)<40:=bB
  have kI:(k:Int)<40:=bB
  obtain⟨lk,hlk⟩:=hU ((F.nd k).cV);have HLK:=hJ hlk;rw[hlk]at l1 l2;have hw:IntKind.i64.wrap ((lk:Int)-1)=((lk-1:Nat):Int):=(aN _ ⟨by omega,bB⟩).trans bB;rw[bF];clear k2 hp hk hlk l1 l2;have c0:=S1.2.1.sZ k k40;have cs:=S1.2.1.nT k k40;have ch:=S1.2.1.yH k k40;by_cases kk:(F.nd k).kind=2
  .rw[kk]at c0;have c0':w1.cell? ⟨b,k*62,bu⟩=bj (aa .i64 2):=c0;clear c0;by_cases z0:0<(F.nd k).size
   .have FIN:Hid (Tr.yw F (n:Int) s 5 F):=hJ ⟨k,0,S1.1, .inr ⟨rfl, .inl ⟨kk, .inl z0,rfl,rfl⟩⟩⟩;generalize (F.nd k).size=zz at cs z0;have zI:(0:Int)<(zz:Int):=bB
    clear kk ch;go_wp2
    go_ret
    exact⟨5,F,rfl,FIN.v,S1.2⟩
   .by_cases h0:0<(F.nd k).held
    .have FIN:Hid (Tr.yw F (n:Int) s 5 F):=hJ ⟨k,0,S1.1, .inr ⟨rfl, .inl ⟨kk, .inr h0,rfl,rfl⟩⟩⟩;rw[show(F.nd k).size=0 by omega]at cs;have cs':w1.cell? ⟨b,k*62+3,bu⟩=bj (aa .i64 0):=cs;generalize (F.nd k).held=zz at ch h0;have zI:(0:Int)<(zz:Int):=bB
     clear kk cs z0;go_wp2
     go_ret
     exact⟨5,F,rfl,FIN.v,S1.2⟩
    .rw[show(F.nd k).size=0 by omega]at cs;have cs':w1.cell? ⟨b,k*62+3,bu⟩=bj (aa .i64 0):=cs;rw[show(F.nd k).held=0 by omega]at ch;have ch':w1.cell? ⟨b,k*62+2,bu⟩=bj (aa .i64 0):=ch;have NB:Hid (¬((F.nd k).kind=2/\(0<(F.nd k).size\/0<(F.nd k).held))):=hJ bB;clear kk cs ch z0 h0;go_wp2_with fail
     refine sC (rZ b n i s F _ S1.2.1 n40 HN.1 HN.2) ?_;rintro w2 ⟨h2,f2⟩;have S2:Hid (bS w2 b (F.put n (Tr.eZ (F.nd n) i))/\bG b w w2):=hJ ⟨h2,S1.2.2.trans f2⟩;clear h2 f2 c0' cs' ch';have c5:=S2.1.uy k k40;rw[Tr.Bn,HLK.v]at c5;have cf:=S2.1.frozen;have S3:Hid (bS (w2.setCell ⟨b,k*62+1,bu⟩ (aa az ((lk-1:Nat):Int))) b ((F.put n (Tr.eZ (F.nd n) i)).put k {(F.put n (Tr.eZ (F.nd n) i)).nd k with cV:=lk-1})/\bG b w (w2.setCell ⟨b,k*62+1,bu⟩ (aa az ((lk-1:Nat):Int)))):=hJ ⟨S2.1.xP k (lk-1) k40,S2.2.setCell _ _⟩;have HLZ:Hid ((F.nd k).cV-1=lk-1):=hJ (by rw[HLK.v]);generalize lk-1=lz at*;go_wp2_with fail
     refine sC (tP b k _ _ S3.1 k40) ?_;rintro w4 ⟨h4,f4⟩;have S4:Hid (bS w4 b (Tr.xK F n i k)/\bG b w w4):=hJ ⟨by unfold Tr.xK;rw[HLZ.v];exact h4,S3.2.trans f4⟩;clear h4 f4;go_wp2
     go_ret
     exact⟨0,_,rfl,⟨k,0,S1.1, .inr ⟨rfl, .inr ⟨NB.v,rfl,i,by rw[hZ];exact HN.2,by rw[hZ]⟩⟩⟩,S4.v⟩
  .have NB:Hid (¬((F.nd k).kind=2/\(0<(F.nd k).size\/0<(F.nd k).held))):=hJ bB;generalize (F.nd k).kind=kz at c0 kk;have kz1:((kz:Int)==2)=bA:=by simp;omega
   have kz2:¬(kz:Int)=2:=bB
   clear kk cs ch;go_wp2_with fail
   refine sC (rZ b n i s F _ S1.2.1 n40 HN.1 HN.2) ?_;rintro w2 ⟨h2,f2⟩;have S2:Hid (bS w2 b (F.put n (Tr.eZ (F.nd n) i))/\bG b w w2):=hJ ⟨h2,S1.2.2.trans f2⟩;clear h2 f2 c0 kz1 kz2;have c5:=S2.1.uy k k40;rw[Tr.Bn,HLK.v]at c5;have cf:=S2.1.frozen;have S3:Hid (bS (w2.setCell ⟨b,k*62+1,bu⟩ (aa az ((lk-1:Nat):Int))) b ((F.put n (Tr.eZ (F.nd n) i)).put k {(F.put n (Tr.eZ (F.nd n) i)).nd k with cV:=lk-1})/\bG b w (w2.setCell ⟨b,k*62+1,bu⟩ (aa az ((lk-1:Nat):Int)))):=hJ ⟨S2.1.xP k (lk-1) k40,S2.2.setCell _ _⟩;have HLZ:Hid ((F.nd k).cV-1=lk-1):=hJ (by rw[HLK.v]);generalize lk-1=lz at*;go_wp2_with fail
   refine sC (tP b k _ _ S3.1 k40) ?_;rintro w4 ⟨h4,f4⟩;have S4:Hid (bS w4 b (Tr.xK F n i k)/\bG b w w4):=hJ ⟨by unfold Tr.xK;rw[HLZ.v];exact h4,S3.2.trans f4⟩;clear h4 f4;go_wp2
   go_ret
   exact⟨0,_,rfl,⟨k,0,S1.1, .inr ⟨rfl, .inr ⟨NB.v,rfl,i,by rw[hZ];exact HN.2,by rw[hZ]⟩⟩⟩,S4.v⟩
 .have E2:Hid (bN E=aq 100 (aa az E)/\E≠0):=hJ ⟨bH e0,e0⟩;rw[E2.1];clear e0;go_wp2
  go_ret
  exact⟨E,F,by rw[E2.1];rfl,⟨k,E,S1.1, .inl ⟨E2.2,rfl,rfl⟩⟩,S1.2⟩
theorem bS.range(h:bS w b F)(n:Nat)(hn:n<40):w.rangeAt b (n*62) (du (F.nd n)).toList:=λj v hv=>by
 have hj:j<62:=by have:=(aY.1 hv).1;rwa [jr]at this
 rw[aM,D1 _ j hj]at hv;rw[<-hv];exact h.nd n j hn hj
section
variable {ops:Array Oper}{rest:List Oper}{x:Oper}{a:Act}{w:bD}{Q:Exit->Act->bD->Prop}
theorem zJ(hgd:x.guard=bu)(ho:x.op= .alloc 204)(h:wpList prog ops Q rest (a.put x.dst (ai (bj ⟨w.heap.size,0,bu⟩))) (w.alloc (bh (du Nd.no) 204))):wpList prog ops Q (x::rest) a w:=
 wpList_plain hgd λ_ hK=>by
  unfold Oper.wp execOp;simp only[ho];simp[go_sem];exact hK _ _ h
end
theorem O0{T:TypeId}(x:Nd)(h:w.heap[c]? =bj (bh A T (0,0)))(hA:A.size=62):w.there c 0 (du x).size:=λj hj=>by
 rw[n7]at hj;exact⟨by rw[bR h];simp[hA];omega,cE h _⟩
theorem RX{T:TypeId}(x:Nd)(h:w.heap[c]? =bj (bh A T (0,0)))(hA:A.size=62):(w.setCells c 0 (du x).toList).rangeAt c 0 (du x).toList:=λj v hv=>by
 have hj:j<62:=by have:=(aY.1 hv).1;rwa [jr]at this
 have:=aS c (du x).toList 0 w (λi hi=>by
  rw[jr]at hi;rw[bR h];simp[hA];exact hi) j (by rw[jr];exact hj)
 rw[this,<-hv,aW (by rw[jr];exact hj)]
theorem ve{w':bD}{L:List Value}(h:w.rangeAt c 0 L)(e:w'.heap[c]? =w.heap[c]?):w'.rangeAt c 0 L:=λj v hv=>(aV e).trans (h j v hv)
theorem Tr.Ec(F:Fo)(n:Nat):F.put n (F.nd n)=F:=by
 unfold Fo.put;have:(λm=>if m=n then F.nd n else F.nd m)=F.nd:=by
  funext m;by_cases c:m=n
  .rw[aJ c,c]
  .rw[aI c]
 rw[this]
def Tr.Jf(F:Fo)(n i t k:Nat)(o:bU):Fo:=Tr.lr (F.put n (Tr.eZ (F.nd n) i)) t o k
def Tr.Hw(F:Fo)(z:Int)(s:bU)(y:Int)(o:bU)(E:Int)(G:Fo):Prop:=
 ∃K e,Tr.lA F z s K e/\((e≠0/\E=e/\G=F)\/(e=0/\((Tr.cN F y 2≠0/\E=Tr.cN F y 2/\G=F)\/(Tr.cN F y 2=0/\(((F.nd z.toNat).tree≠(F.nd y.toNat).tree/\E=11/\G=F)\/((F.nd z.toNat).tree=(F.nd y.toNat).tree/\
  ((Tr.gR F K 40 y.toNat=bw/\E=5/\G=F)\/(Tr.gR F K 40 y.toNat=bA/\∃i:Nat,Tr.fJ (F.nd z.toNat) s (i:Int)/\∃e2,Tr.oT ((F.put z.toNat (Tr.eZ (F.nd z.toNat) i)).nd y.toNat) o e2/\((e2≠0/\E=e2/\G=F)\/(e2=0/\E=0/\G=Tr.Jf F z.toNat i y.toNat K o))))))))))
theorem Tr.oT.ok(h:Tr.oT x s 0):Tr.gd s=bw/\x.size≠8:=by
 rcases h with⟨_,h⟩|⟨h1,⟨_,_,h⟩|⟨_,⟨_,h⟩|⟨h2,_⟩⟩⟩
 .omega
 .omega
 .omega
 .exact⟨h1,h2⟩
theorem Mp(b:Nat)(z:Int)(s:bU)(y:Int)(o:bU)(F:Fo)(w:bD)(h:bS w b F)(hs:Tr.kY F)(hK:Tr.Hv F)(hE:∀n,n<40->(F.nd n).kind=2->Tr.dB F 40 n):
  Calls prog 207 #[ai (bj ⟨b,0,bu⟩),aa az z,ak s,aa az y,ak o] w λe w'=>∃(E:Int) (G:Fo),e=bf (bN E)/\Tr.Hw F z s y o E G/\bS w' b G/\bG b w w':=by
 have HF:=hJ (aK h hs);have HH:=hJ (aK hE hK);clear h hs hE hK;go_in
 go_wp2_with fail
 refine(vq b z s F _ HF.1 HF.2).mono ?_;rintro e w1 ⟨k,E,rfl,hw1,b1⟩;have S1:Hid (Tr.lA F z s k E/\bS w1 b F/\bG b w w1):=hJ ⟨hw1,HF.1.below b1,bG.cL b1⟩;clear hw1 b1;by_cases e0:E=0
 .subst e0;obtain⟨n,i,rfl,n40,k2,hp,hk⟩:=S1.1.ok;have k40:k<40:=by rw[hk];exact(HH.2 n n40 k2 i hp.lt).1
  have HN:Hid ((F.nd n).size<=8/\Tr.fJ (F.nd n) s (i:Int)):=hJ ⟨HF.2 n n40 k2,hp⟩;have nI:(n:Int)<40:=bB
  have kI:(k:Int)<40:=bB
  rw[bF];clear k2 hp hk;by_cases c:Tr.cN F y 2=0
  .obtain⟨t,rfl,t40,_,t2⟩:=Tr.fD c;have EP:Hid (Tr.cN F (t:Int) 2=0/\fC b (t:Int) 0=ai (bj ⟨b,t*62,bu⟩)):=hJ ⟨c,gL b t⟩;have HEN:Hid (Tr.dB F 40 t/\(F.nd t).size<=8):=hJ ⟨HH.1 t t40 t2,HF.2 t t40 t2⟩;clear c t2;go_wp2_with fail
   refine sC (lU b t F _ S1.2.1) ?_;rintro w0 hw0;subst w0;rw[EP.1,EP.2,bF];have c1:=S1.2.1.s9 n n40;have c2:=S1.2.1.s9 t t40;by_cases tt:(F.nd n).tree=(F.nd t).tree
   .have HT:=hJ tt;rw[tt]at c1;generalize (F.nd t).tree=tr at c1 c2;clear tt;go_wp2_with fail
    go_quiet (fail)
    go_upto_region 10 with fail
    refine cJ (λW=>bS W b F/\bG b w W) ⟨S1.2.1.drewN _,S1.2.2.drewN _⟩ ?_;intro W2 h2;have S2:=hJ h2;clear h2 c1 c2;go_wp2_with fail
    refine sC (JA b t k 40 F _ S2.1 HEN.1) ?_;rintro w3 hw3;subst w3;obtain⟨bb,hbb⟩:=hU (Tr.gR F k 40 t);have HBB:=hJ hbb;rw[hbb];clear hbb;cases bb
    .have N0:Hid ((W2.alloc (bh (du Nd.no) 204)).heap[W2.heap.size]? =bj (bh (du Nd.no) 204 (0,0))):=hJ (heap_alloc_new W2 _);have HR:=hJ (S2.1.range n n40);have TH:=hJ (O0 (F.nd n) N0.v (n7 _));have HS:=hJ (pC (F.nd n));have H1:=hJ (pE (F.nd n));have hlen:Hid ((prog.info? 204).map (·.size)=bj (du (F.nd n)).toList.length):=hJ (by rw[jr];kernel_rfl);have S3:Hid ((bS ((W2.alloc (bh (du Nd.no) 204)).setCells W2.heap.size 0 (du (F.nd n)).toList) b F/\bG b w ((W2.alloc (bh (du Nd.no) 204)).setCells W2.heap.size 0 (du (F.nd n)).toList))/\((W2.alloc (bh (du Nd.no) 204)).setCells W2.heap.size 0 (du (F.nd n)).toList).rangeAt W2.heap.size 0 (du (F.nd n)).toList/\W2.heap.size<((W2.alloc (bh (du Nd.no) 204)).setCells W2.heap.size 0 (du (F.nd n)).toList).heap.size/\W2.heap.size≠b):=hJ (by
      have q:Below W2.heap.size W2 ((W2.alloc (bh (du Nd.no) 204)).setCells W2.heap.size 0 (du (F.nd n)).toList):=(bG.setCells _ _ (bG.refl W2.heap.size _)).below ((aQ _ _).alloc (aL _) _) (aL _) (by simp);refine⟨⟨S2.1.below q,S2.2.trans (bG.cL q)⟩,RX _ N0.v (n7 _),?_,?_⟩
      .have:=(bG.setCells (b:=W2.heap.size) (du (F.nd n)).toList 0 (bG.refl W2.heap.size (W2.alloc (bh (du Nd.no) 204)))).size;have e:(W2.alloc (bh (du Nd.no) 204)).heap.size=W2.heap.size+1:=by simp
       omega
      .have:=S2.1.lt;omega)
     obtain⟨A,hA⟩:=hU (du (F.nd n));have HA:=hJ hA;rw[hA]at HR TH HS H1 S3 hlen;clear hA;go_upto_region 13 with(first|(refine wpList_load_mid rfl 204 _ rfl b (n*62) rfl A.toList _ HR.v Tryz.underlying204 rfl hlen.v ?_;rw[Array.toArray_toList])|(refine zJ rfl rfl ?_)|(refine wpList_store_mid rfl 204 _ _ rfl W2.heap.size 0 A rfl rfl TH.v HS.v H1.v ?_))
     generalize hcc:W2.heap.size=cc at*;refine cJ (λW=>(bS W b F/\bG b w W)/\W.rangeAt cc 0 A.toList/\cc<W.heap.size/\cc≠b) S3.v ?_;intro W3 h3;have S4:=hJ h3;clear h3 S3 N0 HR TH hcc;go_wp2_with fail
     refine sC (rZ b n i s F _ S4.1.1 n40 HN.1 HN.2) ?_;rintro w4 ⟨h4,f4⟩;obtain⟨F1,hF1⟩:=hU (F.put n (Tr.eZ (F.nd n) i));have HF1:=hJ hF1;rw[hF1]at h4;have z8:Hid ((F1.nd t).size<=8):=hJ (by
      rw[<-hF1];by_cases d:t=n
      .subst d;rw[Tr.bM];show(F.nd t).size-1<=8;have:=HEN.2;omega
      .rw[Tr.bP _ _ _ _ d];exact HEN.2)
     have S5:Hid ((bS w4 b F1/\bG b w w4)/\w4.rangeAt cc 0 A.toList/\cc<w4.heap.size):=hJ ⟨⟨h4,S4.1.2.trans f4⟩,ve S4.2.1 (f4.block cc S4.2.2.1 S4.2.2.2),aD S4.2.2.1 f4.size⟩;clear h4 f4 hF1;go_wp2_with fail
     refine(vx b t o F1 _ S5.1.1 t40 z8.v).mono ?_;rintro e w5 ⟨E,rfl,hr,b5⟩;have S6:Hid ((bS w5 b F1/\bG b w w5)/\w5.rangeAt cc 0 A.toList/\Tr.oT (F1.nd t) o E):=hJ ⟨⟨S5.1.1.below b5,S5.1.2.trans (bG.cL b5)⟩,ve S5.2.1 (b5.block cc S5.2.2),hr⟩;clear hr b5;by_cases f0:E=0
     .subst f0;have HR2:=hJ S6.2.2.ok;have t8:Hid ((F1.nd t).size<8):=hJ (by have:=HR2.2;have:=z8.v;omega);rw[bF];go_wp2_with fail
      refine sC (rI b t k o F1 _ S6.1.1 t40 k40 t8.v (aH (Tr.qb HR2.1) bE)) ?_;rintro w6 ⟨h6,f6⟩;have S7:Hid (bS w6 b (Tr.Jf F n i t k o)/\bG b w w6):=hJ ⟨by unfold Tr.Jf;rw[HF1.v];exact h6,S6.1.2.trans f6⟩;clear h6 f6;go_wp2
      go_ret
      refine⟨0,_,rfl,⟨k,0,S1.1, .inr ⟨rfl, .inr ⟨EP.1, .inr ?_⟩⟩⟩,S7.v⟩;rw[hZ,hZ];exact⟨HT.v, .inr ⟨HBB.v,i,HN.2,0,by rw[HF1.v];exact S6.2.2, .inr ⟨rfl,rfl,rfl⟩⟩⟩
     .have E2:Hid (bN E=aq 100 (aa az E)/\E≠0):=hJ ⟨bH f0,f0⟩;have TH2:Hid (w5.there b (n*62) A.size):=hJ (by rw[<-HA.v];exact S6.1.1.there n n40 (F.nd n));have S7:Hid (bS (w5.setCells b (n*62) A.toList) b F/\bG b w (w5.setCells b (n*62) A.toList)):=hJ (by
       have a:=S6.1.1.setNode n n40 (F.nd n);rw[<-HF1.v,Tr.gM,Tr.Ec,HA.v]at a;exact⟨a,bG.setCells _ _ S6.1.2⟩)
      rw[E2.1];clear f0;go_wp2_with (first|(refine wpList_load_mid rfl 204 _ rfl cc 0 rfl A.toList _ S6.2.1 Tryz.underlying204 rfl hlen.v ?_;rw[Array.toArray_toList])|(refine wpList_store_mid rfl 204 _ _ rfl b (n*62) A rfl rfl TH2.v HS.v H1.v ?_))
      go_ret
      refine⟨E,F,by rw[E2.1];rfl,⟨k,0,S1.1, .inr ⟨rfl, .inr ⟨EP.1, .inr ?_⟩⟩⟩,S7.v⟩;rw[hZ,hZ];exact⟨HT.v, .inr ⟨HBB.v,i,HN.2,E,by rw[HF1.v];exact S6.2.2, .inl ⟨E2.2,rfl,rfl⟩⟩⟩
    .go_wp2
     go_ret
     refine⟨5,F,rfl,⟨k,0,S1.1, .inr ⟨rfl, .inr ⟨EP.1, .inr ?_⟩⟩⟩,S2.v⟩;rw[hZ,hZ];exact⟨HT.v, .inl ⟨HBB.v,rfl,rfl⟩⟩
   .have HT:=hJ tt;generalize (F.nd n).tree=t1 at c1 tt;generalize (F.nd t).tree=t2 at c2 tt;have tI:((t1:Int)==(t2:Int))=bA:=by simp;omega
    have tI2:¬(t1:Int)=(t2:Int):=bB
    clear tt;go_wp2_with fail
    go_quiet (fail)
    go_wp2
    go_ret
    refine⟨11,F,rfl,⟨k,0,S1.1, .inr ⟨rfl, .inr ⟨EP.1, .inl ?_⟩⟩⟩,S1.2.1.drewN _,S1.2.2.drewN _⟩;rw[hZ,hZ];exact⟨HT.v,rfl,rfl⟩
  .have E2:Hid (fC b y (Tr.cN F y 2)=ai bu/\bN (Tr.cN F y 2)=aq 100 (aa az (Tr.cN F y 2))/\Tr.cN F y 2≠0):=hJ ⟨ij c,bH c,c⟩;clear c;go_wp2_with fail
   refine sC (lU b y F _ S1.2.1) ?_;rintro w0 hw0;subst w0;rw[E2.1,E2.2.1];go_wp2
   go_ret
   exact⟨_,F,by rw[E2.2.1];rfl,⟨k,0,S1.1, .inr ⟨rfl, .inl ⟨E2.2.2,rfl,rfl⟩⟩⟩,S1.2⟩
 .have E2:Hid (bN E=aq 100 (aa az E)/\E≠0):=hJ ⟨bH e0,e0⟩;rw[E2.1];clear e0;go_wp2
  go_ret
  exact⟨E,F,by rw[E2.1];rfl,⟨k,E,S1.1, .inl ⟨E2.2,rfl,rfl⟩⟩,S1.2⟩
def tW(F:Fo)(z:Int):Array Value:=if Tr.cH F z=0 then#[aa az ((F.nd z.toNat).kind:Int),aa az ((F.nd z.toNat).cV:Int),aa az ((F.nd z.toNat).held:Int),aa az ((F.nd z.toNat).size:Int)]else#[aa az 0,aa az 0,aa az 0,aa az 0]
theorem qk(b:Nat)(z:Int)(F:Fo)(w:bD)(h:bS w b F):
  Calls prog 214 #[ai (bj ⟨b,0,bu⟩),aa az z] w λe w'=>e=bf (ao #[au (tW F z),bN (Tr.cH F z)])/\Below w.heap.size w w':=by
 have hlt:=h.lt;have hne:w.heap.size≠b:=bB
 have hne2:b≠w.heap.size:=bB
 have HF:Hid (∀o,bS (w.alloc o) b F/\Below w.heap.size w (w.alloc o)):=hJ (λo=>by
  have bb:Below w.heap.size w (w.alloc o):=(aQ _ _).alloc (aL _) _;exact⟨h.below bb,bb⟩)
 have HB:Hid (∀W W',Below w.heap.size w W->bG w.heap.size W W'->w.heap.size<=W.heap.size->Below w.heap.size w W'):=hJ (λW W' h1 h2 h3=>h2.below h1 (aL _) h3);by_cases c:Tr.cH F z=0
 .obtain⟨n,rfl,n40,kk⟩:=Tr.gZ c;have E:Hid (Tr.cH F (n:Int)=0/\tW F (n:Int)=#[aa az ((F.nd n).kind:Int),aa az ((F.nd n).cV:Int),aa az ((F.nd n).held:Int),aa az ((F.nd n).size:Int)]/\fC b (n:Int) 0=ai (bj ⟨b,n*62,bu⟩)):=hJ ⟨c,by unfold tW;rw[aJ c,hZ],gL b n⟩;clear h c kk;go_in
  go_wp2_with fail
  refine sC (ir b n F _ (HF.v _).1) ?_;rintro w1 hw1;have S1:Hid (bS w1 b F/\Below w.heap.size w w1):=hJ (by rw[hw1];exact HF.v _);have N1:w1.heap[w.heap.size]? =bj (bh #[aa az 0,aa az 0,aa az 0,aa az 0] 156 (0,0)):=by rw[hw1];exact heap_alloc_new w _
  clear hw1;rw[E.1,E.2.2,bF];have c1:=S1.1.sZ n n40;have c2:=S1.1.uy n n40;have c3:=S1.1.yH n n40;have c4:=S1.1.nT n n40;have EO:Hid (tW F (n:Int)=#[aa az ((F.nd n).kind:Int),aa az ((F.nd n).cV:Int),aa az ((F.nd n).held:Int),aa az ((F.nd n).size:Int)]):=hJ E.2.1;generalize (F.nd n).kind=v1 at c1 EO;generalize (F.nd n).cV=v2 at c2 EO;generalize (F.nd n).held=v3 at c3 EO;generalize (F.nd n).size=v4 at c4 EO;have hlt2:Hid (w.heap.size<w1.heap.size):=hJ (aX.1 N1).1;generalize hcc:w.heap.size=cc at*;have x1:w1.cell? ⟨cc,0,bu⟩=bj (aa .i64 0):=by rw[bR N1];rfl
  have x2:w1.cell? ⟨cc,1,bu⟩=bj (aa .i64 0):=by rw[bR N1];rfl
  have x3:w1.cell? ⟨cc,2,bu⟩=bj (aa .i64 0):=by rw[bR N1];rfl
  have x4:w1.cell? ⟨cc,3,bu⟩=bj (aa .i64 0):=by rw[bR N1];rfl
  have xf:∀o,w1.frozen? ⟨cc,o,bu⟩=bA:=λo=>cE N1 o;have S2:Hid (((((w1.setCell ⟨cc,0,bu⟩ (aa az (v1:Int))).setCell ⟨cc,1,bu⟩ (aa az (v2:Int))).setCell ⟨cc,2,bu⟩ (aa az (v3:Int))).setCell ⟨cc,3,bu⟩ (aa az (v4:Int))).heap[cc]? =bj (bh #[aa az (v1:Int),aa az (v2:Int),aa az (v3:Int),aa az (v4:Int)] 156 (0,0))/\Below cc w ((((w1.setCell ⟨cc,0,bu⟩ (aa az (v1:Int))).setCell ⟨cc,1,bu⟩ (aa az (v2:Int))).setCell ⟨cc,2,bu⟩ (aa az (v3:Int))).setCell ⟨cc,3,bu⟩ (aa az (v4:Int)))):=hJ
   ⟨cQ (cQ (cQ (cQ N1 0 _) 1 _) 2 _) 3 _,HB.v w1 _ S1.2 ((((((bG.refl cc w1).setCell _ _).setCell _ _).setCell _ _).setCell _ _)) (bI hlt2.v)⟩
  clear N1;go_wp2_with fail
  generalize hWF:(((w1.setCell ⟨cc,0,bu⟩ (aa az (v1:Int))).setCell ⟨cc,1,bu⟩ (aa az (v2:Int))).setCell ⟨cc,2,bu⟩ (aa az (v3:Int))).setCell ⟨cc,3,bu⟩ (aa az (v4:Int))=WF at S2|-;have y1:WF.cell? ⟨cc,0,bu⟩=bj (aa az (v1:Int)):=by rw[bR S2.1];rfl
  have y2:WF.cell? ⟨cc,1,bu⟩=bj (aa az (v2:Int)):=by rw[bR S2.1];rfl
  have y3:WF.cell? ⟨cc,2,bu⟩=bj (aa az (v3:Int)):=by rw[bR S2.1];rfl
  have y4:WF.cell? ⟨cc,3,bu⟩=bj (aa az (v4:Int)):=by rw[bR S2.1];rfl
  refine bodyPost_ret (v:=ao #[au #[aa az (v1:Int),aa az (v2:Int),aa az (v3:Int),aa az (v4:Int)], .nilIface]) (by simp[results,Tryz.f214,go_sem,y1,y2,y3,y4]) rfl ?_;rw[EO.v,E.1];subst hcc;exact⟨rfl,S2.2⟩
 .have E:Hid (tW F z=#[aa az 0,aa az 0,aa az 0,aa az 0]/\fC b z (Tr.cH F z)=ai bu/\bN (Tr.cH F z)=aq 100 (aa az (Tr.cH F z))):=hJ ⟨by unfold tW;rw[aI c],ij c,bH c⟩;clear h c;go_in
  go_wp2_with fail
  refine sC (ir b z F _ (HF.v _).1) ?_;rintro w1 hw1;have S1:Hid (bS w1 b F/\Below w.heap.size w w1):=hJ (by rw[hw1];exact HF.v _);have N1:w1.heap[w.heap.size]? =bj (bh #[aa az 0,aa az 0,aa az 0,aa az 0] 156 (0,0)):=by rw[hw1];exact heap_alloc_new w _
  clear hw1;rw[E.2.1,E.2.2];have hlt2:Hid (w.heap.size<w1.heap.size):=hJ (aX.1 N1).1;generalize hcc:w.heap.size=cc at*;have x1:w1.cell? ⟨cc,0,bu⟩=bj (aa .i64 0):=by rw[bR N1];rfl
  have x2:w1.cell? ⟨cc,1,bu⟩=bj (aa .i64 0):=by rw[bR N1];rfl
  have x3:w1.cell? ⟨cc,2,bu⟩=bj (aa .i64 0):=by rw[bR N1];rfl
  have x4:w1.cell? ⟨cc,3,bu⟩=bj (aa .i64 0):=by rw[bR N1];rfl
  have xf:∀o,w1.frozen? ⟨cc,o,bu⟩=bA:=λo=>cE N1 o;have S2:Hid (((((w1.setCell ⟨cc,0,bu⟩ (aa .i64 0)).setCell ⟨cc,1,bu⟩ (aa .i64 0)).setCell ⟨cc,2,bu⟩ (aa .i64 0)).setCell ⟨cc,3,bu⟩ (aa .i64 0)).heap[cc]? =bj (bh #[aa az 0,aa az 0,aa az 0,aa az 0] 156 (0,0))/\Below cc w ((((w1.setCell ⟨cc,0,bu⟩ (aa .i64 0)).setCell ⟨cc,1,bu⟩ (aa .i64 0)).setCell ⟨cc,2,bu⟩ (aa .i64 0)).setCell ⟨cc,3,bu⟩ (aa .i64 0))):=hJ
   ⟨cQ (cQ (cQ (cQ N1 0 _) 1 _) 2 _) 3 _,HB.v w1 _ S1.2 ((((((bG.refl cc w1).setCell _ _).setCell _ _).setCell _ _).setCell _ _)) (bI hlt2.v)⟩
  clear N1;go_wp2_with fail
  generalize hWF:(((w1.setCell ⟨cc,0,bu⟩ (aa .i64 0)).setCell ⟨cc,1,bu⟩ (aa .i64 0)).setCell ⟨cc,2,bu⟩ (aa .i64 0)).setCell ⟨cc,3,bu⟩ (aa .i64 0)=WF at S2|-;have y1:WF.cell? ⟨cc,0,bu⟩=bj (aa .i64 0):=by rw[bR S2.1];rfl
  have y2:WF.cell? ⟨cc,1,bu⟩=bj (aa .i64 0):=by rw[bR S2.1];rfl
  have y3:WF.cell? ⟨cc,2,bu⟩=bj (aa .i64 0):=by rw[bR S2.1];rfl
  have y4:WF.cell? ⟨cc,3,bu⟩=bj (aa .i64 0):=by rw[bR S2.1];rfl
  refine bodyPost_ret (v:=ao #[au #[aa az 0,aa az 0,aa az 0,aa az 0],aq 100 (aa az (Tr.cH F z))]) (by simp[results,Tryz.f214,go_sem,y1,y2,y3,y4]) rfl ?_;rw[E.1,E.2.2];subst hcc;exact⟨rfl,S2.2⟩
def Tr.B8(f:Nat->Int)(a:Nat)(L:List Int):Nat->Int:=λj=>if j<a then f j else(L[j-a]?).getD (f j)
def Tr.ur(s:bU):List Int:=s.data.toList.map λx=>(x.toNat:Int)
theorem Tr.QT(s:bU):(Tr.ur s).length=s.size:=by simp[Tr.ur]
theorem Tr.QU(s:bU):(s.data.toList.map λx=>aa bc (x.toNat:Int))=(Tr.ur s).map (Value.int bc):=by simp[Tr.ur,Function.comp_def]
theorem bS.setBytes(h:bS w b F)(n a:Nat)(L:List Int)(hL:a+L.length<=40):bS (w.setCells b (n*62+22+a) (L.map (Value.int bc))) b (F.put n {F.nd n with dO:=Tr.B8 (F.nd n).dO a L}):=by
 obtain⟨C,h1,h2⟩:=h.da;obtain⟨C',k1,k2⟩:=lV b (L.map (Value.int bc)) (n*62+22+a) w C h1;have hlen:(L.map (Value.int bc)).length=L.length:=by simp
 refine⟨⟨C',k1,bB⟩,λo ho=>?_⟩;by_cases c:n*62+22+a<=o/\o<n*62+22+a+L.length
 .obtain⟨j,rfl,hj⟩:∃j,o=n*62+22+a+j/\j<L.length:=⟨o-(n*62+22+a),bB,bB⟩;rw[aS b (L.map (Value.int bc)) (n*62+22+a) w (λi hi=>by rw[hlen]at hi;rw[h.cell _ bB];rfl) j (by rw[hlen];exact hj)];unfold jQ;rw[nK,show(n*62+22+a+j)/62=n by omega,show(n*62+22+a+j)%62=22+(a+j)by omega,Tr.bM,rq];show _=bj (aa bc (Tr.B8 (F.nd n).dO a L (a+j)));unfold Tr.B8;rw[nJ,show a+j-a=j by omega,aW hj,Option.getD_some,List.getElem_map]
 .rw[aA b _ (n*62+22+a) w ⟨b,o,bu⟩ (λ_ _=>by rw[hlen];show o<_\/_<=o;omega),h.cell o ho];unfold jQ;by_cases d:o<2480
  .rw[aJ d,aJ d];by_cases e:o/62=n
   .rw[e,Tr.bM];by_cases g:o%62<22
    .unfold iT;repeat' split
     all_goals first|rfl|omega
    .rw[show o%62=22+(o%62-22)by omega,rq,rq];show _=bj (aa bc (Tr.B8 (F.nd n).dO a L (o%62-22)));unfold Tr.B8;by_cases i:o%62-22<a
     .rw[aJ i]
     .rw[aI i,List.getElem?_eq_none bB,Option.getD_none]
   .rw[Tr.bP _ _ _ _ e]
  .rw[aI d,aI d];rfl
section
variable {ops:Array Oper}{rest:List Oper}{x:Oper}{a:Act}{w:bD}{Q:Exit->Act->bD->Prop}
theorem zK(hgd:x.guard=bu)(d y:Operand)(dT sT:TypeId)(hop:x.op=Op.call {callee:=Callee.builtin Builtin.copy,args:=#[d,y],argTypes:=#[dT,sT]})
  (elem:TypeId) (hu:prog.underlying dT=bj (.slice elem)) (hz:∀w,(Go.sizeOf elem).run prog w= .ok 1 w)
  (b off dLen dCap:Nat) (hd:a.eval d=aj (bj ⟨b,off,bu⟩) dLen dCap) (t:bU) (hx:a.eval y=ak t) (hle:t.size<=dLen)
  (hc:∀j,j<t.size->(w.cell? ⟨b,off+j,bu⟩).isSome=bw) (hf:∀j,j<t.size->w.frozen? ⟨b,off+j,bu⟩=bA)
  (h:wpList prog ops Q rest (a.put x.dst (goInt t.size)) (w.setCells b off ((Tr.ur t).map (Value.int bc)))):wpList prog ops Q (x::rest) a w:=
 wpList_plain hgd λ_ hK=>by
  have hrun:=run_copy_string (P:=prog) w dT sT x.type elem b off dLen dCap t hu hz hle hc hf;rw[Tr.QU]at hrun;unfold Oper.wp;simp[execOp,hop,resolve,invoke,builtin,hd,hx,hrun,Result.andThen];exact hK _ _ h
end
def Tr.dR(F:Fo)(z a:Int)(s:bU):Int:=if Tr.cN F z 1≠0 then Tr.cN F z 1 else if a<0 then 1 else if 40-(s.size:Int)<a then 4 else 0
def Tr.Bc(x:Nd)(a:Nat)(s:bU):Nd:={x with dO:=Tr.B8 x.dO a (Tr.ur s),size:=max x.size (a+s.size)}
def Tr.eY(F:Fo)(z a:Int)(s:bU):Fo:=if Tr.dR F z a s=0/\s.size≠0 then F.put z.toNat (Tr.Bc (F.nd z.toNat) a.toNat s)else F
theorem JC(b:Nat)(z a:Int)(s:bU)(F:Fo)(w:bD)(h:bS w b F)(hs:s.size<2^60):
  Calls prog 248 #[ai (bj ⟨b,0,bu⟩),aa az z,aa az a,ak s] w λe w'=>e=bf (bN (Tr.dR F z a s))/\bS w' b (Tr.eY F z a s)/\bG b w w':=by
 have HF:=hJ h;by_cases c:Tr.cN F z 1=0
 .obtain⟨n,rfl,n40,_,k1⟩:=Tr.fD c;have EP:Hid (Tr.cN F (n:Int) 1=0/\fC b (n:Int) 0=ai (bj ⟨b,n*62,bu⟩)):=hJ ⟨c,gL b n⟩;have EW:Tr.dR F (n:Int) a s=if a<0 then 1 else if 40-(s.size:Int)<a then 4 else 0:=by unfold Tr.dR;rw[aI (λd=>d c)]
  have hw:IntKind.i64.wrap (40-(s.size:Int))=40-(s.size:Int):=aN _ ⟨by omega,bB⟩;by_cases a0:a<0
  .have FIN:Hid (Tr.dR F (n:Int) a s=1/\Tr.eY F (n:Int) a s=F):=hJ (by
    have e:Tr.dR F (n:Int) a s=1:=by rw[EW,aJ a0]
    exact⟨e,by unfold Tr.eY;rw[e,nJ]⟩)
   clear h c k1 EW hs;go_in
   go_wp2_with fail
   refine sC (iQ b n F _ HF.v) ?_;rintro w1 hw1;subst w1;rw[EP.1,EP.2,bF];go_wp2
   go_ret
   rw[FIN.1,FIN.2];exact⟨rfl,HF.v,bG.refl _ _⟩
  .by_cases a4:40-(s.size:Int)<a
   .have FIN:Hid (Tr.dR F (n:Int) a s=4/\Tr.eY F (n:Int) a s=F):=hJ (by
     have e:Tr.dR F (n:Int) a s=4:=by rw[EW,aI a0,aJ a4]
     exact⟨e,by unfold Tr.eY;rw[e,nJ]⟩)
    clear h c k1 EW hs;go_in
    go_wp2_with fail
    refine sC (iQ b n F _ HF.v) ?_;rintro w1 hw1;subst w1;rw[EP.1,EP.2,bF];go_wp2
    go_ret
    rw[FIN.1,FIN.2];exact⟨rfl,HF.v,bG.refl _ _⟩
   .have EZ:Tr.dR F (n:Int) a s=0:=by rw[EW,aI a0,aI a4]
    by_cases s0:s.size=0
    .have FIN:Hid (Tr.dR F (n:Int) a s=0/\Tr.eY F (n:Int) a s=F):=hJ ⟨EZ,by unfold Tr.eY;rw[nJ]⟩;have sl:(s.toList==[])=bw:=by
      obtain rfl:s=⟨#[]⟩:=by
       apply ByteArray.ext;exact Array.eq_empty_of_size_eq_zero s0
      rw[ByteArray.toList_eq];rfl
     clear h c k1 EW hs EZ s0;go_in
     go_wp2_with fail
     refine sC (iQ b n F _ HF.v) ?_;rintro w1 hw1;subst w1;rw[EP.1,EP.2,bF];go_wp2
     go_ret
     rw[FIN.1,FIN.2];exact⟨rfl,HF.v,bG.refl _ _⟩
    .obtain⟨m,rfl⟩:∃m:Nat,a=m:=⟨a.toNat,bB⟩;have EF:Hid (Tr.dR F (n:Int) (m:Int) s=0/\Tr.eY F (n:Int) (m:Int) s=F.put n (Tr.Bc (F.nd n) m s)):=hJ ⟨EZ,by unfold Tr.eY;rw[aJ ⟨EZ,s0⟩,hZ,hZ]⟩;have hm:m+s.size<=40:=bB
     have m40:(m:Int)<40:=bB
     have m40b:(m:Int)<=40:=bB
     have mlt:m<40:=bB
     have mn0:¬m=40:=bB
     have mn1:¬40-m=0:=bB
     have mn2:¬(m:Int)=40:=bB
     have sl:(s.toList==[])=bA:=by
      rw[beq_eq_false_iff_ne];intro e;rw[ByteArray.toList_eq]at e;apply s0;show s.data.size=0;rw[<-aB,e];rfl
     have ad:IntKind.i64.wrap ((m:Int)+(s.size:Int))=((m+s.size:Nat):Int):=(aN _ ⟨by omega,bB⟩).trans bB;have CC:Hid (∀j,j<s.size->(w.cell? ⟨b,n*62+22+m+j,bu⟩).isSome=bw):=hJ (λj hj=>by rw[h.cell _ bB];rfl);have CF:Hid (∀j,j<s.size->w.frozen? ⟨b,n*62+22+m+j,bu⟩=bA):=hJ (λj _=>h.frozen _);have S1:Hid (bS (w.setCells b (n*62+22+m) ((Tr.ur s).map (Value.int bc))) b (F.put n {F.nd n with dO:=Tr.B8 (F.nd n).dO m (Tr.ur s)})/\bG b w (w.setCells b (n*62+22+m) ((Tr.ur s).map (Value.int bc)))):=hJ ⟨h.setBytes n m _ (by rw[Tr.QT];exact hm),bG.setCells _ _ (bG.refl b w)⟩;have hsm:s.size<=40-m:=bB
     have hcz:∀w,(Go.sizeOf 5).run prog w= .ok 1 w:=λw=>by rfl
     clear h c k1 EW hs EZ s0;obtain⟨L,hL⟩:=hU ((Tr.ur s).map (Value.int bc));rw[hL]at S1;go_in
     go_wp2_with fail
     refine sC (iQ b n F _ HF.v) ?_;rintro w1 hw1;subst w1;rw[EP.1,EP.2,bF];go_upto_region 11 with(refine zK rfl _ _ _ _ rfl 5 bC hcz b (n*62+22+m) (40-m) (40-m) rfl s rfl hsm CC.v CF.v ?_;rw[hL])
     refine cJ (λW=>bS W b (F.put n {F.nd n with dO:=Tr.B8 (F.nd n).dO m (Tr.ur s)})/\bG b w W) S1.v ?_;intro W2 h2;have S2:=hJ h2;clear h2 S1 CC CF hL;have c3:=S2.1.nT n n40;rw[Tr.bM]at c3;have cf:=S2.1.frozen;obtain⟨sz,hsz⟩:=hU ((F.nd n).size);have c3':W2.cell? ⟨b,n*62+3,bu⟩=bj (aa az (sz:Int)):=by rw[c3,<-hsz]
     have FIN:Hid (bS (W2.setCell ⟨b,n*62+3,bu⟩ (aa az (max (sz:Int) ((m:Int)+(s.size:Int))))) b (F.put n (Tr.Bc (F.nd n) m s))/\bG b w (W2.setCell ⟨b,n*62+3,bu⟩ (aa az (max (sz:Int) ((m:Int)+(s.size:Int)))))):=hJ (by
      have q:=S2.1.AM n (max sz (m+s.size)) n40;rw[Tr.bM,Tr.gM]at q;unfold Tr.Bc;rw[hsz];rw[show(max (sz:Int) ((m:Int)+(s.size:Int)))=((max sz (m+s.size):Nat):Int)by omega];exact⟨q,S2.2.setCell _ _⟩)
     clear c3 hsz;go_wp2
     go_ret
     rw[EF.1,EF.2];exact⟨rfl,FIN.v⟩
 .have E2:Hid (fC b z (Tr.cN F z 1)=ai bu/\bN (Tr.cN F z 1)=aq 100 (aa az (Tr.cN F z 1))/\Tr.dR F z a s=Tr.cN F z 1/\Tr.eY F z a s=F):=hJ (by
   have e:Tr.dR F z a s=Tr.cN F z 1:=aJ c;exact⟨ij c,bH c,e,by unfold Tr.eY;rw[e,aI (λd=>c d.1)]⟩)
  clear h c hs;go_in
  go_wp2_with fail
  refine sC (iQ b z F _ HF.v) ?_;rintro w1 hw;subst w1;rw[E2.1,E2.2.1];go_wp2
  go_ret
  rw[E2.2.2.1,E2.2.2.2,E2.2.1];exact⟨rfl,HF.v,bG.refl _ _⟩
def Tr.ud(F:Fo):Prop:=∀n,n<40->(F.nd n).kind=1->(F.nd n).size<=40
def Tr.BK(f:Nat->Int)(a k:Nat):List Int:=(List.range k).map λj=>f (a+j)
def Tr.Ql(f:Nat->Int)(a k:Nat):bU:=(Tr.BK f a k).foldl (λr n=>r.push (UInt8.ofNat n.toNat)) ByteArray.empty
theorem Tr.wi(f:Nat->Int)(a k:Nat):(Tr.BK f a k).length=k:=by simp[Tr.BK]
theorem bS.Jb(h:bS w b F)(n lo k:Nat)(hn:n<40)(hk:lo+k<=40)(ad:Addr)(had:0<k->ad=⟨b,n*62+22+lo,bu⟩):(loadCells ad k).run prog w= .ok ((Tr.BK (F.nd n).dO lo k).map (Value.int bc)).toArray w:=by
 have:=run_loadCells_list (P:=prog) w ad ((Tr.BK (F.nd n).dO lo k).map (Value.int bc)) (λj v hv=>by
  have hj:j<k:=by grind [Tr.BK,Tr.wi]
  rw[had bB];have e:(⟨b,n*62+22+lo,bu⟩:Addr).add j=⟨b,n*62+22+(lo+j),bu⟩:=by
   unfold Addr.add;split
   .simp_all
   .simp_all;omega
  rw[e,h.Vz n (lo+j) hn bB,<-hv];simp[Tr.BK,hj])
 rw[List.length_map,Tr.wi]at this;exact this
section
variable {ops:Array Oper}{rest:List Oper}{x:Oper}{a:Act}{w:bD}{Q:Exit->Act->bD->Prop}
theorem ye(hgd:x.guard=bu)(y:Operand)(hop:x.op=Op.convert 316 9 y)
  (ad:Addr) (k c:Nat) (hd:a.eval y=aj (bj ad) k c) (ns:List Int) (hl:(loadCells ad k).run prog w= .ok (ns.map (Value.int bc)).toArray w)
  (h:wpList prog ops Q rest (a.put x.dst (ak (ns.foldl (λr n=>r.push (UInt8.ofNat n.toNat)) ByteArray.empty))) w):wpList prog ops Q (x::rest) a w:=
 wpList_plain hgd λ_ hK=>by
  have hrun:=(run_convert_bytes_string (P:=prog) w 316 9 5 (bj ad) k c bC bC bC).trans (run_bytesToString w ad k c ns hl);unfold Oper.wp;simp[execOp,hop,hd,hrun,Result.andThen];exact hK _ _ h
end
def Tr.eN(F:Fo)(z a m:Int):Int:=if Tr.cN F z 1≠0 then Tr.cN F z 1 else if a<0\/m<0 then 1 else 0
def Tr.jH(F:Fo)(z a m:Int):bU:=
 if Tr.eN F z a m=0 then Tr.Ql (F.nd z.toNat).dO (min a.toNat (F.nd z.toNat).size) (min m.toNat ((F.nd z.toNat).size-min a.toNat (F.nd z.toNat).size))else ByteArray.empty
theorem Ms(b:Nat)(z a m:Int)(F:Fo)(w:bD)(h:bS w b F)(hs:Tr.ud F):
  Calls prog 246 #[ai (bj ⟨b,0,bu⟩),aa az z,aa az a,aa az m] w λe w'=>e=bf (ao #[ak (Tr.jH F z a m),bN (Tr.eN F z a m)])/\bS w' b F/\Below w.heap.size w w':=by
 have HF:=hJ h;by_cases c:Tr.cN F z 1=0
 .obtain⟨n,rfl,n40,_,k1⟩:=Tr.fD c;have EP:Hid (Tr.cN F (n:Int) 1=0/\fC b (n:Int) 0=ai (bj ⟨b,n*62,bu⟩)):=hJ ⟨c,gL b n⟩;have EW:Tr.eN F (n:Int) a m=if a<0\/m<0 then 1 else 0:=by unfold Tr.eN;rw[aI (λd=>d c)]
  have z40:=hs n n40 k1;by_cases a0:a<0\/m<0
  .have FIN:Hid (Tr.eN F (n:Int) a m=1/\Tr.jH F (n:Int) a m=⟨#[]⟩):=hJ (by
    have e:Tr.eN F (n:Int) a m=1:=by rw[EW,aJ a0]
    exact⟨e,by unfold Tr.jH;rw[e,nJ];rfl⟩)
   by_cases a1:a<0
   .clear a0;go_in
    go_wp2_with fail
    refine sC (iQ b n F _ HF.v) ?_;rintro w1 hw1;subst w1;rw[EP.1,EP.2,bF];go_wp2
    go_ret2
    rw[FIN.1,FIN.2];exact⟨rfl,HF.v,aQ _ _⟩
   .have a2:m<0:=bB
    go_in
    go_wp2_with fail
    refine sC (iQ b n F _ HF.v) ?_;rintro w1 hw1;subst w1;rw[EP.1,EP.2,bF];go_wp2
    go_ret2
    rw[FIN.1,FIN.2];exact⟨rfl,HF.v,aQ _ _⟩
  .have EZ:Tr.eN F (n:Int) a m=0:=by rw[EW,aI a0]
   obtain⟨p,rfl⟩:∃p:Nat,a=p:=⟨a.toNat,bB⟩;obtain⟨q,rfl⟩:∃q:Nat,m=q:=⟨m.toNat,bB⟩;have c3:=h.nT n n40;obtain⟨sz,hsz⟩:=hU ((F.nd n).size);have EF:Hid (Tr.eN F (n:Int) (p:Int) (q:Int)=0/\Tr.jH F (n:Int) (p:Int) (q:Int)=Tr.Ql (F.nd n).dO (min p sz) (min q (sz-min p sz))):=hJ ⟨EZ,by unfold Tr.jH;rw[aJ EZ,hZ,hZ,hZ,hsz]⟩;rw[hsz]at c3 z40;have zI:(sz:Int)<=40:=bB
   obtain⟨lo,hlo⟩:=hU (min p sz);have mn:min (p:Int) (sz:Int)=(lo:Int):=bB
   have lz:lo<=sz:=bB
   have lzI:(lo:Int)<=(sz:Int):=bB
   have mn2:(if(p:Int)<(sz:Int)then(p:Int)else(sz:Int))=(lo:Int):=by split<;>omega
   obtain⟨k,hk⟩:=hU (min q (sz-lo));have mk:min (q:Int) ((sz-lo:Nat):Int)=(k:Int):=bB
   have k1':k<=sz-lo:=bB
   have k2':k<=40-lo:=bB
   have k3':(k:Int)<=((40-lo:Nat):Int):=bB
   have k4':(k:Int)<=((sz-lo:Nat):Int):=bB
   rw[hlo,hk]at EF;have LD:Hid (∀nq,(loadCells (if 40=lo then(⟨b,n*62+22,bu⟩:Addr)else⟨b,n*62+22+lo,bu⟩) k).run prog (w.drewN nq)= .ok ((Tr.BK (F.nd n).dO lo k).map (Value.int bc)).toArray (w.drewN nq)):=hJ (λnq=>(h.drewN nq).Jb n lo k n40 bB _ (λh0=>nJ));have BB:Hid (∀nq,Below w.heap.size w (w.drewN nq)):=hJ (λnq=>by
    have:=aQ w.heap.size w;exact⟨this.os,this.tape,this.output,this.size,this.block⟩)
   go_in
   go_wp2_with fail
   refine sC (iQ b n F _ HF.v) ?_;rintro w1 hw1;subst w1;rw[EP.1,EP.2,bF];go_wp2_with fail
   go_quiet (fail)
   revert LD;generalize (if 40=lo then(⟨b,n*62+22,bu⟩:Addr)else⟨b,n*62+22+lo,bu⟩)=ad;intro LD;go_wp2_with (refine ye rfl _ rfl ad k _ rfl _ (LD.v _) ?_)
   go_ret2
   rw[EF.1,EF.2];exact⟨rfl,HF.drewN _,BB.v _⟩
 .have E2:Hid (fC b z (Tr.cN F z 1)=ai bu/\bN (Tr.cN F z 1)=aq 100 (aa az (Tr.cN F z 1))/\Tr.eN F z a m=Tr.cN F z 1/\Tr.jH F z a m=⟨#[]⟩):=hJ (by
   have e:Tr.eN F z a m=Tr.cN F z 1:=aJ c;exact⟨ij c,bH c,e,by unfold Tr.jH;rw[e,aI c];rfl⟩)
  go_in
  go_wp2_with fail
  refine sC (iQ b z F _ HF.v) ?_;rintro w1 hw;subst w1;rw[E2.1,E2.2.1];go_wp2
  go_ret2
  rw[E2.2.2.1,E2.2.2.2,E2.2.1];exact⟨rfl,HF.v,aQ _ _⟩
open Go.Sort
def zn(L:List bU):List Value:=L.map ak
structure SO (w:bD)(L:List bU)(v:Value)(wr:bD):Prop where
 cU:RowKit.Below w.heap.size w wr
 own:wr.ownsRow w.heap.size 9 1 v L.length (zn L)
 nil:L=[]->v=aj bu 0 0
theorem SO.start(w:bD):SO w [] (aj bu 0 0) w:=⟨aQ _ _,World.ownsRow_nil _ _ _ _,λ_=>rfl⟩
theorem SO.form{wr:bD}{L:List bU}(h:SO w L v wr):∃a c,v=aj a L.length c:=by
 rcases h.own.2 with⟨e,e2⟩|⟨g,cap,_,e,_⟩
 .exact⟨bu,0,by rw[e,e2]⟩
 .exact⟨_,cap,e⟩
theorem SO.below{wr:bD}{L:List bU}(h:SO w L v wr)(b:RowKit.Below wr.heap.size wr w1):SO w L v w1:=
 ⟨h.cU.trans (b.mono h.cU.size),h.own.kept (row:=bu) ⟨b.os,b.tape,b.output,b.size,λk hk _=>b.block k hk⟩ (Classical.em _),h.nil⟩
theorem SO.more{wr:bD}{L:List bU}{gg cap N:Nat}{l:Value}(h:SO w L l wr)(x:bU)(hN:L.length=N)(hl:w1.ownsRow w.heap.size 9 1 (aj (bj ⟨gg,0,bu⟩) (N+1) cap) (N+1) (zn L++[ak x]))(o:Obj)(hg:(wr.alloc o).grownBy w1 l.ownBlock):
  SO w (L++[x]) (aj (bj ⟨gg,0,bu⟩) (N+1) cap) w1:=by
 have hs:=h.cU.size;refine⟨(h.cU.alloc hs o).grown hg (by simp;omega) (λk e=>(h.own.lt k e).1),?_,λe=>by simp at e⟩;grind [zn]
theorem TV:∃i,prog.info? 9=bj i/\i.zero=bj (ak ⟨#[]⟩)/\i.size=1/\i.bytes=16:=⟨(prog.info? 9).get bC,by kernel_rfl,by kernel_rfl,by kernel_rfl,by kernel_rfl⟩
def Tr.tV(x:Nd)(j:Nat):List bU:=(List.range j).map x.eJ
theorem Tr.sB(x:Nd)(j:Nat):(Tr.tV x j).length=j:=by simp[Tr.tV]
theorem Tr.O3(x:Nd)(j:Nat):Tr.tV x (j+1)=Tr.tV x j++[x.eJ j]:=by simp[Tr.tV,List.range_succ]
def rY(L:List bU):List bU:=((L.map λs=>s.data.toList).mergeSort λx y=>decide (x<=y)).map λl=>⟨l.toArray⟩
theorem qP(L:List bU):(rY L).length=L.length:=by simp[rY]
theorem Mh(w w1:bD)(L:List bU)(v:Value)(h:SO w L v w1)(hl:L.length<100):
  Calls prog 265 #[v] w1 λe w'=>e=bf (ao #[])/\SO w (rY L) v w':=by
 by_cases h0:L.length=0
 .obtain rfl:=List.eq_nil_of_length_eq_zero h0;rw[h.nil rfl];refine(Tryz.slices_Sort_string_none bu 0 w1).mono ?_;rintro e w' ⟨rfl,hw⟩;subst w';exact⟨rfl,by rw[<-h.nil rfl,show rY []=[]by simp[rY]];exact h⟩
 .obtain⟨g,cap,hv,hb,hg⟩:=h.own.form bB;subst hv;have hat:∀(M:List bU) (j:Nat),(zn M)[j]? =((M.map λs=>s.data.toList)[j]?).map encStr:=λM j=>by
   simp only[zn,List.getElem?_map];cases M[j]? <;>simp[encStr]
  have hH:Holds encStr w1 g 0 (L.map λs=>s.data.toList).toArray:=λj hj=>by
   have hj':j<L.length:=by simpa using hj
   rw[Nat.zero_add];refine⟨?_,h.own.frozenAt j⟩;rw[h.own.cellAt j bB,hat,aW (by simpa using hj'),Option.map_some,getElem!_pos _ j hj];simp
  have hS:=Tryz.slices_Sort_string g 0 cap (L.map λs=>s.data.toList) w1 hH hg (by simp;omega);rw[List.length_map]at hS;refine hS.mono ?_;rintro e w' ⟨rfl,n,os,rfl⟩;refine⟨rfl,?_⟩;obtain⟨D,hD⟩:=hU (((L.map λs=>s.data.toList).mergeSort λx y=>decide (x<=y)));have hDl:D.length=L.length:=by rw[<-hD];simp
  have hsr:rY L=D.map λl=>⟨l.toArray⟩:=by unfold rY;rw[hD]
  rw[hD];have hgr:w1.grownBy (grow (putRow encStr (Sort.ahead w1 n) g 0 D.toArray) os) (bj g):=by
   refine⟨rfl,rfl,rfl,?_,λk hk hne=>?_⟩
   .unfold Sort.grow Sort.putRow Sort.mapBlock Sort.ahead;simp
   .unfold Sort.grow Sort.putRow Sort.mapBlock Sort.ahead;rw[Array.getElem?_append_left (by simpa using hk),Array.getElem?_modify,aI (λe=>hne (by rw[e]))]
  have hbl:∀k,(bj g:Option Nat)=bj k->w.heap.size<=k:=λk e=>by injection e with e;omega
  refine⟨h.cU.grown hgr h.cU.size hbl,?_,λe=>by
   have:=qP L;rw[e]at this;simp at this;omega⟩
  rcases h.own.2 with⟨hv,_⟩|⟨g',cap',cur,hv,hb',hgg,hnc,hcm,hcs,htake⟩
  .cases hv
  .simp only[Value.slice.injEq,Option.some.injEq,Addr.mk.injEq,and_true,true_and]at hv;obtain⟨rfl,rfl⟩:=hv;have hheap:(grow (putRow encStr (Sort.ahead w1 n) g 0 D.toArray) os).heap[g]? =bj (bh (putCells encStr 0 D.toArray cur) 9 (0,0)):=by
    rw[heap_grow_old _ _ (by simpa[putRow,mapBlock,Sort.ahead]using hg)];simp[putRow,mapBlock,Sort.ahead,Array.getElem?_modify,hgg,onCells]
   rw[qP];refine⟨by simp[zn,qP], .inr ⟨g,cap,_,rfl,hb,hheap,hnc,hcm,by simpa[putCells]using hcs,?_⟩⟩;apply List.ext_getElem?;intro t;by_cases ht:t<L.length
   .have hc:t<cur.size:=by rw[hcs];omega
    unfold putCells;grind
   .rw[List.getElem?_eq_none (by rw[List.length_take];omega),List.getElem?_eq_none (by simp[zn,qP];omega)]
def Tr.rS(F:Fo)(z:Int):List bU:=if Tr.cN F z 2=0 then rY (Tr.tV (F.nd z.toNat) (F.nd z.toNat).size)else[]
theorem Mm(b:Nat)(z:Int)(F:Fo)(w:bD)(h:bS w b F)(hs:Tr.kY F):
  Calls prog 213 #[ai (bj ⟨b,0,bu⟩),aa az z] w λe w'=>∃v,e=bf (ao #[v,bN (Tr.cN F z 2)])/\SO w (Tr.rS F z) v w':=by
 have HF:=hJ h;by_cases c:Tr.cN F z 2=0
 .obtain⟨n,rfl,n40,_,k2⟩:=Tr.fD c;have hm8:=hs n n40 k2;have EP:Hid (Tr.cN F (n:Int) 2=0/\fC b (n:Int) 0=ai (bj ⟨b,n*62,bu⟩)/\Tr.rS F (n:Int)=rY (Tr.tV (F.nd n) (F.nd n).size)):=hJ ⟨c,gL b n,by unfold Tr.rS;rw[aJ c,hZ]⟩;have HM8:=hJ hm8;obtain⟨i0,hi0,hz0,hz1,hz2⟩:=TV;clear h c hs k2;go_in
  go_wp2_with fail
  refine sC (lU b n F _ HF.v) ?_;rintro w1 hw1;subst w1;rw[EP.1,EP.2.1,bF];go_wp2_with fail
  refine sC (qR b n F _ HF.v n40 HM8.v) ?_;rintro w1 ⟨kd,hw1⟩;have S0:Hid (SO w [] (aj bu 0 0) w1):=hJ (by
   have:=aQ w.heap.size w;rw[hw1];exact(SO.start w).below ⟨this.os,this.tape,this.output,this.size,this.block⟩)
  clear hw1;obtain⟨sz,hsz⟩:=hU ((F.nd n).size);have HSZ:=hJ hsz;rw[hsz]at hm8|-;clear hsz;go_wp2_with fail
  go_loopw [8,10,23] (λv x i wr=>∃(j:Nat),i=aa az j/\j<=sz/\Hid (SO w (Tr.tV (F.nd n) j) v wr)) (λ_ _ i _=>sz-(intOf i).toNat)
  case atStart=>exact⟨0,rfl,bB,S0⟩
  case round=>
   obtain⟨j,rfl,hj,R⟩:=hrel;by_cases hlt:j<sz
   .have hltI:(j:Int)<(sz:Int):=bB
    have hb:=HF.below R.cU;have c0:=hb.xk n j n40 bB;have c1:=hb.ux n j n40 bB;have SE:=hJ (Tr.O3 (F.nd n) j);obtain⟨nm,hnm⟩:=hU ((F.nd n).eJ j);rw[hnm]at c0 SE;generalize (F.nd n).cY j=kk at c1;clear hb hnm;go_upto_region 8 with fail
    refine cJ (λW=>SO w (Tr.tV (F.nd n) j) u8 W/\W.cell? ⟨wr.heap.size,0,bu⟩=bj (ak nm)) ⟨R.below ((aQ _ _).alloc (aL _) _),by rw[bR (heap_alloc_new wr _)];rfl⟩ ?_;intro W1 h1;have S1:=hJ h1.1;have c2:=h1.2;clear h1 R c0 c1;obtain⟨va,vc,hv⟩:=S1.form;rw[Tr.sB]at hv;subst hv;go_wp2_with (at_builtin;refine wpList_append_lies _ rfl _ _ 152 (by rfl) w.heap.size 9 i0 (ak ⟨#[]⟩) 1 16 Tryz.underlying152 hi0 hz0 hz1 hz2 rfl bE (aj va j vc) j (zn (Tr.tV (F.nd n) j)) (by rfl) (by have:=S1.own;rw[Tr.sB]at this;exact this.alloc _) ⟨W1.heap.size,0,bu⟩ 1 1 [ak nm] (by rfl) rfl (World.news_of_block (heap_alloc_new W1 _)) (by simp[Value.oneCell']) bE (by unfold maxLen;omega) bB (by have:=S1.cU.size;simp;omega) (W1.heap.size+1) (by simp) ?_;intro gg cap2 w2 hown hgrow hat hlt2;have Q1:Hid (SO w (Tr.tV (F.nd n) j++[nm]) (aj (bj ⟨gg,0,bu⟩) (j+1) cap2) w2):=hJ (S1.more nm (Tr.sB _ _) hown _ hgrow);clear hown hgrow hat hlt2)
    go_roundw
    case rel=>exact⟨j+1,by go_num,bB,by rw[SE.v];exact Q1⟩
    case measure=>simp[intOf];omega
   .have hltI:¬(j:Int)<(sz:Int):=bB
    obtain rfl:j=sz:=bB
    have hln:=Tr.sB (F.nd n) j;go_wp2_with fail
    refine sC (Mh w _ _ _ R.v bB) ?_;rintro w2 h2;have FIN:Hid (SO w (Tr.rS F (n:Int)) u8 w2):=hJ (by rw[EP.2.2,HSZ.v];exact h2);clear h2;go_wp2
    go_ret2
    rw[EP.1];exact⟨_,rfl,FIN.v⟩
 .have E2:Hid (fC b z (Tr.cN F z 2)=ai bu/\bN (Tr.cN F z 2)=aq 100 (aa az (Tr.cN F z 2))/\Tr.rS F z=[]):=hJ ⟨ij c,bH c,aI c⟩;clear h c hs;go_in
  go_wp2_with fail
  refine sC (lU b z F _ HF.v) ?_;rintro w1 hw;subst w1;rw[E2.1,E2.2.1];go_wp2
  go_ret2
  rw[E2.2.1,E2.2.2];exact⟨_,rfl,SO.start w⟩
theorem Ug:∀(k m:Nat) (f:Nat->Nat),(∀i,i<m->f i<k)->(∀i j,i<j->j<m->f i≠f j)->m<=k
 |0,m,f,h,_=>by
  rcases Nat.eq_zero_or_pos m with h0|h0
  .omega
  .exact aZ (h 0 h0) bB
 |k+1,m,f,h,hi=>by
  by_cases c:∃i,i<m/\f i=k
  .obtain⟨a,ha,hk⟩:=c;have:=Ug k (m-1) (λi=>if i<a then f i else f (i+1)) (λi hm=>by
    split
    .have h1:=h i bB;have h2:=hi i a bB ha;omega
    .have h1:=h (i+1) bB;have h2:=hi a (i+1) bB bB;omega) (λi j hij hj=>by
    by_cases c1:i<a
    .grind
    .rw[aI c1,nJ];exact hi (i+1) (j+1) bB bB)
   omega
  .have:=Ug k m f (λi hm=>by
    have h1:=h i hm;have h2:f i≠k:=λe=>c ⟨i,hm,e⟩;omega) hi
   omega
def Tr.gD(F:Fo)(n:Nat):Nat->Nat
 |0=>n
 |k+1=>(F.nd (Tr.gD F n k)).up
theorem Tr.nO(F:Fo)(n:Nat):∀k,Tr.gD F (F.nd n).up k=Tr.gD F n (k+1)
 |0=>rfl
 |k+1=>by show(F.nd (Tr.gD F (F.nd n).up k)).up=_;rw[Tr.nO F n k];rfl
theorem Tr.AU(F:Fo)(n i:Nat):∀k,Tr.gD F (Tr.gD F n i) k=Tr.gD F n (i+k)
 |0=>rfl
 |k+1=>by show(F.nd (Tr.gD F (Tr.gD F n i) k)).up=_;rw[Tr.AU F n i k];rfl
theorem Tr.dB.first{F:Fo}:∀{m n:Nat},Tr.dB F m n->∃e,(∀j,j<=e->Tr.gD F n j<40)/\(F.nd (Tr.gD F n e)).up=Tr.gD F n e/\∀j,j<e->(F.nd (Tr.gD F n j)).up≠Tr.gD F n j
 |0,n,h=>⟨0,λj hj=>by obtain rfl:j=0:=bB;exact h.1,h.2,λj hj=>bB⟩
 |m+1,n,h=>by
  by_cases c:(F.nd n).up=n
  .exact⟨0,λj hj=>by obtain rfl:j=0:=bB;exact h.1,c,λj hj=>bB⟩
  .rcases h.2 with h2|h2
   .exact aZ h2 c
   .obtain⟨e,h3,h4,h5⟩:=h2.first;refine⟨e+1,λj hj=>?_,?_,λj hj=>?_⟩
    .cases j with
     |zero=>exact h.1
     |succ j=>rw[<-Tr.nO];exact h3 j bB
    .rw[<-Tr.nO];exact h4
    .cases j with
     |zero=>exact c
     |succ j=>rw[<-Tr.nO];exact h5 j bB
theorem Tr.dB.Vw{F:Fo}:∀{e n:Nat},(∀j,j<=e->Tr.gD F n j<40)->(F.nd (Tr.gD F n e)).up=Tr.gD F n e->Tr.dB F e n
 |0,_,h1,h2=>⟨h1 0 bB,h2⟩
 |e+1,n,h1,h2=>⟨h1 0 bB, .inr (Tr.dB.Vw (λj hj=>by rw[Tr.nO];exact h1 (j+1) bB) (by rw[Tr.nO];exact h2))⟩
theorem Tr.dB.mono{F:Fo}{n m:Nat}(h:Tr.dB F m n):∀k,Tr.dB F (m+k) n
 |0=>h
 |k+1=>(Tr.dB.mono h k).more.1
theorem Tr.dB.Iz(h:Tr.dB F m n):Tr.dB F 40 n:=by
 obtain⟨e,h1,h2,h3⟩:=h.first;have he:e+1<=40:=Ug 40 (e+1) (Tr.gD F n) (λi hi=>h1 i bB) (λi j hij hj eq=>by
  have a:Tr.gD F n (i+(e-j))=Tr.gD F n e:=by
   rw[<-Tr.AU,eq,Tr.AU,show j+(e-j)=e by omega]
  exact h3 (i+(e-j)) bB (by rw[a,h2]))
 have:=(Tr.dB.Vw h1 h2).mono (40-e);grind
def Tr.Nodup(x:Nd):Prop:=∀i j,i<j->j<x.size->(x.eJ i).toList≠(x.eJ j).toList
theorem Tr.Nodup.ne(h:Tr.Nodup x)(hi:i<x.size)(hj:j<x.size)(c:i≠j):(x.eJ i).toList≠(x.eJ j).toList:=by grind [Tr.Nodup]
theorem Tr.rz(x:Nd)(i:Nat):(Tr.eZ x i).size=x.size-1:=rfl
theorem Tr.xq(hj:j<x.size-1):(Tr.eZ x i).eJ j=if j=i then x.eJ (x.size-1)else x.eJ j:=by
 show iu (iu x.eJ i _) (x.size-1) _ j=_;rw[vC _ _ _ _ bB];rfl
theorem Tr.qC(hj:j<x.size-1):(Tr.eZ x i).cY j=if j=i then x.cY (x.size-1)else x.cY j:=by
 show iu (iu x.cY i _) (x.size-1) _ j=_;rw[vC _ _ _ _ bB];rfl
theorem Tr.N4(hi:i<x.size)(hj:j<x.size-1):∃q,q<x.size/\q≠i/\(Tr.eZ x i).eJ j=x.eJ q/\(Tr.eZ x i).cY j=x.cY q:=by
 by_cases c:j=i
 .refine⟨x.size-1,bB,bB,?_,?_⟩
  .rw[Tr.xq hj,aJ c]
  .rw[Tr.qC hj,aJ c]
 .refine⟨j,bB,c,?_,?_⟩
  .rw[Tr.xq hj,aI c]
  .rw[Tr.qC hj,aI c]
theorem Tr.Nodup.eZ{x:Nd}(h:Tr.Nodup x){i:Nat}(hi:i<x.size):Tr.Nodup (Tr.eZ x i):=by grind [Tr.Nodup,Tr.eZ,Tr.rz,Tr.xq]
theorem Tr.vT(hj:j<x.size):(Tr.jc x s k).eJ j=x.eJ j/\(Tr.jc x s k).cY j=x.cY j:=⟨vC _ _ _ _ bB,vC _ _ _ _ bB⟩
theorem Tr.sU(x:Nd)(s:bU)(k:Nat):(Tr.jc x s k).eJ x.size=s/\(Tr.jc x s k).cY x.size=k:=⟨qT _ _ _,qT _ _ _⟩
theorem Tr.qp(x:Nd)(s:bU)(k:Nat):(Tr.jc x s k).size=x.size+1:=rfl
theorem Tr.fJ.no(h:Tr.fJ x s (-1)):∀j,j<x.size->(x.eJ j).toList≠s.toList:=by
 rcases h with⟨j,e,_⟩|⟨_,h⟩
 .omega
 .exact h
theorem Tr.Nodup.jc{x:Nd}{s:bU}{k:Nat}(h:Tr.Nodup x)(hp:Tr.fJ x s (-1)):Tr.Nodup (Tr.jc x s k):=by grind [Tr.Nodup,Tr.fJ,Tr.jc,Tr.qp,Tr.vT,Tr.sU]
def gy(f:Nat->Nat):Nat->Nat
 |0=>0
 |n+1=>gy f n+f n
theorem ob{f g:Nat->Nat}:∀{n:Nat},(∀i,i<n->f i=g i)->gy f n=gy g n
 |0,_=>rfl
 |n+1,h=>by show gy f n+f n=gy g n+g n;rw[ob (λi hi=>h i bB),h n bB]
theorem wB{f:Nat->Nat}:∀{n i:Nat},i<n->f i<=gy f n
 |n+1,i,h=>by
  show f i<=gy f n+f n;by_cases c:i=n
  .subst c;omega
  .have:=wB (f:=f) (n:=n) (i:=i) bB;omega
theorem xT{f:Nat->Nat}:∀{n:Nat},0<gy f n->∃i,i<n/\0<f i
 |0,h=>aZ h (bV 0)
 |n+1,h=>by
  by_cases c:0<f n
  .exact⟨n,bB,c⟩
  .have h':0<gy f n+f n:=h;obtain⟨i,h1,h2⟩:=xT (f:=f) (n:=n) bB;exact⟨i,bB,h2⟩
theorem vk{f:Nat->Nat}(h:∀i,i<n->f i=0):gy f n=0:=by grind [gy,xT]
theorem xS{f g:Nat->Nat}{p:Nat}:∀{n:Nat},p<n->(∀i,i<n->i≠p->f i=g i)->gy f n+g p=gy g n+f p
 |n+1,hp,h=>by
  show gy f n+f n+g p=gy g n+g n+f p;by_cases c:p=n
  .grind [gy,ob]
  .have:=xS (f:=f) (g:=g) (p:=p) (n:=n) bB (λi hi hne=>h i bB hne);rw[h n bB bB];omega
def fO(a b:Nat):Nat:=if a=b then 1 else 0
theorem iL(a:Nat):fO a a=1:=aJ rfl
theorem mj{a:Nat}(h:a≠b):fO a b=0:=aI h
def Tr.gX(x:Nd)(n:Nat):Nat:=if x.kind=2 then gy (λi=>fO (x.cY i) n) x.size else 0
def Tr.pR(F:Fo)(n:Nat):Nat:=gy (λt=>fO (F.root t) n) F.trees
def Tr.cW(F:Fo)(n:Nat):Nat:=gy (λm=>Tr.gX (F.nd m) n) 40+Tr.pR F n
theorem Tr.Ab(n:Nat)(h:x.kind≠2):Tr.gX x n=0:=aI h
theorem Tr.Q4(s:bU)(k n:Nat)(h:x.kind=2):Tr.gX (Tr.jc x s k) n=Tr.gX x n+fO k n:=by
 unfold Tr.gX;rw[aJ h,aJ (show(Tr.jc x s k).kind=2 from h),Tr.qp];show gy (λi=>fO ((Tr.jc x s k).cY i) n) x.size+fO ((Tr.jc x s k).cY x.size) n=_;rw[(Tr.sU x s k).2,ob (λi hi=>by rw[(Tr.vT hi).2])]
theorem Tr.NF(n:Nat)(h:x.kind=2)(hi:i<x.size):Tr.gX (Tr.eZ x i) n+fO (x.cY i) n=Tr.gX x n:=by
 unfold Tr.gX;rw[aJ h,aJ (show(Tr.eZ x i).kind=2 from h),Tr.rz];obtain⟨l,hl⟩:∃l,x.size=l+1:=⟨x.size-1,bB⟩;rw[hl,show l+1-1=l by omega];show gy (λj=>fO ((Tr.eZ x i).cY j) n) l+fO (x.cY i) n=gy (λj=>fO (x.cY j) n) l+fO (x.cY l) n;by_cases c:i=l
 .subst c;rw[ob (λj hj=>by rw[Tr.qC bB,nJ])]
 .have a:=xS (f:=λj=>fO ((Tr.eZ x i).cY j) n) (g:=λj=>fO (x.cY j) n) (p:=i) (n:=l) bB (λj hj hne=>by show fO _ n=fO _ n;rw[Tr.qC bB,aI hne]);have e:(Tr.eZ x i).cY i=x.cY l:=by rw[Tr.qC bB,aJ rfl,hl];rfl
  simp only[e]at a;omega
theorem Tr.Ad(F:Fo)(p:Nat)(x:Nd)(n:Nat)(hp:p<40):Tr.cW (F.put p x) n+Tr.gX (F.nd p) n=Tr.cW F n+Tr.gX x n:=by
 have a:=xS (f:=λm=>Tr.gX ((F.put p x).nd m) n) (g:=λm=>Tr.gX (F.nd m) n) (p:=p) (n:=40) hp (λi _ hne=>by show Tr.gX ((F.put p x).nd i) n=Tr.gX (F.nd i) n;rw[Tr.bP _ _ _ _ hne]);simp only[Tr.bM]at a;unfold Tr.cW;have r:Tr.pR (F.put p x) n=Tr.pR F n:=rfl;rw[r];omega
theorem Tr.jz(F:Fo)(p:Nat)(x:Nd)(n:Nat)(hp:p<40)(h:Tr.gX x n=Tr.gX (F.nd p) n):Tr.cW (F.put p x) n=Tr.cW F n:=by
 have:=Tr.Ad F p x n hp;omega
theorem Tr.Ac(hm:m<40)(h2:(F.nd m).kind=2)(hi:i<(F.nd m).size):1<=Tr.cW F ((F.nd m).cY i):=by
 have a:=wB (f:=λq=>Tr.gX (F.nd q) ((F.nd m).cY i)) hm;grind [wB,Tr.gX,fO,iL,gy,Tr.cW]
theorem Tr.uF(h:Tr.cW F n=0):(∀m i,m<40->(F.nd m).kind=2->i<(F.nd m).size->(F.nd m).cY i≠n)/\∀t,t<F.trees->F.root t≠n:=by grind [Tr.Ac,wB,fO,iL,Tr.pR,gy,Tr.cW]
theorem Tr.Q6(x:Nd)(n:Nat)(h:x.kind=2->x.size<=8):Tr.gX x n<=8:=by
 unfold Tr.gX;split
 .rename_i c;have:∀k,gy (λi=>fO (x.cY i) n) k<=k:=λk=>by
   induction k with
   |zero=>exact aL _
   |succ k ih=>show gy _ k+fO _ n<=_;have:fO (x.cY k) n<=1:=(by unfold fO;split<;>omega);omega
  grind
 .omega
structure Tr.Ok (F:Fo):Prop where
 tr:F.trees<=4
 kd:∀n,n<40->(F.nd n).kind<=2
 sz:Tr.kY F
 fz:Tr.ud F
 nb:∀n i,n<40->(F.nd n).kind=2->i<(F.nd n).size->Tr.gd ((F.nd n).eJ i)=bw
 dp:∀n,n<40->(F.nd n).kind=2->Tr.Nodup (F.nd n)
 ki:∀n i,n<40->(F.nd n).kind=2->i<(F.nd n).size->(F.nd n).cY i<40/\(F.nd ((F.nd n).cY i)).kind≠0/\(F.nd ((F.nd n).cY i)).tree=(F.nd n).tree/\((F.nd ((F.nd n).cY i)).kind=2->(F.nd ((F.nd n).cY i)).up=n)
 rt:∀t,t<F.trees->F.root t<40/\(F.nd (F.root t)).kind=2/\(F.nd (F.root t)).up=F.root t/\(F.nd (F.root t)).tree=t
 lk:∀n,n<40->(F.nd n).kind≠0->(F.nd n).cV=Tr.cW F n
 al:∀n,n<40->(F.nd n).kind≠0->1<=(F.nd n).cV+(F.nd n).held
 dr:∀n,n<40->(F.nd n).kind=2->Tr.cW F n=1
 en:∀n,n<40->(F.nd n).kind=2->Tr.dB F 40 n
 ro:∀n,n<40->(F.nd n).kind=2->(F.nd n).up=n->∃t,t<F.trees/\F.root t=n
theorem Tr.Ok.none(h:Tr.Ok F)(k0:(F.nd k).kind=0):Tr.cW F k=0:=by
 unfold Tr.cW Tr.pR;rw[vk (λm hm=>?_),vk (λt ht=>?_)]
 .exact mj (λe=>by have:=(h.rt t ht).2.1;rw[e,k0]at this;exact aZ this bE)
 .unfold Tr.gX;split
  .rename_i c;exact vk (λi hi=>mj (λe=>by have:=(h.ki m i hm c hi).2.1;rw[e]at this;exact this k0))
  .rfl
theorem Tr.Ok.nW(h:Tr.Ok F)(n:Nat):Tr.cW F n<=324:=by
 have a:∀k,k<=40->gy (λm=>Tr.gX (F.nd m) n) k<=8*k:=λk hk=>by
  induction k with
  |zero=>exact aL _
  |succ k ih=>
   show gy _ k+Tr.gX (F.nd k) n<=_;have:=Tr.Q6 (F.nd k) n (λc=>h.sz k bB c);omega
 have b:∀k,gy (λt=>fO (F.root t) n) k<=k:=λk=>by
  induction k with
  |zero=>exact aL _
  |succ k ih=>
   show gy _ k+fO _ n<=_;have:fO (F.root k) n<=1:=by unfold fO;split<;>omega
   omega
 have c1:=a 40 (aL _);have c2:=b F.trees;have c3:=h.tr;unfold Tr.cW Tr.pR;omega
theorem Tr.Ok.DM(h:Tr.Ok F)(n:Nat)(hn:n<40)(k0:(F.nd n).kind≠0):(F.nd n).cV<=324:=by rw[h.lk n hn k0];exact h.nW n
theorem Tr.Ok.cY(h:Tr.Ok F):Tr.Hv F:=λn hn k2 i hi=>by
 obtain⟨h1,h2,_⟩:=h.ki n i hn k2 hi;have:=h.DM _ h1 h2;exact⟨h1,by rw[h.lk _ h1 h2];exact Tr.Ac hn k2 hi,bB⟩
theorem Tr.GA(n:Nat):(Tr.f0.nd n).kind=0:=rfl
theorem Tr.We:Tr.Ok Tr.f0:=by
 have n2:∀n,(Tr.f0.nd n).kind≠2:=λn=>by rw[Tr.GA];decide
 have n1:∀n,(Tr.f0.nd n).kind≠1:=λn=>by rw[Tr.GA];decide
 exact⟨aC _,λ_ _=>aC _,λ_ _ h=>aZ h (n2 _),λ_ _ h=>aZ h (n1 _),λ_ _ _ h=>aZ h (n2 _),λ_ _ h=>aZ h (n2 _),λ_ _ _ h=>aZ h (n2 _),λt ht=>aZ ht (Nat.not_lt_zero t),λ_ _ h=>aZ rfl h,λ_ _ h=>aZ rfl h,λ_ _ h=>aZ h (n2 _),λ_ _ h=>aZ h (n2 _),λ_ _ h=>aZ h (n2 _)⟩
theorem Tr.dB.congr{F G:Fo}(h:∀n,(G.nd n).up=(F.nd n).up):∀{m n:Nat},Tr.dB F m n->Tr.dB G m n
 |0,n,hh=>⟨hh.1,by rw[h n];exact hh.2⟩
 |m+1,n,hh=>⟨hh.1,by
  rw[h n];rcases hh.2 with a|a
  .exact .inl a
  .exact .inr (Tr.dB.congr h a)⟩
theorem Tr.Ok.put{F:Fo}(h:Tr.Ok F)(p:Nat)(x:Nd)(hp:p<40)(e1:x.kind=(F.nd p).kind)(e2:x.cV=(F.nd p).cV)(e3:x.tree=(F.nd p).tree)(e4:x.up=(F.nd p).up)(e5:x.kind=2->x.size=(F.nd p).size/\x.eJ=(F.nd p).eJ/\x.cY=(F.nd p).cY)(e6:x.kind=1->x.size<=40)(e7:x.kind≠0->1<=x.cV+x.held):Tr.Ok (F.put p x):=by
 have hk:∀n,((F.put p x).nd n).kind=(F.nd n).kind:=λn=>by
  by_cases c:n=p
  .subst c;rw[Tr.bM,e1]
  .rw[Tr.bP _ _ _ _ c]
 have hl:∀n,((F.put p x).nd n).cV=(F.nd n).cV:=λn=>by
  by_cases c:n=p
  .subst c;rw[Tr.bM,e2]
  .rw[Tr.bP _ _ _ _ c]
 have ht:∀n,((F.put p x).nd n).tree=(F.nd n).tree:=λn=>by
  by_cases c:n=p
  .subst c;rw[Tr.bM,e3]
  .rw[Tr.bP _ _ _ _ c]
 have hu:∀n,((F.put p x).nd n).up=(F.nd n).up:=λn=>by
  by_cases c:n=p
  .subst c;rw[Tr.bM,e4]
  .rw[Tr.bP _ _ _ _ c]
 have hd:∀n,(F.nd n).kind=2->((F.put p x).nd n).size=(F.nd n).size/\((F.put p x).nd n).eJ=(F.nd n).eJ/\((F.put p x).nd n).cY=(F.nd n).cY:=λn k2=>by
  by_cases c:n=p
  .subst c;rw[Tr.bM];exact e5 (by rw[e1];exact k2)
  .rw[Tr.bP _ _ _ _ c];exact⟨rfl,rfl,rfl⟩
 have hc:∀n,Tr.cW (F.put p x) n=Tr.cW F n:=λn=>Tr.jz F p x n hp (by
  unfold Tr.gX;by_cases c:x.kind=2
  .grind
  .rw[aI c,aI (by rw[<-e1];exact c)])
 refine⟨h.tr,λn hn=>by rw[hk];exact h.kd n hn,λn hn k2=>?_,λn hn k1=>?_,λn i hn k2 hi=>?_,λn hn k2=>?_,λn i hn k2 hi=>?_,λt htt=>?_,λn hn k0=>?_,λn hn k0=>?_,λn hn k2=>?_,λn hn k2=>?_,λn hn k2 hu2=>?_⟩
 .rw[hk]at k2;rw[(hd n k2).1];exact h.sz n hn k2
 .by_cases c:n=p
  .subst c;rw[Tr.bM]at k1|-;exact e6 k1
  .rw[Tr.bP _ _ _ _ c]at k1|-;exact h.fz n hn k1
 .rw[hk]at k2;rw[(hd n k2).1]at hi;rw[(hd n k2).2.1];exact h.nb n i hn k2 hi
 .rw[hk]at k2;unfold Tr.Nodup;rw[(hd n k2).1,(hd n k2).2.1];exact h.dp n hn k2
 .rw[hk]at k2;rw[(hd n k2).1]at hi;rw[(hd n k2).2.2,hk,ht,ht,hu];exact h.ki n i hn k2 hi
 .show F.root t<40/\_;have:=h.rt t htt;rw[hk,hu,ht];exact this
 .rw[hk]at k0;rw[hl,hc];exact h.lk n hn k0
 .by_cases c:n=p
  .subst c;rw[Tr.bM]at k0|-;exact e7 k0
  .rw[Tr.bP _ _ _ _ c]at k0|-;exact h.al n hn k0
 .rw[hk]at k2;rw[hc];exact h.dr n hn k2
 .rw[hk]at k2;exact(h.en n hn k2).congr hu
 .rw[hk]at k2;rw[hu]at hu2;exact h.ro n hn k2 hu2
theorem Tr.Ok.Ca(h:Tr.Ok F)(z a:Int)(s:bU):Tr.Ok (Tr.eY F z a s):=by
 unfold Tr.eY;split
 .rename_i c;have c1:Tr.cN F z 1=0:=by
   rcases Classical.em (Tr.cN F z 1=0)with d|d
   .exact d
   .have:=c.1;unfold Tr.dR at this;rw[aJ d]at this;exact this
  obtain⟨n,rfl,n40,_,k1⟩:=Tr.fD c1;have cw:=c.1;unfold Tr.dR at cw;refine h.put n _ n40 rfl rfl rfl rfl (λk2=>aZ ((show(F.nd n).kind=2 from k2).symm.trans k1) bE) (λ_=>?_) (λk0=>h.al n n40 k0);show max (F.nd n).size (a.toNat+s.size)<=40;have:=h.fz n n40 k1;grind
 .exact h
theorem Tr.Qy(ki:∀n i,n<40->(F.nd n).kind=2->i<(F.nd n).size->(F.nd n).cY i<40/\(F.nd ((F.nd n).cY i)).kind≠0/\(F.nd ((F.nd n).cY i)).tree=(F.nd n).tree/\((F.nd ((F.nd n).cY i)).kind=2->(F.nd ((F.nd n).cY i)).up=n))(k2:(F.nd m).kind=2)(hc:1<=Tr.cW F m):
 (∃t,t<F.trees/\F.root t=m)\/∃i,(F.nd m).up<40/\(F.nd (F.nd m).up).kind=2/\i<(F.nd (F.nd m).up).size/\(F.nd (F.nd m).up).cY i=m:=by grind [Tr.pR,xT,fO,Tr.cW,Tr.gX]
theorem Tr.dB.on{F G:Fo}(P:Nat->Prop)(h:∀n,P n->(G.nd n).up=(F.nd n).up/\P (F.nd n).up):∀{m n:Nat},P n->Tr.dB F m n->Tr.dB G m n
 |0,n,hp,hh=>⟨hh.1,by rw[(h n hp).1];exact hh.2⟩
 |m+1,n,hp,hh=>⟨hh.1,by
  rw[(h n hp).1];rcases hh.2 with a|a
  .exact .inl a
  .exact .inr (Tr.dB.on P h (h n hp).2 a)⟩
structure Tr.JQ (F:Fo)(k:Nat):Prop where
 tr:F.trees<=4
 kd:∀n,n<40->(F.nd n).kind<=2
 sz:Tr.kY F
 fz:Tr.ud F
 nb:∀n i,n<40->(F.nd n).kind=2->i<(F.nd n).size->Tr.gd ((F.nd n).eJ i)=bw
 dp:∀n,n<40->(F.nd n).kind=2->Tr.Nodup (F.nd n)
 ki:∀n i,n<40->(F.nd n).kind=2->i<(F.nd n).size->(F.nd n).cY i<40/\(F.nd ((F.nd n).cY i)).kind≠0/\(F.nd ((F.nd n).cY i)).tree=(F.nd n).tree/\((F.nd ((F.nd n).cY i)).kind=2->(F.nd ((F.nd n).cY i)).up=n)
 rt:∀t,t<F.trees->F.root t<40/\(F.nd (F.root t)).kind=2/\(F.nd (F.root t)).up=F.root t/\(F.nd (F.root t)).tree=t
 lk:∀n,n<40->(F.nd n).kind≠0->(F.nd n).cV=Tr.cW F n+fO k n
 al:∀n,n<40->(F.nd n).kind≠0->1<=(F.nd n).cV+(F.nd n).held
 dr:∀n,n<40->(F.nd n).kind=2->Tr.cW F n+fO k n=1
 en:∀n,n<40->(F.nd n).kind=2->n≠k->Tr.dB F 40 n
 ro:∀n,n<40->(F.nd n).kind=2->n≠k->(F.nd n).up=n->∃t,t<F.trees/\F.root t=n
theorem Tr.OB(nk:n≠k):Tr.lr F n s k=(F.put n (Tr.jc (F.nd n) s k)).put k (if(F.nd k).kind=2 then{F.nd k with up:=n}else F.nd k):=by
 have e:(F.put n (Tr.jc (F.nd n) s k)).nd k=F.nd k:=Tr.bP _ _ _ _ (bQ nk);unfold Tr.lr;rw[e];split
 .rfl
 .rw[show(F.put n (Tr.jc (F.nd n) s k)).put k (F.nd k)=(F.put n (Tr.jc (F.nd n) s k)).put k ((F.put n (Tr.jc (F.nd n) s k)).nd k)by rw[e],Tr.Ec]
theorem Tr.dB.Co{F G:Fo}{k:Nat}(h:∀x,x≠k->(G.nd x).up=(F.nd x).up):∀{m x:Nat},Tr.dB F m x->Tr.gR F k m x=bA->Tr.dB G m x
 |0,x,hh,hb=>by
  have c:x≠k:=λe=>by subst e;rw[Tr.rk]at hb;exact aZ hb bE
  exact⟨hh.1,by rw[h x c];exact hh.2⟩
 |m+1,x,hh,hb=>by
  have c:x≠k:=λe=>by subst e;rw[Tr.rk]at hb;exact aZ hb bE
  refine⟨hh.1,?_⟩;rw[h x c];by_cases d:(F.nd x).up=x
  .exact .inl d
  .rcases hh.2 with a|a
   .exact aZ a d
   .refine .inr (Tr.dB.Co h a ?_);have hb':(x==k||(!((F.nd x).up==x)&&Tr.gR F k m (F.nd x).up))=bA:=hb;grind
theorem Tr.dB.kP{F G:Fo}{k t j:Nat}(h:∀x,x≠k->(G.nd x).up=(F.nd x).up)(hk:k<40)(hg:(G.nd k).up=t)(ht:Tr.dB G j t):∀{m x:Nat},Tr.dB F m x->∃m',Tr.dB G m' x
 |0,x,hh=>by
  by_cases c:x=k
  .subst c;exact⟨j+1,hk, .inr (by rw[hg];exact ht)⟩
  .exact⟨0,hh.1,by rw[h x c];exact hh.2⟩
 |m+1,x,hh=>by
  by_cases c:x=k
  .subst c;exact⟨j+1,hk, .inr (by rw[hg];exact ht)⟩
  .rcases hh.2 with a|a
   .exact⟨0,hh.1,by rw[h x c];exact a⟩
   .obtain⟨m',h'⟩:=Tr.dB.kP h hk hg ht a;exact⟨m'+1,hh.1, .inr (by rw[h x c];exact h')⟩
theorem Tr.JQ.lead(h:Tr.JQ F k)(hn:n<40)(hk:k<40)(nk:n≠k)(n2:(F.nd n).kind=2)(k0:(F.nd k).kind≠0)(h8:(F.nd n).size<8)(hs:Tr.gd s=bw)(hp:Tr.fJ (F.nd n) s (-1))(ht:(F.nd k).tree=(F.nd n).tree)(hb:(F.nd k).kind=2->Tr.gR F k 40 n=bA):Tr.Ok (Tr.lr F n s k):=by
 obtain⟨G,hG⟩:=hU (Tr.lr F n s k);rw[hG];rw[Tr.OB nk]at hG;have gn:G.nd n=Tr.jc (F.nd n) s k:=by rw[<-hG,Tr.bP _ _ _ _ nk,Tr.bM]
 have gk:G.nd k=if(F.nd k).kind=2 then{F.nd k with up:=n}else F.nd k:=by rw[<-hG,Tr.bM]
 have go:∀x,x≠n->x≠k->G.nd x=F.nd x:=λx c1 c2=>by rw[<-hG,Tr.bP _ _ _ _ c2,Tr.bP _ _ _ _ c1]
 have gtr:G.trees=F.trees:=by rw[<-hG];rfl
 have grt:∀t,G.root t=F.root t:=λt=>by rw[<-hG];rfl
 have all:∀x,(G.nd x).kind=(F.nd x).kind/\(G.nd x).cV=(F.nd x).cV/\(G.nd x).held=(F.nd x).held/\(G.nd x).tree=(F.nd x).tree:=λx=>by
  by_cases c1:x=n
  .subst c1;rw[gn];exact⟨rfl,rfl,rfl,rfl⟩
  .by_cases c2:x=k
   .subst c2;rw[gk];split<;>exact⟨rfl,rfl,rfl,rfl⟩
   .rw[go x c1 c2];exact⟨rfl,rfl,rfl,rfl⟩
 have ru:∀x,x≠n->(G.nd x).size=(F.nd x).size/\(G.nd x).eJ=(F.nd x).eJ/\(G.nd x).cY=(F.nd x).cY:=λx c1=>by
  by_cases c2:x=k
  .subst c2;rw[gk];split<;>exact⟨rfl,rfl,rfl⟩
  .rw[go x c1 c2];exact⟨rfl,rfl,rfl⟩
 have hup:∀x,x≠k->(G.nd x).up=(F.nd x).up:=λx c2=>by
  by_cases c1:x=n
  .subst c1;rw[gn];rfl
  .rw[go x c1 c2]
 have hupk:(F.nd k).kind=2->(G.nd k).up=n:=λk2=>by rw[gk,aJ k2]
 have cW:∀x,Tr.cW G x=Tr.cW F x+fO k x:=λx=>by
  have a:=Tr.Ad F n (Tr.jc (F.nd n) s k) x hn;rw[Tr.Q4 s k x n2]at a;have b:=Tr.jz (F.put n (Tr.jc (F.nd n) s k)) k (if(F.nd k).kind=2 then{F.nd k with up:=n}else F.nd k) x hk (by
   rw[Tr.bP _ _ _ _ (bQ nk)];split<;>rfl)
  rw[hG]at b;omega
 have upk:∀q i,q<40->(F.nd q).kind=2->i<(F.nd q).size->(F.nd q).cY i=k->(F.nd k).kind≠2:=λq i hq q2 hi e k2=>by
  have a:=Tr.Ac hq q2 hi;have b:=h.dr k hk k2;rw[e]at a;rw[iL]at b;omega
 have rtk:∀t,t<F.trees->F.root t≠k:=λt htt e=>by
  have k2:=(h.rt t htt).2.1;rw[e]at k2;have b:=h.dr k hk k2;rw[iL]at b;exact(Tr.uF (show Tr.cW F k=0 by omega)).2 t htt e
 refine⟨by rw[gtr];exact h.tr,λx hx=>by rw[(all x).1];exact h.kd x hx,λx hx k2=>?_,λx hx k1=>?_,λx i hx k2 hi=>?_,λx hx k2=>?_,λx i hx k2 hi=>?_,λt htt=>?_,λx hx kx=>?_,λx hx kx=>?_,λx hx k2=>?_,λx hx k2=>?_,λx hx k2 hu2=>?_⟩
 .rw[(all x).1]at k2;by_cases c:x=n
  .subst c;rw[gn,Tr.qp];omega
  .rw[(ru x c).1];exact h.sz x hx k2
 .rw[(all x).1]at k1;by_cases c:x=n
  .subst c;rw[n2]at k1;exact aZ k1 bE
  .rw[(ru x c).1];exact h.fz x hx k1
 .rw[(all x).1]at k2;by_cases c:x=n
  .subst c;rw[gn,Tr.qp]at hi;rw[gn];by_cases d:i=(F.nd x).size
   .subst d;rw[(Tr.sU _ _ _).1];exact hs
   .rw[(Tr.vT bB).1];exact h.nb x i hx k2 bB
  .rw[(ru x c).1]at hi;rw[(ru x c).2.1];exact h.nb x i hx k2 hi
 .rw[(all x).1]at k2;by_cases c:x=n
  .subst c;rw[gn];exact(h.dp x hx k2).jc hp
  .unfold Tr.Nodup;rw[(ru x c).1,(ru x c).2.1];exact h.dp x hx k2
 .rw[(all x).1]at k2;have old:∀q,(F.nd q).kind=2->q<40->∀i,i<(F.nd q).size->(F.nd q).cY i<40/\(G.nd ((F.nd q).cY i)).kind≠0/\(G.nd ((F.nd q).cY i)).tree=(G.nd q).tree/\((G.nd ((F.nd q).cY i)).kind=2->(G.nd ((F.nd q).cY i)).up=q):=λq q2 hq i hi=>by
   obtain⟨a1,a2,a3,a4⟩:=h.ki q i hq q2 hi;grind
  by_cases c:x=n
  .subst c;have gnk:∀i,(G.nd x).cY i=(Tr.jc (F.nd x) s k).cY i:=λi=>by rw[gn]
   have hi':i<(F.nd x).size+1:=by rw[gn,Tr.qp]at hi;exact hi
   rw[gnk];by_cases d:i=(F.nd x).size
   .subst d;rw[(Tr.sU _ _ _).2,(all k).1,(all k).2.2.2,(all x).2.2.2];exact⟨hk,k0,ht,hupk⟩
   .rw[(Tr.vT bB).2];exact old x k2 hx i bB
  .rw[(ru x c).1]at hi;rw[(ru x c).2.2];exact old x k2 hx i hi
 .rw[gtr]at htt;rw[grt,(all _).1,(all _).2.2.2,hup _ (rtk t htt)];exact h.rt t htt
 .rw[(all x).1]at kx;rw[(all x).2.1,cW];exact h.lk x hx kx
 .rw[(all x).1]at kx;rw[(all x).2.1,(all x).2.2.1];exact h.al x hx kx
 .rw[(all x).1]at k2;rw[cW];exact h.dr x hx k2
 .rw[(all x).1]at k2;by_cases kk:(F.nd k).kind=2
  .have hnE:=(h.en n hn n2 nk).Co hup (hb kk);by_cases c:x=k
   .subst c;exact Tr.dB.Iz (m:=41) ⟨hk, .inr (by rw[hupk kk];exact hnE)⟩
   .obtain⟨m',h'⟩:=Tr.dB.kP hup hk (hupk kk) hnE (h.en x hx k2 c);exact h'.Iz
  .have c:x≠k:=λe=>by rw[e]at k2;exact kk k2
   refine(h.en x hx k2 c).congr (λy=>?_);by_cases d:y=k
   .subst d;rw[gk,aI kk]
   .exact hup y d
 .rw[(all x).1]at k2;have c:x≠k:=λe=>by subst e;rw[hupk k2]at hu2;exact nk hu2
  rw[hup x c]at hu2;obtain⟨t,h1,h2⟩:=h.ro x hx k2 c hu2;exact⟨t,by rw[gtr];exact h1,by rw[grt];exact h2⟩
theorem Tr.Ok.forget(h:Tr.Ok F)(hn:n<40)(n2:(F.nd n).kind=2)(hi:i<(F.nd n).size):Tr.JQ (F.put n (Tr.eZ (F.nd n) i)) ((F.nd n).cY i):=by
 obtain⟨G,hG⟩:=hU (F.put n (Tr.eZ (F.nd n) i));obtain⟨k,hk⟩:=hU ((F.nd n).cY i);rw[hG,hk];have gn:G.nd n=Tr.eZ (F.nd n) i:=by rw[<-hG,Tr.bM]
 have go:∀x,x≠n->G.nd x=F.nd x:=λx c=>by rw[<-hG,Tr.bP _ _ _ _ c]
 have all:∀x,(G.nd x).kind=(F.nd x).kind/\(G.nd x).cV=(F.nd x).cV/\(G.nd x).held=(F.nd x).held/\(G.nd x).tree=(F.nd x).tree/\(G.nd x).up=(F.nd x).up:=λx=>by
  by_cases c:x=n
  .subst c;rw[gn];exact⟨rfl,rfl,rfl,rfl,rfl⟩
  .rw[go x c];exact⟨rfl,rfl,rfl,rfl,rfl⟩
 have cW:∀x,Tr.cW G x+fO k x=Tr.cW F x:=λx=>by
  have a:=Tr.Ad F n (Tr.eZ (F.nd n) i) x hn;have b:=Tr.NF (x:=F.nd n) (i:=i) x n2 hi;rw[hG]at a;rw[hk]at b;omega
 have MP:∀x j,(F.nd x).kind=2->j<(G.nd x).size->∃q,q<(F.nd x).size/\(G.nd x).eJ j=(F.nd x).eJ q/\(G.nd x).cY j=(F.nd x).cY q:=λx j _ hj=>by
  by_cases c:x=n
  .subst c;rw[gn]at hj|-;rw[Tr.rz]at hj;obtain⟨q,h1,_,h3,h4⟩:=Tr.N4 hi hj;exact⟨q,h1,h3,h4⟩
  .rw[go x c]at hj|-;exact⟨j,hj,rfl,rfl⟩
 have gtr:G.trees=F.trees:=by rw[<-hG];rfl
 have grt:∀t,G.root t=F.root t:=λt=>by rw[<-hG];rfl
 refine⟨by rw[gtr];exact h.tr,λx hx=>by rw[(all x).1];exact h.kd x hx,λx hx k2=>?_,λx hx k1=>?_,λx j hx k2 hj=>?_,λx hx k2=>?_,λx j hx k2 hj=>?_,λt htt=>?_,λx hx kx=>?_,λx hx kx=>?_,λx hx k2=>?_,λx hx k2 _=>?_,λx hx k2 _ hu2=>?_⟩
 .rw[(all x).1]at k2;by_cases c:x=n
  .subst c;rw[gn,Tr.rz];have:=h.sz x hx k2;omega
  .rw[go x c];exact h.sz x hx k2
 .rw[(all x).1]at k1;by_cases c:x=n
  .subst c;rw[n2]at k1;exact aZ k1 bE
  .rw[go x c];exact h.fz x hx k1
 .rw[(all x).1]at k2;obtain⟨q,h1,h2,_⟩:=MP x j k2 hj;rw[h2];exact h.nb x q hx k2 h1
 .rw[(all x).1]at k2;by_cases c:x=n
  .subst c;rw[gn];exact(h.dp x hx k2).eZ hi
  .rw[go x c];exact h.dp x hx k2
 .rw[(all x).1]at k2;obtain⟨q,h1,_,h3⟩:=MP x j k2 hj;rw[h3,(all _).1,(all _).2.2.2.1,(all x).2.2.2.1,(all _).2.2.2.2];exact h.ki x q hx k2 h1
 .rw[gtr]at htt;rw[grt,(all _).1,(all _).2.2.2.1,(all _).2.2.2.2];exact h.rt t htt
 .rw[(all x).1]at kx;rw[(all x).2.1,cW];exact h.lk x hx kx
 .rw[(all x).1]at kx;rw[(all x).2.1,(all x).2.2.1];exact h.al x hx kx
 .rw[(all x).1]at k2;rw[cW];exact h.dr x hx k2
 .rw[(all x).1]at k2;exact(h.en x hx k2).congr (λy=>(all y).2.2.2.2)
 .rw[(all x).1]at k2;rw[(all x).2.2.2.2]at hu2;obtain⟨t,h1,h2⟩:=h.ro x hx k2 hu2;grind
theorem Tr.yF{F G:Fo}{o:Nat}(h:∀x,(G.nd x).up=(F.nd x).up):∀m x,Tr.gR G o m x=Tr.gR F o m x
 |0,_=>rfl
 |m+1,x=>by
  show(x==o||(!((G.nd x).up==x)&&Tr.gR G o m (G.nd x).up))=(x==o||(!((F.nd x).up==x)&&Tr.gR F o m (F.nd x).up));rw[h x,Tr.yF h m]
theorem Tr.Ok.Ue(h:Tr.Ok F){o:bU}(hm:Tr.Hw F z s y o E G):Tr.Ok G:=by
 obtain⟨K,e,hf,⟨_,_,rfl⟩|⟨rfl,hm⟩⟩:=hm
 .exact h
 rcases hm with⟨_,_,rfl⟩|⟨ey,hm⟩
 .exact h
 rcases hm with⟨_,_,rfl⟩|⟨et,hm⟩
 .exact h
 rcases hm with⟨_,_,rfl⟩|⟨hb,i,hpl,e2,hr,hm⟩
 .exact h
 rcases hm with⟨_,_,rfl⟩|⟨rfl,_,rfl⟩
 .exact h
 obtain⟨n,i',rfl,n40,n2,hp,hK⟩:=hf.ok;obtain⟨t,rfl,t40,_,t2⟩:=Tr.fD ey;rw[hZ]at hb hpl hr et|-;rw[hZ]at hr et|-;have ii:i=i':=by have:=hpl.unique hp;omega
 subst ii;have hi:=hp.lt;have hx:=h.forget n40 n2 hi;rw[<-hK]at hx;obtain⟨k40,kk0,ktr,_⟩:=h.ki n i n40 n2 hi;rw[<-hK]at k40 kk0 ktr;have al:∀x,((F.put n (Tr.eZ (F.nd n) i)).nd x).kind=(F.nd x).kind/\((F.put n (Tr.eZ (F.nd n) i)).nd x).tree=(F.nd x).tree/\((F.put n (Tr.eZ (F.nd n) i)).nd x).up=(F.nd x).up:=λx=>by
  by_cases c:x=n
  .subst c;rw[Tr.bM];exact⟨rfl,rfl,rfl⟩
  .rw[Tr.bP _ _ _ _ c];exact⟨rfl,rfl,rfl⟩
 have tk:t≠K:=λc=>by subst c;rw[Tr.rk]at hb;exact aZ hb bE
 obtain⟨hnm,h8⟩:=hr.ok;refine hx.lead t40 k40 tk (by rw[(al t).1];exact t2) (by rw[(al K).1];exact kk0) ?_ hnm ?_ (by rw[(al K).2.1,(al t).2.1,ktr,et]) (λ_=>by rw[Tr.yF (λx=>(al x).2.2)];exact hb)
 .have:=hx.sz t t40 (by rw[(al t).1];exact t2);omega
 .rcases hr with⟨_,q⟩|⟨_,⟨_,_,q⟩|⟨q,_⟩⟩
  .exact aZ q bE
  .omega
  .exact q
theorem Tr.Ok.T5(h:Tr.Ok F)(hm:Tr.Cj F y z s E G):Tr.Ok G:=by
 rcases hm with⟨_,_,rfl⟩|⟨ey,e,hw,hm⟩
 .exact h
 rcases hm with⟨_,_,rfl⟩|⟨rfl,hm⟩
 .exact h
 rcases hm with⟨_,_,rfl⟩|⟨et,_,rfl⟩
 .exact h
 obtain⟨k,rfl,k40,_,k1⟩:=Tr.fD ey;obtain⟨n,rfl,n40,n2,hnm,hp,h8⟩:=hw.ok;rw[hZ,hZ]at et|-;unfold Tr.Aq;obtain⟨F',hF'⟩:∃F',F.put k {F.nd k with cV:=(F.nd k).cV+1}=F':=⟨_,rfl⟩;rw[hF'];have nk:n≠k:=λe=>by rw[e,k1]at n2;exact aZ n2 bE
 have gk:F'.nd k={F.nd k with cV:=(F.nd k).cV+1}:=by rw[<-hF',Tr.bM]
 have go:∀x,x≠k->F'.nd x=F.nd x:=λx c=>by rw[<-hF',Tr.bP _ _ _ _ c]
 have al:∀x,(F'.nd x).kind=(F.nd x).kind/\(F'.nd x).size=(F.nd x).size/\(F'.nd x).eJ=(F.nd x).eJ/\(F'.nd x).cY=(F.nd x).cY/\(F'.nd x).tree=(F.nd x).tree/\(F'.nd x).up=(F.nd x).up/\(F'.nd x).held=(F.nd x).held:=λx=>by
  grind
 have hl:∀x,(F'.nd x).cV=(F.nd x).cV+fO k x:=λx=>by
  by_cases c:x=k
  .subst c;rw[gk,iL]
  .rw[go x c,mj (bQ c)];rfl
 have cW:∀x,Tr.cW F' x=Tr.cW F x:=λx=>by
  rw[<-hF'];exact Tr.jz F k _ x k40 rfl
 have hx:Tr.JQ F' k:=by
  refine⟨by rw[<-hF'];exact h.tr,λx hx=>by rw[(al x).1];exact h.kd x hx,λx hx k2=>?_,λx hx k1=>?_,λx j hx k2 hj=>?_,λx hx k2=>?_,λx j hx k2 hj=>?_,λt htt=>?_,λx hx kx=>?_,λx hx kx=>?_,λx hx k2=>?_,λx hx k2 _=>?_,λx hx k2 _ hu2=>?_⟩
  .rw[(al x).1]at k2;rw[(al x).2.1];exact h.sz x hx k2
  .rw[(al x).1]at k1;rw[(al x).2.1];exact h.fz x hx k1
  .rw[(al x).1]at k2;rw[(al x).2.1]at hj;rw[(al x).2.2.1];exact h.nb x j hx k2 hj
  .rw[(al x).1]at k2;unfold Tr.Nodup;rw[(al x).2.1,(al x).2.2.1];exact h.dp x hx k2
  .rw[(al x).1]at k2;rw[(al x).2.1]at hj;rw[(al x).2.2.2.1,(al _).1,(al _).2.2.2.2.1,(al x).2.2.2.2.1,(al _).2.2.2.2.2.1];exact h.ki x j hx k2 hj
  .have a:=h.rt t (by rw[<-hF']at htt;exact htt);have e:F'.root t=F.root t:=by rw[<-hF'];rfl
   rw[e,(al _).1,(al _).2.2.2.2.1,(al _).2.2.2.2.2.1];exact a
  .rw[(al x).1]at kx;rw[hl,cW,h.lk x hx kx]
  .rw[(al x).1]at kx;rw[hl,(al x).2.2.2.2.2.2];have:=h.al x hx kx;omega
  .rw[(al x).1]at k2;rw[cW,mj (λe=>by rw[<-e,k1]at k2;exact aZ k2 bE),Nat.add_zero];exact h.dr x hx k2
  .rw[(al x).1]at k2;exact(h.en x hx k2).congr (λy=>(al y).2.2.2.2.2.1)
  .rw[(al x).1]at k2;rw[(al x).2.2.2.2.2.1]at hu2;obtain⟨t,h1,h2⟩:=h.ro x hx k2 hu2;exact⟨t,by rw[<-hF'];exact h1,by rw[<-hF'];exact h2⟩
 have n8:=h.sz n n40 n2;refine hx.lead n40 k40 nk (by rw[(al n).1];exact n2) (by rw[(al k).1,k1];decide) (by rw[(al n).2.1];omega) hnm (by rw[go n nk];exact hp) (by rw[(al k).2.2.2.2.1,(al n).2.2.2.2.1];exact et) (λk2=>by rw[(al k).1,k1]at k2;exact aZ k2 bE)
theorem Tr.Ok.GC{F G:Fo}(h:Tr.Ok F){k:Nat}(k0:(F.nd k).kind=0)(hu:∀x,x≠k->(G.nd x).up=(F.nd x).up):∀m x,x<40->(F.nd x).kind=2->Tr.gR G k m x=bA
 |0,x,_,k2=>by
  show(x==k)=bA;grind
 |m+1,x,hx,k2=>by
  have c:x≠k:=λe=>by rw[e,k0]at k2;exact aZ k2 bE
  show(x==k||(!((G.nd x).up==x)&&Tr.gR G k m (G.nd x).up))=bA;rw[show(x==k)=bA from by simpa using c,hu x c];by_cases d:(F.nd x).up=x
  .rw[d];simp
  .rcases Tr.Qy h.ki k2 (by rw[h.dr x hx k2];exact aL _)with⟨t,ht,e⟩|⟨i,h1,h2,_,_⟩
   .have:=(h.rt t ht).2.2.1;rw[e]at this;exact aZ this d
   .rw[Tr.Ok.GC h k0 hu m _ h1 h2];simp
theorem Tr.Ok.T9(h:Tr.Ok F){kz:Int}{K:Nat}(hm:Tr.sS F z s kz K E G):Tr.Ok G:=by
 rcases hm with⟨_,_,_,_,rfl⟩|⟨hkz,e,hw,hm⟩
 .exact h
 rcases hm with⟨_,_,_,rfl⟩|⟨rfl,k,e2,hf,hm⟩
 .exact h
 rcases hm with⟨_,_,_,rfl⟩|⟨rfl,_,_,rfl⟩
 .exact h
 obtain⟨n,rfl,n40,n2,hnm,hp,h8⟩:=hw.ok;obtain⟨kd,hkd,hkd2⟩:∃kd:Nat,kz.toNat=kd/\(kd=1\/kd=2):=⟨kz.toNat,rfl,bB⟩;rw[hZ,hkd];obtain⟨k40,k0⟩:k<40/\(F.nd k).kind=0:=by
  rcases hf with⟨_,h1,h2,_⟩|⟨h1,_⟩
  .exact⟨h1,h2⟩
  .omega
 unfold Tr.jX;obtain⟨F',hF'⟩:∃F',F.put k (fq kd (F.nd n).tree 0)=F':=⟨_,rfl⟩;rw[hF'];have nk:n≠k:=λe=>by rw[e,k0]at n2;exact aZ n2 bE
 have gk:F'.nd k=fq kd (F.nd n).tree 0:=by rw[<-hF',Tr.bM]
 have go:∀x,x≠k->F'.nd x=F.nd x:=λx c=>by rw[<-hF',Tr.bP _ _ _ _ c]
 have cW:∀x,Tr.cW F' x=Tr.cW F x:=λx=>by
  rw[<-hF'];refine Tr.jz F k _ x k40 ?_;rw[Tr.Ab (x:=F.nd k) x (by rw[k0];decide)];unfold Tr.gX;split<;>rfl
 have hc0:=h.none k0;have kne:∀x i,x<40->(F.nd x).kind=2->i<(F.nd x).size->(F.nd x).cY i≠k:=(λx i hx k2 hi=>(Tr.uF hc0).1 x i hx k2 hi);have rne:∀t,t<F.trees->F.root t≠k:=(Tr.uF hc0).2;have sz0:(F'.nd k).size=0:=by rw[gk];rfl
 have hx:Tr.JQ F' k:=by
  refine⟨by rw[<-hF'];exact h.tr,λx hx=>?_,λx hx k2=>?_,λx hx k1=>?_,λx j hx k2 hj=>?_,λx hx k2=>?_,λx j hx k2 hj=>?_,λt htt=>?_,λx hx kx=>?_,λx hx kx=>?_,λx hx k2=>?_,λx hx k2 c=>?_,λx hx k2 c hu2=>?_⟩
  .by_cases c:x=k
   .subst c;rw[gk];show kd<=2;omega
   .rw[go x c];exact h.kd x hx
  .by_cases c:x=k
   .grind
   .rw[go x c]at k2|-;exact h.sz x hx k2
  .by_cases c:x=k
   .subst c;rw[sz0];exact aC _
   .rw[go x c]at k1|-;exact h.fz x hx k1
  .by_cases c:x=k
   .subst c;rw[sz0]at hj;omega
   .rw[go x c]at k2 hj|-;exact h.nb x j hx k2 hj
  .by_cases c:x=k
   .subst c;intro a b _ hb;rw[sz0]at hb;omega
   .rw[go x c]at k2|-;exact h.dp x hx k2
  .by_cases c:x=k
   .subst c;rw[sz0]at hj;omega
   .rw[go x c]at k2 hj|-;rw[go _ (kne x j hx k2 hj)];exact h.ki x j hx k2 hj
  .have htt':t<F.trees:=by rw[<-hF']at htt;exact htt
   have e:F'.root t=F.root t:=by rw[<-hF'];rfl
   rw[e,go _ (rne t htt')];exact h.rt t htt'
  .by_cases c:x=k
   .subst c;rw[gk,cW,hc0,iL];rfl
   .rw[go x c]at kx|-;rw[cW,mj (bQ c)];exact h.lk x hx kx
  .by_cases c:x=k
   .subst c;rw[gk];show 1<=1+0;omega
   .rw[go x c]at kx|-;exact h.al x hx kx
  .by_cases c:x=k
   .subst c;rw[cW,hc0,iL]
   .rw[go x c]at k2;rw[cW,mj (bQ c)];exact h.dr x hx k2
  .rw[go x c]at k2;exact(h.en x hx k2).Co (k:=k) (λy d=>by rw[go y d]) (h.GC k0 (λ_ _=>rfl) 40 x hx k2)
  .rw[go x c]at k2 hu2;obtain⟨t,h1,h2⟩:=h.ro x hx k2 hu2;exact⟨t,by rw[<-hF'];exact h1,by rw[<-hF'];exact h2⟩
 have n8:=h.sz n n40 n2;refine hx.lead n40 k40 nk (by rw[go n nk];exact n2) (by rw[gk];show kd≠0;omega) (by rw[go n nk];omega) hnm (by rw[go n nk];exact hp) (by rw[gk,go n nk];rfl) (λ_=>h.GC k0 (λy d=>by rw[go y d]) 40 n n40 n2)
theorem Tr.Ok.dP{F:Fo}(h:Tr.Ok F)(z:Int):Tr.Ok (Tr.dP F z):=by
 unfold Tr.dP;split
 .rename_i c;obtain⟨n,rfl,n40,_⟩:=Tr.gZ c;exact h.put n _ n40 rfl rfl rfl rfl (λ_=>⟨rfl,rfl,rfl⟩) (λk1=>h.fz n n40 k1) (λk0=>by show 1<=(F.nd n).cV+((F.nd n).held+1);omega)
 .exact h
theorem Tr.erase(hk:k<40)(tr:F.trees<=4)(kd:∀n,n<40->(F.nd n).kind<=2)(sz:Tr.kY F)(fz:Tr.ud F)
  (nb:∀n i,n<40->(F.nd n).kind=2->i<(F.nd n).size->Tr.gd ((F.nd n).eJ i)=bw)
  (dp:∀n,n<40->(F.nd n).kind=2->Tr.Nodup (F.nd n))
  (ki:∀n i,n<40->(F.nd n).kind=2->i<(F.nd n).size->(F.nd n).cY i<40/\(F.nd ((F.nd n).cY i)).kind≠0/\(F.nd ((F.nd n).cY i)).tree=(F.nd n).tree/\((F.nd ((F.nd n).cY i)).kind=2->(F.nd ((F.nd n).cY i)).up=n))
  (rt:∀t,t<F.trees->F.root t<40/\(F.nd (F.root t)).kind=2/\(F.nd (F.root t)).up=F.root t/\(F.nd (F.root t)).tree=t)
  (lk:∀n,n<40->(F.nd n).kind≠0->n≠k->(F.nd n).cV=Tr.cW F n)
  (al:∀n,n<40->(F.nd n).kind≠0->n≠k->1<=(F.nd n).cV+(F.nd n).held)
  (dr:∀n,n<40->(F.nd n).kind=2->n≠k->Tr.cW F n=1)
  (en:∀n,n<40->(F.nd n).kind=2->n≠k->Tr.dB F 40 n)
  (ro:∀n,n<40->(F.nd n).kind=2->n≠k->(F.nd n).up=n->∃t,t<F.trees/\F.root t=n)
  (c0:Tr.cW F k=0) (z0:(F.nd k).kind=2->(F.nd k).size=0):Tr.Ok (F.put k Nd.no):=by
 obtain⟨G,hG⟩:=hU (F.put k Nd.no);rw[hG];have gk:G.nd k=Nd.no:=by rw[<-hG,Tr.bM]
 have gk0:(G.nd k).kind=0:=by rw[gk];rfl
 have go:∀x,x≠k->G.nd x=F.nd x:=λx c=>by rw[<-hG,Tr.bP _ _ _ _ c]
 have cW:∀x,Tr.cW G x=Tr.cW F x:=λx=>by
  rw[<-hG];refine Tr.jz F k _ x hk ?_;rw[Tr.Ab (x:=Nd.no) x bE];unfold Tr.gX;split
  .rename_i c;rw[z0 c];rfl
  .rfl
 obtain⟨kne,rne⟩:=Tr.uF c0;have n2:∀{x},(G.nd x).kind=2->x≠k:=λ{x} k2 c=>by subst c;rw[gk0]at k2;exact aZ k2 bE
 have n0:∀{x},(G.nd x).kind≠0->x≠k:=λ{x} kx c=>by subst c;exact kx gk0
 refine⟨by rw[<-hG];exact tr,λx hx=>?_,λx hx k2=>?_,λx hx k1=>?_,λx j hx k2 hj=>?_,λx hx k2=>?_,λx j hx k2 hj=>?_,λt htt=>?_,λx hx kx=>?_,λx hx kx=>?_,λx hx k2=>?_,λx hx k2=>?_,λx hx k2 hu2=>?_⟩
 .by_cases c:x=k
  .subst c;rw[gk0];exact aC _
  .rw[go x c];exact kd x hx
 .have c:=n2 k2;rw[go x c]at k2|-;exact sz x hx k2
 .have c:x≠k:=λe=>by subst e;rw[gk0]at k1;exact aZ k1 bE
  rw[go x c]at k1|-;exact fz x hx k1
 .have c:=n2 k2;rw[go x c]at k2 hj|-;exact nb x j hx k2 hj
 .have c:=n2 k2;rw[go x c]at k2|-;exact dp x hx k2
 .grind
 .have htt':t<F.trees:=by rw[<-hG]at htt;exact htt
  have e:G.root t=F.root t:=by rw[<-hG];rfl
  rw[e,go _ (rne t htt')];exact rt t htt'
 .have c:=n0 kx;rw[go x c]at kx|-;rw[cW];exact lk x hx kx c
 .have c:=n0 kx;rw[go x c]at kx|-;exact al x hx kx c
 .have c:=n2 k2;rw[go x c]at k2;rw[cW];exact dr x hx k2 c
 .have c:=n2 k2;rw[go x c]at k2;refine Tr.dB.on (F:=F) (G:=G) (λy=>y<40/\(F.nd y).kind=2/\y≠k) (λy hy=>?_) ⟨hx,k2,c⟩ (en x hx k2 c);refine⟨by rw[go y hy.2.2],?_⟩;rcases Tr.Qy ki hy.2.1 (by rw[dr y hy.1 hy.2.1 hy.2.2];exact aL _)with⟨t,ht,e⟩|⟨i,h1,h2,h3,_⟩
  .have:=(rt t ht).2.2.1;rw[e]at this;rw[this];exact hy
  .refine⟨h1,h2,λe=>?_⟩;rw[e]at h2 h3;rw[z0 h2]at h3;omega
 .have c:=n2 k2;rw[go x c]at k2 hu2;obtain⟨t,h1,h2⟩:=ro x hx k2 c hu2;exact⟨t,by rw[<-hG];exact h1,by rw[<-hG];exact h2⟩
theorem Tr.Ok.dD{F:Fo}(h:Tr.Ok F)(z:Int):Tr.Ok (Tr.dD F z):=by
 unfold Tr.dD;split
 .rename_i c;have c1:Tr.cH F z=0:=by
   rcases Classical.em (Tr.cH F z=0)with d|d
   .exact d
   .unfold Tr.letE at c;rw[aI d]at c;exact c
  obtain⟨n,rfl,n40,k0⟩:=Tr.gZ c1;unfold Tr.letE at c;rw[aJ c1,hZ]at c;unfold Tr.mF;rw[Tr.bM];split
  .rename_i d;have d1:(F.nd n).cV=0:=d.1;rw[Tr.gM];have c0:Tr.cW F n=0:=by rw[<-h.lk n n40 k0];exact d1
   refine Tr.erase n40 h.tr h.kd h.sz h.fz h.nb h.dp h.ki h.rt (λx hx kx _=>h.lk x hx kx) (λx hx kx _=>h.al x hx kx) (λx hx k2 _=>h.dr x hx k2) (λx hx k2 _=>h.en x hx k2) (λx hx k2 _ u=>h.ro x hx k2 u) c0 (λk2=>?_);have:=h.dr n n40 k2;omega
  .rename_i d;refine h.put n _ n40 rfl rfl rfl rfl (λ_=>⟨rfl,rfl,rfl⟩) (λk1=>h.fz n n40 k1) (λ_=>?_);grind
 .exact h
theorem Tr.Ok.rem(h:Tr.Ok F)(hm:Tr.yw F z s E G):Tr.Ok G:=by
 obtain⟨k,e,hf,⟨_,_,rfl⟩|⟨rfl,hm⟩⟩:=hm
 .exact h
 rcases hm with⟨_,_,_,rfl⟩|⟨nbz,_,i,hpl,rfl⟩
 .exact h
 obtain⟨n,i',rfl,n40,n2,hp,hK⟩:=hf.ok;rw[hZ]at hpl|-;have ii:i=i':=by have:=hpl.unique hp;omega
 subst ii;have hi:=hp.lt;have hx:=h.forget n40 n2 hi;rw[<-hK]at hx;obtain⟨k40,kk0,_,_⟩:=h.ki n i n40 n2 hi;rw[<-hK]at k40 kk0;have nk:k≠n:=λe=>nbz ⟨by rw[e];exact n2, .inl (by rw[e];omega)⟩;unfold Tr.xK;obtain⟨F1,hF1⟩:=hU (F.put n (Tr.eZ (F.nd n) i));rw[hF1]at hx|-;have gk:F1.nd k=F.nd k:=by rw[<-hF1,Tr.bP _ _ _ _ nk]
 have hl:=hx.lk k k40 (by rw[gk];exact kk0);rw[iL,gk]at hl;have one:∀x,x≠k->fO k x=0:=λx c=>mj (bQ c);unfold Tr.mF;rw[Tr.bM];split
 .rename_i d;have d1:(F.nd k).cV-1=0:=d.1;rw[Tr.gM];refine Tr.erase k40 hx.tr hx.kd hx.sz hx.fz hx.nb hx.dp hx.ki hx.rt (λx hxx kx c=>by have:=hx.lk x hxx kx;rw[one x c]at this;exact this) (λx hxx kx _=>hx.al x hxx kx) (λx hxx k2 c=>by have:=hx.dr x hxx k2;rw[one x c]at this;exact this) hx.en hx.ro bB (λk2=>?_);grind
 .rename_i d;have d':¬((F.nd k).cV-1=0/\(F1.nd k).held=0):=d;rw[gk]at d';have k1:(F.nd k).kind≠2:=λk2=>by
   have b:=hx.dr k k40 (by rw[gk];exact k2);rw[iL]at b;rcases Nat.eq_zero_or_pos (F.nd k).held with q|q
   .exact d' ⟨by omega,q⟩
   .exact nbz ⟨k2, .inr q⟩
  obtain⟨G,hG⟩:=hU (F1.put k {F1.nd k with cV:=(F.nd k).cV-1});rw[hG];have go:∀x,x≠k->G.nd x=F1.nd x:=λx c=>by rw[<-hG,Tr.bP _ _ _ _ c]
  have al:∀x,(G.nd x).kind=(F1.nd x).kind/\(G.nd x).size=(F1.nd x).size/\(G.nd x).eJ=(F1.nd x).eJ/\(G.nd x).cY=(F1.nd x).cY/\(G.nd x).tree=(F1.nd x).tree/\(G.nd x).up=(F1.nd x).up/\(G.nd x).held=(F1.nd x).held:=λx=>by
   by_cases c:x=k
   .subst c;rw[<-hG,Tr.bM];exact⟨rfl,rfl,rfl,rfl,rfl,rfl,rfl⟩
   .rw[go x c];exact⟨rfl,rfl,rfl,rfl,rfl,rfl,rfl⟩
  have gkl:(G.nd k).cV=(F.nd k).cV-1:=by rw[<-hG,Tr.bM]
  have cW:∀x,Tr.cW G x=Tr.cW F1 x:=λx=>by
   rw[<-hG];exact Tr.jz F1 k _ x k40 rfl
  refine⟨by rw[<-hG];exact hx.tr,λx hxx=>by rw[(al x).1];exact hx.kd x hxx,λx hxx k2=>?_,λx hxx k1=>?_,λx j hxx k2 hj=>?_,λx hxx k2=>?_,λx j hxx k2 hj=>?_,λt htt=>?_,λx hxx kx=>?_,λx hxx kx=>?_,λx hxx k2=>?_,λx hxx k2=>?_,λx hxx k2 hu2=>?_⟩
  .rw[(al x).1]at k2;rw[(al x).2.1];exact hx.sz x hxx k2
  .rw[(al x).1]at k1;rw[(al x).2.1];exact hx.fz x hxx k1
  .rw[(al x).1]at k2;rw[(al x).2.1]at hj;rw[(al x).2.2.1];exact hx.nb x j hxx k2 hj
  .rw[(al x).1]at k2;unfold Tr.Nodup;rw[(al x).2.1,(al x).2.2.1];exact hx.dp x hxx k2
  .rw[(al x).1]at k2;rw[(al x).2.1]at hj;rw[(al x).2.2.2.1,(al _).1,(al _).2.2.2.2.1,(al x).2.2.2.2.1,(al _).2.2.2.2.2.1];exact hx.ki x j hxx k2 hj
  .have a:=hx.rt t (by rw[<-hG]at htt;exact htt);have e:G.root t=F1.root t:=by rw[<-hG];rfl
   rw[e,(al _).1,(al _).2.2.2.2.1,(al _).2.2.2.2.2.1];exact a
  .rw[(al x).1]at kx;rw[cW];by_cases c:x=k
   .subst c;rw[gkl];omega
   .rw[go x c];have:=hx.lk x hxx kx;rw[one x c]at this;exact this
  .rw[(al x).1]at kx;by_cases c:x=k
   .subst c;rw[gkl,(al x).2.2.2.2.2.2,gk];omega
   .rw[go x c];exact hx.al x hxx kx
  .rw[(al x).1]at k2;rw[cW];have c:x≠k:=λe=>by rw[e,gk]at k2;exact k1 k2
   have:=hx.dr x hxx k2;rw[one x c]at this;exact this
  .rw[(al x).1]at k2;have c:x≠k:=λe=>by rw[e,gk]at k2;exact k1 k2
   exact(hx.en x hxx k2 c).congr (λy=>(al y).2.2.2.2.2.1)
  .rw[(al x).1]at k2;rw[(al x).2.2.2.2.2.1]at hu2;have c:x≠k:=λe=>by rw[e,gk]at k2;exact k1 k2
   obtain⟨t,h1,h2⟩:=hx.ro x hxx k2 c hu2;exact⟨t,by rw[<-hG];exact h1,by rw[<-hG];exact h2⟩
theorem Tr.Ok.Qj(h:Tr.Ok F){T:Nat}(hm:Tr.ra F T E G):Tr.Ok G:=by
 rcases hm with⟨_,_,_,rfl⟩|⟨t4,n,e,hf,hm⟩
 .exact h
 rcases hm with⟨_,_,_,rfl⟩|⟨rfl,_,_,rfl⟩
 .exact h
 obtain⟨n40,k0⟩:n<40/\(F.nd n).kind=0:=by
  rcases hf with⟨_,h1,h2,_⟩|⟨h1,_⟩
  .exact⟨h1,h2⟩
  .omega
 obtain⟨G,hG⟩:=hU (Tr.AE F n);rw[hG];have gk:G.nd n=fq 2 F.trees n:=by rw[<-hG];exact Tr.bM F n _
 have go:∀x,x≠n->G.nd x=F.nd x:=λx c=>by rw[<-hG];exact Tr.bP F n _ x c
 have gtr:G.trees=F.trees+1:=by rw[<-hG];rfl
 have gro:∀t,t<F.trees->G.root t=F.root t:=λt ht=>by rw[<-hG];exact vC _ _ _ _ bB
 have grn:G.root F.trees=n:=by rw[<-hG];exact qT _ _ _
 have hc0:=h.none k0;obtain⟨kne,rne⟩:=Tr.uF hc0;have cW:∀x,Tr.cW G x=Tr.cW F x+fO n x:=λx=>by
  have a:Tr.cW (F.put n (fq 2 F.trees n)) x=Tr.cW F x:=by
   refine Tr.jz F n _ x n40 ?_;rw[Tr.Ab (x:=F.nd n) x (by rw[k0];decide)];rfl
  have b:Tr.pR G x=Tr.pR F x+fO n x:=by
   unfold Tr.pR;rw[gtr];show gy (λt=>fO (G.root t) x) F.trees+fO (G.root F.trees) x=_;rw[grn,ob (λt ht=>by rw[gro t ht])]
  have c:gy (λm=>Tr.gX (G.nd m) x) 40=gy (λm=>Tr.gX ((F.put n (fq 2 F.trees n)).nd m) x) 40:=by rw[<-hG];rfl
  have d:Tr.pR (F.put n (fq 2 F.trees n)) x=Tr.pR F x:=rfl;unfold Tr.cW at a|-;omega
 have sz0:(G.nd n).size=0:=by rw[gk];rfl
 have h4:=h.tr;refine⟨by rw[gtr];omega,λx hx=>?_,λx hx k2=>?_,λx hx k1=>?_,λx j hx k2 hj=>?_,λx hx k2=>?_,λx j hx k2 hj=>?_,λt htt=>?_,λx hx kx=>?_,λx hx kx=>?_,λx hx k2=>?_,λx hx k2=>?_,λx hx k2 hu2=>?_⟩
 .by_cases c:x=n
  .subst c;rw[gk];exact aL _
  .rw[go x c];exact h.kd x hx
 .by_cases c:x=n
  .subst c;rw[sz0];exact aC _
  .rw[go x c]at k2|-;exact h.sz x hx k2
 .by_cases c:x=n
  .subst c;rw[sz0];exact aC _
  .rw[go x c]at k1|-;exact h.fz x hx k1
 .by_cases c:x=n
  .subst c;rw[sz0]at hj;omega
  .rw[go x c]at k2 hj|-;exact h.nb x j hx k2 hj
 .by_cases c:x=n
  .subst c;intro a b _ hb;rw[sz0]at hb;omega
  .rw[go x c]at k2|-;exact h.dp x hx k2
 .by_cases c:x=n
  .subst c;rw[sz0]at hj;omega
  .rw[go x c]at k2 hj|-;rw[go _ (kne x j hx k2 hj)];exact h.ki x j hx k2 hj
 .rw[gtr]at htt;by_cases c:t=F.trees
  .subst c;rw[grn,gk];exact⟨n40,rfl,rfl,rfl⟩
  .rw[gro t bB,go _ (rne t bB)];exact h.rt t bB
 .by_cases c:x=n
  .subst c;rw[gk,cW,hc0,iL];rfl
  .rw[go x c]at kx|-;rw[cW,mj (bQ c)];exact h.lk x hx kx
 .by_cases c:x=n
  .subst c;rw[gk];show 1<=1+0;omega
  .rw[go x c]at kx|-;exact h.al x hx kx
 .by_cases c:x=n
  .subst c;rw[cW,hc0,iL]
  .rw[go x c]at k2;rw[cW,mj (bQ c)];exact h.dr x hx k2
 .by_cases c:x=n
  .subst c;exact Tr.dB.Iz (m:=0) ⟨n40,by rw[gk];rfl⟩
  .rw[go x c]at k2;exact(h.en x hx k2).Co (k:=n) (λy d=>by rw[go y d]) (h.GC k0 (λ_ _=>rfl) 40 x hx k2)
 .by_cases c:x=n
  .exact⟨F.trees,by rw[gtr];omega,by rw[grn,c]⟩
  .rw[go x c]at k2 hu2;obtain⟨t,h1,h2⟩:=h.ro x hx k2 hu2;grind

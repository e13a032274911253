import Derived.Shelf.Small.Bits
import Derived.Shelf.Strconv.Clone
import Derived.Shelf.Sort.Plain
import Derived.Shelf.Slices.In.SortNone
import Derived.Lib.LazyBuf
import Derived.Test.YtpmmdkcfenjiaaaGreatDoorUam
import Derived.Test.YtpmmdkcfenjiaaaGreatDoorUaf
set_option maxRecDepth 100000
set_option maxHeartbeats 4000000
set_option linter.unusedVariables false
set_option linter.unusedSimpArgs false
namespace Go.Proofs
open Go.Shelf
def Tryz.Cd:Go.Shelf.Ren:=⟨λ|316=>302|n=>n,λ|9=>9|3=>3|4=>4|37=>316|0=>0|127=>248|5=>5|n=>n,λ|n=>n⟩
theorem Tryz.Mi:Go.Proofs.LaysM.n316 Tryz.prog Tryz.Cd:={
 mixed:=by kernel_rfl
 f316:=Tryz.func302.trans (congrArg some (by kernel_rfl))
 t0:=Tryz.underlying0
 a0:=Tryz.isAgg0
 z0:=Tryz.sizeOf0
 v0:=Tryz.zeroValue0
 t3:=Tryz.underlying3
 a3:=Tryz.isAgg3
 z3:=Tryz.sizeOf3
 v3:=Tryz.zeroValue3
 t4:=Tryz.underlying4
 a4:=Tryz.isAgg4
 z4:=Tryz.sizeOf4
 v4:=Tryz.zeroValue4
 t9:=Tryz.underlying9
 a9:=Tryz.isAgg9
 z9:=Tryz.sizeOf9
 v9:=Tryz.zeroValue9
 t37:=Tryz.underlying316
 a37:=Tryz.isAgg316
 z37:=Tryz.sizeOf316
 v37:=Tryz.zeroValue316
 t127:=Tryz.underlying248
 a127:=Tryz.isAgg248
 z127:=Tryz.sizeOf248
 v127:=Tryz.zeroValue248
 t5:=Tryz.underlying5
 a5:=Tryz.isAgg5
 z5:=Tryz.sizeOf5
 v5:=Tryz.zeroValue5
 i0:=by kernel_rfl
 i3:=by kernel_rfl
 i4:=by kernel_rfl
 i5:=by kernel_rfl
 i9:=by kernel_rfl
 i37:=by kernel_rfl
 i127:=by kernel_rfl}
open Go.RowKit in
theorem Tryz.stringslite_Clone(s:ByteArray)(w:World)(hlim:s.size<=281474976710656):
 Calls Tryz.prog 302 #[.string s] w λe w'=>e= .returned (.string s)/\Below w.heap.size w w':=Any.stringslite_Clone Tryz.Mi s w hlim
def Tryz.DU:Go.Shelf.Ren:=⟨λ|190=>265|125=>288|258=>287|128=>315|129=>316|302=>306|303=>307|304=>308|305=>309|306=>310|307=>311|308=>312|309=>313|310=>314|333=>326|329=>327|330=>328|334=>329|335=>330|336=>331|344=>336|n=>n,λ|31=>152|9=>9|3=>3|46=>327|0=>0|51=>341|53=>27|4=>4|183=>335|182=>334|131=>137|5=>5|218=>345|222=>108|228=>353|229=>354|n=>n,λ|n=>n⟩
theorem Tryz.ER:Go.Proofs.Lays.n190 Tryz.prog Tryz.DU:={
 mixed:=by kernel_rfl
 f125:=Tryz.func288.trans (congrArg some (by kernel_rfl))
 f128:=Tryz.func315.trans (congrArg some (by kernel_rfl))
 f129:=Tryz.func316.trans (congrArg some (by kernel_rfl))
 f190:=Tryz.func265.trans (congrArg some (by kernel_rfl))
 f258:=Tryz.func287.trans (congrArg some (by kernel_rfl))
 f302:=Tryz.func306.trans (congrArg some (by kernel_rfl))
 f303:=Tryz.func307.trans (congrArg some (by kernel_rfl))
 f304:=Tryz.func308.trans (congrArg some (by kernel_rfl))
 f305:=Tryz.func309.trans (congrArg some (by kernel_rfl))
 f306:=Tryz.func310.trans (congrArg some (by kernel_rfl))
 f307:=Tryz.func311.trans (congrArg some (by kernel_rfl))
 f308:=Tryz.func312.trans (congrArg some (by kernel_rfl))
 f309:=Tryz.func313.trans (congrArg some (by kernel_rfl))
 f310:=Tryz.func314.trans (congrArg some (by kernel_rfl))
 f329:=Tryz.func327.trans (congrArg some (by kernel_rfl))
 f330:=Tryz.func328.trans (congrArg some (by kernel_rfl))
 f333:=Tryz.func326.trans (congrArg some (by kernel_rfl))
 f334:=Tryz.func329.trans (congrArg some (by kernel_rfl))
 f335:=Tryz.func330.trans (congrArg some (by kernel_rfl))
 f336:=Tryz.func331.trans (congrArg some (by kernel_rfl))
 f344:=Tryz.func336.trans (congrArg some (by kernel_rfl))
 t0:=Tryz.underlying0
 a0:=Tryz.isAgg0
 z0:=Tryz.sizeOf0
 v0:=Tryz.zeroValue0
 t3:=Tryz.underlying3
 a3:=Tryz.isAgg3
 z3:=Tryz.sizeOf3
 v3:=Tryz.zeroValue3
 t4:=Tryz.underlying4
 a4:=Tryz.isAgg4
 z4:=Tryz.sizeOf4
 v4:=Tryz.zeroValue4
 t5:=Tryz.underlying5
 a5:=Tryz.isAgg5
 z5:=Tryz.sizeOf5
 v5:=Tryz.zeroValue5
 t9:=Tryz.underlying9
 a9:=Tryz.isAgg9
 z9:=Tryz.sizeOf9
 v9:=Tryz.zeroValue9
 t31:=Tryz.underlying152
 a31:=Tryz.isAgg152
 z31:=Tryz.sizeOf152
 v31:=Tryz.zeroValue152
 t46:=Tryz.underlying327
 a46:=Tryz.isAgg327
 z46:=Tryz.sizeOf327
 v46:=Tryz.zeroValue327
 t51:=Tryz.underlying341
 a51:=Tryz.isAgg341
 z51:=Tryz.sizeOf341
 v51:=Tryz.zeroValue341
 t53:=Tryz.underlying27
 a53:=Tryz.isAgg27
 z53:=Tryz.sizeOf27
 v53:=Tryz.zeroValue27
 t131:=Tryz.underlying137
 a131:=Tryz.isAgg137
 z131:=Tryz.sizeOf137
 v131:=Tryz.zeroValue137
 t182:=Tryz.underlying334
 a182:=Tryz.isAgg334
 z182:=Tryz.sizeOf334
 v182:=Tryz.zeroValue334
 t183:=Tryz.underlying335
 a183:=Tryz.isAgg335
 z183:=Tryz.sizeOf335
 v183:=Tryz.zeroValue335
 t218:=Tryz.underlying345
 a218:=Tryz.isAgg345
 z218:=Tryz.sizeOf345
 v218:=Tryz.zeroValue345
 t222:=Tryz.underlying108
 a222:=Tryz.isAgg108
 z222:=Tryz.sizeOf108
 v222:=Tryz.zeroValue108
 t228:=Tryz.underlying353
 a228:=Tryz.isAgg353
 z228:=Tryz.sizeOf353
 v228:=Tryz.zeroValue353
 t229:=Tryz.underlying354
 a229:=Tryz.isAgg354
 z229:=Tryz.sizeOf354
 v229:=Tryz.zeroValue354}
open Go.Sort Go.RowKit in
theorem Tryz.slices_Sort_string(cU off cap:Nat)(ss:List (List UInt8))(w:World)(hH:Holds encStr w cU off ss.toArray)(hblk:cU<w.heap.size)(hsz:ss.length<4611686018427387904):
 Calls Tryz.prog 265 #[.slice (some ⟨cU,off,none⟩) ss.length cap] w λe w'=>
  e= .returned (.tuple #[])/\∃n os,w'=grow (putRow encStr (Sort.ahead w n) cU off (ss.mergeSort λx y=>decide (x<=y)).toArray) os:=Any.slices_Sort_string Tryz.ER cU off cap ss w hH hblk hsz
open Go.RowKit Go.Sort in
theorem Tryz.slices_Sort_string_none(p:Option Addr)(cap:Nat)(w:World):
 Calls Tryz.prog 265 #[.slice p 0 cap] w λe w'=>e= .returned (.tuple #[])/\w'=w:=Any.slices_Sort_string_none Tryz.ER p cap w
end Go.Proofs
namespace Go.Proofs.YtpmmdkcfenjiaaaGreatDoor
open Value renaming int->aa,pointer->ai,slice->aj,string->ak,tuple->ao,iface->aq,bool->ar,agg->au,nilIface->ay
open IntKind renaming i64->az,u8->bc
open Ending renaming returned->bf
open Obj renaming cells->bg
open Option renaming some->bh,none->bj
open Tryz (prog)
open Go.RowKit
open Tr (Fo Nd)
theorem yk(s:bU)(w:bD)(hs:s.size<=1000000):Calls prog 279 #[ak s] w λe w'=>e=bf (ak s)/\Below w.heap.size w w':=by
 have HC:=hJ (Tryz.stringslite_Clone s w bu);go_in
 go_wp2_with fail
 refine sC HC.v ?_;rintro w1 b1;have B1:=hJ b1;go_wp2
 go_ret
 exact⟨rfl,B1.v⟩
def Tr.iF(x:Nd)(s:bU)(k:Nat):Nd:={x with dS:=gY x.dS x.size s,cR:=gY x.cR x.size k,size:=x.size+1}
def Tr.km(F:Fo)(n:Nat)(s:bU)(k:Nat):Fo:=
 if((F.put n (Tr.iF (F.nd n) s k)).nd k).kind=2 then(F.put n (Tr.iF (F.nd n) s k)).put k {(F.put n (Tr.iF (F.nd n) s k)).nd k with up:=n}else F.put n (Tr.iF (F.nd n) s k)
theorem bN.qB{w:bD}{b:Nat}{F:Fo}(h:bN w b F)(n i k:Nat)(s:bU)(hn:n<40)(hi:i<8):bN ((w.setCell ⟨b,n*62+6+i*2,bj⟩ (ak s)).setCell ⟨b,n*62+6+i*2+1,bj⟩ (aa az (k:Int))) b (F.put n {F.nd n with dS:=gY (F.nd n).dS i s,cR:=gY (F.nd n).cR i k}):=by
 have a:=(h.RY n i s hn hi).RW n i k hn hi;rw[Tr.bF]at a;refine a.congr (λo _=>?_);unfold jr;by_cases c:o<2480
 .rw[aJ c,aJ c];by_cases d:o/62=n
  .rw[d,Tr.bF,Tr.bF]
  .rw[Tr.bM _ _ _ _ d,Tr.bM _ _ _ _ d,Tr.bM _ _ _ _ d]
 .rw[aI c,aI c];rfl
theorem Tr.gA(F:Fo)(n:Nat)(x y:Nd):(F.put n x).put n y=F.put n y:=by unfold Fo.put;grind
theorem qM(b n k:Nat)(s:bU)(F:Fo)(w:bD)(h:bN w b F)(hn:n<40)(hk:k<40)(hz:(F.nd n).size<8)(hs:s.size<=1000000):
  Calls prog 257 #[ai (bh ⟨b,0,bj⟩),aa az (n:Int),ak s,aa az (k:Int)] w λe w'=>e=bf (ao #[])/\bN w' b (Tr.km F n s k)/\bE b w w':=by
 have HF:=hJ h;have nI:(n:Int)<40:=bu
 have kI:(k:Int)<40:=bu
 obtain⟨sz,hsz⟩:=hU ((F.nd n).size);have HSZ:=hJ hsz;rw[hsz]at hz;have szI:(sz:Int)<8:=bu
 have hw:IntKind.i64.wrap ((sz:Int)+1)=(sz:Int)+1:=aN _ ⟨by omega,bu⟩;go_in
 go_wp2
 go_quiet (fail)
 generalize hW:World.drewN w _=W1;have S1:Hid (bN W1 b F/\bE b w W1):=hJ (by rw[<-hW];exact⟨HF.drewN _,(bE.refl b w).drewN _⟩);have K0:Hid (W1.cell? ⟨b,n*62+3,bj⟩=bh (aa az (sz:Int))):=hJ (by rw[<-HSZ.v];exact S1.1.mK n hn);have KS:Hid (∀W,bN W b F->((W.setCell ⟨b,n*62+6+sz*2,bj⟩ (ak s)).setCell ⟨b,n*62+6+sz*2+1,bj⟩ (aa az (k:Int))).cell? ⟨b,n*62+3,bj⟩=bh (aa az (sz:Int))):=hJ (λW hW=>by
  have:=(hW.qB n sz k s hn hz).mK n hn;rw[Tr.bF]at this;rw[this,<-HSZ.v])
 have c0:∀W,bN W b F->(∃v,W.cell? ⟨b,n*62+6+sz*2,bj⟩=bh (ak v))/\(∃v:Nat,W.cell? ⟨b,n*62+6+sz*2+1,bj⟩=bh (aa az (v:Int))):=λW hW=>⟨⟨_,hW.vW n sz hn hz⟩,⟨_,hW.tA n sz hn hz⟩⟩;have HC0:=hJ c0;go_wp2
 go_region_held3 (λw'=>w'.cell? ⟨b,n*62+3,bj⟩=bh (aa az (sz:Int))) (first|exact K0.v|exact K2.v|exact KS.v _ H2.1|go_keep) ((go_at_call 279;refine sC (yk s _ hs) ?_;rintro w2 b2;have H2:Hid (bN w2 b F/\bE b w w2):=hJ ⟨S1.1.drew.below b2,S1.2.drew.trans (bE.cC b2)⟩;have K2:Hid (w2.cell? ⟨b,n*62+3,bj⟩=bh (aa az (sz:Int))):=hJ (by rw[<-HSZ.v];exact H2.1.mK n hn);obtain⟨⟨v1,q1⟩,⟨v2,q2⟩⟩:=HC0.v w2 H2.1;have qf:=H2.1.frozen))
 generalize hW3:(w2.setCell ⟨b,n*62+6+sz*2,bj⟩ (ak s)).setCell ⟨b,n*62+6+sz*2+1,bj⟩ (aa az (k:Int))=W3;have S3:Hid (bN W3 b (F.put n {F.nd n with dS:=gY (F.nd n).dS sz s,cR:=gY (F.nd n).cR sz k})/\bE b w W3):=hJ (by
  rw[<-hW3];exact⟨H2.1.qB n sz k s hn hz,(H2.2.setCell _ _).setCell _ _⟩)
 have c3:W3.cell? ⟨b,n*62+3,bj⟩=bh (aa az (sz:Int)):=by
  have:=S3.1.mK n hn;rw[Tr.bF]at this;rw[this,<-HSZ.v]
 have cf3:=S3.1.frozen;have S4:Hid (bN (W3.setCell ⟨b,n*62+3,bj⟩ (aa az ((sz:Int)+1))) b (F.put n (Tr.iF (F.nd n) s k))/\bE b w (W3.setCell ⟨b,n*62+3,bj⟩ (aa az ((sz:Int)+1)))):=hJ (by
  have a:=S3.1.zn n (sz+1) hn;rw[Tr.bF,Tr.gA]at a;have e:Tr.iF (F.nd n) s k={F.nd n with dS:=gY (F.nd n).dS sz s,cR:=gY (F.nd n).cR sz k,size:=sz+1}:=by unfold Tr.iF;rw[HSZ.v]
  rw[e];exact⟨a,S3.2.setCell _ _⟩)
 go_upto_region 3 with fail
 refine cG (λW=>bN W b (F.put n (Tr.iF (F.nd n) s k))/\bE b w W) S4.v ?_;intro W4 h4;have S5:=hJ h4;obtain⟨F2,hF2⟩:=hU (F.put n (Tr.iF (F.nd n) s k));have HL:Hid (Tr.km F n s k=if(F2.nd k).kind=2 then F2.put k {F2.nd k with up:=n}else F2):=hJ (by unfold Tr.km;rw[hF2]);rw[hF2]at S5;have c5:=S5.1.si k hk;have cu:=S5.1.Tq k hk;have cf:=S5.1.frozen;by_cases k2:(F2.nd k).kind=2
 .have FIN:Hid (bN (W4.setCell ⟨b,k*62+5,bj⟩ (aa az (n:Int))) b (Tr.km F n s k)/\bE b w (W4.setCell ⟨b,k*62+5,bj⟩ (aa az (n:Int)))):=hJ (by
   rw[HL.v,aJ k2];exact⟨S5.1.SR k n hk,S5.2.setCell _ _⟩)
  rw[k2]at c5;have c5':W4.cell? ⟨b,k*62,bj⟩=bh (aa .i64 2):=c5;generalize (F2.nd k).up=uu at*;go_wp2
  go_end0
  exact⟨rfl,FIN.v⟩
 .have FIN:Hid (bN W4 b (Tr.km F n s k)):=hJ (by rw[HL.v,aI k2];exact S5.1);have k2':(((F2.nd k).kind:Int)==2)=false:=by simp;omega
  generalize (F2.nd k).kind=kk at*;go_wp2
  go_end0
  exact⟨rfl,FIN.v,S5.2⟩
section
variable {ops:Array Oper}{rest:List Oper}{x:Oper}{a:Act}{w:bD}{Q:Exit->Act->bD->Prop}
def eR(kd tr up:Nat):Nd:={Nd.no with kind:=kd,cJ:=1,tree:=tr,up:=up}
theorem wR(hgd:x.guard=bj)(y0 y1 y2:Operand)(kd tr up:Nat)(ho:x.op= .build 204 #[(0,y0),(1,y1),(2,y2)])(h0:a.eval y0=au #[aa az (kd:Int),aa az 1,aa az 0,aa az 0])(h1:a.eval y1=aa az (tr:Int))(h2:a.eval y2=aa az (up:Int))(h:wpList prog ops Q rest (a.put x.dst (au (dg (eR kd tr up)))) w):wpList prog ops Q (x::rest) a w:=
 wpList_plain hgd λ_ hK=>by
  unfold Oper.wp execOp;simp only[ho,List.map_toArray,List.map_cons,List.map_nil,h0,h1,h2];simp[go_sem];exact hK _ _ h
end
def Tr.zl(F:Fo)(n:Nat):Fo:={F.put n (eR 2 F.trees n)with root:=gY F.root F.trees n,trees:=F.trees+1}
def Tr.qs(F:Fo)(T:Nat)(E:Int)(G:Fo):Prop:=(F.trees=4/\T=0/\E=4/\G=F)\/(F.trees≠4/\∃n e,Tr.gq F n e/\((e≠0/\T=0/\E=e/\G=F)\/(e=0/\T=F.trees/\E=0/\G=Tr.zl F n)))
theorem yl(b:Nat)(F:Fo)(w:bD)(h:bN w b F)(ht:F.trees<=4):
  Calls prog 89 #[ai (bh ⟨b,0,bj⟩)] w λe w'=>∃(T:Nat) (E:Int) (G:Fo),e=bf (ao #[aa az (T:Int),bG E])/\Tr.qs F T E G/\bN w' b G/\bE b w w':=by
 have HF:=hJ h;have c0:=h.Bp;by_cases t4:F.trees=4
 .have FIN:Hid (Tr.qs F 0 4 F):=hJ (.inl ⟨t4,rfl,rfl,rfl⟩);rw[t4]at c0;have c0':w.cell? ⟨b,2484,bj⟩=bh (aa .i64 4):=c0;go_in
  go_wp2
  go_ret2
  exact⟨0,4,F,rfl,FIN.v,HF.v,bE.refl _ _⟩
 .have HT4:=hJ t4;obtain⟨tt,htt⟩:=hU (F.trees);have HTT:=hJ htt;rw[htt]at c0;have tI:(tt:Int)<4:=bu
  have t4':((tt:Int)==4)=false:=by simp;omega
  have hw:IntKind.i64.wrap ((tt:Int)+1)=(tt:Int)+1:=aN _ ⟨by omega,bu⟩;have tN:tt<4:=bu
  go_in
  go_wp2_with fail
  refine(uD b F _ HF.v).mono ?_;rintro e w1 ⟨n,E,rfl,hf,hw1⟩;subst w1;have HFR:=hJ hf;by_cases e0:E=0
  .subst e0;have n40:n<40:=by
    rcases hf with⟨_,h1,_⟩|⟨h1,_⟩
    .exact h1
    .omega
   have nI:(n:Int)<40:=bu
   have TH:=hJ (HF.there n n40 (eR 2 tt n));have HS:=hJ (oA (eR 2 tt n));have H1:=hJ (oC (eR 2 tt n));have S1:Hid (bN (w.setCells b (n*62) (dg (eR 2 tt n)).toList) b (F.put n (eR 2 tt n))/\bE b w (w.setCells b (n*62) (dg (eR 2 tt n)).toList)):=hJ ⟨HF.setNode n n40 _,bE.setCells _ _ (bE.refl b w)⟩;obtain⟨A,hA⟩:=hU (dg (eR 2 tt n));rw[hA]at TH HS H1 S1;rw[bB];go_upto_region 8 with(first|(refine wR rfl _ _ _ 2 tt n rfl rfl rfl rfl ?_;rw[hA])|(refine wpList_store_mid rfl 204 _ _ rfl b (n*62) A rfl rfl TH.v HS.v H1.v ?_))
   refine cG (λW=>bN W b (F.put n (eR 2 tt n))/\bE b w W) S1.v ?_;intro W2 h2;have S2:=hJ h2;have c2:=h2.1.Bp;have c3:=h2.1.NR tt tN;have cf:=h2.1.frozen;rw[show(F.put n (eR 2 tt n)).trees=tt from HTT.v]at c2;generalize (F.put n (eR 2 tt n)).root tt=rr at*;have S3:Hid (bN ((W2.setCell ⟨b,2480+tt,bj⟩ (aa az (n:Int))).setCell ⟨b,2484,bj⟩ (aa az ((tt:Int)+1))) b (Tr.zl F n)/\bE b w ((W2.setCell ⟨b,2480+tt,bj⟩ (aa az (n:Int))).setCell ⟨b,2484,bj⟩ (aa az ((tt:Int)+1)))):=hJ (by
    have a:=(h2.1.Qh tt n tN).Nf (tt+1);refine⟨?_,(h2.2.setCell _ _).setCell _ _⟩;unfold Tr.zl;rw[HTT.v];exact a)
   go_wp2
   go_ret2
   exact⟨tt,0,_,rfl, .inr ⟨HT4.v,n,0,HFR.v, .inr ⟨rfl,HTT.symm,rfl,rfl⟩⟩,S3.v⟩
  .have E2:Hid (bG E=aq 100 (aa az E)/\E≠0):=hJ ⟨bC e0,e0⟩;rw[E2.1];go_wp2
   go_ret2
   exact⟨0,E,F,by rw[E2.1];rfl, .inr ⟨HT4.v,n,E,HFR.v, .inl ⟨E2.2,rfl,rfl,rfl⟩⟩,HF.v,bE.refl _ _⟩
def fA(F:Fo):Array Value:=((List.range 2485).map (jr F)).toArray
theorem Sj(F:Fo)(i:Nat)(h:i<2485):(fA F)[i]? =bh (jr F i):=by simp[fA,h]
theorem Sn:Tryz.zeroCells208=fA Tr.f0:=by kernel_rfl
theorem Ns(w:bD):Calls prog 87 #[] w λe w'=>e=bf (ai (bh ⟨w.heap.size,0,bj⟩))/\bN w' w.heap.size Tr.f0/\Below w.heap.size w w':=by
 have FIN:Hid (bN (w.alloc (bg Tryz.zeroCells208 208)) w.heap.size Tr.f0):=hJ (by
  have h:=heap_alloc_new w (bg Tryz.zeroCells208 208);have h2:(w.alloc (bg Tryz.zeroCells208 208)).heap[w.heap.size]? =bh (bg (fA Tr.f0) 208 (0,0)):=by rw[<-Sn];exact h
  exact⟨⟨_,h2,by simp[fA]⟩,λo ho=>by rw[bO h2,Sj _ o ho]⟩)
 go_in
 go_wp2
 go_ret
 exact⟨rfl,FIN.v,(aQ _ _).alloc (aL _) _⟩
theorem Tr.nW.ok{F:Fo}{z:Int}{s:bU}(h:Tr.nW F z s 0):∃n:Nat,z=n/\n<40/\(F.nd n).kind=2/\Tr.fM s=true/\Tr.fp (F.nd n) s (-1)/\(F.nd n).size≠8:=by
 rcases h with⟨h1,h2⟩|⟨h1,h2⟩
 .omega
 .obtain⟨n,rfl,h3,_,h5⟩:=Tr.eZ h1;rcases h2 with⟨_,h6⟩|⟨h6,⟨_,_,h7⟩|⟨h7,⟨_,h8⟩|⟨h8,_⟩⟩⟩
  .omega
  .omega
  .omega
  .exact⟨n,rfl,h3,h5,h6,h7,h8⟩
theorem Tr.oZ{s:bU}(h:Tr.fM s=true):s.size<=8:=by grind [Tr.fM]
def Tr.jz(F:Fo)(n:Nat)(s:bU)(kd k:Nat):Fo:=Tr.km (F.put k (eR kd (F.nd n).tree 0)) n s k
def Tr.rW(F:Fo)(z:Int)(s:bU)(kz:Int)(K:Nat)(E:Int)(G:Fo):Prop:=
 (kz≠1/\kz≠2/\K=0/\E=1/\G=F)\/((kz=1\/kz=2)/\∃e,Tr.nW F z s e/\((e≠0/\K=0/\E=e/\G=F)\/(e=0/\∃k e2,Tr.gq F k e2/\((e2≠0/\K=0/\E=e2/\G=F)\/(e2=0/\K=k/\E=0/\G=Tr.jz F z.toNat s kz.toNat k)))))
theorem Iz(kd tr:Nat)(w:bD):(Instr.build 204 #[(0,au #[aa az (kd:Int),aa az 1,aa az 0,aa az 0]),(1,aa az (tr:Int))]).run prog w= .ok (au (dg (eR kd tr 0))) w:=by
 simp[go_sem];rfl
theorem qK{ops:Array Oper}{rest:List Oper}{x:Oper}{a:Act}{w:bD}{Q:Act->Prop}(hgd:x.guard=bj)(y0 y1:Operand)(kd tr:Nat)(ho:x.op= .build 204 #[(0,y0),(1,y1)])(h0:a.eval y0=au #[aa az (kd:Int),aa az 1,aa az 0,aa az 0])(h1:a.eval y1=aa az (tr:Int))
  (h:wpStill prog ops w Q rest (a.put x.dst (au (dg (eR kd tr 0))))):wpStill prog ops w Q (x::rest) a:=by
 refine wpStill_step (λK hK=>?_);have hw:Region.wanted x (yielded ops a.tmps)=true:=by simp[Region.wanted,hgd]
 rw[aJ hw];have hb:=Iz kd tr w;unfold Oper.still execOp;simp only[ho,List.map_toArray,List.map_cons,List.map_nil,h0,h1,Sem.run_bind,hb,Result.andThen_ok,Sem.run_pure,Oper.stillUpon_value];exact hK _ h
theorem Nr(b:Nat)(z:Int)(s:bU)(kz:Int)(F:Fo)(w:bD)(h:bN w b F)(k1:¬kz=1)(k2:¬kz=2):
  Calls prog 242 #[ai (bh ⟨b,0,bj⟩),aa az z,ak s,aa az kz] w λe w'=>∃(K:Nat) (E:Int) (G:Fo),e=bf (ao #[aa az (K:Int),bG E])/\Tr.rW F z s kz K E G/\bN w' b G/\bE b w w':=by
 have HF:=hJ h;have FIN:Hid (Tr.rW F z s kz 0 1 F):=hJ (.inl ⟨k1,k2,rfl,rfl,rfl⟩);have d1:(kz==1)=false:=by simpa using k1
 have d3:(kz !=1)=true:=by simpa using k1
 have d4:(kz !=2)=true:=by simpa using k2
 go_in
 go_wp2
 go_ret2
 exact⟨0,1,F,rfl,FIN.v,HF.v,bE.refl _ _⟩
theorem Qk(b:Nat)(z:Int)(s:bU)(F:Fo)(w:bD)(h:bN w b F)(hs:Tr.j5 F):
  Calls prog 242 #[ai (bh ⟨b,0,bj⟩),aa az z,ak s,aa az 1] w λe w'=>∃(K:Nat) (E:Int) (G:Fo),e=bf (ao #[aa az (K:Int),bG E])/\Tr.rW F z s 1 K E G/\bN w' b G/\bE b w w':=by
 have HF:=hJ (aK h hs);go_in
 go_wp2_with fail
 refine(rm b z s F _ HF.1 HF.2).mono ?_;rintro e w1 ⟨E,rfl,hw1,b1⟩;have S1:Hid (Tr.nW F z s E/\bN w1 b F/\bE b w w1):=hJ ⟨hw1,HF.1.below b1,bE.cC b1⟩;by_cases e0:E=0
 .subst e0;obtain⟨n,rfl,n40,k2,hnm,_,hsz⟩:=S1.1.ok;have HN:Hid ((F.nd n).kind=2/\s.size<=8/\(F.nd n).size<8):=hJ ⟨k2,Tr.oZ hnm,by have:=HF.2 n n40 k2;omega⟩;rw[gy,bB];go_wp2_with fail
  refine(uD b F _ S1.2.1).mono ?_;rintro e w2 ⟨k,E,rfl,hf,hw2⟩;subst w2;have HFR:=hJ hf;by_cases f0:E=0
  .subst f0;obtain⟨k40,kk0⟩:k<40/\(F.nd k).kind=0:=by
    rcases hf with⟨_,h1,h2,_⟩|⟨h1,_⟩
    .exact⟨h1,h2⟩
    .omega
   have kI:(k:Int)<40:=bu
   have nk:n≠k:=λe=>by rw[e]at HN;rw[kk0]at HN;exact aZ HN.1 bA
   obtain⟨tr,htr⟩:=hU ((F.nd n).tree);have K0:w1.cell? ⟨b,n*62+4,bj⟩=bh (aa az (tr:Int)):=by rw[<-htr];exact S1.2.1.sq n n40
   have K1:w1.drew.cell? ⟨b,n*62+4,bj⟩=bh (aa az (tr:Int)):=K0;have S3:Hid (bN (w1.drew.setCells b (k*62) (dg (eR 1 tr 0)).toList) b (F.put k (eR 1 tr 0))/\bE b w (w1.drew.setCells b (k*62) (dg (eR 1 tr 0)).toList)):=hJ ⟨S1.2.1.drew.setNode k k40 _,bE.setCells _ _ S1.2.2.drew⟩;have TH:=hJ (S1.2.1.drew.there k k40 (eR 1 tr 0));have HS:=hJ (oA (eR 1 tr 0));have H1:=hJ (oC (eR 1 tr 0));have HMK:Hid (Tr.jz F n s 1 k=Tr.km (F.put k (eR 1 tr 0)) n s k):=hJ (by unfold Tr.jz;rw[htr]);obtain⟨A,hA⟩:=hU (dg (eR 1 tr 0));rw[hA]at S3 TH HS H1;rw[bB];go_upto_region 9 with fail
   refine wp_region_still_tail 12 bw bw ?_;simp only[List.take_succ_cons,List.take_zero,List.drop_succ_cons,List.drop_zero]
   iterate 8 still_step
   refine qK rfl _ _ 1 tr rfl rfl rfl ?_;rw[hA]
   iterate 3 still_step
   refine wpStill_nil ?_;refine wpList_store_mid rfl 204 _ _ rfl b (k*62) A rfl rfl TH.v HS.v H1.v ?_;refine wpList_nil ?_;have S4:=S3;have TN:Hid ((F.put k (eR 1 tr 0)).nd n=F.nd n):=hJ (Tr.bM _ _ _ _ nk);go_wp2_with fail
   refine sC (qM b n k s _ _ S4.1 n40 k40 (by rw[TN.v];exact HN.2.2) (aH HN.2.1 bA)) ?_;rintro W5 ⟨h5,f5⟩;have S5:Hid (bN W5 b (Tr.jz F n s 1 k)/\bE b w W5):=hJ ⟨by rw[HMK.v];exact h5,S4.2.trans f5⟩;go_wp2
   go_ret2
   exact⟨k,0,_,rfl, .inr ⟨by decide,0,S1.1, .inr ⟨rfl,k,0,HFR.v, .inr ⟨rfl,rfl,rfl,rfl⟩⟩⟩,S5.v⟩
  .have E2:Hid (bG E=aq 100 (aa az E)/\E≠0):=hJ ⟨bC f0,f0⟩;rw[E2.1];go_wp2
   go_ret2
   exact⟨0,E,F,by rw[E2.1];rfl, .inr ⟨by decide,0,S1.1, .inr ⟨rfl,k,E,HFR.v, .inl ⟨E2.2,rfl,rfl,rfl⟩⟩⟩,S1.2⟩
 .have E2:Hid (bG E=aq 100 (aa az E)/\E≠0):=hJ ⟨bC e0,e0⟩;rw[E2.1];go_wp2
  go_ret2
  exact⟨0,E,F,by rw[E2.1];rfl, .inr ⟨by decide,E,S1.1, .inl ⟨E2.2,rfl,rfl,rfl⟩⟩,S1.2⟩
theorem Ql(b:Nat)(z:Int)(s:bU)(F:Fo)(w:bD)(h:bN w b F)(hs:Tr.j5 F):
  Calls prog 242 #[ai (bh ⟨b,0,bj⟩),aa az z,ak s,aa az 2] w λe w'=>∃(K:Nat) (E:Int) (G:Fo),e=bf (ao #[aa az (K:Int),bG E])/\Tr.rW F z s 2 K E G/\bN w' b G/\bE b w w':=by
 have HF:=hJ (aK h hs);go_in
 go_wp2_with fail
 refine(rm b z s F _ HF.1 HF.2).mono ?_;rintro e w1 ⟨E,rfl,hw1,b1⟩;have S1:Hid (Tr.nW F z s E/\bN w1 b F/\bE b w w1):=hJ ⟨hw1,HF.1.below b1,bE.cC b1⟩;by_cases e0:E=0
 .subst e0;obtain⟨n,rfl,n40,k2,hnm,_,hsz⟩:=S1.1.ok;have HN:Hid ((F.nd n).kind=2/\s.size<=8/\(F.nd n).size<8):=hJ ⟨k2,Tr.oZ hnm,by have:=HF.2 n n40 k2;omega⟩;rw[gy,bB];go_wp2_with fail
  refine(uD b F _ S1.2.1).mono ?_;rintro e w2 ⟨k,E,rfl,hf,hw2⟩;subst w2;have HFR:=hJ hf;by_cases f0:E=0
  .subst f0;obtain⟨k40,kk0⟩:k<40/\(F.nd k).kind=0:=by
    rcases hf with⟨_,h1,h2,_⟩|⟨h1,_⟩
    .exact⟨h1,h2⟩
    .omega
   have kI:(k:Int)<40:=bu
   have nk:n≠k:=λe=>by rw[e]at HN;rw[kk0]at HN;exact aZ HN.1 bA
   obtain⟨tr,htr⟩:=hU ((F.nd n).tree);have K0:w1.cell? ⟨b,n*62+4,bj⟩=bh (aa az (tr:Int)):=by rw[<-htr];exact S1.2.1.sq n n40
   have K1:w1.drew.cell? ⟨b,n*62+4,bj⟩=bh (aa az (tr:Int)):=K0;have S3:Hid (bN (w1.drew.setCells b (k*62) (dg (eR 2 tr 0)).toList) b (F.put k (eR 2 tr 0))/\bE b w (w1.drew.setCells b (k*62) (dg (eR 2 tr 0)).toList)):=hJ ⟨S1.2.1.drew.setNode k k40 _,bE.setCells _ _ S1.2.2.drew⟩;have TH:=hJ (S1.2.1.drew.there k k40 (eR 2 tr 0));have HS:=hJ (oA (eR 2 tr 0));have H1:=hJ (oC (eR 2 tr 0));have HMK:Hid (Tr.jz F n s 2 k=Tr.km (F.put k (eR 2 tr 0)) n s k):=hJ (by unfold Tr.jz;rw[htr]);obtain⟨A,hA⟩:=hU (dg (eR 2 tr 0));rw[hA]at S3 TH HS H1;rw[bB];go_upto_region 9 with fail
   refine wp_region_still_tail 12 bw bw ?_;simp only[List.take_succ_cons,List.take_zero,List.drop_succ_cons,List.drop_zero]
   iterate 8 still_step
   refine qK rfl _ _ 2 tr rfl rfl rfl ?_;rw[hA]
   iterate 3 still_step
   refine wpStill_nil ?_;refine wpList_store_mid rfl 204 _ _ rfl b (k*62) A rfl rfl TH.v HS.v H1.v ?_;refine wpList_nil ?_;have S4:=S3;have TN:Hid ((F.put k (eR 2 tr 0)).nd n=F.nd n):=hJ (Tr.bM _ _ _ _ nk);go_wp2_with fail
   refine sC (qM b n k s _ _ S4.1 n40 k40 (by rw[TN.v];exact HN.2.2) (aH HN.2.1 bA)) ?_;rintro W5 ⟨h5,f5⟩;have S5:Hid (bN W5 b (Tr.jz F n s 2 k)/\bE b w W5):=hJ ⟨by rw[HMK.v];exact h5,S4.2.trans f5⟩;go_wp2
   go_ret2
   exact⟨k,0,_,rfl, .inr ⟨by decide,0,S1.1, .inr ⟨rfl,k,0,HFR.v, .inr ⟨rfl,rfl,rfl,rfl⟩⟩⟩,S5.v⟩
  .have E2:Hid (bG E=aq 100 (aa az E)/\E≠0):=hJ ⟨bC f0,f0⟩;rw[E2.1];go_wp2
   go_ret2
   exact⟨0,E,F,by rw[E2.1];rfl, .inr ⟨by decide,0,S1.1, .inr ⟨rfl,k,E,HFR.v, .inl ⟨E2.2,rfl,rfl,rfl⟩⟩⟩,S1.2⟩
 .have E2:Hid (bG E=aq 100 (aa az E)/\E≠0):=hJ ⟨bC e0,e0⟩;rw[E2.1];go_wp2
  go_ret2
  exact⟨0,E,F,by rw[E2.1];rfl, .inr ⟨by decide,E,S1.1, .inl ⟨E2.2,rfl,rfl,rfl⟩⟩,S1.2⟩
theorem J9(b:Nat)(z:Int)(s:bU)(kz:Int)(F:Fo)(w:bD)(h:bN w b F)(hs:Tr.j5 F):
 Calls prog 242 #[ai (bh ⟨b,0,bj⟩),aa az z,ak s,aa az kz] w λe w'=>∃(K:Nat) (E:Int) (G:Fo),e=bf (ao #[aa az (K:Int),bG E])/\Tr.rW F z s kz K E G/\bN w' b G/\bE b w w':=by grind [Qk,Ql,Nr]
def Tr.eE(x:Nd)(i:Nat):Nd:={x with dS:=gY (gY x.dS i (x.dS (x.size-1))) (x.size-1) ByteArray.empty,cR:=gY (gY x.cR i (x.cR (x.size-1))) (x.size-1) 0,size:=x.size-1}
theorem rk(b n i:Nat)(s:bU)(F:Fo)(w:bD)(h:bN w b F)(hn:n<40)(hm8:(F.nd n).size<=8)(hp:Tr.fp (F.nd n) s (i:Int)):
  Calls prog 252 #[ai (bh ⟨b,n*62,bj⟩),ak s] w λe w'=>e=bf (ao #[])/\bN w' b (F.put n (Tr.eE (F.nd n) i))/\bE b w w':=by
 have HF:=hJ h;have hi:i<(F.nd n).size:=by
  rcases hp with⟨j,e,h1,_⟩|⟨e,_⟩
  .omega
  .omega
 have HP:=hJ hp;obtain⟨sz,hsz⟩:=hU ((F.nd n).size);obtain⟨l,hl⟩:=hU (sz-1);have HSZ:Hid ((F.nd n).size=sz/\(F.nd n).size-1=l):=hJ ⟨hsz,bu⟩;have hm:Hid ((F.nd n).size<=8):=hJ hm8;rw[hsz]at hi hm8;have iI:(i:Int)<(sz:Int):=bu
 have lI:(l:Int)<(sz:Int):=bu
 have hw:IntKind.i64.wrap ((sz:Int)-1)=(l:Int):=(aN _ ⟨by omega,bu⟩).trans bu;have l8:l<8:=bu
 have i8:i<8:=bu
 obtain⟨sl,hsl⟩:=hU ((F.nd n).dS l);obtain⟨kl,hkl⟩:=hU ((F.nd n).cR l);have HL:Hid ((F.nd n).dS l=sl/\(F.nd n).cR l=kl):=hJ ⟨hsl,hkl⟩;clear h hp hsz hi hl hm8 hsl hkl;go_in
 go_wp2_with fail
 refine sC (qb b n F _ HF.v hn hm.v) ?_;rintro W1 ⟨k,hW⟩;rw[HSZ.1];have S1:Hid (bN W1 b F/\bE b w W1):=hJ (by rw[hW];exact⟨HF.drewN _,(bE.refl b w).drewN _⟩);clear hW;have K0:Hid (∀W,bN W b F->W.cell? ⟨b,n*62+6+l*2,bj⟩=bh (ak sl)/\W.cell? ⟨b,n*62+6+l*2+1,bj⟩=bh (aa az (kl:Int))):=hJ (λW hW=>by
  rw[<-HL.1,<-HL.2];exact⟨hW.vW n l hn l8,hW.tA n l hn l8⟩)
 have KS:Hid (∀W,bN W b F->((W.setCell ⟨b,n*62+6+i*2,bj⟩ (ak sl)).setCell ⟨b,n*62+6+i*2+1,bj⟩ (aa az (kl:Int))).cell? ⟨b,n*62+6+l*2,bj⟩=bh (ak sl)/\((W.setCell ⟨b,n*62+6+i*2,bj⟩ (ak sl)).setCell ⟨b,n*62+6+i*2+1,bj⟩ (aa az (kl:Int))).cell? ⟨b,n*62+6+l*2+1,bj⟩=bh (aa az (kl:Int))):=hJ (λW hW=>by
  have a:=hW.qB n i kl sl hn i8;have c1:=a.vW n l hn l8;have c2:=a.tA n l hn l8;rw[Tr.bF]at c1 c2;rw[c1,c2];show bh (ak (gY (F.nd n).dS i sl l))=_/\bh (aa az ((gY (F.nd n).cR i kl l:Nat):Int))=_;unfold gY;rw[HL.1,HL.2,ite_self,ite_self];exact⟨rfl,rfl⟩)
 have HC0:Hid (∀W,bN W b F->(∃v,W.cell? ⟨b,n*62+6+i*2,bj⟩=bh (ak v))/\(∃v:Nat,W.cell? ⟨b,n*62+6+i*2+1,bj⟩=bh (aa az (v:Int)))):=hJ (λW hW=>⟨⟨_,hW.vW n i hn i8⟩,⟨_,hW.tA n i hn i8⟩⟩);have K1:Hid (W1.cell? ⟨b,n*62+6+l*2,bj⟩=bh (ak sl)/\W1.cell? ⟨b,n*62+6+l*2+1,bj⟩=bh (aa az (kl:Int))):=hJ (K0.v W1 S1.1);go_wp2_with fail
 go_region_held3 (λw'=>w'.cell? ⟨b,n*62+6+l*2,bj⟩=bh (ak sl)/\w'.cell? ⟨b,n*62+6+l*2+1,bj⟩=bh (aa az (kl:Int))) (first|exact K1.v|exact K2.v|exact KS.v _ H2.1|go_keep) ((go_at_call 282;refine(sS b n s F _ S1.1.drew hn hm.v).mono ?_;rintro e w2 ⟨y,rfl,hp2,b2⟩;have hy:=hp2.unique HP.v;subst hy;have H2:Hid (bN w2 b F/\bE b w w2):=hJ ⟨S1.1.drew.below b2,S1.2.drew.trans (bE.cC b2)⟩;have K2:Hid (w2.cell? ⟨b,n*62+6+l*2,bj⟩=bh (ak sl)/\w2.cell? ⟨b,n*62+6+l*2+1,bj⟩=bh (aa az (kl:Int))):=hJ (K0.v w2 H2.1);obtain⟨⟨v1,q1⟩,⟨v2,q2⟩⟩:=HC0.v w2 H2.1;have qf:=H2.1.frozen;clear b2 hp2))
 generalize hW3:(w2.setCell ⟨b,n*62+6+i*2,bj⟩ (ak sl)).setCell ⟨b,n*62+6+i*2+1,bj⟩ (aa az (kl:Int))=W3;have S3:Hid (bN W3 b (F.put n {F.nd n with dS:=gY (F.nd n).dS i sl,cR:=gY (F.nd n).cR i kl})/\bE b w W3):=hJ (by
  rw[<-hW3];exact⟨H2.1.qB n i kl sl hn i8,(H2.2.setCell _ _).setCell _ _⟩)
 clear hW3 K0 K1 K2 KS HC0 q1 q2 qf H2 S1;obtain⟨⟨v1,q1⟩,⟨v2,q2⟩⟩:(∃v,W3.cell? ⟨b,n*62+6+l*2,bj⟩=bh (ak v))/\(∃v:Nat,W3.cell? ⟨b,n*62+6+l*2+1,bj⟩=bh (aa az (v:Int))):=⟨⟨_,S3.1.vW n l hn l8⟩,⟨_,S3.1.tA n l hn l8⟩⟩;have qf:=S3.1.frozen;have S4:Hid (bN ((W3.setCell ⟨b,n*62+6+l*2,bj⟩ (ak ByteArray.empty)).setCell ⟨b,n*62+6+l*2+1,bj⟩ (aa .i64 0)) b (F.put n {F.nd n with dS:=gY (gY (F.nd n).dS i sl) l ByteArray.empty,cR:=gY (gY (F.nd n).cR i kl) l 0})/\bE b w ((W3.setCell ⟨b,n*62+6+l*2,bj⟩ (ak ByteArray.empty)).setCell ⟨b,n*62+6+l*2+1,bj⟩ (aa .i64 0))):=hJ (by
  have a:=S3.1.qB n l 0 ByteArray.empty hn l8;rw[Tr.bF,Tr.gA]at a;exact⟨a,(S3.2.setCell _ _).setCell _ _⟩)
 go_upto_region 4 with fail
 refine cG (λW=>bN W b (F.put n {F.nd n with dS:=gY (gY (F.nd n).dS i sl) l ByteArray.empty,cR:=gY (gY (F.nd n).cR i kl) l 0})/\bE b w W) S4.v ?_;intro W4 h4;have S5:=hJ h4;clear h4 S4 S3 q1 q2 qf;have c3:=S5.1.mK n hn;rw[Tr.bF]at c3;have c3':W4.cell? ⟨b,n*62+3,bj⟩=bh (aa az (sz:Int)):=by rw[c3];show bh (aa az (((F.nd n).size:Nat):Int))=_;rw[HSZ.1]
 have cf:=S5.1.frozen;have FIN:Hid (bN (W4.setCell ⟨b,n*62+3,bj⟩ (aa az (l:Int))) b (F.put n (Tr.eE (F.nd n) i))/\bE b w (W4.setCell ⟨b,n*62+3,bj⟩ (aa az (l:Int)))):=hJ (by
  have a:=S5.1.zn n l hn;rw[Tr.bF,Tr.gA]at a;unfold Tr.eE;rw[HSZ.2,HL.1,HL.2];exact⟨a,S5.2.setCell _ _⟩)
 clear c3;go_wp2_with fail
 go_end0
 exact⟨rfl,FIN.v⟩
def Tr.zc(F:Fo)(k n:Nat)(s:bU):Fo:=Tr.km (F.put k {F.nd k with cJ:=(F.nd k).cJ+1}) n s k
def Tr.AF(F:Fo)(y z:Int)(s:bU)(E:Int)(G:Fo):Prop:=
 (Tr.cD F y 1≠0/\E=Tr.cD F y 1/\G=F)\/(Tr.cD F y 1=0/\∃e,Tr.nW F z s e/\((e≠0/\E=e/\G=F)\/(e=0/\(((F.nd y.toNat).tree≠(F.nd z.toNat).tree/\E=11/\G=F)\/((F.nd y.toNat).tree=(F.nd z.toNat).tree/\E=0/\G=Tr.zc F y.toNat z.toNat s)))))
theorem J7(b:Nat)(y z:Int)(s:bU)(F:Fo)(w:bD)(h:bN w b F)(hs:Tr.j5 F)(hL:∀n,n<40->(F.nd n).kind≠0->(F.nd n).cJ<2^60):
  Calls prog 209 #[ai (bh ⟨b,0,bj⟩),aa az y,aa az z,ak s] w λe w'=>∃(E:Int) (G:Fo),e=bf (bG E)/\Tr.AF F y z s E G/\bN w' b G/\bE b w w':=by
 have HF:=hJ (aK h hs);by_cases c:Tr.cD F y 1=0
 .obtain⟨k,rfl,k40,kk0,kk1⟩:=Tr.eZ c;have EP:Hid (Tr.cD F (k:Int) 1=0/\eY b (k:Int) 0=ai (bh ⟨b,k*62,bj⟩)):=hJ ⟨c,gy b k⟩;have HK1:=hJ (aK kk1 (hL k k40 kk0));go_in
  go_wp2_with fail
  refine sC (iq b k F _ HF.1) ?_;rintro w0 hw0;subst w0;rw[EP.1,EP.2,bB];go_wp2_with fail
  refine(rm b z s F _ HF.1 HF.2).mono ?_;rintro e w1 ⟨E,rfl,hw1,b1⟩;have S1:Hid (Tr.nW F z s E/\bN w1 b F/\bE b w w1):=hJ ⟨hw1,HF.1.below b1,bE.cC b1⟩;by_cases e0:E=0
  .subst e0;obtain⟨n,rfl,n40,k2,hnm,_,hsz⟩:=S1.1.ok;have HN:Hid ((F.nd n).kind=2/\s.size<=8/\(F.nd n).size<8):=hJ ⟨k2,Tr.oZ hnm,by have:=HF.2 n n40 k2;omega⟩;have nk:n≠k:=λe=>by have:=HK1.1;rw[<-e,k2]at this;exact aZ this bA
   rw[gy,bB];have c1:=S1.2.1.sq k k40;have c2:=S1.2.1.sq n n40;by_cases tt:(F.nd k).tree=(F.nd n).tree
   .have HT:=hJ tt;rw[tt]at c1;obtain⟨tr,htr⟩:=hU ((F.nd n).tree);rw[htr]at c1 c2;obtain⟨lk,hlk⟩:=hU ((F.nd k).cJ);have c3:=S1.2.1.drew.tB k k40;rw[hlk]at c3;have c4:w1.cell? ⟨b,k*62+1,bj⟩=bh (aa az (lk:Int)):=c3;have hb:=HK1.2;rw[hlk]at hb;have hw:IntKind.i64.wrap ((lk:Int)+1)=(lk:Int)+1:=aN _ ⟨by omega,bu⟩;have cf:=S1.2.1.frozen;have S3:Hid (∀nq,bN ((w1.drewN nq).setCell ⟨b,k*62+1,bj⟩ (aa az ((lk:Int)+1))) b (F.put k {F.nd k with cJ:=lk+1})/\bE b w ((w1.drewN nq).setCell ⟨b,k*62+1,bj⟩ (aa az ((lk:Int)+1)))):=hJ (λnq=>⟨(S1.2.1.drewN nq).wG k (lk+1) k40,(S1.2.2.drewN nq).setCell _ _⟩);have HMK:Hid (Tr.zc F k n s=Tr.km (F.put k {F.nd k with cJ:=lk+1}) n s k):=hJ (by unfold Tr.zc;rw[hlk]);have TN:Hid ((F.put k {F.nd k with cJ:=lk+1}).nd n=F.nd n):=hJ (Tr.bM _ _ _ _ nk);go_wp2_with fail
    go_quiet (fail)
    go_upto_region 10 with fail
    refine cG (λW=>bN W b (F.put k {F.nd k with cJ:=lk+1})/\bE b w W) (S3.v _) ?_;intro W4 h4;have S4:=hJ h4;go_wp2_with fail
    refine sC (qM b n k s _ _ S4.1 n40 k40 (by rw[TN.v];exact HN.2.2) (aH HN.2.1 bA)) ?_;rintro W5 ⟨h5,f5⟩;have S5:Hid (bN W5 b (Tr.zc F k n s)/\bE b w W5):=hJ ⟨by rw[HMK.v];exact h5,S4.2.trans f5⟩;go_wp2
    go_ret
    exact⟨0,_,rfl, .inr ⟨EP.1,0,S1.1, .inr ⟨rfl, .inr ⟨HT.v,rfl,rfl⟩⟩⟩,S5.v⟩
   .have HT:=hJ tt;generalize (F.nd k).tree=t1 at c1 tt;generalize (F.nd n).tree=t2 at c2 tt;have tI:((t1:Int)==(t2:Int))=false:=by simp;omega
    have tI2:¬(t1:Int)=(t2:Int):=bu
    go_wp2_with fail
    go_quiet (fail)
    go_wp2
    go_ret
    exact⟨11,F,rfl, .inr ⟨EP.1,0,S1.1, .inr ⟨rfl, .inl ⟨HT.v,rfl,rfl⟩⟩⟩,S1.2.1.drewN _,S1.2.2.drewN _⟩
  .have E2:Hid (bG E=aq 100 (aa az E)/\E≠0):=hJ ⟨bC e0,e0⟩;rw[E2.1];go_wp2
   go_ret
   exact⟨E,F,by rw[E2.1];rfl, .inr ⟨EP.1,E,S1.1, .inl ⟨E2.2,rfl,rfl⟩⟩,S1.2⟩
 .have E2:Hid (eY b y (Tr.cD F y 1)=ai bj/\bG (Tr.cD F y 1)=aq 100 (aa az (Tr.cD F y 1))/\Tr.AF F y z s (Tr.cD F y 1) F):=hJ ⟨gT c,bC c, .inl ⟨c,rfl,rfl⟩⟩;go_in
  go_wp2_with fail
  refine sC (iq b y F _ HF.1) ?_;rintro w1 hw;subst w1;rw[E2.1,E2.2.1];go_wp2
  go_ret
  exact⟨_,F,by rw[E2.2.1];rfl,E2.2.2,HF.1,bE.refl _ _⟩
def Tr.dn(F:Fo):Nat->Nat->Prop
 |0,n=>n<40/\(F.nd n).up=n
 |m+1,n=>n<40/\((F.nd n).up=n\/Tr.dn F m (F.nd n).up)
def Tr.gE(F:Fo)(o:Nat):Nat->Nat->Bool
 |0,n=>n==o
 |m+1,n=>n==o||(!((F.nd n).up==n)&&Tr.gE F o m (F.nd n).up)
def Tr.qT(F:Fo):Nat->Nat->Nat
 |0,_=>0
 |m+1,n=>if(F.nd n).up=n then 0 else 1+Tr.qT F m (F.nd n).up
theorem Tr.dn.lt{F:Fo}{n m:Nat}(h:Tr.dn F m n):n<40:=by cases m<;>exact h.1
theorem Tr.dn.more{F:Fo}:∀{m n:Nat},Tr.dn F m n->Tr.dn F (m+1) n/\Tr.qT F (m+1) n=Tr.qT F m n/\∀o,Tr.gE F o (m+1) n=Tr.gE F o m n
 |0,n,h=>⟨⟨h.1, .inl h.2⟩,aJ h.2,λo=>by
  show(n==o||(!((F.nd n).up==n)&&_))=(n==o);rw[h.2];simp⟩
 |m+1,n,⟨h1,h2⟩=>by
  by_cases c:(F.nd n).up=n
  .refine⟨⟨h1, .inl c⟩,?_,λo=>?_⟩
   .unfold Tr.qT;rw[aJ c,aJ c]
   .unfold Tr.gE;simp[c]
  .rcases h2 with h2|h2
   .exact aZ h2 c
   .obtain⟨a1,a2,a3⟩:=Tr.dn.more h2;refine⟨⟨h1, .inr a1⟩,?_,λo=>?_⟩
    .show(if _ then 0 else 1+Tr.qT F (m+1) _)=(if _ then 0 else 1+Tr.qT F m _);rw[a2]
    .show(n==o||(!((F.nd n).up==n)&&Tr.gE F o (m+1) (F.nd n).up))=(n==o||(!((F.nd n).up==n)&&Tr.gE F o m (F.nd n).up));rw[a3]
theorem Tr.dn.step{F:Fo}{m n:Nat}(h:Tr.dn F m n)(c:(F.nd n).up≠n):Tr.dn F m (F.nd n).up/\Tr.qT F m (F.nd n).up<Tr.qT F m n/\∀o,n≠o->Tr.gE F o m n=Tr.gE F o m (F.nd n).up:=by
 cases m with
 |zero=>exact aZ h.2 c
 |succ m=>
  rcases h.2 with h2|h2
  .exact aZ h2 c
  .obtain⟨a1,a2,a3⟩:=h2.more;refine⟨a1,?_,λo ho=>?_⟩
   .rw[a2];show _<(if _ then 0 else 1+Tr.qT F m _);rw[aI c];omega
   .rw[a3];show(n==o||(!((F.nd n).up==n)&&Tr.gE F o m (F.nd n).up))=_;rw[show(n==o)=false from by simpa using ho,show((F.nd n).up==n)=false from by simpa using c];rfl
theorem Tr.qy(F:Fo)(m n:Nat):Tr.gE F n m n=true:=by cases m<;>simp[Tr.gE]
theorem Tr.Iu{F:Fo}(m:Nat){n o:Nat}(c:(F.nd n).up=n)(h:n≠o):Tr.gE F o m n=false:=by cases m<;>simp[Tr.gE,c,h]
theorem Hz(b n o m:Nat)(F:Fo)(w:bD)(h:bN w b F)(he:Tr.dn F m n):
  Calls prog 255 #[ai (bh ⟨b,0,bj⟩),aa az (n:Int),aa az (o:Int)] w λe w'=>e=bf (ar (Tr.gE F o m n))/\w'=w:=by
 have HF:=hJ h;have HE:=hJ he;go_in
 go_wp2
 go_loopw [1] (λi wr=>∃(y:Nat),i=aa az y/\Hid (Tr.dn F m y/\Tr.gE F o m n=Tr.gE F o m y)/\wr=w) (λi _=>Tr.qT F m (intOf i).toNat)
 case atStart=>exact⟨n,rfl,hJ ⟨HE.v,rfl⟩,rfl⟩
 case round=>
  obtain⟨y,rfl,R,hwr⟩:=hrel;subst wr;have y40:=R.1.lt;have yI:(y:Int)<40:=bu
  by_cases c:y=o
  .subst c;have FIN:Hid (Tr.gE F y m n=true):=hJ (by rw[R.2];exact Tr.qy F m y);go_wp2
   go_ret
   exact⟨by rw[FIN.v];simp,rfl⟩
  .have c1:((y:Int)==(o:Int))=false:=by simp;omega
   have c2:¬(y:Int)=(o:Int):=bu
   have c3:((y:Int) !=(o:Int))=true:=by simp;omega
   have c0:=HF.Tq y y40;by_cases d:(F.nd y).up=y
   .rw[d]at c0;have FIN:Hid (Tr.gE F o m n=false):=hJ (by rw[R.2];exact Tr.Iu m d c);go_wp2
    go_ret
    exact⟨by rw[FIN.v];simp,rfl⟩
   .have NX:=hJ (R.1.step d);obtain⟨u,hu⟩:=hU ((F.nd y).up);rw[hu]at c0 NX d;have d2:¬(y:Int)=(u:Int):=bu
    have d3:((y:Int) !=(u:Int))=true:=by simp;omega
    go_wp2
    go_roundw
    case rel=>exact⟨u,rfl,hJ ⟨NX.1,R.2.trans (NX.2.2 o c)⟩,by first|rfl|trivial⟩
    case measure=>simp[intOf];exact NX.2.1
def Tr.FE(F:Fo):Prop:=∀n,n<40->(F.nd n).kind=2->∀i,i<(F.nd n).size->(F.nd n).cR i<40/\1<=(F.nd ((F.nd n).cR i)).cJ/\(F.nd ((F.nd n).cR i)).cJ<2^60
def Tr.wC(F:Fo)(n i k:Nat):Fo:=
 Tr.lB ((F.put n (Tr.eE (F.nd n) i)).put k {(F.put n (Tr.eE (F.nd n) i)).nd k with cJ:=(F.nd k).cJ-1}) k
def Tr.xk(F:Fo)(z:Int)(s:bU)(E:Int)(G:Fo):Prop:=
 ∃K e,Tr.kA F z s K e/\((e≠0/\E=e/\G=F)\/(e=0/\(((F.nd K).kind=2/\(0<(F.nd K).size\/0<(F.nd K).held)/\E=5/\G=F)\/(¬((F.nd K).kind=2/\(0<(F.nd K).size\/0<(F.nd K).held))/\E=0/\∃i:Nat,Tr.fp (F.nd z.toNat) s (i:Int)/\G=Tr.wC F z.toNat i K))))
theorem Tr.fp.lt{x:Nd}{s:bU}{i:Nat}(h:Tr.fp x s (i:Int)):i<x.size:=by
 rcases h with⟨j,e,h1,_⟩|⟨e,_⟩
 .omega
 .omega
theorem Tr.kA.ok{F:Fo}{z:Int}{s:bU}{K:Nat}(h:Tr.kA F z s K 0):∃n i:Nat,z=n/\n<40/\(F.nd n).kind=2/\Tr.fp (F.nd n) s (i:Int)/\K=(F.nd n).cR i:=by
 rcases h with⟨h1,_,h2⟩|⟨h1,h2⟩
 .exact aZ h2.symm h1
 .obtain⟨n,rfl,h3,_,h5⟩:=Tr.eZ h1;rw[hZ]at h2;rcases h2 with⟨i,h6,h7,_⟩|⟨_,_,h7⟩
  .exact⟨n,i,rfl,h3,h5,h6,h7⟩
  .exact aZ h7 bA
theorem Tr.zO(F:Fo)(n i k:Nat):((F.put n (Tr.eE (F.nd n) i)).nd k).cJ=(F.nd k).cJ:=by
 by_cases c:k=n
 .subst c;rw[Tr.bF];rfl
 .rw[Tr.bM _ _ _ _ c]
theorem Ee(b:Nat)(z:Int)(s:bU)(F:Fo)(w:bD)(h:bN w b F)(hs:Tr.j5 F)(hK:Tr.FE F):
  Calls prog 206 #[ai (bh ⟨b,0,bj⟩),aa az z,ak s] w λe w'=>∃(E:Int) (G:Fo),e=bf (bG E)/\Tr.xk F z s E G/\bN w' b G/\bE b w w':=by
 have HF:=hJ (aK h hs);have HH:=hJ (aK True.intro hK);clear h hs hK;go_in
 go_wp2_with fail
 refine(uC b z s F _ HF.1 HF.2).mono ?_;rintro e w1 ⟨k,E,rfl,hw1,b1⟩;have S1:Hid (Tr.kA F z s k E/\bN w1 b F/\bE b w w1):=hJ ⟨hw1,HF.1.below b1,bE.cC b1⟩;clear hw1 b1;by_cases e0:E=0
 .subst e0;obtain⟨n,i,rfl,n40,k2,hp,hk⟩:=S1.1.ok;have k40:k<40:=by rw[hk];exact(HH.2 n n40 k2 i hp.lt).1
  have l1:1<=(F.nd k).cJ:=by rw[hk];exact(HH.2 n n40 k2 i hp.lt).2.1
  have l2:(F.nd k).cJ<2^60:=by rw[hk];exact(HH.2 n n40 k2 i hp.lt).2.2
  have HN:Hid ((F.nd n).size<=8/\Tr.fp (F.nd n) s (i:Int)):=hJ ⟨HF.2 n n40 k2,hp⟩;have nI:(n:Int)<40:=bu
  have kI:(k:Int)<40:=bu
  obtain⟨lk,hlk⟩:=hU ((F.nd k).cJ);have HLK:=hJ hlk;rw[hlk]at l1 l2;have hw:IntKind.i64.wrap ((lk:Int)-1)=((lk-1:Nat):Int):=(aN _ ⟨by omega,bu⟩).trans bu;rw[bB];clear k2 hp hk hlk l1 l2;have c0:=S1.2.1.si k k40;have cs:=S1.2.1.mK k k40;have ch:=S1.2.1.xA k k40;by_cases kk:(F.nd k).kind=2
  .rw[kk]at c0;have c0':w1.cell? ⟨b,k*62,bj⟩=bh (aa .i64 2):=c0;clear c0;by_cases z0:0<(F.nd k).size
   .have FIN:Hid (Tr.xk F (n:Int) s 5 F):=hJ ⟨k,0,S1.1, .inr ⟨rfl, .inl ⟨kk, .inl z0,rfl,rfl⟩⟩⟩;generalize (F.nd k).size=zz at cs z0;have zI:(0:Int)<(zz:Int):=bu
    clear kk ch;go_wp2
    go_ret
    exact⟨5,F,rfl,FIN.v,S1.2⟩
   .by_cases h0:0<(F.nd k).held
    .have FIN:Hid (Tr.xk F (n:Int) s 5 F):=hJ ⟨k,0,S1.1, .inr ⟨rfl, .inl ⟨kk, .inr h0,rfl,rfl⟩⟩⟩;rw[show(F.nd k).size=0 by omega]at cs;have cs':w1.cell? ⟨b,k*62+3,bj⟩=bh (aa .i64 0):=cs;generalize (F.nd k).held=zz at ch h0;have zI:(0:Int)<(zz:Int):=bu
     clear kk cs z0;go_wp2
     go_ret
     exact⟨5,F,rfl,FIN.v,S1.2⟩
    .rw[show(F.nd k).size=0 by omega]at cs;have cs':w1.cell? ⟨b,k*62+3,bj⟩=bh (aa .i64 0):=cs;rw[show(F.nd k).held=0 by omega]at ch;have ch':w1.cell? ⟨b,k*62+2,bj⟩=bh (aa .i64 0):=ch;have NB:Hid (¬((F.nd k).kind=2/\(0<(F.nd k).size\/0<(F.nd k).held))):=hJ bu;clear kk cs ch z0 h0;go_wp2_with fail
     refine sC (rk b n i s F _ S1.2.1 n40 HN.1 HN.2) ?_;rintro w2 ⟨h2,f2⟩;have S2:Hid (bN w2 b (F.put n (Tr.eE (F.nd n) i))/\bE b w w2):=hJ ⟨h2,S1.2.2.trans f2⟩;clear h2 f2 c0' cs' ch';have c5:=S2.1.tB k k40;rw[Tr.zO,HLK.v]at c5;have cf:=S2.1.frozen;have S3:Hid (bN (w2.setCell ⟨b,k*62+1,bj⟩ (aa az ((lk-1:Nat):Int))) b ((F.put n (Tr.eE (F.nd n) i)).put k {(F.put n (Tr.eE (F.nd n) i)).nd k with cJ:=lk-1})/\bE b w (w2.setCell ⟨b,k*62+1,bj⟩ (aa az ((lk-1:Nat):Int)))):=hJ ⟨S2.1.wG k (lk-1) k40,S2.2.setCell _ _⟩;have HLZ:Hid ((F.nd k).cJ-1=lk-1):=hJ (by rw[HLK.v]);generalize lk-1=lz at*;go_wp2_with fail
     refine sC (sU b k _ _ S3.1 k40) ?_;rintro w4 ⟨h4,f4⟩;have S4:Hid (bN w4 b (Tr.wC F n i k)/\bE b w w4):=hJ ⟨by unfold Tr.wC;rw[HLZ.v];exact h4,S3.2.trans f4⟩;clear h4 f4;go_wp2
     go_ret
     exact⟨0,_,rfl,⟨k,0,S1.1, .inr ⟨rfl, .inr ⟨NB.v,rfl,i,by rw[hZ];exact HN.2,by rw[hZ]⟩⟩⟩,S4.v⟩
  .have NB:Hid (¬((F.nd k).kind=2/\(0<(F.nd k).size\/0<(F.nd k).held))):=hJ bu;generalize (F.nd k).kind=kz at c0 kk;have kz1:((kz:Int)==2)=false:=by simp;omega
   have kz2:¬(kz:Int)=2:=bu
   clear kk cs ch;go_wp2_with fail
   refine sC (rk b n i s F _ S1.2.1 n40 HN.1 HN.2) ?_;rintro w2 ⟨h2,f2⟩;have S2:Hid (bN w2 b (F.put n (Tr.eE (F.nd n) i))/\bE b w w2):=hJ ⟨h2,S1.2.2.trans f2⟩;clear h2 f2 c0 kz1 kz2;have c5:=S2.1.tB k k40;rw[Tr.zO,HLK.v]at c5;have cf:=S2.1.frozen;have S3:Hid (bN (w2.setCell ⟨b,k*62+1,bj⟩ (aa az ((lk-1:Nat):Int))) b ((F.put n (Tr.eE (F.nd n) i)).put k {(F.put n (Tr.eE (F.nd n) i)).nd k with cJ:=lk-1})/\bE b w (w2.setCell ⟨b,k*62+1,bj⟩ (aa az ((lk-1:Nat):Int)))):=hJ ⟨S2.1.wG k (lk-1) k40,S2.2.setCell _ _⟩;have HLZ:Hid ((F.nd k).cJ-1=lk-1):=hJ (by rw[HLK.v]);generalize lk-1=lz at*;go_wp2_with fail
   refine sC (sU b k _ _ S3.1 k40) ?_;rintro w4 ⟨h4,f4⟩;have S4:Hid (bN w4 b (Tr.wC F n i k)/\bE b w w4):=hJ ⟨by unfold Tr.wC;rw[HLZ.v];exact h4,S3.2.trans f4⟩;clear h4 f4;go_wp2
   go_ret
   exact⟨0,_,rfl,⟨k,0,S1.1, .inr ⟨rfl, .inr ⟨NB.v,rfl,i,by rw[hZ];exact HN.2,by rw[hZ]⟩⟩⟩,S4.v⟩
 .have E2:Hid (bG E=aq 100 (aa az E)/\E≠0):=hJ ⟨bC e0,e0⟩;rw[E2.1];clear e0;go_wp2
  go_ret
  exact⟨E,F,by rw[E2.1];rfl,⟨k,E,S1.1, .inl ⟨E2.2,rfl,rfl⟩⟩,S1.2⟩
theorem bN.range{w:bD}{b:Nat}{F:Fo}(h:bN w b F)(n:Nat)(hn:n<40):w.rangeAt b (n*62) (dg (F.nd n)).toList:=λj v hv=>by
 have hj:j<62:=by have:=(aY.1 hv).1;rwa [iT]at this
 rw[aM,Cu _ j hj]at hv;rw[<-hv];exact h.nd n j hn hj
section
variable {ops:Array Oper}{rest:List Oper}{x:Oper}{a:Act}{w:bD}{Q:Exit->Act->bD->Prop}
theorem yB(hgd:x.guard=bj)(ho:x.op= .alloc 204)(h:wpList prog ops Q rest (a.put x.dst (ai (bh ⟨w.heap.size,0,bj⟩))) (w.alloc (bg (dg Nd.no) 204))):wpList prog ops Q (x::rest) a w:=
 wpList_plain hgd λ_ hK=>by
  unfold Oper.wp execOp;simp only[ho];simp[go_sem];exact hK _ _ h
end
theorem MP{w:bD}{c:Nat}{A:Array Value}{T:TypeId}(x:Nd)(h:w.heap[c]? =bh (bg A T (0,0)))(hA:A.size=62):w.there c 0 (dg x).size:=λj hj=>by
 rw[mT]at hj;exact⟨by rw[bO h];simp[hA];omega,cv h _⟩
theorem PK{w:bD}{c:Nat}{A:Array Value}{T:TypeId}(x:Nd)(h:w.heap[c]? =bh (bg A T (0,0)))(hA:A.size=62):(w.setCells c 0 (dg x).toList).rangeAt c 0 (dg x).toList:=λj v hv=>by
 have hj:j<62:=by have:=(aY.1 hv).1;rwa [iT]at this
 have:=aS c (dg x).toList 0 w (λi hi=>by
  rw[iT]at hi;rw[bO h];simp[hA];exact hi) j (by rw[iT];exact hj)
 rw[this,<-hv,aW (by rw[iT];exact hj)]
theorem ur{w w':bD}{c:Nat}{L:List Value}(h:w.rangeAt c 0 L)(e:w'.heap[c]? =w.heap[c]?):w'.rangeAt c 0 L:=λj v hv=>(aV e).trans (h j v hv)
theorem Tr.CE(F:Fo)(n:Nat):F.put n (F.nd n)=F:=by
 unfold Fo.put;have:(λm=>if m=n then F.nd n else F.nd m)=F.nd:=by
  funext m;by_cases c:m=n
  .rw[aJ c,c]
  .rw[aI c]
 rw[this]
def Tr.He(F:Fo)(n i t k:Nat)(o:bU):Fo:=Tr.km (F.put n (Tr.eE (F.nd n) i)) t o k
def Tr.FH(F:Fo)(z:Int)(s:bU)(y:Int)(o:bU)(E:Int)(G:Fo):Prop:=
 ∃K e,Tr.kA F z s K e/\((e≠0/\E=e/\G=F)\/(e=0/\((Tr.cD F y 2≠0/\E=Tr.cD F y 2/\G=F)\/(Tr.cD F y 2=0/\(((F.nd z.toNat).tree≠(F.nd y.toNat).tree/\E=11/\G=F)\/((F.nd z.toNat).tree=(F.nd y.toNat).tree/\
  ((Tr.gE F K 40 y.toNat=true/\E=5/\G=F)\/(Tr.gE F K 40 y.toNat=false/\∃i:Nat,Tr.fp (F.nd z.toNat) s (i:Int)/\∃e2,Tr.nU ((F.put z.toNat (Tr.eE (F.nd z.toNat) i)).nd y.toNat) o e2/\((e2≠0/\E=e2/\G=F)\/(e2=0/\E=0/\G=Tr.He F z.toNat i y.toNat K o))))))))))
theorem Tr.nU.ok{x:Nd}{s:bU}(h:Tr.nU x s 0):Tr.fM s=true/\x.size≠8:=by
 rcases h with⟨_,h⟩|⟨h1,⟨_,_,h⟩|⟨_,⟨_,h⟩|⟨h2,_⟩⟩⟩
 .omega
 .omega
 .omega
 .exact⟨h1,h2⟩
theorem Ka(b:Nat)(z:Int)(s:bU)(y:Int)(o:bU)(F:Fo)(w:bD)(h:bN w b F)(hs:Tr.j5 F)(hK:Tr.FE F)(hE:∀n,n<40->(F.nd n).kind=2->Tr.dn F 40 n):
  Calls prog 207 #[ai (bh ⟨b,0,bj⟩),aa az z,ak s,aa az y,ak o] w λe w'=>∃(E:Int) (G:Fo),e=bf (bG E)/\Tr.FH F z s y o E G/\bN w' b G/\bE b w w':=by
 have HF:=hJ (aK h hs);have HH:=hJ (aK hE hK);clear h hs hE hK;go_in
 go_wp2_with fail
 refine(uC b z s F _ HF.1 HF.2).mono ?_;rintro e w1 ⟨k,E,rfl,hw1,b1⟩;have S1:Hid (Tr.kA F z s k E/\bN w1 b F/\bE b w w1):=hJ ⟨hw1,HF.1.below b1,bE.cC b1⟩;clear hw1 b1;by_cases e0:E=0
 .subst e0;obtain⟨n,i,rfl,n40,k2,hp,hk⟩:=S1.1.ok;have k40:k<40:=by rw[hk];exact(HH.2 n n40 k2 i hp.lt).1
  have HN:Hid ((F.nd n).size<=8/\Tr.fp (F.nd n) s (i:Int)):=hJ ⟨HF.2 n n40 k2,hp⟩;have nI:(n:Int)<40:=bu
  have kI:(k:Int)<40:=bu
  rw[bB];clear k2 hp hk;by_cases c:Tr.cD F y 2=0
  .obtain⟨t,rfl,t40,_,t2⟩:=Tr.eZ c;have EP:Hid (Tr.cD F (t:Int) 2=0/\eY b (t:Int) 0=ai (bh ⟨b,t*62,bj⟩)):=hJ ⟨c,gy b t⟩;have HEN:Hid (Tr.dn F 40 t/\(F.nd t).size<=8):=hJ ⟨HH.1 t t40 t2,HF.2 t t40 t2⟩;clear c t2;go_wp2_with fail
   refine sC (kV b t F _ S1.2.1) ?_;rintro w0 hw0;subst w0;rw[EP.1,EP.2,bB];have c1:=S1.2.1.sq n n40;have c2:=S1.2.1.sq t t40;by_cases tt:(F.nd n).tree=(F.nd t).tree
   .have HT:=hJ tt;rw[tt]at c1;generalize (F.nd t).tree=tr at c1 c2;clear tt;go_wp2_with fail
    go_quiet (fail)
    go_upto_region 10 with fail
    refine cG (λW=>bN W b F/\bE b w W) ⟨S1.2.1.drewN _,S1.2.2.drewN _⟩ ?_;intro W2 h2;have S2:=hJ h2;clear h2 c1 c2;go_wp2_with fail
    refine sC (Hz b t k 40 F _ S2.1 HEN.1) ?_;rintro w3 hw3;subst w3;obtain⟨bb,hbb⟩:=hU (Tr.gE F k 40 t);have HBB:=hJ hbb;rw[hbb];clear hbb;cases bb
    .have N0:Hid ((W2.alloc (bg (dg Nd.no) 204)).heap[W2.heap.size]? =bh (bg (dg Nd.no) 204 (0,0))):=hJ (heap_alloc_new W2 _);have HR:=hJ (S2.1.range n n40);have TH:=hJ (MP (F.nd n) N0.v (mT _));have HS:=hJ (oA (F.nd n));have H1:=hJ (oC (F.nd n));have hlen:Hid ((prog.info? 204).map (·.size)=bh (dg (F.nd n)).toList.length):=hJ (by rw[iT];kernel_rfl);have S3:Hid ((bN ((W2.alloc (bg (dg Nd.no) 204)).setCells W2.heap.size 0 (dg (F.nd n)).toList) b F/\bE b w ((W2.alloc (bg (dg Nd.no) 204)).setCells W2.heap.size 0 (dg (F.nd n)).toList))/\((W2.alloc (bg (dg Nd.no) 204)).setCells W2.heap.size 0 (dg (F.nd n)).toList).rangeAt W2.heap.size 0 (dg (F.nd n)).toList/\W2.heap.size<((W2.alloc (bg (dg Nd.no) 204)).setCells W2.heap.size 0 (dg (F.nd n)).toList).heap.size/\W2.heap.size≠b):=hJ (by
      have q:Below W2.heap.size W2 ((W2.alloc (bg (dg Nd.no) 204)).setCells W2.heap.size 0 (dg (F.nd n)).toList):=(bE.setCells _ _ (bE.refl W2.heap.size _)).below ((aQ _ _).alloc (aL _) _) (aL _) (by simp);refine⟨⟨S2.1.below q,S2.2.trans (bE.cC q)⟩,PK _ N0.v (mT _),?_,?_⟩
      .have:=(bE.setCells (b:=W2.heap.size) (dg (F.nd n)).toList 0 (bE.refl W2.heap.size (W2.alloc (bg (dg Nd.no) 204)))).size;have e:(W2.alloc (bg (dg Nd.no) 204)).heap.size=W2.heap.size+1:=by simp
       omega
      .have:=S2.1.lt;omega)
     obtain⟨A,hA⟩:=hU (dg (F.nd n));have HA:=hJ hA;rw[hA]at HR TH HS H1 S3 hlen;clear hA;go_upto_region 13 with(first|(refine wpList_load_mid rfl 204 _ rfl b (n*62) rfl A.toList _ HR.v Tryz.underlying204 rfl hlen.v ?_;rw[Array.toArray_toList])|(refine yB rfl rfl ?_)|(refine wpList_store_mid rfl 204 _ _ rfl W2.heap.size 0 A rfl rfl TH.v HS.v H1.v ?_))
     generalize hcc:W2.heap.size=cc at*;refine cG (λW=>(bN W b F/\bE b w W)/\W.rangeAt cc 0 A.toList/\cc<W.heap.size/\cc≠b) S3.v ?_;intro W3 h3;have S4:=hJ h3;clear h3 S3 N0 HR TH hcc;go_wp2_with fail
     refine sC (rk b n i s F _ S4.1.1 n40 HN.1 HN.2) ?_;rintro w4 ⟨h4,f4⟩;obtain⟨F1,hF1⟩:=hU (F.put n (Tr.eE (F.nd n) i));have HF1:=hJ hF1;rw[hF1]at h4;have z8:Hid ((F1.nd t).size<=8):=hJ (by
      rw[<-hF1];by_cases d:t=n
      .subst d;rw[Tr.bF];show(F.nd t).size-1<=8;have:=HEN.2;omega
      .rw[Tr.bM _ _ _ _ d];exact HEN.2)
     have S5:Hid ((bN w4 b F1/\bE b w w4)/\w4.rangeAt cc 0 A.toList/\cc<w4.heap.size):=hJ ⟨⟨h4,S4.1.2.trans f4⟩,ur S4.2.1 (f4.block cc S4.2.2.1 S4.2.2.2),aD S4.2.2.1 f4.size⟩;clear h4 f4 hF1;go_wp2_with fail
     refine(uE b t o F1 _ S5.1.1 t40 z8.v).mono ?_;rintro e w5 ⟨E,rfl,hr,b5⟩;have S6:Hid ((bN w5 b F1/\bE b w w5)/\w5.rangeAt cc 0 A.toList/\Tr.nU (F1.nd t) o E):=hJ ⟨⟨S5.1.1.below b5,S5.1.2.trans (bE.cC b5)⟩,ur S5.2.1 (b5.block cc S5.2.2),hr⟩;clear hr b5;by_cases f0:E=0
     .subst f0;have HR2:=hJ S6.2.2.ok;have t8:Hid ((F1.nd t).size<8):=hJ (by have:=HR2.2;have:=z8.v;omega);rw[bB];go_wp2_with fail
      refine sC (qM b t k o F1 _ S6.1.1 t40 k40 t8.v (aH (Tr.oZ HR2.1) bA)) ?_;rintro w6 ⟨h6,f6⟩;have S7:Hid (bN w6 b (Tr.He F n i t k o)/\bE b w w6):=hJ ⟨by unfold Tr.He;rw[HF1.v];exact h6,S6.1.2.trans f6⟩;clear h6 f6;go_wp2
      go_ret
      refine⟨0,_,rfl,⟨k,0,S1.1, .inr ⟨rfl, .inr ⟨EP.1, .inr ?_⟩⟩⟩,S7.v⟩;rw[hZ,hZ];exact⟨HT.v, .inr ⟨HBB.v,i,HN.2,0,by rw[HF1.v];exact S6.2.2, .inr ⟨rfl,rfl,rfl⟩⟩⟩
     .have E2:Hid (bG E=aq 100 (aa az E)/\E≠0):=hJ ⟨bC f0,f0⟩;have TH2:Hid (w5.there b (n*62) A.size):=hJ (by rw[<-HA.v];exact S6.1.1.there n n40 (F.nd n));have S7:Hid (bN (w5.setCells b (n*62) A.toList) b F/\bE b w (w5.setCells b (n*62) A.toList)):=hJ (by
       have a:=S6.1.1.setNode n n40 (F.nd n);rw[<-HF1.v,Tr.gA,Tr.CE,HA.v]at a;exact⟨a,bE.setCells _ _ S6.1.2⟩)
      rw[E2.1];clear f0;go_wp2_with (first|(refine wpList_load_mid rfl 204 _ rfl cc 0 rfl A.toList _ S6.2.1 Tryz.underlying204 rfl hlen.v ?_;rw[Array.toArray_toList])|(refine wpList_store_mid rfl 204 _ _ rfl b (n*62) A rfl rfl TH2.v HS.v H1.v ?_))
      go_ret
      refine⟨E,F,by rw[E2.1];rfl,⟨k,0,S1.1, .inr ⟨rfl, .inr ⟨EP.1, .inr ?_⟩⟩⟩,S7.v⟩;rw[hZ,hZ];exact⟨HT.v, .inr ⟨HBB.v,i,HN.2,E,by rw[HF1.v];exact S6.2.2, .inl ⟨E2.2,rfl,rfl⟩⟩⟩
    .go_wp2
     go_ret
     refine⟨5,F,rfl,⟨k,0,S1.1, .inr ⟨rfl, .inr ⟨EP.1, .inr ?_⟩⟩⟩,S2.v⟩;rw[hZ,hZ];exact⟨HT.v, .inl ⟨HBB.v,rfl,rfl⟩⟩
   .have HT:=hJ tt;generalize (F.nd n).tree=t1 at c1 tt;generalize (F.nd t).tree=t2 at c2 tt;have tI:((t1:Int)==(t2:Int))=false:=by simp;omega
    have tI2:¬(t1:Int)=(t2:Int):=bu
    clear tt;go_wp2_with fail
    go_quiet (fail)
    go_wp2
    go_ret
    refine⟨11,F,rfl,⟨k,0,S1.1, .inr ⟨rfl, .inr ⟨EP.1, .inl ?_⟩⟩⟩,S1.2.1.drewN _,S1.2.2.drewN _⟩;rw[hZ,hZ];exact⟨HT.v,rfl,rfl⟩
  .have E2:Hid (eY b y (Tr.cD F y 2)=ai bj/\bG (Tr.cD F y 2)=aq 100 (aa az (Tr.cD F y 2))/\Tr.cD F y 2≠0):=hJ ⟨gT c,bC c,c⟩;clear c;go_wp2_with fail
   refine sC (kV b y F _ S1.2.1) ?_;rintro w0 hw0;subst w0;rw[E2.1,E2.2.1];go_wp2
   go_ret
   exact⟨_,F,by rw[E2.2.1];rfl,⟨k,0,S1.1, .inr ⟨rfl, .inl ⟨E2.2.2,rfl,rfl⟩⟩⟩,S1.2⟩
 .have E2:Hid (bG E=aq 100 (aa az E)/\E≠0):=hJ ⟨bC e0,e0⟩;rw[E2.1];clear e0;go_wp2
  go_ret
  exact⟨E,F,by rw[E2.1];rfl,⟨k,E,S1.1, .inl ⟨E2.2,rfl,rfl⟩⟩,S1.2⟩
def td(F:Fo)(z:Int):Array Value:=if Tr.cA F z=0 then#[aa az ((F.nd z.toNat).kind:Int),aa az ((F.nd z.toNat).cJ:Int),aa az ((F.nd z.toNat).held:Int),aa az ((F.nd z.toNat).size:Int)]else#[aa az 0,aa az 0,aa az 0,aa az 0]
theorem pB(b:Nat)(z:Int)(F:Fo)(w:bD)(h:bN w b F):
  Calls prog 214 #[ai (bh ⟨b,0,bj⟩),aa az z] w λe w'=>e=bf (ao #[au (td F z),bG (Tr.cA F z)])/\Below w.heap.size w w':=by
 have hlt:=h.lt;have hne:w.heap.size≠b:=bu
 have hne2:b≠w.heap.size:=bu
 have HF:Hid (∀o,bN (w.alloc o) b F/\Below w.heap.size w (w.alloc o)):=hJ (λo=>by
  have bb:Below w.heap.size w (w.alloc o):=(aQ _ _).alloc (aL _) _;exact⟨h.below bb,bb⟩)
 have HB:Hid (∀W W',Below w.heap.size w W->bE w.heap.size W W'->w.heap.size<=W.heap.size->Below w.heap.size w W'):=hJ (λW W' h1 h2 h3=>h2.below h1 (aL _) h3);by_cases c:Tr.cA F z=0
 .obtain⟨n,rfl,n40,kk⟩:=Tr.gO c;have E:Hid (Tr.cA F (n:Int)=0/\td F (n:Int)=#[aa az ((F.nd n).kind:Int),aa az ((F.nd n).cJ:Int),aa az ((F.nd n).held:Int),aa az ((F.nd n).size:Int)]/\eY b (n:Int) 0=ai (bh ⟨b,n*62,bj⟩)):=hJ ⟨c,by unfold td;rw[aJ c,hZ],gy b n⟩;clear h c kk;go_in
  go_wp2_with fail
  refine sC (gX b n F _ (HF.v _).1) ?_;rintro w1 hw1;have S1:Hid (bN w1 b F/\Below w.heap.size w w1):=hJ (by rw[hw1];exact HF.v _);have N1:w1.heap[w.heap.size]? =bh (bg #[aa az 0,aa az 0,aa az 0,aa az 0] 156 (0,0)):=by rw[hw1];exact heap_alloc_new w _
  clear hw1;rw[E.1,E.2.2,bB];have c1:=S1.1.si n n40;have c2:=S1.1.tB n n40;have c3:=S1.1.xA n n40;have c4:=S1.1.mK n n40;have EO:Hid (td F (n:Int)=#[aa az ((F.nd n).kind:Int),aa az ((F.nd n).cJ:Int),aa az ((F.nd n).held:Int),aa az ((F.nd n).size:Int)]):=hJ E.2.1;generalize (F.nd n).kind=v1 at c1 EO;generalize (F.nd n).cJ=v2 at c2 EO;generalize (F.nd n).held=v3 at c3 EO;generalize (F.nd n).size=v4 at c4 EO;have hlt2:Hid (w.heap.size<w1.heap.size):=hJ (aX.1 N1).1;generalize hcc:w.heap.size=cc at*;have x1:w1.cell? ⟨cc,0,bj⟩=bh (aa .i64 0):=by rw[bO N1];rfl
  have x2:w1.cell? ⟨cc,1,bj⟩=bh (aa .i64 0):=by rw[bO N1];rfl
  have x3:w1.cell? ⟨cc,2,bj⟩=bh (aa .i64 0):=by rw[bO N1];rfl
  have x4:w1.cell? ⟨cc,3,bj⟩=bh (aa .i64 0):=by rw[bO N1];rfl
  have xf:∀o,w1.frozen? ⟨cc,o,bj⟩=false:=λo=>cv N1 o;have S2:Hid (((((w1.setCell ⟨cc,0,bj⟩ (aa az (v1:Int))).setCell ⟨cc,1,bj⟩ (aa az (v2:Int))).setCell ⟨cc,2,bj⟩ (aa az (v3:Int))).setCell ⟨cc,3,bj⟩ (aa az (v4:Int))).heap[cc]? =bh (bg #[aa az (v1:Int),aa az (v2:Int),aa az (v3:Int),aa az (v4:Int)] 156 (0,0))/\Below cc w ((((w1.setCell ⟨cc,0,bj⟩ (aa az (v1:Int))).setCell ⟨cc,1,bj⟩ (aa az (v2:Int))).setCell ⟨cc,2,bj⟩ (aa az (v3:Int))).setCell ⟨cc,3,bj⟩ (aa az (v4:Int)))):=hJ
   ⟨cE (cE (cE (cE N1 0 _) 1 _) 2 _) 3 _,HB.v w1 _ S1.2 ((((((bE.refl cc w1).setCell _ _).setCell _ _).setCell _ _).setCell _ _)) (bI hlt2.v)⟩
  clear N1;go_wp2_with fail
  generalize hWF:(((w1.setCell ⟨cc,0,bj⟩ (aa az (v1:Int))).setCell ⟨cc,1,bj⟩ (aa az (v2:Int))).setCell ⟨cc,2,bj⟩ (aa az (v3:Int))).setCell ⟨cc,3,bj⟩ (aa az (v4:Int))=WF at S2|-;have y1:WF.cell? ⟨cc,0,bj⟩=bh (aa az (v1:Int)):=by rw[bO S2.1];rfl
  have y2:WF.cell? ⟨cc,1,bj⟩=bh (aa az (v2:Int)):=by rw[bO S2.1];rfl
  have y3:WF.cell? ⟨cc,2,bj⟩=bh (aa az (v3:Int)):=by rw[bO S2.1];rfl
  have y4:WF.cell? ⟨cc,3,bj⟩=bh (aa az (v4:Int)):=by rw[bO S2.1];rfl
  refine bodyPost_ret (v:=ao #[au #[aa az (v1:Int),aa az (v2:Int),aa az (v3:Int),aa az (v4:Int)],ay]) (by simp[results,Tryz.f214,go_sem,y1,y2,y3,y4]) rfl ?_;rw[EO.v,E.1];subst hcc;exact⟨rfl,S2.2⟩
 .have E:Hid (td F z=#[aa az 0,aa az 0,aa az 0,aa az 0]/\eY b z (Tr.cA F z)=ai bj/\bG (Tr.cA F z)=aq 100 (aa az (Tr.cA F z))):=hJ ⟨by unfold td;rw[aI c],gT c,bC c⟩;clear h c;go_in
  go_wp2_with fail
  refine sC (gX b z F _ (HF.v _).1) ?_;rintro w1 hw1;have S1:Hid (bN w1 b F/\Below w.heap.size w w1):=hJ (by rw[hw1];exact HF.v _);have N1:w1.heap[w.heap.size]? =bh (bg #[aa az 0,aa az 0,aa az 0,aa az 0] 156 (0,0)):=by rw[hw1];exact heap_alloc_new w _
  clear hw1;rw[E.2.1,E.2.2];have hlt2:Hid (w.heap.size<w1.heap.size):=hJ (aX.1 N1).1;generalize hcc:w.heap.size=cc at*;have x1:w1.cell? ⟨cc,0,bj⟩=bh (aa .i64 0):=by rw[bO N1];rfl
  have x2:w1.cell? ⟨cc,1,bj⟩=bh (aa .i64 0):=by rw[bO N1];rfl
  have x3:w1.cell? ⟨cc,2,bj⟩=bh (aa .i64 0):=by rw[bO N1];rfl
  have x4:w1.cell? ⟨cc,3,bj⟩=bh (aa .i64 0):=by rw[bO N1];rfl
  have xf:∀o,w1.frozen? ⟨cc,o,bj⟩=false:=λo=>cv N1 o;have S2:Hid (((((w1.setCell ⟨cc,0,bj⟩ (aa .i64 0)).setCell ⟨cc,1,bj⟩ (aa .i64 0)).setCell ⟨cc,2,bj⟩ (aa .i64 0)).setCell ⟨cc,3,bj⟩ (aa .i64 0)).heap[cc]? =bh (bg #[aa az 0,aa az 0,aa az 0,aa az 0] 156 (0,0))/\Below cc w ((((w1.setCell ⟨cc,0,bj⟩ (aa .i64 0)).setCell ⟨cc,1,bj⟩ (aa .i64 0)).setCell ⟨cc,2,bj⟩ (aa .i64 0)).setCell ⟨cc,3,bj⟩ (aa .i64 0))):=hJ
   ⟨cE (cE (cE (cE N1 0 _) 1 _) 2 _) 3 _,HB.v w1 _ S1.2 ((((((bE.refl cc w1).setCell _ _).setCell _ _).setCell _ _).setCell _ _)) (bI hlt2.v)⟩
  clear N1;go_wp2_with fail
  generalize hWF:(((w1.setCell ⟨cc,0,bj⟩ (aa .i64 0)).setCell ⟨cc,1,bj⟩ (aa .i64 0)).setCell ⟨cc,2,bj⟩ (aa .i64 0)).setCell ⟨cc,3,bj⟩ (aa .i64 0)=WF at S2|-;have y1:WF.cell? ⟨cc,0,bj⟩=bh (aa .i64 0):=by rw[bO S2.1];rfl
  have y2:WF.cell? ⟨cc,1,bj⟩=bh (aa .i64 0):=by rw[bO S2.1];rfl
  have y3:WF.cell? ⟨cc,2,bj⟩=bh (aa .i64 0):=by rw[bO S2.1];rfl
  have y4:WF.cell? ⟨cc,3,bj⟩=bh (aa .i64 0):=by rw[bO S2.1];rfl
  refine bodyPost_ret (v:=ao #[au #[aa az 0,aa az 0,aa az 0,aa az 0],aq 100 (aa az (Tr.cA F z))]) (by simp[results,Tryz.f214,go_sem,y1,y2,y3,y4]) rfl ?_;rw[E.1,E.2.2];subst hcc;exact⟨rfl,S2.2⟩
def Tr.Aq(f:Nat->Int)(a:Nat)(L:List Int):Nat->Int:=λj=>if j<a then f j else(L[j-a]?).getD (f j)
def Tr.ts(s:bU):List Int:=s.data.toList.map λx=>(x.toNat:Int)
theorem Tr.OU(s:bU):(Tr.ts s).length=s.size:=by simp[Tr.ts]
theorem Tr.OV(s:bU):(s.data.toList.map λx=>aa bc (x.toNat:Int))=(Tr.ts s).map (Value.int bc):=by simp[Tr.ts,Function.comp_def]
theorem bN.setBytes{w:bD}{b:Nat}{F:Fo}(h:bN w b F)(n a:Nat)(L:List Int)(hL:a+L.length<=40):bN (w.setCells b (n*62+22+a) (L.map (Value.int bc))) b (F.put n {F.nd n with dA:=Tr.Aq (F.nd n).dA a L}):=by
 obtain⟨C,h1,h2⟩:=h.cU;obtain⟨C',k1,k2⟩:=kW b (L.map (Value.int bc)) (n*62+22+a) w C h1;have hlen:(L.map (Value.int bc)).length=L.length:=by simp
 refine⟨⟨C',k1,bu⟩,λo ho=>?_⟩;by_cases c:n*62+22+a<=o/\o<n*62+22+a+L.length
 .obtain⟨j,rfl,hj⟩:∃j,o=n*62+22+a+j/\j<L.length:=⟨o-(n*62+22+a),bu,bu⟩;rw[aS b (L.map (Value.int bc)) (n*62+22+a) w (λi hi=>by rw[hlen]at hi;rw[h.cell _ bu];rfl) j (by rw[hlen];exact hj)];unfold jr;rw[nK,show(n*62+22+a+j)/62=n by omega,show(n*62+22+a+j)%62=22+(a+j)by omega,Tr.bF,qA];show _=bh (aa bc (Tr.Aq (F.nd n).dA a L (a+j)));unfold Tr.Aq;rw[nJ,show a+j-a=j by omega,aW hj,Option.getD_some,List.getElem_map]
 .rw[aA b _ (n*62+22+a) w ⟨b,o,bj⟩ (λ_ _=>by rw[hlen];show o<_\/_<=o;omega),h.cell o ho];unfold jr;by_cases d:o<2480
  .rw[aJ d,aJ d];by_cases e:o/62=n
   .rw[e,Tr.bF];by_cases g:o%62<22
    .unfold iw;repeat' split
     all_goals first|rfl|omega
    .rw[show o%62=22+(o%62-22)by omega,qA,qA];show _=bh (aa bc (Tr.Aq (F.nd n).dA a L (o%62-22)));unfold Tr.Aq;by_cases i:o%62-22<a
     .rw[aJ i]
     .rw[aI i,List.getElem?_eq_none bu,Option.getD_none]
   .rw[Tr.bM _ _ _ _ e]
  .rw[aI d,aI d];rfl
section
variable {ops:Array Oper}{rest:List Oper}{x:Oper}{a:Act}{w:bD}{Q:Exit->Act->bD->Prop}
theorem yC(hgd:x.guard=bj)(d y:Operand)(dT sT:TypeId)(hop:x.op=Op.call {callee:=Callee.builtin Builtin.copy,args:=#[d,y],argTypes:=#[dT,sT]})
  (elem:TypeId) (hu:prog.underlying dT=bh (.slice elem)) (hz:∀w,(Go.sizeOf elem).run prog w= .ok 1 w)
  (b off dLen dCap:Nat) (hd:a.eval d=aj (bh ⟨b,off,bj⟩) dLen dCap) (t:bU) (hx:a.eval y=ak t) (hle:t.size<=dLen)
  (hc:∀j,j<t.size->(w.cell? ⟨b,off+j,bj⟩).isSome=true) (hf:∀j,j<t.size->w.frozen? ⟨b,off+j,bj⟩=false)
  (h:wpList prog ops Q rest (a.put x.dst (goInt t.size)) (w.setCells b off ((Tr.ts t).map (Value.int bc)))):wpList prog ops Q (x::rest) a w:=
 wpList_plain hgd λ_ hK=>by
  have hrun:=run_copy_string (P:=prog) w dT sT x.type elem b off dLen dCap t hu hz hle hc hf;rw[Tr.OV]at hrun;unfold Oper.wp;simp[execOp,hop,resolve,invoke,builtin,hd,hx,hrun,Result.andThen];exact hK _ _ h
end
def Tr.dE(F:Fo)(z a:Int)(s:bU):Int:=if Tr.cD F z 1≠0 then Tr.cD F z 1 else if a<0 then 1 else if 40-(s.size:Int)<a then 4 else 0
def Tr.zC(x:Nd)(a:Nat)(s:bU):Nd:={x with dA:=Tr.Aq x.dA a (Tr.ts s),size:=max x.size (a+s.size)}
def Tr.eA(F:Fo)(z a:Int)(s:bU):Fo:=if Tr.dE F z a s=0/\s.size≠0 then F.put z.toNat (Tr.zC (F.nd z.toNat) a.toNat s)else F
theorem Ia(b:Nat)(z a:Int)(s:bU)(F:Fo)(w:bD)(h:bN w b F)(hs:s.size<2^60):
  Calls prog 248 #[ai (bh ⟨b,0,bj⟩),aa az z,aa az a,ak s] w λe w'=>e=bf (bG (Tr.dE F z a s))/\bN w' b (Tr.eA F z a s)/\bE b w w':=by
 have HF:=hJ h;by_cases c:Tr.cD F z 1=0
 .obtain⟨n,rfl,n40,_,k1⟩:=Tr.eZ c;have EP:Hid (Tr.cD F (n:Int) 1=0/\eY b (n:Int) 0=ai (bh ⟨b,n*62,bj⟩)):=hJ ⟨c,gy b n⟩;have EW:Tr.dE F (n:Int) a s=if a<0 then 1 else if 40-(s.size:Int)<a then 4 else 0:=by unfold Tr.dE;rw[aI (λd=>d c)]
  have hw:IntKind.i64.wrap (40-(s.size:Int))=40-(s.size:Int):=aN _ ⟨by omega,bu⟩;by_cases a0:a<0
  .have FIN:Hid (Tr.dE F (n:Int) a s=1/\Tr.eA F (n:Int) a s=F):=hJ (by
    have e:Tr.dE F (n:Int) a s=1:=by rw[EW,aJ a0]
    exact⟨e,by unfold Tr.eA;rw[e,nJ]⟩)
   clear h c k1 EW hs;go_in
   go_wp2_with fail
   refine sC (iq b n F _ HF.v) ?_;rintro w1 hw1;subst w1;rw[EP.1,EP.2,bB];go_wp2
   go_ret
   rw[FIN.1,FIN.2];exact⟨rfl,HF.v,bE.refl _ _⟩
  .by_cases a4:40-(s.size:Int)<a
   .have FIN:Hid (Tr.dE F (n:Int) a s=4/\Tr.eA F (n:Int) a s=F):=hJ (by
     have e:Tr.dE F (n:Int) a s=4:=by rw[EW,aI a0,aJ a4]
     exact⟨e,by unfold Tr.eA;rw[e,nJ]⟩)
    clear h c k1 EW hs;go_in
    go_wp2_with fail
    refine sC (iq b n F _ HF.v) ?_;rintro w1 hw1;subst w1;rw[EP.1,EP.2,bB];go_wp2
    go_ret
    rw[FIN.1,FIN.2];exact⟨rfl,HF.v,bE.refl _ _⟩
   .have EZ:Tr.dE F (n:Int) a s=0:=by rw[EW,aI a0,aI a4]
    by_cases s0:s.size=0
    .have FIN:Hid (Tr.dE F (n:Int) a s=0/\Tr.eA F (n:Int) a s=F):=hJ ⟨EZ,by unfold Tr.eA;rw[nJ]⟩;have sl:(s.toList==[])=true:=by
      obtain rfl:s=⟨#[]⟩:=by
       apply ByteArray.ext;exact Array.eq_empty_of_size_eq_zero s0
      rw[ByteArray.toList_eq];rfl
     clear h c k1 EW hs EZ s0;go_in
     go_wp2_with fail
     refine sC (iq b n F _ HF.v) ?_;rintro w1 hw1;subst w1;rw[EP.1,EP.2,bB];go_wp2
     go_ret
     rw[FIN.1,FIN.2];exact⟨rfl,HF.v,bE.refl _ _⟩
    .obtain⟨m,rfl⟩:∃m:Nat,a=m:=⟨a.toNat,bu⟩;have EF:Hid (Tr.dE F (n:Int) (m:Int) s=0/\Tr.eA F (n:Int) (m:Int) s=F.put n (Tr.zC (F.nd n) m s)):=hJ ⟨EZ,by unfold Tr.eA;rw[aJ ⟨EZ,s0⟩,hZ,hZ]⟩;have hm:m+s.size<=40:=bu
     have m40:(m:Int)<40:=bu
     have m40b:(m:Int)<=40:=bu
     have mlt:m<40:=bu
     have mn0:¬m=40:=bu
     have mn1:¬40-m=0:=bu
     have mn2:¬(m:Int)=40:=bu
     have sl:(s.toList==[])=false:=by
      rw[beq_eq_false_iff_ne];intro e;rw[ByteArray.toList_eq]at e;apply s0;show s.data.size=0;rw[<-aB,e];rfl
     have ad:IntKind.i64.wrap ((m:Int)+(s.size:Int))=((m+s.size:Nat):Int):=(aN _ ⟨by omega,bu⟩).trans bu;have CC:Hid (∀j,j<s.size->(w.cell? ⟨b,n*62+22+m+j,bj⟩).isSome=true):=hJ (λj hj=>by rw[h.cell _ bu];rfl);have CF:Hid (∀j,j<s.size->w.frozen? ⟨b,n*62+22+m+j,bj⟩=false):=hJ (λj _=>h.frozen _);have S1:Hid (bN (w.setCells b (n*62+22+m) ((Tr.ts s).map (Value.int bc))) b (F.put n {F.nd n with dA:=Tr.Aq (F.nd n).dA m (Tr.ts s)})/\bE b w (w.setCells b (n*62+22+m) ((Tr.ts s).map (Value.int bc)))):=hJ ⟨h.setBytes n m _ (by rw[Tr.OU];exact hm),bE.setCells _ _ (bE.refl b w)⟩;have hsm:s.size<=40-m:=bu
     have hcz:∀w,(Go.sizeOf 5).run prog w= .ok 1 w:=λw=>by rfl
     clear h c k1 EW hs EZ s0;obtain⟨L,hL⟩:=hU ((Tr.ts s).map (Value.int bc));rw[hL]at S1;go_in
     go_wp2_with fail
     refine sC (iq b n F _ HF.v) ?_;rintro w1 hw1;subst w1;rw[EP.1,EP.2,bB];go_upto_region 11 with(refine yC rfl _ _ _ _ rfl 5 bw hcz b (n*62+22+m) (40-m) (40-m) rfl s rfl hsm CC.v CF.v ?_;rw[hL])
     refine cG (λW=>bN W b (F.put n {F.nd n with dA:=Tr.Aq (F.nd n).dA m (Tr.ts s)})/\bE b w W) S1.v ?_;intro W2 h2;have S2:=hJ h2;clear h2 S1 CC CF hL;have c3:=S2.1.mK n n40;rw[Tr.bF]at c3;have cf:=S2.1.frozen;obtain⟨sz,hsz⟩:=hU ((F.nd n).size);have c3':W2.cell? ⟨b,n*62+3,bj⟩=bh (aa az (sz:Int)):=by rw[c3,<-hsz]
     have FIN:Hid (bN (W2.setCell ⟨b,n*62+3,bj⟩ (aa az (max (sz:Int) ((m:Int)+(s.size:Int))))) b (F.put n (Tr.zC (F.nd n) m s))/\bE b w (W2.setCell ⟨b,n*62+3,bj⟩ (aa az (max (sz:Int) ((m:Int)+(s.size:Int)))))):=hJ (by
      have q:=S2.1.zn n (max sz (m+s.size)) n40;rw[Tr.bF,Tr.gA]at q;unfold Tr.zC;rw[hsz];rw[show(max (sz:Int) ((m:Int)+(s.size:Int)))=((max sz (m+s.size):Nat):Int)by omega];exact⟨q,S2.2.setCell _ _⟩)
     clear c3 hsz;go_wp2
     go_ret
     rw[EF.1,EF.2];exact⟨rfl,FIN.v⟩
 .have E2:Hid (eY b z (Tr.cD F z 1)=ai bj/\bG (Tr.cD F z 1)=aq 100 (aa az (Tr.cD F z 1))/\Tr.dE F z a s=Tr.cD F z 1/\Tr.eA F z a s=F):=hJ (by
   have e:Tr.dE F z a s=Tr.cD F z 1:=aJ c;exact⟨gT c,bC c,e,by unfold Tr.eA;rw[e,aI (λd=>c d.1)]⟩)
  clear h c hs;go_in
  go_wp2_with fail
  refine sC (iq b z F _ HF.v) ?_;rintro w1 hw;subst w1;rw[E2.1,E2.2.1];go_wp2
  go_ret
  rw[E2.2.2.1,E2.2.2.2,E2.2.1];exact⟨rfl,HF.v,bE.refl _ _⟩
def Tr.tg(F:Fo):Prop:=∀n,n<40->(F.nd n).kind=1->(F.nd n).size<=40
def Tr.Ag(f:Nat->Int)(a k:Nat):List Int:=(List.range k).map λj=>f (a+j)
def Tr.On(f:Nat->Int)(a k:Nat):bU:=(Tr.Ag f a k).foldl (λr n=>r.push (UInt8.ofNat n.toNat)) ByteArray.empty
theorem Tr.vh(f:Nat->Int)(a k:Nat):(Tr.Ag f a k).length=k:=by simp[Tr.Ag]
theorem bN.G9{w:bD}{b:Nat}{F:Fo}(h:bN w b F)(n lo k:Nat)(hn:n<40)(hk:lo+k<=40)(ad:Addr)(had:0<k->ad=⟨b,n*62+22+lo,bj⟩):(loadCells ad k).run prog w= .ok ((Tr.Ag (F.nd n).dA lo k).map (Value.int bc)).toArray w:=by
 have:=run_loadCells_list (P:=prog) w ad ((Tr.Ag (F.nd n).dA lo k).map (Value.int bc)) (λj v hv=>by
  have hj:j<k:=by grind [Tr.Ag,Tr.vh]
  rw[had bu];have e:(⟨b,n*62+22+lo,bj⟩:Addr).add j=⟨b,n*62+22+(lo+j),bj⟩:=by
   unfold Addr.add;split
   .simp_all
   .simp_all;omega
  rw[e,h.TF n (lo+j) hn bu,<-hv];simp[Tr.Ag,hj])
 rw[List.length_map,Tr.vh]at this;exact this
section
variable {ops:Array Oper}{rest:List Oper}{x:Oper}{a:Act}{w:bD}{Q:Exit->Act->bD->Prop}
theorem wU(hgd:x.guard=bj)(y:Operand)(hop:x.op=Op.convert 316 9 y)
  (ad:Addr) (k c:Nat) (hd:a.eval y=aj (bh ad) k c) (ns:List Int) (hl:(loadCells ad k).run prog w= .ok (ns.map (Value.int bc)).toArray w)
  (h:wpList prog ops Q rest (a.put x.dst (ak (ns.foldl (λr n=>r.push (UInt8.ofNat n.toNat)) ByteArray.empty))) w):wpList prog ops Q (x::rest) a w:=
 wpList_plain hgd λ_ hK=>by
  have hrun:=(run_convert_bytes_string (P:=prog) w 316 9 5 (bh ad) k c bw bw bw).trans (run_bytesToString w ad k c ns hl);unfold Oper.wp;simp[execOp,hop,hd,hrun,Result.andThen];exact hK _ _ h
end
def Tr.dU(F:Fo)(z a m:Int):Int:=if Tr.cD F z 1≠0 then Tr.cD F z 1 else if a<0\/m<0 then 1 else 0
def Tr.jf(F:Fo)(z a m:Int):bU:=
 if Tr.dU F z a m=0 then Tr.On (F.nd z.toNat).dA (min a.toNat (F.nd z.toNat).size) (min m.toNat ((F.nd z.toNat).size-min a.toNat (F.nd z.toNat).size))else ByteArray.empty
theorem Ke(b:Nat)(z a m:Int)(F:Fo)(w:bD)(h:bN w b F)(hs:Tr.tg F):
  Calls prog 246 #[ai (bh ⟨b,0,bj⟩),aa az z,aa az a,aa az m] w λe w'=>e=bf (ao #[ak (Tr.jf F z a m),bG (Tr.dU F z a m)])/\bN w' b F/\Below w.heap.size w w':=by
 have HF:=hJ h;by_cases c:Tr.cD F z 1=0
 .obtain⟨n,rfl,n40,_,k1⟩:=Tr.eZ c;have EP:Hid (Tr.cD F (n:Int) 1=0/\eY b (n:Int) 0=ai (bh ⟨b,n*62,bj⟩)):=hJ ⟨c,gy b n⟩;have EW:Tr.dU F (n:Int) a m=if a<0\/m<0 then 1 else 0:=by unfold Tr.dU;rw[aI (λd=>d c)]
  have z40:=hs n n40 k1;by_cases a0:a<0\/m<0
  .have FIN:Hid (Tr.dU F (n:Int) a m=1/\Tr.jf F (n:Int) a m=⟨#[]⟩):=hJ (by
    have e:Tr.dU F (n:Int) a m=1:=by rw[EW,aJ a0]
    exact⟨e,by unfold Tr.jf;rw[e,nJ];rfl⟩)
   by_cases a1:a<0
   .clear a0;go_in
    go_wp2_with fail
    refine sC (iq b n F _ HF.v) ?_;rintro w1 hw1;subst w1;rw[EP.1,EP.2,bB];go_wp2
    go_ret2
    rw[FIN.1,FIN.2];exact⟨rfl,HF.v,aQ _ _⟩
   .have a2:m<0:=bu
    go_in
    go_wp2_with fail
    refine sC (iq b n F _ HF.v) ?_;rintro w1 hw1;subst w1;rw[EP.1,EP.2,bB];go_wp2
    go_ret2
    rw[FIN.1,FIN.2];exact⟨rfl,HF.v,aQ _ _⟩
  .have EZ:Tr.dU F (n:Int) a m=0:=by rw[EW,aI a0]
   obtain⟨p,rfl⟩:∃p:Nat,a=p:=⟨a.toNat,bu⟩;obtain⟨q,rfl⟩:∃q:Nat,m=q:=⟨m.toNat,bu⟩;have c3:=h.mK n n40;obtain⟨sz,hsz⟩:=hU ((F.nd n).size);have EF:Hid (Tr.dU F (n:Int) (p:Int) (q:Int)=0/\Tr.jf F (n:Int) (p:Int) (q:Int)=Tr.On (F.nd n).dA (min p sz) (min q (sz-min p sz))):=hJ ⟨EZ,by unfold Tr.jf;rw[aJ EZ,hZ,hZ,hZ,hsz]⟩;rw[hsz]at c3 z40;have zI:(sz:Int)<=40:=bu
   obtain⟨lo,hlo⟩:=hU (min p sz);have mn:min (p:Int) (sz:Int)=(lo:Int):=bu
   have lz:lo<=sz:=bu
   have lzI:(lo:Int)<=(sz:Int):=bu
   have mn2:(if(p:Int)<(sz:Int)then(p:Int)else(sz:Int))=(lo:Int):=by split<;>omega
   obtain⟨k,hk⟩:=hU (min q (sz-lo));have mk:min (q:Int) ((sz-lo:Nat):Int)=(k:Int):=bu
   have k1':k<=sz-lo:=bu
   have k2':k<=40-lo:=bu
   have k3':(k:Int)<=((40-lo:Nat):Int):=bu
   have k4':(k:Int)<=((sz-lo:Nat):Int):=bu
   rw[hlo,hk]at EF;have LD:Hid (∀nq,(loadCells (if 40=lo then(⟨b,n*62+22,bj⟩:Addr)else⟨b,n*62+22+lo,bj⟩) k).run prog (w.drewN nq)= .ok ((Tr.Ag (F.nd n).dA lo k).map (Value.int bc)).toArray (w.drewN nq)):=hJ (λnq=>(h.drewN nq).G9 n lo k n40 bu _ (λh0=>nJ));have BB:Hid (∀nq,Below w.heap.size w (w.drewN nq)):=hJ (λnq=>by
    have:=aQ w.heap.size w;exact⟨this.os,this.tape,this.output,this.size,this.block⟩)
   go_in
   go_wp2_with fail
   refine sC (iq b n F _ HF.v) ?_;rintro w1 hw1;subst w1;rw[EP.1,EP.2,bB];go_wp2_with fail
   go_quiet (fail)
   revert LD;generalize (if 40=lo then(⟨b,n*62+22,bj⟩:Addr)else⟨b,n*62+22+lo,bj⟩)=ad;intro LD;go_wp2_with (refine wU rfl _ rfl ad k _ rfl _ (LD.v _) ?_)
   go_ret2
   rw[EF.1,EF.2];exact⟨rfl,HF.drewN _,BB.v _⟩
 .have E2:Hid (eY b z (Tr.cD F z 1)=ai bj/\bG (Tr.cD F z 1)=aq 100 (aa az (Tr.cD F z 1))/\Tr.dU F z a m=Tr.cD F z 1/\Tr.jf F z a m=⟨#[]⟩):=hJ (by
   have e:Tr.dU F z a m=Tr.cD F z 1:=aJ c;exact⟨gT c,bC c,e,by unfold Tr.jf;rw[e,aI c];rfl⟩)
  go_in
  go_wp2_with fail
  refine sC (iq b z F _ HF.v) ?_;rintro w1 hw;subst w1;rw[E2.1,E2.2.1];go_wp2
  go_ret2
  rw[E2.2.2.1,E2.2.2.2,E2.2.1];exact⟨rfl,HF.v,aQ _ _⟩
open Go.Sort
def yg(L:List bU):List Value:=L.map ak
structure SO (w:bD)(L:List bU)(v:Value)(wr:bD):Prop where
 cM:RowKit.Below w.heap.size w wr
 own:wr.ownsRow w.heap.size 9 1 v L.length (yg L)
 nil:L=[]->v=aj bj 0 0
theorem SO.start(w:bD):SO w [] (aj bj 0 0) w:=⟨aQ _ _,World.ownsRow_nil _ _ _ _,λ_=>rfl⟩
theorem SO.form{w wr:bD}{L:List bU}{v:Value}(h:SO w L v wr):∃a c,v=aj a L.length c:=by
 rcases h.own.2 with⟨e,e2⟩|⟨g,cap,_,e,_⟩
 .exact⟨bj,0,by rw[e,e2]⟩
 .exact⟨_,cap,e⟩
theorem SO.below{w wr w1:bD}{L:List bU}{v:Value}(h:SO w L v wr)(b:RowKit.Below wr.heap.size wr w1):SO w L v w1:=
 ⟨h.cM.trans (b.mono h.cM.size),h.own.kept (row:=bj) ⟨b.os,b.tape,b.output,b.size,λk hk _=>b.block k hk⟩ (Classical.em _),h.nil⟩
theorem SO.more{w w1 wr:bD}{L:List bU}{gg cap N:Nat}{l:Value}(h:SO w L l wr)(x:bU)(hN:L.length=N)(hl:w1.ownsRow w.heap.size 9 1 (aj (bh ⟨gg,0,bj⟩) (N+1) cap) (N+1) (yg L++[ak x]))(o:Obj)(hg:(wr.alloc o).grownBy w1 l.ownBlock):
  SO w (L++[x]) (aj (bh ⟨gg,0,bj⟩) (N+1) cap) w1:=by
 have hs:=h.cM.size;refine⟨(h.cM.alloc hs o).grown hg (by simp;omega) (λk e=>(h.own.lt k e).1),?_,λe=>by simp at e⟩;grind [yg]
theorem Rf:∃i,prog.info? 9=bh i/\i.zero=bh (ak ⟨#[]⟩)/\i.size=1/\i.bytes=16:=⟨(prog.info? 9).get bw,by kernel_rfl,by kernel_rfl,by kernel_rfl,by kernel_rfl⟩
def Tr.ta(x:Nd)(j:Nat):List bU:=(List.range j).map x.dS
theorem Tr.rE(x:Nd)(j:Nat):(Tr.ta x j).length=j:=by simp[Tr.ta]
theorem Tr.MS(x:Nd)(j:Nat):Tr.ta x (j+1)=Tr.ta x j++[x.dS j]:=by simp[Tr.ta,List.range_succ]
def rh(L:List bU):List bU:=((L.map λs=>s.data.toList).mergeSort λx y=>decide (x<=y)).map λl=>⟨l.toArray⟩
theorem qa(L:List bU):(rh L).length=L.length:=by simp[rh]
theorem J2(w w1:bD)(L:List bU)(v:Value)(h:SO w L v w1)(hl:L.length<100):
  Calls prog 265 #[v] w1 λe w'=>e=bf (ao #[])/\SO w (rh L) v w':=by
 by_cases h0:L.length=0
 .obtain rfl:=List.eq_nil_of_length_eq_zero h0;rw[h.nil rfl];refine(Tryz.slices_Sort_string_none bj 0 w1).mono ?_;rintro e w' ⟨rfl,hw⟩;subst w';exact⟨rfl,by rw[<-h.nil rfl,show rh []=[]by simp[rh]];exact h⟩
 .obtain⟨g,cap,hv,hb,hg⟩:=h.own.form bu;subst hv;have hat:∀(M:List bU) (j:Nat),(yg M)[j]? =((M.map λs=>s.data.toList)[j]?).map encStr:=λM j=>by
   simp only[yg,List.getElem?_map];cases M[j]? <;>simp[encStr]
  have hH:Holds encStr w1 g 0 (L.map λs=>s.data.toList).toArray:=λj hj=>by
   have hj':j<L.length:=by simpa using hj
   rw[Nat.zero_add];refine⟨?_,h.own.frozenAt j⟩;rw[h.own.cellAt j bu,hat,aW (by simpa using hj'),Option.map_some,getElem!_pos _ j hj];simp
  have hS:=Tryz.slices_Sort_string g 0 cap (L.map λs=>s.data.toList) w1 hH hg (by simp;omega);rw[List.length_map]at hS;refine hS.mono ?_;rintro e w' ⟨rfl,n,os,rfl⟩;refine⟨rfl,?_⟩;obtain⟨D,hD⟩:=hU (((L.map λs=>s.data.toList).mergeSort λx y=>decide (x<=y)));have hDl:D.length=L.length:=by rw[<-hD];simp
  have hsr:rh L=D.map λl=>⟨l.toArray⟩:=by unfold rh;rw[hD]
  rw[hD];have hgr:w1.grownBy (grow (putRow encStr (Sort.ahead w1 n) g 0 D.toArray) os) (bh g):=by
   refine⟨rfl,rfl,rfl,?_,λk hk hne=>?_⟩
   .unfold Sort.grow Sort.putRow Sort.mapBlock Sort.ahead;simp
   .unfold Sort.grow Sort.putRow Sort.mapBlock Sort.ahead;rw[Array.getElem?_append_left (by simpa using hk),Array.getElem?_modify,aI (λe=>hne (by rw[e]))]
  have hbl:∀k,(bh g:Option Nat)=bh k->w.heap.size<=k:=λk e=>by injection e with e;omega
  refine⟨h.cM.grown hgr h.cM.size hbl,?_,λe=>by
   have:=qa L;rw[e]at this;simp at this;omega⟩
  rcases h.own.2 with⟨hv,_⟩|⟨g',cap',cur,hv,hb',hgg,hnc,hcm,hcs,htake⟩
  .cases hv
  .simp only[Value.slice.injEq,Option.some.injEq,Addr.mk.injEq,and_true,true_and]at hv;obtain⟨rfl,rfl⟩:=hv;have hheap:(grow (putRow encStr (Sort.ahead w1 n) g 0 D.toArray) os).heap[g]? =bh (bg (putCells encStr 0 D.toArray cur) 9 (0,0)):=by
    rw[heap_grow_old _ _ (by simpa[putRow,mapBlock,Sort.ahead]using hg)];simp[putRow,mapBlock,Sort.ahead,Array.getElem?_modify,hgg,onCells]
   rw[qa];refine⟨by simp[yg,qa], .inr ⟨g,cap,_,rfl,hb,hheap,hnc,hcm,by simpa[putCells]using hcs,?_⟩⟩;apply List.ext_getElem?;intro t;by_cases ht:t<L.length
   .have hc:t<cur.size:=by rw[hcs];omega
    unfold putCells;grind
   .rw[List.getElem?_eq_none (by rw[List.length_take];omega),List.getElem?_eq_none (by simp[yg,qa];omega)]
def Tr.qW(F:Fo)(z:Int):List bU:=if Tr.cD F z 2=0 then rh (Tr.ta (F.nd z.toNat) (F.nd z.toNat).size)else[]
theorem J8(b:Nat)(z:Int)(F:Fo)(w:bD)(h:bN w b F)(hs:Tr.j5 F):
  Calls prog 213 #[ai (bh ⟨b,0,bj⟩),aa az z] w λe w'=>∃v,e=bf (ao #[v,bG (Tr.cD F z 2)])/\SO w (Tr.qW F z) v w':=by
 have HF:=hJ h;by_cases c:Tr.cD F z 2=0
 .obtain⟨n,rfl,n40,_,k2⟩:=Tr.eZ c;have hm8:=hs n n40 k2;have EP:Hid (Tr.cD F (n:Int) 2=0/\eY b (n:Int) 0=ai (bh ⟨b,n*62,bj⟩)/\Tr.qW F (n:Int)=rh (Tr.ta (F.nd n) (F.nd n).size)):=hJ ⟨c,gy b n,by unfold Tr.qW;rw[aJ c,hZ]⟩;have HM8:=hJ hm8;obtain⟨i0,hi0,hz0,hz1,hz2⟩:=Rf;clear h c hs k2;go_in
  go_wp2_with fail
  refine sC (kV b n F _ HF.v) ?_;rintro w1 hw1;subst w1;rw[EP.1,EP.2.1,bB];go_wp2_with fail
  refine sC (qb b n F _ HF.v n40 HM8.v) ?_;rintro w1 ⟨kd,hw1⟩;have S0:Hid (SO w [] (aj bj 0 0) w1):=hJ (by
   have:=aQ w.heap.size w;rw[hw1];exact(SO.start w).below ⟨this.os,this.tape,this.output,this.size,this.block⟩)
  clear hw1;obtain⟨sz,hsz⟩:=hU ((F.nd n).size);have HSZ:=hJ hsz;rw[hsz]at hm8|-;clear hsz;go_wp2_with fail
  go_loopw [8,10,23] (λv x i wr=>∃(j:Nat),i=aa az j/\j<=sz/\Hid (SO w (Tr.ta (F.nd n) j) v wr)) (λ_ _ i _=>sz-(intOf i).toNat)
  case atStart=>exact⟨0,rfl,bu,S0⟩
  case round=>
   obtain⟨j,rfl,hj,R⟩:=hrel;by_cases hlt:j<sz
   .have hltI:(j:Int)<(sz:Int):=bu
    have hb:=HF.below R.cM;have c0:=hb.vW n j n40 bu;have c1:=hb.tA n j n40 bu;have SE:=hJ (Tr.MS (F.nd n) j);obtain⟨nm,hnm⟩:=hU ((F.nd n).dS j);rw[hnm]at c0 SE;generalize (F.nd n).cR j=kk at c1;clear hb hnm;go_upto_region 8 with fail
    refine cG (λW=>SO w (Tr.ta (F.nd n) j) u8 W/\W.cell? ⟨wr.heap.size,0,bj⟩=bh (ak nm)) ⟨R.below ((aQ _ _).alloc (aL _) _),by rw[bO (heap_alloc_new wr _)];rfl⟩ ?_;intro W1 h1;have S1:=hJ h1.1;have c2:=h1.2;clear h1 R c0 c1;obtain⟨va,vc,hv⟩:=S1.form;rw[Tr.rE]at hv;subst hv;go_wp2_with (at_builtin;refine wpList_append_lies _ rfl _ _ 152 (by rfl) w.heap.size 9 i0 (ak ⟨#[]⟩) 1 16 Tryz.underlying152 hi0 hz0 hz1 hz2 rfl bA (aj va j vc) j (yg (Tr.ta (F.nd n) j)) (by rfl) (by have:=S1.own;rw[Tr.rE]at this;exact this.alloc _) ⟨W1.heap.size,0,bj⟩ 1 1 [ak nm] (by rfl) rfl (World.news_of_block (heap_alloc_new W1 _)) (by simp[Value.oneCell']) bA (by unfold maxLen;omega) bu (by have:=S1.cM.size;simp;omega) (W1.heap.size+1) (by simp) ?_;intro gg cap2 w2 hown hgrow hat hlt2;have Q1:Hid (SO w (Tr.ta (F.nd n) j++[nm]) (aj (bh ⟨gg,0,bj⟩) (j+1) cap2) w2):=hJ (S1.more nm (Tr.rE _ _) hown _ hgrow);clear hown hgrow hat hlt2)
    go_roundw
    case rel=>exact⟨j+1,by go_num,bu,by rw[SE.v];exact Q1⟩
    case measure=>simp[intOf];omega
   .have hltI:¬(j:Int)<(sz:Int):=bu
    obtain rfl:j=sz:=bu
    have hln:=Tr.rE (F.nd n) j;go_wp2_with fail
    refine sC (J2 w _ _ _ R.v bu) ?_;rintro w2 h2;have FIN:Hid (SO w (Tr.qW F (n:Int)) u8 w2):=hJ (by rw[EP.2.2,HSZ.v];exact h2);clear h2;go_wp2
    go_ret2
    rw[EP.1];exact⟨_,rfl,FIN.v⟩
 .have E2:Hid (eY b z (Tr.cD F z 2)=ai bj/\bG (Tr.cD F z 2)=aq 100 (aa az (Tr.cD F z 2))/\Tr.qW F z=[]):=hJ ⟨gT c,bC c,aI c⟩;clear h c hs;go_in
  go_wp2_with fail
  refine sC (kV b z F _ HF.v) ?_;rintro w1 hw;subst w1;rw[E2.1,E2.2.1];go_wp2
  go_ret2
  rw[E2.2.1,E2.2.2];exact⟨_,rfl,SO.start w⟩

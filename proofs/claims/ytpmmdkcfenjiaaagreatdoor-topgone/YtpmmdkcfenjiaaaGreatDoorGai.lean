import Derived.Shelf.Small.Bits
import Derived.Shelf.Strconv.Clone
import Derived.Shelf.Sort.Plain
import Derived.Shelf.Slices.In.SortNone
import Derived.Lib.LazyBuf
import Derived.Test.YtpmmdkcfenjiaaaGreatDoorGah
set_option maxRecDepth 100000
set_option maxHeartbeats 4000000
set_option linter.unusedVariables false
set_option linter.unusedSimpArgs false
namespace Go.Proofs
open Go.Shelf
def Tryz.DG:Go.Shelf.Ren:=⟨λ|316=>302|n=>n,λ|9=>9|3=>3|4=>4|37=>316|0=>0|127=>248|5=>5|n=>n,λ|n=>n⟩
theorem Tryz.OA:Go.Proofs.LaysM.n316 Tryz.prog Tryz.DG:={
 mixed:=by kernel_rfl
 f316:=Tryz.func302.trans (congrArg some (by kernel_rfl))
 t0:=Tryz.underlying0
 a0:=Tryz.isAgg0
 z0:=Tryz.sizeOf0
 v0:=Tryz.zeroValue0
 t3:=Tryz.underlying3
 a3:=Tryz.isAgg3
 z3:=Tryz.sizeOf3
 v3:=Tryz.zeroValue3
 t4:=Tryz.underlying4
 a4:=Tryz.isAgg4
 z4:=Tryz.sizeOf4
 v4:=Tryz.zeroValue4
 t9:=Tryz.underlying9
 a9:=Tryz.isAgg9
 z9:=Tryz.sizeOf9
 v9:=Tryz.zeroValue9
 t37:=Tryz.underlying316
 a37:=Tryz.isAgg316
 z37:=Tryz.sizeOf316
 v37:=Tryz.zeroValue316
 t127:=Tryz.underlying248
 a127:=Tryz.isAgg248
 z127:=Tryz.sizeOf248
 v127:=Tryz.zeroValue248
 t5:=Tryz.underlying5
 a5:=Tryz.isAgg5
 z5:=Tryz.sizeOf5
 v5:=Tryz.zeroValue5
 i0:=by kernel_rfl
 i3:=by kernel_rfl
 i4:=by kernel_rfl
 i5:=by kernel_rfl
 i9:=by kernel_rfl
 i37:=by kernel_rfl
 i127:=by kernel_rfl}
open Go.RowKit in
theorem Tryz.stringslite_Clone(s:ByteArray)(w:World)(hlim:s.size<=281474976710656):
 Calls Tryz.prog 302 #[.string s] w λe w'=>e= .returned (.string s)/\Below w.heap.size w w':=Any.stringslite_Clone Tryz.OA s w hlim
def Tryz.FU:Go.Shelf.Ren:=⟨λ|190=>265|125=>288|258=>287|128=>315|129=>316|302=>306|303=>307|304=>308|305=>309|306=>310|307=>311|308=>312|309=>313|310=>314|333=>326|329=>327|330=>328|334=>329|335=>330|336=>331|344=>336|n=>n,λ|31=>152|9=>9|3=>3|46=>327|0=>0|51=>341|53=>27|4=>4|183=>335|182=>334|131=>137|5=>5|218=>345|222=>108|228=>353|229=>354|n=>n,λ|n=>n⟩
theorem Tryz.GU:Go.Proofs.Lays.n190 Tryz.prog Tryz.FU:={
 mixed:=by kernel_rfl
 f125:=Tryz.func288.trans (congrArg some (by kernel_rfl))
 f128:=Tryz.func315.trans (congrArg some (by kernel_rfl))
 f129:=Tryz.func316.trans (congrArg some (by kernel_rfl))
 f190:=Tryz.func265.trans (congrArg some (by kernel_rfl))
 f258:=Tryz.func287.trans (congrArg some (by kernel_rfl))
 f302:=Tryz.func306.trans (congrArg some (by kernel_rfl))
 f303:=Tryz.func307.trans (congrArg some (by kernel_rfl))
 f304:=Tryz.func308.trans (congrArg some (by kernel_rfl))
 f305:=Tryz.func309.trans (congrArg some (by kernel_rfl))
 f306:=Tryz.func310.trans (congrArg some (by kernel_rfl))
 f307:=Tryz.func311.trans (congrArg some (by kernel_rfl))
 f308:=Tryz.func312.trans (congrArg some (by kernel_rfl))
 f309:=Tryz.func313.trans (congrArg some (by kernel_rfl))
 f310:=Tryz.func314.trans (congrArg some (by kernel_rfl))
 f329:=Tryz.func327.trans (congrArg some (by kernel_rfl))
 f330:=Tryz.func328.trans (congrArg some (by kernel_rfl))
 f333:=Tryz.func326.trans (congrArg some (by kernel_rfl))
 f334:=Tryz.func329.trans (congrArg some (by kernel_rfl))
 f335:=Tryz.func330.trans (congrArg some (by kernel_rfl))
 f336:=Tryz.func331.trans (congrArg some (by kernel_rfl))
 f344:=Tryz.func336.trans (congrArg some (by kernel_rfl))
 t0:=Tryz.underlying0
 a0:=Tryz.isAgg0
 z0:=Tryz.sizeOf0
 v0:=Tryz.zeroValue0
 t3:=Tryz.underlying3
 a3:=Tryz.isAgg3
 z3:=Tryz.sizeOf3
 v3:=Tryz.zeroValue3
 t4:=Tryz.underlying4
 a4:=Tryz.isAgg4
 z4:=Tryz.sizeOf4
 v4:=Tryz.zeroValue4
 t5:=Tryz.underlying5
 a5:=Tryz.isAgg5
 z5:=Tryz.sizeOf5
 v5:=Tryz.zeroValue5
 t9:=Tryz.underlying9
 a9:=Tryz.isAgg9
 z9:=Tryz.sizeOf9
 v9:=Tryz.zeroValue9
 t31:=Tryz.underlying152
 a31:=Tryz.isAgg152
 z31:=Tryz.sizeOf152
 v31:=Tryz.zeroValue152
 t46:=Tryz.underlying327
 a46:=Tryz.isAgg327
 z46:=Tryz.sizeOf327
 v46:=Tryz.zeroValue327
 t51:=Tryz.underlying341
 a51:=Tryz.isAgg341
 z51:=Tryz.sizeOf341
 v51:=Tryz.zeroValue341
 t53:=Tryz.underlying27
 a53:=Tryz.isAgg27
 z53:=Tryz.sizeOf27
 v53:=Tryz.zeroValue27
 t131:=Tryz.underlying137
 a131:=Tryz.isAgg137
 z131:=Tryz.sizeOf137
 v131:=Tryz.zeroValue137
 t182:=Tryz.underlying334
 a182:=Tryz.isAgg334
 z182:=Tryz.sizeOf334
 v182:=Tryz.zeroValue334
 t183:=Tryz.underlying335
 a183:=Tryz.isAgg335
 z183:=Tryz.sizeOf335
 v183:=Tryz.zeroValue335
 t218:=Tryz.underlying345
 a218:=Tryz.isAgg345
 z218:=Tryz.sizeOf345
 v218:=Tryz.zeroValue345
 t222:=Tryz.underlying108
 a222:=Tryz.isAgg108
 z222:=Tryz.sizeOf108
 v222:=Tryz.zeroValue108
 t228:=Tryz.underlying353
 a228:=Tryz.isAgg353
 z228:=Tryz.sizeOf353
 v228:=Tryz.zeroValue353
 t229:=Tryz.underlying354
 a229:=Tryz.isAgg354
 z229:=Tryz.sizeOf354
 v229:=Tryz.zeroValue354}
open Go.Sort Go.RowKit in
theorem Tryz.slices_Sort_string(dk off cap:Nat)(ss:List (List UInt8))(w:World)(hH:Holds encStr w dk off ss.toArray)(hblk:dk<w.heap.size)(hsz:ss.length<4611686018427387904):
 Calls Tryz.prog 265 #[.slice (some ⟨dk,off,none⟩) ss.length cap] w λe w'=>
  e= .returned (.tuple #[])/\∃n os,w'=grow (putRow encStr (Sort.ahead w n) dk off (ss.mergeSort λx y=>decide (x<=y)).toArray) os:=Any.slices_Sort_string Tryz.GU dk off cap ss w hH hblk hsz
open Go.RowKit Go.Sort in
theorem Tryz.slices_Sort_string_none(p:Option Addr)(cap:Nat)(w:World):
 Calls Tryz.prog 265 #[.slice p 0 cap] w λe w'=>e= .returned (.tuple #[])/\w'=w:=Any.slices_Sort_string_none Tryz.GU p cap w
end Go.Proofs
namespace Go.Proofs.YtpmmdkcfenjiaaaGreatDoor
open Value renaming int->aa,pointer->ai,slice->aj,string->ak,tuple->ao,iface->aq,agg->au
open IntKind renaming i64->az,u8->bc
open Ending renaming returned->bf
open Obj renaming cells->bh
open Option renaming some->bj,none->bu
open Bool renaming true->bw,false->bA
open Tryz (prog)
open Go.RowKit
open Tr (Fo Nd)
variable {A:Array Value}{F G:Fo}{E y z:Int}{K b c i j k m n:Nat}{x:Nd}{T:TypeId}{v:Value}{w w1 wr:bD}{s:bU}
theorem zs(s:bU)(w:bD)(hs:s.size<=1000000):Calls prog 279 #[ak s] w λe w'=>e=bf (ak s)/\Below w.heap.size w w':=by
 have HC:=hZ (Tryz.stringslite_Clone s w bB);go_in
 go_wp2_with fail
 refine sC HC.v ?_;rintro w1 b1;have B1:=hZ b1;go_wp2
 go_ret
 exact⟨rfl,B1.v⟩
def Tr.jg(x:Nd)(s:bU)(k:Nat):Nd:={x with eN:=ir x.eN x.size s,db:=ir x.db x.size k,size:=x.size+1}
def Tr.lB(F:Fo)(n:Nat)(s:bU)(k:Nat):Fo:=
 if((F.put n (Tr.jg (F.nd n) s k)).nd k).kind=2 then(F.put n (Tr.jg (F.nd n) s k)).put k {(F.put n (Tr.jg (F.nd n) s k)).nd k with up:=n}else F.put n (Tr.jg (F.nd n) s k)
theorem bR.rG(h:bR w b F)(n i k:Nat)(s:bU)(hn:n<40)(hi:i<8):bR ((w.setCell ⟨b,n*62+6+i*2,bu⟩ (ak s)).setCell ⟨b,n*62+6+i*2+1,bu⟩ (aa az (k:Int))) b (F.put n {F.nd n with eN:=ir (F.nd n).eN i s,db:=ir (F.nd n).db i k}):=by
 have a:=(h.Ur n i s hn hi).Up n i k hn hi;rw[Tr.bG]at a;refine a.congr (λo _=>?_);unfold jV;by_cases c:o<2480
 .rw[aJ c,aJ c];by_cases d:o/62=n
  .rw[d,Tr.bG,Tr.bG]
  .rw[Tr.bO _ _ _ _ d,Tr.bO _ _ _ _ d,Tr.bO _ _ _ _ d]
 .rw[aI c,aI c];rfl
theorem Tr.gN(F:Fo)(n:Nat)(x y:Nd):(F.put n x).put n y=F.put n y:=by unfold Fo.put;grind
theorem rS(b n k:Nat)(s:bU)(F:Fo)(w:bD)(h:bR w b F)(hn:n<40)(hk:k<40)(hz:(F.nd n).size<8)(hs:s.size<=1000000):
  Calls prog 257 #[ai (bj ⟨b,0,bu⟩),aa az (n:Int),ak s,aa az (k:Int)] w λe w'=>e=bf (ao #[])/\bR w' b (Tr.lB F n s k)/\bH b w w':=by
 have HF:=hZ h;have nI:(n:Int)<40:=bB
 have kI:(k:Int)<40:=bB
 obtain⟨sz,hsz⟩:=nJ ((F.nd n).size);have HSZ:=hZ hsz;rw[hsz]at hz;have szI:(sz:Int)<8:=bB
 have hw:IntKind.i64.wrap ((sz:Int)+1)=(sz:Int)+1:=aN _ ⟨by omega,bB⟩;go_in
 go_wp2
 go_quiet (fail)
 generalize hW:World.drewN w _=W1;have S1:Hid (bR W1 b F/\bH b w W1):=hZ (by rw[<-hW];exact⟨HF.drewN _,(bH.refl b w).drewN _⟩);have K0:Hid (W1.cell? ⟨b,n*62+3,bu⟩=bj (aa az (sz:Int))):=hZ (by rw[<-HSZ.v];exact S1.1.nX n hn);have KS:Hid (∀W,bR W b F->((W.setCell ⟨b,n*62+6+sz*2,bu⟩ (ak s)).setCell ⟨b,n*62+6+sz*2+1,bu⟩ (aa az (k:Int))).cell? ⟨b,n*62+3,bu⟩=bj (aa az (sz:Int))):=hZ (λW hW=>by
  have:=(hW.rG n sz k s hn hz).nX n hn;rw[Tr.bG]at this;rw[this,<-HSZ.v])
 have c0:∀W,bR W b F->(∃v,W.cell? ⟨b,n*62+6+sz*2,bu⟩=bj (ak v))/\(∃v:Nat,W.cell? ⟨b,n*62+6+sz*2+1,bu⟩=bj (aa az (v:Int))):=λW hW=>⟨⟨_,hW.xp n sz hn hz⟩,⟨_,hW.uJ n sz hn hz⟩⟩;have HC0:=hZ c0;go_wp2
 go_region_held3 (λw'=>w'.cell? ⟨b,n*62+3,bu⟩=bj (aa az (sz:Int))) (first|exact K0.v|exact K2.v|exact KS.v _ H2.1|go_keep) ((go_at_call 279;refine sC (zs s _ hs) ?_;rintro w2 b2;have H2:Hid (bR w2 b F/\bH b w w2):=hZ ⟨S1.1.drew.below b2,S1.2.drew.trans (bH.cJ b2)⟩;have K2:Hid (w2.cell? ⟨b,n*62+3,bu⟩=bj (aa az (sz:Int))):=hZ (by rw[<-HSZ.v];exact H2.1.nX n hn);obtain⟨⟨v1,q1⟩,⟨v2,q2⟩⟩:=HC0.v w2 H2.1;have qf:=H2.1.frozen))
 generalize hW3:(w2.setCell ⟨b,n*62+6+sz*2,bu⟩ (ak s)).setCell ⟨b,n*62+6+sz*2+1,bu⟩ (aa az (k:Int))=W3;have S3:Hid (bR W3 b (F.put n {F.nd n with eN:=ir (F.nd n).eN sz s,db:=ir (F.nd n).db sz k})/\bH b w W3):=hZ (by
  rw[<-hW3];exact⟨H2.1.rG n sz k s hn hz,(H2.2.setCell _ _).setCell _ _⟩)
 have c3:W3.cell? ⟨b,n*62+3,bu⟩=bj (aa az (sz:Int)):=by
  have:=S3.1.nX n hn;rw[Tr.bG]at this;rw[this,<-HSZ.v]
 have cf3:=S3.1.frozen;have S4:Hid (bR (W3.setCell ⟨b,n*62+3,bu⟩ (aa az ((sz:Int)+1))) b (F.put n (Tr.jg (F.nd n) s k))/\bH b w (W3.setCell ⟨b,n*62+3,bu⟩ (aa az ((sz:Int)+1)))):=hZ (by
  have a:=S3.1.AJ n (sz+1) hn;rw[Tr.bG,Tr.gN]at a;have e:Tr.jg (F.nd n) s k={F.nd n with eN:=ir (F.nd n).eN sz s,db:=ir (F.nd n).db sz k,size:=sz+1}:=by unfold Tr.jg;rw[HSZ.v]
  rw[e];exact⟨a,S3.2.setCell _ _⟩)
 go_upto_region 3 with fail
 refine cM (λW=>bR W b (F.put n (Tr.jg (F.nd n) s k))/\bH b w W) S4.v ?_;intro W4 h4;have S5:=hZ h4;obtain⟨F2,hF2⟩:=nJ (F.put n (Tr.jg (F.nd n) s k));have HL:Hid (Tr.lB F n s k=if(F2.nd k).kind=2 then F2.put k {F2.nd k with up:=n}else F2):=hZ (by unfold Tr.lB;rw[hF2]);rw[hF2]at S5;have c5:=S5.1.tD k hk;have cu:=S5.1.Vt k hk;have cf:=S5.1.frozen;by_cases k2:(F2.nd k).kind=2
 .have FIN:Hid (bR (W4.setCell ⟨b,k*62+5,bu⟩ (aa az (n:Int))) b (Tr.lB F n s k)/\bH b w (W4.setCell ⟨b,k*62+5,bu⟩ (aa az (n:Int)))):=hZ (by
   rw[HL.v,aJ k2];exact⟨S5.1.U8 k n hk,S5.2.setCell _ _⟩)
  rw[k2]at c5;have c5':W4.cell? ⟨b,k*62,bu⟩=bj (aa .i64 2):=c5;generalize (F2.nd k).up=uu at*;go_wp2
  go_end0
  exact⟨rfl,FIN.v⟩
 .have FIN:Hid (bR W4 b (Tr.lB F n s k)):=hZ (by rw[HL.v,aI k2];exact S5.1);have k2':(((F2.nd k).kind:Int)==2)=bA:=by simp;omega
  generalize (F2.nd k).kind=kk at*;go_wp2
  go_end0
  exact⟨rfl,FIN.v,S5.2⟩
section
variable {ops:Array Oper}{rest:List Oper}{x:Oper}{a:Act}{w:bD}{Q:Exit->Act->bD->Prop}
def fq(kd tr up:Nat):Nd:={Nd.no with kind:=kd,cW:=1,tree:=tr,up:=up}
theorem yd(hgd:x.guard=bu)(y0 y1 y2:Operand)(kd tr up:Nat)(ho:x.op= .build 204 #[(0,y0),(1,y1),(2,y2)])(h0:a.eval y0=au #[aa az (kd:Int),aa az 1,aa az 0,aa az 0])(h1:a.eval y1=aa az (tr:Int))(h2:a.eval y2=aa az (up:Int))(h:wpList prog ops Q rest (a.put x.dst (au (dw (fq kd tr up)))) w):wpList prog ops Q (x::rest) a w:=
 wpList_plain hgd λ_ hK=>by
  unfold Oper.wp execOp;simp only[ho,List.map_toArray,List.map_cons,List.map_nil,h0,h1,h2];simp[go_sem];exact hK _ _ h
end
def Tr.AE(F:Fo)(n:Nat):Fo:={F.put n (fq 2 F.trees n)with root:=ir F.root F.trees n,trees:=F.trees+1}
def Tr.ry(F:Fo)(T:Nat)(E:Int)(G:Fo):Prop:=(F.trees=4/\T=0/\E=4/\G=F)\/(F.trees≠4/\∃n e,Tr.gK F n e/\((e≠0/\T=0/\E=e/\G=F)\/(e=0/\T=F.trees/\E=0/\G=Tr.AE F n)))
theorem zu(b:Nat)(F:Fo)(w:bD)(h:bR w b F)(ht:F.trees<=4):
  Calls prog 89 #[ai (bj ⟨b,0,bu⟩)] w λe w'=>∃(T:Nat) (E:Int) (G:Fo),e=bf (ao #[aa az (T:Int),bN E])/\Tr.ry F T E G/\bR w' b G/\bH b w w':=by
 have HF:=hZ h;have c0:=h.C9;by_cases t4:F.trees=4
 .have FIN:Hid (Tr.ry F 0 4 F):=hZ (.inl ⟨t4,rfl,rfl,rfl⟩);rw[t4]at c0;have c0':w.cell? ⟨b,2484,bu⟩=bj (aa .i64 4):=c0;go_in
  go_wp2
  go_ret2
  exact⟨0,4,F,rfl,FIN.v,HF.v,bH.refl _ _⟩
 .have HT4:=hZ t4;obtain⟨tt,htt⟩:=nJ (F.trees);have HTT:=hZ htt;rw[htt]at c0;have tI:(tt:Int)<4:=bB
  have t4':((tt:Int)==4)=bA:=by simp;omega
  have hw:IntKind.i64.wrap ((tt:Int)+1)=(tt:Int)+1:=aN _ ⟨by omega,bB⟩;have tN:tt<4:=bB
  go_in
  go_wp2_with fail
  refine(vC b F _ HF.v).mono ?_;rintro e w1 ⟨n,E,rfl,hf,hw1⟩;subst w1;have HFR:=hZ hf;by_cases e0:E=0
  .subst e0;have n40:n<40:=by
    rcases hf with⟨_,h1,_⟩|⟨h1,_⟩
    .exact h1
    .omega
   have nI:(n:Int)<40:=bB
   have TH:=hZ (HF.there n n40 (fq 2 tt n));have HS:=hZ (pJ (fq 2 tt n));have H1:=hZ (pL (fq 2 tt n));have S1:Hid (bR (w.setCells b (n*62) (dw (fq 2 tt n)).toList) b (F.put n (fq 2 tt n))/\bH b w (w.setCells b (n*62) (dw (fq 2 tt n)).toList)):=hZ ⟨HF.setNode n n40 _,bH.setCells _ _ (bH.refl b w)⟩;obtain⟨A,hA⟩:=nJ (dw (fq 2 tt n));rw[hA]at TH HS H1 S1;rw[bF];go_upto_region 8 with(first|(refine yd rfl _ _ _ 2 tt n rfl rfl rfl rfl ?_;rw[hA])|(refine wpList_store_mid rfl 204 _ _ rfl b (n*62) A rfl rfl TH.v HS.v H1.v ?_))
   refine cM (λW=>bR W b (F.put n (fq 2 tt n))/\bH b w W) S1.v ?_;intro W2 h2;have S2:=hZ h2;have c2:=h2.1.C9;have c3:=h2.1.PX tt tN;have cf:=h2.1.frozen;rw[show(F.put n (fq 2 tt n)).trees=tt from HTT.v]at c2;generalize (F.put n (fq 2 tt n)).root tt=rr at*;have S3:Hid (bR ((W2.setCell ⟨b,2480+tt,bu⟩ (aa az (n:Int))).setCell ⟨b,2484,bu⟩ (aa az ((tt:Int)+1))) b (Tr.AE F n)/\bH b w ((W2.setCell ⟨b,2480+tt,bu⟩ (aa az (n:Int))).setCell ⟨b,2484,bu⟩ (aa az ((tt:Int)+1)))):=hZ (by
    have a:=(h2.1.Sr tt n tN).Pe (tt+1);refine⟨?_,(h2.2.setCell _ _).setCell _ _⟩;unfold Tr.AE;rw[HTT.v];exact a)
   go_wp2
   go_ret2
   exact⟨tt,0,_,rfl, .inr ⟨HT4.v,n,0,HFR.v, .inr ⟨rfl,HTT.symm,rfl,rfl⟩⟩,S3.v⟩
  .have E2:Hid (bN E=aq 100 (aa az E)/\E≠0):=hZ ⟨bM e0,e0⟩;rw[E2.1];go_wp2
   go_ret2
   exact⟨0,E,F,by rw[E2.1];rfl, .inr ⟨HT4.v,n,E,HFR.v, .inl ⟨E2.2,rfl,rfl,rfl⟩⟩,HF.v,bH.refl _ _⟩
def fA(F:Fo):Array Value:=((List.range 2485).map (jV F)).toArray
theorem UL(F:Fo)(i:Nat)(h:i<2485):(fA F)[i]? =bj (jV F i):=by simp[fA,h]
theorem UR:Tryz.zeroCells208=fA Tr.f0:=by kernel_rfl
theorem Pv(w:bD):Calls prog 87 #[] w λe w'=>e=bf (ai (bj ⟨w.heap.size,0,bu⟩))/\bR w' w.heap.size Tr.f0/\Below w.heap.size w w':=by
 have FIN:Hid (bR (w.alloc (bh Tryz.zeroCells208 208)) w.heap.size Tr.f0):=hZ (by
  have h:=heap_alloc_new w (bh Tryz.zeroCells208 208);have h2:(w.alloc (bh Tryz.zeroCells208 208)).heap[w.heap.size]? =bj (bh (fA Tr.f0) 208 (0,0)):=by rw[<-UR];exact h
  exact⟨⟨_,h2,by simp[fA]⟩,λo ho=>by rw[bS h2,UL _ o ho]⟩)
 go_in
 go_wp2
 go_ret
 exact⟨rfl,FIN.v,(aQ _ _).alloc (aL _) _⟩
theorem Tr.po.ok(h:Tr.po F z s 0):∃n:Nat,z=n/\n<40/\(F.nd n).kind=2/\Tr.gd s=bw/\Tr.fJ (F.nd n) s (-1)/\(F.nd n).size≠8:=by
 rcases h with⟨h1,h2⟩|⟨h1,h2⟩
 .omega
 .obtain⟨n,rfl,h3,_,h5⟩:=Tr.fB h1;rcases h2 with⟨_,h6⟩|⟨h6,⟨_,_,h7⟩|⟨h7,⟨_,h8⟩|⟨h8,_⟩⟩⟩
  .omega
  .omega
  .omega
  .exact⟨n,rfl,h3,h5,h6,h7,h8⟩
theorem Tr.qk(h:Tr.gd s=bw):s.size<=8:=by grind [Tr.gd]
def Tr.jQ(F:Fo)(n:Nat)(s:bU)(kd k:Nat):Fo:=Tr.lB (F.put k (fq kd (F.nd n).tree 0)) n s k
def Tr.tf(F:Fo)(z:Int)(s:bU)(kz:Int)(K:Nat)(E:Int)(G:Fo):Prop:=
 (kz≠1/\kz≠2/\K=0/\E=1/\G=F)\/((kz=1\/kz=2)/\∃e,Tr.po F z s e/\((e≠0/\K=0/\E=e/\G=F)\/(e=0/\∃k e2,Tr.gK F k e2/\((e2≠0/\K=0/\E=e2/\G=F)\/(e2=0/\K=k/\E=0/\G=Tr.jQ F z.toNat s kz.toNat k)))))
theorem J4(kd tr:Nat)(w:bD):(Instr.build 204 #[(0,au #[aa az (kd:Int),aa az 1,aa az 0,aa az 0]),(1,aa az (tr:Int))]).run prog w= .ok (au (dw (fq kd tr 0))) w:=by
 simp[go_sem];rfl
theorem rQ{ops:Array Oper}{rest:List Oper}{x:Oper}{a:Act}{Q:Act->Prop}(hgd:x.guard=bu)(y0 y1:Operand)(kd tr:Nat)(ho:x.op= .build 204 #[(0,y0),(1,y1)])(h0:a.eval y0=au #[aa az (kd:Int),aa az 1,aa az 0,aa az 0])(h1:a.eval y1=aa az (tr:Int))
  (h:wpStill prog ops w Q rest (a.put x.dst (au (dw (fq kd tr 0))))):wpStill prog ops w Q (x::rest) a:=by
 refine wpStill_step (λK hK=>?_);have hw:Region.wanted x (yielded ops a.tmps)=bw:=by simp[Region.wanted,hgd]
 rw[aJ hw];have hb:=J4 kd tr w;unfold Oper.still execOp;simp only[ho,List.map_toArray,List.map_cons,List.map_nil,h0,h1,Sem.run_bind,hb,Result.andThen_ok,Sem.run_pure,Oper.stillUpon_value];exact hK _ h
theorem Pu(b:Nat)(z:Int)(s:bU)(kz:Int)(F:Fo)(w:bD)(h:bR w b F)(k1:¬kz=1)(k2:¬kz=2):
  Calls prog 242 #[ai (bj ⟨b,0,bu⟩),aa az z,ak s,aa az kz] w λe w'=>∃(K:Nat) (E:Int) (G:Fo),e=bf (ao #[aa az (K:Int),bN E])/\Tr.tf F z s kz K E G/\bR w' b G/\bH b w w':=by
 have HF:=hZ h;have FIN:Hid (Tr.tf F z s kz 0 1 F):=hZ (.inl ⟨k1,k2,rfl,rfl,rfl⟩);have d1:(kz==1)=bA:=by simpa using k1
 have d3:(kz !=1)=bw:=by simpa using k1
 have d4:(kz !=2)=bw:=by simpa using k2
 go_in
 go_wp2
 go_ret2
 exact⟨0,1,F,rfl,FIN.v,HF.v,bH.refl _ _⟩
theorem Sw(b:Nat)(z:Int)(s:bU)(F:Fo)(w:bD)(h:bR w b F)(hs:Tr.lr F):
  Calls prog 242 #[ai (bj ⟨b,0,bu⟩),aa az z,ak s,aa az 1] w λe w'=>∃(K:Nat) (E:Int) (G:Fo),e=bf (ao #[aa az (K:Int),bN E])/\Tr.tf F z s 1 K E G/\bR w' b G/\bH b w w':=by
 have HF:=hZ (aK h hs);go_in
 go_wp2_with fail
 refine(sv b z s F _ HF.1 HF.2).mono ?_;rintro e w1 ⟨E,rfl,hw1,b1⟩;have S1:Hid (Tr.po F z s E/\bR w1 b F/\bH b w w1):=hZ ⟨hw1,HF.1.below b1,bH.cJ b1⟩;by_cases e0:E=0
 .subst e0;obtain⟨n,rfl,n40,k2,hnm,_,hsz⟩:=S1.1.ok;have HN:Hid ((F.nd n).kind=2/\s.size<=8/\(F.nd n).size<8):=hZ ⟨k2,Tr.qk hnm,by have:=HF.2 n n40 k2;omega⟩;rw[gM,bF];go_wp2_with fail
  refine(vC b F _ S1.2.1).mono ?_;rintro e w2 ⟨k,E,rfl,hf,hw2⟩;subst w2;have HFR:=hZ hf;by_cases f0:E=0
  .subst f0;obtain⟨k40,kk0⟩:k<40/\(F.nd k).kind=0:=by
    rcases hf with⟨_,h1,h2,_⟩|⟨h1,_⟩
    .exact⟨h1,h2⟩
    .omega
   have kI:(k:Int)<40:=bB
   have nk:n≠k:=λe=>by rw[e]at HN;rw[kk0]at HN;exact aZ HN.1 bE
   obtain⟨tr,htr⟩:=nJ ((F.nd n).tree);have K0:w1.cell? ⟨b,n*62+4,bu⟩=bj (aa az (tr:Int)):=by rw[<-htr];exact S1.2.1.tE n n40
   have K1:w1.drew.cell? ⟨b,n*62+4,bu⟩=bj (aa az (tr:Int)):=K0;have S3:Hid (bR (w1.drew.setCells b (k*62) (dw (fq 1 tr 0)).toList) b (F.put k (fq 1 tr 0))/\bH b w (w1.drew.setCells b (k*62) (dw (fq 1 tr 0)).toList)):=hZ ⟨S1.2.1.drew.setNode k k40 _,bH.setCells _ _ S1.2.2.drew⟩;have TH:=hZ (S1.2.1.drew.there k k40 (fq 1 tr 0));have HS:=hZ (pJ (fq 1 tr 0));have H1:=hZ (pL (fq 1 tr 0));have HMK:Hid (Tr.jQ F n s 1 k=Tr.lB (F.put k (fq 1 tr 0)) n s k):=hZ (by unfold Tr.jQ;rw[htr]);obtain⟨A,hA⟩:=nJ (dw (fq 1 tr 0));rw[hA]at S3 TH HS H1;rw[bF];go_upto_region 9 with fail
   refine wp_region_still_tail 12 bC bC ?_;simp only[List.take_succ_cons,List.take_zero,List.drop_succ_cons,List.drop_zero]
   iterate 8 still_step
   refine rQ rfl _ _ 1 tr rfl rfl rfl ?_;rw[hA]
   iterate 3 still_step
   refine wpStill_nil ?_;refine wpList_store_mid rfl 204 _ _ rfl b (k*62) A rfl rfl TH.v HS.v H1.v ?_;refine wpList_nil ?_;have S4:=S3;have TN:Hid ((F.put k (fq 1 tr 0)).nd n=F.nd n):=hZ (Tr.bO _ _ _ _ nk);go_wp2_with fail
   refine sC (rS b n k s _ _ S4.1 n40 k40 (by rw[TN.v];exact HN.2.2) (aH HN.2.1 bE)) ?_;rintro W5 ⟨h5,f5⟩;have S5:Hid (bR W5 b (Tr.jQ F n s 1 k)/\bH b w W5):=hZ ⟨by rw[HMK.v];exact h5,S4.2.trans f5⟩;go_wp2
   go_ret2
   exact⟨k,0,_,rfl, .inr ⟨by decide,0,S1.1, .inr ⟨rfl,k,0,HFR.v, .inr ⟨rfl,rfl,rfl,rfl⟩⟩⟩,S5.v⟩
  .have E2:Hid (bN E=aq 100 (aa az E)/\E≠0):=hZ ⟨bM f0,f0⟩;rw[E2.1];go_wp2
   go_ret2
   exact⟨0,E,F,by rw[E2.1];rfl, .inr ⟨by decide,0,S1.1, .inr ⟨rfl,k,E,HFR.v, .inl ⟨E2.2,rfl,rfl,rfl⟩⟩⟩,S1.2⟩
 .have E2:Hid (bN E=aq 100 (aa az E)/\E≠0):=hZ ⟨bM e0,e0⟩;rw[E2.1];go_wp2
  go_ret2
  exact⟨0,E,F,by rw[E2.1];rfl, .inr ⟨by decide,E,S1.1, .inl ⟨E2.2,rfl,rfl,rfl⟩⟩,S1.2⟩
theorem Sx(b:Nat)(z:Int)(s:bU)(F:Fo)(w:bD)(h:bR w b F)(hs:Tr.lr F):
  Calls prog 242 #[ai (bj ⟨b,0,bu⟩),aa az z,ak s,aa az 2] w λe w'=>∃(K:Nat) (E:Int) (G:Fo),e=bf (ao #[aa az (K:Int),bN E])/\Tr.tf F z s 2 K E G/\bR w' b G/\bH b w w':=by
 have HF:=hZ (aK h hs);go_in
 go_wp2_with fail
 refine(sv b z s F _ HF.1 HF.2).mono ?_;rintro e w1 ⟨E,rfl,hw1,b1⟩;have S1:Hid (Tr.po F z s E/\bR w1 b F/\bH b w w1):=hZ ⟨hw1,HF.1.below b1,bH.cJ b1⟩;by_cases e0:E=0
 .subst e0;obtain⟨n,rfl,n40,k2,hnm,_,hsz⟩:=S1.1.ok;have HN:Hid ((F.nd n).kind=2/\s.size<=8/\(F.nd n).size<8):=hZ ⟨k2,Tr.qk hnm,by have:=HF.2 n n40 k2;omega⟩;rw[gM,bF];go_wp2_with fail
  refine(vC b F _ S1.2.1).mono ?_;rintro e w2 ⟨k,E,rfl,hf,hw2⟩;subst w2;have HFR:=hZ hf;by_cases f0:E=0
  .subst f0;obtain⟨k40,kk0⟩:k<40/\(F.nd k).kind=0:=by
    rcases hf with⟨_,h1,h2,_⟩|⟨h1,_⟩
    .exact⟨h1,h2⟩
    .omega
   have kI:(k:Int)<40:=bB
   have nk:n≠k:=λe=>by rw[e]at HN;rw[kk0]at HN;exact aZ HN.1 bE
   obtain⟨tr,htr⟩:=nJ ((F.nd n).tree);have K0:w1.cell? ⟨b,n*62+4,bu⟩=bj (aa az (tr:Int)):=by rw[<-htr];exact S1.2.1.tE n n40
   have K1:w1.drew.cell? ⟨b,n*62+4,bu⟩=bj (aa az (tr:Int)):=K0;have S3:Hid (bR (w1.drew.setCells b (k*62) (dw (fq 2 tr 0)).toList) b (F.put k (fq 2 tr 0))/\bH b w (w1.drew.setCells b (k*62) (dw (fq 2 tr 0)).toList)):=hZ ⟨S1.2.1.drew.setNode k k40 _,bH.setCells _ _ S1.2.2.drew⟩;have TH:=hZ (S1.2.1.drew.there k k40 (fq 2 tr 0));have HS:=hZ (pJ (fq 2 tr 0));have H1:=hZ (pL (fq 2 tr 0));have HMK:Hid (Tr.jQ F n s 2 k=Tr.lB (F.put k (fq 2 tr 0)) n s k):=hZ (by unfold Tr.jQ;rw[htr]);obtain⟨A,hA⟩:=nJ (dw (fq 2 tr 0));rw[hA]at S3 TH HS H1;rw[bF];go_upto_region 9 with fail
   refine wp_region_still_tail 12 bC bC ?_;simp only[List.take_succ_cons,List.take_zero,List.drop_succ_cons,List.drop_zero]
   iterate 8 still_step
   refine rQ rfl _ _ 2 tr rfl rfl rfl ?_;rw[hA]
   iterate 3 still_step
   refine wpStill_nil ?_;refine wpList_store_mid rfl 204 _ _ rfl b (k*62) A rfl rfl TH.v HS.v H1.v ?_;refine wpList_nil ?_;have S4:=S3;have TN:Hid ((F.put k (fq 2 tr 0)).nd n=F.nd n):=hZ (Tr.bO _ _ _ _ nk);go_wp2_with fail
   refine sC (rS b n k s _ _ S4.1 n40 k40 (by rw[TN.v];exact HN.2.2) (aH HN.2.1 bE)) ?_;rintro W5 ⟨h5,f5⟩;have S5:Hid (bR W5 b (Tr.jQ F n s 2 k)/\bH b w W5):=hZ ⟨by rw[HMK.v];exact h5,S4.2.trans f5⟩;go_wp2
   go_ret2
   exact⟨k,0,_,rfl, .inr ⟨by decide,0,S1.1, .inr ⟨rfl,k,0,HFR.v, .inr ⟨rfl,rfl,rfl,rfl⟩⟩⟩,S5.v⟩
  .have E2:Hid (bN E=aq 100 (aa az E)/\E≠0):=hZ ⟨bM f0,f0⟩;rw[E2.1];go_wp2
   go_ret2
   exact⟨0,E,F,by rw[E2.1];rfl, .inr ⟨by decide,0,S1.1, .inr ⟨rfl,k,E,HFR.v, .inl ⟨E2.2,rfl,rfl,rfl⟩⟩⟩,S1.2⟩
 .have E2:Hid (bN E=aq 100 (aa az E)/\E≠0):=hZ ⟨bM e0,e0⟩;rw[E2.1];go_wp2
  go_ret2
  exact⟨0,E,F,by rw[E2.1];rfl, .inr ⟨by decide,E,S1.1, .inl ⟨E2.2,rfl,rfl,rfl⟩⟩,S1.2⟩
theorem Mm(b:Nat)(z:Int)(s:bU)(kz:Int)(F:Fo)(w:bD)(h:bR w b F)(hs:Tr.lr F):
 Calls prog 242 #[ai (bj ⟨b,0,bu⟩),aa az z,ak s,aa az kz] w λe w'=>∃(K:Nat) (E:Int) (G:Fo),e=bf (ao #[aa az (K:Int),bN E])/\Tr.tf F z s kz K E G/\bR w' b G/\bH b w w':=by grind [Sw,Sx,Pu]
def Tr.eX(x:Nd)(i:Nat):Nd:={x with eN:=ir (ir x.eN i (x.eN (x.size-1))) (x.size-1) ByteArray.empty,db:=ir (ir x.db i (x.db (x.size-1))) (x.size-1) 0,size:=x.size-1}
theorem su(b n i:Nat)(s:bU)(F:Fo)(w:bD)(h:bR w b F)(hn:n<40)(hm8:(F.nd n).size<=8)(hp:Tr.fJ (F.nd n) s (i:Int)):
  Calls prog 252 #[ai (bj ⟨b,n*62,bu⟩),ak s] w λe w'=>e=bf (ao #[])/\bR w' b (F.put n (Tr.eX (F.nd n) i))/\bH b w w':=by
 have HF:=hZ h;have hi:i<(F.nd n).size:=by
  rcases hp with⟨j,e,h1,_⟩|⟨e,_⟩
  .omega
  .omega
 have HP:=hZ hp;obtain⟨sz,hsz⟩:=nJ ((F.nd n).size);obtain⟨l,hl⟩:=nJ (sz-1);have HSZ:Hid ((F.nd n).size=sz/\(F.nd n).size-1=l):=hZ ⟨hsz,bB⟩;have hm:Hid ((F.nd n).size<=8):=hZ hm8;rw[hsz]at hi hm8;have iI:(i:Int)<(sz:Int):=bB
 have lI:(l:Int)<(sz:Int):=bB
 have hw:IntKind.i64.wrap ((sz:Int)-1)=(l:Int):=(aN _ ⟨by omega,bB⟩).trans bB;have l8:l<8:=bB
 have i8:i<8:=bB
 obtain⟨sl,hsl⟩:=nJ ((F.nd n).eN l);obtain⟨kl,hkl⟩:=nJ ((F.nd n).db l);have HL:Hid ((F.nd n).eN l=sl/\(F.nd n).db l=kl):=hZ ⟨hsl,hkl⟩;clear h hp hsz hi hl hm8 hsl hkl;go_in
 go_wp2_with fail
 refine sC (qZ b n F _ HF.v hn hm.v) ?_;rintro W1 ⟨k,hW⟩;rw[HSZ.1];have S1:Hid (bR W1 b F/\bH b w W1):=hZ (by rw[hW];exact⟨HF.drewN _,(bH.refl b w).drewN _⟩);clear hW;have K0:Hid (∀W,bR W b F->W.cell? ⟨b,n*62+6+l*2,bu⟩=bj (ak sl)/\W.cell? ⟨b,n*62+6+l*2+1,bu⟩=bj (aa az (kl:Int))):=hZ (λW hW=>by
  rw[<-HL.1,<-HL.2];exact⟨hW.xp n l hn l8,hW.uJ n l hn l8⟩)
 have KS:Hid (∀W,bR W b F->((W.setCell ⟨b,n*62+6+i*2,bu⟩ (ak sl)).setCell ⟨b,n*62+6+i*2+1,bu⟩ (aa az (kl:Int))).cell? ⟨b,n*62+6+l*2,bu⟩=bj (ak sl)/\((W.setCell ⟨b,n*62+6+i*2,bu⟩ (ak sl)).setCell ⟨b,n*62+6+i*2+1,bu⟩ (aa az (kl:Int))).cell? ⟨b,n*62+6+l*2+1,bu⟩=bj (aa az (kl:Int))):=hZ (λW hW=>by
  have a:=hW.rG n i kl sl hn i8;have c1:=a.xp n l hn l8;have c2:=a.uJ n l hn l8;rw[Tr.bG]at c1 c2;rw[c1,c2];show bj (ak (ir (F.nd n).eN i sl l))=_/\bj (aa az ((ir (F.nd n).db i kl l:Nat):Int))=_;unfold ir;rw[HL.1,HL.2,ite_self,ite_self];exact⟨rfl,rfl⟩)
 have HC0:Hid (∀W,bR W b F->(∃v,W.cell? ⟨b,n*62+6+i*2,bu⟩=bj (ak v))/\(∃v:Nat,W.cell? ⟨b,n*62+6+i*2+1,bu⟩=bj (aa az (v:Int)))):=hZ (λW hW=>⟨⟨_,hW.xp n i hn i8⟩,⟨_,hW.uJ n i hn i8⟩⟩);have K1:Hid (W1.cell? ⟨b,n*62+6+l*2,bu⟩=bj (ak sl)/\W1.cell? ⟨b,n*62+6+l*2+1,bu⟩=bj (aa az (kl:Int))):=hZ (K0.v W1 S1.1);go_wp2_with fail
 go_region_held3 (λw'=>w'.cell? ⟨b,n*62+6+l*2,bu⟩=bj (ak sl)/\w'.cell? ⟨b,n*62+6+l*2+1,bu⟩=bj (aa az (kl:Int))) (first|exact K1.v|exact K2.v|exact KS.v _ H2.1|go_keep) ((go_at_call 282;refine(uf b n s F _ S1.1.drew hn hm.v).mono ?_;rintro e w2 ⟨y,rfl,hp2,b2⟩;have hy:=hp2.unique HP.v;subst hy;have H2:Hid (bR w2 b F/\bH b w w2):=hZ ⟨S1.1.drew.below b2,S1.2.drew.trans (bH.cJ b2)⟩;have K2:Hid (w2.cell? ⟨b,n*62+6+l*2,bu⟩=bj (ak sl)/\w2.cell? ⟨b,n*62+6+l*2+1,bu⟩=bj (aa az (kl:Int))):=hZ (K0.v w2 H2.1);obtain⟨⟨v1,q1⟩,⟨v2,q2⟩⟩:=HC0.v w2 H2.1;have qf:=H2.1.frozen;clear b2 hp2))
 generalize hW3:(w2.setCell ⟨b,n*62+6+i*2,bu⟩ (ak sl)).setCell ⟨b,n*62+6+i*2+1,bu⟩ (aa az (kl:Int))=W3;have S3:Hid (bR W3 b (F.put n {F.nd n with eN:=ir (F.nd n).eN i sl,db:=ir (F.nd n).db i kl})/\bH b w W3):=hZ (by
  rw[<-hW3];exact⟨H2.1.rG n i kl sl hn i8,(H2.2.setCell _ _).setCell _ _⟩)
 clear hW3 K0 K1 K2 KS HC0 q1 q2 qf H2 S1;obtain⟨⟨v1,q1⟩,⟨v2,q2⟩⟩:(∃v,W3.cell? ⟨b,n*62+6+l*2,bu⟩=bj (ak v))/\(∃v:Nat,W3.cell? ⟨b,n*62+6+l*2+1,bu⟩=bj (aa az (v:Int))):=⟨⟨_,S3.1.xp n l hn l8⟩,⟨_,S3.1.uJ n l hn l8⟩⟩;have qf:=S3.1.frozen;have S4:Hid (bR ((W3.setCell ⟨b,n*62+6+l*2,bu⟩ (ak ByteArray.empty)).setCell ⟨b,n*62+6+l*2+1,bu⟩ (aa .i64 0)) b (F.put n {F.nd n with eN:=ir (ir (F.nd n).eN i sl) l ByteArray.empty,db:=ir (ir (F.nd n).db i kl) l 0})/\bH b w ((W3.setCell ⟨b,n*62+6+l*2,bu⟩ (ak ByteArray.empty)).setCell ⟨b,n*62+6+l*2+1,bu⟩ (aa .i64 0))):=hZ (by
  have a:=S3.1.rG n l 0 ByteArray.empty hn l8;rw[Tr.bG,Tr.gN]at a;exact⟨a,(S3.2.setCell _ _).setCell _ _⟩)
 go_upto_region 4 with fail
 refine cM (λW=>bR W b (F.put n {F.nd n with eN:=ir (ir (F.nd n).eN i sl) l ByteArray.empty,db:=ir (ir (F.nd n).db i kl) l 0})/\bH b w W) S4.v ?_;intro W4 h4;have S5:=hZ h4;clear h4 S4 S3 q1 q2 qf;have c3:=S5.1.nX n hn;rw[Tr.bG]at c3;have c3':W4.cell? ⟨b,n*62+3,bu⟩=bj (aa az (sz:Int)):=by rw[c3];show bj (aa az (((F.nd n).size:Nat):Int))=_;rw[HSZ.1]
 have cf:=S5.1.frozen;have FIN:Hid (bR (W4.setCell ⟨b,n*62+3,bu⟩ (aa az (l:Int))) b (F.put n (Tr.eX (F.nd n) i))/\bH b w (W4.setCell ⟨b,n*62+3,bu⟩ (aa az (l:Int)))):=hZ (by
  have a:=S5.1.AJ n l hn;rw[Tr.bG,Tr.gN]at a;unfold Tr.eX;rw[HSZ.2,HL.1,HL.2];exact⟨a,S5.2.setCell _ _⟩)
 clear c3;go_wp2_with fail
 go_end0
 exact⟨rfl,FIN.v⟩
def Tr.Au(F:Fo)(k n:Nat)(s:bU):Fo:=Tr.lB (F.put k {F.nd k with cW:=(F.nd k).cW+1}) n s k
def Tr.Cj(F:Fo)(y z:Int)(s:bU)(E:Int)(G:Fo):Prop:=
 (Tr.cL F y 1≠0/\E=Tr.cL F y 1/\G=F)\/(Tr.cL F y 1=0/\∃e,Tr.po F z s e/\((e≠0/\E=e/\G=F)\/(e=0/\(((F.nd y.toNat).tree≠(F.nd z.toNat).tree/\E=11/\G=F)\/((F.nd y.toNat).tree=(F.nd z.toNat).tree/\E=0/\G=Tr.Au F y.toNat z.toNat s)))))
theorem Mk(b:Nat)(y z:Int)(s:bU)(F:Fo)(w:bD)(h:bR w b F)(hs:Tr.lr F)(hL:∀n,n<40->(F.nd n).kind≠0->(F.nd n).cW<2^60):
  Calls prog 209 #[ai (bj ⟨b,0,bu⟩),aa az y,aa az z,ak s] w λe w'=>∃(E:Int) (G:Fo),e=bf (bN E)/\Tr.Cj F y z s E G/\bR w' b G/\bH b w w':=by
 have HF:=hZ (aK h hs);by_cases c:Tr.cL F y 1=0
 .obtain⟨k,rfl,k40,kk0,kk1⟩:=Tr.fB c;have EP:Hid (Tr.cL F (k:Int) 1=0/\fw b (k:Int) 0=ai (bj ⟨b,k*62,bu⟩)):=hZ ⟨c,gM b k⟩;have HK1:=hZ (aK kk1 (hL k k40 kk0));go_in
  go_wp2_with fail
  refine sC (iS b k F _ HF.1) ?_;rintro w0 hw0;subst w0;rw[EP.1,EP.2,bF];go_wp2_with fail
  refine(sv b z s F _ HF.1 HF.2).mono ?_;rintro e w1 ⟨E,rfl,hw1,b1⟩;have S1:Hid (Tr.po F z s E/\bR w1 b F/\bH b w w1):=hZ ⟨hw1,HF.1.below b1,bH.cJ b1⟩;by_cases e0:E=0
  .subst e0;obtain⟨n,rfl,n40,k2,hnm,_,hsz⟩:=S1.1.ok;have HN:Hid ((F.nd n).kind=2/\s.size<=8/\(F.nd n).size<8):=hZ ⟨k2,Tr.qk hnm,by have:=HF.2 n n40 k2;omega⟩;have nk:n≠k:=λe=>by have:=HK1.1;rw[<-e,k2]at this;exact aZ this bE
   rw[gM,bF];have c1:=S1.2.1.tE k k40;have c2:=S1.2.1.tE n n40;by_cases tt:(F.nd k).tree=(F.nd n).tree
   .have HT:=hZ tt;rw[tt]at c1;obtain⟨tr,htr⟩:=nJ ((F.nd n).tree);rw[htr]at c1 c2;obtain⟨lk,hlk⟩:=nJ ((F.nd k).cW);have c3:=S1.2.1.drew.uK k k40;rw[hlk]at c3;have c4:w1.cell? ⟨b,k*62+1,bu⟩=bj (aa az (lk:Int)):=c3;have hb:=HK1.2;rw[hlk]at hb;have hw:IntKind.i64.wrap ((lk:Int)+1)=(lk:Int)+1:=aN _ ⟨by omega,bB⟩;have cf:=S1.2.1.frozen;have S3:Hid (∀nq,bR ((w1.drewN nq).setCell ⟨b,k*62+1,bu⟩ (aa az ((lk:Int)+1))) b (F.put k {F.nd k with cW:=lk+1})/\bH b w ((w1.drewN nq).setCell ⟨b,k*62+1,bu⟩ (aa az ((lk:Int)+1)))):=hZ (λnq=>⟨(S1.2.1.drewN nq).xQ k (lk+1) k40,(S1.2.2.drewN nq).setCell _ _⟩);have HMK:Hid (Tr.Au F k n s=Tr.lB (F.put k {F.nd k with cW:=lk+1}) n s k):=hZ (by unfold Tr.Au;rw[hlk]);have TN:Hid ((F.put k {F.nd k with cW:=lk+1}).nd n=F.nd n):=hZ (Tr.bO _ _ _ _ nk);go_wp2_with fail
    go_quiet (fail)
    go_upto_region 10 with fail
    refine cM (λW=>bR W b (F.put k {F.nd k with cW:=lk+1})/\bH b w W) (S3.v _) ?_;intro W4 h4;have S4:=hZ h4;go_wp2_with fail
    refine sC (rS b n k s _ _ S4.1 n40 k40 (by rw[TN.v];exact HN.2.2) (aH HN.2.1 bE)) ?_;rintro W5 ⟨h5,f5⟩;have S5:Hid (bR W5 b (Tr.Au F k n s)/\bH b w W5):=hZ ⟨by rw[HMK.v];exact h5,S4.2.trans f5⟩;go_wp2
    go_ret
    exact⟨0,_,rfl, .inr ⟨EP.1,0,S1.1, .inr ⟨rfl, .inr ⟨HT.v,rfl,rfl⟩⟩⟩,S5.v⟩
   .have HT:=hZ tt;generalize (F.nd k).tree=t1 at c1 tt;generalize (F.nd n).tree=t2 at c2 tt;have tI:((t1:Int)==(t2:Int))=bA:=by simp;omega
    have tI2:¬(t1:Int)=(t2:Int):=bB
    go_wp2_with fail
    go_quiet (fail)
    go_wp2
    go_ret
    exact⟨11,F,rfl, .inr ⟨EP.1,0,S1.1, .inr ⟨rfl, .inl ⟨HT.v,rfl,rfl⟩⟩⟩,S1.2.1.drewN _,S1.2.2.drewN _⟩
  .have E2:Hid (bN E=aq 100 (aa az E)/\E≠0):=hZ ⟨bM e0,e0⟩;rw[E2.1];go_wp2
   go_ret
   exact⟨E,F,by rw[E2.1];rfl, .inr ⟨EP.1,E,S1.1, .inl ⟨E2.2,rfl,rfl⟩⟩,S1.2⟩
 .have E2:Hid (fw b y (Tr.cL F y 1)=ai bu/\bN (Tr.cL F y 1)=aq 100 (aa az (Tr.cL F y 1))/\Tr.Cj F y z s (Tr.cL F y 1) F):=hZ ⟨ij c,bM c, .inl ⟨c,rfl,rfl⟩⟩;go_in
  go_wp2_with fail
  refine sC (iS b y F _ HF.1) ?_;rintro w1 hw;subst w1;rw[E2.1,E2.2.1];go_wp2
  go_ret
  exact⟨_,F,by rw[E2.2.1];rfl,E2.2.2,HF.1,bH.refl _ _⟩
def Tr.dB(F:Fo):Nat->Nat->Prop
 |0,n=>n<40/\(F.nd n).up=n
 |m+1,n=>n<40/\((F.nd n).up=n\/Tr.dB F m (F.nd n).up)
def Tr.gQ(F:Fo)(o:Nat):Nat->Nat->Bool
 |0,n=>n==o
 |m+1,n=>n==o||(!((F.nd n).up==n)&&Tr.gQ F o m (F.nd n).up)
def Tr.rY(F:Fo):Nat->Nat->Nat
 |0,_=>0
 |m+1,n=>if(F.nd n).up=n then 0 else 1+Tr.rY F m (F.nd n).up
theorem Tr.dB.lt(h:Tr.dB F m n):n<40:=by cases m<;>exact h.1
theorem Tr.dB.more{F:Fo}:∀{m n:Nat},Tr.dB F m n->Tr.dB F (m+1) n/\Tr.rY F (m+1) n=Tr.rY F m n/\∀o,Tr.gQ F o (m+1) n=Tr.gQ F o m n
 |0,n,h=>⟨⟨h.1, .inl h.2⟩,aJ h.2,λo=>by
  show(n==o||(!((F.nd n).up==n)&&_))=(n==o);rw[h.2];simp⟩
 |m+1,n,⟨h1,h2⟩=>by
  by_cases c:(F.nd n).up=n
  .refine⟨⟨h1, .inl c⟩,?_,λo=>?_⟩
   .unfold Tr.rY;rw[aJ c,aJ c]
   .unfold Tr.gQ;simp[c]
  .rcases h2 with h2|h2
   .exact aZ h2 c
   .obtain⟨a1,a2,a3⟩:=Tr.dB.more h2;refine⟨⟨h1, .inr a1⟩,?_,λo=>?_⟩
    .show(if _ then 0 else 1+Tr.rY F (m+1) _)=(if _ then 0 else 1+Tr.rY F m _);rw[a2]
    .show(n==o||(!((F.nd n).up==n)&&Tr.gQ F o (m+1) (F.nd n).up))=(n==o||(!((F.nd n).up==n)&&Tr.gQ F o m (F.nd n).up));rw[a3]
theorem Tr.dB.step(h:Tr.dB F m n)(c:(F.nd n).up≠n):Tr.dB F m (F.nd n).up/\Tr.rY F m (F.nd n).up<Tr.rY F m n/\∀o,n≠o->Tr.gQ F o m n=Tr.gQ F o m (F.nd n).up:=by
 cases m with
 |zero=>exact aZ h.2 c
 |succ m=>
  rcases h.2 with h2|h2
  .exact aZ h2 c
  .obtain⟨a1,a2,a3⟩:=h2.more;refine⟨a1,?_,λo ho=>?_⟩
   .rw[a2];show _<(if _ then 0 else 1+Tr.rY F m _);rw[aI c];omega
   .rw[a3];show(n==o||(!((F.nd n).up==n)&&Tr.gQ F o m (F.nd n).up))=_;rw[show(n==o)=bA from by simpa using ho,show((F.nd n).up==n)=bA from by simpa using c];rfl
theorem Tr.rC(F:Fo)(m n:Nat):Tr.gQ F n m n=bw:=by cases m<;>simp[Tr.gQ]
theorem Tr.JY(m:Nat){o:Nat}(c:(F.nd n).up=n)(h:n≠o):Tr.gQ F o m n=bA:=by cases m<;>simp[Tr.gQ,c,h]
theorem JD(b n o m:Nat)(F:Fo)(w:bD)(h:bR w b F)(he:Tr.dB F m n):
  Calls prog 255 #[ai (bj ⟨b,0,bu⟩),aa az (n:Int),aa az (o:Int)] w λe w'=>e=bf (.bool (Tr.gQ F o m n))/\w'=w:=by
 have HF:=hZ h;have HE:=hZ he;go_in
 go_wp2
 go_loopw [1] (λi wr=>∃(y:Nat),i=aa az y/\Hid (Tr.dB F m y/\Tr.gQ F o m n=Tr.gQ F o m y)/\wr=w) (λi _=>Tr.rY F m (intOf i).toNat)
 case atStart=>exact⟨n,rfl,hZ ⟨HE.v,rfl⟩,rfl⟩
 case round=>
  obtain⟨y,rfl,R,hwr⟩:=hrel;subst wr;have y40:=R.1.lt;have yI:(y:Int)<40:=bB
  by_cases c:y=o
  .subst c;have FIN:Hid (Tr.gQ F y m n=bw):=hZ (by rw[R.2];exact Tr.rC F m y);go_wp2
   go_ret
   exact⟨by rw[FIN.v];simp,rfl⟩
  .have c1:((y:Int)==(o:Int))=bA:=by simp;omega
   have c2:¬(y:Int)=(o:Int):=bB
   have c3:((y:Int) !=(o:Int))=bw:=by simp;omega
   have c0:=HF.Vt y y40;by_cases d:(F.nd y).up=y
   .rw[d]at c0;have FIN:Hid (Tr.gQ F o m n=bA):=hZ (by rw[R.2];exact Tr.JY m d c);go_wp2
    go_ret
    exact⟨by rw[FIN.v];simp,rfl⟩
   .have NX:=hZ (R.1.step d);obtain⟨u,hu⟩:=nJ ((F.nd y).up);rw[hu]at c0 NX d;have d2:¬(y:Int)=(u:Int):=bB
    have d3:((y:Int) !=(u:Int))=bw:=by simp;omega
    go_wp2
    go_roundw
    case rel=>exact⟨u,rfl,hZ ⟨NX.1,R.2.trans (NX.2.2 o c)⟩,by first|rfl|trivial⟩
    case measure=>simp[intOf];exact NX.2.1
def Tr.Hy(F:Fo):Prop:=∀n,n<40->(F.nd n).kind=2->∀i,i<(F.nd n).size->(F.nd n).db i<40/\1<=(F.nd ((F.nd n).db i)).cW/\(F.nd ((F.nd n).db i)).cW<2^60
def Tr.xK(F:Fo)(n i k:Nat):Fo:=
 Tr.mM ((F.put n (Tr.eX (F.nd n) i)).put k {(F.put n (Tr.eX (F.nd n) i)).nd k with cW:=(F.nd k).cW-1}) k
def Tr.yy(F:Fo)(z:Int)(s:bU)(E:Int)(G:Fo):Prop:=
 ∃K e,Tr.lF F z s K e/\((e≠0/\E=e/\G=F)\/(e=0/\(((F.nd K).kind=2/\(0<(F.nd K).size\/0<(F.nd K).held)/\E=5/\G=F)\/(¬((F.nd K).kind=2/\(0<(F.nd K).size\/0<(F.nd K).held))/\E=0/\∃i:Nat,Tr.fJ (F.nd z.toNat) s (i:Int)/\G=Tr.xK F z.toNat i K))))
theorem Tr.fJ.lt(h:Tr.fJ x s (i:Int)):i<x.size:=by
 rcases h with⟨j,e,h1,_⟩|⟨e,_⟩
 .omega
 .omega
theorem Tr.lF.ok(h:Tr.lF F z s K 0):∃n i:Nat,z=n/\n<40/\(F.nd n).kind=2/\Tr.fJ (F.nd n) s (i:Int)/\K=(F.nd n).db i:=by
 rcases h with⟨h1,_,h2⟩|⟨h1,h2⟩
 .exact aZ h2.symm h1
 .obtain⟨n,rfl,h3,_,h5⟩:=Tr.fB h1;rw[hU]at h2;rcases h2 with⟨i,h6,h7,_⟩|⟨_,_,h7⟩
  .exact⟨n,i,rfl,h3,h5,h6,h7⟩
  .exact aZ h7 bE
theorem Tr.Bm(F:Fo)(n i k:Nat):((F.put n (Tr.eX (F.nd n) i)).nd k).cW=(F.nd k).cW:=by
 by_cases c:k=n
 .subst c;rw[Tr.bG];rfl
 .rw[Tr.bO _ _ _ _ c]
theorem Gi(b:Nat)(z:Int)(s:bU)(F:Fo)(w:bD)(h:bR w b F)(hs:Tr.lr F)(hK:Tr.Hy F):
  Calls prog 206 #[ai (bj ⟨b,0,bu⟩),aa az z,ak s] w λe w'=>∃(E:Int) (G:Fo),e=bf (bN E)/\Tr.yy F z s E G/\bR w' b G/\bH b w w':=by
 have HF:=hZ (aK h hs);have HH:=hZ (aK True.intro hK);clear h hs hK;go_in
 go_wp2_with fail
 refine(vA b z s F _ HF.1 HF.2).mono ?_;rintro e w1 ⟨k,E,rfl,hw1,b1⟩;have S1:Hid (Tr.lF F z s k E/\bR w1 b F/\bH b w w1):=hZ ⟨hw1,HF.1.below b1,bH.cJ b1⟩;clear hw1 b1;by_cases e0:E=0
 .subst e0;obtain⟨n,i,rfl,n40,k2,hp,hk⟩:=S1.1.ok;have k40:k<40:=by rw[hk];exact(HH.2 n n40 k2 i hp.lt).1
  have l1:1<=(F.nd k).cW:=by rw[hk];exact(HH.2 n n40 k2 i hp.lt).2.1
  have l2:(F.nd k).cW<2^60:=by rw[hk];exact(HH.2 n n40 k2 i hp.lt).2.2
  have HN:Hid ((F.nd n).size<=8/\Tr.fJ (F.nd n) s (i:Int)):=hZ ⟨HF.2 n n40 k2,hp⟩;have nI:(n:Int)<40:=bB
  have kI:(k:Int)<40:=bB
  obtain⟨lk,hlk⟩:=nJ ((F.nd k).cW);have HLK:=hZ hlk;rw[hlk]at l1 l2;have hw:IntKind.i64.wrap ((lk:Int)-1)=((lk-1:Nat):Int):=(aN _ ⟨by omega,bB⟩).trans bB;rw[bF];clear k2 hp hk hlk l1 l2;have c0:=S1.2.1.tD k k40;have cs:=S1.2.1.nX k k40;have ch:=S1.2.1.yG k k40;by_cases kk:(F.nd k).kind=2
  .rw[kk]at c0;have c0':w1.cell? ⟨b,k*62,bu⟩=bj (aa .i64 2):=c0;clear c0;by_cases z0:0<(F.nd k).size
   .have FIN:Hid (Tr.yy F (n:Int) s 5 F):=hZ ⟨k,0,S1.1, .inr ⟨rfl, .inl ⟨kk, .inl z0,rfl,rfl⟩⟩⟩;generalize (F.nd k).size=zz at cs z0;have zI:(0:Int)<(zz:Int):=bB
    clear kk ch;go_wp2
    go_ret
    exact⟨5,F,rfl,FIN.v,S1.2⟩
   .by_cases h0:0<(F.nd k).held
    .have FIN:Hid (Tr.yy F (n:Int) s 5 F):=hZ ⟨k,0,S1.1, .inr ⟨rfl, .inl ⟨kk, .inr h0,rfl,rfl⟩⟩⟩;rw[show(F.nd k).size=0 by omega]at cs;have cs':w1.cell? ⟨b,k*62+3,bu⟩=bj (aa .i64 0):=cs;generalize (F.nd k).held=zz at ch h0;have zI:(0:Int)<(zz:Int):=bB
     clear kk cs z0;go_wp2
     go_ret
     exact⟨5,F,rfl,FIN.v,S1.2⟩
    .rw[show(F.nd k).size=0 by omega]at cs;have cs':w1.cell? ⟨b,k*62+3,bu⟩=bj (aa .i64 0):=cs;rw[show(F.nd k).held=0 by omega]at ch;have ch':w1.cell? ⟨b,k*62+2,bu⟩=bj (aa .i64 0):=ch;have NB:Hid (¬((F.nd k).kind=2/\(0<(F.nd k).size\/0<(F.nd k).held))):=hZ bB;clear kk cs ch z0 h0;go_wp2_with fail
     refine sC (su b n i s F _ S1.2.1 n40 HN.1 HN.2) ?_;rintro w2 ⟨h2,f2⟩;have S2:Hid (bR w2 b (F.put n (Tr.eX (F.nd n) i))/\bH b w w2):=hZ ⟨h2,S1.2.2.trans f2⟩;clear h2 f2 c0' cs' ch';have c5:=S2.1.uK k k40;rw[Tr.Bm,HLK.v]at c5;have cf:=S2.1.frozen;have S3:Hid (bR (w2.setCell ⟨b,k*62+1,bu⟩ (aa az ((lk-1:Nat):Int))) b ((F.put n (Tr.eX (F.nd n) i)).put k {(F.put n (Tr.eX (F.nd n) i)).nd k with cW:=lk-1})/\bH b w (w2.setCell ⟨b,k*62+1,bu⟩ (aa az ((lk-1:Nat):Int)))):=hZ ⟨S2.1.xQ k (lk-1) k40,S2.2.setCell _ _⟩;have HLZ:Hid ((F.nd k).cW-1=lk-1):=hZ (by rw[HLK.v]);generalize lk-1=lz at*;go_wp2_with fail
     refine sC (ug b k _ _ S3.1 k40) ?_;rintro w4 ⟨h4,f4⟩;have S4:Hid (bR w4 b (Tr.xK F n i k)/\bH b w w4):=hZ ⟨by unfold Tr.xK;rw[HLZ.v];exact h4,S3.2.trans f4⟩;clear h4 f4;go_wp2
     go_ret
     exact⟨0,_,rfl,⟨k,0,S1.1, .inr ⟨rfl, .inr ⟨NB.v,rfl,i,by rw[hU];exact HN.2,by rw[hU]⟩⟩⟩,S4.v⟩
  .have NB:Hid (¬((F.nd k).kind=2/\(0<(F.nd k).size\/0<(F.nd k).held))):=hZ bB;generalize (F.nd k).kind=kz at c0 kk;have kz1:((kz:Int)==2)=bA:=by simp;omega
   have kz2:¬(kz:Int)=2:=bB
   clear kk cs ch;go_wp2_with fail
   refine sC (su b n i s F _ S1.2.1 n40 HN.1 HN.2) ?_;rintro w2 ⟨h2,f2⟩;have S2:Hid (bR w2 b (F.put n (Tr.eX (F.nd n) i))/\bH b w w2):=hZ ⟨h2,S1.2.2.trans f2⟩;clear h2 f2 c0 kz1 kz2;have c5:=S2.1.uK k k40;rw[Tr.Bm,HLK.v]at c5;have cf:=S2.1.frozen;have S3:Hid (bR (w2.setCell ⟨b,k*62+1,bu⟩ (aa az ((lk-1:Nat):Int))) b ((F.put n (Tr.eX (F.nd n) i)).put k {(F.put n (Tr.eX (F.nd n) i)).nd k with cW:=lk-1})/\bH b w (w2.setCell ⟨b,k*62+1,bu⟩ (aa az ((lk-1:Nat):Int)))):=hZ ⟨S2.1.xQ k (lk-1) k40,S2.2.setCell _ _⟩;have HLZ:Hid ((F.nd k).cW-1=lk-1):=hZ (by rw[HLK.v]);generalize lk-1=lz at*;go_wp2_with fail
   refine sC (ug b k _ _ S3.1 k40) ?_;rintro w4 ⟨h4,f4⟩;have S4:Hid (bR w4 b (Tr.xK F n i k)/\bH b w w4):=hZ ⟨by unfold Tr.xK;rw[HLZ.v];exact h4,S3.2.trans f4⟩;clear h4 f4;go_wp2
   go_ret
   exact⟨0,_,rfl,⟨k,0,S1.1, .inr ⟨rfl, .inr ⟨NB.v,rfl,i,by rw[hU];exact HN.2,by rw[hU]⟩⟩⟩,S4.v⟩
 .have E2:Hid (bN E=aq 100 (aa az E)/\E≠0):=hZ ⟨bM e0,e0⟩;rw[E2.1];clear e0;go_wp2
  go_ret
  exact⟨E,F,by rw[E2.1];rfl,⟨k,E,S1.1, .inl ⟨E2.2,rfl,rfl⟩⟩,S1.2⟩
theorem bR.range(h:bR w b F)(n:Nat)(hn:n<40):w.rangeAt b (n*62) (dw (F.nd n)).toList:=λj v hv=>by
 have hj:j<62:=by have:=(aY.1 hv).1;rwa [jv]at this
 rw[aM,D7 _ j hj]at hv;rw[<-hv];exact h.nd n j hn hj
section
variable {ops:Array Oper}{rest:List Oper}{x:Oper}{a:Act}{w:bD}{Q:Exit->Act->bD->Prop}
theorem zK(hgd:x.guard=bu)(ho:x.op= .alloc 204)(h:wpList prog ops Q rest (a.put x.dst (ai (bj ⟨w.heap.size,0,bu⟩))) (w.alloc (bh (dw Nd.no) 204))):wpList prog ops Q (x::rest) a w:=
 wpList_plain hgd λ_ hK=>by
  unfold Oper.wp execOp;simp only[ho];simp[go_sem];exact hK _ _ h
end
theorem O0(x:Nd)(h:w.heap[c]? =bj (bh A T (0,0)))(hA:A.size=62):w.there c 0 (dw x).size:=λj hj=>by
 rw[ov]at hj;exact⟨by rw[bS h];simp[hA];omega,cE h _⟩
theorem RZ(x:Nd)(h:w.heap[c]? =bj (bh A T (0,0)))(hA:A.size=62):(w.setCells c 0 (dw x).toList).rangeAt c 0 (dw x).toList:=λj v hv=>by
 have hj:j<62:=by have:=(aY.1 hv).1;rwa [jv]at this
 have:=aS c (dw x).toList 0 w (λi hi=>by
  rw[jv]at hi;rw[bS h];simp[hA];exact hi) j (by rw[jv];exact hj)
 rw[this,<-hv,aW (by rw[jv];exact hj)]
theorem vq{w':bD}{L:List Value}(h:w.rangeAt c 0 L)(e:w'.heap[c]? =w.heap[c]?):w'.rangeAt c 0 L:=λj v hv=>(aV e).trans (h j v hv)
theorem Tr.Ef(F:Fo)(n:Nat):F.put n (F.nd n)=F:=by
 unfold Fo.put;have:(λm=>if m=n then F.nd n else F.nd m)=F.nd:=by
  funext m;by_cases c:m=n
  .rw[aJ c,c]
  .rw[aI c]
 rw[this]
def Tr.Jg(F:Fo)(n i t k:Nat)(o:bU):Fo:=Tr.lB (F.put n (Tr.eX (F.nd n) i)) t o k
def Tr.Hz(F:Fo)(z:Int)(s:bU)(y:Int)(o:bU)(E:Int)(G:Fo):Prop:=
 ∃K e,Tr.lF F z s K e/\((e≠0/\E=e/\G=F)\/(e=0/\((Tr.cL F y 2≠0/\E=Tr.cL F y 2/\G=F)\/(Tr.cL F y 2=0/\(((F.nd z.toNat).tree≠(F.nd y.toNat).tree/\E=11/\G=F)\/((F.nd z.toNat).tree=(F.nd y.toNat).tree/\
  ((Tr.gQ F K 40 y.toNat=bw/\E=5/\G=F)\/(Tr.gQ F K 40 y.toNat=bA/\∃i:Nat,Tr.fJ (F.nd z.toNat) s (i:Int)/\∃e2,Tr.ph ((F.put z.toNat (Tr.eX (F.nd z.toNat) i)).nd y.toNat) o e2/\((e2≠0/\E=e2/\G=F)\/(e2=0/\E=0/\G=Tr.Jg F z.toNat i y.toNat K o))))))))))
theorem Tr.ph.ok(h:Tr.ph x s 0):Tr.gd s=bw/\x.size≠8:=by
 rcases h with⟨_,h⟩|⟨h1,⟨_,_,h⟩|⟨_,⟨_,h⟩|⟨h2,_⟩⟩⟩
 .omega
 .omega
 .omega
 .exact⟨h1,h2⟩
theorem Mn(b:Nat)(z:Int)(s:bU)(y:Int)(o:bU)(F:Fo)(w:bD)(h:bR w b F)(hs:Tr.lr F)(hK:Tr.Hy F)(hE:∀n,n<40->(F.nd n).kind=2->Tr.dB F 40 n):
  Calls prog 207 #[ai (bj ⟨b,0,bu⟩),aa az z,ak s,aa az y,ak o] w λe w'=>∃(E:Int) (G:Fo),e=bf (bN E)/\Tr.Hz F z s y o E G/\bR w' b G/\bH b w w':=by
 have HF:=hZ (aK h hs);have HH:=hZ (aK hE hK);clear h hs hE hK;go_in
 go_wp2_with fail
 refine(vA b z s F _ HF.1 HF.2).mono ?_;rintro e w1 ⟨k,E,rfl,hw1,b1⟩;have S1:Hid (Tr.lF F z s k E/\bR w1 b F/\bH b w w1):=hZ ⟨hw1,HF.1.below b1,bH.cJ b1⟩;clear hw1 b1;by_cases e0:E=0
 .subst e0;obtain⟨n,i,rfl,n40,k2,hp,hk⟩:=S1.1.ok;have k40:k<40:=by rw[hk];exact(HH.2 n n40 k2 i hp.lt).1
  have HN:Hid ((F.nd n).size<=8/\Tr.fJ (F.nd n) s (i:Int)):=hZ ⟨HF.2 n n40 k2,hp⟩;have nI:(n:Int)<40:=bB
  have kI:(k:Int)<40:=bB
  rw[bF];clear k2 hp hk;by_cases c:Tr.cL F y 2=0
  .obtain⟨t,rfl,t40,_,t2⟩:=Tr.fB c;have EP:Hid (Tr.cL F (t:Int) 2=0/\fw b (t:Int) 0=ai (bj ⟨b,t*62,bu⟩)):=hZ ⟨c,gM b t⟩;have HEN:Hid (Tr.dB F 40 t/\(F.nd t).size<=8):=hZ ⟨HH.1 t t40 t2,HF.2 t t40 t2⟩;clear c t2;go_wp2_with fail
   refine sC (mi b t F _ S1.2.1) ?_;rintro w0 hw0;subst w0;rw[EP.1,EP.2,bF];have c1:=S1.2.1.tE n n40;have c2:=S1.2.1.tE t t40;by_cases tt:(F.nd n).tree=(F.nd t).tree
   .have HT:=hZ tt;rw[tt]at c1;generalize (F.nd t).tree=tr at c1 c2;clear tt;go_wp2_with fail
    go_quiet (fail)
    go_upto_region 10 with fail
    refine cM (λW=>bR W b F/\bH b w W) ⟨S1.2.1.drewN _,S1.2.2.drewN _⟩ ?_;intro W2 h2;have S2:=hZ h2;clear h2 c1 c2;go_wp2_with fail
    refine sC (JD b t k 40 F _ S2.1 HEN.1) ?_;rintro w3 hw3;subst w3;obtain⟨bb,hbb⟩:=nJ (Tr.gQ F k 40 t);have HBB:=hZ hbb;rw[hbb];clear hbb;cases bb
    .have N0:Hid ((W2.alloc (bh (dw Nd.no) 204)).heap[W2.heap.size]? =bj (bh (dw Nd.no) 204 (0,0))):=hZ (heap_alloc_new W2 _);have HR:=hZ (S2.1.range n n40);have TH:=hZ (O0 (F.nd n) N0.v (ov _));have HS:=hZ (pJ (F.nd n));have H1:=hZ (pL (F.nd n));have hlen:Hid ((prog.info? 204).map (·.size)=bj (dw (F.nd n)).toList.length):=hZ (by rw[jv];kernel_rfl);have S3:Hid ((bR ((W2.alloc (bh (dw Nd.no) 204)).setCells W2.heap.size 0 (dw (F.nd n)).toList) b F/\bH b w ((W2.alloc (bh (dw Nd.no) 204)).setCells W2.heap.size 0 (dw (F.nd n)).toList))/\((W2.alloc (bh (dw Nd.no) 204)).setCells W2.heap.size 0 (dw (F.nd n)).toList).rangeAt W2.heap.size 0 (dw (F.nd n)).toList/\W2.heap.size<((W2.alloc (bh (dw Nd.no) 204)).setCells W2.heap.size 0 (dw (F.nd n)).toList).heap.size/\W2.heap.size≠b):=hZ (by
      have q:Below W2.heap.size W2 ((W2.alloc (bh (dw Nd.no) 204)).setCells W2.heap.size 0 (dw (F.nd n)).toList):=(bH.setCells _ _ (bH.refl W2.heap.size _)).below ((aQ _ _).alloc (aL _) _) (aL _) (by simp);refine⟨⟨S2.1.below q,S2.2.trans (bH.cJ q)⟩,RZ _ N0.v (ov _),?_,?_⟩
      .have:=(bH.setCells (b:=W2.heap.size) (dw (F.nd n)).toList 0 (bH.refl W2.heap.size (W2.alloc (bh (dw Nd.no) 204)))).size;have e:(W2.alloc (bh (dw Nd.no) 204)).heap.size=W2.heap.size+1:=by simp
       omega
      .have:=S2.1.lt;omega)
     obtain⟨A,hA⟩:=nJ (dw (F.nd n));have HA:=hZ hA;rw[hA]at HR TH HS H1 S3 hlen;clear hA;go_upto_region 13 with(first|(refine wpList_load_mid rfl 204 _ rfl b (n*62) rfl A.toList _ HR.v Tryz.underlying204 rfl hlen.v ?_;rw[Array.toArray_toList])|(refine zK rfl rfl ?_)|(refine wpList_store_mid rfl 204 _ _ rfl W2.heap.size 0 A rfl rfl TH.v HS.v H1.v ?_))
     generalize hcc:W2.heap.size=cc at*;refine cM (λW=>(bR W b F/\bH b w W)/\W.rangeAt cc 0 A.toList/\cc<W.heap.size/\cc≠b) S3.v ?_;intro W3 h3;have S4:=hZ h3;clear h3 S3 N0 HR TH hcc;go_wp2_with fail
     refine sC (su b n i s F _ S4.1.1 n40 HN.1 HN.2) ?_;rintro w4 ⟨h4,f4⟩;obtain⟨F1,hF1⟩:=nJ (F.put n (Tr.eX (F.nd n) i));have HF1:=hZ hF1;rw[hF1]at h4;have z8:Hid ((F1.nd t).size<=8):=hZ (by
      rw[<-hF1];by_cases d:t=n
      .subst d;rw[Tr.bG];show(F.nd t).size-1<=8;have:=HEN.2;omega
      .rw[Tr.bO _ _ _ _ d];exact HEN.2)
     have S5:Hid ((bR w4 b F1/\bH b w w4)/\w4.rangeAt cc 0 A.toList/\cc<w4.heap.size):=hZ ⟨⟨h4,S4.1.2.trans f4⟩,vq S4.2.1 (f4.block cc S4.2.2.1 S4.2.2.2),aD S4.2.2.1 f4.size⟩;clear h4 f4 hF1;go_wp2_with fail
     refine(vD b t o F1 _ S5.1.1 t40 z8.v).mono ?_;rintro e w5 ⟨E,rfl,hr,b5⟩;have S6:Hid ((bR w5 b F1/\bH b w w5)/\w5.rangeAt cc 0 A.toList/\Tr.ph (F1.nd t) o E):=hZ ⟨⟨S5.1.1.below b5,S5.1.2.trans (bH.cJ b5)⟩,vq S5.2.1 (b5.block cc S5.2.2),hr⟩;clear hr b5;by_cases f0:E=0
     .subst f0;have HR2:=hZ S6.2.2.ok;have t8:Hid ((F1.nd t).size<8):=hZ (by have:=HR2.2;have:=z8.v;omega);rw[bF];go_wp2_with fail
      refine sC (rS b t k o F1 _ S6.1.1 t40 k40 t8.v (aH (Tr.qk HR2.1) bE)) ?_;rintro w6 ⟨h6,f6⟩;have S7:Hid (bR w6 b (Tr.Jg F n i t k o)/\bH b w w6):=hZ ⟨by unfold Tr.Jg;rw[HF1.v];exact h6,S6.1.2.trans f6⟩;clear h6 f6;go_wp2
      go_ret
      refine⟨0,_,rfl,⟨k,0,S1.1, .inr ⟨rfl, .inr ⟨EP.1, .inr ?_⟩⟩⟩,S7.v⟩;rw[hU,hU];exact⟨HT.v, .inr ⟨HBB.v,i,HN.2,0,by rw[HF1.v];exact S6.2.2, .inr ⟨rfl,rfl,rfl⟩⟩⟩
     .have E2:Hid (bN E=aq 100 (aa az E)/\E≠0):=hZ ⟨bM f0,f0⟩;have TH2:Hid (w5.there b (n*62) A.size):=hZ (by rw[<-HA.v];exact S6.1.1.there n n40 (F.nd n));have S7:Hid (bR (w5.setCells b (n*62) A.toList) b F/\bH b w (w5.setCells b (n*62) A.toList)):=hZ (by
       have a:=S6.1.1.setNode n n40 (F.nd n);rw[<-HF1.v,Tr.gN,Tr.Ef,HA.v]at a;exact⟨a,bH.setCells _ _ S6.1.2⟩)
      rw[E2.1];clear f0;go_wp2_with (first|(refine wpList_load_mid rfl 204 _ rfl cc 0 rfl A.toList _ S6.2.1 Tryz.underlying204 rfl hlen.v ?_;rw[Array.toArray_toList])|(refine wpList_store_mid rfl 204 _ _ rfl b (n*62) A rfl rfl TH2.v HS.v H1.v ?_))
      go_ret
      refine⟨E,F,by rw[E2.1];rfl,⟨k,0,S1.1, .inr ⟨rfl, .inr ⟨EP.1, .inr ?_⟩⟩⟩,S7.v⟩;rw[hU,hU];exact⟨HT.v, .inr ⟨HBB.v,i,HN.2,E,by rw[HF1.v];exact S6.2.2, .inl ⟨E2.2,rfl,rfl⟩⟩⟩
    .go_wp2
     go_ret
     refine⟨5,F,rfl,⟨k,0,S1.1, .inr ⟨rfl, .inr ⟨EP.1, .inr ?_⟩⟩⟩,S2.v⟩;rw[hU,hU];exact⟨HT.v, .inl ⟨HBB.v,rfl,rfl⟩⟩
   .have HT:=hZ tt;generalize (F.nd n).tree=t1 at c1 tt;generalize (F.nd t).tree=t2 at c2 tt;have tI:((t1:Int)==(t2:Int))=bA:=by simp;omega
    have tI2:¬(t1:Int)=(t2:Int):=bB
    clear tt;go_wp2_with fail
    go_quiet (fail)
    go_wp2
    go_ret
    refine⟨11,F,rfl,⟨k,0,S1.1, .inr ⟨rfl, .inr ⟨EP.1, .inl ?_⟩⟩⟩,S1.2.1.drewN _,S1.2.2.drewN _⟩;rw[hU,hU];exact⟨HT.v,rfl,rfl⟩
  .have E2:Hid (fw b y (Tr.cL F y 2)=ai bu/\bN (Tr.cL F y 2)=aq 100 (aa az (Tr.cL F y 2))/\Tr.cL F y 2≠0):=hZ ⟨ij c,bM c,c⟩;clear c;go_wp2_with fail
   refine sC (mi b y F _ S1.2.1) ?_;rintro w0 hw0;subst w0;rw[E2.1,E2.2.1];go_wp2
   go_ret
   exact⟨_,F,by rw[E2.2.1];rfl,⟨k,0,S1.1, .inr ⟨rfl, .inl ⟨E2.2.2,rfl,rfl⟩⟩⟩,S1.2⟩
 .have E2:Hid (bN E=aq 100 (aa az E)/\E≠0):=hZ ⟨bM e0,e0⟩;rw[E2.1];clear e0;go_wp2
  go_ret
  exact⟨E,F,by rw[E2.1];rfl,⟨k,E,S1.1, .inl ⟨E2.2,rfl,rfl⟩⟩,S1.2⟩
def uz(F:Fo)(z:Int):Array Value:=if Tr.cH F z=0 then#[aa az ((F.nd z.toNat).kind:Int),aa az ((F.nd z.toNat).cW:Int),aa az ((F.nd z.toNat).held:Int),aa az ((F.nd z.toNat).size:Int)]else#[aa az 0,aa az 0,aa az 0,aa az 0]
theorem qw(b:Nat)(z:Int)(F:Fo)(w:bD)(h:bR w b F):
  Calls prog 214 #[ai (bj ⟨b,0,bu⟩),aa az z] w λe w'=>e=bf (ao #[au (uz F z),bN (Tr.cH F z)])/\Below w.heap.size w w':=by
 have hlt:=h.lt;have hne:w.heap.size≠b:=bB
 have hne2:b≠w.heap.size:=bB
 have HF:Hid (∀o,bR (w.alloc o) b F/\Below w.heap.size w (w.alloc o)):=hZ (λo=>by
  have bb:Below w.heap.size w (w.alloc o):=(aQ _ _).alloc (aL _) _;exact⟨h.below bb,bb⟩)
 have HB:Hid (∀W W',Below w.heap.size w W->bH w.heap.size W W'->w.heap.size<=W.heap.size->Below w.heap.size w W'):=hZ (λW W' h1 h2 h3=>h2.below h1 (aL _) h3);by_cases c:Tr.cH F z=0
 .obtain⟨n,rfl,n40,kk⟩:=Tr.gZ c;have E:Hid (Tr.cH F (n:Int)=0/\uz F (n:Int)=#[aa az ((F.nd n).kind:Int),aa az ((F.nd n).cW:Int),aa az ((F.nd n).held:Int),aa az ((F.nd n).size:Int)]/\fw b (n:Int) 0=ai (bj ⟨b,n*62,bu⟩)):=hZ ⟨c,by unfold uz;rw[aJ c,hU],gM b n⟩;clear h c kk;go_in
  go_wp2_with fail
  refine sC (iq b n F _ (HF.v _).1) ?_;rintro w1 hw1;have S1:Hid (bR w1 b F/\Below w.heap.size w w1):=hZ (by rw[hw1];exact HF.v _);have N1:w1.heap[w.heap.size]? =bj (bh #[aa az 0,aa az 0,aa az 0,aa az 0] 156 (0,0)):=by rw[hw1];exact heap_alloc_new w _
  clear hw1;rw[E.1,E.2.2,bF];have c1:=S1.1.tD n n40;have c2:=S1.1.uK n n40;have c3:=S1.1.yG n n40;have c4:=S1.1.nX n n40;have EO:Hid (uz F (n:Int)=#[aa az ((F.nd n).kind:Int),aa az ((F.nd n).cW:Int),aa az ((F.nd n).held:Int),aa az ((F.nd n).size:Int)]):=hZ E.2.1;generalize (F.nd n).kind=v1 at c1 EO;generalize (F.nd n).cW=v2 at c2 EO;generalize (F.nd n).held=v3 at c3 EO;generalize (F.nd n).size=v4 at c4 EO;have hlt2:Hid (w.heap.size<w1.heap.size):=hZ (aX.1 N1).1;generalize hcc:w.heap.size=cc at*;have x1:w1.cell? ⟨cc,0,bu⟩=bj (aa .i64 0):=by rw[bS N1];rfl
  have x2:w1.cell? ⟨cc,1,bu⟩=bj (aa .i64 0):=by rw[bS N1];rfl
  have x3:w1.cell? ⟨cc,2,bu⟩=bj (aa .i64 0):=by rw[bS N1];rfl
  have x4:w1.cell? ⟨cc,3,bu⟩=bj (aa .i64 0):=by rw[bS N1];rfl
  have xf:∀o,w1.frozen? ⟨cc,o,bu⟩=bA:=λo=>cE N1 o;have S2:Hid (((((w1.setCell ⟨cc,0,bu⟩ (aa az (v1:Int))).setCell ⟨cc,1,bu⟩ (aa az (v2:Int))).setCell ⟨cc,2,bu⟩ (aa az (v3:Int))).setCell ⟨cc,3,bu⟩ (aa az (v4:Int))).heap[cc]? =bj (bh #[aa az (v1:Int),aa az (v2:Int),aa az (v3:Int),aa az (v4:Int)] 156 (0,0))/\Below cc w ((((w1.setCell ⟨cc,0,bu⟩ (aa az (v1:Int))).setCell ⟨cc,1,bu⟩ (aa az (v2:Int))).setCell ⟨cc,2,bu⟩ (aa az (v3:Int))).setCell ⟨cc,3,bu⟩ (aa az (v4:Int)))):=hZ
   ⟨cO (cO (cO (cO N1 0 _) 1 _) 2 _) 3 _,HB.v w1 _ S1.2 ((((((bH.refl cc w1).setCell _ _).setCell _ _).setCell _ _).setCell _ _)) (bI hlt2.v)⟩
  clear N1;go_wp2_with fail
  generalize hWF:(((w1.setCell ⟨cc,0,bu⟩ (aa az (v1:Int))).setCell ⟨cc,1,bu⟩ (aa az (v2:Int))).setCell ⟨cc,2,bu⟩ (aa az (v3:Int))).setCell ⟨cc,3,bu⟩ (aa az (v4:Int))=WF at S2|-;have y1:WF.cell? ⟨cc,0,bu⟩=bj (aa az (v1:Int)):=by rw[bS S2.1];rfl
  have y2:WF.cell? ⟨cc,1,bu⟩=bj (aa az (v2:Int)):=by rw[bS S2.1];rfl
  have y3:WF.cell? ⟨cc,2,bu⟩=bj (aa az (v3:Int)):=by rw[bS S2.1];rfl
  have y4:WF.cell? ⟨cc,3,bu⟩=bj (aa az (v4:Int)):=by rw[bS S2.1];rfl
  refine bodyPost_ret (v:=ao #[au #[aa az (v1:Int),aa az (v2:Int),aa az (v3:Int),aa az (v4:Int)], .nilIface]) (by simp[results,Tryz.f214,go_sem,y1,y2,y3,y4]) rfl ?_;rw[EO.v,E.1];subst hcc;exact⟨rfl,S2.2⟩
 .have E:Hid (uz F z=#[aa az 0,aa az 0,aa az 0,aa az 0]/\fw b z (Tr.cH F z)=ai bu/\bN (Tr.cH F z)=aq 100 (aa az (Tr.cH F z))):=hZ ⟨by unfold uz;rw[aI c],ij c,bM c⟩;clear h c;go_in
  go_wp2_with fail
  refine sC (iq b z F _ (HF.v _).1) ?_;rintro w1 hw1;have S1:Hid (bR w1 b F/\Below w.heap.size w w1):=hZ (by rw[hw1];exact HF.v _);have N1:w1.heap[w.heap.size]? =bj (bh #[aa az 0,aa az 0,aa az 0,aa az 0] 156 (0,0)):=by rw[hw1];exact heap_alloc_new w _
  clear hw1;rw[E.2.1,E.2.2];have hlt2:Hid (w.heap.size<w1.heap.size):=hZ (aX.1 N1).1;generalize hcc:w.heap.size=cc at*;have x1:w1.cell? ⟨cc,0,bu⟩=bj (aa .i64 0):=by rw[bS N1];rfl
  have x2:w1.cell? ⟨cc,1,bu⟩=bj (aa .i64 0):=by rw[bS N1];rfl
  have x3:w1.cell? ⟨cc,2,bu⟩=bj (aa .i64 0):=by rw[bS N1];rfl
  have x4:w1.cell? ⟨cc,3,bu⟩=bj (aa .i64 0):=by rw[bS N1];rfl
  have xf:∀o,w1.frozen? ⟨cc,o,bu⟩=bA:=λo=>cE N1 o;have S2:Hid (((((w1.setCell ⟨cc,0,bu⟩ (aa .i64 0)).setCell ⟨cc,1,bu⟩ (aa .i64 0)).setCell ⟨cc,2,bu⟩ (aa .i64 0)).setCell ⟨cc,3,bu⟩ (aa .i64 0)).heap[cc]? =bj (bh #[aa az 0,aa az 0,aa az 0,aa az 0] 156 (0,0))/\Below cc w ((((w1.setCell ⟨cc,0,bu⟩ (aa .i64 0)).setCell ⟨cc,1,bu⟩ (aa .i64 0)).setCell ⟨cc,2,bu⟩ (aa .i64 0)).setCell ⟨cc,3,bu⟩ (aa .i64 0))):=hZ
   ⟨cO (cO (cO (cO N1 0 _) 1 _) 2 _) 3 _,HB.v w1 _ S1.2 ((((((bH.refl cc w1).setCell _ _).setCell _ _).setCell _ _).setCell _ _)) (bI hlt2.v)⟩
  clear N1;go_wp2_with fail
  generalize hWF:(((w1.setCell ⟨cc,0,bu⟩ (aa .i64 0)).setCell ⟨cc,1,bu⟩ (aa .i64 0)).setCell ⟨cc,2,bu⟩ (aa .i64 0)).setCell ⟨cc,3,bu⟩ (aa .i64 0)=WF at S2|-;have y1:WF.cell? ⟨cc,0,bu⟩=bj (aa .i64 0):=by rw[bS S2.1];rfl
  have y2:WF.cell? ⟨cc,1,bu⟩=bj (aa .i64 0):=by rw[bS S2.1];rfl
  have y3:WF.cell? ⟨cc,2,bu⟩=bj (aa .i64 0):=by rw[bS S2.1];rfl
  have y4:WF.cell? ⟨cc,3,bu⟩=bj (aa .i64 0):=by rw[bS S2.1];rfl
  refine bodyPost_ret (v:=ao #[au #[aa az 0,aa az 0,aa az 0,aa az 0],aq 100 (aa az (Tr.cH F z))]) (by simp[results,Tryz.f214,go_sem,y1,y2,y3,y4]) rfl ?_;rw[E.1,E.2.2];subst hcc;exact⟨rfl,S2.2⟩
def Tr.B8(f:Nat->Int)(a:Nat)(L:List Int):Nat->Int:=λj=>if j<a then f j else(L[j-a]?).getD (f j)
def Tr.uG(s:bU):List Int:=s.data.toList.map λx=>(x.toNat:Int)
theorem Tr.QZ(s:bU):(Tr.uG s).length=s.size:=by simp[Tr.uG]
theorem Tr.Q3(s:bU):(s.data.toList.map λx=>aa bc (x.toNat:Int))=(Tr.uG s).map (Value.int bc):=by simp[Tr.uG,Function.comp_def]
theorem bR.setBytes(h:bR w b F)(n a:Nat)(L:List Int)(hL:a+L.length<=40):bR (w.setCells b (n*62+22+a) (L.map (Value.int bc))) b (F.put n {F.nd n with dJ:=Tr.B8 (F.nd n).dJ a L}):=by
 obtain⟨C,h1,h2⟩:=h.dk;obtain⟨C',k1,k2⟩:=mj b (L.map (Value.int bc)) (n*62+22+a) w C h1;have hlen:(L.map (Value.int bc)).length=L.length:=by simp
 refine⟨⟨C',k1,bB⟩,λo ho=>?_⟩;by_cases c:n*62+22+a<=o/\o<n*62+22+a+L.length
 .obtain⟨j,rfl,hj⟩:∃j,o=n*62+22+a+j/\j<L.length:=⟨o-(n*62+22+a),bB,bB⟩;rw[aS b (L.map (Value.int bc)) (n*62+22+a) w (λi hi=>by rw[hlen]at hi;rw[h.cell _ bB];rfl) j (by rw[hlen];exact hj)];unfold jV;rw[nL,show(n*62+22+a+j)/62=n by omega,show(n*62+22+a+j)%62=22+(a+j)by omega,Tr.bG,rE];show _=bj (aa bc (Tr.B8 (F.nd n).dJ a L (a+j)));unfold Tr.B8;rw[nK,show a+j-a=j by omega,aW hj,Option.getD_some,List.getElem_map]
 .rw[aA b _ (n*62+22+a) w ⟨b,o,bu⟩ (λ_ _=>by rw[hlen];show o<_\/_<=o;omega),h.cell o ho];unfold jV;by_cases d:o<2480
  .rw[aJ d,aJ d];by_cases e:o/62=n
   .rw[e,Tr.bG];by_cases g:o%62<22
    .unfold iV;repeat' split
     all_goals first|rfl|omega
    .rw[show o%62=22+(o%62-22)by omega,rE,rE];show _=bj (aa bc (Tr.B8 (F.nd n).dJ a L (o%62-22)));unfold Tr.B8;by_cases i:o%62-22<a
     .rw[aJ i]
     .rw[aI i,List.getElem?_eq_none bB,Option.getD_none]
   .rw[Tr.bO _ _ _ _ e]
  .rw[aI d,aI d];rfl
section
variable {ops:Array Oper}{rest:List Oper}{x:Oper}{a:Act}{w:bD}{Q:Exit->Act->bD->Prop}
theorem zL(hgd:x.guard=bu)(d y:Operand)(dT sT:TypeId)(hop:x.op=Op.call {callee:=Callee.builtin Builtin.copy,args:=#[d,y],argTypes:=#[dT,sT]})
  (elem:TypeId) (hu:prog.underlying dT=bj (.slice elem)) (hz:∀w,(Go.sizeOf elem).run prog w= .ok 1 w)
  (b off dLen dCap:Nat) (hd:a.eval d=aj (bj ⟨b,off,bu⟩) dLen dCap) (t:bU) (hx:a.eval y=ak t) (hle:t.size<=dLen)
  (hc:∀j,j<t.size->(w.cell? ⟨b,off+j,bu⟩).isSome=bw) (hf:∀j,j<t.size->w.frozen? ⟨b,off+j,bu⟩=bA)
  (h:wpList prog ops Q rest (a.put x.dst (goInt t.size)) (w.setCells b off ((Tr.uG t).map (Value.int bc)))):wpList prog ops Q (x::rest) a w:=
 wpList_plain hgd λ_ hK=>by
  have hrun:=run_copy_string (P:=prog) w dT sT x.type elem b off dLen dCap t hu hz hle hc hf;rw[Tr.Q3]at hrun;unfold Oper.wp;simp[execOp,hop,resolve,invoke,builtin,hd,hx,hrun,Result.andThen];exact hK _ _ h
end
def Tr.dL(F:Fo)(z a:Int)(s:bU):Int:=if Tr.cL F z 1≠0 then Tr.cL F z 1 else if a<0 then 1 else if 40-(s.size:Int)<a then 4 else 0
def Tr.A8(x:Nd)(a:Nat)(s:bU):Nd:={x with dJ:=Tr.B8 x.dJ a (Tr.uG s),size:=max x.size (a+s.size)}
def Tr.eV(F:Fo)(z a:Int)(s:bU):Fo:=if Tr.dL F z a s=0/\s.size≠0 then F.put z.toNat (Tr.A8 (F.nd z.toNat) a.toNat s)else F
theorem JG(b:Nat)(z a:Int)(s:bU)(F:Fo)(w:bD)(h:bR w b F)(hs:s.size<2^60):
  Calls prog 248 #[ai (bj ⟨b,0,bu⟩),aa az z,aa az a,ak s] w λe w'=>e=bf (bN (Tr.dL F z a s))/\bR w' b (Tr.eV F z a s)/\bH b w w':=by
 have HF:=hZ h;by_cases c:Tr.cL F z 1=0
 .obtain⟨n,rfl,n40,_,k1⟩:=Tr.fB c;have EP:Hid (Tr.cL F (n:Int) 1=0/\fw b (n:Int) 0=ai (bj ⟨b,n*62,bu⟩)):=hZ ⟨c,gM b n⟩;have EW:Tr.dL F (n:Int) a s=if a<0 then 1 else if 40-(s.size:Int)<a then 4 else 0:=by unfold Tr.dL;rw[aI (λd=>d c)]
  have hw:IntKind.i64.wrap (40-(s.size:Int))=40-(s.size:Int):=aN _ ⟨by omega,bB⟩;by_cases a0:a<0
  .have FIN:Hid (Tr.dL F (n:Int) a s=1/\Tr.eV F (n:Int) a s=F):=hZ (by
    have e:Tr.dL F (n:Int) a s=1:=by rw[EW,aJ a0]
    exact⟨e,by unfold Tr.eV;rw[e,nK]⟩)
   clear h c k1 EW hs;go_in
   go_wp2_with fail
   refine sC (iS b n F _ HF.v) ?_;rintro w1 hw1;subst w1;rw[EP.1,EP.2,bF];go_wp2
   go_ret
   rw[FIN.1,FIN.2];exact⟨rfl,HF.v,bH.refl _ _⟩
  .by_cases a4:40-(s.size:Int)<a
   .have FIN:Hid (Tr.dL F (n:Int) a s=4/\Tr.eV F (n:Int) a s=F):=hZ (by
     have e:Tr.dL F (n:Int) a s=4:=by rw[EW,aI a0,aJ a4]
     exact⟨e,by unfold Tr.eV;rw[e,nK]⟩)
    clear h c k1 EW hs;go_in
    go_wp2_with fail
    refine sC (iS b n F _ HF.v) ?_;rintro w1 hw1;subst w1;rw[EP.1,EP.2,bF];go_wp2
    go_ret
    rw[FIN.1,FIN.2];exact⟨rfl,HF.v,bH.refl _ _⟩
   .have EZ:Tr.dL F (n:Int) a s=0:=by rw[EW,aI a0,aI a4]
    by_cases s0:s.size=0
    .have FIN:Hid (Tr.dL F (n:Int) a s=0/\Tr.eV F (n:Int) a s=F):=hZ ⟨EZ,by unfold Tr.eV;rw[nK]⟩;have sl:(s.toList==[])=bw:=by
      obtain rfl:s=⟨#[]⟩:=by
       apply ByteArray.ext;exact Array.eq_empty_of_size_eq_zero s0
      rw[ByteArray.toList_eq];rfl
     clear h c k1 EW hs EZ s0;go_in
     go_wp2_with fail
     refine sC (iS b n F _ HF.v) ?_;rintro w1 hw1;subst w1;rw[EP.1,EP.2,bF];go_wp2
     go_ret
     rw[FIN.1,FIN.2];exact⟨rfl,HF.v,bH.refl _ _⟩
    .obtain⟨m,rfl⟩:∃m:Nat,a=m:=⟨a.toNat,bB⟩;have EF:Hid (Tr.dL F (n:Int) (m:Int) s=0/\Tr.eV F (n:Int) (m:Int) s=F.put n (Tr.A8 (F.nd n) m s)):=hZ ⟨EZ,by unfold Tr.eV;rw[aJ ⟨EZ,s0⟩,hU,hU]⟩;have hm:m+s.size<=40:=bB
     have m40:(m:Int)<40:=bB
     have m40b:(m:Int)<=40:=bB
     have mlt:m<40:=bB
     have mn0:¬m=40:=bB
     have mn1:¬40-m=0:=bB
     have mn2:¬(m:Int)=40:=bB
     have sl:(s.toList==[])=bA:=by
      rw[beq_eq_false_iff_ne];intro e;rw[ByteArray.toList_eq]at e;apply s0;show s.data.size=0;rw[<-aB,e];rfl
     have ad:IntKind.i64.wrap ((m:Int)+(s.size:Int))=((m+s.size:Nat):Int):=(aN _ ⟨by omega,bB⟩).trans bB;have CC:Hid (∀j,j<s.size->(w.cell? ⟨b,n*62+22+m+j,bu⟩).isSome=bw):=hZ (λj hj=>by rw[h.cell _ bB];rfl);have CF:Hid (∀j,j<s.size->w.frozen? ⟨b,n*62+22+m+j,bu⟩=bA):=hZ (λj _=>h.frozen _);have S1:Hid (bR (w.setCells b (n*62+22+m) ((Tr.uG s).map (Value.int bc))) b (F.put n {F.nd n with dJ:=Tr.B8 (F.nd n).dJ m (Tr.uG s)})/\bH b w (w.setCells b (n*62+22+m) ((Tr.uG s).map (Value.int bc)))):=hZ ⟨h.setBytes n m _ (by rw[Tr.QZ];exact hm),bH.setCells _ _ (bH.refl b w)⟩;have hsm:s.size<=40-m:=bB
     have hcz:∀w,(Go.sizeOf 5).run prog w= .ok 1 w:=λw=>by rfl
     clear h c k1 EW hs EZ s0;obtain⟨L,hL⟩:=nJ ((Tr.uG s).map (Value.int bc));rw[hL]at S1;go_in
     go_wp2_with fail
     refine sC (iS b n F _ HF.v) ?_;rintro w1 hw1;subst w1;rw[EP.1,EP.2,bF];go_upto_region 11 with(refine zL rfl _ _ _ _ rfl 5 bC hcz b (n*62+22+m) (40-m) (40-m) rfl s rfl hsm CC.v CF.v ?_;rw[hL])
     refine cM (λW=>bR W b (F.put n {F.nd n with dJ:=Tr.B8 (F.nd n).dJ m (Tr.uG s)})/\bH b w W) S1.v ?_;intro W2 h2;have S2:=hZ h2;clear h2 S1 CC CF hL;have c3:=S2.1.nX n n40;rw[Tr.bG]at c3;have cf:=S2.1.frozen;obtain⟨sz,hsz⟩:=nJ ((F.nd n).size);have c3':W2.cell? ⟨b,n*62+3,bu⟩=bj (aa az (sz:Int)):=by rw[c3,<-hsz]
     have FIN:Hid (bR (W2.setCell ⟨b,n*62+3,bu⟩ (aa az (max (sz:Int) ((m:Int)+(s.size:Int))))) b (F.put n (Tr.A8 (F.nd n) m s))/\bH b w (W2.setCell ⟨b,n*62+3,bu⟩ (aa az (max (sz:Int) ((m:Int)+(s.size:Int)))))):=hZ (by
      have q:=S2.1.AJ n (max sz (m+s.size)) n40;rw[Tr.bG,Tr.gN]at q;unfold Tr.A8;rw[hsz];rw[show(max (sz:Int) ((m:Int)+(s.size:Int)))=((max sz (m+s.size):Nat):Int)by omega];exact⟨q,S2.2.setCell _ _⟩)
     clear c3 hsz;go_wp2
     go_ret
     rw[EF.1,EF.2];exact⟨rfl,FIN.v⟩
 .have E2:Hid (fw b z (Tr.cL F z 1)=ai bu/\bN (Tr.cL F z 1)=aq 100 (aa az (Tr.cL F z 1))/\Tr.dL F z a s=Tr.cL F z 1/\Tr.eV F z a s=F):=hZ (by
   have e:Tr.dL F z a s=Tr.cL F z 1:=aJ c;exact⟨ij c,bM c,e,by unfold Tr.eV;rw[e,aI (λd=>c d.1)]⟩)
  clear h c hs;go_in
  go_wp2_with fail
  refine sC (iS b z F _ HF.v) ?_;rintro w1 hw;subst w1;rw[E2.1,E2.2.1];go_wp2
  go_ret
  rw[E2.2.2.1,E2.2.2.2,E2.2.1];exact⟨rfl,HF.v,bH.refl _ _⟩
def Tr.uC(F:Fo):Prop:=∀n,n<40->(F.nd n).kind=1->(F.nd n).size<=40
def Tr.BK(f:Nat->Int)(a k:Nat):List Int:=(List.range k).map λj=>f (a+j)
def Tr.Ql(f:Nat->Int)(a k:Nat):bU:=(Tr.BK f a k).foldl (λr n=>r.push (UInt8.ofNat n.toNat)) ByteArray.empty
theorem Tr.wo(f:Nat->Int)(a k:Nat):(Tr.BK f a k).length=k:=by simp[Tr.BK]
theorem bR.Jc(h:bR w b F)(n lo k:Nat)(hn:n<40)(hk:lo+k<=40)(ad:Addr)(had:0<k->ad=⟨b,n*62+22+lo,bu⟩):(loadCells ad k).run prog w= .ok ((Tr.BK (F.nd n).dJ lo k).map (Value.int bc)).toArray w:=by
 have:=run_loadCells_list (P:=prog) w ad ((Tr.BK (F.nd n).dJ lo k).map (Value.int bc)) (λj v hv=>by
  have hj:j<k:=by grind [Tr.BK,Tr.wo]
  rw[had bB];have e:(⟨b,n*62+22+lo,bu⟩:Addr).add j=⟨b,n*62+22+(lo+j),bu⟩:=by
   unfold Addr.add;split
   .simp_all
   .simp_all;omega
  rw[e,h.VA n (lo+j) hn bB,<-hv];simp[Tr.BK,hj])
 rw[List.length_map,Tr.wo]at this;exact this
section
variable {ops:Array Oper}{rest:List Oper}{x:Oper}{a:Act}{w:bD}{Q:Exit->Act->bD->Prop}
theorem yj(hgd:x.guard=bu)(y:Operand)(hop:x.op=Op.convert 316 9 y)
  (ad:Addr) (k c:Nat) (hd:a.eval y=aj (bj ad) k c) (ns:List Int) (hl:(loadCells ad k).run prog w= .ok (ns.map (Value.int bc)).toArray w)
  (h:wpList prog ops Q rest (a.put x.dst (ak (ns.foldl (λr n=>r.push (UInt8.ofNat n.toNat)) ByteArray.empty))) w):wpList prog ops Q (x::rest) a w:=
 wpList_plain hgd λ_ hK=>by
  have hrun:=(run_convert_bytes_string (P:=prog) w 316 9 5 (bj ad) k c bC bC bC).trans (run_bytesToString w ad k c ns hl);unfold Oper.wp;simp[execOp,hop,hd,hrun,Result.andThen];exact hK _ _ h
end
def Tr.eO(F:Fo)(z a m:Int):Int:=if Tr.cL F z 1≠0 then Tr.cL F z 1 else if a<0\/m<0 then 1 else 0
def Tr.jJ(F:Fo)(z a m:Int):bU:=
 if Tr.eO F z a m=0 then Tr.Ql (F.nd z.toNat).dJ (min a.toNat (F.nd z.toNat).size) (min m.toNat ((F.nd z.toNat).size-min a.toNat (F.nd z.toNat).size))else ByteArray.empty
theorem Mr(b:Nat)(z a m:Int)(F:Fo)(w:bD)(h:bR w b F)(hs:Tr.uC F):
  Calls prog 246 #[ai (bj ⟨b,0,bu⟩),aa az z,aa az a,aa az m] w λe w'=>e=bf (ao #[ak (Tr.jJ F z a m),bN (Tr.eO F z a m)])/\bR w' b F/\Below w.heap.size w w':=by
 have HF:=hZ h;by_cases c:Tr.cL F z 1=0
 .obtain⟨n,rfl,n40,_,k1⟩:=Tr.fB c;have EP:Hid (Tr.cL F (n:Int) 1=0/\fw b (n:Int) 0=ai (bj ⟨b,n*62,bu⟩)):=hZ ⟨c,gM b n⟩;have EW:Tr.eO F (n:Int) a m=if a<0\/m<0 then 1 else 0:=by unfold Tr.eO;rw[aI (λd=>d c)]
  have z40:=hs n n40 k1;by_cases a0:a<0\/m<0
  .have FIN:Hid (Tr.eO F (n:Int) a m=1/\Tr.jJ F (n:Int) a m=⟨#[]⟩):=hZ (by
    have e:Tr.eO F (n:Int) a m=1:=by rw[EW,aJ a0]
    exact⟨e,by unfold Tr.jJ;rw[e,nK];rfl⟩)
   by_cases a1:a<0
   .clear a0;go_in
    go_wp2_with fail
    refine sC (iS b n F _ HF.v) ?_;rintro w1 hw1;subst w1;rw[EP.1,EP.2,bF];go_wp2
    go_ret2
    rw[FIN.1,FIN.2];exact⟨rfl,HF.v,aQ _ _⟩
   .have a2:m<0:=bB
    go_in
    go_wp2_with fail
    refine sC (iS b n F _ HF.v) ?_;rintro w1 hw1;subst w1;rw[EP.1,EP.2,bF];go_wp2
    go_ret2
    rw[FIN.1,FIN.2];exact⟨rfl,HF.v,aQ _ _⟩
  .have EZ:Tr.eO F (n:Int) a m=0:=by rw[EW,aI a0]
   obtain⟨p,rfl⟩:∃p:Nat,a=p:=⟨a.toNat,bB⟩;obtain⟨q,rfl⟩:∃q:Nat,m=q:=⟨m.toNat,bB⟩;have c3:=h.nX n n40;obtain⟨sz,hsz⟩:=nJ ((F.nd n).size);have EF:Hid (Tr.eO F (n:Int) (p:Int) (q:Int)=0/\Tr.jJ F (n:Int) (p:Int) (q:Int)=Tr.Ql (F.nd n).dJ (min p sz) (min q (sz-min p sz))):=hZ ⟨EZ,by unfold Tr.jJ;rw[aJ EZ,hU,hU,hU,hsz]⟩;rw[hsz]at c3 z40;have zI:(sz:Int)<=40:=bB
   obtain⟨lo,hlo⟩:=nJ (min p sz);have mn:min (p:Int) (sz:Int)=(lo:Int):=bB
   have lz:lo<=sz:=bB
   have lzI:(lo:Int)<=(sz:Int):=bB
   have mn2:(if(p:Int)<(sz:Int)then(p:Int)else(sz:Int))=(lo:Int):=by split<;>omega
   obtain⟨k,hk⟩:=nJ (min q (sz-lo));have mk:min (q:Int) ((sz-lo:Nat):Int)=(k:Int):=bB
   have k1':k<=sz-lo:=bB
   have k2':k<=40-lo:=bB
   have k3':(k:Int)<=((40-lo:Nat):Int):=bB
   have k4':(k:Int)<=((sz-lo:Nat):Int):=bB
   rw[hlo,hk]at EF;have LD:Hid (∀nq,(loadCells (if 40=lo then(⟨b,n*62+22,bu⟩:Addr)else⟨b,n*62+22+lo,bu⟩) k).run prog (w.drewN nq)= .ok ((Tr.BK (F.nd n).dJ lo k).map (Value.int bc)).toArray (w.drewN nq)):=hZ (λnq=>(h.drewN nq).Jc n lo k n40 bB _ (λh0=>nK));have BB:Hid (∀nq,Below w.heap.size w (w.drewN nq)):=hZ (λnq=>by
    have:=aQ w.heap.size w;exact⟨this.os,this.tape,this.output,this.size,this.block⟩)
   go_in
   go_wp2_with fail
   refine sC (iS b n F _ HF.v) ?_;rintro w1 hw1;subst w1;rw[EP.1,EP.2,bF];go_wp2_with fail
   go_quiet (fail)
   revert LD;generalize (if 40=lo then(⟨b,n*62+22,bu⟩:Addr)else⟨b,n*62+22+lo,bu⟩)=ad;intro LD;go_wp2_with (refine yj rfl _ rfl ad k _ rfl _ (LD.v _) ?_)
   go_ret2
   rw[EF.1,EF.2];exact⟨rfl,HF.drewN _,BB.v _⟩
 .have E2:Hid (fw b z (Tr.cL F z 1)=ai bu/\bN (Tr.cL F z 1)=aq 100 (aa az (Tr.cL F z 1))/\Tr.eO F z a m=Tr.cL F z 1/\Tr.jJ F z a m=⟨#[]⟩):=hZ (by
   have e:Tr.eO F z a m=Tr.cL F z 1:=aJ c;exact⟨ij c,bM c,e,by unfold Tr.jJ;rw[e,aI c];rfl⟩)
  go_in
  go_wp2_with fail
  refine sC (iS b z F _ HF.v) ?_;rintro w1 hw;subst w1;rw[E2.1,E2.2.1];go_wp2
  go_ret2
  rw[E2.2.2.1,E2.2.2.2,E2.2.1];exact⟨rfl,HF.v,aQ _ _⟩
open Go.Sort
def zr(L:List bU):List Value:=L.map ak
structure SO (w:bD)(L:List bU)(v:Value)(wr:bD):Prop where
 cZ:RowKit.Below w.heap.size w wr
 own:wr.ownsRow w.heap.size 9 1 v L.length (zr L)
 nil:L=[]->v=aj bu 0 0
theorem SO.start(w:bD):SO w [] (aj bu 0 0) w:=⟨aQ _ _,World.ownsRow_nil _ _ _ _,λ_=>rfl⟩
theorem SO.form{L:List bU}(h:SO w L v wr):∃a c,v=aj a L.length c:=by
 rcases h.own.2 with⟨e,e2⟩|⟨g,cap,_,e,_⟩
 .exact⟨bu,0,by rw[e,e2]⟩
 .exact⟨_,cap,e⟩
theorem SO.below{L:List bU}(h:SO w L v wr)(b:RowKit.Below wr.heap.size wr w1):SO w L v w1:=
 ⟨h.cZ.trans (b.mono h.cZ.size),h.own.kept (row:=bu) ⟨b.os,b.tape,b.output,b.size,λk hk _=>b.block k hk⟩ (Classical.em _),h.nil⟩
theorem SO.more{L:List bU}{gg cap N:Nat}{l:Value}(h:SO w L l wr)(x:bU)(hN:L.length=N)(hl:w1.ownsRow w.heap.size 9 1 (aj (bj ⟨gg,0,bu⟩) (N+1) cap) (N+1) (zr L++[ak x]))(o:Obj)(hg:(wr.alloc o).grownBy w1 l.ownBlock):
  SO w (L++[x]) (aj (bj ⟨gg,0,bu⟩) (N+1) cap) w1:=by
 have hs:=h.cZ.size;refine⟨(h.cZ.alloc hs o).grown hg (by simp;omega) (λk e=>(h.own.lt k e).1),?_,λe=>by simp at e⟩;grind [zr]
theorem TU:∃i,prog.info? 9=bj i/\i.zero=bj (ak ⟨#[]⟩)/\i.size=1/\i.bytes=16:=⟨(prog.info? 9).get bC,by kernel_rfl,by kernel_rfl,by kernel_rfl,by kernel_rfl⟩
def Tr.uy(x:Nd)(j:Nat):List bU:=(List.range j).map x.eN
theorem Tr.sN(x:Nd)(j:Nat):(Tr.uy x j).length=j:=by simp[Tr.uy]
theorem Tr.O3(x:Nd)(j:Nat):Tr.uy x (j+1)=Tr.uy x j++[x.eN j]:=by simp[Tr.uy,List.range_succ]
def sr(L:List bU):List bU:=((L.map λs=>s.data.toList).mergeSort λx y=>decide (x<=y)).map λl=>⟨l.toArray⟩
theorem qW(L:List bU):(sr L).length=L.length:=by simp[sr]
theorem Mh(w w1:bD)(L:List bU)(v:Value)(h:SO w L v w1)(hl:L.length<100):
  Calls prog 265 #[v] w1 λe w'=>e=bf (ao #[])/\SO w (sr L) v w':=by
 by_cases h0:L.length=0
 .obtain rfl:=List.eq_nil_of_length_eq_zero h0;rw[h.nil rfl];refine(Tryz.slices_Sort_string_none bu 0 w1).mono ?_;rintro e w' ⟨rfl,hw⟩;subst w';exact⟨rfl,by rw[<-h.nil rfl,show sr []=[]by simp[sr]];exact h⟩
 .obtain⟨g,cap,hv,hb,hg⟩:=h.own.form bB;subst hv;have hat:∀(M:List bU) (j:Nat),(zr M)[j]? =((M.map λs=>s.data.toList)[j]?).map encStr:=λM j=>by
   simp only[zr,List.getElem?_map];cases M[j]? <;>simp[encStr]
  have hH:Holds encStr w1 g 0 (L.map λs=>s.data.toList).toArray:=λj hj=>by
   have hj':j<L.length:=by simpa using hj
   rw[Nat.zero_add];refine⟨?_,h.own.frozenAt j⟩;rw[h.own.cellAt j bB,hat,aW (by simpa using hj'),Option.map_some,getElem!_pos _ j hj];simp
  have hS:=Tryz.slices_Sort_string g 0 cap (L.map λs=>s.data.toList) w1 hH hg (by simp;omega);rw[List.length_map]at hS;refine hS.mono ?_;rintro e w' ⟨rfl,n,os,rfl⟩;refine⟨rfl,?_⟩;obtain⟨D,hD⟩:=nJ (((L.map λs=>s.data.toList).mergeSort λx y=>decide (x<=y)));have hDl:D.length=L.length:=by rw[<-hD];simp
  have hsr:sr L=D.map λl=>⟨l.toArray⟩:=by unfold sr;rw[hD]
  rw[hD];have hgr:w1.grownBy (grow (putRow encStr (Sort.ahead w1 n) g 0 D.toArray) os) (bj g):=by
   refine⟨rfl,rfl,rfl,?_,λk hk hne=>?_⟩
   .unfold Sort.grow Sort.putRow Sort.mapBlock Sort.ahead;simp
   .unfold Sort.grow Sort.putRow Sort.mapBlock Sort.ahead;rw[Array.getElem?_append_left (by simpa using hk),Array.getElem?_modify,aI (λe=>hne (by rw[e]))]
  have hbl:∀k,(bj g:Option Nat)=bj k->w.heap.size<=k:=λk e=>by injection e with e;omega
  refine⟨h.cZ.grown hgr h.cZ.size hbl,?_,λe=>by
   have:=qW L;rw[e]at this;simp at this;omega⟩
  rcases h.own.2 with⟨hv,_⟩|⟨g',cap',cur,hv,hb',hgg,hnc,hcm,hcs,htake⟩
  .cases hv
  .simp only[Value.slice.injEq,Option.some.injEq,Addr.mk.injEq,and_true,true_and]at hv;obtain⟨rfl,rfl⟩:=hv;have hheap:(grow (putRow encStr (Sort.ahead w1 n) g 0 D.toArray) os).heap[g]? =bj (bh (putCells encStr 0 D.toArray cur) 9 (0,0)):=by
    rw[heap_grow_old _ _ (by simpa[putRow,mapBlock,Sort.ahead]using hg)];simp[putRow,mapBlock,Sort.ahead,Array.getElem?_modify,hgg,onCells]
   rw[qW];refine⟨by simp[zr,qW], .inr ⟨g,cap,_,rfl,hb,hheap,hnc,hcm,by simpa[putCells]using hcs,?_⟩⟩;apply List.ext_getElem?;intro t;by_cases ht:t<L.length
   .have hc:t<cur.size:=by rw[hcs];omega
    unfold putCells;grind
   .rw[List.getElem?_eq_none (by rw[List.length_take];omega),List.getElem?_eq_none (by simp[zr,qW];omega)]
def Tr.sd(F:Fo)(z:Int):List bU:=if Tr.cL F z 2=0 then sr (Tr.uy (F.nd z.toNat) (F.nd z.toNat).size)else[]
theorem Ml(b:Nat)(z:Int)(F:Fo)(w:bD)(h:bR w b F)(hs:Tr.lr F):
  Calls prog 213 #[ai (bj ⟨b,0,bu⟩),aa az z] w λe w'=>∃v,e=bf (ao #[v,bN (Tr.cL F z 2)])/\SO w (Tr.sd F z) v w':=by
 have HF:=hZ h;by_cases c:Tr.cL F z 2=0
 .obtain⟨n,rfl,n40,_,k2⟩:=Tr.fB c;have hm8:=hs n n40 k2;have EP:Hid (Tr.cL F (n:Int) 2=0/\fw b (n:Int) 0=ai (bj ⟨b,n*62,bu⟩)/\Tr.sd F (n:Int)=sr (Tr.uy (F.nd n) (F.nd n).size)):=hZ ⟨c,gM b n,by unfold Tr.sd;rw[aJ c,hU]⟩;have HM8:=hZ hm8;obtain⟨i0,hi0,hz0,hz1,hz2⟩:=TU;clear h c hs k2;go_in
  go_wp2_with fail
  refine sC (mi b n F _ HF.v) ?_;rintro w1 hw1;subst w1;rw[EP.1,EP.2.1,bF];go_wp2_with fail
  refine sC (qZ b n F _ HF.v n40 HM8.v) ?_;rintro w1 ⟨kd,hw1⟩;have S0:Hid (SO w [] (aj bu 0 0) w1):=hZ (by
   have:=aQ w.heap.size w;rw[hw1];exact(SO.start w).below ⟨this.os,this.tape,this.output,this.size,this.block⟩)
  clear hw1;obtain⟨sz,hsz⟩:=nJ ((F.nd n).size);have HSZ:=hZ hsz;rw[hsz]at hm8|-;clear hsz;go_wp2_with fail
  go_loopw [8,10,23] (λv x i wr=>∃(j:Nat),i=aa az j/\j<=sz/\Hid (SO w (Tr.uy (F.nd n) j) v wr)) (λ_ _ i _=>sz-(intOf i).toNat)
  case atStart=>exact⟨0,rfl,bB,S0⟩
  case round=>
   obtain⟨j,rfl,hj,R⟩:=hrel;by_cases hlt:j<sz
   .have hltI:(j:Int)<(sz:Int):=bB
    have hb:=HF.below R.cZ;have c0:=hb.xp n j n40 bB;have c1:=hb.uJ n j n40 bB;have SE:=hZ (Tr.O3 (F.nd n) j);obtain⟨nm,hnm⟩:=nJ ((F.nd n).eN j);rw[hnm]at c0 SE;generalize (F.nd n).db j=kk at c1;clear hb hnm;go_upto_region 8 with fail
    refine cM (λW=>SO w (Tr.uy (F.nd n) j) u8 W/\W.cell? ⟨wr.heap.size,0,bu⟩=bj (ak nm)) ⟨R.below ((aQ _ _).alloc (aL _) _),by rw[bS (heap_alloc_new wr _)];rfl⟩ ?_;intro W1 h1;have S1:=hZ h1.1;have c2:=h1.2;clear h1 R c0 c1;obtain⟨va,vc,hv⟩:=S1.form;rw[Tr.sN]at hv;subst hv;go_wp2_with (at_builtin;refine wpList_append_lies _ rfl _ _ 152 (by rfl) w.heap.size 9 i0 (ak ⟨#[]⟩) 1 16 Tryz.underlying152 hi0 hz0 hz1 hz2 rfl bE (aj va j vc) j (zr (Tr.uy (F.nd n) j)) (by rfl) (by have:=S1.own;rw[Tr.sN]at this;exact this.alloc _) ⟨W1.heap.size,0,bu⟩ 1 1 [ak nm] (by rfl) rfl (World.news_of_block (heap_alloc_new W1 _)) (by simp[Value.oneCell']) bE (by unfold maxLen;omega) bB (by have:=S1.cZ.size;simp;omega) (W1.heap.size+1) (by simp) ?_;intro gg cap2 w2 hown hgrow hat hlt2;have Q1:Hid (SO w (Tr.uy (F.nd n) j++[nm]) (aj (bj ⟨gg,0,bu⟩) (j+1) cap2) w2):=hZ (S1.more nm (Tr.sN _ _) hown _ hgrow);clear hown hgrow hat hlt2)
    go_roundw
    case rel=>exact⟨j+1,by go_num,bB,by rw[SE.v];exact Q1⟩
    case measure=>simp[intOf];omega
   .have hltI:¬(j:Int)<(sz:Int):=bB
    obtain rfl:j=sz:=bB
    have hln:=Tr.sN (F.nd n) j;go_wp2_with fail
    refine sC (Mh w _ _ _ R.v bB) ?_;rintro w2 h2;have FIN:Hid (SO w (Tr.sd F (n:Int)) u8 w2):=hZ (by rw[EP.2.2,HSZ.v];exact h2);clear h2;go_wp2
    go_ret2
    rw[EP.1];exact⟨_,rfl,FIN.v⟩
 .have E2:Hid (fw b z (Tr.cL F z 2)=ai bu/\bN (Tr.cL F z 2)=aq 100 (aa az (Tr.cL F z 2))/\Tr.sd F z=[]):=hZ ⟨ij c,bM c,aI c⟩;clear h c hs;go_in
  go_wp2_with fail
  refine sC (mi b z F _ HF.v) ?_;rintro w1 hw;subst w1;rw[E2.1,E2.2.1];go_wp2
  go_ret2
  rw[E2.2.1,E2.2.2];exact⟨_,rfl,SO.start w⟩
theorem Ue:∀(k m:Nat) (f:Nat->Nat),(∀i,i<m->f i<k)->(∀i j,i<j->j<m->f i≠f j)->m<=k
 |0,m,f,h,_=>by
  rcases Nat.eq_zero_or_pos m with h0|h0
  .omega
  .exact aZ (h 0 h0) bB
 |k+1,m,f,h,hi=>by
  by_cases c:∃i,i<m/\f i=k
  .obtain⟨a,ha,hk⟩:=c;have:=Ue k (m-1) (λi=>if i<a then f i else f (i+1)) (λi hm=>by
    split
    .have h1:=h i bB;have h2:=hi i a bB ha;omega
    .have h1:=h (i+1) bB;have h2:=hi a (i+1) bB bB;omega) (λi j hij hj=>by
    by_cases c1:i<a
    .grind
    .rw[aI c1,nK];exact hi (i+1) (j+1) bB bB)
   omega
  .have:=Ue k m f (λi hm=>by
    have h1:=h i hm;have h2:f i≠k:=λe=>c ⟨i,hm,e⟩;omega) hi
   omega
def Tr.gE(F:Fo)(n:Nat):Nat->Nat
 |0=>n
 |k+1=>(F.nd (Tr.gE F n k)).up
theorem Tr.nU(F:Fo)(n:Nat):∀k,Tr.gE F (F.nd n).up k=Tr.gE F n (k+1)
 |0=>rfl
 |k+1=>by show(F.nd (Tr.gE F (F.nd n).up k)).up=_;rw[Tr.nU F n k];rfl
theorem Tr.AS(F:Fo)(n i:Nat):∀k,Tr.gE F (Tr.gE F n i) k=Tr.gE F n (i+k)
 |0=>rfl
 |k+1=>by show(F.nd (Tr.gE F (Tr.gE F n i) k)).up=_;rw[Tr.AS F n i k];rfl
theorem Tr.dB.first{F:Fo}:∀{m n:Nat},Tr.dB F m n->∃e,(∀j,j<=e->Tr.gE F n j<40)/\(F.nd (Tr.gE F n e)).up=Tr.gE F n e/\∀j,j<e->(F.nd (Tr.gE F n j)).up≠Tr.gE F n j
 |0,n,h=>⟨0,λj hj=>by obtain rfl:j=0:=bB;exact h.1,h.2,λj hj=>bB⟩
 |m+1,n,h=>by
  by_cases c:(F.nd n).up=n
  .exact⟨0,λj hj=>by obtain rfl:j=0:=bB;exact h.1,c,λj hj=>bB⟩
  .rcases h.2 with h2|h2
   .exact aZ h2 c
   .obtain⟨e,h3,h4,h5⟩:=h2.first;refine⟨e+1,λj hj=>?_,?_,λj hj=>?_⟩
    .cases j with
     |zero=>exact h.1
     |succ j=>rw[<-Tr.nU];exact h3 j bB
    .rw[<-Tr.nU];exact h4
    .cases j with
     |zero=>exact c
     |succ j=>rw[<-Tr.nU];exact h5 j bB
theorem Tr.dB.Vx{F:Fo}:∀{e n:Nat},(∀j,j<=e->Tr.gE F n j<40)->(F.nd (Tr.gE F n e)).up=Tr.gE F n e->Tr.dB F e n
 |0,_,h1,h2=>⟨h1 0 bB,h2⟩
 |e+1,n,h1,h2=>⟨h1 0 bB, .inr (Tr.dB.Vx (λj hj=>by rw[Tr.nU];exact h1 (j+1) bB) (by rw[Tr.nU];exact h2))⟩
theorem Tr.dB.mono{F:Fo}{n m:Nat}(h:Tr.dB F m n):∀k,Tr.dB F (m+k) n
 |0=>h
 |k+1=>(Tr.dB.mono h k).more.1
theorem Tr.dB.IA(h:Tr.dB F m n):Tr.dB F 40 n:=by
 obtain⟨e,h1,h2,h3⟩:=h.first;have he:e+1<=40:=Ue 40 (e+1) (Tr.gE F n) (λi hi=>h1 i bB) (λi j hij hj eq=>by
  have a:Tr.gE F n (i+(e-j))=Tr.gE F n e:=by
   rw[<-Tr.AS,eq,Tr.AS,show j+(e-j)=e by omega]
  exact h3 (i+(e-j)) bB (by rw[a,h2]))
 have:=(Tr.dB.Vx h1 h2).mono (40-e);grind
def Tr.Nodup(x:Nd):Prop:=∀i j,i<j->j<x.size->(x.eN i).toList≠(x.eN j).toList
theorem Tr.Nodup.ne(h:Tr.Nodup x)(hi:i<x.size)(hj:j<x.size)(c:i≠j):(x.eN i).toList≠(x.eN j).toList:=by grind [Tr.Nodup]
theorem Tr.rI(x:Nd)(i:Nat):(Tr.eX x i).size=x.size-1:=rfl
theorem Tr.xr(hj:j<x.size-1):(Tr.eX x i).eN j=if j=i then x.eN (x.size-1)else x.eN j:=by
 show ir (ir x.eN i _) (x.size-1) _ j=_;rw[vG _ _ _ _ bB];rfl
theorem Tr.qJ(hj:j<x.size-1):(Tr.eX x i).db j=if j=i then x.db (x.size-1)else x.db j:=by
 show ir (ir x.db i _) (x.size-1) _ j=_;rw[vG _ _ _ _ bB];rfl
theorem Tr.N7(hi:i<x.size)(hj:j<x.size-1):∃q,q<x.size/\q≠i/\(Tr.eX x i).eN j=x.eN q/\(Tr.eX x i).db j=x.db q:=by
 by_cases c:j=i
 .refine⟨x.size-1,bB,bB,?_,?_⟩
  .rw[Tr.xr hj,aJ c]
  .rw[Tr.qJ hj,aJ c]
 .refine⟨j,bB,c,?_,?_⟩
  .rw[Tr.xr hj,aI c]
  .rw[Tr.qJ hj,aI c]
theorem Tr.Nodup.eX{x:Nd}(h:Tr.Nodup x){i:Nat}(hi:i<x.size):Tr.Nodup (Tr.eX x i):=by grind [Tr.Nodup,Tr.eX,Tr.rI,Tr.xr]
theorem Tr.vV(hj:j<x.size):(Tr.jg x s k).eN j=x.eN j/\(Tr.jg x s k).db j=x.db j:=⟨vG _ _ _ _ bB,vG _ _ _ _ bB⟩
theorem Tr.ti(x:Nd)(s:bU)(k:Nat):(Tr.jg x s k).eN x.size=s/\(Tr.jg x s k).db x.size=k:=⟨rh _ _ _,rh _ _ _⟩
theorem Tr.qz(x:Nd)(s:bU)(k:Nat):(Tr.jg x s k).size=x.size+1:=rfl
theorem Tr.fJ.no(h:Tr.fJ x s (-1)):∀j,j<x.size->(x.eN j).toList≠s.toList:=by
 rcases h with⟨j,e,_⟩|⟨_,h⟩
 .omega
 .exact h
theorem Tr.Nodup.jg{x:Nd}{s:bU}{k:Nat}(h:Tr.Nodup x)(hp:Tr.fJ x s (-1)):Tr.Nodup (Tr.jg x s k):=by grind [Tr.Nodup,Tr.fJ,Tr.jg,Tr.qz,Tr.vV,Tr.ti]
def gv(f:Nat->Nat):Nat->Nat
 |0=>0
 |n+1=>gv f n+f n
theorem oC{f g:Nat->Nat}:∀{n:Nat},(∀i,i<n->f i=g i)->gv f n=gv g n
 |0,_=>rfl
 |n+1,h=>by show gv f n+f n=gv g n+g n;rw[oC (λi hi=>h i bB),h n bB]
theorem wD{f:Nat->Nat}:∀{n i:Nat},i<n->f i<=gv f n
 |n+1,i,h=>by
  show f i<=gv f n+f n;by_cases c:i=n
  .subst c;omega
  .have:=wD (f:=f) (n:=n) (i:=i) bB;omega
theorem xV{f:Nat->Nat}:∀{n:Nat},0<gv f n->∃i,i<n/\0<f i
 |0,h=>aZ h (bV 0)
 |n+1,h=>by
  by_cases c:0<f n
  .exact⟨n,bB,c⟩
  .have h':0<gv f n+f n:=h;obtain⟨i,h1,h2⟩:=xV (f:=f) (n:=n) bB;exact⟨i,bB,h2⟩
theorem vt{f:Nat->Nat}(h:∀i,i<n->f i=0):gv f n=0:=by grind [gv,xV]
theorem xU{f g:Nat->Nat}{p:Nat}:∀{n:Nat},p<n->(∀i,i<n->i≠p->f i=g i)->gv f n+g p=gv g n+f p
 |n+1,hp,h=>by
  show gv f n+f n+g p=gv g n+g n+f p;by_cases c:p=n
  .grind [gv,oC]
  .have:=xU (f:=f) (g:=g) (p:=p) (n:=n) bB (λi hi hne=>h i bB hne);rw[h n bB bB];omega
def fN(a b:Nat):Nat:=if a=b then 1 else 0
theorem iQ(a:Nat):fN a a=1:=aJ rfl
theorem mE{a:Nat}(h:a≠b):fN a b=0:=aI h
def Tr.gW(x:Nd)(n:Nat):Nat:=if x.kind=2 then gv (λi=>fN (x.db i) n) x.size else 0
def Tr.pV(F:Fo)(n:Nat):Nat:=gv (λt=>fN (F.root t) n) F.trees
def Tr.cQ(F:Fo)(n:Nat):Nat:=gv (λm=>Tr.gW (F.nd m) n) 40+Tr.pV F n
theorem Tr.Ac(n:Nat)(h:x.kind≠2):Tr.gW x n=0:=aI h
theorem Tr.Rb(s:bU)(k n:Nat)(h:x.kind=2):Tr.gW (Tr.jg x s k) n=Tr.gW x n+fN k n:=by
 unfold Tr.gW;rw[aJ h,aJ (show(Tr.jg x s k).kind=2 from h),Tr.qz];show gv (λi=>fN ((Tr.jg x s k).db i) n) x.size+fN ((Tr.jg x s k).db x.size) n=_;rw[(Tr.ti x s k).2,oC (λi hi=>by rw[(Tr.vV hi).2])]
theorem Tr.NF(n:Nat)(h:x.kind=2)(hi:i<x.size):Tr.gW (Tr.eX x i) n+fN (x.db i) n=Tr.gW x n:=by
 unfold Tr.gW;rw[aJ h,aJ (show(Tr.eX x i).kind=2 from h),Tr.rI];obtain⟨l,hl⟩:∃l,x.size=l+1:=⟨x.size-1,bB⟩;rw[hl,show l+1-1=l by omega];show gv (λj=>fN ((Tr.eX x i).db j) n) l+fN (x.db i) n=gv (λj=>fN (x.db j) n) l+fN (x.db l) n;by_cases c:i=l
 .subst c;rw[oC (λj hj=>by rw[Tr.qJ bB,nK])]
 .have a:=xU (f:=λj=>fN ((Tr.eX x i).db j) n) (g:=λj=>fN (x.db j) n) (p:=i) (n:=l) bB (λj hj hne=>by show fN _ n=fN _ n;rw[Tr.qJ bB,aI hne]);have e:(Tr.eX x i).db i=x.db l:=by rw[Tr.qJ bB,aJ rfl,hl];rfl
  simp only[e]at a;omega
theorem Tr.Ae(F:Fo)(p:Nat)(x:Nd)(n:Nat)(hp:p<40):Tr.cQ (F.put p x) n+Tr.gW (F.nd p) n=Tr.cQ F n+Tr.gW x n:=by
 have a:=xU (f:=λm=>Tr.gW ((F.put p x).nd m) n) (g:=λm=>Tr.gW (F.nd m) n) (p:=p) (n:=40) hp (λi _ hne=>by show Tr.gW ((F.put p x).nd i) n=Tr.gW (F.nd i) n;rw[Tr.bO _ _ _ _ hne]);simp only[Tr.bG]at a;unfold Tr.cQ;have r:Tr.pV (F.put p x) n=Tr.pV F n:=rfl;rw[r];omega
theorem Tr.jD(F:Fo)(p:Nat)(x:Nd)(n:Nat)(hp:p<40)(h:Tr.gW x n=Tr.gW (F.nd p) n):Tr.cQ (F.put p x) n=Tr.cQ F n:=by
 have:=Tr.Ae F p x n hp;omega
theorem Tr.Ad(hm:m<40)(h2:(F.nd m).kind=2)(hi:i<(F.nd m).size):1<=Tr.cQ F ((F.nd m).db i):=by
 have a:=wD (f:=λq=>Tr.gW (F.nd q) ((F.nd m).db i)) hm;grind [wD,Tr.gW,fN,iQ,gv,Tr.cQ]
theorem Tr.uO(h:Tr.cQ F n=0):(∀m i,m<40->(F.nd m).kind=2->i<(F.nd m).size->(F.nd m).db i≠n)/\∀t,t<F.trees->F.root t≠n:=by grind [Tr.Ad,wD,fN,iQ,Tr.pV,gv,Tr.cQ]
theorem Tr.Rc(x:Nd)(n:Nat)(h:x.kind=2->x.size<=8):Tr.gW x n<=8:=by
 unfold Tr.gW;split
 .rename_i c;have:∀k,gv (λi=>fN (x.db i) n) k<=k:=λk=>by
   induction k with
   |zero=>exact aL _
   |succ k ih=>show gv _ k+fN _ n<=_;have:fN (x.db k) n<=1:=(by unfold fN;split<;>omega);omega
  grind
 .omega
structure Tr.Ok (F:Fo):Prop where
 tr:F.trees<=4
 kd:∀n,n<40->(F.nd n).kind<=2
 sz:Tr.lr F
 fz:Tr.uC F
 nb:∀n i,n<40->(F.nd n).kind=2->i<(F.nd n).size->Tr.gd ((F.nd n).eN i)=bw
 dp:∀n,n<40->(F.nd n).kind=2->Tr.Nodup (F.nd n)
 ki:∀n i,n<40->(F.nd n).kind=2->i<(F.nd n).size->(F.nd n).db i<40/\(F.nd ((F.nd n).db i)).kind≠0/\(F.nd ((F.nd n).db i)).tree=(F.nd n).tree/\((F.nd ((F.nd n).db i)).kind=2->(F.nd ((F.nd n).db i)).up=n)
 rt:∀t,t<F.trees->F.root t<40/\(F.nd (F.root t)).kind=2/\(F.nd (F.root t)).up=F.root t/\(F.nd (F.root t)).tree=t
 lk:∀n,n<40->(F.nd n).kind≠0->(F.nd n).cW=Tr.cQ F n
 al:∀n,n<40->(F.nd n).kind≠0->1<=(F.nd n).cW+(F.nd n).held
 dr:∀n,n<40->(F.nd n).kind=2->Tr.cQ F n=1
 en:∀n,n<40->(F.nd n).kind=2->Tr.dB F 40 n
 ro:∀n,n<40->(F.nd n).kind=2->(F.nd n).up=n->∃t,t<F.trees/\F.root t=n
theorem Tr.Ok.none(h:Tr.Ok F)(k0:(F.nd k).kind=0):Tr.cQ F k=0:=by
 unfold Tr.cQ Tr.pV;rw[vt (λm hm=>?_),vt (λt ht=>?_)]
 .exact mE (λe=>by have:=(h.rt t ht).2.1;rw[e,k0]at this;exact aZ this bE)
 .unfold Tr.gW;split
  .rename_i c;exact vt (λi hi=>mE (λe=>by have:=(h.ki m i hm c hi).2.1;rw[e]at this;exact this k0))
  .rfl
theorem Tr.Ok.kV(h:Tr.Ok F)(n:Nat):Tr.cQ F n<=324:=by
 have a:∀k,k<=40->gv (λm=>Tr.gW (F.nd m) n) k<=8*k:=λk hk=>by
  induction k with
  |zero=>exact aL _
  |succ k ih=>
   show gv _ k+Tr.gW (F.nd k) n<=_;have:=Tr.Rc (F.nd k) n (λc=>h.sz k bB c);omega
 have b:∀k,gv (λt=>fN (F.root t) n) k<=k:=λk=>by
  induction k with
  |zero=>exact aL _
  |succ k ih=>
   show gv _ k+fN _ n<=_;have:fN (F.root k) n<=1:=by unfold fN;split<;>omega
   omega
 have c1:=a 40 (aL _);have c2:=b F.trees;have c3:=h.tr;unfold Tr.cQ Tr.pV;omega
theorem Tr.Ok.DP(h:Tr.Ok F)(n:Nat)(hn:n<40)(k0:(F.nd n).kind≠0):(F.nd n).cW<=324:=by rw[h.lk n hn k0];exact h.kV n
theorem Tr.Ok.db(h:Tr.Ok F):Tr.Hy F:=λn hn k2 i hi=>by
 obtain⟨h1,h2,_⟩:=h.ki n i hn k2 hi;have:=h.DP _ h1 h2;exact⟨h1,by rw[h.lk _ h1 h2];exact Tr.Ad hn k2 hi,bB⟩
theorem Tr.GC(n:Nat):(Tr.f0.nd n).kind=0:=rfl
theorem Tr.Wd:Tr.Ok Tr.f0:=by
 have n2:∀n,(Tr.f0.nd n).kind≠2:=λn=>by rw[Tr.GC];decide
 have n1:∀n,(Tr.f0.nd n).kind≠1:=λn=>by rw[Tr.GC];decide
 exact⟨aC _,λ_ _=>aC _,λ_ _ h=>aZ h (n2 _),λ_ _ h=>aZ h (n1 _),λ_ _ _ h=>aZ h (n2 _),λ_ _ h=>aZ h (n2 _),λ_ _ _ h=>aZ h (n2 _),λt ht=>aZ ht (Nat.not_lt_zero t),λ_ _ h=>aZ rfl h,λ_ _ h=>aZ rfl h,λ_ _ h=>aZ h (n2 _),λ_ _ h=>aZ h (n2 _),λ_ _ h=>aZ h (n2 _)⟩
theorem Tr.dB.congr{F G:Fo}(h:∀n,(G.nd n).up=(F.nd n).up):∀{m n:Nat},Tr.dB F m n->Tr.dB G m n
 |0,n,hh=>⟨hh.1,by rw[h n];exact hh.2⟩
 |m+1,n,hh=>⟨hh.1,by
  rw[h n];rcases hh.2 with a|a
  .exact .inl a
  .exact .inr (Tr.dB.congr h a)⟩
theorem Tr.Ok.put{F:Fo}(h:Tr.Ok F)(p:Nat)(x:Nd)(hp:p<40)(e1:x.kind=(F.nd p).kind)(e2:x.cW=(F.nd p).cW)(e3:x.tree=(F.nd p).tree)(e4:x.up=(F.nd p).up)(e5:x.kind=2->x.size=(F.nd p).size/\x.eN=(F.nd p).eN/\x.db=(F.nd p).db)(e6:x.kind=1->x.size<=40)(e7:x.kind≠0->1<=x.cW+x.held):Tr.Ok (F.put p x):=by
 have hk:∀n,((F.put p x).nd n).kind=(F.nd n).kind:=λn=>by
  by_cases c:n=p
  .subst c;rw[Tr.bG,e1]
  .rw[Tr.bO _ _ _ _ c]
 have hl:∀n,((F.put p x).nd n).cW=(F.nd n).cW:=λn=>by
  by_cases c:n=p
  .subst c;rw[Tr.bG,e2]
  .rw[Tr.bO _ _ _ _ c]
 have ht:∀n,((F.put p x).nd n).tree=(F.nd n).tree:=λn=>by
  by_cases c:n=p
  .subst c;rw[Tr.bG,e3]
  .rw[Tr.bO _ _ _ _ c]
 have hu:∀n,((F.put p x).nd n).up=(F.nd n).up:=λn=>by
  by_cases c:n=p
  .subst c;rw[Tr.bG,e4]
  .rw[Tr.bO _ _ _ _ c]
 have hd:∀n,(F.nd n).kind=2->((F.put p x).nd n).size=(F.nd n).size/\((F.put p x).nd n).eN=(F.nd n).eN/\((F.put p x).nd n).db=(F.nd n).db:=λn k2=>by
  by_cases c:n=p
  .subst c;rw[Tr.bG];exact e5 (by rw[e1];exact k2)
  .rw[Tr.bO _ _ _ _ c];exact⟨rfl,rfl,rfl⟩
 have hc:∀n,Tr.cQ (F.put p x) n=Tr.cQ F n:=λn=>Tr.jD F p x n hp (by
  unfold Tr.gW;by_cases c:x.kind=2
  .grind
  .rw[aI c,aI (by rw[<-e1];exact c)])
 refine⟨h.tr,λn hn=>by rw[hk];exact h.kd n hn,λn hn k2=>?_,λn hn k1=>?_,λn i hn k2 hi=>?_,λn hn k2=>?_,λn i hn k2 hi=>?_,λt htt=>?_,λn hn k0=>?_,λn hn k0=>?_,λn hn k2=>?_,λn hn k2=>?_,λn hn k2 hu2=>?_⟩
 .rw[hk]at k2;rw[(hd n k2).1];exact h.sz n hn k2
 .by_cases c:n=p
  .subst c;rw[Tr.bG]at k1|-;exact e6 k1
  .rw[Tr.bO _ _ _ _ c]at k1|-;exact h.fz n hn k1
 .rw[hk]at k2;rw[(hd n k2).1]at hi;rw[(hd n k2).2.1];exact h.nb n i hn k2 hi
 .rw[hk]at k2;unfold Tr.Nodup;rw[(hd n k2).1,(hd n k2).2.1];exact h.dp n hn k2
 .rw[hk]at k2;rw[(hd n k2).1]at hi;rw[(hd n k2).2.2,hk,ht,ht,hu];exact h.ki n i hn k2 hi
 .show F.root t<40/\_;have:=h.rt t htt;rw[hk,hu,ht];exact this
 .rw[hk]at k0;rw[hl,hc];exact h.lk n hn k0
 .by_cases c:n=p
  .subst c;rw[Tr.bG]at k0|-;exact e7 k0
  .rw[Tr.bO _ _ _ _ c]at k0|-;exact h.al n hn k0
 .rw[hk]at k2;rw[hc];exact h.dr n hn k2
 .rw[hk]at k2;exact(h.en n hn k2).congr hu
 .rw[hk]at k2;rw[hu]at hu2;exact h.ro n hn k2 hu2
theorem Tr.Ok.zN(h:Tr.Ok F)(z a:Int)(s:bU):Tr.Ok (Tr.eV F z a s):=by
 unfold Tr.eV;split
 .rename_i c;have c1:Tr.cL F z 1=0:=by
   rcases Classical.em (Tr.cL F z 1=0)with d|d
   .exact d
   .have:=c.1;unfold Tr.dL at this;rw[aJ d]at this;exact this
  obtain⟨n,rfl,n40,_,k1⟩:=Tr.fB c1;have cw:=c.1;unfold Tr.dL at cw;refine h.put n _ n40 rfl rfl rfl rfl (λk2=>aZ ((show(F.nd n).kind=2 from k2).symm.trans k1) bE) (λ_=>?_) (λk0=>h.al n n40 k0);show max (F.nd n).size (a.toNat+s.size)<=40;have:=h.fz n n40 k1;grind
 .exact h
theorem Tr.Qz(ki:∀n i,n<40->(F.nd n).kind=2->i<(F.nd n).size->(F.nd n).db i<40/\(F.nd ((F.nd n).db i)).kind≠0/\(F.nd ((F.nd n).db i)).tree=(F.nd n).tree/\((F.nd ((F.nd n).db i)).kind=2->(F.nd ((F.nd n).db i)).up=n))(k2:(F.nd m).kind=2)(hc:1<=Tr.cQ F m):
 (∃t,t<F.trees/\F.root t=m)\/∃i,(F.nd m).up<40/\(F.nd (F.nd m).up).kind=2/\i<(F.nd (F.nd m).up).size/\(F.nd (F.nd m).up).db i=m:=by grind [Tr.pV,xV,fN,Tr.cQ,Tr.gW]
theorem Tr.dB.on{F G:Fo}(P:Nat->Prop)(h:∀n,P n->(G.nd n).up=(F.nd n).up/\P (F.nd n).up):∀{m n:Nat},P n->Tr.dB F m n->Tr.dB G m n
 |0,n,hp,hh=>⟨hh.1,by rw[(h n hp).1];exact hh.2⟩
 |m+1,n,hp,hh=>⟨hh.1,by
  rw[(h n hp).1];rcases hh.2 with a|a
  .exact .inl a
  .exact .inr (Tr.dB.on P h (h n hp).2 a)⟩
structure Tr.JS (F:Fo)(k:Nat):Prop where
 tr:F.trees<=4
 kd:∀n,n<40->(F.nd n).kind<=2
 sz:Tr.lr F
 fz:Tr.uC F
 nb:∀n i,n<40->(F.nd n).kind=2->i<(F.nd n).size->Tr.gd ((F.nd n).eN i)=bw
 dp:∀n,n<40->(F.nd n).kind=2->Tr.Nodup (F.nd n)
 ki:∀n i,n<40->(F.nd n).kind=2->i<(F.nd n).size->(F.nd n).db i<40/\(F.nd ((F.nd n).db i)).kind≠0/\(F.nd ((F.nd n).db i)).tree=(F.nd n).tree/\((F.nd ((F.nd n).db i)).kind=2->(F.nd ((F.nd n).db i)).up=n)
 rt:∀t,t<F.trees->F.root t<40/\(F.nd (F.root t)).kind=2/\(F.nd (F.root t)).up=F.root t/\(F.nd (F.root t)).tree=t
 lk:∀n,n<40->(F.nd n).kind≠0->(F.nd n).cW=Tr.cQ F n+fN k n
 al:∀n,n<40->(F.nd n).kind≠0->1<=(F.nd n).cW+(F.nd n).held
 dr:∀n,n<40->(F.nd n).kind=2->Tr.cQ F n+fN k n=1
 en:∀n,n<40->(F.nd n).kind=2->n≠k->Tr.dB F 40 n
 ro:∀n,n<40->(F.nd n).kind=2->n≠k->(F.nd n).up=n->∃t,t<F.trees/\F.root t=n
theorem Tr.OC(nk:n≠k):Tr.lB F n s k=(F.put n (Tr.jg (F.nd n) s k)).put k (if(F.nd k).kind=2 then{F.nd k with up:=n}else F.nd k):=by
 have e:(F.put n (Tr.jg (F.nd n) s k)).nd k=F.nd k:=Tr.bO _ _ _ _ (bQ nk);unfold Tr.lB;rw[e];split
 .rfl
 .rw[show(F.put n (Tr.jg (F.nd n) s k)).put k (F.nd k)=(F.put n (Tr.jg (F.nd n) s k)).put k ((F.put n (Tr.jg (F.nd n) s k)).nd k)by rw[e],Tr.Ef]
theorem Tr.dB.Cp{F G:Fo}{k:Nat}(h:∀x,x≠k->(G.nd x).up=(F.nd x).up):∀{m x:Nat},Tr.dB F m x->Tr.gQ F k m x=bA->Tr.dB G m x
 |0,x,hh,hb=>by
  have c:x≠k:=λe=>by subst e;rw[Tr.rC]at hb;exact aZ hb bE
  exact⟨hh.1,by rw[h x c];exact hh.2⟩
 |m+1,x,hh,hb=>by
  have c:x≠k:=λe=>by subst e;rw[Tr.rC]at hb;exact aZ hb bE
  refine⟨hh.1,?_⟩;rw[h x c];by_cases d:(F.nd x).up=x
  .exact .inl d
  .rcases hh.2 with a|a
   .exact aZ a d
   .refine .inr (Tr.dB.Cp h a ?_);have hb':(x==k||(!((F.nd x).up==x)&&Tr.gQ F k m (F.nd x).up))=bA:=hb;grind
theorem Tr.dB.kU{F G:Fo}{k t j:Nat}(h:∀x,x≠k->(G.nd x).up=(F.nd x).up)(hk:k<40)(hg:(G.nd k).up=t)(ht:Tr.dB G j t):∀{m x:Nat},Tr.dB F m x->∃m',Tr.dB G m' x
 |0,x,hh=>by
  by_cases c:x=k
  .subst c;exact⟨j+1,hk, .inr (by rw[hg];exact ht)⟩
  .exact⟨0,hh.1,by rw[h x c];exact hh.2⟩
 |m+1,x,hh=>by
  by_cases c:x=k
  .subst c;exact⟨j+1,hk, .inr (by rw[hg];exact ht)⟩
  .rcases hh.2 with a|a
   .exact⟨0,hh.1,by rw[h x c];exact a⟩
   .obtain⟨m',h'⟩:=Tr.dB.kU h hk hg ht a;exact⟨m'+1,hh.1, .inr (by rw[h x c];exact h')⟩
theorem Tr.JS.lead(h:Tr.JS F k)(hn:n<40)(hk:k<40)(nk:n≠k)(n2:(F.nd n).kind=2)(k0:(F.nd k).kind≠0)(h8:(F.nd n).size<8)(hs:Tr.gd s=bw)(hp:Tr.fJ (F.nd n) s (-1))(ht:(F.nd k).tree=(F.nd n).tree)(hb:(F.nd k).kind=2->Tr.gQ F k 40 n=bA):Tr.Ok (Tr.lB F n s k):=by
 obtain⟨G,hG⟩:=nJ (Tr.lB F n s k);rw[hG];rw[Tr.OC nk]at hG;have gn:G.nd n=Tr.jg (F.nd n) s k:=by rw[<-hG,Tr.bO _ _ _ _ nk,Tr.bG]
 have gk:G.nd k=if(F.nd k).kind=2 then{F.nd k with up:=n}else F.nd k:=by rw[<-hG,Tr.bG]
 have go:∀x,x≠n->x≠k->G.nd x=F.nd x:=λx c1 c2=>by rw[<-hG,Tr.bO _ _ _ _ c2,Tr.bO _ _ _ _ c1]
 have gtr:G.trees=F.trees:=by rw[<-hG];rfl
 have grt:∀t,G.root t=F.root t:=λt=>by rw[<-hG];rfl
 have all:∀x,(G.nd x).kind=(F.nd x).kind/\(G.nd x).cW=(F.nd x).cW/\(G.nd x).held=(F.nd x).held/\(G.nd x).tree=(F.nd x).tree:=λx=>by
  by_cases c1:x=n
  .subst c1;rw[gn];exact⟨rfl,rfl,rfl,rfl⟩
  .by_cases c2:x=k
   .subst c2;rw[gk];split<;>exact⟨rfl,rfl,rfl,rfl⟩
   .rw[go x c1 c2];exact⟨rfl,rfl,rfl,rfl⟩
 have rG:∀x,x≠n->(G.nd x).size=(F.nd x).size/\(G.nd x).eN=(F.nd x).eN/\(G.nd x).db=(F.nd x).db:=λx c1=>by
  by_cases c2:x=k
  .subst c2;rw[gk];split<;>exact⟨rfl,rfl,rfl⟩
  .rw[go x c1 c2];exact⟨rfl,rfl,rfl⟩
 have hup:∀x,x≠k->(G.nd x).up=(F.nd x).up:=λx c2=>by
  by_cases c1:x=n
  .subst c1;rw[gn];rfl
  .rw[go x c1 c2]
 have hupk:(F.nd k).kind=2->(G.nd k).up=n:=λk2=>by rw[gk,aJ k2]
 have cQ:∀x,Tr.cQ G x=Tr.cQ F x+fN k x:=λx=>by
  have a:=Tr.Ae F n (Tr.jg (F.nd n) s k) x hn;rw[Tr.Rb s k x n2]at a;have b:=Tr.jD (F.put n (Tr.jg (F.nd n) s k)) k (if(F.nd k).kind=2 then{F.nd k with up:=n}else F.nd k) x hk (by
   rw[Tr.bO _ _ _ _ (bQ nk)];split<;>rfl)
  rw[hG]at b;omega
 have upk:∀q i,q<40->(F.nd q).kind=2->i<(F.nd q).size->(F.nd q).db i=k->(F.nd k).kind≠2:=λq i hq q2 hi e k2=>by
  have a:=Tr.Ad hq q2 hi;have b:=h.dr k hk k2;rw[e]at a;rw[iQ]at b;omega
 have rtk:∀t,t<F.trees->F.root t≠k:=λt htt e=>by
  have k2:=(h.rt t htt).2.1;rw[e]at k2;have b:=h.dr k hk k2;rw[iQ]at b;exact(Tr.uO (show Tr.cQ F k=0 by omega)).2 t htt e
 refine⟨by rw[gtr];exact h.tr,λx hx=>by rw[(all x).1];exact h.kd x hx,λx hx k2=>?_,λx hx k1=>?_,λx i hx k2 hi=>?_,λx hx k2=>?_,λx i hx k2 hi=>?_,λt htt=>?_,λx hx kx=>?_,λx hx kx=>?_,λx hx k2=>?_,λx hx k2=>?_,λx hx k2 hu2=>?_⟩
 .rw[(all x).1]at k2;by_cases c:x=n
  .subst c;rw[gn,Tr.qz];omega
  .rw[(rG x c).1];exact h.sz x hx k2
 .rw[(all x).1]at k1;by_cases c:x=n
  .subst c;rw[n2]at k1;exact aZ k1 bE
  .rw[(rG x c).1];exact h.fz x hx k1
 .rw[(all x).1]at k2;by_cases c:x=n
  .subst c;rw[gn,Tr.qz]at hi;rw[gn];by_cases d:i=(F.nd x).size
   .subst d;rw[(Tr.ti _ _ _).1];exact hs
   .rw[(Tr.vV bB).1];exact h.nb x i hx k2 bB
  .rw[(rG x c).1]at hi;rw[(rG x c).2.1];exact h.nb x i hx k2 hi
 .rw[(all x).1]at k2;by_cases c:x=n
  .subst c;rw[gn];exact(h.dp x hx k2).jg hp
  .unfold Tr.Nodup;rw[(rG x c).1,(rG x c).2.1];exact h.dp x hx k2
 .rw[(all x).1]at k2;have old:∀q,(F.nd q).kind=2->q<40->∀i,i<(F.nd q).size->(F.nd q).db i<40/\(G.nd ((F.nd q).db i)).kind≠0/\(G.nd ((F.nd q).db i)).tree=(G.nd q).tree/\((G.nd ((F.nd q).db i)).kind=2->(G.nd ((F.nd q).db i)).up=q):=λq q2 hq i hi=>by
   obtain⟨a1,a2,a3,a4⟩:=h.ki q i hq q2 hi;grind
  by_cases c:x=n
  .subst c;have gnk:∀i,(G.nd x).db i=(Tr.jg (F.nd x) s k).db i:=λi=>by rw[gn]
   have hi':i<(F.nd x).size+1:=by rw[gn,Tr.qz]at hi;exact hi
   rw[gnk];by_cases d:i=(F.nd x).size
   .subst d;rw[(Tr.ti _ _ _).2,(all k).1,(all k).2.2.2,(all x).2.2.2];exact⟨hk,k0,ht,hupk⟩
   .rw[(Tr.vV bB).2];exact old x k2 hx i bB
  .rw[(rG x c).1]at hi;rw[(rG x c).2.2];exact old x k2 hx i hi
 .rw[gtr]at htt;rw[grt,(all _).1,(all _).2.2.2,hup _ (rtk t htt)];exact h.rt t htt
 .rw[(all x).1]at kx;rw[(all x).2.1,cQ];exact h.lk x hx kx
 .rw[(all x).1]at kx;rw[(all x).2.1,(all x).2.2.1];exact h.al x hx kx
 .rw[(all x).1]at k2;rw[cQ];exact h.dr x hx k2
 .rw[(all x).1]at k2;by_cases kk:(F.nd k).kind=2
  .have hnE:=(h.en n hn n2 nk).Cp hup (hb kk);by_cases c:x=k
   .subst c;exact Tr.dB.IA (m:=41) ⟨hk, .inr (by rw[hupk kk];exact hnE)⟩
   .obtain⟨m',h'⟩:=Tr.dB.kU hup hk (hupk kk) hnE (h.en x hx k2 c);exact h'.IA
  .have c:x≠k:=λe=>by rw[e]at k2;exact kk k2
   refine(h.en x hx k2 c).congr (λy=>?_);by_cases d:y=k
   .subst d;rw[gk,aI kk]
   .exact hup y d
 .rw[(all x).1]at k2;have c:x≠k:=λe=>by subst e;rw[hupk k2]at hu2;exact nk hu2
  rw[hup x c]at hu2;obtain⟨t,h1,h2⟩:=h.ro x hx k2 c hu2;exact⟨t,by rw[gtr];exact h1,by rw[grt];exact h2⟩
theorem Tr.Ok.forget(h:Tr.Ok F)(hn:n<40)(n2:(F.nd n).kind=2)(hi:i<(F.nd n).size):Tr.JS (F.put n (Tr.eX (F.nd n) i)) ((F.nd n).db i):=by
 obtain⟨G,hG⟩:=nJ (F.put n (Tr.eX (F.nd n) i));obtain⟨k,hk⟩:=nJ ((F.nd n).db i);rw[hG,hk];have gn:G.nd n=Tr.eX (F.nd n) i:=by rw[<-hG,Tr.bG]
 have go:∀x,x≠n->G.nd x=F.nd x:=λx c=>by rw[<-hG,Tr.bO _ _ _ _ c]
 have all:∀x,(G.nd x).kind=(F.nd x).kind/\(G.nd x).cW=(F.nd x).cW/\(G.nd x).held=(F.nd x).held/\(G.nd x).tree=(F.nd x).tree/\(G.nd x).up=(F.nd x).up:=λx=>by
  by_cases c:x=n
  .subst c;rw[gn];exact⟨rfl,rfl,rfl,rfl,rfl⟩
  .rw[go x c];exact⟨rfl,rfl,rfl,rfl,rfl⟩
 have cQ:∀x,Tr.cQ G x+fN k x=Tr.cQ F x:=λx=>by
  have a:=Tr.Ae F n (Tr.eX (F.nd n) i) x hn;have b:=Tr.NF (x:=F.nd n) (i:=i) x n2 hi;rw[hG]at a;rw[hk]at b;omega
 have was:∀x j,(F.nd x).kind=2->j<(G.nd x).size->∃q,q<(F.nd x).size/\(G.nd x).eN j=(F.nd x).eN q/\(G.nd x).db j=(F.nd x).db q:=λx j _ hj=>by
  by_cases c:x=n
  .subst c;rw[gn]at hj|-;rw[Tr.rI]at hj;obtain⟨q,h1,_,h3,h4⟩:=Tr.N7 hi hj;exact⟨q,h1,h3,h4⟩
  .rw[go x c]at hj|-;exact⟨j,hj,rfl,rfl⟩
 have gtr:G.trees=F.trees:=by rw[<-hG];rfl
 have grt:∀t,G.root t=F.root t:=λt=>by rw[<-hG];rfl
 refine⟨by rw[gtr];exact h.tr,λx hx=>by rw[(all x).1];exact h.kd x hx,λx hx k2=>?_,λx hx k1=>?_,λx j hx k2 hj=>?_,λx hx k2=>?_,λx j hx k2 hj=>?_,λt htt=>?_,λx hx kx=>?_,λx hx kx=>?_,λx hx k2=>?_,λx hx k2 _=>?_,λx hx k2 _ hu2=>?_⟩
 .rw[(all x).1]at k2;by_cases c:x=n
  .subst c;rw[gn,Tr.rI];have:=h.sz x hx k2;omega
  .rw[go x c];exact h.sz x hx k2
 .rw[(all x).1]at k1;by_cases c:x=n
  .subst c;rw[n2]at k1;exact aZ k1 bE
  .rw[go x c];exact h.fz x hx k1
 .rw[(all x).1]at k2;obtain⟨q,h1,h2,_⟩:=was x j k2 hj;rw[h2];exact h.nb x q hx k2 h1
 .rw[(all x).1]at k2;by_cases c:x=n
  .subst c;rw[gn];exact(h.dp x hx k2).eX hi
  .rw[go x c];exact h.dp x hx k2
 .rw[(all x).1]at k2;obtain⟨q,h1,_,h3⟩:=was x j k2 hj;rw[h3,(all _).1,(all _).2.2.2.1,(all x).2.2.2.1,(all _).2.2.2.2];exact h.ki x q hx k2 h1
 .rw[gtr]at htt;rw[grt,(all _).1,(all _).2.2.2.1,(all _).2.2.2.2];exact h.rt t htt
 .rw[(all x).1]at kx;rw[(all x).2.1,cQ];exact h.lk x hx kx
 .rw[(all x).1]at kx;rw[(all x).2.1,(all x).2.2.1];exact h.al x hx kx
 .rw[(all x).1]at k2;rw[cQ];exact h.dr x hx k2
 .rw[(all x).1]at k2;exact(h.en x hx k2).congr (λy=>(all y).2.2.2.2)
 .rw[(all x).1]at k2;rw[(all x).2.2.2.2]at hu2;obtain⟨t,h1,h2⟩:=h.ro x hx k2 hu2;grind
theorem Tr.yE{F G:Fo}{o:Nat}(h:∀x,(G.nd x).up=(F.nd x).up):∀m x,Tr.gQ G o m x=Tr.gQ F o m x
 |0,_=>rfl
 |m+1,x=>by
  show(x==o||(!((G.nd x).up==x)&&Tr.gQ G o m (G.nd x).up))=(x==o||(!((F.nd x).up==x)&&Tr.gQ F o m (F.nd x).up));rw[h x,Tr.yE h m]
theorem Tr.Ok.Uc(h:Tr.Ok F){o:bU}(hm:Tr.Hz F z s y o E G):Tr.Ok G:=by
 obtain⟨K,e,hf,⟨_,_,rfl⟩|⟨rfl,hm⟩⟩:=hm
 .exact h
 rcases hm with⟨_,_,rfl⟩|⟨ey,hm⟩
 .exact h
 rcases hm with⟨_,_,rfl⟩|⟨et,hm⟩
 .exact h
 rcases hm with⟨_,_,rfl⟩|⟨hb,i,hpl,e2,hr,hm⟩
 .exact h
 rcases hm with⟨_,_,rfl⟩|⟨rfl,_,rfl⟩
 .exact h
 obtain⟨n,i',rfl,n40,n2,hp,hK⟩:=hf.ok;obtain⟨t,rfl,t40,_,t2⟩:=Tr.fB ey;rw[hU]at hb hpl hr et|-;rw[hU]at hr et|-;have ii:i=i':=by have:=hpl.unique hp;omega
 subst ii;have hi:=hp.lt;have hx:=h.forget n40 n2 hi;rw[<-hK]at hx;obtain⟨k40,kk0,ktr,_⟩:=h.ki n i n40 n2 hi;rw[<-hK]at k40 kk0 ktr;have al:∀x,((F.put n (Tr.eX (F.nd n) i)).nd x).kind=(F.nd x).kind/\((F.put n (Tr.eX (F.nd n) i)).nd x).tree=(F.nd x).tree/\((F.put n (Tr.eX (F.nd n) i)).nd x).up=(F.nd x).up:=λx=>by
  by_cases c:x=n
  .subst c;rw[Tr.bG];exact⟨rfl,rfl,rfl⟩
  .rw[Tr.bO _ _ _ _ c];exact⟨rfl,rfl,rfl⟩
 have tk:t≠K:=λc=>by subst c;rw[Tr.rC]at hb;exact aZ hb bE
 obtain⟨hnm,h8⟩:=hr.ok;refine hx.lead t40 k40 tk (by rw[(al t).1];exact t2) (by rw[(al K).1];exact kk0) ?_ hnm ?_ (by rw[(al K).2.1,(al t).2.1,ktr,et]) (λ_=>by rw[Tr.yE (λx=>(al x).2.2)];exact hb)
 .have:=hx.sz t t40 (by rw[(al t).1];exact t2);omega
 .rcases hr with⟨_,q⟩|⟨_,⟨_,_,q⟩|⟨q,_⟩⟩
  .exact aZ q bE
  .omega
  .exact q
theorem Tr.Ok.T0(h:Tr.Ok F)(hm:Tr.Cj F y z s E G):Tr.Ok G:=by
 rcases hm with⟨_,_,rfl⟩|⟨ey,e,hw,hm⟩
 .exact h
 rcases hm with⟨_,_,rfl⟩|⟨rfl,hm⟩
 .exact h
 rcases hm with⟨_,_,rfl⟩|⟨et,_,rfl⟩
 .exact h
 obtain⟨k,rfl,k40,_,k1⟩:=Tr.fB ey;obtain⟨n,rfl,n40,n2,hnm,hp,h8⟩:=hw.ok;rw[hU,hU]at et|-;unfold Tr.Au;obtain⟨F',hF'⟩:∃F',F.put k {F.nd k with cW:=(F.nd k).cW+1}=F':=⟨_,rfl⟩;rw[hF'];have nk:n≠k:=λe=>by rw[e,k1]at n2;exact aZ n2 bE
 have gk:F'.nd k={F.nd k with cW:=(F.nd k).cW+1}:=by rw[<-hF',Tr.bG]
 have go:∀x,x≠k->F'.nd x=F.nd x:=λx c=>by rw[<-hF',Tr.bO _ _ _ _ c]
 have al:∀x,(F'.nd x).kind=(F.nd x).kind/\(F'.nd x).size=(F.nd x).size/\(F'.nd x).eN=(F.nd x).eN/\(F'.nd x).db=(F.nd x).db/\(F'.nd x).tree=(F.nd x).tree/\(F'.nd x).up=(F.nd x).up/\(F'.nd x).held=(F.nd x).held:=λx=>by
  grind
 have hl:∀x,(F'.nd x).cW=(F.nd x).cW+fN k x:=λx=>by
  by_cases c:x=k
  .subst c;rw[gk,iQ]
  .rw[go x c,mE (bQ c)];rfl
 have cQ:∀x,Tr.cQ F' x=Tr.cQ F x:=λx=>by
  rw[<-hF'];exact Tr.jD F k _ x k40 rfl
 have hx:Tr.JS F' k:=by
  refine⟨by rw[<-hF'];exact h.tr,λx hx=>by rw[(al x).1];exact h.kd x hx,λx hx k2=>?_,λx hx k1=>?_,λx j hx k2 hj=>?_,λx hx k2=>?_,λx j hx k2 hj=>?_,λt htt=>?_,λx hx kx=>?_,λx hx kx=>?_,λx hx k2=>?_,λx hx k2 _=>?_,λx hx k2 _ hu2=>?_⟩
  .rw[(al x).1]at k2;rw[(al x).2.1];exact h.sz x hx k2
  .rw[(al x).1]at k1;rw[(al x).2.1];exact h.fz x hx k1
  .rw[(al x).1]at k2;rw[(al x).2.1]at hj;rw[(al x).2.2.1];exact h.nb x j hx k2 hj
  .rw[(al x).1]at k2;unfold Tr.Nodup;rw[(al x).2.1,(al x).2.2.1];exact h.dp x hx k2
  .rw[(al x).1]at k2;rw[(al x).2.1]at hj;rw[(al x).2.2.2.1,(al _).1,(al _).2.2.2.2.1,(al x).2.2.2.2.1,(al _).2.2.2.2.2.1];exact h.ki x j hx k2 hj
  .have a:=h.rt t (by rw[<-hF']at htt;exact htt);have e:F'.root t=F.root t:=by rw[<-hF'];rfl
   rw[e,(al _).1,(al _).2.2.2.2.1,(al _).2.2.2.2.2.1];exact a
  .rw[(al x).1]at kx;rw[hl,cQ,h.lk x hx kx]
  .rw[(al x).1]at kx;rw[hl,(al x).2.2.2.2.2.2];have:=h.al x hx kx;omega
  .rw[(al x).1]at k2;rw[cQ,mE (λe=>by rw[<-e,k1]at k2;exact aZ k2 bE),Nat.add_zero];exact h.dr x hx k2
  .rw[(al x).1]at k2;exact(h.en x hx k2).congr (λy=>(al y).2.2.2.2.2.1)
  .rw[(al x).1]at k2;rw[(al x).2.2.2.2.2.1]at hu2;obtain⟨t,h1,h2⟩:=h.ro x hx k2 hu2;exact⟨t,by rw[<-hF'];exact h1,by rw[<-hF'];exact h2⟩
 have n8:=h.sz n n40 n2;refine hx.lead n40 k40 nk (by rw[(al n).1];exact n2) (by rw[(al k).1,k1];decide) (by rw[(al n).2.1];omega) hnm (by rw[go n nk];exact hp) (by rw[(al k).2.2.2.2.1,(al n).2.2.2.2.1];exact et) (λk2=>by rw[(al k).1,k1]at k2;exact aZ k2 bE)
theorem Tr.Ok.GD{F G:Fo}(h:Tr.Ok F){k:Nat}(k0:(F.nd k).kind=0)(hu:∀x,x≠k->(G.nd x).up=(F.nd x).up):∀m x,x<40->(F.nd x).kind=2->Tr.gQ G k m x=bA
 |0,x,_,k2=>by
  show(x==k)=bA;grind
 |m+1,x,hx,k2=>by
  have c:x≠k:=λe=>by rw[e,k0]at k2;exact aZ k2 bE
  show(x==k||(!((G.nd x).up==x)&&Tr.gQ G k m (G.nd x).up))=bA;rw[show(x==k)=bA from by simpa using c,hu x c];by_cases d:(F.nd x).up=x
  .rw[d];simp
  .rcases Tr.Qz h.ki k2 (by rw[h.dr x hx k2];exact aL _)with⟨t,ht,e⟩|⟨i,h1,h2,_,_⟩
   .have:=(h.rt t ht).2.2.1;rw[e]at this;exact aZ this d
   .rw[Tr.Ok.GD h k0 hu m _ h1 h2];simp
theorem Tr.Ok.T7(h:Tr.Ok F){kz:Int}(hm:Tr.tf F z s kz K E G):Tr.Ok G:=by
 rcases hm with⟨_,_,_,_,rfl⟩|⟨hkz,e,hw,hm⟩
 .exact h
 rcases hm with⟨_,_,_,rfl⟩|⟨rfl,k,e2,hf,hm⟩
 .exact h
 rcases hm with⟨_,_,_,rfl⟩|⟨rfl,_,_,rfl⟩
 .exact h
 obtain⟨n,rfl,n40,n2,hnm,hp,h8⟩:=hw.ok;obtain⟨kd,hkd,hkd2⟩:∃kd:Nat,kz.toNat=kd/\(kd=1\/kd=2):=⟨kz.toNat,rfl,bB⟩;rw[hU,hkd];obtain⟨k40,k0⟩:k<40/\(F.nd k).kind=0:=by
  rcases hf with⟨_,h1,h2,_⟩|⟨h1,_⟩
  .exact⟨h1,h2⟩
  .omega
 unfold Tr.jQ;obtain⟨F',hF'⟩:∃F',F.put k (fq kd (F.nd n).tree 0)=F':=⟨_,rfl⟩;rw[hF'];have nk:n≠k:=λe=>by rw[e,k0]at n2;exact aZ n2 bE
 have gk:F'.nd k=fq kd (F.nd n).tree 0:=by rw[<-hF',Tr.bG]
 have go:∀x,x≠k->F'.nd x=F.nd x:=λx c=>by rw[<-hF',Tr.bO _ _ _ _ c]
 have cQ:∀x,Tr.cQ F' x=Tr.cQ F x:=λx=>by
  rw[<-hF'];refine Tr.jD F k _ x k40 ?_;rw[Tr.Ac (x:=F.nd k) x (by rw[k0];decide)];unfold Tr.gW;split<;>rfl
 have hc0:=h.none k0;have kne:∀x i,x<40->(F.nd x).kind=2->i<(F.nd x).size->(F.nd x).db i≠k:=(λx i hx k2 hi=>(Tr.uO hc0).1 x i hx k2 hi);have rne:∀t,t<F.trees->F.root t≠k:=(Tr.uO hc0).2;have sz0:(F'.nd k).size=0:=by rw[gk];rfl
 have hx:Tr.JS F' k:=by
  refine⟨by rw[<-hF'];exact h.tr,λx hx=>?_,λx hx k2=>?_,λx hx k1=>?_,λx j hx k2 hj=>?_,λx hx k2=>?_,λx j hx k2 hj=>?_,λt htt=>?_,λx hx kx=>?_,λx hx kx=>?_,λx hx k2=>?_,λx hx k2 c=>?_,λx hx k2 c hu2=>?_⟩
  .by_cases c:x=k
   .subst c;rw[gk];show kd<=2;omega
   .rw[go x c];exact h.kd x hx
  .by_cases c:x=k
   .grind
   .rw[go x c]at k2|-;exact h.sz x hx k2
  .by_cases c:x=k
   .subst c;rw[sz0];exact aC _
   .rw[go x c]at k1|-;exact h.fz x hx k1
  .by_cases c:x=k
   .subst c;rw[sz0]at hj;omega
   .rw[go x c]at k2 hj|-;exact h.nb x j hx k2 hj
  .by_cases c:x=k
   .subst c;intro a b _ hb;rw[sz0]at hb;omega
   .rw[go x c]at k2|-;exact h.dp x hx k2
  .by_cases c:x=k
   .subst c;rw[sz0]at hj;omega
   .rw[go x c]at k2 hj|-;rw[go _ (kne x j hx k2 hj)];exact h.ki x j hx k2 hj
  .have htt':t<F.trees:=by rw[<-hF']at htt;exact htt
   have e:F'.root t=F.root t:=by rw[<-hF'];rfl
   rw[e,go _ (rne t htt')];exact h.rt t htt'
  .by_cases c:x=k
   .subst c;rw[gk,cQ,hc0,iQ];rfl
   .rw[go x c]at kx|-;rw[cQ,mE (bQ c)];exact h.lk x hx kx
  .by_cases c:x=k
   .subst c;rw[gk];show 1<=1+0;omega
   .rw[go x c]at kx|-;exact h.al x hx kx
  .by_cases c:x=k
   .subst c;rw[cQ,hc0,iQ]
   .rw[go x c]at k2;rw[cQ,mE (bQ c)];exact h.dr x hx k2
  .rw[go x c]at k2;exact(h.en x hx k2).Cp (k:=k) (λy d=>by rw[go y d]) (h.GD k0 (λ_ _=>rfl) 40 x hx k2)
  .rw[go x c]at k2 hu2;obtain⟨t,h1,h2⟩:=h.ro x hx k2 hu2;exact⟨t,by rw[<-hF'];exact h1,by rw[<-hF'];exact h2⟩
 have n8:=h.sz n n40 n2;refine hx.lead n40 k40 nk (by rw[go n nk];exact n2) (by rw[gk];show kd≠0;omega) (by rw[go n nk];omega) hnm (by rw[go n nk];exact hp) (by rw[gk,go n nk];rfl) (λ_=>h.GD k0 (λy d=>by rw[go y d]) 40 n n40 n2)
theorem Tr.Ok.dK{F:Fo}(h:Tr.Ok F)(z:Int):Tr.Ok (Tr.dK F z):=by
 unfold Tr.dK;split
 .rename_i c;obtain⟨n,rfl,n40,_⟩:=Tr.gZ c;exact h.put n _ n40 rfl rfl rfl rfl (λ_=>⟨rfl,rfl,rfl⟩) (λk1=>h.fz n n40 k1) (λk0=>by show 1<=(F.nd n).cW+((F.nd n).held+1);omega)
 .exact h
theorem Tr.erase(hk:k<40)(tr:F.trees<=4)(kd:∀n,n<40->(F.nd n).kind<=2)(sz:Tr.lr F)(fz:Tr.uC F)
  (nb:∀n i,n<40->(F.nd n).kind=2->i<(F.nd n).size->Tr.gd ((F.nd n).eN i)=bw)
  (dp:∀n,n<40->(F.nd n).kind=2->Tr.Nodup (F.nd n))
  (ki:∀n i,n<40->(F.nd n).kind=2->i<(F.nd n).size->(F.nd n).db i<40/\(F.nd ((F.nd n).db i)).kind≠0/\(F.nd ((F.nd n).db i)).tree=(F.nd n).tree/\((F.nd ((F.nd n).db i)).kind=2->(F.nd ((F.nd n).db i)).up=n))
  (rt:∀t,t<F.trees->F.root t<40/\(F.nd (F.root t)).kind=2/\(F.nd (F.root t)).up=F.root t/\(F.nd (F.root t)).tree=t)
  (lk:∀n,n<40->(F.nd n).kind≠0->n≠k->(F.nd n).cW=Tr.cQ F n)
  (al:∀n,n<40->(F.nd n).kind≠0->n≠k->1<=(F.nd n).cW+(F.nd n).held)
  (dr:∀n,n<40->(F.nd n).kind=2->n≠k->Tr.cQ F n=1)
  (en:∀n,n<40->(F.nd n).kind=2->n≠k->Tr.dB F 40 n)
  (ro:∀n,n<40->(F.nd n).kind=2->n≠k->(F.nd n).up=n->∃t,t<F.trees/\F.root t=n)
  (c0:Tr.cQ F k=0) (z0:(F.nd k).kind=2->(F.nd k).size=0):Tr.Ok (F.put k Nd.no):=by
 obtain⟨G,hG⟩:=nJ (F.put k Nd.no);rw[hG];have gk:G.nd k=Nd.no:=by rw[<-hG,Tr.bG]
 have gk0:(G.nd k).kind=0:=by rw[gk];rfl
 have go:∀x,x≠k->G.nd x=F.nd x:=λx c=>by rw[<-hG,Tr.bO _ _ _ _ c]
 have cQ:∀x,Tr.cQ G x=Tr.cQ F x:=λx=>by
  rw[<-hG];refine Tr.jD F k _ x hk ?_;rw[Tr.Ac (x:=Nd.no) x bE];unfold Tr.gW;split
  .rename_i c;rw[z0 c];rfl
  .rfl
 obtain⟨kne,rne⟩:=Tr.uO c0;have n2:∀{x},(G.nd x).kind=2->x≠k:=λ{x} k2 c=>by subst c;rw[gk0]at k2;exact aZ k2 bE
 have n0:∀{x},(G.nd x).kind≠0->x≠k:=λ{x} kx c=>by subst c;exact kx gk0
 refine⟨by rw[<-hG];exact tr,λx hx=>?_,λx hx k2=>?_,λx hx k1=>?_,λx j hx k2 hj=>?_,λx hx k2=>?_,λx j hx k2 hj=>?_,λt htt=>?_,λx hx kx=>?_,λx hx kx=>?_,λx hx k2=>?_,λx hx k2=>?_,λx hx k2 hu2=>?_⟩
 .by_cases c:x=k
  .subst c;rw[gk0];exact aC _
  .rw[go x c];exact kd x hx
 .have c:=n2 k2;rw[go x c]at k2|-;exact sz x hx k2
 .have c:x≠k:=λe=>by subst e;rw[gk0]at k1;exact aZ k1 bE
  rw[go x c]at k1|-;exact fz x hx k1
 .have c:=n2 k2;rw[go x c]at k2 hj|-;exact nb x j hx k2 hj
 .have c:=n2 k2;rw[go x c]at k2|-;exact dp x hx k2
 .grind
 .have htt':t<F.trees:=by rw[<-hG]at htt;exact htt
  have e:G.root t=F.root t:=by rw[<-hG];rfl
  rw[e,go _ (rne t htt')];exact rt t htt'
 .have c:=n0 kx;rw[go x c]at kx|-;rw[cQ];exact lk x hx kx c
 .have c:=n0 kx;rw[go x c]at kx|-;exact al x hx kx c
 .have c:=n2 k2;rw[go x c]at k2;rw[cQ];exact dr x hx k2 c
 .have c:=n2 k2;rw[go x c]at k2;refine Tr.dB.on (F:=F) (G:=G) (λy=>y<40/\(F.nd y).kind=2/\y≠k) (λy hy=>?_) ⟨hx,k2,c⟩ (en x hx k2 c);refine⟨by rw[go y hy.2.2],?_⟩;rcases Tr.Qz ki hy.2.1 (by rw[dr y hy.1 hy.2.1 hy.2.2];exact aL _)with⟨t,ht,e⟩|⟨i,h1,h2,h3,_⟩
  .have:=(rt t ht).2.2.1;rw[e]at this;rw[this];exact hy
  .refine⟨h1,h2,λe=>?_⟩;rw[e]at h2 h3;rw[z0 h2]at h3;omega
 .have c:=n2 k2;rw[go x c]at k2 hu2;obtain⟨t,h1,h2⟩:=ro x hx k2 c hu2;exact⟨t,by rw[<-hG];exact h1,by rw[<-hG];exact h2⟩
theorem Tr.Ok.dC{F:Fo}(h:Tr.Ok F)(z:Int):Tr.Ok (Tr.dC F z):=by
 unfold Tr.dC;split
 .rename_i c;have c1:Tr.cH F z=0:=by
   rcases Classical.em (Tr.cH F z=0)with d|d
   .exact d
   .unfold Tr.letE at c;rw[aI d]at c;exact c
  obtain⟨n,rfl,n40,k0⟩:=Tr.gZ c1;unfold Tr.letE at c;rw[aJ c1,hU]at c;unfold Tr.mM;rw[Tr.bG];split
  .rename_i d;have d1:(F.nd n).cW=0:=d.1;rw[Tr.gN];have c0:Tr.cQ F n=0:=by rw[<-h.lk n n40 k0];exact d1
   refine Tr.erase n40 h.tr h.kd h.sz h.fz h.nb h.dp h.ki h.rt (λx hx kx _=>h.lk x hx kx) (λx hx kx _=>h.al x hx kx) (λx hx k2 _=>h.dr x hx k2) (λx hx k2 _=>h.en x hx k2) (λx hx k2 _ u=>h.ro x hx k2 u) c0 (λk2=>?_);have:=h.dr n n40 k2;omega
  .rename_i d;refine h.put n _ n40 rfl rfl rfl rfl (λ_=>⟨rfl,rfl,rfl⟩) (λk1=>h.fz n n40 k1) (λ_=>?_);grind
 .exact h
theorem Tr.Ok.rem(h:Tr.Ok F)(hm:Tr.yy F z s E G):Tr.Ok G:=by
 obtain⟨k,e,hf,⟨_,_,rfl⟩|⟨rfl,hm⟩⟩:=hm
 .exact h
 rcases hm with⟨_,_,_,rfl⟩|⟨nbz,_,i,hpl,rfl⟩
 .exact h
 obtain⟨n,i',rfl,n40,n2,hp,hK⟩:=hf.ok;rw[hU]at hpl|-;have ii:i=i':=by have:=hpl.unique hp;omega
 subst ii;have hi:=hp.lt;have hx:=h.forget n40 n2 hi;rw[<-hK]at hx;obtain⟨k40,kk0,_,_⟩:=h.ki n i n40 n2 hi;rw[<-hK]at k40 kk0;have nk:k≠n:=λe=>nbz ⟨by rw[e];exact n2, .inl (by rw[e];omega)⟩;unfold Tr.xK;obtain⟨F1,hF1⟩:=nJ (F.put n (Tr.eX (F.nd n) i));rw[hF1]at hx|-;have gk:F1.nd k=F.nd k:=by rw[<-hF1,Tr.bO _ _ _ _ nk]
 have hl:=hx.lk k k40 (by rw[gk];exact kk0);rw[iQ,gk]at hl;have one:∀x,x≠k->fN k x=0:=λx c=>mE (bQ c);unfold Tr.mM;rw[Tr.bG];split
 .rename_i d;have d1:(F.nd k).cW-1=0:=d.1;rw[Tr.gN];refine Tr.erase k40 hx.tr hx.kd hx.sz hx.fz hx.nb hx.dp hx.ki hx.rt (λx hxx kx c=>by have:=hx.lk x hxx kx;rw[one x c]at this;exact this) (λx hxx kx _=>hx.al x hxx kx) (λx hxx k2 c=>by have:=hx.dr x hxx k2;rw[one x c]at this;exact this) hx.en hx.ro bB (λk2=>?_);grind
 .rename_i d;have d':¬((F.nd k).cW-1=0/\(F1.nd k).held=0):=d;rw[gk]at d';have k1:(F.nd k).kind≠2:=λk2=>by
   have b:=hx.dr k k40 (by rw[gk];exact k2);rw[iQ]at b;rcases Nat.eq_zero_or_pos (F.nd k).held with q|q
   .exact d' ⟨by omega,q⟩
   .exact nbz ⟨k2, .inr q⟩
  obtain⟨G,hG⟩:=nJ (F1.put k {F1.nd k with cW:=(F.nd k).cW-1});rw[hG];have go:∀x,x≠k->G.nd x=F1.nd x:=λx c=>by rw[<-hG,Tr.bO _ _ _ _ c]
  have al:∀x,(G.nd x).kind=(F1.nd x).kind/\(G.nd x).size=(F1.nd x).size/\(G.nd x).eN=(F1.nd x).eN/\(G.nd x).db=(F1.nd x).db/\(G.nd x).tree=(F1.nd x).tree/\(G.nd x).up=(F1.nd x).up/\(G.nd x).held=(F1.nd x).held:=λx=>by
   by_cases c:x=k
   .subst c;rw[<-hG,Tr.bG];exact⟨rfl,rfl,rfl,rfl,rfl,rfl,rfl⟩
   .rw[go x c];exact⟨rfl,rfl,rfl,rfl,rfl,rfl,rfl⟩
  have gkl:(G.nd k).cW=(F.nd k).cW-1:=by rw[<-hG,Tr.bG]
  have cQ:∀x,Tr.cQ G x=Tr.cQ F1 x:=λx=>by
   rw[<-hG];exact Tr.jD F1 k _ x k40 rfl
  refine⟨by rw[<-hG];exact hx.tr,λx hxx=>by rw[(al x).1];exact hx.kd x hxx,λx hxx k2=>?_,λx hxx k1=>?_,λx j hxx k2 hj=>?_,λx hxx k2=>?_,λx j hxx k2 hj=>?_,λt htt=>?_,λx hxx kx=>?_,λx hxx kx=>?_,λx hxx k2=>?_,λx hxx k2=>?_,λx hxx k2 hu2=>?_⟩
  .rw[(al x).1]at k2;rw[(al x).2.1];exact hx.sz x hxx k2
  .rw[(al x).1]at k1;rw[(al x).2.1];exact hx.fz x hxx k1
  .rw[(al x).1]at k2;rw[(al x).2.1]at hj;rw[(al x).2.2.1];exact hx.nb x j hxx k2 hj
  .rw[(al x).1]at k2;unfold Tr.Nodup;rw[(al x).2.1,(al x).2.2.1];exact hx.dp x hxx k2
  .rw[(al x).1]at k2;rw[(al x).2.1]at hj;rw[(al x).2.2.2.1,(al _).1,(al _).2.2.2.2.1,(al x).2.2.2.2.1,(al _).2.2.2.2.2.1];exact hx.ki x j hxx k2 hj
  .have a:=hx.rt t (by rw[<-hG]at htt;exact htt);have e:G.root t=F1.root t:=by rw[<-hG];rfl
   rw[e,(al _).1,(al _).2.2.2.2.1,(al _).2.2.2.2.2.1];exact a
  .rw[(al x).1]at kx;rw[cQ];by_cases c:x=k
   .subst c;rw[gkl];omega
   .rw[go x c];have:=hx.lk x hxx kx;rw[one x c]at this;exact this
  .rw[(al x).1]at kx;by_cases c:x=k
   .subst c;rw[gkl,(al x).2.2.2.2.2.2,gk];omega
   .rw[go x c];exact hx.al x hxx kx
  .rw[(al x).1]at k2;rw[cQ];have c:x≠k:=λe=>by rw[e,gk]at k2;exact k1 k2
   have:=hx.dr x hxx k2;rw[one x c]at this;exact this
  .rw[(al x).1]at k2;have c:x≠k:=λe=>by rw[e,gk]at k2;exact k1 k2
   exact(hx.en x hxx k2 c).congr (λy=>(al y).2.2.2.2.2.1)
  .rw[(al x).1]at k2;rw[(al x).2.2.2.2.2.1]at hu2;have c:x≠k:=λe=>by rw[e,gk]at k2;exact k1 k2
   obtain⟨t,h1,h2⟩:=hx.ro x hxx k2 c hu2;exact⟨t,by rw[<-hG];exact h1,by rw[<-hG];exact h2⟩
theorem Tr.Ok.Qj(h:Tr.Ok F){T:Nat}(hm:Tr.ry F T E G):Tr.Ok G:=by
 rcases hm with⟨_,_,_,rfl⟩|⟨t4,n,e,hf,hm⟩
 .exact h
 rcases hm with⟨_,_,_,rfl⟩|⟨rfl,_,_,rfl⟩
 .exact h
 obtain⟨n40,k0⟩:n<40/\(F.nd n).kind=0:=by
  rcases hf with⟨_,h1,h2,_⟩|⟨h1,_⟩
  .exact⟨h1,h2⟩
  .omega
 obtain⟨G,hG⟩:=nJ (Tr.AE F n);rw[hG];have gk:G.nd n=fq 2 F.trees n:=by rw[<-hG];exact Tr.bG F n _
 have go:∀x,x≠n->G.nd x=F.nd x:=λx c=>by rw[<-hG];exact Tr.bO F n _ x c
 have gtr:G.trees=F.trees+1:=by rw[<-hG];rfl
 have gro:∀t,t<F.trees->G.root t=F.root t:=λt ht=>by rw[<-hG];exact vG _ _ _ _ bB
 have grn:G.root F.trees=n:=by rw[<-hG];exact rh _ _ _
 have hc0:=h.none k0;obtain⟨kne,rne⟩:=Tr.uO hc0;have cQ:∀x,Tr.cQ G x=Tr.cQ F x+fN n x:=λx=>by
  have a:Tr.cQ (F.put n (fq 2 F.trees n)) x=Tr.cQ F x:=by
   refine Tr.jD F n _ x n40 ?_;rw[Tr.Ac (x:=F.nd n) x (by rw[k0];decide)];rfl
  have b:Tr.pV G x=Tr.pV F x+fN n x:=by
   unfold Tr.pV;rw[gtr];show gv (λt=>fN (G.root t) x) F.trees+fN (G.root F.trees) x=_;rw[grn,oC (λt ht=>by rw[gro t ht])]
  have c:gv (λm=>Tr.gW (G.nd m) x) 40=gv (λm=>Tr.gW ((F.put n (fq 2 F.trees n)).nd m) x) 40:=by rw[<-hG];rfl
  have d:Tr.pV (F.put n (fq 2 F.trees n)) x=Tr.pV F x:=rfl;unfold Tr.cQ at a|-;omega
 have sz0:(G.nd n).size=0:=by rw[gk];rfl
 have h4:=h.tr;refine⟨by rw[gtr];omega,λx hx=>?_,λx hx k2=>?_,λx hx k1=>?_,λx j hx k2 hj=>?_,λx hx k2=>?_,λx j hx k2 hj=>?_,λt htt=>?_,λx hx kx=>?_,λx hx kx=>?_,λx hx k2=>?_,λx hx k2=>?_,λx hx k2 hu2=>?_⟩
 .by_cases c:x=n
  .subst c;rw[gk];exact aL _
  .rw[go x c];exact h.kd x hx
 .by_cases c:x=n
  .subst c;rw[sz0];exact aC _
  .rw[go x c]at k2|-;exact h.sz x hx k2
 .by_cases c:x=n
  .subst c;rw[sz0];exact aC _
  .rw[go x c]at k1|-;exact h.fz x hx k1
 .by_cases c:x=n
  .subst c;rw[sz0]at hj;omega
  .rw[go x c]at k2 hj|-;exact h.nb x j hx k2 hj
 .by_cases c:x=n
  .subst c;intro a b _ hb;rw[sz0]at hb;omega
  .rw[go x c]at k2|-;exact h.dp x hx k2
 .by_cases c:x=n
  .subst c;rw[sz0]at hj;omega
  .rw[go x c]at k2 hj|-;rw[go _ (kne x j hx k2 hj)];exact h.ki x j hx k2 hj
 .rw[gtr]at htt;by_cases c:t=F.trees
  .subst c;rw[grn,gk];exact⟨n40,rfl,rfl,rfl⟩
  .rw[gro t bB,go _ (rne t bB)];exact h.rt t bB
 .by_cases c:x=n
  .subst c;rw[gk,cQ,hc0,iQ];rfl
  .rw[go x c]at kx|-;rw[cQ,mE (bQ c)];exact h.lk x hx kx
 .by_cases c:x=n
  .subst c;rw[gk];show 1<=1+0;omega
  .rw[go x c]at kx|-;exact h.al x hx kx
 .by_cases c:x=n
  .subst c;rw[cQ,hc0,iQ]
  .rw[go x c]at k2;rw[cQ,mE (bQ c)];exact h.dr x hx k2
 .by_cases c:x=n
  .subst c;exact Tr.dB.IA (m:=0) ⟨n40,by rw[gk];rfl⟩
  .rw[go x c]at k2;exact(h.en x hx k2).Cp (k:=n) (λy d=>by rw[go y d]) (h.GD k0 (λ_ _=>rfl) 40 x hx k2)
 .by_cases c:x=n
  .exact⟨F.trees,by rw[gtr];omega,by rw[grn,c]⟩
  .rw[go x c]at k2 hu2;obtain⟨t,h1,h2⟩:=h.ro x hx k2 hu2;grind

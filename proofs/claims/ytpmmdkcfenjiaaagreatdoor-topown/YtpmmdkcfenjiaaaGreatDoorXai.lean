import Derived.Shelf.Small.Bits
import Derived.Shelf.Strconv.Clone
import Derived.Shelf.Sort.Plain
import Derived.Shelf.Slices.In.SortNone
import Derived.Lib.LazyBuf
import Derived.Test.YtpmmdkcfenjiaaaGreatDoorXah
set_option maxRecDepth 100000
set_option maxHeartbeats 4000000
set_option linter.unusedVariables false
set_option linter.unusedSimpArgs false
namespace Go.Proofs
open Go.Shelf
def Tryz.Dt:Go.Shelf.Ren:=⟨λ|316=>302|n=>n,λ|9=>9|3=>3|4=>4|37=>316|0=>0|127=>248|5=>5|n=>n,λ|n=>n⟩
theorem Tryz.NR:Go.Proofs.LaysM.n316 Tryz.prog Tryz.Dt:={
 mixed:=by kernel_rfl
 f316:=Tryz.func302.trans (congrArg some (by kernel_rfl))
 t0:=Tryz.underlying0
 a0:=Tryz.isAgg0
 z0:=Tryz.sizeOf0
 v0:=Tryz.zeroValue0
 t3:=Tryz.underlying3
 a3:=Tryz.isAgg3
 z3:=Tryz.sizeOf3
 v3:=Tryz.zeroValue3
 t4:=Tryz.underlying4
 a4:=Tryz.isAgg4
 z4:=Tryz.sizeOf4
 v4:=Tryz.zeroValue4
 t9:=Tryz.underlying9
 a9:=Tryz.isAgg9
 z9:=Tryz.sizeOf9
 v9:=Tryz.zeroValue9
 t37:=Tryz.underlying316
 a37:=Tryz.isAgg316
 z37:=Tryz.sizeOf316
 v37:=Tryz.zeroValue316
 t127:=Tryz.underlying248
 a127:=Tryz.isAgg248
 z127:=Tryz.sizeOf248
 v127:=Tryz.zeroValue248
 t5:=Tryz.underlying5
 a5:=Tryz.isAgg5
 z5:=Tryz.sizeOf5
 v5:=Tryz.zeroValue5
 i0:=by kernel_rfl
 i3:=by kernel_rfl
 i4:=by kernel_rfl
 i5:=by kernel_rfl
 i9:=by kernel_rfl
 i37:=by kernel_rfl
 i127:=by kernel_rfl}
open Go.RowKit in
theorem Tryz.stringslite_Clone(s:ByteArray)(w:World)(hlim:s.size<=281474976710656):
 Calls Tryz.prog 302 #[.string s] w λe w'=>e= .returned (.string s)/\Below w.heap.size w w':=Any.stringslite_Clone Tryz.NR s w hlim
def Tryz.Fm:Go.Shelf.Ren:=⟨λ|190=>265|125=>288|258=>287|128=>315|129=>316|302=>306|303=>307|304=>308|305=>309|306=>310|307=>311|308=>312|309=>313|310=>314|333=>326|329=>327|330=>328|334=>329|335=>330|336=>331|344=>336|n=>n,λ|31=>152|9=>9|3=>3|46=>327|0=>0|51=>341|53=>27|4=>4|183=>335|182=>334|131=>137|5=>5|218=>345|222=>108|228=>353|229=>354|n=>n,λ|n=>n⟩
theorem Tryz.Gv:Go.Proofs.Lays.n190 Tryz.prog Tryz.Fm:={
 mixed:=by kernel_rfl
 f125:=Tryz.func288.trans (congrArg some (by kernel_rfl))
 f128:=Tryz.func315.trans (congrArg some (by kernel_rfl))
 f129:=Tryz.func316.trans (congrArg some (by kernel_rfl))
 f190:=Tryz.func265.trans (congrArg some (by kernel_rfl))
 f258:=Tryz.func287.trans (congrArg some (by kernel_rfl))
 f302:=Tryz.func306.trans (congrArg some (by kernel_rfl))
 f303:=Tryz.func307.trans (congrArg some (by kernel_rfl))
 f304:=Tryz.func308.trans (congrArg some (by kernel_rfl))
 f305:=Tryz.func309.trans (congrArg some (by kernel_rfl))
 f306:=Tryz.func310.trans (congrArg some (by kernel_rfl))
 f307:=Tryz.func311.trans (congrArg some (by kernel_rfl))
 f308:=Tryz.func312.trans (congrArg some (by kernel_rfl))
 f309:=Tryz.func313.trans (congrArg some (by kernel_rfl))
 f310:=Tryz.func314.trans (congrArg some (by kernel_rfl))
 f329:=Tryz.func327.trans (congrArg some (by kernel_rfl))
 f330:=Tryz.func328.trans (congrArg some (by kernel_rfl))
 f333:=Tryz.func326.trans (congrArg some (by kernel_rfl))
 f334:=Tryz.func329.trans (congrArg some (by kernel_rfl))
 f335:=Tryz.func330.trans (congrArg some (by kernel_rfl))
 f336:=Tryz.func331.trans (congrArg some (by kernel_rfl))
 f344:=Tryz.func336.trans (congrArg some (by kernel_rfl))
 t0:=Tryz.underlying0
 a0:=Tryz.isAgg0
 z0:=Tryz.sizeOf0
 v0:=Tryz.zeroValue0
 t3:=Tryz.underlying3
 a3:=Tryz.isAgg3
 z3:=Tryz.sizeOf3
 v3:=Tryz.zeroValue3
 t4:=Tryz.underlying4
 a4:=Tryz.isAgg4
 z4:=Tryz.sizeOf4
 v4:=Tryz.zeroValue4
 t5:=Tryz.underlying5
 a5:=Tryz.isAgg5
 z5:=Tryz.sizeOf5
 v5:=Tryz.zeroValue5
 t9:=Tryz.underlying9
 a9:=Tryz.isAgg9
 z9:=Tryz.sizeOf9
 v9:=Tryz.zeroValue9
 t31:=Tryz.underlying152
 a31:=Tryz.isAgg152
 z31:=Tryz.sizeOf152
 v31:=Tryz.zeroValue152
 t46:=Tryz.underlying327
 a46:=Tryz.isAgg327
 z46:=Tryz.sizeOf327
 v46:=Tryz.zeroValue327
 t51:=Tryz.underlying341
 a51:=Tryz.isAgg341
 z51:=Tryz.sizeOf341
 v51:=Tryz.zeroValue341
 t53:=Tryz.underlying27
 a53:=Tryz.isAgg27
 z53:=Tryz.sizeOf27
 v53:=Tryz.zeroValue27
 t131:=Tryz.underlying137
 a131:=Tryz.isAgg137
 z131:=Tryz.sizeOf137
 v131:=Tryz.zeroValue137
 t182:=Tryz.underlying334
 a182:=Tryz.isAgg334
 z182:=Tryz.sizeOf334
 v182:=Tryz.zeroValue334
 t183:=Tryz.underlying335
 a183:=Tryz.isAgg335
 z183:=Tryz.sizeOf335
 v183:=Tryz.zeroValue335
 t218:=Tryz.underlying345
 a218:=Tryz.isAgg345
 z218:=Tryz.sizeOf345
 v218:=Tryz.zeroValue345
 t222:=Tryz.underlying108
 a222:=Tryz.isAgg108
 z222:=Tryz.sizeOf108
 v222:=Tryz.zeroValue108
 t228:=Tryz.underlying353
 a228:=Tryz.isAgg353
 z228:=Tryz.sizeOf353
 v228:=Tryz.zeroValue353
 t229:=Tryz.underlying354
 a229:=Tryz.isAgg354
 z229:=Tryz.sizeOf354
 v229:=Tryz.zeroValue354}
open Go.Sort Go.RowKit in
theorem Tryz.slices_Sort_string(dk off cap:Nat)(ss:List (List UInt8))(w:World)(hH:Holds encStr w dk off ss.toArray)(hblk:dk<w.heap.size)(hsz:ss.length<4611686018427387904):
 Calls Tryz.prog 265 #[.slice (some ⟨dk,off,none⟩) ss.length cap] w λe w'=>
  e= .returned (.tuple #[])/\∃n os,w'=grow (putRow encStr (Sort.ahead w n) dk off (ss.mergeSort λx y=>decide (x<=y)).toArray) os:=Any.slices_Sort_string Tryz.Gv dk off cap ss w hH hblk hsz
open Go.RowKit Go.Sort in
theorem Tryz.slices_Sort_string_none(p:Option Addr)(cap:Nat)(w:World):
 Calls Tryz.prog 265 #[.slice p 0 cap] w λe w'=>e= .returned (.tuple #[])/\w'=w:=Any.slices_Sort_string_none Tryz.Gv p cap w
end Go.Proofs
namespace Go.Proofs.YtpmmdkcfenjiaaaGreatDoor
open Value renaming int->aa,pointer->ai,slice->aj,string->ak,tuple->ao,iface->aq,agg->au
open IntKind renaming i64->bf,u8->bh
open Ending renaming returned->bw
open Obj renaming cells->bA
open Option renaming some->bB,none->bC
open Bool renaming true->bE,false->bF
open Tryz (prog)
open Go.RowKit
open Tr (Fo Nd)
variable {A:Array Value}{F G:Fo}{E y z:Int}{b c i j k m n:Nat}{x:Nd}{v:Value}{w w1:bD}{s:bU}
theorem zd(s:bU)(w:bD)(hs:s.size<=1000000):Calls prog 279 #[ak s] w λe w'=>e=bw (ak s)/\Below w.heap.size w w':=by
 have HC:=hJ (Tryz.stringslite_Clone s w bG);go_in
 go_wp2_with fail
 refine sC HC.v ?_;rintro w1 b1;have B1:=hJ b1;go_wp2
 go_ret
 exact⟨rfl,B1.v⟩
def Tr.jd(x:Nd)(s:bU)(k:Nat):Nd:={x with eN:=iB x.eN x.size s,db:=iB x.db x.size k,size:=x.size+1}
def Tr.kY(F:Fo)(n:Nat)(s:bU)(k:Nat):Fo:=
 if((F.put n (Tr.jd (F.nd n) s k)).nd k).kind=2 then(F.put n (Tr.jd (F.nd n) s k)).put k {(F.put n (Tr.jd (F.nd n) s k)).nd k with up:=n}else F.put n (Tr.jd (F.nd n) s k)
theorem cv.rm(h:cv w b F)(n i k:Nat)(s:bU)(hn:n<40)(hi:i<8):cv ((w.setCell ⟨b,n*62+6+i*2,bC⟩ (ak s)).setCell ⟨b,n*62+6+i*2+1,bC⟩ (aa bf (k:Int))) b (F.put n {F.nd n with eN:=iB (F.nd n).eN i s,db:=iB (F.nd n).db i k}):=by
 have a:=(h.TJ n i s hn hi).TG n i k hn hi;rw[Tr.bR]at a;refine a.congr (λo _=>?_);unfold jQ;by_cases c:o<2480
 .rw[aJ c,aJ c];by_cases d:o/62=n
  .rw[d,Tr.bR,Tr.bR]
  .rw[Tr.cr _ _ _ _ d,Tr.cr _ _ _ _ d,Tr.cr _ _ _ _ d]
 .rw[aI c,aI c];rfl
theorem Tr.gO(F:Fo)(n:Nat)(x y:Nd):(F.put n x).put n y=F.put n y:=by unfold Fo.put;grind
theorem rH(b n k:Nat)(s:bU)(F:Fo)(w:bD)(h:cv w b F)(hn:n<40)(hk:k<40)(hz:(F.nd n).size<8)(hs:s.size<=1000000):
  Calls prog 257 #[ai (bB ⟨b,0,bC⟩),aa bf (n:Int),ak s,aa bf (k:Int)] w λe w'=>e=bw (ao #[])/\cv w' b (Tr.kY F n s k)/\bO b w w':=by
 have HF:=hJ h;have nI:(n:Int)<40:=bG
 have kI:(k:Int)<40:=bG
 obtain⟨sz,hsz⟩:=hU ((F.nd n).size);have HSZ:=hJ hsz;rw[hsz]at hz;have szI:(sz:Int)<8:=bG
 have hw:IntKind.i64.wrap ((sz:Int)+1)=(sz:Int)+1:=aN _ ⟨by omega,bG⟩;go_in
 go_wp2
 go_quiet (fail)
 generalize hW:World.drewN w _=W1;have S1:Hid (cv W1 b F/\bO b w W1):=hJ (by rw[<-hW];exact⟨HF.drewN _,(bO.refl b w).drewN _⟩);have K0:Hid (W1.cell? ⟨b,n*62+3,bC⟩=bB (aa bf (sz:Int))):=hJ (by rw[<-HSZ.v];exact S1.1.nM n hn);have KS:Hid (∀W,cv W b F->((W.setCell ⟨b,n*62+6+sz*2,bC⟩ (ak s)).setCell ⟨b,n*62+6+sz*2+1,bC⟩ (aa bf (k:Int))).cell? ⟨b,n*62+3,bC⟩=bB (aa bf (sz:Int))):=hJ (λW hW=>by
  have:=(hW.rm n sz k s hn hz).nM n hn;rw[Tr.bR]at this;rw[this,<-HSZ.v])
 have c0:∀W,cv W b F->(∃v,W.cell? ⟨b,n*62+6+sz*2,bC⟩=bB (ak v))/\(∃v:Nat,W.cell? ⟨b,n*62+6+sz*2+1,bC⟩=bB (aa bf (v:Int))):=λW hW=>⟨⟨_,hW.wZ n sz hn hz⟩,⟨_,hW.uy n sz hn hz⟩⟩;have HC0:=hJ c0;go_wp2
 go_region_held3 (λw'=>w'.cell? ⟨b,n*62+3,bC⟩=bB (aa bf (sz:Int))) (first|exact K0.v|exact K2.v|exact KS.v _ H2.1|go_keep) ((go_at_call 279;refine sC (zd s _ hs) ?_;rintro w2 b2;have H2:Hid (cv w2 b F/\bO b w w2):=hJ ⟨S1.1.drew.below b2,S1.2.drew.trans (bO.cO b2)⟩;have K2:Hid (w2.cell? ⟨b,n*62+3,bC⟩=bB (aa bf (sz:Int))):=hJ (by rw[<-HSZ.v];exact H2.1.nM n hn);obtain⟨⟨v1,q1⟩,⟨v2,q2⟩⟩:=HC0.v w2 H2.1;have qf:=H2.1.frozen))
 generalize hW3:(w2.setCell ⟨b,n*62+6+sz*2,bC⟩ (ak s)).setCell ⟨b,n*62+6+sz*2+1,bC⟩ (aa bf (k:Int))=W3;have S3:Hid (cv W3 b (F.put n {F.nd n with eN:=iB (F.nd n).eN sz s,db:=iB (F.nd n).db sz k})/\bO b w W3):=hJ (by
  rw[<-hW3];exact⟨H2.1.rm n sz k s hn hz,(H2.2.setCell _ _).setCell _ _⟩)
 have c3:W3.cell? ⟨b,n*62+3,bC⟩=bB (aa bf (sz:Int)):=by
  have:=S3.1.nM n hn;rw[Tr.bR]at this;rw[this,<-HSZ.v]
 have cf3:=S3.1.frozen;have S4:Hid (cv (W3.setCell ⟨b,n*62+3,bC⟩ (aa bf ((sz:Int)+1))) b (F.put n (Tr.jd (F.nd n) s k))/\bO b w (W3.setCell ⟨b,n*62+3,bC⟩ (aa bf ((sz:Int)+1)))):=hJ (by
  have a:=S3.1.Av n (sz+1) hn;rw[Tr.bR,Tr.gO]at a;have e:Tr.jd (F.nd n) s k={F.nd n with eN:=iB (F.nd n).eN sz s,db:=iB (F.nd n).db sz k,size:=sz+1}:=by unfold Tr.jd;rw[HSZ.v]
  rw[e];exact⟨a,S3.2.setCell _ _⟩)
 go_upto_region 3 with fail
 refine cR (λW=>cv W b (F.put n (Tr.jd (F.nd n) s k))/\bO b w W) S4.v ?_;intro W4 h4;have S5:=hJ h4;obtain⟨F2,hF2⟩:=hU (F.put n (Tr.jd (F.nd n) s k));have HL:Hid (Tr.kY F n s k=if(F2.nd k).kind=2 then F2.put k {F2.nd k with up:=n}else F2):=hJ (by unfold Tr.kY;rw[hF2]);rw[hF2]at S5;have c5:=S5.1.sZ k hk;have cu:=S5.1.UP k hk;have cf:=S5.1.frozen;by_cases k2:(F2.nd k).kind=2
 .have FIN:Hid (cv (W4.setCell ⟨b,k*62+5,bC⟩ (aa bf (n:Int))) b (Tr.kY F n s k)/\bO b w (W4.setCell ⟨b,k*62+5,bC⟩ (aa bf (n:Int)))):=hJ (by
   rw[HL.v,aJ k2];exact⟨S5.1.Us k n hk,S5.2.setCell _ _⟩)
  rw[k2]at c5;have c5':W4.cell? ⟨b,k*62,bC⟩=bB (aa .i64 2):=c5;generalize (F2.nd k).up=uu at*;go_wp2
  go_end0
  exact⟨rfl,FIN.v⟩
 .have FIN:Hid (cv W4 b (Tr.kY F n s k)):=hJ (by rw[HL.v,aI k2];exact S5.1);have k2':(((F2.nd k).kind:Int)==2)=bF:=by simp;omega
  generalize (F2.nd k).kind=kk at*;go_wp2
  go_end0
  exact⟨rfl,FIN.v,S5.2⟩
section
variable {ops:Array Oper}{rest:List Oper}{x:Oper}{a:Act}{w:bD}{Q:Exit->Act->bD->Prop}
def fq(kd tr up:Nat):Nd:={Nd.no with kind:=kd,cW:=1,tree:=tr,up:=up}
theorem xV(hgd:x.guard=bC)(y0 y1 y2:Operand)(kd tr up:Nat)(ho:x.op= .build 204 #[(0,y0),(1,y1),(2,y2)])(h0:a.eval y0=au #[aa bf (kd:Int),aa bf 1,aa bf 0,aa bf 0])(h1:a.eval y1=aa bf (tr:Int))(h2:a.eval y2=aa bf (up:Int))(h:wpList prog ops Q rest (a.put x.dst (au (dA (fq kd tr up)))) w):wpList prog ops Q (x::rest) a w:=
 wpList_plain hgd λ_ hK=>by
  unfold Oper.wp execOp;simp only[ho,List.map_toArray,List.map_cons,List.map_nil,h0,h1,h2];simp[go_sem];exact hK _ _ h
end
def Tr.Ao(F:Fo)(n:Nat):Fo:={F.put n (fq 2 F.trees n)with root:=iB F.root F.trees n,trees:=F.trees+1}
def Tr.qY(F:Fo)(T:Nat)(E:Int)(G:Fo):Prop:=(F.trees=4/\T=0/\E=4/\G=F)\/(F.trees≠4/\∃n e,Tr.gJ F n e/\((e≠0/\T=0/\E=e/\G=F)\/(e=0/\T=F.trees/\E=0/\G=Tr.Ao F n)))
theorem zk(b:Nat)(F:Fo)(w:bD)(h:cv w b F)(ht:F.trees<=4):
  Calls prog 89 #[ai (bB ⟨b,0,bC⟩)] w λe w'=>∃(T:Nat) (E:Int) (G:Fo),e=bw (ao #[aa bf (T:Int),bS E])/\Tr.qY F T E G/\cv w' b G/\bO b w w':=by
 have HF:=hJ h;have c0:=h.CK;by_cases t4:F.trees=4
 .have FIN:Hid (Tr.qY F 0 4 F):=hJ (.inl ⟨t4,rfl,rfl,rfl⟩);rw[t4]at c0;have c0':w.cell? ⟨b,2484,bC⟩=bB (aa .i64 4):=c0;go_in
  go_wp2
  go_ret2
  exact⟨0,4,F,rfl,FIN.v,HF.v,bO.refl _ _⟩
 .have HT4:=hJ t4;obtain⟨tt,htt⟩:=hU (F.trees);have HTT:=hJ htt;rw[htt]at c0;have tI:(tt:Int)<4:=bG
  have t4':((tt:Int)==4)=bF:=by simp;omega
  have hw:IntKind.i64.wrap ((tt:Int)+1)=(tt:Int)+1:=aN _ ⟨by omega,bG⟩;have tN:tt<4:=bG
  go_in
  go_wp2_with fail
  refine(vt b F _ HF.v).mono ?_;rintro e w1 ⟨n,E,rfl,hf,hw1⟩;subst w1;have HFR:=hJ hf;by_cases e0:E=0
  .subst e0;have n40:n<40:=by
    rcases hf with⟨_,h1,_⟩|⟨h1,_⟩
    .exact h1
    .omega
   have nI:(n:Int)<40:=bG
   have TH:=hJ (HF.there n n40 (fq 2 tt n));have HS:=hJ (px (fq 2 tt n));have H1:=hJ (pA (fq 2 tt n));have S1:Hid (cv (w.setCells b (n*62) (dA (fq 2 tt n)).toList) b (F.put n (fq 2 tt n))/\bO b w (w.setCells b (n*62) (dA (fq 2 tt n)).toList)):=hJ ⟨HF.setNode n n40 _,bO.setCells _ _ (bO.refl b w)⟩;obtain⟨A,hA⟩:=hU (dA (fq 2 tt n));rw[hA]at TH HS H1 S1;rw[bN];go_upto_region 8 with(first|(refine xV rfl _ _ _ 2 tt n rfl rfl rfl rfl ?_;rw[hA])|(refine wpList_store_mid rfl 204 _ _ rfl b (n*62) A rfl rfl TH.v HS.v H1.v ?_))
   refine cR (λW=>cv W b (F.put n (fq 2 tt n))/\bO b w W) S1.v ?_;intro W2 h2;have S2:=hJ h2;have c2:=h2.1.CK;have c3:=h2.1.Pd tt tN;have cf:=h2.1.frozen;rw[show(F.put n (fq 2 tt n)).trees=tt from HTT.v]at c2;generalize (F.put n (fq 2 tt n)).root tt=rr at*;have S3:Hid (cv ((W2.setCell ⟨b,2480+tt,bC⟩ (aa bf (n:Int))).setCell ⟨b,2484,bC⟩ (aa bf ((tt:Int)+1))) b (Tr.Ao F n)/\bO b w ((W2.setCell ⟨b,2480+tt,bC⟩ (aa bf (n:Int))).setCell ⟨b,2484,bC⟩ (aa bf ((tt:Int)+1)))):=hJ (by
    have a:=(h2.1.Rv tt n tN).OL (tt+1);refine⟨?_,(h2.2.setCell _ _).setCell _ _⟩;unfold Tr.Ao;rw[HTT.v];exact a)
   go_wp2
   go_ret2
   exact⟨tt,0,_,rfl, .inr ⟨HT4.v,n,0,HFR.v, .inr ⟨rfl,HTT.symm,rfl,rfl⟩⟩,S3.v⟩
  .have E2:Hid (bS E=aq 100 (aa bf E)/\E≠0):=hJ ⟨bP e0,e0⟩;rw[E2.1];go_wp2
   go_ret2
   exact⟨0,E,F,by rw[E2.1];rfl, .inr ⟨HT4.v,n,E,HFR.v, .inl ⟨E2.2,rfl,rfl,rfl⟩⟩,HF.v,bO.refl _ _⟩
def fA(F:Fo):Array Value:=((List.range 2485).map (jQ F)).toArray
theorem Uc(F:Fo)(i:Nat)(h:i<2485):(fA F)[i]? =bB (jQ F i):=by simp[fA,h]
theorem Uf:Tryz.zeroCells208=fA Tr.f0:=by kernel_rfl
theorem OW(w:bD):Calls prog 87 #[] w λe w'=>e=bw (ai (bB ⟨w.heap.size,0,bC⟩))/\cv w' w.heap.size Tr.f0/\Below w.heap.size w w':=by
 have FIN:Hid (cv (w.alloc (bA Tryz.zeroCells208 208)) w.heap.size Tr.f0):=hJ (by
  have h:=heap_alloc_new w (bA Tryz.zeroCells208 208);have h2:(w.alloc (bA Tryz.zeroCells208 208)).heap[w.heap.size]? =bB (bA (fA Tr.f0) 208 (0,0)):=by rw[<-Uf];exact h
  exact⟨⟨_,h2,by simp[fA]⟩,λo ho=>by rw[cA h2,Uc _ o ho]⟩)
 go_in
 go_wp2
 go_ret
 exact⟨rfl,FIN.v,(aQ _ _).alloc (aL _) _⟩
theorem Tr.oS.ok(h:Tr.oS F z s 0):∃n:Nat,z=n/\n<40/\(F.nd n).kind=2/\Tr.gq s=bE/\Tr.fL (F.nd n) s (-1)/\(F.nd n).size≠8:=by
 rcases h with⟨h1,h2⟩|⟨h1,h2⟩
 .omega
 .obtain⟨n,rfl,h3,_,h5⟩:=Tr.fE h1;rcases h2 with⟨_,h6⟩|⟨h6,⟨_,_,h7⟩|⟨h7,⟨_,h8⟩|⟨h8,_⟩⟩⟩
  .omega
  .omega
  .omega
  .exact⟨n,rfl,h3,h5,h6,h7,h8⟩
theorem Tr.pW(h:Tr.gq s=bE):s.size<=8:=by grind [Tr.gq]
def Tr.jV(F:Fo)(n:Nat)(s:bU)(kd k:Nat):Fo:=Tr.kY (F.put k (fq kd (F.nd n).tree 0)) n s k
def Tr.sQ(F:Fo)(z:Int)(s:bU)(kz:Int)(K:Nat)(E:Int)(G:Fo):Prop:=
 (kz≠1/\kz≠2/\K=0/\E=1/\G=F)\/((kz=1\/kz=2)/\∃e,Tr.oS F z s e/\((e≠0/\K=0/\E=e/\G=F)\/(e=0/\∃k e2,Tr.gJ F k e2/\((e2≠0/\K=0/\E=e2/\G=F)\/(e2=0/\K=k/\E=0/\G=Tr.jV F z.toNat s kz.toNat k)))))
theorem JF(kd tr:Nat)(w:bD):(Instr.build 204 #[(0,au #[aa bf (kd:Int),aa bf 1,aa bf 0,aa bf 0]),(1,aa bf (tr:Int))]).run prog w= .ok (au (dA (fq kd tr 0))) w:=by
 simp[go_sem];rfl
theorem rF{ops:Array Oper}{rest:List Oper}{x:Oper}{a:Act}{Q:Act->Prop}(hgd:x.guard=bC)(y0 y1:Operand)(kd tr:Nat)(ho:x.op= .build 204 #[(0,y0),(1,y1)])(h0:a.eval y0=au #[aa bf (kd:Int),aa bf 1,aa bf 0,aa bf 0])(h1:a.eval y1=aa bf (tr:Int))
  (h:wpStill prog ops w Q rest (a.put x.dst (au (dA (fq kd tr 0))))):wpStill prog ops w Q (x::rest) a:=by
 refine wpStill_step (λK hK=>?_);have hw:Region.wanted x (yielded ops a.tmps)=bE:=by simp[Region.wanted,hgd]
 rw[aJ hw];have hb:=JF kd tr w;unfold Oper.still execOp;simp only[ho,List.map_toArray,List.map_cons,List.map_nil,h0,h1,Sem.run_bind,hb,Result.andThen_ok,Sem.run_pure,Oper.stillUpon_value];exact hK _ h
theorem OV(b:Nat)(z:Int)(s:bU)(kz:Int)(F:Fo)(w:bD)(h:cv w b F)(k1:¬kz=1)(k2:¬kz=2):
  Calls prog 242 #[ai (bB ⟨b,0,bC⟩),aa bf z,ak s,aa bf kz] w λe w'=>∃(K:Nat) (E:Int) (G:Fo),e=bw (ao #[aa bf (K:Int),bS E])/\Tr.sQ F z s kz K E G/\cv w' b G/\bO b w w':=by
 have HF:=hJ h;have FIN:Hid (Tr.sQ F z s kz 0 1 F):=hJ (.inl ⟨k1,k2,rfl,rfl,rfl⟩);have d1:(kz==1)=bF:=by simpa using k1
 have d3:(kz !=1)=bE:=by simpa using k1
 have d4:(kz !=2)=bE:=by simpa using k2
 go_in
 go_wp2
 go_ret2
 exact⟨0,1,F,rfl,FIN.v,HF.v,bO.refl _ _⟩
theorem Ry(b:Nat)(z:Int)(s:bU)(F:Fo)(w:bD)(h:cv w b F)(hs:Tr.kV F):
  Calls prog 242 #[ai (bB ⟨b,0,bC⟩),aa bf z,ak s,aa bf 1] w λe w'=>∃(K:Nat) (E:Int) (G:Fo),e=bw (ao #[aa bf (K:Int),bS E])/\Tr.sQ F z s 1 K E G/\cv w' b G/\bO b w w':=by
 have HF:=hJ (aK h hs);go_in
 go_wp2_with fail
 refine(rZ b z s F _ HF.1 HF.2).mono ?_;rintro e w1 ⟨E,rfl,hw1,b1⟩;have S1:Hid (Tr.oS F z s E/\cv w1 b F/\bO b w w1):=hJ ⟨hw1,HF.1.below b1,bO.cO b1⟩;by_cases e0:E=0
 .subst e0;obtain⟨n,rfl,n40,k2,hnm,_,hsz⟩:=S1.1.ok;have HN:Hid ((F.nd n).kind=2/\s.size<=8/\(F.nd n).size<8):=hJ ⟨k2,Tr.pW hnm,by have:=HF.2 n n40 k2;omega⟩;rw[gN,bN];go_wp2_with fail
  refine(vt b F _ S1.2.1).mono ?_;rintro e w2 ⟨k,E,rfl,hf,hw2⟩;subst w2;have HFR:=hJ hf;by_cases f0:E=0
  .subst f0;obtain⟨k40,kk0⟩:k<40/\(F.nd k).kind=0:=by
    rcases hf with⟨_,h1,h2,_⟩|⟨h1,_⟩
    .exact⟨h1,h2⟩
    .omega
   have kI:(k:Int)<40:=bG
   have nk:n≠k:=λe=>by rw[e]at HN;rw[kk0]at HN;exact aZ HN.1 bM
   obtain⟨tr,htr⟩:=hU ((F.nd n).tree);have K0:w1.cell? ⟨b,n*62+4,bC⟩=bB (aa bf (tr:Int)):=by rw[<-htr];exact S1.2.1.s9 n n40
   have K1:w1.drew.cell? ⟨b,n*62+4,bC⟩=bB (aa bf (tr:Int)):=K0;have S3:Hid (cv (w1.drew.setCells b (k*62) (dA (fq 1 tr 0)).toList) b (F.put k (fq 1 tr 0))/\bO b w (w1.drew.setCells b (k*62) (dA (fq 1 tr 0)).toList)):=hJ ⟨S1.2.1.drew.setNode k k40 _,bO.setCells _ _ S1.2.2.drew⟩;have TH:=hJ (S1.2.1.drew.there k k40 (fq 1 tr 0));have HS:=hJ (px (fq 1 tr 0));have H1:=hJ (pA (fq 1 tr 0));have HMK:Hid (Tr.jV F n s 1 k=Tr.kY (F.put k (fq 1 tr 0)) n s k):=hJ (by unfold Tr.jV;rw[htr]);obtain⟨A,hA⟩:=hU (dA (fq 1 tr 0));rw[hA]at S3 TH HS H1;rw[bN];go_upto_region 9 with fail
   refine wp_region_still_tail 12 bH bH ?_;simp only[List.take_succ_cons,List.take_zero,List.drop_succ_cons,List.drop_zero]
   iterate 8 still_step
   refine rF rfl _ _ 1 tr rfl rfl rfl ?_;rw[hA]
   iterate 3 still_step
   refine wpStill_nil ?_;refine wpList_store_mid rfl 204 _ _ rfl b (k*62) A rfl rfl TH.v HS.v H1.v ?_;refine wpList_nil ?_;have S4:=S3;have TN:Hid ((F.put k (fq 1 tr 0)).nd n=F.nd n):=hJ (Tr.cr _ _ _ _ nk);go_wp2_with fail
   refine sC (rH b n k s _ _ S4.1 n40 k40 (by rw[TN.v];exact HN.2.2) (aH HN.2.1 bM)) ?_;rintro W5 ⟨h5,f5⟩;have S5:Hid (cv W5 b (Tr.jV F n s 1 k)/\bO b w W5):=hJ ⟨by rw[HMK.v];exact h5,S4.2.trans f5⟩;go_wp2
   go_ret2
   exact⟨k,0,_,rfl, .inr ⟨by decide,0,S1.1, .inr ⟨rfl,k,0,HFR.v, .inr ⟨rfl,rfl,rfl,rfl⟩⟩⟩,S5.v⟩
  .have E2:Hid (bS E=aq 100 (aa bf E)/\E≠0):=hJ ⟨bP f0,f0⟩;rw[E2.1];go_wp2
   go_ret2
   exact⟨0,E,F,by rw[E2.1];rfl, .inr ⟨by decide,0,S1.1, .inr ⟨rfl,k,E,HFR.v, .inl ⟨E2.2,rfl,rfl,rfl⟩⟩⟩,S1.2⟩
 .have E2:Hid (bS E=aq 100 (aa bf E)/\E≠0):=hJ ⟨bP e0,e0⟩;rw[E2.1];go_wp2
  go_ret2
  exact⟨0,E,F,by rw[E2.1];rfl, .inr ⟨by decide,E,S1.1, .inl ⟨E2.2,rfl,rfl,rfl⟩⟩,S1.2⟩
theorem Rz(b:Nat)(z:Int)(s:bU)(F:Fo)(w:bD)(h:cv w b F)(hs:Tr.kV F):
  Calls prog 242 #[ai (bB ⟨b,0,bC⟩),aa bf z,ak s,aa bf 2] w λe w'=>∃(K:Nat) (E:Int) (G:Fo),e=bw (ao #[aa bf (K:Int),bS E])/\Tr.sQ F z s 2 K E G/\cv w' b G/\bO b w w':=by
 have HF:=hJ (aK h hs);go_in
 go_wp2_with fail
 refine(rZ b z s F _ HF.1 HF.2).mono ?_;rintro e w1 ⟨E,rfl,hw1,b1⟩;have S1:Hid (Tr.oS F z s E/\cv w1 b F/\bO b w w1):=hJ ⟨hw1,HF.1.below b1,bO.cO b1⟩;by_cases e0:E=0
 .subst e0;obtain⟨n,rfl,n40,k2,hnm,_,hsz⟩:=S1.1.ok;have HN:Hid ((F.nd n).kind=2/\s.size<=8/\(F.nd n).size<8):=hJ ⟨k2,Tr.pW hnm,by have:=HF.2 n n40 k2;omega⟩;rw[gN,bN];go_wp2_with fail
  refine(vt b F _ S1.2.1).mono ?_;rintro e w2 ⟨k,E,rfl,hf,hw2⟩;subst w2;have HFR:=hJ hf;by_cases f0:E=0
  .subst f0;obtain⟨k40,kk0⟩:k<40/\(F.nd k).kind=0:=by
    rcases hf with⟨_,h1,h2,_⟩|⟨h1,_⟩
    .exact⟨h1,h2⟩
    .omega
   have kI:(k:Int)<40:=bG
   have nk:n≠k:=λe=>by rw[e]at HN;rw[kk0]at HN;exact aZ HN.1 bM
   obtain⟨tr,htr⟩:=hU ((F.nd n).tree);have K0:w1.cell? ⟨b,n*62+4,bC⟩=bB (aa bf (tr:Int)):=by rw[<-htr];exact S1.2.1.s9 n n40
   have K1:w1.drew.cell? ⟨b,n*62+4,bC⟩=bB (aa bf (tr:Int)):=K0;have S3:Hid (cv (w1.drew.setCells b (k*62) (dA (fq 2 tr 0)).toList) b (F.put k (fq 2 tr 0))/\bO b w (w1.drew.setCells b (k*62) (dA (fq 2 tr 0)).toList)):=hJ ⟨S1.2.1.drew.setNode k k40 _,bO.setCells _ _ S1.2.2.drew⟩;have TH:=hJ (S1.2.1.drew.there k k40 (fq 2 tr 0));have HS:=hJ (px (fq 2 tr 0));have H1:=hJ (pA (fq 2 tr 0));have HMK:Hid (Tr.jV F n s 2 k=Tr.kY (F.put k (fq 2 tr 0)) n s k):=hJ (by unfold Tr.jV;rw[htr]);obtain⟨A,hA⟩:=hU (dA (fq 2 tr 0));rw[hA]at S3 TH HS H1;rw[bN];go_upto_region 9 with fail
   refine wp_region_still_tail 12 bH bH ?_;simp only[List.take_succ_cons,List.take_zero,List.drop_succ_cons,List.drop_zero]
   iterate 8 still_step
   refine rF rfl _ _ 2 tr rfl rfl rfl ?_;rw[hA]
   iterate 3 still_step
   refine wpStill_nil ?_;refine wpList_store_mid rfl 204 _ _ rfl b (k*62) A rfl rfl TH.v HS.v H1.v ?_;refine wpList_nil ?_;have S4:=S3;have TN:Hid ((F.put k (fq 2 tr 0)).nd n=F.nd n):=hJ (Tr.cr _ _ _ _ nk);go_wp2_with fail
   refine sC (rH b n k s _ _ S4.1 n40 k40 (by rw[TN.v];exact HN.2.2) (aH HN.2.1 bM)) ?_;rintro W5 ⟨h5,f5⟩;have S5:Hid (cv W5 b (Tr.jV F n s 2 k)/\bO b w W5):=hJ ⟨by rw[HMK.v];exact h5,S4.2.trans f5⟩;go_wp2
   go_ret2
   exact⟨k,0,_,rfl, .inr ⟨by decide,0,S1.1, .inr ⟨rfl,k,0,HFR.v, .inr ⟨rfl,rfl,rfl,rfl⟩⟩⟩,S5.v⟩
  .have E2:Hid (bS E=aq 100 (aa bf E)/\E≠0):=hJ ⟨bP f0,f0⟩;rw[E2.1];go_wp2
   go_ret2
   exact⟨0,E,F,by rw[E2.1];rfl, .inr ⟨by decide,0,S1.1, .inr ⟨rfl,k,E,HFR.v, .inl ⟨E2.2,rfl,rfl,rfl⟩⟩⟩,S1.2⟩
 .have E2:Hid (bS E=aq 100 (aa bf E)/\E≠0):=hJ ⟨bP e0,e0⟩;rw[E2.1];go_wp2
  go_ret2
  exact⟨0,E,F,by rw[E2.1];rfl, .inr ⟨by decide,E,S1.1, .inl ⟨E2.2,rfl,rfl,rfl⟩⟩,S1.2⟩
theorem LG(b:Nat)(z:Int)(s:bU)(kz:Int)(F:Fo)(w:bD)(h:cv w b F)(hs:Tr.kV F):
 Calls prog 242 #[ai (bB ⟨b,0,bC⟩),aa bf z,ak s,aa bf kz] w λe w'=>∃(K:Nat) (E:Int) (G:Fo),e=bw (ao #[aa bf (K:Int),bS E])/\Tr.sQ F z s kz K E G/\cv w' b G/\bO b w w':=by grind [Ry,Rz,OV]
def Tr.eY(x:Nd)(i:Nat):Nd:={x with eN:=iB (iB x.eN i (x.eN (x.size-1))) (x.size-1) ByteArray.empty,db:=iB (iB x.db i (x.db (x.size-1))) (x.size-1) 0,size:=x.size-1}
theorem rY(b n i:Nat)(s:bU)(F:Fo)(w:bD)(h:cv w b F)(hn:n<40)(hm8:(F.nd n).size<=8)(hp:Tr.fL (F.nd n) s (i:Int)):
  Calls prog 252 #[ai (bB ⟨b,n*62,bC⟩),ak s] w λe w'=>e=bw (ao #[])/\cv w' b (F.put n (Tr.eY (F.nd n) i))/\bO b w w':=by
 have HF:=hJ h;have hi:i<(F.nd n).size:=by
  rcases hp with⟨j,e,h1,_⟩|⟨e,_⟩
  .omega
  .omega
 have HP:=hJ hp;obtain⟨sz,hsz⟩:=hU ((F.nd n).size);obtain⟨l,hl⟩:=hU (sz-1);have HSZ:Hid ((F.nd n).size=sz/\(F.nd n).size-1=l):=hJ ⟨hsz,bG⟩;have hm:Hid ((F.nd n).size<=8):=hJ hm8;rw[hsz]at hi hm8;have iI:(i:Int)<(sz:Int):=bG
 have lI:(l:Int)<(sz:Int):=bG
 have hw:IntKind.i64.wrap ((sz:Int)-1)=(l:Int):=(aN _ ⟨by omega,bG⟩).trans bG;have l8:l<8:=bG
 have i8:i<8:=bG
 obtain⟨sl,hsl⟩:=hU ((F.nd n).eN l);obtain⟨kl,hkl⟩:=hU ((F.nd n).db l);have HL:Hid ((F.nd n).eN l=sl/\(F.nd n).db l=kl):=hJ ⟨hsl,hkl⟩;clear h hp hsz hi hl hm8 hsl hkl;go_in
 go_wp2_with fail
 refine sC (qL b n F _ HF.v hn hm.v) ?_;rintro W1 ⟨k,hW⟩;rw[HSZ.1];have S1:Hid (cv W1 b F/\bO b w W1):=hJ (by rw[hW];exact⟨HF.drewN _,(bO.refl b w).drewN _⟩);clear hW;have K0:Hid (∀W,cv W b F->W.cell? ⟨b,n*62+6+l*2,bC⟩=bB (ak sl)/\W.cell? ⟨b,n*62+6+l*2+1,bC⟩=bB (aa bf (kl:Int))):=hJ (λW hW=>by
  rw[<-HL.1,<-HL.2];exact⟨hW.wZ n l hn l8,hW.uy n l hn l8⟩)
 have KS:Hid (∀W,cv W b F->((W.setCell ⟨b,n*62+6+i*2,bC⟩ (ak sl)).setCell ⟨b,n*62+6+i*2+1,bC⟩ (aa bf (kl:Int))).cell? ⟨b,n*62+6+l*2,bC⟩=bB (ak sl)/\((W.setCell ⟨b,n*62+6+i*2,bC⟩ (ak sl)).setCell ⟨b,n*62+6+i*2+1,bC⟩ (aa bf (kl:Int))).cell? ⟨b,n*62+6+l*2+1,bC⟩=bB (aa bf (kl:Int))):=hJ (λW hW=>by
  have a:=hW.rm n i kl sl hn i8;have c1:=a.wZ n l hn l8;have c2:=a.uy n l hn l8;rw[Tr.bR]at c1 c2;rw[c1,c2];show bB (ak (iB (F.nd n).eN i sl l))=_/\bB (aa bf ((iB (F.nd n).db i kl l:Nat):Int))=_;unfold iB;rw[HL.1,HL.2,ite_self,ite_self];exact⟨rfl,rfl⟩)
 have HC0:Hid (∀W,cv W b F->(∃v,W.cell? ⟨b,n*62+6+i*2,bC⟩=bB (ak v))/\(∃v:Nat,W.cell? ⟨b,n*62+6+i*2+1,bC⟩=bB (aa bf (v:Int)))):=hJ (λW hW=>⟨⟨_,hW.wZ n i hn i8⟩,⟨_,hW.uy n i hn i8⟩⟩);have K1:Hid (W1.cell? ⟨b,n*62+6+l*2,bC⟩=bB (ak sl)/\W1.cell? ⟨b,n*62+6+l*2+1,bC⟩=bB (aa bf (kl:Int))):=hJ (K0.v W1 S1.1);go_wp2_with fail
 go_region_held3 (λw'=>w'.cell? ⟨b,n*62+6+l*2,bC⟩=bB (ak sl)/\w'.cell? ⟨b,n*62+6+l*2+1,bC⟩=bB (aa bf (kl:Int))) (first|exact K1.v|exact K2.v|exact KS.v _ H2.1|go_keep) ((go_at_call 282;refine(tP b n s F _ S1.1.drew hn hm.v).mono ?_;rintro e w2 ⟨y,rfl,hp2,b2⟩;have hy:=hp2.unique HP.v;subst hy;have H2:Hid (cv w2 b F/\bO b w w2):=hJ ⟨S1.1.drew.below b2,S1.2.drew.trans (bO.cO b2)⟩;have K2:Hid (w2.cell? ⟨b,n*62+6+l*2,bC⟩=bB (ak sl)/\w2.cell? ⟨b,n*62+6+l*2+1,bC⟩=bB (aa bf (kl:Int))):=hJ (K0.v w2 H2.1);obtain⟨⟨v1,q1⟩,⟨v2,q2⟩⟩:=HC0.v w2 H2.1;have qf:=H2.1.frozen;clear b2 hp2))
 generalize hW3:(w2.setCell ⟨b,n*62+6+i*2,bC⟩ (ak sl)).setCell ⟨b,n*62+6+i*2+1,bC⟩ (aa bf (kl:Int))=W3;have S3:Hid (cv W3 b (F.put n {F.nd n with eN:=iB (F.nd n).eN i sl,db:=iB (F.nd n).db i kl})/\bO b w W3):=hJ (by
  rw[<-hW3];exact⟨H2.1.rm n i kl sl hn i8,(H2.2.setCell _ _).setCell _ _⟩)
 clear hW3 K0 K1 K2 KS HC0 q1 q2 qf H2 S1;obtain⟨⟨v1,q1⟩,⟨v2,q2⟩⟩:(∃v,W3.cell? ⟨b,n*62+6+l*2,bC⟩=bB (ak v))/\(∃v:Nat,W3.cell? ⟨b,n*62+6+l*2+1,bC⟩=bB (aa bf (v:Int))):=⟨⟨_,S3.1.wZ n l hn l8⟩,⟨_,S3.1.uy n l hn l8⟩⟩;have qf:=S3.1.frozen;have S4:Hid (cv ((W3.setCell ⟨b,n*62+6+l*2,bC⟩ (ak ByteArray.empty)).setCell ⟨b,n*62+6+l*2+1,bC⟩ (aa .i64 0)) b (F.put n {F.nd n with eN:=iB (iB (F.nd n).eN i sl) l ByteArray.empty,db:=iB (iB (F.nd n).db i kl) l 0})/\bO b w ((W3.setCell ⟨b,n*62+6+l*2,bC⟩ (ak ByteArray.empty)).setCell ⟨b,n*62+6+l*2+1,bC⟩ (aa .i64 0))):=hJ (by
  have a:=S3.1.rm n l 0 ByteArray.empty hn l8;rw[Tr.bR,Tr.gO]at a;exact⟨a,(S3.2.setCell _ _).setCell _ _⟩)
 go_upto_region 4 with fail
 refine cR (λW=>cv W b (F.put n {F.nd n with eN:=iB (iB (F.nd n).eN i sl) l ByteArray.empty,db:=iB (iB (F.nd n).db i kl) l 0})/\bO b w W) S4.v ?_;intro W4 h4;have S5:=hJ h4;clear h4 S4 S3 q1 q2 qf;have c3:=S5.1.nM n hn;rw[Tr.bR]at c3;have c3':W4.cell? ⟨b,n*62+3,bC⟩=bB (aa bf (sz:Int)):=by rw[c3];show bB (aa bf (((F.nd n).size:Nat):Int))=_;rw[HSZ.1]
 have cf:=S5.1.frozen;have FIN:Hid (cv (W4.setCell ⟨b,n*62+3,bC⟩ (aa bf (l:Int))) b (F.put n (Tr.eY (F.nd n) i))/\bO b w (W4.setCell ⟨b,n*62+3,bC⟩ (aa bf (l:Int)))):=hJ (by
  have a:=S5.1.Av n l hn;rw[Tr.bR,Tr.gO]at a;unfold Tr.eY;rw[HSZ.2,HL.1,HL.2];exact⟨a,S5.2.setCell _ _⟩)
 clear c3;go_wp2_with fail
 go_end0
 exact⟨rfl,FIN.v⟩
def Tr.Ai(F:Fo)(k n:Nat)(s:bU):Fo:=Tr.kY (F.put k {F.nd k with cW:=(F.nd k).cW+1}) n s k
def Tr.BY(F:Fo)(y z:Int)(s:bU)(E:Int)(G:Fo):Prop:=
 (Tr.cQ F y 1≠0/\E=Tr.cQ F y 1/\G=F)\/(Tr.cQ F y 1=0/\∃e,Tr.oS F z s e/\((e≠0/\E=e/\G=F)\/(e=0/\(((F.nd y.toNat).tree≠(F.nd z.toNat).tree/\E=11/\G=F)\/((F.nd y.toNat).tree=(F.nd z.toNat).tree/\E=0/\G=Tr.Ai F y.toNat z.toNat s)))))
theorem Ly(b:Nat)(y z:Int)(s:bU)(F:Fo)(w:bD)(h:cv w b F)(hs:Tr.kV F)(hL:∀n,n<40->(F.nd n).kind≠0->(F.nd n).cW<2^60):
  Calls prog 209 #[ai (bB ⟨b,0,bC⟩),aa bf y,aa bf z,ak s] w λe w'=>∃(E:Int) (G:Fo),e=bw (bS E)/\Tr.BY F y z s E G/\cv w' b G/\bO b w w':=by
 have HF:=hJ (aK h hs);by_cases c:Tr.cQ F y 1=0
 .obtain⟨k,rfl,k40,kk0,kk1⟩:=Tr.fE c;have EP:Hid (Tr.cQ F (k:Int) 1=0/\fD b (k:Int) 0=ai (bB ⟨b,k*62,bC⟩)):=hJ ⟨c,gN b k⟩;have HK1:=hJ (aK kk1 (hL k k40 kk0));go_in
  go_wp2_with fail
  refine sC (iR b k F _ HF.1) ?_;rintro w0 hw0;subst w0;rw[EP.1,EP.2,bN];go_wp2_with fail
  refine(rZ b z s F _ HF.1 HF.2).mono ?_;rintro e w1 ⟨E,rfl,hw1,b1⟩;have S1:Hid (Tr.oS F z s E/\cv w1 b F/\bO b w w1):=hJ ⟨hw1,HF.1.below b1,bO.cO b1⟩;by_cases e0:E=0
  .subst e0;obtain⟨n,rfl,n40,k2,hnm,_,hsz⟩:=S1.1.ok;have HN:Hid ((F.nd n).kind=2/\s.size<=8/\(F.nd n).size<8):=hJ ⟨k2,Tr.pW hnm,by have:=HF.2 n n40 k2;omega⟩;have nk:n≠k:=λe=>by have:=HK1.1;rw[<-e,k2]at this;exact aZ this bM
   rw[gN,bN];have c1:=S1.2.1.s9 k k40;have c2:=S1.2.1.s9 n n40;by_cases tt:(F.nd k).tree=(F.nd n).tree
   .have HT:=hJ tt;rw[tt]at c1;obtain⟨tr,htr⟩:=hU ((F.nd n).tree);rw[htr]at c1 c2;obtain⟨lk,hlk⟩:=hU ((F.nd k).cW);have c3:=S1.2.1.drew.uz k k40;rw[hlk]at c3;have c4:w1.cell? ⟨b,k*62+1,bC⟩=bB (aa bf (lk:Int)):=c3;have hb:=HK1.2;rw[hlk]at hb;have hw:IntKind.i64.wrap ((lk:Int)+1)=(lk:Int)+1:=aN _ ⟨by omega,bG⟩;have cf:=S1.2.1.frozen;have S3:Hid (∀nq,cv ((w1.drewN nq).setCell ⟨b,k*62+1,bC⟩ (aa bf ((lk:Int)+1))) b (F.put k {F.nd k with cW:=lk+1})/\bO b w ((w1.drewN nq).setCell ⟨b,k*62+1,bC⟩ (aa bf ((lk:Int)+1)))):=hJ (λnq=>⟨(S1.2.1.drewN nq).xJ k (lk+1) k40,(S1.2.2.drewN nq).setCell _ _⟩);have HMK:Hid (Tr.Ai F k n s=Tr.kY (F.put k {F.nd k with cW:=lk+1}) n s k):=hJ (by unfold Tr.Ai;rw[hlk]);have TN:Hid ((F.put k {F.nd k with cW:=lk+1}).nd n=F.nd n):=hJ (Tr.cr _ _ _ _ nk);go_wp2_with fail
    go_quiet (fail)
    go_upto_region 10 with fail
    refine cR (λW=>cv W b (F.put k {F.nd k with cW:=lk+1})/\bO b w W) (S3.v _) ?_;intro W4 h4;have S4:=hJ h4;go_wp2_with fail
    refine sC (rH b n k s _ _ S4.1 n40 k40 (by rw[TN.v];exact HN.2.2) (aH HN.2.1 bM)) ?_;rintro W5 ⟨h5,f5⟩;have S5:Hid (cv W5 b (Tr.Ai F k n s)/\bO b w W5):=hJ ⟨by rw[HMK.v];exact h5,S4.2.trans f5⟩;go_wp2
    go_ret
    exact⟨0,_,rfl, .inr ⟨EP.1,0,S1.1, .inr ⟨rfl, .inr ⟨HT.v,rfl,rfl⟩⟩⟩,S5.v⟩
   .have HT:=hJ tt;generalize (F.nd k).tree=t1 at c1 tt;generalize (F.nd n).tree=t2 at c2 tt;have tI:((t1:Int)==(t2:Int))=bF:=by simp;omega
    have tI2:¬(t1:Int)=(t2:Int):=bG
    go_wp2_with fail
    go_quiet (fail)
    go_wp2
    go_ret
    exact⟨11,F,rfl, .inr ⟨EP.1,0,S1.1, .inr ⟨rfl, .inl ⟨HT.v,rfl,rfl⟩⟩⟩,S1.2.1.drewN _,S1.2.2.drewN _⟩
  .have E2:Hid (bS E=aq 100 (aa bf E)/\E≠0):=hJ ⟨bP e0,e0⟩;rw[E2.1];go_wp2
   go_ret
   exact⟨E,F,by rw[E2.1];rfl, .inr ⟨EP.1,E,S1.1, .inl ⟨E2.2,rfl,rfl⟩⟩,S1.2⟩
 .have E2:Hid (fD b y (Tr.cQ F y 1)=ai bC/\bS (Tr.cQ F y 1)=aq 100 (aa bf (Tr.cQ F y 1))/\Tr.BY F y z s (Tr.cQ F y 1) F):=hJ ⟨ir c,bP c, .inl ⟨c,rfl,rfl⟩⟩;go_in
  go_wp2_with fail
  refine sC (iR b y F _ HF.1) ?_;rintro w1 hw;subst w1;rw[E2.1,E2.2.1];go_wp2
  go_ret
  exact⟨_,F,by rw[E2.2.1];rfl,E2.2.2,HF.1,bO.refl _ _⟩
def Tr.dE(F:Fo):Nat->Nat->Prop
 |0,n=>n<40/\(F.nd n).up=n
 |m+1,n=>n<40/\((F.nd n).up=n\/Tr.dE F m (F.nd n).up)
def Tr.gQ(F:Fo)(o:Nat):Nat->Nat->Bool
 |0,n=>n==o
 |m+1,n=>n==o||(!((F.nd n).up==n)&&Tr.gQ F o m (F.nd n).up)
def Tr.rO(F:Fo):Nat->Nat->Nat
 |0,_=>0
 |m+1,n=>if(F.nd n).up=n then 0 else 1+Tr.rO F m (F.nd n).up
theorem Tr.dE.lt(h:Tr.dE F m n):n<40:=by cases m<;>exact h.1
theorem Tr.dE.more{F:Fo}:∀{m n:Nat},Tr.dE F m n->Tr.dE F (m+1) n/\Tr.rO F (m+1) n=Tr.rO F m n/\∀o,Tr.gQ F o (m+1) n=Tr.gQ F o m n
 |0,n,h=>⟨⟨h.1, .inl h.2⟩,aJ h.2,λo=>by
  show(n==o||(!((F.nd n).up==n)&&_))=(n==o);rw[h.2];simp⟩
 |m+1,n,⟨h1,h2⟩=>by
  by_cases c:(F.nd n).up=n
  .refine⟨⟨h1, .inl c⟩,?_,λo=>?_⟩
   .unfold Tr.rO;rw[aJ c,aJ c]
   .unfold Tr.gQ;simp[c]
  .rcases h2 with h2|h2
   .exact aZ h2 c
   .obtain⟨a1,a2,a3⟩:=Tr.dE.more h2;refine⟨⟨h1, .inr a1⟩,?_,λo=>?_⟩
    .show(if _ then 0 else 1+Tr.rO F (m+1) _)=(if _ then 0 else 1+Tr.rO F m _);rw[a2]
    .show(n==o||(!((F.nd n).up==n)&&Tr.gQ F o (m+1) (F.nd n).up))=(n==o||(!((F.nd n).up==n)&&Tr.gQ F o m (F.nd n).up));rw[a3]
theorem Tr.dE.step(h:Tr.dE F m n)(c:(F.nd n).up≠n):Tr.dE F m (F.nd n).up/\Tr.rO F m (F.nd n).up<Tr.rO F m n/\∀o,n≠o->Tr.gQ F o m n=Tr.gQ F o m (F.nd n).up:=by
 cases m with
 |zero=>exact aZ h.2 c
 |succ m=>
  rcases h.2 with h2|h2
  .exact aZ h2 c
  .obtain⟨a1,a2,a3⟩:=h2.more;refine⟨a1,?_,λo ho=>?_⟩
   .rw[a2];show _<(if _ then 0 else 1+Tr.rO F m _);rw[aI c];omega
   .rw[a3];show(n==o||(!((F.nd n).up==n)&&Tr.gQ F o m (F.nd n).up))=_;rw[show(n==o)=bF from by simpa using ho,show((F.nd n).up==n)=bF from by simpa using c];rfl
theorem Tr.rh(F:Fo)(m n:Nat):Tr.gQ F n m n=bE:=by cases m<;>simp[Tr.gQ]
theorem Tr.JB(m:Nat){o:Nat}(c:(F.nd n).up=n)(h:n≠o):Tr.gQ F o m n=bF:=by cases m<;>simp[Tr.gQ,c,h]
theorem Jf(b n o m:Nat)(F:Fo)(w:bD)(h:cv w b F)(he:Tr.dE F m n):
  Calls prog 255 #[ai (bB ⟨b,0,bC⟩),aa bf (n:Int),aa bf (o:Int)] w λe w'=>e=bw (.bool (Tr.gQ F o m n))/\w'=w:=by
 have HF:=hJ h;have HE:=hJ he;go_in
 go_wp2
 go_loopw [1] (λi wr=>∃(y:Nat),i=aa bf y/\Hid (Tr.dE F m y/\Tr.gQ F o m n=Tr.gQ F o m y)/\wr=w) (λi _=>Tr.rO F m (intOf i).toNat)
 case atStart=>exact⟨n,rfl,hJ ⟨HE.v,rfl⟩,rfl⟩
 case round=>
  obtain⟨y,rfl,R,hwr⟩:=hrel;subst wr;have y40:=R.1.lt;have yI:(y:Int)<40:=bG
  by_cases c:y=o
  .subst c;have FIN:Hid (Tr.gQ F y m n=bE):=hJ (by rw[R.2];exact Tr.rh F m y);go_wp2
   go_ret
   exact⟨by rw[FIN.v];simp,rfl⟩
  .have c1:((y:Int)==(o:Int))=bF:=by simp;omega
   have c2:¬(y:Int)=(o:Int):=bG
   have c3:((y:Int) !=(o:Int))=bE:=by simp;omega
   have c0:=HF.UP y y40;by_cases d:(F.nd y).up=y
   .rw[d]at c0;have FIN:Hid (Tr.gQ F o m n=bF):=hJ (by rw[R.2];exact Tr.JB m d c);go_wp2
    go_ret
    exact⟨by rw[FIN.v];simp,rfl⟩
   .have NX:=hJ (R.1.step d);obtain⟨u,hu⟩:=hU ((F.nd y).up);rw[hu]at c0 NX d;have d2:¬(y:Int)=(u:Int):=bG
    have d3:((y:Int) !=(u:Int))=bE:=by simp;omega
    go_wp2
    go_roundw
    case rel=>exact⟨u,rfl,hJ ⟨NX.1,R.2.trans (NX.2.2 o c)⟩,by first|rfl|trivial⟩
    case measure=>simp[intOf];exact NX.2.1
def Tr.Hc(F:Fo):Prop:=∀n,n<40->(F.nd n).kind=2->∀i,i<(F.nd n).size->(F.nd n).db i<40/\1<=(F.nd ((F.nd n).db i)).cW/\(F.nd ((F.nd n).db i)).cW<2^60
def Tr.xD(F:Fo)(n i k:Nat):Fo:=
 Tr.mj ((F.put n (Tr.eY (F.nd n) i)).put k {(F.put n (Tr.eY (F.nd n) i)).nd k with cW:=(F.nd k).cW-1}) k
def Tr.yo(F:Fo)(z:Int)(s:bU)(E:Int)(G:Fo):Prop:=
 ∃K e,Tr.lf F z s K e/\((e≠0/\E=e/\G=F)\/(e=0/\(((F.nd K).kind=2/\(0<(F.nd K).size\/0<(F.nd K).held)/\E=5/\G=F)\/(¬((F.nd K).kind=2/\(0<(F.nd K).size\/0<(F.nd K).held))/\E=0/\∃i:Nat,Tr.fL (F.nd z.toNat) s (i:Int)/\G=Tr.xD F z.toNat i K))))
theorem Tr.fL.lt(h:Tr.fL x s (i:Int)):i<x.size:=by
 rcases h with⟨j,e,h1,_⟩|⟨e,_⟩
 .omega
 .omega
theorem Tr.lf.ok{K:Nat}(h:Tr.lf F z s K 0):∃n i:Nat,z=n/\n<40/\(F.nd n).kind=2/\Tr.fL (F.nd n) s (i:Int)/\K=(F.nd n).db i:=by
 rcases h with⟨h1,_,h2⟩|⟨h1,h2⟩
 .exact aZ h2.symm h1
 .obtain⟨n,rfl,h3,_,h5⟩:=Tr.fE h1;rw[hZ]at h2;rcases h2 with⟨i,h6,h7,_⟩|⟨_,_,h7⟩
  .exact⟨n,i,rfl,h3,h5,h6,h7⟩
  .exact aZ h7 bM
theorem Tr.Ba(F:Fo)(n i k:Nat):((F.put n (Tr.eY (F.nd n) i)).nd k).cW=(F.nd k).cW:=by
 by_cases c:k=n
 .subst c;rw[Tr.bR];rfl
 .rw[Tr.cr _ _ _ _ c]
theorem FH(b:Nat)(z:Int)(s:bU)(F:Fo)(w:bD)(h:cv w b F)(hs:Tr.kV F)(hK:Tr.Hc F):
  Calls prog 206 #[ai (bB ⟨b,0,bC⟩),aa bf z,ak s] w λe w'=>∃(E:Int) (G:Fo),e=bw (bS E)/\Tr.yo F z s E G/\cv w' b G/\bO b w w':=by
 have HF:=hJ (aK h hs);have HH:=hJ (aK True.intro hK);clear h hs hK;go_in
 go_wp2_with fail
 refine(vr b z s F _ HF.1 HF.2).mono ?_;rintro e w1 ⟨k,E,rfl,hw1,b1⟩;have S1:Hid (Tr.lf F z s k E/\cv w1 b F/\bO b w w1):=hJ ⟨hw1,HF.1.below b1,bO.cO b1⟩;clear hw1 b1;by_cases e0:E=0
 .subst e0;obtain⟨n,i,rfl,n40,k2,hp,hk⟩:=S1.1.ok;have k40:k<40:=by rw[hk];exact(HH.2 n n40 k2 i hp.lt).1
  have l1:1<=(F.nd k).cW:=by rw[hk];exact(HH.2 n n40 k2 i hp.lt).2.1
  have l2:(F.nd k).cW<2^60:=by rw[hk];exact(HH.2 n n40 k2 i hp.lt).2.2
  have HN:Hid ((F.nd n).size<=8/\Tr.fL (F.nd n) s (i:Int)):=hJ ⟨HF.2 n n40 k2,hp⟩;have nI:(n:Int)<40:=bG
  have kI:(k:Int)<40:=bG
  obtain⟨lk,hlk⟩:=hU ((F.nd k).cW);have HLK:=hJ hlk;rw[hlk]at l1 l2;have hw:IntKind.i64.wrap ((lk:Int)-1)=((lk-1:Nat):Int):=(aN _ ⟨by omega,bG⟩).trans bG;rw[bN];clear k2 hp hk hlk l1 l2;have c0:=S1.2.1.sZ k k40;have cs:=S1.2.1.nM k k40;have ch:=S1.2.1.yz k k40;by_cases kk:(F.nd k).kind=2
  .rw[kk]at c0;have c0':w1.cell? ⟨b,k*62,bC⟩=bB (aa .i64 2):=c0;clear c0;by_cases z0:0<(F.nd k).size
   .have FIN:Hid (Tr.yo F (n:Int) s 5 F):=hJ ⟨k,0,S1.1, .inr ⟨rfl, .inl ⟨kk, .inl z0,rfl,rfl⟩⟩⟩;generalize (F.nd k).size=zz at cs z0;have zI:(0:Int)<(zz:Int):=bG
    clear kk ch;go_wp2
    go_ret
    exact⟨5,F,rfl,FIN.v,S1.2⟩
   .by_cases h0:0<(F.nd k).held
    .have FIN:Hid (Tr.yo F (n:Int) s 5 F):=hJ ⟨k,0,S1.1, .inr ⟨rfl, .inl ⟨kk, .inr h0,rfl,rfl⟩⟩⟩;rw[show(F.nd k).size=0 by omega]at cs;have cs':w1.cell? ⟨b,k*62+3,bC⟩=bB (aa .i64 0):=cs;generalize (F.nd k).held=zz at ch h0;have zI:(0:Int)<(zz:Int):=bG
     clear kk cs z0;go_wp2
     go_ret
     exact⟨5,F,rfl,FIN.v,S1.2⟩
    .rw[show(F.nd k).size=0 by omega]at cs;have cs':w1.cell? ⟨b,k*62+3,bC⟩=bB (aa .i64 0):=cs;rw[show(F.nd k).held=0 by omega]at ch;have ch':w1.cell? ⟨b,k*62+2,bC⟩=bB (aa .i64 0):=ch;have NB:Hid (¬((F.nd k).kind=2/\(0<(F.nd k).size\/0<(F.nd k).held))):=hJ bG;clear kk cs ch z0 h0;go_wp2_with fail
     refine sC (rY b n i s F _ S1.2.1 n40 HN.1 HN.2) ?_;rintro w2 ⟨h2,f2⟩;have S2:Hid (cv w2 b (F.put n (Tr.eY (F.nd n) i))/\bO b w w2):=hJ ⟨h2,S1.2.2.trans f2⟩;clear h2 f2 c0' cs' ch';have c5:=S2.1.uz k k40;rw[Tr.Ba,HLK.v]at c5;have cf:=S2.1.frozen;have S3:Hid (cv (w2.setCell ⟨b,k*62+1,bC⟩ (aa bf ((lk-1:Nat):Int))) b ((F.put n (Tr.eY (F.nd n) i)).put k {(F.put n (Tr.eY (F.nd n) i)).nd k with cW:=lk-1})/\bO b w (w2.setCell ⟨b,k*62+1,bC⟩ (aa bf ((lk-1:Nat):Int)))):=hJ ⟨S2.1.xJ k (lk-1) k40,S2.2.setCell _ _⟩;have HLZ:Hid ((F.nd k).cW-1=lk-1):=hJ (by rw[HLK.v]);generalize lk-1=lz at*;go_wp2_with fail
     refine sC (tQ b k _ _ S3.1 k40) ?_;rintro w4 ⟨h4,f4⟩;have S4:Hid (cv w4 b (Tr.xD F n i k)/\bO b w w4):=hJ ⟨by unfold Tr.xD;rw[HLZ.v];exact h4,S3.2.trans f4⟩;clear h4 f4;go_wp2
     go_ret
     exact⟨0,_,rfl,⟨k,0,S1.1, .inr ⟨rfl, .inr ⟨NB.v,rfl,i,by rw[hZ];exact HN.2,by rw[hZ]⟩⟩⟩,S4.v⟩
  .have NB:Hid (¬((F.nd k).kind=2/\(0<(F.nd k).size\/0<(F.nd k).held))):=hJ bG;generalize (F.nd k).kind=kz at c0 kk;have kz1:((kz:Int)==2)=bF:=by simp;omega
   have kz2:¬(kz:Int)=2:=bG
   clear kk cs ch;go_wp2_with fail
   refine sC (rY b n i s F _ S1.2.1 n40 HN.1 HN.2) ?_;rintro w2 ⟨h2,f2⟩;have S2:Hid (cv w2 b (F.put n (Tr.eY (F.nd n) i))/\bO b w w2):=hJ ⟨h2,S1.2.2.trans f2⟩;clear h2 f2 c0 kz1 kz2;have c5:=S2.1.uz k k40;rw[Tr.Ba,HLK.v]at c5;have cf:=S2.1.frozen;have S3:Hid (cv (w2.setCell ⟨b,k*62+1,bC⟩ (aa bf ((lk-1:Nat):Int))) b ((F.put n (Tr.eY (F.nd n) i)).put k {(F.put n (Tr.eY (F.nd n) i)).nd k with cW:=lk-1})/\bO b w (w2.setCell ⟨b,k*62+1,bC⟩ (aa bf ((lk-1:Nat):Int)))):=hJ ⟨S2.1.xJ k (lk-1) k40,S2.2.setCell _ _⟩;have HLZ:Hid ((F.nd k).cW-1=lk-1):=hJ (by rw[HLK.v]);generalize lk-1=lz at*;go_wp2_with fail
   refine sC (tQ b k _ _ S3.1 k40) ?_;rintro w4 ⟨h4,f4⟩;have S4:Hid (cv w4 b (Tr.xD F n i k)/\bO b w w4):=hJ ⟨by unfold Tr.xD;rw[HLZ.v];exact h4,S3.2.trans f4⟩;clear h4 f4;go_wp2
   go_ret
   exact⟨0,_,rfl,⟨k,0,S1.1, .inr ⟨rfl, .inr ⟨NB.v,rfl,i,by rw[hZ];exact HN.2,by rw[hZ]⟩⟩⟩,S4.v⟩
 .have E2:Hid (bS E=aq 100 (aa bf E)/\E≠0):=hJ ⟨bP e0,e0⟩;rw[E2.1];clear e0;go_wp2
  go_ret
  exact⟨E,F,by rw[E2.1];rfl,⟨k,E,S1.1, .inl ⟨E2.2,rfl,rfl⟩⟩,S1.2⟩
theorem cv.range(h:cv w b F)(n:Nat)(hn:n<40):w.rangeAt b (n*62) (dA (F.nd n)).toList:=λj v hv=>by
 have hj:j<62:=by have:=(aY.1 hv).1;rwa [jr]at this
 rw[aM,DM _ j hj]at hv;rw[<-hv];exact h.nd n j hn hj
section
variable {ops:Array Oper}{rest:List Oper}{x:Oper}{a:Act}{w:bD}{Q:Exit->Act->bD->Prop}
theorem zx(hgd:x.guard=bC)(ho:x.op= .alloc 204)(h:wpList prog ops Q rest (a.put x.dst (ai (bB ⟨w.heap.size,0,bC⟩))) (w.alloc (bA (dA Nd.no) 204))):wpList prog ops Q (x::rest) a w:=
 wpList_plain hgd λ_ hK=>by
  unfold Oper.wp execOp;simp only[ho];simp[go_sem];exact hK _ _ h
end
theorem Ou{T:TypeId}(x:Nd)(h:w.heap[c]? =bB (bA A T (0,0)))(hA:A.size=62):w.there c 0 (dA x).size:=λj hj=>by
 rw[nW]at hj;exact⟨by rw[cA h];simp[hA];omega,cL h _⟩
theorem Q6{T:TypeId}(x:Nd)(h:w.heap[c]? =bB (bA A T (0,0)))(hA:A.size=62):(w.setCells c 0 (dA x).toList).rangeAt c 0 (dA x).toList:=λj v hv=>by
 have hj:j<62:=by have:=(aY.1 hv).1;rwa [jr]at this
 have:=aS c (dA x).toList 0 w (λi hi=>by
  rw[jr]at hi;rw[cA h];simp[hA];exact hi) j (by rw[jr];exact hj)
 rw[this,<-hv,aW (by rw[jr];exact hj)]
theorem vh{w':bD}{L:List Value}(h:w.rangeAt c 0 L)(e:w'.heap[c]? =w.heap[c]?):w'.rangeAt c 0 L:=λj v hv=>(aV e).trans (h j v hv)
theorem Tr.DW(F:Fo)(n:Nat):F.put n (F.nd n)=F:=by
 unfold Fo.put;have:(λm=>if m=n then F.nd n else F.nd m)=F.nd:=by
  funext m;by_cases c:m=n
  .rw[aJ c,c]
  .rw[aI c]
 rw[this]
def Tr.IV(F:Fo)(n i t k:Nat)(o:bU):Fo:=Tr.kY (F.put n (Tr.eY (F.nd n) i)) t o k
def Tr.Hd(F:Fo)(z:Int)(s:bU)(y:Int)(o:bU)(E:Int)(G:Fo):Prop:=
 ∃K e,Tr.lf F z s K e/\((e≠0/\E=e/\G=F)\/(e=0/\((Tr.cQ F y 2≠0/\E=Tr.cQ F y 2/\G=F)\/(Tr.cQ F y 2=0/\(((F.nd z.toNat).tree≠(F.nd y.toNat).tree/\E=11/\G=F)\/((F.nd z.toNat).tree=(F.nd y.toNat).tree/\
  ((Tr.gQ F K 40 y.toNat=bE/\E=5/\G=F)\/(Tr.gQ F K 40 y.toNat=bF/\∃i:Nat,Tr.fL (F.nd z.toNat) s (i:Int)/\∃e2,Tr.oR ((F.put z.toNat (Tr.eY (F.nd z.toNat) i)).nd y.toNat) o e2/\((e2≠0/\E=e2/\G=F)\/(e2=0/\E=0/\G=Tr.IV F z.toNat i y.toNat K o))))))))))
theorem Tr.oR.ok(h:Tr.oR x s 0):Tr.gq s=bE/\x.size≠8:=by
 rcases h with⟨_,h⟩|⟨h1,⟨_,_,h⟩|⟨_,⟨_,h⟩|⟨h2,_⟩⟩⟩
 .omega
 .omega
 .omega
 .exact⟨h1,h2⟩
theorem LH(b:Nat)(z:Int)(s:bU)(y:Int)(o:bU)(F:Fo)(w:bD)(h:cv w b F)(hs:Tr.kV F)(hK:Tr.Hc F)(hE:∀n,n<40->(F.nd n).kind=2->Tr.dE F 40 n):
  Calls prog 207 #[ai (bB ⟨b,0,bC⟩),aa bf z,ak s,aa bf y,ak o] w λe w'=>∃(E:Int) (G:Fo),e=bw (bS E)/\Tr.Hd F z s y o E G/\cv w' b G/\bO b w w':=by
 have HF:=hJ (aK h hs);have HH:=hJ (aK hE hK);clear h hs hE hK;go_in
 go_wp2_with fail
 refine(vr b z s F _ HF.1 HF.2).mono ?_;rintro e w1 ⟨k,E,rfl,hw1,b1⟩;have S1:Hid (Tr.lf F z s k E/\cv w1 b F/\bO b w w1):=hJ ⟨hw1,HF.1.below b1,bO.cO b1⟩;clear hw1 b1;by_cases e0:E=0
 .subst e0;obtain⟨n,i,rfl,n40,k2,hp,hk⟩:=S1.1.ok;have k40:k<40:=by rw[hk];exact(HH.2 n n40 k2 i hp.lt).1
  have HN:Hid ((F.nd n).size<=8/\Tr.fL (F.nd n) s (i:Int)):=hJ ⟨HF.2 n n40 k2,hp⟩;have nI:(n:Int)<40:=bG
  have kI:(k:Int)<40:=bG
  rw[bN];clear k2 hp hk;by_cases c:Tr.cQ F y 2=0
  .obtain⟨t,rfl,t40,_,t2⟩:=Tr.fE c;have EP:Hid (Tr.cQ F (t:Int) 2=0/\fD b (t:Int) 0=ai (bB ⟨b,t*62,bC⟩)):=hJ ⟨c,gN b t⟩;have HEN:Hid (Tr.dE F 40 t/\(F.nd t).size<=8):=hJ ⟨HH.1 t t40 t2,HF.2 t t40 t2⟩;clear c t2;go_wp2_with fail
   refine sC (lQ b t F _ S1.2.1) ?_;rintro w0 hw0;subst w0;rw[EP.1,EP.2,bN];have c1:=S1.2.1.s9 n n40;have c2:=S1.2.1.s9 t t40;by_cases tt:(F.nd n).tree=(F.nd t).tree
   .have HT:=hJ tt;rw[tt]at c1;generalize (F.nd t).tree=tr at c1 c2;clear tt;go_wp2_with fail
    go_quiet (fail)
    go_upto_region 10 with fail
    refine cR (λW=>cv W b F/\bO b w W) ⟨S1.2.1.drewN _,S1.2.2.drewN _⟩ ?_;intro W2 h2;have S2:=hJ h2;clear h2 c1 c2;go_wp2_with fail
    refine sC (Jf b t k 40 F _ S2.1 HEN.1) ?_;rintro w3 hw3;subst w3;obtain⟨bb,hbb⟩:=hU (Tr.gQ F k 40 t);have HBB:=hJ hbb;rw[hbb];clear hbb;cases bb
    .have N0:Hid ((W2.alloc (bA (dA Nd.no) 204)).heap[W2.heap.size]? =bB (bA (dA Nd.no) 204 (0,0))):=hJ (heap_alloc_new W2 _);have HR:=hJ (S2.1.range n n40);have TH:=hJ (Ou (F.nd n) N0.v (nW _));have HS:=hJ (px (F.nd n));have H1:=hJ (pA (F.nd n));have hlen:Hid ((prog.info? 204).map (·.size)=bB (dA (F.nd n)).toList.length):=hJ (by rw[jr];kernel_rfl);have S3:Hid ((cv ((W2.alloc (bA (dA Nd.no) 204)).setCells W2.heap.size 0 (dA (F.nd n)).toList) b F/\bO b w ((W2.alloc (bA (dA Nd.no) 204)).setCells W2.heap.size 0 (dA (F.nd n)).toList))/\((W2.alloc (bA (dA Nd.no) 204)).setCells W2.heap.size 0 (dA (F.nd n)).toList).rangeAt W2.heap.size 0 (dA (F.nd n)).toList/\W2.heap.size<((W2.alloc (bA (dA Nd.no) 204)).setCells W2.heap.size 0 (dA (F.nd n)).toList).heap.size/\W2.heap.size≠b):=hJ (by
      have q:Below W2.heap.size W2 ((W2.alloc (bA (dA Nd.no) 204)).setCells W2.heap.size 0 (dA (F.nd n)).toList):=(bO.setCells _ _ (bO.refl W2.heap.size _)).below ((aQ _ _).alloc (aL _) _) (aL _) (by simp);refine⟨⟨S2.1.below q,S2.2.trans (bO.cO q)⟩,Q6 _ N0.v (nW _),?_,?_⟩
      .have:=(bO.setCells (b:=W2.heap.size) (dA (F.nd n)).toList 0 (bO.refl W2.heap.size (W2.alloc (bA (dA Nd.no) 204)))).size;have e:(W2.alloc (bA (dA Nd.no) 204)).heap.size=W2.heap.size+1:=by simp
       omega
      .have:=S2.1.lt;omega)
     obtain⟨A,hA⟩:=hU (dA (F.nd n));have HA:=hJ hA;rw[hA]at HR TH HS H1 S3 hlen;clear hA;go_upto_region 13 with(first|(refine wpList_load_mid rfl 204 _ rfl b (n*62) rfl A.toList _ HR.v Tryz.underlying204 rfl hlen.v ?_;rw[Array.toArray_toList])|(refine zx rfl rfl ?_)|(refine wpList_store_mid rfl 204 _ _ rfl W2.heap.size 0 A rfl rfl TH.v HS.v H1.v ?_))
     generalize hcc:W2.heap.size=cc at*;refine cR (λW=>(cv W b F/\bO b w W)/\W.rangeAt cc 0 A.toList/\cc<W.heap.size/\cc≠b) S3.v ?_;intro W3 h3;have S4:=hJ h3;clear h3 S3 N0 HR TH hcc;go_wp2_with fail
     refine sC (rY b n i s F _ S4.1.1 n40 HN.1 HN.2) ?_;rintro w4 ⟨h4,f4⟩;obtain⟨F1,hF1⟩:=hU (F.put n (Tr.eY (F.nd n) i));have HF1:=hJ hF1;rw[hF1]at h4;have z8:Hid ((F1.nd t).size<=8):=hJ (by
      rw[<-hF1];by_cases d:t=n
      .subst d;rw[Tr.bR];show(F.nd t).size-1<=8;have:=HEN.2;omega
      .rw[Tr.cr _ _ _ _ d];exact HEN.2)
     have S5:Hid ((cv w4 b F1/\bO b w w4)/\w4.rangeAt cc 0 A.toList/\cc<w4.heap.size):=hJ ⟨⟨h4,S4.1.2.trans f4⟩,vh S4.2.1 (f4.block cc S4.2.2.1 S4.2.2.2),aD S4.2.2.1 f4.size⟩;clear h4 f4 hF1;go_wp2_with fail
     refine(vv b t o F1 _ S5.1.1 t40 z8.v).mono ?_;rintro e w5 ⟨E,rfl,hr,b5⟩;have S6:Hid ((cv w5 b F1/\bO b w w5)/\w5.rangeAt cc 0 A.toList/\Tr.oR (F1.nd t) o E):=hJ ⟨⟨S5.1.1.below b5,S5.1.2.trans (bO.cO b5)⟩,vh S5.2.1 (b5.block cc S5.2.2),hr⟩;clear hr b5;by_cases f0:E=0
     .subst f0;have HR2:=hJ S6.2.2.ok;have t8:Hid ((F1.nd t).size<8):=hJ (by have:=HR2.2;have:=z8.v;omega);rw[bN];go_wp2_with fail
      refine sC (rH b t k o F1 _ S6.1.1 t40 k40 t8.v (aH (Tr.pW HR2.1) bM)) ?_;rintro w6 ⟨h6,f6⟩;have S7:Hid (cv w6 b (Tr.IV F n i t k o)/\bO b w w6):=hJ ⟨by unfold Tr.IV;rw[HF1.v];exact h6,S6.1.2.trans f6⟩;clear h6 f6;go_wp2
      go_ret
      refine⟨0,_,rfl,⟨k,0,S1.1, .inr ⟨rfl, .inr ⟨EP.1, .inr ?_⟩⟩⟩,S7.v⟩;rw[hZ,hZ];exact⟨HT.v, .inr ⟨HBB.v,i,HN.2,0,by rw[HF1.v];exact S6.2.2, .inr ⟨rfl,rfl,rfl⟩⟩⟩
     .have E2:Hid (bS E=aq 100 (aa bf E)/\E≠0):=hJ ⟨bP f0,f0⟩;have TH2:Hid (w5.there b (n*62) A.size):=hJ (by rw[<-HA.v];exact S6.1.1.there n n40 (F.nd n));have S7:Hid (cv (w5.setCells b (n*62) A.toList) b F/\bO b w (w5.setCells b (n*62) A.toList)):=hJ (by
       have a:=S6.1.1.setNode n n40 (F.nd n);rw[<-HF1.v,Tr.gO,Tr.DW,HA.v]at a;exact⟨a,bO.setCells _ _ S6.1.2⟩)
      rw[E2.1];clear f0;go_wp2_with (first|(refine wpList_load_mid rfl 204 _ rfl cc 0 rfl A.toList _ S6.2.1 Tryz.underlying204 rfl hlen.v ?_;rw[Array.toArray_toList])|(refine wpList_store_mid rfl 204 _ _ rfl b (n*62) A rfl rfl TH2.v HS.v H1.v ?_))
      go_ret
      refine⟨E,F,by rw[E2.1];rfl,⟨k,0,S1.1, .inr ⟨rfl, .inr ⟨EP.1, .inr ?_⟩⟩⟩,S7.v⟩;rw[hZ,hZ];exact⟨HT.v, .inr ⟨HBB.v,i,HN.2,E,by rw[HF1.v];exact S6.2.2, .inl ⟨E2.2,rfl,rfl⟩⟩⟩
    .go_wp2
     go_ret
     refine⟨5,F,rfl,⟨k,0,S1.1, .inr ⟨rfl, .inr ⟨EP.1, .inr ?_⟩⟩⟩,S2.v⟩;rw[hZ,hZ];exact⟨HT.v, .inl ⟨HBB.v,rfl,rfl⟩⟩
   .have HT:=hJ tt;generalize (F.nd n).tree=t1 at c1 tt;generalize (F.nd t).tree=t2 at c2 tt;have tI:((t1:Int)==(t2:Int))=bF:=by simp;omega
    have tI2:¬(t1:Int)=(t2:Int):=bG
    clear tt;go_wp2_with fail
    go_quiet (fail)
    go_wp2
    go_ret
    refine⟨11,F,rfl,⟨k,0,S1.1, .inr ⟨rfl, .inr ⟨EP.1, .inl ?_⟩⟩⟩,S1.2.1.drewN _,S1.2.2.drewN _⟩;rw[hZ,hZ];exact⟨HT.v,rfl,rfl⟩
  .have E2:Hid (fD b y (Tr.cQ F y 2)=ai bC/\bS (Tr.cQ F y 2)=aq 100 (aa bf (Tr.cQ F y 2))/\Tr.cQ F y 2≠0):=hJ ⟨ir c,bP c,c⟩;clear c;go_wp2_with fail
   refine sC (lQ b y F _ S1.2.1) ?_;rintro w0 hw0;subst w0;rw[E2.1,E2.2.1];go_wp2
   go_ret
   exact⟨_,F,by rw[E2.2.1];rfl,⟨k,0,S1.1, .inr ⟨rfl, .inl ⟨E2.2.2,rfl,rfl⟩⟩⟩,S1.2⟩
 .have E2:Hid (bS E=aq 100 (aa bf E)/\E≠0):=hJ ⟨bP e0,e0⟩;rw[E2.1];clear e0;go_wp2
  go_ret
  exact⟨E,F,by rw[E2.1];rfl,⟨k,E,S1.1, .inl ⟨E2.2,rfl,rfl⟩⟩,S1.2⟩
def tY(F:Fo)(z:Int):Array Value:=if Tr.cM F z=0 then#[aa bf ((F.nd z.toNat).kind:Int),aa bf ((F.nd z.toNat).cW:Int),aa bf ((F.nd z.toNat).held:Int),aa bf ((F.nd z.toNat).size:Int)]else#[aa bf 0,aa bf 0,aa bf 0,aa bf 0]
theorem qd(b:Nat)(z:Int)(F:Fo)(w:bD)(h:cv w b F):
  Calls prog 214 #[ai (bB ⟨b,0,bC⟩),aa bf z] w λe w'=>e=bw (ao #[au (tY F z),bS (Tr.cM F z)])/\Below w.heap.size w w':=by
 have hlt:=h.lt;have hne:w.heap.size≠b:=bG
 have hne2:b≠w.heap.size:=bG
 have HF:Hid (∀o,cv (w.alloc o) b F/\Below w.heap.size w (w.alloc o)):=hJ (λo=>by
  have bb:Below w.heap.size w (w.alloc o):=(aQ _ _).alloc (aL _) _;exact⟨h.below bb,bb⟩)
 have HB:Hid (∀W W',Below w.heap.size w W->bO w.heap.size W W'->w.heap.size<=W.heap.size->Below w.heap.size w W'):=hJ (λW W' h1 h2 h3=>h2.below h1 (aL _) h3);by_cases c:Tr.cM F z=0
 .obtain⟨n,rfl,n40,kk⟩:=Tr.ic c;have E:Hid (Tr.cM F (n:Int)=0/\tY F (n:Int)=#[aa bf ((F.nd n).kind:Int),aa bf ((F.nd n).cW:Int),aa bf ((F.nd n).held:Int),aa bf ((F.nd n).size:Int)]/\fD b (n:Int) 0=ai (bB ⟨b,n*62,bC⟩)):=hJ ⟨c,by unfold tY;rw[aJ c,hZ],gN b n⟩;clear h c kk;go_in
  go_wp2_with fail
  refine sC (iA b n F _ (HF.v _).1) ?_;rintro w1 hw1;have S1:Hid (cv w1 b F/\Below w.heap.size w w1):=hJ (by rw[hw1];exact HF.v _);have N1:w1.heap[w.heap.size]? =bB (bA #[aa bf 0,aa bf 0,aa bf 0,aa bf 0] 156 (0,0)):=by rw[hw1];exact heap_alloc_new w _
  clear hw1;rw[E.1,E.2.2,bN];have c1:=S1.1.sZ n n40;have c2:=S1.1.uz n n40;have c3:=S1.1.yz n n40;have c4:=S1.1.nM n n40;have EO:Hid (tY F (n:Int)=#[aa bf ((F.nd n).kind:Int),aa bf ((F.nd n).cW:Int),aa bf ((F.nd n).held:Int),aa bf ((F.nd n).size:Int)]):=hJ E.2.1;generalize (F.nd n).kind=v1 at c1 EO;generalize (F.nd n).cW=v2 at c2 EO;generalize (F.nd n).held=v3 at c3 EO;generalize (F.nd n).size=v4 at c4 EO;have hlt2:Hid (w.heap.size<w1.heap.size):=hJ (aX.1 N1).1;generalize hcc:w.heap.size=cc at*;have x1:w1.cell? ⟨cc,0,bC⟩=bB (aa .i64 0):=by rw[cA N1];rfl
  have x2:w1.cell? ⟨cc,1,bC⟩=bB (aa .i64 0):=by rw[cA N1];rfl
  have x3:w1.cell? ⟨cc,2,bC⟩=bB (aa .i64 0):=by rw[cA N1];rfl
  have x4:w1.cell? ⟨cc,3,bC⟩=bB (aa .i64 0):=by rw[cA N1];rfl
  have xf:∀o,w1.frozen? ⟨cc,o,bC⟩=bF:=λo=>cL N1 o;have S2:Hid (((((w1.setCell ⟨cc,0,bC⟩ (aa bf (v1:Int))).setCell ⟨cc,1,bC⟩ (aa bf (v2:Int))).setCell ⟨cc,2,bC⟩ (aa bf (v3:Int))).setCell ⟨cc,3,bC⟩ (aa bf (v4:Int))).heap[cc]? =bB (bA #[aa bf (v1:Int),aa bf (v2:Int),aa bf (v3:Int),aa bf (v4:Int)] 156 (0,0))/\Below cc w ((((w1.setCell ⟨cc,0,bC⟩ (aa bf (v1:Int))).setCell ⟨cc,1,bC⟩ (aa bf (v2:Int))).setCell ⟨cc,2,bC⟩ (aa bf (v3:Int))).setCell ⟨cc,3,bC⟩ (aa bf (v4:Int)))):=hJ
   ⟨cT (cT (cT (cT N1 0 _) 1 _) 2 _) 3 _,HB.v w1 _ S1.2 ((((((bO.refl cc w1).setCell _ _).setCell _ _).setCell _ _).setCell _ _)) (bI hlt2.v)⟩
  clear N1;go_wp2_with fail
  generalize hWF:(((w1.setCell ⟨cc,0,bC⟩ (aa bf (v1:Int))).setCell ⟨cc,1,bC⟩ (aa bf (v2:Int))).setCell ⟨cc,2,bC⟩ (aa bf (v3:Int))).setCell ⟨cc,3,bC⟩ (aa bf (v4:Int))=WF at S2|-;have y1:WF.cell? ⟨cc,0,bC⟩=bB (aa bf (v1:Int)):=by rw[cA S2.1];rfl
  have y2:WF.cell? ⟨cc,1,bC⟩=bB (aa bf (v2:Int)):=by rw[cA S2.1];rfl
  have y3:WF.cell? ⟨cc,2,bC⟩=bB (aa bf (v3:Int)):=by rw[cA S2.1];rfl
  have y4:WF.cell? ⟨cc,3,bC⟩=bB (aa bf (v4:Int)):=by rw[cA S2.1];rfl
  refine bodyPost_ret (v:=ao #[au #[aa bf (v1:Int),aa bf (v2:Int),aa bf (v3:Int),aa bf (v4:Int)], .nilIface]) (by simp[results,Tryz.f214,go_sem,y1,y2,y3,y4]) rfl ?_;rw[EO.v,E.1];subst hcc;exact⟨rfl,S2.2⟩
 .have E:Hid (tY F z=#[aa bf 0,aa bf 0,aa bf 0,aa bf 0]/\fD b z (Tr.cM F z)=ai bC/\bS (Tr.cM F z)=aq 100 (aa bf (Tr.cM F z))):=hJ ⟨by unfold tY;rw[aI c],ir c,bP c⟩;clear h c;go_in
  go_wp2_with fail
  refine sC (iA b z F _ (HF.v _).1) ?_;rintro w1 hw1;have S1:Hid (cv w1 b F/\Below w.heap.size w w1):=hJ (by rw[hw1];exact HF.v _);have N1:w1.heap[w.heap.size]? =bB (bA #[aa bf 0,aa bf 0,aa bf 0,aa bf 0] 156 (0,0)):=by rw[hw1];exact heap_alloc_new w _
  clear hw1;rw[E.2.1,E.2.2];have hlt2:Hid (w.heap.size<w1.heap.size):=hJ (aX.1 N1).1;generalize hcc:w.heap.size=cc at*;have x1:w1.cell? ⟨cc,0,bC⟩=bB (aa .i64 0):=by rw[cA N1];rfl
  have x2:w1.cell? ⟨cc,1,bC⟩=bB (aa .i64 0):=by rw[cA N1];rfl
  have x3:w1.cell? ⟨cc,2,bC⟩=bB (aa .i64 0):=by rw[cA N1];rfl
  have x4:w1.cell? ⟨cc,3,bC⟩=bB (aa .i64 0):=by rw[cA N1];rfl
  have xf:∀o,w1.frozen? ⟨cc,o,bC⟩=bF:=λo=>cL N1 o;have S2:Hid (((((w1.setCell ⟨cc,0,bC⟩ (aa .i64 0)).setCell ⟨cc,1,bC⟩ (aa .i64 0)).setCell ⟨cc,2,bC⟩ (aa .i64 0)).setCell ⟨cc,3,bC⟩ (aa .i64 0)).heap[cc]? =bB (bA #[aa bf 0,aa bf 0,aa bf 0,aa bf 0] 156 (0,0))/\Below cc w ((((w1.setCell ⟨cc,0,bC⟩ (aa .i64 0)).setCell ⟨cc,1,bC⟩ (aa .i64 0)).setCell ⟨cc,2,bC⟩ (aa .i64 0)).setCell ⟨cc,3,bC⟩ (aa .i64 0))):=hJ
   ⟨cT (cT (cT (cT N1 0 _) 1 _) 2 _) 3 _,HB.v w1 _ S1.2 ((((((bO.refl cc w1).setCell _ _).setCell _ _).setCell _ _).setCell _ _)) (bI hlt2.v)⟩
  clear N1;go_wp2_with fail
  generalize hWF:(((w1.setCell ⟨cc,0,bC⟩ (aa .i64 0)).setCell ⟨cc,1,bC⟩ (aa .i64 0)).setCell ⟨cc,2,bC⟩ (aa .i64 0)).setCell ⟨cc,3,bC⟩ (aa .i64 0)=WF at S2|-;have y1:WF.cell? ⟨cc,0,bC⟩=bB (aa .i64 0):=by rw[cA S2.1];rfl
  have y2:WF.cell? ⟨cc,1,bC⟩=bB (aa .i64 0):=by rw[cA S2.1];rfl
  have y3:WF.cell? ⟨cc,2,bC⟩=bB (aa .i64 0):=by rw[cA S2.1];rfl
  have y4:WF.cell? ⟨cc,3,bC⟩=bB (aa .i64 0):=by rw[cA S2.1];rfl
  refine bodyPost_ret (v:=ao #[au #[aa bf 0,aa bf 0,aa bf 0,aa bf 0],aq 100 (aa bf (Tr.cM F z))]) (by simp[results,Tryz.f214,go_sem,y1,y2,y3,y4]) rfl ?_;rw[E.1,E.2.2];subst hcc;exact⟨rfl,S2.2⟩
def Tr.BH(f:Nat->Int)(a:Nat)(L:List Int):Nat->Int:=λj=>if j<a then f j else(L[j-a]?).getD (f j)
def Tr.uw(s:bU):List Int:=s.data.toList.map λx=>(x.toNat:Int)
theorem Tr.Ql(s:bU):(Tr.uw s).length=s.size:=by simp[Tr.uw]
theorem Tr.Qm(s:bU):(s.data.toList.map λx=>aa bh (x.toNat:Int))=(Tr.uw s).map (Value.int bh):=by simp[Tr.uw,Function.comp_def]
theorem cv.setBytes(h:cv w b F)(n a:Nat)(L:List Int)(hL:a+L.length<=40):cv (w.setCells b (n*62+22+a) (L.map (Value.int bh))) b (F.put n {F.nd n with dc:=Tr.BH (F.nd n).dc a L}):=by
 obtain⟨C,h1,h2⟩:=h.dk;obtain⟨C',k1,k2⟩:=lR b (L.map (Value.int bh)) (n*62+22+a) w C h1;have hlen:(L.map (Value.int bh)).length=L.length:=by simp
 refine⟨⟨C',k1,bG⟩,λo ho=>?_⟩;by_cases c:n*62+22+a<=o/\o<n*62+22+a+L.length
 .obtain⟨j,rfl,hj⟩:∃j,o=n*62+22+a+j/\j<L.length:=⟨o-(n*62+22+a),bG,bG⟩;rw[aS b (L.map (Value.int bh)) (n*62+22+a) w (λi hi=>by rw[hlen]at hi;rw[h.cell _ bG];rfl) j (by rw[hlen];exact hj)];unfold jQ;rw[nK,show(n*62+22+a+j)/62=n by omega,show(n*62+22+a+j)%62=22+(a+j)by omega,Tr.bR,rk];show _=bB (aa bh (Tr.BH (F.nd n).dc a L (a+j)));unfold Tr.BH;rw[nJ,show a+j-a=j by omega,aW hj,Option.getD_some,List.getElem_map]
 .rw[aA b _ (n*62+22+a) w ⟨b,o,bC⟩ (λ_ _=>by rw[hlen];show o<_\/_<=o;omega),h.cell o ho];unfold jQ;by_cases d:o<2480
  .rw[aJ d,aJ d];by_cases e:o/62=n
   .rw[e,Tr.bR];by_cases g:o%62<22
    .unfold iU;repeat' split
     all_goals first|rfl|omega
    .rw[show o%62=22+(o%62-22)by omega,rk,rk];show _=bB (aa bh (Tr.BH (F.nd n).dc a L (o%62-22)));unfold Tr.BH;by_cases i:o%62-22<a
     .rw[aJ i]
     .rw[aI i,List.getElem?_eq_none bG,Option.getD_none]
   .rw[Tr.cr _ _ _ _ e]
  .rw[aI d,aI d];rfl
section
variable {ops:Array Oper}{rest:List Oper}{x:Oper}{a:Act}{w:bD}{Q:Exit->Act->bD->Prop}
theorem zy(hgd:x.guard=bC)(d y:Operand)(dT sT:TypeId)(hop:x.op=Op.call {callee:=Callee.builtin Builtin.copy,args:=#[d,y],argTypes:=#[dT,sT]})
  (elem:TypeId) (hu:prog.underlying dT=bB (.slice elem)) (hz:∀w,(Go.sizeOf elem).run prog w= .ok 1 w)
  (b off dLen dCap:Nat) (hd:a.eval d=aj (bB ⟨b,off,bC⟩) dLen dCap) (t:bU) (hx:a.eval y=ak t) (hle:t.size<=dLen)
  (hc:∀j,j<t.size->(w.cell? ⟨b,off+j,bC⟩).isSome=bE) (hf:∀j,j<t.size->w.frozen? ⟨b,off+j,bC⟩=bF)
  (h:wpList prog ops Q rest (a.put x.dst (goInt t.size)) (w.setCells b off ((Tr.uw t).map (Value.int bh)))):wpList prog ops Q (x::rest) a w:=
 wpList_plain hgd λ_ hK=>by
  have hrun:=run_copy_string (P:=prog) w dT sT x.type elem b off dLen dCap t hu hz hle hc hf;rw[Tr.Qm]at hrun;unfold Oper.wp;simp[execOp,hop,resolve,invoke,builtin,hd,hx,hrun,Result.andThen];exact hK _ _ h
end
def Tr.dQ(F:Fo)(z a:Int)(s:bU):Int:=if Tr.cQ F z 1≠0 then Tr.cQ F z 1 else if a<0 then 1 else if 40-(s.size:Int)<a then 4 else 0
def Tr.AQ(x:Nd)(a:Nat)(s:bU):Nd:={x with dc:=Tr.BH x.dc a (Tr.uw s),size:=max x.size (a+s.size)}
def Tr.eX(F:Fo)(z a:Int)(s:bU):Fo:=if Tr.dQ F z a s=0/\s.size≠0 then F.put z.toNat (Tr.AQ (F.nd z.toNat) a.toNat s)else F
theorem Jh(b:Nat)(z a:Int)(s:bU)(F:Fo)(w:bD)(h:cv w b F)(hs:s.size<2^60):
  Calls prog 248 #[ai (bB ⟨b,0,bC⟩),aa bf z,aa bf a,ak s] w λe w'=>e=bw (bS (Tr.dQ F z a s))/\cv w' b (Tr.eX F z a s)/\bO b w w':=by
 have HF:=hJ h;by_cases c:Tr.cQ F z 1=0
 .obtain⟨n,rfl,n40,_,k1⟩:=Tr.fE c;have EP:Hid (Tr.cQ F (n:Int) 1=0/\fD b (n:Int) 0=ai (bB ⟨b,n*62,bC⟩)):=hJ ⟨c,gN b n⟩;have EW:Tr.dQ F (n:Int) a s=if a<0 then 1 else if 40-(s.size:Int)<a then 4 else 0:=by unfold Tr.dQ;rw[aI (λd=>d c)]
  have hw:IntKind.i64.wrap (40-(s.size:Int))=40-(s.size:Int):=aN _ ⟨by omega,bG⟩;by_cases a0:a<0
  .have FIN:Hid (Tr.dQ F (n:Int) a s=1/\Tr.eX F (n:Int) a s=F):=hJ (by
    have e:Tr.dQ F (n:Int) a s=1:=by rw[EW,aJ a0]
    exact⟨e,by unfold Tr.eX;rw[e,nJ]⟩)
   clear h c k1 EW hs;go_in
   go_wp2_with fail
   refine sC (iR b n F _ HF.v) ?_;rintro w1 hw1;subst w1;rw[EP.1,EP.2,bN];go_wp2
   go_ret
   rw[FIN.1,FIN.2];exact⟨rfl,HF.v,bO.refl _ _⟩
  .by_cases a4:40-(s.size:Int)<a
   .have FIN:Hid (Tr.dQ F (n:Int) a s=4/\Tr.eX F (n:Int) a s=F):=hJ (by
     have e:Tr.dQ F (n:Int) a s=4:=by rw[EW,aI a0,aJ a4]
     exact⟨e,by unfold Tr.eX;rw[e,nJ]⟩)
    clear h c k1 EW hs;go_in
    go_wp2_with fail
    refine sC (iR b n F _ HF.v) ?_;rintro w1 hw1;subst w1;rw[EP.1,EP.2,bN];go_wp2
    go_ret
    rw[FIN.1,FIN.2];exact⟨rfl,HF.v,bO.refl _ _⟩
   .have EZ:Tr.dQ F (n:Int) a s=0:=by rw[EW,aI a0,aI a4]
    by_cases s0:s.size=0
    .have FIN:Hid (Tr.dQ F (n:Int) a s=0/\Tr.eX F (n:Int) a s=F):=hJ ⟨EZ,by unfold Tr.eX;rw[nJ]⟩;have sl:(s.toList==[])=bE:=by
      obtain rfl:s=⟨#[]⟩:=by
       apply ByteArray.ext;exact Array.eq_empty_of_size_eq_zero s0
      rw[ByteArray.toList_eq];rfl
     clear h c k1 EW hs EZ s0;go_in
     go_wp2_with fail
     refine sC (iR b n F _ HF.v) ?_;rintro w1 hw1;subst w1;rw[EP.1,EP.2,bN];go_wp2
     go_ret
     rw[FIN.1,FIN.2];exact⟨rfl,HF.v,bO.refl _ _⟩
    .obtain⟨m,rfl⟩:∃m:Nat,a=m:=⟨a.toNat,bG⟩;have EF:Hid (Tr.dQ F (n:Int) (m:Int) s=0/\Tr.eX F (n:Int) (m:Int) s=F.put n (Tr.AQ (F.nd n) m s)):=hJ ⟨EZ,by unfold Tr.eX;rw[aJ ⟨EZ,s0⟩,hZ,hZ]⟩;have hm:m+s.size<=40:=bG
     have m40:(m:Int)<40:=bG
     have m40b:(m:Int)<=40:=bG
     have mlt:m<40:=bG
     have mn0:¬m=40:=bG
     have mn1:¬40-m=0:=bG
     have mn2:¬(m:Int)=40:=bG
     have sl:(s.toList==[])=bF:=by
      rw[beq_eq_false_iff_ne];intro e;rw[ByteArray.toList_eq]at e;apply s0;show s.data.size=0;rw[<-aB,e];rfl
     have ad:IntKind.i64.wrap ((m:Int)+(s.size:Int))=((m+s.size:Nat):Int):=(aN _ ⟨by omega,bG⟩).trans bG;have CC:Hid (∀j,j<s.size->(w.cell? ⟨b,n*62+22+m+j,bC⟩).isSome=bE):=hJ (λj hj=>by rw[h.cell _ bG];rfl);have CF:Hid (∀j,j<s.size->w.frozen? ⟨b,n*62+22+m+j,bC⟩=bF):=hJ (λj _=>h.frozen _);have S1:Hid (cv (w.setCells b (n*62+22+m) ((Tr.uw s).map (Value.int bh))) b (F.put n {F.nd n with dc:=Tr.BH (F.nd n).dc m (Tr.uw s)})/\bO b w (w.setCells b (n*62+22+m) ((Tr.uw s).map (Value.int bh)))):=hJ ⟨h.setBytes n m _ (by rw[Tr.Ql];exact hm),bO.setCells _ _ (bO.refl b w)⟩;have hsm:s.size<=40-m:=bG
     have hcz:∀w,(Go.sizeOf 5).run prog w= .ok 1 w:=λw=>by rfl
     clear h c k1 EW hs EZ s0;obtain⟨L,hL⟩:=hU ((Tr.uw s).map (Value.int bh));rw[hL]at S1;go_in
     go_wp2_with fail
     refine sC (iR b n F _ HF.v) ?_;rintro w1 hw1;subst w1;rw[EP.1,EP.2,bN];go_upto_region 11 with(refine zy rfl _ _ _ _ rfl 5 bH hcz b (n*62+22+m) (40-m) (40-m) rfl s rfl hsm CC.v CF.v ?_;rw[hL])
     refine cR (λW=>cv W b (F.put n {F.nd n with dc:=Tr.BH (F.nd n).dc m (Tr.uw s)})/\bO b w W) S1.v ?_;intro W2 h2;have S2:=hJ h2;clear h2 S1 CC CF hL;have c3:=S2.1.nM n n40;rw[Tr.bR]at c3;have cf:=S2.1.frozen;obtain⟨sz,hsz⟩:=hU ((F.nd n).size);have c3':W2.cell? ⟨b,n*62+3,bC⟩=bB (aa bf (sz:Int)):=by rw[c3,<-hsz]
     have FIN:Hid (cv (W2.setCell ⟨b,n*62+3,bC⟩ (aa bf (max (sz:Int) ((m:Int)+(s.size:Int))))) b (F.put n (Tr.AQ (F.nd n) m s))/\bO b w (W2.setCell ⟨b,n*62+3,bC⟩ (aa bf (max (sz:Int) ((m:Int)+(s.size:Int)))))):=hJ (by
      have q:=S2.1.Av n (max sz (m+s.size)) n40;rw[Tr.bR,Tr.gO]at q;unfold Tr.AQ;rw[hsz];rw[show(max (sz:Int) ((m:Int)+(s.size:Int)))=((max sz (m+s.size):Nat):Int)by omega];exact⟨q,S2.2.setCell _ _⟩)
     clear c3 hsz;go_wp2
     go_ret
     rw[EF.1,EF.2];exact⟨rfl,FIN.v⟩
 .have E2:Hid (fD b z (Tr.cQ F z 1)=ai bC/\bS (Tr.cQ F z 1)=aq 100 (aa bf (Tr.cQ F z 1))/\Tr.dQ F z a s=Tr.cQ F z 1/\Tr.eX F z a s=F):=hJ (by
   have e:Tr.dQ F z a s=Tr.cQ F z 1:=aJ c;exact⟨ir c,bP c,e,by unfold Tr.eX;rw[e,aI (λd=>c d.1)]⟩)
  clear h c hs;go_in
  go_wp2_with fail
  refine sC (iR b z F _ HF.v) ?_;rintro w1 hw;subst w1;rw[E2.1,E2.2.1];go_wp2
  go_ret
  rw[E2.2.2.1,E2.2.2.2,E2.2.1];exact⟨rfl,HF.v,bO.refl _ _⟩
def Tr.uf(F:Fo):Prop:=∀n,n<40->(F.nd n).kind=1->(F.nd n).size<=40
def Tr.Bt(f:Nat->Int)(a k:Nat):List Int:=(List.range k).map λj=>f (a+j)
def Tr.PF(f:Nat->Int)(a k:Nat):bU:=(Tr.Bt f a k).foldl (λr n=>r.push (UInt8.ofNat n.toNat)) ByteArray.empty
theorem Tr.wi(f:Nat->Int)(a k:Nat):(Tr.Bt f a k).length=k:=by simp[Tr.Bt]
theorem cv.IP(h:cv w b F)(n lo k:Nat)(hn:n<40)(hk:lo+k<=40)(ad:Addr)(had:0<k->ad=⟨b,n*62+22+lo,bC⟩):(loadCells ad k).run prog w= .ok ((Tr.Bt (F.nd n).dc lo k).map (Value.int bh)).toArray w:=by
 have:=run_loadCells_list (P:=prog) w ad ((Tr.Bt (F.nd n).dc lo k).map (Value.int bh)) (λj v hv=>by
  have hj:j<k:=by grind [Tr.Bt,Tr.wi]
  rw[had bG];have e:(⟨b,n*62+22+lo,bC⟩:Addr).add j=⟨b,n*62+22+(lo+j),bC⟩:=by
   unfold Addr.add;split
   .simp_all
   .simp_all;omega
  rw[e,h.UZ n (lo+j) hn bG,<-hv];simp[Tr.Bt,hj])
 rw[List.length_map,Tr.wi]at this;exact this
section
variable {ops:Array Oper}{rest:List Oper}{x:Oper}{a:Act}{w:bD}{Q:Exit->Act->bD->Prop}
theorem xY(hgd:x.guard=bC)(y:Operand)(hop:x.op=Op.convert 316 9 y)
  (ad:Addr) (k c:Nat) (hd:a.eval y=aj (bB ad) k c) (ns:List Int) (hl:(loadCells ad k).run prog w= .ok (ns.map (Value.int bh)).toArray w)
  (h:wpList prog ops Q rest (a.put x.dst (ak (ns.foldl (λr n=>r.push (UInt8.ofNat n.toNat)) ByteArray.empty))) w):wpList prog ops Q (x::rest) a w:=
 wpList_plain hgd λ_ hK=>by
  have hrun:=(run_convert_bytes_string (P:=prog) w 316 9 5 (bB ad) k c bH bH bH).trans (run_bytesToString w ad k c ns hl);unfold Oper.wp;simp[execOp,hop,hd,hrun,Result.andThen];exact hK _ _ h
end
def Tr.eO(F:Fo)(z a m:Int):Int:=if Tr.cQ F z 1≠0 then Tr.cQ F z 1 else if a<0\/m<0 then 1 else 0
def Tr.jG(F:Fo)(z a m:Int):bU:=
 if Tr.eO F z a m=0 then Tr.PF (F.nd z.toNat).dc (min a.toNat (F.nd z.toNat).size) (min m.toNat ((F.nd z.toNat).size-min a.toNat (F.nd z.toNat).size))else ByteArray.empty
theorem LU(b:Nat)(z a m:Int)(F:Fo)(w:bD)(h:cv w b F)(hs:Tr.uf F):
  Calls prog 246 #[ai (bB ⟨b,0,bC⟩),aa bf z,aa bf a,aa bf m] w λe w'=>e=bw (ao #[ak (Tr.jG F z a m),bS (Tr.eO F z a m)])/\cv w' b F/\Below w.heap.size w w':=by
 have HF:=hJ h;by_cases c:Tr.cQ F z 1=0
 .obtain⟨n,rfl,n40,_,k1⟩:=Tr.fE c;have EP:Hid (Tr.cQ F (n:Int) 1=0/\fD b (n:Int) 0=ai (bB ⟨b,n*62,bC⟩)):=hJ ⟨c,gN b n⟩;have EW:Tr.eO F (n:Int) a m=if a<0\/m<0 then 1 else 0:=by unfold Tr.eO;rw[aI (λd=>d c)]
  have z40:=hs n n40 k1;by_cases a0:a<0\/m<0
  .have FIN:Hid (Tr.eO F (n:Int) a m=1/\Tr.jG F (n:Int) a m=⟨#[]⟩):=hJ (by
    have e:Tr.eO F (n:Int) a m=1:=by rw[EW,aJ a0]
    exact⟨e,by unfold Tr.jG;rw[e,nJ];rfl⟩)
   by_cases a1:a<0
   .clear a0;go_in
    go_wp2_with fail
    refine sC (iR b n F _ HF.v) ?_;rintro w1 hw1;subst w1;rw[EP.1,EP.2,bN];go_wp2
    go_ret2
    rw[FIN.1,FIN.2];exact⟨rfl,HF.v,aQ _ _⟩
   .have a2:m<0:=bG
    go_in
    go_wp2_with fail
    refine sC (iR b n F _ HF.v) ?_;rintro w1 hw1;subst w1;rw[EP.1,EP.2,bN];go_wp2
    go_ret2
    rw[FIN.1,FIN.2];exact⟨rfl,HF.v,aQ _ _⟩
  .have EZ:Tr.eO F (n:Int) a m=0:=by rw[EW,aI a0]
   obtain⟨p,rfl⟩:∃p:Nat,a=p:=⟨a.toNat,bG⟩;obtain⟨q,rfl⟩:∃q:Nat,m=q:=⟨m.toNat,bG⟩;have c3:=h.nM n n40;obtain⟨sz,hsz⟩:=hU ((F.nd n).size);have EF:Hid (Tr.eO F (n:Int) (p:Int) (q:Int)=0/\Tr.jG F (n:Int) (p:Int) (q:Int)=Tr.PF (F.nd n).dc (min p sz) (min q (sz-min p sz))):=hJ ⟨EZ,by unfold Tr.jG;rw[aJ EZ,hZ,hZ,hZ,hsz]⟩;rw[hsz]at c3 z40;have zI:(sz:Int)<=40:=bG
   obtain⟨lo,hlo⟩:=hU (min p sz);have mn:min (p:Int) (sz:Int)=(lo:Int):=bG
   have lz:lo<=sz:=bG
   have lzI:(lo:Int)<=(sz:Int):=bG
   have mn2:(if(p:Int)<(sz:Int)then(p:Int)else(sz:Int))=(lo:Int):=by split<;>omega
   obtain⟨k,hk⟩:=hU (min q (sz-lo));have mk:min (q:Int) ((sz-lo:Nat):Int)=(k:Int):=bG
   have k1':k<=sz-lo:=bG
   have k2':k<=40-lo:=bG
   have k3':(k:Int)<=((40-lo:Nat):Int):=bG
   have k4':(k:Int)<=((sz-lo:Nat):Int):=bG
   rw[hlo,hk]at EF;have LD:Hid (∀nq,(loadCells (if 40=lo then(⟨b,n*62+22,bC⟩:Addr)else⟨b,n*62+22+lo,bC⟩) k).run prog (w.drewN nq)= .ok ((Tr.Bt (F.nd n).dc lo k).map (Value.int bh)).toArray (w.drewN nq)):=hJ (λnq=>(h.drewN nq).IP n lo k n40 bG _ (λh0=>nJ));have BB:Hid (∀nq,Below w.heap.size w (w.drewN nq)):=hJ (λnq=>by
    have:=aQ w.heap.size w;exact⟨this.os,this.tape,this.output,this.size,this.block⟩)
   go_in
   go_wp2_with fail
   refine sC (iR b n F _ HF.v) ?_;rintro w1 hw1;subst w1;rw[EP.1,EP.2,bN];go_wp2_with fail
   go_quiet (fail)
   revert LD;generalize (if 40=lo then(⟨b,n*62+22,bC⟩:Addr)else⟨b,n*62+22+lo,bC⟩)=ad;intro LD;go_wp2_with (refine xY rfl _ rfl ad k _ rfl _ (LD.v _) ?_)
   go_ret2
   rw[EF.1,EF.2];exact⟨rfl,HF.drewN _,BB.v _⟩
 .have E2:Hid (fD b z (Tr.cQ F z 1)=ai bC/\bS (Tr.cQ F z 1)=aq 100 (aa bf (Tr.cQ F z 1))/\Tr.eO F z a m=Tr.cQ F z 1/\Tr.jG F z a m=⟨#[]⟩):=hJ (by
   have e:Tr.eO F z a m=Tr.cQ F z 1:=aJ c;exact⟨ir c,bP c,e,by unfold Tr.jG;rw[e,aI c];rfl⟩)
  go_in
  go_wp2_with fail
  refine sC (iR b z F _ HF.v) ?_;rintro w1 hw;subst w1;rw[E2.1,E2.2.1];go_wp2
  go_ret2
  rw[E2.2.2.1,E2.2.2.2,E2.2.1];exact⟨rfl,HF.v,aQ _ _⟩
open Go.Sort
def zb(L:List bU):List Value:=L.map ak
structure SO (w:bD)(L:List bU)(v:Value)(wr:bD):Prop where
 cZ:RowKit.Below w.heap.size w wr
 own:wr.ownsRow w.heap.size 9 1 v L.length (zb L)
 nil:L=[]->v=aj bC 0 0
theorem SO.start(w:bD):SO w [] (aj bC 0 0) w:=⟨aQ _ _,World.ownsRow_nil _ _ _ _,λ_=>rfl⟩
theorem SO.form{wr:bD}{L:List bU}(h:SO w L v wr):∃a c,v=aj a L.length c:=by
 rcases h.own.2 with⟨e,e2⟩|⟨g,cap,_,e,_⟩
 .exact⟨bC,0,by rw[e,e2]⟩
 .exact⟨_,cap,e⟩
theorem SO.below{wr:bD}{L:List bU}(h:SO w L v wr)(b:RowKit.Below wr.heap.size wr w1):SO w L v w1:=
 ⟨h.cZ.trans (b.mono h.cZ.size),h.own.kept (row:=bC) ⟨b.os,b.tape,b.output,b.size,λk hk _=>b.block k hk⟩ (Classical.em _),h.nil⟩
theorem SO.more{wr:bD}{L:List bU}{gg cap N:Nat}{l:Value}(h:SO w L l wr)(x:bU)(hN:L.length=N)(hl:w1.ownsRow w.heap.size 9 1 (aj (bB ⟨gg,0,bC⟩) (N+1) cap) (N+1) (zb L++[ak x]))(o:Obj)(hg:(wr.alloc o).grownBy w1 l.ownBlock):
  SO w (L++[x]) (aj (bB ⟨gg,0,bC⟩) (N+1) cap) w1:=by
 have hs:=h.cZ.size;refine⟨(h.cZ.alloc hs o).grown hg (by simp;omega) (λk e=>(h.own.lt k e).1),?_,λe=>by simp at e⟩;grind [zb]
theorem SY:∃i,prog.info? 9=bB i/\i.zero=bB (ak ⟨#[]⟩)/\i.size=1/\i.bytes=16:=⟨(prog.info? 9).get bH,by kernel_rfl,by kernel_rfl,by kernel_rfl,by kernel_rfl⟩
def Tr.tX(x:Nd)(j:Nat):List bU:=(List.range j).map x.eN
theorem Tr.sv(x:Nd)(j:Nat):(Tr.tX x j).length=j:=by simp[Tr.tX]
theorem Tr.Ow(x:Nd)(j:Nat):Tr.tX x (j+1)=Tr.tX x j++[x.eN j]:=by simp[Tr.tX,List.range_succ]
def rX(L:List bU):List bU:=((L.map λs=>s.data.toList).mergeSort λx y=>decide (x<=y)).map λl=>⟨l.toArray⟩
theorem qJ(L:List bU):(rX L).length=L.length:=by simp[rX]
theorem Lv(w w1:bD)(L:List bU)(v:Value)(h:SO w L v w1)(hl:L.length<100):
  Calls prog 265 #[v] w1 λe w'=>e=bw (ao #[])/\SO w (rX L) v w':=by
 by_cases h0:L.length=0
 .obtain rfl:=List.eq_nil_of_length_eq_zero h0;rw[h.nil rfl];refine(Tryz.slices_Sort_string_none bC 0 w1).mono ?_;rintro e w' ⟨rfl,hw⟩;subst w';exact⟨rfl,by rw[<-h.nil rfl,show rX []=[]by simp[rX]];exact h⟩
 .obtain⟨g,cap,hv,hb,hg⟩:=h.own.form bG;subst hv;have hat:∀(M:List bU) (j:Nat),(zb M)[j]? =((M.map λs=>s.data.toList)[j]?).map encStr:=λM j=>by
   simp only[zb,List.getElem?_map];cases M[j]? <;>simp[encStr]
  have hH:Holds encStr w1 g 0 (L.map λs=>s.data.toList).toArray:=λj hj=>by
   have hj':j<L.length:=by simpa using hj
   rw[Nat.zero_add];refine⟨?_,h.own.frozenAt j⟩;rw[h.own.cellAt j bG,hat,aW (by simpa using hj'),Option.map_some,getElem!_pos _ j hj];simp
  have hS:=Tryz.slices_Sort_string g 0 cap (L.map λs=>s.data.toList) w1 hH hg (by simp;omega);rw[List.length_map]at hS;refine hS.mono ?_;rintro e w' ⟨rfl,n,os,rfl⟩;refine⟨rfl,?_⟩;obtain⟨D,hD⟩:=hU (((L.map λs=>s.data.toList).mergeSort λx y=>decide (x<=y)));have hDl:D.length=L.length:=by rw[<-hD];simp
  have hsr:rX L=D.map λl=>⟨l.toArray⟩:=by unfold rX;rw[hD]
  rw[hD];have hgr:w1.grownBy (grow (putRow encStr (Sort.ahead w1 n) g 0 D.toArray) os) (bB g):=by
   refine⟨rfl,rfl,rfl,?_,λk hk hne=>?_⟩
   .unfold Sort.grow Sort.putRow Sort.mapBlock Sort.ahead;simp
   .unfold Sort.grow Sort.putRow Sort.mapBlock Sort.ahead;rw[Array.getElem?_append_left (by simpa using hk),Array.getElem?_modify,aI (λe=>hne (by rw[e]))]
  have hbl:∀k,(bB g:Option Nat)=bB k->w.heap.size<=k:=λk e=>by injection e with e;omega
  refine⟨h.cZ.grown hgr h.cZ.size hbl,?_,λe=>by
   have:=qJ L;rw[e]at this;simp at this;omega⟩
  rcases h.own.2 with⟨hv,_⟩|⟨g',cap',cur,hv,hb',hgg,hnc,hcm,hcs,htake⟩
  .cases hv
  .simp only[Value.slice.injEq,Option.some.injEq,Addr.mk.injEq,and_true,true_and]at hv;obtain⟨rfl,rfl⟩:=hv;have hheap:(grow (putRow encStr (Sort.ahead w1 n) g 0 D.toArray) os).heap[g]? =bB (bA (putCells encStr 0 D.toArray cur) 9 (0,0)):=by
    rw[heap_grow_old _ _ (by simpa[putRow,mapBlock,Sort.ahead]using hg)];simp[putRow,mapBlock,Sort.ahead,Array.getElem?_modify,hgg,onCells]
   rw[qJ];refine⟨by simp[zb,qJ], .inr ⟨g,cap,_,rfl,hb,hheap,hnc,hcm,by simpa[putCells]using hcs,?_⟩⟩;apply List.ext_getElem?;intro t;by_cases ht:t<L.length
   .have hc:t<cur.size:=by rw[hcs];omega
    unfold putCells;grind
   .rw[List.getElem?_eq_none (by rw[List.length_take];omega),List.getElem?_eq_none (by simp[zb,qJ];omega)]
def Tr.rR(F:Fo)(z:Int):List bU:=if Tr.cQ F z 2=0 then rX (Tr.tX (F.nd z.toNat) (F.nd z.toNat).size)else[]
theorem LF(b:Nat)(z:Int)(F:Fo)(w:bD)(h:cv w b F)(hs:Tr.kV F):
  Calls prog 213 #[ai (bB ⟨b,0,bC⟩),aa bf z] w λe w'=>∃v,e=bw (ao #[v,bS (Tr.cQ F z 2)])/\SO w (Tr.rR F z) v w':=by
 have HF:=hJ h;by_cases c:Tr.cQ F z 2=0
 .obtain⟨n,rfl,n40,_,k2⟩:=Tr.fE c;have hm8:=hs n n40 k2;have EP:Hid (Tr.cQ F (n:Int) 2=0/\fD b (n:Int) 0=ai (bB ⟨b,n*62,bC⟩)/\Tr.rR F (n:Int)=rX (Tr.tX (F.nd n) (F.nd n).size)):=hJ ⟨c,gN b n,by unfold Tr.rR;rw[aJ c,hZ]⟩;have HM8:=hJ hm8;obtain⟨i0,hi0,hz0,hz1,hz2⟩:=SY;clear h c hs k2;go_in
  go_wp2_with fail
  refine sC (lQ b n F _ HF.v) ?_;rintro w1 hw1;subst w1;rw[EP.1,EP.2.1,bN];go_wp2_with fail
  refine sC (qL b n F _ HF.v n40 HM8.v) ?_;rintro w1 ⟨kd,hw1⟩;have S0:Hid (SO w [] (aj bC 0 0) w1):=hJ (by
   have:=aQ w.heap.size w;rw[hw1];exact(SO.start w).below ⟨this.os,this.tape,this.output,this.size,this.block⟩)
  clear hw1;obtain⟨sz,hsz⟩:=hU ((F.nd n).size);have HSZ:=hJ hsz;rw[hsz]at hm8|-;clear hsz;go_wp2_with fail
  go_loopw [8,10,23] (λv x i wr=>∃(j:Nat),i=aa bf j/\j<=sz/\Hid (SO w (Tr.tX (F.nd n) j) v wr)) (λ_ _ i _=>sz-(intOf i).toNat)
  case atStart=>exact⟨0,rfl,bG,S0⟩
  case round=>
   obtain⟨j,rfl,hj,R⟩:=hrel;by_cases hlt:j<sz
   .have hltI:(j:Int)<(sz:Int):=bG
    have hb:=HF.below R.cZ;have c0:=hb.wZ n j n40 bG;have c1:=hb.uy n j n40 bG;have SE:=hJ (Tr.Ow (F.nd n) j);obtain⟨nm,hnm⟩:=hU ((F.nd n).eN j);rw[hnm]at c0 SE;generalize (F.nd n).db j=kk at c1;clear hb hnm;go_upto_region 8 with fail
    refine cR (λW=>SO w (Tr.tX (F.nd n) j) u8 W/\W.cell? ⟨wr.heap.size,0,bC⟩=bB (ak nm)) ⟨R.below ((aQ _ _).alloc (aL _) _),by rw[cA (heap_alloc_new wr _)];rfl⟩ ?_;intro W1 h1;have S1:=hJ h1.1;have c2:=h1.2;clear h1 R c0 c1;obtain⟨va,vc,hv⟩:=S1.form;rw[Tr.sv]at hv;subst hv;go_wp2_with (at_builtin;refine wpList_append_lies _ rfl _ _ 152 (by rfl) w.heap.size 9 i0 (ak ⟨#[]⟩) 1 16 Tryz.underlying152 hi0 hz0 hz1 hz2 rfl bM (aj va j vc) j (zb (Tr.tX (F.nd n) j)) (by rfl) (by have:=S1.own;rw[Tr.sv]at this;exact this.alloc _) ⟨W1.heap.size,0,bC⟩ 1 1 [ak nm] (by rfl) rfl (World.news_of_block (heap_alloc_new W1 _)) (by simp[Value.oneCell']) bM (by unfold maxLen;omega) bG (by have:=S1.cZ.size;simp;omega) (W1.heap.size+1) (by simp) ?_;intro gg cap2 w2 hown hgrow hat hlt2;have Q1:Hid (SO w (Tr.tX (F.nd n) j++[nm]) (aj (bB ⟨gg,0,bC⟩) (j+1) cap2) w2):=hJ (S1.more nm (Tr.sv _ _) hown _ hgrow);clear hown hgrow hat hlt2)
    go_roundw
    case rel=>exact⟨j+1,by go_num,bG,by rw[SE.v];exact Q1⟩
    case measure=>simp[intOf];omega
   .have hltI:¬(j:Int)<(sz:Int):=bG
    obtain rfl:j=sz:=bG
    have hln:=Tr.sv (F.nd n) j;go_wp2_with fail
    refine sC (Lv w _ _ _ R.v bG) ?_;rintro w2 h2;have FIN:Hid (SO w (Tr.rR F (n:Int)) u8 w2):=hJ (by rw[EP.2.2,HSZ.v];exact h2);clear h2;go_wp2
    go_ret2
    rw[EP.1];exact⟨_,rfl,FIN.v⟩
 .have E2:Hid (fD b z (Tr.cQ F z 2)=ai bC/\bS (Tr.cQ F z 2)=aq 100 (aa bf (Tr.cQ F z 2))/\Tr.rR F z=[]):=hJ ⟨ir c,bP c,aI c⟩;clear h c hs;go_in
  go_wp2_with fail
  refine sC (lQ b z F _ HF.v) ?_;rintro w1 hw;subst w1;rw[E2.1,E2.2.1];go_wp2
  go_ret2
  rw[E2.2.1,E2.2.2];exact⟨_,rfl,SO.start w⟩
theorem Tt:∀(k m:Nat) (f:Nat->Nat),(∀i,i<m->f i<k)->(∀i j,i<j->j<m->f i≠f j)->m<=k
 |0,m,f,h,_=>by
  rcases Nat.eq_zero_or_pos m with h0|h0
  .omega
  .exact aZ (h 0 h0) bG
 |k+1,m,f,h,hi=>by
  by_cases c:∃i,i<m/\f i=k
  .obtain⟨a,ha,hk⟩:=c;have:=Tt k (m-1) (λi=>if i<a then f i else f (i+1)) (λi hm=>by
    split
    .have h1:=h i bG;have h2:=hi i a bG ha;omega
    .have h1:=h (i+1) bG;have h2:=hi a (i+1) bG bG;omega) (λi j hij hj=>by
    by_cases c1:i<a
    .grind
    .rw[aI c1,nJ];exact hi (i+1) (j+1) bG bG)
   omega
  .have:=Tt k m f (λi hm=>by
    have h1:=h i hm;have h2:f i≠k:=λe=>c ⟨i,hm,e⟩;omega) hi
   omega
def Tr.gE(F:Fo)(n:Nat):Nat->Nat
 |0=>n
 |k+1=>(F.nd (Tr.gE F n k)).up
theorem Tr.nG(F:Fo)(n:Nat):∀k,Tr.gE F (F.nd n).up k=Tr.gE F n (k+1)
 |0=>rfl
 |k+1=>by show(F.nd (Tr.gE F (F.nd n).up k)).up=_;rw[Tr.nG F n k];rfl
theorem Tr.AI(F:Fo)(n i:Nat):∀k,Tr.gE F (Tr.gE F n i) k=Tr.gE F n (i+k)
 |0=>rfl
 |k+1=>by show(F.nd (Tr.gE F (Tr.gE F n i) k)).up=_;rw[Tr.AI F n i k];rfl
theorem Tr.dE.first{F:Fo}:∀{m n:Nat},Tr.dE F m n->∃e,(∀j,j<=e->Tr.gE F n j<40)/\(F.nd (Tr.gE F n e)).up=Tr.gE F n e/\∀j,j<e->(F.nd (Tr.gE F n j)).up≠Tr.gE F n j
 |0,n,h=>⟨0,λj hj=>by obtain rfl:j=0:=bG;exact h.1,h.2,λj hj=>bG⟩
 |m+1,n,h=>by
  by_cases c:(F.nd n).up=n
  .exact⟨0,λj hj=>by obtain rfl:j=0:=bG;exact h.1,c,λj hj=>bG⟩
  .rcases h.2 with h2|h2
   .exact aZ h2 c
   .obtain⟨e,h3,h4,h5⟩:=h2.first;refine⟨e+1,λj hj=>?_,?_,λj hj=>?_⟩
    .cases j with
     |zero=>exact h.1
     |succ j=>rw[<-Tr.nG];exact h3 j bG
    .rw[<-Tr.nG];exact h4
    .cases j with
     |zero=>exact c
     |succ j=>rw[<-Tr.nG];exact h5 j bG
theorem Tr.dE.UW{F:Fo}:∀{e n:Nat},(∀j,j<=e->Tr.gE F n j<40)->(F.nd (Tr.gE F n e)).up=Tr.gE F n e->Tr.dE F e n
 |0,_,h1,h2=>⟨h1 0 bG,h2⟩
 |e+1,n,h1,h2=>⟨h1 0 bG, .inr (Tr.dE.UW (λj hj=>by rw[Tr.nG];exact h1 (j+1) bG) (by rw[Tr.nG];exact h2))⟩
theorem Tr.dE.mono{F:Fo}{n m:Nat}(h:Tr.dE F m n):∀k,Tr.dE F (m+k) n
 |0=>h
 |k+1=>(Tr.dE.mono h k).more.1
theorem Tr.dE.Ia(h:Tr.dE F m n):Tr.dE F 40 n:=by
 obtain⟨e,h1,h2,h3⟩:=h.first;have he:e+1<=40:=Tt 40 (e+1) (Tr.gE F n) (λi hi=>h1 i bG) (λi j hij hj eq=>by
  have a:Tr.gE F n (i+(e-j))=Tr.gE F n e:=by
   rw[<-Tr.AI,eq,Tr.AI,show j+(e-j)=e by omega]
  exact h3 (i+(e-j)) bG (by rw[a,h2]))
 have:=(Tr.dE.UW h1 h2).mono (40-e);grind
def Tr.Nodup(x:Nd):Prop:=∀i j,i<j->j<x.size->(x.eN i).toList≠(x.eN j).toList
theorem Tr.Nodup.ne(h:Tr.Nodup x)(hi:i<x.size)(hj:j<x.size)(c:i≠j):(x.eN i).toList≠(x.eN j).toList:=by grind [Tr.Nodup]
theorem Tr.ru(x:Nd)(i:Nat):(Tr.eY x i).size=x.size-1:=rfl
theorem Tr.xe(hj:j<x.size-1):(Tr.eY x i).eN j=if j=i then x.eN (x.size-1)else x.eN j:=by
 show iB (iB x.eN i _) (x.size-1) _ j=_;rw[vz _ _ _ _ bG];rfl
theorem Tr.qv(hj:j<x.size-1):(Tr.eY x i).db j=if j=i then x.db (x.size-1)else x.db j:=by
 show iB (iB x.db i _) (x.size-1) _ j=_;rw[vz _ _ _ _ bG];rfl
theorem Tr.Nj(hi:i<x.size)(hj:j<x.size-1):∃q,q<x.size/\q≠i/\(Tr.eY x i).eN j=x.eN q/\(Tr.eY x i).db j=x.db q:=by
 by_cases c:j=i
 .refine⟨x.size-1,bG,bG,?_,?_⟩
  .rw[Tr.xe hj,aJ c]
  .rw[Tr.qv hj,aJ c]
 .refine⟨j,bG,c,?_,?_⟩
  .rw[Tr.xe hj,aI c]
  .rw[Tr.qv hj,aI c]
theorem Tr.Nodup.eY{x:Nd}(h:Tr.Nodup x){i:Nat}(hi:i<x.size):Tr.Nodup (Tr.eY x i):=by grind [Tr.Nodup,Tr.eY,Tr.ru,Tr.xe]
theorem Tr.vR(hj:j<x.size):(Tr.jd x s k).eN j=x.eN j/\(Tr.jd x s k).db j=x.db j:=⟨vz _ _ _ _ bG,vz _ _ _ _ bG⟩
theorem Tr.sS(x:Nd)(s:bU)(k:Nat):(Tr.jd x s k).eN x.size=s/\(Tr.jd x s k).db x.size=k:=⟨qO _ _ _,qO _ _ _⟩
theorem Tr.qh(x:Nd)(s:bU)(k:Nat):(Tr.jd x s k).size=x.size+1:=rfl
theorem Tr.fL.no(h:Tr.fL x s (-1)):∀j,j<x.size->(x.eN j).toList≠s.toList:=by
 rcases h with⟨j,e,_⟩|⟨_,h⟩
 .omega
 .exact h
theorem Tr.Nodup.jd{x:Nd}{s:bU}{k:Nat}(h:Tr.Nodup x)(hp:Tr.fL x s (-1)):Tr.Nodup (Tr.jd x s k):=by grind [Tr.Nodup,Tr.fL,Tr.jd,Tr.qh,Tr.vR,Tr.sS]
def gy(f:Nat->Nat):Nat->Nat
 |0=>0
 |n+1=>gy f n+f n
theorem nY{f g:Nat->Nat}:∀{n:Nat},(∀i,i<n->f i=g i)->gy f n=gy g n
 |0,_=>rfl
 |n+1,h=>by show gy f n+f n=gy g n+g n;rw[nY (λi hi=>h i bG),h n bG]
theorem wv{f:Nat->Nat}:∀{n i:Nat},i<n->f i<=gy f n
 |n+1,i,h=>by
  show f i<=gy f n+f n;by_cases c:i=n
  .subst c;omega
  .have:=wv (f:=f) (n:=n) (i:=i) bG;omega
theorem xN{f:Nat->Nat}:∀{n:Nat},0<gy f n->∃i,i<n/\0<f i
 |0,h=>aZ h (bV 0)
 |n+1,h=>by
  by_cases c:0<f n
  .exact⟨n,bG,c⟩
  .have h':0<gy f n+f n:=h;obtain⟨i,h1,h2⟩:=xN (f:=f) (n:=n) bG;exact⟨i,bG,h2⟩
theorem vl{f:Nat->Nat}(h:∀i,i<n->f i=0):gy f n=0:=by grind [gy,xN]
theorem xM{f g:Nat->Nat}{p:Nat}:∀{n:Nat},p<n->(∀i,i<n->i≠p->f i=g i)->gy f n+g p=gy g n+f p
 |n+1,hp,h=>by
  show gy f n+f n+g p=gy g n+g n+f p;by_cases c:p=n
  .grind [gy,nY]
  .have:=xM (f:=f) (g:=g) (p:=p) (n:=n) bG (λi hi hne=>h i bG hne);rw[h n bG bG];omega
def fQ(a b:Nat):Nat:=if a=b then 1 else 0
theorem iO(a:Nat):fQ a a=1:=aJ rfl
theorem lX{a:Nat}(h:a≠b):fQ a b=0:=aI h
def Tr.gZ(x:Nd)(n:Nat):Nat:=if x.kind=2 then gy (λi=>fQ (x.db i) n) x.size else 0
def Tr.pK(F:Fo)(n:Nat):Nat:=gy (λt=>fQ (F.root t) n) F.trees
def Tr.cY(F:Fo)(n:Nat):Nat:=gy (λm=>Tr.gZ (F.nd m) n) 40+Tr.pK F n
theorem Tr.zW(n:Nat)(h:x.kind≠2):Tr.gZ x n=0:=aI h
theorem Tr.Qu(s:bU)(k n:Nat)(h:x.kind=2):Tr.gZ (Tr.jd x s k) n=Tr.gZ x n+fQ k n:=by
 unfold Tr.gZ;rw[aJ h,aJ (show(Tr.jd x s k).kind=2 from h),Tr.qh];show gy (λi=>fQ ((Tr.jd x s k).db i) n) x.size+fQ ((Tr.jd x s k).db x.size) n=_;rw[(Tr.sS x s k).2,nY (λi hi=>by rw[(Tr.vR hi).2])]
theorem Tr.MZ(n:Nat)(h:x.kind=2)(hi:i<x.size):Tr.gZ (Tr.eY x i) n+fQ (x.db i) n=Tr.gZ x n:=by
 unfold Tr.gZ;rw[aJ h,aJ (show(Tr.eY x i).kind=2 from h),Tr.ru];obtain⟨l,hl⟩:∃l,x.size=l+1:=⟨x.size-1,bG⟩;rw[hl,show l+1-1=l by omega];show gy (λj=>fQ ((Tr.eY x i).db j) n) l+fQ (x.db i) n=gy (λj=>fQ (x.db j) n) l+fQ (x.db l) n;by_cases c:i=l
 .subst c;rw[nY (λj hj=>by rw[Tr.qv bG,nJ])]
 .have a:=xM (f:=λj=>fQ ((Tr.eY x i).db j) n) (g:=λj=>fQ (x.db j) n) (p:=i) (n:=l) bG (λj hj hne=>by show fQ _ n=fQ _ n;rw[Tr.qv bG,aI hne]);have e:(Tr.eY x i).db i=x.db l:=by rw[Tr.qv bG,aJ rfl,hl];rfl
  simp only[e]at a;omega
theorem Tr.zY(F:Fo)(p:Nat)(x:Nd)(n:Nat)(hp:p<40):Tr.cY (F.put p x) n+Tr.gZ (F.nd p) n=Tr.cY F n+Tr.gZ x n:=by
 have a:=xM (f:=λm=>Tr.gZ ((F.put p x).nd m) n) (g:=λm=>Tr.gZ (F.nd m) n) (p:=p) (n:=40) hp (λi _ hne=>by show Tr.gZ ((F.put p x).nd i) n=Tr.gZ (F.nd i) n;rw[Tr.cr _ _ _ _ hne]);simp only[Tr.bR]at a;unfold Tr.cY;have r:Tr.pK (F.put p x) n=Tr.pK F n:=rfl;rw[r];omega
theorem Tr.jz(F:Fo)(p:Nat)(x:Nd)(n:Nat)(hp:p<40)(h:Tr.gZ x n=Tr.gZ (F.nd p) n):Tr.cY (F.put p x) n=Tr.cY F n:=by
 have:=Tr.zY F p x n hp;omega
theorem Tr.zX(hm:m<40)(h2:(F.nd m).kind=2)(hi:i<(F.nd m).size):1<=Tr.cY F ((F.nd m).db i):=by
 have a:=wv (f:=λq=>Tr.gZ (F.nd q) ((F.nd m).db i)) hm;grind [wv,Tr.gZ,fQ,iO,gy,Tr.cY]
theorem Tr.uG(h:Tr.cY F n=0):(∀m i,m<40->(F.nd m).kind=2->i<(F.nd m).size->(F.nd m).db i≠n)/\∀t,t<F.trees->F.root t≠n:=by grind [Tr.zX,wv,fQ,iO,Tr.pK,gy,Tr.cY]
theorem Tr.Qw(x:Nd)(n:Nat)(h:x.kind=2->x.size<=8):Tr.gZ x n<=8:=by
 unfold Tr.gZ;split
 .rename_i c;have:∀k,gy (λi=>fQ (x.db i) n) k<=k:=λk=>by
   induction k with
   |zero=>exact aL _
   |succ k ih=>show gy _ k+fQ _ n<=_;have:fQ (x.db k) n<=1:=(by unfold fQ;split<;>omega);omega
  grind
 .omega
structure Tr.Ok (F:Fo):Prop where
 tr:F.trees<=4
 kd:∀n,n<40->(F.nd n).kind<=2
 sz:Tr.kV F
 fz:Tr.uf F
 nb:∀n i,n<40->(F.nd n).kind=2->i<(F.nd n).size->Tr.gq ((F.nd n).eN i)=bE
 dp:∀n,n<40->(F.nd n).kind=2->Tr.Nodup (F.nd n)
 ki:∀n i,n<40->(F.nd n).kind=2->i<(F.nd n).size->(F.nd n).db i<40/\(F.nd ((F.nd n).db i)).kind≠0/\(F.nd ((F.nd n).db i)).tree=(F.nd n).tree/\((F.nd ((F.nd n).db i)).kind=2->(F.nd ((F.nd n).db i)).up=n)
 rt:∀t,t<F.trees->F.root t<40/\(F.nd (F.root t)).kind=2/\(F.nd (F.root t)).up=F.root t/\(F.nd (F.root t)).tree=t
 lk:∀n,n<40->(F.nd n).kind≠0->(F.nd n).cW=Tr.cY F n
 al:∀n,n<40->(F.nd n).kind≠0->1<=(F.nd n).cW+(F.nd n).held
 dr:∀n,n<40->(F.nd n).kind=2->Tr.cY F n=1
 en:∀n,n<40->(F.nd n).kind=2->Tr.dE F 40 n
 ro:∀n,n<40->(F.nd n).kind=2->(F.nd n).up=n->∃t,t<F.trees/\F.root t=n
theorem Tr.Ok.none(h:Tr.Ok F)(k0:(F.nd k).kind=0):Tr.cY F k=0:=by
 unfold Tr.cY Tr.pK;rw[vl (λm hm=>?_),vl (λt ht=>?_)]
 .exact lX (λe=>by have:=(h.rt t ht).2.1;rw[e,k0]at this;exact aZ this bM)
 .unfold Tr.gZ;split
  .rename_i c;exact vl (λi hi=>lX (λe=>by have:=(h.ki m i hm c hi).2.1;rw[e]at this;exact this k0))
  .rfl
theorem Tr.Ok.nP(h:Tr.Ok F)(n:Nat):Tr.cY F n<=324:=by
 have a:∀k,k<=40->gy (λm=>Tr.gZ (F.nd m) n) k<=8*k:=λk hk=>by
  induction k with
  |zero=>exact aL _
  |succ k ih=>
   show gy _ k+Tr.gZ (F.nd k) n<=_;have:=Tr.Qw (F.nd k) n (λc=>h.sz k bG c);omega
 have b:∀k,gy (λt=>fQ (F.root t) n) k<=k:=λk=>by
  induction k with
  |zero=>exact aL _
  |succ k ih=>
   show gy _ k+fQ _ n<=_;have:fQ (F.root k) n<=1:=by unfold fQ;split<;>omega
   omega
 have c1:=a 40 (aL _);have c2:=b F.trees;have c3:=h.tr;unfold Tr.cY Tr.pK;omega
theorem Tr.Ok.Dz(h:Tr.Ok F)(n:Nat)(hn:n<40)(k0:(F.nd n).kind≠0):(F.nd n).cW<=324:=by rw[h.lk n hn k0];exact h.nP n
theorem Tr.Ok.db(h:Tr.Ok F):Tr.Hc F:=λn hn k2 i hi=>by
 obtain⟨h1,h2,_⟩:=h.ki n i hn k2 hi;have:=h.Dz _ h1 h2;exact⟨h1,by rw[h.lk _ h1 h2];exact Tr.zX hn k2 hi,bG⟩
theorem Tr.Gh(n:Nat):(Tr.f0.nd n).kind=0:=rfl
theorem Tr.Vx:Tr.Ok Tr.f0:=by
 have n2:∀n,(Tr.f0.nd n).kind≠2:=λn=>by rw[Tr.Gh];decide
 have n1:∀n,(Tr.f0.nd n).kind≠1:=λn=>by rw[Tr.Gh];decide
 exact⟨aC _,λ_ _=>aC _,λ_ _ h=>aZ h (n2 _),λ_ _ h=>aZ h (n1 _),λ_ _ _ h=>aZ h (n2 _),λ_ _ h=>aZ h (n2 _),λ_ _ _ h=>aZ h (n2 _),λt ht=>aZ ht (Nat.not_lt_zero t),λ_ _ h=>aZ rfl h,λ_ _ h=>aZ rfl h,λ_ _ h=>aZ h (n2 _),λ_ _ h=>aZ h (n2 _),λ_ _ h=>aZ h (n2 _)⟩
theorem Tr.dE.congr{F G:Fo}(h:∀n,(G.nd n).up=(F.nd n).up):∀{m n:Nat},Tr.dE F m n->Tr.dE G m n
 |0,n,hh=>⟨hh.1,by rw[h n];exact hh.2⟩
 |m+1,n,hh=>⟨hh.1,by
  rw[h n];rcases hh.2 with a|a
  .exact .inl a
  .exact .inr (Tr.dE.congr h a)⟩
theorem Tr.Ok.put{F:Fo}(h:Tr.Ok F)(p:Nat)(x:Nd)(hp:p<40)(e1:x.kind=(F.nd p).kind)(e2:x.cW=(F.nd p).cW)(e3:x.tree=(F.nd p).tree)(e4:x.up=(F.nd p).up)(e5:x.kind=2->x.size=(F.nd p).size/\x.eN=(F.nd p).eN/\x.db=(F.nd p).db)(e6:x.kind=1->x.size<=40)(e7:x.kind≠0->1<=x.cW+x.held):Tr.Ok (F.put p x):=by
 have hk:∀n,((F.put p x).nd n).kind=(F.nd n).kind:=λn=>by
  by_cases c:n=p
  .subst c;rw[Tr.bR,e1]
  .rw[Tr.cr _ _ _ _ c]
 have hl:∀n,((F.put p x).nd n).cW=(F.nd n).cW:=λn=>by
  by_cases c:n=p
  .subst c;rw[Tr.bR,e2]
  .rw[Tr.cr _ _ _ _ c]
 have ht:∀n,((F.put p x).nd n).tree=(F.nd n).tree:=λn=>by
  by_cases c:n=p
  .subst c;rw[Tr.bR,e3]
  .rw[Tr.cr _ _ _ _ c]
 have hu:∀n,((F.put p x).nd n).up=(F.nd n).up:=λn=>by
  by_cases c:n=p
  .subst c;rw[Tr.bR,e4]
  .rw[Tr.cr _ _ _ _ c]
 have hd:∀n,(F.nd n).kind=2->((F.put p x).nd n).size=(F.nd n).size/\((F.put p x).nd n).eN=(F.nd n).eN/\((F.put p x).nd n).db=(F.nd n).db:=λn k2=>by
  by_cases c:n=p
  .subst c;rw[Tr.bR];exact e5 (by rw[e1];exact k2)
  .rw[Tr.cr _ _ _ _ c];exact⟨rfl,rfl,rfl⟩
 have hc:∀n,Tr.cY (F.put p x) n=Tr.cY F n:=λn=>Tr.jz F p x n hp (by
  unfold Tr.gZ;by_cases c:x.kind=2
  .grind
  .rw[aI c,aI (by rw[<-e1];exact c)])
 refine⟨h.tr,λn hn=>by rw[hk];exact h.kd n hn,λn hn k2=>?_,λn hn k1=>?_,λn i hn k2 hi=>?_,λn hn k2=>?_,λn i hn k2 hi=>?_,λt htt=>?_,λn hn k0=>?_,λn hn k0=>?_,λn hn k2=>?_,λn hn k2=>?_,λn hn k2 hu2=>?_⟩
 .rw[hk]at k2;rw[(hd n k2).1];exact h.sz n hn k2
 .by_cases c:n=p
  .subst c;rw[Tr.bR]at k1|-;exact e6 k1
  .rw[Tr.cr _ _ _ _ c]at k1|-;exact h.fz n hn k1
 .rw[hk]at k2;rw[(hd n k2).1]at hi;rw[(hd n k2).2.1];exact h.nb n i hn k2 hi
 .rw[hk]at k2;unfold Tr.Nodup;rw[(hd n k2).1,(hd n k2).2.1];exact h.dp n hn k2
 .rw[hk]at k2;rw[(hd n k2).1]at hi;rw[(hd n k2).2.2,hk,ht,ht,hu];exact h.ki n i hn k2 hi
 .show F.root t<40/\_;have:=h.rt t htt;rw[hk,hu,ht];exact this
 .rw[hk]at k0;rw[hl,hc];exact h.lk n hn k0
 .by_cases c:n=p
  .subst c;rw[Tr.bR]at k0|-;exact e7 k0
  .rw[Tr.cr _ _ _ _ c]at k0|-;exact h.al n hn k0
 .rw[hk]at k2;rw[hc];exact h.dr n hn k2
 .rw[hk]at k2;exact(h.en n hn k2).congr hu
 .rw[hk]at k2;rw[hu]at hu2;exact h.ro n hn k2 hu2
theorem Tr.Ok.BJ(h:Tr.Ok F)(z a:Int)(s:bU):Tr.Ok (Tr.eX F z a s):=by
 unfold Tr.eX;split
 .rename_i c;have c1:Tr.cQ F z 1=0:=by
   rcases Classical.em (Tr.cQ F z 1=0)with d|d
   .exact d
   .have:=c.1;unfold Tr.dQ at this;rw[aJ d]at this;exact this
  obtain⟨n,rfl,n40,_,k1⟩:=Tr.fE c1;have cw:=c.1;unfold Tr.dQ at cw;refine h.put n _ n40 rfl rfl rfl rfl (λk2=>aZ ((show(F.nd n).kind=2 from k2).symm.trans k1) bM) (λ_=>?_) (λk0=>h.al n n40 k0);show max (F.nd n).size (a.toNat+s.size)<=40;have:=h.fz n n40 k1;grind
 .exact h
theorem Tr.PX(ki:∀n i,n<40->(F.nd n).kind=2->i<(F.nd n).size->(F.nd n).db i<40/\(F.nd ((F.nd n).db i)).kind≠0/\(F.nd ((F.nd n).db i)).tree=(F.nd n).tree/\((F.nd ((F.nd n).db i)).kind=2->(F.nd ((F.nd n).db i)).up=n))(k2:(F.nd m).kind=2)(hc:1<=Tr.cY F m):
 (∃t,t<F.trees/\F.root t=m)\/∃i,(F.nd m).up<40/\(F.nd (F.nd m).up).kind=2/\i<(F.nd (F.nd m).up).size/\(F.nd (F.nd m).up).db i=m:=by grind [Tr.pK,xN,fQ,Tr.cY,Tr.gZ]
theorem Tr.dE.on{F G:Fo}(P:Nat->Prop)(h:∀n,P n->(G.nd n).up=(F.nd n).up/\P (F.nd n).up):∀{m n:Nat},P n->Tr.dE F m n->Tr.dE G m n
 |0,n,hp,hh=>⟨hh.1,by rw[(h n hp).1];exact hh.2⟩
 |m+1,n,hp,hh=>⟨hh.1,by
  rw[(h n hp).1];rcases hh.2 with a|a
  .exact .inl a
  .exact .inr (Tr.dE.on P h (h n hp).2 a)⟩
structure Tr.Jt (F:Fo)(k:Nat):Prop where
 tr:F.trees<=4
 kd:∀n,n<40->(F.nd n).kind<=2
 sz:Tr.kV F
 fz:Tr.uf F
 nb:∀n i,n<40->(F.nd n).kind=2->i<(F.nd n).size->Tr.gq ((F.nd n).eN i)=bE
 dp:∀n,n<40->(F.nd n).kind=2->Tr.Nodup (F.nd n)
 ki:∀n i,n<40->(F.nd n).kind=2->i<(F.nd n).size->(F.nd n).db i<40/\(F.nd ((F.nd n).db i)).kind≠0/\(F.nd ((F.nd n).db i)).tree=(F.nd n).tree/\((F.nd ((F.nd n).db i)).kind=2->(F.nd ((F.nd n).db i)).up=n)
 rt:∀t,t<F.trees->F.root t<40/\(F.nd (F.root t)).kind=2/\(F.nd (F.root t)).up=F.root t/\(F.nd (F.root t)).tree=t
 lk:∀n,n<40->(F.nd n).kind≠0->(F.nd n).cW=Tr.cY F n+fQ k n
 al:∀n,n<40->(F.nd n).kind≠0->1<=(F.nd n).cW+(F.nd n).held
 dr:∀n,n<40->(F.nd n).kind=2->Tr.cY F n+fQ k n=1
 en:∀n,n<40->(F.nd n).kind=2->n≠k->Tr.dE F 40 n
 ro:∀n,n<40->(F.nd n).kind=2->n≠k->(F.nd n).up=n->∃t,t<F.trees/\F.root t=n
theorem Tr.NV(nk:n≠k):Tr.kY F n s k=(F.put n (Tr.jd (F.nd n) s k)).put k (if(F.nd k).kind=2 then{F.nd k with up:=n}else F.nd k):=by
 have e:(F.put n (Tr.jd (F.nd n) s k)).nd k=F.nd k:=Tr.cr _ _ _ _ (bQ nk);unfold Tr.kY;rw[e];split
 .rfl
 .rw[show(F.put n (Tr.jd (F.nd n) s k)).put k (F.nd k)=(F.put n (Tr.jd (F.nd n) s k)).put k ((F.put n (Tr.jd (F.nd n) s k)).nd k)by rw[e],Tr.DW]
theorem Tr.dE.Cc{F G:Fo}{k:Nat}(h:∀x,x≠k->(G.nd x).up=(F.nd x).up):∀{m x:Nat},Tr.dE F m x->Tr.gQ F k m x=bF->Tr.dE G m x
 |0,x,hh,hb=>by
  have c:x≠k:=λe=>by subst e;rw[Tr.rh]at hb;exact aZ hb bM
  exact⟨hh.1,by rw[h x c];exact hh.2⟩
 |m+1,x,hh,hb=>by
  have c:x≠k:=λe=>by subst e;rw[Tr.rh]at hb;exact aZ hb bM
  refine⟨hh.1,?_⟩;rw[h x c];by_cases d:(F.nd x).up=x
  .exact .inl d
  .rcases hh.2 with a|a
   .exact aZ a d
   .refine .inr (Tr.dE.Cc h a ?_);have hb':(x==k||(!((F.nd x).up==x)&&Tr.gQ F k m (F.nd x).up))=bF:=hb;grind
theorem Tr.dE.jN{F G:Fo}{k t j:Nat}(h:∀x,x≠k->(G.nd x).up=(F.nd x).up)(hk:k<40)(hg:(G.nd k).up=t)(ht:Tr.dE G j t):∀{m x:Nat},Tr.dE F m x->∃m',Tr.dE G m' x
 |0,x,hh=>by
  by_cases c:x=k
  .subst c;exact⟨j+1,hk, .inr (by rw[hg];exact ht)⟩
  .exact⟨0,hh.1,by rw[h x c];exact hh.2⟩
 |m+1,x,hh=>by
  by_cases c:x=k
  .subst c;exact⟨j+1,hk, .inr (by rw[hg];exact ht)⟩
  .rcases hh.2 with a|a
   .exact⟨0,hh.1,by rw[h x c];exact a⟩
   .obtain⟨m',h'⟩:=Tr.dE.jN h hk hg ht a;exact⟨m'+1,hh.1, .inr (by rw[h x c];exact h')⟩
theorem Tr.Jt.lead(h:Tr.Jt F k)(hn:n<40)(hk:k<40)(nk:n≠k)(n2:(F.nd n).kind=2)(k0:(F.nd k).kind≠0)(h8:(F.nd n).size<8)(hs:Tr.gq s=bE)(hp:Tr.fL (F.nd n) s (-1))(ht:(F.nd k).tree=(F.nd n).tree)(hb:(F.nd k).kind=2->Tr.gQ F k 40 n=bF):Tr.Ok (Tr.kY F n s k):=by
 obtain⟨G,hG⟩:=hU (Tr.kY F n s k);rw[hG];rw[Tr.NV nk]at hG;have gn:G.nd n=Tr.jd (F.nd n) s k:=by rw[<-hG,Tr.cr _ _ _ _ nk,Tr.bR]
 have gk:G.nd k=if(F.nd k).kind=2 then{F.nd k with up:=n}else F.nd k:=by rw[<-hG,Tr.bR]
 have go:∀x,x≠n->x≠k->G.nd x=F.nd x:=λx c1 c2=>by rw[<-hG,Tr.cr _ _ _ _ c2,Tr.cr _ _ _ _ c1]
 have gtr:G.trees=F.trees:=by rw[<-hG];rfl
 have grt:∀t,G.root t=F.root t:=λt=>by rw[<-hG];rfl
 have all:∀x,(G.nd x).kind=(F.nd x).kind/\(G.nd x).cW=(F.nd x).cW/\(G.nd x).held=(F.nd x).held/\(G.nd x).tree=(F.nd x).tree:=λx=>by
  by_cases c1:x=n
  .subst c1;rw[gn];exact⟨rfl,rfl,rfl,rfl⟩
  .by_cases c2:x=k
   .subst c2;rw[gk];split<;>exact⟨rfl,rfl,rfl,rfl⟩
   .rw[go x c1 c2];exact⟨rfl,rfl,rfl,rfl⟩
 have rm:∀x,x≠n->(G.nd x).size=(F.nd x).size/\(G.nd x).eN=(F.nd x).eN/\(G.nd x).db=(F.nd x).db:=λx c1=>by
  by_cases c2:x=k
  .subst c2;rw[gk];split<;>exact⟨rfl,rfl,rfl⟩
  .rw[go x c1 c2];exact⟨rfl,rfl,rfl⟩
 have hup:∀x,x≠k->(G.nd x).up=(F.nd x).up:=λx c2=>by
  by_cases c1:x=n
  .subst c1;rw[gn];rfl
  .rw[go x c1 c2]
 have hupk:(F.nd k).kind=2->(G.nd k).up=n:=λk2=>by rw[gk,aJ k2]
 have cY:∀x,Tr.cY G x=Tr.cY F x+fQ k x:=λx=>by
  have a:=Tr.zY F n (Tr.jd (F.nd n) s k) x hn;rw[Tr.Qu s k x n2]at a;have b:=Tr.jz (F.put n (Tr.jd (F.nd n) s k)) k (if(F.nd k).kind=2 then{F.nd k with up:=n}else F.nd k) x hk (by
   rw[Tr.cr _ _ _ _ (bQ nk)];split<;>rfl)
  rw[hG]at b;omega
 have upk:∀q i,q<40->(F.nd q).kind=2->i<(F.nd q).size->(F.nd q).db i=k->(F.nd k).kind≠2:=λq i hq q2 hi e k2=>by
  have a:=Tr.zX hq q2 hi;have b:=h.dr k hk k2;rw[e]at a;rw[iO]at b;omega
 have rtk:∀t,t<F.trees->F.root t≠k:=λt htt e=>by
  have k2:=(h.rt t htt).2.1;rw[e]at k2;have b:=h.dr k hk k2;rw[iO]at b;exact(Tr.uG (show Tr.cY F k=0 by omega)).2 t htt e
 refine⟨by rw[gtr];exact h.tr,λx hx=>by rw[(all x).1];exact h.kd x hx,λx hx k2=>?_,λx hx k1=>?_,λx i hx k2 hi=>?_,λx hx k2=>?_,λx i hx k2 hi=>?_,λt htt=>?_,λx hx kx=>?_,λx hx kx=>?_,λx hx k2=>?_,λx hx k2=>?_,λx hx k2 hu2=>?_⟩
 .rw[(all x).1]at k2;by_cases c:x=n
  .subst c;rw[gn,Tr.qh];omega
  .rw[(rm x c).1];exact h.sz x hx k2
 .rw[(all x).1]at k1;by_cases c:x=n
  .subst c;rw[n2]at k1;exact aZ k1 bM
  .rw[(rm x c).1];exact h.fz x hx k1
 .rw[(all x).1]at k2;by_cases c:x=n
  .subst c;rw[gn,Tr.qh]at hi;rw[gn];by_cases d:i=(F.nd x).size
   .subst d;rw[(Tr.sS _ _ _).1];exact hs
   .rw[(Tr.vR bG).1];exact h.nb x i hx k2 bG
  .rw[(rm x c).1]at hi;rw[(rm x c).2.1];exact h.nb x i hx k2 hi
 .rw[(all x).1]at k2;by_cases c:x=n
  .subst c;rw[gn];exact(h.dp x hx k2).jd hp
  .unfold Tr.Nodup;rw[(rm x c).1,(rm x c).2.1];exact h.dp x hx k2
 .rw[(all x).1]at k2;have old:∀q,(F.nd q).kind=2->q<40->∀i,i<(F.nd q).size->(F.nd q).db i<40/\(G.nd ((F.nd q).db i)).kind≠0/\(G.nd ((F.nd q).db i)).tree=(G.nd q).tree/\((G.nd ((F.nd q).db i)).kind=2->(G.nd ((F.nd q).db i)).up=q):=λq q2 hq i hi=>by
   obtain⟨a1,a2,a3,a4⟩:=h.ki q i hq q2 hi;grind
  by_cases c:x=n
  .subst c;have gnk:∀i,(G.nd x).db i=(Tr.jd (F.nd x) s k).db i:=λi=>by rw[gn]
   have hi':i<(F.nd x).size+1:=by rw[gn,Tr.qh]at hi;exact hi
   rw[gnk];by_cases d:i=(F.nd x).size
   .subst d;rw[(Tr.sS _ _ _).2,(all k).1,(all k).2.2.2,(all x).2.2.2];exact⟨hk,k0,ht,hupk⟩
   .rw[(Tr.vR bG).2];exact old x k2 hx i bG
  .rw[(rm x c).1]at hi;rw[(rm x c).2.2];exact old x k2 hx i hi
 .rw[gtr]at htt;rw[grt,(all _).1,(all _).2.2.2,hup _ (rtk t htt)];exact h.rt t htt
 .rw[(all x).1]at kx;rw[(all x).2.1,cY];exact h.lk x hx kx
 .rw[(all x).1]at kx;rw[(all x).2.1,(all x).2.2.1];exact h.al x hx kx
 .rw[(all x).1]at k2;rw[cY];exact h.dr x hx k2
 .rw[(all x).1]at k2;by_cases kk:(F.nd k).kind=2
  .have hnE:=(h.en n hn n2 nk).Cc hup (hb kk);by_cases c:x=k
   .subst c;exact Tr.dE.Ia (m:=41) ⟨hk, .inr (by rw[hupk kk];exact hnE)⟩
   .obtain⟨m',h'⟩:=Tr.dE.jN hup hk (hupk kk) hnE (h.en x hx k2 c);exact h'.Ia
  .have c:x≠k:=λe=>by rw[e]at k2;exact kk k2
   refine(h.en x hx k2 c).congr (λy=>?_);by_cases d:y=k
   .subst d;rw[gk,aI kk]
   .exact hup y d
 .rw[(all x).1]at k2;have c:x≠k:=λe=>by subst e;rw[hupk k2]at hu2;exact nk hu2
  rw[hup x c]at hu2;obtain⟨t,h1,h2⟩:=h.ro x hx k2 c hu2;exact⟨t,by rw[gtr];exact h1,by rw[grt];exact h2⟩
theorem Tr.Ok.forget(h:Tr.Ok F)(hn:n<40)(n2:(F.nd n).kind=2)(hi:i<(F.nd n).size):Tr.Jt (F.put n (Tr.eY (F.nd n) i)) ((F.nd n).db i):=by
 obtain⟨G,hG⟩:=hU (F.put n (Tr.eY (F.nd n) i));obtain⟨k,hk⟩:=hU ((F.nd n).db i);rw[hG,hk];have gn:G.nd n=Tr.eY (F.nd n) i:=by rw[<-hG,Tr.bR]
 have go:∀x,x≠n->G.nd x=F.nd x:=λx c=>by rw[<-hG,Tr.cr _ _ _ _ c]
 have all:∀x,(G.nd x).kind=(F.nd x).kind/\(G.nd x).cW=(F.nd x).cW/\(G.nd x).held=(F.nd x).held/\(G.nd x).tree=(F.nd x).tree/\(G.nd x).up=(F.nd x).up:=λx=>by
  by_cases c:x=n
  .subst c;rw[gn];exact⟨rfl,rfl,rfl,rfl,rfl⟩
  .rw[go x c];exact⟨rfl,rfl,rfl,rfl,rfl⟩
 have cY:∀x,Tr.cY G x+fQ k x=Tr.cY F x:=λx=>by
  have a:=Tr.zY F n (Tr.eY (F.nd n) i) x hn;have b:=Tr.MZ (x:=F.nd n) (i:=i) x n2 hi;rw[hG]at a;rw[hk]at b;omega
 have was:∀x j,(F.nd x).kind=2->j<(G.nd x).size->∃q,q<(F.nd x).size/\(G.nd x).eN j=(F.nd x).eN q/\(G.nd x).db j=(F.nd x).db q:=λx j _ hj=>by
  by_cases c:x=n
  .subst c;rw[gn]at hj|-;rw[Tr.ru]at hj;obtain⟨q,h1,_,h3,h4⟩:=Tr.Nj hi hj;exact⟨q,h1,h3,h4⟩
  .rw[go x c]at hj|-;exact⟨j,hj,rfl,rfl⟩
 have gtr:G.trees=F.trees:=by rw[<-hG];rfl
 have grt:∀t,G.root t=F.root t:=λt=>by rw[<-hG];rfl
 refine⟨by rw[gtr];exact h.tr,λx hx=>by rw[(all x).1];exact h.kd x hx,λx hx k2=>?_,λx hx k1=>?_,λx j hx k2 hj=>?_,λx hx k2=>?_,λx j hx k2 hj=>?_,λt htt=>?_,λx hx kx=>?_,λx hx kx=>?_,λx hx k2=>?_,λx hx k2 _=>?_,λx hx k2 _ hu2=>?_⟩
 .rw[(all x).1]at k2;by_cases c:x=n
  .subst c;rw[gn,Tr.ru];have:=h.sz x hx k2;omega
  .rw[go x c];exact h.sz x hx k2
 .rw[(all x).1]at k1;by_cases c:x=n
  .subst c;rw[n2]at k1;exact aZ k1 bM
  .rw[go x c];exact h.fz x hx k1
 .rw[(all x).1]at k2;obtain⟨q,h1,h2,_⟩:=was x j k2 hj;rw[h2];exact h.nb x q hx k2 h1
 .rw[(all x).1]at k2;by_cases c:x=n
  .subst c;rw[gn];exact(h.dp x hx k2).eY hi
  .rw[go x c];exact h.dp x hx k2
 .rw[(all x).1]at k2;obtain⟨q,h1,_,h3⟩:=was x j k2 hj;rw[h3,(all _).1,(all _).2.2.2.1,(all x).2.2.2.1,(all _).2.2.2.2];exact h.ki x q hx k2 h1
 .rw[gtr]at htt;rw[grt,(all _).1,(all _).2.2.2.1,(all _).2.2.2.2];exact h.rt t htt
 .rw[(all x).1]at kx;rw[(all x).2.1,cY];exact h.lk x hx kx
 .rw[(all x).1]at kx;rw[(all x).2.1,(all x).2.2.1];exact h.al x hx kx
 .rw[(all x).1]at k2;rw[cY];exact h.dr x hx k2
 .rw[(all x).1]at k2;exact(h.en x hx k2).congr (λy=>(all y).2.2.2.2)
 .rw[(all x).1]at k2;rw[(all x).2.2.2.2]at hu2;obtain⟨t,h1,h2⟩:=h.ro x hx k2 hu2;grind
theorem Tr.yy{F G:Fo}{o:Nat}(h:∀x,(G.nd x).up=(F.nd x).up):∀m x,Tr.gQ G o m x=Tr.gQ F o m x
 |0,_=>rfl
 |m+1,x=>by
  show(x==o||(!((G.nd x).up==x)&&Tr.gQ G o m (G.nd x).up))=(x==o||(!((F.nd x).up==x)&&Tr.gQ F o m (F.nd x).up));rw[h x,Tr.yy h m]
theorem Tr.Ok.Tn(h:Tr.Ok F){o:bU}(hm:Tr.Hd F z s y o E G):Tr.Ok G:=by
 obtain⟨K,e,hf,⟨_,_,rfl⟩|⟨rfl,hm⟩⟩:=hm
 .exact h
 rcases hm with⟨_,_,rfl⟩|⟨ey,hm⟩
 .exact h
 rcases hm with⟨_,_,rfl⟩|⟨et,hm⟩
 .exact h
 rcases hm with⟨_,_,rfl⟩|⟨hb,i,hpl,e2,hr,hm⟩
 .exact h
 rcases hm with⟨_,_,rfl⟩|⟨rfl,_,rfl⟩
 .exact h
 obtain⟨n,i',rfl,n40,n2,hp,hK⟩:=hf.ok;obtain⟨t,rfl,t40,_,t2⟩:=Tr.fE ey;rw[hZ]at hb hpl hr et|-;rw[hZ]at hr et|-;have ii:i=i':=by have:=hpl.unique hp;omega
 subst ii;have hi:=hp.lt;have hx:=h.forget n40 n2 hi;rw[<-hK]at hx;obtain⟨k40,kk0,ktr,_⟩:=h.ki n i n40 n2 hi;rw[<-hK]at k40 kk0 ktr;have al:∀x,((F.put n (Tr.eY (F.nd n) i)).nd x).kind=(F.nd x).kind/\((F.put n (Tr.eY (F.nd n) i)).nd x).tree=(F.nd x).tree/\((F.put n (Tr.eY (F.nd n) i)).nd x).up=(F.nd x).up:=λx=>by
  by_cases c:x=n
  .subst c;rw[Tr.bR];exact⟨rfl,rfl,rfl⟩
  .rw[Tr.cr _ _ _ _ c];exact⟨rfl,rfl,rfl⟩
 have tk:t≠K:=λc=>by subst c;rw[Tr.rh]at hb;exact aZ hb bM
 obtain⟨hnm,h8⟩:=hr.ok;refine hx.lead t40 k40 tk (by rw[(al t).1];exact t2) (by rw[(al K).1];exact kk0) ?_ hnm ?_ (by rw[(al K).2.1,(al t).2.1,ktr,et]) (λ_=>by rw[Tr.yy (λx=>(al x).2.2)];exact hb)
 .have:=hx.sz t t40 (by rw[(al t).1];exact t2);omega
 .rcases hr with⟨_,q⟩|⟨_,⟨_,_,q⟩|⟨q,_⟩⟩
  .exact aZ q bM
  .omega
  .exact q
theorem Tr.Ok.Te(h:Tr.Ok F)(hm:Tr.BY F y z s E G):Tr.Ok G:=by
 rcases hm with⟨_,_,rfl⟩|⟨ey,e,hw,hm⟩
 .exact h
 rcases hm with⟨_,_,rfl⟩|⟨rfl,hm⟩
 .exact h
 rcases hm with⟨_,_,rfl⟩|⟨et,_,rfl⟩
 .exact h
 obtain⟨k,rfl,k40,_,k1⟩:=Tr.fE ey;obtain⟨n,rfl,n40,n2,hnm,hp,h8⟩:=hw.ok;rw[hZ,hZ]at et|-;unfold Tr.Ai;obtain⟨F',hF'⟩:∃F',F.put k {F.nd k with cW:=(F.nd k).cW+1}=F':=⟨_,rfl⟩;rw[hF'];have nk:n≠k:=λe=>by rw[e,k1]at n2;exact aZ n2 bM
 have gk:F'.nd k={F.nd k with cW:=(F.nd k).cW+1}:=by rw[<-hF',Tr.bR]
 have go:∀x,x≠k->F'.nd x=F.nd x:=λx c=>by rw[<-hF',Tr.cr _ _ _ _ c]
 have al:∀x,(F'.nd x).kind=(F.nd x).kind/\(F'.nd x).size=(F.nd x).size/\(F'.nd x).eN=(F.nd x).eN/\(F'.nd x).db=(F.nd x).db/\(F'.nd x).tree=(F.nd x).tree/\(F'.nd x).up=(F.nd x).up/\(F'.nd x).held=(F.nd x).held:=λx=>by
  grind
 have hl:∀x,(F'.nd x).cW=(F.nd x).cW+fQ k x:=λx=>by
  by_cases c:x=k
  .subst c;rw[gk,iO]
  .rw[go x c,lX (bQ c)];rfl
 have cY:∀x,Tr.cY F' x=Tr.cY F x:=λx=>by
  rw[<-hF'];exact Tr.jz F k _ x k40 rfl
 have hx:Tr.Jt F' k:=by
  refine⟨by rw[<-hF'];exact h.tr,λx hx=>by rw[(al x).1];exact h.kd x hx,λx hx k2=>?_,λx hx k1=>?_,λx j hx k2 hj=>?_,λx hx k2=>?_,λx j hx k2 hj=>?_,λt htt=>?_,λx hx kx=>?_,λx hx kx=>?_,λx hx k2=>?_,λx hx k2 _=>?_,λx hx k2 _ hu2=>?_⟩
  .rw[(al x).1]at k2;rw[(al x).2.1];exact h.sz x hx k2
  .rw[(al x).1]at k1;rw[(al x).2.1];exact h.fz x hx k1
  .rw[(al x).1]at k2;rw[(al x).2.1]at hj;rw[(al x).2.2.1];exact h.nb x j hx k2 hj
  .rw[(al x).1]at k2;unfold Tr.Nodup;rw[(al x).2.1,(al x).2.2.1];exact h.dp x hx k2
  .rw[(al x).1]at k2;rw[(al x).2.1]at hj;rw[(al x).2.2.2.1,(al _).1,(al _).2.2.2.2.1,(al x).2.2.2.2.1,(al _).2.2.2.2.2.1];exact h.ki x j hx k2 hj
  .have a:=h.rt t (by rw[<-hF']at htt;exact htt);have e:F'.root t=F.root t:=by rw[<-hF'];rfl
   rw[e,(al _).1,(al _).2.2.2.2.1,(al _).2.2.2.2.2.1];exact a
  .rw[(al x).1]at kx;rw[hl,cY,h.lk x hx kx]
  .rw[(al x).1]at kx;rw[hl,(al x).2.2.2.2.2.2];have:=h.al x hx kx;omega
  .rw[(al x).1]at k2;rw[cY,lX (λe=>by rw[<-e,k1]at k2;exact aZ k2 bM),Nat.add_zero];exact h.dr x hx k2
  .rw[(al x).1]at k2;exact(h.en x hx k2).congr (λy=>(al y).2.2.2.2.2.1)
  .rw[(al x).1]at k2;rw[(al x).2.2.2.2.2.1]at hu2;obtain⟨t,h1,h2⟩:=h.ro x hx k2 hu2;exact⟨t,by rw[<-hF'];exact h1,by rw[<-hF'];exact h2⟩
 have n8:=h.sz n n40 n2;refine hx.lead n40 k40 nk (by rw[(al n).1];exact n2) (by rw[(al k).1,k1];decide) (by rw[(al n).2.1];omega) hnm (by rw[go n nk];exact hp) (by rw[(al k).2.2.2.2.1,(al n).2.2.2.2.1];exact et) (λk2=>by rw[(al k).1,k1]at k2;exact aZ k2 bM)
theorem Tr.Ok.Gi{F G:Fo}(h:Tr.Ok F){k:Nat}(k0:(F.nd k).kind=0)(hu:∀x,x≠k->(G.nd x).up=(F.nd x).up):∀m x,x<40->(F.nd x).kind=2->Tr.gQ G k m x=bF
 |0,x,_,k2=>by
  show(x==k)=bF;grind
 |m+1,x,hx,k2=>by
  have c:x≠k:=λe=>by rw[e,k0]at k2;exact aZ k2 bM
  show(x==k||(!((G.nd x).up==x)&&Tr.gQ G k m (G.nd x).up))=bF;rw[show(x==k)=bF from by simpa using c,hu x c];by_cases d:(F.nd x).up=x
  .rw[d];simp
  .rcases Tr.PX h.ki k2 (by rw[h.dr x hx k2];exact aL _)with⟨t,ht,e⟩|⟨i,h1,h2,_,_⟩
   .have:=(h.rt t ht).2.2.1;rw[e]at this;exact aZ this d
   .rw[Tr.Ok.Gi h k0 hu m _ h1 h2];simp
theorem Tr.Ok.Ti(h:Tr.Ok F){kz:Int}{K:Nat}(hm:Tr.sQ F z s kz K E G):Tr.Ok G:=by
 rcases hm with⟨_,_,_,_,rfl⟩|⟨hkz,e,hw,hm⟩
 .exact h
 rcases hm with⟨_,_,_,rfl⟩|⟨rfl,k,e2,hf,hm⟩
 .exact h
 rcases hm with⟨_,_,_,rfl⟩|⟨rfl,_,_,rfl⟩
 .exact h
 obtain⟨n,rfl,n40,n2,hnm,hp,h8⟩:=hw.ok;obtain⟨kd,hkd,hkd2⟩:∃kd:Nat,kz.toNat=kd/\(kd=1\/kd=2):=⟨kz.toNat,rfl,bG⟩;rw[hZ,hkd];obtain⟨k40,k0⟩:k<40/\(F.nd k).kind=0:=by
  rcases hf with⟨_,h1,h2,_⟩|⟨h1,_⟩
  .exact⟨h1,h2⟩
  .omega
 unfold Tr.jV;obtain⟨F',hF'⟩:∃F',F.put k (fq kd (F.nd n).tree 0)=F':=⟨_,rfl⟩;rw[hF'];have nk:n≠k:=λe=>by rw[e,k0]at n2;exact aZ n2 bM
 have gk:F'.nd k=fq kd (F.nd n).tree 0:=by rw[<-hF',Tr.bR]
 have go:∀x,x≠k->F'.nd x=F.nd x:=λx c=>by rw[<-hF',Tr.cr _ _ _ _ c]
 have cY:∀x,Tr.cY F' x=Tr.cY F x:=λx=>by
  rw[<-hF'];refine Tr.jz F k _ x k40 ?_;rw[Tr.zW (x:=F.nd k) x (by rw[k0];decide)];unfold Tr.gZ;split<;>rfl
 have hc0:=h.none k0;have kne:∀x i,x<40->(F.nd x).kind=2->i<(F.nd x).size->(F.nd x).db i≠k:=(λx i hx k2 hi=>(Tr.uG hc0).1 x i hx k2 hi);have rne:∀t,t<F.trees->F.root t≠k:=(Tr.uG hc0).2;have sz0:(F'.nd k).size=0:=by rw[gk];rfl
 have hx:Tr.Jt F' k:=by
  refine⟨by rw[<-hF'];exact h.tr,λx hx=>?_,λx hx k2=>?_,λx hx k1=>?_,λx j hx k2 hj=>?_,λx hx k2=>?_,λx j hx k2 hj=>?_,λt htt=>?_,λx hx kx=>?_,λx hx kx=>?_,λx hx k2=>?_,λx hx k2 c=>?_,λx hx k2 c hu2=>?_⟩
  .by_cases c:x=k
   .subst c;rw[gk];show kd<=2;omega
   .rw[go x c];exact h.kd x hx
  .by_cases c:x=k
   .grind
   .rw[go x c]at k2|-;exact h.sz x hx k2
  .by_cases c:x=k
   .subst c;rw[sz0];exact aC _
   .rw[go x c]at k1|-;exact h.fz x hx k1
  .by_cases c:x=k
   .subst c;rw[sz0]at hj;omega
   .rw[go x c]at k2 hj|-;exact h.nb x j hx k2 hj
  .by_cases c:x=k
   .subst c;intro a b _ hb;rw[sz0]at hb;omega
   .rw[go x c]at k2|-;exact h.dp x hx k2
  .by_cases c:x=k
   .subst c;rw[sz0]at hj;omega
   .rw[go x c]at k2 hj|-;rw[go _ (kne x j hx k2 hj)];exact h.ki x j hx k2 hj
  .have htt':t<F.trees:=by rw[<-hF']at htt;exact htt
   have e:F'.root t=F.root t:=by rw[<-hF'];rfl
   rw[e,go _ (rne t htt')];exact h.rt t htt'
  .by_cases c:x=k
   .subst c;rw[gk,cY,hc0,iO];rfl
   .rw[go x c]at kx|-;rw[cY,lX (bQ c)];exact h.lk x hx kx
  .by_cases c:x=k
   .subst c;rw[gk];show 1<=1+0;omega
   .rw[go x c]at kx|-;exact h.al x hx kx
  .by_cases c:x=k
   .subst c;rw[cY,hc0,iO]
   .rw[go x c]at k2;rw[cY,lX (bQ c)];exact h.dr x hx k2
  .rw[go x c]at k2;exact(h.en x hx k2).Cc (k:=k) (λy d=>by rw[go y d]) (h.Gi k0 (λ_ _=>rfl) 40 x hx k2)
  .rw[go x c]at k2 hu2;obtain⟨t,h1,h2⟩:=h.ro x hx k2 hu2;exact⟨t,by rw[<-hF'];exact h1,by rw[<-hF'];exact h2⟩
 have n8:=h.sz n n40 n2;refine hx.lead n40 k40 nk (by rw[go n nk];exact n2) (by rw[gk];show kd≠0;omega) (by rw[go n nk];omega) hnm (by rw[go n nk];exact hp) (by rw[gk,go n nk];rfl) (λ_=>h.Gi k0 (λy d=>by rw[go y d]) 40 n n40 n2)
theorem Tr.Ok.dO{F:Fo}(h:Tr.Ok F)(z:Int):Tr.Ok (Tr.dO F z):=by
 unfold Tr.dO;split
 .rename_i c;obtain⟨n,rfl,n40,_⟩:=Tr.ic c;exact h.put n _ n40 rfl rfl rfl rfl (λ_=>⟨rfl,rfl,rfl⟩) (λk1=>h.fz n n40 k1) (λk0=>by show 1<=(F.nd n).cW+((F.nd n).held+1);omega)
 .exact h
theorem Tr.erase(hk:k<40)(tr:F.trees<=4)(kd:∀n,n<40->(F.nd n).kind<=2)(sz:Tr.kV F)(fz:Tr.uf F)
  (nb:∀n i,n<40->(F.nd n).kind=2->i<(F.nd n).size->Tr.gq ((F.nd n).eN i)=bE)
  (dp:∀n,n<40->(F.nd n).kind=2->Tr.Nodup (F.nd n))
  (ki:∀n i,n<40->(F.nd n).kind=2->i<(F.nd n).size->(F.nd n).db i<40/\(F.nd ((F.nd n).db i)).kind≠0/\(F.nd ((F.nd n).db i)).tree=(F.nd n).tree/\((F.nd ((F.nd n).db i)).kind=2->(F.nd ((F.nd n).db i)).up=n))
  (rt:∀t,t<F.trees->F.root t<40/\(F.nd (F.root t)).kind=2/\(F.nd (F.root t)).up=F.root t/\(F.nd (F.root t)).tree=t)
  (lk:∀n,n<40->(F.nd n).kind≠0->n≠k->(F.nd n).cW=Tr.cY F n)
  (al:∀n,n<40->(F.nd n).kind≠0->n≠k->1<=(F.nd n).cW+(F.nd n).held)
  (dr:∀n,n<40->(F.nd n).kind=2->n≠k->Tr.cY F n=1)
  (en:∀n,n<40->(F.nd n).kind=2->n≠k->Tr.dE F 40 n)
  (ro:∀n,n<40->(F.nd n).kind=2->n≠k->(F.nd n).up=n->∃t,t<F.trees/\F.root t=n)
  (c0:Tr.cY F k=0) (z0:(F.nd k).kind=2->(F.nd k).size=0):Tr.Ok (F.put k Nd.no):=by
 obtain⟨G,hG⟩:=hU (F.put k Nd.no);rw[hG];have gk:G.nd k=Nd.no:=by rw[<-hG,Tr.bR]
 have gk0:(G.nd k).kind=0:=by rw[gk];rfl
 have go:∀x,x≠k->G.nd x=F.nd x:=λx c=>by rw[<-hG,Tr.cr _ _ _ _ c]
 have cY:∀x,Tr.cY G x=Tr.cY F x:=λx=>by
  rw[<-hG];refine Tr.jz F k _ x hk ?_;rw[Tr.zW (x:=Nd.no) x bM];unfold Tr.gZ;split
  .rename_i c;rw[z0 c];rfl
  .rfl
 obtain⟨kne,rne⟩:=Tr.uG c0;have n2:∀{x},(G.nd x).kind=2->x≠k:=λ{x} k2 c=>by subst c;rw[gk0]at k2;exact aZ k2 bM
 have n0:∀{x},(G.nd x).kind≠0->x≠k:=λ{x} kx c=>by subst c;exact kx gk0
 refine⟨by rw[<-hG];exact tr,λx hx=>?_,λx hx k2=>?_,λx hx k1=>?_,λx j hx k2 hj=>?_,λx hx k2=>?_,λx j hx k2 hj=>?_,λt htt=>?_,λx hx kx=>?_,λx hx kx=>?_,λx hx k2=>?_,λx hx k2=>?_,λx hx k2 hu2=>?_⟩
 .by_cases c:x=k
  .subst c;rw[gk0];exact aC _
  .rw[go x c];exact kd x hx
 .have c:=n2 k2;rw[go x c]at k2|-;exact sz x hx k2
 .have c:x≠k:=λe=>by subst e;rw[gk0]at k1;exact aZ k1 bM
  rw[go x c]at k1|-;exact fz x hx k1
 .have c:=n2 k2;rw[go x c]at k2 hj|-;exact nb x j hx k2 hj
 .have c:=n2 k2;rw[go x c]at k2|-;exact dp x hx k2
 .grind
 .have htt':t<F.trees:=by rw[<-hG]at htt;exact htt
  have e:G.root t=F.root t:=by rw[<-hG];rfl
  rw[e,go _ (rne t htt')];exact rt t htt'
 .have c:=n0 kx;rw[go x c]at kx|-;rw[cY];exact lk x hx kx c
 .have c:=n0 kx;rw[go x c]at kx|-;exact al x hx kx c
 .have c:=n2 k2;rw[go x c]at k2;rw[cY];exact dr x hx k2 c
 .have c:=n2 k2;rw[go x c]at k2;refine Tr.dE.on (F:=F) (G:=G) (λy=>y<40/\(F.nd y).kind=2/\y≠k) (λy hy=>?_) ⟨hx,k2,c⟩ (en x hx k2 c);refine⟨by rw[go y hy.2.2],?_⟩;rcases Tr.PX ki hy.2.1 (by rw[dr y hy.1 hy.2.1 hy.2.2];exact aL _)with⟨t,ht,e⟩|⟨i,h1,h2,h3,_⟩
  .have:=(rt t ht).2.2.1;rw[e]at this;rw[this];exact hy
  .refine⟨h1,h2,λe=>?_⟩;rw[e]at h2 h3;rw[z0 h2]at h3;omega
 .have c:=n2 k2;rw[go x c]at k2 hu2;obtain⟨t,h1,h2⟩:=ro x hx k2 c hu2;exact⟨t,by rw[<-hG];exact h1,by rw[<-hG];exact h2⟩
theorem Tr.Ok.dF{F:Fo}(h:Tr.Ok F)(z:Int):Tr.Ok (Tr.dF F z):=by
 unfold Tr.dF;split
 .rename_i c;have c1:Tr.cM F z=0:=by
   rcases Classical.em (Tr.cM F z=0)with d|d
   .exact d
   .unfold Tr.letE at c;rw[aI d]at c;exact c
  obtain⟨n,rfl,n40,k0⟩:=Tr.ic c1;unfold Tr.letE at c;rw[aJ c1,hZ]at c;unfold Tr.mj;rw[Tr.bR];split
  .rename_i d;have d1:(F.nd n).cW=0:=d.1;rw[Tr.gO];have c0:Tr.cY F n=0:=by rw[<-h.lk n n40 k0];exact d1
   refine Tr.erase n40 h.tr h.kd h.sz h.fz h.nb h.dp h.ki h.rt (λx hx kx _=>h.lk x hx kx) (λx hx kx _=>h.al x hx kx) (λx hx k2 _=>h.dr x hx k2) (λx hx k2 _=>h.en x hx k2) (λx hx k2 _ u=>h.ro x hx k2 u) c0 (λk2=>?_);have:=h.dr n n40 k2;omega
  .rename_i d;refine h.put n _ n40 rfl rfl rfl rfl (λ_=>⟨rfl,rfl,rfl⟩) (λk1=>h.fz n n40 k1) (λ_=>?_);grind
 .exact h
theorem Tr.Ok.rem(h:Tr.Ok F)(hm:Tr.yo F z s E G):Tr.Ok G:=by
 obtain⟨k,e,hf,⟨_,_,rfl⟩|⟨rfl,hm⟩⟩:=hm
 .exact h
 rcases hm with⟨_,_,_,rfl⟩|⟨nbz,_,i,hpl,rfl⟩
 .exact h
 obtain⟨n,i',rfl,n40,n2,hp,hK⟩:=hf.ok;rw[hZ]at hpl|-;have ii:i=i':=by have:=hpl.unique hp;omega
 subst ii;have hi:=hp.lt;have hx:=h.forget n40 n2 hi;rw[<-hK]at hx;obtain⟨k40,kk0,_,_⟩:=h.ki n i n40 n2 hi;rw[<-hK]at k40 kk0;have nk:k≠n:=λe=>nbz ⟨by rw[e];exact n2, .inl (by rw[e];omega)⟩;unfold Tr.xD;obtain⟨F1,hF1⟩:=hU (F.put n (Tr.eY (F.nd n) i));rw[hF1]at hx|-;have gk:F1.nd k=F.nd k:=by rw[<-hF1,Tr.cr _ _ _ _ nk]
 have hl:=hx.lk k k40 (by rw[gk];exact kk0);rw[iO,gk]at hl;have one:∀x,x≠k->fQ k x=0:=λx c=>lX (bQ c);unfold Tr.mj;rw[Tr.bR];split
 .rename_i d;have d1:(F.nd k).cW-1=0:=d.1;rw[Tr.gO];refine Tr.erase k40 hx.tr hx.kd hx.sz hx.fz hx.nb hx.dp hx.ki hx.rt (λx hxx kx c=>by have:=hx.lk x hxx kx;rw[one x c]at this;exact this) (λx hxx kx _=>hx.al x hxx kx) (λx hxx k2 c=>by have:=hx.dr x hxx k2;rw[one x c]at this;exact this) hx.en hx.ro bG (λk2=>?_);grind
 .rename_i d;have d':¬((F.nd k).cW-1=0/\(F1.nd k).held=0):=d;rw[gk]at d';have k1:(F.nd k).kind≠2:=λk2=>by
   have b:=hx.dr k k40 (by rw[gk];exact k2);rw[iO]at b;rcases Nat.eq_zero_or_pos (F.nd k).held with q|q
   .exact d' ⟨by omega,q⟩
   .exact nbz ⟨k2, .inr q⟩
  obtain⟨G,hG⟩:=hU (F1.put k {F1.nd k with cW:=(F.nd k).cW-1});rw[hG];have go:∀x,x≠k->G.nd x=F1.nd x:=λx c=>by rw[<-hG,Tr.cr _ _ _ _ c]
  have al:∀x,(G.nd x).kind=(F1.nd x).kind/\(G.nd x).size=(F1.nd x).size/\(G.nd x).eN=(F1.nd x).eN/\(G.nd x).db=(F1.nd x).db/\(G.nd x).tree=(F1.nd x).tree/\(G.nd x).up=(F1.nd x).up/\(G.nd x).held=(F1.nd x).held:=λx=>by
   by_cases c:x=k
   .subst c;rw[<-hG,Tr.bR];exact⟨rfl,rfl,rfl,rfl,rfl,rfl,rfl⟩
   .rw[go x c];exact⟨rfl,rfl,rfl,rfl,rfl,rfl,rfl⟩
  have gkl:(G.nd k).cW=(F.nd k).cW-1:=by rw[<-hG,Tr.bR]
  have cY:∀x,Tr.cY G x=Tr.cY F1 x:=λx=>by
   rw[<-hG];exact Tr.jz F1 k _ x k40 rfl
  refine⟨by rw[<-hG];exact hx.tr,λx hxx=>by rw[(al x).1];exact hx.kd x hxx,λx hxx k2=>?_,λx hxx k1=>?_,λx j hxx k2 hj=>?_,λx hxx k2=>?_,λx j hxx k2 hj=>?_,λt htt=>?_,λx hxx kx=>?_,λx hxx kx=>?_,λx hxx k2=>?_,λx hxx k2=>?_,λx hxx k2 hu2=>?_⟩
  .rw[(al x).1]at k2;rw[(al x).2.1];exact hx.sz x hxx k2
  .rw[(al x).1]at k1;rw[(al x).2.1];exact hx.fz x hxx k1
  .rw[(al x).1]at k2;rw[(al x).2.1]at hj;rw[(al x).2.2.1];exact hx.nb x j hxx k2 hj
  .rw[(al x).1]at k2;unfold Tr.Nodup;rw[(al x).2.1,(al x).2.2.1];exact hx.dp x hxx k2
  .rw[(al x).1]at k2;rw[(al x).2.1]at hj;rw[(al x).2.2.2.1,(al _).1,(al _).2.2.2.2.1,(al x).2.2.2.2.1,(al _).2.2.2.2.2.1];exact hx.ki x j hxx k2 hj
  .have a:=hx.rt t (by rw[<-hG]at htt;exact htt);have e:G.root t=F1.root t:=by rw[<-hG];rfl
   rw[e,(al _).1,(al _).2.2.2.2.1,(al _).2.2.2.2.2.1];exact a
  .rw[(al x).1]at kx;rw[cY];by_cases c:x=k
   .subst c;rw[gkl];omega
   .rw[go x c];have:=hx.lk x hxx kx;rw[one x c]at this;exact this
  .rw[(al x).1]at kx;by_cases c:x=k
   .subst c;rw[gkl,(al x).2.2.2.2.2.2,gk];omega
   .rw[go x c];exact hx.al x hxx kx
  .rw[(al x).1]at k2;rw[cY];have c:x≠k:=λe=>by rw[e,gk]at k2;exact k1 k2
   have:=hx.dr x hxx k2;rw[one x c]at this;exact this
  .rw[(al x).1]at k2;have c:x≠k:=λe=>by rw[e,gk]at k2;exact k1 k2
   exact(hx.en x hxx k2 c).congr (λy=>(al y).2.2.2.2.2.1)
  .rw[(al x).1]at k2;rw[(al x).2.2.2.2.2.1]at hu2;have c:x≠k:=λe=>by rw[e,gk]at k2;exact k1 k2
   obtain⟨t,h1,h2⟩:=hx.ro x hxx k2 c hu2;exact⟨t,by rw[<-hG];exact h1,by rw[<-hG];exact h2⟩
theorem Tr.Ok.Py(h:Tr.Ok F){T:Nat}(hm:Tr.qY F T E G):Tr.Ok G:=by
 rcases hm with⟨_,_,_,rfl⟩|⟨t4,n,e,hf,hm⟩
 .exact h
 rcases hm with⟨_,_,_,rfl⟩|⟨rfl,_,_,rfl⟩
 .exact h
 obtain⟨n40,k0⟩:n<40/\(F.nd n).kind=0:=by
  rcases hf with⟨_,h1,h2,_⟩|⟨h1,_⟩
  .exact⟨h1,h2⟩
  .omega
 obtain⟨G,hG⟩:=hU (Tr.Ao F n);rw[hG];have gk:G.nd n=fq 2 F.trees n:=by rw[<-hG];exact Tr.bR F n _
 have go:∀x,x≠n->G.nd x=F.nd x:=λx c=>by rw[<-hG];exact Tr.cr F n _ x c
 have gtr:G.trees=F.trees+1:=by rw[<-hG];rfl
 have gro:∀t,t<F.trees->G.root t=F.root t:=λt ht=>by rw[<-hG];exact vz _ _ _ _ bG
 have grn:G.root F.trees=n:=by rw[<-hG];exact qO _ _ _
 have hc0:=h.none k0;obtain⟨kne,rne⟩:=Tr.uG hc0;have cY:∀x,Tr.cY G x=Tr.cY F x+fQ n x:=λx=>by
  have a:Tr.cY (F.put n (fq 2 F.trees n)) x=Tr.cY F x:=by
   refine Tr.jz F n _ x n40 ?_;rw[Tr.zW (x:=F.nd n) x (by rw[k0];decide)];rfl
  have b:Tr.pK G x=Tr.pK F x+fQ n x:=by
   unfold Tr.pK;rw[gtr];show gy (λt=>fQ (G.root t) x) F.trees+fQ (G.root F.trees) x=_;rw[grn,nY (λt ht=>by rw[gro t ht])]
  have c:gy (λm=>Tr.gZ (G.nd m) x) 40=gy (λm=>Tr.gZ ((F.put n (fq 2 F.trees n)).nd m) x) 40:=by rw[<-hG];rfl
  have d:Tr.pK (F.put n (fq 2 F.trees n)) x=Tr.pK F x:=rfl;unfold Tr.cY at a|-;omega
 have sz0:(G.nd n).size=0:=by rw[gk];rfl
 have h4:=h.tr;refine⟨by rw[gtr];omega,λx hx=>?_,λx hx k2=>?_,λx hx k1=>?_,λx j hx k2 hj=>?_,λx hx k2=>?_,λx j hx k2 hj=>?_,λt htt=>?_,λx hx kx=>?_,λx hx kx=>?_,λx hx k2=>?_,λx hx k2=>?_,λx hx k2 hu2=>?_⟩
 .by_cases c:x=n
  .subst c;rw[gk];exact aL _
  .rw[go x c];exact h.kd x hx
 .by_cases c:x=n
  .subst c;rw[sz0];exact aC _
  .rw[go x c]at k2|-;exact h.sz x hx k2
 .by_cases c:x=n
  .subst c;rw[sz0];exact aC _
  .rw[go x c]at k1|-;exact h.fz x hx k1
 .by_cases c:x=n
  .subst c;rw[sz0]at hj;omega
  .rw[go x c]at k2 hj|-;exact h.nb x j hx k2 hj
 .by_cases c:x=n
  .subst c;intro a b _ hb;rw[sz0]at hb;omega
  .rw[go x c]at k2|-;exact h.dp x hx k2
 .by_cases c:x=n
  .subst c;rw[sz0]at hj;omega
  .rw[go x c]at k2 hj|-;rw[go _ (kne x j hx k2 hj)];exact h.ki x j hx k2 hj
 .rw[gtr]at htt;by_cases c:t=F.trees
  .subst c;rw[grn,gk];exact⟨n40,rfl,rfl,rfl⟩
  .rw[gro t bG,go _ (rne t bG)];exact h.rt t bG
 .by_cases c:x=n
  .subst c;rw[gk,cY,hc0,iO];rfl
  .rw[go x c]at kx|-;rw[cY,lX (bQ c)];exact h.lk x hx kx
 .by_cases c:x=n
  .subst c;rw[gk];show 1<=1+0;omega
  .rw[go x c]at kx|-;exact h.al x hx kx
 .by_cases c:x=n
  .subst c;rw[cY,hc0,iO]
  .rw[go x c]at k2;rw[cY,lX (bQ c)];exact h.dr x hx k2
 .by_cases c:x=n
  .subst c;exact Tr.dE.Ia (m:=0) ⟨n40,by rw[gk];rfl⟩
  .rw[go x c]at k2;exact(h.en x hx k2).Cc (k:=n) (λy d=>by rw[go y d]) (h.Gi k0 (λ_ _=>rfl) 40 x hx k2)
 .by_cases c:x=n
  .exact⟨F.trees,by rw[gtr];omega,by rw[grn,c]⟩
  .rw[go x c]at k2 hu2;obtain⟨t,h1,h2⟩:=h.ro x hx k2 hu2;grind

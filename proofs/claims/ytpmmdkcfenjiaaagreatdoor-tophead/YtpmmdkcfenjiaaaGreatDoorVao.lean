import Derived.Shelf.Small.Bits
import Derived.Shelf.Strconv.Clone
import Derived.Shelf.Sort.Plain
import Derived.Shelf.Slices.In.SortNone
import Derived.Deep.CutBlock
import Derived.StillTailTactics
import Derived.Test.YtpmmdkcfenjiaaaGreatDoorVan
set_option maxRecDepth 100000
set_option maxHeartbeats 2000000
namespace Go.Proofs
open Go.Shelf
def Tryz.zZ:Go.Shelf.Ren:=⟨fun|316=>302|n=>n,fun|9=>9|3=>3|4=>4|37=>316|0=>0|127=>248|5=>5|n=>n,fun|n=>n⟩
theorem Tryz.JD:Go.Proofs.LaysM.n316 Tryz.prog Tryz.zZ:={
 mixed:=by kernel_rfl
 f316:=Tryz.func302.trans (congrArg some (by kernel_rfl))
 t0:=Tryz.underlying0
 a0:=Tryz.isAgg0
 z0:=Tryz.sizeOf0
 v0:=Tryz.zeroValue0
 t3:=Tryz.underlying3
 a3:=Tryz.isAgg3
 z3:=Tryz.sizeOf3
 v3:=Tryz.zeroValue3
 t4:=Tryz.underlying4
 a4:=Tryz.isAgg4
 z4:=Tryz.sizeOf4
 v4:=Tryz.zeroValue4
 t9:=Tryz.underlying9
 a9:=Tryz.isAgg9
 z9:=Tryz.sizeOf9
 v9:=Tryz.zeroValue9
 t37:=Tryz.underlying316
 a37:=Tryz.isAgg316
 z37:=Tryz.sizeOf316
 v37:=Tryz.zeroValue316
 t127:=Tryz.underlying248
 a127:=Tryz.isAgg248
 z127:=Tryz.sizeOf248
 v127:=Tryz.zeroValue248
 t5:=Tryz.underlying5
 a5:=Tryz.isAgg5
 z5:=Tryz.sizeOf5
 v5:=Tryz.zeroValue5
 i0:=by kernel_rfl
 i3:=by kernel_rfl
 i4:=by kernel_rfl
 i5:=by kernel_rfl
 i9:=by kernel_rfl
 i37:=by kernel_rfl
 i127:=by kernel_rfl}
open Go.RowKit in
theorem Tryz.stringslite_Clone (s:ByteArray)(w:World)(hlim:s.size<=281474976710656):
 Calls Tryz.prog 302 #[.string s] w fun e w'=>e= .returned (.string s)/\Below w.heap.size w w':=Any.stringslite_Clone Tryz.JD s w hlim
def Tryz.Cl:Go.Shelf.Ren:=⟨fun|190=>265|125=>288|258=>287|128=>315|129=>316|302=>306|303=>307|304=>308|305=>309|306=>310|307=>311|308=>312|309=>313|310=>314|333=>326|329=>327|330=>328|334=>329|335=>330|336=>331|344=>336|n=>n,fun|31=>152|9=>9|3=>3|46=>327|0=>0|51=>341|53=>27|4=>4|183=>335|182=>334|131=>137|5=>5|218=>345|222=>108|228=>353|229=>354|n=>n,fun|n=>n⟩
theorem Tryz.C7:Go.Proofs.Lays.n190 Tryz.prog Tryz.Cl:={
 mixed:=by kernel_rfl
 f125:=Tryz.func288.trans (congrArg some (by kernel_rfl))
 f128:=Tryz.func315.trans (congrArg some (by kernel_rfl))
 f129:=Tryz.func316.trans (congrArg some (by kernel_rfl))
 f190:=Tryz.func265.trans (congrArg some (by kernel_rfl))
 f258:=Tryz.func287.trans (congrArg some (by kernel_rfl))
 f302:=Tryz.func306.trans (congrArg some (by kernel_rfl))
 f303:=Tryz.func307.trans (congrArg some (by kernel_rfl))
 f304:=Tryz.func308.trans (congrArg some (by kernel_rfl))
 f305:=Tryz.func309.trans (congrArg some (by kernel_rfl))
 f306:=Tryz.func310.trans (congrArg some (by kernel_rfl))
 f307:=Tryz.func311.trans (congrArg some (by kernel_rfl))
 f308:=Tryz.func312.trans (congrArg some (by kernel_rfl))
 f309:=Tryz.func313.trans (congrArg some (by kernel_rfl))
 f310:=Tryz.func314.trans (congrArg some (by kernel_rfl))
 f329:=Tryz.func327.trans (congrArg some (by kernel_rfl))
 f330:=Tryz.func328.trans (congrArg some (by kernel_rfl))
 f333:=Tryz.func326.trans (congrArg some (by kernel_rfl))
 f334:=Tryz.func329.trans (congrArg some (by kernel_rfl))
 f335:=Tryz.func330.trans (congrArg some (by kernel_rfl))
 f336:=Tryz.func331.trans (congrArg some (by kernel_rfl))
 f344:=Tryz.func336.trans (congrArg some (by kernel_rfl))
 t0:=Tryz.underlying0
 a0:=Tryz.isAgg0
 z0:=Tryz.sizeOf0
 v0:=Tryz.zeroValue0
 t3:=Tryz.underlying3
 a3:=Tryz.isAgg3
 z3:=Tryz.sizeOf3
 v3:=Tryz.zeroValue3
 t4:=Tryz.underlying4
 a4:=Tryz.isAgg4
 z4:=Tryz.sizeOf4
 v4:=Tryz.zeroValue4
 t5:=Tryz.underlying5
 a5:=Tryz.isAgg5
 z5:=Tryz.sizeOf5
 v5:=Tryz.zeroValue5
 t9:=Tryz.underlying9
 a9:=Tryz.isAgg9
 z9:=Tryz.sizeOf9
 v9:=Tryz.zeroValue9
 t31:=Tryz.underlying152
 a31:=Tryz.isAgg152
 z31:=Tryz.sizeOf152
 v31:=Tryz.zeroValue152
 t46:=Tryz.underlying327
 a46:=Tryz.isAgg327
 z46:=Tryz.sizeOf327
 v46:=Tryz.zeroValue327
 t51:=Tryz.underlying341
 a51:=Tryz.isAgg341
 z51:=Tryz.sizeOf341
 v51:=Tryz.zeroValue341
 t53:=Tryz.underlying27
 a53:=Tryz.isAgg27
 z53:=Tryz.sizeOf27
 v53:=Tryz.zeroValue27
 t131:=Tryz.underlying137
 a131:=Tryz.isAgg137
 z131:=Tryz.sizeOf137
 v131:=Tryz.zeroValue137
 t182:=Tryz.underlying334
 a182:=Tryz.isAgg334
 z182:=Tryz.sizeOf334
 v182:=Tryz.zeroValue334
 t183:=Tryz.underlying335
 a183:=Tryz.isAgg335
 z183:=Tryz.sizeOf335
 v183:=Tryz.zeroValue335
 t218:=Tryz.underlying345
 a218:=Tryz.isAgg345
 z218:=Tryz.sizeOf345
 v218:=Tryz.zeroValue345
 t222:=Tryz.underlying108
 a222:=Tryz.isAgg108
 z222:=Tryz.sizeOf108
 v222:=Tryz.zeroValue108
 t228:=Tryz.underlying353
 a228:=Tryz.isAgg353
 z228:=Tryz.sizeOf353
 v228:=Tryz.zeroValue353
 t229:=Tryz.underlying354
 a229:=Tryz.isAgg354
 z229:=Tryz.sizeOf354
 v229:=Tryz.zeroValue354}
open Go.Sort Go.RowKit in
theorem Tryz.slices_Sort_string (cv off cap:Nat)(ss:List (List UInt8))(w:World)(hH:Holds encStr w cv off ss.toArray)(hblk:cv<w.heap.size)(hsz:ss.length<4611686018427387904):
 Calls Tryz.prog 265 #[.slice (some ⟨cv,off,none⟩) ss.length cap] w fun e w'=>
  e= .returned (.tuple #[])/\ ∃n os,w'=grow (putRow encStr (Sort.ahead w n) cv off (ss.mergeSort fun x y=>decide (x<=y)).toArray) os:=Any.slices_Sort_string Tryz.C7 cv off cap ss w hH hblk hsz
open Go.RowKit Go.Sort in
theorem Tryz.slices_Sort_string_none (p:Option Addr)(cap:Nat)(w:World):
 Calls Tryz.prog 265 #[.slice p 0 cap] w fun e w'=>e= .returned (.tuple #[])/\w'=w:=Any.slices_Sort_string_none Tryz.C7 p cap w
end Go.Proofs
namespace Go.Proofs.YtpmmdkcfenjiaaaGreatDoor
open Go.RowKit
open Tr (Fo Nd)
theorem wY (s:bU)(w:bD)(hs:s.size<=1000000):Calls Tryz.prog 279 #[.string s] w fun e w'=>e= .returned (.string s)/\Below w.heap.size w w':=by
 have HC:=hZ (Tryz.stringslite_Clone s w (by omega));go_in
 go_wp2_with fail
 refine HC.out.mono ?_;rintro e w1 ⟨rfl,b1⟩;have B1:=hZ b1;clear b1;go_wp2
 go_ret
 exact⟨rfl,B1.out⟩
def Tr.gT (x:Nd)(s:bU)(k:Nat):Nd:={x with dz:=gi x.dz x.size s,bO:=gi x.bO x.size k,size:=x.size+1}
def Tr.jC (F:Fo)(n:Nat)(s:bU)(k:Nat):Fo:=
 if((F.put n (Tr.gT (F.nd n) s k)).nd k).kind=2 then(F.put n (Tr.gT (F.nd n) s k)).put k {(F.put n (Tr.gT (F.nd n) s k)).nd k with up:=n}else F.put n (Tr.gT (F.nd n) s k)
theorem ar.py {w:bD}{b:Nat}{F:Fo}(h:ar w b F)(n i k:Nat)(s:bU)(hn:n<40)(hi:i<8):ar ((w.setCell ⟨b,n*62+6+i*2,none⟩ (.string s)).setCell ⟨b,n*62+6+i*2+1,none⟩ (.int .i64 (k:Int))) b (F.put n {F.nd n with dz:=gi (F.nd n).dz i s,bO:=gi (F.nd n).bO i k}):=by
 have a:=(h.OJ n i s hn hi).OY n i k hn hi;rw[Tr.ai]at a;refine a.congr (fun o _=>?_);unfold iK;by_cases c:o<2480
 ·rw[aJ c,aJ c];by_cases d:o/62=n
  ·rw[d,Tr.ai,Tr.ai]
  ·rw[Tr.ao _ _ _ _ d,Tr.ao _ _ _ _ d,Tr.ao _ _ _ _ d]
 ·rw[aI c,aI c];rfl
theorem Tr.fD (F:Fo)(n:Nat)(x y:Nd):(F.put n x).put n y=F.put n y:=by unfold Fo.put;grind
theorem px (b n k:Nat)(s:bU)(F:Fo)(w:bD)(h:ar w b F)(hn:n<40)(hk:k<40)(hz:(F.nd n).size<8)(hs:s.size<=1000000):
  Calls Tryz.prog 257 #[.pointer (some ⟨b,0,none⟩), .int .i64 (n:Int), .string s, .int .i64 (k:Int)] w fun e w'=>e= .returned (.tuple #[])/\ar w' b (Tr.jC F n s k)/\af b w w':=by
 have HF:=hZ h;have nI:(n:Int)<40:=by omega
 have kI:(k:Int)<40:=by omega
 obtain⟨sz,hsz⟩:=nJ ((F.nd n).size);have HSZ:=hZ hsz;rw[hsz]at hz;have szI:(sz:Int)<8:=by omega
 have hw:IntKind.i64.wrap ((sz:Int)+1)=(sz:Int)+1:=aN _ ⟨by omega,by omega⟩;clear h hsz;go_in
 go_wp2_with fail
 go_quiet (fail)
 generalize hW:World.drewN w _=W1;have S1:Hid (ar W1 b F/\af b w W1):=hZ (by rw[<-hW];exact⟨HF.out.drewN _,(af.refl b w).drewN _⟩);clear hW;have K0:Hid (W1.cell? ⟨b,n*62+3,none⟩=some (.int .i64 (sz:Int))):=hZ (by rw[<-HSZ.out];exact S1.out.1.lO n hn);have KS:Hid (∀W,ar W b F->((W.setCell ⟨b,n*62+6+sz*2,none⟩ (.string s)).setCell ⟨b,n*62+6+sz*2+1,none⟩ (.int .i64 (k:Int))).cell? ⟨b,n*62+3,none⟩=some (.int .i64 (sz:Int))):=hZ (fun W hW=>by
  have:=(hW.py n sz k s hn hz).lO n hn;rw[Tr.ai]at this;rw[this,<-HSZ.out])
 have c0: ∀W,ar W b F->(∃v,W.cell? ⟨b,n*62+6+sz*2,none⟩=some (.string v))/\(∃v:Nat,W.cell? ⟨b,n*62+6+sz*2+1,none⟩=some (.int .i64 (v:Int))):=fun W hW=>⟨⟨_,hW.uM n sz hn hz⟩,⟨_,hW.rO n sz hn hz⟩⟩;have HC0:=hZ c0;clear c0;go_wp2_with fail
 go_region_held3 (fun w'=>w'.cell? ⟨b,n*62+3,none⟩=some (.int .i64 (sz:Int))) (first|exact K0.out|exact K2.out|exact KS.out _ H2.out.1|go_keep) ((go_at_call 279;refine(wY s _ hs).mono ?_;rintro e w2 ⟨rfl,b2⟩;have H2:Hid (ar w2 b F/\af b w w2):=hZ ⟨S1.out.1.drew.below b2,S1.out.2.drew.trans (af.bB b2)⟩;have K2:Hid (w2.cell? ⟨b,n*62+3,none⟩=some (.int .i64 (sz:Int))):=hZ (by rw[<-HSZ.out];exact H2.out.1.lO n hn);obtain⟨⟨v1,q1⟩,⟨v2,q2⟩⟩:=HC0.out w2 H2.out.1;have qf:=H2.out.1.frozen;clear b2))
 generalize hW3:(w2.setCell ⟨b,n*62+6+sz*2,none⟩ (.string s)).setCell ⟨b,n*62+6+sz*2+1,none⟩ (.int .i64 (k:Int))=W3;have S3:Hid (ar W3 b (F.put n {F.nd n with dz:=gi (F.nd n).dz sz s,bO:=gi (F.nd n).bO sz k})/\af b w W3):=hZ (by
  rw[<-hW3];exact⟨H2.out.1.py n sz k s hn hz,(H2.out.2.setCell _ _).setCell _ _⟩)
 clear hW3 K0 K2 KS HC0 q1 q2 qf H2 S1;have c3:W3.cell? ⟨b,n*62+3,none⟩=some (.int .i64 (sz:Int)):=by
  have:=S3.out.1.lO n hn;rw[Tr.ai]at this;rw[this,<-HSZ.out]
 have cf3:=S3.out.1.frozen;have S4:Hid (ar (W3.setCell ⟨b,n*62+3,none⟩ (.int .i64 ((sz:Int)+1))) b (F.put n (Tr.gT (F.nd n) s k))/\af b w (W3.setCell ⟨b,n*62+3,none⟩ (.int .i64 ((sz:Int)+1)))):=hZ (by
  have a:=S3.out.1.xq n (sz+1) hn;rw[Tr.ai,Tr.fD]at a;have e:Tr.gT (F.nd n) s k={F.nd n with dz:=gi (F.nd n).dz sz s,bO:=gi (F.nd n).bO sz k,size:=sz+1}:=by unfold Tr.gT;rw[HSZ.out]
  rw[e];exact⟨a,S3.out.2.setCell _ _⟩)
 go_upto_region 3 with fail
 refine bw (fun W=>ar W b (F.put n (Tr.gT (F.nd n) s k))/\af b w W) S4.out ?_;intro W4 h4;have S5:=hZ h4;clear h4 S4 S3 c3 cf3;obtain⟨F2,hF2⟩:=nJ (F.put n (Tr.gT (F.nd n) s k));have HL:Hid (Tr.jC F n s k=if(F2.nd k).kind=2 then F2.put k {F2.nd k with up:=n}else F2):=hZ (by unfold Tr.jC;rw[hF2]);rw[hF2]at S5;clear hF2;have c5:=S5.out.1.rj k hk;have cu:=S5.out.1.P3 k hk;have cf:=S5.out.1.frozen;by_cases k2:(F2.nd k).kind=2
 ·have FIN:Hid (ar (W4.setCell ⟨b,k*62+5,none⟩ (.int .i64 (n:Int))) b (Tr.jC F n s k)/\af b w (W4.setCell ⟨b,k*62+5,none⟩ (.int .i64 (n:Int)))):=hZ (by
   rw[HL.out,aJ k2];exact⟨S5.out.1.PD k n hk,S5.out.2.setCell _ _⟩)
  rw[k2]at c5;have c5':W4.cell? ⟨b,k*62,none⟩=some (.int .i64 2):=c5;generalize (F2.nd k).up=uu at*;clear c5 k2;go_wp2_with fail
  go_end0
  exact⟨rfl,FIN.out⟩
 ·have FIN:Hid (ar W4 b (Tr.jC F n s k)):=hZ (by rw[HL.out,aI k2];exact S5.out.1);have k2':(((F2.nd k).kind:Int)==2)=false:=by simp;omega
  generalize (F2.nd k).kind=kk at*;clear k2 cu;go_wp2_with fail
  go_end0
  exact⟨rfl,FIN.out,S5.out.2⟩
section
variable {ops : Array Oper} {rest : List Oper} {x : Oper} {a : Act} {w : bD} {Q : Exit -> Act -> bD -> Prop}
def dS (kd tr up:Nat):Nd:={Nd.no with kind:=kd,bE:=1,tree:=tr,up:=up}
theorem u9 (hgd:x.guard=none)(y0 y1 y2:Operand)(kd tr up:Nat)(ho:x.op= .build 204 #[(0,y0),(1,y1),(2,y2)])(h0:a.eval y0= .agg #[.int .i64 (kd:Int), .int .i64 1, .int .i64 0, .int .i64 0])(h1:a.eval y1= .int .i64 (tr:Int))(h2:a.eval y2= .int .i64 (up:Int))(h:wpList Tryz.prog ops Q rest (a.put x.dst (.agg (cD (dS kd tr up)))) w):wpList Tryz.prog ops Q (x::rest) a w:=
 wpList_plain hgd fun _ hK=>by
  unfold Oper.wp execOp;simp only[ho,List.map_toArray,List.map_cons,List.map_nil,h0,h1,h2];simp[go_sem];exact hK _ _ h
end
def Tr.xZ (F:Fo)(n:Nat):Fo:={F.put n (dS 2 F.trees n)with root:=gi F.root F.trees n,trees:=F.trees+1}
def Tr.tJ (F:Fo)(T:Nat)(E:Int)(G:Fo):Prop:=(F.trees=4/\T=0/\E=4/\G=F)\/(F.trees≠4/\ ∃n e,Tr.fF F n e/\((e≠0/\T=0/\E=e/\G=F)\/(e=0/\T=F.trees/\E=0/\G=Tr.xZ F n)))
theorem Dz (b:Nat)(F:Fo)(w:bD)(h:ar w b F)(ht:F.trees<=4):
  Calls Tryz.prog 89 #[.pointer (some ⟨b,0,none⟩)] w fun e w'=> ∃(T:Nat) (E:Int) (G:Fo),e= .returned (.tuple #[.int .i64 (T:Int),aq E])/\Tr.tJ F T E G/\ar w' b G/\af b w w':=by
 have HF:=hZ h;have c0:=h.Bv;by_cases t4:F.trees=4
 ·have FIN:Hid (Tr.tJ F 0 4 F):=hZ (.inl ⟨t4,rfl,rfl,rfl⟩);rw[t4]at c0;have c0':w.cell? ⟨b,2484,none⟩=some (.int .i64 4):=c0;clear h t4 c0 ht;go_in
  go_wp2
  go_ret2
  exact⟨0,4,F,rfl,FIN.out,HF.out,af.refl _ _⟩
 ·have HT4:=hZ t4;obtain⟨tt,htt⟩:=nJ (F.trees);have HTT:=hZ htt;rw[htt]at c0;have tI:(tt:Int)<4:=by omega
  have t4':((tt:Int)==4)=false:=by simp;omega
  have hw:IntKind.i64.wrap ((tt:Int)+1)=(tt:Int)+1:=aN _ ⟨by omega,by omega⟩;have tN:tt<4:=by omega
  clear h t4 htt ht;go_in
  go_wp2_with fail
  refine(sR b F _ HF.out).mono ?_;rintro e w1 ⟨n,E,rfl,hf,hw1⟩;subst w1;have HFR:=hZ hf;by_cases e0:E=0
  ·subst e0;have n40:n<40:=by
    rcases hf with⟨_,h1,_⟩|⟨h1,_⟩
    ·exact h1
    ·omega
   have nI:(n:Int)<40:=by omega
   have TH:=hZ (HF.out.there n n40 (dS 2 tt n));have HS:=hZ (nK (dS 2 tt n));have H1:=hZ (np (dS 2 tt n));have S1:Hid (ar (w.setCells b (n*62) (cD (dS 2 tt n)).toList) b (F.put n (dS 2 tt n))/\af b w (w.setCells b (n*62) (cD (dS 2 tt n)).toList)):=hZ ⟨HF.out.setNode n n40 _,af.setCells _ _ (af.refl b w)⟩;obtain⟨A,hA⟩:=nJ (cD (dS 2 tt n));rw[hA]at TH HS H1 S1;rw[aa];clear hf;go_upto_region 8 with(first|(refine u9 rfl _ _ _ 2 tt n rfl rfl rfl rfl ?_;rw[hA])|(refine wpList_store_mid rfl 204 _ _ rfl b (n*62) A rfl rfl TH.out HS.out H1.out ?_))
   refine bw (fun W=>ar W b (F.put n (dS 2 tt n))/\af b w W) S1.out ?_;intro W2 h2;have S2:=hZ h2;have c2:=h2.1.Bv;have c3:=h2.1.Lm tt tN;have cf:=h2.1.frozen;rw[show(F.put n (dS 2 tt n)).trees=tt from HTT.out]at c2;generalize (F.put n (dS 2 tt n)).root tt=rr at*;have S3:Hid (ar ((W2.setCell ⟨b,2480+tt,none⟩ (.int .i64 (n:Int))).setCell ⟨b,2484,none⟩ (.int .i64 ((tt:Int)+1))) b (Tr.xZ F n)/\af b w ((W2.setCell ⟨b,2480+tt,none⟩ (.int .i64 (n:Int))).setCell ⟨b,2484,none⟩ (.int .i64 ((tt:Int)+1)))):=hZ (by
    have a:=(h2.1.Nl tt n tN).JR (tt+1);refine⟨?_,(h2.2.setCell _ _).setCell _ _⟩;unfold Tr.xZ;rw[HTT.out];exact a)
   clear h2 S1 TH HS H1 hA c0;go_wp2
   go_ret2
   exact⟨tt,0,_,rfl, .inr ⟨HT4.out,n,0,HFR.out, .inr ⟨rfl,HTT.out.symm,rfl,rfl⟩⟩,S3.out⟩
  ·have E2:Hid (aq E= .iface 100 (.int .i64 E)/\E≠0):=hZ ⟨aj e0,e0⟩;rw[E2.out.1];clear hf e0;go_wp2
   go_ret2
   exact⟨0,E,F,by rw[E2.out.1];rfl, .inr ⟨HT4.out,n,E,HFR.out, .inl ⟨E2.out.2,rfl,rfl,rfl⟩⟩,HF.out,af.refl _ _⟩
def fA (F:Fo):Array Value:=((List.range 2485).map (iK F)).toArray
theorem Pm (F:Fo)(i:Nat)(h:i<2485):(fA F)[i]? =some (iK F i):=by simp[fA,h]
theorem PM:Tryz.zeroCells208=fA Tr.f0:=by kernel_rfl
theorem Kf (w:bD):Calls Tryz.prog 87 #[] w fun e w'=>e= .returned (.pointer (some ⟨w.heap.size,0,none⟩))/\ar w' w.heap.size Tr.f0/\Below w.heap.size w w':=by
 have FIN:Hid (ar (w.alloc (.cells Tryz.zeroCells208 208)) w.heap.size Tr.f0):=hZ (by
  have h:=heap_alloc_new w (.cells Tryz.zeroCells208 208);have h2:(w.alloc (.cells Tryz.zeroCells208 208)).heap[w.heap.size]? =some (.cells (fA Tr.f0) 208 (0,0)):=by rw[<-PM];exact h
  exact⟨⟨_,h2,by simp[fA]⟩,fun o ho=>by rw[au h2,Pm _ o ho]⟩)
 go_in
 go_wp2
 go_ret
 exact⟨rfl,FIN.out,(aQ _ _).alloc (aL _) _⟩
theorem Tr.mU.ok {F:Fo}{z:Int}{s:bU}(h:Tr.mU F z s 0): ∃n:Nat,z=n/\n<40/\(F.nd n).kind=2/\Tr.eX s=true/\Tr.eH (F.nd n) s (-1)/\(F.nd n).size≠8:=by
 rcases h with⟨h1,h2⟩|⟨h1,h2⟩
 ·omega
 ·obtain⟨n,rfl,h3,_,h5⟩:=Tr.dY h1;rcases h2 with⟨_,h6⟩|⟨h6,⟨_,_,h7⟩|⟨h7,⟨_,h8⟩|⟨h8,_⟩⟩⟩
  ·omega
  ·omega
  ·omega
  ·exact⟨n,rfl,h3,h5,h6,h7,h8⟩
theorem Tr.nW {s:bU}(h:Tr.eX s=true):s.size<=8:=by grind [Tr.eX]
def Tr.iS (F:Fo)(n:Nat)(s:bU)(kd k:Nat):Fo:=Tr.jC (F.put k (dS kd (F.nd n).tree 0)) n s k
def Tr.rk (F:Fo)(z:Int)(s:bU)(kz:Int)(K:Nat)(E:Int)(G:Fo):Prop:=
 (kz≠1/\kz≠2/\K=0/\E=1/\G=F)\/((kz=1\/kz=2)/\ ∃e,Tr.mU F z s e/\((e≠0/\K=0/\E=e/\G=F)\/(e=0/\ ∃k e2,Tr.fF F k e2/\((e2≠0/\K=0/\E=e2/\G=F)\/(e2=0/\K=k/\E=0/\G=Tr.iS F z.toNat s kz.toNat k)))))
theorem Hi (kd tr:Nat)(w:bD):(Instr.build 204 #[(0, .agg #[.int .i64 (kd:Int), .int .i64 1, .int .i64 0, .int .i64 0]),(1, .int .i64 (tr:Int))]).run Tryz.prog w= .ok (.agg (cD (dS kd tr 0))) w:=by
 simp[go_sem];rfl
theorem pM {ops:Array Oper}{rest:List Oper}{x:Oper}{a:Act}{w:bD}{Q:Act->Prop}(hgd:x.guard=none)(y0 y1:Operand)(kd tr:Nat)(ho:x.op= .build 204 #[(0,y0),(1,y1)])(h0:a.eval y0= .agg #[.int .i64 (kd:Int), .int .i64 1, .int .i64 0, .int .i64 0])(h1:a.eval y1= .int .i64 (tr:Int))
  (h:wpStill Tryz.prog ops w Q rest (a.put x.dst (.agg (cD (dS kd tr 0))))):wpStill Tryz.prog ops w Q (x::rest) a:=by
 refine wpStill_step (fun K hK=>?_);have hw:Region.wanted x (yielded ops a.tmps)=true:=by simp[Region.wanted,hgd]
 rw[aJ hw];have hb:=Hi kd tr w;unfold Oper.still execOp;simp only[ho,List.map_toArray,List.map_cons,List.map_nil,h0,h1,Sem.run_bind,hb,Result.andThen_ok,Sem.run_pure,Oper.stillUpon_value];exact hK _ h
theorem Jw (b:Nat)(z:Int)(s:bU)(kz:Int)(F:Fo)(w:bD)(h:ar w b F)(k1: ¬kz=1)(k2: ¬kz=2):
  Calls Tryz.prog 242 #[.pointer (some ⟨b,0,none⟩), .int .i64 z, .string s, .int .i64 kz] w fun e w'=> ∃(K:Nat) (E:Int) (G:Fo),e= .returned (.tuple #[.int .i64 (K:Int),aq E])/\Tr.rk F z s kz K E G/\ar w' b G/\af b w w':=by
 have HF:=hZ h;have FIN:Hid (Tr.rk F z s kz 0 1 F):=hZ (.inl ⟨k1,k2,rfl,rfl,rfl⟩);have d1:(kz==1)=false:=by simpa using k1
 have d3:(kz !=1)=true:=by simpa using k1
 have d4:(kz !=2)=true:=by simpa using k2
 clear h d1;go_in
 go_wp2
 go_ret2
 exact⟨0,1,F,rfl,FIN.out,HF.out,af.refl _ _⟩
theorem LU (b:Nat)(z:Int)(s:bU)(F:Fo)(w:bD)(h:ar w b F)(hs:Tr.jD F):
  Calls Tryz.prog 242 #[.pointer (some ⟨b,0,none⟩), .int .i64 z, .string s, .int .i64 1] w fun e w'=> ∃(K:Nat) (E:Int) (G:Fo),e= .returned (.tuple #[.int .i64 (K:Int),aq E])/\Tr.rk F z s 1 K E G/\ar w' b G/\af b w w':=by
 have HF:=hZ (aK h hs);clear h hs;go_in
 go_wp2_with fail
 refine(pT b z s F _ HF.out.1 HF.out.2).mono ?_;rintro e w1 ⟨E,rfl,hw1,b1⟩;have S1:Hid (Tr.mU F z s E/\ar w1 b F/\af b w w1):=hZ ⟨hw1,HF.out.1.below b1,af.bB b1⟩;clear hw1 b1;by_cases e0:E=0
 ·subst e0;obtain⟨n,rfl,n40,k2,hnm,_,hsz⟩:=S1.out.1.ok;have HN:Hid ((F.nd n).kind=2/\s.size<=8/\(F.nd n).size<8):=hZ ⟨k2,Tr.nW hnm,by have:=HF.out.2 n n40 k2;omega⟩;rw[fE,aa];clear k2 hnm hsz;go_wp2_with fail
  refine(sR b F _ S1.out.2.1).mono ?_;rintro e w2 ⟨k,E,rfl,hf,hw2⟩;subst w2;have HFR:=hZ hf;by_cases f0:E=0
  ·subst f0;obtain⟨k40,kk0⟩:k<40/\(F.nd k).kind=0:=by
    rcases hf with⟨_,h1,h2,_⟩|⟨h1,_⟩
    ·exact⟨h1,h2⟩
    ·omega
   have kI:(k:Int)<40:=by omega
   have nk:n≠k:=fun e=>by rw[e]at HN;rw[kk0]at HN;exact aZ HN.out.1 (by decide)
   obtain⟨tr,htr⟩:=nJ ((F.nd n).tree);have K0:w1.cell? ⟨b,n*62+4,none⟩=some (.int .i64 (tr:Int)):=by rw[<-htr];exact S1.out.2.1.qJ n n40
   have K1:w1.drew.cell? ⟨b,n*62+4,none⟩=some (.int .i64 (tr:Int)):=K0;have S3:Hid (ar (w1.drew.setCells b (k*62) (cD (dS 1 tr 0)).toList) b (F.put k (dS 1 tr 0))/\af b w (w1.drew.setCells b (k*62) (cD (dS 1 tr 0)).toList)):=hZ ⟨S1.out.2.1.drew.setNode k k40 _,af.setCells _ _ S1.out.2.2.drew⟩;have TH:=hZ (S1.out.2.1.drew.there k k40 (dS 1 tr 0));have HS:=hZ (nK (dS 1 tr 0));have H1:=hZ (np (dS 1 tr 0));have HMK:Hid (Tr.iS F n s 1 k=Tr.jC (F.put k (dS 1 tr 0)) n s k):=hZ (by unfold Tr.iS;rw[htr]);obtain⟨A,hA⟩:=nJ (cD (dS 1 tr 0));rw[hA]at S3 TH HS H1;rw[aa];clear hf kk0 htr;go_upto_region 9 with fail
   refine wp_region_still_tail 12 (by kernel_rfl) (by kernel_rfl) ?_;simp only[List.take_succ_cons,List.take_zero,List.drop_succ_cons,List.drop_zero]
   iterate 8 still_step
   refine pM rfl _ _ 1 tr rfl rfl rfl ?_;rw[hA]
   iterate 3 still_step
   refine wpStill_nil ?_;refine wpList_store_mid rfl 204 _ _ rfl b (k*62) A rfl rfl TH.out HS.out H1.out ?_;refine wpList_nil ?_;have S4:=S3;have TN:Hid ((F.put k (dS 1 tr 0)).nd n=F.nd n):=hZ (Tr.ao _ _ _ _ nk);clear TH HS H1 hA K0 K1;go_wp2_with fail
   refine(px b n k s _ _ S4.out.1 n40 k40 (by rw[TN.out];exact HN.out.2.2) (aH HN.out.2.1 (by decide))).mono ?_;rintro e W5 ⟨rfl,h5,f5⟩;have S5:Hid (ar W5 b (Tr.iS F n s 1 k)/\af b w W5):=hZ ⟨by rw[HMK.out];exact h5,S4.out.2.trans f5⟩;clear h5 f5;go_wp2
   go_ret2
   exact⟨k,0,_,rfl, .inr ⟨by decide,0,S1.out.1, .inr ⟨rfl,k,0,HFR.out, .inr ⟨rfl,rfl,rfl,rfl⟩⟩⟩,S5.out⟩
  ·have E2:Hid (aq E= .iface 100 (.int .i64 E)/\E≠0):=hZ ⟨aj f0,f0⟩;rw[E2.out.1];clear hf f0;go_wp2
   go_ret2
   exact⟨0,E,F,by rw[E2.out.1];rfl, .inr ⟨by decide,0,S1.out.1, .inr ⟨rfl,k,E,HFR.out, .inl ⟨E2.out.2,rfl,rfl,rfl⟩⟩⟩,S1.out.2⟩
 ·have E2:Hid (aq E= .iface 100 (.int .i64 E)/\E≠0):=hZ ⟨aj e0,e0⟩;rw[E2.out.1];clear e0;go_wp2
  go_ret2
  exact⟨0,E,F,by rw[E2.out.1];rfl, .inr ⟨by decide,E,S1.out.1, .inl ⟨E2.out.2,rfl,rfl,rfl⟩⟩,S1.out.2⟩
theorem Nb (b:Nat)(z:Int)(s:bU)(F:Fo)(w:bD)(h:ar w b F)(hs:Tr.jD F):
  Calls Tryz.prog 242 #[.pointer (some ⟨b,0,none⟩), .int .i64 z, .string s, .int .i64 2] w fun e w'=> ∃(K:Nat) (E:Int) (G:Fo),e= .returned (.tuple #[.int .i64 (K:Int),aq E])/\Tr.rk F z s 2 K E G/\ar w' b G/\af b w w':=by
 have HF:=hZ (aK h hs);clear h hs;go_in
 go_wp2_with fail
 refine(pT b z s F _ HF.out.1 HF.out.2).mono ?_;rintro e w1 ⟨E,rfl,hw1,b1⟩;have S1:Hid (Tr.mU F z s E/\ar w1 b F/\af b w w1):=hZ ⟨hw1,HF.out.1.below b1,af.bB b1⟩;clear hw1 b1;by_cases e0:E=0
 ·subst e0;obtain⟨n,rfl,n40,k2,hnm,_,hsz⟩:=S1.out.1.ok;have HN:Hid ((F.nd n).kind=2/\s.size<=8/\(F.nd n).size<8):=hZ ⟨k2,Tr.nW hnm,by have:=HF.out.2 n n40 k2;omega⟩;rw[fE,aa];clear k2 hnm hsz;go_wp2_with fail
  refine(sR b F _ S1.out.2.1).mono ?_;rintro e w2 ⟨k,E,rfl,hf,hw2⟩;subst w2;have HFR:=hZ hf;by_cases f0:E=0
  ·subst f0;obtain⟨k40,kk0⟩:k<40/\(F.nd k).kind=0:=by
    rcases hf with⟨_,h1,h2,_⟩|⟨h1,_⟩
    ·exact⟨h1,h2⟩
    ·omega
   have kI:(k:Int)<40:=by omega
   have nk:n≠k:=fun e=>by rw[e]at HN;rw[kk0]at HN;exact aZ HN.out.1 (by decide)
   obtain⟨tr,htr⟩:=nJ ((F.nd n).tree);have K0:w1.cell? ⟨b,n*62+4,none⟩=some (.int .i64 (tr:Int)):=by rw[<-htr];exact S1.out.2.1.qJ n n40
   have K1:w1.drew.cell? ⟨b,n*62+4,none⟩=some (.int .i64 (tr:Int)):=K0;have S3:Hid (ar (w1.drew.setCells b (k*62) (cD (dS 2 tr 0)).toList) b (F.put k (dS 2 tr 0))/\af b w (w1.drew.setCells b (k*62) (cD (dS 2 tr 0)).toList)):=hZ ⟨S1.out.2.1.drew.setNode k k40 _,af.setCells _ _ S1.out.2.2.drew⟩;have TH:=hZ (S1.out.2.1.drew.there k k40 (dS 2 tr 0));have HS:=hZ (nK (dS 2 tr 0));have H1:=hZ (np (dS 2 tr 0));have HMK:Hid (Tr.iS F n s 2 k=Tr.jC (F.put k (dS 2 tr 0)) n s k):=hZ (by unfold Tr.iS;rw[htr]);obtain⟨A,hA⟩:=nJ (cD (dS 2 tr 0));rw[hA]at S3 TH HS H1;rw[aa];clear hf kk0 htr;go_upto_region 9 with fail
   refine wp_region_still_tail 12 (by kernel_rfl) (by kernel_rfl) ?_;simp only[List.take_succ_cons,List.take_zero,List.drop_succ_cons,List.drop_zero]
   iterate 8 still_step
   refine pM rfl _ _ 2 tr rfl rfl rfl ?_;rw[hA]
   iterate 3 still_step
   refine wpStill_nil ?_;refine wpList_store_mid rfl 204 _ _ rfl b (k*62) A rfl rfl TH.out HS.out H1.out ?_;refine wpList_nil ?_;have S4:=S3;have TN:Hid ((F.put k (dS 2 tr 0)).nd n=F.nd n):=hZ (Tr.ao _ _ _ _ nk);clear TH HS H1 hA K0 K1;go_wp2_with fail
   refine(px b n k s _ _ S4.out.1 n40 k40 (by rw[TN.out];exact HN.out.2.2) (aH HN.out.2.1 (by decide))).mono ?_;rintro e W5 ⟨rfl,h5,f5⟩;have S5:Hid (ar W5 b (Tr.iS F n s 2 k)/\af b w W5):=hZ ⟨by rw[HMK.out];exact h5,S4.out.2.trans f5⟩;clear h5 f5;go_wp2
   go_ret2
   exact⟨k,0,_,rfl, .inr ⟨by decide,0,S1.out.1, .inr ⟨rfl,k,0,HFR.out, .inr ⟨rfl,rfl,rfl,rfl⟩⟩⟩,S5.out⟩
  ·have E2:Hid (aq E= .iface 100 (.int .i64 E)/\E≠0):=hZ ⟨aj f0,f0⟩;rw[E2.out.1];clear hf f0;go_wp2
   go_ret2
   exact⟨0,E,F,by rw[E2.out.1];rfl, .inr ⟨by decide,0,S1.out.1, .inr ⟨rfl,k,E,HFR.out, .inl ⟨E2.out.2,rfl,rfl,rfl⟩⟩⟩,S1.out.2⟩
 ·have E2:Hid (aq E= .iface 100 (.int .i64 E)/\E≠0):=hZ ⟨aj e0,e0⟩;rw[E2.out.1];clear e0;go_wp2
  go_ret2
  exact⟨0,E,F,by rw[E2.out.1];rfl, .inr ⟨by decide,E,S1.out.1, .inl ⟨E2.out.2,rfl,rfl,rfl⟩⟩,S1.out.2⟩
theorem Iq (b:Nat)(z:Int)(s:bU)(kz:Int)(F:Fo)(w:bD)(h:ar w b F)(hs:Tr.jD F):
 Calls Tryz.prog 242 #[.pointer (some ⟨b,0,none⟩), .int .i64 z, .string s, .int .i64 kz] w fun e w'=> ∃(K:Nat) (E:Int) (G:Fo),e= .returned (.tuple #[.int .i64 (K:Int),aq E])/\Tr.rk F z s kz K E G/\ar w' b G/\af b w w':=by grind [LU,Nb,Jw]
def Tr.dJ (x:Nd)(i:Nat):Nd:={x with dz:=gi (gi x.dz i (x.dz (x.size-1))) (x.size-1) ByteArray.empty,bO:=gi (gi x.bO i (x.bO (x.size-1))) (x.size-1) 0,size:=x.size-1}
theorem pP (b n i:Nat)(s:bU)(F:Fo)(w:bD)(h:ar w b F)(hn:n<40)(hm8:(F.nd n).size<=8)(hp:Tr.eH (F.nd n) s (i:Int)):
  Calls Tryz.prog 252 #[.pointer (some ⟨b,n*62,none⟩), .string s] w fun e w'=>e= .returned (.tuple #[])/\ar w' b (F.put n (Tr.dJ (F.nd n) i))/\af b w w':=by
 have HF:=hZ h;have hi:i<(F.nd n).size:=by
  rcases hp with⟨j,e,h1,_⟩|⟨e,_⟩
  ·omega
  ·omega
 have HP:=hZ hp;obtain⟨sz,hsz⟩:=nJ ((F.nd n).size);obtain⟨l,hl⟩:=nJ (sz-1);have HSZ:Hid ((F.nd n).size=sz/\(F.nd n).size-1=l):=hZ ⟨hsz,by omega⟩;have hm:Hid ((F.nd n).size<=8):=hZ hm8;rw[hsz]at hi hm8;have iI:(i:Int)<(sz:Int):=by omega
 have lI:(l:Int)<(sz:Int):=by omega
 have hw:IntKind.i64.wrap ((sz:Int)-1)=(l:Int):=(aN _ ⟨by omega,by omega⟩).trans (by omega);have l8:l<8:=by omega
 have i8:i<8:=by omega
 obtain⟨sl,hsl⟩:=nJ ((F.nd n).dz l);obtain⟨kl,hkl⟩:=nJ ((F.nd n).bO l);have HL:Hid ((F.nd n).dz l=sl/\(F.nd n).bO l=kl):=hZ ⟨hsl,hkl⟩;clear h hp hsz hi hl hm8 hsl hkl;go_in
 go_wp2_with fail
 refine(oZ b n F _ HF.out hn hm.out).mono ?_;rintro e W1 ⟨rfl,k,hW⟩;rw[HSZ.out.1];have S1:Hid (ar W1 b F/\af b w W1):=hZ (by rw[hW];exact⟨HF.out.drewN _,(af.refl b w).drewN _⟩);clear hW;have K0:Hid (∀W,ar W b F->W.cell? ⟨b,n*62+6+l*2,none⟩=some (.string sl)/\W.cell? ⟨b,n*62+6+l*2+1,none⟩=some (.int .i64 (kl:Int))):=hZ (fun W hW=>by
  rw[<-HL.out.1,<-HL.out.2];exact⟨hW.uM n l hn l8,hW.rO n l hn l8⟩)
 have KS:Hid (∀W,ar W b F->((W.setCell ⟨b,n*62+6+i*2,none⟩ (.string sl)).setCell ⟨b,n*62+6+i*2+1,none⟩ (.int .i64 (kl:Int))).cell? ⟨b,n*62+6+l*2,none⟩=some (.string sl)/\((W.setCell ⟨b,n*62+6+i*2,none⟩ (.string sl)).setCell ⟨b,n*62+6+i*2+1,none⟩ (.int .i64 (kl:Int))).cell? ⟨b,n*62+6+l*2+1,none⟩=some (.int .i64 (kl:Int))):=hZ (fun W hW=>by
  have a:=hW.py n i kl sl hn i8;have c1:=a.uM n l hn l8;have c2:=a.rO n l hn l8;rw[Tr.ai]at c1 c2;rw[c1,c2];show some (Value.string (gi (F.nd n).dz i sl l))=_/\some (Value.int .i64 ((gi (F.nd n).bO i kl l:Nat):Int))=_;unfold gi;rw[HL.out.1,HL.out.2,ite_self,ite_self];exact⟨rfl,rfl⟩)
 have HC0:Hid (∀W,ar W b F->(∃v,W.cell? ⟨b,n*62+6+i*2,none⟩=some (.string v))/\(∃v:Nat,W.cell? ⟨b,n*62+6+i*2+1,none⟩=some (.int .i64 (v:Int)))):=hZ (fun W hW=>⟨⟨_,hW.uM n i hn i8⟩,⟨_,hW.rO n i hn i8⟩⟩);have K1:Hid (W1.cell? ⟨b,n*62+6+l*2,none⟩=some (.string sl)/\W1.cell? ⟨b,n*62+6+l*2+1,none⟩=some (.int .i64 (kl:Int))):=hZ (K0.out W1 S1.out.1);go_wp2_with fail
 go_region_held3 (fun w'=>w'.cell? ⟨b,n*62+6+l*2,none⟩=some (.string sl)/\w'.cell? ⟨b,n*62+6+l*2+1,none⟩=some (.int .i64 (kl:Int))) (first|exact K1.out|exact K2.out|exact KS.out _ H2.out.1|go_keep) ((go_at_call 282;refine(qY b n s F _ S1.out.1.drew hn hm.out).mono ?_;rintro e w2 ⟨y,rfl,hp2,b2⟩;have hy:=hp2.unique HP.out;subst hy;have H2:Hid (ar w2 b F/\af b w w2):=hZ ⟨S1.out.1.drew.below b2,S1.out.2.drew.trans (af.bB b2)⟩;have K2:Hid (w2.cell? ⟨b,n*62+6+l*2,none⟩=some (.string sl)/\w2.cell? ⟨b,n*62+6+l*2+1,none⟩=some (.int .i64 (kl:Int))):=hZ (K0.out w2 H2.out.1);obtain⟨⟨v1,q1⟩,⟨v2,q2⟩⟩:=HC0.out w2 H2.out.1;have qf:=H2.out.1.frozen;clear b2 hp2))
 generalize hW3:(w2.setCell ⟨b,n*62+6+i*2,none⟩ (.string sl)).setCell ⟨b,n*62+6+i*2+1,none⟩ (.int .i64 (kl:Int))=W3;have S3:Hid (ar W3 b (F.put n {F.nd n with dz:=gi (F.nd n).dz i sl,bO:=gi (F.nd n).bO i kl})/\af b w W3):=hZ (by
  rw[<-hW3];exact⟨H2.out.1.py n i kl sl hn i8,(H2.out.2.setCell _ _).setCell _ _⟩)
 clear hW3 K0 K1 K2 KS HC0 q1 q2 qf H2 S1;obtain⟨⟨v1,q1⟩,⟨v2,q2⟩⟩:(∃v,W3.cell? ⟨b,n*62+6+l*2,none⟩=some (.string v))/\(∃v:Nat,W3.cell? ⟨b,n*62+6+l*2+1,none⟩=some (.int .i64 (v:Int))):=⟨⟨_,S3.out.1.uM n l hn l8⟩,⟨_,S3.out.1.rO n l hn l8⟩⟩;have qf:=S3.out.1.frozen;have S4:Hid (ar ((W3.setCell ⟨b,n*62+6+l*2,none⟩ (.string ByteArray.empty)).setCell ⟨b,n*62+6+l*2+1,none⟩ (.int .i64 0)) b (F.put n {F.nd n with dz:=gi (gi (F.nd n).dz i sl) l ByteArray.empty,bO:=gi (gi (F.nd n).bO i kl) l 0})/\af b w ((W3.setCell ⟨b,n*62+6+l*2,none⟩ (.string ByteArray.empty)).setCell ⟨b,n*62+6+l*2+1,none⟩ (.int .i64 0))):=hZ (by
  have a:=S3.out.1.py n l 0 ByteArray.empty hn l8;rw[Tr.ai,Tr.fD]at a;exact⟨a,(S3.out.2.setCell _ _).setCell _ _⟩)
 go_upto_region 4 with fail
 refine bw (fun W=>ar W b (F.put n {F.nd n with dz:=gi (gi (F.nd n).dz i sl) l ByteArray.empty,bO:=gi (gi (F.nd n).bO i kl) l 0})/\af b w W) S4.out ?_;intro W4 h4;have S5:=hZ h4;clear h4 S4 S3 q1 q2 qf;have c3:=S5.out.1.lO n hn;rw[Tr.ai]at c3;have c3':W4.cell? ⟨b,n*62+3,none⟩=some (.int .i64 (sz:Int)):=by rw[c3];show some (Value.int .i64 (((F.nd n).size:Nat):Int))=_;rw[HSZ.out.1]
 have cf:=S5.out.1.frozen;have FIN:Hid (ar (W4.setCell ⟨b,n*62+3,none⟩ (.int .i64 (l:Int))) b (F.put n (Tr.dJ (F.nd n) i))/\af b w (W4.setCell ⟨b,n*62+3,none⟩ (.int .i64 (l:Int)))):=hZ (by
  have a:=S5.out.1.xq n l hn;rw[Tr.ai,Tr.fD]at a;unfold Tr.dJ;rw[HSZ.out.2,HL.out.1,HL.out.2];exact⟨a,S5.out.2.setCell _ _⟩)
 clear c3;go_wp2_with fail
 go_end0
 exact⟨rfl,FIN.out⟩
def Tr.xO (F:Fo)(k n:Nat)(s:bU):Fo:=Tr.jC (F.put k {F.nd k with bE:=(F.nd k).bE+1}) n s k
def Tr.zD (F:Fo)(y z:Int)(s:bU)(E:Int)(G:Fo):Prop:=
 (Tr.bj F y 1≠0/\E=Tr.bj F y 1/\G=F)\/(Tr.bj F y 1=0/\ ∃e,Tr.mU F z s e/\((e≠0/\E=e/\G=F)\/(e=0/\(((F.nd y.toNat).tree≠(F.nd z.toNat).tree/\E=11/\G=F)\/((F.nd y.toNat).tree=(F.nd z.toNat).tree/\E=0/\G=Tr.xO F y.toNat z.toNat s)))))
theorem GS (b:Nat)(y z:Int)(s:bU)(F:Fo)(w:bD)(h:ar w b F)(hs:Tr.jD F)(hL: ∀n,n<40->(F.nd n).kind≠0->(F.nd n).bE<2^60):
  Calls Tryz.prog 209 #[.pointer (some ⟨b,0,none⟩), .int .i64 y, .int .i64 z, .string s] w fun e w'=> ∃(E:Int) (G:Fo),e= .returned (aq E)/\Tr.zD F y z s E G/\ar w' b G/\af b w w':=by
 have HF:=hZ (aK h hs);by_cases c:Tr.bj F y 1=0
 ·obtain⟨k,rfl,k40,kk0,kk1⟩:=Tr.dY c;have EP:Hid (Tr.bj F (k:Int) 1=0/\dW b (k:Int) 0= .pointer (some ⟨b,k*62,none⟩)):=hZ ⟨c,fE b k⟩;have HK1:=hZ (aK kk1 (hL k k40 kk0));clear h hs c hL kk1 kk0;go_in
  go_wp2_with fail
  refine(gD b k F _ HF.out.1).mono ?_;rintro e w0 ⟨rfl,hw0⟩;subst w0;rw[EP.out.1,EP.out.2,aa];go_wp2_with fail
  refine(pT b z s F _ HF.out.1 HF.out.2).mono ?_;rintro e w1 ⟨E,rfl,hw1,b1⟩;have S1:Hid (Tr.mU F z s E/\ar w1 b F/\af b w w1):=hZ ⟨hw1,HF.out.1.below b1,af.bB b1⟩;clear hw1 b1;by_cases e0:E=0
  ·subst e0;obtain⟨n,rfl,n40,k2,hnm,_,hsz⟩:=S1.out.1.ok;have HN:Hid ((F.nd n).kind=2/\s.size<=8/\(F.nd n).size<8):=hZ ⟨k2,Tr.nW hnm,by have:=HF.out.2 n n40 k2;omega⟩;have nk:n≠k:=fun e=>by have:=HK1.out.1;rw[<-e,k2]at this;exact aZ this (by decide)
   rw[fE,aa];clear k2 hnm hsz;have c1:=S1.out.2.1.qJ k k40;have c2:=S1.out.2.1.qJ n n40;by_cases tt:(F.nd k).tree=(F.nd n).tree
   ·have HT:=hZ tt;rw[tt]at c1;obtain⟨tr,htr⟩:=nJ ((F.nd n).tree);rw[htr]at c1 c2;obtain⟨lk,hlk⟩:=nJ ((F.nd k).bE);have c3:=S1.out.2.1.drew.rR k k40;rw[hlk]at c3;have c4:w1.cell? ⟨b,k*62+1,none⟩=some (.int .i64 (lk:Int)):=c3;have hb:=HK1.out.2;rw[hlk]at hb;have hw:IntKind.i64.wrap ((lk:Int)+1)=(lk:Int)+1:=aN _ ⟨by omega,by omega⟩;have cf:=S1.out.2.1.frozen;have S3:Hid (∀nq,ar ((w1.drewN nq).setCell ⟨b,k*62+1,none⟩ (.int .i64 ((lk:Int)+1))) b (F.put k {F.nd k with bE:=lk+1})/\af b w ((w1.drewN nq).setCell ⟨b,k*62+1,none⟩ (.int .i64 ((lk:Int)+1)))):=hZ (fun nq=>⟨(S1.out.2.1.drewN nq).vl k (lk+1) k40,(S1.out.2.2.drewN nq).setCell _ _⟩);have HMK:Hid (Tr.xO F k n s=Tr.jC (F.put k {F.nd k with bE:=lk+1}) n s k):=hZ (by unfold Tr.xO;rw[hlk]);have TN:Hid ((F.put k {F.nd k with bE:=lk+1}).nd n=F.nd n):=hZ (Tr.ao _ _ _ _ nk);clear htr hlk tt hb;go_wp2_with fail
    go_quiet (fail)
    go_upto_region 10 with fail
    refine bw (fun W=>ar W b (F.put k {F.nd k with bE:=lk+1})/\af b w W) (S3.out _) ?_;intro W4 h4;have S4:=hZ h4;clear h4 S3 c1 c2 c3 c4 cf;go_wp2_with fail
    refine(px b n k s _ _ S4.out.1 n40 k40 (by rw[TN.out];exact HN.out.2.2) (aH HN.out.2.1 (by decide))).mono ?_;rintro e W5 ⟨rfl,h5,f5⟩;have S5:Hid (ar W5 b (Tr.xO F k n s)/\af b w W5):=hZ ⟨by rw[HMK.out];exact h5,S4.out.2.trans f5⟩;clear h5 f5;go_wp2
    go_ret
    exact⟨0,_,rfl, .inr ⟨EP.out.1,0,S1.out.1, .inr ⟨rfl, .inr ⟨HT.out,rfl,rfl⟩⟩⟩,S5.out⟩
   ·have HT:=hZ tt;generalize (F.nd k).tree=t1 at c1 tt;generalize (F.nd n).tree=t2 at c2 tt;have tI:((t1:Int)==(t2:Int))=false:=by simp;omega
    have tI2: ¬(t1:Int)=(t2:Int):=by omega
    clear tt;go_wp2_with fail
    go_quiet (fail)
    go_wp2
    go_ret
    exact⟨11,F,rfl, .inr ⟨EP.out.1,0,S1.out.1, .inr ⟨rfl, .inl ⟨HT.out,rfl,rfl⟩⟩⟩,S1.out.2.1.drewN _,S1.out.2.2.drewN _⟩
  ·have E2:Hid (aq E= .iface 100 (.int .i64 E)/\E≠0):=hZ ⟨aj e0,e0⟩;rw[E2.out.1];clear e0;go_wp2
   go_ret
   exact⟨E,F,by rw[E2.out.1];rfl, .inr ⟨EP.out.1,E,S1.out.1, .inl ⟨E2.out.2,rfl,rfl⟩⟩,S1.out.2⟩
 ·have E2:Hid (dW b y (Tr.bj F y 1)= .pointer none/\aq (Tr.bj F y 1)= .iface 100 (.int .i64 (Tr.bj F y 1))/\Tr.zD F y z s (Tr.bj F y 1) F):=hZ ⟨fY c,aj c, .inl ⟨c,rfl,rfl⟩⟩;clear h c hs hL;go_in
  go_wp2_with fail
  refine(gD b y F _ HF.out.1).mono ?_;rintro e w1 ⟨rfl,hw⟩;subst w1;rw[E2.out.1,E2.out.2.1];go_wp2
  go_ret
  exact⟨_,F,by rw[E2.out.2.1];rfl,E2.out.2.2,HF.out.1,af.refl _ _⟩

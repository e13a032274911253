import Derived.Test.YtpmmdkcfenjiaaaGreatDoorVah
set_option maxRecDepth 100000
set_option maxHeartbeats 1000000
namespace Go.Proofs.YtpmmdkcfenjiaaaGreatDoor
open Go.RowKit
open Sp (T)
theorem nv (w:bD)(cs:Array Value)(T:TypeId)(k:Nat)(hk:k<=cs.size):(w.alloc (.cells cs T)).there w.heap.size 0 k:=fun j hj=>by
 have h:=heap_alloc_new w (.cells cs T);exact⟨by rw[au h,Array.getElem?_eq_getElem (by omega)];rfl,bf h _⟩
def p9 (t:T):List Value:=(List.range 138).map (jj true t)
theorem qI (t:T):(p9 t).length=138:=by simp[p9]
theorem Tb.Oy {w:bD}{b:Nat}{t:T}(h:Tb true w b t):w.rangeAt b 0 (p9 t):=fun j v hv=>by
 have hj:j<138:=by have:=(aY.1 hv).1;rwa [qI]at this
 rw[Nat.zero_add,h.cell j (by omega)];simp[p9,hj]at hv;rw[hv]
def jG (t:T)(k:Nat):Array Value:=dG (t.here k) (t.par k) (fun p=>cw true (t.here k) (t.ay k p))
theorem L6 (t:T)(k:Nat)(hk:k<6):(p9 t).toArray.extract (k*23) (k*23+23)=jG t k:=by
 apply bL;intro i;rw[Array.getElem?_extract];by_cases hi:i<23
 ·rw[aJ (by simp[qI];omega)];unfold jG;rw[lQ _ _ _ i hi];have:(p9 t).toArray[k*23+i]? =some (jj true t (k*23+i)):=by rw[List.getElem?_toArray,p9,List.getElem?_map,List.getElem?_range (by omega)];rfl
  rw[this];by_cases e0:i=0
  ·subst e0;rw[aJ rfl,Nat.add_zero,cr true t k hk]
  ·by_cases e1:i=1
   ·subst e1;rw[aI (by omega),aJ rfl,cG true t k hk]
   ·rw[aI e0,aI e1];have:=cH true t k (i-2) hk (by omega);rw[show k*23+2+(i-2)=k*23+i by omega]at this;rw[this]
 ·rw[aI (by simp[qI];omega),aR (by unfold jG;rw[eA];omega)]
theorem DI (t:T)(k:Nat)(hk:k<6)(w:bD):Sem.run Tryz.prog (Instr.index 178 (Value.agg (p9 t).toArray) (Value.int IntKind.i64 k)) w= .ok (.agg (jG t k)) w:=by
 have hu:Tryz.prog.underlying 178=some (.array 6 177):=by kernel_rfl
 have h1:(k:Int)<6:=by omega
 have hx:=L6 t k hk;simp at hx;simp[Instr.index,Sem.run_bind,run_underlying hu,go_sem,hx,hk]
theorem nj (t:T)(k:Nat):(jG t k).size=23:=eA _ _ _
theorem uQ (t:T)(k:Nat):(jG t k).all (·.oneCell')=true:=qe _ _ _
theorem IF {w w0:bD}(hb:Below w0.heap.size w0 w)(cs:Array Value)(T:TypeId)(hs:cs.size=23)(t:Sp.T)(k:Nat):
  ((w.alloc (.cells cs T)).setCells w.heap.size 0 (jG t k).toList).cell? ⟨w.heap.size,0,none⟩=some (.bool (t.here k))/\((w.alloc (.cells cs T)).setCells w.heap.size 0 (jG t k).toList).cell? ⟨w.heap.size,1,none⟩=some (.int .i64 (t.par k))/\Below w0.heap.size w0 ((w.alloc (.cells cs T)).setCells w.heap.size 0 (jG t k).toList):=by
 have ht:=nv w cs T 23 (by omega);have hl:(jG t k).toList.length=23:=by rw[aB,nj]
 have hin: ∀j,j<23->((w.alloc (.cells cs T)).setCells w.heap.size 0 (jG t k).toList).cell? ⟨w.heap.size,0+j,none⟩=(jG t k)[j]? :=fun j hj=>by
  rw[aS w.heap.size (jG t k).toList 0 _ (fun i hi=>(ht i (by omega)).1) j (by omega),<-aM,aW (by omega)]
 refine⟨?_,?_,?_⟩
 ·have:=hin 0 (by omega);rw[Nat.zero_add]at this;rw[this];exact lQ _ _ _ 0 (by omega)
 ·have:=hin 1 (by omega);rw[Nat.zero_add]at this;rw[this];exact lQ _ _ _ 1 (by omega)
 ·have f:af w.heap.size w0 ((w.alloc (.cells cs T)).setCells w.heap.size 0 (jG t k).toList):=af.setCells _ _ (af.bB (hb.alloc hb.size _));have hsz:=hb.size;exact⟨f.os,f.tape,f.output,f.size,fun j hj=>f.block j hj (by omega)⟩
theorem FV (b n:Nat)(t:T)(w:bD)(h:Tb true w b t):
  Calls Tryz.prog 225 #[.pointer (some ⟨b,0,none⟩), .int .i64 n] w fun e w'=>e= .returned (.bool (Sp.kids t n))/\Below w.heap.size w w':=by
 have HR:=hZ h.Oy;have hsz:Hid ((Tryz.prog.info? 178).map (·.size)=some (p9 t).length):=hZ (by rw[qI];kernel_rfl);have hs1:Hid (∀k,(Tryz.prog.info? 177).map (·.size)=some (jG t k).size):=hZ (fun k=>by rw[nj];kernel_rfl);clear h;go_in
 go_wp2_with (refine wpList_load_mid rfl 178 _ rfl b 0 rfl (p9 t) (.array 6 177) HR.out (by kernel_rfl) rfl hsz.out ?_)
 go_loopw [11] (fun i wr=> ∃(k:Nat),i= .int .i64 k/\k<=6/\Hid (Below w.heap.size w wr/\ ∀j,j<k->Sp.si t n j=false)) (fun i _=>6-(intOf i).toNat)
 case atStart=>exact⟨0,rfl,by omega,aQ _ _,fun j hj=>by omega⟩
 case round=>
  obtain⟨k,rfl,hk,R⟩:=hrel;by_cases hlt:k<6
  ·have hltI:(k:Int)<6:=by omega
   have hix:=DI t k hlt wr;have HKB:Hid (Sp.si t n k=(t.here k&&decide (t.par k=(n:Int)))):=hZ rfl;have NX:Hid (Sp.si t n k=false-> ∀j,j<k+1->Sp.si t n j=false):=hZ (fun c j hj=>by
    by_cases e:j=k
    ·rw[e];exact c
    ·exact R.out.2 j (by omega))
   have NSP:=hZ (IF R.out.1 (dG false 0 (eG 0)) 177 (eA _ _ _) t k);have HHK:Hid (Sp.si t n k=true->Sp.kids t n=true):=hZ (fun c=>by unfold Sp.kids;exact List.any_eq_true.2 ⟨k,List.mem_range.2 hlt,c⟩);generalize t.here k=hh at*;generalize t.par k=pp at*;cases hh
   ·go_wp2_with (first|(refine jO rfl rfl ?_)|(refine wpList_store_mid rfl 177 _ _ rfl wr.heap.size 0 (jG t k) rfl rfl (by rw[nj];exact nv _ _ _ 23 (by rw[eA];exact aL _)) (hs1.out k) (uQ t k) ?_;generalize hW:World.setCells _ _ _ _=W2;obtain⟨n0,n1⟩:W2.cell? ⟨wr.heap.size,0,none⟩=some _/\W2.cell? ⟨wr.heap.size,1,none⟩=some _:=(by rw[<-hW];exact⟨NSP.out.1,NSP.out.2.1⟩);have NB:Hid (Below w.heap.size w W2):=hZ (by rw[<-hW];exact NSP.out.2.2);clear hW))
    go_roundw
    case rel=>exact⟨k+1,by go_num,by omega,NB.out,NX.out (by rw[HKB.out];rfl)⟩
    case measure=>simp[intOf];omega
   ·by_cases hp:pp=(n:Int)
    ·subst hp;go_wp2_with (first|(refine jO rfl rfl ?_)|(refine wpList_store_mid rfl 177 _ _ rfl wr.heap.size 0 (jG t k) rfl rfl (by rw[nj];exact nv _ _ _ 23 (by rw[eA];exact aL _)) (hs1.out k) (uQ t k) ?_;generalize hW:World.setCells _ _ _ _=W2;obtain⟨n0,n1⟩:W2.cell? ⟨wr.heap.size,0,none⟩=some _/\W2.cell? ⟨wr.heap.size,1,none⟩=some _:=(by rw[<-hW];exact⟨NSP.out.1,NSP.out.2.1⟩);have NB:Hid (Below w.heap.size w W2):=hZ (by rw[<-hW];exact NSP.out.2.2);clear hW))
     go_ret
     exact⟨bN (HHK.out (by rw[HKB.out];simp)).symm,NB.out⟩
    ·have hp':(pp==(n:Int))=false:=by simp;exact hp
     go_wp2_with (first|(refine jO rfl rfl ?_)|(refine wpList_store_mid rfl 177 _ _ rfl wr.heap.size 0 (jG t k) rfl rfl (by rw[nj];exact nv _ _ _ 23 (by rw[eA];exact aL _)) (hs1.out k) (uQ t k) ?_;generalize hW:World.setCells _ _ _ _=W2;obtain⟨n0,n1⟩:W2.cell? ⟨wr.heap.size,0,none⟩=some _/\W2.cell? ⟨wr.heap.size,1,none⟩=some _:=(by rw[<-hW];exact⟨NSP.out.1,NSP.out.2.1⟩);have NB:Hid (Below w.heap.size w W2):=hZ (by rw[<-hW];exact NSP.out.2.2);clear hW))
     go_roundw
     case rel=>exact⟨k+1,by go_num,by omega,NB.out,NX.out (by rw[HKB.out,aT hp];simp)⟩
     case measure=>simp[intOf];omega
  ·have hltI: ¬(k:Int)<6:=by omega
   go_wp2
   go_ret
   refine⟨bN ?_,R.out.1⟩;cases hk2:Sp.kids t n
   ·rfl
   ·obtain⟨j,hj,kj⟩:=List.any_eq_true.1 hk2;rw[R.out.2 j (by have:=List.mem_range.1 hj;omega)]at kj;cases kj
structure iN (w W:bD)(b2 b3:Nat)(p:Int)(k:Nat):Prop where
 bF:Below w.heap.size w W
 le:w.heap.size<=b2
 ne:b2<b3
 two: ∃cs,W.heap[b2]? =some (.cells cs 177 (0,0))/\cs.size=23
 Lp:W.heap[b3]? =some (.cells (dG true p (eG k)) 177 (0,0))
theorem iN.set {w W:bD}{b2 b3:Nat}{p:Int}{k:Nat}(h:iN w W b2 b3 p k)(hk:k<21):iN w (W.setCell ⟨b3,2+k,none⟩ (.int .i64 (-1))) b2 b3 p (k+1):=by
 have h1:=h.le;have h2:=h.ne;refine⟨h.bF.setCell (by show _<=b3;omega) _,h1,h2,?_,?_⟩
 ·obtain⟨cs,c1,c2⟩:=h.two;exact⟨cs,(dD _ _ _ _ (by omega)).trans c1,c2⟩
 ·rw[bC h.Lp,Ny _ _ _ k (-1) hk,Ox]
theorem sD (b:Nat)(T:TypeId)(vs:List Value)(w:bD)(C:Array Value)(h:w.heap[b]? =some (.cells C T (0,0)))(hs:C.size=vs.length):(w.setCells b 0 vs).heap[b]? =some (.cells vs.toArray T (0,0)):=by
 obtain⟨C',h1,h2⟩:=dR b vs 0 w C h;rw[h1];congr 2;apply bL;intro i;by_cases hi:i<vs.length
 ·have:=aS b vs 0 w (fun j hj=>by rw[au h,Array.getElem?_eq_getElem (by omega)];rfl) i hi;rw[au h1,Nat.zero_add]at this;rw[this,List.getElem?_toArray,aW hi]
 ·rw[aR (by omega),aR (by simp;omega)]
theorem iN.start (w:bD)(p:Int):iN w (((w.alloc (.cells (dG false 0 (eG 0)) 177)).alloc (.cells (dG false 0 (eG 0)) 177)).setCells (w.alloc (.cells (dG false 0 (eG 0)) 177)).heap.size 0 (dG true p (eG 0)).toList) w.heap.size (w.alloc (.cells (dG false 0 (eG 0)) 177)).heap.size p 0:=by
 have e1:(w.alloc (.cells (dG false 0 (eG 0)) 177)).heap.size=w.heap.size+1:=by simp
 have f:af (w.alloc (.cells (dG false 0 (eG 0)) 177)).heap.size w (((w.alloc (.cells (dG false 0 (eG 0)) 177)).alloc (.cells (dG false 0 (eG 0)) 177)).setCells (w.alloc (.cells (dG false 0 (eG 0)) 177)).heap.size 0 (dG true p (eG 0)).toList):=af.setCells _ _ (af.bB (((aQ _ w).alloc (aL _) _).alloc (by simp) _));refine⟨⟨f.os,f.tape,f.output,f.size,fun j hj=>f.block j hj (by omega)⟩,aL _,by omega,⟨_,?_,eA false 0 (eG 0)⟩,?_⟩
 ·rw[lu _ _ _ _ _ (by omega)];rw[Below.heap_alloc _ _ _ (by omega)];exact heap_alloc_new w _
 ·have:=sD (w.alloc (.cells (dG false 0 (eG 0)) 177)).heap.size 177 (dG true p (eG 0)).toList ((w.alloc (.cells (dG false 0 (eG 0)) 177)).alloc (.cells (dG false 0 (eG 0)) 177)) _ (heap_alloc_new _ _) (by rw[eA,qw]);rw[this]
theorem iN.range {w W:bD}{b2 b3:Nat}{p:Int}{k:Nat}(h:iN w W b2 b3 p k):W.rangeAt b3 0 (dG true p (eG k)).toList:=fun j v hv=>by
 rw[Nat.zero_add,au h.Lp,<-aM,hv]
theorem iN.there {w W:bD}{b2 b3:Nat}{p:Int}{k:Nat}(h:iN w W b2 b3 p k)(n:Nat)(hn:n=23):W.there b2 0 n:=by
 obtain⟨cs,c1,c2⟩:=h.two;intro j hj;exact⟨by rw[au c1,Array.getElem?_eq_getElem (by omega)];rfl,bf c1 _⟩
theorem iN.N9 (w:bD)(p:Int):iN w (((w.alloc (.cells (dG false 0 (eG 0)) 177)).alloc (.cells (dG false 0 (eG 0)) 177)).setCells (w.heap.size+1) 0 (dG true p (eG 0)).toList) w.heap.size (w.heap.size+1) p 0:=by
 have:=iN.start w p;rw[show(w.alloc (.cells (dG false 0 (eG 0)) 177)).heap.size=w.heap.size+1 by simp]at this;exact this
theorem iN.cell {w W:bD}{b2 b3:Nat}{p:Int}{k:Nat}(h:iN w W b2 b3 p k)(hk:k<21):W.cell? ⟨b3,2+k,none⟩=some (.int .i64 (eG k k)):=by
 rw[au h.Lp,lQ _ _ _ (2+k) (by omega),aI (by omega),aI (by omega),show 2+k-2=k by omega]
theorem iN.fz {w W:bD}{b2 b3:Nat}{p:Int}{k:Nat}(h:iN w W b2 b3 p k)(o:Nat):W.frozen? ⟨b3,o,none⟩=false:=bf h.Lp o
theorem iN.done {w W:bD}{b2 b3:Nat}{p:Int}{k:Nat}(h:iN w W b2 b3 p k)(cs:List Value)(hc:cs.length=23):(W.setCells b2 0 cs).rangeAt b2 0 cs/\Below w.heap.size w (W.setCells b2 0 cs):=by
 refine⟨World.rangeAt_setCells_same _ _ _ _ (h.there _ hc),?_⟩;have f:af b2 W (W.setCells b2 0 cs):=af.setCells _ _ (af.refl _ _);exact f.below h.bF h.le h.bF.size
theorem sO (p:Int)(w:bD):
  Calls Tryz.prog 161 #[.int .i64 p] w fun e w'=>e= .returned (.agg (dG true p (eG 21)))/\Below w.heap.size w w':=by
 have hs1:Hid ((Tryz.prog.info? 177).map (·.size)=some (dG true p (eG 0)).size):=hZ (by rw[eA];kernel_rfl);have hs2:Hid ((Tryz.prog.info? 177).map (·.size)=some (dG true p (eG 21)).toList.length):=hZ (by rw[qw];kernel_rfl);have hs3':Hid ((Tryz.prog.info? 177).map (·.size)=some (dG true p (eG 21)).size):=hZ (by rw[eA];kernel_rfl);have S0:=hZ (iN.N9 w p);go_in
 go_wp2_with (first|(refine jO rfl rfl ?_)|(refine vh rfl _ p rfl rfl ?_)|(refine wpList_store_mid rfl 177 _ _ rfl _ 0 (dG true p (eG 0)) rfl rfl (by rw[eA];exact nv _ _ _ 23 (by rw[eA];exact aL _)) hs1.out (qe _ _ _) ?_))
 refine bw (fun W=>iN w W w.heap.size (w.heap.size+1) p 0) S0.out ?_;intro W1 h1;have S1:=hZ h1;clear h1 S0 hs1;generalize w.heap.size+1=b3 at*;obtain⟨b2,hb2⟩:=nJ (w.heap.size);rw[hb2]at S1|-;have HB2:=hZ hb2;clear hb2;go_loopw [7] (fun i wr=> ∃(k:Nat),i= .int .i64 k/\k<=21/\Hid (iN w wr b2 b3 p k)) (fun i _=>21-(intOf i).toNat)
 case atStart=>exact⟨0,rfl,by omega,S1⟩
 case round=>
  clear S1;obtain⟨k,rfl,hk,S⟩:=hrel;by_cases hlt:k<21
  ·have hltI:(k:Int)<21:=by omega
   have c0:=S.out.cell hlt;have cf:=S.out.fz;go_wp2
   go_roundw
   case rel=>exact⟨k+1,by go_num,by omega,S.out.set hlt⟩
   case measure=>simp[intOf];omega
  ·have hk21:k=21:=by omega
   subst hk21;obtain⟨A,hA⟩:=nJ (dG true p (eG 21));have hl:Hid (A.toList.length=23):=hZ (by rw[<-hA];exact qw _ _ _);have hr:Hid (wr.rangeAt b3 0 A.toList):=hZ (by rw[<-hA];exact S.out.range);have h1:Hid (A.all (·.oneCell')=true):=hZ (by rw[<-hA];exact qe _ _ _);have ht:Hid (wr.there b2 0 A.size):=hZ (S.out.there _ (by rw[<-hA];exact eA _ _ _));have hD:=hZ (S.out.done A.toList hl.out);rw[hA]at hs2;have hs3:Hid ((Tryz.prog.info? 177).map (·.size)=some A.size):=hZ (by rw[<-hA];exact hs3'.out);have HA:=hZ hA;clear hA S;go_wp2_with (first|(refine wpList_load_mid rfl 177 _ rfl b3 0 rfl A.toList _ hr.out Tryz.underlying177 rfl hs2.out ?_;rw[Array.toArray_toList])|(refine wpList_store_mid rfl 177 _ _ rfl b2 0 A rfl rfl ht.out hs3.out h1.out ?_))
   have hld:=run_loadVar_mid (P:=Tryz.prog) (wr.setCells b2 0 A.toList) b2 0 177 A.toList _ hD.out.1 Tryz.underlying177 rfl hs2.out;rw[Array.toArray_toList]at hld;generalize hW:World.setCells _ _ _ _=W2 at*;refine bodyPost_ret (v:= .agg A) (by simp[results,Tryz.results161,Act.put,asAddr,hld]) rfl ⟨by rw[HA.out],hD.out.2⟩
theorem Ik (q:Nat)(hq:q<21):eG 21 q=cw true true ((fun _=>0) q):=by unfold eG;rw[aJ hq];rfl
def CK:Array Value:=((List.range 158).map fun i=>if i<138/\i%23=0 then Value.bool false else .int .i64 0).toArray
theorem Pw:Tryz.zeroCells181=CK:=by kernel_rfl
theorem M8:CK.size=158:=by simp[CK]
theorem zt (i:Nat)(h:i<158):CK[i]? =some (if i<138/\i%23=0 then Value.bool false else .int .i64 0):=by simp[CK,h]
def tz (c:Bool):T:=⟨fun _=>false,fun _=>0,fun _ _=>0,fun _=>if c then 1 else 0⟩
theorem Nr {c:Bool}{w:bD}{b:Nat}(h:w.heap[b]? =some (.cells CK (Qf c) (0,0))):Tb c w b (tz c):=by
 refine⟨⟨_,h,M8⟩,fq (fun m hm=>?_) (fun m hm=>?_) (fun m q hm hq=>?_) (fun y hy=>?_)⟩
 ·rw[cr c _ m hm,au h,zt _ (by omega),aJ (by omega)];rfl
 ·rw[cG c _ m hm,au h,zt _ (by omega),aI (by omega)];rfl
 ·rw[cH c _ m q hm hq,au h,zt _ (by omega),aI (by omega)];cases c<;>rfl
 ·rw[dj,au h,zt _ (by omega),aI (by omega)];cases c<;>rfl
def tk (k:Nat):T:=⟨fun n=>decide (n=0),fun n=>if n=0 then -1 else 0,fun _ _=>0,fun x=>if x<k then 0 else 1⟩
theorem PV {w:bD}{b k:Nat}(h:Tb true w b (tk k))(hk:k<20):Tb true (w.setCell ⟨b,138+k,none⟩ (.int .i64 (-1))) b (tk (k+1)):=by
 have:=h.setOf k 0 hk;refine this.congr (fq (fun m hm=>by rw[cr true _ m hm,cr true _ m hm];rfl) (fun m hm=>by rw[cG true _ m hm,cG true _ m hm];rfl) (fun m q hm hq=>by rw[cH true _ m q hm hq,cH true _ m q hm hq];rfl) (fun y hy=>?_));unfold tk Sp.rH;grind
theorem O4 {w:bD}{b:Nat}(h:Tb true w b (tk 20)):Tb true w b Sp.t0:=
 h.congr (fq (fun m hm=>by rw[cr true _ m hm,cr true _ m hm];rfl) (fun m hm=>by rw[cG true _ m hm,cG true _ m hm];rfl) (fun m q hm hq=>by rw[cH true _ m q hm hq,cH true _ m q hm hq];rfl) (fun y hy=>by rw[dj,dj];unfold tk;simp only[aJ hy];rfl))
theorem IW {w:bD}{b:Nat}(h:Tb true w b (tz true)):Tb true (w.setCells b 0 (dG true (-1) (eG 21)).toList) b (tk 0):=by
 have:=h.vx 0 (by omega) true (-1) (eG 21) (fun _=>0) Ik;refine this.congr (fq (fun m hm=>?_) (fun m hm=>?_) (fun m q hm hq=>?_) (fun y hy=>?_))
 ·rw[cr true _ m hm,cr true _ m hm];by_cases e:m=0
  ·subst e;rfl
  ·simp[tk,tz,Sp.lB,e]
 ·rw[cG true _ m hm,cG true _ m hm];by_cases e:m=0
  ·subst e;rfl
  ·simp[tk,tz,Sp.fw,e]
 ·rw[cH true _ m q hm hq,cH true _ m q hm hq];by_cases e:m=0
  ·subst e;rfl
  ·simp[tk,tz,Sp.lB,e]
 ·rw[dj,dj];rfl
theorem qa (w:bD):Calls Tryz.prog 83 #[] w fun e w'=>e= .returned (.pointer (some ⟨w.heap.size,0,none⟩))/\Tb true w' w.heap.size Sp.t0/\Below w.heap.size w w'/\w.heap.size<w'.heap.size:=by
 have Z:Hid (Tb true (w.alloc (.cells Tryz.zeroCells181 181)) w.heap.size (tz true)/\Below w.heap.size w (w.alloc (.cells Tryz.zeroCells181 181))):=hZ (by
  rw[Pw];exact⟨Nr (heap_alloc_new w _),(aQ _ _).alloc (aL _) _⟩)
 go_in
 go_wp2_with fail
 refine bw (fun W=>Tb true W w.heap.size (tz true)/\Below w.heap.size w W) Z.out ?_;rintro W1 ⟨h1,hb1⟩;have S1:=hZ (aK h1 hb1);clear h1 hb1 Z;obtain⟨b,hb⟩:=nJ (w.heap.size);rw[hb]at S1|-;have HB:=hZ hb;clear hb;go_region_held3 (fun _=>True) (trivial) ((go_at_call 161;refine(sO _ _).mono ?_;rintro e w2 ⟨rfl,hb2⟩;have T2:Hid (Tb true w2 b (tz true)/\Below b w w2):=hZ ⟨S1.out.1.drew.below hb2,S1.out.2.drew.trans (hb2.mono (bI S1.out.1.lt))⟩;obtain⟨A,hA⟩:=nJ (dG true (-1) (eG 21));have HA:=hZ hA;have hAs:A.size=23:=(by rw[<-hA];exact eA _ _ _);have st:=T2.out.1.store 0 (by omega) true (-1) (eG 21);rw[Nat.zero_mul]at st;rw[hA]at st|-;clear hb2 hA))
 generalize hW2:World.setCells _ _ _ _=W2;have S2:Hid (Tb true W2 b (tk 0)/\Below b w W2):=hZ (by
  have f:af b w2 W2:=by rw[<-hW2];exact af.setCells _ _ (af.refl _ _)
  refine⟨?_,f.below T2.out.2 (aL _) (bI T2.out.1.lt)⟩;rw[<-hW2,<-HA.out];exact IW T2.out.1)
 clear hW2 st T2 S1 hAs HA;go_wp2_with fail
 go_loopw [10] (fun i wr=> ∃(k:Nat),i= .int .i64 k/\k<=20/\Hid (Tb true wr b (tk k)/\Below b w wr)) (fun i _=>20-(intOf i).toNat)
 case atStart=>exact⟨0,rfl,by omega,S2⟩
 case round=>
  clear S2;obtain⟨k,rfl,hk,S⟩:=hrel;by_cases hlt:k<20
  ·have hltI:(k:Int)<20:=by omega
   have c0:=S.out.1.OD k hlt;have cf:=S.out.1.frozen;go_wp2
   go_roundw
   case rel=>exact⟨k+1,by go_num,by omega,PV S.out.1 hlt,S.out.2.setCell (by show b<=b;omega) _⟩
   case measure=>simp[intOf];omega
  ·have hk20:k=20:=by omega
   subst hk20;go_wp2
   go_ret
   rw[HB.out];exact⟨rfl,O4 S.out.1,S.out.2,S.out.1.lt⟩
theorem Hc (b:Nat)(z:Int)(t:T)(w:bD)(h:Tb true w b t)(k:Sp.bj t z≠0):
  Calls Tryz.prog 140 #[.pointer (some ⟨b,0,none⟩), .int .i64 z] w fun e w'=>e= .returned (.tuple #[.int .i64 0,aq (Sp.bj t z)])/\w'=w:=by
 have HF:=hZ h;have HW:=hZ k;clear h k;go_in
 go_wp2_with fail
 refine(dK b z t _ HF.out).mono ?_;rintro e w1 ⟨rfl,hw⟩;subst w1;rw[aj HW.out];go_wp2
 go_ret2
 rw[aj HW.out];exact⟨rfl,rfl⟩
theorem JA (b n:Nat)(t:T)(d:Nat->Nat)(w:bD)(h:Tb true w b t)(hT:Sp.Tree t d)(hn:n<6)(hh:t.here n=true)(hl:4<=(Sp.W t n).length):
  Calls Tryz.prog 140 #[.pointer (some ⟨b,0,none⟩), .int .i64 n] w fun e w'=>e= .returned (.tuple #[.int .i64 0,aq 7])/\w'=w:=by
 have HF:=hZ h;have HT:=hZ (aK hT hh);have HK:=hZ (Sp.gO hn hh);clear h hT hh;go_in
 go_wp2_with fail
 refine(dK b n t _ HF.out).mono ?_;rintro e w1 ⟨rfl,hw⟩;subst w1;rw[HK.out,aa];go_wp2_with fail
 refine(yr b n t d _ HF.out HT.out.1 hn HT.out.2).mono ?_;rintro e w1 ⟨rfl,hw⟩;subst w1;generalize (Sp.W t n).length=L at*;have hlI:(4:Int)<=(L:Int):=by omega
 go_wp2
 go_ret2
 exact⟨rfl,rfl⟩
theorem Ku (b n:Nat)(t:T)(d:Nat->Nat)(w:bD)(h:Tb true w b t)(hT:Sp.Tree t d)(hn:n<6)(hh:t.here n=true)(hl:(Sp.W t n).length<4):
  Calls Tryz.prog 140 #[.pointer (some ⟨b,0,none⟩), .int .i64 n] w fun e w'=>
   (∃k:Nat,k<6/\t.here k=false/\(∀j,j<k->t.here j=true)/\e= .returned (.tuple #[.int .i64 k,aq 0])/\Tb true w' b {t with here:=Sp.lB t.here k true,par:=Sp.fw t.par k n,ay:=fun a q=>if a=k then 0 else t.ay a q}/\af b w w')\/((∀j,j<6->t.here j=true)/\e= .returned (.tuple #[.int .i64 0,aq 4])/\w'=w):=by
 have HF:=hZ h;have HT:=hZ (aK hT hh);have HK:=hZ (Sp.gO hn hh);clear h hT hh;go_in
 go_wp2_with fail
 refine(dK b n t _ HF.out).mono ?_;rintro e w1 ⟨rfl,hw⟩;subst w1;rw[HK.out,aa];go_wp2_with fail
 refine(yr b n t d _ HF.out HT.out.1 hn HT.out.2).mono ?_;rintro e w1 ⟨rfl,hw⟩;subst w1;generalize (Sp.W t n).length=L at*;have hlI:decide ((4:Int)<=(L:Int))=false:=by simp;omega
 go_wp2_with fail
 go_loopw [19] (fun i wr=> ∃(k:Nat),i= .int .i64 k/\k<=6/\wr=w/\Hid (∀j,j<k->t.here j=true)) (fun i _=>6-(intOf i).toNat)
 case atStart=>exact⟨0,rfl,by omega,rfl,fun j hj=>by omega⟩
 case round=>
  obtain⟨k,rfl,hk,hw,HN⟩:=hrel;subst wr;by_cases hlt:k<6
  ·have hltI:(k:Int)<6:=by omega
   have c0:=HF.out.zr k hlt;cases hkh:t.here k
   ·have HKH:=hZ hkh;rw[hkh]at c0;clear hkh;go_wp2_with fail
    clear c0;go_region_held3 (fun _=>True) (trivial) ((go_at_call 161;refine(sO _ _).mono ?_;rintro e w2 ⟨rfl,hb2⟩;have T2:Hid (Tb true w2 b t/\af b w w2):=hZ ⟨HF.out.drew.below hb2,(af.refl b w).drew.trans (af.bB hb2)⟩;obtain⟨A,hA⟩:=nJ (dG true (n:Int) (eG 21));have HA:=hZ hA;have hAs:A.size=23:=(by rw[<-hA];exact eA _ _ _);have st:=T2.out.1.store k hlt true (n:Int) (eG 21);rw[hA]at st|-;clear hb2 hA))
    generalize hW2:World.setCells _ _ _ _=W2;have S2:Hid (Tb true W2 b {t with here:=Sp.lB t.here k true,par:=Sp.fw t.par k n,ay:=fun a q=>if a=k then 0 else t.ay a q}/\af b w W2):=hZ (by
     refine⟨?_,by rw[<-hW2];exact af.setCells _ _ T2.out.2⟩;rw[<-hW2,<-HA.out];exact T2.out.1.vx k hlt true n (eG 21) (fun _=>0) Ik)
    clear hW2 st T2 hAs HA;go_wp2
    go_ret2
    exact .inl ⟨k,hlt,HKH.out,HN.out,rfl,S2.out.1,S2.out.2⟩
   ·have HKH:=hZ hkh;rw[hkh]at c0;clear hkh;go_wp2
    go_roundw
    case rel=>exact⟨k+1,by go_num,by omega,by first|rfl|trivial,fun j hj=>by
     by_cases c:j=k
     ·rw[c];exact HKH.out
     ·exact HN.out j (by omega)⟩
    case measure=>simp[intOf];omega
  ·have hltI: ¬(k:Int)<6:=by omega
   go_wp2
   go_ret2
   exact .inr ⟨fun j hj=>HN.out j (by omega),rfl,rfl⟩
theorem xE (b:Nat)(z:Int)(t:T)(d:Nat->Nat)(w:bD)(h:Tb true w b t)(hI:Sp.Inv t d):
  Calls Tryz.prog 140 #[.pointer (some ⟨b,0,none⟩), .int .i64 z] w fun e w'=>e= .returned (.tuple #[.int .i64 (Sp.ma t z:Int),aq (Sp.gS t z)])/\Tb true w' b (Sp.eP t z)/\af b w w':=by
 by_cases k:Sp.bj t z=0
 ·obtain⟨n,rfl,hn,hh⟩:=Sp.mA k;by_cases hl:4<=(Sp.W t n).length
  ·have e1:Sp.gS t n=7:=by unfold Sp.gS;rw[aJ k,aJ hl]
   have e2:Sp.ma t n=0:=by unfold Sp.ma;rw[e1];rfl
   have e3:Sp.eP t n=t:=by unfold Sp.eP;rw[e1];rfl
   refine(JA b n t d w h hI.tree hn hh hl).mono ?_;rintro e w' ⟨rfl,rfl⟩;rw[e1,e2,e3];exact⟨rfl,h,af.refl _ _⟩
  ·refine(Ku b n t d w h hI.tree hn hh (by omega)).mono ?_;rintro e w' (⟨m,hm,hmh,hml,rfl,ht,hf⟩|⟨hall,rfl,rfl⟩)
   ·have ef:=Sp.J5 hm hmh hml;have e1:Sp.gS t n=0:=by unfold Sp.gS;rw[aJ k,aI hl,ef,aI (by omega)]
    have e2:Sp.ma t n=m:=by unfold Sp.ma;rw[e1,aJ rfl,ef]
    rw[e1,e2];refine⟨rfl,?_,hf⟩;unfold Sp.eP;rw[e1,aJ rfl,ef];refine ht.congr (fq (fun a ha=>by rw[cr true _ a ha,cr true _ a ha]) (fun a ha=>by rw[cG true _ a ha,cG true _ a ha]) (fun a q ha hq=>?_) (fun y hy=>by rw[dj,dj]));rw[cH true _ a q ha hq,cH true _ a q ha hq];by_cases c:a=m
    ·subst c;simp[hI.dead ha hq hmh]
    ·simp[c]
   ·have ef:=Sp.Kx hall;have e1:Sp.gS t n=4:=by unfold Sp.gS;rw[aJ k,aI hl,ef,aJ rfl]
    have e2:Sp.ma t n=0:=by unfold Sp.ma;rw[e1];rfl
    have e3:Sp.eP t n=t:=by unfold Sp.eP;rw[e1];rfl
    rw[e1,e2,e3];exact⟨rfl,h,af.refl _ _⟩
 ·have e1:Sp.gS t z=Sp.bj t z:=by unfold Sp.gS;rw[aI k]
  have e2:Sp.ma t z=0:=by unfold Sp.ma;rw[e1,aI k]
  have e3:Sp.eP t z=t:=by unfold Sp.eP;rw[e1,aI k]
  refine(Hc b z t w h k).mono ?_;rintro e w' ⟨rfl,rfl⟩;rw[e1,e2,e3];exact⟨rfl,h,af.refl _ _⟩
theorem Fb (b:Nat)(z:Int)(t:T)(w:bD)(h:Tb true w b t)(k:Sp.bj t z≠0):
  Calls Tryz.prog 153 #[.pointer (some ⟨b,0,none⟩), .int .i64 z] w fun e w'=>e= .returned (aq (Sp.bj t z))/\w'=w:=by
 have HF:=hZ h;have HW:=hZ k;clear h k;go_in
 go_wp2_with fail
 refine(dK b z t _ HF.out).mono ?_;rintro e w1 ⟨rfl,hw⟩;subst w1;rw[aj HW.out];go_wp2
 go_ret
 rw[aj HW.out];exact⟨rfl,rfl⟩
theorem IM (b:Nat)(t:T)(w:bD)(h:Tb true w b t)(k:Sp.bj t 0=0):
  Calls Tryz.prog 153 #[.pointer (some ⟨b,0,none⟩), .int .i64 0] w fun e w'=>e= .returned (aq 5)/\w'=w:=by
 have HF:=hZ h;have HK:=hZ k;clear h k;go_in
 go_wp2_with fail
 refine(dK b 0 t _ HF.out).mono ?_;rintro e w1 ⟨rfl,hw⟩;subst w1;rw[HK.out,aa];go_wp2
 go_ret
 exact⟨rfl,rfl⟩
theorem Hj (b n:Nat)(t:T)(w:bD)(h:Tb true w b t)(n0:n≠0)(hn:n<6)(hh:t.here n=true):
  Calls Tryz.prog 153 #[.pointer (some ⟨b,0,none⟩), .int .i64 n] w fun e w'=>
   ((Sp.eO t n≠[]\/Sp.kids t n=true)/\e= .returned (aq 5)/\Below w.heap.size w w')\/(Sp.eO t n=[]/\Sp.kids t n=false/\e= .returned (aq 0)/\Tb true w' b {t with here:=Sp.lB t.here n false,par:=Sp.fw t.par n 0,ay:=fun a q=>if a=n then 0 else t.ay a q}/\af b w w'):=by
 have HF:=hZ h;have HH:=hZ hh;have HK:=hZ (Sp.gO hn hh);have nz:((n:Int)==0)=false:=by simp;omega
 have hnI:(n:Int)<6:=by omega
 have hs0:Hid ((Tryz.prog.info? 177).map (·.size)=some (dG false 0 (eG 0)).size):=hZ (by rw[eA];kernel_rfl);clear h hh;go_in
 go_wp2_with fail
 refine(dK b n t _ HF.out).mono ?_;rintro e w1 ⟨rfl,hw⟩;subst w1;rw[HK.out,aa];go_wp2_with fail
 refine(uk b n t _ HF.out hn HH.out).mono ?_;rintro e w1 ⟨v,rfl,hL⟩;obtain⟨a,cap,hv⟩:=fC hL.own;subst hv;have B1:=hZ hL.bF;clear hL;by_cases c:Sp.eO t n=[]
 ·have HC:=hZ c;rw[c];clear c;go_wp2_with fail
  refine(FV b n t _ (HF.out.below B1.out)).mono ?_;rintro e w2 ⟨rfl,hb2⟩;have B2:=hZ (B1.out.trans (hb2.mono B1.out.size));clear hb2;cases hkd:Sp.kids t n
  ·have HKD:=hZ hkd;have T2:=hZ (HF.out.below B2.out);have S2:Hid (Tb true (w2.setCells b (n*23) (dG false 0 (eG 0)).toList) b {t with here:=Sp.lB t.here n false,par:=Sp.fw t.par n 0,ay:=fun a q=>if a=n then 0 else t.ay a q}/\af b w (w2.setCells b (n*23) (dG false 0 (eG 0)).toList)):=hZ ⟨T2.out.vx n hn false 0 (eG 0) (fun _=>0) (fun q hq=>by unfold eG;rw[aI (by omega)];rfl),af.setCells _ _ (af.bB B2.out)⟩;clear hkd;go_wp2_with (first|(refine vr rfl rfl ?_)|(refine wpList_store_mid rfl 177 _ _ rfl b (n*23) (dG false 0 (eG 0)) rfl rfl (T2.out.there n hn _ (eA _ _ _)) hs0.out (qe _ _ _) ?_;generalize hW:World.setCells _ _ _ _=W2;have S3:Hid (Tb true W2 b {t with here:=Sp.lB t.here n false,par:=Sp.fw t.par n 0,ay:=fun a q=>if a=n then 0 else t.ay a q}/\af b w W2):=hZ (by rw[<-hW];exact S2.out);clear hW S2 T2))
   go_ret
   exact .inr ⟨HC.out,HKD.out,rfl,S3.out.1,S3.out.2⟩
  ·have HKD:=hZ hkd;clear hkd;go_wp2
   go_ret
   exact .inl ⟨.inr HKD.out,rfl,B2.out⟩
 ·have HC:=hZ c;have hlen:0<(Sp.eO t n).length:=List.length_pos_iff.2 c;generalize (Sp.eO t n).length=L at*;have hlI:(0:Int)<(L:Int):=by omega
  clear c hlen;go_wp2
  go_ret
  exact .inl ⟨.inl HC.out,rfl,B1.out⟩
theorem Jz (b:Nat)(z:Int)(t:T)(w:bD)(h:Tb true w b t):
  Calls Tryz.prog 153 #[.pointer (some ⟨b,0,none⟩), .int .i64 z] w fun e w'=>e= .returned (aq (Sp.gV t z))/\Tb true w' b (Sp.fM t z)/\af b w w':=by
 by_cases k:Sp.bj t z=0
 ·obtain⟨n,rfl,hn,hh⟩:=Sp.mA k;by_cases n0:n=0
  ·subst n0;have e1:Sp.gV t ((0:Nat):Int)=5:=by unfold Sp.gV;rw[aJ k,aJ (.inl rfl)]
   have e3:Sp.fM t ((0:Nat):Int)=t:=by unfold Sp.fM;rw[e1];rfl
   refine(IM b t w h k).mono ?_;rintro e w' ⟨rfl,rfl⟩;rw[e1,e3];exact⟨rfl,h,af.refl _ _⟩
  ·refine(Hj b n t w h n0 hn hh).mono ?_;rintro e w' (⟨hc,rfl,hb⟩|⟨hm,hk,rfl,ht,hf⟩)
   ·have e1:Sp.gV t n=5:=by unfold Sp.gV;rw[aJ k,hU,aJ (.inr hc)]
    have e3:Sp.fM t n=t:=by unfold Sp.fM;rw[e1];rfl
    rw[e1,e3];exact⟨rfl,h.below hb,af.bB hb⟩
   ·have e1:Sp.gV t n=0:=by
     unfold Sp.gV;rw[aJ k,hU,aI];grind
    rw[e1];refine⟨rfl,?_,hf⟩;unfold Sp.fM;rw[e1,aJ rfl,hU];refine ht.congr (fq (fun a ha=>by rw[cr true _ a ha,cr true _ a ha]) (fun a ha=>by rw[cG true _ a ha,cG true _ a ha]) (fun a q ha hq=>?_) (fun y hy=>by rw[dj,dj]));rw[cH true _ a q ha hq,cH true _ a q ha hq];by_cases c:a=n
    ·subst c;simp[Sp.By hm q hq]
    ·simp[c]
 ·have e1:Sp.gV t z=Sp.bj t z:=by unfold Sp.gV;rw[aI k]
  have e3:Sp.fM t z=t:=by unfold Sp.fM;rw[e1,aI k]
  refine(Fb b z t w h k).mono ?_;rintro e w' ⟨rfl,rfl⟩;rw[e1,e3];exact⟨rfl,h,af.refl _ _⟩
namespace Sp
theorem Kb {t t':T}{n:Nat}(h: ∀p,t'.ay n p=t.ay n p):low t' n=low t n:=by unfold low rM;grind
theorem Fg {t t':T}{n x:Nat}(h: ∀p,t'.ay n p=t.ay n p):gv t' n x=gv t n x:=by unfold gv rK;grind
theorem Inv.pid {t:T}{d:Nat->Nat}(h:Inv t d){n x:Nat}(hn:n<6)(he: ∃p,p<21/\t.ay n p=x+1):gv t n x≠0/\gv t n x<21/\t.ay n (gv t n x)=x+1:=by
 obtain⟨p,hp,e⟩:=he;unfold gv;cases hf:(List.range 21).find? (rK t n x)with
 |none=>
  have:=List.find?_eq_none.1 hf p (by simpa using hp);exact aZ (by unfold rK;simp[e]) this
 |some k=>
  have:=j9 hf;have hk:t.ay n k=x+1:=by have:=this.2.1;unfold rK at this;simpa using this
  refine⟨fun c=>?_,this.1,hk⟩;have c':k=0:=c;rw[c',h.nO n hn]at hk;omega
def lS (t:T)(L:List Nat)(n y:Nat):T:={Ay t L y with of:=rH t.of y (n+1)}
def kK (t:T)(L:List Nat)(y:Nat):T:={xX t L y with of:=rH t.of y 0}
end Sp
section
variable {w : bD} {b : Nat} {t : T}
theorem FE {n y:Nat}(h:Tb true w b t)(hy:y<20):Tb true (w.setCell ⟨b,138+y,none⟩ (.int .i64 (n:Int))) b (Sp.lS t [] n y):=by
 have:=h.setOf y (n+1) hy;rw[show co true (n+1)=(n:Int)by unfold co;simp]at this;exact this.congr (fq (fun m hm=>by rw[cr true _ m hm,cr true _ m hm];rfl) (fun m hm=>by rw[cG true _ m hm,cG true _ m hm];rfl) (fun m q hm hq=>by rw[cH true _ m q hm hq,cH true _ m q hm hq];simp[Sp.lS,Sp.Ay]) (fun z hz=>by rw[dj,dj];rfl))
theorem OA {L:List Nat}{n y m:Nat}(h:Tb true w b (Sp.lS t L n y))(hm:m<6)(hh:t.here m=true)(hp:Sp.low t m<21):Tb true (w.setCell ⟨b,m*23+2+Sp.low t m,none⟩ (.int .i64 (y:Int))) b (Sp.lS t (L++[m]) n y):=by
 have:=h.GJ m (Sp.low t m) (y+1) hm hp;rw[show cw true ((Sp.lS t L n y).here m) (y+1)=(y:Int)by rw[show(Sp.lS t L n y).here m=t.here m from rfl,hh];unfold cw;simp]at this;refine this.congr (fq (fun a ha=>by rw[cr true _ a ha,cr true _ a ha];rfl) (fun a ha=>by rw[cG true _ a ha,cG true _ a ha];rfl) (fun a q ha hq=>?_) (fun z hz=>by rw[dj,dj];rfl));rw[cH true _ a q ha hq,cH true _ a q ha hq];have e:(Sp.lS t (L++[m]) n y).ay a q=(He (Sp.lS t L n y) m (Sp.low t m) (y+1)).ay a q:=by
  show(if a∈L++[m]/\q=Sp.low t a then y+1 else t.ay a q)=if a=m/\q=Sp.low t m then y+1 else(if a∈L/\q=Sp.low t a then y+1 else t.ay a q);grind
 rw[e];rfl
theorem ER {y:Nat}(h:Tb true w b t)(hy:y<20):Tb true (w.setCell ⟨b,138+y,none⟩ (.int .i64 (-1))) b (Sp.kK t [] y):=by
 have:=h.setOf y 0 hy;exact this.congr (fq (fun m hm=>by rw[cr true _ m hm,cr true _ m hm];rfl) (fun m hm=>by rw[cG true _ m hm,cG true _ m hm];rfl) (fun m q hm hq=>by rw[cH true _ m q hm hq,cH true _ m q hm hq];simp[Sp.kK,Sp.xX]) (fun z hz=>by rw[dj,dj];rfl))
theorem Mj {L:List Nat}{y m p:Nat}(h:Tb true w b (Sp.kK t L y))(hm:m<6)(hh:t.here m=true)(hp:p<21)(e1:t.ay m p=y+1)(e2: ∀q,q<21->t.ay m q=y+1->q=p):Tb true (w.setCell ⟨b,m*23+2+p,none⟩ (.int .i64 (-1))) b (Sp.kK t (L++[m]) y):=by
 have:=h.GJ m p 0 hm hp;rw[show cw true ((Sp.kK t L y).here m) 0= -1 by rw[show(Sp.kK t L y).here m=t.here m from rfl,hh];rfl]at this;refine this.congr (fq (fun a ha=>by rw[cr true _ a ha,cr true _ a ha];rfl) (fun a ha=>by rw[cG true _ a ha,cG true _ a ha];rfl) (fun a q ha hq=>?_) (fun z hz=>by rw[dj,dj];rfl));rw[cH true _ a q ha hq,cH true _ a q ha hq];have e:(Sp.kK t (L++[m]) y).ay a q=(He (Sp.kK t L y) m p 0).ay a q:=by
  show(if a∈L++[m]/\t.ay a q=y+1 then 0 else t.ay a q)=if a=m/\q=p then 0 else(if a∈L/\t.ay a q=y+1 then 0 else t.ay a q);grind
 rw[e];rfl
end
theorem uf (b:Nat)(z x:Int)(t:T)(w:bD)(h:Tb true w b t)(k:Sp.gM t z x≠0):
  Calls Tryz.prog 142 #[.pointer (some ⟨b,0,none⟩), .int .i64 z, .int .i64 x] w fun e w'=>e= .returned (.tuple #[.int .i64 0,aq (Sp.gM t z x)])/\w'=w:=by
 have HF:=hZ h;have HW:=hZ k;clear h k;go_in
 go_wp2_with fail
 refine(jw b z x t _ HF.out).mono ?_;rintro e w1 ⟨rfl,hw⟩;subst w1;rw[aj HW.out];go_wp2
 go_ret2
 rw[aj HW.out];exact⟨rfl,rfl⟩
theorem ue (b n y:Nat)(t:T)(w:bD)(h:Tb true w b t)(k:Sp.gM t n y=0)(hy:y<20)(ho:t.of y≠0):
  Calls Tryz.prog 142 #[.pointer (some ⟨b,0,none⟩), .int .i64 n, .int .i64 y] w fun e w'=>e= .returned (.tuple #[.int .i64 0,aq 3])/\w'=w:=by
 have HF:=hZ h;have HK:=hZ k;have c:=h.LJ y hy;have hyI:(y:Int)<20:=by omega
 obtain⟨v,hv⟩:=nJ ((t.of y:Int)-1);have v0:(v== -1)=false:=by simp;omega
 rw[hv]at c;clear h k hv ho;go_in
 go_wp2_with fail
 refine(jw b n y t _ HF.out).mono ?_;rintro e w1 ⟨rfl,hw⟩;subst w1;rw[HK.out,aa];go_wp2
 go_ret2
 exact⟨rfl,rfl⟩
theorem JS (b n y:Nat)(t:T)(d:Nat->Nat)(w:bD)(h:Tb true w b t)(hI:Sp.Inv t d)(k:Sp.gM t n y=0)(hn:n<6)(hh:t.here n=true)(hy:y<20)(ho:t.of y=0):
  Calls Tryz.prog 142 #[.pointer (some ⟨b,0,none⟩), .int .i64 n, .int .i64 y] w fun e w'=>e= .returned (.tuple #[.int .i64 (r8 (Sp.lS t (Sp.W t n) n y) n y),aq 0])/\Tb true w' b (Sp.lS t (Sp.W t n) n y)/\af b w w':=by
 have HF:=hZ h;have HI:=hZ hI;have HK:=hZ k;have HH:=hZ (aK hh ho);have c:=h.LJ y hy;rw[ho]at c;have c':w.cell? ⟨b,138+y,none⟩=some (.int .i64 (-1)):=c;have cf:=h.frozen;have hyI:(y:Int)<20:=by omega
 have hnI:(n:Int)<6:=by omega
 have S0:Hid (Tb true (w.setCell ⟨b,138+y,none⟩ (.int .i64 (n:Int))) b (Sp.lS t [] n y)/\af b w (w.setCell ⟨b,138+y,none⟩ (.int .i64 (n:Int)))):=hZ ⟨FE h hy,(af.refl b w).setCell _ _⟩;clear h hI k hh ho c;go_in
 go_wp2_with fail
 refine(jw b n y t _ HF.out).mono ?_;rintro e w1 ⟨rfl,hw⟩;subst w1;rw[HK.out,aa];go_wp2_with fail
 refine bw (fun W=>Tb true W b (Sp.lS t [] n y)/\af b w W) S0.out ?_;rintro W1 ⟨h1,f1⟩;have S1:=hZ (aK h1 f1);clear h1 f1 S0 c' cf;go_loopw [9] (fun i wr=> ∃(z:Int) (L:List Nat),i= .int .i64 z/\Hid (Tb true wr b (Sp.lS t L n y)/\af b w wr/\L++Sp.W t z=Sp.W t n/\(z= -1\/ ∃m:Nat,z=m/\m<6/\t.here m=true))) (fun i _=>(Sp.W t (intOf i)).length)
 case atStart=>exact⟨n,[],rfl,S1.out.1,S1.out.2,rfl, .inr ⟨n,rfl,hn,HH.out.1⟩⟩
 case round=>
  clear S1;obtain⟨z,L,rfl,S⟩:=hrel;rcases S.out.2.2.2 with rfl|⟨m,rfl,hm,hmh⟩
  ·have HE:Hid (L=Sp.W t n):=hZ (by have:=S.out.2.2.1;rw[Sp.mf t (-1) (by omega),List.append_nil]at this;exact this);have S2:Hid (Tb true wr b (Sp.lS t (Sp.W t n) n y)/\af b w wr):=hZ (by rw[<-HE.out];exact⟨S.out.1,S.out.2.1⟩);clear S HE;have h0:Hid ((Sp.lS t (Sp.W t n) n y).ay n 0=0):=hZ (by
    show(if n∈Sp.W t n/\0=Sp.low t n then y+1 else t.ay n 0)=0;have:=(HI.out.low hy HH.out.2 hn).1;rw[aI (fun c=>by omega)];exact HI.out.nO n hn)
   go_wp2_with fail
   refine(xD b n y _ _ S2.out.1 hn HH.out.1 h0.out).mono ?_;rintro e w1 ⟨rfl,hw⟩;subst w1;go_wp2
   go_ret2
   exact⟨rfl,S2.out⟩
  ·have HMH:=hZ hmh;have ST:=hZ (HI.out.tree.step hm hmh);have PC:=hZ (HI.out.tree.fH hm hmh);have LW:=hZ (HI.out.low hy HH.out.2 hm);have hmI:(m:Int)<6:=by omega
   have hne:=tV m;have NM:Hid (m∉L):=hZ (fun c=>by
    have nd:=HI.out.tree.nodup hn HH.out.1;rw[<-S.out.2.2.1,ST.out]at nd;exact(List.nodup_append.1 nd).2.2 m c m (by simp) rfl)
   have SW:Hid (∀p,(Sp.lS t L n y).ay m p=t.ay m p):=hZ (fun p=>by
    show(if m∈L/\p=Sp.low t m then y+1 else t.ay m p)=t.ay m p;rw[aI (fun c=>NM.out c.1)])
   clear hmh;go_wp2_with fail
   obtain⟨l,hl⟩:=nJ (Sp.low t m);have HL:=hZ hl;have hl21:(l:Int)<21:=by have:=LW.out.2.1;omega
   clear hl;go_region_held3 (fun _=>True) (trivial) ((go_at_call 221;refine(J8 b m _ _ S.out.1.drew hm HMH.out ⟨Sp.low t m,LW.out.1,LW.out.2.1,by rw[SW.out];exact LW.out.2.2.1⟩).mono ?_;rintro e w2 ⟨rfl,hw2⟩;rw[Sp.Kb SW.out,HL.out];subst hw2;have q1:=S.out.1.drew.EU m l hm (by have:=LW.out.2.1;rw[HL.out]at this;exact this);have qf:=S.out.1.drew.frozen))
   clear q1 qf;generalize hW2:World.drew _=W2;have S2:Hid (Tb true W2 b (Sp.lS t (L++[m]) n y)/\af b w W2):=hZ (by
    rw[<-hW2,<-HL.out];exact⟨(OA S.out.1 hm HMH.out LW.out.2.1).drew,(S.out.2.1.setCell _ _).drew⟩)
   have c1:W2.cell? ⟨b,m*23+1,none⟩=some (.int .i64 (t.par m)):=S2.out.1.sV m hm;clear hW2;go_wp2
   go_roundw
   case rel=>
    refine⟨t.par m,L++[m],by first|rfl|trivial,S2.out.1,S2.out.2,?_,?_⟩
    ·have:=S.out.2.2.1;rw[ST.out]at this;rw[<-this];simp
    ·rcases PC.out with⟨_,e,_⟩|⟨p,p1,p2,p3,_⟩
     ·exact .inl e
     ·exact .inr ⟨p,p2,p1,p3⟩
   case measure=>
    simp only[intOf];rw[ST.out,List.length_cons];omega
theorem G0 (b:Nat)(z x:Int)(t:T)(d:Nat->Nat)(w:bD)(h:Tb true w b t)(hI:Sp.Inv t d):
  Calls Tryz.prog 142 #[.pointer (some ⟨b,0,none⟩), .int .i64 z, .int .i64 x] w fun e w'=>e= .returned (.tuple #[.int .i64 (Sp.rY t z x:Int),aq (Sp.kO t z x)])/\Tb true w' b (Sp.dM t z x)/\af b w w':=by
 by_cases k:Sp.gM t z x=0
 ·obtain⟨n,y,rfl,rfl,hn,hy,hh⟩:=Sp.qO k;by_cases ho:t.of y=0
  ·have e1:Sp.kO t n y=0:=by unfold Sp.kO;rw[aJ k,hU,aJ ho]
   have e3:Sp.dM t n y=Sp.lS t (Sp.W t n) n y:=by unfold Sp.dM;rw[e1,aJ rfl,hU,hU];rfl
   have e2:Sp.rY t n y=Sp.gv (Sp.lS t (Sp.W t n) n y) n y:=by unfold Sp.rY;rw[e1,aJ rfl,e3,hU,hU]
   have i2:=hI.enter n y;rw[e3]at i2;have hp:=i2.pid (n:=n) (x:=y) hn ⟨Sp.low t n,(hI.low hy ho hn).2.1,by
    show(if n∈Sp.W t n/\Sp.low t n=Sp.low t n then y+1 else t.ay n (Sp.low t n))=y+1;rw[aJ ⟨by rw[hI.tree.step hn hh];simp,rfl⟩]⟩
   grind [JS,r8,ue,af.refl,uf]
  ·have e1:Sp.kO t n y=3:=by unfold Sp.kO;rw[aJ k,hU,aI ho]
   have e3:Sp.dM t n y=t:=by unfold Sp.dM;rw[e1];rfl
   have e2:Sp.rY t n y=0:=by unfold Sp.rY;rw[e1];rfl
   refine(ue b n y t w h k hy ho).mono ?_;rintro e w' ⟨rfl,rfl⟩;rw[e1,e2,e3];exact⟨rfl,h,af.refl _ _⟩
 ·have e1:Sp.kO t z x=Sp.gM t z x:=by unfold Sp.kO;rw[aI k]
  have e3:Sp.dM t z x=t:=by unfold Sp.dM;rw[e1,aI k]
  have e2:Sp.rY t z x=0:=by unfold Sp.rY;rw[e1,aI k]
  refine(uf b z x t w h k).mono ?_;rintro e w' ⟨rfl,rfl⟩;rw[e1,e2,e3];exact⟨rfl,h,af.refl _ _⟩
theorem Cm (b:Nat)(x:Int)(t:T)(w:bD)(h:Tb true w b t)(k:Sp.kF t x≠0):
  Calls Tryz.prog 152 #[.pointer (some ⟨b,0,none⟩), .int .i64 x] w fun e w'=>e= .returned (aq (Sp.kF t x))/\w'=w:=by
 have HF:=hZ h;have HW:=hZ k;clear h k;go_in
 go_wp2_with fail
 refine(Ae b x t _ HF.out).mono ?_;rintro e w1 ⟨rfl,hw⟩;subst w1;rw[aj HW.out];go_wp2
 go_ret
 rw[aj HW.out];exact⟨rfl,rfl⟩
theorem KQ (b n y:Nat)(t:T)(d:Nat->Nat)(w:bD)(h:Tb true w b t)(hI:Sp.Inv t d)(k:Sp.kF t y=0)(hk:Sp.cQ t y=n)(hn:n<6)(hh:t.here n=true)(hy:y<20)(ho:t.of y=n+1):
  Calls Tryz.prog 152 #[.pointer (some ⟨b,0,none⟩), .int .i64 y] w fun e w'=>e= .returned (aq 0)/\Tb true w' b (Sp.kK t (Sp.W t n) y)/\af b w w':=by
 have HF:=hZ h;have HI:=hZ hI;have HK:=hZ (aK k hk);have HH:=hZ (aK hh ho);have c:=h.LJ y hy;have cf:=h.frozen;have hyI:(y:Int)<20:=by omega
 have hnI:(n:Int)<6:=by omega
 have S0:Hid (Tb true (w.setCell ⟨b,138+y,none⟩ (.int .i64 (-1))) b (Sp.kK t [] y)/\af b w (w.setCell ⟨b,138+y,none⟩ (.int .i64 (-1)))):=hZ ⟨ER h hy,(af.refl b w).setCell _ _⟩;clear h hI k hk hh ho;go_in
 go_wp2_with fail
 refine(Ae b y t _ HF.out).mono ?_;rintro e w1 ⟨rfl,hw⟩;subst w1;rw[HK.out.1,HK.out.2,aa];go_wp2_with fail
 refine bw (fun W=>Tb true W b (Sp.kK t [] y)/\af b w W) S0.out ?_;rintro W1 ⟨h1,f1⟩;have S1:=hZ (aK h1 f1);clear h1 f1 S0 c cf;go_loopw [7] (fun i wr=> ∃(z:Int) (L:List Nat),i= .int .i64 z/\Hid (Tb true wr b (Sp.kK t L y)/\af b w wr/\L++Sp.W t z=Sp.W t n/\(z= -1\/ ∃m:Nat,z=m/\m<6/\t.here m=true))) (fun i _=>(Sp.W t (intOf i)).length)
 case atStart=>exact⟨n,[],rfl,S1.out.1,S1.out.2,rfl, .inr ⟨n,rfl,hn,HH.out.1⟩⟩
 case round=>
  clear S1;obtain⟨z,L,rfl,S⟩:=hrel;rcases S.out.2.2.2 with rfl|⟨m,rfl,hm,hmh⟩
  ·have HE:Hid (L=Sp.W t n):=hZ (by have:=S.out.2.2.1;rw[Sp.mf t (-1) (by omega),List.append_nil]at this;exact this);have S2:Hid (Tb true wr b (Sp.kK t (Sp.W t n) y)/\af b w wr):=hZ (by rw[<-HE.out];exact⟨S.out.1,S.out.2.1⟩);clear S HE;go_wp2
   go_ret
   exact⟨rfl,S2.out⟩
  ·have HMH:=hZ hmh;have ST:=hZ (HI.out.tree.step hm hmh);have PC:=hZ (HI.out.tree.fH hm hmh);have MW:Hid (m∈Sp.W t n):=hZ (by rw[<-S.out.2.2.1,ST.out];simp);have LW:=hZ (HI.out.pid (x:=y) hm ((HI.out.has m y hm hy).2 ⟨by rw[HH.out.2];omega,by rw[HH.out.2,aP];exact MW.out⟩));have hmI:(m:Int)<6:=by omega
   have hne:=tV m;have NM:Hid (m∉L):=hZ (fun c=>by
    have nd:=HI.out.tree.nodup hn HH.out.1;rw[<-S.out.2.2.1,ST.out]at nd;exact(List.nodup_append.1 nd).2.2 m c m (by simp) rfl)
   have SW:Hid (∀p,(Sp.kK t L y).ay m p=t.ay m p):=hZ (fun p=>by
    show(if m∈L/\t.ay m p=y+1 then 0 else t.ay m p)=t.ay m p;rw[aI (fun c=>NM.out c.1)])
   clear hmh;go_wp2_with fail
   obtain⟨l,hl⟩:=nJ (Sp.gv t m y);have HL:=hZ hl;have hl21:(l:Int)<21:=by have:=LW.out.2.1;omega
   clear hl;go_region_held3 (fun _=>True) (trivial) ((go_at_call 222;refine(xD b m y _ _ S.out.1.drew hm HMH.out (by rw[SW.out];exact HI.out.nO m hm)).mono ?_;rintro e w2 ⟨rfl,hw2⟩;have hpi:r8 (Sp.kK t L y) m y=(l:Int):=(by unfold r8;rw[Sp.Fg SW.out,HL.out,aI (by have:=LW.out.1;rw[HL.out]at this;exact this)]);rw[hpi];subst hw2;have q1:=S.out.1.drew.EU m l hm (by have:=LW.out.2.1;rw[HL.out]at this;exact this);have qf:=S.out.1.drew.frozen;clear hpi))
   clear q1 qf;generalize hW2:World.drew _=W2;have S2:Hid (Tb true W2 b (Sp.kK t (L++[m]) y)/\af b w W2):=hZ (by
    have lw:=LW.out;rw[HL.out]at lw;rw[<-hW2];exact⟨(Mj S.out.1 hm HMH.out lw.2.1 lw.2.2 (fun q hq e=>HI.out.one m q l hm hq lw.2.1 (by rw[e,lw.2.2]) (by rw[e];omega))).drew,(S.out.2.1.setCell _ _).drew⟩)
   have c1:W2.cell? ⟨b,m*23+1,none⟩=some (.int .i64 (t.par m)):=S2.out.1.sV m hm;clear hW2;go_wp2
   go_roundw
   case rel=>
    refine⟨t.par m,L++[m],by first|rfl|trivial,S2.out.1,S2.out.2,?_,?_⟩
    ·have:=S.out.2.2.1;rw[ST.out]at this;rw[<-this];simp
    ·rcases PC.out with⟨_,e,_⟩|⟨p,p1,p2,p3,_⟩
     ·exact .inl e
     ·exact .inr ⟨p,p2,p1,p3⟩
   case measure=>
    simp only[intOf];rw[ST.out,List.length_cons];omega
theorem Hf (b:Nat)(x:Int)(t:T)(d:Nat->Nat)(w:bD)(h:Tb true w b t)(hI:Sp.Inv t d):
  Calls Tryz.prog 152 #[.pointer (some ⟨b,0,none⟩), .int .i64 x] w fun e w'=>e= .returned (aq (Sp.kF t x))/\Tb true w' b (Sp.cY t x)/\af b w w':=by
 by_cases k:Sp.kF t x=0
 ·obtain⟨y,rfl,hy,ho⟩:=Sp.BR k;have o:=hI.nr y hy ho;have e2:Sp.cQ t y=t.of y-1:=by unfold Sp.cQ;rw[aJ k,hU]
  refine(KQ b (t.of y-1) y t d w h hI k e2 (by omega) o.2 hy (by omega)).mono ?_;rintro e w' ⟨rfl,h1,h2⟩;rw[k];refine⟨rfl,?_,h2⟩;unfold Sp.cY;rw[k,aJ rfl,hU];refine h1.congr (fq (fun a ha=>by rw[cr true _ a ha,cr true _ a ha];rfl) (fun a ha=>by rw[cG true _ a ha,cG true _ a ha];rfl) (fun a q ha hq=>?_) (fun z hz=>by rw[dj,dj];rfl));rw[cH true _ a q ha hq,cH true _ a q ha hq];have e:(if a∈List.range 6/\t.ay a q=y+1 then 0 else t.ay a q)=(if a∈Sp.W t ((t.of y-1:Nat):Int)/\t.ay a q=y+1 then 0 else t.ay a q):=by
   by_cases c:t.ay a q=y+1
   ·rw[aJ ⟨by simpa using ha,c⟩,aJ ⟨((hI.has a y ha hy).1 ⟨q,hq,c⟩).2,c⟩]
   grind
  show Value.int .i64 (cw true (t.here a) (if a∈List.range 6/\t.ay a q=y+1 then 0 else t.ay a q))=Value.int .i64 (cw true (t.here a) (if a∈Sp.W t ((t.of y-1:Nat):Int)/\t.ay a q=y+1 then 0 else t.ay a q));rw[e]
 ·have e3:Sp.cY t x=t:=by unfold Sp.cY;rw[aI k]
  refine(Cm b x t w h k).mono ?_;rintro e w' ⟨rfl,rfl⟩;rw[e3];exact⟨rfl,h,af.refl _ _⟩

import Derived.Shelf.Strings.Prefix
import Derived.Shelf.Strings.Split
import Derived.Test.YtpmmdkcfenjiaaaGreatDoorVau
set_option linter.unusedVariables false
set_option linter.unusedSimpArgs false
set_option maxRecDepth 100000
set_option maxHeartbeats 4000000
namespace Go.Proofs
open Go.Shelf
def Tryz.En:Go.Shelf.Ren:=⟨fun|99=>277|206=>300|n=>n,fun|9=>9|4=>4|3=>3|n=>n,fun|n=>n⟩
theorem Tryz.Oq:Go.Proofs.Lays.n99 Tryz.prog Tryz.En:={
 mixed:=by kernel_rfl
 f99:=Tryz.func277.trans (congrArg some (by kernel_rfl))
 f206:=Tryz.func300.trans (congrArg some (by kernel_rfl))
 t3:=Tryz.underlying3
 a3:=Tryz.isAgg3
 z3:=Tryz.sizeOf3
 v3:=Tryz.zeroValue3
 t4:=Tryz.underlying4
 a4:=Tryz.isAgg4
 z4:=Tryz.sizeOf4
 v4:=Tryz.zeroValue4
 t9:=Tryz.underlying9
 a9:=Tryz.isAgg9
 z9:=Tryz.sizeOf9
 v9:=Tryz.zeroValue9}
open Go.RowKit Go.Lib in
theorem Tryz.strings_HasPrefix (s p:ByteArray)(w:World):
 Calls Tryz.prog 277 #[.string s, .string p] w fun e w'=>e= .returned (.bool (Lib.hasPrefix s.data.toList p.data.toList))/\w'=w:=Any.strings_HasPrefix Tryz.Oq s p w
def Tryz.mW:Go.Shelf.Ren:=⟨fun|221=>301|268=>323|138=>324|143=>325|195=>332|197=>333|218=>334|219=>335|260=>337|217=>338|225=>339|224=>340|267=>341|266=>342|314=>343|n=>n,fun|9=>9|3=>3|31=>152|4=>4|0=>0|105=>350|21=>21|5=>5|46=>327|119=>356|139=>359|138=>358|146=>360|51=>341|n=>n,fun|1=>0|3=>1|4=>2|n=>n⟩
theorem Tryz.Np:Go.Proofs.Lays.n221 Tryz.prog Tryz.mW:={
 mixed:=by kernel_rfl
 f138:=Tryz.func324.trans (congrArg some (by kernel_rfl))
 f143:=Tryz.func325.trans (congrArg some (by kernel_rfl))
 f195:=Tryz.func332.trans (congrArg some (by kernel_rfl))
 f197:=Tryz.func333.trans (congrArg some (by kernel_rfl))
 f217:=Tryz.func338.trans (congrArg some (by kernel_rfl))
 f218:=Tryz.func334.trans (congrArg some (by kernel_rfl))
 f219:=Tryz.func335.trans (congrArg some (by kernel_rfl))
 f221:=Tryz.func301.trans (congrArg some (by kernel_rfl))
 f224:=Tryz.func340.trans (congrArg some (by kernel_rfl))
 f225:=Tryz.func339.trans (congrArg some (by kernel_rfl))
 f260:=Tryz.func337.trans (congrArg some (by kernel_rfl))
 f266:=Tryz.func342.trans (congrArg some (by kernel_rfl))
 f267:=Tryz.func341.trans (congrArg some (by kernel_rfl))
 f268:=Tryz.func323.trans (congrArg some (by kernel_rfl))
 f314:=Tryz.func343.trans (congrArg some (by kernel_rfl))
 t0:=Tryz.underlying0
 a0:=Tryz.isAgg0
 z0:=Tryz.sizeOf0
 v0:=Tryz.zeroValue0
 t3:=Tryz.underlying3
 a3:=Tryz.isAgg3
 z3:=Tryz.sizeOf3
 v3:=Tryz.zeroValue3
 t4:=Tryz.underlying4
 a4:=Tryz.isAgg4
 z4:=Tryz.sizeOf4
 v4:=Tryz.zeroValue4
 t5:=Tryz.underlying5
 a5:=Tryz.isAgg5
 z5:=Tryz.sizeOf5
 v5:=Tryz.zeroValue5
 t9:=Tryz.underlying9
 a9:=Tryz.isAgg9
 z9:=Tryz.sizeOf9
 v9:=Tryz.zeroValue9
 t21:=Tryz.underlying21
 a21:=Tryz.isAgg21
 z21:=Tryz.sizeOf21
 v21:=Tryz.zeroValue21
 t31:=Tryz.underlying152
 a31:=Tryz.isAgg152
 z31:=Tryz.sizeOf152
 v31:=Tryz.zeroValue152
 t46:=Tryz.underlying327
 a46:=Tryz.isAgg327
 z46:=Tryz.sizeOf327
 v46:=Tryz.zeroValue327
 t51:=Tryz.underlying341
 a51:=Tryz.isAgg341
 z51:=Tryz.sizeOf341
 v51:=Tryz.zeroValue341
 t105:=Tryz.underlying350
 a105:=Tryz.isAgg350
 z105:=Tryz.sizeOf350
 v105:=Tryz.zeroValue350
 t119:=Tryz.underlying356
 a119:=Tryz.isAgg356
 z119:=Tryz.sizeOf356
 t138:=Tryz.underlying358
 a138:=Tryz.isAgg358
 z138:=Tryz.sizeOf358
 v138:=Tryz.zeroValue358
 t139:=Tryz.underlying359
 a139:=Tryz.isAgg359
 z139:=Tryz.sizeOf359
 v139:=Tryz.zeroValue359
 t146:=Tryz.underlying360
 a146:=Tryz.isAgg360
 z146:=Tryz.sizeOf360
 v146:=Tryz.zeroValue360
 g1:=by kernel_rfl
 g3:=by kernel_rfl
 g4:=by kernel_rfl}
end Go.Proofs
namespace Go.Proofs.YtpmmdkcfenjiaaaGreatDoor
open Go.RowKit
open Tr (Fo Nd)
open Mo (Wh Mt Tb)
namespace Mo
def gX:List UInt8->List (List UInt8)
 |[]=>[[]]
 |c::r=>if c=47 then[]::gX r else(match gX r with
  |[]=>[[c]]
  |h::t=>(c::h)::t)
theorem QL: ∀l:List UInt8,gX l≠[]
 |[]=>by simp[gX]
 |c::r=>by
  unfold gX;split
  ·simp
  ·split<;>simp
theorem zO: ∀l:List UInt8,(gX l).length<=l.length+1
 |[]=>by simp[gX]
 |c::r=>by
  have ih:=zO r;unfold gX;split
  ·simp;omega
  ·cases h:gX r with
   |nil=>simp
   |cons a t=>rw[h]at ih;simp at ih|-;omega
theorem Nt (r:List UInt8):gX (47::r)=[]::gX r:=by
 conv=>lhs;unfold gX
 rw[aJ rfl]
theorem xU {c:UInt8}{r h:List UInt8}{t:List (List UInt8)}(hc:c≠47)(e:gX r=h::t):gX (c::r)=(c::h)::t:=by
 conv=>lhs;unfold gX
 rw[aI hc,e]
theorem wT: ∀s:List UInt8,Lib.splitK [47] 0 (Lib.count s [47]) s=gX s
 |[]=>rfl
 |c::r=>by
  have ih:=wT r;by_cases h:c=47
  ·subst h;rw[Lib.count_cons_eq,Nat.add_comm];have hi:Lib.index (47::r) [47]=0:=by rw[Lib.index_one];rfl
   rw[Nt,<-ih]
   conv=>lhs;unfold Lib.splitK
   rw[aI (by rw[hi];decide),hi];rfl
  ·rw[Lib.count_cons_ne c 47 r h];have e1:Lib.index (c::r) [47]=if Lib.index r [47]= -1 then -1 else Lib.index r [47]+1:=by
    rw[Lib.index_one,Lib.index_one]
    conv=>lhs;unfold Lib.indexByte
    rw[aI (by simpa using h)];by_cases d:Lib.indexByte r 47= -1
    ·rw[aJ d,aJ (by simpa using d)]
    ·rw[aI d,aI (by simpa using d)]
   cases hk:Lib.count r [47]with
   |zero=>
    rw[hk]at ih;rw[xU h ih.symm];rfl
   |succ k=>
    rw[hk]at ih;by_cases d:Lib.index r [47]= -1
    ·have e2:Lib.splitK [47] 0 (k+1) r=[r]:=by
      conv=>lhs;unfold Lib.splitK
      rw[aJ (by simpa using d)]
     rw[xU h (ih.symm.trans e2)]
     conv=>lhs;unfold Lib.splitK
     rw[aJ (by rw[e1,aJ d];decide)]
    ·have ge: -1<=Lib.index r [47]:=by rw[Lib.index_one];exact Lib.indexByte_ge r 47
     obtain⟨i,hi⟩: ∃i:Nat,Lib.index r [47]=i:=⟨(Lib.index r [47]).toNat,by omega⟩;have e2:Lib.splitK [47] 0 (k+1) r=r.take i::Lib.splitK [47] 0 k (r.drop (i+1)):=by
      conv=>lhs;unfold Lib.splitK
      rw[aI (by rw[hi];simp),hi];rfl
     rw[xU h (ih.symm.trans e2)]
     conv=>lhs;unfold Lib.splitK
     rw[aI (by rw[e1,aI d,hi];simp;omega),e1,aI d,hi];rfl
def sl:bU:=⟨#[47]⟩
def ba (l:List UInt8):bU:=⟨l.toArray⟩
theorem DH (s:bU):Lib.splitB sl 0 (Lib.countB s sl) s=(gX s.data.toList).map ba:=by
 have e:=Lib.splitB_data sl 0 (Lib.countB s sl) s;rw[show Lib.splitK sl.data.toList 0 (Lib.countB s sl) s.data.toList=gX s.data.toList from wT _]at e;rw[<-e,List.map_map]
 conv=>lhs;rw[<-List.map_id (Lib.splitB sl 0 (Lib.countB s sl) s)]
 rfl
def wu (p:bU):List bU:=(gX (p.data.toList.drop 1)).map ba
def ud (s:bU):Bool:=Bb s||Tr.eX s
def eY (p:bU):Int:=if 60<p.size\/p.data.toList.head?≠some 47 then 9 else if p.size=1 then 0 else if(wu p).all ud=true then 0 else 9
def ir (p:bU):List bU:=if eY p=0/\p.size≠1 then wu p else[]
theorem CV (p:bU):(wu p).length<=p.size+1:=by
 unfold wu;rw[List.length_map];have:=zO (p.data.toList.drop 1);rw[List.length_drop]at this;have h:p.data.toList.length=p.size:=aB;omega
end Mo
theorem Ed (s:bU)(w:bD)(hs:s.size<=1000):
  Calls Tryz.prog 278 #[.string s, .string ⟨#[47]⟩] w fun e w'=>e= .returned (.slice (some ⟨w.heap.size,0,none⟩) ((Mo.gX s.data.toList).map Mo.ba).length ((Mo.gX s.data.toList).map Mo.ba).length)/\w'=w.alloc (.cells (((Mo.gX s.data.toList).map Mo.ba).map Value.string).toArray 9):=by
 have L:=Tryz.Np;have hle:=Lib.countB_le Mo.sl (by decide) s.size s (aL _);have hlen:=Lib.splitB_all Mo.sl (by decide) 0 _ s rfl;have hC:Calls Tryz.prog 324 #[.string s, .string Mo.sl] w fun e w'=>e= .returned (.int .i64 (Lib.countB s Mo.sl))/\w'=w:=
  (Any.strings_Count_one (ρ:=Tryz.mW) {L with} s 47 w).mono fun e w' ⟨he,hw⟩=>⟨by
   rw[he];show _=Ending.returned (Value.int .i64 ((Lib.count s.data.toList [47]:Nat):Int));rw[Lib.count_one];rfl,hw⟩
 have hI: ∀(x:bU) (c:Array Value),x.size<=s.size->Calls Tryz.prog 325 #[.string x, .string Mo.sl] (w.alloc (.cells c 9)) fun e w'=>e= .returned (.int .i64 (Lib.indexB x Mo.sl))/\w'=w.alloc (.cells c 9):=fun x c _=>
  (Any.strings_Index_one (ρ:=Tryz.mW) {L with} x 47 _).mono fun e w' ⟨he,hw⟩=>⟨by
   rw[he];show _=Ending.returned (Value.int .i64 (Lib.index x.data.toList [47]));rw[Lib.index_one],hw⟩
 have c:=Any.strings_genSplit_core (ρ:=Tryz.mW) L (by kernel_rfl) s Mo.sl 0 (-1) (Lib.countB s Mo.sl+1) w (by omega) (by decide) (aC _) hI hC (by decide) (by decide) (by rw[aJ (by decide)];omega);rw[aP,hlen]at c;have e2:Lib.cellsOf (Lib.splitB Mo.sl 0 (Lib.countB s Mo.sl) s) (Lib.countB s Mo.sl+1)=((Lib.splitB Mo.sl 0 (Lib.countB s Mo.sl) s).map Value.string).toArray:=by rw[<-hlen];exact Lib.cellsOf_full _
 rw[e2]at c;rw[<-Mo.DH,hlen];have C:Hid (Calls Tryz.prog 301 #[.string s, .string ⟨#[47]⟩, .int .i64 0, .int .i64 (-1)] w fun e w'=>e= .returned (.slice (some ⟨w.heap.size,0,none⟩) (Lib.countB s Mo.sl+1) (Lib.countB s Mo.sl+1))/\w'=w.alloc (.cells ((Lib.splitB Mo.sl 0 (Lib.countB s Mo.sl) s).map Value.string).toArray 9)):=hZ c;clear c hle hlen hC hI e2;generalize Lib.countB s Mo.sl+1=N at*;go_in
 go_wp2_with (go_at_call 301;refine C.out.mono ?_;rintro e w' ⟨rfl,hw⟩;rw[hw])
 go_ret
 exact⟨rfl,rfl⟩
theorem Mo.Ld (p:bU):Lib.hasPrefix p.data.toList [47]=decide (p.data.toList.head?=some 47):=by
 unfold Lib.hasPrefix;cases h:p.data.toList with
 |nil=>rfl
 |cons c r=>
  rw[Bool.eq_iff_iff];simp[List.isPrefixOf];exact⟨fun e=>e.symm,fun e=>e.symm⟩
theorem Mo.PG {p:bU}(h:p.data.toList.head?=some 47):(p.toList==[47])=decide (p.size=1):=by
 rw[ByteArray.toList_eq];have hl:p.data.toList.length=p.size:=aB;cases e:p.data.toList with
 |nil=>rw[e]at h;cases h
 |cons c r=>
  rw[e]at h hl;simp only[List.head?_cons,Option.some.injEq]at h;subst h;rw[<-hl,Bool.eq_iff_iff];simp
theorem Mo.O6 {L:List bU}(h: ∀(i:Nat) (s:bU),L[i]? =some s->Mo.ud s=true):L.all Mo.ud=true:=by
 rw[List.all_eq_true];intro x hx;obtain⟨i,hi,e⟩:=List.getElem_of_mem hx;exact h i x (by rw[aW hi,e])
theorem Mo.Ow {L:List bU}{i:Nat}{s:bU}(hi:L[i]? =some s)(h:Mo.ud s=false): ¬L.all Mo.ud=true:=fun k=>by
 rw[List.all_eq_true]at k;have:=k s (bK hi);rw[h]at this;cases this
theorem NS.nil (w:bD):NS w (.slice none 0 0) []:=⟨none,0,rfl,aL _,fun h=>aZ rfl h⟩
theorem NS.made (w:bD)(L:List bU):NS (w.alloc (.cells (L.map Value.string).toArray 9)) (.slice (some ⟨w.heap.size,0,none⟩) L.length L.length) L:=
 ⟨_,_,rfl,aL _,fun _=>⟨w.heap.size,0,rfl,fun i s hi=>by
  rw[au (heap_alloc_new w _),Nat.zero_add];simp[hi]⟩⟩
theorem yT (p:bU)(w:bD):
  Calls Tryz.prog 249 #[.string p] w fun e w'=> ∃vn,e= .returned (.tuple #[vn,aq (Mo.eY p)])/\NS w' vn (Mo.ir p)/\Below w.heap.size w w':=by
 by_cases c1:60<p.size
 ·have E:Hid (Mo.eY p=9/\Mo.ir p=[]):=hZ (by
   have e:Mo.eY p=9:=aJ (.inl c1);exact⟨e,aI (by rw[e];simp)⟩)
  have c1i:60<(p.size:Int):=by omega
  go_in
  go_wp2
  go_ret2
  rw[E.out.1,E.out.2];exact⟨_,rfl,NS.nil _,aQ _ _⟩
 ·have c1i: ¬60<(p.size:Int):=by omega
  by_cases c2:p.data.toList.head?=some 47
  ·have P2:Hid (Lib.hasPrefix p.data.toList [47]=true):=hZ (by rw[Mo.Ld,aO c2]);have O2:=hZ (Mo.PG c2);have HP:Hid (Calls Tryz.prog 277 #[.string p, .string ⟨#[47]⟩] w fun e w'=>e= .returned (.bool true)/\w'=w):=hZ (by
    have:=Tryz.strings_HasPrefix p ⟨#[47]⟩ w;rw[show Lib.hasPrefix p.data.toList (ByteArray.mk #[47]).data.toList=true from P2.out]at this;exact this)
   by_cases c3:p.size=1
   ·have E:Hid (Mo.eY p=0/\Mo.ir p=[]):=hZ ⟨by unfold Mo.eY;rw[aI (fun h=>h.elim c1 (fun k=>k c2)),aJ c3],aI (fun h=>h.2 c3)⟩;have q1:(p.toList==[47])=true:=by rw[O2.out,aO c3]
    clear c3 c2;go_in
    go_wp2_with (go_at_call 277;refine HP.out.mono ?_;rintro e w' ⟨rfl,hw'⟩;subst w')
    go_ret2
    rw[E.out.1,E.out.2];exact⟨_,rfl,NS.nil _,aQ _ _⟩
   ·have E:Hid (Mo.eY p=if(Mo.wu p).all Mo.ud=true then 0 else 9):=hZ (by unfold Mo.eY;rw[aI (fun h=>h.elim c1 (fun k=>k c2)),aI c3]);have HC3:=hZ c3;have q1:(p.toList==[47])=false:=by rw[O2.out,aT c3]
    have q2:1<=p.size:=by
     have hl:p.data.toList.length=p.size:=aB;cases e:p.data.toList with
     |nil=>rw[e]at c2;cases c2
     |cons a r=>rw[e]at hl;simp at hl;omega
    have q3:(1:Int)<=(p.size:Int):=by omega
    have X:Hid (∀W:bD,Calls Tryz.prog 278 #[.string (p.extract 1 p.size), .string ⟨#[47]⟩] W fun e w'=>e= .returned (.slice (some ⟨W.heap.size,0,none⟩) (Mo.wu p).length (Mo.wu p).length)/\w'=W.alloc (.cells ((Mo.wu p).map Value.string).toArray 9)):=hZ (fun W=>by
     have h:=Ed (p.extract 1 p.size) W (by rw[ByteArray.size_extract];omega);rw[Lib.extract_to_end]at h;exact h)
    have CLN:Hid (∀W:bD,Calls Tryz.prog 279 #[.string (p.extract 1 p.size)] W fun e w'=>e= .returned (.string (p.extract 1 p.size))/\Below W.heap.size W w'):=hZ (fun W=>wY _ W (by rw[ByteArray.size_extract];omega));have PL:=Mo.CV p;obtain⟨L,hL⟩:=nJ (Mo.wu p);have HL:=hZ hL;obtain⟨q,hq⟩:=nJ (p.extract 1 p.size);have hq':=hq;rw[hL]at X E PL;rw[hq]at X CLN;obtain⟨N,hN⟩:=nJ (L.length);have HN:=hZ hN;rw[hN]at X PL;clear c3 c2 hL hN hq';have N60:N<=100:=by omega
    go_in
    go_wp2_with (go_at_call 277;refine HP.out.mono ?_;rintro e w' ⟨rfl,hw'⟩;subst w')
    refine(CLN.out _).mono ?_;rintro e W1 ⟨rfl,b1⟩;have B1:=hZ b1;clear b1;go_wp2_with fail
    refine(X.out _).mono ?_;rintro e W2 ⟨rfl,hW2⟩;have S2:Hid (NS W2 (.slice (some ⟨W1.heap.size,0,none⟩) N N) L/\Below w.heap.size w W2/\ ∀(i:Nat) (s:bU),L[i]? =some s->W2.cell? ⟨W1.heap.size,i,none⟩=some (.string s)):=hZ (by
     have hm:=NS.made W1 L;rw[hW2,<-HN.out];refine⟨hm,B1.out.trans (((aQ W1.heap.size W1).alloc (aL _) _).mono B1.out.size),fun i s hi=>?_⟩;rw[au (heap_alloc_new W1 _)];simp[hi])
    clear hW2 X CLN HP;generalize W1.heap.size=g at*;go_wp2_with fail
    go_loop [6,24] (fun _ i=> ∃j:Nat,i= .int .i64 j/\j<=N/\Hid (∀(i:Nat) (s:bU),i<j->L[i]? =some s->Mo.ud s=true)) (fun _ i=>(N-(intOf i).toNat))
    case atStart=>exact⟨0,rfl,by omega,hZ (fun i s hi=>aZ hi (Nat.not_lt_zero i))⟩
    case round=>
     obtain⟨j,rfl,hj,R⟩:=hrel;by_cases hlt:j<N
     ·have hltI:(j:Int)<(N:Int):=by omega
      obtain⟨s,hsj⟩: ∃s,L[j]? =some s:=⟨L[j]'(by rw[HN.out];exact hlt),aW _⟩;have cs:=S2.out.2.2 j s hsj;have NX:Hid (Mo.ud s=true-> ∀(i:Nat) (s:bU),i<j+1->L[i]? =some s->Mo.ud s=true):=hZ (fun ok i t hi ht=>by
       by_cases d:i=j
       ·subst d;rw[hsj]at ht;cases ht;exact ok
       ·exact R.out i t (by omega) ht)
      have OK:Hid (Mo.ud s=((s.toList==[46,46])||Tr.eX s)):=hZ rfl;have HS:=hZ hsj;clear hsj;by_cases b1:(s.toList==[46,46])=true
      ·have b1':(s.toList !=[46,46])=false:=by simpa using b1
       go_wp2_with fail
       go_round
       case rel=>exact⟨j+1,by go_num,by omega,hZ (NX.out (by rw[OK.out,b1];rfl))⟩
       case measure=>simp[intOf];omega
      ·have b1':(s.toList==[46,46])=false:=by simpa using b1
       have b1'':(s.toList !=[46,46])=true:=by simpa using b1
       clear b1;by_cases nb:Tr.eX s=true
       ·go_wp2_with (go_at_call 280;refine(sq s _).mono ?_;rintro e w' ⟨rfl,hw'⟩;subst w';rw[nb])
        go_round
        case rel=>exact⟨j+1,by go_num,by omega,hZ (NX.out (by rw[OK.out,nb];simp))⟩
        case measure=>simp[intOf];omega
       ·have nb':Tr.eX s=false:=by simpa using nb
        have FIN:Hid (Mo.eY p=9/\Mo.ir p=[]):=hZ (by
         have e:Mo.eY p=9:=by rw[E.out,aI (Mo.Ow HS.out (by rw[OK.out,b1',nb'];rfl))]
         exact⟨e,aI (by rw[e];simp)⟩)
        go_wp2_with (go_at_call 280;refine(sq s _).mono ?_;rintro e w' ⟨rfl,hw'⟩;subst w';rw[nb'])
        go_ret2
        rw[FIN.out.1,FIN.out.2];exact⟨_,rfl,NS.nil _,S2.out.2.1⟩
     ·have hltI: ¬(j:Int)<(N:Int):=by omega
      have FIN:Hid (Mo.eY p=0/\Mo.ir p=L):=hZ (by
       have e:Mo.eY p=0:=by
        rw[E.out,aJ (Mo.O6 (fun i s hi=>R.out i s (by have:=(aY.1 hi).1;rw[HN.out]at this;omega) hi))]
       exact⟨e,by unfold Mo.ir;rw[aJ ⟨e,HC3.out⟩,HL.out]⟩)
      go_wp2
      go_ret2
      rw[FIN.out.1,FIN.out.2];exact⟨_,rfl,S2.out.1,S2.out.2.1⟩
  ·have P2:Hid (Lib.hasPrefix p.data.toList [47]=false):=hZ (by rw[Mo.Ld,aT c2]);have HP:Hid (Calls Tryz.prog 277 #[.string p, .string ⟨#[47]⟩] w fun e w'=>e= .returned (.bool false)/\w'=w):=hZ (by
    have:=Tryz.strings_HasPrefix p ⟨#[47]⟩ w;rw[show Lib.hasPrefix p.data.toList (ByteArray.mk #[47]).data.toList=false from P2.out]at this;exact this)
   have E:Hid (Mo.eY p=9/\Mo.ir p=[]):=hZ (by
    have e:Mo.eY p=9:=aJ (.inr c2);exact⟨e,aI (by rw[e];simp)⟩)
   clear c2;go_in
   go_wp2_with (go_at_call 277;refine HP.out.mono ?_;rintro e w' ⟨rfl,hw'⟩;subst w')
   go_ret2
   rw[E.out.1,E.out.2];exact⟨_,rfl,NS.nil _,aQ _ _⟩
namespace Mo
def Du (F:Fo)(T:Tb)(p:bU)(x:Wh)(E:Int):Prop:=(eY p≠0/\x=(0,0)/\E=eY p)\/(eY p=0/\ ∃W,ko F T.ms (ir p) [sn T.ms T.rt] W E/\x=j4 W)
def qW (F:Fo)(T:Tb)(p:bU)(x:Wh)(s:bU)(E:Int):Prop:=
 (eY p≠0/\x=(0,0)/\s=⟨#[]⟩/\E=eY p)\/(eY p=0/\(ir p=[]\/ ∃l t,ir p=l++[t]/\Bb t=true)/\x=(0,0)/\s=⟨#[]⟩/\E=9)
 \/(eY p=0/\ ∃l t,ir p=l++[t]/\Bb t=false/\ ∃W,ko F T.ms l [sn T.ms T.rt] W E/\((E≠0/\x=(0,0)/\s=⟨#[]⟩)\/(E=0/\x=j4 W/\s=t)))
def zo (F:Fo)(T:Tb)(p:bU)(x:Wh)(E:Int):Prop:=
 ((p.toList==[47])=true/\x=T.rt/\E=0)\/((p.toList==[47])=false/\ ∃y s e,qW F T p y s e/\((e≠0/\x=(0,0)/\E=e)\/(e=0/\ ∃K:Nat,Tr.jL F y.2 s K E/\x=st y K E)))
theorem AU (p:bU):(ir p).length<=100:=by grind [ir,CV,eY]
end Mo
theorem Dy (w:bD):WB (w.alloc (.cells #[.int .i64 0, .int .i64 0] 224)) w.heap.size (0,0)/\Below w.heap.size w (w.alloc (.cells #[.int .i64 0, .int .i64 0] 224)):=⟨heap_alloc_new w _,(aQ _ _).alloc (aL _) _⟩
theorem WB.drew {w:bD}{c:Nat}{x:Wh}(h:WB w c x):WB w.drew c x:=h
theorem WB.fin {w W:bD}{rx:Nat}{x:Wh}(h:WB W rx x)(b:Below rx w W)(e:w.heap.size=rx)(y:Wh):WB ((W.setCell ⟨rx,0,none⟩ (.int .i64 y.1)).setCell ⟨rx,1,none⟩ (.int .i64 y.2)) rx y/\Below rx w ((W.setCell ⟨rx,0,none⟩ (.int .i64 y.1)).setCell ⟨rx,1,none⟩ (.int .i64 y.2)):=by
 have:=h.set y;exact⟨this.1,this.2.below b (aL _) (by have:=b.size;omega)⟩
theorem NS.cut {w:bD}{a:Option Addr}{n c:Nat}{l:List bU}{t:bU}(h:NS w (.slice a n c) (l++[t])):NS w (.slice a l.length c) l:=by
 obtain⟨a',c',e,hc,hx⟩:=h;cases e;simp at hc;refine⟨a,c,rfl,by omega,fun _=>?_⟩;obtain⟨nb,no,ha,hi⟩:=hx (by simp);grind
theorem zK (base b f:Nat)(T:Tb)(v:Value)(F:Fo)(p:bU)(w:bD)(h:bd w base b f T v)(hF:ar w f F)(hs:Tr.jD F):
  Calls Tryz.prog 208 #[.pointer (some ⟨b,0,none⟩), .string p] w fun e w'=> ∃(x:Wh) (E:Int),e= .returned (.tuple #[.agg #[.int .i64 x.1, .int .i64 x.2],aq E])/\Mo.Du F T p x E/\Below w.heap.size w w':=by
 have HT:=hZ (aK h (aK hF hs));clear h hF hs;go_in
 go_upto_region 1 with fail
 refine bw (fun W'=>WB W' w.heap.size (0,0)/\Below w.heap.size w W') (Dy w) ?_;rintro W1 h1;have S1:=hZ h1;clear h1;go_wp2_with fail
 refine(yT p _).mono ?_;rintro e W2 ⟨vn,rfl,n2,b2⟩;have S2:Hid (WB W2 w.heap.size (0,0)/\Below w.heap.size w W2/\NS W2 vn (Mo.ir p)):=hZ ⟨S1.out.1.below b2,S1.out.2.trans (b2.mono S1.out.2.size),n2⟩;clear n2 b2 S1;by_cases e0:Mo.eY p=0
 ·have E0:=hZ e0;rw[e0,aa];clear e0;go_wp2_with fail
  refine(vQ base b f T v F (Mo.ir p) vn _ (HT.out.1.below S2.out.2.1) (HT.out.2.1.below S2.out.2.1) HT.out.2.2 S2.out.2.2 (Mo.AU p)).mono ?_;rintro e W3 ⟨W,E,rfl,hw,b3⟩;have S3:Hid (WB W3 w.heap.size (0,0)/\Below w.heap.size w W3/\Mo.Du F T p (Mo.j4 W) E):=hZ ⟨S2.out.1.below b3,S2.out.2.1.trans (b3.mono S2.out.2.1.size), .inr ⟨E0.out,W,hw,rfl⟩⟩;clear hw b3 S2;obtain⟨y,hy⟩:=nJ (Mo.j4 W);obtain⟨rx,hrx⟩:=nJ (w.heap.size);obtain⟨ev,hev⟩:=nJ (aq E);have HX:=hZ (aK hrx hev);rw[hy,hrx]at S3;rw[hy,hrx,hev];clear hy hrx hev;have y0:=S3.out.1.c0;have y1:=S3.out.1.c1;have yf:=S3.out.1.fz;have R:=hZ (S3.out.1.fin S3.out.2.1 HX.out.1 y);go_wp2_with fail
  generalize hWF:(W3.setCell ⟨rx,0,none⟩ (.int .i64 y.1)).setCell ⟨rx,1,none⟩ (.int .i64 y.2)=WF at R|-;have z0:=R.out.1.c0;have z1:=R.out.1.c1;refine bodyPost_ret (v:= .tuple #[.agg #[.int .i64 y.1, .int .i64 y.2],ev]) (by simp[results,Tryz.f208,go_sem,z0,z1]) rfl ?_;refine⟨y,E,by rw[HX.out.2],S3.out.2.2,by rw[HX.out.1];exact R.out.2⟩
 ·have FIN:Hid (Mo.Du F T p (0,0) (Mo.eY p)/\aq (Mo.eY p)= .iface 100 (.int .i64 (Mo.eY p))):=hZ ⟨.inl ⟨e0,rfl,rfl⟩,aj e0⟩;rw[FIN.out.2];clear e0;obtain⟨rx,hrx⟩:=nJ (w.heap.size);have HX:=hZ hrx;rw[hrx]at S2|-;clear hrx;have y0:=S2.out.1.c0;have y1:=S2.out.1.c1;have yf:=S2.out.1.fz;have R:=hZ (S2.out.1.fin S2.out.2.1 HX.out (0,0));go_wp2_with fail
  generalize hWF:(W2.setCell ⟨rx,0,none⟩ (.int .i64 0)).setCell ⟨rx,1,none⟩ (.int .i64 0)=WF at R|-;have z0:=R.out.1.c0;have z1:=R.out.1.c1;refine bodyPost_ret (v:= .tuple #[.agg #[.int .i64 0, .int .i64 0], .iface 100 (.int .i64 (Mo.eY p))]) (by simp[results,Tryz.f208,go_sem,z0,z1]) rfl ?_;refine⟨(0,0),Mo.eY p,by rw[FIN.out.2],FIN.out.1,by rw[HX.out];exact R.out.2⟩
theorem uK (base b f:Nat)(T:Tb)(v:Value)(F:Fo)(p:bU)(w:bD)(h:bd w base b f T v)(hF:ar w f F)(hs:Tr.jD F):
  Calls Tryz.prog 205 #[.pointer (some ⟨b,0,none⟩), .string p] w fun e w'=> ∃(x:Wh) (s:bU) (E:Int),e= .returned (.tuple #[.agg #[.int .i64 x.1, .int .i64 x.2], .string s,aq E])/\Mo.qW F T p x s E/\Below w.heap.size w w':=by
 have HT:=hZ (aK h (aK hF hs));have NL:=Mo.AU p;clear h hF hs;go_in
 go_upto_region 1 with fail
 refine bw (fun W'=>WB W' w.heap.size (0,0)/\Below w.heap.size w W') (Dy w) ?_;rintro W1 h1;have S1:=hZ h1;clear h1;go_wp2_with fail
 refine(yT p _).mono ?_;rintro e W2 ⟨vn,rfl,n2,b2⟩;have S2:Hid (WB W2 w.heap.size (0,0)/\Below w.heap.size w W2/\NS W2 vn (Mo.ir p)):=hZ ⟨S1.out.1.below b2,S1.out.2.trans (b2.mono S1.out.2.size),n2⟩;clear n2 b2 S1;obtain⟨rx,hrx⟩:=nJ (w.heap.size);have HRX:=hZ hrx;have LE:Hid (∀W,Below rx w W->rx<=W.heap.size/\bd W base b f T v/\ar W f F):=hZ (fun W h=>by
  have e:=h.size;subst hrx;exact⟨e,HT.out.1.below h,HT.out.2.1.below h⟩)
 rw[hrx]at S2|-;clear hrx;by_cases e0:Mo.eY p=0
 ·have E0:=hZ e0;rw[e0,aa];clear e0;obtain⟨na,nc,hvn,hnc,_⟩:=S2.out.2.2;subst hvn;rcases List.eq_nil_or_concat (Mo.ir p)with hn|⟨l,t,hn⟩
  ·have FIN:Hid (Mo.qW F T p (0,0) ⟨#[]⟩ 9):=hZ (.inr (.inl ⟨E0.out, .inl hn,rfl,rfl,rfl⟩));rw[hn]at S2|-;rw[show([]:List bU).length=0 from rfl];clear hn NL hnc;have w1:IntKind.i64.wrap (((0:Nat):Int)-1)= -1:=by decide
   have y0:=S2.out.1.c0;have y1:=S2.out.1.c1;have yf:=S2.out.1.fz;have R:=hZ (S2.out.1.fin S2.out.2.1 HRX.out (0,0));go_wp2_with fail
   generalize hWF:(W2.setCell ⟨rx,0,none⟩ (.int .i64 0)).setCell ⟨rx,1,none⟩ (.int .i64 0)=WF at R|-;have z0:=R.out.1.c0;have z1:=R.out.1.c1;refine bodyPost_ret (v:= .tuple #[.agg #[.int .i64 0, .int .i64 0], .string ⟨#[]⟩, .iface 100 (.int .i64 9)]) (by simp[results,Tryz.f205,go_sem,z0,z1]) rfl ?_;refine⟨(0,0),⟨#[]⟩,9,rfl,FIN.out,by rw[HRX.out];exact R.out.2⟩
  ·have LN:(Mo.ir p).length=l.length+1:=by rw[hn];simp
   have HN:=hZ hn;rw[LN]at NL hnc S2|-;obtain⟨k,hk⟩:=nJ (l.length);have HK:=hZ hk;rw[hk]at NL hnc S2|-;have k100:k<=100:=by omega
   obtain⟨nb,no,hna,ct⟩: ∃nb no,na=some ⟨nb,no,none⟩/\ ∀W,NS W (.slice na (k+1) nc) (Mo.ir p)->W.cell? ⟨nb,no+k,none⟩=some (.string t):=by
    obtain⟨a',c',e,_,hx⟩:=S2.out.2.2;simp only[Value.slice.injEq]at e;obtain⟨rfl,_,rfl⟩:=e;obtain⟨nb,no,ha,_⟩:=hx (by rw[hn];simp);refine⟨nb,no,ha,fun W hW=>?_⟩;obtain⟨a'',c'',e',_,hx'⟩:=hW;simp only[Value.slice.injEq]at e';obtain⟨rfl,_,rfl⟩:=e';obtain⟨nb',no',ha',hc'⟩:=hx' (by rw[hn];simp);rw[ha]at ha';cases ha';exact hc' k t (by rw[hn,<-hk];simp)
   have CT:=hZ ct;subst hna;have cc:=CT.out _ S2.out.2.2;have hw2:IntKind.i64.wrap (((k+1:Nat):Int)-1)=(k:Int):=by rw[aN _ ⟨by omega,by omega⟩];omega
   have k0: ¬(k:Int)<0:=by omega
   clear LN hn hk ct;by_cases bt:(t.toList==[46,46])=true
   ·have FIN:Hid (Mo.qW F T p (0,0) ⟨#[]⟩ 9):=hZ (.inr (.inl ⟨E0.out, .inr ⟨l,t,by rw[HN.out];simp,bt⟩,rfl,rfl,rfl⟩));have y0:=S2.out.1.c0;have y1:=S2.out.1.c1;have yf:=S2.out.1.fz;have R:=hZ (S2.out.1.fin S2.out.2.1 HRX.out (0,0));go_wp2_with fail
    generalize hWF:(W2.setCell ⟨rx,0,none⟩ (.int .i64 0)).setCell ⟨rx,1,none⟩ (.int .i64 0)=WF at R|-;have z0:=R.out.1.c0;have z1:=R.out.1.c1;refine bodyPost_ret (v:= .tuple #[.agg #[.int .i64 0, .int .i64 0], .string ⟨#[]⟩, .iface 100 (.int .i64 9)]) (by simp[results,Tryz.f205,go_sem,z0,z1]) rfl ?_;refine⟨(0,0),⟨#[]⟩,9,rfl,FIN.out,by rw[HRX.out];exact R.out.2⟩
   ·have bt':(t.toList==[46,46])=false:=by simpa using bt
    clear bt;have nk:(k:Int)<=(nc:Int):=by omega
    have NC:Hid (∀W,NS W (.slice (some ⟨nb,no,none⟩) (k+1) nc) (Mo.ir p)->NS W (.slice (some ⟨nb,no,none⟩) k nc) l):=hZ (fun W hW=>by
     rw[show Mo.ir p=l++[t]by rw[HN.out];simp]at hW;have:=hW.cut;rw[HK.out]at this;exact this)
    go_wp2_with fail
    refine(vQ base b f T v F l (.slice (some ⟨nb,no,none⟩) k nc) _ (LE.out _ S2.out.2.1).2.1 (LE.out _ S2.out.2.1).2.2 HT.out.2.2 (NC.out _ S2.out.2.2) (by rw[HK.out];omega)).mono ?_;rintro e W3 ⟨W,E,rfl,hw,b3⟩;have S3:Hid (WB W3 rx (0,0)/\Below rx w W3/\NS W3 (.slice (some ⟨nb,no,none⟩) (k+1) nc) (Mo.ir p)):=hZ ⟨S2.out.1.below b3,S2.out.2.1.trans (b3.mono (LE.out _ S2.out.2.1).1),S2.out.2.2.below b3⟩;have HW:=hZ hw;clear hw b3 S2 cc;obtain⟨y,hy⟩:=nJ (Mo.j4 W);have HY:=hZ hy;rw[hy];clear hy;by_cases e1:E=0
    ·subst e1;rw[aa];go_upto_region 8 with fail
     refine bw (fun W'=>WB W' W3.heap.size y/\Below W3.heap.size W3 W') ⟨heap_alloc_new W3 _,(aQ _ _).alloc (aL _) _⟩ ?_;rintro W4 ⟨n4,b4⟩;have S4:Hid (WB W4 rx (0,0)/\Below rx w W4/\NS W4 (.slice (some ⟨nb,no,none⟩) (k+1) nc) (Mo.ir p)):=hZ ⟨S3.out.1.below b4,S3.out.2.1.trans (b4.mono (LE.out _ S3.out.2.1).1),S3.out.2.2.below b4⟩;have n0:=n4.c0;have n1:=n4.c1;have ne4:rx≠W3.heap.size:=by have:=S3.out.1.lt;omega
     have FIN:Hid (Mo.qW F T p y t 0):=hZ (.inr (.inr ⟨E0.out,l,t,by rw[HN.out];simp,bt',W,HW.out, .inr ⟨rfl,HY.out.symm,rfl⟩⟩));have cc:=CT.out _ S4.out.2.2;have nf:=n4.fz;clear b4 S3 HW;generalize W3.heap.size=nx at*;have y0:=S4.out.1.c0;have y1:=S4.out.1.c1;have yf:=S4.out.1.fz;have R:=hZ (aK (S4.out.1.fin S4.out.2.1 HRX.out y).1.drew (S4.out.1.fin S4.out.2.1 HRX.out y).2.drew);have nbne:nb≠rx:=fun e=>by
      subst e;have h:=S4.out.1;rw[au h]at cc
      match hq:no+k,cc with
      |0,cc=>simp at cc
      |1,cc=>simp at cc
      |n+2,cc=>simp at cc
     have nbne':rx≠nb:=bQ nbne;have ne5:nx≠rx:=bQ ne4;go_upto_region 10 with fail
     go_region
     go_wp2_with fail
     generalize hWF:((W4.setCell ⟨rx,0,none⟩ (.int .i64 y.1)).setCell ⟨rx,1,none⟩ (.int .i64 y.2)).drew=WF at R|-;have z0:=R.out.1.c0;have z1:=R.out.1.c1;refine bodyPost_ret (v:= .tuple #[.agg #[.int .i64 y.1, .int .i64 y.2], .string t, .nilIface]) (by simp[results,Tryz.f205,go_sem,z0,z1]) rfl ?_;exact⟨y.1,y.2,t,0,rfl,FIN.out,by rw[HRX.out];exact R.out.2⟩
    ·have FIN:Hid (Mo.qW F T p (0,0) ⟨#[]⟩ E/\aq E= .iface 100 (.int .i64 E)):=hZ ⟨.inr (.inr ⟨E0.out,l,t,by rw[HN.out];simp,bt',W,HW.out, .inl ⟨e1,rfl,rfl⟩⟩),aj e1⟩;rw[FIN.out.2];clear e1;go_upto_region 8 with fail
     refine bw (fun W'=>Below W3.heap.size W3 W') ((aQ _ _).alloc (aL _) _) ?_;rintro W4 b4;have S4:Hid (WB W4 rx (0,0)/\Below rx w W4):=hZ ⟨S3.out.1.below b4,S3.out.2.1.trans (b4.mono (LE.out _ S3.out.2.1).1)⟩;clear b4 S3;generalize W3.heap.size=nx at*;have y0:=S4.out.1.c0;have y1:=S4.out.1.c1;have yf:=S4.out.1.fz;have R:=hZ (S4.out.1.fin S4.out.2 HRX.out (0,0));go_wp2_with fail
     generalize hWF:(W4.setCell ⟨rx,0,none⟩ (.int .i64 0)).setCell ⟨rx,1,none⟩ (.int .i64 0)=WF at R|-;have z0:=R.out.1.c0;have z1:=R.out.1.c1;refine bodyPost_ret (v:= .tuple #[.agg #[.int .i64 0, .int .i64 0], .string ⟨#[]⟩, .iface 100 (.int .i64 E)]) (by simp[results,Tryz.f205,go_sem,z0,z1]) rfl ?_;exact⟨0,0,⟨#[]⟩,E,by rw[FIN.out.2],FIN.out.1,by rw[HRX.out];exact R.out.2⟩
 ·have FIN:Hid (Mo.qW F T p (0,0) ⟨#[]⟩ (Mo.eY p)/\aq (Mo.eY p)= .iface 100 (.int .i64 (Mo.eY p))):=hZ ⟨.inl ⟨e0,rfl,rfl,rfl⟩,aj e0⟩;rw[FIN.out.2];clear e0;have y0:=S2.out.1.c0;have y1:=S2.out.1.c1;have yf:=S2.out.1.fz;have R:=hZ (S2.out.1.fin S2.out.2.1 HRX.out (0,0));go_wp2_with fail
  generalize hWF:(W2.setCell ⟨rx,0,none⟩ (.int .i64 0)).setCell ⟨rx,1,none⟩ (.int .i64 0)=WF at R|-;have z0:=R.out.1.c0;have z1:=R.out.1.c1;refine bodyPost_ret (v:= .tuple #[.agg #[.int .i64 0, .int .i64 0], .string ⟨#[]⟩, .iface 100 (.int .i64 (Mo.eY p))]) (by simp[results,Tryz.f205,go_sem,z0,z1]) rfl ?_;refine⟨(0,0),⟨#[]⟩,Mo.eY p,by rw[FIN.out.2],FIN.out.1,by rw[HRX.out];exact R.out.2⟩
theorem Mc (base b f:Nat)(T:Tb)(v:Value)(F:Fo)(p:bU)(w:bD)(h:bd w base b f T v)(hF:ar w f F)(hs:Tr.jD F):
  Calls Tryz.prog 210 #[.pointer (some ⟨b,0,none⟩), .string p] w fun e w'=> ∃(x:Wh) (E:Int),e= .returned (.tuple #[.agg #[.int .i64 x.1, .int .i64 x.2],aq E])/\Mo.zo F T p x E/\Below w.heap.size w w':=by
 have HT:=hZ (aK h (aK hF hs));clear h hF hs;go_in
 go_upto_region 1 with fail
 refine bw (fun W'=>WB W' w.heap.size (0,0)/\Below w.heap.size w W') (Dy w) ?_;rintro W1 h1;have S1:=hZ h1;clear h1;obtain⟨rx,hrx⟩:=nJ (w.heap.size);have HRX:=hZ hrx;have LE:Hid (∀W,Below rx w W->rx<=W.heap.size/\bd W base b f T v/\ar W f F):=hZ (fun W h=>by
  have e:=h.size;subst hrx;exact⟨e,HT.out.1.below h,HT.out.2.1.below h⟩)
 rw[hrx]at S1|-;clear hrx;by_cases p1:(p.toList==[47])=true
 ·have FIN:Hid (Mo.zo F T p T.rt 0):=hZ (.inl ⟨p1,rfl,rfl⟩);have t1:=(LE.out _ S1.out.2).2.1.c1;have t2:=(LE.out _ S1.out.2).2.1.c2;have y0:=S1.out.1.c0;have y1:=S1.out.1.c1;have yf:=S1.out.1.fz;obtain⟨y,hy⟩:=nJ (T.rt);rw[hy]at t1 t2 FIN;clear hy;have R:=hZ (S1.out.1.fin S1.out.2 HRX.out y);go_wp2_with fail
  generalize hWF:(W1.setCell ⟨rx,0,none⟩ (.int .i64 y.1)).setCell ⟨rx,1,none⟩ (.int .i64 y.2)=WF at R|-;have z0:=R.out.1.c0;have z1:=R.out.1.c1;refine bodyPost_ret (v:= .tuple #[.agg #[.int .i64 y.1, .int .i64 y.2], .nilIface]) (by simp[results,Tryz.f210,go_sem,z0,z1]) rfl ?_
  first|exact⟨y,0,rfl,FIN.out,by rw[HRX.out];exact R.out.2⟩|exact⟨y.1,y.2,0,rfl,FIN.out,by rw[HRX.out];exact R.out.2⟩
 ·have p1':(p.toList==[47])=false:=by simpa using p1
  clear p1;go_wp2_with fail
  refine(uK base b f T v F p _ (LE.out _ S1.out.2).2.1 (LE.out _ S1.out.2).2.2 HT.out.2.2).mono ?_;rintro e W2 ⟨x,s,E,rfl,hl,b2⟩;have S2:Hid (WB W2 rx (0,0)/\Below rx w W2):=hZ ⟨S1.out.1.below b2,S1.out.2.trans (b2.mono (LE.out _ S1.out.2).1)⟩;have HL:=hZ hl;clear hl b2 S1;by_cases e0:E=0
  ·subst e0;rw[aa];go_upto_region 4 with fail
   refine bw (fun W'=>WB W' W2.heap.size x/\Below W2.heap.size W2 W') ⟨heap_alloc_new W2 _,(aQ _ _).alloc (aL _) _⟩ ?_;rintro W3 ⟨n3,b3⟩;have S3:Hid (WB W3 rx (0,0)/\Below rx w W3):=hZ ⟨S2.out.1.below b3,S2.out.2.trans (b3.mono (LE.out _ S2.out.2).1)⟩;have n0:=n3.c0;have n1:=n3.c1;clear n3 b3 S2;generalize W2.heap.size=nx at*;go_wp2_with fail
   refine(BM base b f T v F x s _ (LE.out _ S3.out.2).2.1 (LE.out _ S3.out.2).2.2 HT.out.2.2).mono ?_;rintro e W4 ⟨K,E,rfl,hf,b4⟩;have S4:Hid (WB W4 rx (0,0)/\Below rx w W4):=hZ ⟨S3.out.1.below b4,S3.out.2.trans (b4.mono (LE.out _ S3.out.2).1)⟩;have FIN:Hid (Mo.zo F T p (Mo.st x K E) E):=hZ (.inr ⟨p1',x,s,0,HL.out, .inr ⟨rfl,K,hf,rfl⟩⟩);clear hf b4 n0 n1 S3;obtain⟨y,hy⟩:=nJ (Mo.st x K E);obtain⟨ev,hev⟩:=nJ (aq E);have HX:=hZ hev;rw[hy]at FIN;rw[hy,hev];clear hy hev;have y0:=S4.out.1.c0;have y1:=S4.out.1.c1;have yf:=S4.out.1.fz;have R:=hZ (S4.out.1.fin S4.out.2 HRX.out y);go_wp2_with fail
   generalize hWF:(W4.setCell ⟨rx,0,none⟩ (.int .i64 y.1)).setCell ⟨rx,1,none⟩ (.int .i64 y.2)=WF at R|-;have z0:=R.out.1.c0;have z1:=R.out.1.c1;refine bodyPost_ret (v:= .tuple #[.agg #[.int .i64 y.1, .int .i64 y.2],ev]) (by simp[results,Tryz.f210,go_sem,z0,z1]) rfl ?_
   first|exact⟨y,E,by rw[HX.out],FIN.out,by rw[HRX.out];exact R.out.2⟩|exact⟨y.1,y.2,E,by rw[HX.out],FIN.out,by rw[HRX.out];exact R.out.2⟩
  ·have FIN:Hid (Mo.zo F T p (0,0) E/\aq E= .iface 100 (.int .i64 E)):=hZ ⟨.inr ⟨p1',x,s,E,HL.out, .inl ⟨e0,rfl,rfl⟩⟩,aj e0⟩;rw[FIN.out.2];clear e0;go_upto_region 4 with fail
   refine bw (fun W'=>Below W2.heap.size W2 W') ((aQ _ _).alloc (aL _) _) ?_;rintro W3 b3;have S3:Hid (WB W3 rx (0,0)/\Below rx w W3):=hZ ⟨S2.out.1.below b3,S2.out.2.trans (b3.mono (LE.out _ S2.out.2).1)⟩;clear b3 S2;generalize W2.heap.size=nx at*;have y0:=S3.out.1.c0;have y1:=S3.out.1.c1;have yf:=S3.out.1.fz;have R:=hZ (S3.out.1.fin S3.out.2 HRX.out (0,0));go_wp2_with fail
   generalize hWF:(W3.setCell ⟨rx,0,none⟩ (.int .i64 0)).setCell ⟨rx,1,none⟩ (.int .i64 0)=WF at R|-;have z0:=R.out.1.c0;have z1:=R.out.1.c1;refine bodyPost_ret (v:= .tuple #[.agg #[.int .i64 0, .int .i64 0], .iface 100 (.int .i64 E)]) (by simp[results,Tryz.f210,go_sem,z0,z1]) rfl ?_
   first|exact⟨(0,0),E,by rw[FIN.out.2],FIN.out.1,by rw[HRX.out];exact R.out.2⟩|exact⟨0,0,E,by rw[FIN.out.2],FIN.out.1,by rw[HRX.out];exact R.out.2⟩

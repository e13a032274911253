import Derived.Shelf.Strings.Prefix
import Derived.Shelf.Strings.Split
import Derived.Test.YtpmmdkcfenjiaaaGreatDoorYak
set_option maxRecDepth 100000
set_option maxHeartbeats 4000000
set_option linter.unusedVariables false
set_option linter.unusedSimpArgs false
namespace Go.Proofs
open Go.Shelf
def Tryz.I7:Go.Shelf.Ren:=⟨λ|99=>277|206=>300|n=>n,λ|9=>9|4=>4|3=>3|n=>n,λ|n=>n⟩
theorem Tryz.T0:Go.Proofs.Lays.n99 Tryz.prog Tryz.I7:={
 mixed:=by kernel_rfl
 f99:=Tryz.func277.trans (congrArg some (by kernel_rfl))
 f206:=Tryz.func300.trans (congrArg some (by kernel_rfl))
 t3:=Tryz.underlying3
 a3:=Tryz.isAgg3
 z3:=Tryz.sizeOf3
 v3:=Tryz.zeroValue3
 t4:=Tryz.underlying4
 a4:=Tryz.isAgg4
 z4:=Tryz.sizeOf4
 v4:=Tryz.zeroValue4
 t9:=Tryz.underlying9
 a9:=Tryz.isAgg9
 z9:=Tryz.sizeOf9
 v9:=Tryz.zeroValue9}
open Go.RowKit Go.Lib in
theorem Tryz.strings_HasPrefix(s p:ByteArray)(w:World):
 Calls Tryz.prog 277 #[.string s, .string p] w λe w'=>e= .returned (.bool (Lib.hasPrefix s.data.toList p.data.toList))/\w'=w:=Any.strings_HasPrefix Tryz.T0 s p w
def Tryz.oZ:Go.Shelf.Ren:=⟨λ|221=>301|268=>323|138=>324|143=>325|195=>332|197=>333|218=>334|219=>335|260=>337|217=>338|225=>339|224=>340|267=>341|266=>342|314=>343|n=>n,λ|9=>9|3=>3|31=>152|4=>4|0=>0|105=>350|21=>21|5=>5|46=>327|119=>356|139=>359|138=>358|146=>360|51=>341|n=>n,λ|1=>0|3=>1|4=>2|n=>n⟩
theorem Tryz.RC:Go.Proofs.Lays.n221 Tryz.prog Tryz.oZ:={
 mixed:=by kernel_rfl
 f138:=Tryz.func324.trans (congrArg some (by kernel_rfl))
 f143:=Tryz.func325.trans (congrArg some (by kernel_rfl))
 f195:=Tryz.func332.trans (congrArg some (by kernel_rfl))
 f197:=Tryz.func333.trans (congrArg some (by kernel_rfl))
 f217:=Tryz.func338.trans (congrArg some (by kernel_rfl))
 f218:=Tryz.func334.trans (congrArg some (by kernel_rfl))
 f219:=Tryz.func335.trans (congrArg some (by kernel_rfl))
 f221:=Tryz.func301.trans (congrArg some (by kernel_rfl))
 f224:=Tryz.func340.trans (congrArg some (by kernel_rfl))
 f225:=Tryz.func339.trans (congrArg some (by kernel_rfl))
 f260:=Tryz.func337.trans (congrArg some (by kernel_rfl))
 f266:=Tryz.func342.trans (congrArg some (by kernel_rfl))
 f267:=Tryz.func341.trans (congrArg some (by kernel_rfl))
 f268:=Tryz.func323.trans (congrArg some (by kernel_rfl))
 f314:=Tryz.func343.trans (congrArg some (by kernel_rfl))
 t0:=Tryz.underlying0
 a0:=Tryz.isAgg0
 z0:=Tryz.sizeOf0
 v0:=Tryz.zeroValue0
 t3:=Tryz.underlying3
 a3:=Tryz.isAgg3
 z3:=Tryz.sizeOf3
 v3:=Tryz.zeroValue3
 t4:=Tryz.underlying4
 a4:=Tryz.isAgg4
 z4:=Tryz.sizeOf4
 v4:=Tryz.zeroValue4
 t5:=Tryz.underlying5
 a5:=Tryz.isAgg5
 z5:=Tryz.sizeOf5
 v5:=Tryz.zeroValue5
 t9:=Tryz.underlying9
 a9:=Tryz.isAgg9
 z9:=Tryz.sizeOf9
 v9:=Tryz.zeroValue9
 t21:=Tryz.underlying21
 a21:=Tryz.isAgg21
 z21:=Tryz.sizeOf21
 v21:=Tryz.zeroValue21
 t31:=Tryz.underlying152
 a31:=Tryz.isAgg152
 z31:=Tryz.sizeOf152
 v31:=Tryz.zeroValue152
 t46:=Tryz.underlying327
 a46:=Tryz.isAgg327
 z46:=Tryz.sizeOf327
 v46:=Tryz.zeroValue327
 t51:=Tryz.underlying341
 a51:=Tryz.isAgg341
 z51:=Tryz.sizeOf341
 v51:=Tryz.zeroValue341
 t105:=Tryz.underlying350
 a105:=Tryz.isAgg350
 z105:=Tryz.sizeOf350
 v105:=Tryz.zeroValue350
 t119:=Tryz.underlying356
 a119:=Tryz.isAgg356
 z119:=Tryz.sizeOf356
 t138:=Tryz.underlying358
 a138:=Tryz.isAgg358
 z138:=Tryz.sizeOf358
 v138:=Tryz.zeroValue358
 t139:=Tryz.underlying359
 a139:=Tryz.isAgg359
 z139:=Tryz.sizeOf359
 v139:=Tryz.zeroValue359
 t146:=Tryz.underlying360
 a146:=Tryz.isAgg360
 z146:=Tryz.sizeOf360
 v146:=Tryz.zeroValue360
 g1:=by kernel_rfl
 g3:=by kernel_rfl
 g4:=by kernel_rfl}
end Go.Proofs
namespace Go.Proofs.YtpmmdkcfenjiaaaGreatDoor
open Value renaming int->aa,pointer->ai,slice->aj,string->ak,tuple->ao,iface->aq,agg->au,nilIface->ay
open IntKind renaming i64->az
open Ending renaming returned->bf
open Obj renaming cells->bh
open Option renaming some->bj,none->bu
open Bool renaming true->bw,false->bA
open Tryz (prog)
open Go.RowKit
open Tr (Fo Nd)
open Mo (Wh Mt)
namespace Mo
def jf:List UInt8->List (List UInt8)
 |[]=>[[]]
 |c::r=>if c=47 then[]::jf r else(match jf r with
  |[]=>[[c]]
  |h::t=>(c::h)::t)
theorem VY:∀l:List UInt8,jf l≠[]
 |[]=>by simp[jf]
 |c::r=>by
  unfold jf;split
  .simp
  .split<;>simp
theorem Df:∀l:List UInt8,(jf l).length<=l.length+1
 |[]=>by simp[jf]
 |c::r=>by
  have ih:=Df r;unfold jf;split
  .simp;omega
  .cases h:jf r with
   |nil=>simp
   |cons a t=>rw[h]at ih;simp at ih|-;omega
theorem Q8(r:List UInt8):jf (47::r)=[]::jf r:=by
 conv=>lhs;unfold jf
 rw[aJ rfl]
theorem Ae{c:UInt8}{r h:List UInt8}{t:List (List UInt8)}(hc:c≠47)(e:jf r=h::t):jf (c::r)=(c::h)::t:=by
 conv=>lhs;unfold jf
 rw[aI hc,e]
theorem zm:∀s:List UInt8,Lib.splitK [47] 0 (Lib.count s [47]) s=jf s
 |[]=>rfl
 |c::r=>by
  have ih:=zm r;by_cases h:c=47
  .subst h;rw[Lib.count_cons_eq,Nat.add_comm];have hi:Lib.index (47::r) [47]=0:=by rw[Lib.index_one];rfl
   rw[Q8,<-ih]
   conv=>lhs;unfold Lib.splitK
   rw[aI (by rw[hi];decide),hi];rfl
  .rw[Lib.count_cons_ne c 47 r h];have e1:Lib.index (c::r) [47]=if Lib.index r [47]= -1 then -1 else Lib.index r [47]+1:=by
    rw[Lib.index_one,Lib.index_one]
    conv=>lhs;unfold Lib.indexByte
    rw[aI (by simpa using h)];by_cases d:Lib.indexByte r 47= -1
    .rw[aJ d,aJ (by simpa using d)]
    .rw[aI d,aI (by simpa using d)]
   cases hk:Lib.count r [47]with
   |zero=>
    rw[hk]at ih;rw[Ae h ih.symm];rfl
   |succ k=>
    rw[hk]at ih;by_cases d:Lib.index r [47]= -1
    .have e2:Lib.splitK [47] 0 (k+1) r=[r]:=by
      conv=>lhs;unfold Lib.splitK
      rw[aJ (by simpa using d)]
     rw[Ae h (ih.symm.trans e2)]
     conv=>lhs;unfold Lib.splitK
     rw[aJ (by rw[e1,aJ d];decide)]
    .have ge: -1<=Lib.index r [47]:=by rw[Lib.index_one];exact Lib.indexByte_ge r 47
     obtain⟨i,hi⟩:∃i:Nat,Lib.index r [47]=i:=⟨(Lib.index r [47]).toNat,bB⟩;have e2:Lib.splitK [47] 0 (k+1) r=r.take i::Lib.splitK [47] 0 k (r.drop (i+1)):=by
      conv=>lhs;unfold Lib.splitK
      rw[aI (by rw[hi];simp),hi];rfl
     rw[Ae h (ih.symm.trans e2)]
     conv=>lhs;unfold Lib.splitK
     rw[aI (by rw[e1,aI d,hi];simp;omega),e1,aI d,hi];rfl
def sl:bU:=⟨#[47]⟩
def ba(l:List UInt8):bU:=⟨l.toArray⟩
theorem Jy(s:bU):Lib.splitB sl 0 (Lib.countB s sl) s=(jf s.data.toList).map ba:=by
 have e:=Lib.splitB_data sl 0 (Lib.countB s sl) s;rw[show Lib.splitK sl.data.toList 0 (Lib.countB s sl) s.data.toList=jf s.data.toList from zm _]at e;rw[<-e,List.map_map]
 conv=>lhs;rw[<-List.map_id (Lib.splitB sl 0 (Lib.countB s sl) s)]
 rfl
def y8(p:bU):List bU:=(jf (p.data.toList.drop 1)).map ba
def wX(s:bU):Bool:=Du s||Tr.gd s
def gj(p:bU):Int:=if 60<p.size\/p.data.toList.head?≠bj 47 then 9 else if p.size=1 then 0 else if(y8 p).all wX=bw then 0 else 9
def jI(p:bU):List bU:=if gj p=0/\p.size≠1 then y8 p else[]
theorem G9(p:bU):(y8 p).length<=p.size+1:=by
 unfold y8;rw[List.length_map];have:=Df (p.data.toList.drop 1);rw[List.length_drop]at this;have h:p.data.toList.length=p.size:=aB;omega
end Mo
theorem Jc(s:bU)(w:bD)(hs:s.size<=1000):
  Calls prog 278 #[ak s,ak ⟨#[47]⟩] w λe w'=>e=bf (aj (bj ⟨w.heap.size,0,bu⟩) ((Mo.jf s.data.toList).map Mo.ba).length ((Mo.jf s.data.toList).map Mo.ba).length)/\w'=w.alloc (bh (((Mo.jf s.data.toList).map Mo.ba).map Value.string).toArray 9):=by
 have L:=Tryz.RC;have hle:=Lib.countB_le Mo.sl bE s.size s (aL _);have hlen:=Lib.splitB_all Mo.sl bE 0 _ s rfl;have hC:Calls prog 324 #[ak s,ak Mo.sl] w λe w'=>e=bf (aa az (Lib.countB s Mo.sl))/\w'=w:=
  (Any.strings_Count_one (ρ:=Tryz.oZ) {L with} s 47 w).mono λe w' ⟨he,hw⟩=>⟨by
   rw[he];show _=bf (aa az ((Lib.count s.data.toList [47]:Nat):Int));rw[Lib.count_one];rfl,hw⟩
 have hI:∀(x:bU) (c:Array Value),x.size<=s.size->Calls prog 325 #[ak x,ak Mo.sl] (w.alloc (bh c 9)) λe w'=>e=bf (aa az (Lib.indexB x Mo.sl))/\w'=w.alloc (bh c 9):=λx c _=>
  (Any.strings_Index_one (ρ:=Tryz.oZ) {L with} x 47 _).mono λe w' ⟨he,hw⟩=>⟨by
   rw[he];show _=bf (aa az (Lib.index x.data.toList [47]));rw[Lib.index_one],hw⟩
 have c:=Any.strings_genSplit_core (ρ:=Tryz.oZ) L bC s Mo.sl 0 (-1) (Lib.countB s Mo.sl+1) w bB bE (aC _) hI hC bE bE (by rw[aJ bE];omega);rw[aP,hlen]at c;have e2:Lib.cellsOf (Lib.splitB Mo.sl 0 (Lib.countB s Mo.sl) s) (Lib.countB s Mo.sl+1)=((Lib.splitB Mo.sl 0 (Lib.countB s Mo.sl) s).map Value.string).toArray:=by rw[<-hlen];exact Lib.cellsOf_full _
 rw[e2]at c;rw[<-Mo.Jy,hlen];have C:Hid (Calls prog 301 #[ak s,ak ⟨#[47]⟩,aa az 0,aa az (-1)] w λe w'=>e=bf (aj (bj ⟨w.heap.size,0,bu⟩) (Lib.countB s Mo.sl+1) (Lib.countB s Mo.sl+1))/\w'=w.alloc (bh ((Lib.splitB Mo.sl 0 (Lib.countB s Mo.sl) s).map Value.string).toArray 9)):=hJ c;generalize Lib.countB s Mo.sl+1=N at*;go_in
 go_wp2_with (go_at_call 301;refine C.mono ?_;rintro e w' ⟨rfl,hw⟩;rw[hw])
 go_ret
 exact⟨rfl,rfl⟩
theorem Mo.Qk(p:bU):Lib.hasPrefix p.data.toList [47]=decide (p.data.toList.head?=bj 47):=by
 unfold Lib.hasPrefix;cases h:p.data.toList with
 |nil=>rfl
 |cons c r=>
  rw[Bool.eq_iff_iff];simp[List.isPrefixOf];exact⟨λe=>e.symm,λe=>e.symm⟩
theorem Mo.U2{p:bU}(h:p.data.toList.head?=bj 47):(p.toList==[47])=decide (p.size=1):=by
 rw[ByteArray.toList_eq];have hl:p.data.toList.length=p.size:=aB;cases e:p.data.toList with
 |nil=>rw[e]at h;cases h
 |cons c r=>
  rw[e]at h hl;simp only[List.head?_cons,Option.some.injEq]at h;subst h;rw[<-hl,Bool.eq_iff_iff];simp
theorem Mo.Tf{L:List bU}(h:∀(i:Nat) (s:bU),L[i]? =bj s->Mo.wX s=bw):L.all Mo.wX=bw:=by
 rw[List.all_eq_true];intro x hx;obtain⟨i,hi,e⟩:=List.getElem_of_mem hx;exact h i x (by rw[aW hi,e])
theorem Mo.Te{L:List bU}{i:Nat}{s:bU}(hi:L[i]? =bj s)(h:Mo.wX s=bA):¬L.all Mo.wX=bw:=λk=>by
 rw[List.all_eq_true]at k;have:=k s (bK hi);rw[h]at this;cases this
theorem NS.nil(w:bD):NS w (aj bu 0 0) []:=⟨bu,0,rfl,aL _,λh=>aZ rfl h⟩
theorem NS.made(w:bD)(L:List bU):NS (w.alloc (bh (L.map Value.string).toArray 9)) (aj (bj ⟨w.heap.size,0,bu⟩) L.length L.length) L:=
 ⟨_,_,rfl,aL _,λ_=>⟨w.heap.size,0,rfl,λi s hi=>by
  rw[bR (heap_alloc_new w _),Nat.zero_add];simp[hi]⟩⟩
theorem BO(p:bU)(w:bD):
  Calls prog 249 #[ak p] w λe w'=>∃vn,e=bf (ao #[vn,bN (Mo.gj p)])/\NS w' vn (Mo.jI p)/\Below w.heap.size w w':=by
 by_cases c1:60<p.size
 .have E:Hid (Mo.gj p=9/\Mo.jI p=[]):=hJ (by
   have e:Mo.gj p=9:=aJ (.inl c1);exact⟨e,aI (by rw[e];simp)⟩)
  have c1i:60<(p.size:Int):=bB
  go_in
  go_wp2
  go_ret2
  rw[E.1,E.2];exact⟨_,rfl,NS.nil _,aQ _ _⟩
 .have c1i:¬60<(p.size:Int):=bB
  by_cases c2:p.data.toList.head?=bj 47
  .have P2:Hid (Lib.hasPrefix p.data.toList [47]=bw):=hJ (by rw[Mo.Qk,aO c2]);have O2:=hJ (Mo.U2 c2);have HP:Hid (Calls prog 277 #[ak p,ak ⟨#[47]⟩] w λe w'=>e=bf (.bool bw)/\w'=w):=hJ (by
    have:=Tryz.strings_HasPrefix p ⟨#[47]⟩ w;rw[show Lib.hasPrefix p.data.toList (ByteArray.mk #[47]).data.toList=bw from P2.v]at this;exact this)
   by_cases c3:p.size=1
   .have E:Hid (Mo.gj p=0/\Mo.jI p=[]):=hJ ⟨by unfold Mo.gj;rw[aI (λh=>h.elim c1 (λk=>k c2)),aJ c3],aI (λh=>h.2 c3)⟩;have q1:(p.toList==[47])=bw:=by rw[O2.v,aO c3]
    clear c3 c2;go_in
    go_wp2_with (go_at_call 277;refine sC HP.v ?_;rintro w' hw';subst w')
    go_ret2
    rw[E.1,E.2];exact⟨_,rfl,NS.nil _,aQ _ _⟩
   .have E:Hid (Mo.gj p=if(Mo.y8 p).all Mo.wX=bw then 0 else 9):=hJ (by unfold Mo.gj;rw[aI (λh=>h.elim c1 (λk=>k c2)),aI c3]);have HC3:=hJ c3;have q1:(p.toList==[47])=bA:=by rw[O2.v,aT c3]
    have q2:1<=p.size:=by
     have hl:p.data.toList.length=p.size:=aB;cases e:p.data.toList with
     |nil=>rw[e]at c2;cases c2
     |cons a r=>rw[e]at hl;simp at hl;omega
    have q3:(1:Int)<=(p.size:Int):=bB
    have X:Hid (∀W:bD,Calls prog 278 #[ak (p.extract 1 p.size),ak ⟨#[47]⟩] W λe w'=>e=bf (aj (bj ⟨W.heap.size,0,bu⟩) (Mo.y8 p).length (Mo.y8 p).length)/\w'=W.alloc (bh ((Mo.y8 p).map Value.string).toArray 9)):=hJ (λW=>by
     have h:=Jc (p.extract 1 p.size) W (by rw[ByteArray.size_extract];omega);rw[Lib.extract_to_end]at h;exact h)
    have CLN:Hid (∀W:bD,Calls prog 279 #[ak (p.extract 1 p.size)] W λe w'=>e=bf (ak (p.extract 1 p.size))/\Below W.heap.size W w'):=hJ (λW=>zp _ W (by rw[ByteArray.size_extract];omega));have PL:=Mo.G9 p;obtain⟨L,hL⟩:=hU (Mo.y8 p);have HL:=hJ hL;obtain⟨q,hq⟩:=hU (p.extract 1 p.size);have hq':=hq;rw[hL]at X E PL;rw[hq]at X CLN;obtain⟨N,hN⟩:=hU (L.length);have HN:=hJ hN;rw[hN]at X PL;clear c3 c2 hL hN hq';have N60:N<=100:=bB
    go_in
    go_wp2_with (go_at_call 277;refine sC HP.v ?_;rintro w' hw';subst w')
    refine sC (CLN.v _) ?_;rintro W1 b1;have B1:=hJ b1;clear b1;go_wp2_with fail
    refine sC (X.v _) ?_;rintro W2 hW2;have S2:Hid (NS W2 (aj (bj ⟨W1.heap.size,0,bu⟩) N N) L/\Below w.heap.size w W2/\∀(i:Nat) (s:bU),L[i]? =bj s->W2.cell? ⟨W1.heap.size,i,bu⟩=bj (ak s)):=hJ (by
     have hm:=NS.made W1 L;rw[hW2,<-HN.v];refine⟨hm,B1.trans (((aQ W1.heap.size W1).alloc (aL _) _).mono B1.size),λi s hi=>?_⟩;rw[bR (heap_alloc_new W1 _)];simp[hi])
    clear hW2 X CLN HP;generalize W1.heap.size=g at*;go_wp2_with fail
    go_loop [6,24] (λ_ i=>∃j:Nat,i=aa az j/\j<=N/\Hid (∀(i:Nat) (s:bU),i<j->L[i]? =bj s->Mo.wX s=bw)) (λ_ i=>(N-(intOf i).toNat))
    case atStart=>exact⟨0,rfl,bB,hJ (λi s hi=>aZ hi (Nat.not_lt_zero i))⟩
    case round=>
     obtain⟨j,rfl,hj,R⟩:=hrel;by_cases hlt:j<N
     .have hltI:(j:Int)<(N:Int):=bB
      obtain⟨s,hsj⟩:∃s,L[j]? =bj s:=⟨L[j]'(by rw[HN.v];exact hlt),aW _⟩;have cs:=S2.2.2 j s hsj;have NX:Hid (Mo.wX s=bw->∀(i:Nat) (s:bU),i<j+1->L[i]? =bj s->Mo.wX s=bw):=hJ (λok i t hi ht=>by
       by_cases d:i=j
       .subst d;rw[hsj]at ht;cases ht;exact ok
       .exact R.v i t bB ht)
      have OK:Hid (Mo.wX s=((s.toList==[46,46])||Tr.gd s)):=hJ rfl;have HS:=hJ hsj;clear hsj;by_cases b1:(s.toList==[46,46])=bw
      .have b1':(s.toList !=[46,46])=bA:=by simpa using b1
       go_wp2_with fail
       go_round
       case rel=>exact⟨j+1,by go_num,bB,hJ (NX.v (by rw[OK.v,b1];rfl))⟩
       case measure=>simp[intOf];omega
      .have b1':(s.toList==[46,46])=bA:=by simpa using b1
       have b1'':(s.toList !=[46,46])=bw:=by simpa using b1
       clear b1;by_cases nb:Tr.gd s=bw
       .go_wp2_with (go_at_call 280;refine sC (vl s _) ?_;rintro w' hw';subst w';rw[nb])
        go_round
        case rel=>exact⟨j+1,by go_num,bB,hJ (NX.v (by rw[OK.v,nb];simp))⟩
        case measure=>simp[intOf];omega
       .have nb':Tr.gd s=bA:=by simpa using nb
        have FIN:Hid (Mo.gj p=9/\Mo.jI p=[]):=hJ (by
         have e:Mo.gj p=9:=by rw[E.v,aI (Mo.Te HS.v (by rw[OK.v,b1',nb'];rfl))]
         exact⟨e,aI (by rw[e];simp)⟩)
        go_wp2_with (go_at_call 280;refine sC (vl s _) ?_;rintro w' hw';subst w';rw[nb'])
        go_ret2
        rw[FIN.1,FIN.2];exact⟨_,rfl,NS.nil _,S2.2.1⟩
     .have hltI:¬(j:Int)<(N:Int):=bB
      have FIN:Hid (Mo.gj p=0/\Mo.jI p=L):=hJ (by
       have e:Mo.gj p=0:=by
        rw[E.v,aJ (Mo.Tf (λi s hi=>R.v i s (by have:=(aY.1 hi).1;rw[HN.v]at this;omega) hi))]
       exact⟨e,by unfold Mo.jI;rw[aJ ⟨e,HC3.v⟩,HL.v]⟩)
      go_wp2
      go_ret2
      rw[FIN.1,FIN.2];exact⟨_,rfl,S2.1,S2.2.1⟩
  .have P2:Hid (Lib.hasPrefix p.data.toList [47]=bA):=hJ (by rw[Mo.Qk,aT c2]);have HP:Hid (Calls prog 277 #[ak p,ak ⟨#[47]⟩] w λe w'=>e=bf (.bool bA)/\w'=w):=hJ (by
    have:=Tryz.strings_HasPrefix p ⟨#[47]⟩ w;rw[show Lib.hasPrefix p.data.toList (ByteArray.mk #[47]).data.toList=bA from P2.v]at this;exact this)
   have E:Hid (Mo.gj p=9/\Mo.jI p=[]):=hJ (by
    have e:Mo.gj p=9:=aJ (.inr c2);exact⟨e,aI (by rw[e];simp)⟩)
   clear c2;go_in
   go_wp2_with (go_at_call 277;refine sC HP.v ?_;rintro w' hw';subst w')
   go_ret2
   rw[E.1,E.2];exact⟨_,rfl,NS.nil _,aQ _ _⟩
namespace Mo
def Ie(F:Fo)(T:Mo.Tb)(p:bU)(x:Wh)(E:Int):Prop:=(gj p≠0/\x=(0,0)/\E=gj p)\/(gj p=0/\∃W,lY F T.ms (jI p) [sn T.ms T.rt] W E/\x=lQ W)
def sR(F:Fo)(T:Mo.Tb)(p:bU)(x:Wh)(s:bU)(E:Int):Prop:=
 (gj p≠0/\x=(0,0)/\s=⟨#[]⟩/\E=gj p)\/(gj p=0/\(jI p=[]\/∃l t,jI p=l++[t]/\Du t=bw)/\x=(0,0)/\s=⟨#[]⟩/\E=9)
 \/(gj p=0/\∃l t,jI p=l++[t]/\Du t=bA/\∃W,lY F T.ms l [sn T.ms T.rt] W E/\((E≠0/\x=(0,0)/\s=⟨#[]⟩)\/(E=0/\x=lQ W/\s=t)))
def Ck(F:Fo)(T:Mo.Tb)(p:bU)(x:Wh)(E:Int):Prop:=
 ((p.toList==[47])=bw/\x=T.rt/\E=0)\/((p.toList==[47])=bA/\∃y s e,sR F T p y s e/\((e≠0/\x=(0,0)/\E=e)\/(e=0/\∃K:Nat,Tr.lA F y.2 s K E/\x=st y K E)))
theorem Et(p:bU):(jI p).length<=100:=by grind [jI,G9,gj]
end Mo
theorem Ij(w:bD):WB (w.alloc (bh #[aa az 0,aa az 0] 224)) w.heap.size (0,0)/\Below w.heap.size w (w.alloc (bh #[aa az 0,aa az 0] 224)):=⟨heap_alloc_new w _,(aQ _ _).alloc (aL _) _⟩
theorem WB.drew{w:bD}{c:Nat}{x:Wh}(h:WB w c x):WB w.drew c x:=h
theorem WB.fin{w W:bD}{rx:Nat}{x:Wh}(h:WB W rx x)(b:Below rx w W)(e:w.heap.size=rx)(y:Wh):WB ((W.setCell ⟨rx,0,bu⟩ (aa az y.1)).setCell ⟨rx,1,bu⟩ (aa az y.2)) rx y/\Below rx w ((W.setCell ⟨rx,0,bu⟩ (aa az y.1)).setCell ⟨rx,1,bu⟩ (aa az y.2)):=by
 have:=h.set y;exact⟨this.1,this.2.below b (aL _) (by have:=b.size;omega)⟩
theorem NS.cut{w:bD}{a:Option Addr}{n c:Nat}{l:List bU}{t:bU}(h:NS w (aj a n c) (l++[t])):NS w (aj a l.length c) l:=by
 obtain⟨a',c',e,hc,hx⟩:=h;cases e;simp at hc;refine⟨a,c,rfl,bB,λ_=>?_⟩;obtain⟨nb,no,ha,hi⟩:=hx (by simp);grind
theorem Fc(Wt b f:Nat)(T:Mo.Tb)(v:Value)(F:Fo)(p:bU)(w:bD)(h:bT w Wt b f T v)(hF:bS w f F)(hs:Tr.kY F):
  Calls prog 208 #[ai (bj ⟨b,0,bu⟩),ak p] w λe w'=>∃(x:Wh) (E:Int),e=bf (ao #[au #[aa az x.1,aa az x.2],bN E])/\Mo.Ie F T p x E/\Below w.heap.size w w':=by
 have HT:=hJ (aK h (aK hF hs));go_in
 go_upto_region 1 with fail
 refine cJ (λW'=>WB W' w.heap.size (0,0)/\Below w.heap.size w W') (Ij w) ?_;rintro W1 h1;have S1:=hJ h1;go_wp2_with fail
 refine(BO p _).mono ?_;rintro e W2 ⟨vn,rfl,n2,b2⟩;have S2:Hid (WB W2 w.heap.size (0,0)/\Below w.heap.size w W2/\NS W2 vn (Mo.jI p)):=hJ ⟨S1.1.below b2,S1.2.trans (b2.mono S1.2.size),n2⟩;by_cases e0:Mo.gj p=0
 .have E0:=hJ e0;rw[e0,bF];go_wp2_with fail
  refine(yQ Wt b f T v F (Mo.jI p) vn _ (HT.1.below S2.2.1) (HT.2.1.below S2.2.1) HT.2.2 S2.2.2 (Mo.Et p)).mono ?_;rintro e W3 ⟨W,E,rfl,hw,b3⟩;have S3:Hid (WB W3 w.heap.size (0,0)/\Below w.heap.size w W3/\Mo.Ie F T p (Mo.lQ W) E):=hJ ⟨S2.1.below b3,S2.2.1.trans (b3.mono S2.2.1.size), .inr ⟨E0.v,W,hw,rfl⟩⟩;obtain⟨y,hy⟩:=hU (Mo.lQ W);obtain⟨rx,hrx⟩:=hU (w.heap.size);obtain⟨ev,hev⟩:=hU (bN E);have HX:=hJ (aK hrx hev);rw[hy,hrx]at S3;rw[hy,hrx,hev];have y0:=S3.1.c0;have y1:=S3.1.c1;have yf:=S3.1.fz;have R:=hJ (S3.1.fin S3.2.1 HX.1 y);go_wp2_with fail
  generalize hWF:(W3.setCell ⟨rx,0,bu⟩ (aa az y.1)).setCell ⟨rx,1,bu⟩ (aa az y.2)=WF at R|-;have z0:=R.1.c0;have z1:=R.1.c1;refine bodyPost_ret (v:=ao #[au #[aa az y.1,aa az y.2],ev]) (by simp[results,Tryz.f208,go_sem,z0,z1]) rfl ?_;refine⟨y,E,by rw[HX.2],S3.2.2,by rw[HX.1];exact R.2⟩
 .have FIN:Hid (Mo.Ie F T p (0,0) (Mo.gj p)/\bN (Mo.gj p)=aq 100 (aa az (Mo.gj p))):=hJ ⟨.inl ⟨e0,rfl,rfl⟩,bH e0⟩;rw[FIN.2];obtain⟨rx,hrx⟩:=hU (w.heap.size);have HX:=hJ hrx;rw[hrx]at S2|-;have y0:=S2.1.c0;have y1:=S2.1.c1;have yf:=S2.1.fz;have R:=hJ (S2.1.fin S2.2.1 HX.v (0,0));go_wp2_with fail
  generalize hWF:(W2.setCell ⟨rx,0,bu⟩ (aa .i64 0)).setCell ⟨rx,1,bu⟩ (aa .i64 0)=WF at R|-;have z0:=R.1.c0;have z1:=R.1.c1;refine bodyPost_ret (v:=ao #[au #[aa az 0,aa az 0],aq 100 (aa az (Mo.gj p))]) (by simp[results,Tryz.f208,go_sem,z0,z1]) rfl ?_;refine⟨(0,0),Mo.gj p,by rw[FIN.2],FIN.1,by rw[HX.v];exact R.2⟩
theorem xD(Wt b f:Nat)(T:Mo.Tb)(v:Value)(F:Fo)(p:bU)(w:bD)(h:bT w Wt b f T v)(hF:bS w f F)(hs:Tr.kY F):
  Calls prog 205 #[ai (bj ⟨b,0,bu⟩),ak p] w λe w'=>∃(x:Wh) (s:bU) (E:Int),e=bf (ao #[au #[aa az x.1,aa az x.2],ak s,bN E])/\Mo.sR F T p x s E/\Below w.heap.size w w':=by
 have HT:=hJ (aK h (aK hF hs));have NL:=Mo.Et p;clear h hF hs;go_in
 go_upto_region 1 with fail
 refine cJ (λW'=>WB W' w.heap.size (0,0)/\Below w.heap.size w W') (Ij w) ?_;rintro W1 h1;have S1:=hJ h1;clear h1;go_wp2_with fail
 refine(BO p _).mono ?_;rintro e W2 ⟨vn,rfl,n2,b2⟩;have S2:Hid (WB W2 w.heap.size (0,0)/\Below w.heap.size w W2/\NS W2 vn (Mo.jI p)):=hJ ⟨S1.1.below b2,S1.2.trans (b2.mono S1.2.size),n2⟩;clear n2 b2 S1;obtain⟨rx,hrx⟩:=hU (w.heap.size);have HRX:=hJ hrx;have LE:Hid (∀W,Below rx w W->rx<=W.heap.size/\bT W Wt b f T v/\bS W f F):=hJ (λW h=>by
  have e:=h.size;subst hrx;exact⟨e,HT.1.below h,HT.2.1.below h⟩)
 rw[hrx]at S2|-;clear hrx;by_cases e0:Mo.gj p=0
 .have E0:=hJ e0;rw[e0,bF];clear e0;obtain⟨na,nc,hvn,hnc,_⟩:=S2.2.2;subst hvn;rcases List.eq_nil_or_concat (Mo.jI p)with hn|⟨l,t,hn⟩
  .have FIN:Hid (Mo.sR F T p (0,0) ⟨#[]⟩ 9):=hJ (.inr (.inl ⟨E0.v, .inl hn,rfl,rfl,rfl⟩));rw[hn]at S2|-;rw[show([]:List bU).length=0 from rfl];clear hn NL hnc;have w1:IntKind.i64.wrap (((0:Nat):Int)-1)= -1:=by decide
   have y0:=S2.1.c0;have y1:=S2.1.c1;have yf:=S2.1.fz;have R:=hJ (S2.1.fin S2.2.1 HRX.v (0,0));go_wp2_with fail
   generalize hWF:(W2.setCell ⟨rx,0,bu⟩ (aa .i64 0)).setCell ⟨rx,1,bu⟩ (aa .i64 0)=WF at R|-;have z0:=R.1.c0;have z1:=R.1.c1;refine bodyPost_ret (v:=ao #[au #[aa az 0,aa az 0],ak ⟨#[]⟩,aq 100 (aa .i64 9)]) (by simp[results,Tryz.f205,go_sem,z0,z1]) rfl ?_;refine⟨(0,0),⟨#[]⟩,9,rfl,FIN.v,by rw[HRX.v];exact R.2⟩
  .have LN:(Mo.jI p).length=l.length+1:=by rw[hn];simp
   have HN:=hJ hn;rw[LN]at NL hnc S2|-;obtain⟨k,hk⟩:=hU (l.length);have HK:=hJ hk;rw[hk]at NL hnc S2|-;have k100:k<=100:=bB
   obtain⟨nb,no,hna,ct⟩:∃nb no,na=bj ⟨nb,no,bu⟩/\∀W,NS W (aj na (k+1) nc) (Mo.jI p)->W.cell? ⟨nb,no+k,bu⟩=bj (ak t):=by
    obtain⟨a',c',e,_,hx⟩:=S2.2.2;simp only[Value.slice.injEq]at e;obtain⟨rfl,_,rfl⟩:=e;obtain⟨nb,no,ha,_⟩:=hx (by rw[hn];simp);refine⟨nb,no,ha,λW hW=>?_⟩;obtain⟨a'',c'',e',_,hx'⟩:=hW;simp only[Value.slice.injEq]at e';obtain⟨rfl,_,rfl⟩:=e';obtain⟨nb',no',ha',hc'⟩:=hx' (by rw[hn];simp);rw[ha]at ha';cases ha';exact hc' k t (by rw[hn,<-hk];simp)
   have CT:=hJ ct;subst hna;have cc:=CT.v _ S2.2.2;have hw2:IntKind.i64.wrap (((k+1:Nat):Int)-1)=(k:Int):=by rw[aN _ ⟨by omega,bB⟩];omega
   have k0:¬(k:Int)<0:=bB
   clear LN hn hk ct;by_cases bt:(t.toList==[46,46])=bw
   .have FIN:Hid (Mo.sR F T p (0,0) ⟨#[]⟩ 9):=hJ (.inr (.inl ⟨E0.v, .inr ⟨l,t,by rw[HN.v];simp,bt⟩,rfl,rfl,rfl⟩));have y0:=S2.1.c0;have y1:=S2.1.c1;have yf:=S2.1.fz;have R:=hJ (S2.1.fin S2.2.1 HRX.v (0,0));go_wp2_with fail
    generalize hWF:(W2.setCell ⟨rx,0,bu⟩ (aa .i64 0)).setCell ⟨rx,1,bu⟩ (aa .i64 0)=WF at R|-;have z0:=R.1.c0;have z1:=R.1.c1;refine bodyPost_ret (v:=ao #[au #[aa az 0,aa az 0],ak ⟨#[]⟩,aq 100 (aa .i64 9)]) (by simp[results,Tryz.f205,go_sem,z0,z1]) rfl ?_;refine⟨(0,0),⟨#[]⟩,9,rfl,FIN.v,by rw[HRX.v];exact R.2⟩
   .have bt':(t.toList==[46,46])=bA:=by simpa using bt
    clear bt;have nk:(k:Int)<=(nc:Int):=bB
    have NC:Hid (∀W,NS W (aj (bj ⟨nb,no,bu⟩) (k+1) nc) (Mo.jI p)->NS W (aj (bj ⟨nb,no,bu⟩) k nc) l):=hJ (λW hW=>by
     rw[show Mo.jI p=l++[t]by rw[HN.v];simp]at hW;have:=hW.cut;rw[HK.v]at this;exact this)
    go_wp2_with fail
    refine(yQ Wt b f T v F l (aj (bj ⟨nb,no,bu⟩) k nc) _ (LE.v _ S2.2.1).2.1 (LE.v _ S2.2.1).2.2 HT.2.2 (NC.v _ S2.2.2) (by rw[HK.v];omega)).mono ?_;rintro e W3 ⟨W,E,rfl,hw,b3⟩;have S3:Hid (WB W3 rx (0,0)/\Below rx w W3/\NS W3 (aj (bj ⟨nb,no,bu⟩) (k+1) nc) (Mo.jI p)):=hJ ⟨S2.1.below b3,S2.2.1.trans (b3.mono (LE.v _ S2.2.1).1),S2.2.2.below b3⟩;have HW:=hJ hw;clear hw b3 S2 cc;obtain⟨y,hy⟩:=hU (Mo.lQ W);have HY:=hJ hy;rw[hy];clear hy;by_cases e1:E=0
    .subst e1;rw[bF];go_upto_region 8 with fail
     refine cJ (λW'=>WB W' W3.heap.size y/\Below W3.heap.size W3 W') ⟨heap_alloc_new W3 _,(aQ _ _).alloc (aL _) _⟩ ?_;rintro W4 ⟨n4,b4⟩;have S4:Hid (WB W4 rx (0,0)/\Below rx w W4/\NS W4 (aj (bj ⟨nb,no,bu⟩) (k+1) nc) (Mo.jI p)):=hJ ⟨S3.1.below b4,S3.2.1.trans (b4.mono (LE.v _ S3.2.1).1),S3.2.2.below b4⟩;have n0:=n4.c0;have n1:=n4.c1;have ne4:rx≠W3.heap.size:=by have:=S3.1.lt;omega
     have FIN:Hid (Mo.sR F T p y t 0):=hJ (.inr (.inr ⟨E0.v,l,t,by rw[HN.v];simp,bt',W,HW.v, .inr ⟨rfl,HY.symm,rfl⟩⟩));have cc:=CT.v _ S4.2.2;have nf:=n4.fz;clear b4 S3 HW;generalize W3.heap.size=nx at*;have y0:=S4.1.c0;have y1:=S4.1.c1;have yf:=S4.1.fz;have R:=hJ (aK (S4.1.fin S4.2.1 HRX.v y).1.drew (S4.1.fin S4.2.1 HRX.v y).2.drew);have nbne:nb≠rx:=λe=>by
      subst e;have h:=S4.1;rw[bR h]at cc
      match hq:no+k,cc with
      |0,cc=>simp at cc
      |1,cc=>simp at cc
      |n+2,cc=>simp at cc
     have nbne':rx≠nb:=bQ nbne;have ne5:nx≠rx:=bQ ne4;go_upto_region 10 with fail
     go_region
     go_wp2_with fail
     generalize hWF:((W4.setCell ⟨rx,0,bu⟩ (aa az y.1)).setCell ⟨rx,1,bu⟩ (aa az y.2)).drew=WF at R|-;have z0:=R.1.c0;have z1:=R.1.c1;refine bodyPost_ret (v:=ao #[au #[aa az y.1,aa az y.2],ak t,ay]) (by simp[results,Tryz.f205,go_sem,z0,z1]) rfl ?_;exact⟨y.1,y.2,t,0,rfl,FIN.v,by rw[HRX.v];exact R.2⟩
    .have FIN:Hid (Mo.sR F T p (0,0) ⟨#[]⟩ E/\bN E=aq 100 (aa az E)):=hJ ⟨.inr (.inr ⟨E0.v,l,t,by rw[HN.v];simp,bt',W,HW.v, .inl ⟨e1,rfl,rfl⟩⟩),bH e1⟩;rw[FIN.2];clear e1;go_upto_region 8 with fail
     refine cJ (λW'=>Below W3.heap.size W3 W') ((aQ _ _).alloc (aL _) _) ?_;rintro W4 b4;have S4:Hid (WB W4 rx (0,0)/\Below rx w W4):=hJ ⟨S3.1.below b4,S3.2.1.trans (b4.mono (LE.v _ S3.2.1).1)⟩;clear b4 S3;generalize W3.heap.size=nx at*;have y0:=S4.1.c0;have y1:=S4.1.c1;have yf:=S4.1.fz;have R:=hJ (S4.1.fin S4.2 HRX.v (0,0));go_wp2_with fail
     generalize hWF:(W4.setCell ⟨rx,0,bu⟩ (aa .i64 0)).setCell ⟨rx,1,bu⟩ (aa .i64 0)=WF at R|-;have z0:=R.1.c0;have z1:=R.1.c1;refine bodyPost_ret (v:=ao #[au #[aa az 0,aa az 0],ak ⟨#[]⟩,aq 100 (aa az E)]) (by simp[results,Tryz.f205,go_sem,z0,z1]) rfl ?_;exact⟨0,0,⟨#[]⟩,E,by rw[FIN.2],FIN.1,by rw[HRX.v];exact R.2⟩
 .have FIN:Hid (Mo.sR F T p (0,0) ⟨#[]⟩ (Mo.gj p)/\bN (Mo.gj p)=aq 100 (aa az (Mo.gj p))):=hJ ⟨.inl ⟨e0,rfl,rfl,rfl⟩,bH e0⟩;rw[FIN.2];clear e0;have y0:=S2.1.c0;have y1:=S2.1.c1;have yf:=S2.1.fz;have R:=hJ (S2.1.fin S2.2.1 HRX.v (0,0));go_wp2_with fail
  generalize hWF:(W2.setCell ⟨rx,0,bu⟩ (aa .i64 0)).setCell ⟨rx,1,bu⟩ (aa .i64 0)=WF at R|-;have z0:=R.1.c0;have z1:=R.1.c1;refine bodyPost_ret (v:=ao #[au #[aa az 0,aa az 0],ak ⟨#[]⟩,aq 100 (aa az (Mo.gj p))]) (by simp[results,Tryz.f205,go_sem,z0,z1]) rfl ?_;refine⟨(0,0),⟨#[]⟩,Mo.gj p,by rw[FIN.2],FIN.1,by rw[HRX.v];exact R.2⟩
theorem Sd(Wt b f:Nat)(T:Mo.Tb)(v:Value)(F:Fo)(p:bU)(w:bD)(h:bT w Wt b f T v)(hF:bS w f F)(hs:Tr.kY F):
  Calls prog 210 #[ai (bj ⟨b,0,bu⟩),ak p] w λe w'=>∃(x:Wh) (E:Int),e=bf (ao #[au #[aa az x.1,aa az x.2],bN E])/\Mo.Ck F T p x E/\Below w.heap.size w w':=by
 have HT:=hJ (aK h (aK hF hs));clear h hF hs;go_in
 go_upto_region 1 with fail
 refine cJ (λW'=>WB W' w.heap.size (0,0)/\Below w.heap.size w W') (Ij w) ?_;rintro W1 h1;have S1:=hJ h1;clear h1;obtain⟨rx,hrx⟩:=hU (w.heap.size);have HRX:=hJ hrx;have LE:Hid (∀W,Below rx w W->rx<=W.heap.size/\bT W Wt b f T v/\bS W f F):=hJ (λW h=>by
  have e:=h.size;subst hrx;exact⟨e,HT.1.below h,HT.2.1.below h⟩)
 rw[hrx]at S1|-;clear hrx;by_cases p1:(p.toList==[47])=bw
 .have FIN:Hid (Mo.Ck F T p T.rt 0):=hJ (.inl ⟨p1,rfl,rfl⟩);have t1:=(LE.v _ S1.2).2.1.c1;have t2:=(LE.v _ S1.2).2.1.c2;have y0:=S1.1.c0;have y1:=S1.1.c1;have yf:=S1.1.fz;obtain⟨y,hy⟩:=hU (T.rt);rw[hy]at t1 t2 FIN;clear hy;have R:=hJ (S1.1.fin S1.2 HRX.v y);go_wp2_with fail
  generalize hWF:(W1.setCell ⟨rx,0,bu⟩ (aa az y.1)).setCell ⟨rx,1,bu⟩ (aa az y.2)=WF at R|-;have z0:=R.1.c0;have z1:=R.1.c1;refine bodyPost_ret (v:=ao #[au #[aa az y.1,aa az y.2],ay]) (by simp[results,Tryz.f210,go_sem,z0,z1]) rfl ?_
  first|exact⟨y,0,rfl,FIN.v,by rw[HRX.v];exact R.2⟩|exact⟨y.1,y.2,0,rfl,FIN.v,by rw[HRX.v];exact R.2⟩
 .have p1':(p.toList==[47])=bA:=by simpa using p1
  clear p1;go_wp2_with fail
  refine(xD Wt b f T v F p _ (LE.v _ S1.2).2.1 (LE.v _ S1.2).2.2 HT.2.2).mono ?_;rintro e W2 ⟨x,s,E,rfl,hl,b2⟩;have S2:Hid (WB W2 rx (0,0)/\Below rx w W2):=hJ ⟨S1.1.below b2,S1.2.trans (b2.mono (LE.v _ S1.2).1)⟩;have HL:=hJ hl;clear hl b2 S1;by_cases e0:E=0
  .subst e0;rw[bF];go_upto_region 4 with fail
   refine cJ (λW'=>WB W' W2.heap.size x/\Below W2.heap.size W2 W') ⟨heap_alloc_new W2 _,(aQ _ _).alloc (aL _) _⟩ ?_;rintro W3 ⟨n3,b3⟩;have S3:Hid (WB W3 rx (0,0)/\Below rx w W3):=hJ ⟨S2.1.below b3,S2.2.trans (b3.mono (LE.v _ S2.2).1)⟩;have n0:=n3.c0;have n1:=n3.c1;clear n3 b3 S2;generalize W2.heap.size=nx at*;go_wp2_with fail
   refine(Eu Wt b f T v F x s _ (LE.v _ S3.2).2.1 (LE.v _ S3.2).2.2 HT.2.2).mono ?_;rintro e W4 ⟨K,E,rfl,hf,b4⟩;have S4:Hid (WB W4 rx (0,0)/\Below rx w W4):=hJ ⟨S3.1.below b4,S3.2.trans (b4.mono (LE.v _ S3.2).1)⟩;have FIN:Hid (Mo.Ck F T p (Mo.st x K E) E):=hJ (.inr ⟨p1',x,s,0,HL.v, .inr ⟨rfl,K,hf,rfl⟩⟩);clear hf b4 n0 n1 S3;obtain⟨y,hy⟩:=hU (Mo.st x K E);obtain⟨ev,hev⟩:=hU (bN E);have HX:=hJ hev;rw[hy]at FIN;rw[hy,hev];clear hy hev;have y0:=S4.1.c0;have y1:=S4.1.c1;have yf:=S4.1.fz;have R:=hJ (S4.1.fin S4.2 HRX.v y);go_wp2_with fail
   generalize hWF:(W4.setCell ⟨rx,0,bu⟩ (aa az y.1)).setCell ⟨rx,1,bu⟩ (aa az y.2)=WF at R|-;have z0:=R.1.c0;have z1:=R.1.c1;refine bodyPost_ret (v:=ao #[au #[aa az y.1,aa az y.2],ev]) (by simp[results,Tryz.f210,go_sem,z0,z1]) rfl ?_
   first|exact⟨y,E,by rw[HX.v],FIN.v,by rw[HRX.v];exact R.2⟩|exact⟨y.1,y.2,E,by rw[HX.v],FIN.v,by rw[HRX.v];exact R.2⟩
  .have FIN:Hid (Mo.Ck F T p (0,0) E/\bN E=aq 100 (aa az E)):=hJ ⟨.inr ⟨p1',x,s,E,HL.v, .inl ⟨e0,rfl,rfl⟩⟩,bH e0⟩;rw[FIN.2];clear e0;go_upto_region 4 with fail
   refine cJ (λW'=>Below W2.heap.size W2 W') ((aQ _ _).alloc (aL _) _) ?_;rintro W3 b3;have S3:Hid (WB W3 rx (0,0)/\Below rx w W3):=hJ ⟨S2.1.below b3,S2.2.trans (b3.mono (LE.v _ S2.2).1)⟩;clear b3 S2;generalize W2.heap.size=nx at*;have y0:=S3.1.c0;have y1:=S3.1.c1;have yf:=S3.1.fz;have R:=hJ (S3.1.fin S3.2 HRX.v (0,0));go_wp2_with fail
   generalize hWF:(W3.setCell ⟨rx,0,bu⟩ (aa .i64 0)).setCell ⟨rx,1,bu⟩ (aa .i64 0)=WF at R|-;have z0:=R.1.c0;have z1:=R.1.c1;refine bodyPost_ret (v:=ao #[au #[aa az 0,aa az 0],aq 100 (aa az E)]) (by simp[results,Tryz.f210,go_sem,z0,z1]) rfl ?_
   first|exact⟨(0,0),E,by rw[FIN.2],FIN.1,by rw[HRX.v];exact R.2⟩|exact⟨0,0,E,by rw[FIN.2],FIN.1,by rw[HRX.v];exact R.2⟩

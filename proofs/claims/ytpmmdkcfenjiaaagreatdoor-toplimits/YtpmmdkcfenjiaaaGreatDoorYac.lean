import Derived.Test.YtpmmdkcfenjiaaaGreatDoorYab
set_option maxRecDepth 100000
set_option maxHeartbeats 4000000
set_option linter.unusedVariables false
set_option linter.unusedSimpArgs false
namespace Go.Proofs.YtpmmdkcfenjiaaaGreatDoor.Gr
open Value renaming int->aa,pointer->ai,tuple->ao,iface->aq,bool->ar,agg->au,nilIface->ay
open IntKind renaming i64->az
open Ending renaming returned->bf
open Obj renaming cells->bh
open Option renaming some->bj,none->bu
open Bool renaming true->bw,false->bA
open Tryz (prog)
open Go.RowKit Go.Shelf
variable {ops:Array Oper}{c:Array Value}{f:Bool}{a g p q:Int}{rest:List Oper}{B c' k l n x:Nat}{Wy:Nat->List (Fin 10)}{ty:TypeId}{A0 A1 A11 A12 A13 A14 A2 A4 A5 A6 A7:Value}{W' w w':bD}
attribute [local go_sem] Oper.semAt_some
def K2(b bt:Nat)(W W':bD):Prop:=W'.heap[b]? =W.heap[b]? /\W'.heap[bt]? =W.heap[bt]?
theorem K2.t{b bt:Nat}{A B C:bD}(h:K2 b bt A B)(k:K2 b bt B C):K2 b bt A C:=⟨k.1.trans h.1,k.2.trans h.2⟩
theorem K2.b{b bt:Nat}{w:bD}(h1:b<w.heap.size)(h2:bt<w.heap.size)(W:bD)(l:Nat)(o o':Obj)(hl:w.heap.size<=l)(_:W.heap[l]? =bj o)(_:o.isCells=bA)(_:o.isWalk=bA):K2 b bt W (W.putObj l o'):=
 ⟨World.putObj_heap_other bB,World.putObj_heap_other bB⟩
def gq(xs:List (Fin 10)):List Nat:=xs.map Fin.val
def wG(t:Nat->Gp)(v:Value):Nat->Nat
 |0=>0
 |f+1=>match v with
  |aa _ g=>if 0<=g/\g<10/\(t g.toNat).there=bw then 1+wG t (aa az (t g.toNat).par) f else 0
  |_=>0
theorem xZ{t:Nat->Gp}:∀{g:Int} {L:List Nat} (f:Nat),Way t g L->L.length<=f->wG t (aa az g) f=L.length
 |_,[],0,_,_=>rfl
 |g,[],f+1,h,_=>by
  unfold wG;exact aI h
 |g,x::L,0,_,hl=>by simp at hl
 |g,x::L,f+1,⟨e,hx,hh,h⟩,hl=>by
  have ih:=xZ f h (by simpa using hl);subst e;unfold wG;have hv:(0:Int)<=(x:Int)/\(x:Int)<10/\(t (x:Int).toNat).there=bw:=⟨by omega,bB,by rw[hZ];exact hh⟩;show(if(0:Int)<=(x:Int)/\(x:Int)<10/\(t (x:Int).toNat).there=bw then 1+wG t (aa az (t (x:Int).toNat).par) f else 0)=_;rw[aJ hv,hZ,ih,List.length_cons];omega
theorem SR(n:Nat)(hn:1<=n)(l bn bt b:Nat)(g0:Int)(t:Nat->Gp)(xs:List (Fin 10))(J Jx:List (Fin 10)->bD->Prop)
  (hY:∀pre x W,J pre W->pre.length<xs.length->YieldAt Fence.wide (n-1) prog l #[aa az (x.val:Int)] W λe W'=>
   (e=bf (ar bw)/\J (pre++[x]) W'/\K2 b bt W W')\/(e=bf (ar bA)/\Jx (pre++[x]) W'))
  (W:bD) (hbn:W.cell? ⟨bn,0,bu⟩=bj (aa az g0)) (hbt:W.heap[bt]? =bj (bh #[ai (bj ⟨b,0,bu⟩)] 79 (0,0))) (hT:bT W b t) (hL:Way t g0 (gq xs)) (h0:J [] W):
  CallsIn Fence.wide n prog 267 #[.func (.yield l) #[] #[],ai (bj ⟨bn,0,bu⟩),ai (bj ⟨bt,0,bu⟩)] W λe W'=>(∃v,e=bf v)/\
   ((∃ys,ys=xs/\J ys W')\/(∃pre,pre<+:xs/\Jx pre W')):=by
 refine callsIn_of_wp Tryz.func267 rfl trivial ?_ rfl;simp only[Tryz.ntmps267,List.size_toArray,List.length_cons,List.length_nil,Nat.reduceAdd,Nat.reduceSub,Array.replicate_succ,Array.replicate_zero,List.push_toArray,List.append_toArray,List.nil_append,List.cons_append]
 gi_wp2
 gi_loopw [4] (λp wr=>∃(pre rest:List (Fin 10)) (g:Int),p=aa az g/\xs=pre++rest/\Hid (Way t g (gq rest)/\bT wr b t/\wr.heap[bt]? =bj (bh #[ai (bj ⟨b,0,bu⟩)] 79 (0,0))/\J pre wr))
  (λp _=>wG t p xs.length)
 case atStart=>
  exact⟨[],xs,g0,rfl,rfl,hL,hT,hbt,h0⟩
 case round=>
  obtain⟨pre,rest,g,rfl,hx,H⟩:=hrel;have cb:wr.cell? ⟨bt,0,bu⟩=bj (ai (bj ⟨b,0,bu⟩)):=by rw[cO H.2.2.1];rfl
  cases rest with
  |nil=>
   gi_wp2_with (refine⟨trivial,?_⟩;gi_at_call 96;refine(callsIn_wide.2 (M7 b g t _ H.2.1 H.1)).mono ?_;rintro e w' ⟨⟨m,rfl⟩,rfl⟩)
   go_end0
   exact⟨⟨_,rfl⟩, .inl ⟨pre,by simp[hx],H.2.2.2⟩⟩
  |cons x rest=>
   obtain⟨e,hx10,hth,hrest⟩:=H.1;subst e;have hlen:(x::rest).length<=xs.length:=by rw[hx];simp
   obtain⟨fn,tmps,assign,body,hy,hR⟩:=hY pre x wr H.2.2.2 (by rw[hx];simp);have HT:Hid (bT wr b t):=H.2.1;have HB:Hid (wr.heap[bt]? =bj (bh #[ai (bj ⟨b,0,bu⟩)] 79 (0,0))):=H.2.2.1;have HR:Hid (Way t (t x.val).par (gq rest)):=hrest;have HTH:Hid ((t x.val).there=bw):=hth;have HX:Hid (xs=pre++x::rest):=hx
   gi_wp2_with (refine⟨trivial,?_⟩;gi_at_call 96;refine(callsIn_wide.2 (iE b x.val t _ HT.v hx10 HTH.v)).mono ?_;rintro e w' ⟨rfl,rfl⟩)
   refine hR.mono ?_;rintro e W3 (⟨rfl,hJ3,hk3⟩|⟨rfl,hJx3⟩)
   .have T3:Hid (bT W3 b t):=hk3.1.trans HT.v;have B3:Hid (W3.heap[bt]? =bj (bh #[ai (bj ⟨b,0,bu⟩)] 79 (0,0))):=hk3.2.trans HB.v;have c3:W3.cell? ⟨bt,0,bu⟩=bj (ai (bj ⟨b,0,bu⟩)):=by rw[cO B3.v];rfl
    have p3:W3.cell? ⟨b,x.val*6+1,bu⟩=bj (aa az (t x.val).par):=T3.cell x.val 1 hx10 bB;have hxI:(x.val:Int)<10:=bB
    have J3:Hid (J (pre++[x]) W3):=hJ3
    gi_wp2
    go_roundw
    case rel=>exact⟨pre++[x],rest,_,rfl,by rw[HX.v];simp,HR.v,T3.v,B3.v,J3.v⟩
    case measure=>
     rw[xZ xs.length HR.v (by simp[gq]at hlen|-;omega),xZ xs.length (L:=gq (x::rest)) ⟨rfl,hx10,HTH.v,HR.v⟩ (by simpa[gq]using hlen)];simp[gq]
   .gi_wp2
    refine bodyPost_ret (results_none rfl _ _ _) rfl ?_;exact⟨⟨_,rfl⟩, .inr ⟨pre++[x],⟨rest,by rw[HX.v];simp⟩,hJx3⟩⟩
theorem vJ(n:Nat)(hn:1<=n)(bn bt b:Nat)(g0:Int)(t:Nat->Gp)(xs:List (Fin 10))(w:bD)(hbnl:bn<w.heap.size)(hbn:w.cell? ⟨bn,0,bu⟩=bj (aa az g0))(hbt:w.heap[bt]? =bj (bh #[ai (bj ⟨b,0,bu⟩)] 79 (0,0)))(hT:bT w b t)(hL:Way t g0 (gq xs)):
  SeqStopsK Fence.wide n prog 267 #[ai (bj ⟨bn,0,bu⟩),ai (bj ⟨bt,0,bu⟩)] (λx:Fin 10=>#[aa az (x.val:Int)]) (K2 b bt) (λys=>ys=xs) (λpre=>pre<+:xs) xs.length w:=λl J Jx W hW _ _ hY h0=>
 SR n hn l bn bt b g0 t xs J Jx hY W ((hW.cell (p:=⟨bn,0,bu⟩) hbnl).trans hbn) ((hW.block bt (aX.1 hbt).1).trans hbt) ((hW.block b hT.lt).trans hT) hL h0
attribute [local go_sem] Oper.semAt_some
theorem gW{W:bD}{v:Value}{t:TypeId}(h:W.heap[B]? =bj (bh #[v] t (0,0))):W.cell? ⟨B,0,bu⟩=bj v/\W.frozen? ⟨B,0,bu⟩=bA:=by
 constructor<;>simp[World.cell?,World.frozen?,h]
theorem Vo(w:bD)(o1 o2 o3 o4:Obj):((((w.alloc o1).alloc o2).alloc o3).alloc o4).heap[w.heap.size]? =bj o1/\((((w.alloc o1).alloc o2).alloc o3).alloc o4).heap[w.heap.size+1]? =bj o2/\((((w.alloc o1).alloc o2).alloc o3).alloc o4).heap[w.heap.size+1+1]? =bj o3/\((((w.alloc o1).alloc o2).alloc o3).alloc o4).heap[w.heap.size+1+1+1]? =bj o4:=by
 have e:((((w.alloc o1).alloc o2).alloc o3).alloc o4).heap=(((w.heap.push o1).push o2).push o3).push o4:=rfl;rw[e];refine⟨?_,?_,?_,?_⟩
 .simp only[bJ,Array.size_push];rw[nJ,nJ,nJ,aJ trivial]
 .simp only[bJ,Array.size_push];rw[nJ,nJ,aJ trivial]
 .simp only[bJ,Array.size_push];rw[nJ,aJ trivial]
 .simp only[bJ,Array.size_push];rw[aJ trivial]
theorem Bh(w:bD)(o1 o2 o3 o4:Obj):Below w.heap.size w ((((w.alloc o1).alloc o2).alloc o3).alloc o4):=
 ((((aQ _ w).alloc (aL _) _).alloc (by simp) _).alloc (by simp;omega) _).alloc (by simp;omega) _
theorem BU(b:Nat)(g other:Int)(t:Nat->Gp)(xs:List (Fin 10))(w:bD)(hT:bT w b t)(hL:Way t g (gq xs)):
  Calls prog 172 #[ai (bj ⟨b,0,bu⟩),aa az g,aa az other] w λe W'=>e=bf (ar (decide (∃x∈xs,(x.val:Int)=other)))/\Below w.heap.size w W':=by
 refine(callsIn_wide (n:=4)).1 ?_;refine callsIn_of_wp_marks Tryz.func172 rfl trivial ?_ rfl;simp only[Tryz.ntmps172,List.size_toArray,List.length_cons,List.length_nil,Nat.reduceAdd,Nat.reduceSub,Array.replicate_succ,Array.replicate_zero,List.push_toArray,List.append_toArray,List.nil_append,List.cons_append]
 gi_wp2_with (refine⟨trivial,?_⟩;gi_at_call 216;refine(callsIn_wide.2 (AZ b g _)).mono ?_;rintro e w' ⟨rfl,rfl⟩)
 have hA:=Vo w (bh #[aa az other] 3) (bh #[ar bA] 4) (bh #[ai (bj ⟨b,0,bu⟩)] 79) (bh #[aa az g] 3);have hB0:=Bh w (bh #[aa az other] 3) (bh #[ar bA] 4) (bh #[ai (bj ⟨b,0,bu⟩)] 79) (bh #[aa az g] 3);have c0:=gW hA.1;have c1:=gW hA.2.1;have c3:=gW hA.2.2.2;have hbl:=hT.lt;refine wpIn_rangeFunc_ownF rfl bB (gf:=267) (lb:=#[ai (bj ⟨w.heap.size+1+1+1,0,bu⟩),ai (bj ⟨w.heap.size+1+1,0,bu⟩)]) rfl trivial (enters_of Tryz.func267 bC rfl)
  (vJ 3 bB (w.heap.size+1+1+1) (w.heap.size+1+1) b g t xs _ (by simp) c3.1 hA.2.2.1 (hT.below hB0 hbl) hL) K2.t (K2.b (by simp;omega) (by simp)) (aQ _ _) (λ_=>rfl)
  (λpre W=>((∀y∈pre,(y.val:Int)≠other)/\W.cell? ⟨w.heap.size,0,bu⟩=bj (aa az other)/\W.cell? ⟨w.heap.size+1,0,bu⟩=bj (ar bA)/\W.frozen? ⟨w.heap.size+1,0,bu⟩=bA)/\Below w.heap.size w W)
  (λc pre W=>(c= .ret/\(∃y∈pre,(y.val:Int)=other)/\W.cell? ⟨w.heap.size+1,0,bu⟩=bj (ar bw))/\Below w.heap.size w W)
  (OwnFrom.and (Own.from (λs A B row hs hg hr=>⟨hs.1,cell_kept hs.2.1 hg hr,cell_kept hs.2.2.1 hg hr,(frozen_kept hs.2.2.1 hg hr).trans hs.2.2.2⟩) _) (ownFrom_below (aL _) (by simp;omega)))
  (λc=>OwnFrom.and (Own.from (λs A B row hs hg hr=>⟨hs.1,hs.2.1,cell_kept hs.2.2 hg hr⟩) _) (ownFrom_below (aL _) (by simp;omega)))
  ⟨⟨by simp,c0.1,c1.1,c1.2⟩,hB0⟩
  (λx=>{tmps:=#[ai (bj ⟨b,0,bu⟩),aa az g,aa az other,undef,undef,ai (bj ⟨w.heap.size,0,bu⟩),ai (bj ⟨w.heap.size+1,0,bu⟩),aa az (x.val:Int),ai (bj ⟨b,0,bu⟩),aa az g, .func (.func 267) #[] #[ai (bj ⟨w.heap.size+1+1+1,0,bu⟩),ai (bj ⟨w.heap.size+1+1,0,bu⟩)],aa az (x.val:Int),undef,undef,undef],defers:=[]}) ?assign ?body ?done ?stop
 case assign=>
  intro l x W K hK
  gi_wp2
  exact hK
 case body=>
  rintro l pre x W ⟨⟨hp,hcw,hcr,hfr⟩,hB⟩ _
  gi_wp2
  .rename_i hx;have hx':(x.val:Int)=other:=eq_of_beq hx;exact⟨KeepsOthers.setCell _ _ _,⟨rfl,⟨x,List.mem_append.2 (.inr (by simp)),hx'⟩,World.cell?_setCell_same' _ _ _ (by rw[hcr];rfl)⟩,hB.setCell (p:=⟨w.heap.size+1,0,bu⟩) (by simp) _⟩
  .rename_i hx;have hx':(x.val:Int)≠other:=by simpa using hx
   exact⟨KeepsOthers.refl _,⟨rfl,rfl⟩,⟨λy hy=>(List.mem_append.1 hy).elim (hp y) (λe=>by simp at e;subst e;exact hx'),hcw,hcr,hfr⟩,hB⟩
 case done=>
  rintro D ys W hD rfl ⟨⟨hne,_,hcr,hfr⟩,hB⟩ hK
  gi_wp2
  have hK':=(KeepsOthers.setCell W ⟨w.heap.size+1,0,bu⟩ (ar bA)).same D _ hK rfl;refine⟨by simp, .inl ⟨_,_,rfl,run_takeDeferred hK',?_⟩⟩;have hc5:=cell_kept (World.cell?_setCell_same' W ⟨w.heap.size+1,0,bu⟩ (ar bA) (by rw[hcr];rfl)) (grownBy_putObj' _ D (.deferred bu)) (λr e=>by cases e;exact⟨_,hK',rfl⟩);refine⟨ar bA,?_,by rw[aT (λ⟨y,hy,e⟩=>hne y hy e)],(hB.setCell (p:=⟨w.heap.size+1,0,bu⟩) (by simp) _).trans (belowK_b (w:=w) (aL _) _ D _ _ (by simp at hD;omega) hK' rfl rfl)⟩;simp[results,Tryz.f172,go_sem,hc5]
 case stop=>
  rintro D c pre W hD hpre ⟨⟨rfl,hin,hcr⟩,hB⟩ hK
  gi_wp2
  refine⟨by simp, .inl ⟨_,_,rfl,run_takeDeferred hK,?_⟩⟩;have hc5:=cell_kept hcr (grownBy_putObj' _ D (.deferred bu)) (λr e=>by cases e;exact⟨_,hK,rfl⟩);refine⟨ar bw,?_,by rw[aO (hin.imp λy hy=>⟨hpre.subset hy.1,hy.2⟩)],hB.trans (belowK_b (w:=w) (aL _) W D _ _ (by simp at hD;omega) hK rfl rfl)⟩;simp[results,Tryz.f172,go_sem,hc5]
theorem V7(w:bD)(o1 o2 o3:Obj):(((w.alloc o1).alloc o2).alloc o3).heap[w.heap.size]? =bj o1/\(((w.alloc o1).alloc o2).alloc o3).heap[w.heap.size+1]? =bj o2/\(((w.alloc o1).alloc o2).alloc o3).heap[w.heap.size+1+1]? =bj o3:=by
 have e:(((w.alloc o1).alloc o2).alloc o3).heap=((w.heap.push o1).push o2).push o3:=rfl;rw[e];refine⟨?_,?_,?_⟩
 .simp only[bJ,Array.size_push];rw[nJ,nJ,aJ trivial]
 .simp only[bJ,Array.size_push];rw[nJ,aJ trivial]
 .simp only[bJ,Array.size_push];rw[aJ trivial]
theorem JV(w:bD)(o1 o2 o3:Obj):Below w.heap.size w (((w.alloc o1).alloc o2).alloc o3):=
 (((aQ _ w).alloc (aL _) _).alloc (by simp) _).alloc (by simp;omega) _
theorem Vn(w:bD)(o1 o2:Obj):((w.alloc o1).alloc o2).heap[w.heap.size]? =bj o1/\((w.alloc o1).alloc o2).heap[w.heap.size+1]? =bj o2:=by
 have e:((w.alloc o1).alloc o2).heap=(w.heap.push o1).push o2:=rfl;rw[e];refine⟨?_,?_⟩
 .simp only[bJ,Array.size_push];rw[nJ,aJ trivial]
 .simp only[bJ,Array.size_push];rw[aJ trivial]
section
attribute [local go_sem] Oper.semAt_some
theorem pB(b:Nat)(g:Int)(t:Nat->Gp)(xs:List (Fin 10))(w:bD)(hT:bT w b t)(hL:Way t g (gq xs))(hlen:xs.length<1000):
  Calls prog 186 #[ai (bj ⟨b,0,bu⟩),aa az g] w λe W'=>e=bf (aa az (xs.length:Nat))/\Below w.heap.size w W':=by
 refine(callsIn_wide (n:=4)).1 ?_;refine callsIn_of_wp_marks Tryz.func186 rfl trivial ?_ rfl;simp only[Tryz.ntmps186,List.size_toArray,List.length_cons,List.length_nil,Nat.reduceAdd,Nat.reduceSub,Array.replicate_succ,Array.replicate_zero,List.push_toArray,List.append_toArray,List.nil_append,List.cons_append]
 gi_wp2_with (refine⟨trivial,?_⟩;gi_at_call 216;refine(callsIn_wide.2 (AZ b g _)).mono ?_;rintro e w' ⟨rfl,rfl⟩)
 have hA:=V7 w (bh #[aa az 0] 3) (bh #[ai (bj ⟨b,0,bu⟩)] 79) (bh #[aa az g] 3);have hB0:=JV w (bh #[aa az 0] 3) (bh #[ai (bj ⟨b,0,bu⟩)] 79) (bh #[aa az g] 3);have c0:=gW hA.1;have c2:=gW hA.2.2;have hbl:=hT.lt;refine wpIn_rangeFunc_ownF rfl bB (gf:=267) (lb:=#[ai (bj ⟨w.heap.size+1+1,0,bu⟩),ai (bj ⟨w.heap.size+1,0,bu⟩)]) rfl trivial (enters_of Tryz.func267 bC rfl)
  (vJ 3 bB (w.heap.size+1+1) (w.heap.size+1) b g t xs _ (by simp) c2.1 hA.2.1 (hT.below hB0 hbl) hL) K2.t (K2.b (by simp;omega) (by simp)) (aQ _ _) (λ_=>rfl)
  (λpre W=>(W.cell? ⟨w.heap.size,0,bu⟩=bj (aa az (pre.length:Nat))/\W.frozen? ⟨w.heap.size,0,bu⟩=bA)/\Below w.heap.size w W)
  (λ_ _ _=>False)
  (OwnFrom.and (Own.from (λs A B row hs hg hr=>⟨cell_kept hs.1 hg hr,(frozen_kept hs.1 hg hr).trans hs.2⟩) _) (ownFrom_below (aL _) (by simp;omega)))
  (λ_ _ _ _ _ hs _ _=>hs)
  ⟨⟨c0.1,c0.2⟩,hB0⟩
  (λx=>{tmps:=#[ai (bj ⟨b,0,bu⟩),aa az g,undef,undef,aa az 0,ai (bj ⟨w.heap.size,0,bu⟩),ai (bj ⟨b,0,bu⟩),aa az g, .func (.func 267) #[] #[ai (bj ⟨w.heap.size+1+1,0,bu⟩),ai (bj ⟨w.heap.size+1,0,bu⟩)],aa az (x.val:Int),undef,undef,undef],defers:=[]}) ?assign ?body ?done ?stop
 case assign=>
  intro l x W K hK
  gi_wp2
  simpa using hK
 case body=>
  rintro l pre x W ⟨⟨hc,hf⟩,hB⟩ hlt;have hpl:(pre.length:Int)<1000:=bB
  gi_wp2
  refine⟨KeepsOthers.setCell _ _ _,⟨dE _ _ _ _ bB,dE _ _ _ _ bB⟩,⟨?_,by rw[World.frozen?_setCell];exact hf⟩,hB.setCell (p:=⟨w.heap.size,0,bu⟩) (aL _) _⟩;rw[World.cell?_setCell_same' _ _ _ (by rw[hc];rfl)];simp
 case done=>
  rintro D ys W hD rfl ⟨⟨hc,_⟩,hB⟩ hK
  gi_wp2
  refine⟨by simp, .inl ⟨_,_,rfl,run_takeDeferred hK,?_⟩⟩;exact⟨_,results_tmp rfl _ _ _,rfl,hB.trans (belowK_b (w:=w) (aL _) W D _ _ (by simp at hD;omega) hK rfl rfl)⟩
 case stop=>
  rintro D c pre W _ _ h _;exact h.elim
end
def gO(Wy:Nat->List (Fin 10))(k:Nat)(n:Int):Bool:=decide (∃x∈Wy k,(x.val:Int)=n)
def cr(t:Nat->Gp)(Wy:Nat->List (Fin 10))(n:Int)(sel:Gp->Int):Nat->Int
 |0=>0
 |k+1=>cr t Wy n sel k+if gO Wy k n=bw then sel (t k)else 0
def dC(t:Nat->Gp)(Wy:Nat->List (Fin 10)):Prop:=∀k:Nat,k<10->Way t (k:Int) (gq (Wy k))
def Small(t:Nat->Gp):Prop:=∀k,k<10->(0<=(t k).op/\(t k).op<=1000000)/\(0<=(t k).oq/\(t k).oq<=1000000)
theorem qS{t:Nat->Gp}(Wy:Nat->List (Fin 10))(n:Int){sel:Gp->Int}(h:∀k,k<10->0<=sel (t k)/\sel (t k)<=1000000):∀k,k<=10->0<=cr t Wy n sel k/\cr t Wy n sel k<=1000000*k
 |0,_=>by simp[cr]
 |k+1,hk=>by
  have ih:=qS Wy n h k bB;have:=h k bB;unfold cr;split<;>omega
structure Ts (w W:bD)(a c:Int):Prop where
 cU:Below w.heap.size w W
 res:W.heap[w.heap.size]? =bj (bh #[aa az 0,aa az 0] 130 (0,0))
 sum:W.heap[w.heap.size+1]? =bj (bh #[aa az a,aa az c] 130 (0,0))
theorem Ts.below{W:bD}{c:Int}(h:Ts w W a c)(hb:Below W.heap.size W W'):Ts w W' a c:=by
 have h1:=(aX.1 h.sum).1;exact⟨h.cU.trans (hb.mono h.cU.size),(hb.block _ bB).trans h.res,(hb.block _ h1).trans h.sum⟩
theorem Ts.drewN{w W:bD}{a c:Int}(h:Ts w W a c)(n:Nat):Ts w (W.drewN n) a c:=⟨below_drewN h.cU n,h.res,h.sum⟩
theorem Ts.drew{w W:bD}{a c:Int}(h:Ts w W a c):Ts w W.drew a c:=h.drewN 1
theorem Ts.VL{W:bD}{c:Int}(h:Ts w W a c)(v:Int):Ts w (W.setCell ⟨w.heap.size+1,0,bu⟩ (aa az v)) v c:=
 ⟨h.cU.setCell (by simp) _,(dE _ _ _ _ bB).trans h.res,by rw[heap_set h.sum];rfl⟩
theorem Ts.VM{W:bD}{c:Int}(h:Ts w W a c)(v:Int):Ts w (W.setCell ⟨w.heap.size+1,1,bu⟩ (aa az v)) a v:=
 ⟨h.cU.setCell (by simp) _,(dE _ _ _ _ bB).trans h.res,by rw[heap_set h.sum];rfl⟩
theorem jT(b:Nat)(n:Int)(t:Nat->Gp)(Wy:Nat->List (Fin 10))(w:bD)(hT:bT w b t)(hW:dC t Wy)(hS:Small t):
  Calls prog 97 #[ai (bj ⟨b,0,bu⟩),aa az n] w λe W'=>e=bf (au #[aa az (cr t Wy n Gp.op 10),aa az (cr t Wy n Gp.oq 10)])/\Below w.heap.size w W':=by
 have HT:Hid (bT w b t):=hT;have hbl:=hT.lt;have HW:Hid (dC t Wy):=hW;have HS:Hid (Small t):=hS;go_in
 go_wp2_with fail
 have A2:=Vn w (bh #[aa az 0,aa az 0] 130) (bh #[aa az 0,aa az 0] 130);refine cJ (λW=>Ts w W 0 0) ⟨((aQ _ w).alloc (aL _) _).alloc (by simp) _,A2.1,A2.2⟩ ?_;intro W1 hT1;go_loopw [7] (λi wr=>∃(k:Nat),i=aa az k/\k<=10/\Hid (Ts w wr (cr t Wy n Gp.op k) (cr t Wy n Gp.oq k))) (λi _=>10-(intOf i).toNat)
 case atStart=>exact⟨0,rfl,bB,hT1⟩
 case round=>
  obtain⟨k,rfl,hk,H⟩:=hrel;by_cases hlt:k<10
  .have hltI:(k:Int)<10:=bB
   have T1:Hid (bT wr b t):=HT.below H.cU hbl;go_wp2_with fail
   refine sC (BU b k n t (Wy k) _ T1.v (HW.v k hlt)) ?_;rintro W2 hb2;have H2:Hid (Ts w W2 (cr t Wy n Gp.op k) (cr t Wy n Gp.oq k)):=H.below hb2;have T2:Hid (bT W2 b t):=T1.below hb2 T1.lt;rw[show decide (∃x∈Wy k,(x.val:Int)=n)=gO Wy k n from rfl];have e1:cr t Wy n Gp.op (k+1)=cr t Wy n Gp.op k+if gO Wy k n=bw then(t k).op else 0:=rfl;have e2:cr t Wy n Gp.oq (k+1)=cr t Wy n Gp.oq k+if gO Wy k n=bw then(t k).oq else 0:=rfl;cases hu:gO Wy k n
   .rw[hu]at e1 e2;have E1:Hid (cr t Wy n Gp.op (k+1)=cr t Wy n Gp.op k):=by rw[e1];simp[Hid]
    have E2:Hid (cr t Wy n Gp.oq (k+1)=cr t Wy n Gp.oq k):=by rw[e2];simp[Hid]
    go_wp2
    go_roundw
    case rel=>exact⟨k+1,by go_num,bB,by rw[E1.v,E2.v];exact H2.v⟩
    case measure=>simp[intOf];omega
   .rw[hu,aJ rfl]at e1 e2;have E1:Hid (cr t Wy n Gp.op (k+1)=cr t Wy n Gp.op k+(t k).op):=e1;have E2:Hid (cr t Wy n Gp.oq (k+1)=cr t Wy n Gp.oq k+(t k).oq):=e2;have b1:=qS Wy n (λk hk=>(HS.v k hk).1) k hk;have b2:=qS Wy n (λk hk=>(HS.v k hk).2) k hk;have s1:=HS.v k hlt;generalize cr t Wy n Gp.op k=X at*;generalize cr t Wy n Gp.oq k=Y at*;have d0:W2.cell? ⟨w.heap.size+1,0,bu⟩=bj (aa az X):=by rw[cO H2.sum];rfl
    have d1:W2.cell? ⟨w.heap.size+1,1,bu⟩=bj (aa az Y):=by rw[cO H2.sum];rfl
    have f0:∀o,W2.frozen? ⟨w.heap.size+1,o,bu⟩=bA:=λo=>iH H2.sum o;have g0:W2.cell? ⟨b,k*6+4,bu⟩=bj (aa az (t k).op):=T2.cell k 4 hlt bB;have g1:W2.cell? ⟨b,k*6+4+1,bu⟩=bj (aa az (t k).oq):=T2.cell k 5 hlt bB;have hne:b≠w.heap.size+1:=bB
    have hne':w.heap.size+1≠b:=bB
    generalize (t k).op=P at*;generalize (t k).oq=R at*;go_wp2_with fail
    go_region
    go_wp2_with fail
    go_region
    go_wp2
    go_roundw
    case rel=>
     have Z:=((H2.VL (X+P)).drew.VM (Y+R)).drew;refine⟨k+1,by go_num,bB,?_⟩;rw[E1.v,E2.v];exact Z
    case measure=>simp[intOf];omega
  .have hk10:k=10:=bB
   subst hk10;have r0:wr.cell? ⟨w.heap.size,0,bu⟩=bj (aa .i64 0):=by rw[cO H.res];rfl
   have r1:wr.cell? ⟨w.heap.size,1,bu⟩=bj (aa .i64 0):=by rw[cO H.res];rfl
   have rf:∀o,wr.frozen? ⟨w.heap.size,o,bu⟩=bA:=λo=>iH H.res o;have s0:wr.cell? ⟨w.heap.size+1,0,bu⟩=bj (aa az (cr t Wy n Gp.op 10)):=by rw[cO H.sum];rfl
   have s1:wr.cell? ⟨w.heap.size+1,1,bu⟩=bj (aa az (cr t Wy n Gp.oq 10)):=by rw[cO H.sum];rfl
   generalize hX:cr t Wy n Gp.op 10=X at s0;generalize hY:cr t Wy n Gp.oq 10=Y at s1;have HX:Hid (cr t Wy n Gp.op 10=X):=hX;have HY:Hid (cr t Wy n Gp.oq 10=Y):=hY;go_wp2_with fail
   refine bodyPost_ret (v:=au #[aa az X,aa az Y]) (by simp[results,Tryz.results97,go_sem,r0,r1]) rfl ⟨by rw[HX.v,HY.v],?_⟩;exact(H.cU.setCell (p:=⟨w.heap.size,0,bu⟩) (aL _) _).setCell (p:=⟨w.heap.size,1,bu⟩) (aL _) _
def ji(p q l:Int):Bool:=decide (l<=p/\p<=20/\l<=q/\q<=64)
theorem ts(p q l:Int)(w:bD):Calls prog 191 #[au #[aa az p,aa az q],aa az l] w λe w'=>e=bf (ar (ji p q l))/\Below w.heap.size w w':=by
 have HF:Hid (∀r:Bool,(r=bw↔(l<=p/\p<=20/\l<=q/\q<=64))->r=ji p q l):=λr hr=>by unfold ji;rw[Bool.eq_iff_iff,hr,decide_eq_true_eq]
 by_cases h1:l<=p
 .have d1:decide (l<=p)=bw:=by simp[h1]
  by_cases h2:p<=20
  .have d2:decide (p<=20)=bw:=by simp[h2]
   by_cases h3:l<=q
   .have d3:decide (l<=q)=bw:=by simp[h3]
    by_cases h4:q<=64
    .have HH:Hid (l<=p/\p<=20/\l<=q/\q<=64):=⟨h1,h2,h3,h4⟩;go_in
     go_wp2
     go_ret
     exact⟨cX (HF.v _ (by simp;exact HH.v)),(aQ _ _).alloc (aL _) _⟩
    .have d4:decide (q<=64)=bA:=by simp;omega
     have HH:Hid (¬q<=64):=h4;go_in
     go_wp2
     go_ret
     exact⟨cX (HF.v _ (by have:=HH.v;simp;omega)),(aQ _ _).alloc (aL _) _⟩
   .have d3:decide (l<=q)=bA:=by simp;omega
    have HH:Hid (¬l<=q):=h3;go_in
    go_wp2
    go_ret
    exact⟨cX (HF.v _ (by have:=HH.v;simp;omega)),(aQ _ _).alloc (aL _) _⟩
  .have d2:decide (p<=20)=bA:=by simp;omega
   have HH:Hid (¬p<=20):=h2;go_in
   go_wp2
   go_ret
   exact⟨cX (HF.v _ (by have:=HH.v;simp;omega)),(aQ _ _).alloc (aL _) _⟩
 .have d1:decide (l<=p)=bA:=by simp;omega
  have HH:Hid (¬l<=p):=h1;go_in
  go_wp2
  go_ret
  exact⟨cX (HF.v _ (by have:=HH.v;simp;omega)),(aQ _ _).alloc (aL _) _⟩
def ml(h m l:Int):Bool:=decide (l≠ -1/\0<m/\l<h+m)
theorem tD(h m l:Int)(w:bD)(hh:0<=h/\h<=100000000)(hm:0<=m/\m<=1000):Calls prog 217 #[aa az h,aa az m,aa az l] w λe w'=>e=bf (ar (ml h m l))/\w'=w:=by
 have HF:Hid (∀r:Bool,(r=bw↔(l≠ -1/\0<m/\l<h+m))->r=ml h m l):=λr hr=>by unfold ml;rw[Bool.eq_iff_iff,hr,decide_eq_true_eq]
 obtain⟨hh0,hh1⟩:=hh;obtain⟨hm0,hm1⟩:=hm;by_cases h1:l= -1
 .have HH:Hid (l= -1):=h1;have d1:(l != -1)=bA:=by simp[h1]
  go_in
  go_wp2
  go_ret
  exact⟨cX (HF.v _ (by simp[HH.v])),rfl⟩
 .have HH:Hid (l≠ -1):=h1;have d1:(l != -1)=bw:=by simp[h1]
  by_cases h2:0<m
  .by_cases h3:l<h+m
   .go_in
    go_wp2
    go_ret
    exact⟨cX (HF.v _ (by have:=HH.v;simp;omega)),rfl⟩
   .go_in
    go_wp2
    go_ret
    exact⟨cX (HF.v _ (by have:=HH.v;simp;omega)),rfl⟩
  .have d2:decide (0<m)=bA:=by simp;omega
   have HH2:Hid (¬0<m):=h2;go_in
   go_wp2
   go_ret
   exact⟨cX (HF.v _ (by have:=HH2.v;simp;omega)),rfl⟩
theorem Gc(b:Nat)(g p q:Int)(w:bD)(hg:g<0\/10<=g):Calls prog 138 #[ai (bj ⟨b,0,bu⟩),aa az g,au #[aa az p,aa az q]] w λe w'=>e=bf (aq 100 (aa .i64 1))/\Below w.heap.size w w':=by
 have HG:Hid (g<0\/10<=g):=hg;go_in
 go_wp2_with fail
 refine sC (vM b g _ HG.v) ?_;rintro w1 rfl;go_wp2
 go_ret
 exact⟨rfl,(aQ _ _).alloc (aL _) _⟩
theorem Ed(b g:Nat)(p q:Int)(t:Nat->Gp)(w:bD)(h:bT w b t)(hg:g<10)(hh:(t g).there=bA):Calls prog 138 #[ai (bj ⟨b,0,bu⟩),aa az g,au #[aa az p,aa az q]] w λe w'=>e=bf (aq 100 (aa .i64 2))/\Below w.heap.size w w':=by
 have H:Hid (bT w b t/\(t g).there=bA):=⟨h,hh⟩;go_in
 go_wp2_with fail
 refine sC (tR b g t _ (H.1.below ((aQ _ _).alloc (aL _) _) H.1.lt) hg H.2) ?_;rintro w1 hw;subst hw;go_wp2
 go_ret
 exact⟨rfl,(aQ _ _).alloc (aL _) _⟩
theorem Jl(b g:Nat)(p q:Int)(t:Nat->Gp)(w:bD)(h:bT w b t)(hg:g<10)(hh:(t g).there=bw)(hf:ji p q 0=bw):Calls prog 138 #[ai (bj ⟨b,0,bu⟩),aa az g,au #[aa az p,aa az q]] w λe w'=>e=bf ay/\Below w.heap.size w w':=by
 have H:Hid (bT w b t/\(t g).there=bw/\ji p q 0=bw):=⟨h,hh,hf⟩;go_in
 go_wp2_with fail
 refine sC (iE b g t _ (H.1.below ((aQ _ _).alloc (aL _) _) H.1.lt) hg H.2.1) ?_;rintro w1 hw;subst hw;go_wp2_with fail
 refine sC (ts p q 0 _) ?_;rintro w2 hb;rw[H.2.2];have HB:Hid (Below w.heap.size w w2):=((aQ _ w).alloc (aL _) _).trans (hb.mono (by simp));go_wp2
 go_ret
 exact⟨rfl,HB.v⟩
theorem Ce(b g:Nat)(p q:Int)(t:Nat->Gp)(w:bD)(h:bT w b t)(hg:g<10)(hh:(t g).there=bw)(hf:ji p q 0=bA):Calls prog 138 #[ai (bj ⟨b,0,bu⟩),aa az g,au #[aa az p,aa az q]] w λe w'=>e=bf (aq 100 (aa .i64 1))/\Below w.heap.size w w':=by
 have H:Hid (bT w b t/\(t g).there=bw/\ji p q 0=bA):=⟨h,hh,hf⟩;go_in
 go_wp2_with fail
 refine sC (iE b g t _ (H.1.below ((aQ _ _).alloc (aL _) _) H.1.lt) hg H.2.1) ?_;rintro w1 hw;subst hw;go_wp2_with fail
 refine sC (ts p q 0 _) ?_;rintro w2 hb;rw[H.2.2];have HB:Hid (Below w.heap.size w w2):=((aQ _ w).alloc (aL _) _).trans (hb.mono (by simp));go_wp2
 go_ret
 exact⟨rfl,HB.v⟩
section
variable {P:Program}{ops:Array Oper}{Q:Exit->Act->bD->Prop}{md:Region.Mode}{S:bD->Prop}
theorem Ge{row:String}{args:Array Value}{R:Value->bD->Prop}(h:Rows P row args w R):RowsIn (Fence.wide.inRound l) n P row args w R:=by
 unfold RowsIn;intro c cs _;obtain⟨v,w',r,s⟩:=h c cs;exact⟨v,w',r,stepsIn_wide.2 s⟩
theorem MU{i:Nat}{K:Act->bD->Prop}{a:Act}(hd:∀(i:Nat) (o:Oper),ops[i]? =bj o->∀c,o.op≠ .defer c)(hL:¬LetsOut Q)(h:wpOp P ops Q i K a w):wpOpIn (Fence.wide.inRound l) n P ops Q i K a w:=by
 unfold wpOp at h;unfold wpOpIn;cases ho:ops[i]? with
 |none=>simp only[ho]at h|-;exact h
 |some o=>
  simp only[ho]at h|-;split
  .rename_i hw;simp only[hw,if_true]at h;rcases h with h|⟨_,h⟩
   .unfold Oper.wp at h;unfold Oper.wpIn;refine⟨λ_ _=>trivial,?_⟩;rw[Oper.semAt_eq _ _ _ (hd i o ho)];generalize (execOp a.eval o).run P w=r at*;have hdp:((Fence.wide.inRound l).depth.isSome=bw->1<=n):=λh=>by simp[Fence.wide]at h
    cases r with
    |ok x w'=>
     cases x<;>simp only[Oper.upon,Oper.uponIn]at h|- <;>
      first
       |exact h
       |exact⟨hdp,CallsIn.inRound l (callsIn_wide.2 h)⟩
       |exact⟨hdp,Ge h⟩
    |halt x w'=>cases x<;>simp only[Oper.upon,Oper.uponIn]at h|- <;>exact h
   .exact aZ h hL
  .rename_i hw;simp only[hw]at h;exact⟨λ_ _=>trivial,h⟩
theorem zH{n l:Nat}(hd:∀(i:Nat) (o:Oper),ops[i]? =bj o->∀c,o.op≠ .defer c)(hL:¬LetsOut Q):∀(fuel:Nat) (listed:Array Bool) (a:Act) (w:bD),wpAnyH P md ops Q S fuel listed a w->wpAnyIn (Fence.wide.inRound l) n P md ops Q fuel listed a w
 |0,_,_,_,h=>h
 |fuel+1,_,_,_,h=>⟨h.1,λi hi=>wpOpIn_mono (λa' w' h'=>zH hd hL fuel _ a' w' h'.2) (MU hd hL (h.2 i hi))⟩
theorem wH{id:Nat}{a:Act}(hm:P.follows .mixedOrders=bw)(hd:∀(i:Nat) (o:Oper),ops[i]? =bj o->∀c,o.op≠ .defer c)(hL:¬LetsOut Q)
  (h:wpAnyH P .any ops Q S ops.size (Array.replicate ops.size bA) a w.drew):(Code.region id ops bw).wpIn (Fence.wide.inRound l) n P Q a w:=
 wpIn_region_any hm (zH hd hL _ _ _ _ h)
end
theorem rB(w:bD)(c:Array Value)(t:TypeId):(w.alloc (bh c t)).heap[w.heap.size]? =bj (bh c t (0,0)):=heap_alloc_new w _
structure F3 (W V:bD)(o9 o10:Option Nat):Prop where
 cU:Below W.heap.size W V
 c9:∀n,o9=bj n->W.heap.size<=n/\V.heap[n]? =bj (bh #[aa az 0,aa az 0] 130 (0,0))
 uw:∀n,o10=bj n->W.heap.size<=n/\V.heap[n]? =bj (bh #[aa az 0,aa az 0] 130 (0,0))
 ne:∀n m,o9=bj n->o10=bj m->n≠m
section
variable {W V:bD}{o9 o10:Option Nat}
theorem F3.JW(h:F3 W V bu o10):F3 W (V.alloc (bh #[aa az 0,aa az 0] 130)) (bj V.heap.size) o10:=
 ⟨h.cU.alloc h.cU.size _,λn e=>by cases e;exact⟨h.cU.size,rB _ _ _⟩,λn e=>⟨(h.uw n e).1,(Below.heap_alloc _ _ _ (aX.1 (h.uw n e).2).1).trans (h.uw n e).2⟩,λn m e e'=>by cases e;have:=(aX.1 (h.uw m e').2).1;omega⟩
theorem F3.CJ(h:F3 W V o9 bu):F3 W (V.alloc (bh #[aa az 0,aa az 0] 130)) o9 (bj V.heap.size):=
 ⟨h.cU.alloc h.cU.size _,λn e=>⟨(h.c9 n e).1,(Below.heap_alloc _ _ _ (aX.1 (h.c9 n e).2).1).trans (h.c9 n e).2⟩,λn e=>by cases e;exact⟨h.cU.size,rB _ _ _⟩,λn m e e'=>by cases e';have:=(aX.1 (h.c9 n e).2).1;omega⟩
theorem F3.call{V':bD}(h:F3 W V o9 o10)(hb:Below V.heap.size V V'):F3 W V' o9 o10:=
 ⟨h.cU.trans (hb.mono h.cU.size),λn e=>⟨(h.c9 n e).1,(hb.block _ (aX.1 (h.c9 n e).2).1).trans (h.c9 n e).2⟩,λn e=>⟨(h.uw n e).1,(hb.block _ (aX.1 (h.uw n e).2).1).trans (h.uw n e).2⟩,h.ne⟩
end
structure F4 (W V:bD)(n9 n10:Nat)(X Y lp lq:Int):Prop where
 cU:Below W.heap.size W V
 l9:W.heap.size<=n9
 Ws:W.heap.size<=n10
 ne:n9≠n10
 c9:V.heap[n9]? =bj (bh #[aa az X,aa az Y] 130 (0,0))
 uw:V.heap[n10]? =bj (bh #[aa az lp,aa az lq] 130 (0,0))
def vY:Array Oper:=#[{dst:=bj 15,op:=Op.load 79 (Operand.tmp 3),type:=79,pos:= "groups.go:240",after:=#[],guard:=bu},
 {dst:=bj 16,op:=Op.move (Operand.tmp 8),type:=3,pos:= "groups.go:240",after:=#[],guard:=bu},
 {dst:=bj 17,op:=Op.call {callee:=Callee.value (Operand.func 97),args:=#[Operand.tmp 15,Operand.tmp 16],argTypes:=#[79,3]},type:=130,pos:= "groups.go:240",after:=#[{on:=0,ground:=Ground.data},{on:=1,ground:=Ground.data}],guard:=bu},
 {dst:=bj 18,op:=Op.load 79 (Operand.tmp 3),type:=79,pos:= "groups.go:240",after:=#[{on:=12,ground:=Ground.gcOnly Departure.lateStores}],guard:=bu},
 {dst:=bj 19,op:=Op.move (Operand.tmp 8),type:=3,pos:= "groups.go:240",after:=#[{on:=12,ground:=Ground.gcOnly Departure.lateStores}],guard:=bu},
 {dst:=bj 20,op:=Op.nilCheck (Operand.tmp 18),type:=0,pos:= "groups.go:240",after:=#[{on:=3,ground:=Ground.data},{on:=12,ground:=Ground.gcOnly Departure.lateStores}],guard:=bu},
 {dst:=bj 21,op:=Op.fieldAddr 135 (Operand.tmp 20) 0,type:=0,pos:= "groups.go:240",after:=#[{on:=5,ground:=Ground.data},{on:=12,ground:=Ground.gcOnly Departure.lateStores}],guard:=bu},
 {dst:=bj 22,op:=Op.indexAddr 133 (Operand.tmp 21) (Operand.tmp 19),type:=0,pos:= "groups.go:240",after:=#[{on:=6,ground:=Ground.data},{on:=4,ground:=Ground.data},{on:=12,ground:=Ground.gcOnly Departure.lateStores}],guard:=bu},
 {dst:=bj 23,op:=Op.fieldAddr 132 (Operand.tmp 22) 2,type:=0,pos:= "groups.go:240",after:=#[{on:=7,ground:=Ground.data},{on:=12,ground:=Ground.gcOnly Departure.lateStores}],guard:=bu},
 {dst:=bj 24,op:=Op.load 130 (Operand.tmp 23),type:=130,pos:= "groups.go:240",after:=#[{on:=8,ground:=Ground.data},{on:=12,ground:=Ground.gcOnly Departure.lateStores}],guard:=bu},
 {dst:=bj 9,op:=Op.alloc 130,type:=0,pos:= "groups.go:240",after:=#[],guard:=bu},
 {dst:=bj 10,op:=Op.alloc 130,type:=0,pos:= "groups.go:240",after:=#[],guard:=bu},
 {dst:=bu,op:=Op.store 130 (Operand.tmp 9) (Operand.tmp 17),type:=0,pos:= "groups.go:240",after:=#[{on:=10,ground:=Ground.data},{on:=2,ground:=Ground.data},{on:=2,ground:=Ground.chain},{on:=0,ground:=Ground.phase},{on:=1,ground:=Ground.phase},{on:=2,ground:=Ground.phase},{on:=3,ground:=Ground.textOnly Departure.lateStores},{on:=4,ground:=Ground.textOnly Departure.lateStores},{on:=5,ground:=Ground.textOnly Departure.lateStores},{on:=6,ground:=Ground.textOnly Departure.lateStores},{on:=7,ground:=Ground.textOnly Departure.lateStores},{on:=8,ground:=Ground.textOnly Departure.lateStores},{on:=9,ground:=Ground.textOnly Departure.lateStores},{on:=10,ground:=Ground.phase},{on:=11,ground:=Ground.phase}],guard:=bu},
 {dst:=bu,op:=Op.store 130 (Operand.tmp 10) (Operand.tmp 24),type:=0,pos:= "groups.go:240",after:=#[{on:=11,ground:=Ground.data},{on:=9,ground:=Ground.data},{on:=12,ground:=Ground.chain},{on:=0,ground:=Ground.phase},{on:=1,ground:=Ground.phase},{on:=2,ground:=Ground.phase},{on:=3,ground:=Ground.phase},{on:=4,ground:=Ground.phase},{on:=5,ground:=Ground.phase},{on:=6,ground:=Ground.phase},{on:=7,ground:=Ground.phase},{on:=8,ground:=Ground.phase},{on:=9,ground:=Ground.phase},{on:=10,ground:=Ground.phase},{on:=11,ground:=Ground.phase},{on:=12,ground:=Ground.phase}],guard:=bu}]
theorem nG{Q:Exit->Act->bD->Prop}{W V:bD}{bt n9 n10:Nat}{X Y lp lq:Int}{c15 c16 c18 c19 lC c21 c22 c23:Value}
  (hQ:∀(n9 n10:Nat) (V:bD) (c15 c16 c17 c18 c19 lC c21 c22 c23 c24:Value),F4 W V n9 n10 X Y lp lq->Q .normal {tmps:=#[A0,A1,A2,ai (bj ⟨bt,0,bu⟩),A4,A5,A6,A7,aa az (x:Int),ai (bj ⟨n9,0,bu⟩),ai (bj ⟨n10,0,bu⟩),A11,A12,A13,A14,c15,c16,c17,c18,c19,lC,c21,c22,c23,c24,undef,undef,undef,undef,undef,undef,undef,undef,undef,undef,undef,undef,undef,undef,undef,undef,undef],defers:=[]} V)
  (F:F3 W V (bj n9) (bj n10)):
  wpAnyH prog .any vY Q (λV=>Below W.heap.size W V) 2 #[bw,bw,bw,bw,bw,bw,bw,bw,bw,bw,bw,bw,bA,bA] {tmps:=#[A0,A1,A2,ai (bj ⟨bt,0,bu⟩),A4,A5,A6,A7,aa az (x:Int),ai (bj ⟨n9,0,bu⟩),ai (bj ⟨n10,0,bu⟩),A11,A12,A13,A14,c15,c16,au #[aa az X,aa az Y],c18,c19,lC,c21,c22,c23,au #[aa az lp,aa az lq],undef,undef,undef,undef,undef,undef,undef,undef,undef,undef,undef,undef,undef,undef,undef,undef,undef],defers:=[]} V:=by
 have k9:=F.c9 n9 rfl;have k10:=F.uw n10 rfl;have hne:=F.ne n9 n10 rfl rfl;have e0:V.cell? ⟨n9,0,bu⟩=bj (aa .i64 0):=by rw[cO k9.2];rfl
 have e1:V.cell? ⟨n9,1,bu⟩=bj (aa .i64 0):=by rw[cO k9.2];rfl
 have ef:∀o,V.frozen? ⟨n9,o,bu⟩=bA:=λo=>iH k9.2 o;have F4a:Hid (F4 W ((((V.setCell ⟨n9,0,bu⟩ (aa az X)).setCell ⟨n9,1,bu⟩ (aa az Y)).setCell ⟨n10,0,bu⟩ (aa az lp)).setCell ⟨n10,1,bu⟩ (aa az lq)) n9 n10 X Y lp lq):=by
  have s1:(V.setCell ⟨n9,0,bu⟩ (aa az X)).heap[n9]? =bj (bh #[aa az X,aa az 0] 130 (0,0)):=by rw[heap_set k9.2];rfl
  have s2:((V.setCell ⟨n9,0,bu⟩ (aa az X)).setCell ⟨n9,1,bu⟩ (aa az Y)).heap[n9]? =bj (bh #[aa az X,aa az Y] 130 (0,0)):=by rw[heap_set s1];rfl
  have t0:((V.setCell ⟨n9,0,bu⟩ (aa az X)).setCell ⟨n9,1,bu⟩ (aa az Y)).heap[n10]? =bj (bh #[aa az 0,aa az 0] 130 (0,0)):=by rw[dE _ _ _ _ (bQ hne),dE _ _ _ _ (bQ hne)];exact k10.2
  have t1:(((V.setCell ⟨n9,0,bu⟩ (aa az X)).setCell ⟨n9,1,bu⟩ (aa az Y)).setCell ⟨n10,0,bu⟩ (aa az lp)).heap[n10]? =bj (bh #[aa az lp,aa az 0] 130 (0,0)):=by rw[heap_set t0];rfl
  refine⟨(((F.cU.setCell k9.1 _).setCell k9.1 _).setCell k10.1 _).setCell k10.1 _,k9.1,k10.1,hne,?_,?_⟩
  .rw[dE _ _ _ _ hne,dE _ _ _ _ hne];exact s2
  .rw[heap_set t1];rfl
 have B0:Hid (Below W.heap.size W V):=F.cU;have HK:Hid (W.heap.size<=n9/\W.heap.size<=n10):=⟨k9.1,k10.1⟩;have g0:V.cell? ⟨n10,0,bu⟩=bj (aa .i64 0):=by rw[cO k10.2];rfl
 have g1:V.cell? ⟨n10,1,bu⟩=bj (aa .i64 0):=by rw[cO k10.2];rfl
 have gf:∀o,V.frozen? ⟨n10,o,bu⟩=bA:=λo=>iH k10.2 o;have hne':n10≠n9:=bQ hne;refine wpAnyH_ready (rs:=[12]) bC (by simp) ?_;refine AllReadyH.cons (o:={dst:=bu,op:=Op.store 130 (Operand.tmp 9) (Operand.tmp 17),type:=0,pos:= "groups.go:240",after:=#[{on:=10,ground:=Ground.data},{on:=2,ground:=Ground.data},{on:=2,ground:=Ground.chain},{on:=0,ground:=Ground.phase},{on:=1,ground:=Ground.phase},{on:=2,ground:=Ground.phase},{on:=3,ground:=Ground.textOnly Departure.lateStores},{on:=4,ground:=Ground.textOnly Departure.lateStores},{on:=5,ground:=Ground.textOnly Departure.lateStores},{on:=6,ground:=Ground.textOnly Departure.lateStores},{on:=7,ground:=Ground.textOnly Departure.lateStores},{on:=8,ground:=Ground.textOnly Departure.lateStores},{on:=9,ground:=Ground.textOnly Departure.lateStores},{on:=10,ground:=Ground.phase},{on:=11,ground:=Ground.phase}],guard:=bu}) rfl (λK hK=>?_) AllReadyH.nil;go_simp
 refine hK.out _ _ ((B0.setCell HK.1 _).setCell HK.1 _) (λ_=>?_);refine wpAnyH_ready (rs:=[13]) bC (by simp) ?_;refine AllReadyH.cons (o:={dst:=bu,op:=Op.store 130 (Operand.tmp 10) (Operand.tmp 24),type:=0,pos:= "groups.go:240",after:=#[{on:=11,ground:=Ground.data},{on:=9,ground:=Ground.data},{on:=12,ground:=Ground.chain},{on:=0,ground:=Ground.phase},{on:=1,ground:=Ground.phase},{on:=2,ground:=Ground.phase},{on:=3,ground:=Ground.phase},{on:=4,ground:=Ground.phase},{on:=5,ground:=Ground.phase},{on:=6,ground:=Ground.phase},{on:=7,ground:=Ground.phase},{on:=8,ground:=Ground.phase},{on:=9,ground:=Ground.phase},{on:=10,ground:=Ground.phase},{on:=11,ground:=Ground.phase},{on:=12,ground:=Ground.phase}],guard:=bu}) rfl (λK hK=>?_) AllReadyH.nil;go_simp
 refine hK.out _ _ F4a.cU (λ_=>?_);exact wpAnyH_done bC (hQ _ _ _ _ _ _ _ _ _ _ _ _ _ F4a.v) _
theorem Ox{Q:Exit->Act->bD->Prop}{W:bD}{b bt:Nat}{t:Nat->Gp}(hL:¬LetsOut Q)(hP:∀c (a:Act) d v w,Q (.panic c) (a.put d v) w->Q (.panic c) a w)
  (hTW:bT W b t) (hW:dC t Wy) (hS:Small t) (hx:x<10) (d0:W.cell? ⟨bt,0,bu⟩=bj (ai (bj ⟨b,0,bu⟩)))
  (hQ:∀(n9 n10:Nat) (V:bD) (c15 c16 c17 c18 c19 lC c21 c22 c23 c24:Value),F4 W V n9 n10 (cr t Wy x Gp.op 10) (cr t Wy x Gp.oq 10) (t x).lp (t x).lq->Q .normal {tmps:=#[A0,A1,A2,ai (bj ⟨bt,0,bu⟩),A4,A5,A6,A7,aa az (x:Int),ai (bj ⟨n9,0,bu⟩),ai (bj ⟨n10,0,bu⟩),A11,A12,A13,A14,c15,c16,c17,c18,c19,lC,c21,c22,c23,c24,undef,undef,undef,undef,undef,undef,undef,undef,undef,undef,undef,undef,undef,undef,undef,undef,undef],defers:=[]} V):
  (Code.region 3 vY bw).wpIn (Fence.wide.inRound l) n prog Q {tmps:=#[A0,A1,A2,ai (bj ⟨bt,0,bu⟩),A4,A5,A6,A7,aa az (x:Int),undef,undef,A11,A12,A13,A14,undef,undef,undef,undef,undef,undef,undef,undef,undef,undef,undef,undef,undef,undef,undef,undef,undef,undef,undef,undef,undef,undef,undef,undef,undef,undef,undef],defers:=[]} W:=by
 have hbl:=hTW.lt;have hbtl:bt<W.heap.size:=bZ _ _ d0;have d1:W.cell? ⟨b,x*6+2,bu⟩=bj (aa az (t x).lp):=hTW.cell x 2 hx bB;have d2:W.cell? ⟨b,x*6+2+1,bu⟩=bj (aa az (t x).lq):=hTW.cell x 3 hx bB;have HC:∀V,Below W.heap.size W V->V.cell? ⟨bt,0,bu⟩=bj (ai (bj ⟨b,0,bu⟩))/\V.cell? ⟨b,x*6+2,bu⟩=bj (aa az (t x).lp)/\V.cell? ⟨b,x*6+2+1,bu⟩=bj (aa az (t x).lq):=λV h=>⟨(h.cell (p:=⟨bt,0,bu⟩) hbtl).trans d0,(h.cell (p:=⟨b,x*6+2,bu⟩) hbl).trans d1,(h.cell (p:=⟨b,x*6+2+1,bu⟩) hbl).trans d2⟩;have hxI:(x:Int)<10:=bB
 have hS0:Below W.heap.size W W.drew:=(aQ _ _).drew;have F0:F3 W W.drew bu none:=⟨hS0,by nofun,by nofun,by nofun⟩;refine wH (S:=λV=>Below W.heap.size W V) bC ?_ hL ?_
 .have hall:∀o∈vY.toList,∀c,o.op≠ .defer c:=by
   intro o ho c;simp only[vY,List.mem_cons,List.not_mem_nil,or_false]at ho;rcases ho with rfl|rfl|rfl|rfl|rfl|rfl|rfl|rfl|rfl|rfl|rfl|rfl|rfl|rfl<;>simp
  intro i o ho;exact hall o (by simpa using Array.mem_of_getElem? ho)
 generalize W.drew=V0 at*;dsimp only;refine wpAnyH_take (i:=0) (oi:={dst:=bj 15,op:=Op.load 79 (Operand.tmp 3),type:=79,pos:= "groups.go:240",after:=#[],guard:=bu}) (v:=?_) rfl bC bC bC (λ_ _ _ h=>hP _ _ _ _ _ h) (Or.inl ⟨by rfl,?_⟩) hS0 ?_
 rotate_left
 .intro V hV;obtain⟨c0,c1,c2⟩:=HC V hV;go_simp
  try with_reducible rfl
 simp only[Act.put,List.setIfInBounds_toArray,List.set_cons_zero,List.set_cons_succ];refine wpAnyH_take (i:=1) (oi:={dst:=bj 16,op:=Op.move (Operand.tmp 8),type:=3,pos:= "groups.go:240",after:=#[],guard:=bu}) (v:=?_) rfl bC bC bC (λ_ _ _ h=>hP _ _ _ _ _ h) (Or.inl ⟨by rfl,?_⟩) hS0 ?_
 rotate_left
 .intro V hV;obtain⟨c0,c1,c2⟩:=HC V hV;go_simp
  try with_reducible rfl
 simp only[Act.put,List.setIfInBounds_toArray,List.set_cons_zero,List.set_cons_succ];refine wpAnyH_take (i:=3) (oi:={dst:=bj 18,op:=Op.load 79 (Operand.tmp 3),type:=79,pos:= "groups.go:240",after:=#[{on:=12,ground:=Ground.gcOnly Departure.lateStores}],guard:=bu}) (v:=?_) rfl bC bC bC (λ_ _ _ h=>hP _ _ _ _ _ h) (Or.inl ⟨by rfl,?_⟩) hS0 ?_
 rotate_left
 .intro V hV;obtain⟨c0,c1,c2⟩:=HC V hV;go_simp
  try with_reducible rfl
 simp only[Act.put,List.setIfInBounds_toArray,List.set_cons_zero,List.set_cons_succ];refine wpAnyH_take (i:=4) (oi:={dst:=bj 19,op:=Op.move (Operand.tmp 8),type:=3,pos:= "groups.go:240",after:=#[{on:=12,ground:=Ground.gcOnly Departure.lateStores}],guard:=bu}) (v:=?_) rfl bC bC bC (λ_ _ _ h=>hP _ _ _ _ _ h) (Or.inl ⟨by rfl,?_⟩) hS0 ?_
 rotate_left
 .intro V hV;obtain⟨c0,c1,c2⟩:=HC V hV;go_simp
  try with_reducible rfl
 simp only[Act.put,List.setIfInBounds_toArray,List.set_cons_zero,List.set_cons_succ];refine wpAnyH_take (i:=5) (oi:={dst:=bj 20,op:=Op.nilCheck (Operand.tmp 18),type:=0,pos:= "groups.go:240",after:=#[{on:=3,ground:=Ground.data},{on:=12,ground:=Ground.gcOnly Departure.lateStores}],guard:=bu}) (v:=?_) rfl bC bC bC (λ_ _ _ h=>hP _ _ _ _ _ h) (Or.inl ⟨by rfl,?_⟩) hS0 ?_
 rotate_left
 .intro V hV;obtain⟨c0,c1,c2⟩:=HC V hV;go_simp
  try with_reducible rfl
 simp only[Act.put,List.setIfInBounds_toArray,List.set_cons_zero,List.set_cons_succ];refine wpAnyH_take (i:=6) (oi:={dst:=bj 21,op:=Op.fieldAddr 135 (Operand.tmp 20) 0,type:=0,pos:= "groups.go:240",after:=#[{on:=5,ground:=Ground.data},{on:=12,ground:=Ground.gcOnly Departure.lateStores}],guard:=bu}) (v:=?_) rfl bC bC bC (λ_ _ _ h=>hP _ _ _ _ _ h) (Or.inl ⟨by rfl,?_⟩) hS0 ?_
 rotate_left
 .intro V hV;obtain⟨c0,c1,c2⟩:=HC V hV;go_simp
  try with_reducible rfl
 simp only[Act.put,List.setIfInBounds_toArray,List.set_cons_zero,List.set_cons_succ];refine wpAnyH_take (i:=7) (oi:={dst:=bj 22,op:=Op.indexAddr 133 (Operand.tmp 21) (Operand.tmp 19),type:=0,pos:= "groups.go:240",after:=#[{on:=6,ground:=Ground.data},{on:=4,ground:=Ground.data},{on:=12,ground:=Ground.gcOnly Departure.lateStores}],guard:=bu}) (v:=?_) rfl bC bC bC (λ_ _ _ h=>hP _ _ _ _ _ h) (Or.inl ⟨by rfl,?_⟩) hS0 ?_
 rotate_left
 .intro V hV;obtain⟨c0,c1,c2⟩:=HC V hV;go_simp
  try with_reducible rfl
 simp only[Act.put,List.setIfInBounds_toArray,List.set_cons_zero,List.set_cons_succ];refine wpAnyH_take (i:=8) (oi:={dst:=bj 23,op:=Op.fieldAddr 132 (Operand.tmp 22) 2,type:=0,pos:= "groups.go:240",after:=#[{on:=7,ground:=Ground.data},{on:=12,ground:=Ground.gcOnly Departure.lateStores}],guard:=bu}) (v:=?_) rfl bC bC bC (λ_ _ _ h=>hP _ _ _ _ _ h) (Or.inl ⟨by rfl,?_⟩) hS0 ?_
 rotate_left
 .intro V hV;obtain⟨c0,c1,c2⟩:=HC V hV;go_simp
  try with_reducible rfl
 simp only[Act.put,List.setIfInBounds_toArray,List.set_cons_zero,List.set_cons_succ];refine wpAnyH_take (i:=9) (oi:={dst:=bj 24,op:=Op.load 130 (Operand.tmp 23),type:=130,pos:= "groups.go:240",after:=#[{on:=8,ground:=Ground.data},{on:=12,ground:=Ground.gcOnly Departure.lateStores}],guard:=bu}) (v:=?_) rfl bC bC bC (λ_ _ _ h=>hP _ _ _ _ _ h) (Or.inl ⟨by rfl,?_⟩) hS0 ?_
 rotate_left
 .intro V hV;obtain⟨c0,c1,c2⟩:=HC V hV;go_simp
  try with_reducible rfl
 simp only[Act.put,List.setIfInBounds_toArray,List.set_cons_zero,List.set_cons_succ];refine wpAnyH_ready (rs:=[2,10,11]) bC (by simp) ?_;refine AllReadyH.cons (o:={dst:=bj 17,op:=Op.call {callee:=Callee.value (Operand.func 97),args:=#[Operand.tmp 15,Operand.tmp 16],argTypes:=#[79,3]},type:=130,pos:= "groups.go:240",after:=#[{on:=0,ground:=Ground.data},{on:=1,ground:=Ground.data}],guard:=bu}) rfl (λK hK=>?_) ?_
 .go_simp
  refine sC (jT b x t Wy _ (hTW.below F0.cU hbl) hW hS) ?_;rintro V1 hb;have F1:=F0.call hb;refine hK.out _ _ F1.cU (λ_=>?_)
  try simp only[Act.put,List.setIfInBounds_toArray,List.set_cons_zero,List.set_cons_succ]
  refine wpAnyH_ready (rs:=[10,11]) bC (by simp) ?_;refine AllReadyH.cons (o:={dst:=bj 9,op:=Op.alloc 130,type:=0,pos:= "groups.go:240",after:=#[],guard:=bu}) rfl (λK hK=>?_) ?_
  .go_simp
   have F2:=F1.JW;refine hK.out _ _ F2.cU (λ_=>?_);generalize World.alloc V1 _=V2 at F2|-;generalize V1.heap.size=n9 at F2|-
   try simp only[Act.put,List.setIfInBounds_toArray,List.set_cons_zero,List.set_cons_succ]
   refine wpAnyH_ready (rs:=[11]) bC (by simp) ?_;refine AllReadyH.cons (o:={dst:=bj 10,op:=Op.alloc 130,type:=0,pos:= "groups.go:240",after:=#[],guard:=bu}) rfl (λK hK=>?_) ?_
   .go_simp
    have F3:=F2.CJ;refine hK.out _ _ F3.cU (λ_=>?_);generalize World.alloc V2 _=V3 at F3|-;generalize V2.heap.size=n10 at F3|-
    try simp only[Act.put,List.setIfInBounds_toArray,List.set_cons_zero,List.set_cons_succ]
    exact nG hQ F3
   exact AllReadyH.nil
  refine AllReadyH.cons (o:={dst:=bj 10,op:=Op.alloc 130,type:=0,pos:= "groups.go:240",after:=#[],guard:=bu}) rfl (λK hK=>?_) ?_
  .go_simp
   have F2:=F1.CJ;refine hK.out _ _ F2.cU (λ_=>?_);generalize World.alloc V1 _=V2 at F2|-;generalize V1.heap.size=n10 at F2|-
   try simp only[Act.put,List.setIfInBounds_toArray,List.set_cons_zero,List.set_cons_succ]
   refine wpAnyH_ready (rs:=[10]) bC (by simp) ?_;refine AllReadyH.cons (o:={dst:=bj 9,op:=Op.alloc 130,type:=0,pos:= "groups.go:240",after:=#[],guard:=bu}) rfl (λK hK=>?_) ?_
   .go_simp
    have F3:=F2.JW;refine hK.out _ _ F3.cU (λ_=>?_);generalize World.alloc V2 _=V3 at F3|-;generalize V2.heap.size=n9 at F3|-
    try simp only[Act.put,List.setIfInBounds_toArray,List.set_cons_zero,List.set_cons_succ]
    exact nG hQ F3
   exact AllReadyH.nil
  exact AllReadyH.nil
 refine AllReadyH.cons (o:={dst:=bj 9,op:=Op.alloc 130,type:=0,pos:= "groups.go:240",after:=#[],guard:=bu}) rfl (λK hK=>?_) ?_
 .go_simp
  have F1:=F0.JW;refine hK.out _ _ F1.cU (λ_=>?_);generalize World.alloc V0 _=V1 at F1|-;generalize V0.heap.size=n9 at F1|-
  try simp only[Act.put,List.setIfInBounds_toArray,List.set_cons_zero,List.set_cons_succ]
  refine wpAnyH_ready (rs:=[2,11]) bC (by simp) ?_;refine AllReadyH.cons (o:={dst:=bj 17,op:=Op.call {callee:=Callee.value (Operand.func 97),args:=#[Operand.tmp 15,Operand.tmp 16],argTypes:=#[79,3]},type:=130,pos:= "groups.go:240",after:=#[{on:=0,ground:=Ground.data},{on:=1,ground:=Ground.data}],guard:=bu}) rfl (λK hK=>?_) ?_
  .go_simp
   refine sC (jT b x t Wy _ (hTW.below F1.cU hbl) hW hS) ?_;rintro V2 hb;have F2:=F1.call hb;refine hK.out _ _ F2.cU (λ_=>?_)
   try simp only[Act.put,List.setIfInBounds_toArray,List.set_cons_zero,List.set_cons_succ]
   refine wpAnyH_ready (rs:=[11]) bC (by simp) ?_;refine AllReadyH.cons (o:={dst:=bj 10,op:=Op.alloc 130,type:=0,pos:= "groups.go:240",after:=#[],guard:=bu}) rfl (λK hK=>?_) ?_
   .go_simp
    have F3:=F2.CJ;refine hK.out _ _ F3.cU (λ_=>?_);generalize World.alloc V2 _=V3 at F3|-;generalize V2.heap.size=n10 at F3|-
    try simp only[Act.put,List.setIfInBounds_toArray,List.set_cons_zero,List.set_cons_succ]
    exact nG hQ F3
   exact AllReadyH.nil
  refine AllReadyH.cons (o:={dst:=bj 10,op:=Op.alloc 130,type:=0,pos:= "groups.go:240",after:=#[],guard:=bu}) rfl (λK hK=>?_) ?_
  .go_simp
   have F2:=F1.CJ;refine hK.out _ _ F2.cU (λ_=>?_);generalize World.alloc V1 _=V2 at F2|-;generalize V1.heap.size=n10 at F2|-
   try simp only[Act.put,List.setIfInBounds_toArray,List.set_cons_zero,List.set_cons_succ]
   refine wpAnyH_ready (rs:=[2]) bC (by simp) ?_;refine AllReadyH.cons (o:={dst:=bj 17,op:=Op.call {callee:=Callee.value (Operand.func 97),args:=#[Operand.tmp 15,Operand.tmp 16],argTypes:=#[79,3]},type:=130,pos:= "groups.go:240",after:=#[{on:=0,ground:=Ground.data},{on:=1,ground:=Ground.data}],guard:=bu}) rfl (λK hK=>?_) ?_
   .go_simp
    refine sC (jT b x t Wy _ (hTW.below F2.cU hbl) hW hS) ?_;rintro V3 hb;have F3:=F2.call hb;refine hK.out _ _ F3.cU (λ_=>?_)
    try simp only[Act.put,List.setIfInBounds_toArray,List.set_cons_zero,List.set_cons_succ]
    exact nG hQ F3
   exact AllReadyH.nil
  exact AllReadyH.nil
 refine AllReadyH.cons (o:={dst:=bj 10,op:=Op.alloc 130,type:=0,pos:= "groups.go:240",after:=#[],guard:=bu}) rfl (λK hK=>?_) ?_
 .go_simp
  have F1:=F0.CJ;refine hK.out _ _ F1.cU (λ_=>?_);generalize World.alloc V0 _=V1 at F1|-;generalize V0.heap.size=n10 at F1|-
  try simp only[Act.put,List.setIfInBounds_toArray,List.set_cons_zero,List.set_cons_succ]
  refine wpAnyH_ready (rs:=[2,10]) bC (by simp) ?_;refine AllReadyH.cons (o:={dst:=bj 17,op:=Op.call {callee:=Callee.value (Operand.func 97),args:=#[Operand.tmp 15,Operand.tmp 16],argTypes:=#[79,3]},type:=130,pos:= "groups.go:240",after:=#[{on:=0,ground:=Ground.data},{on:=1,ground:=Ground.data}],guard:=bu}) rfl (λK hK=>?_) ?_
  .go_simp
   refine sC (jT b x t Wy _ (hTW.below F1.cU hbl) hW hS) ?_;rintro V2 hb;have F2:=F1.call hb;refine hK.out _ _ F2.cU (λ_=>?_)
   try simp only[Act.put,List.setIfInBounds_toArray,List.set_cons_zero,List.set_cons_succ]
   refine wpAnyH_ready (rs:=[10]) bC (by simp) ?_;refine AllReadyH.cons (o:={dst:=bj 9,op:=Op.alloc 130,type:=0,pos:= "groups.go:240",after:=#[],guard:=bu}) rfl (λK hK=>?_) ?_
   .go_simp
    have F3:=F2.JW;refine hK.out _ _ F3.cU (λ_=>?_);generalize World.alloc V2 _=V3 at F3|-;generalize V2.heap.size=n9 at F3|-
    try simp only[Act.put,List.setIfInBounds_toArray,List.set_cons_zero,List.set_cons_succ]
    exact nG hQ F3
   exact AllReadyH.nil
  refine AllReadyH.cons (o:={dst:=bj 9,op:=Op.alloc 130,type:=0,pos:= "groups.go:240",after:=#[],guard:=bu}) rfl (λK hK=>?_) ?_
  .go_simp
   have F2:=F1.JW;refine hK.out _ _ F2.cU (λ_=>?_);generalize World.alloc V1 _=V2 at F2|-;generalize V1.heap.size=n9 at F2|-
   try simp only[Act.put,List.setIfInBounds_toArray,List.set_cons_zero,List.set_cons_succ]
   refine wpAnyH_ready (rs:=[2]) bC (by simp) ?_;refine AllReadyH.cons (o:={dst:=bj 17,op:=Op.call {callee:=Callee.value (Operand.func 97),args:=#[Operand.tmp 15,Operand.tmp 16],argTypes:=#[79,3]},type:=130,pos:= "groups.go:240",after:=#[{on:=0,ground:=Ground.data},{on:=1,ground:=Ground.data}],guard:=bu}) rfl (λK hK=>?_) ?_
   .go_simp
    refine sC (jT b x t Wy _ (hTW.below F2.cU hbl) hW hS) ?_;rintro V3 hb;have F3:=F2.call hb;refine hK.out _ _ F3.cU (λ_=>?_)
    try simp only[Act.put,List.setIfInBounds_toArray,List.set_cons_zero,List.set_cons_succ]
    exact nG hQ F3
   exact AllReadyH.nil
  exact AllReadyH.nil
 exact AllReadyH.nil
attribute [local go_sem] Oper.semAt_some
theorem oG{W:bD}(h:Below W.heap.size W W'):KeepsOthers W W':=
 ⟨h.size,λk _ hk _=>(h.block k (aX.1 hk).1).trans hk⟩
theorem K2.cL{b bt:Nat}{W:bD}(h:Below W.heap.size W W')(h1:b<W.heap.size)(h2:bt<W.heap.size):K2 b bt W W':=⟨h.block b h1,h.block bt h2⟩
def gE(t:Nat->Gp)(Wy:Nat->List (Fin 10))(p q:Int)(y:Fin 10):Bool:=
 ml (cr t Wy y.val Gp.op 10) p (t y.val).lp||ml (cr t Wy y.val Gp.oq 10) q (t y.val).lq
structure Lk (w W:bD)(b:Nat)(p q g:Int)(f:Bool):Prop where
 cU:Below w.heap.size w W
 bt:W.heap[w.heap.size]? =bj (bh #[ai (bj ⟨b,0,bu⟩)] 79 (0,0))
 bm:W.heap[w.heap.size+1]? =bj (bh #[aa az p,aa az q] 130 (0,0))
 r1:W.heap[w.heap.size+1+1]? =bj (bh #[aa az g] 3 (0,0))
 r2:W.heap[w.heap.size+1+1+1]? =bj (bh #[ar f] 4 (0,0))
theorem Lk.below{W:bD}{b:Nat}(h:Lk w W b p q g f)(hb:Below W.heap.size W W'):Lk w W' b p q g f:=by
 have h1:=(aX.1 h.r2).1;exact⟨h.cU.trans (hb.mono h.cU.size),(hb.block _ bB).trans h.bt,(hb.block _ bB).trans h.bm,(hb.block _ bB).trans h.r1,(hb.block _ h1).trans h.r2⟩
theorem Lk.own(w:bD)(b:Nat)(p q g:Int)(f:Bool){β:Type}:OwnFrom (β:=β) (w.heap.size+1+1+1+1+1+1) (λ_ W=>Lk w W b p q g f):=λs W W' row hs hg hr=>by
 have h1:=(aX.1 hs.r2).1;have hk:∀k,k<w.heap.size+1+1+1+1->W'.heap[k]? =W.heap[k]? :=λk hk=>hg.block k bB (λe=>by have:=(hr k e.symm).1;omega);refine⟨hs.cU.grown hg bB (λk e=>by have:=(hr k e).1;omega),(hk _ bB).trans hs.bt,(hk _ bB).trans hs.bm,(hk _ bB).trans hs.r1,(hk _ bB).trans hs.r2⟩
theorem OL(w:bD)(b:Nat)(p q g:Int)(o5 o6:Obj):Lk w ((((((w.alloc (bh #[ai (bj ⟨b,0,bu⟩)] 79)).alloc (bh #[aa az p,aa az q] 130)).alloc (bh #[aa az g] 3)).alloc (bh #[ar bA] 4)).alloc o5).alloc o6) b p q g bA:=by
 have A:=Vo w (bh #[ai (bj ⟨b,0,bu⟩)] 79) (bh #[aa az p,aa az q] 130) (bh #[aa az g] 3) (bh #[ar bA] 4);have B:=Bh w (bh #[ai (bj ⟨b,0,bu⟩)] 79) (bh #[aa az p,aa az q] 130) (bh #[aa az g] 3) (bh #[ar bA] 4);have hs:=World.size_alloc;refine Lk.below ⟨B,A.1,A.2.1,A.2.2.1,A.2.2.2⟩ (((aQ _ _).alloc (aL _) _).alloc (by simp) _)
theorem OJ(w:bD)(o1 o2 o3 o4 o5 o6:Obj):((((((w.alloc o1).alloc o2).alloc o3).alloc o4).alloc o5).alloc o6).heap[w.heap.size+1+1+1+1]? =bj o5/\((((((w.alloc o1).alloc o2).alloc o3).alloc o4).alloc o5).alloc o6).heap[w.heap.size+1+1+1+1+1]? =bj o6:=by
 have A:=Vn ((((w.alloc o1).alloc o2).alloc o3).alloc o4) o5 o6;simp only[World.size_alloc]at A;exact A
theorem Lk.fin{W:bD}{b:Nat}(h:Lk w W b p q g f)(g':Int)(f':Bool):Lk w ((W.setCell ⟨w.heap.size+1+1,0,bu⟩ (aa az g')).setCell ⟨w.heap.size+1+1+1,0,bu⟩ (ar f')) b p q g' f':=by
 have e1:(W.setCell ⟨w.heap.size+1+1,0,bu⟩ (aa az g')).heap[w.heap.size+1+1]? =bj (bh #[aa az g'] 3 (0,0)):=by rw[heap_set h.r1];rfl
 have e2:(W.setCell ⟨w.heap.size+1+1,0,bu⟩ (aa az g')).heap[w.heap.size+1+1+1]? =bj (bh #[ar f] 4 (0,0)):=by rw[dE _ _ _ _ bB];exact h.r2
 refine⟨(h.cU.setCell (p:=⟨w.heap.size+1+1,0,bu⟩) (by simp;omega) _).setCell (p:=⟨w.heap.size+1+1+1,0,bu⟩) (by simp;omega) _,?_,?_,?_,?_⟩
 .rw[dE _ _ _ _ bB,dE _ _ _ _ bB];exact h.bt
 .rw[dE _ _ _ _ bB,dE _ _ _ _ bB];exact h.bm
 .rw[dE _ _ _ _ bB];exact e1
 .rw[heap_set e2];rfl
theorem rR(b:Nat)(g p q:Int)(t:Nat->Gp)(Wy:Nat->List (Fin 10))(xs:List (Fin 10))(w:bD)(hT:bT w b t)(hW:dC t Wy)(hS:Small t)(hL:Way t g (gq xs))(hp:0<=p/\p<=1000)(hq:0<=q/\q<=1000):
  Calls prog 139 #[ai (bj ⟨b,0,bu⟩),aa az g,au #[aa az p,aa az q]] w λe W'=>(((∀y∈xs,gE t Wy p q y=bA)/\e=bf (ao #[aa az 0,ar bA]))\/
   (∃pre x rest,xs=pre++x::rest/\(∀y∈pre,gE t Wy p q y=bA)/\gE t Wy p q x=bw/\e=bf (ao #[aa az (x.val:Int),ar bw])))/\Below w.heap.size w W':=by
 refine(callsIn_wide (n:=4)).1 ?_;refine callsIn_of_wp_marks Tryz.func139 rfl trivial ?_ rfl;simp only[Tryz.ntmps139,List.size_toArray,List.length_cons,List.length_nil,Nat.reduceAdd,Nat.reduceSub,Array.replicate_succ,Array.replicate_zero,List.push_toArray,List.append_toArray,List.nil_append,List.cons_append]
 gi_wp2_with (refine⟨trivial,?_⟩;gi_at_call 216;refine(callsIn_wide.2 (AZ b g _)).mono ?_;rintro e w' ⟨rfl,rfl⟩)
 have hLk:=OL w b p q 0 (bh #[ai (bj ⟨b,0,bu⟩)] 79) (bh #[aa az g] 3);have hbx:=OJ w (bh #[ai (bj ⟨b,0,bu⟩)] 79) (bh #[aa az p,aa az q] 130) (bh #[aa az 0] 3) (bh #[ar bA] 4) (bh #[ai (bj ⟨b,0,bu⟩)] 79) (bh #[aa az g] 3);have c5:=gW hbx.2;have hbl:=hT.lt;refine wpIn_rangeFunc_ownF rfl bB (gf:=267) (lb:=#[ai (bj ⟨w.heap.size+1+1+1+1+1,0,bu⟩),ai (bj ⟨w.heap.size+1+1+1+1,0,bu⟩)]) rfl trivial (enters_of Tryz.func267 bC rfl)
  (vJ 3 bB (w.heap.size+1+1+1+1+1) (w.heap.size+1+1+1+1) b g t xs _ (by simp) c5.1 hbx.1 (hT.below hLk.cU hbl) hL) K2.t (K2.b (by simp;omega) (by simp)) (aQ _ _) (λ_=>rfl)
  (λpre W=>(∀y∈pre,gE t Wy p q y=bA)/\Lk w W b p q 0 bA/\w.heap.size+1+1+1+1+1+1<=W.heap.size)
  (λc pre W=>(c= .ret/\∃pre0 x,pre=pre0++[x]/\(∀y∈pre0,gE t Wy p q y=bA)/\gE t Wy p q x=bw/\Lk w W b p q (x.val:Int) bw))
  (λs W W' row hs hg hr=>⟨hs.1,Lk.own w b p q 0 bA s W W' row hs.2.1 hg (λr e=>by have:=hr r e;simpa using this),by have:=hg.size;omega⟩)
  (λc s W W' row hs hg hr=>⟨hs.1,by
   obtain⟨pre0,x,h1,h2,h3,h4⟩:=hs.2;exact⟨pre0,x,h1,h2,h3,Lk.own w b p q (x.val:Int) bw s W W' row h4 hg (λr e=>by have:=hr r e;simpa using this)⟩⟩)
  ⟨by simp,hLk,by simp⟩
  (λx=>{tmps:=#[ai (bj ⟨b,0,bu⟩),aa az g,au #[aa az p,aa az q],ai (bj ⟨w.heap.size,0,bu⟩),undef,ai (bj ⟨w.heap.size+1,0,bu⟩),ai (bj ⟨w.heap.size+1+1,0,bu⟩),ai (bj ⟨w.heap.size+1+1+1,0,bu⟩),aa az (x.val:Int),undef,undef,ai (bj ⟨b,0,bu⟩),aa az g, .func (.func 267) #[] #[ai (bj ⟨w.heap.size+1+1+1+1+1,0,bu⟩),ai (bj ⟨w.heap.size+1+1+1+1,0,bu⟩)],aa az (x.val:Int),undef,undef,undef,undef,undef,undef,undef,undef,undef,undef,undef,undef,undef,undef,undef,undef,undef,undef,undef,undef,undef,undef,undef,undef,undef,undef,undef],defers:=[]}) ?assign ?body ?done ?stop
 case assign=>
  intro l x W K hK
  gi_wp2
  exact hK
 case body=>
  rintro l pre x W ⟨hpre,hLk,hsz⟩ _;have T1:Hid (bT W b t):=hT.below hLk.cU hbl;have L1:Hid (Lk w W b p q 0 bA):=hLk;have HP:Hid (∀y∈pre,gE t Wy p q y=bA):=hpre;have hmx:prog.follows .mixedOrders=bw:=by kernel_rfl
  have d0:W.cell? ⟨w.heap.size,0,bu⟩=bj (ai (bj ⟨b,0,bu⟩)):=by rw[cO hLk.bt];rfl
  have d1:W.cell? ⟨b,x.val*6+2,bu⟩=bj (aa az (t x.val).lp):=T1.cell x.val 2 x.isLt bB;have d2:W.cell? ⟨b,x.val*6+2+1,bu⟩=bj (aa az (t x.val).lq):=T1.cell x.val 3 x.isLt bB;have d3:W.cell? ⟨b,x.val*6+3,bu⟩=bj (aa az (t x.val).lq):=d2;have hxI:(x.val:Int)<10:=by have:=x.isLt;omega
  gi_wp2
  have B1:=qS Wy x.val (λk hk=>(hS k hk).1) 10 bB;have B2:=qS Wy x.val (λk hk=>(hS k hk).2) 10 bB;refine Ox (t:=t) (Wy:=Wy) (x:=x.val) ?_ (λ_ _ _ _ _ h=>h) T1.v hW hS x.isLt d0 ?_
  .rintro⟨a,w,h⟩;exact h
  intro n9 n10 V c15 c16 c17 c18 c19 lC c21 c22 c23 c24 F;have eL:gE t Wy p q x=(ml (cr t Wy x.val Gp.op 10) p (t x.val).lp||ml (cr t Wy x.val Gp.oq 10) q (t x.val).lq):=rfl;have L2:Hid (Lk w V b p q 0 bA):=L1.below F.cU;have FB:Hid (Below W.heap.size W V):=F.cU;have a0:V.cell? ⟨n9,0,bu⟩=bj (aa az (cr t Wy x.val Gp.op 10)):=by rw[cO F.c9];rfl
  have a1:V.cell? ⟨n9,1,bu⟩=bj (aa az (cr t Wy x.val Gp.oq 10)):=by rw[cO F.c9];rfl
  have b0:V.cell? ⟨n10,0,bu⟩=bj (aa az (t x.val).lp):=by rw[cO F.uw];rfl
  have b1:V.cell? ⟨n10,1,bu⟩=bj (aa az (t x.val).lq):=by rw[cO F.uw];rfl
  have m0:V.cell? ⟨w.heap.size+1,0,bu⟩=bj (aa az p):=by rw[cO L2.bm];rfl
  have m1:V.cell? ⟨w.heap.size+1,1,bu⟩=bj (aa az q):=by rw[cO L2.bm];rfl
  have r1:=gW L2.r1;have r2:=gW L2.r2;obtain⟨r1c,r1f⟩:=r1;obtain⟨r2c,r2f⟩:=r2;have EL:Hid (gE t Wy p q x=(ml (cr t Wy x.val Gp.op 10) p (t x.val).lp||ml (cr t Wy x.val Gp.oq 10) q (t x.val).lq)):=eL;generalize cr t Wy x.val Gp.op 10=X at*;generalize cr t Wy x.val Gp.oq 10=Y at*;generalize (t x.val).lp=LP at*;generalize (t x.val).lq=LQ at*;have HB:Hid ((0<=X/\X<=100000000)/\(0<=Y/\Y<=100000000)):=⟨⟨B1.1,bB⟩,⟨B2.1,bB⟩⟩;have HPQ:Hid ((0<=p/\p<=1000)/\(0<=q/\q<=1000)):=⟨hp,hq⟩;have hlt:Hid (w.heap.size+1+1+1+1+1+1<=V.heap.size):=by have:=FB.size;exact aH hsz this
  cases h1:ml X p LP
  .cases h2:ml Y q LQ
   .have E0:Hid (gE t Wy p q x=bA):=by rw[EL.v,h1,h2];rfl
    gi_wp2_with (refine⟨trivial,?_⟩;gi_at_call 217;refine(CallsIn.inRound l (callsIn_wide.2 (tD _ _ _ _ (by first|exact HB.1|exact HB.2) (by first|exact HPQ.1|exact HPQ.2)))).mono ?_;rintro e w' ⟨rfl,rfl⟩;first|rw[h1]|rw[h2])
    exact⟨oG FB.v,K2.cL FB.v (by have:=T1.lt;omega) bB,λy hy=>(List.mem_append.1 hy).elim (HP.v y) (λe=>by simp at e;subst e;exact E0.v),L2.v,hlt.v⟩
   .have E0:Hid (gE t Wy p q x=bw):=by rw[EL.v,h1,h2];rfl
    gi_wp2_with (refine⟨trivial,?_⟩;gi_at_call 217;refine(CallsIn.inRound l (callsIn_wide.2 (tD _ _ _ _ (by first|exact HB.1|exact HB.2) (by first|exact HPQ.1|exact HPQ.2)))).mono ?_;rintro e w' ⟨rfl,rfl⟩;first|rw[h1]|rw[h2])
    exact⟨((oG FB.v).trans (KeepsOthers.setCell _ _ _)).trans (KeepsOthers.setCell _ _ _),rfl,pre,x,rfl,HP.v,E0.v,L2.fin _ _⟩
  .have E0:Hid (gE t Wy p q x=bw):=by rw[EL.v,h1];rfl
   gi_wp2_with (refine⟨trivial,?_⟩;gi_at_call 217;refine(CallsIn.inRound l (callsIn_wide.2 (tD X p LP _ HB.1 HPQ.1))).mono ?_;rintro e w' ⟨rfl,rfl⟩;rw[h1])
   refine⟨trivial,?_⟩
   gi_wp2
   exact⟨((oG FB.v).trans (KeepsOthers.setCell _ _ _)).trans (KeepsOthers.setCell _ _ _),rfl,pre,x,rfl,HP.v,E0.v,L2.fin _ _⟩
 case done=>
  rintro D ys W hD rfl ⟨hne,hLk,hsz⟩ hK;have r1:=gW hLk.r1;have r2:=gW hLk.r2;obtain⟨r1c,r1f⟩:=r1;obtain⟨r2c,r2f⟩:=r2
  gi_wp2
  have hF:=hLk.fin 0 bA;have hK':=(KeepsOthers.setCell _ ⟨w.heap.size+1+1+1,0,bu⟩ (ar bA)).same D _ ((KeepsOthers.setCell W ⟨w.heap.size+1+1,0,bu⟩ (aa .i64 0)).same D _ hK rfl) rfl;refine⟨by simp, .inl ⟨_,_,rfl,run_takeDeferred hK',?_⟩⟩;have hg:=grownBy_putObj' ((W.setCell ⟨w.heap.size+1+1,0,bu⟩ (aa .i64 0)).setCell ⟨w.heap.size+1+1+1,0,bu⟩ (ar bA)) D (.deferred bu);have q1:=cell_kept (gW hF.r1).1 hg (λr e=>by cases e;exact⟨_,hK',rfl⟩);have q2:=cell_kept (gW hF.r2).1 hg (λr e=>by cases e;exact⟨_,hK',rfl⟩);refine⟨ao #[aa az 0,ar bA],?_, .inl ⟨hne,rfl⟩,hF.cU.trans (belowK_b (w:=w) (aL _) _ D _ _ (by simp at hD;omega) hK' rfl rfl)⟩;simp[results,Tryz.f139,go_sem,q1,q2]
 case stop=>
  rintro D c pre W hD hpre ⟨rfl,pre0,x,rfl,hne,hx,hF⟩ hK
  gi_wp2
  refine⟨by simp, .inl ⟨_,_,rfl,run_takeDeferred hK,?_⟩⟩;have hg:=grownBy_putObj' W D (.deferred bu);have q1:=cell_kept (gW hF.r1).1 hg (λr e=>by cases e;exact⟨_,hK,rfl⟩);have q2:=cell_kept (gW hF.r2).1 hg (λr e=>by cases e;exact⟨_,hK,rfl⟩);obtain⟨rest,hrest⟩:=hpre;refine⟨ao #[aa az (x.val:Int),ar bw],?_, .inr ⟨pre0,x,rest,by rw[<-hrest];simp,hne,hx,rfl⟩,hF.cU.trans (belowK_b (w:=w) (aL _) W D _ _ (by simp at hD;omega) hK rfl rfl)⟩;simp[results,Tryz.f139,go_sem,q1,q2]
structure bG (b:Nat)(w w':bD):Prop where
 os:w'.os=w.os
 tape:w'.tape=w.tape
 output:w'.output=w.output
 size:w.heap.size<=w'.heap.size
 block:∀k,k<w.heap.size->k≠b->w'.heap[k]? =w.heap[k]?
theorem bG.cL{b:Nat}(h:Below w.heap.size w w'):bG b w w':=⟨h.os,h.tape,h.output,h.size,λk hk _=>h.block k hk⟩
theorem bG.refl(b:Nat)(w:bD):bG b w w:=⟨rfl,rfl,rfl,aL _,λ_ _ _=>rfl⟩
theorem bG.trans{b:Nat}{u v w:bD}(h:bG b u v)(k:bG b v w):bG b u w:=
 ⟨k.os.trans h.os,k.tape.trans h.tape,k.output.trans h.output,aH h.size k.size,λj hj hn=>(k.block j (aD hj h.size) hn).trans (h.block j hj hn)⟩
theorem bG.setCell{b:Nat}{u w:bD}(h:bG b u w)(o:Nat)(v:Value):bG b u (w.setCell ⟨b,o,bu⟩ v):=
 ⟨h.os,h.tape,h.output,by simpa[World.setCell]using h.size,λk hk hn=>(dE _ _ _ _ hn).trans (h.block k hk hn)⟩
theorem bG.drew{b:Nat}{u w:bD}(h:bG b u w):bG b u w.drew:=⟨h.os,h.tape,h.output,h.size,h.block⟩
theorem bG.below{b:Nat}{u:bD}(h:bG b w w')(hb:Below B u w)(hB:B<=b)(hs:B<=w.heap.size):Below B u w':=
 hb.trans ⟨h.os,h.tape,h.output,h.size,λk hk=>h.block k bB bB⟩
def mi(p:Int):Gp:=⟨bw,p,-1,-1,0,0⟩
def jM:Gp:=⟨bA,0,0,0,0,0⟩
theorem bT.O9{b:Nat}{t:Nat->Gp}(h:bT w b t)(n:Nat)(hn:n<10)(g:Gp):
  bT ((((((w.setCell ⟨b,n*6,bu⟩ (ar g.there)).setCell ⟨b,n*6+1,bu⟩ (aa az g.par)).setCell ⟨b,n*6+2,bu⟩ (aa az g.lp)).setCell ⟨b,n*6+3,bu⟩ (aa az g.lq)).setCell ⟨b,n*6+4,bu⟩ (aa az g.op)).setCell ⟨b,n*6+5,bu⟩ (aa az g.oq)) b (eS t n g):=by
 unfold bT;rw[heap_set (heap_set (heap_set (heap_set (heap_set (heap_set h (n*6) _) (n*6+1) _) (n*6+2) _) (n*6+3) _) (n*6+4) _)];refine congrArg (λc=>bj (bh c 135 (0,0))) ?_;refine xp _ _ (by simp[gK]) λm i hm hi=>?_;have hsz:=gK t;by_cases e:m=n
 .subst e;rw[dk]
  match i,hi with
  |0,_=>simp[bY,hsz,Gp.cell];omega
  |1,_=>simp[bY,hsz,Gp.cell];omega
  |2,_=>simp[bY,hsz,Gp.cell];omega
  |3,_=>simp[bY,hsz,Gp.cell];omega
  |4,_=>simp[bY,hsz,Gp.cell];omega
  |5,_=>simp[bY,hsz,Gp.cell];omega
 .rw[dw _ _ _ _ e,aU bB,aU bB,aU bB,aU bB,aU bB,aU bB,oB t m i hm hi]
theorem uW(p:Int)(w:bD):Calls prog 162 #[aa az p] w λe w'=>e=bf (au #[ar bw,aa az p,aa az (-1),aa az (-1),aa az 0,aa az 0])/\Below w.heap.size w w':=by
 go_in
 go_wp2
 refine bodyPost_ret (v:=au #[ar bw,aa az p,aa az (-1),aa az (-1),aa az 0,aa az 0]) (by simp[results,Tryz.results162,go_sem]) rfl ⟨rfl,(aQ _ _).alloc (aL _) _⟩
theorem tK(w:bD):bT (w.alloc (bh (gH λ_=>jM) 135)) w.heap.size (λ_=>jM):=heap_alloc_new w _
theorem zQ:gH (λ_=>jM)=#[ar bA,aa az 0,aa az 0,aa az 0,aa az 0,aa az 0,ar bA,aa az 0,aa az 0,aa az 0,aa az 0,aa az 0,ar bA,aa az 0,aa az 0,aa az 0,aa az 0,aa az 0,ar bA,aa az 0,aa az 0,aa az 0,aa az 0,aa az 0,ar bA,aa az 0,aa az 0,aa az 0,aa az 0,aa az 0,ar bA,aa az 0,aa az 0,aa az 0,aa az 0,aa az 0,ar bA,aa az 0,aa az 0,aa az 0,aa az 0,aa az 0,ar bA,aa az 0,aa az 0,aa az 0,aa az 0,aa az 0,ar bA,aa az 0,aa az 0,aa az 0,aa az 0,aa az 0,ar bA,aa az 0,aa az 0,aa az 0,aa az 0,aa az 0]:=by kernel_rfl
theorem sA(w:bD):Calls prog 84 #[] w λe w'=>e=bf (ai (bj ⟨w.heap.size,0,bu⟩))/\bT w' w.heap.size (eS (λ_=>jM) 0 (mi (-1)))/\Below w.heap.size w w':=by
 have Z:=tK w;rw[zQ]at Z;go_in
 go_wp2_with fail
 refine cJ (λW=>bT W w.heap.size (λ_=>jM)/\Below w.heap.size w W) ⟨Z,(aQ _ _).alloc (aL _) _⟩ ?_;rintro W ⟨hT,hB⟩;have HT:Hid (bT W w.heap.size (λ_=>jM)):=hT;have HB:Hid (Below w.heap.size w W):=hB;go_region_held3 (λ_=>True) (trivial) ((go_at_call 162;refine sC (uW _ _) ?_;rintro w2 hb2;have T2:bT w2 w.heap.size (λ_=>jM):=HT.drew.below hb2 HT.lt;have c0:=T2.cell 0 0 bB bB;have c1:=T2.cell 0 1 bB bB;have c2:=T2.cell 0 2 bB bB;have c3:=T2.cell 0 3 bB bB;have c4:=T2.cell 0 4 bB bB;have c5:=T2.cell 0 5 bB bB;have cf:=T2.frozen;simp only[Nat.zero_mul,Nat.zero_add]at c0 c1 c2 c3 c4 c5))
 have HT2:Hid (bT w2 w.heap.size (λ_=>jM)):=T2;have HB2:Hid (Below w.heap.size w w2):=HB.trans ((aQ _ W).drew.trans (hb2.mono (by have:=HB.size;exact this)));go_wp2
 go_ret
 refine⟨rfl,HT2.O9 0 bB (mi (-1)),?_⟩;exact(((((HB2.setCell (aL _) _).setCell (aL _) _).setCell (aL _) _).setCell (aL _) _).setCell (aL _) _).setCell (aL _) _
def bN(k:Int):Value:=if k=0 then ay else aq 100 (aa .i64 k)
theorem jt(b:Nat)(g:Int)(t:Nat->Gp)(w:bD)(h:bT w b t):Calls prog 96 #[ai (bj ⟨b,0,bu⟩),aa az g] w λe w'=>e=bf (bN (wr t g))/\w'=w:=by
 unfold wr;by_cases hb:g<0\/10<=g
 .rw[aJ hb];exact vM b g w hb
 .rw[aI hb];obtain⟨n,rfl⟩:=aG (show 0<=g by omega);cases hh:(t n).there
  .rw[hZ,hh];exact tR b n t w h bB hh
  .rw[hZ,hh];exact iE b n t w h bB hh
theorem nQ{t:Nat->Gp}(h:wr t g=0):∃n:Nat,g=n/\n<10/\(t n).there=bw:=by
 unfold wr at h;by_cases hb:g<0\/10<=g
 .rw[aJ hb]at h;simp at h
 .rw[aI hb]at h;obtain⟨n,rfl⟩:=aG (show 0<=g by omega);refine⟨n,rfl,bB,?_⟩;rw[hZ]at h;cases hh:(t n).there
  .rw[hh]at h;simp at h
  .rfl
theorem Uf(b:Nat)(g:Int)(t:Nat->Gp)(w:bD)(h:bT w b t)(hw:wr t g≠0):Calls prog 40 #[ai (bj ⟨b,0,bu⟩),aa az g] w λe w'=>e=bf (ao #[au #[aa az 0,aa az 0,aa az 0,aa az 0,aa az 0],bN (wr t g)])/\Below w.heap.size w w':=by
 have HT:Hid (bT w b t):=h;have HW:Hid (bN (wr t g)=aq 100 (aa az (wr t g))):=aI hw;go_in
 go_wp2_with fail
 refine sC (jt b g t _ (HT.below ((aQ _ _).alloc (aL _) _) HT.lt)) ?_;rintro w1 hw1;subst hw1;rw[HW.v];go_wp2
 refine bodyPost_ret (v:=ao #[au #[aa az 0,aa az 0,aa az 0,aa az 0,aa az 0],aq 100 (aa az (wr t g))]) (by simp[results,Tryz.results40,go_sem]) rfl ⟨by rw[HW.v],(aQ _ _).alloc (aL _) _⟩
structure Vm (w V:bD)(b n8:Nat)(t:Nat->Gp)(X Y:Int):Prop where
 Hk:bT V b t
 cU:Below w.heap.size w V
 res:V.heap[w.heap.size]? =bj (bh #[aa az 0,aa az 0,aa az 0,aa az 0,aa az 0] 31 (0,0))
 sum:V.heap[n8]? =bj (bh #[aa az X,aa az Y] 130 (0,0))
 lt:w.heap.size<n8
theorem Vp{W V:bD}(hb:Below (W.drew.alloc (bh c ty)).heap.size (W.drew.alloc (bh c ty)) V):V.heap[W.heap.size]? =bj (bh c ty (0,0)):=
 (hb.block W.heap.size (by simp)).trans (heap_alloc_new W.drew (bh c ty))
theorem U0(b n:Nat)(t:Nat->Gp)(Wy:Nat->List (Fin 10))(w:bD)(h:bT w b t)(hW:dC t Wy)(hS:Small t)(hn:n<10)(hh:(t n).there=bw):
  Calls prog 40 #[ai (bj ⟨b,0,bu⟩),aa az n] w λe w'=>e=bf (ao #[au #[aa az (t n).par,aa az (t n).lp,aa az (t n).lq,aa az (cr t Wy n Gp.op 10),aa az (cr t Wy n Gp.oq 10)],ay])/\Below w.heap.size w w':=by
 have HT:Hid (bT w b t):=h;have HH:Hid ((t n).there=bw):=hh;have HWS:Hid (dC t Wy/\Small t):=⟨hW,hS⟩;have hnI:(n:Int)<10:=bB
 go_in
 go_wp2_with fail
 refine sC (iE b n t _ (HT.below ((aQ _ _).alloc (aL _) _) HT.lt) hn HH.v) ?_;rintro w1 hw1;subst hw1;go_wp2_with fail
 refine cJ (λW=>bT W b t/\Below w.heap.size w W/\W.heap[w.heap.size]? =bj (bh #[aa az 0,aa az 0,aa az 0,aa az 0,aa az 0] 31 (0,0))) ⟨HT.below ((aQ _ _).alloc (aL _) _) HT.lt,(aQ _ _).alloc (aL _) _,heap_alloc_new w _⟩ ?_;rintro W ⟨hT,hB,hR⟩;have T1:Hid (bT W b t):=hT;have B1:Hid (Below w.heap.size w W):=hB;have R1:Hid (W.heap[w.heap.size]? =bj (bh #[aa az 0,aa az 0,aa az 0,aa az 0,aa az 0] 31 (0,0))):=hR;generalize hX:cr t Wy n Gp.op 10=X;generalize hY:cr t Wy n Gp.oq 10=Y;have HX:Hid (cr t Wy n Gp.op 10=X/\cr t Wy n Gp.oq 10=Y):=⟨hX,hY⟩;have hbl:Hid (b<w.heap.size):=HT.lt;go_region_held3 (λ_=>True) (trivial) ((go_at_call 97;refine sC (jT b n t Wy _ (by first|exact T1.drew|exact T1.drew.below ((aQ _ _).alloc (aL _) _) T1.lt) HWS.1 HWS.2) ?_;rintro w2 hb2;rw[HX.1,HX.2];first|(have Q:=Vp hb2;have q0:w2.cell? ⟨W.heap.size,0,bu⟩=bj (aa .i64 0):=(cO Q 0);have q1:w2.cell? ⟨W.heap.size,1,bu⟩=bj (aa .i64 0):=(cO Q 1);have qf:=iH Q)|skip))
 .have HB2:Hid (Below W.heap.size W w2):=(aQ _ W).drew.trans hb2;have hne:∀k,k<W.heap.size->k≠w2.heap.size:=λk hk=>by have:=HB2.size;omega
  go_wp2_with fail
  refine cJ (λV=>Vm w V b w2.heap.size t X Y) ⟨T1.below (HB2.alloc HB2.size _) T1.lt,B1.trans ((HB2.alloc HB2.size _).mono B1.size),((HB2.alloc HB2.size _).block _ (aX.1 R1.v).1).trans R1.v,heap_alloc_new _ _,aD (aX.1 R1.v).1 HB2.size⟩ ?_;intro V hV;have g1:V.cell? ⟨b,n*6+1,bu⟩=bj (aa az (t n).par):=hV.Hk.cell n 1 hn bB;have g2:V.cell? ⟨b,n*6+2,bu⟩=bj (aa az (t n).lp):=hV.Hk.cell n 2 hn bB;have g3:V.cell? ⟨b,n*6+2+1,bu⟩=bj (aa az (t n).lq):=hV.Hk.cell n 3 hn bB;have x0:V.cell? ⟨w2.heap.size,0,bu⟩=bj (aa az X):=cO hV.sum 0;have x1:V.cell? ⟨w2.heap.size,1,bu⟩=bj (aa az Y):=cO hV.sum 1;have r0:V.cell? ⟨w.heap.size,0,bu⟩=bj (aa .i64 0):=cO hV.res 0;have r1:V.cell? ⟨w.heap.size,1,bu⟩=bj (aa .i64 0):=cO hV.res 1;have r2:V.cell? ⟨w.heap.size,2,bu⟩=bj (aa .i64 0):=cO hV.res 2;have r3:V.cell? ⟨w.heap.size,3,bu⟩=bj (aa .i64 0):=cO hV.res 3;have r4:V.cell? ⟨w.heap.size,4,bu⟩=bj (aa .i64 0):=cO hV.res 4;have rf:=iH hV.res;have ne1:w.heap.size≠b:=by have:=hbl.v;omega
  have ne2:w.heap.size≠w2.heap.size:=by have:=hV.lt;omega
  have HB:Hid (Below w.heap.size w V):=hV.cU;generalize hPA:(t n).par=PA at*;generalize hLP:(t n).lp=LP at*;generalize hLQ:(t n).lq=LQ at*;have HPL:Hid ((t n).par=PA/\(t n).lp=LP/\(t n).lq=LQ):=⟨hPA,hLP,hLQ⟩;go_region_held3 (λw'=>w'.cell? ⟨b,n*6+1,bu⟩=bj (aa az PA)/\w'.cell? ⟨b,n*6+2,bu⟩=bj (aa az LP)/\w'.cell? ⟨b,n*6+2+1,bu⟩=bj (aa az LQ)/\w'.cell? ⟨w2.heap.size,0,bu⟩=bj (aa az X)/\w'.cell? ⟨w2.heap.size,1,bu⟩=bj (aa az Y)) (go_keep) (fail)
  go_wp2
  refine bodyPost_ret (v:=ao #[au #[aa az PA,aa az LP,aa az LQ,aa az X,aa az Y],ay]) (by simp[results,Tryz.results40,go_sem,r0,r1,r2,r3,r4]) rfl ⟨by rw[HX.1,HX.2,HPL.1,HPL.2.1,HPL.2.2],?_⟩;exact(((((HB.setCell (aL _) _).setCell (aL _) _).setCell (aL _) _).setCell (aL _) _).setCell (aL _) _).drew
 .have HB2:Hid (Below W.heap.size W w2):=((aQ _ W).drew.alloc (aL _) _).trans (hb2.mono (by simp));have HQ:Hid (w2.heap[W.heap.size]? =bj (bh #[aa az 0,aa az 0] 130 (0,0))):=Vp hb2;go_wp2_with fail
  refine cJ (λV=>Vm w V b W.heap.size t X Y) ⟨T1.below ((HB2.setCell (aL _) _).setCell (aL _) _) T1.lt,B1.trans (((HB2.setCell (aL _) _).setCell (aL _) _).mono B1.size),(((HB2.setCell (aL _) _).setCell (aL _) _).block _ (aX.1 R1.v).1).trans R1.v,by rw[heap_set (heap_set HQ.v 0 (aa az X))];rfl,(aX.1 R1.v).1⟩ ?_;intro V hV;have g1:V.cell? ⟨b,n*6+1,bu⟩=bj (aa az (t n).par):=hV.Hk.cell n 1 hn bB;have g2:V.cell? ⟨b,n*6+2,bu⟩=bj (aa az (t n).lp):=hV.Hk.cell n 2 hn bB;have g3:V.cell? ⟨b,n*6+2+1,bu⟩=bj (aa az (t n).lq):=hV.Hk.cell n 3 hn bB;have x0:V.cell? ⟨W.heap.size,0,bu⟩=bj (aa az X):=cO hV.sum 0;have x1:V.cell? ⟨W.heap.size,1,bu⟩=bj (aa az Y):=cO hV.sum 1;have r0:V.cell? ⟨w.heap.size,0,bu⟩=bj (aa .i64 0):=cO hV.res 0;have r1:V.cell? ⟨w.heap.size,1,bu⟩=bj (aa .i64 0):=cO hV.res 1;have r2:V.cell? ⟨w.heap.size,2,bu⟩=bj (aa .i64 0):=cO hV.res 2;have r3:V.cell? ⟨w.heap.size,3,bu⟩=bj (aa .i64 0):=cO hV.res 3;have r4:V.cell? ⟨w.heap.size,4,bu⟩=bj (aa .i64 0):=cO hV.res 4;have rf:=iH hV.res;have ne1:w.heap.size≠b:=by have:=hbl.v;omega
  have ne2:w.heap.size≠W.heap.size:=by have:=hV.lt;omega
  have HB:Hid (Below w.heap.size w V):=hV.cU;generalize hPA:(t n).par=PA at*;generalize hLP:(t n).lp=LP at*;generalize hLQ:(t n).lq=LQ at*;have HPL:Hid ((t n).par=PA/\(t n).lp=LP/\(t n).lq=LQ):=⟨hPA,hLP,hLQ⟩;go_region_held3 (λw'=>w'.cell? ⟨b,n*6+1,bu⟩=bj (aa az PA)/\w'.cell? ⟨b,n*6+2,bu⟩=bj (aa az LP)/\w'.cell? ⟨b,n*6+2+1,bu⟩=bj (aa az LQ)/\w'.cell? ⟨W.heap.size,0,bu⟩=bj (aa az X)/\w'.cell? ⟨W.heap.size,1,bu⟩=bj (aa az Y)) (go_keep) (fail)
  go_wp2
  refine bodyPost_ret (v:=ao #[au #[aa az PA,aa az LP,aa az LQ,aa az X,aa az Y],ay]) (by simp[results,Tryz.results40,go_sem,r0,r1,r2,r3,r4]) rfl ⟨by rw[HX.1,HX.2,HPL.1,HPL.2.1,HPL.2.2],?_⟩;exact(((((HB.setCell (aL _) _).setCell (aL _) _).setCell (aL _) _).setCell (aL _) _).setCell (aL _) _).drew
theorem vD(t:Nat->Gp)(n:Nat)(g g':Gp):eS (eS t n g) n g'=eS t n g':=by
 funext k;unfold eS;split<;>rfl
def eF(t:Nat->Gp)(g p q:Int):Int:=if wr t g=0 then(if ji p q 0=bw then 0 else 1)else wr t g
theorem js(b:Nat)(g p q:Int)(t:Nat->Gp)(w:bD)(h:bT w b t):Calls prog 138 #[ai (bj ⟨b,0,bu⟩),aa az g,au #[aa az p,aa az q]] w λe w'=>e=bf (bN (eF t g p q))/\Below w.heap.size w w':=by
 unfold eF;by_cases hw:wr t g=0
 .rw[aJ hw];obtain⟨n,rfl,hn,hh⟩:=nQ hw;cases hf:ji p q 0
  .exact Ce b n p q t w h hn hh hf
  .exact Jl b n p q t w h hn hh hf
 .rw[aI hw];unfold wr at hw|-;by_cases hb:g<0\/10<=g
  .rw[aJ hb];exact Gc b g p q w hb
  .rw[aI hb]at hw|-;obtain⟨n,rfl⟩:=aG (show 0<=g by omega);rw[hZ]at hw|-;cases hh:(t n).there
   .exact Ed b n p q t w h bB hh
   .rw[hh]at hw;simp at hw
theorem Ks{l:Int}:ji p q l=bw↔(l<=p/\p<=20/\l<=q/\q<=64):=by unfold ji;exact decide_eq_true_iff
theorem jS{t:Nat->Gp}(h:eF t g p q=0):∃n:Nat,g=n/\n<10/\(t n).there=bw/\(0<=p/\p<=20)/\(0<=q/\q<=64):=by
 unfold eF at h;by_cases hw:wr t g=0
 .rw[aJ hw]at h;obtain⟨n,e,hn,hh⟩:=nQ hw;cases hf:ji p q 0
  .rw[hf]at h;simp at h
  .have:=Ks.1 hf;exact⟨n,e,hn,hh,⟨this.1,this.2.1⟩,this.2.2.1,this.2.2.2⟩
 .rw[aI hw]at h;exact aZ h hw
theorem Lq(b:Nat)(g p q:Int)(t:Nat->Gp)(w:bD)(h:bT w b t)(hw:wr t g≠0):Calls prog 115 #[ai (bj ⟨b,0,bu⟩),aa az g,aa az p,aa az q] w λe w'=>e=bf (bN (wr t g))/\w'=w:=by
 have HT:Hid (bT w b t):=h;have HW:Hid (bN (wr t g)=aq 100 (aa az (wr t g))):=aI hw;go_in
 go_wp2_with fail
 refine sC (jt b g t _ HT.v) ?_;rintro w1 hw1;subst w1;rw[HW.v];go_wp2
 go_ret
 exact⟨by rw[HW.v];rfl,rfl⟩
theorem F9(b n:Nat)(p q:Int)(t:Nat->Gp)(w:bD)(h:bT w b t)(hn:n<10)(hh:(t n).there=bw)(hf:ji p q (-1)=bA):Calls prog 115 #[ai (bj ⟨b,0,bu⟩),aa az n,aa az p,aa az q] w λe w'=>e=bf (bN 1)/\Below w.heap.size w w':=by
 have HT:Hid (bT w b t/\(t n).there=bw):=⟨h,hh⟩;have HF:Hid (ji p q (-1)=bA):=hf;go_in
 go_wp2_with fail
 refine sC (iE b n t _ HT.1 hn HT.2) ?_;rintro w1 hw1;subst w1;go_wp2_with fail
 refine sC (ts p q (-1) _) ?_;rintro w2 hb;rw[HF.v];have HB:Hid (Below w.heap.size w w2):=((aQ _ w).alloc (aL _) _).trans (hb.mono (by simp));go_wp2
 go_ret
 exact⟨rfl,HB.v⟩
theorem OG(b n:Nat)(p q:Int)(t:Nat->Gp)(w:bD)(h:bT w b t)(hn:n<10)(hh:(t n).there=bw)(hf:ji p q (-1)=bw):Calls prog 115 #[ai (bj ⟨b,0,bu⟩),aa az n,aa az p,aa az q] w λe w'=>e=bf (bN 0)/\bT w' b (eS t n {t n with lp:=p,lq:=q})/\bG b w w':=by
 have HT:Hid (bT w b t/\(t n).there=bw):=⟨h,hh⟩;have HF:Hid (ji p q (-1)=bw):=hf;have hnI:(n:Int)<10:=bB
 go_in
 go_wp2_with fail
 refine sC (iE b n t _ HT.1 hn HT.2) ?_;rintro w1 hw1;subst w1;go_wp2_with fail
 refine sC (ts p q (-1) _) ?_;rintro w2 hb;rw[HF.v];have HB:Hid (Below w.heap.size w w2):=((aQ _ w).alloc (aL _) _).trans (hb.mono (by simp));have hbx:w2.heap[w.heap.size]? =bj (bh #[aa az p,aa az q] 130 (0,0)):=(hb.block _ (by simp)).trans (heap_alloc_new w _);have x0:w2.cell? ⟨w.heap.size,0,bu⟩=bj (aa az p):=cO hbx 0;have x1:w2.cell? ⟨w.heap.size,1,bu⟩=bj (aa az q):=cO hbx 1;have T2:Hid (bT w2 b t):=HT.1.below HB.v HT.1.lt;have y0:w2.cell? ⟨b,n*6+2,bu⟩=bj (aa az (t n).lp):=T2.cell n 2 hn bB;have y1:w2.cell? ⟨b,n*6+2+1,bu⟩=bj (aa az (t n).lq):=T2.cell n 3 hn bB;have yf:=T2.frozen;have ne1:b≠w.heap.size:=by have:=HT.1.lt;omega
 generalize (t n).lp=LP at y0;generalize (t n).lq=LQ at y1;go_wp2_with fail
 go_region_held3 (λw'=>w'.cell? ⟨w.heap.size,0,bu⟩=bj (aa az p)/\w'.cell? ⟨w.heap.size,1,bu⟩=bj (aa az q)) (go_keep) (fail)
 go_wp2
 go_ret
 refine⟨rfl,?_,(((bG.cL HB.v).setCell _ _).setCell _ _).drew⟩;have Z:=((T2.set n 2 hn bB (aa az p) {t n with lp:=p} (λi hi=>by match i,hi with|0,_=>rfl|1,_=>rfl|2,_=>rfl|3,_=>rfl|4,_=>rfl|5,_=>rfl)).set n 3 hn bB (aa az q) {t n with lp:=p,lq:=q} (λi hi=>by rw[dk];match i,hi with|0,_=>rfl|1,_=>rfl|2,_=>rfl|3,_=>rfl|4,_=>rfl|5,_=>rfl)).drew;rw[vD]at Z;exact Z
theorem oL{t:Nat->Gp}(h:eF t g p q=0):(0<=p/\p<=20)/\(0<=q/\q<=64):=by
 have hz:=jS h;exact⟨hz.choose_spec.2.2.2.1,hz.choose_spec.2.2.2.2⟩
theorem Ip(b:Nat)(g p q:Int)(t:Nat->Gp)(w:bD)(h:bT w b t)(hw:eF t g p q≠0):Calls prog 65 #[ai (bj ⟨b,0,bu⟩),aa az g,aa az p,aa az q] w λe w'=>e=bf (bN (eF t g p q))/\Below w.heap.size w w':=by
 have HT:Hid (bT w b t):=h;have HW:Hid (bN (eF t g p q)=aq 100 (aa az (eF t g p q))):=aI hw;go_in
 go_wp2_with fail
 refine sC (js b g p q t _ (HT.below ((aQ _ _).alloc (aL _) _) HT.lt)) ?_;rintro w1 hb;have HB:Hid (Below w.heap.size w w1):=((aQ _ w).alloc (aL _) _).trans (hb.mono (by simp));rw[HW.v];go_wp2
 go_ret
 exact⟨by rw[HW.v];rfl,HB.v⟩
theorem yD{w1:bD}(hb:Below (w.alloc (bh c ty)).heap.size (w.alloc (bh c ty)) w1):Below w.heap.size w w1/\w1.heap[w.heap.size]? =bj (bh c ty (0,0)):=
 ⟨((aQ _ w).alloc (aL _) _).trans (hb.mono (by simp)),(hb.block _ (by simp)).trans (heap_alloc_new w _)⟩
theorem Io(b n:Nat)(p q:Int)(t:Nat->Gp)(Wy:Nat->List (Fin 10))(w:bD)(h:bT w b t)(hW:dC t Wy)(hS:Small t)(hn:n<10)(hr:eF t n p q=0)(hl:∃y∈Wy n,gE t Wy p q y=bw):Calls prog 65 #[ai (bj ⟨b,0,bu⟩),aa az n,aa az p,aa az q] w λe w'=>e=bf (bN 6)/\Below w.heap.size w w':=by
 have H:Hid (bT w b t/\dC t Wy/\Small t/\eF t n p q=0/\∃y∈Wy n,gE t Wy p q y=bw):=⟨h,hW,hS,hr,hl⟩;obtain⟨hp,hq⟩:=oL hr;have HPQ:Hid ((0<=p/\p<=1000)/\(0<=q/\q<=1000)):=⟨⟨hp.1,bB⟩,hq.1,bB⟩;go_in
 go_wp2_with fail
 refine sC (js b n p q t _ (H.1.below ((aQ _ _).alloc (aL _) _) H.1.lt)) ?_;rintro w1 hb;rw[H.2.2.2.1];obtain⟨hb1,hx⟩:=yD hb;have HB:Hid (Below w.heap.size w w1):=hb1;have x0:w1.cell? ⟨w.heap.size,0,bu⟩=bj (aa az p):=cO hx 0;have x1:w1.cell? ⟨w.heap.size,1,bu⟩=bj (aa az q):=cO hx 1;rw[show bN 0=ay from rfl];go_wp2_with fail
 refine(rR b n p q t Wy (Wy n) _ (H.1.below HB.v H.1.lt) H.2.1 H.2.2.1 (H.2.1 n hn) HPQ.1 HPQ.2).mono ?_;rintro e w2 ⟨he,hb2⟩;have HB2:Hid (Below w.heap.size w w2):=HB.trans (hb2.mono HB.size);rcases he with⟨hno,_⟩|⟨pre,x,rest,_,_,_,rfl⟩
 .obtain⟨y,hy,hyl⟩:=H.2.2.2.2;rw[hno y hy]at hyl;cases hyl
 .go_wp2
  go_ret
  exact⟨rfl,HB2.v⟩
theorem J8(b n:Nat)(p q:Int)(t:Nat->Gp)(Wy:Nat->List (Fin 10))(w:bD)(h:bT w b t)(hW:dC t Wy)(hS:Small t)(hn:n<10)(hr:eF t n p q=0)(hl:∀y∈Wy n,gE t Wy p q y=bA):Calls prog 65 #[ai (bj ⟨b,0,bu⟩),aa az n,aa az p,aa az q] w λe w'=>e=bf (bN 0)/\bT w' b (eS t n {t n with op:=(t n).op+p,oq:=(t n).oq+q})/\bG b w w':=by
 have H:Hid (bT w b t/\dC t Wy/\Small t/\eF t n p q=0/\∀y∈Wy n,gE t Wy p q y=bA):=⟨h,hW,hS,hr,hl⟩;obtain⟨hp,hq⟩:=oL hr;have HPQ:Hid ((0<=p/\p<=1000)/\(0<=q/\q<=1000)):=⟨⟨hp.1,bB⟩,hq.1,bB⟩;have hnI:(n:Int)<10:=bB
 have sn:=hS n hn;go_in
 go_wp2_with fail
 refine sC (js b n p q t _ (H.1.below ((aQ _ _).alloc (aL _) _) H.1.lt)) ?_;rintro w1 hb;rw[H.2.2.2.1];obtain⟨hb1,hx⟩:=yD hb;have HB:Hid (Below w.heap.size w w1):=hb1;have x0:w1.cell? ⟨w.heap.size,0,bu⟩=bj (aa az p):=cO hx 0;have x1:w1.cell? ⟨w.heap.size,1,bu⟩=bj (aa az q):=cO hx 1;rw[show bN 0=ay from rfl];go_wp2_with fail
 refine(rR b n p q t Wy (Wy n) _ (H.1.below HB.v H.1.lt) H.2.1 H.2.2.1 (H.2.1 n hn) HPQ.1 HPQ.2).mono ?_;rintro e w2 ⟨he,hb2⟩;have HB2:Hid (Below w.heap.size w w2):=HB.trans (hb2.mono HB.size);rcases he with⟨hno,rfl⟩|⟨pre,x,rest,hxs,_,hyl,_⟩
 .clear hno;have T2:Hid (bT w2 b t):=H.1.below HB2.v H.1.lt;have y0:w2.cell? ⟨b,n*6+4,bu⟩=bj (aa az (t n).op):=T2.cell n 4 hn bB;have y1:w2.cell? ⟨b,n*6+4+1,bu⟩=bj (aa az (t n).oq):=T2.cell n 5 hn bB;have yf:=T2.frozen;have HZ:Hid (∀P R:Int,P=(t n).op->R=(t n).oq->bT ((w2.setCell ⟨b,n*6+4,bu⟩ (aa az (P+p))).drew.setCell ⟨b,n*6+4+1,bu⟩ (aa az (R+q))).drew b (eS t n {t n with op:=(t n).op+p,oq:=(t n).oq+q})):=by
   rintro P R rfl rfl;have Z:=(((T2.set n 4 hn bB (aa az ((t n).op+p)) {t n with op:=(t n).op+p} (λi hi=>by match i,hi with|0,_=>rfl|1,_=>rfl|2,_=>rfl|3,_=>rfl|4,_=>rfl|5,_=>rfl)).drew).set n 5 hn bB (aa az ((t n).oq+q)) {t n with op:=(t n).op+p,oq:=(t n).oq+q} (λi hi=>by rw[dk];match i,hi with|0,_=>rfl|1,_=>rfl|2,_=>rfl|3,_=>rfl|4,_=>rfl|5,_=>rfl)).drew;rw[vD]at Z;exact Z
  generalize hP:(t n).op=P at y0 sn;generalize hR:(t n).oq=R at y1 sn;have HPR:Hid (P=(t n).op/\R=(t n).oq):=⟨hP.symm,hR.symm⟩;obtain⟨⟨s1,s2⟩,s3,s4⟩:=sn;go_wp2_with fail
  go_region
  go_wp2_with fail
  go_region
  go_wp2
  go_ret
  refine⟨rfl,HZ.v P R HPR.1 HPR.2,((((bG.cL HB2.v).setCell _ _).drew).setCell _ _).drew⟩
 .have:=H.2.2.2.2 x (by rw[hxs];simp);rw[hyl]at this;cases this
theorem EJ(b:Nat)(g p q:Int)(t:Nat->Gp)(w:bD)(h:bT w b t)(hw:eF t g p q≠0):Calls prog 67 #[ai (bj ⟨b,0,bu⟩),aa az g,aa az p,aa az q] w λe w'=>e=bf (bN (eF t g p q))/\Below w.heap.size w w':=by
 have HT:Hid (bT w b t):=h;have HW:Hid (bN (eF t g p q)=aq 100 (aa az (eF t g p q))):=aI hw;go_in
 go_wp2_with fail
 refine sC (js b g p q t _ HT.v) ?_;rintro w1 hb;have HB:Hid (Below w.heap.size w w1):=hb;rw[HW.v];go_wp2
 go_ret
 exact⟨by rw[HW.v];rfl,HB.v⟩
theorem AR(b n:Nat)(p q:Int)(t:Nat->Gp)(w:bD)(h:bT w b t)(hn:n<10)(hr:eF t n p q=0)(hl:(t n).op<p\/(t n).oq<q):Calls prog 67 #[ai (bj ⟨b,0,bu⟩),aa az n,aa az p,aa az q] w λe w'=>e=bf (bN 8)/\Below w.heap.size w w':=by
 have H:Hid (bT w b t/\eF t n p q=0):=⟨h,hr⟩;have hnI:(n:Int)<10:=bB
 go_in
 go_wp2_with fail
 refine sC (js b n p q t _ H.1) ?_;rintro w1 hb;rw[H.2,show bN 0=ay from rfl];have HB:Hid (Below w.heap.size w w1):=hb;have T2:Hid (bT w1 b t):=H.1.below hb H.1.lt;have y0:w1.cell? ⟨b,n*6+4,bu⟩=bj (aa az (t n).op):=T2.cell n 4 hn bB;have y1:w1.cell? ⟨b,n*6+4+1,bu⟩=bj (aa az (t n).oq):=T2.cell n 5 hn bB;generalize (t n).op=P at y0 hl;generalize (t n).oq=R at y1 hl;by_cases h1:P<p
 .go_wp2
  go_ret
  exact⟨rfl,HB.v⟩
 .have h2:R<q:=hl.resolve_left h1;have d1:decide (P<p)=bA:=by simp;omega
  go_wp2
  go_ret
  exact⟨rfl,HB.v⟩
theorem Gj(b n:Nat)(p q:Int)(t:Nat->Gp)(w:bD)(h:bT w b t)(hS:Small t)(hn:n<10)(hr:eF t n p q=0)(hl:p<=(t n).op/\q<=(t n).oq):Calls prog 67 #[ai (bj ⟨b,0,bu⟩),aa az n,aa az p,aa az q] w λe w'=>e=bf (bN 0)/\bT w' b (eS t n {t n with op:=(t n).op-p,oq:=(t n).oq-q})/\bG b w w':=by
 have H:Hid (bT w b t/\eF t n p q=0):=⟨h,hr⟩;have hnI:(n:Int)<10:=bB
 obtain⟨hp,hq⟩:=oL hr;have sn:=hS n hn;go_in
 go_wp2_with fail
 refine sC (js b n p q t _ H.1) ?_;rintro w1 hb;rw[H.2,show bN 0=ay from rfl];have HB:Hid (Below w.heap.size w w1):=hb;have T2:Hid (bT w1 b t):=H.1.below hb H.1.lt;have y0:w1.cell? ⟨b,n*6+4,bu⟩=bj (aa az (t n).op):=T2.cell n 4 hn bB;have y1:w1.cell? ⟨b,n*6+4+1,bu⟩=bj (aa az (t n).oq):=T2.cell n 5 hn bB;have yf:=T2.frozen;have HZ:Hid (∀P R:Int,P=(t n).op->R=(t n).oq->bT ((w1.setCell ⟨b,n*6+4,bu⟩ (aa az (P-p))).setCell ⟨b,n*6+4+1,bu⟩ (aa az (R-q))) b (eS t n {t n with op:=(t n).op-p,oq:=(t n).oq-q})):=by
  rintro P R rfl rfl;have Z:=(T2.set n 4 hn bB (aa az ((t n).op-p)) {t n with op:=(t n).op-p} (λi hi=>by match i,hi with|0,_=>rfl|1,_=>rfl|2,_=>rfl|3,_=>rfl|4,_=>rfl|5,_=>rfl)).set n 5 hn bB (aa az ((t n).oq-q)) {t n with op:=(t n).op-p,oq:=(t n).oq-q} (λi hi=>by rw[dk];match i,hi with|0,_=>rfl|1,_=>rfl|2,_=>rfl|3,_=>rfl|4,_=>rfl|5,_=>rfl);rw[vD]at Z;exact Z
 generalize hP:(t n).op=P at y0 sn hl;generalize hR:(t n).oq=R at y1 sn hl;have HPR:Hid (P=(t n).op/\R=(t n).oq):=⟨hP.symm,hR.symm⟩;obtain⟨⟨s1,s2⟩,s3,s4⟩:=sn;obtain⟨h1,h2⟩:=hl;have d1:decide (P<p)=bA:=by simp;omega
 have d2:decide (R<q)=bA:=by simp;omega
 go_wp2
 go_ret
 exact⟨rfl,HZ.v P R HPR.1 HPR.2,((bG.cL HB.v).setCell _ _).setCell _ _⟩
def oY(t:Nat->Gp)(Wy:Nat->List (Fin 10))(n:Nat)(p q:Int):Bool:=(Wy n).any (gE t Wy p q)
def gx(t:Nat->Gp)(Wy:Nat->List (Fin 10))(g p q:Int):Int:=if eF t g p q=0 then(if oY t Wy g.toNat p q=bw then 6 else 0)else eF t g p q
def dV(t:Nat->Gp)(n:Nat)(p q:Int):Nat->Gp:=eS t n {t n with op:=(t n).op+p,oq:=(t n).oq+q}
def eR(t:Nat->Gp)(Wy:Nat->List (Fin 10))(g p q:Int):Nat->Gp:=if gx t Wy g p q=0 then dV t g.toNat p q else t
def gm(t:Nat->Gp)(g p q:Int):Int:=if eF t g p q=0 then(if p<=(t g.toNat).op/\q<=(t g.toNat).oq then 0 else 8)else eF t g p q
def dn(t:Nat->Gp)(g p q:Int):Nat->Gp:=if gm t g p q=0 then dV t g.toNat (-p) (-q)else t
theorem nV(b:Nat)(g p q:Int)(t:Nat->Gp)(Wy:Nat->List (Fin 10))(w:bD)(h:bT w b t)(hW:dC t Wy)(hS:Small t):
  Calls prog 65 #[ai (bj ⟨b,0,bu⟩),aa az g,aa az p,aa az q] w λe w'=>e=bf (bN (gx t Wy g p q))/\bT w' b (eR t Wy g p q)/\bG b w w':=by
 by_cases hr:eF t g p q=0
 .obtain⟨n,rfl,hn,hh,_,_⟩:=jS hr;cases hl:oY t Wy n p q
  .have e:gx t Wy n p q=0:=by unfold gx;rw[aJ hr,hZ,hl];rfl
   unfold eR;rw[e,aJ rfl,hZ];refine J8 b n p q t Wy w h hW hS hn hr (λy hy=>?_);unfold oY at hl;rw[List.any_eq_false]at hl;have:=hl y hy;cases hb:gE t Wy p q y
   .rfl
   .exact aZ hb this
  .have e:gx t Wy n p q=6:=by unfold gx;rw[aJ hr,hZ,hl];rfl
   unfold eR;rw[e,aI bE];refine(Io b n p q t Wy w h hW hS hn hr ?_).mono λe w' ⟨h1,h2⟩=>⟨h1,h.below h2 h.lt,bG.cL h2⟩;unfold oY at hl;exact List.any_eq_true.1 hl
 .have e:gx t Wy g p q=eF t g p q:=by unfold gx;rw[aI hr]
  unfold eR;rw[e,aI hr];exact(Ip b g p q t w h hr).mono λe w' ⟨h1,h2⟩=>⟨h1,h.below h2 h.lt,bG.cL h2⟩
theorem iR(b:Nat)(g p q:Int)(t:Nat->Gp)(w:bD)(h:bT w b t)(hS:Small t):
  Calls prog 67 #[ai (bj ⟨b,0,bu⟩),aa az g,aa az p,aa az q] w λe w'=>e=bf (bN (gm t g p q))/\bT w' b (dn t g p q)/\bG b w w':=by
 by_cases hr:eF t g p q=0
 .obtain⟨n,rfl,hn,hh,_,_⟩:=jS hr;by_cases hl:p<=(t n).op/\q<=(t n).oq
  .have e:gm t n p q=0:=by unfold gm;rw[aJ hr,hZ,aJ hl]
   unfold dn;rw[e,aJ rfl,hZ];refine(Gj b n p q t w h hS hn hr hl).mono λe w' ⟨h1,h2,h3⟩=>⟨h1,?_,h3⟩;unfold dV;rw[<-Int.sub_eq_add_neg,<-Int.sub_eq_add_neg];exact h2
  .have e:gm t n p q=8:=by unfold gm;rw[aJ hr,hZ,aI hl]
   unfold dn;rw[e,aI bE];exact(AR b n p q t w h hn hr bB).mono λe w' ⟨h1,h2⟩=>⟨h1,h.below h2 h.lt,bG.cL h2⟩
 .have e:gm t g p q=eF t g p q:=by unfold gm;rw[aI hr]
  unfold dn;rw[e,aI hr];exact(EJ b g p q t w h hr).mono λe w' ⟨h1,h2⟩=>⟨h1,h.below h2 h.lt,bG.cL h2⟩
def np(t:Nat->Gp)(Wy:Nat->List (Fin 10))(f g p q:Int):Int:=if wr t g=0 then(if gm t f p q=0 then gx (dn t f p q) Wy g p q else gm t f p q)else wr t g
def jZ(t:Nat->Gp)(Wy:Nat->List (Fin 10))(f g p q:Int):Nat->Gp:=if np t Wy f g p q=0 then eR (dn t f p q) Wy g p q else t
section
variable {ty:TypeId}
theorem sF(b:Nat):∀(vs:List Value) (o:Nat) (w:bD) (c:Array Value),w.heap[b]? =bj (bh c ty (0,0))->∃c',(w.setCells b o vs).heap[b]? =bj (bh c' ty (0,0))/\c'.size=c.size
 |[],_,_,c,h=>⟨c,h,rfl⟩
 |v::r,o,w,c,h=>by
  rw[World.setCells];obtain⟨c',h1,h2⟩:=sF b r (o+1) (w.setCell ⟨b,o,bu⟩ v) _ (heap_set h o v);exact⟨c',h1,by rw[h2];simp⟩
theorem qO(b:Nat):∀(vs:List Value) (o:Nat) (w:bD),bG b w (w.setCells b o vs)
 |[],_,w=>bG.refl b w
 |v::r,o,w=>by
  rw[World.setCells];exact((bG.refl b w).setCell o v).trans (qO b r (o+1) _)
end
theorem BR{b:Nat}(h:w.heap[b]? =bj (bh c 135 (0,0)))(hs:c.size=60):w.there b 0 60:=λj hj=>by
 rw[Nat.zero_add];exact⟨by rw[cO h,Array.getElem?_eq_getElem bB];rfl,iH h j⟩
theorem vp{b:Nat}(h:w.heap[b]? =bj (bh c 135 (0,0)))(hs:c.size=60)(t:Nat->Gp):bT (w.setCells b 0 (gH t).toList) b t:=by
 obtain⟨c',h1,h2⟩:=sF b (gH t).toList 0 w c h;have hth:w.there b 0 (gH t).toList.length:=by rw[aB,gK];exact BR h hs
 have hr:=World.rangeAt_setCells_same w b 0 (gH t).toList hth;unfold bT;rw[h1];refine congrArg (λc=>bj (bh c 135 (0,0))) (xp t c' bB λn j hn hj=>?_);have:=hr (n*6+j) ((t n).cell j) (by rw[aM];exact oB t n j hn hj);rw[Nat.zero_add,cO h1]at this;exact this
theorem BQ{b:Nat}{t:Nat->Gp}(h:bT w b t):w.rangeAt b 0 (gH t).toList:=λj v hv=>by
 rw[Nat.zero_add,cO h];rw[aM]at hv;exact hv
theorem NU(t:Nat->Gp):(gH t).all (·.oneCell')=bw:=by
 rw[Array.all_eq_true_iff_forall_mem];intro v hv;simp only[gH,List.mem_toArray,List.mem_map]at hv;obtain⟨i,_,rfl⟩:=hv;unfold Gp.cell;split<;>rfl
theorem UW{t:Nat->Gp}:(prog.info? 135).map (·.size)=bj (gH t).toList.length:=by rw[aB,gK];kernel_rfl
theorem EC{b:Nat}{t t':Nat->Gp}(h:bT w b t):w.there b 0 (gH t').size:=by rw[gK];exact BR h (gK t)
theorem ph{a:Act}{Q:Exit->Act->bD->Prop}{d:Option Tmp}{ps:String}{af:Array Edge}{x:Operand}{b:Nat}{t:Nat->Gp}
  (hx:a.eval x=ai (bj ⟨b,0,bu⟩)) (hc:bT w b t) (h:wpList prog ops Q rest (a.put d (au (gH t))) w):wpList prog ops Q (⟨d, .load 135 x,ty,ps,af,bu⟩::rest) a w:=
 wpList_load_mid rfl 135 x rfl b 0 hx (gH t).toList _ (BQ hc) Tryz.underlying135 rfl UW h
theorem Js{b:Nat}{t':Nat->Gp}(h:bT w b t')(t:Nat->Gp):(storeCells ⟨b,0,bu⟩ (gH t).toList).run prog w= .ok () (w.setCells b 0 (gH t).toList):=by
 have ht:w.there b 0 (gH t).size:=EC h;have:=run_storeCells_cells (P:=prog) b 0 (gH t).toList 0 w (λj hj=>by simpa using(ht j (by simpa using hj)).1) (λj hj=>by simpa using(ht j (by simpa using hj)).2)
  (λv hv=>(Array.all_eq_true_iff_forall_mem.1 (NU t)) v (by simpa using hv))
 simpa using this
theorem tg(Z:bT (w.alloc (bh c 135)) w.heap.size (λ_=>jM))(t:Nat->Gp):
  bT ((w.alloc (bh c 135)).setCells w.heap.size 0 (gH t).toList) w.heap.size t/\Below w.heap.size w ((w.alloc (bh c 135)).setCells w.heap.size 0 (gH t).toList):=
 ⟨vp Z (gK _) t,(qO w.heap.size _ 0 _).below ((aQ _ _).alloc (aL _) _) (aL _) (by simp)⟩
theorem bH{k:Int}(h:k≠0):bN k=aq 100 (aa .i64 k):=aI h
theorem bF:bN 0=ay:=rfl
theorem Ff{t t':Nat->Gp}(h:∀k,(t' k).there=(t k).there/\(t' k).par=(t k).par):∀{g:Int} {L:List Nat},Way t g L->Way t' g L
 |g,[],hw=>λhv=>hw ⟨hv.1,hv.2.1,by rw[<-(h _).1];exact hv.2.2⟩
 |g,x::L,⟨e,hx,hh,hr⟩=>⟨e,hx,by rw[(h x).1];exact hh,by rw[(h x).2];exact Ff h hr⟩
theorem dC.same{t t':Nat->Gp}(h:∀k,(t' k).there=(t k).there/\(t' k).par=(t k).par)(hW:dC t Wy):dC t' Wy:=λk hk=>Ff h (hW k hk)
theorem uk(t:Nat->Gp)(n:Nat)(p q:Int)(k:Nat):(dV t n p q k).there=(t k).there/\(dV t n p q k).par=(t k).par:=by
 unfold dV eS;split
 .rename_i e;subst e;exact⟨rfl,rfl⟩
 .exact⟨rfl,rfl⟩
theorem BS(t:Nat->Gp)(g p q:Int)(k:Nat):(dn t g p q k).there=(t k).there/\(dn t g p q k).par=(t k).par:=by
 unfold dn;split
 .exact uk _ _ _ _ _
 .exact⟨rfl,rfl⟩
theorem zv{t:Nat->Gp}(hS:Small t)(g p q:Int):Small (dn t g p q):=λk hk=>by
 unfold dn;split
 .rename_i e;unfold dV eS;split
  .rename_i e2;have hr:eF t g p q=0:=by
    unfold gm at e;by_cases h:eF t g p q=0
    .exact h
    .rw[aI h]at e;exact e
   unfold gm at e;rw[aJ hr]at e;have hpq:=oL hr;by_cases hc:p<=(t g.toNat).op/\q<=(t g.toNat).oq
   .subst e2;have:=hS g.toNat hk;simp only;omega
   .rw[aI hc]at e;simp at e
  .exact hS k hk
 .exact hS k hk
theorem RW(b:Nat)(f g p q:Int)(t:Nat->Gp)(w:bD)(h:bT w b t)(hw:wr t g≠0):
  Calls prog 116 #[ai (bj ⟨b,0,bu⟩),aa az f,aa az g,aa az p,aa az q] w λe w'=>e=bf (bN (wr t g))/\w'=w:=by
 have HT:Hid (bT w b t):=h;have HW:Hid (bN (wr t g)=aq 100 (aa az (wr t g))):=bH hw;go_in
 go_wp2_with fail
 refine sC (jt b g t _ HT.v) ?_;rintro w1 hw1;subst w1;rw[HW.v];go_wp2
 go_ret
 exact⟨by rw[HW.v];rfl,rfl⟩
theorem OY(b:Nat)(f g p q:Int)(t:Nat->Gp)(w:bD)(h:bT w b t)(hS:Small t)(hw:wr t g=0)(hu:gm t f p q≠0):
  Calls prog 116 #[ai (bj ⟨b,0,bu⟩),aa az f,aa az g,aa az p,aa az q] w λe w'=>e=bf (bN (gm t f p q))/\Below w.heap.size w w':=by
 have H:Hid (bT w b t/\Small t/\wr t g=0):=⟨h,hS,hw⟩;have HU:Hid (bN (gm t f p q)=aq 100 (aa az (gm t f p q))):=bH hu;have Z:=tK w;rw[zQ]at Z;have Z0:=hJ Z;have C0:=hJ (tg Z t);have hst:=Js Z t;go_in
 go_wp2_with fail
 refine sC (jt b g t _ H.1) ?_;rintro w1 hw1;subst w1;rw[H.2.2,bF];go_wp2_with (first|(refine ph (t:=t) (b:=b) rfl ?_ ?_;exact H.1))
 refine sC (iR w.heap.size f p q t _ C0.1 H.2.1) ?_;rintro w2 ⟨_,F2⟩;have B2:Hid (Below w.heap.size w w2):=F2.below C0.2 (aL _) C0.2.size;rw[HU.v];go_wp2
 go_ret
 exact⟨by rw[HU.v];rfl,B2.v⟩
theorem OX(b:Nat)(f g p q:Int)(t:Nat->Gp)(Wy:Nat->List (Fin 10))(w:bD)(h:bT w b t)(hW:dC t Wy)(hS:Small t)(hw:wr t g=0)(hu:gm t f p q=0)(hc:gx (dn t f p q) Wy g p q≠0):
  Calls prog 116 #[ai (bj ⟨b,0,bu⟩),aa az f,aa az g,aa az p,aa az q] w λe w'=>e=bf (bN (gx (dn t f p q) Wy g p q))/\Below w.heap.size w w':=by
 have H:Hid (bT w b t/\Small t/\wr t g=0/\gm t f p q=0/\dC t Wy):=⟨h,hS,hw,hu,hW⟩;have HU:Hid (bN (gx (dn t f p q) Wy g p q)=aq 100 (aa az (gx (dn t f p q) Wy g p q))):=bH hc;have Z:=tK w;rw[zQ]at Z;have Z0:=hJ Z;have C0:=hJ (tg Z t);have hst:=Js Z t;go_in
 go_wp2_with fail
 refine sC (jt b g t _ H.1) ?_;rintro w1 hw1;subst w1;rw[H.2.2.1,bF];go_wp2_with (first|(refine ph (t:=t) (b:=b) rfl ?_ ?_;exact H.1))
 refine sC (iR w.heap.size f p q t _ C0.1 H.2.1) ?_;rintro w2 ⟨T2,F2⟩;have B2:Hid (Below w.heap.size w w2):=F2.below C0.2 (aL _) C0.2.size;have HT2:=hJ T2;rw[H.2.2.2.1,bF];go_wp2_with fail
 refine sC (nV w.heap.size g p q (dn t f p q) Wy _ HT2.v (H.2.2.2.2.same (BS t f p q)) (zv H.2.1 f p q)) ?_;rintro w3 ⟨_,F3⟩;have B3:Hid (Below w.heap.size w w3):=F3.below B2.v (aL _) B2.size;rw[HU.v];go_wp2
 go_ret
 exact⟨by rw[HU.v];rfl,B3.v⟩
theorem RV(b:Nat)(f g p q:Int)(t:Nat->Gp)(Wy:Nat->List (Fin 10))(w:bD)(h:bT w b t)(hW:dC t Wy)(hS:Small t)(hw:wr t g=0)(hu:gm t f p q=0)(hc:gx (dn t f p q) Wy g p q=0):
  Calls prog 116 #[ai (bj ⟨b,0,bu⟩),aa az f,aa az g,aa az p,aa az q] w λe w'=>e=bf (bN 0)/\bT w' b (eR (dn t f p q) Wy g p q)/\bG b w w':=by
 have H:Hid (bT w b t/\Small t/\wr t g=0/\gm t f p q=0/\dC t Wy/\gx (dn t f p q) Wy g p q=0):=⟨h,hS,hw,hu,hW,hc⟩;have Z:=tK w;rw[zQ]at Z;have Z0:=hJ Z;have C0:=hJ (tg Z t);have hst:=Js Z t;go_in
 go_wp2_with fail
 refine sC (jt b g t _ H.1) ?_;rintro w1 hw1;subst w1;rw[H.2.2.1,bF];go_wp2_with (first|(refine ph (t:=t) (b:=b) rfl ?_ ?_;exact H.1))
 refine sC (iR w.heap.size f p q t _ C0.1 H.2.1) ?_;rintro w2 ⟨T2,F2⟩;have B2:Hid (Below w.heap.size w w2):=F2.below C0.2 (aL _) C0.2.size;have HT2:=hJ T2;rw[H.2.2.2.1,bF];go_wp2_with fail
 refine sC (nV w.heap.size g p q (dn t f p q) Wy _ HT2.v (H.2.2.2.2.1.same (BS t f p q)) (zv H.2.1 f p q)) ?_;rintro w3 ⟨T3,F3⟩;have B3:Hid (Below w.heap.size w w3):=F3.below B2.v (aL _) B2.size;have HT3:=hJ T3;have HB:Hid (bT w3 b t):=H.1.below B3.v H.1.lt;rw[H.2.2.2.2.2,bF];generalize ht3:eR (dn t f p q) Wy g p q=t3 at*;have E3:=hJ ht3;have hst:=Js HB.v t3;go_wp2_with (first|(refine ph (t:=t3) (b:=w.heap.size) rfl ?_ ?_;exact HT3.v))
 go_ret
 exact⟨rfl,by rw[E3.v];exact vp HB.v (gK _) t3,(bG.cL B3.v).trans (qO b _ 0 _)⟩
theorem OW(b:Nat)(f g p q:Int)(t:Nat->Gp)(Wy:Nat->List (Fin 10))(w:bD)(h:bT w b t)(hW:dC t Wy)(hS:Small t):
  Calls prog 116 #[ai (bj ⟨b,0,bu⟩),aa az f,aa az g,aa az p,aa az q] w λe w'=>e=bf (bN (np t Wy f g p q))/\bT w' b (jZ t Wy f g p q)/\bG b w w':=by
 unfold jZ;by_cases hw:wr t g=0
 .by_cases hu:gm t f p q=0
  .have e:np t Wy f g p q=gx (dn t f p q) Wy g p q:=by unfold np;rw[aJ hw,aJ hu]
   rw[e];by_cases hc:gx (dn t f p q) Wy g p q=0
   .rw[hc,aJ rfl];exact RV b f g p q t Wy w h hW hS hw hu hc
   .rw[aI hc];exact(OX b f g p q t Wy w h hW hS hw hu hc).mono λe w' ⟨h1,h2⟩=>⟨h1,h.below h2 h.lt,bG.cL h2⟩
  .have e:np t Wy f g p q=gm t f p q:=by unfold np;rw[aJ hw,aI hu]
   rw[e,aI hu];exact(OY b f g p q t w h hS hw hu).mono λe w' ⟨h1,h2⟩=>⟨h1,h.below h2 h.lt,bG.cL h2⟩
 .have e:np t Wy f g p q=wr t g:=by unfold np;rw[aI hw]
  rw[e,aI hw];exact(RW b f g p q t w h hw).mono λe w' ⟨h1,h2⟩=>⟨h1,by rw[h2];exact h,by rw[h2];exact bG.refl b w⟩
theorem UT{t:Nat->Gp}:(prog.info? 133).map (·.size)=bj (gH t).toList.length:=by rw[aB,gK];kernel_rfl
theorem Gl{a:Act}{Q:Exit->Act->bD->Prop}{d:Option Tmp}{ps:String}{af:Array Edge}{x:Operand}{b:Nat}{t:Nat->Gp}
  (hx:a.eval x=ai (bj ⟨b,0,bu⟩)) (hc:bT w b t) (h:wpList prog ops Q rest (a.put d (au (gH t))) w):wpList prog ops Q (⟨d, .load 133 x,ty,ps,af,bu⟩::rest) a w:=
 wpList_load_mid rfl 133 x rfl b 0 hx (gH t).toList _ (BQ hc) Tryz.underlying133 rfl UT h
theorem Kk(t:Nat->Gp)(n:Nat)(hn:n<10):(gH t).extract (n*6) (n*6+6)=#[ar (t n).there,aa az (t n).par,aa az (t n).lp,aa az (t n).lq,aa az (t n).op,aa az (t n).oq]:=by
 apply bL;intro i;rw[Array.getElem?_extract,gK];rcases Nat.lt_or_ge i 6 with hi|hi
 .rw[nK,oB t n i hn hi]
  match i,hi with
  |0,_=>rfl
  |1,_=>rfl
  |2,_=>rfl
  |3,_=>rfl
  |4,_=>rfl
  |5,_=>rfl
 .rw[nJ,aR (by simpa using hi)]
def pO(t:Nat->Gp)(n:Int):Bool:=(List.range 10).any λk=>(t k).there&&decide ((t k).par=n)
theorem Ig{t:Nat->Gp}{n:Int}(h:∀k,k<10->¬((t k).there=bw/\(t k).par=n)):pO t n=bA:=by
 unfold pO;rw[List.any_eq_false];intro k hk;have:=h k (List.mem_range.1 hk);simpa using this
theorem Bf{t:Nat->Gp}{n:Int}(hk:k<10)(h1:(t k).there=bw)(h2:(t k).par=n):pO t n=bw:=by
 unfold pO;rw[List.any_eq_true];exact⟨k,List.mem_range.2 hk,by simp[h1,h2]⟩
theorem TU:∃i,prog.info? 132=bj i/\i.size=6:=⟨(prog.info? 132).get bC,by kernel_rfl,by kernel_rfl⟩
theorem Gf(w:bD)(E A:Array Value)(k:Nat)(hk:k<10)(hE:E.extract (k*6) (k*6+6)=A):(Instr.index 133 (au E) (aa .i64 k)).run prog w= .ok (au A) w:=by
 obtain⟨i,hi,hs⟩:=TU;simp[Instr.index,asIntOf,run_underlying Tryz.underlying133,part,Sem.run_bind,sizeOf,typeInfo,hi,hs,hE];intro h;omega
theorem se{a:Act}{Q:Exit->Act->bD->Prop}{d:Option Tmp}{ps:String}{af:Array Edge}{x y:Operand}{E A:Array Value}
  (hx:a.eval x=au E) (hy:a.eval y=aa .i64 k) (hk:k<10) (hE:E.extract (k*6) (k*6+6)=A) (h:wpList prog ops Q rest (a.put d (au A)) w):wpList prog ops Q (⟨d, .index 133 x y,ty,ps,af,bu⟩::rest) a w:=
 wpList_plain rfl λK hK=>by
  unfold Oper.wp execOp;simp only[hx,hy,Sem.run_bind,Gf w E A k hk hE];exact hK _ _ h
theorem rj(b:Nat)(n:Int)(t:Nat->Gp)(w:bD)(h:bT w b t):Calls prog 188 #[ai (bj ⟨b,0,bu⟩),aa az n] w λe w'=>e=bf (ar (pO t n))/\Below w.heap.size w w':=by
 have HT:Hid (bT w b t):=h;have HX:Hid (∀k,k<10->(gH t).extract (k*6) (k*6+6)=#[ar (t k).there,aa az (t k).par,aa az (t k).lp,aa az (t k).lq,aa az (t k).op,aa az (t k).oq]):=λk hk=>Kk t k hk;go_in
 go_wp2_with (first|(refine Gl (t:=t) (b:=b) rfl ?_ ?_;exact HT.v))
 have HB0:Hid (Below w.heap.size w w):=aQ _ _;generalize gH t=E at*;go_loopw [11] (λi wr=>∃(k:Nat),i=aa az k/\k<=10/\Hid ((∀j,j<k->¬((t j).there=bw/\(t j).par=n))/\Below w.heap.size w wr)) (λi _=>10-(intOf i).toNat)
 case atStart=>exact⟨0,rfl,bB,λj hj=>aZ hj bB,HB0.v⟩
 case round=>
  obtain⟨k,rfl,hk,H⟩:=hrel;by_cases hlt:k<10
  .have hltI:(k:Int)<10:=bB
   have hx:=hJ (HX.v k hlt);have hw:=hJ H.2.size;have HN:=hJ (λ(h1:(t k).there=bw) (h2:(t k).par=n)=>Bf hlt h1 h2);have HR:=hJ (λ(h1:¬((t k).there=bw/\(t k).par=n))=>(λj (hj:j<k+1)=>(by
    rcases Nat.lt_or_ge j k with e|e
    .exact H.1 j e
    .obtain rfl:j=k:=bB
     exact h1:¬((t j).there=bw/\(t j).par=n))))
   generalize (t k).there=TH at*;generalize (t k).par=PA at*;cases TH
   .have HR2:=hJ (HR.v (by simp));go_wp2_with (first|(refine se rfl rfl hlt hx.v ?_))
    go_roundw
    case rel=>exact⟨k+1,by go_num,bB,HR2.v,H.2.alloc hw.v _⟩
    case measure=>simp[intOf];omega
   .by_cases hp:PA=n
    .have HN2:=hJ (HN.v rfl hp);go_wp2_with (first|(refine se rfl rfl hlt hx.v ?_))
     go_ret
     exact⟨by rw[HN2.v];rfl,H.2.alloc hw.v _⟩
    .have dp:(PA==n)=bA:=by simpa using hp
     have HR2:=hJ (HR.v (by simp[hp]));go_wp2_with (first|(refine se rfl rfl hlt hx.v ?_))
     go_roundw
     case rel=>exact⟨k+1,by go_num,bB,HR2.v,H.2.alloc hw.v _⟩
     case measure=>simp[intOf];omega
  .have hk10:k=10:=bB
   subst hk10;go_wp2
   go_ret
   refine⟨?_,H.2⟩;have e0:pO t n=bA:=Ig λj hj=>H.1 j hj;rw[e0];rfl
theorem Lg(b:Nat)(g p q:Int)(t:Nat->Gp)(w:bD)(h:bT w b t)(hw:eF t g p q≠0):Calls prog 238 #[ai (bj ⟨b,0,bu⟩),aa az g,aa az p,aa az q] w λe w'=>e=bf (ao #[aa az 0,ar bA])/\Below w.heap.size w w':=by
 have HT:Hid (bT w b t):=h;have HW:Hid (bN (eF t g p q)=aq 100 (aa az (eF t g p q))):=aI hw;go_in
 go_wp2_with fail
 refine sC (js b g p q t _ (HT.below ((aQ _ _).alloc (aL _) _) HT.lt)) ?_;rintro w1 hb;have HB:=hJ (yD hb).1;rw[HW.v];go_wp2
 go_ret2
 exact⟨rfl,HB.v⟩
theorem Oy(b n:Nat)(p q:Int)(t:Nat->Gp)(Wy:Nat->List (Fin 10))(w:bD)(h:bT w b t)(hW:dC t Wy)(hS:Small t)(hn:n<10)(hr:eF t n p q=0):Calls prog 238 #[ai (bj ⟨b,0,bu⟩),aa az n,aa az p,aa az q] w λe w'=>
  (((∀y∈Wy n,gE t Wy p q y=bA)/\e=bf (ao #[aa az 0,ar bA]))\/
   (∃pre x rest,Wy n=pre++x::rest/\(∀y∈pre,gE t Wy p q y=bA)/\gE t Wy p q x=bw/\e=bf (ao #[aa az (x.val:Int),ar bw])))/\Below w.heap.size w w':=by
 have H:Hid (bT w b t/\dC t Wy/\Small t/\eF t n p q=0):=⟨h,hW,hS,hr⟩;obtain⟨hp,hq⟩:=oL hr;have HPQ:Hid ((0<=p/\p<=1000)/\(0<=q/\q<=1000)):=⟨⟨hp.1,bB⟩,hq.1,bB⟩;go_in
 go_wp2_with fail
 refine sC (js b n p q t _ (H.1.below ((aQ _ _).alloc (aL _) _) H.1.lt)) ?_;rintro w1 hb;rw[H.2.2.2,bF];obtain⟨hb1,hx⟩:=yD hb;have HB:=hJ hb1;have x0:w1.cell? ⟨w.heap.size,0,bu⟩=bj (aa az p):=cO hx 0;have x1:w1.cell? ⟨w.heap.size,1,bu⟩=bj (aa az q):=cO hx 1;go_wp2_with fail
 refine(rR b n p q t Wy (Wy n) _ (H.1.below HB.v H.1.lt) H.2.1 H.2.2.1 (H.2.1 n hn) HPQ.1 HPQ.2).mono ?_;rintro e w2 ⟨he,hb2⟩;have HB2:Hid (Below w.heap.size w w2):=HB.trans (hb2.mono HB.size);rcases he with⟨hno,rfl⟩|⟨pre,x,rest,h1,h2,h3,rfl⟩
 .have HN:=hJ hno;go_wp2
  go_ret2
  exact⟨.inl ⟨HN.v,rfl⟩,HB2.v⟩
 .have HN:=hJ (aK h1 (aK h2 h3));go_wp2
  go_ret2
  exact⟨.inr ⟨pre,x,rest,HN.1,HN.2.1,HN.2.2,rfl⟩,HB2.v⟩
theorem Jo(b:Nat)(g:Int)(t:Nat->Gp)(w:bD)(h:bT w b t)(hw:wr t g≠0):Calls prog 113 #[ai (bj ⟨b,0,bu⟩),aa az g] w λe w'=>e=bf (bN (wr t g))/\w'=w:=by
 have HT:Hid (bT w b t):=h;have HW:Hid (bN (wr t g)=aq 100 (aa az (wr t g))):=bH hw;go_in
 go_wp2_with fail
 refine sC (jt b g t _ HT.v) ?_;rintro w1 hw1;subst w1;rw[HW.v];go_wp2
 go_ret
 exact⟨by rw[HW.v];rfl,rfl⟩
theorem Gd(b:Nat)(t:Nat->Gp)(w:bD)(h:bT w b t)(hh:(t 0).there=bw):Calls prog 113 #[ai (bj ⟨b,0,bu⟩),aa az 0] w λe w'=>e=bf (bN 5)/\w'=w:=by
 have HT:Hid (bT w b t/\(t 0).there=bw):=⟨h,hh⟩;go_in
 go_wp2_with fail
 refine sC (iE b 0 t _ HT.1 bB HT.2) ?_;rintro w1 hw1;subst w1;go_wp2
 go_ret
 exact⟨rfl,rfl⟩
theorem Jp(b n:Nat)(t:Nat->Gp)(Wy:Nat->List (Fin 10))(w:bD)(h:bT w b t)(hW:dC t Wy)(hS:Small t)(hn:n<10)(hn0:n≠0)(hh:(t n).there=bw)(hx:cr t Wy n Gp.op 10≠0\/cr t Wy n Gp.oq 10≠0):
  Calls prog 113 #[ai (bj ⟨b,0,bu⟩),aa az n] w λe w'=>e=bf (bN 5)/\Below w.heap.size w w':=by
 have H:Hid (bT w b t/\(t n).there=bw/\dC t Wy/\Small t):=⟨h,hh,hW,hS⟩;have d0:((n:Int)==0)=bA:=by simpa using hn0
 generalize hX:cr t Wy n Gp.op 10=X at*;generalize hY:cr t Wy n Gp.oq 10=Y at*;have HXY:=hJ (aK hX hY);go_in
 go_wp2_with fail
 refine sC (iE b n t _ H.1 hn H.2.1) ?_;rintro w1 hw1;subst w1;go_wp2_with fail
 refine sC (jT b n t Wy _ H.1 H.2.2.1 H.2.2.2) ?_;rintro w2 hb;have HB:=hJ hb;rw[HXY.1,HXY.2];by_cases h1:X=0
 .have h2:(Y==0)=bA:=by have:=hx.resolve_left (λh=>h h1);simpa using this
  subst h1;go_wp2
  go_ret
  exact⟨rfl,HB.v⟩
 .have h2:(X==0)=bA:=by simpa using h1
  go_wp2
  go_ret
  exact⟨rfl,HB.v⟩
theorem Jn(b n:Nat)(t:Nat->Gp)(Wy:Nat->List (Fin 10))(w:bD)(h:bT w b t)(hW:dC t Wy)(hS:Small t)(hn:n<10)(hn0:n≠0)(hh:(t n).there=bw)(hx:cr t Wy n Gp.op 10=0/\cr t Wy n Gp.oq 10=0)(ha:pO t n=bw):
  Calls prog 113 #[ai (bj ⟨b,0,bu⟩),aa az n] w λe w'=>e=bf (bN 5)/\Below w.heap.size w w':=by
 have H:Hid (bT w b t/\(t n).there=bw/\dC t Wy/\Small t):=⟨h,hh,hW,hS⟩;have d0:((n:Int)==0)=bA:=by simpa using hn0
 have HXY:=hJ hx;have HA:=hJ ha;go_in
 go_wp2_with fail
 refine sC (iE b n t _ H.1 hn H.2.1) ?_;rintro w1 hw1;subst w1;go_wp2_with fail
 refine sC (jT b n t Wy _ H.1 H.2.2.1 H.2.2.2) ?_;rintro w2 hb;have HB:=hJ hb;rw[HXY.1,HXY.2];go_wp2_with fail
 refine sC (rj b n t _ (H.1.below HB.v H.1.lt)) ?_;rintro w3 hb;have HB3:Hid (Below w.heap.size w w3):=HB.trans (hb.mono HB.size);rw[HA.v];go_wp2
 go_ret
 exact⟨rfl,HB3.v⟩
theorem L9(b n:Nat)(t:Nat->Gp)(Wy:Nat->List (Fin 10))(w:bD)(h:bT w b t)(hW:dC t Wy)(hS:Small t)(hn:n<10)(hn0:n≠0)(hh:(t n).there=bw)(hx:cr t Wy n Gp.op 10=0/\cr t Wy n Gp.oq 10=0)(ha:pO t n=bA):
  Calls prog 113 #[ai (bj ⟨b,0,bu⟩),aa az n] w λe w'=>e=bf (bN 0)/\bT w' b (eS t n jM)/\bG b w w':=by
 have H:Hid (bT w b t/\(t n).there=bw/\dC t Wy/\Small t):=⟨h,hh,hW,hS⟩;have d0:((n:Int)==0)=bA:=by simpa using hn0
 have hnI:(n:Int)<10:=bB
 have HXY:=hJ hx;have HA:=hJ ha;go_in
 go_wp2_with fail
 refine sC (iE b n t _ H.1 hn H.2.1) ?_;rintro w1 hw1;subst w1;go_wp2_with fail
 refine sC (jT b n t Wy _ H.1 H.2.2.1 H.2.2.2) ?_;rintro w2 hb;have HB:=hJ hb;rw[HXY.1,HXY.2];go_wp2_with fail
 refine sC (rj b n t _ (H.1.below HB.v H.1.lt)) ?_;rintro w3 hb;have HB3:Hid (Below w.heap.size w w3):=HB.trans (hb.mono HB.size);rw[HA.v];have T3:=hJ (H.1.below HB3.v H.1.lt);have c0:w3.cell? ⟨b,n*6,bu⟩=bj (ar (t n).there):=T3.cell n 0 hn bB;have c1:w3.cell? ⟨b,n*6+1,bu⟩=bj (aa az (t n).par):=T3.cell n 1 hn bB;have c2:w3.cell? ⟨b,n*6+2,bu⟩=bj (aa az (t n).lp):=T3.cell n 2 hn bB;have c3:w3.cell? ⟨b,n*6+3,bu⟩=bj (aa az (t n).lq):=T3.cell n 3 hn bB;have c4:w3.cell? ⟨b,n*6+4,bu⟩=bj (aa az (t n).op):=T3.cell n 4 hn bB;have c5:w3.cell? ⟨b,n*6+5,bu⟩=bj (aa az (t n).oq):=T3.cell n 5 hn bB;have cf:=T3.frozen;go_wp2
 go_ret
 exact⟨rfl,T3.O9 n hn jM,((((((bG.cL HB3.v).setCell _ _).setCell _ _).setCell _ _).setCell _ _).setCell _ _).setCell _ _⟩
theorem QK(b:Nat)(g:Int)(t:Nat->Gp)(w:bD)(h:bT w b t)(hw:wr t g≠0):Calls prog 111 #[ai (bj ⟨b,0,bu⟩),aa az g] w λe w'=>e=bf (ao #[aa az 0,bN (wr t g)])/\w'=w:=by
 have HT:Hid (bT w b t):=h;have HW:Hid (bN (wr t g)=aq 100 (aa az (wr t g))):=bH hw;go_in
 go_wp2_with fail
 refine sC (jt b g t _ HT.v) ?_;rintro w1 hw1;subst w1;rw[HW.v];go_wp2
 go_ret2
 exact⟨by rw[HW.v];rfl,rfl⟩
theorem xg(b n:Nat)(t:Nat->Gp)(xs:List (Fin 10))(w:bD)(h:bT w b t)(hL:Way t n (gq xs))(hn:n<10)(hh:(t n).there=bw)(hd:4<=xs.length)(hd2:xs.length<1000):
  Calls prog 111 #[ai (bj ⟨b,0,bu⟩),aa az n] w λe w'=>e=bf (ao #[aa az 0,bN 7])/\Below w.heap.size w w':=by
 have H:Hid (bT w b t/\Way t n (gq xs)/\(t n).there=bw):=⟨h,hL,hh⟩;go_in
 go_wp2_with fail
 refine sC (iE b n t _ H.1 hn H.2.2) ?_;rintro w1 hw1;subst w1;go_wp2_with fail
 refine sC (pB b n t xs _ H.1 H.2.1 hd2) ?_;rintro w2 hb;have HB:=hJ hb;have hdI:(4:Int)<=(xs.length:Int):=bB
 go_wp2
 go_ret2
 exact⟨rfl,HB.v⟩
theorem xh(b p:Nat)(t:Nat->Gp)(xs:List (Fin 10))(w:bD)(h:bT w b t)(hL:Way t p (gq xs))(hp:p<10)(hh:(t p).there=bw)(hd:xs.length<4):
  Calls prog 111 #[ai (bj ⟨b,0,bu⟩),aa az p] w λe w'=>
   (∃n:Nat,n<10/\(t n).there=bA/\(∀k,k<n->(t k).there=bw)/\e=bf (ao #[aa az n,bN 0])/\bT w' b (eS t n (mi p))/\bG b w w')\/
   ((∀k,k<10->(t k).there=bw)/\e=bf (ao #[aa az 0,bN 4])/\Below w.heap.size w w'):=by
 have H:Hid (bT w b t/\Way t p (gq xs)/\(t p).there=bw):=⟨h,hL,hh⟩;go_in
 go_wp2_with fail
 refine sC (iE b p t _ H.1 hp H.2.2) ?_;rintro w1 hw1;subst w1;go_wp2_with fail
 refine sC (pB b p t xs _ H.1 H.2.1 bB) ?_;rintro w2 hb;have HB:=hJ hb;have hdI:¬(4:Int)<=(xs.length:Int):=bB
 go_wp2_with fail
 go_loopw [19] (λi wr=>∃(k:Nat),i=aa az k/\k<=10/\Hid ((∀j,j<k->(t j).there=bw)/\Below w.heap.size w wr)) (λi _=>10-(intOf i).toNat)
 case atStart=>exact⟨0,rfl,bB,⟨λj hj=>bB,HB.v⟩⟩
 case round=>
  obtain⟨k,rfl,hk,HR⟩:=hrel;by_cases hlt:k<10
  .have hltI:(k:Int)<10:=bB
   have T1:=hJ (H.1.below HR.2 H.1.lt);have c0:wr.cell? ⟨b,k*6,bu⟩=bj (ar (t k).there):=T1.cell k 0 hlt bB;cases hth:(t k).there
   .have HTH:=hJ hth;rw[hth]at c0;go_wp2_with fail
    go_region_held3 (λ_=>True) (trivial) ((go_at_call 162;refine sC (uW _ _) ?_;rintro w3 hb3;have T2:bT w3 b t:=T1.drew.below hb3 T1.lt;have c0:w3.cell? ⟨b,k*6,bu⟩=bj (ar (t k).there):=T2.cell k 0 hlt bB;have c1:=T2.cell k 1 hlt bB;have c2:=T2.cell k 2 hlt bB;have c3:=T2.cell k 3 hlt bB;have c4:=T2.cell k 4 hlt bB;have c5:=T2.cell k 5 hlt bB;have cf:=T2.frozen))
    have HT2:Hid (bT w3 b t):=T2;have HB2:Hid (Below w.heap.size w w3):=HR.2.trans ((aQ _ wr).drew.trans (hb3.mono (by have:=HR.2.size;exact this)));go_wp2
    go_ret2
    exact .inl ⟨k,hlt,HTH.v,HR.1,rfl,HT2.O9 k hlt (mi p),((((((bG.cL HB2.v).setCell _ _).setCell _ _).setCell _ _).setCell _ _).setCell _ _).setCell _ _⟩
   .have HTH:=hJ hth;rw[hth]at c0;go_wp2
    go_roundw
    case rel=>exact⟨k+1,by go_num,bB,⟨λj hj=>(Nat.lt_or_ge j k).elim (HR.1 j) (λhge=>by rw[show j=k by omega];exact HTH.v),HR.2⟩⟩
    case measure=>simp[intOf];omega
  .have hk10:k=10:=bB
   subst hk10;go_wp2
   go_ret2
   exact .inr ⟨HR.1,rfl,HR.2⟩
structure Tree (t:Nat->Gp)(Wy:Nat->List (Fin 10))(c:Nat):Prop where
 ways:dC t Wy
 deep:∀k,k<10->(Wy k).length<=4
 root:(t 0).there=bw/\(t 0).par= -1
 par:∀k,k<10->(t k).there=bw->k≠0->∃m:Nat,(t k).par=m/\m<10/\(t m).there=bw
 own:∀k,k<10->(0<=(t k).op/\(t k).op<=64*c)/\(0<=(t k).oq/\(t k).oq<=64*c)
section
variable {t:Nat->Gp}{Wy:Nat->List (Fin 10)}{c:Nat}
theorem Tree.small(h:Tree t Wy c)(hc:c<=1000):Small t:=λk hk=>by have:=h.own k hk;omega
theorem Tree.mono(h:Tree t Wy c)(hc:c<=c'):Tree t Wy c':=⟨h.ways,h.deep,h.root,h.par,λk hk=>by have:=h.own k hk;omega⟩
theorem A8(h:dC t Wy)(hk:k<10)(hh:(t k).there=bA):Wy k=[]:=by
 have:=h k hk;cases hw:Wy k with
 |nil=>rfl
 |cons x r=>
  rw[hw]at this;obtain⟨e,_,h3,_⟩:=this;have:k=x.val:=by exact Int.ofNat_inj.1 e
  rw[<-this,hh]at h3;cases h3
theorem xX(h:dC t Wy)(hk:k<10)(hh:(t k).there=bw):∃r,Wy k=⟨k,hk⟩::r/\Way t (t k).par (gq r):=by
 have:=h k hk;cases hw:Wy k with
 |nil=>
  rw[hw]at this;exact aZ ⟨by omega,bB,hh⟩ this
 |cons x r=>
  rw[hw]at this;obtain⟨e,_,_,h4⟩:=this;have e2:k=x.val:=by exact Int.ofNat_inj.1 e
  subst e2;exact⟨r,rfl,h4⟩
theorem oQ:∀{xs ys:List (Fin 10)},gq xs=gq ys->xs=ys
 |[],[],_=>rfl
 |[],_::_,h=>by simp[gq]at h
 |_::_,[],h=>by simp[gq]at h
 |x::xs,y::ys,h=>by
  simp only[gq,List.map_cons,List.cons.injEq]at h;rw[Fin.ext h.1,oQ h.2]
theorem VW(h:Tree t Wy c):Wy 0=[⟨0,bB⟩]:=by
 obtain⟨r,hr,hw⟩:=xX h.ways (show 0<10 by omega) h.root.1;rw[h.root.2]at hw;cases r with
 |nil=>exact hr
 |cons x r=>obtain⟨e,_⟩:=hw;omega
theorem Fg:∀{g:Int} {A B:List Nat} {x:Nat},Way t g (A++x::B)->Way t x (x::B)
 |_,[],_,_,⟨_,h2,h3,h4⟩=>⟨rfl,h2,h3,h4⟩
 |_,_::_,_,_,⟨_,_,_,h4⟩=>Fg h4
theorem B7:∀{g:Int} {L:List Nat},Way t g L->L.Nodup
 |_,[],_=>List.nodup_nil
 |_,x::L,⟨e,h2,h3,h4⟩=>by
  refine List.nodup_cons.2 ⟨λhx=>?_,B7 h4⟩;obtain⟨A,B,hAB⟩:=List.append_of_mem hx;rw[hAB]at h4;have h5:=Fg h4;have h6:Way t x (x::(A++x::B)):=⟨rfl,h2,h3,h4⟩;have h7:=congrArg List.length (h5.unique h6);simp at h7;omega
theorem vK:∀{g:Int} {L:List Nat},Way t g L->∀x∈L,x<10/\(t x).there=bw
 |_,[],_,x,hx=>by simp at hx
 |_,y::L,⟨_,h2,h3,h4⟩,x,hx=>by
  rcases List.mem_cons.1 hx with e|e
  .subst e;exact⟨h2,h3⟩
  .exact vK h4 x e
theorem ql{n:Int}:gO Wy k n=bw↔∃x∈Wy k,(x.val:Int)=n:=by unfold gO;exact decide_eq_true_iff
theorem ER(h:dC t Wy)(hk:k<10)(hh:(t k).there=bw):gO Wy k k=bw:=by
 obtain⟨r,hr,_⟩:=xX h hk hh;rw[ql,hr];exact⟨⟨k,hk⟩,List.mem_cons_self,rfl⟩
end
theorem pg{t t':Nat->Gp}{Wy Wy':Nat->List (Fin 10)}{m:Int}{sel:Gp->Int}:∀{k:Nat},(∀j,j<k->(if gO Wy' j m=bw then sel (t' j)else 0)=if gO Wy j m=bw then sel (t j)else 0)->cr t' Wy' m sel k=cr t Wy m sel k
 |0,_=>rfl
 |k+1,h=>by
  unfold cr;rw[pg (k:=k) λj hj=>h j bB,h k bB]
theorem zq{t:Nat->Gp}{Wy:Nat->List (Fin 10)}{m:Int}{n:Nat}{p q:Int}:∀k:Nat,cr (dV t n p q) Wy m Gp.op k=cr t Wy m Gp.op k+if n<k/\gO Wy n m=bw then p else 0
 |0=>by simp[cr]
 |k+1=>by
  unfold cr;rw[zq k];by_cases e:k=n
  .subst e;have e1:(dV t k p q k).op=(t k).op+p:=by rw[show dV t k p q k=_ from dk _ _ _]
   rw[e1];by_cases hu:gO Wy k m=bw<;>simp[hu]<;>omega
  .have e1:(dV t n p q k).op=(t k).op:=by rw[show dV t n p q k=_ from dw _ _ _ _ e]
   have e2:(if n<k+1/\gO Wy n m=bw then p else 0)=if n<k/\gO Wy n m=bw then p else 0:=by
    by_cases hu:gO Wy n m=bw
    .simp only[hu,and_true];by_cases hl:n<k
     .rw[aJ hl,nK]
     .rw[aI hl,nJ]
    .simp[hu]
   rw[e1,e2];omega
theorem zr{t:Nat->Gp}{Wy:Nat->List (Fin 10)}{m:Int}{n:Nat}{p q:Int}:∀k:Nat,cr (dV t n p q) Wy m Gp.oq k=cr t Wy m Gp.oq k+if n<k/\gO Wy n m=bw then q else 0
 |0=>by simp[cr]
 |k+1=>by
  unfold cr;rw[zr k];by_cases e:k=n
  .subst e;have e1:(dV t k p q k).oq=(t k).oq+q:=by rw[show dV t k p q k=_ from dk _ _ _]
   rw[e1];by_cases hu:gO Wy k m=bw<;>simp[hu]<;>omega
  .have e1:(dV t n p q k).oq=(t k).oq:=by rw[show dV t n p q k=_ from dw _ _ _ _ e]
   have e2:(if n<k+1/\gO Wy n m=bw then q else 0)=if n<k/\gO Wy n m=bw then q else 0:=by
    by_cases hu:gO Wy n m=bw
    .simp only[hu,and_true];by_cases hl:n<k
     .rw[aJ hl,nK]
     .rw[aI hl,nJ]
    .simp[hu]
   rw[e1,e2];omega
theorem tM{t:Nat->Gp}{Wy:Nat->List (Fin 10)}{m:Int}{sel:Gp->Int}(h0:∀j,j<10->0<=sel (t j)):∀{k:Nat},k<=10->cr t Wy m sel k=0->∀j,j<k->gO Wy j m=bw->sel (t j)=0
 |0,_,_,j,hj,_=>bB
 |k+1,hk,h,j,hj,hu=>by
  have nn:∀i,i<=10->0<=cr t Wy m sel i:=λi=>by
   induction i with
   |zero=>intro _;exact Int.le_refl 0
   |succ i ih=>
    intro hi;have:=ih bB;have:=h0 i bB;unfold cr;split<;>omega
  unfold cr at h;have a:=nn k bB;have b:=h0 k bB;have h1:cr t Wy m sel k=0:=by split at h<;>omega
  by_cases e:j=k
  .subst e;rw[aJ hu]at h;omega
  .exact tM h0 bB h1 j bB hu
section
variable {t:Nat->Gp}{Wy:Nat->List (Fin 10)}{c:Nat}
def t0:Nat->Gp:=eS (λ_=>jM) 0 (mi (-1))
def W0:Nat->List (Fin 10):=λk=>if k=0 then[⟨0,bB⟩]else[]
theorem zt:Tree t0 W0 0:=by
 have hn:∀k,k≠0->t0 k=jM:=λk hk=>dw _ _ _ _ hk;have h0:t0 0=mi (-1):=dk _ _ _;refine⟨λk hk=>?_,λk hk=>?_,⟨by rw[h0];rfl,by rw[h0];rfl⟩,λk hk hh hne=>?_,λk hk=>?_⟩
 .by_cases e:k=0
  .subst e;exact⟨rfl,by decide,by show(t0 0).there=bw;rw[h0];rfl,by show¬valid t0 (t0 0).par;rw[h0];rintro⟨a,_⟩;exact aZ a bE⟩
  .have:W0 k=[]:=aI e;rw[this];rintro⟨_,_,h⟩;rw[hZ,hn k e]at h;cases h
 .unfold W0;split<;>simp
 .rw[hn k hne]at hh;cases hh
 .by_cases e:k=0
  .subst e;rw[h0];simp[mi]
  .rw[hn k e];simp[jM]
theorem Tree.Qn(h:Tree t Wy c){t':Nat->Gp}(hs:∀k,(t' k).there=(t k).there/\(t' k).par=(t k).par)(ho:∀k,k<10->(0<=(t' k).op/\(t' k).op<=64*c')/\(0<=(t' k).oq/\(t' k).oq<=64*c')):Tree t' Wy c':=
 ⟨h.ways.same hs,h.deep,⟨by rw[(hs 0).1];exact h.root.1,by rw[(hs 0).2];exact h.root.2⟩,λk hk hh hne=>by
  rw[(hs k).1]at hh;obtain⟨m,e,hm,hhm⟩:=h.par k hk hh hne;exact⟨m,by rw[(hs k).2];exact e,hm,by rw[(hs m).1];exact hhm⟩,ho⟩
theorem Tree.dV(h:Tree t Wy c){n:Nat}{p q:Int}{c':Nat}(hc:c<=c')(hp:0<=(t n).op+p/\(t n).op+p<=64*c')(hq:0<=(t n).oq+q/\(t n).oq+q<=64*c'):Tree (dV t n p q) Wy c':=by
 refine h.Qn (uk t n p q) λk hk=>?_;by_cases e:k=n
 .subst e;rw[show YtpmmdkcfenjiaaaGreatDoor.Gr.dV t k p q k=_ from dk _ _ _];exact⟨hp,hq⟩
 .rw[show YtpmmdkcfenjiaaaGreatDoor.Gr.dV t n p q k=_ from dw _ _ _ _ e];have:=h.own k hk;omega
theorem OD(t:Nat->Gp)(n:Nat)(p q:Int)(k:Nat):(eS t n {t n with lp:=p,lq:=q} k).there=(t k).there/\(eS t n {t n with lp:=p,lq:=q} k).par=(t k).par:=by
 by_cases e:k=n
 .subst e;rw[dk];exact⟨rfl,rfl⟩
 .rw[dw _ _ _ _ e];exact⟨rfl,rfl⟩
theorem Tree.UX(h:Tree t Wy c):Tree (eS t n {t n with lp:=p,lq:=q}) Wy c:=by
 refine h.Qn (OD t n p q) λk hk=>?_;by_cases e:k=n
 .subst e;rw[dk];exact h.own k hk
 .rw[dw _ _ _ _ e];exact h.own k hk
def Ih(Wy:Nat->List (Fin 10))(n:Nat)(hn:n<10)(p:Nat):Nat->List (Fin 10):=λk=>if k=n then⟨n,hn⟩::Wy p else Wy k
def Jm(Wy:Nat->List (Fin 10))(n:Nat):Nat->List (Fin 10):=λk=>if k=n then[]else Wy k
theorem Fe{t':Nat->Gp}:∀{g:Int} {L:List Nat},Way t g L->(∀x∈L,t' x=t x)->(∀x∈L,∀g:Int,(t x).par=g->¬valid t g->¬valid t' g)->(¬valid t g->¬valid t' g)->Way t' g L
 |_,[],h,_,_,hg=>hg h
 |_,x::L,⟨e,h2,h3,h4⟩,he,hp,_=>by
  have ex:=he x (by simp);refine⟨e,h2,by rw[ex];exact h3,?_⟩;rw[ex];exact Fe h4 (λy hy=>he y (by simp[hy])) (λy hy=>hp y (by simp[hy])) (hp x (by simp) _ rfl)
theorem qU(h:Tree t Wy c){t':Nat->Gp}(hk:k<10)(hh:(t k).there=bw)(he:∀x∈Wy k,t' x.val=t x.val):Way t' k (gq (Wy k)):=by
 refine Fe (h.ways k hk) (λx hx=>?_) (λx hx g hg hv=>?_) (λhv=>aZ ⟨by omega,bB,hh⟩ hv)
 .obtain⟨y,hy,rfl⟩:=List.mem_map.1 hx;exact he y hy
 .obtain⟨hx10,hxh⟩:=vK (h.ways k hk) x hx;by_cases e:x=0
  .subst e;rw[h.root.2]at hg;rintro⟨a,_⟩;omega
  .obtain⟨m,em,hm,hmh⟩:=h.par x hx10 hxh e;exact aZ ⟨by omega,bB,by rw[show g.toNat=m by omega];exact hmh⟩ hv
theorem Tree.add(h:Tree t Wy c){p:Nat}(hn:n<10)(hf:(t n).there=bA)(hp:p<10)(hh:(t p).there=bw)(hd:(Wy p).length<4):Tree (eS t n (mi p)) (Ih Wy n hn p) c:=by
 have hnp:p≠n:=λe=>by rw[e,hf]at hh;cases hh
 have hn0:n≠0:=λe=>by have:=h.root.1;rw[<-e,hf]at this;cases this
 have key:∀k,k<10->(t k).there=bw->∀x∈Wy k,eS t n (mi p) x.val=t x.val:=λk hk hkh x hx=>by
  refine dw _ _ _ _ λe=>?_;have:=(vK (h.ways k hk) x.val (List.mem_map.2 ⟨x,hx,rfl⟩)).2;rw[e,hf]at this;cases this
 refine⟨λk hk=>?_,λk hk=>?_,?_,λk hk hkh hk0=>?_,λk hk=>?_⟩
 .by_cases e:k=n
  .subst e;have ew:Ih Wy k hn p k=⟨k,hn⟩::Wy p:=aJ rfl;rw[ew];refine⟨rfl,hn,by rw[dk];rfl,?_⟩;rw[dk];exact qU h hp hh (key p hp hh)
  .have ew:Ih Wy n hn p k=Wy k:=aI e;rw[ew];by_cases hkh:(t k).there=bw
   .exact qU h hk hkh (key k hk hkh)
   .have hkf:(t k).there=bA:=by simpa using hkh
    rw[A8 h.ways hk hkf];rintro⟨_,_,hv⟩;rw[hZ,dw _ _ _ _ e,hkf]at hv;cases hv
 .unfold Ih;split
  .simp only[List.length_cons];omega
  .exact h.deep k hk
 .rw[dw _ _ _ _ (bQ hn0)];exact h.root
 .by_cases e:k=n
  .subst e;refine⟨p,by rw[dk];rfl,hp,by rw[dw _ _ _ _ hnp];exact hh⟩
  .rw[dw _ _ _ _ e]at hkh|-;obtain⟨m,em,hm,hmh⟩:=h.par k hk hkh hk0;refine⟨m,em,hm,?_⟩;by_cases e2:m=n
   .rw[e2,dk];rfl
   .rw[dw _ _ _ _ e2];exact hmh
 .by_cases e:k=n
  .subst e;rw[dk];simp[mi];omega
  .rw[dw _ _ _ _ e];exact h.own k hk
theorem BY:∀{g:Int} {x:Nat} {L:List Nat} {n:Nat},Way t g (x::L)->n∈L->∃j,j<10/\(t j).there=bw/\(t j).par=n
 |_,_,[],_,_,h=>by simp at h
 |_,x,y::L,n,⟨_,h2,h3,h4⟩,h=>by
  rcases List.mem_cons.1 h with e|e
  .subst e;exact⟨x,h2,h3,h4.1⟩
  .exact BY h4 e
theorem Gq(ha:pO t n=bA)(hk:k<10)(hh:(t k).there=bw):(t k).par≠n:=λe=>by
 rw[Bf hk hh e]at ha;cases ha
theorem Tree.Sh(h:Tree t Wy c)(ha:pO t n=bA)(hk:k<10)(hkn:k≠n):∀x∈Wy k,x.val≠n:=λx hx e=>by
 by_cases hh:(t k).there=bw
 .obtain⟨r,hr,hw⟩:=xX h.ways hk hh;have hW:=h.ways k hk;rw[hr]at hx hW;rcases List.mem_cons.1 hx with e2|e2
  .rw[e2]at e;exact hkn e
  .obtain⟨j,hj,hjh,hjp⟩:=BY (n:=n) hW (List.mem_map.2 ⟨x,e2,e⟩);exact Gq ha hj hjh hjp
 .have hf:(t k).there=bA:=by simpa using hh
  rw[A8 h.ways hk hf]at hx;simp at hx
theorem Tree.rem(h:Tree t Wy c)(hn0:n≠0)(ha:pO t n=bA):Tree (eS t n jM) (Jm Wy n) c:=by
 refine⟨λk hk=>?_,λk hk=>?_,?_,λk hk hkh hk0=>?_,λk hk=>?_⟩
 .by_cases e:k=n
  .subst e;have ew:Jm Wy k k=[]:=aJ rfl;rw[ew];rintro⟨_,_,hv⟩;rw[hZ,dk]at hv;cases hv
  .have ew:Jm Wy n k=Wy k:=aI e;rw[ew];by_cases hkh:(t k).there=bw
   .exact qU h hk hkh λx hx=>dw _ _ _ _ (h.Sh ha hk e x hx)
   .have hkf:(t k).there=bA:=by simpa using hkh
    rw[A8 h.ways hk hkf];rintro⟨_,_,hv⟩;rw[hZ,dw _ _ _ _ e,hkf]at hv;cases hv
 .unfold Jm;split
  .simp
  .exact h.deep k hk
 .rw[dw _ _ _ _ (bQ hn0)];exact h.root
 .by_cases e:k=n
  .subst e;rw[dk]at hkh;cases hkh
  .rw[dw _ _ _ _ e]at hkh|-;obtain⟨m,em,hm,hmh⟩:=h.par k hk hkh hk0;have hmn:m≠n:=λe2=>Gq ha hk hkh (by rw[em,e2]);exact⟨m,em,hm,by rw[dw _ _ _ _ hmn];exact hmh⟩
 .by_cases e:k=n
  .subst e;rw[dk];simp[jM];omega
  .rw[dw _ _ _ _ e];exact h.own k hk
end
def gU(t:Nat->Gp)(Wy:Nat->List (Fin 10))(k j:Nat):Int:=if(t k).there=bw then(match j with
 |0=>(t k).par
 |1=>(t k).lp
 |2=>(t k).lq
 |3=>cr t Wy k Gp.op 10
 |_=>cr t Wy k Gp.oq 10)else 0
def Fit(t:Nat->Gp)(Wy:Nat->List (Fin 10))(G:Nat->Nat->Int):Prop:=∀k,k<10->(t k).there=bw->
 ¬(0<=(t k).lp/\(t k).lp<cr t Wy k Gp.op 10/\G k 3<cr t Wy k Gp.op 10)/\¬(0<=(t k).lq/\(t k).lq<cr t Wy k Gp.oq 10/\G k 4<cr t Wy k Gp.oq 10)
theorem yO{t t':Nat->Gp}{Wy':Nat->List (Fin 10)}(h:∀k,k<10->(t' k).there=bw->((t' k).lp= -1/\(t' k).lq= -1)\/((t k).there=bw/\(cr t' Wy' k Gp.op 10<=cr t Wy k Gp.op 10\/(t' k).lp<0\/cr t' Wy' k Gp.op 10<=(t' k).lp)/\(cr t' Wy' k Gp.oq 10<=cr t Wy k Gp.oq 10\/(t' k).lq<0\/cr t' Wy' k Gp.oq 10<=(t' k).lq))):Fit t' Wy' (gU t Wy):=λk hk hh=>by
 rcases h k hk hh with⟨a,b⟩|⟨a,b,d⟩
 .constructor<;>omega
 .have e3:gU t Wy k 3=cr t Wy k Gp.op 10:=aJ a;have e4:gU t Wy k 4=cr t Wy k Gp.oq 10:=aJ a;rw[e3,e4];constructor<;>omega
section
variable {t:Nat->Gp}{Wy:Nat->List (Fin 10)}{c:Nat}
theorem Dp:Fit t Wy (gU t Wy):=yO λ_ _ hh=> .inr ⟨hh, .inl (Int.le_refl _), .inl (Int.le_refl _)⟩
theorem CI(t:Nat->Gp)(n:Nat)(p q:Int)(k:Nat):(dV t n p q k).lp=(t k).lp/\(dV t n p q k).lq=(t k).lq:=by
 by_cases e:k=n
 .subst e;rw[show dV t k p q k=_ from dk _ _ _];exact⟨rfl,rfl⟩
 .rw[show dV t n p q k=_ from dw _ _ _ _ e];exact⟨rfl,rfl⟩
theorem Rz(hl:oY t Wy n p q=bA){y:Fin 10}(hy:y∈Wy n):((t y.val).lp= -1\/¬0<p\/cr t Wy y.val Gp.op 10+p<=(t y.val).lp)/\((t y.val).lq= -1\/¬0<q\/cr t Wy y.val Gp.oq 10+q<=(t y.val).lq):=by
 have h1:gE t Wy p q y=bA:=by
  unfold oY at hl;rw[List.any_eq_false]at hl;simpa using hl y hy
 unfold gE ml at h1;rw[Bool.or_eq_false_iff,decide_eq_false_iff_not,decide_eq_false_iff_not]at h1;omega
theorem Sy(hn:n<10)(hp:0<=p)(hq:0<=q)(hl:oY t Wy n p q=bA)(k:Nat):
  (cr (dV t n p q) Wy k Gp.op 10<=cr t Wy k Gp.op 10\/(t k).lp<0\/cr (dV t n p q) Wy k Gp.op 10<=(t k).lp)/\(cr (dV t n p q) Wy k Gp.oq 10<=cr t Wy k Gp.oq 10\/(t k).lq<0\/cr (dV t n p q) Wy k Gp.oq 10<=(t k).lq):=by
 rw[zq,zr];by_cases hu:gO Wy n k=bw
 .rw[aJ ⟨hn,hu⟩,aJ ⟨hn,hu⟩];obtain⟨y,hy,e⟩:=ql.1 hu;have e2:y.val=k:=Int.ofNat_inj.1 e;have:=Rz hl hy;rw[e2]at this;omega
 .rw[aI (λh=>hu h.2),aI (λh=>hu h.2)];omega
theorem Iy(hn:n<10)(hp:0<=p)(hq:0<=q)(hl:oY t Wy n p q=bA):Fit (dV t n p q) Wy (gU t Wy):=yO λk hk hh=>by
 rw[(uk t n p q k).1]at hh;rw[(CI t n p q k).1,(CI t n p q k).2];exact .inr ⟨hh,Sy hn hp hq hl k⟩
end
end Go.Proofs.YtpmmdkcfenjiaaaGreatDoor.Gr

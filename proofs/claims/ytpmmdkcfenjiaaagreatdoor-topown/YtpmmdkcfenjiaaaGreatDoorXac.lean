import Derived.Test.YtpmmdkcfenjiaaaGreatDoorXab
set_option maxRecDepth 100000
set_option maxHeartbeats 4000000
set_option linter.unusedVariables false
set_option linter.unusedSimpArgs false
namespace Go.Proofs.YtpmmdkcfenjiaaaGreatDoor.Gr
open Value renaming int->aa,pointer->ai,tuple->ao,iface->aq,bool->ar,agg->au,nilIface->az
open IntKind renaming i64->bf
open Ending renaming returned->bw
open Obj renaming cells->bA
open Option renaming some->bB,none->bC
open Bool renaming true->bE,false->bF
open Tryz (prog)
open Go.RowKit Go.Shelf
variable {ops:Array Oper}{c:Array Value}{f:Bool}{a g p q:Int}{rest:List Oper}{B b c' k l n x:Nat}{Wy:Nat->List (Fin 10)}{ty:TypeId}{A0 A1 A11 A12 A13 A14 A2 A4 A5 A6 A7:Value}{W' w w':bD}
attribute [local go_sem] Oper.semAt_some
theorem gX{W:bD}{v:Value}{t:TypeId}(h:W.heap[B]? =bB (bA #[v] t (0,0))):W.cell? ⟨B,0,bC⟩=bB v/\W.frozen? ⟨B,0,bC⟩=bF:=by
 constructor<;>simp[World.cell?,World.frozen?,h]
theorem UK(w:bD)(o1 o2 o3 o4:Obj):((((w.alloc o1).alloc o2).alloc o3).alloc o4).heap[w.heap.size]? =bB o1/\((((w.alloc o1).alloc o2).alloc o3).alloc o4).heap[w.heap.size+1]? =bB o2/\((((w.alloc o1).alloc o2).alloc o3).alloc o4).heap[w.heap.size+1+1]? =bB o3/\((((w.alloc o1).alloc o2).alloc o3).alloc o4).heap[w.heap.size+1+1+1]? =bB o4:=by
 have e:((((w.alloc o1).alloc o2).alloc o3).alloc o4).heap=(((w.heap.push o1).push o2).push o3).push o4:=rfl;rw[e];refine⟨?_,?_,?_,?_⟩
 .simp only[bJ,Array.size_push];rw[nJ,nJ,nJ,aJ trivial]
 .simp only[bJ,Array.size_push];rw[nJ,nJ,aJ trivial]
 .simp only[bJ,Array.size_push];rw[nJ,aJ trivial]
 .simp only[bJ,Array.size_push];rw[aJ trivial]
theorem AV(w:bD)(o1 o2 o3 o4:Obj):Below w.heap.size w ((((w.alloc o1).alloc o2).alloc o3).alloc o4):=
 ((((aQ _ w).alloc (aL _) _).alloc (by simp) _).alloc (by simp;omega) _).alloc (by simp;omega) _
theorem BA(b:Nat)(g other:Int)(t:Nat->Gp)(xs:List (Fin 10))(w:bD)(hT:cC w b t)(hL:Way t g (kA xs)):
  Calls prog 172 #[ai (bB ⟨b,0,bC⟩),aa bf g,aa bf other] w λe W'=>e=bw (ar (decide (∃x∈xs,(x.val:Int)=other)))/\Below w.heap.size w W':=by
 refine(callsIn_wide (n:=4)).1 ?_;refine callsIn_of_wp_marks Tryz.func172 rfl trivial ?_ rfl;simp only[Tryz.ntmps172,List.size_toArray,List.length_cons,List.length_nil,Nat.reduceAdd,Nat.reduceSub,Array.replicate_succ,Array.replicate_zero,List.push_toArray,List.append_toArray,List.nil_append,List.cons_append]
 gi_wp2_with (refine⟨trivial,?_⟩;gi_at_call 216;refine(callsIn_wide.2 (AM b g _)).mono ?_;rintro e w' ⟨rfl,rfl⟩)
 have hA:=UK w (bA #[aa bf other] 3) (bA #[ar bF] 4) (bA #[ai (bB ⟨b,0,bC⟩)] 79) (bA #[aa bf g] 3);have hB0:=AV w (bA #[aa bf other] 3) (bA #[ar bF] 4) (bA #[ai (bB ⟨b,0,bC⟩)] 79) (bA #[aa bf g] 3);have c0:=gX hA.1;have c1:=gX hA.2.1;have c3:=gX hA.2.2.2;have hbl:=hT.lt;refine wpIn_rangeFunc_ownF rfl bG (gf:=267) (lb:=#[ai (bB ⟨w.heap.size+1+1+1,0,bC⟩),ai (bB ⟨w.heap.size+1+1,0,bC⟩)]) rfl trivial (enters_of Tryz.func267 bH rfl)
  (vF 3 bG (w.heap.size+1+1+1) (w.heap.size+1+1) b g t xs _ (by simp) c3.1 hA.2.2.1 (hT.below hB0 hbl) hL) K2.t (K2.b (by simp;omega) (by simp)) (aQ _ _) (λ_=>rfl)
  (λpre W=>((∀y∈pre,(y.val:Int)≠other)/\W.cell? ⟨w.heap.size,0,bC⟩=bB (aa bf other)/\W.cell? ⟨w.heap.size+1,0,bC⟩=bB (ar bF)/\W.frozen? ⟨w.heap.size+1,0,bC⟩=bF)/\Below w.heap.size w W)
  (λc pre W=>(c= .ret/\(∃y∈pre,(y.val:Int)=other)/\W.cell? ⟨w.heap.size+1,0,bC⟩=bB (ar bE))/\Below w.heap.size w W)
  (OwnFrom.and (Own.from (λs A B row hs hg hr=>⟨hs.1,cell_kept hs.2.1 hg hr,cell_kept hs.2.2.1 hg hr,(frozen_kept hs.2.2.1 hg hr).trans hs.2.2.2⟩) _) (ownFrom_below (aL _) (by simp;omega)))
  (λc=>OwnFrom.and (Own.from (λs A B row hs hg hr=>⟨hs.1,hs.2.1,cell_kept hs.2.2 hg hr⟩) _) (ownFrom_below (aL _) (by simp;omega)))
  ⟨⟨by simp,c0.1,c1.1,c1.2⟩,hB0⟩
  (λx=>{tmps:=#[ai (bB ⟨b,0,bC⟩),aa bf g,aa bf other,undef,undef,ai (bB ⟨w.heap.size,0,bC⟩),ai (bB ⟨w.heap.size+1,0,bC⟩),aa bf (x.val:Int),ai (bB ⟨b,0,bC⟩),aa bf g, .func (.func 267) #[] #[ai (bB ⟨w.heap.size+1+1+1,0,bC⟩),ai (bB ⟨w.heap.size+1+1,0,bC⟩)],aa bf (x.val:Int),undef,undef,undef],defers:=[]}) ?assign ?body ?done ?stop
 case assign=>
  intro l x W K hK
  gi_wp2
  exact hK
 case body=>
  rintro l pre x W ⟨⟨hp,hcw,hcr,hfr⟩,hB⟩ _
  gi_wp2
  .rename_i hx;have hx':(x.val:Int)=other:=eq_of_beq hx;exact⟨KeepsOthers.setCell _ _ _,⟨rfl,⟨x,List.mem_append.2 (.inr (by simp)),hx'⟩,World.cell?_setCell_same' _ _ _ (by rw[hcr];rfl)⟩,hB.setCell (p:=⟨w.heap.size+1,0,bC⟩) (by simp) _⟩
  .rename_i hx;have hx':(x.val:Int)≠other:=by simpa using hx
   exact⟨KeepsOthers.refl _,⟨rfl,rfl⟩,⟨λy hy=>(List.mem_append.1 hy).elim (hp y) (λe=>by simp at e;subst e;exact hx'),hcw,hcr,hfr⟩,hB⟩
 case done=>
  rintro D ys W hD rfl ⟨⟨hne,_,hcr,hfr⟩,hB⟩ hK
  gi_wp2
  have hK':=(KeepsOthers.setCell W ⟨w.heap.size+1,0,bC⟩ (ar bF)).same D _ hK rfl;refine⟨by simp, .inl ⟨_,_,rfl,run_takeDeferred hK',?_⟩⟩;have hc5:=cell_kept (World.cell?_setCell_same' W ⟨w.heap.size+1,0,bC⟩ (ar bF) (by rw[hcr];rfl)) (grownBy_putObj' _ D (.deferred bC)) (λr e=>by cases e;exact⟨_,hK',rfl⟩);refine⟨ar bF,?_,by rw[aT (λ⟨y,hy,e⟩=>hne y hy e)],(hB.setCell (p:=⟨w.heap.size+1,0,bC⟩) (by simp) _).trans (belowK_b (w:=w) (aL _) _ D _ _ (by simp at hD;omega) hK' rfl rfl)⟩;simp[results,Tryz.f172,go_sem,hc5]
 case stop=>
  rintro D c pre W hD hpre ⟨⟨rfl,hin,hcr⟩,hB⟩ hK
  gi_wp2
  refine⟨by simp, .inl ⟨_,_,rfl,run_takeDeferred hK,?_⟩⟩;have hc5:=cell_kept hcr (grownBy_putObj' _ D (.deferred bC)) (λr e=>by cases e;exact⟨_,hK,rfl⟩);refine⟨ar bE,?_,by rw[aO (hin.imp λy hy=>⟨hpre.subset hy.1,hy.2⟩)],hB.trans (belowK_b (w:=w) (aL _) W D _ _ (by simp at hD;omega) hK rfl rfl)⟩;simp[results,Tryz.f172,go_sem,hc5]
theorem Vp(w:bD)(o1 o2 o3:Obj):(((w.alloc o1).alloc o2).alloc o3).heap[w.heap.size]? =bB o1/\(((w.alloc o1).alloc o2).alloc o3).heap[w.heap.size+1]? =bB o2/\(((w.alloc o1).alloc o2).alloc o3).heap[w.heap.size+1+1]? =bB o3:=by
 have e:(((w.alloc o1).alloc o2).alloc o3).heap=((w.heap.push o1).push o2).push o3:=rfl;rw[e];refine⟨?_,?_,?_⟩
 .simp only[bJ,Array.size_push];rw[nJ,nJ,aJ trivial]
 .simp only[bJ,Array.size_push];rw[nJ,aJ trivial]
 .simp only[bJ,Array.size_push];rw[aJ trivial]
theorem Jz(w:bD)(o1 o2 o3:Obj):Below w.heap.size w (((w.alloc o1).alloc o2).alloc o3):=
 (((aQ _ w).alloc (aL _) _).alloc (by simp) _).alloc (by simp;omega) _
theorem UJ(w:bD)(o1 o2:Obj):((w.alloc o1).alloc o2).heap[w.heap.size]? =bB o1/\((w.alloc o1).alloc o2).heap[w.heap.size+1]? =bB o2:=by
 have e:((w.alloc o1).alloc o2).heap=(w.heap.push o1).push o2:=rfl;rw[e];refine⟨?_,?_⟩
 .simp only[bJ,Array.size_push];rw[nJ,aJ trivial]
 .simp only[bJ,Array.size_push];rw[aJ trivial]
section
attribute [local go_sem] Oper.semAt_some
theorem po(b:Nat)(g:Int)(t:Nat->Gp)(xs:List (Fin 10))(w:bD)(hT:cC w b t)(hL:Way t g (kA xs))(hlen:xs.length<1000):
  Calls prog 186 #[ai (bB ⟨b,0,bC⟩),aa bf g] w λe W'=>e=bw (aa bf (xs.length:Nat))/\Below w.heap.size w W':=by
 refine(callsIn_wide (n:=4)).1 ?_;refine callsIn_of_wp_marks Tryz.func186 rfl trivial ?_ rfl;simp only[Tryz.ntmps186,List.size_toArray,List.length_cons,List.length_nil,Nat.reduceAdd,Nat.reduceSub,Array.replicate_succ,Array.replicate_zero,List.push_toArray,List.append_toArray,List.nil_append,List.cons_append]
 gi_wp2_with (refine⟨trivial,?_⟩;gi_at_call 216;refine(callsIn_wide.2 (AM b g _)).mono ?_;rintro e w' ⟨rfl,rfl⟩)
 have hA:=Vp w (bA #[aa bf 0] 3) (bA #[ai (bB ⟨b,0,bC⟩)] 79) (bA #[aa bf g] 3);have hB0:=Jz w (bA #[aa bf 0] 3) (bA #[ai (bB ⟨b,0,bC⟩)] 79) (bA #[aa bf g] 3);have c0:=gX hA.1;have c2:=gX hA.2.2;have hbl:=hT.lt;refine wpIn_rangeFunc_ownF rfl bG (gf:=267) (lb:=#[ai (bB ⟨w.heap.size+1+1,0,bC⟩),ai (bB ⟨w.heap.size+1,0,bC⟩)]) rfl trivial (enters_of Tryz.func267 bH rfl)
  (vF 3 bG (w.heap.size+1+1) (w.heap.size+1) b g t xs _ (by simp) c2.1 hA.2.1 (hT.below hB0 hbl) hL) K2.t (K2.b (by simp;omega) (by simp)) (aQ _ _) (λ_=>rfl)
  (λpre W=>(W.cell? ⟨w.heap.size,0,bC⟩=bB (aa bf (pre.length:Nat))/\W.frozen? ⟨w.heap.size,0,bC⟩=bF)/\Below w.heap.size w W)
  (λ_ _ _=>False)
  (OwnFrom.and (Own.from (λs A B row hs hg hr=>⟨cell_kept hs.1 hg hr,(frozen_kept hs.1 hg hr).trans hs.2⟩) _) (ownFrom_below (aL _) (by simp;omega)))
  (λ_ _ _ _ _ hs _ _=>hs)
  ⟨⟨c0.1,c0.2⟩,hB0⟩
  (λx=>{tmps:=#[ai (bB ⟨b,0,bC⟩),aa bf g,undef,undef,aa bf 0,ai (bB ⟨w.heap.size,0,bC⟩),ai (bB ⟨b,0,bC⟩),aa bf g, .func (.func 267) #[] #[ai (bB ⟨w.heap.size+1+1,0,bC⟩),ai (bB ⟨w.heap.size+1,0,bC⟩)],aa bf (x.val:Int),undef,undef,undef],defers:=[]}) ?assign ?body ?done ?stop
 case assign=>
  intro l x W K hK
  gi_wp2
  simpa using hK
 case body=>
  rintro l pre x W ⟨⟨hc,hf⟩,hB⟩ hlt;have hpl:(pre.length:Int)<1000:=bG
  gi_wp2
  refine⟨KeepsOthers.setCell _ _ _,⟨dS _ _ _ _ bG,dS _ _ _ _ bG⟩,⟨?_,by rw[World.frozen?_setCell];exact hf⟩,hB.setCell (p:=⟨w.heap.size,0,bC⟩) (aL _) _⟩;rw[World.cell?_setCell_same' _ _ _ (by rw[hc];rfl)];simp
 case done=>
  rintro D ys W hD rfl ⟨⟨hc,_⟩,hB⟩ hK
  gi_wp2
  refine⟨by simp, .inl ⟨_,_,rfl,run_takeDeferred hK,?_⟩⟩;exact⟨_,results_tmp rfl _ _ _,rfl,hB.trans (belowK_b (w:=w) (aL _) W D _ _ (by simp at hD;omega) hK rfl rfl)⟩
 case stop=>
  rintro D c pre W _ _ h _;exact h.elim
end
def zo(Wy:Nat->List (Fin 10))(k:Nat)(n:Int):Bool:=decide (∃x∈Wy k,(x.val:Int)=n)
def dg(t:Nat->Gp)(Wy:Nat->List (Fin 10))(n:Int)(sel:Gp->Int):Nat->Int
 |0=>0
 |k+1=>dg t Wy n sel k+if zo Wy k n=bE then sel (t k)else 0
def fH(t:Nat->Gp)(Wy:Nat->List (Fin 10)):Prop:=∀k:Nat,k<10->Way t (k:Int) (kA (Wy k))
def Small(t:Nat->Gp):Prop:=∀k,k<10->(0<=(t k).op/\(t k).op<=1000000)/\(0<=(t k).oq/\(t k).oq<=1000000)
theorem qM{t:Nat->Gp}(Wy:Nat->List (Fin 10))(n:Int){sel:Gp->Int}(h:∀k,k<10->0<=sel (t k)/\sel (t k)<=1000000):∀k,k<=10->0<=dg t Wy n sel k/\dg t Wy n sel k<=1000000*k
 |0,_=>by simp[dg]
 |k+1,hk=>by
  have ih:=qM Wy n h k bG;have:=h k bG;unfold dg;split<;>omega
structure Ts (w W:bD)(a c:Int):Prop where
 cZ:Below w.heap.size w W
 res:W.heap[w.heap.size]? =bB (bA #[aa bf 0,aa bf 0] 130 (0,0))
 sum:W.heap[w.heap.size+1]? =bB (bA #[aa bf a,aa bf c] 130 (0,0))
theorem Ts.below{W:bD}{c:Int}(h:Ts w W a c)(hb:Below W.heap.size W W'):Ts w W' a c:=by
 have h1:=(aX.1 h.sum).1;exact⟨h.cZ.trans (hb.mono h.cZ.size),(hb.block _ bG).trans h.res,(hb.block _ h1).trans h.sum⟩
theorem Ts.drewN{w W:bD}{a c:Int}(h:Ts w W a c)(n:Nat):Ts w (W.drewN n) a c:=⟨below_drewN h.cZ n,h.res,h.sum⟩
theorem Ts.drew{w W:bD}{a c:Int}(h:Ts w W a c):Ts w W.drew a c:=h.drewN 1
theorem Ts.Va{W:bD}{c:Int}(h:Ts w W a c)(v:Int):Ts w (W.setCell ⟨w.heap.size+1,0,bC⟩ (aa bf v)) v c:=
 ⟨h.cZ.setCell (by simp) _,(dS _ _ _ _ bG).trans h.res,by rw[heap_set h.sum];rfl⟩
theorem Ts.Vb{W:bD}{c:Int}(h:Ts w W a c)(v:Int):Ts w (W.setCell ⟨w.heap.size+1,1,bC⟩ (aa bf v)) a v:=
 ⟨h.cZ.setCell (by simp) _,(dS _ _ _ _ bG).trans h.res,by rw[heap_set h.sum];rfl⟩
theorem kE(b:Nat)(n:Int)(t:Nat->Gp)(Wy:Nat->List (Fin 10))(w:bD)(hT:cC w b t)(hW:fH t Wy)(hS:Small t):
  Calls prog 97 #[ai (bB ⟨b,0,bC⟩),aa bf n] w λe W'=>e=bw (au #[aa bf (dg t Wy n Gp.op 10),aa bf (dg t Wy n Gp.oq 10)])/\Below w.heap.size w W':=by
 have HT:Hid (cC w b t):=hT;have hbl:=hT.lt;have HW:Hid (fH t Wy):=hW;have HS:Hid (Small t):=hS;go_in
 go_wp2_with fail
 have A2:=UJ w (bA #[aa bf 0,aa bf 0] 130) (bA #[aa bf 0,aa bf 0] 130);refine cR (λW=>Ts w W 0 0) ⟨((aQ _ w).alloc (aL _) _).alloc (by simp) _,A2.1,A2.2⟩ ?_;intro W1 hT1;go_loopw [7] (λi wr=>∃(k:Nat),i=aa bf k/\k<=10/\Hid (Ts w wr (dg t Wy n Gp.op k) (dg t Wy n Gp.oq k))) (λi _=>10-(intOf i).toNat)
 case atStart=>exact⟨0,rfl,bG,hT1⟩
 case round=>
  obtain⟨k,rfl,hk,H⟩:=hrel;by_cases hlt:k<10
  .have hltI:(k:Int)<10:=bG
   have T1:Hid (cC wr b t):=HT.below H.cZ hbl;go_wp2_with fail
   refine sC (BA b k n t (Wy k) _ T1.v (HW.v k hlt)) ?_;rintro W2 hb2;have H2:Hid (Ts w W2 (dg t Wy n Gp.op k) (dg t Wy n Gp.oq k)):=H.below hb2;have T2:Hid (cC W2 b t):=T1.below hb2 T1.lt;rw[show decide (∃x∈Wy k,(x.val:Int)=n)=zo Wy k n from rfl];have e1:dg t Wy n Gp.op (k+1)=dg t Wy n Gp.op k+if zo Wy k n=bE then(t k).op else 0:=rfl;have e2:dg t Wy n Gp.oq (k+1)=dg t Wy n Gp.oq k+if zo Wy k n=bE then(t k).oq else 0:=rfl;cases hu:zo Wy k n
   .rw[hu]at e1 e2;have E1:Hid (dg t Wy n Gp.op (k+1)=dg t Wy n Gp.op k):=by rw[e1];simp[Hid]
    have E2:Hid (dg t Wy n Gp.oq (k+1)=dg t Wy n Gp.oq k):=by rw[e2];simp[Hid]
    go_wp2
    go_roundw
    case rel=>exact⟨k+1,by go_num,bG,by rw[E1.v,E2.v];exact H2.v⟩
    case measure=>simp[intOf];omega
   .rw[hu,aJ rfl]at e1 e2;have E1:Hid (dg t Wy n Gp.op (k+1)=dg t Wy n Gp.op k+(t k).op):=e1;have E2:Hid (dg t Wy n Gp.oq (k+1)=dg t Wy n Gp.oq k+(t k).oq):=e2;have b1:=qM Wy n (λk hk=>(HS.v k hk).1) k hk;have b2:=qM Wy n (λk hk=>(HS.v k hk).2) k hk;have s1:=HS.v k hlt;generalize dg t Wy n Gp.op k=X at*;generalize dg t Wy n Gp.oq k=Y at*;have d0:W2.cell? ⟨w.heap.size+1,0,bC⟩=bB (aa bf X):=by rw[dv H2.sum];rfl
    have d1:W2.cell? ⟨w.heap.size+1,1,bC⟩=bB (aa bf Y):=by rw[dv H2.sum];rfl
    have f0:∀o,W2.frozen? ⟨w.heap.size+1,o,bC⟩=bF:=λo=>kU H2.sum o;have g0:W2.cell? ⟨b,k*6+4,bC⟩=bB (aa bf (t k).op):=T2.cell k 4 hlt bG;have g1:W2.cell? ⟨b,k*6+4+1,bC⟩=bB (aa bf (t k).oq):=T2.cell k 5 hlt bG;have hne:b≠w.heap.size+1:=bG
    have hne':w.heap.size+1≠b:=bG
    generalize (t k).op=P at*;generalize (t k).oq=R at*;go_wp2_with fail
    go_region
    go_wp2_with fail
    go_region
    go_wp2
    go_roundw
    case rel=>
     have Z:=((H2.Va (X+P)).drew.Vb (Y+R)).drew;refine⟨k+1,by go_num,bG,?_⟩;rw[E1.v,E2.v];exact Z
    case measure=>simp[intOf];omega
  .have hk10:k=10:=bG
   subst hk10;have r0:wr.cell? ⟨w.heap.size,0,bC⟩=bB (aa .i64 0):=by rw[dv H.res];rfl
   have r1:wr.cell? ⟨w.heap.size,1,bC⟩=bB (aa .i64 0):=by rw[dv H.res];rfl
   have rf:∀o,wr.frozen? ⟨w.heap.size,o,bC⟩=bF:=λo=>kU H.res o;have s0:wr.cell? ⟨w.heap.size+1,0,bC⟩=bB (aa bf (dg t Wy n Gp.op 10)):=by rw[dv H.sum];rfl
   have s1:wr.cell? ⟨w.heap.size+1,1,bC⟩=bB (aa bf (dg t Wy n Gp.oq 10)):=by rw[dv H.sum];rfl
   generalize hX:dg t Wy n Gp.op 10=X at s0;generalize hY:dg t Wy n Gp.oq 10=Y at s1;have HX:Hid (dg t Wy n Gp.op 10=X):=hX;have HY:Hid (dg t Wy n Gp.oq 10=Y):=hY;go_wp2_with fail
   refine bodyPost_ret (v:=au #[aa bf X,aa bf Y]) (by simp[results,Tryz.results97,go_sem,r0,r1]) rfl ⟨by rw[HX.v,HY.v],?_⟩;exact(H.cZ.setCell (p:=⟨w.heap.size,0,bC⟩) (aL _) _).setCell (p:=⟨w.heap.size,1,bC⟩) (aL _) _
def jk(p q l:Int):Bool:=decide (l<=p/\p<=20/\l<=q/\q<=64)
theorem ts(p q l:Int)(w:bD):Calls prog 191 #[au #[aa bf p,aa bf q],aa bf l] w λe w'=>e=bw (ar (jk p q l))/\Below w.heap.size w w':=by
 have HF:Hid (∀r:Bool,(r=bE↔(l<=p/\p<=20/\l<=q/\q<=64))->r=jk p q l):=λr hr=>by unfold jk;rw[Bool.eq_iff_iff,hr,decide_eq_true_eq]
 by_cases h1:l<=p
 .have d1:decide (l<=p)=bE:=by simp[h1]
  by_cases h2:p<=20
  .have d2:decide (p<=20)=bE:=by simp[h2]
   by_cases h3:l<=q
   .have d3:decide (l<=q)=bE:=by simp[h3]
    by_cases h4:q<=64
    .have HH:Hid (l<=p/\p<=20/\l<=q/\q<=64):=⟨h1,h2,h3,h4⟩;go_in
     go_wp2
     go_ret
     exact⟨da (HF.v _ (by simp;exact HH.v)),(aQ _ _).alloc (aL _) _⟩
    .have d4:decide (q<=64)=bF:=by simp;omega
     have HH:Hid (¬q<=64):=h4;go_in
     go_wp2
     go_ret
     exact⟨da (HF.v _ (by have:=HH.v;simp;omega)),(aQ _ _).alloc (aL _) _⟩
   .have d3:decide (l<=q)=bF:=by simp;omega
    have HH:Hid (¬l<=q):=h3;go_in
    go_wp2
    go_ret
    exact⟨da (HF.v _ (by have:=HH.v;simp;omega)),(aQ _ _).alloc (aL _) _⟩
  .have d2:decide (p<=20)=bF:=by simp;omega
   have HH:Hid (¬p<=20):=h2;go_in
   go_wp2
   go_ret
   exact⟨da (HF.v _ (by have:=HH.v;simp;omega)),(aQ _ _).alloc (aL _) _⟩
 .have d1:decide (l<=p)=bF:=by simp;omega
  have HH:Hid (¬l<=p):=h1;go_in
  go_wp2
  go_ret
  exact⟨da (HF.v _ (by have:=HH.v;simp;omega)),(aQ _ _).alloc (aL _) _⟩
def mO(h m l:Int):Bool:=decide (l≠ -1/\0<m/\l<h+m)
theorem tE(h m l:Int)(w:bD)(hh:0<=h/\h<=100000000)(hm:0<=m/\m<=1000):Calls prog 217 #[aa bf h,aa bf m,aa bf l] w λe w'=>e=bw (ar (mO h m l))/\w'=w:=by
 have HF:Hid (∀r:Bool,(r=bE↔(l≠ -1/\0<m/\l<h+m))->r=mO h m l):=λr hr=>by unfold mO;rw[Bool.eq_iff_iff,hr,decide_eq_true_eq]
 obtain⟨hh0,hh1⟩:=hh;obtain⟨hm0,hm1⟩:=hm;by_cases h1:l= -1
 .have HH:Hid (l= -1):=h1;have d1:(l != -1)=bF:=by simp[h1]
  go_in
  go_wp2
  go_ret
  exact⟨da (HF.v _ (by simp[HH.v])),rfl⟩
 .have HH:Hid (l≠ -1):=h1;have d1:(l != -1)=bE:=by simp[h1]
  by_cases h2:0<m
  .by_cases h3:l<h+m
   .go_in
    go_wp2
    go_ret
    exact⟨da (HF.v _ (by have:=HH.v;simp;omega)),rfl⟩
   .go_in
    go_wp2
    go_ret
    exact⟨da (HF.v _ (by have:=HH.v;simp;omega)),rfl⟩
  .have d2:decide (0<m)=bF:=by simp;omega
   have HH2:Hid (¬0<m):=h2;go_in
   go_wp2
   go_ret
   exact⟨da (HF.v _ (by have:=HH2.v;simp;omega)),rfl⟩
theorem Fw(b:Nat)(g p q:Int)(w:bD)(hg:g<0\/10<=g):Calls prog 138 #[ai (bB ⟨b,0,bC⟩),aa bf g,au #[aa bf p,aa bf q]] w λe w'=>e=bw (aq 100 (aa .i64 1))/\Below w.heap.size w w':=by
 have HG:Hid (g<0\/10<=g):=hg;go_in
 go_wp2_with fail
 refine sC (vJ b g _ HG.v) ?_;rintro w1 rfl;go_wp2
 go_ret
 exact⟨rfl,(aQ _ _).alloc (aL _) _⟩
theorem DX(b g:Nat)(p q:Int)(t:Nat->Gp)(w:bD)(h:cC w b t)(hg:g<10)(hh:(t g).there=bF):Calls prog 138 #[ai (bB ⟨b,0,bC⟩),aa bf g,au #[aa bf p,aa bf q]] w λe w'=>e=bw (aq 100 (aa .i64 2))/\Below w.heap.size w w':=by
 have H:Hid (cC w b t/\(t g).there=bF):=⟨h,hh⟩;go_in
 go_wp2_with fail
 refine sC (tS b g t _ (H.1.below ((aQ _ _).alloc (aL _) _) H.1.lt) hg H.2) ?_;rintro w1 hw;subst hw;go_wp2
 go_ret
 exact⟨rfl,(aQ _ _).alloc (aL _) _⟩
theorem I1(b g:Nat)(p q:Int)(t:Nat->Gp)(w:bD)(h:cC w b t)(hg:g<10)(hh:(t g).there=bE)(hf:jk p q 0=bE):Calls prog 138 #[ai (bB ⟨b,0,bC⟩),aa bf g,au #[aa bf p,aa bf q]] w λe w'=>e=bw az/\Below w.heap.size w w':=by
 have H:Hid (cC w b t/\(t g).there=bE/\jk p q 0=bE):=⟨h,hh,hf⟩;go_in
 go_wp2_with fail
 refine sC (jc b g t _ (H.1.below ((aQ _ _).alloc (aL _) _) H.1.lt) hg H.2.1) ?_;rintro w1 hw;subst hw;go_wp2_with fail
 refine sC (ts p q 0 _) ?_;rintro w2 hb;rw[H.2.2];have HB:Hid (Below w.heap.size w w2):=((aQ _ w).alloc (aL _) _).trans (hb.mono (by simp));go_wp2
 go_ret
 exact⟨rfl,HB.v⟩
theorem BP(b g:Nat)(p q:Int)(t:Nat->Gp)(w:bD)(h:cC w b t)(hg:g<10)(hh:(t g).there=bE)(hf:jk p q 0=bF):Calls prog 138 #[ai (bB ⟨b,0,bC⟩),aa bf g,au #[aa bf p,aa bf q]] w λe w'=>e=bw (aq 100 (aa .i64 1))/\Below w.heap.size w w':=by
 have H:Hid (cC w b t/\(t g).there=bE/\jk p q 0=bF):=⟨h,hh,hf⟩;go_in
 go_wp2_with fail
 refine sC (jc b g t _ (H.1.below ((aQ _ _).alloc (aL _) _) H.1.lt) hg H.2.1) ?_;rintro w1 hw;subst hw;go_wp2_with fail
 refine sC (ts p q 0 _) ?_;rintro w2 hb;rw[H.2.2];have HB:Hid (Below w.heap.size w w2):=((aQ _ w).alloc (aL _) _).trans (hb.mono (by simp));go_wp2
 go_ret
 exact⟨rfl,HB.v⟩
section
variable {P:Program}{ops:Array Oper}{Q:Exit->Act->bD->Prop}{md:Region.Mode}{S:bD->Prop}
theorem Fz{row:String}{args:Array Value}{R:Value->bD->Prop}(h:Rows P row args w R):RowsIn (Fence.wide.inRound l) n P row args w R:=by
 unfold RowsIn;intro c cs _;obtain⟨v,w',r,s⟩:=h c cs;exact⟨v,w',r,stepsIn_wide.2 s⟩
theorem Mg{i:Nat}{K:Act->bD->Prop}{a:Act}(hd:∀(i:Nat) (o:Oper),ops[i]? =bB o->∀c,o.op≠ .defer c)(hL:¬LetsOut Q)(h:wpOp P ops Q i K a w):wpOpIn (Fence.wide.inRound l) n P ops Q i K a w:=by
 unfold wpOp at h;unfold wpOpIn;cases ho:ops[i]? with
 |none=>simp only[ho]at h|-;exact h
 |some o=>
  simp only[ho]at h|-;split
  .rename_i hw;simp only[hw,if_true]at h;rcases h with h|⟨_,h⟩
   .unfold Oper.wp at h;unfold Oper.wpIn;refine⟨λ_ _=>trivial,?_⟩;rw[Oper.semAt_eq _ _ _ (hd i o ho)];generalize (execOp a.eval o).run P w=r at*;have hdp:((Fence.wide.inRound l).depth.isSome=bE->1<=n):=λh=>by simp[Fence.wide]at h
    cases r with
    |ok x w'=>
     cases x<;>simp only[Oper.upon,Oper.uponIn]at h|- <;>
      first
       |exact h
       |exact⟨hdp,CallsIn.inRound l (callsIn_wide.2 h)⟩
       |exact⟨hdp,Fz h⟩
    |halt x w'=>cases x<;>simp only[Oper.upon,Oper.uponIn]at h|- <;>exact h
   .exact aZ h hL
  .rename_i hw;simp only[hw]at h;exact⟨λ_ _=>trivial,h⟩
theorem zw{n l:Nat}(hd:∀(i:Nat) (o:Oper),ops[i]? =bB o->∀c,o.op≠ .defer c)(hL:¬LetsOut Q):∀(fuel:Nat) (listed:Array Bool) (a:Act) (w:bD),wpAnyH P md ops Q S fuel listed a w->wpAnyIn (Fence.wide.inRound l) n P md ops Q fuel listed a w
 |0,_,_,_,h=>h
 |fuel+1,_,_,_,h=>⟨h.1,λi hi=>wpOpIn_mono (λa' w' h'=>zw hd hL fuel _ a' w' h'.2) (Mg hd hL (h.2 i hi))⟩
theorem wG{id:Nat}{a:Act}(hm:P.follows .mixedOrders=bE)(hd:∀(i:Nat) (o:Oper),ops[i]? =bB o->∀c,o.op≠ .defer c)(hL:¬LetsOut Q)
  (h:wpAnyH P .any ops Q S ops.size (Array.replicate ops.size bF) a w.drew):(Code.region id ops bE).wpIn (Fence.wide.inRound l) n P Q a w:=
 wpIn_region_any hm (zw hd hL _ _ _ _ h)
end
theorem rz(w:bD)(c:Array Value)(t:TypeId):(w.alloc (bA c t)).heap[w.heap.size]? =bB (bA c t (0,0)):=heap_alloc_new w _
structure F3 (W V:bD)(o9 o10:Option Nat):Prop where
 cZ:Below W.heap.size W V
 c9:∀n,o9=bB n->W.heap.size<=n/\V.heap[n]? =bB (bA #[aa bf 0,aa bf 0] 130 (0,0))
 ux:∀n,o10=bB n->W.heap.size<=n/\V.heap[n]? =bB (bA #[aa bf 0,aa bf 0] 130 (0,0))
 ne:∀n m,o9=bB n->o10=bB m->n≠m
section
variable {W V:bD}{o9 o10:Option Nat}
theorem F3.JA(h:F3 W V bC o10):F3 W (V.alloc (bA #[aa bf 0,aa bf 0] 130)) (bB V.heap.size) o10:=
 ⟨h.cZ.alloc h.cZ.size _,λn e=>by cases e;exact⟨h.cZ.size,rz _ _ _⟩,λn e=>⟨(h.ux n e).1,(Below.heap_alloc _ _ _ (aX.1 (h.ux n e).2).1).trans (h.ux n e).2⟩,λn m e e'=>by cases e;have:=(aX.1 (h.ux m e').2).1;omega⟩
theorem F3.Cv(h:F3 W V o9 bC):F3 W (V.alloc (bA #[aa bf 0,aa bf 0] 130)) o9 (bB V.heap.size):=
 ⟨h.cZ.alloc h.cZ.size _,λn e=>⟨(h.c9 n e).1,(Below.heap_alloc _ _ _ (aX.1 (h.c9 n e).2).1).trans (h.c9 n e).2⟩,λn e=>by cases e;exact⟨h.cZ.size,rz _ _ _⟩,λn m e e'=>by cases e';have:=(aX.1 (h.c9 n e).2).1;omega⟩
theorem F3.call{V':bD}(h:F3 W V o9 o10)(hb:Below V.heap.size V V'):F3 W V' o9 o10:=
 ⟨h.cZ.trans (hb.mono h.cZ.size),λn e=>⟨(h.c9 n e).1,(hb.block _ (aX.1 (h.c9 n e).2).1).trans (h.c9 n e).2⟩,λn e=>⟨(h.ux n e).1,(hb.block _ (aX.1 (h.ux n e).2).1).trans (h.ux n e).2⟩,h.ne⟩
end
structure F4 (W V:bD)(n9 n10:Nat)(X Y lp lq:Int):Prop where
 cZ:Below W.heap.size W V
 l9:W.heap.size<=n9
 VJ:W.heap.size<=n10
 ne:n9≠n10
 c9:V.heap[n9]? =bB (bA #[aa bf X,aa bf Y] 130 (0,0))
 ux:V.heap[n10]? =bB (bA #[aa bf lp,aa bf lq] 130 (0,0))
def vY:Array Oper:=#[{dst:=bB 15,op:=Op.load 79 (Operand.tmp 3),type:=79,pos:= "groups.go:240",after:=#[],guard:=bC},
 {dst:=bB 16,op:=Op.move (Operand.tmp 8),type:=3,pos:= "groups.go:240",after:=#[],guard:=bC},
 {dst:=bB 17,op:=Op.call {callee:=Callee.value (Operand.func 97),args:=#[Operand.tmp 15,Operand.tmp 16],argTypes:=#[79,3]},type:=130,pos:= "groups.go:240",after:=#[{on:=0,ground:=Ground.data},{on:=1,ground:=Ground.data}],guard:=bC},
 {dst:=bB 18,op:=Op.load 79 (Operand.tmp 3),type:=79,pos:= "groups.go:240",after:=#[{on:=12,ground:=Ground.gcOnly Departure.lateStores}],guard:=bC},
 {dst:=bB 19,op:=Op.move (Operand.tmp 8),type:=3,pos:= "groups.go:240",after:=#[{on:=12,ground:=Ground.gcOnly Departure.lateStores}],guard:=bC},
 {dst:=bB 20,op:=Op.nilCheck (Operand.tmp 18),type:=0,pos:= "groups.go:240",after:=#[{on:=3,ground:=Ground.data},{on:=12,ground:=Ground.gcOnly Departure.lateStores}],guard:=bC},
 {dst:=bB 21,op:=Op.fieldAddr 135 (Operand.tmp 20) 0,type:=0,pos:= "groups.go:240",after:=#[{on:=5,ground:=Ground.data},{on:=12,ground:=Ground.gcOnly Departure.lateStores}],guard:=bC},
 {dst:=bB 22,op:=Op.indexAddr 133 (Operand.tmp 21) (Operand.tmp 19),type:=0,pos:= "groups.go:240",after:=#[{on:=6,ground:=Ground.data},{on:=4,ground:=Ground.data},{on:=12,ground:=Ground.gcOnly Departure.lateStores}],guard:=bC},
 {dst:=bB 23,op:=Op.fieldAddr 132 (Operand.tmp 22) 2,type:=0,pos:= "groups.go:240",after:=#[{on:=7,ground:=Ground.data},{on:=12,ground:=Ground.gcOnly Departure.lateStores}],guard:=bC},
 {dst:=bB 24,op:=Op.load 130 (Operand.tmp 23),type:=130,pos:= "groups.go:240",after:=#[{on:=8,ground:=Ground.data},{on:=12,ground:=Ground.gcOnly Departure.lateStores}],guard:=bC},
 {dst:=bB 9,op:=Op.alloc 130,type:=0,pos:= "groups.go:240",after:=#[],guard:=bC},
 {dst:=bB 10,op:=Op.alloc 130,type:=0,pos:= "groups.go:240",after:=#[],guard:=bC},
 {dst:=bC,op:=Op.store 130 (Operand.tmp 9) (Operand.tmp 17),type:=0,pos:= "groups.go:240",after:=#[{on:=10,ground:=Ground.data},{on:=2,ground:=Ground.data},{on:=2,ground:=Ground.chain},{on:=0,ground:=Ground.phase},{on:=1,ground:=Ground.phase},{on:=2,ground:=Ground.phase},{on:=3,ground:=Ground.textOnly Departure.lateStores},{on:=4,ground:=Ground.textOnly Departure.lateStores},{on:=5,ground:=Ground.textOnly Departure.lateStores},{on:=6,ground:=Ground.textOnly Departure.lateStores},{on:=7,ground:=Ground.textOnly Departure.lateStores},{on:=8,ground:=Ground.textOnly Departure.lateStores},{on:=9,ground:=Ground.textOnly Departure.lateStores},{on:=10,ground:=Ground.phase},{on:=11,ground:=Ground.phase}],guard:=bC},
 {dst:=bC,op:=Op.store 130 (Operand.tmp 10) (Operand.tmp 24),type:=0,pos:= "groups.go:240",after:=#[{on:=11,ground:=Ground.data},{on:=9,ground:=Ground.data},{on:=12,ground:=Ground.chain},{on:=0,ground:=Ground.phase},{on:=1,ground:=Ground.phase},{on:=2,ground:=Ground.phase},{on:=3,ground:=Ground.phase},{on:=4,ground:=Ground.phase},{on:=5,ground:=Ground.phase},{on:=6,ground:=Ground.phase},{on:=7,ground:=Ground.phase},{on:=8,ground:=Ground.phase},{on:=9,ground:=Ground.phase},{on:=10,ground:=Ground.phase},{on:=11,ground:=Ground.phase},{on:=12,ground:=Ground.phase}],guard:=bC}]
theorem nA{Q:Exit->Act->bD->Prop}{W V:bD}{bt n9 n10:Nat}{X Y lp lq:Int}{c15 c16 c18 c19 j4 c21 c22 c23:Value}
  (hQ:∀(n9 n10:Nat) (V:bD) (c15 c16 c17 c18 c19 j4 c21 c22 c23 c24:Value),F4 W V n9 n10 X Y lp lq->Q .normal {tmps:=#[A0,A1,A2,ai (bB ⟨bt,0,bC⟩),A4,A5,A6,A7,aa bf (x:Int),ai (bB ⟨n9,0,bC⟩),ai (bB ⟨n10,0,bC⟩),A11,A12,A13,A14,c15,c16,c17,c18,c19,j4,c21,c22,c23,c24,undef,undef,undef,undef,undef,undef,undef,undef,undef,undef,undef,undef,undef,undef,undef,undef,undef],defers:=[]} V)
  (F:F3 W V (bB n9) (bB n10)):
  wpAnyH prog .any vY Q (λV=>Below W.heap.size W V) 2 #[bE,bE,bE,bE,bE,bE,bE,bE,bE,bE,bE,bE,bF,bF] {tmps:=#[A0,A1,A2,ai (bB ⟨bt,0,bC⟩),A4,A5,A6,A7,aa bf (x:Int),ai (bB ⟨n9,0,bC⟩),ai (bB ⟨n10,0,bC⟩),A11,A12,A13,A14,c15,c16,au #[aa bf X,aa bf Y],c18,c19,j4,c21,c22,c23,au #[aa bf lp,aa bf lq],undef,undef,undef,undef,undef,undef,undef,undef,undef,undef,undef,undef,undef,undef,undef,undef,undef],defers:=[]} V:=by
 have k9:=F.c9 n9 rfl;have k10:=F.ux n10 rfl;have hne:=F.ne n9 n10 rfl rfl;have e0:V.cell? ⟨n9,0,bC⟩=bB (aa .i64 0):=by rw[dv k9.2];rfl
 have e1:V.cell? ⟨n9,1,bC⟩=bB (aa .i64 0):=by rw[dv k9.2];rfl
 have ef:∀o,V.frozen? ⟨n9,o,bC⟩=bF:=λo=>kU k9.2 o;have F4a:Hid (F4 W ((((V.setCell ⟨n9,0,bC⟩ (aa bf X)).setCell ⟨n9,1,bC⟩ (aa bf Y)).setCell ⟨n10,0,bC⟩ (aa bf lp)).setCell ⟨n10,1,bC⟩ (aa bf lq)) n9 n10 X Y lp lq):=by
  have s1:(V.setCell ⟨n9,0,bC⟩ (aa bf X)).heap[n9]? =bB (bA #[aa bf X,aa bf 0] 130 (0,0)):=by rw[heap_set k9.2];rfl
  have s2:((V.setCell ⟨n9,0,bC⟩ (aa bf X)).setCell ⟨n9,1,bC⟩ (aa bf Y)).heap[n9]? =bB (bA #[aa bf X,aa bf Y] 130 (0,0)):=by rw[heap_set s1];rfl
  have t0:((V.setCell ⟨n9,0,bC⟩ (aa bf X)).setCell ⟨n9,1,bC⟩ (aa bf Y)).heap[n10]? =bB (bA #[aa bf 0,aa bf 0] 130 (0,0)):=by rw[dS _ _ _ _ (bQ hne),dS _ _ _ _ (bQ hne)];exact k10.2
  have t1:(((V.setCell ⟨n9,0,bC⟩ (aa bf X)).setCell ⟨n9,1,bC⟩ (aa bf Y)).setCell ⟨n10,0,bC⟩ (aa bf lp)).heap[n10]? =bB (bA #[aa bf lp,aa bf 0] 130 (0,0)):=by rw[heap_set t0];rfl
  refine⟨(((F.cZ.setCell k9.1 _).setCell k9.1 _).setCell k10.1 _).setCell k10.1 _,k9.1,k10.1,hne,?_,?_⟩
  .rw[dS _ _ _ _ hne,dS _ _ _ _ hne];exact s2
  .rw[heap_set t1];rfl
 have B0:Hid (Below W.heap.size W V):=F.cZ;have HK:Hid (W.heap.size<=n9/\W.heap.size<=n10):=⟨k9.1,k10.1⟩;have g0:V.cell? ⟨n10,0,bC⟩=bB (aa .i64 0):=by rw[dv k10.2];rfl
 have g1:V.cell? ⟨n10,1,bC⟩=bB (aa .i64 0):=by rw[dv k10.2];rfl
 have gf:∀o,V.frozen? ⟨n10,o,bC⟩=bF:=λo=>kU k10.2 o;have hne':n10≠n9:=bQ hne;refine wpAnyH_ready (rs:=[12]) bH (by simp) ?_;refine AllReadyH.cons (o:={dst:=bC,op:=Op.store 130 (Operand.tmp 9) (Operand.tmp 17),type:=0,pos:= "groups.go:240",after:=#[{on:=10,ground:=Ground.data},{on:=2,ground:=Ground.data},{on:=2,ground:=Ground.chain},{on:=0,ground:=Ground.phase},{on:=1,ground:=Ground.phase},{on:=2,ground:=Ground.phase},{on:=3,ground:=Ground.textOnly Departure.lateStores},{on:=4,ground:=Ground.textOnly Departure.lateStores},{on:=5,ground:=Ground.textOnly Departure.lateStores},{on:=6,ground:=Ground.textOnly Departure.lateStores},{on:=7,ground:=Ground.textOnly Departure.lateStores},{on:=8,ground:=Ground.textOnly Departure.lateStores},{on:=9,ground:=Ground.textOnly Departure.lateStores},{on:=10,ground:=Ground.phase},{on:=11,ground:=Ground.phase}],guard:=bC}) rfl (λK hK=>?_) AllReadyH.nil;go_simp
 refine hK.out _ _ ((B0.setCell HK.1 _).setCell HK.1 _) (λ_=>?_);refine wpAnyH_ready (rs:=[13]) bH (by simp) ?_;refine AllReadyH.cons (o:={dst:=bC,op:=Op.store 130 (Operand.tmp 10) (Operand.tmp 24),type:=0,pos:= "groups.go:240",after:=#[{on:=11,ground:=Ground.data},{on:=9,ground:=Ground.data},{on:=12,ground:=Ground.chain},{on:=0,ground:=Ground.phase},{on:=1,ground:=Ground.phase},{on:=2,ground:=Ground.phase},{on:=3,ground:=Ground.phase},{on:=4,ground:=Ground.phase},{on:=5,ground:=Ground.phase},{on:=6,ground:=Ground.phase},{on:=7,ground:=Ground.phase},{on:=8,ground:=Ground.phase},{on:=9,ground:=Ground.phase},{on:=10,ground:=Ground.phase},{on:=11,ground:=Ground.phase},{on:=12,ground:=Ground.phase}],guard:=bC}) rfl (λK hK=>?_) AllReadyH.nil;go_simp
 refine hK.out _ _ F4a.cZ (λ_=>?_);exact wpAnyH_done bH (hQ _ _ _ _ _ _ _ _ _ _ _ _ _ F4a.v) _
theorem NH{Q:Exit->Act->bD->Prop}{W:bD}{bt:Nat}{t:Nat->Gp}(hL:¬LetsOut Q)(hP:∀c (a:Act) d v w,Q (.panic c) (a.put d v) w->Q (.panic c) a w)
  (hTW:cC W b t) (hW:fH t Wy) (hS:Small t) (hx:x<10) (d0:W.cell? ⟨bt,0,bC⟩=bB (ai (bB ⟨b,0,bC⟩)))
  (hQ:∀(n9 n10:Nat) (V:bD) (c15 c16 c17 c18 c19 j4 c21 c22 c23 c24:Value),F4 W V n9 n10 (dg t Wy x Gp.op 10) (dg t Wy x Gp.oq 10) (t x).lp (t x).lq->Q .normal {tmps:=#[A0,A1,A2,ai (bB ⟨bt,0,bC⟩),A4,A5,A6,A7,aa bf (x:Int),ai (bB ⟨n9,0,bC⟩),ai (bB ⟨n10,0,bC⟩),A11,A12,A13,A14,c15,c16,c17,c18,c19,j4,c21,c22,c23,c24,undef,undef,undef,undef,undef,undef,undef,undef,undef,undef,undef,undef,undef,undef,undef,undef,undef],defers:=[]} V):
  (Code.region 3 vY bE).wpIn (Fence.wide.inRound l) n prog Q {tmps:=#[A0,A1,A2,ai (bB ⟨bt,0,bC⟩),A4,A5,A6,A7,aa bf (x:Int),undef,undef,A11,A12,A13,A14,undef,undef,undef,undef,undef,undef,undef,undef,undef,undef,undef,undef,undef,undef,undef,undef,undef,undef,undef,undef,undef,undef,undef,undef,undef,undef,undef],defers:=[]} W:=by
 have hbl:=hTW.lt;have hbtl:bt<W.heap.size:=bZ _ _ d0;have d1:W.cell? ⟨b,x*6+2,bC⟩=bB (aa bf (t x).lp):=hTW.cell x 2 hx bG;have d2:W.cell? ⟨b,x*6+2+1,bC⟩=bB (aa bf (t x).lq):=hTW.cell x 3 hx bG;have HC:∀V,Below W.heap.size W V->V.cell? ⟨bt,0,bC⟩=bB (ai (bB ⟨b,0,bC⟩))/\V.cell? ⟨b,x*6+2,bC⟩=bB (aa bf (t x).lp)/\V.cell? ⟨b,x*6+2+1,bC⟩=bB (aa bf (t x).lq):=λV h=>⟨(h.cell (p:=⟨bt,0,bC⟩) hbtl).trans d0,(h.cell (p:=⟨b,x*6+2,bC⟩) hbl).trans d1,(h.cell (p:=⟨b,x*6+2+1,bC⟩) hbl).trans d2⟩;have hxI:(x:Int)<10:=bG
 have hS0:Below W.heap.size W W.drew:=(aQ _ _).drew;have F0:F3 W W.drew bC none:=⟨hS0,by nofun,by nofun,by nofun⟩;refine wG (S:=λV=>Below W.heap.size W V) bH ?_ hL ?_
 .have hall:∀o∈vY.toList,∀c,o.op≠ .defer c:=by
   intro o ho c;simp only[vY,List.mem_cons,List.not_mem_nil,or_false]at ho;rcases ho with rfl|rfl|rfl|rfl|rfl|rfl|rfl|rfl|rfl|rfl|rfl|rfl|rfl|rfl<;>simp
  intro i o ho;exact hall o (by simpa using Array.mem_of_getElem? ho)
 generalize W.drew=V0 at*;dsimp only;refine wpAnyH_take (i:=0) (oi:={dst:=bB 15,op:=Op.load 79 (Operand.tmp 3),type:=79,pos:= "groups.go:240",after:=#[],guard:=bC}) (v:=?_) rfl bH bH bH (λ_ _ _ h=>hP _ _ _ _ _ h) (Or.inl ⟨by rfl,?_⟩) hS0 ?_
 rotate_left
 .intro V hV;obtain⟨c0,c1,c2⟩:=HC V hV;go_simp
  try with_reducible rfl
 simp only[Act.put,List.setIfInBounds_toArray,List.set_cons_zero,List.set_cons_succ];refine wpAnyH_take (i:=1) (oi:={dst:=bB 16,op:=Op.move (Operand.tmp 8),type:=3,pos:= "groups.go:240",after:=#[],guard:=bC}) (v:=?_) rfl bH bH bH (λ_ _ _ h=>hP _ _ _ _ _ h) (Or.inl ⟨by rfl,?_⟩) hS0 ?_
 rotate_left
 .intro V hV;obtain⟨c0,c1,c2⟩:=HC V hV;go_simp
  try with_reducible rfl
 simp only[Act.put,List.setIfInBounds_toArray,List.set_cons_zero,List.set_cons_succ];refine wpAnyH_take (i:=3) (oi:={dst:=bB 18,op:=Op.load 79 (Operand.tmp 3),type:=79,pos:= "groups.go:240",after:=#[{on:=12,ground:=Ground.gcOnly Departure.lateStores}],guard:=bC}) (v:=?_) rfl bH bH bH (λ_ _ _ h=>hP _ _ _ _ _ h) (Or.inl ⟨by rfl,?_⟩) hS0 ?_
 rotate_left
 .intro V hV;obtain⟨c0,c1,c2⟩:=HC V hV;go_simp
  try with_reducible rfl
 simp only[Act.put,List.setIfInBounds_toArray,List.set_cons_zero,List.set_cons_succ];refine wpAnyH_take (i:=4) (oi:={dst:=bB 19,op:=Op.move (Operand.tmp 8),type:=3,pos:= "groups.go:240",after:=#[{on:=12,ground:=Ground.gcOnly Departure.lateStores}],guard:=bC}) (v:=?_) rfl bH bH bH (λ_ _ _ h=>hP _ _ _ _ _ h) (Or.inl ⟨by rfl,?_⟩) hS0 ?_
 rotate_left
 .intro V hV;obtain⟨c0,c1,c2⟩:=HC V hV;go_simp
  try with_reducible rfl
 simp only[Act.put,List.setIfInBounds_toArray,List.set_cons_zero,List.set_cons_succ];refine wpAnyH_take (i:=5) (oi:={dst:=bB 20,op:=Op.nilCheck (Operand.tmp 18),type:=0,pos:= "groups.go:240",after:=#[{on:=3,ground:=Ground.data},{on:=12,ground:=Ground.gcOnly Departure.lateStores}],guard:=bC}) (v:=?_) rfl bH bH bH (λ_ _ _ h=>hP _ _ _ _ _ h) (Or.inl ⟨by rfl,?_⟩) hS0 ?_
 rotate_left
 .intro V hV;obtain⟨c0,c1,c2⟩:=HC V hV;go_simp
  try with_reducible rfl
 simp only[Act.put,List.setIfInBounds_toArray,List.set_cons_zero,List.set_cons_succ];refine wpAnyH_take (i:=6) (oi:={dst:=bB 21,op:=Op.fieldAddr 135 (Operand.tmp 20) 0,type:=0,pos:= "groups.go:240",after:=#[{on:=5,ground:=Ground.data},{on:=12,ground:=Ground.gcOnly Departure.lateStores}],guard:=bC}) (v:=?_) rfl bH bH bH (λ_ _ _ h=>hP _ _ _ _ _ h) (Or.inl ⟨by rfl,?_⟩) hS0 ?_
 rotate_left
 .intro V hV;obtain⟨c0,c1,c2⟩:=HC V hV;go_simp
  try with_reducible rfl
 simp only[Act.put,List.setIfInBounds_toArray,List.set_cons_zero,List.set_cons_succ];refine wpAnyH_take (i:=7) (oi:={dst:=bB 22,op:=Op.indexAddr 133 (Operand.tmp 21) (Operand.tmp 19),type:=0,pos:= "groups.go:240",after:=#[{on:=6,ground:=Ground.data},{on:=4,ground:=Ground.data},{on:=12,ground:=Ground.gcOnly Departure.lateStores}],guard:=bC}) (v:=?_) rfl bH bH bH (λ_ _ _ h=>hP _ _ _ _ _ h) (Or.inl ⟨by rfl,?_⟩) hS0 ?_
 rotate_left
 .intro V hV;obtain⟨c0,c1,c2⟩:=HC V hV;go_simp
  try with_reducible rfl
 simp only[Act.put,List.setIfInBounds_toArray,List.set_cons_zero,List.set_cons_succ];refine wpAnyH_take (i:=8) (oi:={dst:=bB 23,op:=Op.fieldAddr 132 (Operand.tmp 22) 2,type:=0,pos:= "groups.go:240",after:=#[{on:=7,ground:=Ground.data},{on:=12,ground:=Ground.gcOnly Departure.lateStores}],guard:=bC}) (v:=?_) rfl bH bH bH (λ_ _ _ h=>hP _ _ _ _ _ h) (Or.inl ⟨by rfl,?_⟩) hS0 ?_
 rotate_left
 .intro V hV;obtain⟨c0,c1,c2⟩:=HC V hV;go_simp
  try with_reducible rfl
 simp only[Act.put,List.setIfInBounds_toArray,List.set_cons_zero,List.set_cons_succ];refine wpAnyH_take (i:=9) (oi:={dst:=bB 24,op:=Op.load 130 (Operand.tmp 23),type:=130,pos:= "groups.go:240",after:=#[{on:=8,ground:=Ground.data},{on:=12,ground:=Ground.gcOnly Departure.lateStores}],guard:=bC}) (v:=?_) rfl bH bH bH (λ_ _ _ h=>hP _ _ _ _ _ h) (Or.inl ⟨by rfl,?_⟩) hS0 ?_
 rotate_left
 .intro V hV;obtain⟨c0,c1,c2⟩:=HC V hV;go_simp
  try with_reducible rfl
 simp only[Act.put,List.setIfInBounds_toArray,List.set_cons_zero,List.set_cons_succ];refine wpAnyH_ready (rs:=[2,10,11]) bH (by simp) ?_;refine AllReadyH.cons (o:={dst:=bB 17,op:=Op.call {callee:=Callee.value (Operand.func 97),args:=#[Operand.tmp 15,Operand.tmp 16],argTypes:=#[79,3]},type:=130,pos:= "groups.go:240",after:=#[{on:=0,ground:=Ground.data},{on:=1,ground:=Ground.data}],guard:=bC}) rfl (λK hK=>?_) ?_
 .go_simp
  refine sC (kE b x t Wy _ (hTW.below F0.cZ hbl) hW hS) ?_;rintro V1 hb;have F1:=F0.call hb;refine hK.out _ _ F1.cZ (λ_=>?_)
  try simp only[Act.put,List.setIfInBounds_toArray,List.set_cons_zero,List.set_cons_succ]
  refine wpAnyH_ready (rs:=[10,11]) bH (by simp) ?_;refine AllReadyH.cons (o:={dst:=bB 9,op:=Op.alloc 130,type:=0,pos:= "groups.go:240",after:=#[],guard:=bC}) rfl (λK hK=>?_) ?_
  .go_simp
   have F2:=F1.JA;refine hK.out _ _ F2.cZ (λ_=>?_);generalize World.alloc V1 _=V2 at F2|-;generalize V1.heap.size=n9 at F2|-
   try simp only[Act.put,List.setIfInBounds_toArray,List.set_cons_zero,List.set_cons_succ]
   refine wpAnyH_ready (rs:=[11]) bH (by simp) ?_;refine AllReadyH.cons (o:={dst:=bB 10,op:=Op.alloc 130,type:=0,pos:= "groups.go:240",after:=#[],guard:=bC}) rfl (λK hK=>?_) ?_
   .go_simp
    have F3:=F2.Cv;refine hK.out _ _ F3.cZ (λ_=>?_);generalize World.alloc V2 _=V3 at F3|-;generalize V2.heap.size=n10 at F3|-
    try simp only[Act.put,List.setIfInBounds_toArray,List.set_cons_zero,List.set_cons_succ]
    exact nA hQ F3
   exact AllReadyH.nil
  refine AllReadyH.cons (o:={dst:=bB 10,op:=Op.alloc 130,type:=0,pos:= "groups.go:240",after:=#[],guard:=bC}) rfl (λK hK=>?_) ?_
  .go_simp
   have F2:=F1.Cv;refine hK.out _ _ F2.cZ (λ_=>?_);generalize World.alloc V1 _=V2 at F2|-;generalize V1.heap.size=n10 at F2|-
   try simp only[Act.put,List.setIfInBounds_toArray,List.set_cons_zero,List.set_cons_succ]
   refine wpAnyH_ready (rs:=[10]) bH (by simp) ?_;refine AllReadyH.cons (o:={dst:=bB 9,op:=Op.alloc 130,type:=0,pos:= "groups.go:240",after:=#[],guard:=bC}) rfl (λK hK=>?_) ?_
   .go_simp
    have F3:=F2.JA;refine hK.out _ _ F3.cZ (λ_=>?_);generalize World.alloc V2 _=V3 at F3|-;generalize V2.heap.size=n9 at F3|-
    try simp only[Act.put,List.setIfInBounds_toArray,List.set_cons_zero,List.set_cons_succ]
    exact nA hQ F3
   exact AllReadyH.nil
  exact AllReadyH.nil
 refine AllReadyH.cons (o:={dst:=bB 9,op:=Op.alloc 130,type:=0,pos:= "groups.go:240",after:=#[],guard:=bC}) rfl (λK hK=>?_) ?_
 .go_simp
  have F1:=F0.JA;refine hK.out _ _ F1.cZ (λ_=>?_);generalize World.alloc V0 _=V1 at F1|-;generalize V0.heap.size=n9 at F1|-
  try simp only[Act.put,List.setIfInBounds_toArray,List.set_cons_zero,List.set_cons_succ]
  refine wpAnyH_ready (rs:=[2,11]) bH (by simp) ?_;refine AllReadyH.cons (o:={dst:=bB 17,op:=Op.call {callee:=Callee.value (Operand.func 97),args:=#[Operand.tmp 15,Operand.tmp 16],argTypes:=#[79,3]},type:=130,pos:= "groups.go:240",after:=#[{on:=0,ground:=Ground.data},{on:=1,ground:=Ground.data}],guard:=bC}) rfl (λK hK=>?_) ?_
  .go_simp
   refine sC (kE b x t Wy _ (hTW.below F1.cZ hbl) hW hS) ?_;rintro V2 hb;have F2:=F1.call hb;refine hK.out _ _ F2.cZ (λ_=>?_)
   try simp only[Act.put,List.setIfInBounds_toArray,List.set_cons_zero,List.set_cons_succ]
   refine wpAnyH_ready (rs:=[11]) bH (by simp) ?_;refine AllReadyH.cons (o:={dst:=bB 10,op:=Op.alloc 130,type:=0,pos:= "groups.go:240",after:=#[],guard:=bC}) rfl (λK hK=>?_) ?_
   .go_simp
    have F3:=F2.Cv;refine hK.out _ _ F3.cZ (λ_=>?_);generalize World.alloc V2 _=V3 at F3|-;generalize V2.heap.size=n10 at F3|-
    try simp only[Act.put,List.setIfInBounds_toArray,List.set_cons_zero,List.set_cons_succ]
    exact nA hQ F3
   exact AllReadyH.nil
  refine AllReadyH.cons (o:={dst:=bB 10,op:=Op.alloc 130,type:=0,pos:= "groups.go:240",after:=#[],guard:=bC}) rfl (λK hK=>?_) ?_
  .go_simp
   have F2:=F1.Cv;refine hK.out _ _ F2.cZ (λ_=>?_);generalize World.alloc V1 _=V2 at F2|-;generalize V1.heap.size=n10 at F2|-
   try simp only[Act.put,List.setIfInBounds_toArray,List.set_cons_zero,List.set_cons_succ]
   refine wpAnyH_ready (rs:=[2]) bH (by simp) ?_;refine AllReadyH.cons (o:={dst:=bB 17,op:=Op.call {callee:=Callee.value (Operand.func 97),args:=#[Operand.tmp 15,Operand.tmp 16],argTypes:=#[79,3]},type:=130,pos:= "groups.go:240",after:=#[{on:=0,ground:=Ground.data},{on:=1,ground:=Ground.data}],guard:=bC}) rfl (λK hK=>?_) ?_
   .go_simp
    refine sC (kE b x t Wy _ (hTW.below F2.cZ hbl) hW hS) ?_;rintro V3 hb;have F3:=F2.call hb;refine hK.out _ _ F3.cZ (λ_=>?_)
    try simp only[Act.put,List.setIfInBounds_toArray,List.set_cons_zero,List.set_cons_succ]
    exact nA hQ F3
   exact AllReadyH.nil
  exact AllReadyH.nil
 refine AllReadyH.cons (o:={dst:=bB 10,op:=Op.alloc 130,type:=0,pos:= "groups.go:240",after:=#[],guard:=bC}) rfl (λK hK=>?_) ?_
 .go_simp
  have F1:=F0.Cv;refine hK.out _ _ F1.cZ (λ_=>?_);generalize World.alloc V0 _=V1 at F1|-;generalize V0.heap.size=n10 at F1|-
  try simp only[Act.put,List.setIfInBounds_toArray,List.set_cons_zero,List.set_cons_succ]
  refine wpAnyH_ready (rs:=[2,10]) bH (by simp) ?_;refine AllReadyH.cons (o:={dst:=bB 17,op:=Op.call {callee:=Callee.value (Operand.func 97),args:=#[Operand.tmp 15,Operand.tmp 16],argTypes:=#[79,3]},type:=130,pos:= "groups.go:240",after:=#[{on:=0,ground:=Ground.data},{on:=1,ground:=Ground.data}],guard:=bC}) rfl (λK hK=>?_) ?_
  .go_simp
   refine sC (kE b x t Wy _ (hTW.below F1.cZ hbl) hW hS) ?_;rintro V2 hb;have F2:=F1.call hb;refine hK.out _ _ F2.cZ (λ_=>?_)
   try simp only[Act.put,List.setIfInBounds_toArray,List.set_cons_zero,List.set_cons_succ]
   refine wpAnyH_ready (rs:=[10]) bH (by simp) ?_;refine AllReadyH.cons (o:={dst:=bB 9,op:=Op.alloc 130,type:=0,pos:= "groups.go:240",after:=#[],guard:=bC}) rfl (λK hK=>?_) ?_
   .go_simp
    have F3:=F2.JA;refine hK.out _ _ F3.cZ (λ_=>?_);generalize World.alloc V2 _=V3 at F3|-;generalize V2.heap.size=n9 at F3|-
    try simp only[Act.put,List.setIfInBounds_toArray,List.set_cons_zero,List.set_cons_succ]
    exact nA hQ F3
   exact AllReadyH.nil
  refine AllReadyH.cons (o:={dst:=bB 9,op:=Op.alloc 130,type:=0,pos:= "groups.go:240",after:=#[],guard:=bC}) rfl (λK hK=>?_) ?_
  .go_simp
   have F2:=F1.JA;refine hK.out _ _ F2.cZ (λ_=>?_);generalize World.alloc V1 _=V2 at F2|-;generalize V1.heap.size=n9 at F2|-
   try simp only[Act.put,List.setIfInBounds_toArray,List.set_cons_zero,List.set_cons_succ]
   refine wpAnyH_ready (rs:=[2]) bH (by simp) ?_;refine AllReadyH.cons (o:={dst:=bB 17,op:=Op.call {callee:=Callee.value (Operand.func 97),args:=#[Operand.tmp 15,Operand.tmp 16],argTypes:=#[79,3]},type:=130,pos:= "groups.go:240",after:=#[{on:=0,ground:=Ground.data},{on:=1,ground:=Ground.data}],guard:=bC}) rfl (λK hK=>?_) ?_
   .go_simp
    refine sC (kE b x t Wy _ (hTW.below F2.cZ hbl) hW hS) ?_;rintro V3 hb;have F3:=F2.call hb;refine hK.out _ _ F3.cZ (λ_=>?_)
    try simp only[Act.put,List.setIfInBounds_toArray,List.set_cons_zero,List.set_cons_succ]
    exact nA hQ F3
   exact AllReadyH.nil
  exact AllReadyH.nil
 exact AllReadyH.nil
attribute [local go_sem] Oper.semAt_some
theorem oE{W:bD}(h:Below W.heap.size W W'):KeepsOthers W W':=
 ⟨h.size,λk _ hk _=>(h.block k (aX.1 hk).1).trans hk⟩
theorem K2.cO{bt:Nat}{W:bD}(h:Below W.heap.size W W')(h1:b<W.heap.size)(h2:bt<W.heap.size):K2 b bt W W':=⟨h.block b h1,h.block bt h2⟩
def ib(t:Nat->Gp)(Wy:Nat->List (Fin 10))(p q:Int)(y:Fin 10):Bool:=
 mO (dg t Wy y.val Gp.op 10) p (t y.val).lp||mO (dg t Wy y.val Gp.oq 10) q (t y.val).lq
structure Lk (w W:bD)(b:Nat)(p q g:Int)(f:Bool):Prop where
 cZ:Below w.heap.size w W
 bt:W.heap[w.heap.size]? =bB (bA #[ai (bB ⟨b,0,bC⟩)] 79 (0,0))
 bm:W.heap[w.heap.size+1]? =bB (bA #[aa bf p,aa bf q] 130 (0,0))
 r1:W.heap[w.heap.size+1+1]? =bB (bA #[aa bf g] 3 (0,0))
 r2:W.heap[w.heap.size+1+1+1]? =bB (bA #[ar f] 4 (0,0))
theorem Lk.below{W:bD}(h:Lk w W b p q g f)(hb:Below W.heap.size W W'):Lk w W' b p q g f:=by
 have h1:=(aX.1 h.r2).1;exact⟨h.cZ.trans (hb.mono h.cZ.size),(hb.block _ bG).trans h.bt,(hb.block _ bG).trans h.bm,(hb.block _ bG).trans h.r1,(hb.block _ h1).trans h.r2⟩
theorem Lk.own(w:bD)(b:Nat)(p q g:Int)(f:Bool){β:Type}:OwnFrom (β:=β) (w.heap.size+1+1+1+1+1+1) (λ_ W=>Lk w W b p q g f):=λs W W' row hs hg hr=>by
 have h1:=(aX.1 hs.r2).1;have hk:∀k,k<w.heap.size+1+1+1+1->W'.heap[k]? =W.heap[k]? :=λk hk=>hg.block k bG (λe=>by have:=(hr k e.symm).1;omega);refine⟨hs.cZ.grown hg bG (λk e=>by have:=(hr k e).1;omega),(hk _ bG).trans hs.bt,(hk _ bG).trans hs.bm,(hk _ bG).trans hs.r1,(hk _ bG).trans hs.r2⟩
theorem Oa(w:bD)(b:Nat)(p q g:Int)(o5 o6:Obj):Lk w ((((((w.alloc (bA #[ai (bB ⟨b,0,bC⟩)] 79)).alloc (bA #[aa bf p,aa bf q] 130)).alloc (bA #[aa bf g] 3)).alloc (bA #[ar bF] 4)).alloc o5).alloc o6) b p q g bF:=by
 have A:=UK w (bA #[ai (bB ⟨b,0,bC⟩)] 79) (bA #[aa bf p,aa bf q] 130) (bA #[aa bf g] 3) (bA #[ar bF] 4);have B:=AV w (bA #[ai (bB ⟨b,0,bC⟩)] 79) (bA #[aa bf p,aa bf q] 130) (bA #[aa bf g] 3) (bA #[ar bF] 4);have hs:=World.size_alloc;refine Lk.below ⟨B,A.1,A.2.1,A.2.2.1,A.2.2.2⟩ (((aQ _ _).alloc (aL _) _).alloc (by simp) _)
theorem N7(w:bD)(o1 o2 o3 o4 o5 o6:Obj):((((((w.alloc o1).alloc o2).alloc o3).alloc o4).alloc o5).alloc o6).heap[w.heap.size+1+1+1+1]? =bB o5/\((((((w.alloc o1).alloc o2).alloc o3).alloc o4).alloc o5).alloc o6).heap[w.heap.size+1+1+1+1+1]? =bB o6:=by
 have A:=UJ ((((w.alloc o1).alloc o2).alloc o3).alloc o4) o5 o6;simp only[World.size_alloc]at A;exact A
theorem Lk.fin{W:bD}(h:Lk w W b p q g f)(g':Int)(f':Bool):Lk w ((W.setCell ⟨w.heap.size+1+1,0,bC⟩ (aa bf g')).setCell ⟨w.heap.size+1+1+1,0,bC⟩ (ar f')) b p q g' f':=by
 have e1:(W.setCell ⟨w.heap.size+1+1,0,bC⟩ (aa bf g')).heap[w.heap.size+1+1]? =bB (bA #[aa bf g'] 3 (0,0)):=by rw[heap_set h.r1];rfl
 have e2:(W.setCell ⟨w.heap.size+1+1,0,bC⟩ (aa bf g')).heap[w.heap.size+1+1+1]? =bB (bA #[ar f] 4 (0,0)):=by rw[dS _ _ _ _ bG];exact h.r2
 refine⟨(h.cZ.setCell (p:=⟨w.heap.size+1+1,0,bC⟩) (by simp;omega) _).setCell (p:=⟨w.heap.size+1+1+1,0,bC⟩) (by simp;omega) _,?_,?_,?_,?_⟩
 .rw[dS _ _ _ _ bG,dS _ _ _ _ bG];exact h.bt
 .rw[dS _ _ _ _ bG,dS _ _ _ _ bG];exact h.bm
 .rw[dS _ _ _ _ bG];exact e1
 .rw[heap_set e2];rfl
theorem rQ(b:Nat)(g p q:Int)(t:Nat->Gp)(Wy:Nat->List (Fin 10))(xs:List (Fin 10))(w:bD)(hT:cC w b t)(hW:fH t Wy)(hS:Small t)(hL:Way t g (kA xs))(hp:0<=p/\p<=1000)(hq:0<=q/\q<=1000):
  Calls prog 139 #[ai (bB ⟨b,0,bC⟩),aa bf g,au #[aa bf p,aa bf q]] w λe W'=>(((∀y∈xs,ib t Wy p q y=bF)/\e=bw (ao #[aa bf 0,ar bF]))\/
   (∃pre x rest,xs=pre++x::rest/\(∀y∈pre,ib t Wy p q y=bF)/\ib t Wy p q x=bE/\e=bw (ao #[aa bf (x.val:Int),ar bE])))/\Below w.heap.size w W':=by
 refine(callsIn_wide (n:=4)).1 ?_;refine callsIn_of_wp_marks Tryz.func139 rfl trivial ?_ rfl;simp only[Tryz.ntmps139,List.size_toArray,List.length_cons,List.length_nil,Nat.reduceAdd,Nat.reduceSub,Array.replicate_succ,Array.replicate_zero,List.push_toArray,List.append_toArray,List.nil_append,List.cons_append]
 gi_wp2_with (refine⟨trivial,?_⟩;gi_at_call 216;refine(callsIn_wide.2 (AM b g _)).mono ?_;rintro e w' ⟨rfl,rfl⟩)
 have hLk:=Oa w b p q 0 (bA #[ai (bB ⟨b,0,bC⟩)] 79) (bA #[aa bf g] 3);have hbx:=N7 w (bA #[ai (bB ⟨b,0,bC⟩)] 79) (bA #[aa bf p,aa bf q] 130) (bA #[aa bf 0] 3) (bA #[ar bF] 4) (bA #[ai (bB ⟨b,0,bC⟩)] 79) (bA #[aa bf g] 3);have c5:=gX hbx.2;have hbl:=hT.lt;refine wpIn_rangeFunc_ownF rfl bG (gf:=267) (lb:=#[ai (bB ⟨w.heap.size+1+1+1+1+1,0,bC⟩),ai (bB ⟨w.heap.size+1+1+1+1,0,bC⟩)]) rfl trivial (enters_of Tryz.func267 bH rfl)
  (vF 3 bG (w.heap.size+1+1+1+1+1) (w.heap.size+1+1+1+1) b g t xs _ (by simp) c5.1 hbx.1 (hT.below hLk.cZ hbl) hL) K2.t (K2.b (by simp;omega) (by simp)) (aQ _ _) (λ_=>rfl)
  (λpre W=>(∀y∈pre,ib t Wy p q y=bF)/\Lk w W b p q 0 bF/\w.heap.size+1+1+1+1+1+1<=W.heap.size)
  (λc pre W=>(c= .ret/\∃pre0 x,pre=pre0++[x]/\(∀y∈pre0,ib t Wy p q y=bF)/\ib t Wy p q x=bE/\Lk w W b p q (x.val:Int) bE))
  (λs W W' row hs hg hr=>⟨hs.1,Lk.own w b p q 0 bF s W W' row hs.2.1 hg (λr e=>by have:=hr r e;simpa using this),by have:=hg.size;omega⟩)
  (λc s W W' row hs hg hr=>⟨hs.1,by
   obtain⟨pre0,x,h1,h2,h3,h4⟩:=hs.2;exact⟨pre0,x,h1,h2,h3,Lk.own w b p q (x.val:Int) bE s W W' row h4 hg (λr e=>by have:=hr r e;simpa using this)⟩⟩)
  ⟨by simp,hLk,by simp⟩
  (λx=>{tmps:=#[ai (bB ⟨b,0,bC⟩),aa bf g,au #[aa bf p,aa bf q],ai (bB ⟨w.heap.size,0,bC⟩),undef,ai (bB ⟨w.heap.size+1,0,bC⟩),ai (bB ⟨w.heap.size+1+1,0,bC⟩),ai (bB ⟨w.heap.size+1+1+1,0,bC⟩),aa bf (x.val:Int),undef,undef,ai (bB ⟨b,0,bC⟩),aa bf g, .func (.func 267) #[] #[ai (bB ⟨w.heap.size+1+1+1+1+1,0,bC⟩),ai (bB ⟨w.heap.size+1+1+1+1,0,bC⟩)],aa bf (x.val:Int),undef,undef,undef,undef,undef,undef,undef,undef,undef,undef,undef,undef,undef,undef,undef,undef,undef,undef,undef,undef,undef,undef,undef,undef,undef,undef,undef],defers:=[]}) ?assign ?body ?done ?stop
 case assign=>
  intro l x W K hK
  gi_wp2
  exact hK
 case body=>
  rintro l pre x W ⟨hpre,hLk,hsz⟩ _;have T1:Hid (cC W b t):=hT.below hLk.cZ hbl;have L1:Hid (Lk w W b p q 0 bF):=hLk;have HP:Hid (∀y∈pre,ib t Wy p q y=bF):=hpre;have hmx:prog.follows .mixedOrders=bE:=by kernel_rfl
  have d0:W.cell? ⟨w.heap.size,0,bC⟩=bB (ai (bB ⟨b,0,bC⟩)):=by rw[dv hLk.bt];rfl
  have d1:W.cell? ⟨b,x.val*6+2,bC⟩=bB (aa bf (t x.val).lp):=T1.cell x.val 2 x.isLt bG;have d2:W.cell? ⟨b,x.val*6+2+1,bC⟩=bB (aa bf (t x.val).lq):=T1.cell x.val 3 x.isLt bG;have d3:W.cell? ⟨b,x.val*6+3,bC⟩=bB (aa bf (t x.val).lq):=d2;have hxI:(x.val:Int)<10:=by have:=x.isLt;omega
  gi_wp2
  have B1:=qM Wy x.val (λk hk=>(hS k hk).1) 10 bG;have B2:=qM Wy x.val (λk hk=>(hS k hk).2) 10 bG;refine NH (t:=t) (Wy:=Wy) (x:=x.val) ?_ (λ_ _ _ _ _ h=>h) T1.v hW hS x.isLt d0 ?_
  .rintro⟨a,w,h⟩;exact h
  intro n9 n10 V c15 c16 c17 c18 c19 j4 c21 c22 c23 c24 F;have eL:ib t Wy p q x=(mO (dg t Wy x.val Gp.op 10) p (t x.val).lp||mO (dg t Wy x.val Gp.oq 10) q (t x.val).lq):=rfl;have L2:Hid (Lk w V b p q 0 bF):=L1.below F.cZ;have FB:Hid (Below W.heap.size W V):=F.cZ;have a0:V.cell? ⟨n9,0,bC⟩=bB (aa bf (dg t Wy x.val Gp.op 10)):=by rw[dv F.c9];rfl
  have a1:V.cell? ⟨n9,1,bC⟩=bB (aa bf (dg t Wy x.val Gp.oq 10)):=by rw[dv F.c9];rfl
  have b0:V.cell? ⟨n10,0,bC⟩=bB (aa bf (t x.val).lp):=by rw[dv F.ux];rfl
  have b1:V.cell? ⟨n10,1,bC⟩=bB (aa bf (t x.val).lq):=by rw[dv F.ux];rfl
  have m0:V.cell? ⟨w.heap.size+1,0,bC⟩=bB (aa bf p):=by rw[dv L2.bm];rfl
  have m1:V.cell? ⟨w.heap.size+1,1,bC⟩=bB (aa bf q):=by rw[dv L2.bm];rfl
  have r1:=gX L2.r1;have r2:=gX L2.r2;obtain⟨r1c,r1f⟩:=r1;obtain⟨r2c,r2f⟩:=r2;have EL:Hid (ib t Wy p q x=(mO (dg t Wy x.val Gp.op 10) p (t x.val).lp||mO (dg t Wy x.val Gp.oq 10) q (t x.val).lq)):=eL;generalize dg t Wy x.val Gp.op 10=X at*;generalize dg t Wy x.val Gp.oq 10=Y at*;generalize (t x.val).lp=LP at*;generalize (t x.val).lq=LQ at*;have HB:Hid ((0<=X/\X<=100000000)/\(0<=Y/\Y<=100000000)):=⟨⟨B1.1,bG⟩,⟨B2.1,bG⟩⟩;have HPQ:Hid ((0<=p/\p<=1000)/\(0<=q/\q<=1000)):=⟨hp,hq⟩;have hlt:Hid (w.heap.size+1+1+1+1+1+1<=V.heap.size):=by have:=FB.size;exact aH hsz this
  cases h1:mO X p LP
  .cases h2:mO Y q LQ
   .have E0:Hid (ib t Wy p q x=bF):=by rw[EL.v,h1,h2];rfl
    gi_wp2_with (refine⟨trivial,?_⟩;gi_at_call 217;refine(CallsIn.inRound l (callsIn_wide.2 (tE _ _ _ _ (by first|exact HB.1|exact HB.2) (by first|exact HPQ.1|exact HPQ.2)))).mono ?_;rintro e w' ⟨rfl,rfl⟩;first|rw[h1]|rw[h2])
    exact⟨oE FB.v,K2.cO FB.v (by have:=T1.lt;omega) bG,λy hy=>(List.mem_append.1 hy).elim (HP.v y) (λe=>by simp at e;subst e;exact E0.v),L2.v,hlt.v⟩
   .have E0:Hid (ib t Wy p q x=bE):=by rw[EL.v,h1,h2];rfl
    gi_wp2_with (refine⟨trivial,?_⟩;gi_at_call 217;refine(CallsIn.inRound l (callsIn_wide.2 (tE _ _ _ _ (by first|exact HB.1|exact HB.2) (by first|exact HPQ.1|exact HPQ.2)))).mono ?_;rintro e w' ⟨rfl,rfl⟩;first|rw[h1]|rw[h2])
    exact⟨((oE FB.v).trans (KeepsOthers.setCell _ _ _)).trans (KeepsOthers.setCell _ _ _),rfl,pre,x,rfl,HP.v,E0.v,L2.fin _ _⟩
  .have E0:Hid (ib t Wy p q x=bE):=by rw[EL.v,h1];rfl
   gi_wp2_with (refine⟨trivial,?_⟩;gi_at_call 217;refine(CallsIn.inRound l (callsIn_wide.2 (tE X p LP _ HB.1 HPQ.1))).mono ?_;rintro e w' ⟨rfl,rfl⟩;rw[h1])
   refine⟨trivial,?_⟩
   gi_wp2
   exact⟨((oE FB.v).trans (KeepsOthers.setCell _ _ _)).trans (KeepsOthers.setCell _ _ _),rfl,pre,x,rfl,HP.v,E0.v,L2.fin _ _⟩
 case done=>
  rintro D ys W hD rfl ⟨hne,hLk,hsz⟩ hK;have r1:=gX hLk.r1;have r2:=gX hLk.r2;obtain⟨r1c,r1f⟩:=r1;obtain⟨r2c,r2f⟩:=r2
  gi_wp2
  have hF:=hLk.fin 0 bF;have hK':=(KeepsOthers.setCell _ ⟨w.heap.size+1+1+1,0,bC⟩ (ar bF)).same D _ ((KeepsOthers.setCell W ⟨w.heap.size+1+1,0,bC⟩ (aa .i64 0)).same D _ hK rfl) rfl;refine⟨by simp, .inl ⟨_,_,rfl,run_takeDeferred hK',?_⟩⟩;have hg:=grownBy_putObj' ((W.setCell ⟨w.heap.size+1+1,0,bC⟩ (aa .i64 0)).setCell ⟨w.heap.size+1+1+1,0,bC⟩ (ar bF)) D (.deferred bC);have q1:=cell_kept (gX hF.r1).1 hg (λr e=>by cases e;exact⟨_,hK',rfl⟩);have q2:=cell_kept (gX hF.r2).1 hg (λr e=>by cases e;exact⟨_,hK',rfl⟩);refine⟨ao #[aa bf 0,ar bF],?_, .inl ⟨hne,rfl⟩,hF.cZ.trans (belowK_b (w:=w) (aL _) _ D _ _ (by simp at hD;omega) hK' rfl rfl)⟩;simp[results,Tryz.f139,go_sem,q1,q2]
 case stop=>
  rintro D c pre W hD hpre ⟨rfl,pre0,x,rfl,hne,hx,hF⟩ hK
  gi_wp2
  refine⟨by simp, .inl ⟨_,_,rfl,run_takeDeferred hK,?_⟩⟩;have hg:=grownBy_putObj' W D (.deferred bC);have q1:=cell_kept (gX hF.r1).1 hg (λr e=>by cases e;exact⟨_,hK,rfl⟩);have q2:=cell_kept (gX hF.r2).1 hg (λr e=>by cases e;exact⟨_,hK,rfl⟩);obtain⟨rest,hrest⟩:=hpre;refine⟨ao #[aa bf (x.val:Int),ar bE],?_, .inr ⟨pre0,x,rest,by rw[<-hrest];simp,hne,hx,rfl⟩,hF.cZ.trans (belowK_b (w:=w) (aL _) W D _ _ (by simp at hD;omega) hK rfl rfl)⟩;simp[results,Tryz.f139,go_sem,q1,q2]
structure bO (b:Nat)(w w':bD):Prop where
 os:w'.os=w.os
 tape:w'.tape=w.tape
 output:w'.output=w.output
 size:w.heap.size<=w'.heap.size
 block:∀k,k<w.heap.size->k≠b->w'.heap[k]? =w.heap[k]?
theorem bO.cO(h:Below w.heap.size w w'):bO b w w':=⟨h.os,h.tape,h.output,h.size,λk hk _=>h.block k hk⟩
theorem bO.refl(b:Nat)(w:bD):bO b w w:=⟨rfl,rfl,rfl,aL _,λ_ _ _=>rfl⟩
theorem bO.trans{b:Nat}{u v w:bD}(h:bO b u v)(k:bO b v w):bO b u w:=
 ⟨k.os.trans h.os,k.tape.trans h.tape,k.output.trans h.output,aH h.size k.size,λj hj hn=>(k.block j (aD hj h.size) hn).trans (h.block j hj hn)⟩
theorem bO.setCell{b:Nat}{u w:bD}(h:bO b u w)(o:Nat)(v:Value):bO b u (w.setCell ⟨b,o,bC⟩ v):=
 ⟨h.os,h.tape,h.output,by simpa[World.setCell]using h.size,λk hk hn=>(dS _ _ _ _ hn).trans (h.block k hk hn)⟩
theorem bO.drew{b:Nat}{u w:bD}(h:bO b u w):bO b u w.drew:=⟨h.os,h.tape,h.output,h.size,h.block⟩
theorem bO.below{u:bD}(h:bO b w w')(hb:Below B u w)(hB:B<=b)(hs:B<=w.heap.size):Below B u w':=
 hb.trans ⟨h.os,h.tape,h.output,h.size,λk hk=>h.block k bG bG⟩
def nV(p:Int):Gp:=⟨bE,p,-1,-1,0,0⟩
def lM:Gp:=⟨bF,0,0,0,0,0⟩
theorem cC.OC{t:Nat->Gp}(h:cC w b t)(n:Nat)(hn:n<10)(g:Gp):
  cC ((((((w.setCell ⟨b,n*6,bC⟩ (ar g.there)).setCell ⟨b,n*6+1,bC⟩ (aa bf g.par)).setCell ⟨b,n*6+2,bC⟩ (aa bf g.lp)).setCell ⟨b,n*6+3,bC⟩ (aa bf g.lq)).setCell ⟨b,n*6+4,bC⟩ (aa bf g.op)).setCell ⟨b,n*6+5,bC⟩ (aa bf g.oq)) b (fK t n g):=by
 unfold cC;rw[heap_set (heap_set (heap_set (heap_set (heap_set (heap_set h (n*6) _) (n*6+1) _) (n*6+2) _) (n*6+3) _) (n*6+4) _)];refine congrArg (λc=>bB (bA c 135 (0,0))) ?_;refine xd _ _ (by simp[gL]) λm i hm hi=>?_;have hsz:=gL t;by_cases e:m=n
 .subst e;rw[eG]
  match i,hi with
  |0,_=>simp[bY,hsz,Gp.cell];omega
  |1,_=>simp[bY,hsz,Gp.cell];omega
  |2,_=>simp[bY,hsz,Gp.cell];omega
  |3,_=>simp[bY,hsz,Gp.cell];omega
  |4,_=>simp[bY,hsz,Gp.cell];omega
  |5,_=>simp[bY,hsz,Gp.cell];omega
 .rw[fc _ _ _ _ e,aU bG,aU bG,aU bG,aU bG,aU bG,aU bG,oz t m i hm hi]
theorem uY(p:Int)(w:bD):Calls prog 162 #[aa bf p] w λe w'=>e=bw (au #[ar bE,aa bf p,aa bf (-1),aa bf (-1),aa bf 0,aa bf 0])/\Below w.heap.size w w':=by
 go_in
 go_wp2
 refine bodyPost_ret (v:=au #[ar bE,aa bf p,aa bf (-1),aa bf (-1),aa bf 0,aa bf 0]) (by simp[results,Tryz.results162,go_sem]) rfl ⟨rfl,(aQ _ _).alloc (aL _) _⟩
theorem tM(w:bD):cC (w.alloc (bA (gH λ_=>lM) 135)) w.heap.size (λ_=>lM):=heap_alloc_new w _
theorem zK:gH (λ_=>lM)=#[ar bF,aa bf 0,aa bf 0,aa bf 0,aa bf 0,aa bf 0,ar bF,aa bf 0,aa bf 0,aa bf 0,aa bf 0,aa bf 0,ar bF,aa bf 0,aa bf 0,aa bf 0,aa bf 0,aa bf 0,ar bF,aa bf 0,aa bf 0,aa bf 0,aa bf 0,aa bf 0,ar bF,aa bf 0,aa bf 0,aa bf 0,aa bf 0,aa bf 0,ar bF,aa bf 0,aa bf 0,aa bf 0,aa bf 0,aa bf 0,ar bF,aa bf 0,aa bf 0,aa bf 0,aa bf 0,aa bf 0,ar bF,aa bf 0,aa bf 0,aa bf 0,aa bf 0,aa bf 0,ar bF,aa bf 0,aa bf 0,aa bf 0,aa bf 0,aa bf 0,ar bF,aa bf 0,aa bf 0,aa bf 0,aa bf 0,aa bf 0]:=by kernel_rfl
theorem su(w:bD):Calls prog 84 #[] w λe w'=>e=bw (ai (bB ⟨w.heap.size,0,bC⟩))/\cC w' w.heap.size (fK (λ_=>lM) 0 (nV (-1)))/\Below w.heap.size w w':=by
 have Z:=tM w;rw[zK]at Z;go_in
 go_wp2_with fail
 refine cR (λW=>cC W w.heap.size (λ_=>lM)/\Below w.heap.size w W) ⟨Z,(aQ _ _).alloc (aL _) _⟩ ?_;rintro W ⟨hT,hB⟩;have HT:Hid (cC W w.heap.size (λ_=>lM)):=hT;have HB:Hid (Below w.heap.size w W):=hB;go_region_held3 (λ_=>True) (trivial) ((go_at_call 162;refine sC (uY _ _) ?_;rintro w2 hb2;have T2:cC w2 w.heap.size (λ_=>lM):=HT.drew.below hb2 HT.lt;have c0:=T2.cell 0 0 bG bG;have c1:=T2.cell 0 1 bG bG;have c2:=T2.cell 0 2 bG bG;have c3:=T2.cell 0 3 bG bG;have c4:=T2.cell 0 4 bG bG;have c5:=T2.cell 0 5 bG bG;have cf:=T2.frozen;simp only[Nat.zero_mul,Nat.zero_add]at c0 c1 c2 c3 c4 c5))
 have HT2:Hid (cC w2 w.heap.size (λ_=>lM)):=T2;have HB2:Hid (Below w.heap.size w w2):=HB.trans ((aQ _ W).drew.trans (hb2.mono (by have:=HB.size;exact this)));go_wp2
 go_ret
 refine⟨rfl,HT2.OC 0 bG (nV (-1)),?_⟩;exact(((((HB2.setCell (aL _) _).setCell (aL _) _).setCell (aL _) _).setCell (aL _) _).setCell (aL _) _).setCell (aL _) _
def bS(k:Int):Value:=if k=0 then az else aq 100 (aa .i64 k)
theorem jS(b:Nat)(g:Int)(t:Nat->Gp)(w:bD)(h:cC w b t):Calls prog 96 #[ai (bB ⟨b,0,bC⟩),aa bf g] w λe w'=>e=bw (bS (wr t g))/\w'=w:=by
 unfold wr;by_cases hb:g<0\/10<=g
 .rw[aJ hb];exact vJ b g w hb
 .rw[aI hb];obtain⟨n,rfl⟩:=aG (show 0<=g by omega);cases hh:(t n).there
  .rw[hZ,hh];exact tS b n t w h bG hh
  .rw[hZ,hh];exact jc b n t w h bG hh
theorem qe{t:Nat->Gp}(h:wr t g=0):∃n:Nat,g=n/\n<10/\(t n).there=bE:=by
 unfold wr at h;by_cases hb:g<0\/10<=g
 .rw[aJ hb]at h;simp at h
 .rw[aI hb]at h;obtain⟨n,rfl⟩:=aG (show 0<=g by omega);refine⟨n,rfl,bG,?_⟩;rw[hZ]at h;cases hh:(t n).there
  .rw[hh]at h;simp at h
  .rfl
theorem vA(t:Nat->Gp)(n:Nat)(g g':Gp):fK (fK t n g) n g'=fK t n g':=by
 funext k;unfold fK;split<;>rfl
def eC(t:Nat->Gp)(g p q:Int):Int:=if wr t g=0 then(if jk p q 0=bE then 0 else 1)else wr t g
theorem js(b:Nat)(g p q:Int)(t:Nat->Gp)(w:bD)(h:cC w b t):Calls prog 138 #[ai (bB ⟨b,0,bC⟩),aa bf g,au #[aa bf p,aa bf q]] w λe w'=>e=bw (bS (eC t g p q))/\Below w.heap.size w w':=by
 unfold eC;by_cases hw:wr t g=0
 .rw[aJ hw];obtain⟨n,rfl,hn,hh⟩:=qe hw;cases hf:jk p q 0
  .exact BP b n p q t w h hn hh hf
  .exact I1 b n p q t w h hn hh hf
 .rw[aI hw];unfold wr at hw|-;by_cases hb:g<0\/10<=g
  .rw[aJ hb];exact Fw b g p q w hb
  .rw[aI hb]at hw|-;obtain⟨n,rfl⟩:=aG (show 0<=g by omega);rw[hZ]at hw|-;cases hh:(t n).there
   .exact DX b n p q t w h bG hh
   .rw[hh]at hw;simp at hw
theorem J4{l:Int}:jk p q l=bE↔(l<=p/\p<=20/\l<=q/\q<=64):=by unfold jk;exact decide_eq_true_iff
theorem lP{t:Nat->Gp}(h:eC t g p q=0):∃n:Nat,g=n/\n<10/\(t n).there=bE/\(0<=p/\p<=20)/\(0<=q/\q<=64):=by
 unfold eC at h;by_cases hw:wr t g=0
 .rw[aJ hw]at h;obtain⟨n,e,hn,hh⟩:=qe hw;cases hf:jk p q 0
  .rw[hf]at h;simp at h
  .have:=J4.1 hf;exact⟨n,e,hn,hh,⟨this.1,this.2.1⟩,this.2.2.1,this.2.2.2⟩
 .rw[aI hw]at h;exact aZ h hw
theorem KX(b:Nat)(g p q:Int)(t:Nat->Gp)(w:bD)(h:cC w b t)(hw:wr t g≠0):Calls prog 115 #[ai (bB ⟨b,0,bC⟩),aa bf g,aa bf p,aa bf q] w λe w'=>e=bw (bS (wr t g))/\w'=w:=by
 have HT:Hid (cC w b t):=h;have HW:Hid (bS (wr t g)=aq 100 (aa bf (wr t g))):=aI hw;go_in
 go_wp2_with fail
 refine sC (jS b g t _ HT.v) ?_;rintro w1 hw1;subst w1;rw[HW.v];go_wp2
 go_ret
 exact⟨by rw[HW.v];rfl,rfl⟩
theorem Ft(b n:Nat)(p q:Int)(t:Nat->Gp)(w:bD)(h:cC w b t)(hn:n<10)(hh:(t n).there=bE)(hf:jk p q (-1)=bF):Calls prog 115 #[ai (bB ⟨b,0,bC⟩),aa bf n,aa bf p,aa bf q] w λe w'=>e=bw (bS 1)/\Below w.heap.size w w':=by
 have HT:Hid (cC w b t/\(t n).there=bE):=⟨h,hh⟩;have HF:Hid (jk p q (-1)=bF):=hf;go_in
 go_wp2_with fail
 refine sC (jc b n t _ HT.1 hn HT.2) ?_;rintro w1 hw1;subst w1;go_wp2_with fail
 refine sC (ts p q (-1) _) ?_;rintro w2 hb;rw[HF.v];have HB:Hid (Below w.heap.size w w2):=((aQ _ w).alloc (aL _) _).trans (hb.mono (by simp));go_wp2
 go_ret
 exact⟨rfl,HB.v⟩
theorem N3(b n:Nat)(p q:Int)(t:Nat->Gp)(w:bD)(h:cC w b t)(hn:n<10)(hh:(t n).there=bE)(hf:jk p q (-1)=bE):Calls prog 115 #[ai (bB ⟨b,0,bC⟩),aa bf n,aa bf p,aa bf q] w λe w'=>e=bw (bS 0)/\cC w' b (fK t n {t n with lp:=p,lq:=q})/\bO b w w':=by
 have HT:Hid (cC w b t/\(t n).there=bE):=⟨h,hh⟩;have HF:Hid (jk p q (-1)=bE):=hf;have hnI:(n:Int)<10:=bG
 go_in
 go_wp2_with fail
 refine sC (jc b n t _ HT.1 hn HT.2) ?_;rintro w1 hw1;subst w1;go_wp2_with fail
 refine sC (ts p q (-1) _) ?_;rintro w2 hb;rw[HF.v];have HB:Hid (Below w.heap.size w w2):=((aQ _ w).alloc (aL _) _).trans (hb.mono (by simp));have hbx:w2.heap[w.heap.size]? =bB (bA #[aa bf p,aa bf q] 130 (0,0)):=(hb.block _ (by simp)).trans (heap_alloc_new w _);have x0:w2.cell? ⟨w.heap.size,0,bC⟩=bB (aa bf p):=dv hbx 0;have x1:w2.cell? ⟨w.heap.size,1,bC⟩=bB (aa bf q):=dv hbx 1;have T2:Hid (cC w2 b t):=HT.1.below HB.v HT.1.lt;have y0:w2.cell? ⟨b,n*6+2,bC⟩=bB (aa bf (t n).lp):=T2.cell n 2 hn bG;have y1:w2.cell? ⟨b,n*6+2+1,bC⟩=bB (aa bf (t n).lq):=T2.cell n 3 hn bG;have yf:=T2.frozen;have ne1:b≠w.heap.size:=by have:=HT.1.lt;omega
 generalize (t n).lp=LP at y0;generalize (t n).lq=LQ at y1;go_wp2_with fail
 go_region_held3 (λw'=>w'.cell? ⟨w.heap.size,0,bC⟩=bB (aa bf p)/\w'.cell? ⟨w.heap.size,1,bC⟩=bB (aa bf q)) (go_keep) (fail)
 go_wp2
 go_ret
 refine⟨rfl,?_,(((bO.cO HB.v).setCell _ _).setCell _ _).drew⟩;have Z:=((T2.set n 2 hn bG (aa bf p) {t n with lp:=p} (λi hi=>by match i,hi with|0,_=>rfl|1,_=>rfl|2,_=>rfl|3,_=>rfl|4,_=>rfl|5,_=>rfl)).set n 3 hn bG (aa bf q) {t n with lp:=p,lq:=q} (λi hi=>by rw[eG];match i,hi with|0,_=>rfl|1,_=>rfl|2,_=>rfl|3,_=>rfl|4,_=>rfl|5,_=>rfl)).drew;rw[vA]at Z;exact Z
theorem oJ{t:Nat->Gp}(h:eC t g p q=0):(0<=p/\p<=20)/\(0<=q/\q<=64):=by
 have hz:=lP h;exact⟨hz.choose_spec.2.2.2.1,hz.choose_spec.2.2.2.2⟩
theorem Ht(b:Nat)(g p q:Int)(t:Nat->Gp)(w:bD)(h:cC w b t)(hw:eC t g p q≠0):Calls prog 65 #[ai (bB ⟨b,0,bC⟩),aa bf g,aa bf p,aa bf q] w λe w'=>e=bw (bS (eC t g p q))/\Below w.heap.size w w':=by
 have HT:Hid (cC w b t):=h;have HW:Hid (bS (eC t g p q)=aq 100 (aa bf (eC t g p q))):=aI hw;go_in
 go_wp2_with fail
 refine sC (js b g p q t _ (HT.below ((aQ _ _).alloc (aL _) _) HT.lt)) ?_;rintro w1 hb;have HB:Hid (Below w.heap.size w w1):=((aQ _ w).alloc (aL _) _).trans (hb.mono (by simp));rw[HW.v];go_wp2
 go_ret
 exact⟨by rw[HW.v];rfl,HB.v⟩
theorem yv{w1:bD}(hb:Below (w.alloc (bA c ty)).heap.size (w.alloc (bA c ty)) w1):Below w.heap.size w w1/\w1.heap[w.heap.size]? =bB (bA c ty (0,0)):=
 ⟨((aQ _ w).alloc (aL _) _).trans (hb.mono (by simp)),(hb.block _ (by simp)).trans (heap_alloc_new w _)⟩
theorem Hs(b n:Nat)(p q:Int)(t:Nat->Gp)(Wy:Nat->List (Fin 10))(w:bD)(h:cC w b t)(hW:fH t Wy)(hS:Small t)(hn:n<10)(hr:eC t n p q=0)(hl:∃y∈Wy n,ib t Wy p q y=bE):Calls prog 65 #[ai (bB ⟨b,0,bC⟩),aa bf n,aa bf p,aa bf q] w λe w'=>e=bw (bS 6)/\Below w.heap.size w w':=by
 have H:Hid (cC w b t/\fH t Wy/\Small t/\eC t n p q=0/\∃y∈Wy n,ib t Wy p q y=bE):=⟨h,hW,hS,hr,hl⟩;obtain⟨hp,hq⟩:=oJ hr;have HPQ:Hid ((0<=p/\p<=1000)/\(0<=q/\q<=1000)):=⟨⟨hp.1,bG⟩,hq.1,bG⟩;go_in
 go_wp2_with fail
 refine sC (js b n p q t _ (H.1.below ((aQ _ _).alloc (aL _) _) H.1.lt)) ?_;rintro w1 hb;rw[H.2.2.2.1];obtain⟨hb1,hx⟩:=yv hb;have HB:Hid (Below w.heap.size w w1):=hb1;have x0:w1.cell? ⟨w.heap.size,0,bC⟩=bB (aa bf p):=dv hx 0;have x1:w1.cell? ⟨w.heap.size,1,bC⟩=bB (aa bf q):=dv hx 1;rw[show bS 0=az from rfl];go_wp2_with fail
 refine(rQ b n p q t Wy (Wy n) _ (H.1.below HB.v H.1.lt) H.2.1 H.2.2.1 (H.2.1 n hn) HPQ.1 HPQ.2).mono ?_;rintro e w2 ⟨he,hb2⟩;have HB2:Hid (Below w.heap.size w w2):=HB.trans (hb2.mono HB.size);rcases he with⟨hno,_⟩|⟨pre,x,rest,_,_,_,rfl⟩
 .obtain⟨y,hy,hyl⟩:=H.2.2.2.2;rw[hno y hy]at hyl;cases hyl
 .go_wp2
  go_ret
  exact⟨rfl,HB2.v⟩
theorem JL(b n:Nat)(p q:Int)(t:Nat->Gp)(Wy:Nat->List (Fin 10))(w:bD)(h:cC w b t)(hW:fH t Wy)(hS:Small t)(hn:n<10)(hr:eC t n p q=0)(hl:∀y∈Wy n,ib t Wy p q y=bF):Calls prog 65 #[ai (bB ⟨b,0,bC⟩),aa bf n,aa bf p,aa bf q] w λe w'=>e=bw (bS 0)/\cC w' b (fK t n {t n with op:=(t n).op+p,oq:=(t n).oq+q})/\bO b w w':=by
 have H:Hid (cC w b t/\fH t Wy/\Small t/\eC t n p q=0/\∀y∈Wy n,ib t Wy p q y=bF):=⟨h,hW,hS,hr,hl⟩;obtain⟨hp,hq⟩:=oJ hr;have HPQ:Hid ((0<=p/\p<=1000)/\(0<=q/\q<=1000)):=⟨⟨hp.1,bG⟩,hq.1,bG⟩;have hnI:(n:Int)<10:=bG
 have sn:=hS n hn;go_in
 go_wp2_with fail
 refine sC (js b n p q t _ (H.1.below ((aQ _ _).alloc (aL _) _) H.1.lt)) ?_;rintro w1 hb;rw[H.2.2.2.1];obtain⟨hb1,hx⟩:=yv hb;have HB:Hid (Below w.heap.size w w1):=hb1;have x0:w1.cell? ⟨w.heap.size,0,bC⟩=bB (aa bf p):=dv hx 0;have x1:w1.cell? ⟨w.heap.size,1,bC⟩=bB (aa bf q):=dv hx 1;rw[show bS 0=az from rfl];go_wp2_with fail
 refine(rQ b n p q t Wy (Wy n) _ (H.1.below HB.v H.1.lt) H.2.1 H.2.2.1 (H.2.1 n hn) HPQ.1 HPQ.2).mono ?_;rintro e w2 ⟨he,hb2⟩;have HB2:Hid (Below w.heap.size w w2):=HB.trans (hb2.mono HB.size);rcases he with⟨hno,rfl⟩|⟨pre,x,rest,hxs,_,hyl,_⟩
 .clear hno;have T2:Hid (cC w2 b t):=H.1.below HB2.v H.1.lt;have y0:w2.cell? ⟨b,n*6+4,bC⟩=bB (aa bf (t n).op):=T2.cell n 4 hn bG;have y1:w2.cell? ⟨b,n*6+4+1,bC⟩=bB (aa bf (t n).oq):=T2.cell n 5 hn bG;have yf:=T2.frozen;have HZ:Hid (∀P R:Int,P=(t n).op->R=(t n).oq->cC ((w2.setCell ⟨b,n*6+4,bC⟩ (aa bf (P+p))).drew.setCell ⟨b,n*6+4+1,bC⟩ (aa bf (R+q))).drew b (fK t n {t n with op:=(t n).op+p,oq:=(t n).oq+q})):=by
   rintro P R rfl rfl;have Z:=(((T2.set n 4 hn bG (aa bf ((t n).op+p)) {t n with op:=(t n).op+p} (λi hi=>by match i,hi with|0,_=>rfl|1,_=>rfl|2,_=>rfl|3,_=>rfl|4,_=>rfl|5,_=>rfl)).drew).set n 5 hn bG (aa bf ((t n).oq+q)) {t n with op:=(t n).op+p,oq:=(t n).oq+q} (λi hi=>by rw[eG];match i,hi with|0,_=>rfl|1,_=>rfl|2,_=>rfl|3,_=>rfl|4,_=>rfl|5,_=>rfl)).drew;rw[vA]at Z;exact Z
  generalize hP:(t n).op=P at y0 sn;generalize hR:(t n).oq=R at y1 sn;have HPR:Hid (P=(t n).op/\R=(t n).oq):=⟨hP.symm,hR.symm⟩;obtain⟨⟨s1,s2⟩,s3,s4⟩:=sn;go_wp2_with fail
  go_region
  go_wp2_with fail
  go_region
  go_wp2
  go_ret
  refine⟨rfl,HZ.v P R HPR.1 HPR.2,((((bO.cO HB2.v).setCell _ _).drew).setCell _ _).drew⟩
 .have:=H.2.2.2.2 x (by rw[hxs];simp);rw[hyl]at this;cases this
theorem Et(b:Nat)(g p q:Int)(t:Nat->Gp)(w:bD)(h:cC w b t)(hw:eC t g p q≠0):Calls prog 67 #[ai (bB ⟨b,0,bC⟩),aa bf g,aa bf p,aa bf q] w λe w'=>e=bw (bS (eC t g p q))/\Below w.heap.size w w':=by
 have HT:Hid (cC w b t):=h;have HW:Hid (bS (eC t g p q)=aq 100 (aa bf (eC t g p q))):=aI hw;go_in
 go_wp2_with fail
 refine sC (js b g p q t _ HT.v) ?_;rintro w1 hb;have HB:Hid (Below w.heap.size w w1):=hb;rw[HW.v];go_wp2
 go_ret
 exact⟨by rw[HW.v];rfl,HB.v⟩
theorem AF(b n:Nat)(p q:Int)(t:Nat->Gp)(w:bD)(h:cC w b t)(hn:n<10)(hr:eC t n p q=0)(hl:(t n).op<p\/(t n).oq<q):Calls prog 67 #[ai (bB ⟨b,0,bC⟩),aa bf n,aa bf p,aa bf q] w λe w'=>e=bw (bS 8)/\Below w.heap.size w w':=by
 have H:Hid (cC w b t/\eC t n p q=0):=⟨h,hr⟩;have hnI:(n:Int)<10:=bG
 go_in
 go_wp2_with fail
 refine sC (js b n p q t _ H.1) ?_;rintro w1 hb;rw[H.2,show bS 0=az from rfl];have HB:Hid (Below w.heap.size w w1):=hb;have T2:Hid (cC w1 b t):=H.1.below hb H.1.lt;have y0:w1.cell? ⟨b,n*6+4,bC⟩=bB (aa bf (t n).op):=T2.cell n 4 hn bG;have y1:w1.cell? ⟨b,n*6+4+1,bC⟩=bB (aa bf (t n).oq):=T2.cell n 5 hn bG;generalize (t n).op=P at y0 hl;generalize (t n).oq=R at y1 hl;by_cases h1:P<p
 .go_wp2
  go_ret
  exact⟨rfl,HB.v⟩
 .have h2:R<q:=hl.resolve_left h1;have d1:decide (P<p)=bF:=by simp;omega
  go_wp2
  go_ret
  exact⟨rfl,HB.v⟩
theorem FJ(b n:Nat)(p q:Int)(t:Nat->Gp)(w:bD)(h:cC w b t)(hS:Small t)(hn:n<10)(hr:eC t n p q=0)(hl:p<=(t n).op/\q<=(t n).oq):Calls prog 67 #[ai (bB ⟨b,0,bC⟩),aa bf n,aa bf p,aa bf q] w λe w'=>e=bw (bS 0)/\cC w' b (fK t n {t n with op:=(t n).op-p,oq:=(t n).oq-q})/\bO b w w':=by
 have H:Hid (cC w b t/\eC t n p q=0):=⟨h,hr⟩;have hnI:(n:Int)<10:=bG
 obtain⟨hp,hq⟩:=oJ hr;have sn:=hS n hn;go_in
 go_wp2_with fail
 refine sC (js b n p q t _ H.1) ?_;rintro w1 hb;rw[H.2,show bS 0=az from rfl];have HB:Hid (Below w.heap.size w w1):=hb;have T2:Hid (cC w1 b t):=H.1.below hb H.1.lt;have y0:w1.cell? ⟨b,n*6+4,bC⟩=bB (aa bf (t n).op):=T2.cell n 4 hn bG;have y1:w1.cell? ⟨b,n*6+4+1,bC⟩=bB (aa bf (t n).oq):=T2.cell n 5 hn bG;have yf:=T2.frozen;have HZ:Hid (∀P R:Int,P=(t n).op->R=(t n).oq->cC ((w1.setCell ⟨b,n*6+4,bC⟩ (aa bf (P-p))).setCell ⟨b,n*6+4+1,bC⟩ (aa bf (R-q))) b (fK t n {t n with op:=(t n).op-p,oq:=(t n).oq-q})):=by
  rintro P R rfl rfl;have Z:=(T2.set n 4 hn bG (aa bf ((t n).op-p)) {t n with op:=(t n).op-p} (λi hi=>by match i,hi with|0,_=>rfl|1,_=>rfl|2,_=>rfl|3,_=>rfl|4,_=>rfl|5,_=>rfl)).set n 5 hn bG (aa bf ((t n).oq-q)) {t n with op:=(t n).op-p,oq:=(t n).oq-q} (λi hi=>by rw[eG];match i,hi with|0,_=>rfl|1,_=>rfl|2,_=>rfl|3,_=>rfl|4,_=>rfl|5,_=>rfl);rw[vA]at Z;exact Z
 generalize hP:(t n).op=P at y0 sn hl;generalize hR:(t n).oq=R at y1 sn hl;have HPR:Hid (P=(t n).op/\R=(t n).oq):=⟨hP.symm,hR.symm⟩;obtain⟨⟨s1,s2⟩,s3,s4⟩:=sn;obtain⟨h1,h2⟩:=hl;have d1:decide (P<p)=bF:=by simp;omega
 have d2:decide (R<q)=bF:=by simp;omega
 go_wp2
 go_ret
 exact⟨rfl,HZ.v P R HPR.1 HPR.2,((bO.cO HB.v).setCell _ _).setCell _ _⟩
def Ci(t:Nat->Gp)(Wy:Nat->List (Fin 10))(n:Nat)(p q:Int):Bool:=(Wy n).any (ib t Wy p q)
def gY(t:Nat->Gp)(Wy:Nat->List (Fin 10))(g p q:Int):Int:=if eC t g p q=0 then(if Ci t Wy g.toNat p q=bE then 6 else 0)else eC t g p q
def gx(t:Nat->Gp)(n:Nat)(p q:Int):Nat->Gp:=fK t n {t n with op:=(t n).op+p,oq:=(t n).oq+q}
def gD(t:Nat->Gp)(Wy:Nat->List (Fin 10))(g p q:Int):Nat->Gp:=if gY t Wy g p q=0 then gx t g.toNat p q else t
def gj(t:Nat->Gp)(g p q:Int):Int:=if eC t g p q=0 then(if p<=(t g.toNat).op/\q<=(t g.toNat).oq then 0 else 8)else eC t g p q
def dG(t:Nat->Gp)(g p q:Int):Nat->Gp:=if gj t g p q=0 then gx t g.toNat (-p) (-q)else t
theorem nO(b:Nat)(g p q:Int)(t:Nat->Gp)(Wy:Nat->List (Fin 10))(w:bD)(h:cC w b t)(hW:fH t Wy)(hS:Small t):
  Calls prog 65 #[ai (bB ⟨b,0,bC⟩),aa bf g,aa bf p,aa bf q] w λe w'=>e=bw (bS (gY t Wy g p q))/\cC w' b (gD t Wy g p q)/\bO b w w':=by
 by_cases hr:eC t g p q=0
 .obtain⟨n,rfl,hn,hh,_,_⟩:=lP hr;cases hl:Ci t Wy n p q
  .have e:gY t Wy n p q=0:=by unfold gY;rw[aJ hr,hZ,hl];rfl
   unfold gD;rw[e,aJ rfl,hZ];refine JL b n p q t Wy w h hW hS hn hr (λy hy=>?_);unfold Ci at hl;rw[List.any_eq_false]at hl;have:=hl y hy;cases hb:ib t Wy p q y
   .rfl
   .exact aZ hb this
  .have e:gY t Wy n p q=6:=by unfold gY;rw[aJ hr,hZ,hl];rfl
   unfold gD;rw[e,aI bM];refine(Hs b n p q t Wy w h hW hS hn hr ?_).mono λe w' ⟨h1,h2⟩=>⟨h1,h.below h2 h.lt,bO.cO h2⟩;unfold Ci at hl;exact List.any_eq_true.1 hl
 .have e:gY t Wy g p q=eC t g p q:=by unfold gY;rw[aI hr]
  unfold gD;rw[e,aI hr];exact(Ht b g p q t w h hr).mono λe w' ⟨h1,h2⟩=>⟨h1,h.below h2 h.lt,bO.cO h2⟩
theorem iS(b:Nat)(g p q:Int)(t:Nat->Gp)(w:bD)(h:cC w b t)(hS:Small t):
  Calls prog 67 #[ai (bB ⟨b,0,bC⟩),aa bf g,aa bf p,aa bf q] w λe w'=>e=bw (bS (gj t g p q))/\cC w' b (dG t g p q)/\bO b w w':=by
 by_cases hr:eC t g p q=0
 .obtain⟨n,rfl,hn,hh,_,_⟩:=lP hr;by_cases hl:p<=(t n).op/\q<=(t n).oq
  .have e:gj t n p q=0:=by unfold gj;rw[aJ hr,hZ,aJ hl]
   unfold dG;rw[e,aJ rfl,hZ];refine(FJ b n p q t w h hS hn hr hl).mono λe w' ⟨h1,h2,h3⟩=>⟨h1,?_,h3⟩;unfold gx;rw[<-Int.sub_eq_add_neg,<-Int.sub_eq_add_neg];exact h2
  .have e:gj t n p q=8:=by unfold gj;rw[aJ hr,hZ,aI hl]
   unfold dG;rw[e,aI bM];exact(AF b n p q t w h hn hr bG).mono λe w' ⟨h1,h2⟩=>⟨h1,h.below h2 h.lt,bO.cO h2⟩
 .have e:gj t g p q=eC t g p q:=by unfold gj;rw[aI hr]
  unfold dG;rw[e,aI hr];exact(Et b g p q t w h hr).mono λe w' ⟨h1,h2⟩=>⟨h1,h.below h2 h.lt,bO.cO h2⟩
def nU(t:Nat->Gp)(Wy:Nat->List (Fin 10))(f g p q:Int):Int:=if wr t g=0 then(if gj t f p q=0 then gY (dG t f p q) Wy g p q else gj t f p q)else wr t g
def kK(t:Nat->Gp)(Wy:Nat->List (Fin 10))(f g p q:Int):Nat->Gp:=if nU t Wy f g p q=0 then gD (dG t f p q) Wy g p q else t
section
variable {ty:TypeId}
theorem sD(b:Nat):∀(vs:List Value) (o:Nat) (w:bD) (c:Array Value),w.heap[b]? =bB (bA c ty (0,0))->∃c',(w.setCells b o vs).heap[b]? =bB (bA c' ty (0,0))/\c'.size=c.size
 |[],_,_,c,h=>⟨c,h,rfl⟩
 |v::r,o,w,c,h=>by
  rw[World.setCells];obtain⟨c',h1,h2⟩:=sD b r (o+1) (w.setCell ⟨b,o,bC⟩ v) _ (heap_set h o v);exact⟨c',h1,by rw[h2];simp⟩
theorem qI(b:Nat):∀(vs:List Value) (o:Nat) (w:bD),bO b w (w.setCells b o vs)
 |[],_,w=>bO.refl b w
 |v::r,o,w=>by
  rw[World.setCells];exact((bO.refl b w).setCell o v).trans (qI b r (o+1) _)
end
theorem By(h:w.heap[b]? =bB (bA c 135 (0,0)))(hs:c.size=60):w.there b 0 60:=λj hj=>by
 rw[Nat.zero_add];exact⟨by rw[dv h,Array.getElem?_eq_getElem bG];rfl,kU h j⟩
theorem vq(h:w.heap[b]? =bB (bA c 135 (0,0)))(hs:c.size=60)(t:Nat->Gp):cC (w.setCells b 0 (gH t).toList) b t:=by
 obtain⟨c',h1,h2⟩:=sD b (gH t).toList 0 w c h;have hth:w.there b 0 (gH t).toList.length:=by rw[aB,gL];exact By h hs
 have hr:=World.rangeAt_setCells_same w b 0 (gH t).toList hth;unfold cC;rw[h1];refine congrArg (λc=>bB (bA c 135 (0,0))) (xd t c' bG λn j hn hj=>?_);have:=hr (n*6+j) ((t n).cell j) (by rw[aM];exact oz t n j hn hj);rw[Nat.zero_add,dv h1]at this;exact this
theorem Bx{t:Nat->Gp}(h:cC w b t):w.rangeAt b 0 (gH t).toList:=λj v hv=>by
 rw[Nat.zero_add,dv h];rw[aM]at hv;exact hv
theorem Na(t:Nat->Gp):(gH t).all (·.oneCell')=bE:=by
 rw[Array.all_eq_true_iff_forall_mem];intro v hv;simp only[gH,List.mem_toArray,List.mem_map]at hv;obtain⟨i,_,rfl⟩:=hv;unfold Gp.cell;split<;>rfl
theorem Uk{t:Nat->Gp}:(prog.info? 135).map (·.size)=bB (gH t).toList.length:=by rw[aB,gL];kernel_rfl
theorem Ep{t t':Nat->Gp}(h:cC w b t):w.there b 0 (gH t').size:=by rw[gL];exact By h (gL t)
theorem oZ{a:Act}{Q:Exit->Act->bD->Prop}{d:Option Tmp}{ps:String}{af:Array Edge}{x:Operand}{t:Nat->Gp}
  (hx:a.eval x=ai (bB ⟨b,0,bC⟩)) (hc:cC w b t) (h:wpList prog ops Q rest (a.put d (au (gH t))) w):wpList prog ops Q (⟨d, .load 135 x,ty,ps,af,bC⟩::rest) a w:=
 wpList_load_mid rfl 135 x rfl b 0 hx (gH t).toList _ (Bx hc) Tryz.underlying135 rfl Uk h
theorem I8{t':Nat->Gp}(h:cC w b t')(t:Nat->Gp):(storeCells ⟨b,0,bC⟩ (gH t).toList).run prog w= .ok () (w.setCells b 0 (gH t).toList):=by
 have ht:w.there b 0 (gH t).size:=Ep h;have:=run_storeCells_cells (P:=prog) b 0 (gH t).toList 0 w (λj hj=>by simpa using(ht j (by simpa using hj)).1) (λj hj=>by simpa using(ht j (by simpa using hj)).2)
  (λv hv=>(Array.all_eq_true_iff_forall_mem.1 (Na t)) v (by simpa using hv))
 simpa using this
theorem tg(Z:cC (w.alloc (bA c 135)) w.heap.size (λ_=>lM))(t:Nat->Gp):
  cC ((w.alloc (bA c 135)).setCells w.heap.size 0 (gH t).toList) w.heap.size t/\Below w.heap.size w ((w.alloc (bA c 135)).setCells w.heap.size 0 (gH t).toList):=
 ⟨vq Z (gL _) t,(qI w.heap.size _ 0 _).below ((aQ _ _).alloc (aL _) _) (aL _) (by simp)⟩
theorem bP{k:Int}(h:k≠0):bS k=aq 100 (aa .i64 k):=aI h
theorem bN:bS 0=az:=rfl
theorem EG{t t':Nat->Gp}(h:∀k,(t' k).there=(t k).there/\(t' k).par=(t k).par):∀{g:Int} {L:List Nat},Way t g L->Way t' g L
 |g,[],hw=>λhv=>hw ⟨hv.1,hv.2.1,by rw[<-(h _).1];exact hv.2.2⟩
 |g,x::L,⟨e,hx,hh,hr⟩=>⟨e,hx,by rw[(h x).1];exact hh,by rw[(h x).2];exact EG h hr⟩
theorem fH.same{t t':Nat->Gp}(h:∀k,(t' k).there=(t k).there/\(t' k).par=(t k).par)(hW:fH t Wy):fH t' Wy:=λk hk=>EG h (hW k hk)
theorem AS(t:Nat->Gp)(n:Nat)(p q:Int)(k:Nat):(gx t n p q k).there=(t k).there/\(gx t n p q k).par=(t k).par:=by
 unfold gx fK;split
 .rename_i e;subst e;exact⟨rfl,rfl⟩
 .exact⟨rfl,rfl⟩
theorem Bz(t:Nat->Gp)(g p q:Int)(k:Nat):(dG t g p q k).there=(t k).there/\(dG t g p q k).par=(t k).par:=by
 unfold dG;split
 .exact AS _ _ _ _ _
 .exact⟨rfl,rfl⟩
theorem zn{t:Nat->Gp}(hS:Small t)(g p q:Int):Small (dG t g p q):=λk hk=>by
 unfold dG;split
 .rename_i e;unfold gx fK;split
  .rename_i e2;have hr:eC t g p q=0:=by
    unfold gj at e;by_cases h:eC t g p q=0
    .exact h
    .rw[aI h]at e;exact e
   unfold gj at e;rw[aJ hr]at e;have hpq:=oJ hr;by_cases hc:p<=(t g.toNat).op/\q<=(t g.toNat).oq
   .subst e2;have:=hS g.toNat hk;simp only;omega
   .rw[aI hc]at e;simp at e
  .exact hS k hk
 .exact hS k hk
theorem Q4(b:Nat)(f g p q:Int)(t:Nat->Gp)(w:bD)(h:cC w b t)(hw:wr t g≠0):
  Calls prog 116 #[ai (bB ⟨b,0,bC⟩),aa bf f,aa bf g,aa bf p,aa bf q] w λe w'=>e=bw (bS (wr t g))/\w'=w:=by
 have HT:Hid (cC w b t):=h;have HW:Hid (bS (wr t g)=aq 100 (aa bf (wr t g))):=bP hw;go_in
 go_wp2_with fail
 refine sC (jS b g t _ HT.v) ?_;rintro w1 hw1;subst w1;rw[HW.v];go_wp2
 go_ret
 exact⟨by rw[HW.v];rfl,rfl⟩
theorem Oq(b:Nat)(f g p q:Int)(t:Nat->Gp)(w:bD)(h:cC w b t)(hS:Small t)(hw:wr t g=0)(hu:gj t f p q≠0):
  Calls prog 116 #[ai (bB ⟨b,0,bC⟩),aa bf f,aa bf g,aa bf p,aa bf q] w λe w'=>e=bw (bS (gj t f p q))/\Below w.heap.size w w':=by
 have H:Hid (cC w b t/\Small t/\wr t g=0):=⟨h,hS,hw⟩;have HU:Hid (bS (gj t f p q)=aq 100 (aa bf (gj t f p q))):=bP hu;have Z:=tM w;rw[zK]at Z;have Z0:=hJ Z;have C0:=hJ (tg Z t);have hst:=I8 Z t;go_in
 go_wp2_with fail
 refine sC (jS b g t _ H.1) ?_;rintro w1 hw1;subst w1;rw[H.2.2,bN];go_wp2_with (first|(refine oZ (t:=t) (b:=b) rfl ?_ ?_;exact H.1))
 refine sC (iS w.heap.size f p q t _ C0.1 H.2.1) ?_;rintro w2 ⟨_,F2⟩;have B2:Hid (Below w.heap.size w w2):=F2.below C0.2 (aL _) C0.2.size;rw[HU.v];go_wp2
 go_ret
 exact⟨by rw[HU.v];rfl,B2.v⟩
theorem Oo(b:Nat)(f g p q:Int)(t:Nat->Gp)(Wy:Nat->List (Fin 10))(w:bD)(h:cC w b t)(hW:fH t Wy)(hS:Small t)(hw:wr t g=0)(hu:gj t f p q=0)(hc:gY (dG t f p q) Wy g p q≠0):
  Calls prog 116 #[ai (bB ⟨b,0,bC⟩),aa bf f,aa bf g,aa bf p,aa bf q] w λe w'=>e=bw (bS (gY (dG t f p q) Wy g p q))/\Below w.heap.size w w':=by
 have H:Hid (cC w b t/\Small t/\wr t g=0/\gj t f p q=0/\fH t Wy):=⟨h,hS,hw,hu,hW⟩;have HU:Hid (bS (gY (dG t f p q) Wy g p q)=aq 100 (aa bf (gY (dG t f p q) Wy g p q))):=bP hc;have Z:=tM w;rw[zK]at Z;have Z0:=hJ Z;have C0:=hJ (tg Z t);have hst:=I8 Z t;go_in
 go_wp2_with fail
 refine sC (jS b g t _ H.1) ?_;rintro w1 hw1;subst w1;rw[H.2.2.1,bN];go_wp2_with (first|(refine oZ (t:=t) (b:=b) rfl ?_ ?_;exact H.1))
 refine sC (iS w.heap.size f p q t _ C0.1 H.2.1) ?_;rintro w2 ⟨T2,F2⟩;have B2:Hid (Below w.heap.size w w2):=F2.below C0.2 (aL _) C0.2.size;have HT2:=hJ T2;rw[H.2.2.2.1,bN];go_wp2_with fail
 refine sC (nO w.heap.size g p q (dG t f p q) Wy _ HT2.v (H.2.2.2.2.same (Bz t f p q)) (zn H.2.1 f p q)) ?_;rintro w3 ⟨_,F3⟩;have B3:Hid (Below w.heap.size w w3):=F3.below B2.v (aL _) B2.size;rw[HU.v];go_wp2
 go_ret
 exact⟨by rw[HU.v];rfl,B3.v⟩
theorem Q3(b:Nat)(f g p q:Int)(t:Nat->Gp)(Wy:Nat->List (Fin 10))(w:bD)(h:cC w b t)(hW:fH t Wy)(hS:Small t)(hw:wr t g=0)(hu:gj t f p q=0)(hc:gY (dG t f p q) Wy g p q=0):
  Calls prog 116 #[ai (bB ⟨b,0,bC⟩),aa bf f,aa bf g,aa bf p,aa bf q] w λe w'=>e=bw (bS 0)/\cC w' b (gD (dG t f p q) Wy g p q)/\bO b w w':=by
 have H:Hid (cC w b t/\Small t/\wr t g=0/\gj t f p q=0/\fH t Wy/\gY (dG t f p q) Wy g p q=0):=⟨h,hS,hw,hu,hW,hc⟩;have Z:=tM w;rw[zK]at Z;have Z0:=hJ Z;have C0:=hJ (tg Z t);have hst:=I8 Z t;go_in
 go_wp2_with fail
 refine sC (jS b g t _ H.1) ?_;rintro w1 hw1;subst w1;rw[H.2.2.1,bN];go_wp2_with (first|(refine oZ (t:=t) (b:=b) rfl ?_ ?_;exact H.1))
 refine sC (iS w.heap.size f p q t _ C0.1 H.2.1) ?_;rintro w2 ⟨T2,F2⟩;have B2:Hid (Below w.heap.size w w2):=F2.below C0.2 (aL _) C0.2.size;have HT2:=hJ T2;rw[H.2.2.2.1,bN];go_wp2_with fail
 refine sC (nO w.heap.size g p q (dG t f p q) Wy _ HT2.v (H.2.2.2.2.1.same (Bz t f p q)) (zn H.2.1 f p q)) ?_;rintro w3 ⟨T3,F3⟩;have B3:Hid (Below w.heap.size w w3):=F3.below B2.v (aL _) B2.size;have HT3:=hJ T3;have HB:Hid (cC w3 b t):=H.1.below B3.v H.1.lt;rw[H.2.2.2.2.2,bN];generalize ht3:gD (dG t f p q) Wy g p q=t3 at*;have E3:=hJ ht3;have hst:=I8 HB.v t3;go_wp2_with (first|(refine oZ (t:=t3) (b:=w.heap.size) rfl ?_ ?_;exact HT3.v))
 go_ret
 exact⟨rfl,by rw[E3.v];exact vq HB.v (gL _) t3,(bO.cO B3.v).trans (qI b _ 0 _)⟩
theorem On(b:Nat)(f g p q:Int)(t:Nat->Gp)(Wy:Nat->List (Fin 10))(w:bD)(h:cC w b t)(hW:fH t Wy)(hS:Small t):
  Calls prog 116 #[ai (bB ⟨b,0,bC⟩),aa bf f,aa bf g,aa bf p,aa bf q] w λe w'=>e=bw (bS (nU t Wy f g p q))/\cC w' b (kK t Wy f g p q)/\bO b w w':=by
 unfold kK;by_cases hw:wr t g=0
 .by_cases hu:gj t f p q=0
  .have e:nU t Wy f g p q=gY (dG t f p q) Wy g p q:=by unfold nU;rw[aJ hw,aJ hu]
   rw[e];by_cases hc:gY (dG t f p q) Wy g p q=0
   .rw[hc,aJ rfl];exact Q3 b f g p q t Wy w h hW hS hw hu hc
   .rw[aI hc];exact(Oo b f g p q t Wy w h hW hS hw hu hc).mono λe w' ⟨h1,h2⟩=>⟨h1,h.below h2 h.lt,bO.cO h2⟩
  .have e:nU t Wy f g p q=gj t f p q:=by unfold nU;rw[aJ hw,aI hu]
   rw[e,aI hu];exact(Oq b f g p q t w h hS hw hu).mono λe w' ⟨h1,h2⟩=>⟨h1,h.below h2 h.lt,bO.cO h2⟩
 .have e:nU t Wy f g p q=wr t g:=by unfold nU;rw[aI hw]
  rw[e,aI hw];exact(Q4 b f g p q t w h hw).mono λe w' ⟨h1,h2⟩=>⟨h1,by rw[h2];exact h,by rw[h2];exact bO.refl b w⟩
theorem Uj{t:Nat->Gp}:(prog.info? 133).map (·.size)=bB (gH t).toList.length:=by rw[aB,gL];kernel_rfl
theorem FN{a:Act}{Q:Exit->Act->bD->Prop}{d:Option Tmp}{ps:String}{af:Array Edge}{x:Operand}{t:Nat->Gp}
  (hx:a.eval x=ai (bB ⟨b,0,bC⟩)) (hc:cC w b t) (h:wpList prog ops Q rest (a.put d (au (gH t))) w):wpList prog ops Q (⟨d, .load 133 x,ty,ps,af,bC⟩::rest) a w:=
 wpList_load_mid rfl 133 x rfl b 0 hx (gH t).toList _ (Bx hc) Tryz.underlying133 rfl Uj h
theorem JW(t:Nat->Gp)(n:Nat)(hn:n<10):(gH t).extract (n*6) (n*6+6)=#[ar (t n).there,aa bf (t n).par,aa bf (t n).lp,aa bf (t n).lq,aa bf (t n).op,aa bf (t n).oq]:=by
 apply bL;intro i;rw[Array.getElem?_extract,gL];rcases Nat.lt_or_ge i 6 with hi|hi
 .rw[nK,oz t n i hn hi]
  match i,hi with
  |0,_=>rfl
  |1,_=>rfl
  |2,_=>rfl
  |3,_=>rfl
  |4,_=>rfl
  |5,_=>rfl
 .rw[nJ,aR (by simpa using hi)]
def pJ(t:Nat->Gp)(n:Int):Bool:=(List.range 10).any λk=>(t k).there&&decide ((t k).par=n)
theorem Hl{t:Nat->Gp}{n:Int}(h:∀k,k<10->¬((t k).there=bE/\(t k).par=n)):pJ t n=bF:=by
 unfold pJ;rw[List.any_eq_false];intro k hk;have:=h k (List.mem_range.1 hk);simpa using this
theorem AR{t:Nat->Gp}{n:Int}(hk:k<10)(h1:(t k).there=bE)(h2:(t k).par=n):pJ t n=bE:=by
 unfold pJ;rw[List.any_eq_true];exact⟨k,List.mem_range.2 hk,by simp[h1,h2]⟩
theorem SX:∃i,prog.info? 132=bB i/\i.size=6:=⟨(prog.info? 132).get bH,by kernel_rfl,by kernel_rfl⟩
theorem FA(w:bD)(E A:Array Value)(k:Nat)(hk:k<10)(hE:E.extract (k*6) (k*6+6)=A):(Instr.index 133 (au E) (aa .i64 k)).run prog w= .ok (au A) w:=by
 obtain⟨i,hi,hs⟩:=SX;simp[Instr.index,asIntOf,run_underlying Tryz.underlying133,part,Sem.run_bind,sizeOf,typeInfo,hi,hs,hE];intro h;omega
theorem r8{a:Act}{Q:Exit->Act->bD->Prop}{d:Option Tmp}{ps:String}{af:Array Edge}{x y:Operand}{E A:Array Value}
  (hx:a.eval x=au E) (hy:a.eval y=aa .i64 k) (hk:k<10) (hE:E.extract (k*6) (k*6+6)=A) (h:wpList prog ops Q rest (a.put d (au A)) w):wpList prog ops Q (⟨d, .index 133 x y,ty,ps,af,bC⟩::rest) a w:=
 wpList_plain rfl λK hK=>by
  unfold Oper.wp execOp;simp only[hx,hy,Sem.run_bind,FA w E A k hk hE];exact hK _ _ h
theorem ra(b:Nat)(n:Int)(t:Nat->Gp)(w:bD)(h:cC w b t):Calls prog 188 #[ai (bB ⟨b,0,bC⟩),aa bf n] w λe w'=>e=bw (ar (pJ t n))/\Below w.heap.size w w':=by
 have HT:Hid (cC w b t):=h;have HX:Hid (∀k,k<10->(gH t).extract (k*6) (k*6+6)=#[ar (t k).there,aa bf (t k).par,aa bf (t k).lp,aa bf (t k).lq,aa bf (t k).op,aa bf (t k).oq]):=λk hk=>JW t k hk;go_in
 go_wp2_with (first|(refine FN (t:=t) (b:=b) rfl ?_ ?_;exact HT.v))
 have HB0:Hid (Below w.heap.size w w):=aQ _ _;generalize gH t=E at*;go_loopw [11] (λi wr=>∃(k:Nat),i=aa bf k/\k<=10/\Hid ((∀j,j<k->¬((t j).there=bE/\(t j).par=n))/\Below w.heap.size w wr)) (λi _=>10-(intOf i).toNat)
 case atStart=>exact⟨0,rfl,bG,λj hj=>aZ hj bG,HB0.v⟩
 case round=>
  obtain⟨k,rfl,hk,H⟩:=hrel;by_cases hlt:k<10
  .have hltI:(k:Int)<10:=bG
   have hx:=hJ (HX.v k hlt);have hw:=hJ H.2.size;have HN:=hJ (λ(h1:(t k).there=bE) (h2:(t k).par=n)=>AR hlt h1 h2);have HR:=hJ (λ(h1:¬((t k).there=bE/\(t k).par=n))=>(λj (hj:j<k+1)=>(by
    rcases Nat.lt_or_ge j k with e|e
    .exact H.1 j e
    .obtain rfl:j=k:=bG
     exact h1:¬((t j).there=bE/\(t j).par=n))))
   generalize (t k).there=TH at*;generalize (t k).par=PA at*;cases TH
   .have HR2:=hJ (HR.v (by simp));go_wp2_with (first|(refine r8 rfl rfl hlt hx.v ?_))
    go_roundw
    case rel=>exact⟨k+1,by go_num,bG,HR2.v,H.2.alloc hw.v _⟩
    case measure=>simp[intOf];omega
   .by_cases hp:PA=n
    .have HN2:=hJ (HN.v rfl hp);go_wp2_with (first|(refine r8 rfl rfl hlt hx.v ?_))
     go_ret
     exact⟨by rw[HN2.v];rfl,H.2.alloc hw.v _⟩
    .have dp:(PA==n)=bF:=by simpa using hp
     have HR2:=hJ (HR.v (by simp[hp]));go_wp2_with (first|(refine r8 rfl rfl hlt hx.v ?_))
     go_roundw
     case rel=>exact⟨k+1,by go_num,bG,HR2.v,H.2.alloc hw.v _⟩
     case measure=>simp[intOf];omega
  .have hk10:k=10:=bG
   subst hk10;go_wp2
   go_ret
   refine⟨?_,H.2⟩;have e0:pJ t n=bF:=Hl λj hj=>H.1 j hj;rw[e0];rfl
theorem KM(b:Nat)(g p q:Int)(t:Nat->Gp)(w:bD)(h:cC w b t)(hw:eC t g p q≠0):Calls prog 238 #[ai (bB ⟨b,0,bC⟩),aa bf g,aa bf p,aa bf q] w λe w'=>e=bw (ao #[aa bf 0,ar bF])/\Below w.heap.size w w':=by
 have HT:Hid (cC w b t):=h;have HW:Hid (bS (eC t g p q)=aq 100 (aa bf (eC t g p q))):=aI hw;go_in
 go_wp2_with fail
 refine sC (js b g p q t _ (HT.below ((aQ _ _).alloc (aL _) _) HT.lt)) ?_;rintro w1 hb;have HB:=hJ (yv hb).1;rw[HW.v];go_wp2
 go_ret2
 exact⟨rfl,HB.v⟩
theorem NJ(b n:Nat)(p q:Int)(t:Nat->Gp)(Wy:Nat->List (Fin 10))(w:bD)(h:cC w b t)(hW:fH t Wy)(hS:Small t)(hn:n<10)(hr:eC t n p q=0):Calls prog 238 #[ai (bB ⟨b,0,bC⟩),aa bf n,aa bf p,aa bf q] w λe w'=>
  (((∀y∈Wy n,ib t Wy p q y=bF)/\e=bw (ao #[aa bf 0,ar bF]))\/
   (∃pre x rest,Wy n=pre++x::rest/\(∀y∈pre,ib t Wy p q y=bF)/\ib t Wy p q x=bE/\e=bw (ao #[aa bf (x.val:Int),ar bE])))/\Below w.heap.size w w':=by
 have H:Hid (cC w b t/\fH t Wy/\Small t/\eC t n p q=0):=⟨h,hW,hS,hr⟩;obtain⟨hp,hq⟩:=oJ hr;have HPQ:Hid ((0<=p/\p<=1000)/\(0<=q/\q<=1000)):=⟨⟨hp.1,bG⟩,hq.1,bG⟩;go_in
 go_wp2_with fail
 refine sC (js b n p q t _ (H.1.below ((aQ _ _).alloc (aL _) _) H.1.lt)) ?_;rintro w1 hb;rw[H.2.2.2,bN];obtain⟨hb1,hx⟩:=yv hb;have HB:=hJ hb1;have x0:w1.cell? ⟨w.heap.size,0,bC⟩=bB (aa bf p):=dv hx 0;have x1:w1.cell? ⟨w.heap.size,1,bC⟩=bB (aa bf q):=dv hx 1;go_wp2_with fail
 refine(rQ b n p q t Wy (Wy n) _ (H.1.below HB.v H.1.lt) H.2.1 H.2.2.1 (H.2.1 n hn) HPQ.1 HPQ.2).mono ?_;rintro e w2 ⟨he,hb2⟩;have HB2:Hid (Below w.heap.size w w2):=HB.trans (hb2.mono HB.size);rcases he with⟨hno,rfl⟩|⟨pre,x,rest,h1,h2,h3,rfl⟩
 .have HN:=hJ hno;go_wp2
  go_ret2
  exact⟨.inl ⟨HN.v,rfl⟩,HB2.v⟩
 .have HN:=hJ (aK h1 (aK h2 h3));go_wp2
  go_ret2
  exact⟨.inr ⟨pre,x,rest,HN.1,HN.2.1,HN.2.2,rfl⟩,HB2.v⟩
theorem I4(b:Nat)(g:Int)(t:Nat->Gp)(w:bD)(h:cC w b t)(hw:wr t g≠0):Calls prog 113 #[ai (bB ⟨b,0,bC⟩),aa bf g] w λe w'=>e=bw (bS (wr t g))/\w'=w:=by
 have HT:Hid (cC w b t):=h;have HW:Hid (bS (wr t g)=aq 100 (aa bf (wr t g))):=bP hw;go_in
 go_wp2_with fail
 refine sC (jS b g t _ HT.v) ?_;rintro w1 hw1;subst w1;rw[HW.v];go_wp2
 go_ret
 exact⟨by rw[HW.v];rfl,rfl⟩
theorem Fy(b:Nat)(t:Nat->Gp)(w:bD)(h:cC w b t)(hh:(t 0).there=bE):Calls prog 113 #[ai (bB ⟨b,0,bC⟩),aa bf 0] w λe w'=>e=bw (bS 5)/\w'=w:=by
 have HT:Hid (cC w b t/\(t 0).there=bE):=⟨h,hh⟩;go_in
 go_wp2_with fail
 refine sC (jc b 0 t _ HT.1 bG HT.2) ?_;rintro w1 hw1;subst w1;go_wp2
 go_ret
 exact⟨rfl,rfl⟩
theorem I5(b n:Nat)(t:Nat->Gp)(Wy:Nat->List (Fin 10))(w:bD)(h:cC w b t)(hW:fH t Wy)(hS:Small t)(hn:n<10)(hn0:n≠0)(hh:(t n).there=bE)(hx:dg t Wy n Gp.op 10≠0\/dg t Wy n Gp.oq 10≠0):
  Calls prog 113 #[ai (bB ⟨b,0,bC⟩),aa bf n] w λe w'=>e=bw (bS 5)/\Below w.heap.size w w':=by
 have H:Hid (cC w b t/\(t n).there=bE/\fH t Wy/\Small t):=⟨h,hh,hW,hS⟩;have d0:((n:Int)==0)=bF:=by simpa using hn0
 generalize hX:dg t Wy n Gp.op 10=X at*;generalize hY:dg t Wy n Gp.oq 10=Y at*;have HXY:=hJ (aK hX hY);go_in
 go_wp2_with fail
 refine sC (jc b n t _ H.1 hn H.2.1) ?_;rintro w1 hw1;subst w1;go_wp2_with fail
 refine sC (kE b n t Wy _ H.1 H.2.2.1 H.2.2.2) ?_;rintro w2 hb;have HB:=hJ hb;rw[HXY.1,HXY.2];by_cases h1:X=0
 .have h2:(Y==0)=bF:=by have:=hx.resolve_left (λh=>h h1);simpa using this
  subst h1;go_wp2
  go_ret
  exact⟨rfl,HB.v⟩
 .have h2:(X==0)=bF:=by simpa using h1
  go_wp2
  go_ret
  exact⟨rfl,HB.v⟩
theorem I3(b n:Nat)(t:Nat->Gp)(Wy:Nat->List (Fin 10))(w:bD)(h:cC w b t)(hW:fH t Wy)(hS:Small t)(hn:n<10)(hn0:n≠0)(hh:(t n).there=bE)(hx:dg t Wy n Gp.op 10=0/\dg t Wy n Gp.oq 10=0)(ha:pJ t n=bE):
  Calls prog 113 #[ai (bB ⟨b,0,bC⟩),aa bf n] w λe w'=>e=bw (bS 5)/\Below w.heap.size w w':=by
 have H:Hid (cC w b t/\(t n).there=bE/\fH t Wy/\Small t):=⟨h,hh,hW,hS⟩;have d0:((n:Int)==0)=bF:=by simpa using hn0
 have HXY:=hJ hx;have HA:=hJ ha;go_in
 go_wp2_with fail
 refine sC (jc b n t _ H.1 hn H.2.1) ?_;rintro w1 hw1;subst w1;go_wp2_with fail
 refine sC (kE b n t Wy _ H.1 H.2.2.1 H.2.2.2) ?_;rintro w2 hb;have HB:=hJ hb;rw[HXY.1,HXY.2];go_wp2_with fail
 refine sC (ra b n t _ (H.1.below HB.v H.1.lt)) ?_;rintro w3 hb;have HB3:Hid (Below w.heap.size w w3):=HB.trans (hb.mono HB.size);rw[HA.v];go_wp2
 go_ret
 exact⟨rfl,HB3.v⟩
theorem Lo(b n:Nat)(t:Nat->Gp)(Wy:Nat->List (Fin 10))(w:bD)(h:cC w b t)(hW:fH t Wy)(hS:Small t)(hn:n<10)(hn0:n≠0)(hh:(t n).there=bE)(hx:dg t Wy n Gp.op 10=0/\dg t Wy n Gp.oq 10=0)(ha:pJ t n=bF):
  Calls prog 113 #[ai (bB ⟨b,0,bC⟩),aa bf n] w λe w'=>e=bw (bS 0)/\cC w' b (fK t n lM)/\bO b w w':=by
 have H:Hid (cC w b t/\(t n).there=bE/\fH t Wy/\Small t):=⟨h,hh,hW,hS⟩;have d0:((n:Int)==0)=bF:=by simpa using hn0
 have hnI:(n:Int)<10:=bG
 have HXY:=hJ hx;have HA:=hJ ha;go_in
 go_wp2_with fail
 refine sC (jc b n t _ H.1 hn H.2.1) ?_;rintro w1 hw1;subst w1;go_wp2_with fail
 refine sC (kE b n t Wy _ H.1 H.2.2.1 H.2.2.2) ?_;rintro w2 hb;have HB:=hJ hb;rw[HXY.1,HXY.2];go_wp2_with fail
 refine sC (ra b n t _ (H.1.below HB.v H.1.lt)) ?_;rintro w3 hb;have HB3:Hid (Below w.heap.size w w3):=HB.trans (hb.mono HB.size);rw[HA.v];have T3:=hJ (H.1.below HB3.v H.1.lt);have c0:w3.cell? ⟨b,n*6,bC⟩=bB (ar (t n).there):=T3.cell n 0 hn bG;have c1:w3.cell? ⟨b,n*6+1,bC⟩=bB (aa bf (t n).par):=T3.cell n 1 hn bG;have c2:w3.cell? ⟨b,n*6+2,bC⟩=bB (aa bf (t n).lp):=T3.cell n 2 hn bG;have c3:w3.cell? ⟨b,n*6+3,bC⟩=bB (aa bf (t n).lq):=T3.cell n 3 hn bG;have c4:w3.cell? ⟨b,n*6+4,bC⟩=bB (aa bf (t n).op):=T3.cell n 4 hn bG;have c5:w3.cell? ⟨b,n*6+5,bC⟩=bB (aa bf (t n).oq):=T3.cell n 5 hn bG;have cf:=T3.frozen;go_wp2
 go_ret
 exact⟨rfl,T3.OC n hn lM,((((((bO.cO HB3.v).setCell _ _).setCell _ _).setCell _ _).setCell _ _).setCell _ _).setCell _ _⟩
theorem Qe(b:Nat)(g:Int)(t:Nat->Gp)(w:bD)(h:cC w b t)(hw:wr t g≠0):Calls prog 111 #[ai (bB ⟨b,0,bC⟩),aa bf g] w λe w'=>e=bw (ao #[aa bf 0,bS (wr t g)])/\w'=w:=by
 have HT:Hid (cC w b t):=h;have HW:Hid (bS (wr t g)=aq 100 (aa bf (wr t g))):=bP hw;go_in
 go_wp2_with fail
 refine sC (jS b g t _ HT.v) ?_;rintro w1 hw1;subst w1;rw[HW.v];go_wp2
 go_ret2
 exact⟨by rw[HW.v];rfl,rfl⟩
theorem wX(b n:Nat)(t:Nat->Gp)(xs:List (Fin 10))(w:bD)(h:cC w b t)(hL:Way t n (kA xs))(hn:n<10)(hh:(t n).there=bE)(hd:4<=xs.length)(hd2:xs.length<1000):
  Calls prog 111 #[ai (bB ⟨b,0,bC⟩),aa bf n] w λe w'=>e=bw (ao #[aa bf 0,bS 7])/\Below w.heap.size w w':=by
 have H:Hid (cC w b t/\Way t n (kA xs)/\(t n).there=bE):=⟨h,hL,hh⟩;go_in
 go_wp2_with fail
 refine sC (jc b n t _ H.1 hn H.2.2) ?_;rintro w1 hw1;subst w1;go_wp2_with fail
 refine sC (po b n t xs _ H.1 H.2.1 hd2) ?_;rintro w2 hb;have HB:=hJ hb;have hdI:(4:Int)<=(xs.length:Int):=bG
 go_wp2
 go_ret2
 exact⟨rfl,HB.v⟩
theorem wY(b p:Nat)(t:Nat->Gp)(xs:List (Fin 10))(w:bD)(h:cC w b t)(hL:Way t p (kA xs))(hp:p<10)(hh:(t p).there=bE)(hd:xs.length<4):
  Calls prog 111 #[ai (bB ⟨b,0,bC⟩),aa bf p] w λe w'=>
   (∃n:Nat,n<10/\(t n).there=bF/\(∀k,k<n->(t k).there=bE)/\e=bw (ao #[aa bf n,bS 0])/\cC w' b (fK t n (nV p))/\bO b w w')\/
   ((∀k,k<10->(t k).there=bE)/\e=bw (ao #[aa bf 0,bS 4])/\Below w.heap.size w w'):=by
 have H:Hid (cC w b t/\Way t p (kA xs)/\(t p).there=bE):=⟨h,hL,hh⟩;go_in
 go_wp2_with fail
 refine sC (jc b p t _ H.1 hp H.2.2) ?_;rintro w1 hw1;subst w1;go_wp2_with fail
 refine sC (po b p t xs _ H.1 H.2.1 bG) ?_;rintro w2 hb;have HB:=hJ hb;have hdI:¬(4:Int)<=(xs.length:Int):=bG
 go_wp2_with fail
 go_loopw [19] (λi wr=>∃(k:Nat),i=aa bf k/\k<=10/\Hid ((∀j,j<k->(t j).there=bE)/\Below w.heap.size w wr)) (λi _=>10-(intOf i).toNat)
 case atStart=>exact⟨0,rfl,bG,⟨λj hj=>bG,HB.v⟩⟩
 case round=>
  obtain⟨k,rfl,hk,HR⟩:=hrel;by_cases hlt:k<10
  .have hltI:(k:Int)<10:=bG
   have T1:=hJ (H.1.below HR.2 H.1.lt);have c0:wr.cell? ⟨b,k*6,bC⟩=bB (ar (t k).there):=T1.cell k 0 hlt bG;cases hth:(t k).there
   .have HTH:=hJ hth;rw[hth]at c0;go_wp2_with fail
    go_region_held3 (λ_=>True) (trivial) ((go_at_call 162;refine sC (uY _ _) ?_;rintro w3 hb3;have T2:cC w3 b t:=T1.drew.below hb3 T1.lt;have c0:w3.cell? ⟨b,k*6,bC⟩=bB (ar (t k).there):=T2.cell k 0 hlt bG;have c1:=T2.cell k 1 hlt bG;have c2:=T2.cell k 2 hlt bG;have c3:=T2.cell k 3 hlt bG;have c4:=T2.cell k 4 hlt bG;have c5:=T2.cell k 5 hlt bG;have cf:=T2.frozen))
    have HT2:Hid (cC w3 b t):=T2;have HB2:Hid (Below w.heap.size w w3):=HR.2.trans ((aQ _ wr).drew.trans (hb3.mono (by have:=HR.2.size;exact this)));go_wp2
    go_ret2
    exact .inl ⟨k,hlt,HTH.v,HR.1,rfl,HT2.OC k hlt (nV p),((((((bO.cO HB2.v).setCell _ _).setCell _ _).setCell _ _).setCell _ _).setCell _ _).setCell _ _⟩
   .have HTH:=hJ hth;rw[hth]at c0;go_wp2
    go_roundw
    case rel=>exact⟨k+1,by go_num,bG,⟨λj hj=>(Nat.lt_or_ge j k).elim (HR.1 j) (λhge=>by rw[show j=k by omega];exact HTH.v),HR.2⟩⟩
    case measure=>simp[intOf];omega
  .have hk10:k=10:=bG
   subst hk10;go_wp2
   go_ret2
   exact .inr ⟨HR.1,rfl,HR.2⟩
structure Tree (t:Nat->Gp)(Wy:Nat->List (Fin 10))(c:Nat):Prop where
 ways:fH t Wy
 deep:∀k,k<10->(Wy k).length<=4
 root:(t 0).there=bE/\(t 0).par= -1
 par:∀k,k<10->(t k).there=bE->k≠0->∃m:Nat,(t k).par=m/\m<10/\(t m).there=bE
 own:∀k,k<10->(0<=(t k).op/\(t k).op<=64*c)/\(0<=(t k).oq/\(t k).oq<=64*c)
section
variable {t:Nat->Gp}{Wy:Nat->List (Fin 10)}{c:Nat}
theorem Tree.small(h:Tree t Wy c)(hc:c<=1000):Small t:=λk hk=>by have:=h.own k hk;omega
theorem Tree.mono(h:Tree t Wy c)(hc:c<=c'):Tree t Wy c':=⟨h.ways,h.deep,h.root,h.par,λk hk=>by have:=h.own k hk;omega⟩
theorem AN(h:fH t Wy)(hk:k<10)(hh:(t k).there=bF):Wy k=[]:=by
 have:=h k hk;cases hw:Wy k with
 |nil=>rfl
 |cons x r=>
  rw[hw]at this;obtain⟨e,_,h3,_⟩:=this;have:k=x.val:=by exact Int.ofNat_inj.1 e
  rw[<-this,hh]at h3;cases h3
theorem xR(h:fH t Wy)(hk:k<10)(hh:(t k).there=bE):∃r,Wy k=⟨k,hk⟩::r/\Way t (t k).par (kA r):=by
 have:=h k hk;cases hw:Wy k with
 |nil=>
  rw[hw]at this;exact aZ ⟨by omega,bG,hh⟩ this
 |cons x r=>
  rw[hw]at this;obtain⟨e,_,_,h4⟩:=this;have e2:k=x.val:=by exact Int.ofNat_inj.1 e
  subst e2;exact⟨r,rfl,h4⟩
theorem Vh(h:Tree t Wy c):Wy 0=[⟨0,bG⟩]:=by
 obtain⟨r,hr,hw⟩:=xR h.ways (show 0<10 by omega) h.root.1;rw[h.root.2]at hw;cases r with
 |nil=>exact hr
 |cons x r=>obtain⟨e,_⟩:=hw;omega
theorem vG:∀{g:Int} {L:List Nat},Way t g L->∀x∈L,x<10/\(t x).there=bE
 |_,[],_,x,hx=>by simp at hx
 |_,y::L,⟨_,h2,h3,h4⟩,x,hx=>by
  rcases List.mem_cons.1 hx with e|e
  .subst e;exact⟨h2,h3⟩
  .exact vG h4 x e
theorem RQ{n:Int}:zo Wy k n=bE↔∃x∈Wy k,(x.val:Int)=n:=by unfold zo;exact decide_eq_true_iff
theorem O0(h:fH t Wy)(hk:k<10)(hh:(t k).there=bE):zo Wy k k=bE:=by
 obtain⟨r,hr,_⟩:=xR h hk hh;rw[RQ,hr];exact⟨⟨k,hk⟩,List.mem_cons_self,rfl⟩
end
theorem ze{t:Nat->Gp}{Wy:Nat->List (Fin 10)}{m:Int}{sel:Gp->Int}(h0:∀j,j<10->0<=sel (t j)):∀{k:Nat},k<=10->dg t Wy m sel k=0->∀j,j<k->zo Wy j m=bE->sel (t j)=0
 |0,_,_,j,hj,_=>bG
 |k+1,hk,h,j,hj,hu=>by
  have nn:∀i,i<=10->0<=dg t Wy m sel i:=λi=>by
   induction i with
   |zero=>intro _;exact Int.le_refl 0
   |succ i ih=>
    intro hi;have:=ih bG;have:=h0 i bG;unfold dg;split<;>omega
  unfold dg at h;have a:=nn k bG;have b:=h0 k bG;have h1:dg t Wy m sel k=0:=by split at h<;>omega
  by_cases e:j=k
  .subst e;rw[aJ hu]at h;omega
  .exact ze h0 bG h1 j bG hu
section
variable {t:Nat->Gp}{Wy:Nat->List (Fin 10)}{c:Nat}
def t0:Nat->Gp:=fK (λ_=>lM) 0 (nV (-1))
def W0:Nat->List (Fin 10):=λk=>if k=0 then[⟨0,bG⟩]else[]
theorem zl:Tree t0 W0 0:=by
 have hn:∀k,k≠0->t0 k=lM:=λk hk=>fc _ _ _ _ hk;have h0:t0 0=nV (-1):=eG _ _ _;refine⟨λk hk=>?_,λk hk=>?_,⟨by rw[h0];rfl,by rw[h0];rfl⟩,λk hk hh hne=>?_,λk hk=>?_⟩
 .by_cases e:k=0
  .subst e;exact⟨rfl,by decide,by show(t0 0).there=bE;rw[h0];rfl,by show¬valid t0 (t0 0).par;rw[h0];rintro⟨a,_⟩;exact aZ a bM⟩
  .have:W0 k=[]:=aI e;rw[this];rintro⟨_,_,h⟩;rw[hZ,hn k e]at h;cases h
 .unfold W0;split<;>simp
 .rw[hn k hne]at hh;cases hh
 .by_cases e:k=0
  .subst e;rw[h0];simp[nV]
  .rw[hn k e];simp[lM]
theorem Tree.PJ(h:Tree t Wy c){t':Nat->Gp}(hs:∀k,(t' k).there=(t k).there/\(t' k).par=(t k).par)(ho:∀k,k<10->(0<=(t' k).op/\(t' k).op<=64*c')/\(0<=(t' k).oq/\(t' k).oq<=64*c')):Tree t' Wy c':=
 ⟨h.ways.same hs,h.deep,⟨by rw[(hs 0).1];exact h.root.1,by rw[(hs 0).2];exact h.root.2⟩,λk hk hh hne=>by
  rw[(hs k).1]at hh;obtain⟨m,e,hm,hhm⟩:=h.par k hk hh hne;exact⟨m,by rw[(hs k).2];exact e,hm,by rw[(hs m).1];exact hhm⟩,ho⟩
theorem Tree.gx(h:Tree t Wy c){n:Nat}{p q:Int}{c':Nat}(hc:c<=c')(hp:0<=(t n).op+p/\(t n).op+p<=64*c')(hq:0<=(t n).oq+q/\(t n).oq+q<=64*c'):Tree (gx t n p q) Wy c':=by
 refine h.PJ (AS t n p q) λk hk=>?_;by_cases e:k=n
 .subst e;rw[show YtpmmdkcfenjiaaaGreatDoor.Gr.gx t k p q k=_ from eG _ _ _];exact⟨hp,hq⟩
 .rw[show YtpmmdkcfenjiaaaGreatDoor.Gr.gx t n p q k=_ from fc _ _ _ _ e];have:=h.own k hk;omega
theorem NZ(t:Nat->Gp)(n:Nat)(p q:Int)(k:Nat):(fK t n {t n with lp:=p,lq:=q} k).there=(t k).there/\(fK t n {t n with lp:=p,lq:=q} k).par=(t k).par:=by
 by_cases e:k=n
 .subst e;rw[eG];exact⟨rfl,rfl⟩
 .rw[fc _ _ _ _ e];exact⟨rfl,rfl⟩
theorem Tree.Ul(h:Tree t Wy c):Tree (fK t n {t n with lp:=p,lq:=q}) Wy c:=by
 refine h.PJ (NZ t n p q) λk hk=>?_;by_cases e:k=n
 .subst e;rw[eG];exact h.own k hk
 .rw[fc _ _ _ _ e];exact h.own k hk
def Hm(Wy:Nat->List (Fin 10))(n:Nat)(hn:n<10)(p:Nat):Nat->List (Fin 10):=λk=>if k=n then⟨n,hn⟩::Wy p else Wy k
def I2(Wy:Nat->List (Fin 10))(n:Nat):Nat->List (Fin 10):=λk=>if k=n then[]else Wy k
theorem EC{t':Nat->Gp}:∀{g:Int} {L:List Nat},Way t g L->(∀x∈L,t' x=t x)->(∀x∈L,∀g:Int,(t x).par=g->¬valid t g->¬valid t' g)->(¬valid t g->¬valid t' g)->Way t' g L
 |_,[],h,_,_,hg=>hg h
 |_,x::L,⟨e,h2,h3,h4⟩,he,hp,_=>by
  have ex:=he x (by simp);refine⟨e,h2,by rw[ex];exact h3,?_⟩;rw[ex];exact EC h4 (λy hy=>he y (by simp[hy])) (λy hy=>hp y (by simp[hy])) (hp x (by simp) _ rfl)
theorem qP(h:Tree t Wy c){t':Nat->Gp}(hk:k<10)(hh:(t k).there=bE)(he:∀x∈Wy k,t' x.val=t x.val):Way t' k (kA (Wy k)):=by
 refine EC (h.ways k hk) (λx hx=>?_) (λx hx g hg hv=>?_) (λhv=>aZ ⟨by omega,bG,hh⟩ hv)
 .obtain⟨y,hy,rfl⟩:=List.mem_map.1 hx;exact he y hy
 .obtain⟨hx10,hxh⟩:=vG (h.ways k hk) x hx;by_cases e:x=0
  .subst e;rw[h.root.2]at hg;rintro⟨a,_⟩;omega
  .obtain⟨m,em,hm,hmh⟩:=h.par x hx10 hxh e;exact aZ ⟨by omega,bG,by rw[show g.toNat=m by omega];exact hmh⟩ hv
theorem Tree.add(h:Tree t Wy c){p:Nat}(hn:n<10)(hf:(t n).there=bF)(hp:p<10)(hh:(t p).there=bE)(hd:(Wy p).length<4):Tree (fK t n (nV p)) (Hm Wy n hn p) c:=by
 have hnp:p≠n:=λe=>by rw[e,hf]at hh;cases hh
 have hn0:n≠0:=λe=>by have:=h.root.1;rw[<-e,hf]at this;cases this
 have key:∀k,k<10->(t k).there=bE->∀x∈Wy k,fK t n (nV p) x.val=t x.val:=λk hk hkh x hx=>by
  refine fc _ _ _ _ λe=>?_;have:=(vG (h.ways k hk) x.val (List.mem_map.2 ⟨x,hx,rfl⟩)).2;rw[e,hf]at this;cases this
 refine⟨λk hk=>?_,λk hk=>?_,?_,λk hk hkh hk0=>?_,λk hk=>?_⟩
 .by_cases e:k=n
  .subst e;have ew:Hm Wy k hn p k=⟨k,hn⟩::Wy p:=aJ rfl;rw[ew];refine⟨rfl,hn,by rw[eG];rfl,?_⟩;rw[eG];exact qP h hp hh (key p hp hh)
  .have ew:Hm Wy n hn p k=Wy k:=aI e;rw[ew];by_cases hkh:(t k).there=bE
   .exact qP h hk hkh (key k hk hkh)
   .have hkf:(t k).there=bF:=by simpa using hkh
    rw[AN h.ways hk hkf];rintro⟨_,_,hv⟩;rw[hZ,fc _ _ _ _ e,hkf]at hv;cases hv
 .unfold Hm;split
  .simp only[List.length_cons];omega
  .exact h.deep k hk
 .rw[fc _ _ _ _ (bQ hn0)];exact h.root
 .by_cases e:k=n
  .subst e;refine⟨p,by rw[eG];rfl,hp,by rw[fc _ _ _ _ hnp];exact hh⟩
  .rw[fc _ _ _ _ e]at hkh|-;obtain⟨m,em,hm,hmh⟩:=h.par k hk hkh hk0;refine⟨m,em,hm,?_⟩;by_cases e2:m=n
   .rw[e2,eG];rfl
   .rw[fc _ _ _ _ e2];exact hmh
 .by_cases e:k=n
  .subst e;rw[eG];simp[nV];omega
  .rw[fc _ _ _ _ e];exact h.own k hk
theorem BG:∀{g:Int} {x:Nat} {L:List Nat} {n:Nat},Way t g (x::L)->n∈L->∃j,j<10/\(t j).there=bE/\(t j).par=n
 |_,_,[],_,_,h=>by simp at h
 |_,x,y::L,n,⟨_,h2,h3,h4⟩,h=>by
  rcases List.mem_cons.1 h with e|e
  .subst e;exact⟨x,h2,h3,h4.1⟩
  .exact BG h4 e
theorem F8(ha:pJ t n=bF)(hk:k<10)(hh:(t k).there=bE):(t k).par≠n:=λe=>by
 rw[AR hk hh e]at ha;cases ha
theorem Tree.Rm(h:Tree t Wy c)(ha:pJ t n=bF)(hk:k<10)(hkn:k≠n):∀x∈Wy k,x.val≠n:=λx hx e=>by
 by_cases hh:(t k).there=bE
 .obtain⟨r,hr,hw⟩:=xR h.ways hk hh;have hW:=h.ways k hk;rw[hr]at hx hW;rcases List.mem_cons.1 hx with e2|e2
  .rw[e2]at e;exact hkn e
  .obtain⟨j,hj,hjh,hjp⟩:=BG (n:=n) hW (List.mem_map.2 ⟨x,e2,e⟩);exact F8 ha hj hjh hjp
 .have hf:(t k).there=bF:=by simpa using hh
  rw[AN h.ways hk hf]at hx;simp at hx
theorem Tree.rem(h:Tree t Wy c)(hn0:n≠0)(ha:pJ t n=bF):Tree (fK t n lM) (I2 Wy n) c:=by
 refine⟨λk hk=>?_,λk hk=>?_,?_,λk hk hkh hk0=>?_,λk hk=>?_⟩
 .by_cases e:k=n
  .subst e;have ew:I2 Wy k k=[]:=aJ rfl;rw[ew];rintro⟨_,_,hv⟩;rw[hZ,eG]at hv;cases hv
  .have ew:I2 Wy n k=Wy k:=aI e;rw[ew];by_cases hkh:(t k).there=bE
   .exact qP h hk hkh λx hx=>fc _ _ _ _ (h.Rm ha hk e x hx)
   .have hkf:(t k).there=bF:=by simpa using hkh
    rw[AN h.ways hk hkf];rintro⟨_,_,hv⟩;rw[hZ,fc _ _ _ _ e,hkf]at hv;cases hv
 .unfold I2;split
  .simp
  .exact h.deep k hk
 .rw[fc _ _ _ _ (bQ hn0)];exact h.root
 .by_cases e:k=n
  .subst e;rw[eG]at hkh;cases hkh
  .rw[fc _ _ _ _ e]at hkh|-;obtain⟨m,em,hm,hmh⟩:=h.par k hk hkh hk0;have hmn:m≠n:=λe2=>F8 ha hk hkh (by rw[em,e2]);exact⟨m,em,hm,by rw[fc _ _ _ _ hmn];exact hmh⟩
 .by_cases e:k=n
  .subst e;rw[eG];simp[lM];omega
  .rw[fc _ _ _ _ e];exact h.own k hk
end
end Go.Proofs.YtpmmdkcfenjiaaaGreatDoor.Gr

import Derived.Test.YtpmmdkcfenjiaaaGreatDoorVaf
set_option maxRecDepth 100000
set_option maxHeartbeats 1000000
namespace Go.Proofs.YtpmmdkcfenjiaaaGreatDoor.Gr
open Go.RowKit Go.Shelf
attribute [local go_sem] Oper.semAt_some
theorem mw {W W':World}(h:Below W.heap.size W W'):KeepsOthers W W':=
 ⟨h.size,fun k _ hk _=>(h.block k (Array.getElem?_eq_some_iff.1 hk).1).trans hk⟩
theorem K2.bB {b bt:Nat}{W W':World}(h:Below W.heap.size W W')(h1:b<W.heap.size)(h2:bt<W.heap.size):K2 b bt W W':=⟨h.block b h1,h.block bt h2⟩
def fJ (t:Nat->Gp)(Wy:Nat->List (Fin 10))(p q:Int)(y:Fin 10):Bool:=
 kB (cU t Wy y.val Gp.op 10) p (t y.val).lp||kB (cU t Wy y.val Gp.oq 10) q (t y.val).lq
structure Lk (w W:World)(b:Nat)(p q g:Int)(f:Bool):Prop where
 bF:Below w.heap.size w W
 bt:W.heap[w.heap.size]? =some (.cells #[.pointer (some ⟨b,0,none⟩)] 79 (0,0))
 bm:W.heap[w.heap.size+1]? =some (.cells #[.int .i64 p, .int .i64 q] 130 (0,0))
 r1:W.heap[w.heap.size+1+1]? =some (.cells #[.int .i64 g] 3 (0,0))
 r2:W.heap[w.heap.size+1+1+1]? =some (.cells #[.bool f] 4 (0,0))
theorem Lk.below {w W W':World}{b:Nat}{p q g:Int}{f:Bool}(h:Lk w W b p q g f)(hb:Below W.heap.size W W'):Lk w W' b p q g f:=by
 have h1:=(Array.getElem?_eq_some_iff.1 h.r2).1;exact⟨h.bF.trans (hb.mono h.bF.size),(hb.block _ (by omega)).trans h.bt,(hb.block _ (by omega)).trans h.bm,(hb.block _ (by omega)).trans h.r1,(hb.block _ h1).trans h.r2⟩
theorem Lk.own (w:World)(b:Nat)(p q g:Int)(f:Bool){β:Type}:OwnFrom (β:=β) (w.heap.size+1+1+1+1+1+1) (fun _ W=>Lk w W b p q g f):=fun s W W' row hs hg hr=>by
 have h1:=(Array.getElem?_eq_some_iff.1 hs.r2).1;have hk: ∀k,k<w.heap.size+1+1+1+1->W'.heap[k]? =W.heap[k]? :=fun k hk=>hg.block k (by omega) (fun e=>by have:=(hr k e.symm).1;omega);refine⟨hs.bF.grown hg (by omega) (fun k e=>by have:=(hr k e).1;omega),(hk _ (by omega)).trans hs.bt,(hk _ (by omega)).trans hs.bm,(hk _ (by omega)).trans hs.r1,(hk _ (by omega)).trans hs.r2⟩
theorem Je (w:World)(b:Nat)(p q g:Int)(o5 o6:Obj):Lk w ((((((w.alloc (.cells #[.pointer (some ⟨b,0,none⟩)] 79)).alloc (.cells #[.int .i64 p, .int .i64 q] 130)).alloc (.cells #[.int .i64 g] 3)).alloc (.cells #[.bool false] 4)).alloc o5).alloc o6) b p q g false:=by
 have A:=PZ w (.cells #[.pointer (some ⟨b,0,none⟩)] 79) (.cells #[.int .i64 p, .int .i64 q] 130) (.cells #[.int .i64 g] 3) (.cells #[.bool false] 4);have B:=yw w (.cells #[.pointer (some ⟨b,0,none⟩)] 79) (.cells #[.int .i64 p, .int .i64 q] 130) (.cells #[.int .i64 g] 3) (.cells #[.bool false] 4);have hs:=World.size_alloc;refine Lk.below ⟨B,A.1,A.2.1,A.2.2.1,A.2.2.2⟩ (((Below.refl _ _).alloc (Nat.le_refl _) _).alloc (by simp) _)
theorem Jb (w:World)(o1 o2 o3 o4 o5 o6:Obj):((((((w.alloc o1).alloc o2).alloc o3).alloc o4).alloc o5).alloc o6).heap[w.heap.size+1+1+1+1]? =some o5/\((((((w.alloc o1).alloc o2).alloc o3).alloc o4).alloc o5).alloc o6).heap[w.heap.size+1+1+1+1+1]? =some o6:=by
 have A:=Qh ((((w.alloc o1).alloc o2).alloc o3).alloc o4) o5 o6;simp only[World.size_alloc]at A;exact A
theorem Lk.fin {w W:World}{b:Nat}{p q g:Int}{f:Bool}(h:Lk w W b p q g f)(g':Int)(f':Bool):Lk w ((W.setCell ⟨w.heap.size+1+1,0,none⟩ (.int .i64 g')).setCell ⟨w.heap.size+1+1+1,0,none⟩ (.bool f')) b p q g' f':=by
 have e1:(W.setCell ⟨w.heap.size+1+1,0,none⟩ (.int .i64 g')).heap[w.heap.size+1+1]? =some (.cells #[.int .i64 g'] 3 (0,0)):=by rw[heap_set h.r1];rfl
 have e2:(W.setCell ⟨w.heap.size+1+1,0,none⟩ (.int .i64 g')).heap[w.heap.size+1+1+1]? =some (.cells #[.bool f] 4 (0,0)):=by rw[dD _ _ _ _ (by omega)];exact h.r2
 refine⟨(h.bF.setCell (p:=⟨w.heap.size+1+1,0,none⟩) (by simp;omega) _).setCell (p:=⟨w.heap.size+1+1+1,0,none⟩) (by simp;omega) _,?_,?_,?_,?_⟩
 ·rw[dD _ _ _ _ (by omega),dD _ _ _ _ (by omega)];exact h.bt
 ·rw[dD _ _ _ _ (by omega),dD _ _ _ _ (by omega)];exact h.bm
 ·rw[dD _ _ _ _ (by omega)];exact e1
 ·rw[heap_set e2];rfl
theorem p7 (b:Nat)(g p q:Int)(t:Nat->Gp)(Wy:Nat->List (Fin 10))(xs:List (Fin 10))(w:World)(hT:bd w b t)(hW:gQ t Wy)(hS:Small t)(hL:Way t g (mD xs))(hp:0<=p/\p<=1000)(hq:0<=q/\q<=1000):
  Calls Tryz.prog 139 #[.pointer (some ⟨b,0,none⟩), .int .i64 g, .agg #[.int .i64 p, .int .i64 q]] w fun e W'=>(((∀y∈xs,fJ t Wy p q y=false)/\e= .returned (.tuple #[.int .i64 0, .bool false]))\/
   (∃pre x rest,xs=pre++x::rest/\(∀y∈pre,fJ t Wy p q y=false)/\fJ t Wy p q x=true/\e= .returned (.tuple #[.int .i64 (x.val:Int), .bool true])))/\Below w.heap.size w W':=by
 refine(callsIn_wide (n:=4)).1 ?_;refine callsIn_of_wp_marks Tryz.func139 rfl trivial ?_ rfl;simp only[Tryz.ntmps139,List.size_toArray,List.length_cons,List.length_nil,Nat.reduceAdd,Nat.reduceSub,Array.replicate_succ,Array.replicate_zero,List.push_toArray,List.append_toArray,List.nil_append,List.cons_append]
 gi_wp2_with (refine⟨trivial,?_⟩;gi_at_call 216;refine(callsIn_wide.2 (CQ b g _)).mono ?_;rintro e w' ⟨rfl,rfl⟩)
 have hLk:=Je w b p q 0 (.cells #[.pointer (some ⟨b,0,none⟩)] 79) (.cells #[.int .i64 g] 3);have hbx:=Jb w (.cells #[.pointer (some ⟨b,0,none⟩)] 79) (.cells #[.int .i64 p, .int .i64 q] 130) (.cells #[.int .i64 0] 3) (.cells #[.bool false] 4) (.cells #[.pointer (some ⟨b,0,none⟩)] 79) (.cells #[.int .i64 g] 3);have c5:=gR hbx.2;have hbl:=hT.lt;refine wpIn_rangeFunc_ownF rfl (by omega) (gf:=267) (lb:=#[.pointer (some ⟨w.heap.size+1+1+1+1+1,0,none⟩), .pointer (some ⟨w.heap.size+1+1+1+1,0,none⟩)]) rfl trivial (enters_of Tryz.func267 (by kernel_rfl) rfl)
  (yW 3 (by omega) (w.heap.size+1+1+1+1+1) (w.heap.size+1+1+1+1) b g t xs _ (by simp) c5.1 hbx.1 (hT.below hLk.bF hbl) hL) K2.t (K2.b (by simp;omega) (by simp)) (Below.refl _ _) (fun _=>rfl)
  (fun pre W=>(∀y∈pre,fJ t Wy p q y=false)/\Lk w W b p q 0 false/\w.heap.size+1+1+1+1+1+1<=W.heap.size)
  (fun c pre W=>(c= .ret/\ ∃pre0 x,pre=pre0++[x]/\(∀y∈pre0,fJ t Wy p q y=false)/\fJ t Wy p q x=true/\Lk w W b p q (x.val:Int) true))
  (fun s W W' row hs hg hr=>⟨hs.1,Lk.own w b p q 0 false s W W' row hs.2.1 hg (fun r e=>by have:=hr r e;simpa using this),by have:=hg.size;omega⟩)
  (fun c s W W' row hs hg hr=>⟨hs.1,by
   obtain⟨pre0,x,h1,h2,h3,h4⟩:=hs.2;exact⟨pre0,x,h1,h2,h3,Lk.own w b p q (x.val:Int) true s W W' row h4 hg (fun r e=>by have:=hr r e;simpa using this)⟩⟩)
  ⟨by simp,hLk,by simp⟩
  (fun x=>{tmps:=#[.pointer (some ⟨b,0,none⟩), .int .i64 g, .agg #[.int .i64 p, .int .i64 q], .pointer (some ⟨w.heap.size,0,none⟩),undef, .pointer (some ⟨w.heap.size+1,0,none⟩), .pointer (some ⟨w.heap.size+1+1,0,none⟩), .pointer (some ⟨w.heap.size+1+1+1,0,none⟩), .int .i64 (x.val:Int),undef,undef, .pointer (some ⟨b,0,none⟩), .int .i64 g, .func (.func 267) #[] #[.pointer (some ⟨w.heap.size+1+1+1+1+1,0,none⟩), .pointer (some ⟨w.heap.size+1+1+1+1,0,none⟩)], .int .i64 (x.val:Int),undef,undef,undef,undef,undef,undef,undef,undef,undef,undef,undef,undef,undef,undef,undef,undef,undef,undef,undef,undef,undef,undef,undef,undef,undef,undef,undef],defers:=[]}) ?assign ?body ?done ?stop
 case assign=>
  intro l x W K hK
  gi_wp2
  exact hK
 case body=>
  rintro l pre x W ⟨hpre,hLk,hsz⟩ _;have T1:Hid (bd W b t):=hT.below hLk.bF hbl;have L1:Hid (Lk w W b p q 0 false):=hLk;have HP:Hid (∀y∈pre,fJ t Wy p q y=false):=hpre;have hmx:Tryz.prog.follows .mixedOrders=true:=by kernel_rfl
  have d0:W.cell? ⟨w.heap.size,0,none⟩=some (.pointer (some ⟨b,0,none⟩)):=by rw[cM hLk.bt];rfl
  have d1:W.cell? ⟨b,x.val*6+2,none⟩=some (.int .i64 (t x.val).lp):=T1.out.cell x.val 2 x.isLt (by omega);have d2:W.cell? ⟨b,x.val*6+2+1,none⟩=some (.int .i64 (t x.val).lq):=T1.out.cell x.val 3 x.isLt (by omega);have d3:W.cell? ⟨b,x.val*6+3,none⟩=some (.int .i64 (t x.val).lq):=d2;have hxI:(x.val:Int)<10:=by have:=x.isLt;omega
  clear hpre hLk hL c5 hbx
  gi_wp2
  have B1:=oG Wy x.val (fun k hk=>(hS k hk).1) 10 (by omega);have B2:=oG Wy x.val (fun k hk=>(hS k hk).2) 10 (by omega);refine KR (t:=t) (Wy:=Wy) (x:=x.val) ?_ (fun _ _ _ _ _ h=>h) T1.out hW hS x.isLt d0 ?_
  ·rintro⟨a,w,h⟩;exact h
  intro n9 n10 V c15 c16 c17 c18 c19 jy c21 c22 c23 c24 F;have eL:fJ t Wy p q x=(kB (cU t Wy x.val Gp.op 10) p (t x.val).lp||kB (cU t Wy x.val Gp.oq 10) q (t x.val).lq):=rfl;have L2:Hid (Lk w V b p q 0 false):=L1.out.below F.bF;have FB:Hid (Below W.heap.size W V):=F.bF;have a0:V.cell? ⟨n9,0,none⟩=some (.int .i64 (cU t Wy x.val Gp.op 10)):=by rw[cM F.c9];rfl
  have a1:V.cell? ⟨n9,1,none⟩=some (.int .i64 (cU t Wy x.val Gp.oq 10)):=by rw[cM F.c9];rfl
  have b0:V.cell? ⟨n10,0,none⟩=some (.int .i64 (t x.val).lp):=by rw[cM F.rS];rfl
  have b1:V.cell? ⟨n10,1,none⟩=some (.int .i64 (t x.val).lq):=by rw[cM F.rS];rfl
  have m0:V.cell? ⟨w.heap.size+1,0,none⟩=some (.int .i64 p):=by rw[cM L2.out.bm];rfl
  have m1:V.cell? ⟨w.heap.size+1,1,none⟩=some (.int .i64 q):=by rw[cM L2.out.bm];rfl
  have r1:=gR L2.out.r1;have r2:=gR L2.out.r2;obtain⟨r1c,r1f⟩:=r1;obtain⟨r2c,r2f⟩:=r2;have EL:Hid (fJ t Wy p q x=(kB (cU t Wy x.val Gp.op 10) p (t x.val).lp||kB (cU t Wy x.val Gp.oq 10) q (t x.val).lq)):=eL;clear F d0 d1 d2 d3 eL;generalize cU t Wy x.val Gp.op 10=X at*;generalize cU t Wy x.val Gp.oq 10=Y at*;generalize (t x.val).lp=LP at*;generalize (t x.val).lq=LQ at*;have HB:Hid ((0<=X/\X<=100000000)/\(0<=Y/\Y<=100000000)):=⟨⟨B1.1,by omega⟩,⟨B2.1,by omega⟩⟩;have HPQ:Hid ((0<=p/\p<=1000)/\(0<=q/\q<=1000)):=⟨hp,hq⟩;clear B1 B2 hp hq;have hlt:Hid (w.heap.size+1+1+1+1+1+1<=V.heap.size):=by have:=FB.out.size;exact Nat.le_trans hsz this
  cases h1:kB X p LP
  ·cases h2:kB Y q LQ
   ·have E0:Hid (fJ t Wy p q x=false):=by rw[EL.out,h1,h2];rfl
    clear EL
    gi_wp2_with (refine⟨trivial,?_⟩;gi_at_call 217;refine(CallsIn.inRound l (callsIn_wide.2 (qF _ _ _ _ (by first|exact HB.out.1|exact HB.out.2) (by first|exact HPQ.out.1|exact HPQ.out.2)))).mono ?_;rintro e w' ⟨rfl,rfl⟩;first|rw[h1]|rw[h2])
    exact⟨mw FB.out,K2.bB FB.out (by have:=T1.out.lt;omega) (by omega),fun y hy=>(List.mem_append.1 hy).elim (HP.out y) (fun e=>by simp at e;subst e;exact E0.out),L2.out,hlt.out⟩
   ·have E0:Hid (fJ t Wy p q x=true):=by rw[EL.out,h1,h2];rfl
    clear EL
    gi_wp2_with (refine⟨trivial,?_⟩;gi_at_call 217;refine(CallsIn.inRound l (callsIn_wide.2 (qF _ _ _ _ (by first|exact HB.out.1|exact HB.out.2) (by first|exact HPQ.out.1|exact HPQ.out.2)))).mono ?_;rintro e w' ⟨rfl,rfl⟩;first|rw[h1]|rw[h2])
    exact⟨((mw FB.out).trans (KeepsOthers.setCell _ _ _)).trans (KeepsOthers.setCell _ _ _),rfl,pre,x,rfl,HP.out,E0.out,L2.out.fin _ _⟩
  ·have E0:Hid (fJ t Wy p q x=true):=by rw[EL.out,h1];rfl
   clear EL
   gi_wp2_with (refine⟨trivial,?_⟩;gi_at_call 217;refine(CallsIn.inRound l (callsIn_wide.2 (qF X p LP _ HB.out.1 HPQ.out.1))).mono ?_;rintro e w' ⟨rfl,rfl⟩;rw[h1])
   refine⟨trivial,?_⟩
   gi_wp2
   exact⟨((mw FB.out).trans (KeepsOthers.setCell _ _ _)).trans (KeepsOthers.setCell _ _ _),rfl,pre,x,rfl,HP.out,E0.out,L2.out.fin _ _⟩
 case done=>
  rintro D ys W hD rfl ⟨hne,hLk,hsz⟩ hK;have r1:=gR hLk.r1;have r2:=gR hLk.r2;obtain⟨r1c,r1f⟩:=r1;obtain⟨r2c,r2f⟩:=r2
  gi_wp2
  have hF:=hLk.fin 0 false;have hK':=(KeepsOthers.setCell _ ⟨w.heap.size+1+1+1,0,none⟩ (.bool false)).same D _ ((KeepsOthers.setCell W ⟨w.heap.size+1+1,0,none⟩ (.int .i64 0)).same D _ hK rfl) rfl;refine⟨by simp, .inl ⟨_,_,rfl,run_takeDeferred hK',?_⟩⟩;have hg:=grownBy_putObj' ((W.setCell ⟨w.heap.size+1+1,0,none⟩ (.int .i64 0)).setCell ⟨w.heap.size+1+1+1,0,none⟩ (.bool false)) D (.deferred none);have q1:=cell_kept (gR hF.r1).1 hg (fun r e=>by cases e;exact⟨_,hK',rfl⟩);have q2:=cell_kept (gR hF.r2).1 hg (fun r e=>by cases e;exact⟨_,hK',rfl⟩);refine⟨.tuple #[.int .i64 0, .bool false],?_, .inl ⟨hne,rfl⟩,hF.bF.trans (belowK_b (w:=w) (Nat.le_refl _) _ D _ _ (by simp at hD;omega) hK' rfl rfl)⟩;simp[results,Tryz.f139,go_sem,q1,q2]
 case stop=>
  rintro D c pre W hD hpre ⟨rfl,pre0,x,rfl,hne,hx,hF⟩ hK
  gi_wp2
  refine⟨by simp, .inl ⟨_,_,rfl,run_takeDeferred hK,?_⟩⟩;have hg:=grownBy_putObj' W D (.deferred none);have q1:=cell_kept (gR hF.r1).1 hg (fun r e=>by cases e;exact⟨_,hK,rfl⟩);have q2:=cell_kept (gR hF.r2).1 hg (fun r e=>by cases e;exact⟨_,hK,rfl⟩);obtain⟨rest,hrest⟩:=hpre;refine⟨.tuple #[.int .i64 (x.val:Int), .bool true],?_, .inr ⟨pre0,x,rest,by rw[<-hrest];simp,hne,hx,rfl⟩,hF.bF.trans (belowK_b (w:=w) (Nat.le_refl _) W D _ _ (by simp at hD;omega) hK rfl rfl)⟩;simp[results,Tryz.f139,go_sem,q1,q2]
structure af (b:Nat)(w w':World):Prop where
 os:w'.os=w.os
 tape:w'.tape=w.tape
 output:w'.output=w.output
 size:w.heap.size<=w'.heap.size
 block: ∀k,k<w.heap.size->k≠b->w'.heap[k]? =w.heap[k]?
theorem af.bB {b:Nat}{w w':World}(h:Below w.heap.size w w'):af b w w':=⟨h.os,h.tape,h.output,h.size,fun k hk _=>h.block k hk⟩
theorem af.setCell {b:Nat}{u w:World}(h:af b u w)(o:Nat)(v:Value):af b u (w.setCell ⟨b,o,none⟩ v):=
 ⟨h.os,h.tape,h.output,by simpa[World.setCell]using h.size,fun k hk hn=>(dD _ _ _ _ hn).trans (h.block k hk hn)⟩
theorem af.drew {b:Nat}{u w:World}(h:af b u w):af b u w.drew:=⟨h.os,h.tape,h.output,h.size,h.block⟩
def tR (p:Int):Gp:=⟨true,p,-1,-1,0,0⟩
def lg:Gp:=⟨false,0,0,0,0,0⟩
theorem bd.Qq {w:World}{b:Nat}{t:Nat->Gp}(h:bd w b t)(n:Nat)(hn:n<10)(g:Gp):
  bd ((((((w.setCell ⟨b,n*6,none⟩ (.bool g.there)).setCell ⟨b,n*6+1,none⟩ (.int .i64 g.par)).setCell ⟨b,n*6+2,none⟩ (.int .i64 g.lp)).setCell ⟨b,n*6+3,none⟩ (.int .i64 g.lq)).setCell ⟨b,n*6+4,none⟩ (.int .i64 g.op)).setCell ⟨b,n*6+5,none⟩ (.int .i64 g.oq)) b (fX t n g):=by
 unfold bd;rw[heap_set (heap_set (heap_set (heap_set (heap_set (heap_set h (n*6) _) (n*6+1) _) (n*6+2) _) (n*6+3) _) (n*6+4) _)];refine congrArg (fun c=>some (Obj.cells c 135 (0,0))) ?_;refine zU _ _ (by simp[mX]) fun m i hm hi=>?_;have hsz:=mX t;by_cases e:m=n
 ·subst e;rw[iJ]
  match i,hi with
  |0,_=>simp[Array.getElem?_setIfInBounds,hsz,Gp.cell];omega
  |1,_=>simp[Array.getElem?_setIfInBounds,hsz,Gp.cell];omega
  |2,_=>simp[Array.getElem?_setIfInBounds,hsz,Gp.cell];omega
  |3,_=>simp[Array.getElem?_setIfInBounds,hsz,Gp.cell];omega
  |4,_=>simp[Array.getElem?_setIfInBounds,hsz,Gp.cell];omega
  |5,_=>simp[Array.getElem?_setIfInBounds,hsz,Gp.cell];omega
 ·rw[mF _ _ _ _ e,Array.getElem?_setIfInBounds_ne (by omega),Array.getElem?_setIfInBounds_ne (by omega),Array.getElem?_setIfInBounds_ne (by omega),Array.getElem?_setIfInBounds_ne (by omega),Array.getElem?_setIfInBounds_ne (by omega),Array.getElem?_setIfInBounds_ne (by omega),qo t m i hm hi]
theorem BJ (p:Int)(w:World):Calls Tryz.prog 162 #[.int .i64 p] w fun e w'=>e= .returned (.agg #[.bool true, .int .i64 p, .int .i64 (-1), .int .i64 (-1), .int .i64 0, .int .i64 0])/\Below w.heap.size w w':=by
 go_in
 go_wp2
 refine bodyPost_ret (v:= .agg #[.bool true, .int .i64 p, .int .i64 (-1), .int .i64 (-1), .int .i64 0, .int .i64 0]) (by simp[results,Tryz.results162,go_sem]) rfl ⟨rfl,(Below.refl _ _).alloc (Nat.le_refl _) _⟩
theorem JM (w:World):bd (w.alloc (.cells (sX fun _=>lg) 135)) w.heap.size (fun _=>lg):=heap_alloc_new w _
theorem OC:sX (fun _=>lg)=#[Value.bool false,Value.int IntKind.i64 0,Value.int IntKind.i64 0,Value.int IntKind.i64 0,Value.int IntKind.i64 0,Value.int IntKind.i64 0,Value.bool false,Value.int IntKind.i64 0,Value.int IntKind.i64 0,Value.int IntKind.i64 0,Value.int IntKind.i64 0,Value.int IntKind.i64 0,Value.bool false,Value.int IntKind.i64 0,Value.int IntKind.i64 0,Value.int IntKind.i64 0,Value.int IntKind.i64 0,Value.int IntKind.i64 0,Value.bool false,Value.int IntKind.i64 0,Value.int IntKind.i64 0,Value.int IntKind.i64 0,Value.int IntKind.i64 0,Value.int IntKind.i64 0,Value.bool false,Value.int IntKind.i64 0,Value.int IntKind.i64 0,Value.int IntKind.i64 0,Value.int IntKind.i64 0,Value.int IntKind.i64 0,Value.bool false,Value.int IntKind.i64 0,Value.int IntKind.i64 0,Value.int IntKind.i64 0,Value.int IntKind.i64 0,Value.int IntKind.i64 0,Value.bool false,Value.int IntKind.i64 0,Value.int IntKind.i64 0,Value.int IntKind.i64 0,Value.int IntKind.i64 0,Value.int IntKind.i64 0,Value.bool false,Value.int IntKind.i64 0,Value.int IntKind.i64 0,Value.int IntKind.i64 0,Value.int IntKind.i64 0,Value.int IntKind.i64 0,Value.bool false,Value.int IntKind.i64 0,Value.int IntKind.i64 0,Value.int IntKind.i64 0,Value.int IntKind.i64 0,Value.int IntKind.i64 0,Value.bool false,Value.int IntKind.i64 0,Value.int IntKind.i64 0,Value.int IntKind.i64 0,Value.int IntKind.i64 0,Value.int IntKind.i64 0]:=by kernel_rfl
theorem qa (w:World):Calls Tryz.prog 84 #[] w fun e w'=>e= .returned (.pointer (some ⟨w.heap.size,0,none⟩))/\bd w' w.heap.size (fX (fun _=>lg) 0 (tR (-1)))/\Below w.heap.size w w':=by
 have Z:=JM w;rw[OC]at Z;go_in
 go_wp2_with fail
 refine bw (fun W=>bd W w.heap.size (fun _=>lg)/\Below w.heap.size w W) ⟨Z,(Below.refl _ _).alloc (Nat.le_refl _) _⟩ ?_;rintro W ⟨hT,hB⟩;have HT:Hid (bd W w.heap.size (fun _=>lg)):=hT;have HB:Hid (Below w.heap.size w W):=hB;clear Z hT hB;go_region_held3 (fun _=>True) (trivial) ((go_at_call 162;refine(BJ _ _).mono ?_;rintro e w2 ⟨rfl,hb2⟩;have T2:bd w2 w.heap.size (fun _=>lg):=HT.out.drew.below hb2 HT.out.lt;have c0:=T2.cell 0 0 (by omega) (by omega);have c1:=T2.cell 0 1 (by omega) (by omega);have c2:=T2.cell 0 2 (by omega) (by omega);have c3:=T2.cell 0 3 (by omega) (by omega);have c4:=T2.cell 0 4 (by omega) (by omega);have c5:=T2.cell 0 5 (by omega) (by omega);have cf:=T2.frozen;simp only[Nat.zero_mul,Nat.zero_add]at c0 c1 c2 c3 c4 c5))
 have HT2:Hid (bd w2 w.heap.size (fun _=>lg)):=T2;have HB2:Hid (Below w.heap.size w w2):=HB.out.trans ((Below.refl _ W).drew.trans (hb2.mono (by have:=HB.out.size;exact this)));clear T2 c0 c1 c2 c3 c4 c5 cf hb2;go_wp2
 go_ret
 refine⟨rfl,HT2.out.Qq 0 (by omega) (tR (-1)),?_⟩;exact(((((HB2.out.setCell (Nat.le_refl _) _).setCell (Nat.le_refl _) _).setCell (Nat.le_refl _) _).setCell (Nat.le_refl _) _).setCell (Nat.le_refl _) _).setCell (Nat.le_refl _) _
def aq (k:Int):Value:=if k=0 then .nilIface else .iface 100 (.int .i64 k)
theorem Dh {t:Nat->Gp}{g:Int}(h:wr t g=0): ∃n:Nat,g=n/\n<10/\(t n).there=true:=by
 unfold wr at h;by_cases hb:g<0\/10<=g
 ·rw[if_pos hb]at h;simp at h
 ·rw[if_neg hb]at h;obtain⟨n,rfl⟩:=Int.eq_ofNat_of_zero_le (show 0<=g by omega);refine⟨n,rfl,by omega,?_⟩;rw[hU]at h;cases hh:(t n).there
  ·rw[hh]at h;simp at h
  ·rfl
theorem y8 (t:Nat->Gp)(n:Nat)(g g':Gp):fX (fX t n g) n g'=fX t n g':=by
 funext k;unfold fX;split<;>rfl
def dU (t:Nat->Gp)(g p q:Int):Int:=if wr t g=0 then(if kA p q 0=true then 0 else 1)else wr t g
theorem ia (b:Nat)(g p q:Int)(t:Nat->Gp)(w:World)(h:bd w b t):Calls Tryz.prog 138 #[.pointer (some ⟨b,0,none⟩), .int .i64 g, .agg #[.int .i64 p, .int .i64 q]] w fun e w'=>e= .returned (aq (dU t g p q))/\Below w.heap.size w w':=by
 unfold dU;by_cases hw:wr t g=0
 ·rw[if_pos hw];obtain⟨n,rfl,hn,hh⟩:=Dh hw;cases hf:kA p q 0
  ·exact zl b n p q t w h hn hh hf
  ·exact Ff b n p q t w h hn hh hf
 ·rw[if_neg hw];unfold wr at hw|-;by_cases hb:g<0\/10<=g
  ·rw[if_pos hb];exact Cc b g p q w hb
  ·rw[if_neg hb]at hw|-;obtain⟨n,rfl⟩:=Int.eq_ofNat_of_zero_le (show 0<=g by omega);rw[hU]at hw|-;cases hh:(t n).there
   ·exact AM b n p q t w h (by omega) hh
   ·rw[hh]at hw;simp at hw
theorem IS {p q l:Int}:kA p q l=true↔(l<=p/\p<=20/\l<=q/\q<=64):=by unfold kA;exact decide_eq_true_iff
theorem lx {t:Nat->Gp}{g p q:Int}(h:dU t g p q=0): ∃n:Nat,g=n/\n<10/\(t n).there=true/\(0<=p/\p<=20)/\(0<=q/\q<=64):=by
 unfold dU at h;by_cases hw:wr t g=0
 ·rw[if_pos hw]at h;obtain⟨n,e,hn,hh⟩:=Dh hw;cases hf:kA p q 0
  ·rw[hf]at h;simp at h
  ·have:=IS.1 hf;exact⟨n,e,hn,hh,⟨this.1,this.2.1⟩,this.2.2.1,this.2.2.2⟩
 ·rw[if_neg hw]at h;exact absurd h hw
theorem oA {t:Nat->Gp}{g p q:Int}(h:dU t g p q=0):(0<=p/\p<=20)/\(0<=q/\q<=64):=by
 have hz:=lx h;exact⟨hz.choose_spec.2.2.2.1,hz.choose_spec.2.2.2.2⟩
theorem ES (b:Nat)(g p q:Int)(t:Nat->Gp)(w:World)(h:bd w b t)(hw:dU t g p q≠0):Calls Tryz.prog 65 #[.pointer (some ⟨b,0,none⟩), .int .i64 g, .int .i64 p, .int .i64 q] w fun e w'=>e= .returned (aq (dU t g p q))/\Below w.heap.size w w':=by
 have HT:Hid (bd w b t):=h;have HW:Hid (aq (dU t g p q)= .iface 100 (.int .i64 (dU t g p q))):=if_neg hw;clear h hw;go_in
 go_wp2_with fail
 refine(ia b g p q t _ (HT.out.below ((Below.refl _ _).alloc (Nat.le_refl _) _) HT.out.lt)).mono ?_;rintro e w1 ⟨rfl,hb⟩;have HB:Hid (Below w.heap.size w w1):=((Below.refl _ w).alloc (Nat.le_refl _) _).trans (hb.mono (by simp));clear hb;rw[HW.out];go_wp2
 go_ret
 exact⟨by rw[HW.out];rfl,HB.out⟩
theorem vN {w w1:World}{c:Array Value}{ty:TypeId}(hb:Below (w.alloc (.cells c ty)).heap.size (w.alloc (.cells c ty)) w1):Below w.heap.size w w1/\w1.heap[w.heap.size]? =some (.cells c ty (0,0)):=
 ⟨((Below.refl _ w).alloc (Nat.le_refl _) _).trans (hb.mono (by simp)),(hb.block _ (by simp)).trans (heap_alloc_new w _)⟩
theorem Fe (b n:Nat)(p q:Int)(t:Nat->Gp)(Wy:Nat->List (Fin 10))(w:World)(h:bd w b t)(hW:gQ t Wy)(hS:Small t)(hn:n<10)(hr:dU t n p q=0)(hl: ∃y∈Wy n,fJ t Wy p q y=true):Calls Tryz.prog 65 #[.pointer (some ⟨b,0,none⟩), .int .i64 n, .int .i64 p, .int .i64 q] w fun e w'=>e= .returned (aq 6)/\Below w.heap.size w w':=by
 have H:Hid (bd w b t/\gQ t Wy/\Small t/\dU t n p q=0/\ ∃y∈Wy n,fJ t Wy p q y=true):=⟨h,hW,hS,hr,hl⟩;obtain⟨hp,hq⟩:=oA hr;have HPQ:Hid ((0<=p/\p<=1000)/\(0<=q/\q<=1000)):=⟨⟨hp.1,by omega⟩,hq.1,by omega⟩;clear h hW hS hr hl hp hq;go_in
 go_wp2_with fail
 refine(ia b n p q t _ (H.out.1.below ((Below.refl _ _).alloc (Nat.le_refl _) _) H.out.1.lt)).mono ?_;rintro e w1 ⟨rfl,hb⟩;rw[H.out.2.2.2.1];obtain⟨hb1,hx⟩:=vN hb;have HB:Hid (Below w.heap.size w w1):=hb1;have x0:w1.cell? ⟨w.heap.size,0,none⟩=some (.int .i64 p):=cM hx 0;have x1:w1.cell? ⟨w.heap.size,1,none⟩=some (.int .i64 q):=cM hx 1;clear hb hb1 hx;rw[show aq 0= .nilIface from rfl];go_wp2_with fail
 refine(p7 b n p q t Wy (Wy n) _ (H.out.1.below HB.out H.out.1.lt) H.out.2.1 H.out.2.2.1 (H.out.2.1 n hn) HPQ.out.1 HPQ.out.2).mono ?_;rintro e w2 ⟨he,hb2⟩;have HB2:Hid (Below w.heap.size w w2):=HB.out.trans (hb2.mono HB.out.size);clear hb2;rcases he with⟨hno,_⟩|⟨pre,x,rest,_,_,_,rfl⟩
 ·obtain⟨y,hy,hyl⟩:=H.out.2.2.2.2;rw[hno y hy]at hyl;cases hyl
 ·go_wp2
  go_ret
  exact⟨rfl,HB2.out⟩
theorem GM (b n:Nat)(p q:Int)(t:Nat->Gp)(Wy:Nat->List (Fin 10))(w:World)(h:bd w b t)(hW:gQ t Wy)(hS:Small t)(hn:n<10)(hr:dU t n p q=0)(hl: ∀y∈Wy n,fJ t Wy p q y=false):Calls Tryz.prog 65 #[.pointer (some ⟨b,0,none⟩), .int .i64 n, .int .i64 p, .int .i64 q] w fun e w'=>e= .returned (aq 0)/\bd w' b (fX t n {t n with op:=(t n).op+p,oq:=(t n).oq+q})/\af b w w':=by
 have H:Hid (bd w b t/\gQ t Wy/\Small t/\dU t n p q=0/\ ∀y∈Wy n,fJ t Wy p q y=false):=⟨h,hW,hS,hr,hl⟩;obtain⟨hp,hq⟩:=oA hr;have HPQ:Hid ((0<=p/\p<=1000)/\(0<=q/\q<=1000)):=⟨⟨hp.1,by omega⟩,hq.1,by omega⟩;have hnI:(n:Int)<10:=by omega
 have sn:=hS n hn;clear h hW hS hr hl;go_in
 go_wp2_with fail
 refine(ia b n p q t _ (H.out.1.below ((Below.refl _ _).alloc (Nat.le_refl _) _) H.out.1.lt)).mono ?_;rintro e w1 ⟨rfl,hb⟩;rw[H.out.2.2.2.1];obtain⟨hb1,hx⟩:=vN hb;have HB:Hid (Below w.heap.size w w1):=hb1;have x0:w1.cell? ⟨w.heap.size,0,none⟩=some (.int .i64 p):=cM hx 0;have x1:w1.cell? ⟨w.heap.size,1,none⟩=some (.int .i64 q):=cM hx 1;clear hb hb1 hx;rw[show aq 0= .nilIface from rfl];go_wp2_with fail
 refine(p7 b n p q t Wy (Wy n) _ (H.out.1.below HB.out H.out.1.lt) H.out.2.1 H.out.2.2.1 (H.out.2.1 n hn) HPQ.out.1 HPQ.out.2).mono ?_;rintro e w2 ⟨he,hb2⟩;have HB2:Hid (Below w.heap.size w w2):=HB.out.trans (hb2.mono HB.out.size);clear hb2 x0 x1;rcases he with⟨hno,rfl⟩|⟨pre,x,rest,hxs,_,hyl,_⟩
 ·clear hno;have T2:Hid (bd w2 b t):=H.out.1.below HB2.out H.out.1.lt;have y0:w2.cell? ⟨b,n*6+4,none⟩=some (.int .i64 (t n).op):=T2.out.cell n 4 hn (by omega);have y1:w2.cell? ⟨b,n*6+4+1,none⟩=some (.int .i64 (t n).oq):=T2.out.cell n 5 hn (by omega);have yf:=T2.out.frozen;have HZ:Hid (∀P R:Int,P=(t n).op->R=(t n).oq->bd ((w2.setCell ⟨b,n*6+4,none⟩ (.int .i64 (P+p))).drew.setCell ⟨b,n*6+4+1,none⟩ (.int .i64 (R+q))).drew b (fX t n {t n with op:=(t n).op+p,oq:=(t n).oq+q})):=by
   rintro P R rfl rfl;have Z:=(((T2.out.set n 4 hn (by omega) (.int .i64 ((t n).op+p)) {t n with op:=(t n).op+p} (fun i hi=>by match i,hi with|0,_=>rfl|1,_=>rfl|2,_=>rfl|3,_=>rfl|4,_=>rfl|5,_=>rfl)).drew).set n 5 hn (by omega) (.int .i64 ((t n).oq+q)) {t n with op:=(t n).op+p,oq:=(t n).oq+q} (fun i hi=>by rw[iJ];match i,hi with|0,_=>rfl|1,_=>rfl|2,_=>rfl|3,_=>rfl|4,_=>rfl|5,_=>rfl)).drew;rw[y8]at Z;exact Z
  generalize hP:(t n).op=P at y0 sn;generalize hR:(t n).oq=R at y1 sn;have HPR:Hid (P=(t n).op/\R=(t n).oq):=⟨hP.symm,hR.symm⟩;clear hP hR;obtain⟨⟨s1,s2⟩,s3,s4⟩:=sn;go_wp2_with fail
  go_region
  go_wp2_with fail
  go_region
  go_wp2
  go_ret
  refine⟨rfl,HZ.out P R HPR.out.1 HPR.out.2,((((af.bB HB2.out).setCell _ _).drew).setCell _ _).drew⟩
 ·have:=H.out.2.2.2.2 x (by rw[hxs];simp);rw[hyl]at this;cases this
theorem AJ (b:Nat)(g p q:Int)(t:Nat->Gp)(w:World)(h:bd w b t)(hw:dU t g p q≠0):Calls Tryz.prog 67 #[.pointer (some ⟨b,0,none⟩), .int .i64 g, .int .i64 p, .int .i64 q] w fun e w'=>e= .returned (aq (dU t g p q))/\Below w.heap.size w w':=by
 have HT:Hid (bd w b t):=h;have HW:Hid (aq (dU t g p q)= .iface 100 (.int .i64 (dU t g p q))):=if_neg hw;clear h hw;go_in
 go_wp2_with fail
 refine(ia b g p q t _ HT.out).mono ?_;rintro e w1 ⟨rfl,hb⟩;have HB:Hid (Below w.heap.size w w1):=hb;clear hb;rw[HW.out];go_wp2
 go_ret
 exact⟨by rw[HW.out];rfl,HB.out⟩
theorem xr (b n:Nat)(p q:Int)(t:Nat->Gp)(w:World)(h:bd w b t)(hn:n<10)(hr:dU t n p q=0)(hl:(t n).op<p\/(t n).oq<q):Calls Tryz.prog 67 #[.pointer (some ⟨b,0,none⟩), .int .i64 n, .int .i64 p, .int .i64 q] w fun e w'=>e= .returned (aq 8)/\Below w.heap.size w w':=by
 have H:Hid (bd w b t/\dU t n p q=0):=⟨h,hr⟩;have hnI:(n:Int)<10:=by omega
 clear h hr;go_in
 go_wp2_with fail
 refine(ia b n p q t _ H.out.1).mono ?_;rintro e w1 ⟨rfl,hb⟩;rw[H.out.2,show aq 0= .nilIface from rfl];have HB:Hid (Below w.heap.size w w1):=hb;have T2:Hid (bd w1 b t):=H.out.1.below hb H.out.1.lt;have y0:w1.cell? ⟨b,n*6+4,none⟩=some (.int .i64 (t n).op):=T2.out.cell n 4 hn (by omega);have y1:w1.cell? ⟨b,n*6+4+1,none⟩=some (.int .i64 (t n).oq):=T2.out.cell n 5 hn (by omega);clear hb;generalize (t n).op=P at y0 hl;generalize (t n).oq=R at y1 hl;by_cases h1:P<p
 ·go_wp2
  go_ret
  exact⟨rfl,HB.out⟩
 ·have h2:R<q:=hl.resolve_left h1;have d1:decide (P<p)=false:=by simp;omega
  clear hl h1;go_wp2
  go_ret
  exact⟨rfl,HB.out⟩
theorem Cg (b n:Nat)(p q:Int)(t:Nat->Gp)(w:World)(h:bd w b t)(hS:Small t)(hn:n<10)(hr:dU t n p q=0)(hl:p<=(t n).op/\q<=(t n).oq):Calls Tryz.prog 67 #[.pointer (some ⟨b,0,none⟩), .int .i64 n, .int .i64 p, .int .i64 q] w fun e w'=>e= .returned (aq 0)/\bd w' b (fX t n {t n with op:=(t n).op-p,oq:=(t n).oq-q})/\af b w w':=by
 have H:Hid (bd w b t/\dU t n p q=0):=⟨h,hr⟩;have hnI:(n:Int)<10:=by omega
 obtain⟨hp,hq⟩:=oA hr;have sn:=hS n hn;clear h hr hS;go_in
 go_wp2_with fail
 refine(ia b n p q t _ H.out.1).mono ?_;rintro e w1 ⟨rfl,hb⟩;rw[H.out.2,show aq 0= .nilIface from rfl];have HB:Hid (Below w.heap.size w w1):=hb;have T2:Hid (bd w1 b t):=H.out.1.below hb H.out.1.lt;have y0:w1.cell? ⟨b,n*6+4,none⟩=some (.int .i64 (t n).op):=T2.out.cell n 4 hn (by omega);have y1:w1.cell? ⟨b,n*6+4+1,none⟩=some (.int .i64 (t n).oq):=T2.out.cell n 5 hn (by omega);have yf:=T2.out.frozen;have HZ:Hid (∀P R:Int,P=(t n).op->R=(t n).oq->bd ((w1.setCell ⟨b,n*6+4,none⟩ (.int .i64 (P-p))).setCell ⟨b,n*6+4+1,none⟩ (.int .i64 (R-q))) b (fX t n {t n with op:=(t n).op-p,oq:=(t n).oq-q})):=by
  rintro P R rfl rfl;have Z:=(T2.out.set n 4 hn (by omega) (.int .i64 ((t n).op-p)) {t n with op:=(t n).op-p} (fun i hi=>by match i,hi with|0,_=>rfl|1,_=>rfl|2,_=>rfl|3,_=>rfl|4,_=>rfl|5,_=>rfl)).set n 5 hn (by omega) (.int .i64 ((t n).oq-q)) {t n with op:=(t n).op-p,oq:=(t n).oq-q} (fun i hi=>by rw[iJ];match i,hi with|0,_=>rfl|1,_=>rfl|2,_=>rfl|3,_=>rfl|4,_=>rfl|5,_=>rfl);rw[y8]at Z;exact Z
 clear hb;generalize hP:(t n).op=P at y0 sn hl;generalize hR:(t n).oq=R at y1 sn hl;have HPR:Hid (P=(t n).op/\R=(t n).oq):=⟨hP.symm,hR.symm⟩;clear hP hR;obtain⟨⟨s1,s2⟩,s3,s4⟩:=sn;obtain⟨h1,h2⟩:=hl;have d1:decide (P<p)=false:=by simp;omega
 have d2:decide (R<q)=false:=by simp;omega
 go_wp2
 go_ret
 exact⟨rfl,HZ.out P R HPR.out.1 HPR.out.2,((af.bB HB.out).setCell _ _).setCell _ _⟩
def qL (t:Nat->Gp)(Wy:Nat->List (Fin 10))(n:Nat)(p q:Int):Bool:=(Wy n).any (fJ t Wy p q)
def jB (t:Nat->Gp)(Wy:Nat->List (Fin 10))(g p q:Int):Int:=if dU t g p q=0 then(if qL t Wy g.toNat p q=true then 6 else 0)else dU t g p q
def lV (t:Nat->Gp)(n:Nat)(p q:Int):Nat->Gp:=fX t n {t n with op:=(t n).op+p,oq:=(t n).oq+q}
def iR (t:Nat->Gp)(Wy:Nat->List (Fin 10))(g p q:Int):Nat->Gp:=if jB t Wy g p q=0 then lV t g.toNat p q else t
def jP (t:Nat->Gp)(g p q:Int):Int:=if dU t g p q=0 then(if p<=(t g.toNat).op/\q<=(t g.toNat).oq then 0 else 8)else dU t g p q
def gA (t:Nat->Gp)(g p q:Int):Nat->Gp:=if jP t g p q=0 then lV t g.toNat (-p) (-q)else t
theorem qU (b:Nat)(g p q:Int)(t:Nat->Gp)(Wy:Nat->List (Fin 10))(w:World)(h:bd w b t)(hW:gQ t Wy)(hS:Small t):
  Calls Tryz.prog 65 #[.pointer (some ⟨b,0,none⟩), .int .i64 g, .int .i64 p, .int .i64 q] w fun e w'=>e= .returned (aq (jB t Wy g p q))/\bd w' b (iR t Wy g p q)/\af b w w':=by
 by_cases hr:dU t g p q=0
 ·obtain⟨n,rfl,hn,hh,_,_⟩:=lx hr;cases hl:qL t Wy n p q
  ·have e:jB t Wy n p q=0:=by unfold jB;rw[if_pos hr,hU,hl];rfl
   unfold iR;rw[e,if_pos rfl,hU];refine GM b n p q t Wy w h hW hS hn hr (fun y hy=>?_);unfold qL at hl;rw[List.any_eq_false]at hl;have:=hl y hy;cases hb:fJ t Wy p q y
   ·rfl
   ·exact absurd hb this
  ·have e:jB t Wy n p q=6:=by unfold jB;rw[if_pos hr,hU,hl];rfl
   unfold iR;rw[e,if_neg (by decide)];refine(Fe b n p q t Wy w h hW hS hn hr ?_).mono fun e w' ⟨h1,h2⟩=>⟨h1,h.below h2 h.lt,af.bB h2⟩;unfold qL at hl;exact List.any_eq_true.1 hl
 ·have e:jB t Wy g p q=dU t g p q:=by unfold jB;rw[if_neg hr]
  unfold iR;rw[e,if_neg hr];exact(ES b g p q t w h hr).mono fun e w' ⟨h1,h2⟩=>⟨h1,h.below h2 h.lt,af.bB h2⟩
theorem jT (b:Nat)(g p q:Int)(t:Nat->Gp)(w:World)(h:bd w b t)(hS:Small t):
  Calls Tryz.prog 67 #[.pointer (some ⟨b,0,none⟩), .int .i64 g, .int .i64 p, .int .i64 q] w fun e w'=>e= .returned (aq (jP t g p q))/\bd w' b (gA t g p q)/\af b w w':=by
 by_cases hr:dU t g p q=0
 ·obtain⟨n,rfl,hn,hh,_,_⟩:=lx hr;by_cases hl:p<=(t n).op/\q<=(t n).oq
  ·have e:jP t n p q=0:=by unfold jP;rw[if_pos hr,hU,if_pos hl]
   unfold gA;rw[e,if_pos rfl,hU];refine(Cg b n p q t w h hS hn hr hl).mono fun e w' ⟨h1,h2,h3⟩=>⟨h1,?_,h3⟩;unfold lV;rw[<-Int.sub_eq_add_neg,<-Int.sub_eq_add_neg];exact h2
  ·have e:jP t n p q=8:=by unfold jP;rw[if_pos hr,hU,if_neg hl]
   unfold gA;rw[e,if_neg (by decide)];exact(xr b n p q t w h hn hr (by omega)).mono fun e w' ⟨h1,h2⟩=>⟨h1,h.below h2 h.lt,af.bB h2⟩
 ·have e:jP t g p q=dU t g p q:=by unfold jP;rw[if_neg hr]
  unfold gA;rw[e,if_neg hr];exact(AJ b g p q t w h hr).mono fun e w' ⟨h1,h2⟩=>⟨h1,h.below h2 h.lt,af.bB h2⟩
def Jp (t:Nat->Gp)(Wy:Nat->List (Fin 10))(f g p q:Int):Int:=if wr t g=0 then(if jP t f p q=0 then jB (gA t f p q) Wy g p q else jP t f p q)else wr t g
def BG (t:Nat->Gp)(Wy:Nat->List (Fin 10))(f g p q:Int):Nat->Gp:=if Jp t Wy f g p q=0 then iR (gA t f p q) Wy g p q else t
theorem aa:aq 0= .nilIface:=rfl
theorem BP {t t':Nat->Gp}(h: ∀k,(t' k).there=(t k).there/\(t' k).par=(t k).par): ∀{g:Int} {L:List Nat},Way t g L->Way t' g L
 |g,[],hw=>fun hv=>hw ⟨hv.1,hv.2.1,by rw[<-(h _).1];exact hv.2.2⟩
 |g,x::L,⟨e,hx,hh,hr⟩=>⟨e,hx,by rw[(h x).1];exact hh,by rw[(h x).2];exact BP h hr⟩
theorem gQ.same {t t':Nat->Gp}{Wy:Nat->List (Fin 10)}(h: ∀k,(t' k).there=(t k).there/\(t' k).par=(t k).par)(hW:gQ t Wy):gQ t' Wy:=fun k hk=>BP h (hW k hk)
theorem Gk (t:Nat->Gp)(n:Nat)(p q:Int)(k:Nat):(lV t n p q k).there=(t k).there/\(lV t n p q k).par=(t k).par:=by
 unfold lV fX;split
 ·rename_i e;subst e;exact⟨rfl,rfl⟩
 ·exact⟨rfl,rfl⟩
theorem Is (b:Nat)(g p q:Int)(t:Nat->Gp)(w:World)(h:bd w b t)(hw:dU t g p q≠0):Calls Tryz.prog 238 #[.pointer (some ⟨b,0,none⟩), .int .i64 g, .int .i64 p, .int .i64 q] w fun e w'=>e= .returned (.tuple #[.int .i64 0, .bool false])/\Below w.heap.size w w':=by
 have HT:Hid (bd w b t):=h;have HW:Hid (aq (dU t g p q)= .iface 100 (.int .i64 (dU t g p q))):=if_neg hw;clear h hw;go_in
 go_wp2_with fail
 refine(ia b g p q t _ (HT.out.below ((Below.refl _ _).alloc (Nat.le_refl _) _) HT.out.lt)).mono ?_;rintro e w1 ⟨rfl,hb⟩;have HB:=hZ (vN hb).1;clear hb;rw[HW.out];go_wp2
 go_ret2
 exact⟨rfl,HB.out⟩
theorem JE (b n:Nat)(p q:Int)(t:Nat->Gp)(Wy:Nat->List (Fin 10))(w:World)(h:bd w b t)(hW:gQ t Wy)(hS:Small t)(hn:n<10)(hr:dU t n p q=0):Calls Tryz.prog 238 #[.pointer (some ⟨b,0,none⟩), .int .i64 n, .int .i64 p, .int .i64 q] w fun e w'=>
  (((∀y∈Wy n,fJ t Wy p q y=false)/\e= .returned (.tuple #[.int .i64 0, .bool false]))\/
   (∃pre x rest,Wy n=pre++x::rest/\(∀y∈pre,fJ t Wy p q y=false)/\fJ t Wy p q x=true/\e= .returned (.tuple #[.int .i64 (x.val:Int), .bool true])))/\Below w.heap.size w w':=by
 have H:Hid (bd w b t/\gQ t Wy/\Small t/\dU t n p q=0):=⟨h,hW,hS,hr⟩;obtain⟨hp,hq⟩:=oA hr;have HPQ:Hid ((0<=p/\p<=1000)/\(0<=q/\q<=1000)):=⟨⟨hp.1,by omega⟩,hq.1,by omega⟩;clear h hW hS hr hp hq;go_in
 go_wp2_with fail
 refine(ia b n p q t _ (H.out.1.below ((Below.refl _ _).alloc (Nat.le_refl _) _) H.out.1.lt)).mono ?_;rintro e w1 ⟨rfl,hb⟩;rw[H.out.2.2.2,aa];obtain⟨hb1,hx⟩:=vN hb;have HB:=hZ hb1;have x0:w1.cell? ⟨w.heap.size,0,none⟩=some (.int .i64 p):=cM hx 0;have x1:w1.cell? ⟨w.heap.size,1,none⟩=some (.int .i64 q):=cM hx 1;clear hb hb1 hx;go_wp2_with fail
 refine(p7 b n p q t Wy (Wy n) _ (H.out.1.below HB.out H.out.1.lt) H.out.2.1 H.out.2.2.1 (H.out.2.1 n hn) HPQ.out.1 HPQ.out.2).mono ?_;rintro e w2 ⟨he,hb2⟩;have HB2:Hid (Below w.heap.size w w2):=HB.out.trans (hb2.mono HB.out.size);clear hb2;rcases he with⟨hno,rfl⟩|⟨pre,x,rest,h1,h2,h3,rfl⟩
 ·have HN:=hZ hno;clear hno;go_wp2
  go_ret2
  exact⟨.inl ⟨HN.out,rfl⟩,HB2.out⟩
 ·have HN:=hZ (And.intro h1 (And.intro h2 h3));clear h1 h2 h3;go_wp2
  go_ret2
  exact⟨.inr ⟨pre,x,rest,HN.out.1,HN.out.2.1,HN.out.2.2,rfl⟩,HB2.out⟩
structure Tree (t:Nat->Gp)(Wy:Nat->List (Fin 10))(c:Nat):Prop where
 ways:gQ t Wy
 deep: ∀k,k<10->(Wy k).length<=4
 root:(t 0).there=true/\(t 0).par= -1
 par: ∀k,k<10->(t k).there=true->k≠0-> ∃m:Nat,(t k).par=m/\m<10/\(t m).there=true
 own: ∀k,k<10->(0<=(t k).op/\(t k).op<=64*c)/\(0<=(t k).oq/\(t k).oq<=64*c)
section
variable {t : Nat -> Gp} {Wy : Nat -> List (Fin 10)} {c : Nat}
theorem Tree.small (h:Tree t Wy c)(hc:c<=1000):Small t:=fun k hk=>by have:=h.own k hk;omega
theorem Tree.mono (h:Tree t Wy c){c':Nat}(hc:c<=c'):Tree t Wy c':=⟨h.ways,h.deep,h.root,h.par,fun k hk=>by have:=h.own k hk;omega⟩
theorem Jg (h:gQ t Wy){k:Nat}(hk:k<10)(hh:(t k).there=true): ∃r,Wy k=⟨k,hk⟩::r/\Way t (t k).par (mD r):=by
 have:=h k hk;cases hw:Wy k with
 |nil=>
  rw[hw]at this;exact absurd ⟨by omega,by omega,hh⟩ this
 |cons x r=>
  rw[hw]at this;obtain⟨e,_,_,h4⟩:=this;have e2:k=x.val:=by exact Int.ofNat_inj.1 e
  subst e2;exact⟨r,rfl,h4⟩
theorem Qj (h:Tree t Wy c):Wy 0=[⟨0,by omega⟩]:=by
 obtain⟨r,hr,hw⟩:=Jg h.ways (show 0<10 by omega) h.root.1;rw[h.root.2]at hw;cases r with
 |nil=>exact hr
 |cons x r=>obtain⟨e,_⟩:=hw;omega
end
section
variable {t : Nat -> Gp} {Wy : Nat -> List (Fin 10)} {c : Nat}
def t0:Nat->Gp:=fX (fun _=>lg) 0 (tR (-1))
def W0:Nat->List (Fin 10):=fun k=>if k=0 then[⟨0,by omega⟩]else[]
theorem wA:Tree t0 W0 0:=by
 have hn: ∀k,k≠0->t0 k=lg:=fun k hk=>mF _ _ _ _ hk;have h0:t0 0=tR (-1):=iJ _ _ _;refine⟨fun k hk=>?_,fun k hk=>?_,⟨by rw[h0];rfl,by rw[h0];rfl⟩,fun k hk hh hne=>?_,fun k hk=>?_⟩
 ·by_cases e:k=0
  ·subst e;exact⟨rfl,by decide,by show(t0 0).there=true;rw[h0];rfl,by show¬valid t0 (t0 0).par;rw[h0];rintro⟨a,_⟩;exact absurd a (by decide)⟩
  ·have:W0 k=[]:=if_neg e;rw[this];rintro⟨_,_,h⟩;rw[hU,hn k e]at h;cases h
 ·unfold W0;split<;>simp
 ·rw[hn k hne]at hh;cases hh
 ·by_cases e:k=0
  ·subst e;rw[h0];simp[tR]
  ·rw[hn k e];simp[lg]
theorem Tree.Pv (h:Tree t Wy c){t':Nat->Gp}{c':Nat}(hs: ∀k,(t' k).there=(t k).there/\(t' k).par=(t k).par)(ho: ∀k,k<10->(0<=(t' k).op/\(t' k).op<=64*c')/\(0<=(t' k).oq/\(t' k).oq<=64*c')):Tree t' Wy c':=
 ⟨h.ways.same hs,h.deep,⟨by rw[(hs 0).1];exact h.root.1,by rw[(hs 0).2];exact h.root.2⟩,fun k hk hh hne=>by
  rw[(hs k).1]at hh;obtain⟨m,e,hm,hhm⟩:=h.par k hk hh hne;exact⟨m,by rw[(hs k).2];exact e,hm,by rw[(hs m).1];exact hhm⟩,ho⟩
theorem Tree.lV (h:Tree t Wy c){n:Nat}{p q:Int}{c':Nat}(hc:c<=c')(hp:0<=(t n).op+p/\(t n).op+p<=64*c')(hq:0<=(t n).oq+q/\(t n).oq+q<=64*c'):Tree (lV t n p q) Wy c':=by
 refine h.Pv (Gk t n p q) fun k hk=>?_;by_cases e:k=n
 ·subst e;rw[show YtpmmdkcfenjiaaaGreatDoor.Gr.lV t k p q k=_ from iJ _ _ _];exact⟨hp,hq⟩
 ·rw[show YtpmmdkcfenjiaaaGreatDoor.Gr.lV t n p q k=_ from mF _ _ _ _ e];have:=h.own k hk;omega
end
end Go.Proofs.YtpmmdkcfenjiaaaGreatDoor.Gr

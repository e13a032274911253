import Derived.Test.YtpmmdkcfenjiaaaGreatDoorUaf
set_option maxRecDepth 100000
set_option maxHeartbeats 1000000
set_option linter.unusedVariables false
set_option linter.unusedSimpArgs false
namespace Go.Proofs.YtpmmdkcfenjiaaaGreatDoor.Gr
open Value renaming int->aa,pointer->ai,tuple->ao,iface->aq,bool->ar,agg->au,nilIface->ay
open IntKind renaming i64->az
open Ending renaming returned->bf
open Obj renaming cells->bg
open Option renaming some->bh,none->bj
open Tryz (prog)
open Go.RowKit Go.Shelf
theorem nN{t:Nat->Gp}{g p q:Int}(h:eS t g p q=0):(0<=p/\p<=20)/\(0<=q/\q<=64):=by
 have hz:=mD h;exact⟨hz.choose_spec.2.2.2.1,hz.choose_spec.2.2.2.2⟩
theorem Gh(b:Nat)(g p q:Int)(t:Nat->Gp)(w:bD)(h:bP w b t)(hw:eS t g p q≠0):Calls prog 65 #[ai (bh ⟨b,0,bj⟩),aa az g,aa az p,aa az q] w λe w'=>e=bf (bG (eS t g p q))/\Below w.heap.size w w':=by
 have HT:Hid (bP w b t):=h;have HW:Hid (bG (eS t g p q)=aq 100 (aa az (eS t g p q))):=aI hw;go_in
 go_wp2_with fail
 refine sC (iU b g p q t _ (HT.below ((aQ _ _).alloc (aL _) _) HT.lt)) ?_;rintro w1 hb;have HB:Hid (Below w.heap.size w w1):=((aQ _ w).alloc (aL _) _).trans (hb.mono (by simp));rw[HW.v];go_wp2
 go_ret
 exact⟨by rw[HW.v];rfl,HB.v⟩
theorem xu{w w1:bD}{c:Array Value}{ty:TypeId}(hb:Below (w.alloc (bg c ty)).heap.size (w.alloc (bg c ty)) w1):Below w.heap.size w w1/\w1.heap[w.heap.size]? =bh (bg c ty (0,0)):=
 ⟨((aQ _ w).alloc (aL _) _).trans (hb.mono (by simp)),(hb.block _ (by simp)).trans (heap_alloc_new w _)⟩
theorem Gg(b n:Nat)(p q:Int)(t:Nat->Gp)(Wy:Nat->List (Fin 10))(w:bD)(h:bP w b t)(hW:fF t Wy)(hS:Small t)(hn:n<10)(hr:eS t n p q=0)(hl:∃y∈Wy n,gN t Wy p q y=true):Calls prog 65 #[ai (bh ⟨b,0,bj⟩),aa az n,aa az p,aa az q] w λe w'=>e=bf (bG 6)/\Below w.heap.size w w':=by
 have H:Hid (bP w b t/\fF t Wy/\Small t/\eS t n p q=0/\∃y∈Wy n,gN t Wy p q y=true):=⟨h,hW,hS,hr,hl⟩;obtain⟨hp,hq⟩:=nN hr;have HPQ:Hid ((0<=p/\p<=1000)/\(0<=q/\q<=1000)):=⟨⟨hp.1,bu⟩,hq.1,bu⟩;go_in
 go_wp2_with fail
 refine sC (iU b n p q t _ (H.1.below ((aQ _ _).alloc (aL _) _) H.1.lt)) ?_;rintro w1 hb;rw[H.2.2.2.1];obtain⟨hb1,hx⟩:=xu hb;have HB:Hid (Below w.heap.size w w1):=hb1;have x0:w1.cell? ⟨w.heap.size,0,bj⟩=bh (aa az p):=cZ hx 0;have x1:w1.cell? ⟨w.heap.size,1,bj⟩=bh (aa az q):=cZ hx 1;rw[show bG 0=ay from rfl];go_wp2_with fail
 refine(qV b n p q t Wy (Wy n) _ (H.1.below HB.v H.1.lt) H.2.1 H.2.2.1 (H.2.1 n hn) HPQ.1 HPQ.2).mono ?_;rintro e w2 ⟨he,hb2⟩;have HB2:Hid (Below w.heap.size w w2):=HB.trans (hb2.mono HB.size);rcases he with⟨hno,_⟩|⟨pre,x,rest,_,_,_,rfl⟩
 .obtain⟨y,hy,hyl⟩:=H.2.2.2.2;rw[hno y hy]at hyl;cases hyl
 .go_wp2
  go_ret
  exact⟨rfl,HB2.v⟩
theorem IE(b n:Nat)(p q:Int)(t:Nat->Gp)(Wy:Nat->List (Fin 10))(w:bD)(h:bP w b t)(hW:fF t Wy)(hS:Small t)(hn:n<10)(hr:eS t n p q=0)(hl:∀y∈Wy n,gN t Wy p q y=false):Calls prog 65 #[ai (bh ⟨b,0,bj⟩),aa az n,aa az p,aa az q] w λe w'=>e=bf (bG 0)/\bP w' b (gm t n {t n with op:=(t n).op+p,oq:=(t n).oq+q})/\bE b w w':=by
 have H:Hid (bP w b t/\fF t Wy/\Small t/\eS t n p q=0/\∀y∈Wy n,gN t Wy p q y=false):=⟨h,hW,hS,hr,hl⟩;obtain⟨hp,hq⟩:=nN hr;have HPQ:Hid ((0<=p/\p<=1000)/\(0<=q/\q<=1000)):=⟨⟨hp.1,bu⟩,hq.1,bu⟩;have hnI:(n:Int)<10:=bu
 have sn:=hS n hn;go_in
 go_wp2_with fail
 refine sC (iU b n p q t _ (H.1.below ((aQ _ _).alloc (aL _) _) H.1.lt)) ?_;rintro w1 hb;rw[H.2.2.2.1];obtain⟨hb1,hx⟩:=xu hb;have HB:Hid (Below w.heap.size w w1):=hb1;have x0:w1.cell? ⟨w.heap.size,0,bj⟩=bh (aa az p):=cZ hx 0;have x1:w1.cell? ⟨w.heap.size,1,bj⟩=bh (aa az q):=cZ hx 1;rw[show bG 0=ay from rfl];go_wp2_with fail
 refine(qV b n p q t Wy (Wy n) _ (H.1.below HB.v H.1.lt) H.2.1 H.2.2.1 (H.2.1 n hn) HPQ.1 HPQ.2).mono ?_;rintro e w2 ⟨he,hb2⟩;have HB2:Hid (Below w.heap.size w w2):=HB.trans (hb2.mono HB.size);rcases he with⟨hno,rfl⟩|⟨pre,x,rest,hxs,_,hyl,_⟩
 .clear hno;have T2:Hid (bP w2 b t):=H.1.below HB2.v H.1.lt;have y0:w2.cell? ⟨b,n*6+4,bj⟩=bh (aa az (t n).op):=T2.cell n 4 hn bu;have y1:w2.cell? ⟨b,n*6+4+1,bj⟩=bh (aa az (t n).oq):=T2.cell n 5 hn bu;have yf:=T2.frozen;have HZ:Hid (∀P R:Int,P=(t n).op->R=(t n).oq->bP ((w2.setCell ⟨b,n*6+4,bj⟩ (aa az (P+p))).drew.setCell ⟨b,n*6+4+1,bj⟩ (aa az (R+q))).drew b (gm t n {t n with op:=(t n).op+p,oq:=(t n).oq+q})):=by
   rintro P R rfl rfl;have Z:=(((T2.set n 4 hn bu (aa az ((t n).op+p)) {t n with op:=(t n).op+p} (λi hi=>by match i,hi with|0,_=>rfl|1,_=>rfl|2,_=>rfl|3,_=>rfl|4,_=>rfl|5,_=>rfl)).drew).set n 5 hn bu (aa az ((t n).oq+q)) {t n with op:=(t n).op+p,oq:=(t n).oq+q} (λi hi=>by rw[fa];match i,hi with|0,_=>rfl|1,_=>rfl|2,_=>rfl|3,_=>rfl|4,_=>rfl|5,_=>rfl)).drew;rw[uI]at Z;exact Z
  generalize hP:(t n).op=P at y0 sn;generalize hR:(t n).oq=R at y1 sn;have HPR:Hid (P=(t n).op/\R=(t n).oq):=⟨hP.symm,hR.symm⟩;obtain⟨⟨s1,s2⟩,s3,s4⟩:=sn;go_wp2_with fail
  go_region
  go_wp2_with fail
  go_region
  go_wp2
  go_ret
  refine⟨rfl,HZ.v P R HPR.1 HPR.2,((((bE.cC HB2.v).setCell _ _).drew).setCell _ _).drew⟩
 .have:=H.2.2.2.2 x (by rw[hxs];simp);rw[hyl]at this;cases this
theorem Di(b:Nat)(g p q:Int)(t:Nat->Gp)(w:bD)(h:bP w b t)(hw:eS t g p q≠0):Calls prog 67 #[ai (bh ⟨b,0,bj⟩),aa az g,aa az p,aa az q] w λe w'=>e=bf (bG (eS t g p q))/\Below w.heap.size w w':=by
 have HT:Hid (bP w b t):=h;have HW:Hid (bG (eS t g p q)=aq 100 (aa az (eS t g p q))):=aI hw;go_in
 go_wp2_with fail
 refine sC (iU b g p q t _ HT.v) ?_;rintro w1 hb;have HB:Hid (Below w.heap.size w w1):=hb;rw[HW.v];go_wp2
 go_ret
 exact⟨by rw[HW.v];rfl,HB.v⟩
theorem zr(b n:Nat)(p q:Int)(t:Nat->Gp)(w:bD)(h:bP w b t)(hn:n<10)(hr:eS t n p q=0)(hl:(t n).op<p\/(t n).oq<q):Calls prog 67 #[ai (bh ⟨b,0,bj⟩),aa az n,aa az p,aa az q] w λe w'=>e=bf (bG 8)/\Below w.heap.size w w':=by
 have H:Hid (bP w b t/\eS t n p q=0):=⟨h,hr⟩;have hnI:(n:Int)<10:=bu
 go_in
 go_wp2_with fail
 refine sC (iU b n p q t _ H.1) ?_;rintro w1 hb;rw[H.2,show bG 0=ay from rfl];have HB:Hid (Below w.heap.size w w1):=hb;have T2:Hid (bP w1 b t):=H.1.below hb H.1.lt;have y0:w1.cell? ⟨b,n*6+4,bj⟩=bh (aa az (t n).op):=T2.cell n 4 hn bu;have y1:w1.cell? ⟨b,n*6+4+1,bj⟩=bh (aa az (t n).oq):=T2.cell n 5 hn bu;generalize (t n).op=P at y0 hl;generalize (t n).oq=R at y1 hl;by_cases h1:P<p
 .go_wp2
  go_ret
  exact⟨rfl,HB.v⟩
 .have h2:R<q:=hl.resolve_left h1;have d1:decide (P<p)=false:=by simp;omega
  go_wp2
  go_ret
  exact⟨rfl,HB.v⟩
theorem Ef(b n:Nat)(p q:Int)(t:Nat->Gp)(w:bD)(h:bP w b t)(hS:Small t)(hn:n<10)(hr:eS t n p q=0)(hl:p<=(t n).op/\q<=(t n).oq):Calls prog 67 #[ai (bh ⟨b,0,bj⟩),aa az n,aa az p,aa az q] w λe w'=>e=bf (bG 0)/\bP w' b (gm t n {t n with op:=(t n).op-p,oq:=(t n).oq-q})/\bE b w w':=by
 have H:Hid (bP w b t/\eS t n p q=0):=⟨h,hr⟩;have hnI:(n:Int)<10:=bu
 obtain⟨hp,hq⟩:=nN hr;have sn:=hS n hn;go_in
 go_wp2_with fail
 refine sC (iU b n p q t _ H.1) ?_;rintro w1 hb;rw[H.2,show bG 0=ay from rfl];have HB:Hid (Below w.heap.size w w1):=hb;have T2:Hid (bP w1 b t):=H.1.below hb H.1.lt;have y0:w1.cell? ⟨b,n*6+4,bj⟩=bh (aa az (t n).op):=T2.cell n 4 hn bu;have y1:w1.cell? ⟨b,n*6+4+1,bj⟩=bh (aa az (t n).oq):=T2.cell n 5 hn bu;have yf:=T2.frozen;have HZ:Hid (∀P R:Int,P=(t n).op->R=(t n).oq->bP ((w1.setCell ⟨b,n*6+4,bj⟩ (aa az (P-p))).setCell ⟨b,n*6+4+1,bj⟩ (aa az (R-q))) b (gm t n {t n with op:=(t n).op-p,oq:=(t n).oq-q})):=by
  rintro P R rfl rfl;have Z:=(T2.set n 4 hn bu (aa az ((t n).op-p)) {t n with op:=(t n).op-p} (λi hi=>by match i,hi with|0,_=>rfl|1,_=>rfl|2,_=>rfl|3,_=>rfl|4,_=>rfl|5,_=>rfl)).set n 5 hn bu (aa az ((t n).oq-q)) {t n with op:=(t n).op-p,oq:=(t n).oq-q} (λi hi=>by rw[fa];match i,hi with|0,_=>rfl|1,_=>rfl|2,_=>rfl|3,_=>rfl|4,_=>rfl|5,_=>rfl);rw[uI]at Z;exact Z
 generalize hP:(t n).op=P at y0 sn hl;generalize hR:(t n).oq=R at y1 sn hl;have HPR:Hid (P=(t n).op/\R=(t n).oq):=⟨hP.symm,hR.symm⟩;obtain⟨⟨s1,s2⟩,s3,s4⟩:=sn;obtain⟨h1,h2⟩:=hl;have d1:decide (P<p)=false:=by simp;omega
 have d2:decide (R<q)=false:=by simp;omega
 go_wp2
 go_ret
 exact⟨rfl,HZ.v P R HPR.1 HPR.2,((bE.cC HB.v).setCell _ _).setCell _ _⟩
def AQ(t:Nat->Gp)(Wy:Nat->List (Fin 10))(n:Nat)(p q:Int):Bool:=(Wy n).any (gN t Wy p q)
def iB(t:Nat->Gp)(Wy:Nat->List (Fin 10))(g p q:Int):Int:=if eS t g p q=0 then(if AQ t Wy g.toNat p q=true then 6 else 0)else eS t g p q
def np(t:Nat->Gp)(n:Nat)(p q:Int):Nat->Gp:=gm t n {t n with op:=(t n).op+p,oq:=(t n).oq+q}
def j6(t:Nat->Gp)(Wy:Nat->List (Fin 10))(g p q:Int):Nat->Gp:=if iB t Wy g p q=0 then np t g.toNat p q else t
def gR(t:Nat->Gp)(g p q:Int):Int:=if eS t g p q=0 then(if p<=(t g.toNat).op/\q<=(t g.toNat).oq then 0 else 8)else eS t g p q
def eU(t:Nat->Gp)(g p q:Int):Nat->Gp:=if gR t g p q=0 then np t g.toNat (-p) (-q)else t
theorem mM(b:Nat)(g p q:Int)(t:Nat->Gp)(Wy:Nat->List (Fin 10))(w:bD)(h:bP w b t)(hW:fF t Wy)(hS:Small t):
  Calls prog 65 #[ai (bh ⟨b,0,bj⟩),aa az g,aa az p,aa az q] w λe w'=>e=bf (bG (iB t Wy g p q))/\bP w' b (j6 t Wy g p q)/\bE b w w':=by
 by_cases hr:eS t g p q=0
 .obtain⟨n,rfl,hn,hh,_,_⟩:=mD hr;cases hl:AQ t Wy n p q
  .have e:iB t Wy n p q=0:=by unfold iB;rw[aJ hr,hZ,hl];rfl
   unfold j6;rw[e,aJ rfl,hZ];refine IE b n p q t Wy w h hW hS hn hr (λy hy=>?_);unfold AQ at hl;rw[List.any_eq_false]at hl;have:=hl y hy;cases hb:gN t Wy p q y
   .rfl
   .exact aZ hb this
  .have e:iB t Wy n p q=6:=by unfold iB;rw[aJ hr,hZ,hl];rfl
   unfold j6;rw[e,aI bA];refine(Gg b n p q t Wy w h hW hS hn hr ?_).mono λe w' ⟨h1,h2⟩=>⟨h1,h.below h2 h.lt,bE.cC h2⟩;unfold AQ at hl;exact List.any_eq_true.1 hl
 .have e:iB t Wy g p q=eS t g p q:=by unfold iB;rw[aI hr]
  unfold j6;rw[e,aI hr];exact(Gh b g p q t w h hr).mono λe w' ⟨h1,h2⟩=>⟨h1,h.below h2 h.lt,bE.cC h2⟩
theorem ir(b:Nat)(g p q:Int)(t:Nat->Gp)(w:bD)(h:bP w b t)(hS:Small t):
  Calls prog 67 #[ai (bh ⟨b,0,bj⟩),aa az g,aa az p,aa az q] w λe w'=>e=bf (bG (gR t g p q))/\bP w' b (eU t g p q)/\bE b w w':=by
 by_cases hr:eS t g p q=0
 .obtain⟨n,rfl,hn,hh,_,_⟩:=mD hr;by_cases hl:p<=(t n).op/\q<=(t n).oq
  .have e:gR t n p q=0:=by unfold gR;rw[aJ hr,hZ,aJ hl]
   unfold eU;rw[e,aJ rfl,hZ];refine(Ef b n p q t w h hS hn hr hl).mono λe w' ⟨h1,h2,h3⟩=>⟨h1,?_,h3⟩;unfold np;rw[<-Int.sub_eq_add_neg,<-Int.sub_eq_add_neg];exact h2
  .have e:gR t n p q=8:=by unfold gR;rw[aJ hr,hZ,aI hl]
   unfold eU;rw[e,aI bA];exact(zr b n p q t w h hn hr bu).mono λe w' ⟨h1,h2⟩=>⟨h1,h.below h2 h.lt,bE.cC h2⟩
 .have e:gR t g p q=eS t g p q:=by unfold gR;rw[aI hr]
  unfold eU;rw[e,aI hr];exact(Di b g p q t w h hr).mono λe w' ⟨h1,h2⟩=>⟨h1,h.below h2 h.lt,bE.cC h2⟩
def nG(t:Nat->Gp)(Wy:Nat->List (Fin 10))(f g p q:Int):Int:=if wr t g=0 then(if gR t f p q=0 then iB (eU t f p q) Wy g p q else gR t f p q)else wr t g
def pX(t:Nat->Gp)(Wy:Nat->List (Fin 10))(f g p q:Int):Nat->Gp:=if nG t Wy f g p q=0 then j6 (eU t f p q) Wy g p q else t
section
variable {ty:TypeId}
theorem rH(b:Nat):∀(vs:List Value) (o:Nat) (w:bD) (c:Array Value),w.heap[b]? =bh (bg c ty (0,0))->∃c',(w.setCells b o vs).heap[b]? =bh (bg c' ty (0,0))/\c'.size=c.size
 |[],_,_,c,h=>⟨c,h,rfl⟩
 |v::r,o,w,c,h=>by
  rw[World.setCells];obtain⟨c',h1,h2⟩:=rH b r (o+1) (w.setCell ⟨b,o,bj⟩ v) _ (heap_set h o v);exact⟨c',h1,by rw[h2];simp⟩
theorem p9(b:Nat):∀(vs:List Value) (o:Nat) (w:bD),bE b w (w.setCells b o vs)
 |[],_,w=>bE.refl b w
 |v::r,o,w=>by
  rw[World.setCells];exact((bE.refl b w).setCell o v).trans (p9 b r (o+1) _)
end
theorem Al{w:bD}{b:Nat}{c:Array Value}(h:w.heap[b]? =bh (bg c 135 (0,0)))(hs:c.size=60):w.there b 0 60:=λj hj=>by
 rw[Nat.zero_add];exact⟨by rw[cZ h,Array.getElem?_eq_getElem bu];rfl,j4 h j⟩
theorem uA{w:bD}{b:Nat}{c:Array Value}(h:w.heap[b]? =bh (bg c 135 (0,0)))(hs:c.size=60)(t:Nat->Gp):bP (w.setCells b 0 (gi t).toList) b t:=by
 obtain⟨c',h1,h2⟩:=rH b (gi t).toList 0 w c h;have hth:w.there b 0 (gi t).toList.length:=by rw[aB,gv];exact Al h hs
 have hr:=World.rangeAt_setCells_same w b 0 (gi t).toList hth;unfold bP;rw[h1];refine congrArg (λc=>bh (bg c 135 (0,0))) (vZ t c' bu λn j hn hj=>?_);have:=hr (n*6+j) ((t n).cell j) (by rw[aM];exact nu t n j hn hj);rw[Nat.zero_add,cZ h1]at this;exact this
theorem Ak{w:bD}{b:Nat}{t:Nat->Gp}(h:bP w b t):w.rangeAt b 0 (gi t).toList:=λj v hv=>by
 rw[Nat.zero_add,cZ h];rw[aM]at hv;exact hv
theorem Ls(t:Nat->Gp):(gi t).all (·.oneCell')=true:=by
 rw[Array.all_eq_true_iff_forall_mem];intro v hv;simp only[gi,List.mem_toArray,List.mem_map]at hv;obtain⟨i,_,rfl⟩:=hv;unfold Gp.cell;split<;>rfl
theorem Sv{t:Nat->Gp}:(prog.info? 135).map (·.size)=bh (gi t).toList.length:=by rw[aB,gv];kernel_rfl
theorem Dg{w:bD}{b:Nat}{t t':Nat->Gp}(h:bP w b t):w.there b 0 (gi t').size:=by rw[gv];exact Al h (gv t)
theorem ob{ops:Array Oper}{rest:List Oper}{a:Act}{w:bD}{Q:Exit->Act->bD->Prop}{d:Option Tmp}{ty:TypeId}{ps:String}{af:Array Edge}{x:Operand}{b:Nat}{t:Nat->Gp}
  (hx:a.eval x=ai (bh ⟨b,0,bj⟩)) (hc:bP w b t) (h:wpList prog ops Q rest (a.put d (au (gi t))) w):wpList prog ops Q (⟨d, .load 135 x,ty,ps,af,bj⟩::rest) a w:=
 wpList_load_mid rfl 135 x rfl b 0 hx (gi t).toList _ (Ak hc) Tryz.underlying135 rfl Sv h
theorem Hr{w:bD}{b:Nat}{t':Nat->Gp}(h:bP w b t')(t:Nat->Gp):(storeCells ⟨b,0,bj⟩ (gi t).toList).run prog w= .ok () (w.setCells b 0 (gi t).toList):=by
 have ht:w.there b 0 (gi t).size:=Dg h;have:=run_storeCells_cells (P:=prog) b 0 (gi t).toList 0 w (λj hj=>by simpa using(ht j (by simpa using hj)).1) (λj hj=>by simpa using(ht j (by simpa using hj)).2)
  (λv hv=>(Array.all_eq_true_iff_forall_mem.1 (Ls t)) v (by simpa using hv))
 simpa using this
theorem sy{w:bD}{c:Array Value}(Z:bP (w.alloc (bg c 135)) w.heap.size (λ_=>kS))(t:Nat->Gp):
  bP ((w.alloc (bg c 135)).setCells w.heap.size 0 (gi t).toList) w.heap.size t/\Below w.heap.size w ((w.alloc (bg c 135)).setCells w.heap.size 0 (gi t).toList):=
 ⟨uA Z (gv _) t,(p9 w.heap.size _ 0 _).below ((aQ _ _).alloc (aL _) _) (aL _) (by simp)⟩
theorem bC{k:Int}(h:k≠0):bG k=aq 100 (aa .i64 k):=aI h
theorem bB:bG 0=ay:=rfl
theorem Dt{t t':Nat->Gp}(h:∀k,(t' k).there=(t k).there/\(t' k).par=(t k).par):∀{g:Int} {L:List Nat},Way t g L->Way t' g L
 |g,[],hw=>λhv=>hw ⟨hv.1,hv.2.1,by rw[<-(h _).1];exact hv.2.2⟩
 |g,x::L,⟨e,hx,hh,hr⟩=>⟨e,hx,by rw[(h x).1];exact hh,by rw[(h x).2];exact Dt h hr⟩
theorem fF.same{t t':Nat->Gp}{Wy:Nat->List (Fin 10)}(h:∀k,(t' k).there=(t k).there/\(t' k).par=(t k).par)(hW:fF t Wy):fF t' Wy:=λk hk=>Dt h (hW k hk)
theorem zF(t:Nat->Gp)(n:Nat)(p q:Int)(k:Nat):(np t n p q k).there=(t k).there/\(np t n p q k).par=(t k).par:=by
 unfold np gm;split
 .rename_i e;subst e;exact⟨rfl,rfl⟩
 .exact⟨rfl,rfl⟩
theorem Am(t:Nat->Gp)(g p q:Int)(k:Nat):(eU t g p q k).there=(t k).there/\(eU t g p q k).par=(t k).par:=by
 unfold eU;split
 .exact zF _ _ _ _ _
 .exact⟨rfl,rfl⟩
theorem yp{t:Nat->Gp}(hS:Small t)(g p q:Int):Small (eU t g p q):=λk hk=>by
 unfold eU;split
 .rename_i e;unfold np gm;split
  .rename_i e2;have hr:eS t g p q=0:=by
    unfold gR at e;by_cases h:eS t g p q=0
    .exact h
    .rw[aI h]at e;exact e
   unfold gR at e;rw[aJ hr]at e;have hpq:=nN hr;by_cases hc:p<=(t g.toNat).op/\q<=(t g.toNat).oq
   .subst e2;have:=hS g.toNat hk;simp only;omega
   .rw[aI hc]at e;simp at e
  .exact hS k hk
 .exact hS k hk
theorem PJ(b:Nat)(f g p q:Int)(t:Nat->Gp)(w:bD)(h:bP w b t)(hw:wr t g≠0):
  Calls prog 116 #[ai (bh ⟨b,0,bj⟩),aa az f,aa az g,aa az p,aa az q] w λe w'=>e=bf (bG (wr t g))/\w'=w:=by
 have HT:Hid (bP w b t):=h;have HW:Hid (bG (wr t g)=aq 100 (aa az (wr t g))):=bC hw;go_in
 go_wp2_with fail
 refine sC (jw b g t _ HT.v) ?_;rintro w1 hw1;subst w1;rw[HW.v];go_wp2
 go_ret
 exact⟨by rw[HW.v];rfl,rfl⟩
theorem MK(b:Nat)(f g p q:Int)(t:Nat->Gp)(w:bD)(h:bP w b t)(hS:Small t)(hw:wr t g=0)(hu:gR t f p q≠0):
  Calls prog 116 #[ai (bh ⟨b,0,bj⟩),aa az f,aa az g,aa az p,aa az q] w λe w'=>e=bf (bG (gR t f p q))/\Below w.heap.size w w':=by
 have H:Hid (bP w b t/\Small t/\wr t g=0):=⟨h,hS,hw⟩;have HU:Hid (bG (gR t f p q)=aq 100 (aa az (gR t f p q))):=bC hu;have Z:=sQ w;rw[yJ]at Z;have Z0:=hJ Z;have C0:=hJ (sy Z t);have hst:=Hr Z t;go_in
 go_wp2_with fail
 refine sC (jw b g t _ H.1) ?_;rintro w1 hw1;subst w1;rw[H.2.2,bB];go_wp2_with (first|(refine ob (t:=t) (b:=b) rfl ?_ ?_;exact H.1))
 refine sC (ir w.heap.size f p q t _ C0.1 H.2.1) ?_;rintro w2 ⟨_,F2⟩;have B2:Hid (Below w.heap.size w w2):=F2.below C0.2 (aL _) C0.2.size;rw[HU.v];go_wp2
 go_ret
 exact⟨by rw[HU.v];rfl,B2.v⟩
theorem MJ(b:Nat)(f g p q:Int)(t:Nat->Gp)(Wy:Nat->List (Fin 10))(w:bD)(h:bP w b t)(hW:fF t Wy)(hS:Small t)(hw:wr t g=0)(hu:gR t f p q=0)(hc:iB (eU t f p q) Wy g p q≠0):
  Calls prog 116 #[ai (bh ⟨b,0,bj⟩),aa az f,aa az g,aa az p,aa az q] w λe w'=>e=bf (bG (iB (eU t f p q) Wy g p q))/\Below w.heap.size w w':=by
 have H:Hid (bP w b t/\Small t/\wr t g=0/\gR t f p q=0/\fF t Wy):=⟨h,hS,hw,hu,hW⟩;have HU:Hid (bG (iB (eU t f p q) Wy g p q)=aq 100 (aa az (iB (eU t f p q) Wy g p q))):=bC hc;have Z:=sQ w;rw[yJ]at Z;have Z0:=hJ Z;have C0:=hJ (sy Z t);have hst:=Hr Z t;go_in
 go_wp2_with fail
 refine sC (jw b g t _ H.1) ?_;rintro w1 hw1;subst w1;rw[H.2.2.1,bB];go_wp2_with (first|(refine ob (t:=t) (b:=b) rfl ?_ ?_;exact H.1))
 refine sC (ir w.heap.size f p q t _ C0.1 H.2.1) ?_;rintro w2 ⟨T2,F2⟩;have B2:Hid (Below w.heap.size w w2):=F2.below C0.2 (aL _) C0.2.size;have HT2:=hJ T2;rw[H.2.2.2.1,bB];go_wp2_with fail
 refine sC (mM w.heap.size g p q (eU t f p q) Wy _ HT2.v (H.2.2.2.2.same (Am t f p q)) (yp H.2.1 f p q)) ?_;rintro w3 ⟨_,F3⟩;have B3:Hid (Below w.heap.size w w3):=F3.below B2.v (aL _) B2.size;rw[HU.v];go_wp2
 go_ret
 exact⟨by rw[HU.v];rfl,B3.v⟩
theorem PG(b:Nat)(f g p q:Int)(t:Nat->Gp)(Wy:Nat->List (Fin 10))(w:bD)(h:bP w b t)(hW:fF t Wy)(hS:Small t)(hw:wr t g=0)(hu:gR t f p q=0)(hc:iB (eU t f p q) Wy g p q=0):
  Calls prog 116 #[ai (bh ⟨b,0,bj⟩),aa az f,aa az g,aa az p,aa az q] w λe w'=>e=bf (bG 0)/\bP w' b (j6 (eU t f p q) Wy g p q)/\bE b w w':=by
 have H:Hid (bP w b t/\Small t/\wr t g=0/\gR t f p q=0/\fF t Wy/\iB (eU t f p q) Wy g p q=0):=⟨h,hS,hw,hu,hW,hc⟩;have Z:=sQ w;rw[yJ]at Z;have Z0:=hJ Z;have C0:=hJ (sy Z t);have hst:=Hr Z t;go_in
 go_wp2_with fail
 refine sC (jw b g t _ H.1) ?_;rintro w1 hw1;subst w1;rw[H.2.2.1,bB];go_wp2_with (first|(refine ob (t:=t) (b:=b) rfl ?_ ?_;exact H.1))
 refine sC (ir w.heap.size f p q t _ C0.1 H.2.1) ?_;rintro w2 ⟨T2,F2⟩;have B2:Hid (Below w.heap.size w w2):=F2.below C0.2 (aL _) C0.2.size;have HT2:=hJ T2;rw[H.2.2.2.1,bB];go_wp2_with fail
 refine sC (mM w.heap.size g p q (eU t f p q) Wy _ HT2.v (H.2.2.2.2.1.same (Am t f p q)) (yp H.2.1 f p q)) ?_;rintro w3 ⟨T3,F3⟩;have B3:Hid (Below w.heap.size w w3):=F3.below B2.v (aL _) B2.size;have HT3:=hJ T3;have HB:Hid (bP w3 b t):=H.1.below B3.v H.1.lt;rw[H.2.2.2.2.2,bB];generalize ht3:j6 (eU t f p q) Wy g p q=t3 at*;have E3:=hJ ht3;have hst:=Hr HB.v t3;go_wp2_with (first|(refine ob (t:=t3) (b:=w.heap.size) rfl ?_ ?_;exact HT3.v))
 go_ret
 exact⟨rfl,by rw[E3.v];exact uA HB.v (gv _) t3,(bE.cC B3.v).trans (p9 b _ 0 _)⟩
theorem MI(b:Nat)(f g p q:Int)(t:Nat->Gp)(Wy:Nat->List (Fin 10))(w:bD)(h:bP w b t)(hW:fF t Wy)(hS:Small t):
  Calls prog 116 #[ai (bh ⟨b,0,bj⟩),aa az f,aa az g,aa az p,aa az q] w λe w'=>e=bf (bG (nG t Wy f g p q))/\bP w' b (pX t Wy f g p q)/\bE b w w':=by
 unfold pX;by_cases hw:wr t g=0
 .by_cases hu:gR t f p q=0
  .have e:nG t Wy f g p q=iB (eU t f p q) Wy g p q:=by unfold nG;rw[aJ hw,aJ hu]
   rw[e];by_cases hc:iB (eU t f p q) Wy g p q=0
   .rw[hc,aJ rfl];exact PG b f g p q t Wy w h hW hS hw hu hc
   .rw[aI hc];exact(MJ b f g p q t Wy w h hW hS hw hu hc).mono λe w' ⟨h1,h2⟩=>⟨h1,h.below h2 h.lt,bE.cC h2⟩
  .have e:nG t Wy f g p q=gR t f p q:=by unfold nG;rw[aJ hw,aI hu]
   rw[e,aI hu];exact(MK b f g p q t w h hS hw hu).mono λe w' ⟨h1,h2⟩=>⟨h1,h.below h2 h.lt,bE.cC h2⟩
 .have e:nG t Wy f g p q=wr t g:=by unfold nG;rw[aI hw]
  rw[e,aI hw];exact(PJ b f g p q t w h hw).mono λe w' ⟨h1,h2⟩=>⟨h1,by rw[h2];exact h,by rw[h2];exact bE.refl b w⟩
theorem Su{t:Nat->Gp}:(prog.info? 133).map (·.size)=bh (gi t).toList.length:=by rw[aB,gv];kernel_rfl
theorem Eh{ops:Array Oper}{rest:List Oper}{a:Act}{w:bD}{Q:Exit->Act->bD->Prop}{d:Option Tmp}{ty:TypeId}{ps:String}{af:Array Edge}{x:Operand}{b:Nat}{t:Nat->Gp}
  (hx:a.eval x=ai (bh ⟨b,0,bj⟩)) (hc:bP w b t) (h:wpList prog ops Q rest (a.put d (au (gi t))) w):wpList prog ops Q (⟨d, .load 133 x,ty,ps,af,bj⟩::rest) a w:=
 wpList_load_mid rfl 133 x rfl b 0 hx (gi t).toList _ (Ak hc) Tryz.underlying133 rfl Su h
theorem IT(t:Nat->Gp)(n:Nat)(hn:n<10):(gi t).extract (n*6) (n*6+6)=#[ar (t n).there,aa az (t n).par,aa az (t n).lp,aa az (t n).lq,aa az (t n).op,aa az (t n).oq]:=by
 apply bL;intro i;rw[Array.getElem?_extract,gv];rcases Nat.lt_or_ge i 6 with hi|hi
 .rw[nK,nu t n i hn hi]
  match i,hi with
  |0,_=>rfl
  |1,_=>rfl
  |2,_=>rfl
  |3,_=>rfl
  |4,_=>rfl
  |5,_=>rfl
 .rw[nJ,aR (by simpa using hi)]
def oN(t:Nat->Gp)(n:Int):Bool:=(List.range 10).any λk=>(t k).there&&decide ((t k).par=n)
theorem F9{t:Nat->Gp}{n:Int}(h:∀k,k<10->¬((t k).there=true/\(t k).par=n)):oN t n=false:=by
 unfold oN;rw[List.any_eq_false];intro k hk;have:=h k (List.mem_range.1 hk);simpa using this
theorem zE{t:Nat->Gp}{n:Int}{k:Nat}(hk:k<10)(h1:(t k).there=true)(h2:(t k).par=n):oN t n=true:=by
 unfold oN;rw[List.any_eq_true];exact⟨k,List.mem_range.2 hk,by simp[h1,h2]⟩
theorem Re:∃i,prog.info? 132=bh i/\i.size=6:=⟨(prog.info? 132).get bw,by kernel_rfl,by kernel_rfl⟩
theorem Eb(w:bD)(E A:Array Value)(k:Nat)(hk:k<10)(hE:E.extract (k*6) (k*6+6)=A):(Instr.index 133 (au E) (aa .i64 k)).run prog w= .ok (au A) w:=by
 obtain⟨i,hi,hs⟩:=Re;simp[Instr.index,asIntOf,run_underlying Tryz.underlying133,part,Sem.run_bind,sizeOf,typeInfo,hi,hs,hE];intro h;omega
theorem rq{ops:Array Oper}{rest:List Oper}{a:Act}{w:bD}{Q:Exit->Act->bD->Prop}{d:Option Tmp}{ty:TypeId}{ps:String}{af:Array Edge}{x y:Operand}{E A:Array Value}{k:Nat}
  (hx:a.eval x=au E) (hy:a.eval y=aa .i64 k) (hk:k<10) (hE:E.extract (k*6) (k*6+6)=A) (h:wpList prog ops Q rest (a.put d (au A)) w):wpList prog ops Q (⟨d, .index 133 x y,ty,ps,af,bj⟩::rest) a w:=
 wpList_plain rfl λK hK=>by
  unfold Oper.wp execOp;simp only[hx,hy,Sem.run_bind,Eb w E A k hk hE];exact hK _ _ h
theorem qv(b:Nat)(n:Int)(t:Nat->Gp)(w:bD)(h:bP w b t):Calls prog 188 #[ai (bh ⟨b,0,bj⟩),aa az n] w λe w'=>e=bf (ar (oN t n))/\Below w.heap.size w w':=by
 have HT:Hid (bP w b t):=h;have HX:Hid (∀k,k<10->(gi t).extract (k*6) (k*6+6)=#[ar (t k).there,aa az (t k).par,aa az (t k).lp,aa az (t k).lq,aa az (t k).op,aa az (t k).oq]):=λk hk=>IT t k hk;go_in
 go_wp2_with (first|(refine Eh (t:=t) (b:=b) rfl ?_ ?_;exact HT.v))
 have HB0:Hid (Below w.heap.size w w):=aQ _ _;generalize gi t=E at*;go_loopw [11] (λi wr=>∃(k:Nat),i=aa az k/\k<=10/\Hid ((∀j,j<k->¬((t j).there=true/\(t j).par=n))/\Below w.heap.size w wr)) (λi _=>10-(intOf i).toNat)
 case atStart=>exact⟨0,rfl,bu,λj hj=>aZ hj bu,HB0.v⟩
 case round=>
  obtain⟨k,rfl,hk,H⟩:=hrel;by_cases hlt:k<10
  .have hltI:(k:Int)<10:=bu
   have hx:=hJ (HX.v k hlt);have hw:=hJ H.2.size;have HN:=hJ (λ(h1:(t k).there=true) (h2:(t k).par=n)=>zE hlt h1 h2);have HR:=hJ (λ(h1:¬((t k).there=true/\(t k).par=n))=>(λj (hj:j<k+1)=>(by
    rcases Nat.lt_or_ge j k with e|e
    .exact H.1 j e
    .obtain rfl:j=k:=bu
     exact h1:¬((t j).there=true/\(t j).par=n))))
   generalize (t k).there=TH at*;generalize (t k).par=PA at*;cases TH
   .have HR2:=hJ (HR.v (by simp));go_wp2_with (first|(refine rq rfl rfl hlt hx.v ?_))
    go_roundw
    case rel=>exact⟨k+1,by go_num,bu,HR2.v,H.2.alloc hw.v _⟩
    case measure=>simp[intOf];omega
   .by_cases hp:PA=n
    .have HN2:=hJ (HN.v rfl hp);go_wp2_with (first|(refine rq rfl rfl hlt hx.v ?_))
     go_ret
     exact⟨by rw[HN2.v];rfl,H.2.alloc hw.v _⟩
    .have dp:(PA==n)=false:=by simpa using hp
     have HR2:=hJ (HR.v (by simp[hp]));go_wp2_with (first|(refine rq rfl rfl hlt hx.v ?_))
     go_roundw
     case rel=>exact⟨k+1,by go_num,bu,HR2.v,H.2.alloc hw.v _⟩
     case measure=>simp[intOf];omega
  .have hk10:k=10:=bu
   subst hk10;go_wp2
   go_ret
   refine⟨?_,H.2⟩;have e0:oN t n=false:=F9 λj hj=>H.1 j hj;rw[e0];rfl
theorem Jr(b:Nat)(g p q:Int)(t:Nat->Gp)(w:bD)(h:bP w b t)(hw:eS t g p q≠0):Calls prog 238 #[ai (bh ⟨b,0,bj⟩),aa az g,aa az p,aa az q] w λe w'=>e=bf (ao #[aa az 0,ar false])/\Below w.heap.size w w':=by
 have HT:Hid (bP w b t):=h;have HW:Hid (bG (eS t g p q)=aq 100 (aa az (eS t g p q))):=aI hw;go_in
 go_wp2_with fail
 refine sC (iU b g p q t _ (HT.below ((aQ _ _).alloc (aL _) _) HT.lt)) ?_;rintro w1 hb;have HB:=hJ (xu hb).1;rw[HW.v];go_wp2
 go_ret2
 exact⟨rfl,HB.v⟩
theorem Mh(b n:Nat)(p q:Int)(t:Nat->Gp)(Wy:Nat->List (Fin 10))(w:bD)(h:bP w b t)(hW:fF t Wy)(hS:Small t)(hn:n<10)(hr:eS t n p q=0):Calls prog 238 #[ai (bh ⟨b,0,bj⟩),aa az n,aa az p,aa az q] w λe w'=>
  (((∀y∈Wy n,gN t Wy p q y=false)/\e=bf (ao #[aa az 0,ar false]))\/
   (∃pre x rest,Wy n=pre++x::rest/\(∀y∈pre,gN t Wy p q y=false)/\gN t Wy p q x=true/\e=bf (ao #[aa az (x.val:Int),ar true])))/\Below w.heap.size w w':=by
 have H:Hid (bP w b t/\fF t Wy/\Small t/\eS t n p q=0):=⟨h,hW,hS,hr⟩;obtain⟨hp,hq⟩:=nN hr;have HPQ:Hid ((0<=p/\p<=1000)/\(0<=q/\q<=1000)):=⟨⟨hp.1,bu⟩,hq.1,bu⟩;go_in
 go_wp2_with fail
 refine sC (iU b n p q t _ (H.1.below ((aQ _ _).alloc (aL _) _) H.1.lt)) ?_;rintro w1 hb;rw[H.2.2.2,bB];obtain⟨hb1,hx⟩:=xu hb;have HB:=hJ hb1;have x0:w1.cell? ⟨w.heap.size,0,bj⟩=bh (aa az p):=cZ hx 0;have x1:w1.cell? ⟨w.heap.size,1,bj⟩=bh (aa az q):=cZ hx 1;go_wp2_with fail
 refine(qV b n p q t Wy (Wy n) _ (H.1.below HB.v H.1.lt) H.2.1 H.2.2.1 (H.2.1 n hn) HPQ.1 HPQ.2).mono ?_;rintro e w2 ⟨he,hb2⟩;have HB2:Hid (Below w.heap.size w w2):=HB.trans (hb2.mono HB.size);rcases he with⟨hno,rfl⟩|⟨pre,x,rest,h1,h2,h3,rfl⟩
 .have HN:=hJ hno;go_wp2
  go_ret2
  exact⟨.inl ⟨HN.v,rfl⟩,HB2.v⟩
 .have HN:=hJ (aK h1 (aK h2 h3));go_wp2
  go_ret2
  exact⟨.inr ⟨pre,x,rest,HN.1,HN.2.1,HN.2.2,rfl⟩,HB2.v⟩
theorem Hn(b:Nat)(g:Int)(t:Nat->Gp)(w:bD)(h:bP w b t)(hw:wr t g≠0):Calls prog 113 #[ai (bh ⟨b,0,bj⟩),aa az g] w λe w'=>e=bf (bG (wr t g))/\w'=w:=by
 have HT:Hid (bP w b t):=h;have HW:Hid (bG (wr t g)=aq 100 (aa az (wr t g))):=bC hw;go_in
 go_wp2_with fail
 refine sC (jw b g t _ HT.v) ?_;rintro w1 hw1;subst w1;rw[HW.v];go_wp2
 go_ret
 exact⟨by rw[HW.v];rfl,rfl⟩
theorem D9(b:Nat)(t:Nat->Gp)(w:bD)(h:bP w b t)(hh:(t 0).there=true):Calls prog 113 #[ai (bh ⟨b,0,bj⟩),aa az 0] w λe w'=>e=bf (bG 5)/\w'=w:=by
 have HT:Hid (bP w b t/\(t 0).there=true):=⟨h,hh⟩;go_in
 go_wp2_with fail
 refine sC (iE b 0 t _ HT.1 bu HT.2) ?_;rintro w1 hw1;subst w1;go_wp2
 go_ret
 exact⟨rfl,rfl⟩
theorem Ho(b n:Nat)(t:Nat->Gp)(Wy:Nat->List (Fin 10))(w:bD)(h:bP w b t)(hW:fF t Wy)(hS:Small t)(hn:n<10)(hn0:n≠0)(hh:(t n).there=true)(hx:db t Wy n Gp.op 10≠0\/db t Wy n Gp.oq 10≠0):
  Calls prog 113 #[ai (bh ⟨b,0,bj⟩),aa az n] w λe w'=>e=bf (bG 5)/\Below w.heap.size w w':=by
 have H:Hid (bP w b t/\(t n).there=true/\fF t Wy/\Small t):=⟨h,hh,hW,hS⟩;have d0:((n:Int)==0)=false:=by simpa using hn0
 generalize hX:db t Wy n Gp.op 10=X at*;generalize hY:db t Wy n Gp.oq 10=Y at*;have HXY:=hJ (aK hX hY);go_in
 go_wp2_with fail
 refine sC (iE b n t _ H.1 hn H.2.1) ?_;rintro w1 hw1;subst w1;go_wp2_with fail
 refine sC (jO b n t Wy _ H.1 H.2.2.1 H.2.2.2) ?_;rintro w2 hb;have HB:=hJ hb;rw[HXY.1,HXY.2];by_cases h1:X=0
 .have h2:(Y==0)=false:=by have:=hx.resolve_left (λh=>h h1);simpa using this
  subst h1;go_wp2
  go_ret
  exact⟨rfl,HB.v⟩
 .have h2:(X==0)=false:=by simpa using h1
  go_wp2
  go_ret
  exact⟨rfl,HB.v⟩
theorem Hm(b n:Nat)(t:Nat->Gp)(Wy:Nat->List (Fin 10))(w:bD)(h:bP w b t)(hW:fF t Wy)(hS:Small t)(hn:n<10)(hn0:n≠0)(hh:(t n).there=true)(hx:db t Wy n Gp.op 10=0/\db t Wy n Gp.oq 10=0)(ha:oN t n=true):
  Calls prog 113 #[ai (bh ⟨b,0,bj⟩),aa az n] w λe w'=>e=bf (bG 5)/\Below w.heap.size w w':=by
 have H:Hid (bP w b t/\(t n).there=true/\fF t Wy/\Small t):=⟨h,hh,hW,hS⟩;have d0:((n:Int)==0)=false:=by simpa using hn0
 have HXY:=hJ hx;have HA:=hJ ha;go_in
 go_wp2_with fail
 refine sC (iE b n t _ H.1 hn H.2.1) ?_;rintro w1 hw1;subst w1;go_wp2_with fail
 refine sC (jO b n t Wy _ H.1 H.2.2.1 H.2.2.2) ?_;rintro w2 hb;have HB:=hJ hb;rw[HXY.1,HXY.2];go_wp2_with fail
 refine sC (qv b n t _ (H.1.below HB.v H.1.lt)) ?_;rintro w3 hb;have HB3:Hid (Below w.heap.size w w3):=HB.trans (hb.mono HB.size);rw[HA.v];go_wp2
 go_ret
 exact⟨rfl,HB3.v⟩
theorem JV(b n:Nat)(t:Nat->Gp)(Wy:Nat->List (Fin 10))(w:bD)(h:bP w b t)(hW:fF t Wy)(hS:Small t)(hn:n<10)(hn0:n≠0)(hh:(t n).there=true)(hx:db t Wy n Gp.op 10=0/\db t Wy n Gp.oq 10=0)(ha:oN t n=false):
  Calls prog 113 #[ai (bh ⟨b,0,bj⟩),aa az n] w λe w'=>e=bf (bG 0)/\bP w' b (gm t n kS)/\bE b w w':=by
 have H:Hid (bP w b t/\(t n).there=true/\fF t Wy/\Small t):=⟨h,hh,hW,hS⟩;have d0:((n:Int)==0)=false:=by simpa using hn0
 have hnI:(n:Int)<10:=bu
 have HXY:=hJ hx;have HA:=hJ ha;go_in
 go_wp2_with fail
 refine sC (iE b n t _ H.1 hn H.2.1) ?_;rintro w1 hw1;subst w1;go_wp2_with fail
 refine sC (jO b n t Wy _ H.1 H.2.2.1 H.2.2.2) ?_;rintro w2 hb;have HB:=hJ hb;rw[HXY.1,HXY.2];go_wp2_with fail
 refine sC (qv b n t _ (H.1.below HB.v H.1.lt)) ?_;rintro w3 hb;have HB3:Hid (Below w.heap.size w w3):=HB.trans (hb.mono HB.size);rw[HA.v];have T3:=hJ (H.1.below HB3.v H.1.lt);have c0:w3.cell? ⟨b,n*6,bj⟩=bh (ar (t n).there):=T3.cell n 0 hn bu;have c1:w3.cell? ⟨b,n*6+1,bj⟩=bh (aa az (t n).par):=T3.cell n 1 hn bu;have c2:w3.cell? ⟨b,n*6+2,bj⟩=bh (aa az (t n).lp):=T3.cell n 2 hn bu;have c3:w3.cell? ⟨b,n*6+3,bj⟩=bh (aa az (t n).lq):=T3.cell n 3 hn bu;have c4:w3.cell? ⟨b,n*6+4,bj⟩=bh (aa az (t n).op):=T3.cell n 4 hn bu;have c5:w3.cell? ⟨b,n*6+5,bj⟩=bh (aa az (t n).oq):=T3.cell n 5 hn bu;have cf:=T3.frozen;go_wp2
 go_ret
 exact⟨rfl,T3.M7 n hn kS,((((((bE.cC HB3.v).setCell _ _).setCell _ _).setCell _ _).setCell _ _).setCell _ _).setCell _ _⟩
theorem OO(b:Nat)(g:Int)(t:Nat->Gp)(w:bD)(h:bP w b t)(hw:wr t g≠0):Calls prog 111 #[ai (bh ⟨b,0,bj⟩),aa az g] w λe w'=>e=bf (ao #[aa az 0,bG (wr t g)])/\w'=w:=by
 have HT:Hid (bP w b t):=h;have HW:Hid (bG (wr t g)=aq 100 (aa az (wr t g))):=bC hw;go_in
 go_wp2_with fail
 refine sC (jw b g t _ HT.v) ?_;rintro w1 hw1;subst w1;rw[HW.v];go_wp2
 go_ret2
 exact⟨by rw[HW.v];rfl,rfl⟩
theorem vT(b n:Nat)(t:Nat->Gp)(xs:List (Fin 10))(w:bD)(h:bP w b t)(hL:Way t n (jM xs))(hn:n<10)(hh:(t n).there=true)(hd:4<=xs.length)(hd2:xs.length<1000):
  Calls prog 111 #[ai (bh ⟨b,0,bj⟩),aa az n] w λe w'=>e=bf (ao #[aa az 0,bG 7])/\Below w.heap.size w w':=by
 have H:Hid (bP w b t/\Way t n (jM xs)/\(t n).there=true):=⟨h,hL,hh⟩;go_in
 go_wp2_with fail
 refine sC (iE b n t _ H.1 hn H.2.2) ?_;rintro w1 hw1;subst w1;go_wp2_with fail
 refine sC (oz b n t xs _ H.1 H.2.1 hd2) ?_;rintro w2 hb;have HB:=hJ hb;have hdI:(4:Int)<=(xs.length:Int):=bu
 go_wp2
 go_ret2
 exact⟨rfl,HB.v⟩
theorem vU(b p:Nat)(t:Nat->Gp)(xs:List (Fin 10))(w:bD)(h:bP w b t)(hL:Way t p (jM xs))(hp:p<10)(hh:(t p).there=true)(hd:xs.length<4):
  Calls prog 111 #[ai (bh ⟨b,0,bj⟩),aa az p] w λe w'=>
   (∃n:Nat,n<10/\(t n).there=false/\(∀k,k<n->(t k).there=true)/\e=bf (ao #[aa az n,bG 0])/\bP w' b (gm t n (mS p))/\bE b w w')\/
   ((∀k,k<10->(t k).there=true)/\e=bf (ao #[aa az 0,bG 4])/\Below w.heap.size w w'):=by
 have H:Hid (bP w b t/\Way t p (jM xs)/\(t p).there=true):=⟨h,hL,hh⟩;go_in
 go_wp2_with fail
 refine sC (iE b p t _ H.1 hp H.2.2) ?_;rintro w1 hw1;subst w1;go_wp2_with fail
 refine sC (oz b p t xs _ H.1 H.2.1 bu) ?_;rintro w2 hb;have HB:=hJ hb;have hdI:¬(4:Int)<=(xs.length:Int):=bu
 go_wp2_with fail
 go_loopw [19] (λi wr=>∃(k:Nat),i=aa az k/\k<=10/\Hid ((∀j,j<k->(t j).there=true)/\Below w.heap.size w wr)) (λi _=>10-(intOf i).toNat)
 case atStart=>exact⟨0,rfl,bu,⟨λj hj=>bu,HB.v⟩⟩
 case round=>
  obtain⟨k,rfl,hk,HR⟩:=hrel;by_cases hlt:k<10
  .have hltI:(k:Int)<10:=bu
   have T1:=hJ (H.1.below HR.2 H.1.lt);have c0:wr.cell? ⟨b,k*6,bj⟩=bh (ar (t k).there):=T1.cell k 0 hlt bu;cases hth:(t k).there
   .have HTH:=hJ hth;rw[hth]at c0;go_wp2_with fail
    go_region_held3 (λ_=>True) (trivial) ((go_at_call 162;refine sC (ue _ _) ?_;rintro w3 hb3;have T2:bP w3 b t:=T1.drew.below hb3 T1.lt;have c0:w3.cell? ⟨b,k*6,bj⟩=bh (ar (t k).there):=T2.cell k 0 hlt bu;have c1:=T2.cell k 1 hlt bu;have c2:=T2.cell k 2 hlt bu;have c3:=T2.cell k 3 hlt bu;have c4:=T2.cell k 4 hlt bu;have c5:=T2.cell k 5 hlt bu;have cf:=T2.frozen))
    have HT2:Hid (bP w3 b t):=T2;have HB2:Hid (Below w.heap.size w w3):=HR.2.trans ((aQ _ wr).drew.trans (hb3.mono (by have:=HR.2.size;exact this)));go_wp2
    go_ret2
    exact .inl ⟨k,hlt,HTH.v,HR.1,rfl,HT2.M7 k hlt (mS p),((((((bE.cC HB2.v).setCell _ _).setCell _ _).setCell _ _).setCell _ _).setCell _ _).setCell _ _⟩
   .have HTH:=hJ hth;rw[hth]at c0;go_wp2
    go_roundw
    case rel=>exact⟨k+1,by go_num,bu,⟨λj hj=>(Nat.lt_or_ge j k).elim (HR.1 j) (λhge=>by rw[show j=k by omega];exact HTH.v),HR.2⟩⟩
    case measure=>simp[intOf];omega
  .have hk10:k=10:=bu
   subst hk10;go_wp2
   go_ret2
   exact .inr ⟨HR.1,rfl,HR.2⟩
structure Tree (t:Nat->Gp)(Wy:Nat->List (Fin 10))(c:Nat):Prop where
 ways:fF t Wy
 deep:∀k,k<10->(Wy k).length<=4
 root:(t 0).there=true/\(t 0).par= -1
 par:∀k,k<10->(t k).there=true->k≠0->∃m:Nat,(t k).par=m/\m<10/\(t m).there=true
 own:∀k,k<10->(0<=(t k).op/\(t k).op<=64*c)/\(0<=(t k).oq/\(t k).oq<=64*c)
section
variable {t:Nat->Gp}{Wy:Nat->List (Fin 10)}{c:Nat}
theorem Tree.small(h:Tree t Wy c)(hc:c<=1000):Small t:=λk hk=>by have:=h.own k hk;omega
theorem Tree.mono(h:Tree t Wy c){c':Nat}(hc:c<=c'):Tree t Wy c':=⟨h.ways,h.deep,h.root,h.par,λk hk=>by have:=h.own k hk;omega⟩
theorem zw(h:fF t Wy){k:Nat}(hk:k<10)(hh:(t k).there=false):Wy k=[]:=by
 have:=h k hk;cases hw:Wy k with
 |nil=>rfl
 |cons x r=>
  rw[hw]at this;obtain⟨e,_,h3,_⟩:=this;have:k=x.val:=by exact Int.ofNat_inj.1 e
  rw[<-this,hh]at h3;cases h3
theorem Dr(h:fF t Wy){k:Nat}(hk:k<10)(hh:(t k).there=true):∃r,Wy k=⟨k,hk⟩::r/\Way t (t k).par (jM r):=by
 have:=h k hk;cases hw:Wy k with
 |nil=>
  rw[hw]at this;exact aZ ⟨by omega,bu,hh⟩ this
 |cons x r=>
  rw[hw]at this;obtain⟨e,_,_,h4⟩:=this;have e2:k=x.val:=by exact Int.ofNat_inj.1 e
  subst e2;exact⟨r,rfl,h4⟩
theorem Ub(h:Tree t Wy c):Wy 0=[⟨0,bu⟩]:=by
 obtain⟨r,hr,hw⟩:=Dr h.ways (show 0<10 by omega) h.root.1;rw[h.root.2]at hw;cases r with
 |nil=>exact hr
 |cons x r=>obtain⟨e,_⟩:=hw;omega
theorem uN:∀{g:Int} {L:List Nat},Way t g L->∀x∈L,x<10/\(t x).there=true
 |_,[],_,x,hx=>by simp at hx
 |_,y::L,⟨_,h2,h3,h4⟩,x,hx=>by
  rcases List.mem_cons.1 hx with e|e
  .subst e;exact⟨h2,h3⟩
  .exact uN h4 x e
end
section
variable {t:Nat->Gp}{Wy:Nat->List (Fin 10)}{c:Nat}
def t0:Nat->Gp:=gm (λ_=>kS) 0 (mS (-1))
def W0:Nat->List (Fin 10):=λk=>if k=0 then[⟨0,bu⟩]else[]
theorem ym:Tree t0 W0 0:=by
 have hn:∀k,k≠0->t0 k=kS:=λk hk=>fO _ _ _ _ hk;have h0:t0 0=mS (-1):=fa _ _ _;refine⟨λk hk=>?_,λk hk=>?_,⟨by rw[h0];rfl,by rw[h0];rfl⟩,λk hk hh hne=>?_,λk hk=>?_⟩
 .by_cases e:k=0
  .subst e;exact⟨rfl,by decide,by show(t0 0).there=true;rw[h0];rfl,by show¬valid t0 (t0 0).par;rw[h0];rintro⟨a,_⟩;exact aZ a bA⟩
  .have:W0 k=[]:=aI e;rw[this];rintro⟨_,_,h⟩;rw[hZ,hn k e]at h;cases h
 .unfold W0;split<;>simp
 .rw[hn k hne]at hh;cases hh
 .by_cases e:k=0
  .subst e;rw[h0];simp[mS]
  .rw[hn k e];simp[kS]
theorem Tree.Oq(h:Tree t Wy c){t':Nat->Gp}{c':Nat}(hs:∀k,(t' k).there=(t k).there/\(t' k).par=(t k).par)(ho:∀k,k<10->(0<=(t' k).op/\(t' k).op<=64*c')/\(0<=(t' k).oq/\(t' k).oq<=64*c')):Tree t' Wy c':=
 ⟨h.ways.same hs,h.deep,⟨by rw[(hs 0).1];exact h.root.1,by rw[(hs 0).2];exact h.root.2⟩,λk hk hh hne=>by
  rw[(hs k).1]at hh;obtain⟨m,e,hm,hhm⟩:=h.par k hk hh hne;exact⟨m,by rw[(hs k).2];exact e,hm,by rw[(hs m).1];exact hhm⟩,ho⟩
theorem Tree.np(h:Tree t Wy c){n:Nat}{p q:Int}{c':Nat}(hc:c<=c')(hp:0<=(t n).op+p/\(t n).op+p<=64*c')(hq:0<=(t n).oq+q/\(t n).oq+q<=64*c'):Tree (np t n p q) Wy c':=by
 refine h.Oq (zF t n p q) λk hk=>?_;by_cases e:k=n
 .subst e;rw[show YtpmmdkcfenjiaaaGreatDoor.Gr.np t k p q k=_ from fa _ _ _];exact⟨hp,hq⟩
 .rw[show YtpmmdkcfenjiaaaGreatDoor.Gr.np t n p q k=_ from fO _ _ _ _ e];have:=h.own k hk;omega
theorem Mm(t:Nat->Gp)(n:Nat)(p q:Int)(k:Nat):(gm t n {t n with lp:=p,lq:=q} k).there=(t k).there/\(gm t n {t n with lp:=p,lq:=q} k).par=(t k).par:=by
 by_cases e:k=n
 .subst e;rw[fa];exact⟨rfl,rfl⟩
 .rw[fO _ _ _ _ e];exact⟨rfl,rfl⟩
theorem Tree.Sw(h:Tree t Wy c){n:Nat}{p q:Int}:Tree (gm t n {t n with lp:=p,lq:=q}) Wy c:=by
 refine h.Oq (Mm t n p q) λk hk=>?_;by_cases e:k=n
 .subst e;rw[fa];exact h.own k hk
 .rw[fO _ _ _ _ e];exact h.own k hk
def Ga(Wy:Nat->List (Fin 10))(n:Nat)(hn:n<10)(p:Nat):Nat->List (Fin 10):=λk=>if k=n then⟨n,hn⟩::Wy p else Wy k
def Hl(Wy:Nat->List (Fin 10))(n:Nat):Nat->List (Fin 10):=λk=>if k=n then[]else Wy k
theorem Ds{t':Nat->Gp}:∀{g:Int} {L:List Nat},Way t g L->(∀x∈L,t' x=t x)->(∀x∈L,∀g:Int,(t x).par=g->¬valid t g->¬valid t' g)->(¬valid t g->¬valid t' g)->Way t' g L
 |_,[],h,_,_,hg=>hg h
 |_,x::L,⟨e,h2,h3,h4⟩,he,hp,_=>by
  have ex:=he x (by simp);refine⟨e,h2,by rw[ex];exact h3,?_⟩;rw[ex];exact Ds h4 (λy hy=>he y (by simp[hy])) (λy hy=>hp y (by simp[hy])) (hp x (by simp) _ rfl)
theorem qi(h:Tree t Wy c){t':Nat->Gp}{k:Nat}(hk:k<10)(hh:(t k).there=true)(he:∀x∈Wy k,t' x.val=t x.val):Way t' k (jM (Wy k)):=by
 refine Ds (h.ways k hk) (λx hx=>?_) (λx hx g hg hv=>?_) (λhv=>aZ ⟨by omega,bu,hh⟩ hv)
 .obtain⟨y,hy,rfl⟩:=List.mem_map.1 hx;exact he y hy
 .obtain⟨hx10,hxh⟩:=uN (h.ways k hk) x hx;by_cases e:x=0
  .subst e;rw[h.root.2]at hg;rintro⟨a,_⟩;omega
  .obtain⟨m,em,hm,hmh⟩:=h.par x hx10 hxh e;exact aZ ⟨by omega,bu,by rw[show g.toNat=m by omega];exact hmh⟩ hv
theorem Tree.add(h:Tree t Wy c){n p:Nat}(hn:n<10)(hf:(t n).there=false)(hp:p<10)(hh:(t p).there=true)(hd:(Wy p).length<4):Tree (gm t n (mS p)) (Ga Wy n hn p) c:=by
 have hnp:p≠n:=λe=>by rw[e,hf]at hh;cases hh
 have hn0:n≠0:=λe=>by have:=h.root.1;rw[<-e,hf]at this;cases this
 have key:∀k,k<10->(t k).there=true->∀x∈Wy k,gm t n (mS p) x.val=t x.val:=λk hk hkh x hx=>by
  refine fO _ _ _ _ λe=>?_;have:=(uN (h.ways k hk) x.val (List.mem_map.2 ⟨x,hx,rfl⟩)).2;rw[e,hf]at this;cases this
 refine⟨λk hk=>?_,λk hk=>?_,?_,λk hk hkh hk0=>?_,λk hk=>?_⟩
 .by_cases e:k=n
  .subst e;have ew:Ga Wy k hn p k=⟨k,hn⟩::Wy p:=aJ rfl;rw[ew];refine⟨rfl,hn,by rw[fa];rfl,?_⟩;rw[fa];exact qi h hp hh (key p hp hh)
  .have ew:Ga Wy n hn p k=Wy k:=aI e;rw[ew];by_cases hkh:(t k).there=true
   .exact qi h hk hkh (key k hk hkh)
   .have hkf:(t k).there=false:=by simpa using hkh
    rw[zw h.ways hk hkf];rintro⟨_,_,hv⟩;rw[hZ,fO _ _ _ _ e,hkf]at hv;cases hv
 .unfold Ga;split
  .simp only[List.length_cons];omega
  .exact h.deep k hk
 .rw[fO _ _ _ _ (bQ hn0)];exact h.root
 .by_cases e:k=n
  .subst e;refine⟨p,by rw[fa];rfl,hp,by rw[fO _ _ _ _ hnp];exact hh⟩
  .rw[fO _ _ _ _ e]at hkh|-;obtain⟨m,em,hm,hmh⟩:=h.par k hk hkh hk0;refine⟨m,em,hm,?_⟩;by_cases e2:m=n
   .rw[e2,fa];rfl
   .rw[fO _ _ _ _ e2];exact hmh
 .by_cases e:k=n
  .subst e;rw[fa];simp[mS];omega
  .rw[fO _ _ _ _ e];exact h.own k hk
theorem Ap:∀{g:Int} {x:Nat} {L:List Nat} {n:Nat},Way t g (x::L)->n∈L->∃j,j<10/\(t j).there=true/\(t j).par=n
 |_,_,[],_,_,h=>by simp at h
 |_,x,y::L,n,⟨_,h2,h3,h4⟩,h=>by
  rcases List.mem_cons.1 h with e|e
  .subst e;exact⟨x,h2,h3,h4.1⟩
  .exact Ap h4 e
theorem El{n:Nat}(ha:oN t n=false){k:Nat}(hk:k<10)(hh:(t k).there=true):(t k).par≠n:=λe=>by
 rw[zE hk hh e]at ha;cases ha
theorem Tree.Qa(h:Tree t Wy c){n:Nat}(ha:oN t n=false){k:Nat}(hk:k<10)(hkn:k≠n):∀x∈Wy k,x.val≠n:=λx hx e=>by
 by_cases hh:(t k).there=true
 .obtain⟨r,hr,hw⟩:=Dr h.ways hk hh;have hW:=h.ways k hk;rw[hr]at hx hW;rcases List.mem_cons.1 hx with e2|e2
  .rw[e2]at e;exact hkn e
  .obtain⟨j,hj,hjh,hjp⟩:=Ap (n:=n) hW (List.mem_map.2 ⟨x,e2,e⟩);exact El ha hj hjh hjp
 .have hf:(t k).there=false:=by simpa using hh
  rw[zw h.ways hk hf]at hx;simp at hx
theorem Tree.rem(h:Tree t Wy c){n:Nat}(hn0:n≠0)(ha:oN t n=false):Tree (gm t n kS) (Hl Wy n) c:=by
 refine⟨λk hk=>?_,λk hk=>?_,?_,λk hk hkh hk0=>?_,λk hk=>?_⟩
 .by_cases e:k=n
  .subst e;have ew:Hl Wy k k=[]:=aJ rfl;rw[ew];rintro⟨_,_,hv⟩;rw[hZ,fa]at hv;cases hv
  .have ew:Hl Wy n k=Wy k:=aI e;rw[ew];by_cases hkh:(t k).there=true
   .exact qi h hk hkh λx hx=>fO _ _ _ _ (h.Qa ha hk e x hx)
   .have hkf:(t k).there=false:=by simpa using hkh
    rw[zw h.ways hk hkf];rintro⟨_,_,hv⟩;rw[hZ,fO _ _ _ _ e,hkf]at hv;cases hv
 .unfold Hl;split
  .simp
  .exact h.deep k hk
 .rw[fO _ _ _ _ (bQ hn0)];exact h.root
 .by_cases e:k=n
  .subst e;rw[fa]at hkh;cases hkh
  .rw[fO _ _ _ _ e]at hkh|-;obtain⟨m,em,hm,hmh⟩:=h.par k hk hkh hk0;have hmn:m≠n:=λe2=>El ha hk hkh (by rw[em,e2]);exact⟨m,em,hm,by rw[fO _ _ _ _ hmn];exact hmh⟩
 .by_cases e:k=n
  .subst e;rw[fa];simp[kS];omega
  .rw[fO _ _ _ _ e];exact h.own k hk
end
end Go.Proofs.YtpmmdkcfenjiaaaGreatDoor.Gr

import Derived.Test.YtpmmdkcfenjiaaaGreatDoorVaw
import Derived.Test.YtpmmdkcfenjiaaaGreatDoorVag
import Derived.Test.YtpmmdkcfenjiaaaGreatDoorVai
import Derived.Test.YtpmmdkcfenjiaaaGreatDoorVam
import Derived.Test.YtpmmdkcfenjiaaaGreatDoorVat
import Derived.Test.YtpmmdkcfenjiaaaGreatDoorVac
set_option maxRecDepth 100000
set_option maxHeartbeats 4000000
namespace Go.Proofs.YtpmmdkcfenjiaaaGreatDoor
open Go.RowKit
open Tr (Fo Nd)
open Mo (Wh Mt Tb)
def vX (w:bD)(c:Nat)(x y:Wh):Prop:=w.heap[c]? =some (.cells #[.int .i64 x.1, .int .i64 x.2, .int .i64 y.1, .int .i64 y.2] 224 (0,0))
theorem vX.lt {w:bD}{c:Nat}{x y:Wh}(h:vX w c x y):c<w.heap.size:=(aX.1 h).1
theorem vX.below {w w':bD}{c:Nat}{x y:Wh}(h:vX w c x y)(k:Below w.heap.size w w'):vX w' c x y:=(k.block c h.lt).trans h
def Nw (w:bD)(v v':Value):Prop:=v'.ownBlock=v.ownBlock\/ ∀g,v'.ownBlock=some g->w.heap.size<=g
theorem JX (base b f K:Nat)(T:Mo.Tb)(v:Value)(F:Fo)(x y:Wh)(w:bD)(h:bd w base b f T v)(hF:ar w f F)(hb:Tr.Hb F K)(hK:K<800)(hbs:base<=w.heap.size):
  Calls Tryz.prog 211 #[.pointer (some ⟨b,0,none⟩), .agg #[.int .i64 x.1, .int .i64 x.2], .agg #[.int .i64 y.1, .int .i64 y.2]] w fun e w'=> ∃v',e= .returned (aq (Mo.jV F T x y))/\bd w' base b f (Mo.xA F T x y) v'/\ar w' f (Mo.xG F T x y)/\dq (BV b f v) w w'/\Nw w v v':=by
 have HT:=hZ (aK h hF);have HB:=hZ (aK hb hbs);clear h hF hb hbs;obtain⟨i0,z0,hi0,hz0,hz1,hz2,hz3⟩:=Bx;have B2:Hid (WB ((w.alloc (.cells #[.int .i64 x.1, .int .i64 x.2] 224)).alloc (.cells #[.int .i64 y.1, .int .i64 y.2] 224)) w.heap.size x/\WB ((w.alloc (.cells #[.int .i64 x.1, .int .i64 x.2] 224)).alloc (.cells #[.int .i64 y.1, .int .i64 y.2] 224)) (w.heap.size+1) y/\Below w.heap.size w ((w.alloc (.cells #[.int .i64 x.1, .int .i64 x.2] 224)).alloc (.cells #[.int .i64 y.1, .int .i64 y.2] 224))):=hZ (by
  refine⟨?_,?_,((aQ _ w).alloc (aL _) _).alloc (by simp) _⟩
  ·show((w.heap.push _).push _)[w.heap.size]? =_;simp only[bJ,Array.size_push];rw[aI (by omega),aJ trivial]
  ·show((w.heap.push _).push _)[w.heap.size+1]? =_;simp only[bJ,Array.size_push];rw[aJ trivial])
 go_in
 go_upto_region 1 with fail
 refine bw (fun W'=>WB W' w.heap.size x/\WB W' (w.heap.size+1) y/\Below w.heap.size w W') B2.out ?_;intro W1 h1;obtain⟨bx,hbx⟩:=nJ (w.heap.size);have HBX:=hZ hbx;have LE:Hid (∀W,Below bx w W->bx<=W.heap.size/\bd W base b f T v/\ar W f F):=hZ (fun W h=>by
  have e:=h.size;subst hbx;exact⟨e,HT.out.1.below h,HT.out.2.below h⟩)
 rw[hbx]at h1|-;have S1:=hZ h1;clear h1 B2 hbx;have x0:=S1.out.1.c0;have x1:=S1.out.1.c1;have y0:=S1.out.2.1.c0;have y1:=S1.out.2.1.c1;have A2:Hid (WB (W1.alloc (.cells #[.int .i64 x.1, .int .i64 x.2, .int .i64 y.1, .int .i64 y.2] 224)) bx x/\WB (W1.alloc (.cells #[.int .i64 x.1, .int .i64 x.2, .int .i64 y.1, .int .i64 y.2] 224)) (bx+1) y/\vX (W1.alloc (.cells #[.int .i64 x.1, .int .i64 x.2, .int .i64 y.1, .int .i64 y.2] 224)) W1.heap.size x y/\Below bx w (W1.alloc (.cells #[.int .i64 x.1, .int .i64 x.2, .int .i64 y.1, .int .i64 y.2] 224))):=hZ (by
  have bb:Below W1.heap.size W1 (W1.alloc (.cells #[.int .i64 x.1, .int .i64 x.2, .int .i64 y.1, .int .i64 y.2] 224)):=(aQ _ _).alloc (aL _) _;exact⟨S1.out.1.below bb,S1.out.2.1.below bb,heap_alloc_new W1 _,S1.out.2.2.trans (bb.mono (LE.out _ S1.out.2.2).1)⟩)
 go_wp2_with fail
 generalize W1.alloc (.cells #[.int .i64 x.1, .int .i64 x.2, .int .i64 y.1, .int .i64 y.2] 224)=W2 at*;generalize W1.heap.size=sx at*;clear x0 x1 y0 y1 S1;go_loopw [8,9,15] (fun _ _ i wr=> ∃j:Nat,i= .int .i64 j/\j<=2/\Hid (WB wr bx x/\WB wr (bx+1) y/\vX wr sx x y/\Below bx w wr/\(0<j->Mo.gy F x=0)/\(1<j->Mo.gy F y=0))) (fun _ _ i _=>2-(intOf i).toNat)
 case atStart=>exact⟨0,rfl,by omega,hZ ⟨A2.out.1,A2.out.2.1,A2.out.2.2.1,A2.out.2.2.2,fun h=>aZ h (by omega),fun h=>aZ h (by omega)⟩⟩
 case round=>
  clear A2;obtain⟨j,rfl,hj,S⟩:=hrel;by_cases hlt:j<2
  ·have hltI:(j:Int)<2:=by omega
   have STEP:Hid (∀q:Wh,(j=0->q=x)->(j=1->q=y)->True):=hZ (fun _ _ _=>trivial);obtain⟨q,hq0,hq1,cq0,cq1⟩: ∃q:Wh,(j=0->q=x)/\(j=1->q=y)/\wr.cell? ⟨sx,j*2,none⟩=some (.int .i64 q.1)/\wr.cell? ⟨sx,j*2+1,none⟩=some (.int .i64 q.2):=by
    have p:=S.out.2.2.1;rcases(show j=0\/j=1 by omega)with rfl|rfl
    ·exact⟨x,fun _=>rfl,fun h=>by omega,bA p 0 _ rfl,bA p 1 _ rfl⟩
    ·exact⟨y,fun h=>by omega,fun _=>rfl,bA p 2 _ rfl,bA p 3 _ rfl⟩
   have HQ:=hZ (aK hq0 hq1);clear hq0 hq1 STEP;go_upto_region 4 with fail
   refine bw (fun W'=>WB W' wr.heap.size q/\Below wr.heap.size wr W') ⟨heap_alloc_new wr _,(aQ _ _).alloc (aL _) _⟩ ?_;rintro W3 ⟨q3,b3⟩;have S3:Hid (WB W3 bx x/\WB W3 (bx+1) y/\vX W3 sx x y/\Below bx w W3):=hZ ⟨S.out.1.below b3,S.out.2.1.below b3,S.out.2.2.1.below b3,S.out.2.2.2.1.trans (b3.mono (LE.out _ S.out.2.2.2.1).1)⟩;have n0:=q3.c0;have n1:=q3.c1;clear q3 b3 cq0 cq1;generalize wr.heap.size=qx at*;go_wp2_with fail
   refine(Hk base b f T v F q _ (LE.out _ S3.out.2.2.2).2.1 (LE.out _ S3.out.2.2.2).2.2).mono ?_;rintro e W4 ⟨rfl,b4⟩;have S4:Hid (WB W4 bx x/\WB W4 (bx+1) y/\vX W4 sx x y/\Below bx w W4):=hZ ⟨S3.out.1.below b4,S3.out.2.1.below b4,S3.out.2.2.1.below b4,S3.out.2.2.2.trans (b4.mono (LE.out _ S3.out.2.2.2).1)⟩;clear b4 n0 n1 S3;by_cases e0:Mo.gy F q=0
   ·have NX:Hid ((0<j+1->Mo.gy F x=0)/\(1<j+1->Mo.gy F y=0)):=hZ (by
     rcases(show j=0\/j=1 by omega)with rfl|rfl
     ·exact⟨fun _=>by rw[<-HQ.out.1 rfl];exact e0,fun h=>by omega⟩
     ·exact⟨fun _=>S.out.2.2.2.2.1 (by omega),fun _=>by rw[<-HQ.out.2 rfl];exact e0⟩)
    rw[e0,aa];clear e0;go_wp2
    go_roundw
    case rel=>exact⟨j+1,by go_num,by omega,hZ ⟨S4.out.1,S4.out.2.1,S4.out.2.2.1,S4.out.2.2.2,NX.out⟩⟩
    case measure=>simp[intOf];omega
   ·have FIN:Hid (Mo.jV F T x y=Mo.gy F q/\aq (Mo.gy F q)= .iface 100 (.int .i64 (Mo.gy F q))/\Mo.xA F T x y=T/\Mo.xG F T x y=F):=hZ (by
     have e:Mo.jV F T x y=Mo.gy F q:=by
      unfold Mo.jV;rcases(show j=0\/j=1 by omega)with rfl|rfl
      ·rw[<-HQ.out.1 rfl,aJ e0]
      ·rw[S.out.2.2.2.2.1 (by omega),aI (fun d=>d rfl),<-HQ.out.2 rfl,aJ e0]
     exact⟨e,aj e0,aI (by rw[e];exact e0),aI (by rw[e];exact e0)⟩)
    rw[FIN.out.2.1];clear e0;go_wp2
    go_ret
    rw[FIN.out.1,FIN.out.2.1,FIN.out.2.2.1,FIN.out.2.2.2];exact⟨v,rfl,(LE.out _ S4.out.2.2.2).2.1,(LE.out _ S4.out.2.2.2).2.2,dq.bB (by rw[HBX.out];exact S4.out.2.2.2), .inl rfl⟩
  ·have hltI: ¬(j:Int)<2:=by omega
   have WX:Hid (Mo.gy F x=0/\Mo.gy F y=0):=hZ ⟨S.out.2.2.2.2.1 (by omega),S.out.2.2.2.2.2 (by omega)⟩;have x0:=S.out.1.c0;have x1:=S.out.1.c1;have y0:=S.out.2.1.c0;have y1:=S.out.2.1.c1;have DONE:Hid (∀E:Int,Mo.jV F T x y=E->E≠0->Mo.xA F T x y=T/\Mo.xG F T x y=F):=hZ (fun E e n=>⟨aI (by rw[e];exact n),aI (by rw[e];exact n)⟩);have BE:Hid (Mo.jV F T x y=if x=y then 8 else if(Mo.lk T.ms x).isSome=true then 3 else if T.ms.length=6 then 4 else 0):=hZ (by unfold Mo.jV;rw[WX.out.1,WX.out.2];simp);by_cases exy:x=y
   ·have E8:Hid (Mo.jV F T x y=8):=hZ (by rw[BE.out,aJ exy]);have D8:=hZ (DONE.out 8 E8.out (by decide));have y0':wr.cell? ⟨bx+1,0,none⟩=some (.int .i64 x.1):=by rw[exy];exact y0
    have y1':wr.cell? ⟨bx+1,1,none⟩=some (.int .i64 x.2):=by rw[exy];exact y1
    clear y0 y1 exy;go_wp2
    go_ret
    rw[E8.out,D8.out.1,D8.out.2];exact⟨rfl,v,(LE.out _ S.out.2.2.2.1).2.1,(LE.out _ S.out.2.2.2.1).2.2,dq.bB (by rw[HBX.out];exact S.out.2.2.2.1), .inl rfl⟩
   ·rw[aI exy]at BE;go_upto_region 8 with fail
    go_cut [26]from 27 to 29 (fun s wx=>s= .bool false/\wx=wr)
    case first=>
     by_cases e1:x.1=y.1
     ·have e2: ¬x.2=y.2:=fun e2=>exy (Prod.ext e1 e2);have e2':(x.2==y.2)=false:=by simpa using e2
      have y0':wr.cell? ⟨bx+1,0,none⟩=some (.int .i64 x.1):=by rw[e1];exact y0
      clear y0 e1;go_wp2
      go_meet
      case rel=>exact⟨rfl,rfl⟩
     ·have e1':(x.1==y.1)=false:=by simpa using e1
      go_wp2
      go_meet
      case rel=>exact⟨rfl,rfl⟩
    case rest=>
     obtain⟨rfl,hwc⟩:=hcut;subst hwc;clear y0 y1 exy;go_wp2_with fail
     refine(p8 base b f T v x _ (LE.out _ S.out.2.2.2.1).2.1).mono ?_;rintro e W3 ⟨z,rfl,hz,b3⟩;have S3:Hid (WB W3 bx x/\WB W3 (bx+1) y/\Below bx w W3):=hZ ⟨S.out.1.below b3,S.out.2.1.below b3,S.out.2.2.2.1.trans (b3.mono (LE.out _ S.out.2.2.2.1).1)⟩;clear b3 x0 x1 S;rcases hz.find with⟨i,rfl,il,m,hm,hl⟩|⟨rfl,hl⟩
     ·have E3:Hid (Mo.jV F T x y=3):=hZ (by rw[BE.out,hl];rfl);have D3:=hZ (DONE.out 3 E3.out (by decide));have i0:(0:Int)<=(i:Int):=by omega
      clear hz hl hm il;go_wp2
      go_ret
      rw[E3.out,D3.out.1,D3.out.2]
      first
       |exact⟨v,rfl,(LE.out _ S3.out.2.2).2.1,(LE.out _ S3.out.2.2).2.2,dq.bB (by rw[HBX.out];exact S3.out.2.2), .inl rfl⟩
       |exact⟨rfl,v,(LE.out _ S3.out.2.2).2.1,(LE.out _ S3.out.2.2).2.2,dq.bB (by rw[HBX.out];exact S3.out.2.2), .inl rfl⟩
     ·rw[hl,Option.isSome_none,aI (by decide)]at BE;clear hz hl;have T3:=hZ (LE.out _ S3.out.2.2).2;obtain⟨va,vc,hv⟩:=T3.out.1.row.sl;have HV:=hZ hv;have c3:=T3.out.1.c3;rw[hv]at c3;obtain⟨N,hN⟩:=nJ (T.ms.length);have HN:=hZ hN;have N6:N<=6:=by have:=T3.out.1.qB;omega
      rw[hN]at c3 BE;clear hv hN;by_cases n6:N=6
      ·have E4:Hid (Mo.jV F T x y=4):=hZ (by rw[BE.out,aJ n6]);have D4:=hZ (DONE.out 4 E4.out (by decide));have n6':((N:Int)==6)=true:=by simp;omega
       clear n6;go_wp2
       go_ret
       rw[E4.out,D4.out.1,D4.out.2]
       first
        |exact⟨v,rfl,T3.out.1,T3.out.2,dq.bB (by rw[HBX.out];exact S3.out.2.2), .inl rfl⟩
        |exact⟨rfl,v,T3.out.1,T3.out.2,dq.bB (by rw[HBX.out];exact S3.out.2.2), .inl rfl⟩
      ·have E0:Hid (Mo.jV F T x y=0/\Mo.xA F T x y=⟨T.rt,T.ms++[(x,y)]⟩/\Mo.xG F T x y=Mo.lH F (x,y)):=hZ (by
        have e:Mo.jV F T x y=0:=by rw[BE.out,aI n6]
        exact⟨e,aJ e,aJ e⟩)
       have n6':((N:Int)==6)=false:=by simp;omega
       have N5:N<=5:=by omega
       have x0:=S3.out.1.c0;have x1:=S3.out.1.c1;have y0:=S3.out.2.1.c0;have y1:=S3.out.2.1.c1;clear n6 BE DONE;go_upto_region 15 with fail
       refine bw (fun W'=>MB W' W3.heap.size (x,y)/\Below W3.heap.size W3 W') ⟨heap_alloc_new W3 _,(aQ _ _).alloc (aL _) _⟩ ?_;rintro W4 ⟨m4,b4⟩;have S4:Hid (MB W4 W3.heap.size (x,y)/\Below bx w W4/\bd W4 base b f T v/\ar W4 f F):=hZ (by
        have bb:=S3.out.2.2.trans (b4.mono (LE.out _ S3.out.2.2).1);exact⟨m4,bb,(LE.out _ bb).2⟩)
       have GL:Hid ((∀g,v.ownBlock=some g->g<W3.heap.size)/\W3.heap.size<W4.heap.size):=hZ ⟨fun g e=>(T3.out.1.row.lt g e).2,m4.lt⟩;clear m4 b4 c3 x0 x1 y0 y1 T3 S3;generalize W3.heap.size=mx at*;have m0:W4.cell? ⟨mx,0,none⟩=some (.int .i64 x.1):=S4.out.1.c0;have m1:W4.cell? ⟨mx,1,none⟩=some (.int .i64 x.2):=S4.out.1.c1;have m2:W4.cell? ⟨mx,2,none⟩=some (.int .i64 y.1):=S4.out.1.c2;have m3:W4.cell? ⟨mx,3,none⟩=some (.int .i64 y.2):=S4.out.1.c3;have c3:=S4.out.2.2.1.c3;rw[HV.out,HN.out]at c3;have lb:=S4.out.2.2.1.lt;have nbb:b≠W4.heap.size:=by omega
       have OWN:Hid ((W4.alloc (.cells #[.int .i64 x.1, .int .i64 x.2, .int .i64 y.1, .int .i64 y.2] 273)).drew.ownsRow base 273 4 (.slice va N vc) N (Mo.eN T.ms)):=hZ (by
        have r:=S4.out.2.2.1.row;unfold eF at r;rw[HV.out,HN.out]at r;exact r.alloc _)
       have NEWS:Hid (∀j u,[Value.int .i64 x.1, .int .i64 x.2, .int .i64 y.1, .int .i64 y.2][j]? =some u->(W4.alloc (.cells #[.int .i64 x.1, .int .i64 x.2, .int .i64 y.1, .int .i64 y.2] 273)).drew.cell? ((⟨W4.heap.size,0,none⟩:Addr).add j)=some u):=hZ (World.news_of_block (w:=(W4.alloc (.cells #[.int .i64 x.1, .int .i64 x.2, .int .i64 y.1, .int .i64 y.2] 273)).drew) (heap_alloc_new W4 (.cells #[.int .i64 x.1, .int .i64 x.2, .int .i64 y.1, .int .i64 y.2] 273)));have BASE:Hid (base<=W4.heap.size):=hZ (by have h1:=(LE.out _ S4.out.2.1).1;have h2:=HB.out.2;have h3:=HBX.out;omega);have AFT:Hid (∀g2 cap2 W5,W5.ownsRow base 273 4 (.slice (some ⟨g2,0,none⟩) (N+1) cap2) (N+1) (Mo.eN T.ms++[Value.int .i64 x.1, .int .i64 x.2, .int .i64 y.1, .int .i64 y.2])->(W4.alloc (.cells #[.int .i64 x.1, .int .i64 x.2, .int .i64 y.1, .int .i64 y.2] 273)).drew.grownBy W5 (Value.slice va N vc).ownBlock->((Value.slice va N vc).ownBlock=some g2\/g2=W4.heap.size+1)->
         W5.cell? ⟨b,3,none⟩=some (.slice va N vc)/\W5.frozen? ⟨b,3,none⟩=false/\MB (W5.setCell ⟨b,3,none⟩ (.slice (some ⟨g2,0,none⟩) (N+1) cap2)) mx (x,y)/\bd (W5.setCell ⟨b,3,none⟩ (.slice (some ⟨g2,0,none⟩) (N+1) cap2)) base b f ⟨T.rt,T.ms++[(x,y)]⟩ (.slice (some ⟨g2,0,none⟩) (N+1) cap2)/\ar (W5.setCell ⟨b,3,none⟩ (.slice (some ⟨g2,0,none⟩) (N+1) cap2)) f F/\dq (BV b f v) w (W5.setCell ⟨b,3,none⟩ (.slice (some ⟨g2,0,none⟩) (N+1) cap2))/\Nw w v (.slice (some ⟨g2,0,none⟩) (N+1) cap2)):=hZ (fun g2 cap2 W5 ho hg ha=>by
        have lt:=S4.out.2.2.1.lt;have gne:=S4.out.2.2.1.Lf;have fne:=S4.out.2.2.1.ne S4.out.2.2.2;rw[HV.out,HN.out]at gne fne;have al: ∀k,k<W4.heap.size->(W4.alloc (.cells #[.int .i64 x.1, .int .i64 x.2, .int .i64 y.1, .int .i64 y.2] 273)).heap[k]? =W4.heap[k]? :=fun k hk=>((aQ W4.heap.size W4).alloc (aL _) _).block k hk;have bk: ∀k,k<W4.heap.size->(∀g,(Value.slice va N vc).ownBlock=some g->g≠k)->W5.heap[k]? =W4.heap[k]? :=fun k hk hn=>(hg.block k (by show k<(W4.alloc _).heap.size;simp;omega) (fun e=>hn k e.symm rfl)).trans (al k hk);have B5:=(bk b lt gne).trans S4.out.2.2.1.cv;have g2b:g2≠b:=by
         rcases ha with e|e
         ·exact gne g2 e
         ·omega
        have MBne:mx≠b:=wR S4.out.1 S4.out.2.2.1.cv (by decide);have O5:dq (BV b f v) w W5:=by
         have o4:dq (BV b f v) w W4:=dq.bB (by rw[HBX.out];exact S4.out.2.1);refine o4.trans ⟨hg.os,hg.tape,hg.output,aH (by simp) hg.size,fun k hk hn=>bk k hk (fun g e h=>?_)⟩;subst h;exact hn (.inr (.inr (by rw[HV.out,HN.out];exact e)))
        refine⟨by rw[au B5];show some v=_;rw[HV.out,HN.out],bf B5 3,?_,bd.zJ B5 ?_ ?_ (fun g' e=>by cases e;exact g2b),(S4.out.2.2.2.same (bk f S4.out.2.2.2.lt fne.2)).same (dD _ _ _ _ (bQ fne.1)),O5.setCell (.inl rfl) _ _,?_⟩
        ·exact(dD _ _ _ _ MBne).trans ((bk mx S4.out.1.lt (fun g e=>by have:=GL.out.1 g (by rw[HV.out,HN.out];exact e);omega)).trans S4.out.1)
        ·unfold eF;rw[Mo.C9,Mo.Mi,List.length_append,List.length_singleton,HN.out];exact ho
        ·rw[List.length_append,List.length_singleton,HN.out];omega
        ·rcases ha with e|e
         ·exact .inl (by rw[HV.out,HN.out];exact e.symm)
         ·exact .inr (fun g' e'=>by
          cases e';show w.heap.size<=g2;have h1:=(LE.out _ S4.out.2.1).1;have h2:=HBX.out;omega))
       go_region_law (refine step_append_lies _ rfl (.tmp 52) (.tmp 54) 227 rfl base 273 i0 z0 4 32 Tryz.underlying227 hi0 hz0 hz1 hz2 hz3 (by decide) (.slice va N vc) N (Mo.eN T.ms) (by simp[Act.eval]) OWN.out ⟨W4.heap.size,0,none⟩ 1 1 [.int .i64 x.1, .int .i64 x.2, .int .i64 y.1, .int .i64 y.2] (by simp[Act.eval]) rfl NEWS.out (by simp[Value.oneCell']) (by decide) (by unfold maxLen;omega) (by omega) (by have:=BASE.out;simp;omega) (W4.heap.size+1) (by simp) ?_;intro g2 cap2 W5 hown hgrow hat hlt2;obtain⟨e3,ef,A5⟩:=AFT.out g2 cap2 W5 hown hgrow hat;have Q5:=hZ A5;clear A5 hown hgrow hat hlt2)
       all_goals
        generalize W5.setCell ⟨b,3,none⟩ (.slice (some ⟨g2,0,none⟩) (N+1) cap2)=W6 at*;have m0:=Q5.out.1.c0;have m1:=Q5.out.1.c1;have m2:=Q5.out.1.c2;have m3:=Q5.out.1.c3;go_wp2_with fail
        refine(rE base b f K ⟨T.rt,T.ms++[(x,y)]⟩ _ F (x,y) _ Q5.out.2.1 Q5.out.2.2.1 HB.out.1 (by omega)).mono ?_;rintro e W7 ⟨rfl,f7,k7⟩;have FIN:Hid (bd W7 base b f ⟨T.rt,T.ms++[(x,y)]⟩ (.slice (some ⟨g2,0,none⟩) (N+1) cap2)/\ar W7 f (Mo.lH F (x,y))/\dq (BV b f v) w W7/\Nw w v (.slice (some ⟨g2,0,none⟩) (N+1) cap2)):=hZ ⟨Q5.out.2.1.jg Q5.out.2.2.1 k7,f7,Q5.out.2.2.2.1.trans (dq.kR k7 (.inr (.inl rfl))),Q5.out.2.2.2.2⟩;clear f7 k7 m0 m1 m2 m3;go_wp2
        go_ret
        rw[E0.out.1,E0.out.2.1,E0.out.2.2]
        first
         |exact⟨_,rfl,FIN.out⟩
         |exact⟨rfl,_,FIN.out⟩
namespace Mo
def gm (z:Int)(n:Nat):Nat:=if z=(n:Int)then 1 else 0
theorem pJ (n:Nat):gm (n:Int) n=1:=aJ rfl
theorem xW {z:Int}{n:Nat}(h:z≠(n:Int)):gm z n=0:=aI h
theorem xL (z:Int)(n:Nat):gm z n<=1:=by unfold gm;split<;>omega
def mc (L:List Mt)(n:Nat):Nat:=(L.map fun m=>gm m.1.2 n+gm m.2.2 n).sum
def tc (T:Tb)(n:Nat):Nat:=gm T.rt.2 n+mc T.ms n
theorem wN (n:Nat):mc [] n=0:=rfl
theorem lJ (m:Mt)(L:List Mt)(n:Nat):mc (m::L) n=gm m.1.2 n+gm m.2.2 n+mc L n:=by simp[mc]
theorem O3 (L M:List Mt)(n:Nat):mc (L++M) n=mc L n+mc M n:=by simp[mc]
theorem Pu (L:List Mt)(n:Nat):mc L n<=2*L.length:=by
 induction L with
 |nil=>simp[mc]
 |cons m L ih=>
  rw[lJ,List.length_cons];have:=xL m.1.2 n;have:=xL m.2.2 n;omega
theorem JF {L:List Mt}{i:Nat}{m:Mt}(h:L[i]? =some m)(n:Nat):mc L n=gm m.1.2 n+gm m.2.2 n+mc (L.eraseIdx i) n:=by
 induction L generalizing i with
 |nil=>simp at h
 |cons x L ih=>
  cases i with
  |zero=>
   simp only[List.getElem?_cons_zero,Option.some.injEq]at h;subst h;rw[lJ];rfl
  |succ i=>
   rw[List.getElem?_cons_succ]at h;rw[lJ,ih h,List.eraseIdx_cons_succ,lJ];omega
structure HI (F:Fo)(f:Nat->Nat):Prop where
 hd: ∀n,n<40->(F.nd n).held=f n
 lv: ∀n,n<40->0<f n->(F.nd n).kind≠0
def uz (z:Int):Prop:= ∃n:Nat,z=n/\n<40
theorem HI.congr {F:Fo}{f g:Nat->Nat}(h:HI F f)(e: ∀n,n<40->f n=g n):HI F g:=⟨fun n hn=>(h.hd n hn).trans (e n hn),fun n hn h0=>h.lv n hn (by rw[e n hn];exact h0)⟩
theorem HI.dc {F:Fo}{f:Nat->Nat}(h:HI F f){z:Int}(hz:Tr.bh F z=0):HI (Tr.dc F z) (fun n=>f n+gm z n):=by
 obtain⟨k,rfl,k40,kk⟩:=Tr.fW hz;unfold Tr.dc;rw[aJ hz,hU];refine⟨fun n hn=>?_,fun n hn h0=>?_⟩
 ·by_cases e:n=k
  ·subst e;rw[Tr.ai,pJ];show(F.nd n).held+1=_;rw[h.hd n hn]
  ·rw[Tr.ao _ _ _ _ e,xW (by omega)];exact h.hd n hn
 ·by_cases e:n=k
  ·subst e;rw[Tr.ai];exact kk
  ·rw[Tr.ao _ _ _ _ e];rw[xW (by omega)]at h0;exact h.lv n hn h0
theorem vp (F:Fo)(k n:Nat):((Tr.kV F k).nd n).held=(F.nd n).held:=by
 unfold Tr.kV;split
 ·rename_i c;by_cases e:n=k
  ·subst e;rw[Tr.ai];exact c.2.symm
  ·rw[Tr.ao _ _ _ _ e]
 ·rfl
theorem Bu (F:Fo)(k n:Nat)(h:0<(F.nd n).held):((Tr.kV F k).nd n).kind=(F.nd n).kind:=by
 unfold Tr.kV;split
 ·rename_i c;by_cases e:n=k
  ·subst e;omega
  ·rw[Tr.ao _ _ _ _ e]
 ·rfl
theorem HI.cZ {F:Fo}{f:Nat->Nat}{z:Int}(h:HI F (fun n=>f n+gm z n))(hz:uz z):HI (Tr.cZ F z) f:=by
 obtain⟨k,rfl,k40⟩:=hz;have hk:=h.hd k k40;rw[pJ]at hk;have e0:Tr.letE F (k:Int)=0:=by
  unfold Tr.letE;have:Tr.bh F (k:Int)=0:=by
   unfold Tr.bh;rw[aI (by omega),hU,aI (h.lv k k40 (by rw[pJ];omega))]
  rw[aJ this,hU,aI (by omega)]
 unfold Tr.cZ;rw[aJ e0,hU];have hd: ∀n,n<40->((F.put k {F.nd k with held:=(F.nd k).held-1}).nd n).held=f n:=fun n hn=>by
  by_cases e:n=k
  ·subst e;rw[Tr.ai];show(F.nd n).held-1=f n;omega
  ·rw[Tr.ao _ _ _ _ e,h.hd n hn,xW (by omega)];rfl
 refine⟨fun n hn=>by rw[vp];exact hd n hn,fun n hn h0=>?_⟩;rw[Bu _ _ _ (by rw[hd n hn];exact h0)];by_cases e:n=k
 ·subst e;rw[Tr.ai];exact h.lv n hn (by omega)
 ·rw[Tr.ao _ _ _ _ e];exact h.lv n hn (by omega)
def Rg (T:Tb):Prop:=uz T.rt.2/\ ∀m∈T.ms,uz m.1.2/\uz m.2.2
theorem GD {F:Fo}{f:Nat->Nat}{m:Mt}(h:HI F f)(h1:Tr.bh F m.1.2=0)(h2:Tr.bh F m.2.2=0):HI (lH F m) (fun n=>f n+gm m.1.2 n+gm m.2.2 n):=by
 have a:=h.dc h1;refine a.dc ?_;obtain⟨k,e,k40,kk⟩:=Tr.fW h2;rw[e];unfold Tr.bh;rw[aI (by omega),hU,aI];unfold Tr.dc;rw[aJ h1];by_cases c:k=m.1.2.toNat
 ·rw[c,Tr.ai];rw[<-c];exact kk
 ·rw[Tr.ao _ _ _ _ c];exact kk
theorem GP {F:Fo}{f:Nat->Nat}{m:Mt}(h:HI F (fun n=>f n+gm m.1.2 n+gm m.2.2 n))(h1:uz m.1.2)(h2:uz m.2.2):HI (iL F m) f:=
 HI.cZ (HI.cZ (f:=fun n=>f n+gm m.2.2 n) (h.congr (fun n _=>by omega)) h1) h2
theorem NR {F:Fo}{f:Nat->Nat}{T:Tb}(h:HI F (fun n=>f n+tc T n))(hr:Rg T):HI (rX F T) f:=by
 have a:HI (Tr.cZ F T.rt.2) (fun n=>f n+mc T.ms n):=HI.cZ (h.congr (fun n _=>by unfold tc;omega)) hr.1;have b: ∀(L:List Mt) (G:Fo),HI G (fun n=>f n+mc L n)->(∀m∈L,uz m.1.2/\uz m.2.2)->HI (L.foldl iL G) f:=fun L=>by
  induction L with
  |nil=>exact fun G hG _=>hG.congr (fun n _=>by rw[wN];omega)
  |cons m L ih=>
   intro G hG hm;refine ih (iL G m) (GP (hG.congr (fun n _=>by rw[lJ];omega)) (hm m (by simp)).1 (hm m (by simp)).2) (fun x hx=>hm x (by simp[hx]))
 exact b _ _ a hr.2
theorem lF {F:Fo}{z y:Int}(h:Tr.bh F y=0):Tr.bh (Tr.dc F z) y=0:=by
 obtain⟨k,rfl,k40,kk⟩:=Tr.fW h;unfold Tr.bh;rw[aI (by omega),hU,aI];unfold Tr.dc;split
 ·by_cases c:k=z.toNat
  ·rw[c,Tr.ai];rw[<-c];exact kk
  ·rw[Tr.ao _ _ _ _ c];exact kk
 ·exact kk
theorem Ol {F:Fo}{f:Nat->Nat}{T:Tb}(h:HI F f)(hr:Tr.bh F T.rt.2=0)(hm: ∀m∈T.ms,Tr.bh F m.1.2=0/\Tr.bh F m.2.2=0):HI (lR F T) (fun n=>f n+tc T n):=by
 have b: ∀(L:List Mt) (G:Fo) (g:Nat->Nat),HI G g->(∀m∈L,Tr.bh G m.1.2=0/\Tr.bh G m.2.2=0)->HI (L.foldl lH G) (fun n=>g n+mc L n):=fun L=>by
  induction L with
  |nil=>exact fun G g hG _=>hG.congr (fun n _=>by rw[wN];omega)
  |cons m L ih=>
   intro G g hG hm;refine(ih (lH G m) _ (GD hG (hm m (by simp)).1 (hm m (by simp)).2) (fun x hx=>?_)).congr (fun n _=>by rw[lJ];omega);exact⟨lF (lF (hm x (by simp[hx])).1),lF (lF (hm x (by simp[hx])).2)⟩
 exact(b T.ms _ _ (h.dc hr) (fun m hx=>⟨lF (hm m hx).1,lF (hm m hx).2⟩)).congr (fun n _=>by unfold tc;omega)
theorem PF (T:Tb)(h6:T.ms.length<=6)(n:Nat):tc T n<=13:=by
 have:=xL T.rt.2 n;have:=Pu T.ms n;unfold tc;omega
theorem xg {F:Fo}{x:Wh}(h:gy F x=0):Tr.bh F x.2=0:=by
 unfold gy at h;by_cases c:Tr.bh F x.2=0
 ·exact c
 ·rw[aJ c]at h;exact h
theorem OH {F:Fo}{T:Tb}{x y:Wh}(h:jV F T x y=0):gy F x=0/\gy F y=0/\T.ms.length≠6:=by
 unfold jV at h;by_cases c1:gy F x=0
 ·rw[c1,aI (fun d=>d rfl)]at h;by_cases c2:gy F y=0
  ·rw[c2,aI (fun d=>d rfl)]at h;refine⟨c1,c2,fun c3=>?_⟩;by_cases c4:x=y
   ·rw[aJ c4]at h;omega
   ·rw[aI c4]at h;by_cases c5:(lk T.ms x).isSome=true
    ·rw[aJ c5]at h;omega
    ·rw[aI c5,aJ c3]at h;omega
  ·rw[aJ c2]at h;exact aZ h c2
 ·rw[aJ c1]at h;exact aZ h c1
theorem Bz {F:Fo}{z:Int}(h:Tr.bh F z=0):uz z:=by
 obtain⟨n,e,hn,_⟩:=Tr.fW h;exact⟨n,e,hn⟩
theorem NY {F:Fo}{T:Tb}(h:Tr.Ok F):Tr.Ok (rX F T):=by
 have: ∀(L:List Mt) (G:Fo),Tr.Ok G->Tr.Ok (L.foldl iL G):=fun L=>by
  induction L with
  |nil=>exact fun _ h=>h
  |cons m L ih=>exact fun G h=>ih _ ((h.cZ _).cZ _)
 exact this _ _ (h.cZ _)
end Mo
open Mo (Wh Mt)
open Mv (Me Bk)
open Sg (S1)
open Fx (Fi)
open Pp (Pi)
namespace Kn
structure Pr where
 st:Nat
 par:Int
 bP:Int
 code:Int
 fd:Nat->Int
 has:Bool
 mem:Me
 box:Nat->S1
def Pr.no:Pr:=⟨0,0,0,0,fun _=>0,false,Mv.kX,Sg.fj⟩
structure Kp where
 p:Nat->Pr
 ht:Nat->Bool
 tb:Nat->Mo.Tb
 sp:Sp.T
 gr:Nat->Gr.Gp
 sc:Wf.M
 bk:Bk
 fo:Fo
 pi:Nat->Pi
 fi:Nat->Fi
def Kp.put (k:Kp)(n:Nat)(x:Pr):Kp:={k with p:=fun m=>if m=n then x else k.p m}
theorem ai (k:Kp)(n:Nat)(x:Pr):(k.put n x).p n=x:=aJ rfl
theorem ao (k:Kp)(n m:Nat)(x:Pr)(h:m≠n):(k.put n x).p m=k.p m:=aI h
structure St where
 A:Nat->Nat
 V:Nat->Value
 k:Kp
def us (s:St)(i:Nat):Prop:=i<9\/(9<=i/\i<29/\(s.k.p (i-9)).has=true)\/(29<=i/\i<49/\(s.k.p (i-29)).has=true)\/(49<=i/\i<55/\s.k.ht (i-49)=true)\/(55<=i/\i<61/\s.k.ht (i-55)=true/\(s.V (i-55)).ownBlock≠none)
theorem gP {s:St}{n:Nat}(hn:n<20)(h:(s.k.p n).has=true):us s (9+n):= .inr (.inl ⟨by omega,by omega,by rw[show 9+n-9=n by omega];exact h⟩)
theorem iQ {s:St}{n:Nat}(hn:n<20)(h:(s.k.p n).has=true):us s (29+n):= .inr (.inr (.inl ⟨by omega,by omega,by rw[show 29+n-29=n by omega];exact h⟩))
theorem ja {s:St}{n:Nat}(hn:n<6)(h:s.k.ht n=true):us s (49+n):= .inr (.inr (.inr (.inl ⟨by omega,by omega,by rw[show 49+n-49=n by omega];exact h⟩)))
theorem iT {s:St}{n g:Nat}(hn:n<6)(h:s.k.ht n=true)(e:(s.V n).ownBlock=some g):us s (55+n):= .inr (.inr (.inr (.inr ⟨by omega,by omega,by rw[show 55+n-55=n by omega];exact h,by rw[show 55+n-55=n by omega,e];simp⟩)))
def KB (s:St)(b:Nat):Prop:= ∃i,us s i/\b=s.A i
def ptr (b:Nat)(on:Bool):Value:=if on then .pointer (some ⟨b,0,none⟩)else .pointer none
def dV (a b:Nat)(x:Pr)(j:Nat):Value:=
 if j=0 then .int .i64 (x.st:Int)else if j=1 then .int .i64 x.par else if j=2 then .int .i64 x.bP else if j=3 then .int .i64 x.code
 else if j=4 then ptr a x.has else if j=5 then ptr b x.has else .int .i64 (x.fd (j-6))
def pc (s:St)(n j:Nat):Value:=dV (s.A (9+n)) (s.A (29+n)) (s.k.p n) j
def kc (s:St)(o:Nat):Value:=if o<240 then pc s (o/12) (o%12)else if o<246 then ptr (s.A (49+(o-240))) (s.k.ht (o-240))else if o<250 then .pointer (some ⟨s.A (o-245),0,none⟩)else .pointer (some ⟨s.A (o-244),0,none⟩)
end Kn
open Kn (Pr Kp St us KB)
structure ak (w:bD)(base:Nat)(s:St):Prop where
 kT: ∃C,w.heap[s.A 0]? =some (.cells C 86 (0,0))/\C.size=253
 dC: ∀o,o<253->w.cell? ⟨s.A 0,o,none⟩=some (Kn.kc s o)
 sp:Tb true w (s.A 1) s.k.sp
 gr:Gr.bd w (s.A 2) s.k.gr
 sc:Wf.Fair w (s.A 3) s.k.sc
 bk:cT w (s.A 4) (s.A 5) s.k.bk
 fi:dy w (s.A 8) (s.A 6) (s.A 7) s.k.fi
 fo:ar w (s.A 6) s.k.fo
 pi:db w (s.A 7) s.k.pi
 me: ∀n,n<20->(s.k.p n).has=true->cA w (s.A (9+n)) (s.A 4) (s.k.p n).mem
 bx: ∀n,n<20->(s.k.p n).has=true->CX w (s.A (29+n)) (s.k.p n).box
 tb: ∀n,n<6->s.k.ht n=true->bd w base (s.A (49+n)) (s.A 6) (s.k.tb n) (s.V n)
 ro: ∀n,n<6->s.k.ht n=true-> ∀g,(s.V n).ownBlock=some g->s.A (55+n)=g
 inj: ∀i j,us s i->us s j->s.A i=s.A j->i=j
 low: ∀i,us s i->base<=s.A i
section
variable {w w' : bD} {base : Nat} {s s' : St}
theorem ak.lt (h:ak w base s){i:Nat}(hi:us s i):s.A i<w.heap.size:=by
 rcases hi with hi|⟨h1,h2,h3⟩|⟨h1,h2,h3⟩|⟨h1,h2,h3⟩|⟨h1,h2,h3,h4⟩
 ·match i,hi with
  |0,_=>obtain⟨C,e,_⟩:=h.kT;exact(aX.1 e).1
  |1,_=>exact h.sp.lt
  |2,_=>exact h.gr.lt
  |3,_=>exact h.sc.lt
  |4,_=>exact h.bk.lt
  |5,_=>exact h.bk.AO
  |6,_=>exact h.fo.lt
  |7,_=>exact h.pi.lt
  |8,_=>exact h.fi.lt
 ·have:=(h.me (i-9) (by omega) h3).lt;rwa [show 9+(i-9)=i by omega]at this
 ·have:=(h.bx (i-29) (by omega) h3).lt;rwa [show 29+(i-29)=i by omega]at this
 ·have:=(h.tb (i-49) (by omega) h3).lt;rwa [show 49+(i-49)=i by omega]at this
 ·cases e:(s.V (i-55)).ownBlock with
  |none=>exact aZ e h4
  |some g=>
   have a:=h.ro (i-55) (by omega) h3 g e;have b:=((h.tb (i-55) (by omega) h3).row.lt g e).2;rw[show 55+(i-55)=i by omega]at a;rw[a];exact b
theorem ak.Qe (h:ak w base s){b:Nat}(hb:KB s b):b<w.heap.size:=by obtain⟨i,hi,rfl⟩:=hb;exact h.lt hi
theorem ak.Oh (h:ak w base s){b:Nat}(hb:KB s b):base<=b:=by obtain⟨i,hi,rfl⟩:=hb;exact h.low i hi
theorem ak.ne (h:ak w base s){i j:Nat}(hi:us s i)(hj:us s j)(n:i≠j):s.A i≠s.A j:=fun e=>n (h.inj i j hi hj e)
theorem ak.frozen (h:ak w base s)(o:Nat):w.frozen? ⟨s.A 0,o,none⟩=false:=by obtain⟨C,h1,_⟩:=h.kT;exact bf h1 o
theorem ak.same (h:ak w base s)(e: ∀i,us s i->w'.heap[s.A i]? =w.heap[s.A i]?):ak w' base s:=by
 have e0:=e 0 (.inl (by omega));exact⟨by rw[e0];exact h.kT,fun o ho=>(aV e0).trans (h.dC o ho),h.sp.same (e 1 (.inl (by omega))),(e 2 (.inl (by omega))).trans h.gr,h.sc.same (e 3 (.inl (by omega))),h.bk.same (e 4 (.inl (by omega))) (e 5 (.inl (by omega))),h.fi.same (e 8 (.inl (by omega))),h.fo.same (e 6 (.inl (by omega))),h.pi.same (e 7 (.inl (by omega))),
  fun n hn hh=>(h.me n hn hh).same (e _ (Kn.gP hn hh)),fun n hn hh=>(h.bx n hn hh).same (e _ (Kn.iQ hn hh)),
  fun n hn hh=>(h.tb n hn hh).same (e _ (Kn.ja hn hh)) (fun g eg=>by have:=e _ (Kn.iT hn hh eg);rwa [h.ro n hn hh g eg]at this),h.ro,h.inj,h.low⟩
theorem ak.below (h:ak w base s)(k:Below w.heap.size w w'):ak w' base s:=h.same (fun _ hi=>k.block _ (h.lt hi))
theorem ak.drew (h:ak w base s):ak w.drew base s:=h.same (fun _ _=>rfl)
theorem ak.drewN (h:ak w base s)(n:Nat):ak (w.drewN n) base s:=h.same (fun _ _=>rfl)
end
structure KF (s:St)(w:bD)(s':St)(w':bD):Prop where
 fU:dq (KB s) w w'
 sub: ∀b,KB s' b->KB s b\/w.heap.size<=b
 a0:s'.A 0=s.A 0
section
variable {s s1 s2 : St} {w w1 w2 : bD} {base : Nat}
theorem KF.refl (s:St)(w:bD):KF s w s w:=⟨dq.refl _ _,fun _ h=> .inl h,rfl⟩
theorem KF.trans (h:KF s w s1 w1)(k:KF s1 w1 s2 w2):KF s w s2 w2:=
 ⟨⟨k.fU.os.trans h.fU.os,k.fU.tape.trans h.fU.tape,k.fU.output.trans h.fU.output,aH h.fU.size k.fU.size,fun b hb hn=>(k.fU.block b (aD hb h.fU.size) (fun c=>(h.sub b c).elim hn (fun c=>by omega))).trans (h.fU.block b hb hn)⟩,
  fun b hb=>(k.sub b hb).elim (h.sub b) (fun c=> .inr (aH h.fU.size c)),k.a0.trans h.a0⟩
theorem KF.below (h:Below w.heap.size w w1):KF s w s w1:=⟨dq.bB h,fun _ h=> .inl h,rfl⟩
theorem KF.drew (s:St)(w:bD):KF s w s w.drew:=KF.below ((aQ _ _).drew)
theorem KF.behind (h:KF s w s1 w1)(hk:ak w base s){t:bD}{B:Nat}(b:Below B t w)(hB:B<=base)(hs:B<=w.heap.size):Below B t w1:=h.fU.behind b (fun _ c=>aH hB (hk.Oh c)) hs
theorem KF.iC (h:KF s w s1 w1){c:Nat}(hc:c<w.heap.size)(hn: ¬KB s c):w1.heap[c]? =w.heap[c]? :=h.fU.block c hc hn
theorem KF.apart (h:KF s w s1 w1){c:Nat}(hc:c<w.heap.size)(hn: ¬KB s c): ¬KB s1 c:=fun d=>(h.sub c d).elim hn (fun e=>by omega)
end
section
variable {w w' : bD} {base : Nat} {s s' : St}
theorem az {s:St}{i:Nat}(h:i<9):us s i:= .inl h
theorem Kn.Qk (s:St)(n j:Nat)(hn:n<20)(hj:j<12):Kn.kc s (n*12+j)=Kn.pc s n j:=by
 unfold Kn.kc;rw[aJ (by omega),show(n*12+j)/12=n by omega,show(n*12+j)%12=j by omega]
theorem ak.cP (h:ak w base s)(n j:Nat)(hn:n<20)(hj:j<12):w.cell? ⟨s.A 0,n*12+j,none⟩=some (Kn.pc s n j):=by rw[h.dC _ (by omega),Kn.Qk s n j hn hj]
theorem ak.ux (h:ak w base s)(n:Nat)(hn:n<20):w.cell? ⟨s.A 0,n*12,none⟩=some (.int .i64 ((s.k.p n).st:Int)):=h.cP n 0 hn (by omega)
theorem ak.sV (h:ak w base s)(n:Nat)(hn:n<20):w.cell? ⟨s.A 0,n*12+1,none⟩=some (.int .i64 (s.k.p n).par):=h.cP n 1 hn (by omega)
theorem ak.pU (h:ak w base s)(n:Nat)(hn:n<20):w.cell? ⟨s.A 0,n*12+2,none⟩=some (.int .i64 (s.k.p n).bP):=h.cP n 2 hn (by omega)
theorem ak.Lg (h:ak w base s)(n:Nat)(hn:n<20):w.cell? ⟨s.A 0,n*12+3,none⟩=some (.int .i64 (s.k.p n).code):=h.cP n 3 hn (by omega)
theorem ak.qQ (h:ak w base s)(n:Nat)(hn:n<20)(hh:(s.k.p n).has=true):w.cell? ⟨s.A 0,n*12+4,none⟩=some (.pointer (some ⟨s.A (9+n),0,none⟩)):=by rw[h.cP n 4 hn (by omega)];unfold Kn.pc Kn.dV;rw[hh];rfl
theorem ak.qS (h:ak w base s)(n:Nat)(hn:n<20)(hh:(s.k.p n).has=true):w.cell? ⟨s.A 0,n*12+5,none⟩=some (.pointer (some ⟨s.A (29+n),0,none⟩)):=by rw[h.cP n 5 hn (by omega)];unfold Kn.pc Kn.dV;rw[hh];rfl
theorem ak.oN (h:ak w base s)(n f:Nat)(hn:n<20)(hf:f<6):w.cell? ⟨s.A 0,n*12+6+f,none⟩=some (.int .i64 ((s.k.p n).fd f)):=by
 rw[Nat.add_assoc,h.cP n (6+f) hn (by omega)];unfold Kn.pc Kn.dV;rw[aI (by omega),aI (by omega),aI (by omega),aI (by omega),aI (by omega),aI (by omega),show 6+f-6=f by omega]
theorem ak.Ka (h:ak w base s)(n:Nat)(hn:n<6)(hh:s.k.ht n=true):w.cell? ⟨s.A 0,240+n,none⟩=some (.pointer (some ⟨s.A (49+n),0,none⟩)):=by
 rw[h.dC _ (by omega)];unfold Kn.kc;rw[aI (by omega),aJ (by omega),show 240+n-240=n by omega,hh];rfl
theorem ak.uw (h:ak w base s):w.cell? ⟨s.A 0,246,none⟩=some (.pointer (some ⟨s.A 1,0,none⟩)):=h.dC 246 (by omega)
theorem ak.sr (h:ak w base s):w.cell? ⟨s.A 0,247,none⟩=some (.pointer (some ⟨s.A 2,0,none⟩)):=h.dC 247 (by omega)
theorem ak.LM (h:ak w base s):w.cell? ⟨s.A 0,248,none⟩=some (.pointer (some ⟨s.A 3,0,none⟩)):=h.dC 248 (by omega)
theorem ak.Q6 (h:ak w base s):w.cell? ⟨s.A 0,249,none⟩=some (.pointer (some ⟨s.A 4,0,none⟩)):=h.dC 249 (by omega)
theorem ak.vF (h:ak w base s):w.cell? ⟨s.A 0,250,none⟩=some (.pointer (some ⟨s.A 6,0,none⟩)):=h.dC 250 (by omega)
theorem ak.rC (h:ak w base s):w.cell? ⟨s.A 0,252,none⟩=some (.pointer (some ⟨s.A 8,0,none⟩)):=h.dC 252 (by omega)
theorem ak.others (h:ak w base s){j:Nat}(hj:us s j)(f:af (s.A j) w w'): ∀i,us s i->i≠j->w'.heap[s.A i]? =w.heap[s.A i]? :=fun _ hi n=>f.block _ (h.lt hi) (h.ne hi hj n)
theorem KF.one (s':St){j:Nat}(hj:us s j)(f:af (s.A j) w w')(hA:s'.A=s.A)(hu: ∀i,us s' i->us s i):KF s w s' w':=⟨dq.kR f ⟨j,hj,rfl⟩,fun b ⟨i,hi,e⟩=> .inl ⟨i,hu i hi,by rw[e,hA]⟩,by rw[hA]⟩
theorem Gr.af.wI {b:Nat}(f:Gr.af b w w'):Go.Proofs.YtpmmdkcfenjiaaaGreatDoor.af b w w':=⟨f.os,f.tape,f.output,f.size,f.block⟩
theorem ak.xh (h:ak w base s){t:Sp.T}(u:Tb true w' (s.A 1) t)(f:af (s.A 1) w w'):ak w' base {s with k:={s.k with sp:=t}}/\KF s w {s with k:={s.k with sp:=t}} w':=by
 have o:=h.others (az (by omega)) f;refine⟨⟨by rw[o 0 (az (by omega)) (by omega)];exact h.kT,fun x hx=>(aV (o 0 (az (by omega)) (by omega))).trans (h.dC x hx),u,(o 2 (az (by omega)) (by omega)).trans h.gr,h.sc.same (o 3 (az (by omega)) (by omega)),h.bk.same (o 4 (az (by omega)) (by omega)) (o 5 (az (by omega)) (by omega)),h.fi.same (o 8 (az (by omega)) (by omega)),h.fo.same (o 6 (az (by omega)) (by omega)),h.pi.same (o 7 (az (by omega)) (by omega)),
  fun n hn hh=>(h.me n hn hh).same (o _ (Kn.gP hn hh) (by omega)),fun n hn hh=>(h.bx n hn hh).same (o _ (Kn.iQ hn hh) (by omega)),
  fun n hn hh=>(h.tb n hn hh).same (o _ (Kn.ja hn hh) (by omega)) (fun g eg=>by have:=o _ (Kn.iT hn hh eg) (by omega);rwa [h.ro n hn hh g eg]at this),h.ro,h.inj,h.low⟩,KF.one _ (az (by omega)) f rfl (fun _ hi=>hi)⟩
theorem ak.lf (h:ak w base s){t:Nat->Gr.Gp}(u:Gr.bd w' (s.A 2) t)(f:af (s.A 2) w w'):ak w' base {s with k:={s.k with gr:=t}}/\KF s w {s with k:={s.k with gr:=t}} w':=by
 have o:=h.others (az (by omega)) f;refine⟨⟨by rw[o 0 (az (by omega)) (by omega)];exact h.kT,fun x hx=>(aV (o 0 (az (by omega)) (by omega))).trans (h.dC x hx),h.sp.same (o 1 (az (by omega)) (by omega)),u,h.sc.same (o 3 (az (by omega)) (by omega)),h.bk.same (o 4 (az (by omega)) (by omega)) (o 5 (az (by omega)) (by omega)),h.fi.same (o 8 (az (by omega)) (by omega)),h.fo.same (o 6 (az (by omega)) (by omega)),h.pi.same (o 7 (az (by omega)) (by omega)),
  fun n hn hh=>(h.me n hn hh).same (o _ (Kn.gP hn hh) (by omega)),fun n hn hh=>(h.bx n hn hh).same (o _ (Kn.iQ hn hh) (by omega)),
  fun n hn hh=>(h.tb n hn hh).same (o _ (Kn.ja hn hh) (by omega)) (fun g eg=>by have:=o _ (Kn.iT hn hh eg) (by omega);rwa [h.ro n hn hh g eg]at this),h.ro,h.inj,h.low⟩,KF.one _ (az (by omega)) f rfl (fun _ hi=>hi)⟩
theorem ak.nX (h:ak w base s){t:Wf.M}(u:Wf.Fair w' (s.A 3) t)(f:af (s.A 3) w w'):ak w' base {s with k:={s.k with sc:=t}}/\KF s w {s with k:={s.k with sc:=t}} w':=by
 have o:=h.others (az (by omega)) f;refine⟨⟨by rw[o 0 (az (by omega)) (by omega)];exact h.kT,fun x hx=>(aV (o 0 (az (by omega)) (by omega))).trans (h.dC x hx),h.sp.same (o 1 (az (by omega)) (by omega)),(o 2 (az (by omega)) (by omega)).trans h.gr,u,h.bk.same (o 4 (az (by omega)) (by omega)) (o 5 (az (by omega)) (by omega)),h.fi.same (o 8 (az (by omega)) (by omega)),h.fo.same (o 6 (az (by omega)) (by omega)),h.pi.same (o 7 (az (by omega)) (by omega)),
  fun n hn hh=>(h.me n hn hh).same (o _ (Kn.gP hn hh) (by omega)),fun n hn hh=>(h.bx n hn hh).same (o _ (Kn.iQ hn hh) (by omega)),
  fun n hn hh=>(h.tb n hn hh).same (o _ (Kn.ja hn hh) (by omega)) (fun g eg=>by have:=o _ (Kn.iT hn hh eg) (by omega);rwa [h.ro n hn hh g eg]at this),h.ro,h.inj,h.low⟩,KF.one _ (az (by omega)) f rfl (fun _ hi=>hi)⟩
theorem ak.zy (h:ak w base s){F:Fo}(u:ar w' (s.A 6) F)(f:af (s.A 6) w w'):ak w' base {s with k:={s.k with fo:=F}}/\KF s w {s with k:={s.k with fo:=F}} w':=by
 have o:=h.others (az (by omega)) f;refine⟨⟨by rw[o 0 (az (by omega)) (by omega)];exact h.kT,fun x hx=>(aV (o 0 (az (by omega)) (by omega))).trans (h.dC x hx),h.sp.same (o 1 (az (by omega)) (by omega)),(o 2 (az (by omega)) (by omega)).trans h.gr,h.sc.same (o 3 (az (by omega)) (by omega)),h.bk.same (o 4 (az (by omega)) (by omega)) (o 5 (az (by omega)) (by omega)),h.fi.same (o 8 (az (by omega)) (by omega)),u,h.pi.same (o 7 (az (by omega)) (by omega)),
  fun n hn hh=>(h.me n hn hh).same (o _ (Kn.gP hn hh) (by omega)),fun n hn hh=>(h.bx n hn hh).same (o _ (Kn.iQ hn hh) (by omega)),
  fun n hn hh=>(h.tb n hn hh).same (o _ (Kn.ja hn hh) (by omega)) (fun g eg=>by have:=o _ (Kn.iT hn hh eg) (by omega);rwa [h.ro n hn hh g eg]at this),h.ro,h.inj,h.low⟩,KF.one _ (az (by omega)) f rfl (fun _ hi=>hi)⟩
theorem ak.fx (h:ak w base s):FX w (s.A 8) (s.A 6) (s.A 7) s.k.fi s.k.fo s.k.pi:=⟨h.fi,h.fo,h.pi,h.ne (az (by omega)) (az (by omega)) (by omega),h.ne (az (by omega)) (az (by omega)) (by omega),h.ne (az (by omega)) (az (by omega)) (by omega)⟩
theorem ak.tA (h:ak w base s){T:Nat->Fi}{F:Fo}{S:Nat->Pi}(u:FX w' (s.A 8) (s.A 6) (s.A 7) T F S)(f:cR (s.A 8) (s.A 6) (s.A 7) w w'):ak w' base {s with k:={s.k with fi:=T,fo:=F,pi:=S}}/\KF s w {s with k:={s.k with fi:=T,fo:=F,pi:=S}} w':=by
 have o: ∀i,us s i->i≠8->i≠6->i≠7->w'.heap[s.A i]? =w.heap[s.A i]? :=fun i hi a b c=>f.block _ (h.lt hi) (h.ne hi (az (by omega)) a) (h.ne hi (az (by omega)) b) (h.ne hi (az (by omega)) c);refine⟨⟨by rw[o 0 (az (by omega)) (by omega) (by omega) (by omega)];exact h.kT,fun x hx=>(aV (o 0 (az (by omega)) (by omega) (by omega) (by omega))).trans (h.dC x hx),h.sp.same (o 1 (az (by omega)) (by omega) (by omega) (by omega)),(o 2 (az (by omega)) (by omega) (by omega) (by omega)).trans h.gr,h.sc.same (o 3 (az (by omega)) (by omega) (by omega) (by omega)),h.bk.same (o 4 (az (by omega)) (by omega) (by omega) (by omega)) (o 5 (az (by omega)) (by omega) (by omega) (by omega)),u.1,u.2.1,u.2.2.1,
  fun n hn hh=>(h.me n hn hh).same (o _ (Kn.gP hn hh) (by omega) (by omega) (by omega)),fun n hn hh=>(h.bx n hn hh).same (o _ (Kn.iQ hn hh) (by omega) (by omega) (by omega)),
  fun n hn hh=>(h.tb n hn hh).same (o _ (Kn.ja hn hh) (by omega) (by omega) (by omega)) (fun g eg=>by have:=o _ (Kn.iT hn hh eg) (by omega) (by omega) (by omega);rwa [h.ro n hn hh g eg]at this),h.ro,h.inj,h.low⟩,
  ⟨⟨f.os,f.tape,f.output,f.size,fun b hb hn=>f.block b hb (fun e=>hn ⟨8,az (by omega),e⟩) (fun e=>hn ⟨6,az (by omega),e⟩) (fun e=>hn ⟨7,az (by omega),e⟩)⟩,fun b hb=> .inl hb,rfl⟩⟩
theorem ak.ub (h:ak w base s){n:Nat}(hn:n<20)(hh:(s.k.p n).has=true):UB w (s.A (9+n)) (s.A 4) (s.A 5) (s.k.p n).mem s.k.bk:=⟨h.me n hn hh,h.bk,h.ne (Kn.gP hn hh) (az (by omega)) (by omega),h.ne (Kn.gP hn hh) (az (by omega)) (by omega)⟩
def Kn.bR (k:Kp)(n:Nat)(m:Me)(b:Bk):Kp:={k.put n {k.p n with mem:=m}with bk:=b}
theorem Kn.Ga {s:St}{n:Nat}{x:Pr}(hx:x.has=(s.k.p n).has)(b:Bk)(i:Nat):us {s with k:={s.k.put n x with bk:=b}} i↔us s i:=by
 have e: ∀j,((s.k.put n x).p j).has=(s.k.p j).has:=fun j=>by
  by_cases c:j=n
  ·rw[c,Kn.ai,hx]
  ·rw[Kn.ao _ _ _ _ c]
 unfold us;show(_\/(_/\_/\((s.k.put n x).p _).has=true)\/(_/\_/\((s.k.put n x).p _).has=true)\/_\/_)↔_;rw[e,e];exact Iff.rfl
theorem ak.vO (h:ak w base s){n:Nat}(hn:n<20)(hh:(s.k.p n).has=true){m:Me}{b:Bk}(u:UB w' (s.A (9+n)) (s.A 4) (s.A 5) m b)(f:eU (s.A (9+n)) (s.A 4) (s.A 5) w w'):ak w' base {s with k:=Kn.bR s.k n m b}/\KF s w {s with k:=Kn.bR s.k n m b} w':=by
 have o: ∀i,us s i->i≠9+n->i≠4->i≠5->w'.heap[s.A i]? =w.heap[s.A i]? :=fun i hi a b c=>f.block _ (h.lt hi) (h.ne hi (Kn.gP hn hh) a) (h.ne hi (az (by omega)) b) (h.ne hi (az (by omega)) c);have pu: ∀i,us {s with k:=Kn.bR s.k n m b} i↔us s i:=Kn.Ga (n:=n) (x:={s.k.p n with mem:=m}) rfl b;have pk: ∀x,Kn.kc {s with k:=Kn.bR s.k n m b} x=Kn.kc s x:=fun x=>by
  unfold Kn.kc Kn.pc Kn.dV;by_cases c:x/12=n
  ·rw[show(Kn.bR s.k n m b).p (x/12)={s.k.p n with mem:=m}by rw[c];exact Kn.ai _ _ _,<-c];rfl
  ·rw[show(Kn.bR s.k n m b).p (x/12)=s.k.p (x/12)from Kn.ao _ _ _ _ c];rfl
 refine⟨⟨by rw[show({s with k:=Kn.bR s.k n m b}:St).A 0=s.A 0 from rfl,o 0 (az (by omega)) (by omega) (by omega) (by omega)];exact h.kT,fun x hx=>by rw[pk];exact(aV (o 0 (az (by omega)) (by omega) (by omega) (by omega))).trans (h.dC x hx),h.sp.same (o 1 (az (by omega)) (by omega) (by omega) (by omega)),(o 2 (az (by omega)) (by omega) (by omega) (by omega)).trans h.gr,h.sc.same (o 3 (az (by omega)) (by omega) (by omega) (by omega)),u.bk,h.fi.same (o 8 (az (by omega)) (by omega) (by omega) (by omega)),h.fo.same (o 6 (az (by omega)) (by omega) (by omega) (by omega)),h.pi.same (o 7 (az (by omega)) (by omega) (by omega) (by omega)),
  fun j hj jh=>?_,fun j hj jh=>?_,
  fun n hn hh=>(h.tb n hn hh).same (o _ (Kn.ja hn hh) (by omega) (by omega) (by omega)) (fun g eg=>by have:=o _ (Kn.iT hn hh eg) (by omega) (by omega) (by omega);rwa [h.ro n hn hh g eg]at this),h.ro,fun i j hi hj=>h.inj i j ((pu i).1 hi) ((pu j).1 hj),fun i hi=>h.low i ((pu i).1 hi)⟩,
  ⟨⟨f.os,f.tape,f.output,f.size,fun b hb hc=>f.block b hb (fun e=>hc ⟨_,Kn.gP hn hh,e⟩) (fun e=>hc ⟨4,az (by omega),e⟩) (fun e=>hc ⟨5,az (by omega),e⟩)⟩,fun b ⟨i,hi,e⟩=> .inl ⟨i,(pu i).1 hi,e⟩,rfl⟩⟩
 ·by_cases c:j=n
  ·subst c;rw[show(Kn.bR s.k j m b).p j={s.k.p j with mem:=m}from Kn.ai _ _ _];exact u.me
  ·rw[show(Kn.bR s.k n m b).p j=s.k.p j from Kn.ao _ _ _ _ c]at jh|-;exact(h.me j hj jh).same (o _ (Kn.gP hj jh) (by omega) (by omega) (by omega))
 ·by_cases c:j=n
  ·subst c;rw[show(Kn.bR s.k j m b).p j={s.k.p j with mem:=m}from Kn.ai _ _ _];exact(h.bx j hj hh).same (o _ (Kn.iQ hj hh) (by omega) (by omega) (by omega))
  ·rw[show(Kn.bR s.k n m b).p j=s.k.p j from Kn.ao _ _ _ _ c]at jh|-;exact(h.bx j hj jh).same (o _ (Kn.iQ hj jh) (by omega) (by omega) (by omega))
end
section
variable {w w' : bD} {base : Nat} {s s' : St}
theorem ak.Pk (h:ak w base s){b:Bk}(u:cT w' (s.A 4) (s.A 5) b)(f:gZ (s.A 4) (s.A 5) w w'):ak w' base {s with k:={s.k with bk:=b}}/\KF s w {s with k:={s.k with bk:=b}} w':=by
 have o: ∀i,us s i->i≠4->i≠5->w'.heap[s.A i]? =w.heap[s.A i]? :=fun i hi a b=>f.block _ (h.lt hi) (h.ne hi (az (by omega)) a) (h.ne hi (az (by omega)) b);refine⟨⟨by rw[o 0 (az (by omega)) (by omega) (by omega)];exact h.kT,fun x hx=>(aV (o 0 (az (by omega)) (by omega) (by omega))).trans (h.dC x hx),h.sp.same (o 1 (az (by omega)) (by omega) (by omega)),(o 2 (az (by omega)) (by omega) (by omega)).trans h.gr,h.sc.same (o 3 (az (by omega)) (by omega) (by omega)),u,h.fi.same (o 8 (az (by omega)) (by omega) (by omega)),h.fo.same (o 6 (az (by omega)) (by omega) (by omega)),h.pi.same (o 7 (az (by omega)) (by omega) (by omega)),
  fun n hn hh=>(h.me n hn hh).same (o _ (Kn.gP hn hh) (by omega) (by omega)),fun n hn hh=>(h.bx n hn hh).same (o _ (Kn.iQ hn hh) (by omega) (by omega)),
  fun n hn hh=>(h.tb n hn hh).same (o _ (Kn.ja hn hh) (by omega) (by omega)) (fun g eg=>by have:=o _ (Kn.iT hn hh eg) (by omega) (by omega);rwa [h.ro n hn hh g eg]at this),h.ro,h.inj,h.low⟩,
  ⟨⟨f.os,f.tape,f.output,f.size,fun b hb hc=>f.block b hb (fun e=>hc ⟨4,az (by omega),e⟩) (fun e=>hc ⟨5,az (by omega),e⟩)⟩,fun b hb=> .inl hb,rfl⟩⟩
theorem Kn.vD (s:St)(n:Nat)(x:Pr)(o:Nat):Kn.kc {s with k:=s.k.put n x} o=if o<240/\o/12=n then Kn.dV (s.A (9+n)) (s.A (29+n)) x (o%12)else Kn.kc s o:=by
 unfold Kn.kc;by_cases c:o<240
 ·rw[aJ c,aJ c];by_cases d:o/12=n
  ·rw[aJ ⟨c,d⟩];unfold Kn.pc;rw[d];show Kn.dV (s.A (9+n)) (s.A (29+n)) ((s.k.put n x).p n) _=_;rw[Kn.ai]
  ·rw[aI (fun e=>d e.2)];unfold Kn.pc;show Kn.dV (s.A (9+o/12)) (s.A (29+o/12)) ((s.k.put n x).p (o/12)) _=_;rw[Kn.ao _ _ _ _ d]
 ·rw[aI c,aI (show¬(o<240/\o/12=n)from fun e=>c e.1),aI c];rfl
theorem Kn.yj {s:St}{n:Nat}{x:Pr}(hx:x.has=(s.k.p n).has)(i:Nat):us {s with k:=s.k.put n x} i↔us s i:=Kn.Ga hx s.k.bk i
theorem ak.Ph (h:ak w base s){n:Nat}{x:Pr}(hx:x.has=(s.k.p n).has)(hm:x.mem=(s.k.p n).mem)(hb:x.box=(s.k.p n).box)(f:af (s.A 0) w w')(hk: ∃C,w'.heap[s.A 0]? =some (.cells C 86 (0,0))/\C.size=253)
  (hc: ∀o,o<253->w'.cell? ⟨s.A 0,o,none⟩=some (Kn.kc {s with k:=s.k.put n x} o)):ak w' base {s with k:=s.k.put n x}/\KF s w {s with k:=s.k.put n x} w':=by
 have o:=h.others (az (by omega)) f;have pu:=Kn.yj (s:=s) hx;refine⟨⟨hk,hc,h.sp.same (o 1 (az (by omega)) (by omega)),(o 2 (az (by omega)) (by omega)).trans h.gr,h.sc.same (o 3 (az (by omega)) (by omega)),h.bk.same (o 4 (az (by omega)) (by omega)) (o 5 (az (by omega)) (by omega)),h.fi.same (o 8 (az (by omega)) (by omega)),h.fo.same (o 6 (az (by omega)) (by omega)),h.pi.same (o 7 (az (by omega)) (by omega)),
  fun j hj jh=>?_,fun j hj jh=>?_,
  fun n hn hh=>(h.tb n hn hh).same (o _ (Kn.ja hn hh) (by omega)) (fun g eg=>by have:=o _ (Kn.iT hn hh eg) (by omega);rwa [h.ro n hn hh g eg]at this),h.ro,fun i j hi hj=>h.inj i j ((pu i).1 hi) ((pu j).1 hj),fun i hi=>h.low i ((pu i).1 hi)⟩,KF.one _ (az (by omega)) f rfl (fun i hi=>(pu i).1 hi)⟩
 ·by_cases c:j=n
  ·subst c;rw[show((s.k.put j x).p j)=x from Kn.ai _ _ _]at jh|-;rw[hm];rw[hx]at jh;exact(h.me j hj jh).same (o _ (Kn.gP hj jh) (by omega))
  ·rw[show((s.k.put n x).p j)=s.k.p j from Kn.ao _ _ _ _ c]at jh|-;exact(h.me j hj jh).same (o _ (Kn.gP hj jh) (by omega))
 ·by_cases c:j=n
  ·subst c;rw[show((s.k.put j x).p j)=x from Kn.ai _ _ _]at jh|-;rw[hb];rw[hx]at jh;exact(h.bx j hj jh).same (o _ (Kn.iQ hj jh) (by omega))
  ·rw[show((s.k.put n x).p j)=s.k.p j from Kn.ao _ _ _ _ c]at jh|-;exact(h.bx j hj jh).same (o _ (Kn.iQ hj jh) (by omega))
theorem ak.Es (h:ak w base s){n j:Nat}(hn:n<20)(hj:j<12){x:Pr}(v:Value)(hx:x.has=(s.k.p n).has)(hm:x.mem=(s.k.p n).mem)(hb:x.box=(s.k.p n).box)(hv: ∀a b i,i<12->Kn.dV a b x i=if i=j then v else Kn.dV a b (s.k.p n) i):
  ak (w.setCell ⟨s.A 0,n*12+j,none⟩ v) base {s with k:=s.k.put n x}/\KF s w {s with k:=s.k.put n x} (w.setCell ⟨s.A 0,n*12+j,none⟩ v):=by
 obtain⟨C,e,sz⟩:=h.kT;refine h.Ph hx hm hb ((af.refl _ _).setCell _ _) ⟨_,bC e _ v,by simpa using sz⟩ (fun o ho=>?_);rw[Kn.vD];by_cases c:o=n*12+j
 ·subst c;rw[cL e _ v (by omega),aJ ⟨by omega,by omega⟩,show(n*12+j)%12=j by omega,hv _ _ j hj,aJ rfl]
 ·rw[cC e _ _ v (bQ c)];by_cases d:o<240/\o/12=n
  ·rw[aJ d,hv _ _ _ (by omega),aI (by omega),h.dC o ho];unfold Kn.kc Kn.pc;rw[aJ d.1,d.2]
  ·rw[aI d];exact h.dC o ho
theorem ak.PQ (h:ak w base s){n:Nat}(hn:n<20)(v:Nat):ak (w.setCell ⟨s.A 0,n*12,none⟩ (.int .i64 (v:Int))) base {s with k:=s.k.put n {s.k.p n with st:=v}}/\KF s w {s with k:=s.k.put n {s.k.p n with st:=v}} (w.setCell ⟨s.A 0,n*12,none⟩ (.int .i64 (v:Int))):=
 h.Es hn (j:=0) (by omega) _ rfl rfl rfl (fun a b i hi=>by
  match i,hi with
  |0,_=>rfl
  |i+1,_=>rw[aI (by omega)];rfl)
theorem ak.Bf (h:ak w base s){n:Nat}(hn:n<20)(v:Int):ak (w.setCell ⟨s.A 0,n*12+1,none⟩ (.int .i64 v)) base {s with k:=s.k.put n {s.k.p n with par:=v}}/\KF s w {s with k:=s.k.put n {s.k.p n with par:=v}} (w.setCell ⟨s.A 0,n*12+1,none⟩ (.int .i64 v)):=
 h.Es hn (j:=1) (by omega) _ rfl rfl rfl (fun a b i hi=>by
  match i,hi with
  |0,_=>rfl
  |1,_=>rfl
  |i+2,_=>rw[aI (by omega)];rfl)
theorem ak.Ms (h:ak w base s){n:Nat}(hn:n<20)(v:Int):ak (w.setCell ⟨s.A 0,n*12+3,none⟩ (.int .i64 v)) base {s with k:=s.k.put n {s.k.p n with code:=v}}/\KF s w {s with k:=s.k.put n {s.k.p n with code:=v}} (w.setCell ⟨s.A 0,n*12+3,none⟩ (.int .i64 v)):=
 h.Es hn (j:=3) (by omega) _ rfl rfl rfl (fun a b i hi=>by
  match i,hi with
  |0,_=>rfl
  |1,_=>rfl
  |2,_=>rfl
  |3,_=>rfl
  |i+4,_=>rw[aI (by omega)];rfl)
def Kn.eS (k:Kp)(n f:Nat)(v:Int):Kp:=k.put n {k.p n with fd:=fun i=>if i=f then v else(k.p n).fd i}
theorem ak.pg (h:ak w base s){n f:Nat}(hn:n<20)(hf:f<6)(v:Int):ak (w.setCell ⟨s.A 0,n*12+6+f,none⟩ (.int .i64 v)) base {s with k:=Kn.eS s.k n f v}/\KF s w {s with k:=Kn.eS s.k n f v} (w.setCell ⟨s.A 0,n*12+6+f,none⟩ (.int .i64 v)):=by
 rw[Nat.add_assoc];exact h.Es hn (j:=6+f) (by omega) _ rfl rfl rfl (fun a b i hi=>by
  unfold Kn.dV;by_cases c:i=6+f
  ·rw[aJ c,aI (by omega),aI (by omega),aI (by omega),aI (by omega),aI (by omega),aI (by omega)];simp[show i-6=f by omega]
  ·rw[aI c];by_cases d:i<6
   ·have q:i=0\/i=1\/i=2\/i=3\/i=4\/i=5:=by omega
    rcases q with rfl|rfl|rfl|rfl|rfl|rfl<;>rfl
   ·rw[aI (by omega),aI (by omega),aI (by omega),aI (by omega),aI (by omega),aI (by omega)];simp[show i-6≠f by omega,show i≠0 by omega,show i≠1 by omega,show i≠2 by omega,show i≠3 by omega,show i≠4 by omega,show i≠5 by omega])
theorem ak.tE (h:ak w base s){n:Nat}(hn:n<20)(hh:(s.k.p n).has=true){X:Nat->S1}(u:CX w' (s.A (29+n)) X)(f:af (s.A (29+n)) w w'):ak w' base {s with k:=s.k.put n {s.k.p n with box:=X}}/\KF s w {s with k:=s.k.put n {s.k.p n with box:=X}} w':=by
 have o:=h.others (Kn.iQ hn hh) f;have pu:=Kn.yj (s:=s) (n:=n) (x:={s.k.p n with box:=X}) rfl;have pk: ∀x,Kn.kc {s with k:=s.k.put n {s.k.p n with box:=X}} x=Kn.kc s x:=fun x=>by
  rw[Kn.vD];by_cases c:x<240/\x/12=n
  ·rw[aJ c];unfold Kn.kc Kn.pc;rw[aJ c.1,c.2];rfl
  ·rw[aI c]
 refine⟨⟨by rw[show({s with k:=s.k.put n {s.k.p n with box:=X}}:St).A 0=s.A 0 from rfl,o 0 (az (by omega)) (by omega)];exact h.kT,fun x hx=>by rw[pk];exact(aV (o 0 (az (by omega)) (by omega))).trans (h.dC x hx),h.sp.same (o 1 (az (by omega)) (by omega)),(o 2 (az (by omega)) (by omega)).trans h.gr,h.sc.same (o 3 (az (by omega)) (by omega)),h.bk.same (o 4 (az (by omega)) (by omega)) (o 5 (az (by omega)) (by omega)),h.fi.same (o 8 (az (by omega)) (by omega)),h.fo.same (o 6 (az (by omega)) (by omega)),h.pi.same (o 7 (az (by omega)) (by omega)),
  fun j hj jh=>?_,fun j hj jh=>?_,
  fun n hn hh=>(h.tb n hn hh).same (o _ (Kn.ja hn hh) (by omega)) (fun g eg=>by have:=o _ (Kn.iT hn hh eg) (by omega);rwa [h.ro n hn hh g eg]at this),h.ro,fun i j hi hj=>h.inj i j ((pu i).1 hi) ((pu j).1 hj),fun i hi=>h.low i ((pu i).1 hi)⟩,KF.one _ (Kn.iQ hn hh) f rfl (fun i hi=>(pu i).1 hi)⟩
 ·by_cases c:j=n
  ·subst c;rw[show((s.k.put j {s.k.p j with box:=X}).p j)={s.k.p j with box:=X}from Kn.ai _ _ _];exact(h.me j hj hh).same (o _ (Kn.gP hj hh) (by omega))
  ·rw[show((s.k.put n {s.k.p n with box:=X}).p j)=s.k.p j from Kn.ao _ _ _ _ c]at jh|-;exact(h.me j hj jh).same (o _ (Kn.gP hj jh) (by omega))
 ·by_cases c:j=n
  ·subst c;rw[show((s.k.put j {s.k.p j with box:=X}).p j)={s.k.p j with box:=X}from Kn.ai _ _ _];exact u
  ·rw[show((s.k.put n {s.k.p n with box:=X}).p j)=s.k.p j from Kn.ao _ _ _ _ c]at jh|-;exact(h.bx j hj jh).same (o _ (Kn.iQ hj jh) (by omega))

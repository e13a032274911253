import Derived.Test.YtpmmdkcfenjiaaaGreatDoorRows
import Derived.LaidMore
import Derived.Lay
import Derived.SevenTiedAt
import Derived.Test.YtpmmdkcfenjiaaaGreatDoorGat
set_option maxRecDepth 100000
set_option maxHeartbeats 4000000
set_option linter.unusedVariables false
set_option linter.unusedSimpArgs false
namespace Go.Proofs.YtpmmdkcfenjiaaaGreatDoor
open Value renaming int->aa,slice->aj,string->ak,bool->ar
open IntKind renaming i64->az
open Ending renaming returned->bf
open Obj renaming cells->bh
open Option renaming some->bj,none->bu
open Bool renaming true->bw,false->bA
open _root_.Go.Proofs.Tryz (prog)
open Go.RowKit
theorem xM(b1 b2 o1 o2 n c1 c2:Nat)(f:Nat->Int)(hn:n<1000000)(w:bD)(h1:∀i,i<n->w.cell? ⟨b1,o1+i,bu⟩=bj (aa az (f i)))(h2:∀i,i<n->w.cell? ⟨b2,o2+i,bu⟩=bj (aa az (f i))):
  Calls prog 17 #[aj (bj ⟨b1,o1,bu⟩) n c1,aj (bj ⟨b2,o2,bu⟩) n c2] w λe w'=>e=bf (ar bw)/\∃k,w'=w.drewN k:=by
 go_in
 go_wp2
 go_loopw [5] (λi wr=>∃(k nq:Nat),k<=n/\i=aa az k/\wr=w.drewN nq) (λi _=>n-(intOf i).toNat)
 case atStart=>exact⟨0,0,aC _,rfl,rfl⟩
 case round=>
  obtain⟨k,nq,hk,rfl,rfl⟩:=hrel;by_cases hlt:k<n
  .have g1:=h1 k hlt;have g2:=h2 k hlt;have hlt':(k:Int)<(n:Int):=bB
   clear h1 h2;go_wp2
   go_quiet (fail)
   go_wp2
   go_roundw
   case rel=>exact⟨k+1,_,bB,by go_num,rfl⟩
   case measure=>simp[intOf];omega
  .go_wp2
   go_ret
   exact⟨rfl,_,rfl⟩
open Kn (Pr Kp St us KB KJ VI EI KH)
section
theorem FH(Wr:Nat)(s:St)(w:bD)(h:bP w Wr s):Calls prog 24 #[.pointer (bj ⟨s.A 0,0,bu⟩)] w λe w'=>∃v,e=bf v/\LO w (Sp.all s.k.sp) v w':=by
 have AL:=hZ (QT (s.A 1) s.k.sp w h.sp);have c:=h.wQ;generalize s.A 0=kb at*;generalize s.A 1=a1 at*;clear h;go_in
 go_wp2_with fail
 refine AL.mono ?_;rintro e w1 ⟨v,rfl,lo⟩;have L:=hZ lo;clear lo;go_wp2
 go_ret
 exact⟨v,rfl,L.v⟩
theorem Er{u w:bD}{L:List Nat}{v:Value}(h:LO u L v w)(l0:0<L.length)(l9:L.length<9){C:Array Value}{T:TypeId}(hC:∀i,i<L.length->C[i]? =bj (aa az ((L.getD i 0:Nat):Int))):Calls prog 17 #[v,aj (bj ⟨w.heap.size,0,bu⟩) L.length L.length] (w.alloc (bh C T)) λe w'=>e=bf (ar bw)/\Below w.heap.size w w':=by
 obtain⟨gg,cap,rfl,gl,gc⟩:=h.cells l0;have b:=(aQ w.heap.size w).alloc (aL _) (bh C T);refine(xM gg w.heap.size 0 0 L.length cap L.length (λi=>((L.getD i 0:Nat):Int)) bB _ (λi hi=>(b.cell (p:=⟨gg,0+i,bu⟩) gl).trans (gc i hi)) (λi hi=>by rw[bS (heap_alloc_new w _),Nat.zero_add];exact hC i hi)).mono ?_;rintro e w' ⟨rfl,k,rfl⟩;exact⟨rfl,b.trans ((below_drewN _ k).mono b.size)⟩
end
theorem Kn.CG.Tg{k:Kp}(b:Kn.wM k):Kn.CG k:=by
 obtain⟨p0,pn,_⟩:=b.p;have cz:∀m,m≠0->∀g,Kn.cp (k.p m) g=0/\Kn.cq (k.p m) g=0:=λm m0 g=>by
  rw[pn m m0];exact⟨aI (λx=>x.1 rfl),aI (λx=>x.1 rfl)⟩
 have c0:∀g:Nat,Kn.cp (k.p 0) g=(if g=0 then 1 else 0)/\Kn.cq (k.p 0) g=0:=λg=>by
  rw[p0];unfold Kn.cp Kn.cq;have r:Mv.cU (Kn.gX 6).mem 16=0:=rfl;rw[r];refine⟨?_,by split<;>rfl⟩;by_cases c:g=0
  .rw[aJ c,aJ ⟨by show(1:Nat)≠0;decide,by rw[c];rfl⟩]
  .rw[aI c,aI (λx=>c (by have:(0:Int)=(g:Int):=x.2;omega))]
 have s:∀g M,Kn.sm (λm=>Kn.cp (k.p m) g) (M+1)=(if g=0 then 1 else 0)/\Kn.sm (λm=>Kn.cq (k.p m) g) (M+1)=0:=λg M=>by
  induction M with
  |zero=>exact⟨by show 0+Kn.cp (k.p 0) g=_;rw[(c0 g).1];omega,by show 0+Kn.cq (k.p 0) g=0;rw[(c0 g).2];rfl⟩
  |succ M ih=>exact⟨by show Kn.sm _ (M+1)+Kn.cp (k.p (M+1)) g=_;rw[ih.1,(cz (M+1) bB g).1];omega,by show Kn.sm _ (M+1)+Kn.cq (k.p (M+1)) g=_;rw[ih.2,(cz (M+1) bB g).2];rfl⟩
 have gr:k.gr=Gr.gD Gr.t0 Gr.W0 0 1 0:=by obtain⟨_,_,rfl⟩:=b;rfl
 have t:∀g,g<10->(Gr.gD Gr.t0 Gr.W0 0 1 0 g).op=(if g=0 then 1 else 0)/\(Gr.gD Gr.t0 Gr.W0 0 1 0 g).oq=0:=by decide+kernel
 refine⟨λg hg=>?_,λg hg=>?_,λm hm e=>?_⟩
 .rw[gr,(t g hg).1];exact(s g 19).1.symm
 .rw[gr,(t g hg).2];exact(s g 19).2.symm
 .by_cases c:m=0
  .subst c;exact⟨0,by rw[p0];rfl,bB,by rw[gr];decide+kernel⟩
  .rw[pn m c]at e;exact aZ rfl e
structure GW (w:bD)(kb N:Nat)(d:Nat->Nat)(s:St)(W:bD):Prop where
 kw:KW w kb N d s W
 cg:Kn.CG s.k
 rc:Kn.RC s.k
theorem GW.below{w W W':bD}{kb N:Nat}{d:Nat->Nat}{s:St}(h:GW w kb N d s W)(b:Below W.heap.size W W'):GW w kb N d s W':=⟨h.kw.below b,h.cg,h.rc⟩
section
theorem Po(a0:Option Addr)(b0 o0 n0 c0:Nat)(ax:Nat->fU)(w:bD)(ha:0<n0->a0=bj ⟨b0,o0,bu⟩)(hc:∀i,i<n0->∀j,j<8->w.cell? ⟨b0,o0+i*8+j,bu⟩=bj ((ax i).cell j)):
  Calls prog 7 #[aj a0 n0 c0] w λe w'=>e=bf (ar bw)/\Below w.heap.size w w':=by
 have H0:=hZ (aK ha hc);clear ha hc;go_in
 go_wp2_with fail
 refine(IK _).mono ?_;rintro e w1 ⟨s,rfl,bg,kh,kk,b1⟩;obtain⟨kb,hkb⟩:=nJ (s.A 0);have S1:Hid (GW w kb 2 (λ_=>1) s w1):=hZ ⟨⟨b1,kk,kh,hkb⟩, .Tg bg, .Tg bg⟩;rw[hkb];clear bg kh kk b1 hkb;have FW:=hZ (Rl a0 b0 o0 n0 c0 120 ax w1 bB H0.1 (λi hi j hj=>by
  have bl:b0<w.heap.size:=bZ _ _ (H0.2 i hi j hj);exact(S1.kw.cZ.cell (p:=⟨b0,o0+i*8+j,bu⟩) bl).trans (H0.2 i hi j hj)))
 go_wp2_with fail
 refine FW.mono ?_;rintro e w2 ⟨v,rfl,lt,hw⟩;subst w2;cases v
 .go_wp2
  go_ret
  exact⟨rfl,S1.kw.cZ⟩
 .obtain⟨hn,lt⟩:=lt rfl;have LT:=hZ lt;clear lt FW;go_wp2_with fail
  go_loopw [5] (λi wr=>∃(k:Nat) (s:St) (N:Nat) (d:Nat->Nat),i=aa az k/\k<=n0/\N<=2+2*k/\Hid (GW w kb N d s wr)) (λi _=>n0-(intOf i).toNat)
  case atStart=>exact⟨0,s,2,_,rfl,bB,bB,S1⟩
  case round=>
   clear S1;obtain⟨k,s,N,d,rfl,hk,hN,S⟩:=hrel;by_cases hlt:k<n0
   .as_aux_lemma=>
    have hltI:(k:Int)<(n0:Int):=bB
    have hae:=H0.1 bB;subst hae;have AC:=hZ (S.kw.act bB (ax k) (LT.v k hlt));have cl:∀j,j<8->wr.cell? ⟨b0,o0+k*8+j,bu⟩=bj ((ax k).cell j):=λj hj=>(S.kw.cZ.cell (p:=⟨b0,o0+k*8+j,bu⟩) (bZ _ _ (H0.2 k hlt j hj))).trans (H0.2 k hlt j hj);have q0:wr.cell? ⟨b0,o0+k*8,bu⟩=bj (ak (ax k).kind):=cl 0 bB;have q1:wr.cell? ⟨b0,o0+k*8+1,bu⟩=bj (aa az (ax k).a):=cl 1 bB;have q2:wr.cell? ⟨b0,o0+k*8+2,bu⟩=bj (aa az (ax k).b):=cl 2 bB;have q3:wr.cell? ⟨b0,o0+k*8+3,bu⟩=bj (aa az (ax k).c):=cl 3 bB;have q4:wr.cell? ⟨b0,o0+k*8+4,bu⟩=bj (aa .u64 (ax k).key):=cl 4 bB;have q5:wr.cell? ⟨b0,o0+k*8+5,bu⟩=bj (ar (ax k).on):=cl 5 bB;have q6:wr.cell? ⟨b0,o0+k*8+6,bu⟩=bj (ak (ax k).s):=cl 6 bB;have q7:wr.cell? ⟨b0,o0+k*8+7,bu⟩=bj (ak (ax k).t):=cl 7 bB;clear cl;go_wp2_with fail
    refine AC.mono ?_;rintro e w5 ⟨_,_,_,_,s',d',rfl,r,_,k5⟩;have S5:Hid (GW w kb (N+2) d' s' w5):=hZ ⟨k5,S.cg.ac S.kw.kh r,S.rc.ac S.kw.kh r⟩;clear k5 r AC q0 q1 q2 q3 q4 q5 q6 q7;go_wp2
    go_roundw
    case rel=>exact⟨k+1,s',N+2,d',by go_num,bB,bB,S5⟩
    case measure=>simp[intOf];omega
   .as_aux_lemma=>
    have hltI:¬(k:Int)<(n0:Int):=bB
    have HN:Hid (N<=242):=hZ bB;clear hN hk hlt H0 LT;go_wp2_with fail
    go_loopw [6] (λi wr=>∃(j:Nat) (s:St),i=aa az j/\j<=19/\Hid (GW w kb N d s wr/\∀m,j+1<=m->m<20->Kn.lv s.k m=bA)) (λi _=>(intOf i).toNat)
    case atStart=>exact⟨19,s,rfl,bB,S.v,λm h1 h2=>aZ h1 bB⟩
    case round=>
     clear S hltI;obtain⟨j,s,rfl,hj,S⟩:=hrel;by_cases j0:0<j
     .as_aux_lemma=>
      have j0I:(0:Int)<(j:Int):=bB
      have EX:=hZ (Bp w.heap.size N d s wr (by have:=HN.v;omega) (j:Int) 3 S.1.kw.kk S.1.kw.kh.ki);rw[S.1.kw.a0]at EX;go_wp2_with fail
      refine EX.mono ?_;rintro e w5 ⟨k',rfl,et,k5,f5⟩;have S5:Hid (GW w kb N d {s with k:=k'} w5/\∀m,(j-1)+1<=m->m<20->Kn.lv k' m=bA):=hZ ⟨⟨S.1.kw.step k5 f5 (S.1.kw.kh.exit et),S.1.cg.exit S.1.kw.kh et,(et.qd S.1.kw.kh.hx).rc S.1.kw.kh.hx S.1.rc⟩,λm h1 h2=>S.1.kw.kh.Rj bB bB S.2 et m bB h2⟩;clear et k5 f5 EX;go_wp2
      go_roundw
      case rel=>exact⟨j-1,_,by go_num,bB,S5⟩
      case measure=>simp[intOf];omega
     .as_aux_lemma=>
      have HJ:Hid (j=0):=hZ bB;have jI:¬(0:Int)<(j:Int):=bB
      clear j0 hj;go_wp2_with fail
      go_loopw [7] (λi wr=>∃(t:Nat) (s:St),i=aa az t/\t<=25/\Hid (GW w kb N d s wr/\(∀m,1<=m->m<20->Kn.lv s.k m=bA)/\Kn.p9 s.k 20<=19-t)) (λi _=>25-(intOf i).toNat)
      case atStart=>exact⟨0,s,rfl,bB,S.1,λm h1 h2=>S.2 m (by rw[HJ.v];omega) h2,Kn.Lx _ 19⟩
      case round=>
       clear S;obtain⟨t,s,rfl,ht,S⟩:=hrel;by_cases t25:t<25
       .as_aux_lemma=>
        have tI:(t:Int)<25:=bB
        have WT:=hZ (Bv w.heap.size N d s wr (by have:=HN.v;omega) 0 S.1.kw.kk S.1.kw.kh.ki.vi S.1.kw.kh.p0);rw[S.1.kw.a0]at WT;go_wp2_with fail
        refine WT.mono ?_;rintro e w5 ⟨p,c,E,k',rfl,wt,k5,f5⟩;obtain⟨cg,eE,nl,nz⟩:=S.1.cg.wait S.1.kw.kh S.2.1 wt;have S5:Hid (∀W,Below w5.heap.size w5 W->GW w kb N d {s with k:=k'} W/\(∀m,1<=m->m<20->Kn.lv k' m=bA)/\Kn.p9 k' 20<=19-(t+1)):=hZ (λW b=>⟨GW.below ⟨S.1.kw.step k5 f5 (S.1.kw.kh.wait wt),cg,(wt.qd S.1.kw.kh.hx).rc S.1.kw.kh.hx S.1.rc⟩ b,nl,by rw[nz];have:=S.2.2;omega⟩);clear wt k5 f5 WT cg nl nz;have b5:=(aQ w5.heap.size w5).alloc (aL _) (bh #[aa az (p:Int),aa az c] 54);have S6:=hZ (S5.v _ b5);clear b5;rcases eE with rfl|rfl
        .rw[bF];go_wp2
         go_roundw
         case rel=>exact⟨t+1,_,by go_num,bB,S6⟩
         case measure=>simp[intOf];omega
        .have NB:=hZ (λV=>rZ 2 V);rw[bM bE]at NB|-;go_wp2_with fail
         refine cG (NB.v _) ?_;go_wp2
         go_roundw
         case rel=>exact⟨t+1,_,by go_num,bB,S6⟩
         case measure=>simp[intOf];omega
       .as_aux_lemma=>
        have tI:¬(t:Int)<25:=bB
        have SZ:Hid (GW w kb N d s wr/\∀m,m<20->m≠0->(s.k.p m).st=0):=hZ ⟨S.1,Kn.Ea 20 (by have:=S.2.2;omega)⟩;clear S ht t25;go_wp2_with fail
        go_loopw [10] (λi wr=>∃(j:Nat) (s:St),i=aa az j/\j<=6/\Hid (GW w kb N d s wr/\(∀m,m<20->m≠0->(s.k.p m).st=0)/\∀i,i<j->(s.k.p 0).fd i= -1)) (λi _=>6-(intOf i).toNat)
        case atStart=>exact⟨0,s,rfl,bB,SZ.1,SZ.2,λi hi=>aZ hi bB⟩
        case round=>
         clear SZ tI;obtain⟨j,s,rfl,hj,S⟩:=hrel;by_cases j6:j<6
         .as_aux_lemma=>
          have jI:(j:Int)<6:=bB
          have CL:=hZ (wV w.heap.size s wr N 0 (j:Int) S.1.kw.kk S.1.kw.kh.ki.vi.kj (by have:=HN.v;omega));rw[S.1.kw.a0]at CL;go_wp2_with fail
          refine sC CL.v ?_;rintro w5 ⟨k5,f5⟩;have sc:=Kn.SC.xG s.k 0 (j:Int);have S5:Hid (GW w kb N d {s with k:=Kn.iZ s.k 0 (j:Int)} w5/\(∀m,m<20->m≠0->((Kn.iZ s.k 0 (j:Int)).p m).st=0)/\∀i,i<j+1->((Kn.iZ s.k 0 (j:Int)).p 0).fd i= -1):=hZ ⟨⟨S.1.kw.step k5 f5 (S.1.kw.kh.xG _ _),S.1.cg.sc sc,S.1.rc.xG S.1.kw.kh _ _⟩,λm hm m0=>by rw[(sc.p m).1];exact S.2.1 m hm m0,Kn.RY S.1.kw.kh j6 S.2.2⟩;clear sc k5 f5 CL;generalize Kn.iZ s.k 0 (j:Int)=k' at*;go_wp2
          go_roundw
          case rel=>exact⟨j+1,_,by go_num,bB,S5⟩
          case measure=>simp[intOf];omega
         .as_aux_lemma=>
          obtain rfl:j=6:=bB
          have UM:=hZ (wW w.heap.size N s wr 0 0 16 S.1.kw.kk S.1.kw.kh.ki.vi.kj (by obtain⟨Wy,t⟩:=S.1.kw.kh.ki.vi.kj.gr;exact t.small (by have:=HN.v;omega)));rw[S.1.kw.a0]at UM;go_wp2_with fail
          refine UM.mono ?_;rintro e w5 ⟨v,s',rfl,r5,k5,f5⟩;have r6:v= .nilIface/\s'.k=Kn.dj s.k 0 0 16:=by
           rcases r5 with⟨n,en,_,_,ev,ek⟩|⟨a,_⟩
           .obtain rfl:n=0:=bB
            rw[S.1.cg.sy S.1.kw.kh,bF]at ev;exact⟨ev,ek⟩
           .exact aZ (Kn.sD (n:=0) bB S.1.kw.kh.l0) a
          obtain⟨rfl,ek⟩:=r6;have S5:Hid (KW w kb N d s' w5/\Kn.GZ s'.k):=hZ ⟨S.1.kw.step k5 f5 (by rw[ek];exact S.1.kw.kh.vF bB S.1.kw.kh.l0 0 16),by rw[ek];exact .of S.1.cg S.1.rc S.1.kw.kh S.2.1 S.2.2⟩;clear r5 ek k5 f5 UM S hj j6;have KC:=hZ (Fz w.heap.size s' w5 S5.1.kk);rw[S5.1.a0,S5.2.zc S5.1.kh 8 (aL _),S5.2.open S5.1.kh 24 (aL _)]at KC;go_wp2_with fail
          refine KC.mono ?_;rintro e w6 ⟨nn,rfl,q,hw⟩;have S6:Hid (KW w kb N d s' w6/\Kn.GZ s'.k):=hZ ⟨S5.1.below (by rw[hw];exact below_drewN _ _),S5.2⟩;clear hw KC S5;obtain⟨g,Wy,eg,ways,t0,tq,tn⟩:=S6.2.Vd S6.1.kh;have SM:Hid (Gr.Small s'.k.gr/\Gr.eW s'.k.gr Wy):=hZ ⟨by obtain⟨Wy,t⟩:=S6.1.kh.ki.vi.kj.gr;exact t.small (by have:=HN.v;omega),ways⟩;have r0:Gr.wr s'.k.gr 0=0:=by
           obtain⟨Wz,t⟩:=S6.1.kh.ki.vi.kj.gr;unfold Gr.wr;rw[nK];exact aJ t.root.1
          have G0:=hZ (yX w.heap.size s' w6 0 S6.1.kk ways SM.1);have i3:Kn.mK s'.k.gr Wy 0 3=1:=by unfold Kn.mK;rw[aJ r0];exact t0
          have i4:Kn.mK s'.k.gr Wy 0 4=0:=by unfold Kn.mK;rw[aJ r0];exact tq 0
          rw[S6.1.a0,r0,bF,i3,i4]at G0;have TN:Hid (∀n:Nat,n≠0->Kn.mK s'.k.gr Wy n 4=0/\(Kn.mK s'.k.gr Wy n 3=0\/Kn.mK s'.k.gr Wy n 3=1/\g≠0)):=hZ (λn n0=>by
           unfold Kn.mK;by_cases c:Gr.wr s'.k.gr (n:Int)=0
           .rw[aJ c,aJ c];exact⟨tq n,tn n n0⟩
           .rw[aI c,aI c];exact⟨rfl, .inl rfl⟩)
          have EG:=hZ eg;clear ways t0 tq tn r0 i3 i4 eg;generalize Kn.mK s'.k.gr Wy 0=ga at*;go_wp2_with fail
          refine sC G0.v ?_;rintro w7 b7;have S7:Hid (∀W,Below w7.heap.size w7 W->KW w kb N d s' W):=hZ (λW b=>(S6.1.below b7).below b);clear b7 G0;go_upto_region 26 with fail
          refine cM (λW=>KW w kb N d s' W/\W.heap[w7.heap.size]? =bj (bh #[aa az (ga 0),aa az (ga 1),aa az (ga 2),aa az 1,aa az 0] 31 (0,0))) ⟨S7.v _ ((aQ _ _).alloc (aL _) _),heap_alloc_new w7 _⟩ ?_;rintro W8 h8;generalize w7.heap.size=gb at*;have S8:=hZ h8;have OF:=hZ (RB w.heap.size s' W8 0 S8.1.kk);rw[S8.1.a0,show Kn.cC s'.k 0=0 from Kn.sD (n:=0) bB S8.1.kh.l0,aJ rfl,bF,show(s'.k.p (0:Int).toNat).cD=(g:Int)from EG.v]at OF;clear h8 S7;go_wp2_with fail
          refine cG OF.v ?_;go_wp2_with fail
          go_loopw [18] (λi wr=>∃n:Nat,i=aa az n/\1<=n/\n<=10/\Hid (Below W8.heap.size W8 wr)) (λi _=>10-(intOf i).toNat)
          case atStart=>exact⟨1,rfl,bB,bB,aQ _ _⟩
          case round=>
           clear OF;obtain⟨n,rfl,n1,n10,B⟩:=hrel;by_cases nl:n<10
           .as_aux_lemma=>
            have nI:(n:Int)<10:=bB
            have GN:=hZ (yX w.heap.size s' wr (n:Int) (S8.1.below B.v).kk SM.2 SM.1);rw[S8.1.a0,(TN.v n bB).1]at GN;have T3:=hZ (TN.v n bB).2;generalize Kn.mK s'.k.gr Wy (n:Int)=gn at*;go_wp2_with fail
            refine sC GN.v ?_;rintro w9 b9;have B9:Hid (∀W,Below w9.heap.size w9 W->Below W8.heap.size W8 W):=hZ (λW b=>(B.trans (b9.mono B.size)).trans (b.mono (aH B.size b9.size)));clear b9 GN;go_upto_region 31 with fail
            refine cM (λW=>Below W8.heap.size W8 W/\W.heap[w9.heap.size]? =bj (bh #[aa az (gn 0),aa az (gn 1),aa az (gn 2),aa az (gn 3),aa az 0] 31 (0,0))) ⟨B9.v _ ((aQ _ _).alloc (aL _) _),heap_alloc_new w9 _⟩ ?_;rintro W10 ⟨b10,h10⟩;generalize w9.heap.size=nb at*;have B10:=hZ b10;have y3:W10.cell? ⟨nb,3,bu⟩=bj (aa az (gn 3)):=by rw[bS h10];rfl
            have y4:W10.cell? ⟨nb,4,bu⟩=bj (aa .i64 0):=by rw[bS h10];rfl
            clear b10 h10 B9;by_cases we:Gr.wr s'.k.gr (n:Int)=0
            .rw[we,bF];rcases T3.v with e|⟨e,g0⟩
             .rw[e]at y3;go_wp2
              go_roundw
              case rel=>exact⟨n+1,by go_num,bB,bB,B10⟩
              case measure=>simp[intOf];omega
             .rw[e]at y3;have gB:((g:Int)==0)=bA:=by simp;omega
              have gP:¬(g:Int)=0:=bB
              go_wp2
              go_roundw
              case rel=>exact⟨n+1,by go_num,bB,bB,B10⟩
              case measure=>simp[intOf];omega
            .rw[bM we];generalize Gr.wr s'.k.gr (n:Int)=we at*;go_wp2
             go_roundw
             case rel=>exact⟨n+1,by go_num,bB,bB,B10⟩
             case measure=>simp[intOf];omega
           .as_aux_lemma=>
            have nI:¬(n:Int)<10:=bB
            have S9:Hid (KW w kb N d s' wr):=hZ (S8.1.below B.v);have e8:=(B.block gb (aX.1 S8.2).1).trans S8.2;have y3:wr.cell? ⟨gb,3,bu⟩=bj (aa .i64 1):=by rw[bS e8];rfl
            have y4:wr.cell? ⟨gb,4,bu⟩=bj (aa .i64 0):=by rw[bS e8];rfl
            have LF:=hZ (IZ w.heap.size s' wr S9.kk S9.kh.ki.vi.kj);rw[S9.a0,S6.2.left S9.kh]at LF;clear e8 n1 n10 nl;go_wp2_with fail
            refine sC LF.v ?_;rintro w9 b9;have S10:Hid (KW w kb N d s' w9):=hZ (S9.below b9);have PR:=hZ (yY w.heap.size s' w9 S10.kk);rw[S10.a0,S6.2.live S10.kh]at PR;clear b9 LF y3 y4;go_wp2_with fail
            refine PR.mono ?_;rintro e w10 ⟨v,rfl,hL⟩;have SN:=hZ (Er hL (by show 0<1;omega) (by show 1<9;omega) (C:=#[aa az 0]) (T:=3) (λi hi=>by
             have hi:i<1:=hi
             match i,hi with
             |0,_=>rfl))
            have S11:Hid (KW w kb N d s' w10):=hZ (S10.below hL.cZ);obtain⟨gg,cap,rfl,gl,gc⟩:=hL.cells (by show 0<1;omega);clear hL gl gc PR;go_wp2_with fail
            refine sC SN.v ?_;rintro w11 b11;have S12:Hid (KW w kb N d s' w11):=hZ (S11.below b11);have SP:=hZ (FH w.heap.size s' w11 S12.kk);rw[S12.a0,S6.2.all S12.kh]at SP;clear b11 SN;go_wp2_with fail
            refine SP.mono ?_;rintro e w12 ⟨v,rfl,hL⟩;have SN:=hZ (Er hL (by show 0<1;omega) (by show 1<9;omega) (C:=#[aa az 0]) (T:=3) (λi hi=>by
             have hi:i<1:=hi
             match i,hi with
             |0,_=>rfl))
            have B12:=hZ (S12.below hL.cZ).cZ;obtain⟨gg,cap,rfl,gl,gc⟩:=hL.cells (by show 0<1;omega);clear hL gl gc SP;go_wp2_with fail
            refine sC SN.v ?_;rintro w13 b13;have B13:=hZ (B12.trans (b13.mono B12.size));clear b13 SN;go_wp2
            go_ret
            exact⟨rfl,B13.v⟩
theorem Sv(a:Option Addr)(len cap:Nat)(w:bD)(h:vQ w a len):
 Calls prog 7 #[aj a len cap] w λe w'=>e=bf (ar bw)/\Below w.heap.size w w':=Ng h λb o ax ha hc=>Po a b o len cap ax w ha hc
end
end Go.Proofs.YtpmmdkcfenjiaaaGreatDoor
namespace Go.Proofs.YtpmmdkcfenjiaaaGreatDoor.GoP
open Value renaming int->aa,slice->aj,string->ak,bool->ar
open IntKind renaming i64->az
open Ending renaming returned->bf
open Obj renaming cells->bh
open Option renaming some->bj,none->bu
open Bool renaming true->bw,false->bA
open _root_.Go.Proofs.Tryz (prog)
open Go.ChangeShapes Go.WideShapes Go.ChangeAt Go.RowKit
set_option linter.unusedVariables false
theorem own:ownKnob prog.godebug=none:=by kernel_rfl
theorem laidOut:laidOutB prog=bw:=by kernel_rfl
theorem lifted(os:Os)(started:os.Started)(H:Type)(enc:TypeId×Value->H):
  ReturnsInHanded {} Tryz.checked os 7 .any (λw args=>(Rows.topGoneSpec.pre enc prog Tryz.f7 Rows.topGoneRow.domain bA w args/\laidMetH prog Rows.topGoneRow.laid w)/\sizedMet enc prog Tryz.f7 (OpenSpec.ofChange Rows.topGoneSpec) bA w args)
   (Rows.topGoneSpec.post enc prog Tryz.f7 bA bw bA bA):=by
 refine returnsInHanded_of_change_and (C:=Tryz.checked) (X:=λw _=>laidMetH prog Rows.topGoneRow.laid w) (λ_ _ _ hh h=>h.of_heap hh) own started bC Tryz.func7
  (ChangeSpec.witness_shaped (enc:=enc) (C:=Tryz.checked) (os:=os) (X:=λw _=>laidMetH prog Rows.topGoneRow.laid w) bA (World.laidAll prog os Rows.topGoneRow.laid) #[aj bu 0 0] 8 (World.laidAll_os _ _ _)
   (World.shaped_of_ZipB bC bC) bC bC bC
   (by rw[MakeChecks.laidMetH_plain _ _ _ bC];exact laidMet_laidAll _ bC bC)) ?_
 intro W Wr args ds gs before hval0 hW hc _ hL _;have hval:∀(j:Nat) t v,Tryz.f7.params[j]? =bj t->args[j]? =bj v->Value.okWide prog W .any Wr t v:=hval0;have hW':=hW;obtain⟨p,q,hA0,hV,rfl,hfz,hnd⟩:=hW;have hA:DataW.TrodAll enc prog W 0 (λ_=>bw) bw Tryz.f7.params.toList args.toList ds p:=hA0;rw[Tryz.params7]at hA hval;obtain⟨v0,vs0,d0,ds0,p0,q0,hargs,rfl,rfl,h0,r0⟩:=trodAll_cons hA;obtain⟨rfl,rfl,rfl⟩:=trodAll_nil r0;obtain rfl:args=#[v0]:=by cases args;simp_all
 obtain⟨rfl,rfl⟩:=trodVars_none hV;obtain⟨a0,len0,cap0,rfl⟩:=okWide_slice Tryz.underlying22 (hval 0 22 v0 rfl rfl);have k0:=h0;have lt0:∀x∈p0,x.block<W.heap.size:=by obtain⟨m,hm⟩:=k0;exact DataW.trod_lt m _ _ _ hm
 have w0:vQ W a0 len0:=by
  obtain⟨fuel,hf⟩:=h0;exact QK (by simpa[Value.cells]using hf)
 clear hA0 hval0;refine(Sv a0 len0 cap0 W w0).mono λe W' ⟨he,cZ⟩=>?_;subst he;exact⟨_,rfl,_,_,_,[],_,[],hW',trodAll_mk1 (shut_bool Tryz.underlying4 _),(trodAll_cons_mk (Below.trod laidOut bC (of_decide_eq_true bC) k0 cZ lt0) trodAll_mk0),rfl,cZ.frame _,λh=>by cases h⟩
end Go.Proofs.YtpmmdkcfenjiaaaGreatDoor.GoP

import Derived.Test.YtpmmdkcfenjiaaaGreatDoorRows
import Derived.LaidMore
import Derived.Lay
import Derived.SevenTiedAt
import Derived.Test.YtpmmdkcfenjiaaaGreatDoorUbf
import Derived.Test.YtpmmdkcfenjiaaaGreatDoorUbg
set_option maxRecDepth 100000
set_option maxHeartbeats 4000000
set_option linter.unusedVariables false
set_option linter.unusedSimpArgs false
namespace Go.Proofs.YtpmmdkcfenjiaaaGreatDoor
open Value renaming int->aa,pointer->ai,slice->aj,string->ak,bool->ar,agg->au
open IntKind renaming i64->az,u64->bd
open Ending renaming returned->bf
open Obj renaming cells->bg
open Option renaming some->bh,none->bj
open _root_.Go.Proofs.Tryz (prog)
open Go.RowKit
open Kn (Pr Kp St us KB KJ VI EI KH)
structure KW (w:bD)(kb N:Nat)(d:Nat->Nat)(s:St)(W:bD):Prop where
 cM:Below w.heap.size w W
 kk:bH W w.heap.size s
 kh:KH N d s.k
 a0:s.A 0=kb
section
variable {w W W':bD}{kb N:Nat}{d:Nat->Nat}{s:St}
theorem KW.below(h:KW w kb N d s W)(b:Below W.heap.size W W'):KW w kb N d s W':=⟨h.cM.trans (b.mono h.cM.size),h.kk.below b,h.kh,h.a0⟩
theorem KW.step(h:KW w kb N d s W){s':St}{N':Nat}{d':Nat->Nat}(k:bH W' w.heap.size s')(f:KF s W s' W')(kh:KH N' d' s'.k):KW w kb N' d' s' W':=⟨f.behind h.kk h.cM (aL _) h.cM.size,k,kh,f.a0.trans h.a0⟩
end
theorem Pc(a:Option Addr)(b o n c m:Nat)(ax:Nat->gD)(w:bD)(hm:m<=1000)(ha:0<n->a=bh ⟨b,o,bj⟩)(h:∀i,i<n->∀j,j<8->w.cell? ⟨b,o+i*8+j,bj⟩=bh ((ax i).cell j)):Calls prog 10 #[aj a n c,aa az (m:Int)] w λe w'=>∃v:Bool,e=bf (ar v)/\(v=true->n<=m/\∀i,i<n->(ax i).s.size<2^59)/\w'=w:=by
 by_cases l:n<=m
 .refine(IW a b o n c m ax w bu bu ha h).mono ?_;rintro e w' ⟨v,rfl,lt,hw⟩;refine⟨v,rfl,λe=>⟨l,λi hi=>?_⟩,hw⟩;subst e;rcases lt with q|q
  .cases q
  .have:=(q.2 i hi).1;omega
 .refine(Pd a n c m w bu).mono ?_;rintro e w' ⟨rfl,hw⟩;exact⟨false,rfl,nofun,hw⟩
theorem KY{a:Option Addr}{len:Nat}{w:bD}(h:uQ w a len){P:Prop}(hP:∀(b o:Nat) (ax:Nat->gD),(0<len->a=bh ⟨b,o,bj⟩)->(∀i,i<len->∀j,j<8->w.cell? ⟨b,o+i*8+j,bj⟩=bh ((ax i).cell j))->P):P:=by
 by_cases h0:len=0
 .subst h0;exact hP 0 0 (λ_=>⟨⟨#[]⟩,0,0,0,0,false,⟨#[]⟩,⟨#[]⟩⟩) (λc=>aZ c bu) (λi hi=>aZ hi bu)
 .obtain⟨b,o,ax,ha,hc⟩:=h.2 bu;exact hP b o ax (λ_=>ha) hc
section
variable {w W W':bD}{kb N:Nat}{d:Nat->Nat}{s:St}
theorem KW.act(h:KW w kb N d s W)(hN:N<880)(x:gD)(hs:x.s.size<2^59):Calls prog 12 #[ai (bh ⟨kb,0,bj⟩),au #[ak x.kind,aa az x.a,aa az x.b,aa az x.c,aa bd x.key,ar x.on,ak x.s,ak x.t]] W λe w'=>∃(n m E:Int) (t:bU) (s':St) (d':Nat->Nat),e=bf (au #[aa az n,aa az m,aa az E,ak t])/\(Kn.vQ N s.k x n E s'.k\/Kn.NK x/\Kn.AZ s.k x s'.k)/\KF s W s' w'/\KW w kb (N+2) d' s' w':=by
 have:=OJ w.heap.size N d s W x h.kk h.kh hN h.cM.size hs;rw[h.a0]at this;refine this.mono ?_;rintro e w' ⟨n,m,E,t,s',rfl,r,k,f⟩;obtain⟨d',q⟩:∃d',KH (N+2) d' s'.k:=r.elim h.kh.ac (λr=>h.kh.di r.2);exact⟨n,m,E,t,s',d',rfl,r,f,h.step k f q⟩
end
namespace Kn
def pU(k:Kp)(z j t:Nat):Bool:=decide (t∈(Sp.dX k.sp z).take j)&&lv k t
theorem Mx{k:Kp}{z j m:Nat}(e:(Sp.dX k.sp z)[j]? =bh m)(t:Nat):pU k z (j+1) t=(pU k z j t||(decide (t=m)&&lv k m)):=by
 unfold pU;obtain⟨hj,hm⟩:=aY.1 e;have e1:(t∈(Sp.dX k.sp z).take (j+1))↔(t∈(Sp.dX k.sp z).take j\/t=m):=by rw[List.take_succ_eq_append_getElem hj,List.mem_append,List.mem_singleton,hm]
 rw[Bool.eq_iff_iff];simp only[Bool.and_eq_true,Bool.or_eq_true,decide_eq_true_eq,e1];grind
theorem Pw{k:Kp}{z j m N:Nat}{d:Nat->Nat}(h:KH N d k)(hz:z<6)(e:(Sp.dX k.sp z)[j]? =bh m):pU k z j m=false:=by
 unfold pU;have nd:=h.ki.vi.iv.nd hz;obtain⟨hj,rfl⟩:=aY.1 e;rw[Bool.and_eq_false_iff];left;apply aT;intro c;obtain⟨i,hi,q⟩:=List.getElem_of_mem c;rw[List.length_take]at hi;rw[List.getElem_take]at q;have:=(List.getElem_inj (h₀:=by omega) (h₁:=hj) nd).1 q;omega
end Kn
section
theorem Nt(a0:Option Addr)(b0 o0 n0 c0:Nat)(ax:Nat->gD)(w:bD)(ha:0<n0->a0=bh ⟨b0,o0,bj⟩)(hc:∀i,i<n0->∀j,j<8->w.cell? ⟨b0,o0+i*8+j,bj⟩=bh ((ax i).cell j)):
  Calls prog 6 #[aj a0 n0 c0] w λe w'=>e=bf (ar true)/\Below w.heap.size w w':=by
 have H0:=hJ (aK ha hc);go_in
 go_wp2_with fail
 refine(GD _).mono ?_;rintro e w1 ⟨s,rfl,_,kh,kk,b1⟩;obtain⟨kb,hkb⟩:=hU (s.A 0);have S1:Hid (KW w kb 2 (λ_=>1) s w1):=hJ ⟨b1,kk,kh,hkb⟩;rw[hkb];have FW:=hJ (Pc a0 b0 o0 n0 c0 120 ax w1 bu H0.1 (λi hi j hj=>by
  have bl:b0<w.heap.size:=bZ _ _ (H0.2 i hi j hj);exact(S1.cM.cell (p:=⟨b0,o0+i*8+j,bj⟩) bl).trans (H0.2 i hi j hj)))
 go_wp2_with fail
 refine FW.mono ?_;rintro e w2 ⟨v,rfl,lt,hw⟩;subst w2;cases v
 .go_wp2
  go_ret
  exact⟨rfl,S1.cM⟩
 .obtain⟨hn,lt⟩:=lt rfl;have LT:=hJ lt;go_wp2_with fail
  go_loopw [5] (λi wr=>∃(k:Nat) (s:St) (N:Nat) (d:Nat->Nat),i=aa az k/\k<=n0/\N<=2+2*k/\Hid (KW w kb N d s wr)) (λi _=>n0-(intOf i).toNat)
  case atStart=>exact⟨0,s,2,_,rfl,bu,bu,S1⟩
  case round=>
   obtain⟨k,s,N,d,rfl,hk,hN,S⟩:=hrel;by_cases hlt:k<n0
   .as_aux_lemma=>
    have hltI:(k:Int)<(n0:Int):=bu
    have hae:=H0.1 bu;subst hae;have AC:=hJ (S.act bu (ax k) (LT.v k hlt));have cl:∀j,j<8->wr.cell? ⟨b0,o0+k*8+j,bj⟩=bh ((ax k).cell j):=λj hj=>(S.cM.cell (p:=⟨b0,o0+k*8+j,bj⟩) (bZ _ _ (H0.2 k hlt j hj))).trans (H0.2 k hlt j hj);have q0:wr.cell? ⟨b0,o0+k*8,bj⟩=bh (ak (ax k).kind):=cl 0 bu;have q1:wr.cell? ⟨b0,o0+k*8+1,bj⟩=bh (aa az (ax k).a):=cl 1 bu;have q2:wr.cell? ⟨b0,o0+k*8+2,bj⟩=bh (aa az (ax k).b):=cl 2 bu;have q3:wr.cell? ⟨b0,o0+k*8+3,bj⟩=bh (aa az (ax k).c):=cl 3 bu;have q4:wr.cell? ⟨b0,o0+k*8+4,bj⟩=bh (aa bd (ax k).key):=cl 4 bu;have q5:wr.cell? ⟨b0,o0+k*8+5,bj⟩=bh (ar (ax k).on):=cl 5 bu;have q6:wr.cell? ⟨b0,o0+k*8+6,bj⟩=bh (ak (ax k).s):=cl 6 bu;have q7:wr.cell? ⟨b0,o0+k*8+7,bj⟩=bh (ak (ax k).t):=cl 7 bu;go_wp2_with fail
    refine AC.mono ?_;rintro e w5 ⟨_,_,_,_,s',d',rfl,_,_,k5⟩;have S5:=hJ k5;go_wp2
    go_roundw
    case rel=>exact⟨k+1,s',N+2,d',by go_num,bu,bu,S5⟩
    case measure=>simp[intOf];omega
   .have hltI:¬(k:Int)<(n0:Int):=bu
    have PR:=hJ (xQ w.heap.size s wr S.kk);rw[S.a0]at PR;go_wp2_with fail
    refine PR.mono ?_;rintro e w3 ⟨v3,rfl,hL⟩;have l0:0<(Kn.dV s.k 20).length:=by
     have:(0:Nat)∈Kn.dV s.k 20:=by unfold Kn.dV;simp;exact S.kh.l0
     exact List.length_pos_of_mem this
    have l20:=Kn.zZ s.k 20;obtain⟨gg,cap,rfl,gl,gc⟩:=hL.cells l0;have AT:=hJ (λi=>Kn.Mq (k:=s.k) (i:=i));have S3:=hJ (aK (S.below hL.cM) (aK gl (λi hi=>by have:=gc i hi;rwa [Nat.zero_add]at this:∀i,i<(Kn.dV s.k 20).length->w3.cell? ⟨gg,i,bj⟩=bh (aa az (((Kn.dV s.k 20).getD i 0:Nat):Int)))));generalize Kn.dV s.k 20=LL at*;obtain⟨ln,hln⟩:=hU (LL.length);rw[hln]at l0 l20 AT S3|-;go_wp2_with fail
    go_loopw [7] (λi wr=>∃j:Nat,i=aa az j/\j<=ln/\Hid (Below w3.heap.size w3 wr)) (λi _=>ln-(intOf i).toNat)
    case atStart=>exact⟨0,rfl,aC _,aQ _ _⟩
    case round=>
     obtain⟨j,rfl,hj,B⟩:=hrel;by_cases jl:j<ln
     .as_aux_lemma=>
      have jlI:(j:Int)<(ln:Int):=bu
      obtain⟨n,en⟩:=hU (LL.getD j 0);obtain⟨hn,lv⟩:n<20/\Kn.lv s.k n=true:=by rw[<-en];exact AT.v j jl
      have KH:=hJ S3.1.kh;have A0:=hJ S3.1.a0;have CG:Hid (∀V,Below w3.heap.size w3 V->V.cell? ⟨gg,j,bj⟩=bh (aa az (n:Int))):=hJ (λV b=>by rw[b.cell (p:=⟨gg,j,bj⟩) S3.2.1,S3.2.2 j jl,en]);have KV:Hid (∀V,Below w3.heap.size w3 V->bH V w.heap.size s):=hJ (λV b=>(S3.1.below b).kk);have AE:=hJ (Kn.og hn lv);have SF:=hJ (KH.self hn lv);have PF:=hJ (KH.par hn lv);have LV:=hJ lv;have SE:=hJ (Jm w.heap.size s wr (n:Int) (KV.v _ B.v) KH.ki.vi.iv.ma);rw[A0.v,AE.v,bB]at SE;obtain⟨p,ep⟩:=hU (Kn.sP s.k (n:Int));rw[ep]at SE SF;have S2:=hJ (sF w.heap.size s wr (n:Int) (p:Int) (KV.v _ B.v) KH.ki.vi.iv.oK);rw[A0.v,SF.2.1,SF.2.2,bB]at S2;have c1:=CG.v wr B.v;go_wp2_with fail
      refine cr SE.v ?_;go_wp2_with fail
      refine sC S2.v ?_;rintro w5 b5;have B5:Hid (Below w3.heap.size w3 w5):=hJ (B.trans (b5.mono B.size));have c1:=CG.v w5 B5.v;have LI:=hJ (zS w.heap.size s w5 (n:Int) (KV.v _ B5.v) KH.ki.vi.iv.ma);rw[A0.v]at LI;go_wp2_with fail
      refine LI.mono ?_;rintro e w6 ⟨v6,w0,L6,rfl,hL6,b6,o6⟩;have hL6:=hL6 AE.v;rw[AE.v,bB];obtain⟨z,o,z6,zh,iz⟩:=KH.sp hn LV.v;have eL:L6=Kn.lZ s.k z (Sp.dX s.k.sp z):=by
       rw[hL6,iz];unfold dL;rw[Sp.gw z6 zh,aJ rfl,hZ]
      have l6:L6.length=(Sp.dX s.k.sp z).length:=by rw[eL];simp[Kn.lZ]
      have ML:Hid (∀x,x<L6.length->∃m,(Sp.dX s.k.sp z)[x]? =bh m/\m<20/\Sp.mem s.k.sp z m/\L6.getD x 0=Sp.gQ s.k.sp (m:Int) (z:Int)):=hJ (λx hx=>by
       rw[l6]at hx;have e:=aW hx;obtain⟨m20,mm⟩:=Sp.rC e (λp hp=>KH.ki.vi.iv.oK z p z6 hp);refine⟨_,e,m20,mm,?_⟩;rw[eL];unfold Kn.lZ;rw[aF,List.getElem?_map,e];rfl)
      have l0':0<L6.length:=by
       rw[l6];exact List.length_pos_of_mem (Sp.Cp (KH.ki.vi.iv.cO hn o).1)
      have l21:L6.length<=21:=by
       rw[l6];unfold Sp.dX;rw[List.length_map];exact aH (bW _ _) (by simp)
      have EQ:Hid (∀q,q<20->Kn.lv s.k q=true->Sp.dc s.k.sp (q:Int)=Sp.dc s.k.sp (n:Int)->∀L,L=Kn.lZ s.k (Sp.dc s.k.sp (q:Int)) (dL s.k.sp (Sp.dc s.k.sp (q:Int):Nat))->L.length=L6.length):=hJ (λq _ _ e L hL=>by rw[hL,e,hL6]);obtain⟨hh,cap6,rfl,hl6,hc6⟩:=o6.cells l0';have B6:Hid (Below w3.heap.size w3 w6):=hJ (B5.trans ((b6.trans (o6.cM.mono b6.size)).mono B5.size));have CH:Hid (∀V x,Below w6.heap.size w6 V->x<L6.length->V.cell? ⟨hh,x,bj⟩=bh (aa az ((L6.getD x 0:Nat):Int))):=hJ (λV x b hx=>by rw[b.cell (p:=⟨hh,x,bj⟩) hl6];have:=hc6 x hx;rwa [Nat.zero_add]at this);have ZZ:=hJ (aK o (aK z6 zh));have c1:=CG.v w6 B6.v;have S0:Hid (∀C,C=r8 20 (λ_=>false)->oc (w6.alloc (bg C 60)) w6.heap.size 20 60 (Kn.pU s.k z 0)/\Below w6.heap.size w6 (w6.alloc (bg C 60))):=hJ (λC e=>by
       subst e;refine⟨?_,(aQ _ _).alloc (aL _) _⟩;rw[show Kn.pU s.k z 0=λ_=>false from funext λt=>by simp[Kn.pU]];exact heap_alloc_new w6 _)
      generalize L6.length=pl at*;go_upto_region 18 with fail
      refine cG (λW=>oc W w6.heap.size 20 60 (Kn.pU s.k z 0)/\Below w6.heap.size w6 W) (S0.v _ bw) ?_;intro W9 h9;have S9:=hJ h9;obtain⟨sb,hsb⟩:=hU (w6.heap.size);have HSB:=hJ hsb;rw[hsb]at S9|-;go_wp2_with fail
      go_loopw [15] (λi wq=>∃x:Nat,i=aa az x/\x<=pl/\Hid (oc wq sb 20 60 (Kn.pU s.k z x)/\Below sb w6 wq)) (λi _=>pl-(intOf i).toNat)
      case atStart=>exact⟨0,rfl,aC _,S9⟩
      case round=>
       obtain⟨x,rfl,hx,S⟩:=hrel;have BQ:Hid (∀V,Below sb w6 V->Below w3.heap.size w3 V):=hJ (λV b=>B6.trans (b.mono (by rw[<-HSB.v];exact B6.size)));by_cases xl:x<pl
       .have xlI:(x:Int)<(pl:Int):=bu
        obtain⟨m,em,hm,mm,el⟩:=ML.v x xl;obtain⟨p',p1,p2,pe,se,sn⟩:=KH.Nb hn LV.v ZZ.1 hm mm;have K0:Hid (wr.cell? ⟨gg,j,bj⟩=bh (aa az (n:Int))/\wr.cell? ⟨hh,x,bj⟩=bh (aa az (p':Int))):=hJ ⟨CG.v wr (BQ.v _ S.2),by rw[CH.v wr x (by rw[HSB.v];exact S.2) xl,el,pe]⟩;have SX:=hJ (sF w.heap.size s wr.drew (n:Int) (p':Int) (KV.v wr (BQ.v _ S.2)).drew KH.ki.vi.iv.oK);have NX:=hJ (aK (Kn.Mx em) (Kn.Pw KH.v ZZ.2.1 em));have A4:Hid (∀V,Below wr.drew.heap.size wr.drew V->(oc V sb 20 60 (Kn.pU s.k z x)/\Below sb w6 V)/\V.cell? ⟨gg,j,bj⟩=bh (aa az (n:Int))/\V.cell? ⟨hh,x,bj⟩=bh (aa az (p':Int))):=hJ (λV b=>by
         have b':Below wr.heap.size wr V:=⟨b.os,b.tape,b.output,b.size,b.block⟩;have q:=S.2.trans (b'.mono (by have:=S.1.lt;omega));exact⟨⟨S.1.same (b'.block _ S.1.lt),q⟩,CG.v V (BQ.v _ q),by rw[CH.v V x (by rw[HSB.v];exact q) xl,el,pe]⟩)
        rw[A0.v,se]at SX;by_cases lm:Kn.lv s.k m=true
        .rw[aJ lm,sn lm,bB]at SX;have NB:=hJ (λV=>n7 0 V);rw[bB]at NB;have LM:=hJ lm;obtain⟨y1,y2⟩:=K0.v;go_upto_region 21 with fail
         go_region_held3 (λw'=>w'.cell? ⟨gg,j,bj⟩=bh (aa az (n:Int))/\w'.cell? ⟨hh,x,bj⟩=bh (aa az (p':Int))) (first|exact K0.v|exact S4.2) ((go_at_call 16;refine sC SX.v ?_;rintro w7 b7;have S4:=hJ (A4.v w7 b7)))
         have hmI:(m:Int)<20:=bu
         have hm19:decide (19<(m:Int))=false:=by simp;omega
         have cb:=S4.1.1.cell m hm;rw[NX.2]at cb;have fz:=S4.1.1.frozen;go_wp2_with fail
         refine cr (NB.v _) ?_;go_wp2
         go_roundw
         case rel=>exact⟨x+1,by go_num,bu,by
          rw[show Kn.pU s.k z (x+1)=uH (Kn.pU s.k z x) m true from funext λt=>by rw[NX.1 t];unfold uH;by_cases c:t=m<;>simp[c,LM.v]];exact S4.1.1.set m true hm,((bE.refl sb w7).setCell m (ar true)).below S4.1.2 (aL _) (bI S4.1.1.lt)⟩
         case measure=>simp[intOf];omega
        .rw[aI lm,bC bu]at SX;have NB:=hJ (λV=>n7 8 V);rw[bC bu]at NB;have LM:Hid (Kn.pU s.k z (x+1)=Kn.pU s.k z x):=hJ (funext λt=>by rw[NX.1 t];simp[lm]);generalize Kn.iC s.k (n:Int) (p':Int)=sx at*;obtain⟨y1,y2⟩:=K0.v;go_upto_region 21 with fail
         go_region_held3 (λw'=>w'.cell? ⟨gg,j,bj⟩=bh (aa az (n:Int))/\w'.cell? ⟨hh,x,bj⟩=bh (aa az (p':Int))) (first|exact K0.v|exact S4.2) ((go_at_call 16;refine sC SX.v ?_;rintro w7 b7;have S4:=hJ (A4.v w7 b7)))
         go_wp2_with fail
         refine cr (NB.v _) ?_;go_wp2
         go_roundw
         case rel=>exact⟨x+1,by go_num,bu,by rw[LM.v];exact S4.1.1,S4.1.2⟩
         case measure=>simp[intOf];omega
       .have xlI:¬(x:Int)<(pl:Int):=bu
        have BR:=hJ (BQ.v _ S.2);have PA:=hJ (DM w.heap.size s wr (n:Int) (KV.v _ BR.v) KH.ki.vi.iv.ma);rw[A0.v,AE.v,bB]at PA;obtain⟨u,eu⟩:=hU (Kn.pZ s.k (n:Int));rw[eu]at PA PF;have c1:=CG.v wr BR.v;go_wp2_with fail
        refine sC PA.v ?_;rintro w7 b7;have B7:Hid (Below w3.heap.size w3 w7):=hJ (BR.trans (b7.mono BR.size));by_cases u0:u=0
        .subst u0;go_wp2
         go_roundw
         case rel=>exact⟨j+1,by go_num,bu,B7⟩
         case measure=>simp[intOf];omega
        .have uB:((u:Int)==0)=false:=by simp;omega
         obtain⟨q,hq,lq,se,sn,ei⟩:=PF.2.resolve_left u0;have S8:=hJ (sF w.heap.size s w7 (n:Int) (u:Int) (KV.v _ B7.v) KH.ki.vi.iv.oK);rw[A0.v,se,sn,bB]at S8;have c1:=CG.v w7 B7.v;have QE:=hJ (aK (Kn.og hq lq) (EQ.v q hq lq ei));go_wp2_with fail
         refine sC S8.v ?_;rintro w8 b8;have B8:Hid (Below w3.heap.size w3 w8):=hJ (B7.trans (b8.mono B7.size));have L2:=hJ (zS w.heap.size s w8 (q:Int) (KV.v _ B8.v) KH.ki.vi.iv.ma);rw[A0.v]at L2;go_wp2_with fail
         refine L2.mono ?_;rintro e w9 ⟨v9,w0,L9,rfl,hL9,b9,o9⟩;have e9:=QE.2 L9 (hL9 QE.1);rw[QE.1,bB];obtain⟨a9,cap9,rfl⟩:=fG o9.own;have B9:Hid (Below w3.heap.size w3 w9):=hJ (B8.trans ((b9.trans (o9.cM.mono b9.size)).mono B8.size));rw[e9];go_wp2
         go_roundw
         case rel=>exact⟨j+1,by go_num,bu,B9⟩
         case measure=>simp[intOf];omega
     .have jlI:¬(j:Int)<(ln:Int):=bu
      go_wp2
      go_ret
      exact⟨rfl,(S3.1.below B.v).cM⟩
end
theorem Qn(a:Option Addr)(len cap:Nat)(w:bD)(h:uQ w a len):
 Calls prog 6 #[aj a len cap] w λe w'=>e=bf (ar true)/\Below w.heap.size w w':=KY h λb o ax ha hc=>Nt a b o len cap ax w ha hc
end Go.Proofs.YtpmmdkcfenjiaaaGreatDoor
namespace Go.Proofs.YtpmmdkcfenjiaaaGreatDoor.SeP
open Value renaming int->aa,pointer->ai,slice->aj,string->ak,bool->ar,agg->au
open IntKind renaming i64->az,u64->bd
open Ending renaming returned->bf
open Obj renaming cells->bg
open Option renaming some->bh,none->bj
open _root_.Go.Proofs.Tryz (prog)
open Go.ChangeShapes Go.WideShapes Go.ChangeAt Go.RowKit
set_option linter.unusedVariables false
theorem own:ownKnob prog.godebug=none:=by kernel_rfl
theorem laidOut:laidOutB prog=true:=by kernel_rfl
theorem lifted(os:Os)(started:os.Started)(H:Type)(enc:TypeId×Value->H):
  ReturnsInHanded {} Tryz.checked os 6 .any (λw args=>(Rows.topSeeSpec.pre enc prog Tryz.f6 Rows.topSeeRow.domain false w args/\laidMetH prog Rows.topSeeRow.laid w)/\sizedMet enc prog Tryz.f6 (OpenSpec.ofChange Rows.topSeeSpec) false w args)
   (Rows.topSeeSpec.post enc prog Tryz.f6 false true false false):=by
 refine returnsInHanded_of_change_and (C:=Tryz.checked) (X:=λw _=>laidMetH prog Rows.topSeeRow.laid w) (λ_ _ _ hh h=>h.of_heap hh) own started bw Tryz.func6
  (ChangeSpec.witness_shaped (enc:=enc) (C:=Tryz.checked) (os:=os) (X:=λw _=>laidMetH prog Rows.topSeeRow.laid w) false (World.laidAll prog os Rows.topSeeRow.laid) #[aj bj 0 0] 8 (World.laidAll_os _ _ _)
   (World.shaped_of_ZipB bw bw) bw bw bw
   (by rw[MakeChecks.laidMetH_plain _ _ _ bw];exact laidMet_laidAll _ bw bw)) ?_
 intro W UE args ds gs before hval0 hW hc _ hL _;have hval:∀(j:Nat) t v,Tryz.f6.params[j]? =bh t->args[j]? =bh v->Value.okWide prog W .any UE t v:=hval0;have hW':=hW;obtain⟨p,q,hA0,hV,rfl,hfz,hnd⟩:=hW;have hA:DataW.TrodAll enc prog W 0 (λ_=>true) true Tryz.f6.params.toList args.toList ds p:=hA0;rw[Tryz.params6]at hA hval;obtain⟨v0,vs0,d0,ds0,p0,q0,hargs,rfl,rfl,h0,r0⟩:=trodAll_cons hA;obtain⟨rfl,rfl,rfl⟩:=trodAll_nil r0;obtain rfl:args=#[v0]:=by cases args;simp_all
 obtain⟨rfl,rfl⟩:=trodVars_none hV;obtain⟨a0,len0,cap0,rfl⟩:=okWide_slice Tryz.underlying22 (hval 0 22 v0 rfl rfl);have k0:=h0;have lt0:∀x∈p0,x.block<W.heap.size:=by obtain⟨m,hm⟩:=k0;exact DataW.trod_lt m _ _ _ hm
 have w0:uQ W a0 len0:=by
  obtain⟨fuel,hf⟩:=h0;exact OL (by simpa[Value.cells]using hf)
 clear hA0 hval0;refine(Qn a0 len0 cap0 W w0).mono λe W' ⟨he,cM⟩=>?_;subst he;exact⟨_,rfl,_,_,_,[],_,[],hW',trodAll_mk1 (shut_bool Tryz.underlying4 _),(trodAll_cons_mk (Below.trod laidOut bw (of_decide_eq_true bw) k0 cM lt0) trodAll_mk0),rfl,cM.frame _,λh=>by cases h⟩
end Go.Proofs.YtpmmdkcfenjiaaaGreatDoor.SeP

import Derived.Test.YtpmmdkcfenjiaaaGreatDoorGao
set_option maxRecDepth 100000
set_option maxHeartbeats 4000000
set_option linter.unusedVariables false
set_option linter.unusedSimpArgs false
namespace Go.Proofs.YtpmmdkcfenjiaaaGreatDoor
open Value renaming int->aa,pointer->ai,slice->aj,string->ak,tuple->ao,iface->aq,bool->ar,nilIface->ay
open IntKind renaming i64->az,u8->bc
open Ending renaming returned->bf
open Obj renaming cells->bh
open Option renaming some->bj,none->bu
open Bool renaming true->bw,false->bA
open Tryz (prog)
open Go.RowKit
open Tr (Fo Nd)
open Mo (Wh Mt)
open Mv (Me Bk)
open Kn (Pr Kp St us KB KJ VI EI)
variable {own:Bool}{F G:Fo}{E c f y z:Int}{k:Kp}{N Wr j m n:Nat}{Wy:Nat->List (Fin 10)}{d xx:Nat->Nat}{X:Nat->Prop}{s:St}{v:Value}{R:Value->Kp->Prop}{w w':bD}
theorem Ou(w:bD):
  Calls prog 32 #[] w λe w'=>∃(s:St) (m:Wf.M),e=bf (ai (bj ⟨s.A 0,0,bu⟩))/\s.k=Kn.kN m/\Wf.jB (Wf.ec Wf.m0 ((0:Nat):Int) 0) ((0:Nat):Int) bw m/\bP w' w.heap.size s/\Below w.heap.size w w':=by
 obtain⟨Wr,hbs⟩:=nJ (w.heap.size);have HB:Hid (Wr<=w.heap.size):=hZ bB;have HBS:=hZ hbs;clear hbs;go_in
 go_wp2_with fail
 refine sC (sM _) ?_;rintro w1 ⟨t1,b1,l1⟩;have S1:=hZ (aK t1 (aK b1 l1));clear t1 b1 l1;go_wp2_with fail
 refine sC (Gr.sM _) ?_;rintro w2 ⟨t2,b2⟩;have S2:=hZ (aK t2 b2);clear t2 b2;go_wp2_with fail
 refine sC (Wf.sM _) ?_;rintro w3 ⟨t3,b3,l3⟩;have S3:=hZ (aK t3 (aK b3 l3));clear t3 b3 l3;go_wp2_with fail
 refine(Fe _).mono ?_;rintro e w4 ⟨a4,rfl,t4,b4,l4⟩;have S4:=hZ (aK t4 (aK b4 l4));clear t4 b4 l4;go_wp2_with fail
 refine sC (Pv _) ?_;rintro w5 ⟨t5,b5⟩;have S5:=hZ (aK t5 b5);clear t5 b5;have F7:Hid (NW w (w5.heap.size+1) w.heap.size w1.heap.size w2.heap.size a4 w3.heap.size w4.heap.size w5.heap.size ((w5.alloc (bh Pp.zA 122)).alloc (bh (oQ (r8 w.heap.size w1.heap.size w2.heap.size a4 w4.heap.size w5.heap.size)) 86))):=hZ (by
  obtain⟨p6,c6⟩:=Gb w5;have z6:(w5.alloc (bh Pp.zA 122)).heap.size=w5.heap.size+1:=by simp
  have c7:Below (w5.alloc (bh Pp.zA 122)).heap.size (w5.alloc (bh Pp.zA 122)) ((w5.alloc (bh Pp.zA 122)).alloc (bh (oQ (r8 w.heap.size w1.heap.size w2.heap.size a4 w4.heap.size w5.heap.size)) 86)):=(aQ _ _).alloc (aL _) _;have N:=heap_alloc_new (w5.alloc (bh Pp.zA 122)) (bh (oQ (r8 w.heap.size w1.heap.size w2.heap.size a4 w4.heap.size w5.heap.size)) 86);rw[z6]at N;have e5:=c6.trans (c7.mono bB);have e4:=S5.2.trans (e5.mono S5.2.size);have e3:=S4.2.1.trans (e4.mono S4.2.1.size);have e2:=S3.2.1.trans (e3.mono S3.2.1.size);have e1:=S2.2.trans (e2.mono S2.2.size);have e0:=S1.2.1.trans (e1.mono S1.2.1.size);have g2:=S2.1.lt;have g3:=S3.2.2;have g4:=S4.2.2;have g4':=S4.1.lt;have g5:=S5.1.lt;exact⟨S1.1.same (e1.block _ S1.2.2),(e2.block _ g2).trans S2.1,S3.1.same (e3.block _ g3),S4.1.same (e4.block _ g4') (e4.block _ S4.1.DU),S5.1.same (e5.block _ g5),p6.same (c7.block _ bB),N,e0,rfl,S1.2.2,g2,g3,g4,g4',g5,bB⟩)
 obtain⟨a1,h1⟩:=nJ (w.heap.size);obtain⟨a2,h2⟩:=nJ (w1.heap.size);obtain⟨a3,h3⟩:=nJ (w2.heap.size);obtain⟨a5,h5⟩:=nJ (w3.heap.size);obtain⟨a6,h6⟩:=nJ (w4.heap.size);have H1:=hZ h1;rw[h1,h2,h3,h5,h6]at F7;rw[h1,h2,h3,h6];obtain⟨KA,hKA⟩:=nJ (oQ (r8 a1 a2 a3 a4 a6 w5.heap.size));have HKA:=hZ hKA;rw[hKA]at F7;clear S1 S2 S3 S4 S5 h1 h2 h3 h5 h6;go_upto_region 2 with(first|(refine Pp.MX rfl rfl ?_)|(refine JL a1 a2 a3 a4 a6 w5.heap.size rfl rfl rfl rfl rfl rfl rfl rfl ?_;rw[hKA]))
 obtain⟨a7,h7⟩:=nJ (w5.heap.size);obtain⟨a0,h0⟩:=nJ (w5.heap.size+1);generalize (w5.alloc (bh Pp.zA 122)).alloc (bh KA 86)=W7 at F7|-;rw[h0]at F7|-;rw[h7]at F7|-;clear hKA HKA h7 h0;have K0:Hid (W7.cell? ⟨a0,250,bu⟩=bj (ai (bj ⟨a6,0,bu⟩))/\W7.cell? ⟨a0,251,bu⟩=bj (ai (bj ⟨a7,0,bu⟩))):=hZ ⟨F7.cell 250 bB,F7.cell 251 bB⟩;have XN:=hZ (PN a6 a7 W7.drew);obtain⟨a8,h8⟩:=nJ (W7.heap.size);have hd8:W7.drew.heap.size=a8:=h8;have H8:=hZ h8;rw[hd8]at XN;have FIN:Hid (∀w8,eI w8 a8 a6 a7 Fx.fW->Below a8 W7.drew w8->(bP (w8.setCell ⟨a0,252,bu⟩ (ai (bj ⟨a8,0,bu⟩))) Wr ⟨mY a0 a1 a2 a3 a4 a5 a6 a7 a8,λ_=>aj bu 0 0,Kn.oI⟩/\Below w.heap.size w (w8.setCell ⟨a0,252,bu⟩ (ai (bj ⟨a8,0,bu⟩))))/\(w8.cell? ⟨a0,250,bu⟩=bj (ai (bj ⟨a6,0,bu⟩))/\w8.cell? ⟨a0,251,bu⟩=bj (ai (bj ⟨a7,0,bu⟩)))/\((w8.setCell ⟨a0,252,bu⟩ (ai (bj ⟨a8,0,bu⟩))).cell? ⟨a0,250,bu⟩=bj (ai (bj ⟨a6,0,bu⟩))/\(w8.setCell ⟨a0,252,bu⟩ (ai (bj ⟨a8,0,bu⟩))).cell? ⟨a0,251,bu⟩=bj (ai (bj ⟨a7,0,bu⟩)))/\(∃v,w8.cell? ⟨a0,252,bu⟩=bj v)/\∀o,w8.frozen? ⟨a0,o,bu⟩=bA):=hZ (λw8 xa bl=>by
  have bl':Below W7.heap.size W7 w8:=by rw[H8.v];exact⟨bl.os,bl.tape,bl.output,by have:=bl.size;exact this,bl.block⟩
  have q:=F7.Wb HB.v H8.v xa bl';have ke:w8.heap[a0]? =bj (bh (oQ (r8 a1 a2 a3 a4 a6 a7)) 86 (0,0)):=(bl'.block _ F7.lt).trans F7.ke;have c:∀o,w8.cell? ⟨a0,o,bu⟩=W7.cell? ⟨a0,o,bu⟩:=λo=>aV (bl'.block _ F7.lt);refine⟨q,by rw[c,c];exact K0.v,⟨by rw[du ke _ _ _ bB,c];exact K0.1,by rw[du ke _ _ _ bB,c];exact K0.2⟩,⟨_,by rw[c];exact F7.cell 252 bB⟩,λo=>cE ke o⟩)
 clear h8 hd8;obtain⟨y1,y2⟩:=K0.v;go_region_held3 (λw'=>w'.cell? ⟨a0,250,bu⟩=bj (ai (bj ⟨a6,0,bu⟩))/\w'.cell? ⟨a0,251,bu⟩=bj (ai (bj ⟨a7,0,bu⟩))) (first|exact K0.v|exact S8.2.1|exact S8.2.2.1) (
  (go_at_call 88;refine sC XN.v ?_;rintro w8 ⟨xa,bl⟩;have S8:=hZ (FIN.v w8 xa bl);clear xa bl;have cy:=S8.2.2.2.1;obtain⟨vy,cy⟩:=cy;have fz:=S8.2.2.2.2))
 have S9:=hZ S8.1;clear FIN K0 XN y1 y2 cy fz;generalize w8.setCell ⟨a0,252,bu⟩ (ai (bj ⟨a8,0,bu⟩))=W9 at*;clear S8;have AA:Hid (mY a0 a1 a2 a3 a4 a5 a6 a7 a8 0=a0/\mY a0 a1 a2 a3 a4 a5 a6 a7 a8 2=a2/\mY a0 a1 a2 a3 a4 a5 a6 a7 a8 4=a4/\mY a0 a1 a2 a3 a4 a5 a6 a7 a8 6=a6):=hZ ⟨rfl,rfl,rfl,rfl⟩;generalize mY a0 a1 a2 a3 a4 a5 a6 a7 a8=A at S9 AA;have c250:=S9.1.uI;rw[show(⟨A,λ_=>aj bu 0 0,Kn.oI⟩:St).A 0=a0 from AA.1,show(⟨A,λ_=>aj bu 0 0,Kn.oI⟩:St).A 6=a6 from AA.2.2.2]at c250;have PL:Hid (Calls prog 89 #[ai (bj ⟨a6,0,bu⟩)] W9 λe w'=>∃v,e=bf v/\bP w' Wr ⟨A,λ_=>aj bu 0 0,{Kn.oI with fo:=Tr.g1}⟩/\Below w.heap.size w w'):=hZ (by
  have fo:bR W9 (A 6) Tr.f0:=S9.1.fo;have q:=zu (A 6) Tr.f0 W9 fo bE;rw[AA.2.2.2]at q;refine q.mono ?_;rintro e w' ⟨T,E,G,rfl,hp,h2,k2⟩;obtain⟨rfl,rfl,rfl⟩:=Tr.LU hp;rw[<-AA.2.2.2]at h2 k2;have q2:=S9.1.Cz h2 k2;exact⟨_,rfl,q2.1,k2.below S9.2 (by rw[HBS.v];exact S9.1.low 6 cv) S9.2.size⟩)
 go_wp2_with fail
 refine PL.mono ?_;rintro e w10 ⟨v10,rfl,k10,b10⟩;have S10:=hZ (aK k10 b10);clear k10 b10 PL c250 S9;go_upto_region 4 with fail
 have K0:Hid (w10.cell? ⟨a0,250,bu⟩=bj (ai (bj ⟨a6,0,bu⟩))):=hZ (by
  have q:=S10.1.uI;rw[show(⟨A,λ_=>aj bu 0 0,{Kn.oI with fo:=Tr.g1}⟩:St).A 0=a0 from AA.1,show(⟨A,λ_=>aj bu 0 0,{Kn.oI with fo:=Tr.g1}⟩:St).A 6=a6 from AA.2.2.2]at q;exact q)
 have MN:Hid (Calls prog 90 #[ai (bj ⟨a6,0,bu⟩),aa az 0] w10.drew λe w'=>∃b,e=bf (ao #[ai (bj ⟨b,0,bu⟩),ay])/\bP (w'.setCell ⟨a0,240,bu⟩ (ai (bj ⟨b,0,bu⟩))) Wr (Kn.iB ⟨A,λ_=>aj bu 0 0,{Kn.oI with fo:=Tr.dK Tr.g1 ((0:Nat):Int)}⟩ 0 b (aj bu 0 0) Kn.pP)/\Below w.heap.size w (w'.setCell ⟨a0,240,bu⟩ (ai (bj ⟨b,0,bu⟩)))/\w'.cell? ⟨a0,250,bu⟩=bj (ai (bj ⟨a6,0,bu⟩))/\(w'.setCell ⟨a0,240,bu⟩ (ai (bj ⟨b,0,bu⟩))).cell? ⟨a0,250,bu⟩=bj (ai (bj ⟨a6,0,bu⟩))/\(∃v,w'.cell? ⟨a0,240,bu⟩=bj v)/\∀o,w'.frozen? ⟨a0,o,bu⟩=bA):=hZ (by
  have fo:bR w10.drew (A 6) Tr.g1:=S10.1.drew.fo;have q:=R3 (A 6) 0 Tr.g1 0 w10.drew fo (by rfl) (λn hn=>by rw[Kn.Qa.hd n hn];exact aL 0) bB;rw[AA.2.2.2]at q;refine q.mono ?_;rintro e w' ⟨b,rfl,lb,tt,h2,k2⟩;rw[<-AA.2.2.2]at h2 k2;have q2:=S10.1.drew.Cz h2 k2;have lt:∀i,us ⟨A,λ_=>aj bu 0 0,{Kn.oI with fo:=Tr.g1}⟩ i->A i<b:=λi hi=>aD (S10.1.lt hi) lb;have tt0:=tt Wr;rw[<-AA.2.2.2]at tt0;have q3:=q2.1.Qi (y:=0) (c:=b) bB (v:=aj bu 0 0) (T:=Kn.pP) tt0 (λi hi=>by have:=lt i hi;show A i≠b;omega) (λg eg=>by cases eg) (by have:=S10.2.size;have:=HBS.v;have e1:w10.heap.size<=b:=lb;omega);have e0:A 0=a0:=AA.1;rw[show(⟨A,λ_=>aj bu 0 0,{Kn.oI with fo:=Tr.dK Tr.g1 ((Tr.fQ Tr.g1 0:Nat):Int)}⟩:St).A 0=a0 from e0]at q3;have b2:Below w.heap.size w w':=k2.below S10.2.drew (by rw[HBS.v];exact S10.1.low 6 cv) S10.2.size;obtain⟨C,ke,_⟩:=q2.1.mW;have ke':w'.heap[a0]? =bj (bh C 86 (0,0)):=by rw[<-e0];exact ke
  have l0:w.heap.size<=a0:=by rw[HBS.v,<-e0];exact S10.1.low 0 cv
  have q4:w'.cell? ⟨a0,250,bu⟩=bj (ai (bj ⟨a6,0,bu⟩)):=by have:=q2.1.uI;rw[<-e0,<-AA.2.2.2];exact this
  refine⟨b,rfl,q3.1,q3.2.below b2 l0 b2.size,q4,by rw[du ke' _ _ _ bB];exact q4,?_,λo=>cE ke' o⟩;have:=q2.1.dY 240 bB;rw[<-e0];exact⟨_,this⟩)
 have y1:=K0.v;go_region_held3 (λw'=>w'.cell? ⟨a0,250,bu⟩=bj (ai (bj ⟨a6,0,bu⟩))) (first|exact K0.v|exact S11.2.2.1|exact S11.2.2.2.1) (
  (go_at_call 90;refine MN.mono ?_;rintro e w11 ⟨tb,rfl,q1,q2,q3,q4,q5,q6⟩;have S11:=hZ (aK q1 (aK q2 (aK q3 (aK q4 (aK q5 q6)))));clear q1 q2 q3 q4 q5 q6;have cy:=S11.2.2.2.2.1;obtain⟨vy,cy⟩:=cy;have fz:=S11.2.2.2.2.2))
 have S12:=hZ (aK S11.1 S11.2.1);clear K0 MN y1 cy fz S10;generalize w11.setCell ⟨a0,240,bu⟩ (ai (bj ⟨tb,0,bu⟩))=W12 at*;clear S11;have EO:Hid ((Kn.iB ⟨A,λ_=>aj bu 0 0,{Kn.oI with fo:=Tr.dK Tr.g1 ((0:Nat):Int)}⟩ 0 tb (aj bu 0 0) Kn.pP).A 0=a0/\(Kn.iB ⟨A,λ_=>aj bu 0 0,{Kn.oI with fo:=Tr.dK Tr.g1 ((0:Nat):Int)}⟩ 0 tb (aj bu 0 0) Kn.pP).A 2=a2/\(Kn.iB ⟨A,λ_=>aj bu 0 0,{Kn.oI with fo:=Tr.dK Tr.g1 ((0:Nat):Int)}⟩ 0 tb (aj bu 0 0) Kn.pP).A 4=a4/\({(Kn.iB ⟨A,λ_=>aj bu 0 0,{Kn.oI with fo:=Tr.dK Tr.g1 ((0:Nat):Int)}⟩ 0 tb (aj bu 0 0) Kn.pP).k with gr:=Gr.gD Gr.t0 Gr.W0 0 1 0}:Kp)=Kn.lU):=hZ (by
  refine⟨(Kn.fS _ _ _ _ _ bB bB).trans AA.1,(Kn.fS _ _ _ _ _ bB bB).trans AA.2.1,(Kn.fS _ _ _ _ _ bB bB).trans AA.2.2.1,?_⟩;have tbe:(λi=>if i=0 then Kn.pP else Kn.pP)=λ_:Nat=>Kn.pP:=funext λi=>by split<;>rfl
  show(⟨λ_=>Pr.no,λi=>if i=0 then bw else bA,λi=>if i=0 then Kn.pP else Kn.pP,Sp.t0,Gr.gD Gr.t0 Gr.W0 0 1 0,Wf.m0,Mv.CY,Tr.dK Tr.g1 ((0:Nat):Int),Pp.fW,Fx.fW⟩:Kp)=_;rw[tbe];rfl)
 have GRK:Hid ((Kn.iB ⟨A,λ_=>aj bu 0 0,{Kn.oI with fo:=Tr.dK Tr.g1 ((0:Nat):Int)}⟩ 0 tb (aj bu 0 0) Kn.pP).k.gr=Gr.t0):=hZ rfl;generalize Kn.iB ⟨A,λ_=>aj bu 0 0,{Kn.oI with fo:=Tr.dK Tr.g1 ((0:Nat):Int)}⟩ 0 tb (aj bu 0 0) Kn.pP=s1 at*;have c247:=S12.1.pG;rw[EO.1,EO.2.1]at c247;have CG:Hid (Calls prog 65 #[ai (bj ⟨a2,0,bu⟩),aa az 0,aa az 1,aa az 0] W12 λe w'=>∃v,e=bf v/\bP w' Wr {s1 with k:=Kn.lU}/\Below w.heap.size w w'):=hZ (by
  have gt:=S12.1.gr;rw[GRK.v]at gt;have q:=Gr.nZ (s1.A 2) 0 1 0 Gr.t0 Gr.W0 W12 gt Gr.zv.ways (Gr.zv.small bB);rw[EO.2.1]at q;refine sC q ?_;rintro w' ⟨t4,f4⟩;rw[<-EO.2.1]at t4 f4;have q2:=S12.1.kv t4 f4.sW;rw[EO.2.2.2]at q2;exact⟨_,rfl,q2.1,f4.sW.below S12.2 (by rw[HBS.v];exact S12.1.low 2 cv) S12.2.size⟩)
 go_wp2_with fail
 refine CG.mono ?_;rintro e w13 ⟨v13,rfl,k13,b13⟩;have S13:=hZ (aK k13 b13);clear k13 b13 CG c247 S12 GRK;have FP:Hid (Calls prog 91 #[ai (bj ⟨a0,0,bu⟩)] w13 λe w'=>∃mb bb,e=bf (.agg (dS mb bb (Kn.gX 6)))/\dq w' mb a4 Mv.lL/\CX w' bb Sg.fW/\Below w13.heap.size w13 w'/\w13.heap.size<=mb/\w13.heap.size<=bb/\mb≠bb):=hZ (IP a0 a4 w13 (by have:=S13.1.Vr;rw[show({s1 with k:=Kn.lU}:St).A 0=a0 from EO.1,show({s1 with k:=Kn.lU}:St).A 4=a4 from EO.2.2.1]at this;exact this) (by have:=S13.1.lt (cv (i:=0) bB);rw[show({s1 with k:=Kn.lU}:St).A 0=a0 from EO.1]at this;exact this));go_wp2_with fail
 refine FP.mono ?_;rintro e w14 ⟨mb,bb,rfl,um,ub,bl,lm,lb,mn⟩;have S14:Hid (bP w14 Wr {s1 with k:=Kn.lU}/\Below w.heap.size w w14):=hZ ⟨S13.1.below bl,S13.2.trans (bl.mono S13.2.size)⟩;have lt:∀i,us {s1 with k:=Kn.lU} i->s1.A i<w13.heap.size:=λi hi=>S13.1.lt hi;have bs:=S13.2.size;have ST0:=yZ Wr {s1 with k:=Kn.lU} w14 0 mb bb (Kn.gX 6) ((0:Nat):Int) (λ_=>1) S14.1 bB Sp.xA (by rw[show({s1 with k:=Kn.lU}:St).A 4=a4 from EO.2.2.1];exact um) ub (λi hi=>by have:=lt i hi;show s1.A i≠mb;omega) (λi hi=>by have:=lt i hi;show s1.A i≠bb;omega) mn (by have:=HBS.v;omega) (by have:=HBS.v;omega);rw[show({s1 with k:=Kn.lU}:St).A 0=a0 from EO.1]at ST0;obtain⟨PA,hPA⟩:=nJ (dS mb bb (Kn.gX 6));rw[hPA]at ST0|-;have ST:Hid (Calls prog 68 #[ai (bj ⟨a0,0,bu⟩),aa az 0, .agg PA,aa az 0] w14 λe w'=>∃m',e=bf (ao #[])/\Wf.jB (Wf.ec Wf.m0 ((0:Nat):Int) 0) ((0:Nat):Int) bw m'/\bP w' Wr {Kn.dW {s1 with k:=Kn.lU} 0 mb bb (Kn.gX 6)with k:=Kn.kN m'}/\dM (KB {s1 with k:=Kn.lU}) w14 w'):=hZ ST0;clear ST0 um ub bl lm lb mn lt bs hPA FP;go_wp2_with fail
 refine ST.mono ?_;rintro e w15 ⟨m',rfl,wk,k15,o15⟩;have S15:Hid (Wf.jB (Wf.ec Wf.m0 ((0:Nat):Int) 0) ((0:Nat):Int) bw m'/\bP w15 Wr {Kn.dW {s1 with k:=Kn.lU} 0 mb bb (Kn.gX 6)with k:=Kn.kN m'}/\Below w.heap.size w w15):=hZ ⟨wk,k15,o15.behind S14.2 (λb hb=>by rw[HBS.v];exact S14.1.TY hb) S14.2.size⟩;clear wk k15 o15 ST;go_wp2
 go_ret
 refine⟨{Kn.dW {s1 with k:=Kn.lU} 0 mb bb (Kn.gX 6)with k:=Kn.kN m'},m',?_,rfl,S15.1,by rw[HBS.v];exact S15.2.1,S15.2.2⟩;rw[show({Kn.dW {s1 with k:=Kn.lU} 0 mb bb (Kn.gX 6)with k:=Kn.kN m'}:St).A 0=a0 from(Kn.eZ {s1 with k:=Kn.lU} 0 mb bb (Kn.gX 6) (i:=0) bB bB).trans EO.1];rfl
open Kn (Pr Kp St us KB KJ VI EI KH)
namespace Kn
theorem Iz{m1 m2:Wf.M}{r:Int}(k:Wf.jB (Wf.ec Wf.m0 ((0:Nat):Int) 0) ((0:Nat):Int) bw m1)(t:Wf.CK m1 r m2):r=0:=by
 unfold Wf.jB at k;subst k;have h:∀n,n<20->(Wf.ec Wf.m0 ((0:Nat):Int) 0).here (10+n)=decide (n=0):=by decide
 rcases t.2 with⟨_,q⟩|⟨n,rfl,hn,e⟩
 .exact aZ ⟨rfl,rfl⟩ q
 .have e2:(Wf.ec Wf.m0 ((0:Nat):Int) 0).here (10+n)=bw:=e;rw[h n hn]at e2;simpa using e2
theorem KH.tick(h:KH N d k)(m:Wf.M):KH (N+1) d {k with sc:=m}:=by
 have kj:KJ (λ_=>False) (N+1) {k with sc:=m}:=(h.ki.vi.kj.mono (λ_ _ e=>e) (Nat.le_succ N)).lN m;exact⟨⟨⟨kj,h.ki.vi.iv,h.ki.vi.hs⟩,h.ki.fi,h.ki.pr,h.ki.h0⟩,λj hj j0 s=>by
  obtain⟨q,a⟩:=h.pp j hj j0 s;exact⟨q,a.gU,a.qm,a.pq,a.lq,a.oq⟩,h.l0,h.p0,h.ge⟩
end Kn
section
variable (Wr:Nat)(s:St)(w:bD)
theorem Bu(h:bP w Wr s):
  Calls prog 37 #[ai (bj ⟨s.A 0,0,bu⟩)] w λe w'=>∃(r:Int) (m:Wf.M),e=bf (aa az r)/\Wf.CK s.k.sc r m/\bP w' Wr {s with k:={s.k with sc:=m}}/\KF s w {s with k:={s.k with sc:=m}} w':=by
 have c8:=h.yK;have TK:=hZ (Wf.Pq (s.A 3) s.k.sc w h.sc);have H:=hZ h;obtain⟨a3,h3⟩:=nJ (s.A 3);have H3:=hZ h3;rw[h3]at c8 TK;generalize s.A 0=kb at*;go_in
 go_wp2_with fail
 refine TK.mono ?_;rintro e w1 ⟨r,m,rfl,t,u,f⟩;have S1:Hid (Wf.CK s.k.sc r m/\bP w1 Wr {s with k:={s.k with sc:=m}}/\KF s w {s with k:={s.k with sc:=m}} w1):=hZ (by
  rw[<-H3.v]at u f;exact⟨t,H.lN u f⟩)
 go_wp2
 go_ret
 exact⟨r,m,rfl,S1.v⟩
end
def Kn.wM(k:Kp):Prop:=∃m m',k={Kn.kN m with sc:=m'}
theorem Kn.wM.p{k:Kp}(h:Kn.wM k):k.p 0=Kn.gX 6/\(∀j,j≠0->k.p j=Pr.no)/\k.sp=Sp.fM Sp.t0 ((0:Nat):Int) ((0:Nat):Int):=by
 obtain⟨m,m',rfl⟩:=h;exact⟨Kn.bG Kn.lU 0 (Kn.gX 6),λj q=>Kn.bO Kn.lU 0 j (Kn.gX 6) q,rfl⟩
theorem Kn.wM.live(h:Kn.wM k):Kn.gA k 20=[0]:=by
 have e:Kn.lv k=λn=>decide (n=0):=funext λn=>by
  unfold Kn.lv;by_cases c:n=0
  .rw[c,h.p.1];rfl
  .rw[h.p.2.1 n c];simp[c];exact λq=>by cases q
 unfold Kn.gA;rw[e];rfl
theorem IK(w:bD):
  Calls prog 9 #[] w λe w'=>∃s:St,e=bf (ao #[ai (bj ⟨s.A 0,0,bu⟩),ar bw])/\Kn.wM s.k/\KH 2 (λ_=>1) s.k/\bP w' w.heap.size s/\Below w.heap.size w w':=by
 go_in
 go_wp2_with fail
 refine(Ou _).mono ?_;rintro e w1 ⟨s,m,rfl,ek,wk,k1,b1⟩;have S1:=hZ (aK ek (aK wk (aK k1 b1)));have KH1:Hid (KH 1 (λ_=>1) s.k):=hZ (by rw[ek];exact Kn.Wa m);have TK:=hZ (Bu w.heap.size s w1 S1.2.2.1);obtain⟨kb,hkb⟩:=nJ (s.A 0);have HK:=hZ hkb;rw[hkb]at TK|-;go_wp2_with fail
 refine TK.mono ?_;rintro e w2 ⟨r,m',rfl,t,k2,f2⟩;have r0:r=0:=Kn.Iz S1.2.1 (by
  have e:=S1.1;rw[e]at t;exact t)
 subst r0;have S2:Hid (Kn.wM {s.k with sc:=m'}/\KH 2 (λ_=>1) {s.k with sc:=m'}/\bP w2 w.heap.size {s with k:={s.k with sc:=m'}}/\Below w.heap.size w w2):=hZ ⟨⟨m,m',by rw[S1.1]⟩,KH1.tick m',k2,f2.behind S1.2.2.1 S1.2.2.2 (aL _) S1.2.2.2.size⟩;have PR:=hZ (yY w.heap.size {s with k:={s.k with sc:=m'}} w2 S2.2.2.1);rw[show({s with k:={s.k with sc:=m'}}:St).A 0=kb from HK.v,show Kn.gA ({s with k:={s.k with sc:=m'}}:St).k 20=[0]from S2.1.live]at PR;go_wp2_with fail
 refine PR.mono ?_;rintro e w3 ⟨v3,rfl,hL⟩;obtain⟨a,cap,hv⟩:=gJ hL.own;have hv':v3=aj a 1 cap:=hv;subst hv';have S3:Hid (bP w3 w.heap.size {s with k:={s.k with sc:=m'}}/\Below w.heap.size w w3):=hZ ⟨S2.2.2.1.below hL.cZ,S2.2.2.2.trans (hL.cZ.mono S2.2.2.2.size)⟩;go_wp2
 go_ret2
 exact⟨{s with k:={s.k with sc:=m'}},by rw[show({s with k:={s.k with sc:=m'}}:St).A 0=kb from HK.v];rfl,S2.1,S2.2.1,S3.v⟩
theorem Rm(a:Option Addr)(n c:Nat)(m:Int)(w:bD)(hn:m<(n:Int)):
  Calls prog 10 #[aj a n c,aa az m] w λe w'=>e=bf (ar bA)/\w'=w:=by
 have d:decide ((n:Int)<=m)=bA:=by simp;omega
 go_in
 go_wp2_with fail
 refine sC (Bw _ _ _ _ _) ?_;rintro w1 hw;subst w1;rw[d];go_wp2
 go_ret
 exact⟨rfl,rfl⟩
theorem rZ(E:Int)(w:bD):Calls prog 23 #[bN E] w λe w'=>e=bf (aa az E)/\w'=w:=by
 by_cases c:E=0
 .subst c;rw[bF];go_in
  go_wp2
  go_ret
  exact⟨rfl,rfl⟩
 .rw[bM c];have ha:=QU E;go_in
  go_wp2
  go_ret
  exact⟨rfl,rfl⟩
namespace Kn
theorem x9{t:Nat->Gr.Gp}{Wy0:Nat->List (Fin 10)}{c:Nat}(h:Gr.Tree t Wy0 c)(w:Gr.eW t Wy):Gr.Tree t Wy c:=
 ⟨w,λk hk=>by
  have l:=congrArg List.length ((w k hk).unique (h.ways k hk));unfold Gr.kG at l;simp only[List.length_map]at l;rw[l];exact h.deep k hk,h.root,h.par,h.own⟩
theorem jS(a:cC k (n:Int)=0):lv k n=bw:=by
 obtain⟨n',e,_,l⟩:=fL a;obtain rfl:n=n':=bB
 exact l
section
variable {N:Nat}{d:Nat->Nat}{k k':Kp}
theorem KH.more(h:KH N d k){M:Nat}(hM:N<=M):KH M d k:=h.gr hM (by obtain⟨Wy,g⟩:=h.ki.vi.kj.gr;exact⟨Wy,g.mono hM⟩)
theorem KH.fork(h:KH N d k){p:Nat}(f:qe k z own p E k'):∃d',KH (N+2) d' k':=by
 rcases f with⟨_,_,_,rfl⟩|⟨a,n,c,F,Wy,rfl,hn,fr,ways,f⟩
 .exact⟨d,h.more bB⟩
 .have l:Kn.lv k n=bw:=jS a;obtain⟨Wy0,g0⟩:=h.ki.vi.kj.gr;have g1:Gr.Tree k.gr Wy N:=x9 g0 ways;have kc:KH (N+1) d (dc k Wy n):=h.gr (Nat.le_succ N) ⟨Wy,qC g1 _ _ _ bB (by have:=YtpmmdkcfenjiaaaGreatDoor.qv (k.p n).mem 16;omega)⟩;rcases f with⟨_,_,_,rfl⟩|⟨_,_,_,_,rfl⟩|⟨_,_,_,_,_,rfl⟩|⟨f0,ch,hm,_,m',wk,rfl,_⟩
  .exact⟨d,h.more bB⟩
  .exact⟨d,h.more bB⟩
  .obtain⟨Wy2,g2⟩:=kc.ki.vi.kj.gr;exact⟨d,(kc.gr (aL _) ⟨Wy2,oX g2 _ _ _⟩).more bB⟩
  .have ko:c<20/\(k.p c).st=0:=by
    rcases fr with q|q
    .exact⟨q.2.1,q.2.2.1⟩
    .omega
   obtain⟨y,oy⟩:=h.of hn (by rw[dO.1 l];omega);have y6:=(h.ki.vi.iv.dh hn oy).2;have iz:Sp.dQ (dc k Wy n).sp (n:Int)=y:=Sp.iD hn oy;cases own
   .have e:=Am (dc k Wy n) n;have en:nC (dc k Wy n) n bA=y:=iz;rw[e.1]at wk|-;rw[en];exact⟨d,kc.born (k2:=dc k Wy n) kc.ki.vi.kj kc.ki.vi.iv rfl rfl rfl hn l ko.1 ko.2 y6.1 y6.2 oy (.inl ⟨rfl,λ_ _ e=>e⟩) wk⟩
   .have ea:Sp.je (dc k Wy n).sp (y:Int)=0:=by unfold jO at hm;rw[aJ rfl,iz]at hm;exact hm
    obtain⟨z',ez,z6,zh,wl,f6,fh,fl⟩:=Sp.pD ea;obtain⟨e1,e2,_⟩:=xy iz ea rfl;have es:=Sp.add_eq ea;rw[e1]at wk|-;rw[e2];have kj2:=kc.ki.vi.kj.LH ea rfl;obtain⟨d2,iv2⟩:=kj2.sp;refine⟨d2,kc.born (k2:=Ay (dc k Wy n) y (Sp.fK (dc k Wy n).sp)) kj2 iv2 rfl ?_ ?_ hn l ko.1 ko.2 f6 ?_ oy (.inr ⟨?_,?_,fh,?_⟩) wk⟩
    .show(Sp.fZ (dc k Wy n).sp (y:Int)).of=_;rw[es]
    .show(Sp.fZ (dc k Wy n).sp (y:Int)).cr=_;rw[es]
    .show(Sp.fZ (dc k Wy n).sp (y:Int)).here _=bw;rw[es];exact aJ rfl
    .intro e;rw[e]at fh;rw[show(dc k Wy n).sp.here y=bw from y6.2]at fh;cases fh
    .show(Sp.fZ (dc k Wy n).sp (y:Int)).par _=_;rw[es];exact aJ rfl
    .intro s s6 sh;have sh2:(Sp.fZ (dc k Wy n).sp (y:Int)).here s=bw:=sh;rw[es]at sh2;have sh3:(if s=Sp.fK (dc k Wy n).sp then bw else(dc k Wy n).sp.here s)=bw:=sh2;by_cases c:s=Sp.fK (dc k Wy n).sp
     .exact .inl c
     .rw[aI c]at sh3;exact .inr sh3
theorem KH.exit(h:KH N d k)(e:ng k z c k'):KH N d k':=by
 rcases e with⟨_,rfl⟩|⟨_,n,y,q,rfl,hn,n0,l,oy,_,_,hp,et⟩
 .exact h
 .exact h.end hn n0 l oy hp et
theorem KH.Ir(h:KH N d k)(hn:n<20)(l:Kn.lv k n=bw)(hm:m∈iC k n):m<20/\m≠0/\(k.p m).par=(n:Int)/\(k.p m).st≠0/\∃y,k.sp.of n=y+1/\Sp.mem k.sp y m:=by
 obtain⟨y,oy⟩:=h.of hn (by rw[dO.1 l];omega);have y6:=(h.ki.vi.iv.dh hn oy).2;have p:=vY m hm;have a:=hm;unfold iC iW at a;rw[Sp.iD hn oy]at a;have b:=Sp.Bz h.ki.vi.iv y6.1 y6.2 (bX.1 a).1;exact⟨b.1,λe=>by rw[e,h.p0]at p;omega,p,(h.ki.vi.kj.of m b.1).1 (h.ki.vi.iv.mem_of y6.1 b.1 b.2).1,y,oy,b.2⟩
theorem KH.wait(h:KH N d k){p:Nat}(w:rA k z p c E k'):KH N d k':=by
 rcases w with⟨_,_,_,_,rfl⟩|⟨a,n,rfl,hn,w⟩
 .exact h
 .rcases w with⟨_,_,_,_,rfl⟩|⟨_,_,_,_,_,rfl⟩|⟨_,i,m,hi,lm,_,_,_,v⟩
  .exact h
  .exact h
  .have l:Kn.lv k n=bw:=jS a;obtain⟨m20,m0,_,ms,_,_⟩:=h.Ir hn l (bK hi);obtain⟨x,ox⟩:=h.of m20 ms;have m2:(k.p m).st=2:=by
    have:=h.ki.vi.kj.st m m20;have:(k.p m).st≠1:=λe=>by rw[dO.2 e]at lm;cases lm
    omega
   exact(h.MF m20 m0 m2 ox v).1
end
end Kn
def Kn.fk(k:Kp)(z f:Int):Int:=if Kn.cC k z=0 then(if f<0\/6<=f then 1 else if(k.p z.toNat).fd f.toNat= -1 then 2 else 0)else Kn.cC k z
theorem Kn.qs(h:Kn.fk k z f=0):∃n g:Nat,z=n/\f=g/\n<20/\g<6/\Kn.lv k n=bw/\(k.p n).fd g≠ -1:=by
 unfold Kn.fk at h;by_cases a:Kn.cC k z=0
 .rw[aJ a]at h;obtain⟨n,rfl,hn,l⟩:=Kn.fL a;by_cases c:f<0\/6<=f
  .rw[aJ c]at h;omega
  .rw[aI c,hU]at h;obtain⟨g,rfl⟩:=aG (show 0<=f by omega);rw[hU]at h;by_cases e:(k.p n).fd g= -1
   .rw[aJ e]at h;omega
   .exact⟨n,g,rfl,rfl,hn,bB,l,e⟩
 .rw[aI a]at h;exact aZ h a
def tQ(b:Nat)(z f E:Int):Value:=if E=0 then ai (bj ⟨b,z.toNat*12+6+f.toNat,bu⟩)else ai bu
theorem qq(b n g:Nat):tQ b (n:Int) (g:Int) 0=ai (bj ⟨b,n*12+6+g,bu⟩):=by unfold tQ;rw[aJ rfl,hU,hU]
theorem Av{b:Nat}(h:E≠0):tQ b z f E=ai none:=aI h
section
variable (Wr:Nat)(s:St)(w:bD)
theorem pK(z f:Int)(h:bP w Wr s):
  Calls prog 76 #[ai (bj ⟨s.A 0,0,bu⟩),aa az z,aa az f] w λe w'=>e=bf (ao #[tQ (s.A 0) z f (Kn.fk s.k z f),bN (Kn.fk s.k z f)])/\w'=w:=by
 have AC:=hZ (dP Wr s w z h);by_cases a:Kn.cC s.k z=0
 .obtain⟨n,rfl,hn,hl⟩:=Kn.fL a;rw[a,bF,ie]at AC;by_cases c:f<0\/6<=f
  .have E:Hid (Kn.fk s.k (n:Int) f=1):=hZ (by unfold Kn.fk;rw[aJ a,aJ c]);rw[E.v,Av bE,bM bE];generalize s.A 0=kb at*;by_cases c1:f<0
   .clear c;go_in
    go_wp2_with fail
    refine sC AC.v ?_;rintro w1 hw;subst w1;go_wp2
    go_ret2
    exact⟨rfl,rfl⟩
   .have c2:6<=f:=bB
    go_in
    go_wp2_with fail
    refine sC AC.v ?_;rintro w1 hw;subst w1;go_wp2
    go_ret2
    exact⟨rfl,rfl⟩
  .obtain⟨g,rfl⟩:=aG (show 0<=f by omega);have hg:g<6:=bB
   have hgI:(g:Int)<6:=bB
   have cf:=h.qA n g hn hg;by_cases e1:(s.k.p n).fd g= -1
   .have E:Hid (Kn.fk s.k (n:Int) (g:Int)=2):=hZ (by unfold Kn.fk;rw[aJ a,aI c,hU,hU,aJ e1]);rw[E.v,Av bE,bM bE];rw[e1]at cf;generalize s.A 0=kb at*;go_in
    go_wp2_with fail
    refine sC AC.v ?_;rintro w1 hw;subst w1;go_wp2
    go_ret2
    exact⟨rfl,rfl⟩
   .have E:Hid (Kn.fk s.k (n:Int) (g:Int)=0):=hZ (by unfold Kn.fk;rw[aJ a,aI c,hU,hU,aI e1]);rw[E.v,qq,bF];generalize (s.k.p n).fd g=v at*;have vB:(v== -1)=bA:=by simpa using e1
    generalize s.A 0=kb at*;go_in
    go_wp2_with fail
    refine sC AC.v ?_;rintro w1 hw;subst w1;go_wp2
    go_ret2
    exact⟨rfl,rfl⟩
 .have E:Hid (Kn.fk s.k z f=Kn.cC s.k z):=hZ (aI a);rw[bM a]at AC;rw[E.v,Av a,bM a];generalize gO (s.A 0) z (Kn.cC s.k z)=ap at*;generalize Kn.cC s.k z=ae at*;generalize s.A 0=kb at*;go_in
  go_wp2_with fail
  refine sC AC.v ?_;rintro w1 hw;subst w1;go_wp2
  go_ret2
  exact⟨rfl,rfl⟩
def Kn.Cw(k:Kp)(z f:Int):Int:=if Kn.fk k z f=0 then Fx.dg k.fi ((k.p z.toNat).fd f.toNat)else Kn.fk k z f
def Kn.iZ(k:Kp)(z f:Int):Kp:=if Kn.fk k z f=0 then Kn.gS (Kn.eJ k z.toNat f.toNat (-1)) ((k.p z.toNat).fd f.toNat)else k
theorem wV(N:Nat)(z f:Int)(h:bP w Wr s)(hj:KJ (λ_=>False) N s.k)(hN:N<=900):
  Calls prog 27 #[ai (bj ⟨s.A 0,0,bu⟩),aa az z,aa az f] w λe w'=>e=bf (bN (Kn.Cw s.k z f))/\bP w' Wr {s with k:=Kn.iZ s.k z f}/\KF s w {s with k:=Kn.iZ s.k z f} w':=by
 have NB:=hZ (pK Wr s w z f h);have H:=hZ (aK h (aK hj hN));by_cases a:Kn.fk s.k z f=0
 .obtain⟨n,g,rfl,rfl,hn,hg,hl,hf⟩:=Kn.qs a;have E:Hid (Kn.Cw s.k (n:Int) (g:Int)=Fx.dg s.k.fi ((s.k.p n).fd g)/\Kn.iZ s.k (n:Int) (g:Int)=Kn.gS (Kn.eJ s.k n g (-1)) ((s.k.p n).fd g)):=hZ ⟨by unfold Kn.Cw;rw[aJ a,hU,hU],by unfold Kn.iZ;rw[aJ a,hU,hU]⟩;have cf:=h.qA n g hn hg;have fz:=h.frozen;have S1:=hZ (h.rP hn hg (-1));rw[a,bF,qq]at NB;rw[E.1,E.2];have XC:=hZ (zP (s.A 8) (s.A 6) (s.A 7) ((s.k.p n).fd g) s.k.fi s.k.fo s.k.pi _ (S1.1.fx) hj.sm (λm hm=>by have:=hj.rf m hm;have e1:(2:Nat)^60=1152921504606846976:=bE;omega));have c8:=S1.1.sF;rw[show({s with k:=Kn.eJ s.k n g (-1)}:St).A 0=s.A 0 from rfl,show({s with k:=Kn.eJ s.k n g (-1)}:St).A 8=s.A 8 from rfl]at c8;obtain⟨v,hv⟩:=nJ ((s.k.p n).fd g);rw[hv]at cf XC|-;obtain⟨kb,hkb⟩:=nJ (s.A 0);obtain⟨a8,ha8⟩:=nJ (s.A 8);have HK:=hZ (aK hkb ha8);rw[hkb]at NB cf fz S1 XC c8|-;rw[ha8]at XC c8;go_in
  go_wp2_with fail
  refine sC NB.v ?_;rintro w1 hw;subst w1;go_wp2_with fail
  refine sC XC.v ?_;rintro w2 ⟨u2,f2⟩;have S2:Hid (bP w2 Wr {s with k:=Kn.gS (Kn.eJ s.k n g (-1)) v}/\KF s w {s with k:=Kn.gS (Kn.eJ s.k n g (-1)) v} w2):=hZ (by
   rw[<-HK.2]at u2 f2;have q:=S1.1.wB u2 f2;exact⟨q.1,S1.2.trans q.2⟩)
  go_wp2
  go_ret
  exact⟨rfl,S2.v⟩
 .have E:Hid (Kn.Cw s.k z f=Kn.fk s.k z f/\Kn.iZ s.k z f=s.k):=hZ ⟨aI a,aI a⟩;rw[bM a]at NB;rw[E.1,E.2,bM a];generalize tQ (s.A 0) z f (Kn.fk s.k z f)=ap at*;generalize Kn.fk s.k z f=ae at*;generalize s.A 0=kb at*;go_in
  go_wp2_with fail
  refine sC NB.v ?_;rintro w1 hw;subst w1;go_wp2
  go_ret
  exact⟨rfl,H.1,KF.refl _ _⟩
end
open Fx (Fi)
open Pp (Pi)
def Kn.iL(k:Kp)(T:Nat->Fi)(F:Fo)(S:Nat->Pi):Kp:={k with fi:=T,fo:=F,pi:=S}
def Kn.BA(k:Kp)(z f:Int):Int:=(k.p z.toNat).fd f.toNat
theorem Kn.wi(k:Kp)(n g:Nat):Kn.BA k (n:Int) (g:Int)=(k.p n).fd g:=by unfold Kn.BA;rw[hU,hU]
def Kn.Cx(k:Kp)(z f m:Int):Int:=if Kn.fk k z f=0 then Fx.eO k.fi k.fo k.pi (Kn.BA k z f) m else Kn.fk k z f
def Kn.Cy(k:Kp)(z f m:Int):bU:=if Kn.fk k z f=0 then Fx.tU k.fi k.fo k.pi (Kn.BA k z f) m else⟨#[]⟩
def Kn.ow(k:Kp)(z f m:Int):Kp:=if Kn.fk k z f=0 then Kn.iL k (Fx.iw k.fi k.fo (Kn.BA k z f) m) k.fo (Fx.qU k.fi k.pi (Kn.BA k z f) m)else k
section
variable (Wr:Nat)(s:St)(w:bD)
theorem I1(z f m:Int)(h:bP w Wr s)(hz:Tr.uC s.k.fo)(hp:Fx.Pz s.k.fi):
  Calls prog 124 #[ai (bj ⟨s.A 0,0,bu⟩),aa az z,aa az f,aa az m] w λe w'=>e=bf (ao #[ak (Kn.Cy s.k z f m),bN (Kn.Cx s.k z f m)])/\bP w' Wr {s with k:=Kn.ow s.k z f m}/\KF s w {s with k:=Kn.ow s.k z f m} w':=by
 have NB:=hZ (pK Wr s w z f h);have H:=hZ (aK h (aK hz hp));by_cases a:Kn.fk s.k z f=0
 .obtain⟨n,g,rfl,rfl,hn,hg,hl,hf⟩:=Kn.qs a;have E:Hid (Kn.Cx s.k (n:Int) (g:Int) m=Fx.eO s.k.fi s.k.fo s.k.pi ((s.k.p n).fd g) m/\Kn.Cy s.k (n:Int) (g:Int) m=Fx.tU s.k.fi s.k.fo s.k.pi ((s.k.p n).fd g) m/\Kn.ow s.k (n:Int) (g:Int) m=Kn.iL s.k (Fx.iw s.k.fi s.k.fo ((s.k.p n).fd g) m) s.k.fo (Fx.qU s.k.fi s.k.pi ((s.k.p n).fd g) m)):=hZ ⟨by unfold Kn.Cx;rw[aJ a,Kn.wi],by unfold Kn.Cy;rw[aJ a,Kn.wi],by unfold Kn.ow;rw[aJ a,Kn.wi]⟩;rw[a,bF,qq]at NB;rw[E.1,E.2.1,E.2.2];have XR:=hZ (M9 (s.A 8) (s.A 6) (s.A 7) ((s.k.p n).fd g) m s.k.fi s.k.fo s.k.pi w.drew h.drew.fx hz hp);have K0:Hid (w.cell? ⟨s.A 0,252,bu⟩=bj (ai (bj ⟨s.A 8,0,bu⟩))/\w.cell? ⟨s.A 0,n*12+6+g,bu⟩=bj (aa az ((s.k.p n).fd g))):=hZ ⟨h.sF,h.qA n g hn hg⟩;obtain⟨v,hv⟩:=nJ ((s.k.p n).fd g);obtain⟨kb,hkb⟩:=nJ (s.A 0);obtain⟨a8,ha8⟩:=nJ (s.A 8);have HK:=hZ (aK hkb (aK ha8 hv));rw[hv]at XR K0|-;rw[hkb]at NB K0|-;rw[ha8]at XR K0;go_in
  go_wp2_with fail
  refine sC NB.v ?_;rintro w1 hw;subst w1;go_upto_region 4 with fail
  obtain⟨y1,y2⟩:=K0.v;go_region_held3 (λw'=>w'.cell? ⟨kb,252,bu⟩=bj (ai (bj ⟨a8,0,bu⟩))/\w'.cell? ⟨kb,n*12+6+g,bu⟩=bj (aa az v)) (first|exact K0.v|exact K4.v) (
   (go_at_call 202;refine sC XR.v ?_;rintro w4 ⟨t4,f4⟩;have S4:Hid (bP w4 Wr {s with k:=Kn.iL s.k (Fx.iw s.k.fi s.k.fo v m) s.k.fo (Fx.qU s.k.fi s.k.pi v m)}/\KF s w {s with k:=Kn.iL s.k (Fx.iw s.k.fi s.k.fo v m) s.k.fo (Fx.qU s.k.fi s.k.pi v m)} w4):=hZ (by
    rw[<-HK.2.1]at t4 f4;have q:=H.1.drew.wB t4 f4;exact⟨q.1,(KF.drew _ _).trans q.2⟩);have K4:Hid (w4.cell? ⟨kb,252,bu⟩=bj (ai (bj ⟨a8,0,bu⟩))/\w4.cell? ⟨kb,n*12+6+g,bu⟩=bj (aa az v)):=hZ (by
    obtain⟨e1,e2,e3⟩:=HK.v;have q1:=S4.1.sF;have q2:=S4.1.qA n g hn hg;rw[<-e1,<-e2,<-e3];exact⟨q1,q2⟩)))
  go_wp2
  go_ret2
  exact⟨rfl,S4.v⟩
 .have E:Hid (Kn.Cx s.k z f m=Kn.fk s.k z f/\Kn.Cy s.k z f m=⟨#[]⟩/\Kn.ow s.k z f m=s.k):=hZ ⟨aI a,aI a,aI a⟩;rw[bM a]at NB;rw[E.1,E.2.1,E.2.2,bM a];generalize tQ (s.A 0) z f (Kn.fk s.k z f)=ap at*;generalize Kn.fk s.k z f=ae at*;generalize s.A 0=kb at*;go_in
  go_wp2_with fail
  refine sC NB.v ?_;rintro w1 hw;subst w1;go_wp2
  go_ret2
  exact⟨rfl,H.1,KF.refl _ _⟩
end
theorem N3(w:bD):Sem.run prog (binOp BinOp.eql 34 (aq 100 (aa .i64 12)) (aq 100 (aa .i64 12))) w= .ok (ar bw) w:=by kernel_rfl
theorem NZ(w:bD):Sem.run prog (binOp BinOp.eql 34 ay (aq 100 (aa .i64 12))) w= .ok (ar bA) w:=by kernel_rfl
theorem NY(w:bD)(E:Int):Sem.run prog (binOp BinOp.eql 34 (aq 100 (aa az E)) (aq 100 (aa .i64 12))) w= .ok (ar (E==12)) w:=by kernel_rfl
section
variable (Wr N:Nat)(d:Nat->Nat)(s:St)(w:bD)
theorem Lc(hN:N<=900)(n:Nat)(c:Int)(h:bP w Wr s)(hn:n<20)(hl:Kn.lv s.k n=bw)(hi:Kn.KI N d s.k):
  Calls prog 151 #[ai (bj ⟨s.A 0,0,bu⟩),aa az n,aa az c] w λe w'=>∃(y q:Nat) (k':Kp),e=bf (ao #[])/\Kn.pg (Kn.iG s.k n c) n y q k'/\(s.k.sp.of n=y+1/\(n≠0->q<20/\q≠n/\(s.k.p n).par=(q:Int)))/\bP w' Wr {s with k:=k'}/\KF s w {s with k:=k'} w':=by
 have hnI:(n:Int)<20:=bB
 have hh:=hi.has hn hl;have c5:=h.tB n hn hh;have SE:=hZ (xN (s.A (29+n)) c (s.k.p n).box w (h.bx n hn hh));have H:=hZ (aK h (aK hh (aK hi (aK hl hN))));obtain⟨kb,hkb⟩:=nJ (s.A 0);have HK:=hZ hkb;obtain⟨bb,hbb⟩:=nJ (s.A (29+n));have HB:=hZ hbb;rw[hkb]at c5|-;rw[hbb]at c5 SE;go_in
 go_wp2_with fail
 refine sC SE.v ?_;rintro w1 ⟨u1,f1⟩;generalize bN (Sg.cL c)=ev;have S1:Hid (bP w1 Wr {s with k:=Kn.iG s.k n c}/\KF s w {s with k:=Kn.iG s.k n c} w1):=hZ (by
  rw[<-HB.v]at u1 f1;exact H.1.wA hn H.2.1 u1 f1)
 obtain⟨y,q,li⟩:=H.2.2.1.li hn H.2.2.2.1 (Sg.mS (s.k.p n).box c);have LK:=hZ (tO Wr N d {s with k:=Kn.iG s.k n c} w1 H.2.2.2.2 n y q (λ_=>H.2.2.1.h0) S1.1 li);rw[show({s with k:=Kn.iG s.k n c}:St).A 0=kb from HK.v]at LK;have HY:Hid (s.k.sp.of n=y+1/\(n≠0->q<20/\q≠n/\(s.k.p n).par=(q:Int))):=hZ ⟨li.ho,λn0=>by
  have a:=li.pr n0;have e:((Kn.dv s.k n (Sg.mS (s.k.p n).box c)).p n).par=(s.k.p n).par:=by unfold Kn.dv;rw[Kn.bG]
  rw[e]at a;exact a⟩
 go_wp2_with fail
 refine LK.mono ?_;rintro e w2 ⟨k',rfl,et,ka,kf⟩;have S2:Hid (Kn.pg (Kn.iG s.k n c) n y q k'/\(s.k.sp.of n=y+1/\(n≠0->q<20/\q≠n/\(s.k.p n).par=(q:Int)))/\bP w2 Wr {s with k:=k'}/\KF s w {s with k:=k'} w2):=hZ ⟨et,HY.v,ka,S1.2.trans kf⟩;go_wp2_with fail
 go_end0
 exact⟨y,q,k',rfl,S2.v⟩
def Kn.rm(k:Kp)(v:Int)(t:bU):Kp:=Kn.iL k (Fx.pf k.fi k.fo v t) (Fx.eV k.fi k.fo v t) (Fx.yl k.fi k.pi v t)
def Kn.vU(k:Kp)(z f:Int)(t:bU)(K:Nat)(E:Int)(k':Kp):Prop:=
 (Kn.fk k z f≠0/\K=0/\E=Kn.fk k z f/\k'=k)
 \/(Kn.fk k z f=0/\∃n g:Nat,z=n/\f=g/\n<20/\g<6/\Kn.lv k n=bw/\K=Fx.iU k.fi k.fo k.pi ((k.p n).fd g) t/\E=Fx.dL k.fi k.fo k.pi ((k.p n).fd g) t
  /\((E≠12/\k'=Kn.rm k ((k.p n).fd g) t)\/(E=12/\∃y q,Kn.pg (Kn.iG (Kn.rm k ((k.p n).fd g) t) n 2) n y q k'/\k.sp.of n=y+1/\(n≠0->q<20/\q≠n/\(k.p n).par=(q:Int)))))
theorem FE(hN:N<=900)(z f:Int)(t:bU)(h:bP w Wr s)(ht:t.size<2^59)(hp:Fx.Pz s.k.fi)(hi:Kn.fk s.k z f=0->Kn.KI N d (Kn.rm s.k (Kn.BA s.k z f) t)):
  Calls prog 125 #[ai (bj ⟨s.A 0,0,bu⟩),aa az z,aa az f,ak t] w λe w'=>∃(K:Nat) (E:Int) (k':Kp),e=bf (ao #[aa az (K:Int),bN E])/\Kn.vU s.k z f t K E k'/\bP w' Wr {s with k:=k'}/\KF s w {s with k:=k'} w':=by
 have NB:=hZ (pK Wr s w z f h);by_cases a:Kn.fk s.k z f=0
 .obtain⟨n,g,rfl,rfl,hn,hg,hl,hf⟩:=Kn.qs a;have hiA:=hi a;rw[Kn.wi]at hiA;have H:=hZ (aK h (aK hiA (aK hN (aK a hl))));rw[a,bF,qq]at NB;have XR:=hZ (JM (s.A 8) (s.A 6) (s.A 7) ((s.k.p n).fd g) t s.k.fi s.k.fo s.k.pi w.drew h.drew.fx ht hp);have K0:Hid (w.cell? ⟨s.A 0,252,bu⟩=bj (ai (bj ⟨s.A 8,0,bu⟩))/\w.cell? ⟨s.A 0,n*12+6+g,bu⟩=bj (aa az ((s.k.p n).fd g))):=hZ ⟨h.sF,h.qA n g hn hg⟩;obtain⟨v,hv⟩:=nJ ((s.k.p n).fd g);obtain⟨kb,hkb⟩:=nJ (s.A 0);obtain⟨a8,ha8⟩:=nJ (s.A 8);have HK:=hZ (aK hkb (aK ha8 hv));rw[hv]at XR K0;rw[hkb]at NB K0|-;rw[ha8]at XR K0;obtain⟨E,hE⟩:=nJ (Fx.dL s.k.fi s.k.fo s.k.pi v t);obtain⟨K,hKK⟩:=nJ (Fx.iU s.k.fi s.k.fo s.k.pi v t);have HE:=hZ (aK hE hKK);rw[hE,hKK]at XR;go_in
  go_wp2_with fail
  refine sC NB.v ?_;rintro w1 hw;subst w1;go_upto_region 4 with fail
  obtain⟨y1,y2⟩:=K0.v;go_region_held3 (λw'=>w'.cell? ⟨kb,252,bu⟩=bj (ai (bj ⟨a8,0,bu⟩))/\w'.cell? ⟨kb,n*12+6+g,bu⟩=bj (aa az v)) (first|exact K0.v|exact K4.v) (
   (go_at_call 203;refine sC XR.v ?_;rintro w4 ⟨t4,f4⟩;have S4:Hid (bP w4 Wr {s with k:=Kn.rm s.k v t}/\KF s w {s with k:=Kn.rm s.k v t} w4):=hZ (by
     rw[<-HK.2.1]at t4 f4;have q:=H.1.drew.wB t4 f4;exact⟨q.1,(KF.drew _ _).trans q.2⟩);have K4:Hid (w4.cell? ⟨kb,252,bu⟩=bj (ai (bj ⟨a8,0,bu⟩))/\w4.cell? ⟨kb,n*12+6+g,bu⟩=bj (aa az v)):=hZ (by
     obtain⟨e1,e2,e3⟩:=HK.v;have q1:=S4.1.sF;have q2:=S4.1.qA n g hn hg;rw[<-e1,<-e2,<-e3];exact⟨q1,q2⟩)))
  by_cases e12:E=12
  .have E12:=hZ e12;have SD:=hZ (Lc Wr N d {s with k:=Kn.rm s.k v t} w4 H.2.2.1 n 2 S4.1 hn H.2.2.2.2 (by rw[<-HK.2.2];exact H.2.1));rw[show({s with k:=Kn.rm s.k v t}:St).A 0=kb from HK.1]at SD;rw[e12,bM bE];go_wp2_with fail
   rw[N3];go_wp2_with fail
   refine SD.mono ?_;rintro e w5 ⟨y,q,k',rfl,lt,yq,ka,kf⟩;have S5:Hid (Kn.vU s.k (n:Int) (g:Int) t K 12 k'/\bP w5 Wr {s with k:=k'}/\KF s w {s with k:=k'} w5):=hZ ⟨.inr ⟨H.2.2.2.1,n,g,rfl,rfl,hn,hg,H.2.2.2.2,by rw[HK.2.2];exact HE.2.symm,by rw[HK.2.2];exact(HE.1.trans E12.v).symm, .inr ⟨rfl,y,q,by rw[HK.2.2];exact lt,yq⟩⟩,ka,S4.2.trans kf⟩;go_wp2
   go_ret2
   exact⟨K,12,k',by rw[bM bE];rfl,S5.v⟩
  .have FIN:Hid (Kn.vU s.k (n:Int) (g:Int) t K E (Kn.rm s.k v t)):=hZ (.inr ⟨H.2.2.2.1,n,g,rfl,rfl,hn,hg,H.2.2.2.2,by rw[HK.2.2];exact HE.2.symm,by rw[HK.2.2];exact HE.1.symm, .inl ⟨e12,by rw[HK.2.2]⟩⟩);by_cases e0:E=0
   .rw[e0,bF];have E0:=hZ e0;go_wp2_with fail
    rw[NZ];go_wp2
    go_ret2
    exact⟨K,E,_,by rw[E0.v,bF];rfl,FIN.v,S4.v⟩
   .have EV:=hZ (bM e0);have eB:(E==12)=bA:=by simpa using e12
    rw[bM e0];go_wp2_with fail
    rw[NY,eB];go_wp2
    go_ret2
    exact⟨K,E,_,by rw[EV.v];rfl,FIN.v,S4.v⟩
 .have FIN:Hid (Kn.vU s.k z f t 0 (Kn.fk s.k z f) s.k):=hZ (.inl ⟨a,rfl,rfl,rfl⟩);have HE:=hZ (bM a);have H:=hZ h;rw[bM a]at NB;generalize tQ (s.A 0) z f (Kn.fk s.k z f)=ap at*;generalize s.A 0=kb at*;go_in
  go_wp2_with fail
  refine sC NB.v ?_;rintro w1 hw;subst w1;go_wp2
  go_ret2
  exact⟨0,Kn.fk s.k z f,s.k,by rw[HE.v];rfl,FIN.v,H.v,KF.refl _ _⟩
end
def Kn.gy(k:Kp)(n j:Nat):List Nat:=(List.range j).filter (λf=>decide ((k.p n).fd f= -1))
theorem Kn.Rk(h:(k.p n).fd j= -1):Kn.gy k n (j+1)=Kn.gy k n j++[j]:=by
 unfold Kn.gy;rw[List.range_succ,List.filter_append];simp[h]
theorem Kn.Tt(h:¬(k.p n).fd j= -1):Kn.gy k n (j+1)=Kn.gy k n j:=by
 unfold Kn.gy;rw[List.range_succ,List.filter_append];simp[h]
theorem Kn.GF(k:Kp)(n j:Nat):(Kn.gy k n j).length<=j:=by
 unfold Kn.gy;refine aH (bW _ _) ?_;rw[List.length_range];exact aL _
theorem Kn.sG{f:Nat}(h:f∈Kn.gy k n 6):f<6/\(k.p n).fd f= -1:=by
 unfold Kn.gy at h;have a:=bX.1 h;exact⟨List.mem_range.1 a.1,by simpa using a.2⟩
theorem Kn.GH(h:2<=(Kn.gy k n 6).length):∃f g,(Kn.gy k n 6).getD 0 0=f/\(Kn.gy k n 6).getD 1 0=g/\f<6/\g<6/\f≠g:=by
 have nd:(Kn.gy k n 6).Nodup:=List.Pairwise.filter _ (List.nodup_range);refine⟨_,_,rfl,rfl,?_⟩
 match hL:Kn.gy k n 6,h,nd with
 |[],h,_=>simp at h
 |[x],h,_=>simp at h
 |x::y::L,_,nd=>
  have hx:=Kn.sG (k:=k) (n:=n) (f:=x) (by rw[hL];simp);have hy:=Kn.sG (k:=k) (n:=n) (f:=y) (by rw[hL];simp);refine⟨hx.1,hy.1,?_⟩;have:=List.nodup_cons.1 nd;intro e;have e':x=y:=e;exact this.1 (by rw[e'];simp)
section
variable (Wr N:Nat)(d:Nat->Nat)(s:St)(w:bD)
theorem tP(n:Nat)(h:bP w Wr s)(hn:n<20):
  Calls prog 196 #[ai (bj ⟨s.A 0,n*12,bu⟩)] w λe w'=>∃v,e=bf v/\LO w (Kn.gy s.k n 6) v w':=by
 obtain⟨i0,hi,hz0,hz1,hz2⟩:=info_parts yT;obtain⟨fd,hfd⟩:=nJ ((s.k.p n).fd);obtain⟨kb,hkb⟩:=nJ (s.A 0);have LD:Hid (∀j,j<(mJ fd).size->w.cell? ⟨kb,n*12+6+j,bu⟩=(mJ fd)[j]?):=hZ (λj hj=>by
  have q:=h.fds hn j (by rw[hfd];exact hj);rw[hfd]at q;rw[<-hkb];exact q)
 have hsz:Hid ((prog.info? 72).map (·.size)=bj (mJ fd).size):=hZ (by rw[qI];kernel_rfl);have HFD:=hZ hfd;rw[hkb];go_in
 go_wp2_with (refine jA rfl 72 _ rfl kb (n*12+6) rfl (mJ fd) 6 3 LD.v bC hsz.v ?_)
 go_loopw [3,4,5,10] (λl _ _ i wr=>∃(k:Nat),i=aa az k/\k<=6/\Hid (LO w (Kn.gy s.k n k) l wr)) (λ_ _ _ i _=>6-(intOf i).toNat)
 case atStart=>exact⟨0,rfl,bB,LO.nil w⟩
 case round=>
  obtain⟨k,rfl,hk,R⟩:=hrel;by_cases hlt:k<6
  .have hltI:(k:Int)<6:=bB
   have hix:=xz fd k hlt wr;obtain⟨z,hz⟩:=nJ (fd k);have HZ:=hZ hz;rw[hz]at hix;by_cases hz1:z= -1
   .have HM:=hZ (Kn.Rk (k:=s.k) (n:=n) (j:=k) (by rw[HFD.v,HZ.v,hz1]));subst hz1;obtain⟨a,cap,hv⟩:=gJ R.own;rw[hv];have HV:=hZ hv;have hlm:=Kn.GF s.k n k;generalize hN:(Kn.gy s.k n k).length=M at*;have HN:=hZ hN;go_wp2_with (at_builtin;refine wpList_append_lies _ rfl _ _ 46 (by rfl) w.heap.size 3 i0 (aa .i64 0) 1 8 Tryz.underlying46 hi hz0 hz1 hz2 rfl bE (aj a M cap) M (rowOf (Kn.gy s.k n k)) (by rfl) (by rw[<-HV.v,<-HN.v];exact R.own.alloc _) ⟨wr.heap.size,0,bu⟩ 1 1 [aa az k] (by rfl) rfl (cell_one_new _ _ _) (by simp[Value.oneCell']) bE (by unfold maxLen;omega) bB (by have:=R.cZ.size;simp;omega) (wr.heap.size+1) (by simp) ?_;intro gg cap2 w1 hown hgrow hat hlt2;have Q1:Hid (LO w (Kn.gy s.k n k++[k]) (aj (bj ⟨gg,0,bu⟩) (M+1) cap2) w1):=R.more HN.v hown _ (by rw[HV.v];exact hgrow))
    go_roundw
    case rel=>exact⟨k+1,by go_num,bB,by rw[HM.v];exact Q1⟩
    case measure=>simp[intOf];omega
   .have HM:=hZ (Kn.Tt (k:=s.k) (n:=n) (j:=k) (by rw[HFD.v,HZ.v];exact hz1));have z1:(z== -1)=bA:=by simpa using hz1
    go_wp2
    go_roundw
    case rel=>exact⟨k+1,by go_num,bB,by rw[HM.v];exact R⟩
    case measure=>simp[intOf];omega
  .obtain rfl:k=6:=bB
   go_wp2
   go_ret
   exact⟨_,rfl,R.v⟩
end
def Kn.tg(k:Kp)(z:Int)(A C:Nat)(E:Int)(k':Kp):Prop:=
 (Kn.cC k z≠0/\A=0/\C=0/\E=Kn.cC k z/\k'=k)
 \/(Kn.cC k z=0/\∃n:Nat,z=n/\n<20/\((¬2<=(Kn.gy k n 6).length/\A=0/\C=0/\E=4/\k'=k)
  \/(2<=(Kn.gy k n 6).length/\∃(a c:Nat) (T:Nat->Fi) (S:Nat->Pi),Fx.vT k.fi k.pi a c E T S/\((E≠0/\A=0/\C=0/\k'=Kn.iL k T k.fo S)\/(E=0/\A=(Kn.gy k n 6).getD 0 0/\C=(Kn.gy k n 6).getD 1 0/\k'=Kn.eJ (Kn.eJ (Kn.iL k T k.fo S) n A (a:Int)) n C (c:Int))))))
section
variable (Wr N:Nat)(d:Nat->Nat)(s:St)(w:bD)
theorem I0(z:Int)(h:bP w Wr s):
  Calls prog 123 #[ai (bj ⟨s.A 0,0,bu⟩),aa az z] w λe w'=>∃(A C:Nat) (E:Int) (k':Kp),e=bf (ao #[aa az (A:Int),aa az (C:Int),bN E])/\Kn.tg s.k z A C E k'/\bP w' Wr {s with k:=k'}/\KF s w {s with k:=k'} w':=by
 have AC:=hZ (dP Wr s w z h);have H:=hZ h;by_cases a:Kn.cC s.k z=0
 .obtain⟨n,rfl,hn,hl⟩:=Kn.fL a;have HA:=hZ a;rw[a,bF,ie]at AC;have FR1:=hZ (tP Wr s w n h hn);obtain⟨kb,hkb⟩:=nJ (s.A 0);obtain⟨a8,ha8⟩:=nJ (s.A 8);have HK:=hZ (aK hkb ha8);rw[hkb]at AC FR1|-;clear h a hl hkb ha8;go_in
  go_wp2_with fail
  refine sC AC.v ?_;rintro w1 hw;subst w1;go_wp2_with fail
  refine FR1.mono ?_;rintro e w1 ⟨v,rfl,lo⟩;have K1:Hid (bP w1 Wr s/\KF s w s w1):=hZ ⟨H.below lo.cZ,KF.below lo.cZ⟩;by_cases l2:2<=(Kn.gy s.k n 6).length
  .obtain⟨gg,cap,hv,hgg,hc⟩:=lo.cells bB;obtain⟨f,g,hf,hg,f6,g6,fg⟩:=Kn.GH l2;have y0:=hc 0 bB;have y1:=hc 1 bB;rw[hf]at y0;rw[hg]at y1;have fI:(f:Int)<6:=bB
   have gI:(g:Int)<6:=bB
   have GB:Hid (∀i,us s i->gg≠s.A i):=hZ (λi hi e=>by
    have:=H.lt hi;have q:=lo.own;rw[hv]at q;have q2:=q.lt gg rfl;omega)
   have L3:=hZ (aK hf hg);have L2:Hid (2<=(Kn.gy s.k n 6).length/\(Kn.gy s.k n 6).getD 0 0=f/\(Kn.gy s.k n 6).getD 1 0=g):=hZ ⟨l2,hf,hg⟩;rw[hv];have hlm:=Kn.GF s.k n 6;generalize (Kn.gy s.k n 6).length=M at l2 hlm y0 y1|-;have lI:((M:Int)<2)=False:=by simp;omega
   have M0:(0:Int)<(M:Int):=bB
   have M1:(1:Int)<(M:Int):=bB
   clear hv hc lo hf hg;have c8:=K1.1.sF;rw[HK.1,HK.2]at c8;have XP:=hZ (M7 (s.A 8) (s.A 6) (s.A 7) s.k.fi s.k.fo s.k.pi w1 K1.1.fx);rw[HK.2]at XP;go_wp2_with fail
   refine XP.mono ?_;rintro e w2 ⟨a,c,E,T,S,rfl,pt,u2,f2⟩;have S2:Hid (bP w2 Wr {s with k:=Kn.iL s.k T s.k.fo S}/\KF s w {s with k:=Kn.iL s.k T s.k.fo S} w2):=hZ (by
    rw[<-HK.2]at u2 f2;have q:=K1.1.wB u2 f2;exact⟨q.1,K1.2.trans q.2⟩)
   have PT:=hZ pt;have G2:Hid (gg<w2.heap.size):=hZ (aD hgg f2.size);have YY:Hid (w2.cell? ⟨gg,0,bu⟩=bj (aa az (f:Int))/\w2.cell? ⟨gg,1,bu⟩=bj (aa az (g:Int))):=hZ (by
    have e:=f2.block gg hgg (by rw[<-HK.2];exact GB.v 8 cv) (GB.v 6 cv) (GB.v 7 cv);exact⟨(aV e).trans y0,(aV e).trans y1⟩)
   clear u2 f2 c8 pt;by_cases e0:E=0
   .have E0:=hZ e0;rw[e0,bF];clear e0;go_upto_region 10 with fail
    obtain⟨x0,x1⟩:=YY.v;have gk:gg≠kb:=by rw[<-HK.1];exact GB.v 0 cv
    obtain⟨W3,hW3⟩:=nJ (w2.setCell ⟨kb,n*12+6+f,bu⟩ (aa az (a:Int)));obtain⟨W4,hW4⟩:=nJ (W3.setCell ⟨kb,n*12+6+g,bu⟩ (aa az (c:Int)));have S3:Hid (bP W3 Wr {s with k:=Kn.eJ (Kn.iL s.k T s.k.fo S) n f (a:Int)}/\KF s w {s with k:=Kn.eJ (Kn.iL s.k T s.k.fo S) n f (a:Int)} W3):=hZ (by
     have q:=S2.1.rP hn f6 (a:Int);rw[show({s with k:=Kn.iL s.k T s.k.fo S}:St).A 0=kb from HK.1,hW3]at q;exact⟨q.1,S2.2.trans q.2⟩)
    have S4:Hid (bP W4.drew Wr {s with k:=Kn.eJ (Kn.eJ (Kn.iL s.k T s.k.fo S) n f (a:Int)) n g (c:Int)}/\KF s w {s with k:=Kn.eJ (Kn.eJ (Kn.iL s.k T s.k.fo S) n f (a:Int)) n g (c:Int)} W4.drew):=hZ (by
     have q:=S3.1.rP hn g6 (c:Int);rw[show({s with k:=Kn.eJ (Kn.iL s.k T s.k.fo S) n f (a:Int)}:St).A 0=kb from HK.1,hW4]at q;exact⟨q.1.drew,S3.2.trans (q.2.trans (KF.drew _ _))⟩)
    have b3:W3.heap[gg]? =w2.heap[gg]? :=by
     rw[<-hW3];have ff:bH kb w2 (w2.setCell ⟨kb,n*12+6+f,bu⟩ (aa az (a:Int))):=(bH.refl _ _).setCell _ _;exact ff.block gg G2.v gk
    have b4:W4.heap[gg]? =W3.heap[gg]? :=by
     rw[<-hW4];have ff:bH kb W3 (W3.setCell ⟨kb,n*12+6+g,bu⟩ (aa az (c:Int))):=(bH.refl _ _).setCell _ _;exact ff.block gg (by rw[<-hW3];simp;exact G2.v) gk
    have Y3:Hid (W3.drew.cell? ⟨gg,0,bu⟩=bj (aa az (f:Int))/\W3.drew.cell? ⟨gg,1,bu⟩=bj (aa az (g:Int))):=hZ ⟨(aV b3).trans x0,(aV b3).trans x1⟩;have Y4:Hid (W4.drew.cell? ⟨gg,0,bu⟩=bj (aa az (f:Int))/\W4.drew.cell? ⟨gg,1,bu⟩=bj (aa az (g:Int))):=hZ ⟨(aV (b4.trans b3)).trans x0,(aV (b4.trans b3)).trans x1⟩;rw[<-hW4,<-hW3]at S4 Y4;rw[<-hW3]at Y3;have cf:=S2.1.qA n f hn f6;have cg:=S2.1.qA n g hn g6;have fz:=S2.1.frozen;rw[show({s with k:=Kn.iL s.k T s.k.fo S}:St).A 0=kb from HK.1]at cf cg fz;generalize (({s with k:=Kn.iL s.k T s.k.fo S}:St).k.p n).fd f=vf at cf;generalize (({s with k:=Kn.iL s.k T s.k.fo S}:St).k.p n).fd g=vg at cg;have m0:0<M:=bB
    have m1:1<M:=bB
    have m00:¬M=0:=bB
    have m11:¬M<=1:=bB
    have m12:¬(M:Int)<=1:=bB
    clear hW3 hW4 b3 b4 S3;go_region_held3 (λw'=>w'.cell? ⟨gg,0,bu⟩=bj (aa az (f:Int))/\w'.cell? ⟨gg,1,bu⟩=bj (aa az (g:Int))) (first|exact YY.v|exact Y3.v|exact Y4.v|go_keep) (fail)
    generalize ((w2.setCell ⟨kb,n*12+6+f,bu⟩ (aa az (a:Int))).setCell ⟨kb,n*12+6+g,bu⟩ (aa az (c:Int))).drew=W5 at*;clear cf cg fz x0 x1 Y3 YY S2;go_upto_region 11 with fail
    obtain⟨x0,x1⟩:=Y4.v;have Y5:Hid (W5.drew.cell? ⟨gg,0,bu⟩=bj (aa az (f:Int))/\W5.drew.cell? ⟨gg,1,bu⟩=bj (aa az (g:Int))):=hZ ⟨x0,x1⟩;go_region_held3 (λw'=>w'.cell? ⟨gg,0,bu⟩=bj (aa az (f:Int))/\w'.cell? ⟨gg,1,bu⟩=bj (aa az (g:Int))) (first|exact Y4.v|exact Y5.v|go_keep) (fail)
    go_wp2
    go_ret3
    exact⟨f,g,0,by rw[bF];rfl,Kn.eJ (Kn.eJ (Kn.iL s.k T s.k.fo S) n f (a:Int)) n g (c:Int), .inr ⟨HA.v,n,rfl,hn, .inr ⟨L2.1,a,c,T,S,by rw[<-E0.v];exact PT.v, .inr ⟨rfl,L2.2.1.symm,L2.2.2.symm,rfl⟩⟩⟩,S4.1.drew,S4.2.trans (KF.drew _ _)⟩
   .have HE:=hZ (bM e0);have FIN:Hid (Kn.tg s.k (n:Int) 0 0 E (Kn.iL s.k T s.k.fo S)):=hZ (.inr ⟨HA.v,n,rfl,hn, .inr ⟨L2.1,a,c,T,S,PT.v, .inl ⟨e0,rfl,rfl,rfl⟩⟩⟩);rw[bM e0];clear e0;go_wp2
    go_ret3
    exact⟨0,0,E,_,by rw[HE.v];rfl,FIN.v,S2.v⟩
  .have FIN:Hid (Kn.tg s.k (n:Int) 0 0 4 s.k):=hZ (.inr ⟨HA.v,n,rfl,hn, .inl ⟨l2,rfl,rfl,rfl,rfl⟩⟩);obtain⟨a,cap,hv⟩:=gJ lo.own;rw[hv];generalize (Kn.gy s.k n 6).length=M at*;have lI:((M:Int)<2):=bB
   clear hv lo l2;go_wp2
   go_ret3
   exact⟨0,0,4,s.k,by rw[bM bE];rfl,FIN.v,K1.v⟩
 .have FIN:Hid (Kn.tg s.k z 0 0 (Kn.cC s.k z) s.k):=hZ (.inl ⟨a,rfl,rfl,rfl,rfl⟩);have HE:=hZ (bM a);rw[bM a]at AC;clear h a;generalize gO (s.A 0) z (Kn.cC s.k z)=ap at*;generalize s.A 0=kb at*;go_in
  go_wp2_with fail
  refine sC AC.v ?_;rintro w1 hw;subst w1;go_wp2
  go_ret3
  exact⟨0,0,Kn.cC s.k z,s.k,by rw[HE.v];rfl,FIN.v,H.v,KF.refl _ _⟩
end
namespace Kn
def fc(fd:Nat->Int)(f:Nat):Nat->Nat
 |0=>0
 |j+1=>fc fd f j+if fd j=(f:Int)then 1 else 0
def kJ(x:Pr)(f:Nat):Nat:=if x.has=bw then fc x.fd f 6 else 0
def kK(p:Nat->Pr)(f:Nat):Nat->Nat
 |0=>0
 |m+1=>kK p f m+kJ (p m) f
def RC(k:Kp):Prop:=∀f,f<24->(k.fi f).refs=kK k.p f 20
theorem Dm(fd:Nat->Int)(j:Nat)(v:Int)(f:Nat):∀N,fc (λi=>if i=j then v else fd i) f N+(if j<N/\fd j=(f:Int)then 1 else 0)=fc fd f N+(if j<N/\v=(f:Int)then 1 else 0)
 |0=>by
  rw[aI (λc=>aZ c.1 (Nat.not_lt_zero _)),aI (λc=>aZ c.1 (Nat.not_lt_zero _))];rfl
 |N+1=>by
  have ih:=Dm fd j v f N;show fc (λi=>if i=j then v else fd i) f N+(if(if N=j then v else fd N)=(f:Int)then 1 else 0)+_=fc fd f N+(if fd N=(f:Int)then 1 else 0)+_;generalize fc (λi=>if i=j then v else fd i) f N=A at ih|-;generalize fc fd f N=B at ih|-;by_cases c:N=j
  .subst c;rw[aI (λc=>aZ c.1 (bV _)),aI (λc=>aZ c.1 (bV _))]at ih;rw[aJ rfl];by_cases a:v=(f:Int)<;>by_cases b:fd N=(f:Int)<;>simp[a,b]<;>omega
  .rw[aI c];by_cases l:j<N
   .have l2:j<N+1:=bB
    by_cases a:v=(f:Int)<;>by_cases b:fd j=(f:Int)<;>simp[a,b,l,l2]at ih|- <;>omega
   .have l2:¬j<N+1:=bB
    simp[l,l2]at ih|-;omega
theorem P8{fd:Nat->Int}{f j:Nat}(h:fd j=(f:Int)):∀N,j<N->1<=fc fd f N
 |0,l=>aZ l (Nat.not_lt_zero _)
 |N+1,l=>by
  show 1<=fc fd f N+(if fd N=(f:Int)then 1 else 0);by_cases c:j=N
  .subst c;rw[aJ h];omega
  .have:=P8 h N bB;omega
theorem Aj{fd:Nat->Int}{f:Nat}:∀N,(∀j,j<N->fd j= -1)->fc fd f N=0
 |0,_=>rfl
 |N+1,l=>by
  show fc fd f N+(if fd N=(f:Int)then 1 else 0)=0;rw[Aj N (λj hj=>l j bB),l N bB,nK]
theorem sP(k:Kp)(n:Nat)(x:Pr)(f:Nat):∀N,kK (k.put n x).p f N+(if n<N then kJ (k.p n) f else 0)=kK k.p f N+(if n<N then kJ x f else 0)
 |0=>by rw[aI (Nat.not_lt_zero n),aI (Nat.not_lt_zero n)];rfl
 |N+1=>by
  have ih:=sP k n x f N;show kK (k.put n x).p f N+kJ ((k.put n x).p N) f+_=kK k.p f N+kJ (k.p N) f+_;by_cases c:N=n
  .subst c;rw[bG];rw[aI (bV _),aI (bV _)]at ih;rw[nL,nL];omega
  .rw[bO _ _ _ _ c];by_cases l:n<N
   .rw[aJ l,aJ l]at ih;rw[nL,nL];omega
   .rw[aI l,aI l]at ih;rw[nK,nK];omega
theorem Eh{p:Nat->Pr}{f m:Nat}:∀N,m<N->kJ (p m) f<=kK p f N
 |0,l=>aZ l (Nat.not_lt_zero _)
 |N+1,l=>by
  show _<=kK p f N+kJ (p N) f;by_cases c:m=N
  .subst c;omega
  .have:=Eh (p:=p) (f:=f) (m:=m) N bB;omega
theorem rN{p q:Nat->Pr}{f:Nat}:∀N,(∀m,m<N->(p m).has=(q m).has/\((q m).has=bw->(p m).fd=(q m).fd))->kK p f N=kK q f N
 |0,_=>rfl
 |N+1,l=>by
  show kK p f N+kJ (p N) f=kK q f N+kJ (q N) f;rw[rN N (λm hm=>l m bB)];have e:=l N bB;unfold kJ;rw[e.1];by_cases c:(q N).has=bw
  .rw[e.2 c]
  .rw[aI c,aI c]
section
variable {k k' k1 k2:Kp}{n:Nat}
theorem RC.refs(h:RC k){m j f:Nat}(hm:m<20)(hj:j<6)(f24:f<24)(hh:(k.p m).has=bw)(e:(k.p m).fd j=(f:Int)):(k.fi f).refs≠0:=by
 have a:=h f f24;have b:=Eh (p:=k.p) (f:=f) (m:=m) 20 hm;have c:kJ (k.p m) f=fc (k.p m).fd f 6:=aJ hh;have d:=P8 e 6 hj;omega
structure QF (k k':Kp):Prop where
 fi:∀f,f<24->(k'.fi f).refs≠0->(k.fi f).refs≠0/\(k'.fi f).kind=(k.fi f).kind/\(k'.fi f).num=(k.fi f).num
 pi:∀p,p<8->Pp.jL (k'.pi p)=bw->Pp.jL (k.pi p)=bw/\(k'.pi p).tx=(k.pi p).tx
theorem QF.refl(k:Kp):QF k k:=⟨λ_ _ h=>⟨h,rfl,rfl⟩,λ_ _ h=>⟨h,rfl⟩⟩
theorem QF.trans(h:QF k k1)(g:QF k1 k2):QF k k2:=
 ⟨λf hf r=>by
  have a:=g.fi f hf r;have b:=h.fi f hf a.1;exact⟨b.1,a.2.1.trans b.2.1,a.2.2.trans b.2.2⟩,λp hp r=>by
  have a:=g.pi p hp r;have b:=h.pi p hp a.1;exact⟨b.1,a.2.trans b.2⟩⟩
theorem QF.same(e1:k'.fi=k.fi)(e2:k'.pi=k.pi):QF k k':=by
 refine⟨λf _ r=>?_,λp _ r=>?_⟩
 .rw[e1]at r|-;exact⟨r,rfl,rfl⟩
 .rw[e2]at r|-;exact⟨r,rfl⟩
theorem QF.Ke(k:Kp)(z:Int):QF k (gS k z):=by
 refine⟨λf hf r=>?_,λp hp r=>?_⟩
 .have r':(Fx.lQ k.fi z f).refs≠0:=r;show _/\(Fx.lQ k.fi z f).kind=_/\(Fx.lQ k.fi z f).num=_;unfold Fx.lQ at r'|-;by_cases c:Fx.dg k.fi z=0
  .obtain⟨m,rfl,m24,m0⟩:=Fx.iX c;rw[aJ c,hU]at r'|-;by_cases e:f=m
   .subst e;rw[Fx.bG]at r'|-;by_cases d:(k.fi f).refs=1
    .rw[aJ d]at r';exact aZ rfl r'
    .rw[aI d];exact⟨m0,rfl,rfl⟩
   .rw[Fx.bO _ _ _ _ e]at r'|-;exact⟨r',rfl,rfl⟩
  .rw[aI c]at r'|-;exact⟨r',rfl,rfl⟩
 .have r':Pp.jL (Fx.qE k.fi k.pi z p)=bw:=r;show _/\(Fx.qE k.fi k.pi z p).tx=_;unfold Fx.qE at r'|-;by_cases c:Fx.dg k.fi z=0/\(k.fi z.toNat).refs=1
  .rw[aJ c]at r'|-;unfold Fx.uV at r'|-;by_cases d:(k.fi z.toNat).kind=1
   .rw[aJ d]at r'|-;exact⟨r',rfl⟩
   .rw[aI d]at r'|-;unfold Pp.pW at r'|-;by_cases o:Pp.ib k.pi ((k.fi z.toNat).num:Int) (decide ((k.fi z.toNat).kind=3))=0
    .rw[aJ o,hU]at r'|-;obtain⟨m,e,_,t,_⟩:=Pp.za o;by_cases q:p=(k.fi z.toNat).num
     .rw[q,Pp.bG]at r'|-;have em:(k.fi z.toNat).num=m:=bB
      refine⟨by rw[em];exact t,?_⟩;unfold Pp.less at r'|-;split at r'
      .rename_i c1;rw[aJ c1];unfold Pp.mf;split<;>rfl
      .exact aZ r' bE
     .rw[Pp.bO _ _ _ _ q]at r'|-;exact⟨r',rfl⟩
    .rw[aI o]at r'|-;exact⟨r',rfl⟩
  .rw[aI c]at r'|-;exact⟨r',rfl⟩
theorem RC.Tn(h:RC k)(hn:n<20)(hj:j<6)(hh:(k.p n).has=bw):RC (eJ (gS k ((k.p n).fd j)) n j (-1)):=by
 intro f f24;have a:=sP k n {k.p n with fd:=λi=>if i=j then -1 else(k.p n).fd i} f 20;rw[aJ hn,aJ hn]at a;have b:kJ (k.p n) f=fc (k.p n).fd f 6:=aJ hh;have c:kJ {k.p n with fd:=λi=>if i=j then -1 else(k.p n).fd i} f=fc (λi=>if i=j then -1 else(k.p n).fd i) f 6:=aJ hh;have d:=Dm (k.p n).fd j (-1) f 6;rw[aI (show¬(j<6/\(-1:Int)=(f:Int))from λq=>bB)]at d;have e:=h f f24;have g:=Eh (p:=k.p) (f:=f) (m:=n) 20 hn;show(Fx.lQ k.fi ((k.p n).fd j) f).refs=kK (k.put n {k.p n with fd:=λi=>if i=j then -1 else(k.p n).fd i}).p f 20;by_cases q:(k.p n).fd j=(f:Int)
 .rw[aJ ⟨hj,q⟩]at d;have r0:=h.refs hn hj f24 hh q;have fe:Fx.dg k.fi ((k.p n).fd j)=0:=by rw[q];unfold Fx.dg;rw[nK,hU,aI r0]
  unfold Fx.lQ;rw[aJ fe,q,hU,Fx.bG];by_cases r1:(k.fi f).refs=1
  .rw[aJ r1];show 0=_;omega
  .rw[aI r1];show(k.fi f).refs-1=_;omega
 .rw[aI (λc=>q c.2)]at d;have same:Fx.lQ k.fi ((k.p n).fd j) f=k.fi f:=by
   unfold Fx.lQ;by_cases fe:Fx.dg k.fi ((k.p n).fd j)=0
   .obtain⟨m,em,_,_⟩:=Fx.iX fe;rw[aJ fe];exact Fx.bO _ _ _ _ (λx=>q (by rw[em]at x|-;rw[hU]at x;rw[x]))
   .rw[aI fe]
  rw[same];omega
theorem tZ(k:Kp)(n:Nat)(fd:Nat->Int){m:Nat}(c:m≠n):∀j,(cV k n fd j).p m=k.p m
 |0=>rfl
 |j+1=>by
  show(if fd j= -1 then _ else _:Kp).p m=_;split
  .exact tZ k n fd c j
  .show(eJ _ n j (-1)).p m=_;unfold eJ;rw[bO _ _ _ _ c];exact tZ k n fd c j
theorem AM(k:Kp)(n:Nat)(fd:Nat->Int)(h:(k.p n).fd=fd):∀j i,((cV k n fd j).p n).fd i=if i<j then -1 else fd i
 |0,i=>by rw[aI (Nat.not_lt_zero _)];exact congrFun h i
 |j+1,i=>by
  have ih:=AM k n fd h j;show((if fd j= -1 then cV k n fd j else eJ (gS (cV k n fd j) (fd j)) n j (-1):Kp).p n).fd i=_;by_cases c:fd j= -1
  .rw[aJ c,ih];by_cases a:i<j
   .rw[aJ a,nL]
   .rw[aI a];by_cases b:i=j
    .rw[nL,b,c]
    .rw[nK]
  .rw[aI c];have e:((eJ (gS (cV k n fd j) (fd j)) n j (-1)).p n).fd i=if i=j then -1 else((cV k n fd j).p n).fd i:=by
    unfold eJ;rw[bG];rfl
   rw[e,ih];by_cases b:i=j
   .rw[aJ b,nL]
   .rw[aI b];by_cases a:i<j
    .rw[aJ a,nL]
    .rw[aI a,nK]
theorem Hm(h:RC k)(hn:n<20)(hh:(k.p n).has=bw){fd:Nat->Int}(hf:(k.p n).fd=fd):∀j,j<=6->RC (cV k n fd j)/\QF k (cV k n fd j)
 |0,_=>⟨h,QF.refl k⟩
 |j+1,hj=>by
  have ih:=Hm h hn hh hf j bB;show RC (if fd j= -1 then cV k n fd j else eJ (gS (cV k n fd j) (fd j)) n j (-1):Kp)/\QF k (if fd j= -1 then cV k n fd j else eJ (gS (cV k n fd j) (fd j)) n j (-1):Kp);by_cases c:fd j= -1
  .rw[aJ c];exact ih
  .rw[aI c];have e:((cV k n fd j).p n).fd j=fd j:=by rw[AM k n fd hf,aI (bV _)]
   have a:=ih.1.Tn hn (show j<6 by omega) (by rw[(sX k n fd j n).2.1];exact hh);rw[e]at a;exact⟨a,ih.2.trans ((QF.Ke _ _).trans (QF.same rfl rfl))⟩
end
end Kn
namespace Kn
def HX(k:Kp):Prop:=(∀m,m<20->((k.p m).has=bw->(k.p m).st=1)/\((k.p m).st=1->(k.p m).has=bw\/∀j,j<6->(k.p m).fd j= -1))/\∀s p,s<6->p<21->k.sp.cr s p<=20
structure QD (k k':Kp):Prop where
 qf:QF k k'
 up:∀m,m<20->(k'.p m).has=bw->(k.p m).has=bw/\(k'.p m).fd=(k.p m).fd
 hl:HX k->HX k'
 rc:HX k->RC k->RC k'
section
variable {k k' k1 k2:Kp}{n:Nat}
theorem QD.refl(k:Kp):QD k k:=⟨QF.refl k,λ_ _ h=>⟨h,rfl⟩,id,λ_ h=>h⟩
theorem QD.trans(h:QD k k1)(g:QD k1 k2):QD k k2:=
 ⟨h.qf.trans g.qf,λm hm a=>by
  have b:=g.up m hm a;have c:=h.up m hm b.1;exact⟨c.1,b.2.trans c.2⟩,λa=>g.hl (h.hl a),λa b=>g.rc (h.hl a) (h.rc a b)⟩
theorem QD.iu(e1:k'.fi=k.fi)(e2:k'.pi=k.pi)(e3:∀s p,k'.sp.cr s p<=k.sp.cr s p)(h:∀m,m<20->(k'.p m).has=(k.p m).has/\((k.p m).has=bw->(k'.p m).fd=(k.p m).fd/\(k'.p m).st=(k.p m).st)/\((k'.p m).st=1->(k.p m).st=1/\(k'.p m).fd=(k.p m).fd)):QD k k':=by
 refine⟨QF.same e1 e2,λm hm a=>?_,λa=>⟨λm hm=>?_,λs p hs hp=>aH (e3 s p) (a.2 s p hs hp)⟩,λ_ b f hf=>?_⟩
 .rw[(h m hm).1]at a;exact⟨a,((h m hm).2.1 a).1⟩
 .obtain⟨x,y,z⟩:=h m hm;refine⟨λq=>?_,λq=>?_⟩
  .rw[x]at q;rw[(y q).2];exact(a.1 m hm).1 q
  .have:=z q;rw[x,this.2];exact(a.1 m hm).2 this.1
 .rw[e1,b f hf];exact(rN 20 (λm hm=>⟨(h m hm).1,λq=>((h m hm).2.1 q).1⟩)).symm
theorem Hl(k:Kp)(n:Nat)(fd:Nat->Int):∀j,QF k (cV k n fd j)/\(cV k n fd j).sp=k.sp
 |0=>⟨QF.refl k,rfl⟩
 |j+1=>by
  have ih:=Hl k n fd j;show QF k (if fd j= -1 then cV k n fd j else eJ (gS (cV k n fd j) (fd j)) n j (-1):Kp)/\(if fd j= -1 then cV k n fd j else eJ (gS (cV k n fd j) (fd j)) n j (-1):Kp).sp=_;by_cases c:fd j= -1
  .rw[aJ c];exact ih
  .rw[aI c];exact⟨ih.1.trans ((QF.Ke _ _).trans (QF.same rfl rfl)),ih.2⟩
theorem Hk(k:Kp)(n:Nat)(fd:Nat->Int):∀j,(∀i,i<j->fd i= -1)->cV k n fd j=k
 |0,_=>rfl
 |j+1,h=>by
  show(if fd j= -1 then cV k n fd j else eJ (gS (cV k n fd j) (fd j)) n j (-1):Kp)=k;rw[aJ (h j bB)];exact Hk k n fd j (λi hi=>h i bB)
theorem Py(k:Kp)(n:Nat)(a m:Int):(dj k n a m).fi=k.fi/\(dj k n a m).pi=k.pi/\(dj k n a m).sp=k.sp:=by
 unfold dj;split<;>exact⟨rfl,rfl,rfl⟩
theorem Uv(k0:Kp)(m':Wf.M)(e:Me)(X:Nat->Sg.S1){fd:Nat->Int}(hf:(k0.p n).fd=fd)(hn:n<20)(s1:(k0.p n).st=1):QD k0 (({cV k0 n fd 6 with sc:=m'}:Kp).put n {(cV k0 n fd 6).p n with has:=false,mem:=e,box:=X}):=by
 have q:=Hl k0 n fd 6;have sn:=sX k0 n fd 6 n;have fn:=AM k0 n fd hf 6;refine⟨q.1.trans (QF.same rfl rfl),λm hm a=>?_,λa=>⟨λm hm=>?_,λs p hs hp=>?_⟩,λa b f hf24=>?_⟩
 .by_cases c:m=n
  .subst c;rw[bG]at a;cases a
  .rw[bO _ _ _ _ c]at a|-;have e1:=tZ k0 n fd c 6;have a':((cV k0 n fd 6).p m).has=bw:=a;show _/\((cV k0 n fd 6).p m).fd=_;rw[e1]at a'|-;exact⟨a',rfl⟩
 .by_cases c:m=n
  .subst c;rw[bG];exact⟨λx=>(by cases x),λ_=> .inr (λj hj=>by show((cV k0 m fd 6).p m).fd j= -1;rw[fn,aJ hj])⟩
  .rw[bO _ _ _ _ c];show(((cV k0 n fd 6).p m).has=bw->((cV k0 n fd 6).p m).st=1)/\(((cV k0 n fd 6).p m).st=1->((cV k0 n fd 6).p m).has=bw\/∀j,j<6->((cV k0 n fd 6).p m).fd j= -1);rw[tZ k0 n fd c 6];exact a.1 m hm
 .show(cV k0 n fd 6).sp.cr s p<=20;rw[q.2];exact a.2 s p hs hp
 .have r1:RC (cV k0 n fd 6):=by
   by_cases hh:(k0.p n).has=bw
   .exact(Hm b hn hh hf 6 (aL _)).1
   .rcases(a.1 n hn).2 s1 with x|x
    .exact aZ x hh
    .rw[Hk k0 n fd 6 (λi hi=>by rw[<-hf];exact x i hi)];exact b
  have c:=sP ({cV k0 n fd 6 with sc:=m'}:Kp) n {(cV k0 n fd 6).p n with has:=false,mem:=e,box:=X} f 20;rw[aJ hn,aJ hn]at c;have d:kJ {(cV k0 n fd 6).p n with has:=false,mem:=e,box:=X} f=0:=aI (λx=>by cases x);have g:kJ (({cV k0 n fd 6 with sc:=m'}:Kp).p n) f=0:=by
   unfold kJ;split
   .exact Aj 6 (λj hj=>by show((cV k0 n fd 6).p n).fd j= -1;rw[fn,aJ hj])
   .rfl
  have h1:=r1 f hf24;show((cV k0 n fd 6).fi f).refs=_;rw[h1];have e2:kK ({cV k0 n fd 6 with sc:=m'}:Kp).p f 20=kK (cV k0 n fd 6).p f 20:=rfl;omega
theorem fY.qd(hs:fY k n k')(hn:n<20)(l:lv k n=bw):QD k k'/\(k'.p n).has=bA:=by
 obtain⟨m',_,rfl⟩:=hs;have u:=Py k n 0 16;have b:=pR k n 0 16 n;have q0:QD k (dj k n 0 16):=QD.iu u.1 u.2.1 (λs p=>by rw[u.2.2];exact aL _) (λm hm=>by
  have b:=pR k n 0 16 m;exact⟨b.2.1,λ_=>⟨b.1,b.2.2.1⟩,λq=>⟨by rw[<-b.2.2.1];exact q,b.1⟩⟩)
 have q1:=Uv (dj k n 0 16) m' Mv.lL Sg.fW b.1 hn (by rw[b.2.2.1];exact dO.1 l);exact⟨q0.trans q1,by show((Kp.put _ n _).p n).has=bA;rw[bG]⟩
theorem HX.no(h:HX k)(hn:n<20)(l:lv k n=bA):(k.p n).has=bA:=by
 cases e:(k.p n).has
 .rfl
 .have:=(h.1 n hn).1 e;rw[dO.2 this]at l;cases l
theorem Kr(k:Kp)(hh:(k.p n).has=bA):QD k (eG k n):=by
 refine QD.iu rfl rfl (λs p=>?_) (λm hm=>?_)
 .show(Sp.dG k.sp (n:Int)).cr s p<=_;unfold Sp.dG;split
  .show(if s∈List.range 6/\k.sp.cr s p=((n:Int)).toNat+1 then 0 else k.sp.cr s p)<=_;split
   .exact aC _
   .exact aL _
  .exact aL _
 .by_cases c:m=n
  .subst c;have e:(eG k m).p m=Pr.no:=bG _ _ _;rw[e,hh];exact⟨rfl,λx=>(by cases x),λx=>aZ x bE⟩
  .have e:(eG k n).p m=k.p m:=bO _ _ _ _ c;rw[e];exact⟨rfl,λ_=>⟨rfl,rfl⟩,λq=>⟨q,rfl⟩⟩
theorem Ut(k:Kp)(z:Nat):QD k (mh k z):=by
 refine QD.iu rfl rfl (λs p=>?_) (λm hm=>⟨rfl,λ_=>⟨rfl,rfl⟩,λq=>⟨q,rfl⟩⟩);show(Sp.gx k.sp (z:Int)).cr s p<=_;unfold Sp.gx;split<;>exact aL _
theorem HX.fE(h:HX k){i:Nat}(e:(eH k.sp z)[i]? =bj m):m<20:=by
 unfold eH at e;by_cases c:Sp.cL k.sp z=0
 .rw[aJ c]at e;have z6:z.toNat<6:=by
   unfold Sp.cL at c;split at c
   .omega
   .omega
  exact(Sp.sL e (λp hp=>h.2 z.toNat p z6 hp)).1
 .rw[aI c]at e;simp at e
theorem Ap{R:Kp->Nat->Kp->Prop}(hR:∀k n k',HX k->n<20->R k n k'->QD k k')(z:Int):∀(j:Nat) (k k':Kp),HX k->jU R z j k k'->QD k k'
 |0,k,k',_,e=>by rw[e.1];exact QD.refl k
 |j+1,k,k',h,e=>by
  obtain⟨m,k1,hm,r,it⟩:=e;have a:=hR k m k1 h (h.fE hm) r;exact a.trans (Ap hR z j k1 k' (a.hl h) it)
theorem Fc:∀f (k:Kp) (n:Nat) (k':Kp),HX k->n<20->jd f k n k'->QD k k'
 |0,_,_,_,_,_,e=>e.elim
 |f+1,k,n,k',h,hn,e=>by
  obtain⟨k1,a,b,c⟩:=e;have q1:QD k k1/\(k1.p n).has=bA:=by
   cases l:lv k n
   .rw[b l];exact⟨QD.refl k,h.no hn l⟩
   .exact(a l).qd hn l
  rcases c with⟨_,rfl⟩|⟨_,k2,j,it,rfl⟩
  .exact q1.1.trans (Kr k1 q1.2)
  .have q2:=Ap (Fc f) _ j k1 k2 (q1.1.hl h) it;have h2:(k2.p n).has=bA:=by
    cases e:(k2.p n).has
    .rfl
    .rw[(q2.up n hn e).1]at q1;exact aZ q1.2 bE
   exact q1.1.trans (q2.trans ((Kr k2 h2).trans (Ut _ _)))
theorem Um(k:Kp)(q:Nat)(z:Int):QD k (iG k q z):=by
 refine QD.iu rfl rfl (λs p=>aL _) (λm hm=>?_);unfold iG;by_cases c:m=q
 .subst c;rw[bG];exact⟨rfl,λ_=>⟨rfl,rfl⟩,λq=>⟨q,rfl⟩⟩
 .rw[bO _ _ _ _ c];exact⟨rfl,λ_=>⟨rfl,rfl⟩,λq=>⟨q,rfl⟩⟩
theorem kL.qd{c:Int}{z q:Nat}(e:kL k n c z q k')(h:HX k)(hn:n<20)(l:lv k n=bw):QD k k':=by
 obtain⟨k1,k3,s1,mt,rfl⟩:=e;have q1:=s1.qd hn l;have q2:QD k1 (ed k1 n c):=QD.iu rfl rfl (λs p=>aL _) (λm hm=>by
  unfold ed;by_cases c:m=n
  .subst c;rw[bG];exact⟨rfl,λx=>(by rw[q1.2]at x;cases x),λx=>aZ x (show¬(2:Nat)=1 by decide)⟩
  .rw[bO _ _ _ _ c];exact⟨rfl,λ_=>⟨rfl,rfl⟩,λq=>⟨q,rfl⟩⟩)
 have q3:QD (ed k1 n c) k3:=by
  rcases mt with⟨_,rfl⟩|⟨_,j,it⟩
  .exact QD.refl _
  .exact Ap (Fc 6) _ j _ _ (q2.hl (q1.1.hl h)) it
 have q4:QD k3 (gG k3 (iC k3 n) (Sp.e9 k3.sp (z:Int) 1:Nat)):=QD.iu rfl rfl (λs p=>aL _) (λm hm=>⟨rfl,λ_=>⟨rfl,rfl⟩,λq=>⟨q,rfl⟩⟩);refine q1.1.trans (q2.trans (q3.trans (q4.trans ?_)));unfold nD;split
 .exact Um _ _ _
 .exact QD.refl _
theorem ng.qd{z c:Int}(e:ng k z c k')(h:HX k):QD k k':=by
 rcases e with⟨_,rfl⟩|⟨_,n,y,q,rfl,hn,n0,l,oy,_,_,hp,et⟩
 .exact QD.refl _
 .exact et.qd h hn l
theorem rA.qd{p:Nat}(w:rA k z p c E k')(h:HX k):QD k k':=by
 rcases w with⟨_,_,_,_,rfl⟩|⟨a,n,rfl,hn,w⟩
 .exact QD.refl _
 .rcases w with⟨_,_,_,_,rfl⟩|⟨_,_,_,_,_,rfl⟩|⟨_,i,m,hi,lm,_,_,_,v⟩
  .exact QD.refl _
  .exact QD.refl _
  .refine Fc 6 k m k' h ?_ v;have b:=hi;unfold iC iW at b;have mm:=(bX.1 (bK b)).1;obtain⟨i',hi'⟩:=List.getElem?_of_mem mm;exact h.fE hi'
theorem KH.hx(h:KH N d k):HX k:=⟨λm hm=>⟨h.ki.vi.kj.hs m hm,λs=> .inl (h.ki.vi.kj.lv m hm (λx=>x) s)⟩,λs p hs hp=>h.ki.vi.iv.qb s p hs hp⟩
end
end Kn
namespace Kn
theorem Pb(h:Tr.uC F)(z m:Int)(a:Nat)(ha:a<=40):a+(Tr.jJ F z (a:Int) m).size<=40:=by
 unfold Tr.jJ;split
 .rename_i d;have i0:Tr.cL F z 1=0:=by
   unfold Tr.eO at d;by_cases e:Tr.cL F z 1≠0
   .rw[aJ e]at d;exact aZ d e
   .omega
  obtain⟨n,rfl,n40,_,k1⟩:=Tr.fB i0;have z40:=h n n40 k1;have sz:∀(L:List Int) (r:bU),(L.foldl (λr n=>r.push (UInt8.ofNat n.toNat)) r).size=r.size+L.length:=by
   intro L
   induction L with
   |nil=>intro r;rfl
   |cons x L ih=>intro r;rw[List.foldl_cons,ih,ByteArray.size_push,List.length_cons];omega
  rw[hU,hU];unfold Tr.Ql;rw[sz,Tr.wo];show a+(0+_)<=40;omega
 .exact ha
section
variable {N:Nat}{d:Nat->Nat}{k k':Kp}
theorem KH.fx(h:KH N d k){M:Nat}(hM:N<=M){T:Nat->Fi}{S:Nat->Pi}(wx:WX (jR k) T F S)(rf:∀n,n<24->(T n).refs<=8*M)(ok:Tr.Ok F):KH M d (iL k T F S):=by
 have g:=h.more hM;have j:=g.ki.vi.kj;exact g.iu ⟨⟨⟨j.sp,j.gr,j.me,wx,rf,ok,j.tb,j.st,j.hs,j.lv,j.of,j.ht,j.nm⟩,g.ki.vi.iv,g.ki.vi.hs⟩,g.ki.fi,g.ki.pr,g.ki.h0⟩ rfl (λm=>⟨rfl,rfl⟩)
theorem Ct(k:Kp)(n f:Nat)(v:Int)(m:Nat):((eJ k n f v).p m).st=(k.p m).st/\((eJ k n f v).p m).par=(k.p m).par/\((eJ k n f v).p m).box=(k.p m).box/\((eJ k n f v).p m).has=(k.p m).has/\((eJ k n f v).p m).fd=if m=n then(λi=>if i=f then v else(k.p n).fd i)else(k.p m).fd:=by
 unfold eJ;by_cases c:m=n
 .subst c;rw[bG,aJ rfl];exact⟨rfl,rfl,rfl,rfl,rfl⟩
 .rw[bO _ _ _ _ c,aI c];exact⟨rfl,rfl,rfl,rfl,rfl⟩
theorem KH.fd(h:KH N d k)(n f:Nat)(v:Int):KH N d (eJ k n f v):=by
 have e:=Ct k n f v;have l:∀m,lv (eJ k n f v) m=lv k m:=λm=>by unfold lv;rw[(e m).1]
 refine h.iu ⟨⟨h.ki.vi.kj.Ed rfl rfl rfl,h.ki.vi.iv,h.ki.vi.hs⟩,λm hm lm hm2=>?_,λm hm m0 s=>?_,h.ki.h0⟩ rfl (λm=>⟨(e m).1,(e m).2.1⟩)
 .rw[(e m).2.2.1];rw[l]at lm;exact h.ki.fi m hm lm hm2
 .rw[(e m).1]at s;rw[(e m).2.1];exact h.ki.pr m hm m0 s
theorem KH.Ul(h:KH N d k)(z f m:Int):KH N d (ow k z f m):=by
 have j:=h.ki.vi.kj;unfold ow;split
 .generalize BA k z f=v;have a:WX (jR k) (Fx.iw k.fi k.fo v m) k.fo k.pi/\∀a,a<24->(Fx.iw k.fi k.fo v m a).refs<=8*N:=by
   unfold Fx.iw;split
   .rename_i e;obtain⟨n,rfl,n24,r0⟩:=Fx.iX e.1;rw[hU];refine⟨j.wx.kU n24 r0 _ r0 rfl rfl (Pb j.ok.fz _ _ _ (j.wx.ps n n24)),λa ha=>?_⟩;by_cases c:a=n
    .subst c;rw[Fx.bG];exact j.rf a ha
    .rw[Fx.bO _ _ _ _ c];exact j.rf a ha
   .exact⟨j.wx,j.rf⟩
  refine h.fx (aL _) ?_ a.2 j.ok;unfold Fx.qU;split
  .exact a.1.Ul _ _
  .exact a.1
 .exact h
theorem KH.zN(h:KH N d k)(v:Int)(s:bU):KH N d (rm k v s):=by
 have j:=h.ki.vi.kj;have a:WX (jR k) (Fx.pf k.fi k.fo v s) k.fo k.pi/\∀a,a<24->(Fx.pf k.fi k.fo v s a).refs<=8*N:=by
  unfold Fx.pf;split
  .rename_i e;obtain⟨n,rfl,n24,r0⟩:=Fx.iX e.1.1;have e2:=e.2;rw[hU]at e2|-;refine⟨j.wx.kU n24 r0 _ r0 rfl rfl ?_,λa ha=>?_⟩
   .show(k.fi n).pos+s.size<=40;unfold Tr.dL at e2;by_cases g:Tr.cL k.fo ((k.fi n).num:Int) 1≠0
    .rw[aJ g]at e2;exact aZ e2 g
    .rw[aI g,nK]at e2;by_cases g2:40-(s.size:Int)<((k.fi n).pos:Int)
     .rw[aJ g2]at e2;exact aZ e2 bE
     .omega
   .by_cases c:a=n
    .subst c;rw[Fx.bG];exact j.rf a ha
    .rw[Fx.bO _ _ _ _ c];exact j.rf a ha
  .exact⟨j.wx,j.rf⟩
 have b:WX (jR k) (Fx.pf k.fi k.fo v s) (Fx.eV k.fi k.fo v s) k.pi/\Tr.Ok (Fx.eV k.fi k.fo v s):=by
  unfold Fx.eV;split
  .exact⟨a.1.zN _ _ _,j.ok.zN _ _ _⟩
  .exact⟨a.1,j.ok⟩
 refine h.fx (aL _) ?_ a.2 b.2;unfold Fx.yl;split
 .exact b.1.VK _ _
 .exact b.1
theorem KH.Uf(h:KH N d k){A C:Nat}(p:tg k z A C E k'):KH (N+1) d k':=by
 have j:=h.ki.vi.kj;have key:∀{a c:Nat} {T:Nat->Fi} {S:Nat->Pi},Fx.vT k.fi k.pi a c E T S->KH (N+1) d (iL k T k.fo S):=λ{a c T S} pt=>by
  have up:∀a,a<24->(k.fi a).refs<=8*(N+1):=λa ha=>by have:=j.rf a ha;omega
  rcases pt with⟨_,_,_,_,rfl,rfl⟩|⟨_,n,e,hf,⟨_,_,_,_,rfl,rfl⟩|⟨rfl,_,a1,d1,rfl,rfl⟩⟩
  .exact h.fx bB j.wx up j.ok
  .exact h.fx bB j.wx up j.ok
  .refine h.fx bB (j.wx.pipe hf a1 d1) (λx hx=>?_) j.ok;by_cases e:x=c
   .subst e;rw[Fx.bG];show 1<=_;omega
   .rw[Fx.bO _ _ _ _ e];by_cases e2:x=a
    .subst e2;rw[Fx.bG];show 1<=_;omega
    .rw[Fx.bO _ _ _ _ e2];exact up x hx
 rcases p with⟨_,_,_,_,rfl⟩|⟨_,n,rfl,hn,⟨_,_,_,_,rfl⟩|⟨_,a,c,T,S,pt,⟨_,_,_,rfl⟩|⟨_,_,_,rfl⟩⟩⟩
 .exact h.more bB
 .exact h.more bB
 .exact key pt
 .exact((key pt).fd _ _ _).fd _ _ _
theorem KH.xG(h:KH N d k)(z f:Int):KH N d (iZ k z f):=by
 unfold iZ;split
 .have g:=h.fd z.toNat f.toNat (-1);have j:=g.ki.vi.kj.Ke ((k.p z.toNat).fd f.toNat);exact g.fx (aL _) j.wx j.rf j.ok
 .exact h
theorem Ew{k:Kp}{fd:Nat->Int}:∀j,(∀(i f:Nat),i<j->f<24->fd i=(f:Int)->(k.fi f).refs≠0)->∀f,f<24->(ic k fd j).fi f={k.fi f with refs:=(k.fi f).refs+fc fd f j}
 |0,_,_,_=>rfl
 |j+1,h,f,f24=>by
  have ih:=Ew (k:=k) (fd:=fd) j (λi f hi hf e=>h i f bB hf e);show(if fd j= -1 then ic k fd j else{ic k fd j with fi:=Fx.iH (ic k fd j).fi (fd j)}:Kp).fi f={k.fi f with refs:=(k.fi f).refs+(fc fd f j+if fd j=(f:Int)then 1 else 0)};by_cases c:fd j= -1
  .rw[aJ c,ih f f24,nK];rfl
  .rw[aI c];show Fx.iH (ic k fd j).fi (fd j) f=_;unfold Fx.iH;by_cases q:fd j=(f:Int)
   .have r0:=h j f bB f24 q;have fe:Fx.dg (ic k fd j).fi (fd j)=0:=by
     rw[q];unfold Fx.dg;rw[nK,hU,ih f f24,aI (by show¬(k.fi f).refs+_=0;omega)]
    rw[aJ fe,aJ q,q,hU,Fx.bG,ih f f24];rfl
   .rw[aI q];by_cases fe:Fx.dg (ic k fd j).fi (fd j)=0
    .obtain⟨m,em,_,_⟩:=Fx.iX fe;rw[aJ fe,Fx.bO _ _ _ _ (λx=>q (by rw[em]at x|-;rw[hU]at x;rw[x])),ih f f24];rfl
    .rw[aI fe,ih f f24];rfl
theorem qe.fo{p:Nat}(f:qe k z own p E k')(h:KH N d k)(r:RC k):RC k'/\k'.pi=k.pi/\(∀f,f<24->(k'.fi f).kind=(k.fi f).kind/\(k'.fi f).num=(k.fi f).num)/\∀m,m<20->(k'.p m).has=bw->∃q,q<20/\(k.p q).has=bw/\(k'.p m).fd=(k.p q).fd:=by
 have triv:∀g,RC {k with gr:=g}/\({k with gr:=g}:Kp).pi=k.pi/\(∀f,f<24->(({k with gr:=g}:Kp).fi f).kind=(k.fi f).kind/\(({k with gr:=g}:Kp).fi f).num=(k.fi f).num)/\∀m,m<20->(({k with gr:=g}:Kp).p m).has=bw->∃q,q<20/\(k.p q).has=bw/\(({k with gr:=g}:Kp).p m).fd=(k.p q).fd:=λg=>⟨r,rfl,λ_ _=>⟨rfl,rfl⟩,λm hm a=>⟨m,hm,a,rfl⟩⟩;rcases f with⟨_,_,_,rfl⟩|⟨a,n,c,F,Wy,rfl,hn,fr,ways,f⟩
 .exact triv k'.gr
 .rcases f with⟨_,_,_,rfl⟩|⟨_,_,_,_,rfl⟩|⟨_,_,_,_,_,rfl⟩|⟨f0,ch,hm,_,m',wk,ek,_⟩
  .exact triv k'.gr
  .exact triv k'.gr
  .exact triv _
  .have l:Kn.lv k n=bw:=jS a;have hh:(k.p n).has=bw:=h.ki.vi.kj.lv n hn (λx=>x) (dO.1 l);have ko:c<20/\(k.p c).st=0:=by
    rcases fr with q|q
    .exact⟨q.2.1,q.2.2.1⟩
    .omega
   have hc:(k.p c).has=bA:=by
    cases e:(k.p c).has
    .rfl
    .have:=h.ki.vi.kj.hs c ko.1 e;omega
   have hp:=Ds (dc k Wy n) n own;have ep:(fj (dc k Wy n) n own).p=k.p:=hp.1;have ef:(fj (dc k Wy n) n own).fi=k.fi:=hp.2.2.1;have epi:(fj (dc k Wy n) n own).pi=k.pi:=by
    unfold fj;split<;>rfl
   generalize fj (dc k Wy n) n own=kh at*;have cs:=qF kh n;have p1:∀m,k'.p m=if m=c then dU kh n else k.p m:=λm=>by
    rw[ek];show((dy kh n).put c (dU kh n)).p m=_;by_cases q:m=c
    .rw[aJ q,q,bG]
    .rw[aI q,bO _ _ _ _ q,cs.2.2,ep]
   have cp:(dy kh n).pi=kh.pi:=by
    obtain⟨T,eT⟩:=jX {kh with bk:=Mv.dZ (kh.p n).mem kh.bk 16} (kh.p n).fd 6;have e3:dy kh n={kh with bk:=Mv.dZ (kh.p n).mem kh.bk 16,fi:=T}:=eT;rw[e3]
   have fi1:∀f,f<24->k'.fi f={k.fi f with refs:=(k.fi f).refs+fc (k.p n).fd f 6}:=λf f24=>by
    rw[ek];show(dy kh n).fi f=_;have s:=Ew (k:={kh with bk:=Mv.dZ (kh.p n).mem kh.bk 16}) (fd:=(kh.p n).fd) 6 (λi f hi hf e=>by
     show(kh.fi f).refs≠0;rw[ef];rw[ep]at e;exact r.refs hn hi hf hh e) f f24
    have s':(dy kh n).fi f={kh.fi f with refs:=(kh.fi f).refs+fc (kh.p n).fd f 6}:=s;rw[s',ef,ep]
   have hx:(dU kh n).has=bw/\(dU kh n).fd=(k.p n).fd:=by unfold dU;rw[ep];exact⟨hh,rfl⟩
   refine⟨λf f24=>?_,?_,λf f24=>by rw[fi1 f f24];exact⟨rfl,rfl⟩,λm hm a=>?_⟩
   .have e1:=sP k c (dU kh n) f 20;rw[aJ ko.1,aJ ko.1]at e1;have e2:kJ (k.p c) f=0:=aI (by rw[hc];decide);have e3:kJ (dU kh n) f=fc (k.p n).fd f 6:=by unfold kJ;rw[aJ hx.1,hx.2]
    have e4:kK k'.p f 20=kK (k.put c (dU kh n)).p f 20:=rN 20 (λm hm=>by
     have e5:(k.put c (dU kh n)).p m=if m=c then dU kh n else k.p m:=rfl;rw[p1 m,e5];exact⟨rfl,λ_=>rfl⟩)
    have e6:=r f f24;rw[fi1 f f24,e4];show(k.fi f).refs+_=_;omega
   .rw[ek];show(dy kh n).pi=k.pi;rw[cp,epi]
   .rw[p1 m]at a|-;by_cases q:m=c
    .rw[aJ q];exact⟨n,hn,hh,hx.2⟩
    .rw[aI q]at a|-;exact⟨m,hm,a,rfl⟩
end
end Kn
def Kn.Nx(Wr:Nat)(s:St)(w:bD)(R:Value->Kp->Prop)(e:Ending)(w':bD):Prop:=∃v s',e=bf v/\R v s'.k/\bP w' Wr s'/\KF s w s' w'
theorem Kn.Nx.no(h:bP w Wr s)(r:R v s.k):Kn.Nx Wr s w R (bf v) w:=⟨v,s,rfl,r,h,KF.refl _ _⟩
theorem Kn.Nx.mk(r:R v k)(h:bP w' Wr {s with k:=k}/\KF s w {s with k:=k} w'):Kn.Nx Wr s w R (bf v) w':=⟨v,_,rfl,r,h⟩
theorem cG{f:Nat}{a:Array Value}{E:Ending}{Q:Ending->bD->Prop}(h:Calls prog f a w λe w'=>e=E/\w'=w)(q:Q E w):Calls prog f a w Q:=h.mono (by rintro _ _ ⟨rfl,rfl⟩;exact q)
theorem below_drewN(w:bD)(j:Nat):Below w.heap.size w (w.drewN j):=⟨rfl,rfl,rfl,aL _,λ_ _=>rfl⟩
theorem bP.Qp(h:bP w Wr s)(hn:n<20)(hh:(s.k.p n).has=bw){m:Me}(u:dq w' (s.A (9+n)) (s.A 4) m)(f:bH (s.A (9+n)) w w'):bP w' Wr {s with k:=Kn.cY s.k n m s.k.bk}/\KF s w {s with k:=Kn.cY s.k n m s.k.bk} w':=
 have b:=h.ub hn hh
 h.zl hn hh ⟨u,b.bk.mV f b.br b.bq,b.br,b.bq⟩ (fR.mem f)
section
variable (Wr N:Nat)(d:Nat->Nat)(s:St)(w:bD)
def Kn.Ib(k:Kp)(z:Int)(on:Bool)(v:Value)(k':Kp):Prop:=∃E m',v=bN E/\(Kn.cC k z=0/\Wf.jB k.sc z (!on) m'\/m'=k.sc)/\k'={k with sc:=m'}
theorem I7(z:Int)(on:Bool)(h:bP w Wr s):
  Calls prog 53 #[ai (bj ⟨s.A 0,0,bu⟩),aa az z,ar on] w (Kn.Nx Wr s w (Kn.Ib s.k z on)):=by
 have AC:=hZ (dP Wr s w z h);have H:=hZ h;by_cases a:Kn.cC s.k z=0
 .have A:=hZ a;have WK:=hZ (Wf.Fh (s.A 3) s.k.sc w z (!on) h.sc);have c8:=h.yK;obtain⟨a3,h3⟩:=nJ (s.A 3);have H3:=hZ h3;rw[a,bF]at AC;rw[h3]at WK c8;generalize gO (s.A 0) z 0=ap at*;generalize s.A 0=kb at*;go_in
  go_wp2_with fail
  refine cG AC.v ?_;go_wp2_with fail
  refine WK.mono ?_;rintro e w1 ⟨⟨E1,rfl⟩,u,f⟩;obtain⟨m',t⟩:∃m',Wf.jB s.k.sc z (!on) m':=⟨_,rfl⟩;rw[<-t]at u;have S1:=hZ (H.lN (by rw[H3.v];exact u) (by rw[H3.v];exact f));have TT:=hZ t;go_wp2
  go_ret
  exact .mk ⟨_,m',rfl, .inl ⟨A.v,TT.v⟩,rfl⟩ S1.v
 .rw[bM a]at AC;have A:=hZ a;generalize gO (s.A 0) z (Kn.cC s.k z)=ap at*;generalize Kn.cC s.k z=ae at*;generalize s.A 0=kb at*;go_in
  go_wp2_with fail
  refine cG AC.v ?_;go_wp2
  go_ret
  exact .no H.v ⟨ae,_,(bM A.v).symm, .inr rfl,rfl⟩
theorem Oq(z a m:Int)(wr:Bool)(h:bP w Wr s)(hj:KJ (λ_=>False) N s.k):
  Calls prog 45 #[ai (bj ⟨s.A 0,0,bu⟩),aa az z,aa az a,aa az m,ar wr] w (Kn.Nx Wr s w λv k'=>(∃n:Nat,z=n/\n<20/\Kn.lv s.k n=bw/\v=bN (Mv.se (s.k.p n).mem a m)/\k'=Kn.cY s.k n (Mv.mapM (s.k.p n).mem a m wr) s.k.bk)\/Kn.cC s.k z≠0/\v=bN (Kn.cC s.k z)/\k'=s.k):=by
 have AC:=hZ (dP Wr s w z h);have H:=hZ h;by_cases A:Kn.cC s.k z=0
 .obtain⟨n,rfl,hn,hl⟩:=Kn.fL A;have hh:=hj.lv n hn (λx=>x) (Kn.dO.1 hl);have HH:=hZ (aK hh hl);have c4:=h.rX n hn hh;have UM:=hZ (PF (s.A (9+n)) (s.A 4) a m wr (s.k.p n).mem w (h.me n hn hh));rw[A,bF,ie]at AC;obtain⟨m9,h9⟩:=nJ (s.A (9+n));have H9:=hZ h9;rw[h9]at UM c4;generalize s.A 0=kb at*;go_in
  go_wp2_with fail
  refine cG AC.v ?_;go_wp2_with fail
  refine sC UM.v ?_;rintro w1 ⟨u,f⟩;have S1:=hZ (H.Qp hn HH.1 (by rw[H9.v];exact u) (by rw[H9.v];exact f));go_wp2
  go_ret
  exact .mk (.inl ⟨n,rfl,hn,HH.2,rfl,rfl⟩) S1.v
 .have A':=hZ A;rw[bM A]at AC|-;generalize gO (s.A 0) z (Kn.cC s.k z)=ap at*;generalize Kn.cC s.k z=ae at*;generalize s.A 0=kb at*;go_in
  go_wp2_with fail
  refine cG AC.v ?_;go_wp2
  go_ret
  exact .no H.v (.inr ⟨A'.v,rfl,rfl⟩)
theorem La(z a m:Int)(wr:Bool)(h:bP w Wr s)(hj:KJ (λ_=>False) N s.k):
  Calls prog 46 #[ai (bj ⟨s.A 0,0,bu⟩),aa az z,aa az a,aa az m,ar wr] w (Kn.Nx Wr s w λv k'=>(∃n:Nat,z=n/\n<20/\Kn.lv s.k n=bw/\v=bN (Mv.si (s.k.p n).mem a m)/\k'=Kn.cY s.k n (Mv.vm (s.k.p n).mem a m wr) s.k.bk)\/Kn.cC s.k z≠0/\v=bN (Kn.cC s.k z)/\k'=s.k):=by
 have AC:=hZ (dP Wr s w z h);have H:=hZ h;by_cases A:Kn.cC s.k z=0
 .obtain⟨n,rfl,hn,hl⟩:=Kn.fL A;have hh:=hj.lv n hn (λx=>x) (Kn.dO.1 hl);have HH:=hZ (aK hh hl);have c4:=h.rX n hn hh;have UM:=hZ (Ff (s.A (9+n)) (s.A 4) a m wr (s.k.p n).mem w (h.me n hn hh));rw[A,bF,ie]at AC;obtain⟨m9,h9⟩:=nJ (s.A (9+n));have H9:=hZ h9;rw[h9]at UM c4;generalize s.A 0=kb at*;go_in
  go_wp2_with fail
  refine cG AC.v ?_;go_wp2_with fail
  refine sC UM.v ?_;rintro w1 ⟨u,f⟩;have S1:=hZ (H.Qp hn HH.1 (by rw[H9.v];exact u) (by rw[H9.v];exact f));go_wp2
  go_ret
  exact .mk (.inl ⟨n,rfl,hn,HH.2,rfl,rfl⟩) S1.v
 .have A':=hZ A;rw[bM A]at AC|-;generalize gO (s.A 0) z (Kn.cC s.k z)=ap at*;generalize Kn.cC s.k z=ae at*;generalize s.A 0=kb at*;go_in
  go_wp2_with fail
  refine cG AC.v ?_;go_wp2
  go_ret
  exact .no H.v (.inr ⟨A'.v,rfl,rfl⟩)
theorem wW(z a m:Int)(h:bP w Wr s)(hj:KJ (λ_=>False) N s.k)(hS:Gr.Small s.k.gr):
  Calls prog 28 #[ai (bj ⟨s.A 0,0,bu⟩),aa az z,aa az a,aa az m] w (Kn.Nx Wr s w λv k'=>(∃n:Nat,z=n/\n<20/\Kn.lv s.k n=bw/\v=bN (Kn.sy s.k n a m)/\k'=Kn.dj s.k n a m)\/Kn.cC s.k z≠0/\v=bN (Kn.cC s.k z)/\k'=s.k):=by
 have AC:=hZ (dP Wr s w z h);have H:=hZ h;by_cases A:Kn.cC s.k z=0
 .obtain⟨n,rfl,hn,hl⟩:=Kn.fL A;have UM:=hZ (y9 Wr s w n a m h hn (hj.lv n hn (λx=>x) (Kn.dO.1 hl)) (hj.me.cQ hn) hS);have HL:=hZ hl;rw[A,bF,ie]at AC;generalize s.A 0=kb at*;go_in
  go_wp2_with fail
  refine cG AC.v ?_;go_wp2_with fail
  refine sC UM.v ?_;rintro w1 S1;have S1:=hZ S1;go_wp2
  go_ret
  exact .mk (.inl ⟨n,rfl,hn,HL.v,rfl,rfl⟩) S1.v
 .have A':=hZ A;rw[bM A]at AC|-;generalize gO (s.A 0) z (Kn.cC s.k z)=ap at*;generalize Kn.cC s.k z=ae at*;generalize s.A 0=kb at*;go_in
  go_wp2_with fail
  refine cG AC.v ?_;go_wp2
  go_ret
  exact .no H.v (.inr ⟨A'.v,rfl,rfl⟩)
end
def Kn.TP(s:St)(z:Int)(v:Value):Prop:=Kn.cC s.k z=0->∃y,y<6/\s.k.ht y=bw/\v=ai (bj ⟨s.A (49+y),0,bu⟩)
theorem Kn.KJ.tab(h:KJ X N k)(hn:n<20)(l:Kn.lv k n=bw):∃y,y<6/\k.ht y=bw/\Sp.dQ k.sp (n:Int)=y:=by
 obtain⟨d,I⟩:=h.sp;have o:=(h.of n hn).2 (by have:=Kn.dO.1 l;omega);obtain⟨y,hy⟩:∃y,k.sp.of n=y+1:=⟨k.sp.of n-1,bB⟩;obtain⟨_,z6,zh⟩:=I.dh hn hy;exact⟨y,z6,by rw[h.ht y z6];exact zh,Sp.iD hn hy⟩
section
variable (Wr N:Nat)(d:Nat->Nat)(s:St)(w:bD)
theorem jW(z:Int)(h:bP w Wr s)(hj:KJ (λ_=>False) N s.k):
  Calls prog 92 #[ai (bj ⟨s.A 0,0,bu⟩),aa az z] w λe w'=>∃v,e=bf (ao #[v,bN (Kn.cC s.k z)])/\Kn.TP s z v/\Below w.heap.size w w':=by
 have AC:=hZ (dP Wr s w z h);by_cases A:Kn.cC s.k z=0
 .obtain⟨n,rfl,hn,hl⟩:=Kn.fL A;obtain⟨y,y6,yt,yi⟩:=hj.tab hn hl;have SP:Hid (∀j,Calls prog 62 #[ai (bj ⟨s.A 0,0,bu⟩),aa az n] (w.drewN j) λe w2=>e=bf (aa az y)/\w2=w.drewN j):=hZ (λj=>by have:=iP Wr s _ (n:Int) (h.drewN j);rwa [yi]at this);have c:=h.Ns y y6 yt;have T:Hid (Kn.TP s n (ai (bj ⟨s.A (49+y),0,bu⟩))):=hZ (λ_=>⟨y,y6,yt,rfl⟩);have yI:(y:Int)<6:=bB
  rw[A,bF]at AC|-;rw[ie]at AC;generalize s.A 0=kb at*;generalize s.A (49+y)=tb at*;go_in
  go_wp2_with fail
  refine cG AC.v ?_;go_upto_region 4 with fail
  go_quiet ((go_at_call 62;exact Calls.quiet_of_same (SP.v _)))
  go_wp2
  go_ret2
  exact⟨_,rfl,T.v,below_drewN _ _⟩
 .have T:Hid (Kn.TP s z (ai bu)):=hZ (λa=>aZ a A);rw[bM A]at AC|-;generalize gO (s.A 0) z (Kn.cC s.k z)=ap at*;generalize Kn.cC s.k z=ae at*;generalize s.A 0=kb at*;go_in
  go_wp2_with fail
  refine cG AC.v ?_;go_wp2
  go_ret2
  exact⟨_,rfl,T.v,aQ _ _⟩
end
def Kn.FG(k:Kp)(G:Fo):Prop:=Tr.Ok G/\WX (Kn.jR k) k.fi G k.pi
theorem WX.hk{T:Nat->Fi}{S:Nat->Pi}(h:WX xx T F S)(e:∀m,(G.nd m).held=(F.nd m).held/\(G.nd m).kind=(F.nd m).kind):WX xx T G S:=
 h.sH (λm _=>(e m).1) (λm _ _=>(e m).2) (λm hm k=>by rw[(e m).1];rw[(e m).2]at k;exact h.z0 m hm k)
theorem Tr.LZ{x:Nd}(h:x.held=(F.nd n).held/\x.kind=(F.nd n).kind)(m:Nat):((F.put n x).nd m).held=(F.nd m).held/\((F.put n x).nd m).kind=(F.nd m).kind:=by
 by_cases c:m=n
 .subst c;rw[Tr.bG];exact h
 .rw[Tr.bO _ _ _ _ c];exact⟨rfl,rfl⟩
theorem WX.Uc{T:Nat->Fi}{S:Nat->Pi}(h:WX xx T F S){s o:bU}(hm:Tr.Hz F z s y o E G):WX xx T G S:=by
 obtain⟨K,e,_,⟨_,_,rfl⟩|⟨_,⟨_,_,rfl⟩|⟨_,⟨_,_,rfl⟩|⟨_,⟨_,_,rfl⟩|⟨_,i,_,e2,_,⟨_,_,rfl⟩|⟨_,_,rfl⟩⟩⟩⟩⟩⟩:=hm<;>try exact h
 refine h.hk (λm=>?_);unfold Tr.Jg;rw[(WX.Lm _ m).1,(WX.Lm _ m).2];refine Tr.LZ ?_ m;exact⟨rfl,rfl⟩
theorem WX.T0{T:Nat->Fi}{S:Nat->Pi}(h:WX xx T F S){s:bU}(hm:Tr.Cj F y z s E G):WX xx T G S:=by
 obtain⟨_,_,rfl⟩|⟨_,e,_,⟨_,_,rfl⟩|⟨_,⟨_,_,rfl⟩|⟨_,_,rfl⟩⟩⟩:=hm<;>try exact h
 refine h.hk (λm=>?_);unfold Tr.Au;rw[(WX.Lm _ m).1,(WX.Lm _ m).2];refine Tr.LZ ?_ m;exact⟨rfl,rfl⟩
theorem bP.Dq{V:bD}(h:bP w Wr s)(b:Below w.heap.size w V)(u:bR w' (s.A 6) G)(f:bH (s.A 6) V w'):bP w' Wr {s with k:={s.k with fo:=G}}/\KF s w {s with k:={s.k with fo:=G}} w':=
 have q:=(h.below b).Cz u f
 ⟨q.1,(KF.below b).trans q.2⟩
def Kn.uB(k:Kp)(v:Value)(k':Kp):Prop:=∃E G,v=bN E/\Kn.FG k G/\k'={k with fo:=G}
theorem Kn.Nx.at(h:bP w Wr s)(b:Below w.heap.size w w')(r:R v s.k):Kn.Nx Wr s w R (bf v) w':=⟨v,s,rfl,r,h.below b,KF.below b⟩
theorem Kn.uB.no(h:KJ X N k)(e:bN E=v):Kn.uB k v k:=⟨E,k.fo,e.symm,⟨h.ok,h.wx⟩,rfl⟩
theorem Qm{u:Value}(e:bN E=v):bf (ao #[u,v])=bf (ao #[u,bN E]):=by rw[e]
section
variable (Wr N:Nat)(d:Nat->Nat)(s:St)(w:bD)
theorem uT(z:Int)(p:bU)(h:bP w Wr s)(hj:KJ (λ_=>False) N s.k):
  Calls prog 198 #[ai (bj ⟨s.A 0,0,bu⟩),aa az z,ak p] w λe w'=>∃x E:Int,e=bf (ao #[aa az x,bN E])/\Below w.heap.size w w':=by
 have TB:=hZ (jW Wr N s w z h hj);have H:=hZ (aK h hj);generalize hk:s.A 0=kb at TB|-;go_in
 go_wp2_with fail
 refine TB.mono ?_;rintro e w1 ⟨v,rfl,tp,b1⟩;have B1:=hZ b1;by_cases A:Kn.cC s.k z=0
 .obtain⟨y,y6,yt,rfl⟩:=tp A;have K1:=H.1.below b1;have WA:=hZ (Fj Wr (s.A (49+y)) (s.A 6) (s.k.tb y) (s.V y) s.k.fo p w1 (K1.tb y y6 yt) K1.fo H.2.ok.sz);rw[A,bF];generalize s.A (49+y)=tb at*;go_wp2_with fail
  refine WA.mono ?_;rintro e w2 ⟨x,E,rfl,_,b2⟩;have B2:Hid (Below w.heap.size w w2):=hZ (B1.trans (b2.mono B1.size));go_wp2
  go_ret2
  exact⟨x.2,E,rfl,B2.alloc B2.size _⟩
 .have A':=hZ (bM A);rw[bM A];generalize Kn.cC s.k z=ae at*;go_wp2
  go_ret2
  exact⟨0,ae,Qm A'.v,B1.v⟩
theorem Ov(z:Int)(p:bU)(h:bP w Wr s)(hj:KJ (λ_=>False) N s.k):
  Calls prog 128 #[ai (bj ⟨s.A 0,0,bu⟩),aa az z,ak p] w (Kn.Nx Wr s w (Kn.uB s.k)):=by
 have TB:=hZ (jW Wr N s w z h hj);have H:=hZ (aK h hj);have RM:Hid (∀V (x:Int) (nm:bU),Below w.heap.size w V->Calls prog 206 #[ai (bj ⟨s.A 6,0,bu⟩),aa az x,ak nm] V λe w'=>∃E G,e=bf (bN E)/\Kn.FG s.k G/\bP w' Wr {s with k:={s.k with fo:=G}}/\KF s w {s with k:={s.k with fo:=G}} w'):=hZ (λV x nm b=>(Gi (s.A 6) x nm s.k.fo V (h.below b).fo hj.ok.sz hj.ok.db).mono (by rintro _ w' ⟨E,G,rfl,r,u,f⟩;exact⟨E,G,rfl,⟨hj.ok.rem r,hj.wx.rem r⟩,h.Dq b u f⟩));have C6:Hid (∀V,Below w.heap.size w V->V.cell? ⟨s.A 0,250,bu⟩=bj (ai (bj ⟨s.A 6,0,bu⟩))):=hZ (λV b=>(h.below b).uI);generalize hk:s.A 0=kb at TB C6|-;go_in
 go_wp2_with fail
 refine TB.mono ?_;rintro e w1 ⟨v,rfl,tp,b1⟩;have B1:=hZ b1;by_cases A:Kn.cC s.k z=0
 .obtain⟨y,y6,yt,rfl⟩:=tp A;have K1:=H.1.below b1;have LA:=hZ (xC Wr (s.A (49+y)) (s.A 6) (s.k.tb y) (s.V y) s.k.fo p w1 (K1.tb y y6 yt) K1.fo H.2.ok.sz);rw[A,bF];generalize s.A (49+y)=tb at*;generalize s.A 6=a6 at*;go_wp2_with fail
  refine LA.mono ?_;rintro e w2 ⟨x,nm,E,rfl,_,b2⟩;have B2:Hid (Below w.heap.size w w2):=hZ (B1.trans (b2.mono B1.size));by_cases E0:E=0
  .subst E0;rw[bF];go_upto_region 7 with fail
   have B3:=hZ (B2.alloc B2.size (bh #[aa az x.1,aa az x.2] 224));have c6:=C6.v _ B3.v;go_region_with ((go_at_call 206;refine(RM.v _ _ _ (by first|exact B3.v|exact B3.drew)).mono ?_;rintro e w4 ⟨E,G,rfl,S4⟩;have S4:=hZ S4))
   all_goals
    go_wp2
    go_ret
    exact .mk ⟨E,G,rfl,S4.1,rfl⟩ S4.2
  .have E1:=hZ (bM E0);rw[bM E0];go_wp2
   go_ret
   exact .at H.1 (B2.alloc B2.size _) (.no H.2 E1.v)
 .have A':=hZ (bM A);rw[bM A];generalize Kn.cC s.k z=ae at*;go_wp2
  go_ret
  exact .at H.1 B1.v (.no H.2 A'.v)
end
namespace Gr
def PO(li:Bool)(t t':Nat->Gp):Prop:=t'=t\/(∃n p:Nat,n<10/\(t n).there=bA/\t'=fH t n (og p))\/(∃(Wy:Nat->List (Fin 10)) (n:Nat),n<10/\n≠0/\eW t Wy/\cT t Wy n Gp.op 10=0/\cT t Wy n Gp.oq 10=0/\t'=fH t n lX)\/li=bw/\∃(n:Nat) (a b:Int),t'=fH t n {t n with lp:=a,lq:=b}
def JQ(li:Bool)(t:Nat->Gp)(N b:Nat)(V w':bD):Prop:=∃t',PO li t t'/\(∃Wy,Tree t' Wy N)/\bT w' b t'/\Go.Proofs.YtpmmdkcfenjiaaaGreatDoor.bH b V w'
section
variable {li:Bool}{t:Nat->Gp}{Wy:Nat->List (Fin 10)}{N b:Nat}{V:bD}
theorem JQ.same(hT:Tree t Wy N)(h:bT V b t)(k:RowKit.Below V.heap.size V w'):JQ li t N b V w':=⟨t, .inl rfl,⟨Wy,hT⟩,h.below k h.lt,Go.Proofs.YtpmmdkcfenjiaaaGreatDoor.bH.cJ k⟩
theorem Rq(hT:Tree t Wy N)(g:Int)(h:bT V b t):Calls prog 111 #[ai (bj ⟨b,0,bu⟩),aa az g] V λe w'=>∃x E:Int,e=bf (ao #[aa az x,bN E])/\JQ bA t N b V w':=by
 by_cases r:wr t g=0
 .obtain⟨n,rfl,hn,hh⟩:=pd r;by_cases d:4<=(Wy n).length
  .refine sC (xk b n t (Wy n) V h (hT.ways n hn) hn hh d (by have:=hT.deep n hn;omega)) ?_;rintro w' k;exact⟨_,_,rfl, .same hT h k⟩
  .refine(xl b n t (Wy n) V h (hT.ways n hn) hn hh bB).mono ?_;rintro _ w' (⟨m,hm,hf,_,rfl,u,f⟩|⟨_,rfl,k⟩)
   .exact⟨_,_,rfl,_, .inr (.inl ⟨m,n,hm,hf,rfl⟩),⟨_,hT.add hm hf hn hh bB⟩,u,f.sW⟩
   .exact⟨_,_,rfl, .same hT h k⟩
 .refine sC (QN b g t V h r) ?_;rintro w' rfl;exact⟨_,_,rfl, .same hT h (RowKit.Below.refl _ _)⟩
theorem Rt(hT:Tree t Wy N)(hN:N<=1000)(g:Int)(h:bT V b t):Calls prog 113 #[ai (bj ⟨b,0,bu⟩),aa az g] V λe w'=>∃E:Int,e=bf (bN E)/\JQ bA t N b V w':=by
 by_cases r:wr t g=0
 .obtain⟨n,rfl,hn,hh⟩:=pd r;by_cases n0:n=0
  .subst n0;refine sC (Gd b t V h hh) ?_;rintro w' rfl;exact⟨_,rfl, .same hT h (RowKit.Below.refl _ _)⟩
  .by_cases hx:cT t Wy n Gp.op 10=0/\cT t Wy n Gp.oq 10=0
   .cases ha:pT t n
    .refine sC (Ma b n t Wy V h hT.ways (hT.small hN) hn n0 hh hx ha) ?_;rintro w' ⟨u,f⟩;exact⟨_,rfl,_, .inr (.inr (.inl ⟨Wy,n,hn,n0,hT.ways,hx.1,hx.2,rfl⟩)),⟨_,hT.rem n0 ha⟩,u,f.sW⟩
    .refine sC (Jp b n t Wy V h hT.ways (hT.small hN) hn n0 hh hx ha) ?_;rintro w' k;exact⟨_,rfl, .same hT h k⟩
   .refine sC (Jr b n t Wy V h hT.ways (hT.small hN) hn n0 hh bB) ?_;rintro w' k;exact⟨_,rfl, .same hT h k⟩
 .refine sC (Jq b g t V h r) ?_;rintro w' rfl;exact⟨_,rfl, .same hT h (RowKit.Below.refl _ _)⟩
theorem Rr(hT:Tree t Wy N)(g p q:Int)(h:bT V b t):Calls prog 115 #[ai (bj ⟨b,0,bu⟩),aa az g,aa az p,aa az q] V λe w'=>∃E:Int,e=bf (bN E)/\JQ bw t N b V w':=by
 by_cases r:wr t g=0
 .obtain⟨n,rfl,hn,hh⟩:=pd r;cases hf:jq p q (-1)
  .refine sC (F9 b n p q t V h hn hh hf) ?_;rintro w' k;exact⟨_,rfl, .same hT h k⟩
  .refine sC (OI b n p q t V h hn hh hf) ?_;rintro w' ⟨u,f⟩;exact⟨_,rfl,_, .inr (.inr (.inr ⟨rfl,n,p,q,rfl⟩)),⟨_,hT.UZ⟩,u,f.sW⟩
 .refine sC (Lp b g p q t V h r) ?_;rintro w' rfl;exact⟨_,rfl, .same hT h (RowKit.Below.refl _ _)⟩
end
end Gr
namespace Kn
def SG(k:Kp)(m:Wf.M):Prop:=Wf.SG k.sc m
def nv(li:Bool)(N:Nat)(k k':Kp):Prop:=∃t m,Gr.PO li k.gr t/\(∃Wy,Gr.Tree t Wy N)/\SG k m/\k'={k with gr:=t,sc:=m}
theorem nv.sc{li:Bool}{N:Nat}{X:Nat->Prop}{k:Kp}(h:KJ X N k){m:Wf.M}(g:SG k m):nv li N k {k with sc:=m}:=⟨k.gr,m, .inl rfl,h.gr,g,rfl⟩
end Kn
section
variable (Wr N:Nat)(d:Nat->Nat)(s:St)(w:bD)
theorem FA(z:Int)(on:Bool)(h:bP w Wr s)(hj:KJ (λ_=>False) N s.k):
  Calls prog 54 #[ai (bj ⟨s.A 0,0,bu⟩),aa az z,ar on] w (Kn.Nx Wr s w λv k'=>(∃E,v=bN E)/\Kn.nv bA N s.k k'):=by
 have FZ:Hid (Calls prog 119 #[ai (bj ⟨s.A 3,0,bu⟩),aa az z,ar on] w (Kn.Nx Wr s w λv k'=>(∃E,v=bN E)/\Kn.nv bA N s.k k')):=hZ ((Wf.IB (s.A 3) s.k.sc w z on h.sc).mono (by
  rintro _ w' ⟨E,m,rfl,t,u,f⟩;exact .mk ⟨⟨_,rfl⟩, .sc hj t⟩ (h.lN u f)))
 have c8:=h.yK;generalize s.A 0=kb at*;generalize s.A 3=a3 at*;go_in
 go_wp2_with fail
 refine FZ.mono ?_;rintro e w1 ⟨v,s',rfl,S1⟩;have S1:=hZ S1;go_wp2
 go_ret
 exact⟨v,s',rfl,S1.v⟩
theorem I6(z q p:Int)(h:bP w Wr s)(hj:KJ (λ_=>False) N s.k):
  Calls prog 55 #[ai (bj ⟨s.A 0,0,bu⟩),aa az z,aa az q,aa az p] w (Kn.Nx Wr s w λv k'=>(∃E,v=bN E)/\Kn.nv bA N s.k k'):=by
 have FZ:Hid (Calls prog 120 #[ai (bj ⟨s.A 3,0,bu⟩),aa az z,aa az q,aa az p] w (Kn.Nx Wr s w λv k'=>(∃E,v=bN E)/\Kn.nv bA N s.k k')):=hZ ((Wf.L4 (s.A 3) s.k.sc w z q p h.sc).mono (by
  rintro _ w' ⟨E,m,rfl,t,u,f⟩;exact .mk ⟨⟨_,rfl⟩, .sc hj t⟩ (h.lN u f)))
 have c8:=h.yK;generalize s.A 0=kb at*;generalize s.A 3=a3 at*;go_in
 go_wp2_with fail
 refine FZ.mono ?_;rintro e w1 ⟨v,s',rfl,S1⟩;have S1:=hZ S1;go_wp2
 go_ret
 exact⟨v,s',rfl,S1.v⟩
theorem IQ(z q p:Int)(h:bP w Wr s)(hj:KJ (λ_=>False) N s.k):
  Calls prog 51 #[ai (bj ⟨s.A 0,0,bu⟩),aa az z,aa az q,aa az p] w (Kn.Nx Wr s w λv k'=>(∃E,v=bN E)/\Kn.nv bw N s.k k'):=by
 obtain⟨Wy,hT⟩:=hj.gr;have FZ:Hid (Calls prog 115 #[ai (bj ⟨s.A 2,0,bu⟩),aa az z,aa az q,aa az p] w (Kn.Nx Wr s w λv k'=>(∃E,v=bN E)/\Kn.nv bw N s.k k')):=hZ ((Gr.Rr hT z q p h.gr).mono (by
  rintro _ w' ⟨E,rfl,t,g,tr,u,f⟩;exact .mk ⟨⟨E,rfl⟩,t,s.k.sc,g,tr,Wf.SG.refl _,rfl⟩ (h.kv u f)))
 have c8:=h.pG;generalize s.A 0=kb at*;generalize s.A 2=a3 at*;go_in
 go_wp2_with fail
 refine FZ.mono ?_;rintro e w1 ⟨v,s',rfl,S1⟩;have S1:=hZ S1;go_wp2
 go_ret
 exact⟨v,s',rfl,S1.v⟩
theorem I5(h:bP w Wr s)(hj:KJ (λ_=>False) N s.k):
  Calls prog 33 #[ai (bj ⟨s.A 0,0,bu⟩)] w (Kn.Nx Wr s w λv k'=>∃(T:Nat) (E:Int) (G:Fo),v=ao #[aa az (T:Int),bN E]/\Tr.ry s.k.fo T E G/\k'={s.k with fo:=G}):=by
 have FZ:Hid (Calls prog 89 #[ai (bj ⟨s.A 6,0,bu⟩)] w λe w'=>∃(T:Nat) (E:Int) (G:Fo),e=bf (ao #[aa az (T:Int),bN E])/\Tr.ry s.k.fo T E G/\bP w' Wr {s with k:={s.k with fo:=G}}/\KF s w {s with k:={s.k with fo:=G}} w'):=hZ ((zu (s.A 6) s.k.fo w h.fo hj.ok.tr).mono (by
  rintro _ w' ⟨T,E,G,rfl,r,u,f⟩;exact⟨T,E,G,rfl,r,h.Dq (aQ _ _) u f⟩))
 have c8:=h.uI;generalize s.A 0=kb at*;generalize s.A 6=a3 at*;go_in
 go_wp2_with fail
 refine FZ.mono ?_;rintro e w1 ⟨T,E,G,rfl,r,S1⟩;have S1:=hZ (aK r S1);go_wp2
 go_ret2
 exact .mk ⟨T,E,G,rfl,S1.1,rfl⟩ S1.2
end
section
variable (Wr N:Nat)(d:Nat->Nat)(s:St)(w:bD)
theorem KT(p wt:Int)(h:bP w Wr s)(hj:KJ (λ_=>False) N s.k):
  Calls prog 49 #[ai (bj ⟨s.A 0,0,bu⟩),aa az p,aa az wt] w (Kn.Nx Wr s w λv k'=>(∃x E:Int,v=ao #[aa az x,bN E])/\Kn.nv bA N s.k k'):=by
 obtain⟨Wy,hT⟩:=hj.gr;have H:=hZ h;have OK:Hid (Kn.SG s.k s.k.sc/\∃Wy,Gr.Tree s.k.gr Wy N):=hZ ⟨Wf.SG.refl _,hj.gr⟩;have AD:Hid (Calls prog 111 #[ai (bj ⟨s.A 2,0,bu⟩),aa az p] w λe w'=>∃(x E:Int) (t:Nat->Gr.Gp),e=bf (ao #[aa az x,bN E])/\(Gr.PO bA s.k.gr t/\∃Wy,Gr.Tree t Wy N)/\bP w' Wr {s with k:={s.k with gr:=t}}/\KF s w {s with k:={s.k with gr:=t}} w'):=hZ ((Gr.Rq hT p h.gr).mono (by
  rintro _ w' ⟨x,E,rfl,t,g,tr,u,f⟩;exact⟨x,E,t,rfl,⟨g,tr⟩,h.kv u f⟩))
 have AG:Hid (∀V t (x:Int),bP V Wr {s with k:={s.k with gr:=t}}->Calls prog 112 #[ai (bj ⟨s.A 3,0,bu⟩),aa az x,aa az p,aa az wt] V λe w'=>∃E m,e=bf (bN E)/\Kn.SG s.k m/\bP w' Wr {s with k:={s.k with gr:=t,sc:=m}}/\KF {s with k:={s.k with gr:=t}} V {s with k:={s.k with gr:=t,sc:=m}} w'):=hZ (λV t x k=>(Wf.CM (s.A 3) s.k.sc V x p wt k.sc).mono (by
  rintro _ w' ⟨E,m,rfl,g,u,f⟩;exact⟨_,_,rfl,g,k.lN u f⟩))
 have c2:=h.pG;have C3:Hid (∀V t,bP V Wr {s with k:={s.k with gr:=t}}->V.cell? ⟨s.A 0,248,bu⟩=bj (ai (bj ⟨s.A 3,0,bu⟩))):=hZ (λV t k=>k.yK);generalize s.A 0=kb at*;generalize s.A 2=a2 at*;generalize s.A 3=a3 at*;by_cases c:wt<1\/1000<wt
 .by_cases c1:wt<1
  all_goals
   go_in
   go_wp2
   go_ret2
   exact .no H.v ⟨⟨0,1,rfl⟩,s.k.gr,s.k.sc, .inl rfl,OK.2,OK.1,rfl⟩
 .have c1:¬wt<1:=λe=>c (.inl e);have c3:¬1000<wt:=λe=>c (.inr e);go_in
  go_wp2_with fail
  refine AD.mono ?_;rintro e w1 ⟨x,E,t,rfl,S1⟩;have S1:=hZ S1;by_cases e0:E=0
  .subst e0;rw[bF];have AG:=hZ (AG.v w1 t x S1.2.1);have c3:=C3.v w1 t S1.2.1;go_wp2_with fail
   refine AG.mono ?_;rintro e w2 ⟨E,m,rfl,S2⟩;have S2:=hZ S2;go_wp2
   go_ret2
   exact .mk ⟨⟨x,0,rfl⟩,t,m,S1.1.1,S1.1.2,S2.1,rfl⟩ ⟨S2.2.1,S1.2.2.trans S2.2.2⟩
  .have E1:=hZ (bM e0);rw[bM e0];go_wp2
   go_ret2
   exact .mk ⟨⟨0,E,by rw[E1.v];rfl⟩,t,s.k.sc,S1.1.1,S1.1.2,OK.1,rfl⟩ S1.2
theorem IN(hN:N<=1000)(p:Int)(h:bP w Wr s)(hj:KJ (λ_=>False) N s.k):
  Calls prog 50 #[ai (bj ⟨s.A 0,0,bu⟩),aa az p] w (Kn.Nx Wr s w λv k'=>(∃E:Int,v=bN E)/\Kn.nv bA N s.k k'):=by
 obtain⟨Wy,hT⟩:=hj.gr;have OK:Hid (Kn.SG s.k s.k.sc):=hZ (Wf.SG.refl _);have AD:Hid (Calls prog 113 #[ai (bj ⟨s.A 2,0,bu⟩),aa az p] w λe w'=>∃(E:Int) (t:Nat->Gr.Gp),e=bf (bN E)/\(Gr.PO bA s.k.gr t/\∃Wy,Gr.Tree t Wy N)/\bP w' Wr {s with k:={s.k with gr:=t}}/\KF s w {s with k:={s.k with gr:=t}} w'):=hZ ((Gr.Rt hT hN p h.gr).mono (by
  rintro _ w' ⟨E,rfl,t,g,tr,u,f⟩;exact⟨E,t,rfl,⟨g,tr⟩,h.kv u f⟩))
 have AG:Hid (∀V t,bP V Wr {s with k:={s.k with gr:=t}}->Calls prog 114 #[ai (bj ⟨s.A 3,0,bu⟩),aa az p] V λe w'=>∃E m,e=bf (bN E)/\Kn.SG s.k m/\bP w' Wr {s with k:={s.k with gr:=t,sc:=m}}/\KF {s with k:={s.k with gr:=t}} V {s with k:={s.k with gr:=t,sc:=m}} w'):=hZ (λV t k=>(Wf.Cc (s.A 3) s.k.sc V p k.sc).mono (by
  rintro _ w' ⟨E,m,rfl,g,u,f⟩;exact⟨_,_,rfl,g,k.lN u f⟩))
 have c2:=h.pG;have C3:Hid (∀V t,bP V Wr {s with k:={s.k with gr:=t}}->V.cell? ⟨s.A 0,248,bu⟩=bj (ai (bj ⟨s.A 3,0,bu⟩))):=hZ (λV t k=>k.yK);generalize s.A 0=kb at*;generalize s.A 2=a2 at*;generalize s.A 3=a3 at*;go_in
 go_wp2_with fail
 refine AD.mono ?_;rintro e w1 ⟨E,t,rfl,S1⟩;have S1:=hZ S1;by_cases e0:E=0
 .subst e0;rw[bF];have AG:=hZ (AG.v w1 t S1.2.1);have c3:=C3.v w1 t S1.2.1;go_wp2_with fail
  refine AG.mono ?_;rintro e w2 ⟨E,m,rfl,S2⟩;have S2:=hZ S2;go_wp2
  go_ret
  exact .mk ⟨⟨E,rfl⟩,t,m,S1.1.1,S1.1.2,S2.1,rfl⟩ ⟨S2.2.1,S1.2.2.trans S2.2.2⟩
 .have E1:=hZ (bM e0);rw[bM e0];go_wp2
  go_ret
  exact .mk ⟨⟨E,E1.symm⟩,t,s.k.sc,S1.1.1,S1.1.2,OK.v,rfl⟩ S1.2
end
def Kn.Dw(k:Kp)(n:Nat)(g:Int)(t:Nat->Gr.Gp)(m:Wf.M):Kp:={k.put n {k.p n with cD:=g}with gr:=t,sc:=m}
def Kn.zV(k:Kp)(z g:Int)(v:Value)(k':Kp):Prop:=∃E,v=bN E/\(k'=k\/∃(n:Nat) (Wy:Nat->List (Fin 10)) (m:Wf.M),z=n/\n<20/\Kn.lv k n=bw/\Gr.eW k.gr Wy/\Gr.oc k.gr Wy (k.p n).cD g 1 (Mv.cU (k.p n).mem 16:Int)=0/\Kn.SG k m/\k'=Kn.Dw k n g (Gr.lW k.gr Wy (k.p n).cD g 1 (Mv.cU (k.p n).mem 16:Int)) m)
section
variable (Wr N:Nat)(d:Nat->Nat)(s:St)(w:bD)
theorem KZ(hN:N<=1000)(z g:Int)(h:bP w Wr s)(hj:KJ (λ_=>False) N s.k):
  Calls prog 52 #[ai (bj ⟨s.A 0,0,bu⟩),aa az z,aa az g] w (Kn.Nx Wr s w (Kn.zV s.k z g)):=by
 have AC:=hZ (dP Wr s w z h);have H:=hZ (aK h hj);by_cases A:Kn.cC s.k z=0
 .obtain⟨n,rfl,hn,hl⟩:=Kn.fL A;have hs:=hj.lv n hn (λx=>x) (Kn.dO.1 hl);obtain⟨Wy,hT⟩:=hj.gr;have RS:Hid (∀V,Below w.heap.size w V->Calls prog 64 #[ai (bj ⟨s.A (9+n),0,bu⟩)] V λe w'=>e=bf (aa az (Mv.cU (s.k.p n).mem 16:Int))/\Below w.heap.size w w'):=hZ (λV b=>(pZ _ _ _ V ((h.below b).me n hn hs)).mono (by rintro _ w' ⟨rfl,b2⟩;exact⟨rfl,b.trans (b2.mono b.size)⟩));have MV:Hid (∀V,Below w.heap.size w V->Calls prog 116 #[ai (bj ⟨s.A 2,0,bu⟩),aa az (s.k.p n).cD,aa az g,aa az 1,aa az (Mv.cU (s.k.p n).mem 16:Int)] V λe w'=>e=bf (bN (Gr.oc s.k.gr Wy (s.k.p n).cD g 1 (Mv.cU (s.k.p n).mem 16:Int)))/\bP w' Wr {s with k:={s.k with gr:=Gr.lW s.k.gr Wy (s.k.p n).cD g 1 (Mv.cU (s.k.p n).mem 16:Int)}}/\KF s w {s with k:={s.k with gr:=Gr.lW s.k.gr Wy (s.k.p n).cD g 1 (Mv.cU (s.k.p n).mem 16:Int)}} w'):=hZ (λV b=>(Gr.OW (s.A 2) _ g 1 _ s.k.gr Wy V (h.below b).gr hT.ways (hT.small hN)).mono (by
   rintro _ w' ⟨rfl,u,f⟩;have q:=(h.below b).kv u f.sW;exact⟨rfl,q.1,(KF.below b).trans q.2⟩))
  have CC:Hid (∀V t,bP V Wr {s with k:={s.k with gr:=t}}->V.cell? ⟨s.A 0,247,bu⟩=bj (ai (bj ⟨s.A 2,0,bu⟩))/\V.cell? ⟨s.A 0,n*12+2,bu⟩=bj (aa az (s.k.p n).cD)/\V.cell? ⟨s.A 0,n*12+4,bu⟩=bj (ai (bj ⟨s.A (9+n),0,bu⟩))):=hZ (λV t k=>⟨k.pG,k.pU n hn,k.rX n hn hs⟩);have C0:Hid (∀V,Below w.heap.size w V->V.cell? ⟨s.A 0,247,bu⟩=bj (ai (bj ⟨s.A 2,0,bu⟩))/\V.cell? ⟨s.A 0,n*12+2,bu⟩=bj (aa az (s.k.p n).cD)/\V.cell? ⟨s.A 0,n*12+4,bu⟩=bj (ai (bj ⟨s.A (9+n),0,bu⟩))):=hZ (λV b=>CC.v V s.k.gr (h.below b));have ME:Hid (Gr.oc s.k.gr Wy (s.k.p n).cD g 1 (Mv.cU (s.k.p n).mem 16:Int)≠0->({s.k with gr:=Gr.lW s.k.gr Wy (s.k.p n).cD g 1 (Mv.cU (s.k.p n).mem 16:Int)}:Kp)=s.k):=hZ (λe=>by unfold Gr.lW;rw[aI e]);have HW:=hZ (aK hT.ways (aK hl hs));have DD:Hid (∀m,Kn.SG s.k m->Gr.oc s.k.gr Wy (s.k.p n).cD g 1 (Mv.cU (s.k.p n).mem 16:Int)=0->∀E,Kn.zV s.k n g (bN E) (Kn.Dw s.k n g (Gr.lW s.k.gr Wy (s.k.p n).cD g 1 (Mv.cU (s.k.p n).mem 16:Int)) m)):=hZ (λm sg e E=>⟨E,rfl, .inr ⟨n,Wy,m,rfl,hn,hl,hT.ways,e,sg,rfl⟩⟩);obtain⟨kb,hk⟩:=nJ (s.A 0);have HK:=hZ hk;rw[A,bF,ie]at AC;generalize (Mv.cU (s.k.p n).mem 16:Int)=rs at*;generalize (s.k.p n).cD=gp at*;generalize Gr.oc s.k.gr Wy gp g 1 rs=me at*;generalize Gr.lW s.k.gr Wy gp g 1 rs=tt at*;rw[hk]at AC CC C0|-;generalize s.A 2=a2 at*;generalize s.A (9+n)=m9 at*;go_in
  go_wp2_with fail
  refine cG AC.v ?_;go_upto_region 4 with fail
  have K0:=hZ (C0.v _ (aQ _ _));obtain⟨y1,y2,y3⟩:=K0.v;go_region_held3 (λw'=>w'.cell? ⟨kb,247,bu⟩=bj (ai (bj ⟨a2,0,bu⟩))/\w'.cell? ⟨kb,n*12+2,bu⟩=bj (aa az gp)/\w'.cell? ⟨kb,n*12+4,bu⟩=bj (ai (bj ⟨m9,0,bu⟩))) (first|exact K0.v|exact C0.v _ B4.v|exact CC.v _ _ S5.1) (
   (first
    |(go_at_call 64;refine sC (RS.v _ (by first|exact aQ _ _|exact(aQ _ _).drew)) ?_;rintro w4 b4;have B4:=hZ b4)
    |(go_at_call 116;refine sC (MV.v _ (by first|exact B4.v|exact B4.drew)) ?_;rintro w5 S5;have S5:=hZ S5)))
  by_cases e0:me=0
  .have E0:=hZ e0;rw[e0,bF];have z2:=(CC.v _ _ S5.1).2.1;have fz:=S5.1.frozen;have q:=S5.1.Uo hn g;rw[show({s with k:={s.k with gr:=tt}}:St).A 0=kb from HK.v]at q fz;have MT:Hid (∀V,V=w5.setCell ⟨kb,n*12+2,bu⟩ (aa az g)->V.cell? ⟨kb,248,bu⟩=bj (ai (bj ⟨s.A 3,0,bu⟩))/\Calls prog 117 #[ai (bj ⟨s.A 3,0,bu⟩),aa az n,aa az g] V λe w'=>∃E m,e=bf (bN E)/\Kn.SG s.k m/\bP w' Wr {s with k:=Kn.Dw s.k n g tt m}/\KF s w {s with k:=Kn.Dw s.k n g tt m} w'):=hZ (λV e=>by
    subst e;have c:=q.1.yK;rw[show({s with k:=Kn.Kp.put {s.k with gr:=tt} n {({s.k with gr:=tt}:Kp).p n with cD:=g}}:St).A 0=kb from HK.v]at c;refine⟨c,(Wf.D6 (s.A 3) s.k.sc _ n g q.1.sc).mono ?_⟩;rintro _ w' ⟨E,m,rfl,mt,u,f⟩;have r:=q.1.lN u f;exact⟨_,m,rfl,mt,r.1,S5.2.trans (q.2.trans r.2)⟩)
   obtain⟨W,hW⟩:=nJ (w5.setCell ⟨kb,n*12+2,bu⟩ (aa az g));obtain⟨z8,M8⟩:=MT.v W hW.symm;have M8:=hZ M8;generalize s.A 3=a3 at*;go_wp2_with fail
   refine M8.mono ?_;rintro e w6 ⟨E,m,rfl,S6⟩;have S6:=hZ S6;go_wp2
   go_ret
   exact .mk (DD.v m S6.1 E0.v E) S6.2
  .have E1:=hZ (aK (bM e0) (ME.v e0));rw[bM e0];go_wp2
   go_ret
   exact .mk ⟨me,E1.1.symm, .inl E1.2⟩ S5.v
 .have A':=hZ (bM A);rw[bM A]at AC;generalize gO (s.A 0) z (Kn.cC s.k z)=ap at*;generalize Kn.cC s.k z=ae at*;generalize s.A 0=kb at*;go_in
  go_wp2_with fail
  refine cG AC.v ?_;go_wp2
  go_ret
  exact .no H.1 ⟨ae,A'.symm, .inl rfl⟩
end
def qT(s:St):List Value:=(List.range 240).map λo=>Kn.pc s (o/12) (o%12)
theorem He(s:St):(qT s).length=240:=by simp[qT]
theorem bP.qT{w:bD}{Wr:Nat}{s:St}(h:bP w Wr s):w.rangeAt (s.A 0) 0 (qT s):=λj v hv=>by
 have hj:j<240:=by have:=(aY.1 hv).1;rwa [He]at this
 simp[YtpmmdkcfenjiaaaGreatDoor.qT,hj]at hv;rw[Nat.zero_add,<-hv];have:=h.cP (j/12) (j%12) bB bB;rwa [show j/12*12+j%12=j by omega]at this
theorem Uh(s:St)(x:Nat)(h:x<20):(qT s).toArray.extract (x*12) (x*12+12)=dS (s.A (9+x)) (s.A (29+x)) (s.k.p x):=by
 have hs:(qT s).toArray.size=240:=by simp[qT]
 apply bL;intro i;rw[Array.getElem?_extract];by_cases hi:i<12
 .rw[aJ (by rw[hs];omega),lZ _ _ _ i hi];have e:(qT s).toArray[x*12+i]? =bj (Kn.pc s ((x*12+i)/12) ((x*12+i)%12)):=by simp[qT,show x*12+i<240 by omega]
  rw[e,show(x*12+i)/12=x by omega,show(x*12+i)%12=i by omega];rfl
 .rw[aI (by rw[hs];omega),aR (by rw[dI];omega)]
theorem KO(s:St)(x:Nat)(h:x<20)(w:bD):Sem.run prog (Instr.index 75 (Value.agg (qT s).toArray) (aa az x)) w= .ok (.agg (dS (s.A (9+x)) (s.A (29+x)) (s.k.p x))) w:=by
 have hu:prog.underlying 75=bj (.array 20 74):=by kernel_rfl
 have hx:=Uh s x h;have h1:(x:Int)<20:=bB
 obtain⟨A,hA⟩:=nJ ((qT s).toArray);obtain⟨B,hB⟩:=nJ (dS (s.A (9+x)) (s.A (29+x)) (s.k.p x));rw[hA,hB]at hx;rw[hA,hB];simp[Instr.index,Sem.run_bind,run_underlying hu,go_sem,hx];intro c;omega
theorem O8(s:St):(prog.info? 75).map (·.size)=bj (qT s).length:=by rw[He];kernel_rfl
theorem Gr.UJ{t:Nat->Gr.Gp}(h:Gr.eW t Wy)(g:Int):∃xs,Gr.Way t g (Gr.kG xs):=by
 by_cases v:Gr.valid t g
 .obtain⟨h0,h1,h2⟩:=v;have:=h g.toNat bB;rw[show((g.toNat:Nat):Int)=g by omega]at this;exact⟨_,this⟩
 .exact⟨[],v⟩
def Kn.CJ(k:Kp)(r:Int):Prop:=r= -1\/∃m:Nat,r=m/\m<20/\m≠0/\Kn.lv k m=bw
section
variable (Wr N:Nat)(d:Nat->Nat)(s:St)(w:bD)
theorem Cd(g:Int)(h:bP w Wr s)(hj:KJ (λ_=>False) N s.k):
  Calls prog 239 #[ai (bj ⟨s.A 0,0,bu⟩),aa az g] w λe w'=>∃r,e=bf (aa az r)/\Kn.CJ s.k r/\Below w.heap.size w w':=by
 have hsz:=hZ (O8 s);have HR:=hZ h.qT;have H:=hZ (aK h hj);obtain⟨kb,hk⟩:=nJ (s.A 0);have HK:=hZ hk;rw[hk]at HR|-;clear h hj hk;go_in
 go_wp2_with (refine wpList_load_mid rfl 75 _ rfl kb 0 rfl (qT s) (.array 20 74) HR.v bC rfl hsz.v ?_)
 go_loopw [5,6,14] (λa b i wr=>∃(k:Nat) (r p:Int),i=aa az k/\a=aa az r/\b=aa az p/\k<=20/\Hid (Kn.CJ s.k r/\Below w.heap.size w wr)) (λ_ _ i _=>20-(intOf i).toNat)
 case atStart=>exact⟨0,-1,0,rfl,rfl,rfl,bB, .inl rfl,aQ _ _⟩
 case round=>
  obtain⟨k,r,p,rfl,rfl,rfl,hk,T⟩:=hrel;by_cases hlt:k<20
  .have hltI:(k:Int)<20:=bB
   have hix:=KO s k hlt;have P0:PB (wr.alloc (bh #[aa az 0,aa az 0,aa az 0,aa az 0,ai bu,ai bu,aa az 0,aa az 0,aa az 0,aa az 0,aa az 0,aa az 0] 74)) wr.heap.size 0 0 Pr.no:=heap_alloc_new _ _;have B0:=T.2.alloc T.2.size (bh #[aa az 0,aa az 0,aa az 0,aa az 0,ai bu,ai bu,aa az 0,aa az 0,aa az 0,aa az 0,aa az 0,aa az 0] 74);have F0:Hid (PB ((wr.alloc (bh #[aa az 0,aa az 0,aa az 0,aa az 0,ai bu,ai bu,aa az 0,aa az 0,aa az 0,aa az 0,aa az 0,aa az 0] 74)).setCells wr.heap.size 0 (dS (s.A (9+k)) (s.A (29+k)) (s.k.p k)).toList) wr.heap.size (s.A (9+k)) (s.A (29+k)) (s.k.p k)/\Below w.heap.size w ((wr.alloc (bh #[aa az 0,aa az 0,aa az 0,aa az 0,ai bu,ai bu,aa az 0,aa az 0,aa az 0,aa az 0,aa az 0,aa az 0] 74)).setCells wr.heap.size 0 (dS (s.A (9+k)) (s.A (29+k)) (s.k.p k)).toList)):=hZ ⟨P0.put _ _ _,((bH.refl _ _).setCells _ _).below B0 T.2.size (aH T.2.size (by simp))⟩;have TH:=hZ P0.there;obtain⟨A,hA⟩:=nJ (dS (s.A (9+k)) (s.A (29+k)) (s.k.p k));have SZ:Hid ((prog.info? 74).map (·.size)=bj A.size):=hZ (by rw[<-hA,dI];kernel_rfl);have H1:Hid (A.all (·.oneCell')=bw):=hZ (by rw[<-hA];exact qt _ _ _);have zA:=dI (s.A (9+k)) (s.A (29+k)) (s.k.p k);rw[hA]at hix F0 zA;rw[<-zA]at TH;clear hA P0 B0 zA
   go_upto_region 5 with(refine wpList_store_mid rfl 74 _ _ rfl wr.heap.size 0 A rfl rfl TH.v SZ.v H1.v ?_)
   refine cM (λW=>PB W wr.heap.size (s.A (9+k)) (s.A (29+k)) (s.k.p k)/\Below w.heap.size w W) F0.v ?_;intro W1 hW1;have S1:=hZ hW1;clear hW1 F0 TH SZ H1 hix;simp only[Act.put];obtain⟨c,hc⟩:=nJ (wr.heap.size);rw[hc]at S1|-;clear hc;have FIN:Hid (∀W r p,Kn.CJ s.k r->Below w.heap.size w W->∃(k':Nat) (r' p':Int),(aa az ((k:Int)+1)=aa az k')/\aa az r=aa az r'/\aa az p=aa az p'/\k'<=20/\Hid (Kn.CJ s.k r'/\Below w.heap.size w W)):=hZ (λW r p m b=>⟨k+1,r,p,by go_num,rfl,rfl,bB,m,b⟩);have IL:=hZ (λj=>jt Wr s (W1.drewN j) k ((H.1.below S1.2).drewN j) hlt _ rfl);rw[HK.v]at IL;by_cases k0:k=0
   .have kB:((k:Int)==0)=bw:=by simp;omega
    have kD:decide ((k:Int)=0)=bw:=by simp;omega
    clear IL k0;go_big_quiet (fail)
    go_wp2
    go_roundw
    case rel=>exact FIN.v _ _ _ T.1 (S1.2.trans ((below_drewN _ _).mono S1.2.size))
    case measure=>simp[intOf];omega
   .have kB:((k:Int)==0)=bA:=by simp;omega
    have kD:decide ((k:Int)=0)=bA:=by simp;omega
    cases l:Kn.lv s.k k
    .rw[l]at IL;clear k0 l;go_big_quiet ((go_at_call 60;refine Calls.quiet_of_same (IL.v _)))
     go_wp2
     go_roundw
     case rel=>exact FIN.v _ _ _ T.1 (S1.2.trans ((below_drewN _ _).mono S1.2.size))
     case measure=>simp[intOf];omega
    .have hh:=H.2.lv k hlt (λx=>x) (Kn.dO.1 l);obtain⟨Wy,hW⟩:=H.2.gr;obtain⟨xs,hx⟩:=Gr.UJ hW.ways (s.k.p k).cD;have UN:Hid (∀V,Below W1.heap.size W1 V->Calls prog 172 #[ai (bj ⟨s.A 2,0,bu⟩),aa az (s.k.p k).cD,aa az g] V λe w'=>∃b,e=bf (ar b)/\Below W1.heap.size W1 w'):=hZ (λV b=>(Gr.BY (s.A 2) _ g s.k.gr xs V ((H.1.below S1.2).below b).gr hx).mono (by rintro _ w' ⟨rfl,b2⟩;exact⟨_,rfl,b.trans (b2.mono b.size)⟩));have IS:Hid (∀V,Below W1.heap.size W1 V->Calls prog 60 #[ai (bj ⟨s.A 0,0,bu⟩),aa az k] V λe w'=>e=bf (ar bw)/\w'=V):=hZ (λV b=>jt Wr s V k ((H.1.below S1.2).below b) hlt _ l);have C2:Hid (∀V,Below W1.heap.size W1 V->V.cell? ⟨s.A 0,247,bu⟩=bj (ai (bj ⟨s.A 2,0,bu⟩))/\V.cell? ⟨c,2,bu⟩=bj (aa az (s.k.p k).cD)):=hZ (λV b=>⟨((H.1.below S1.2).below b).pG,(S1.1.same (b.block _ S1.1.lt)).cell 2 bB⟩);have RE:Hid (∀V,Below W1.heap.size W1 V->V.cell? ⟨c,4,bu⟩=bj (ai (bj ⟨s.A (9+k),0,bu⟩))/\Calls prog 64 #[ai (bj ⟨s.A (9+k),0,bu⟩)] V λe w'=>∃v,e=bf (aa az v)/\Below W1.heap.size W1 w'):=hZ (λV b=>by
      have K:=(H.1.below S1.2).below b;have q:=(S1.1.same (b.block _ S1.1.lt)).cell 4 bB;refine⟨by rw[q];show bj (Kn.ptr _ (s.k.p k).has)=_;rw[hh];rfl,(pZ _ _ _ V (K.me k hlt hh)).mono ?_⟩;rintro _ w' ⟨rfl,b2⟩;exact⟨_,rfl,b.trans (b2.mono b.size)⟩)
     have LM:Hid (Kn.CJ s.k k):=hZ (.inr ⟨k,rfl,hlt,k0,l⟩);have B9:Hid (∀V,Below W1.heap.size W1 V->Below w.heap.size w V):=hZ (λV b=>S1.2.trans (b.mono S1.2.size));rw[HK.v]at IS C2;generalize (s.k.p k).cD=gp at*;generalize s.A 2=a2 at*;generalize s.A (9+k)=m9 at*;clear IL k0 l hh hW hx;have K0:=hZ (C2.v _ (aQ _ _));obtain⟨y1,y2⟩:=K0.v;go_region_held3 (λw'=>w'.cell? ⟨kb,247,bu⟩=bj (ai (bj ⟨a2,0,bu⟩))/\w'.cell? ⟨c,2,bu⟩=bj (aa az gp)) (first|exact K0.v|exact C2.v _ B4.v) (
      (first
       |(go_at_call 60;refine cG (IS.v _ (by first|exact aQ _ _|exact(aQ _ _).drew)) ?_)
       |(go_at_call 172;refine(UN.v _ (by first|exact aQ _ _|exact(aQ _ _).drew)).mono ?_;rintro e w4 ⟨bb,rfl,b4⟩;have B4:=hZ b4;clear b4)))
     cases bb
     .go_wp2
      go_roundw
      case rel=>exact FIN.v _ _ _ T.1 (B9.v _ B4.v)
      case measure=>simp[intOf];omega
     .obtain⟨z4,R4⟩:=RE.v _ B4.v;have R4:=hZ R4;go_wp2_with fail
      refine R4.mono ?_;rintro e w5 ⟨v,rfl,b5⟩;have B5:=hZ b5;clear b5 z4;by_cases gt:p<v
      .go_wp2
       go_roundw
       case rel=>exact FIN.v _ _ _ LM.v (B9.v _ B5.v)
       case measure=>simp[intOf];omega
      .go_wp2
       go_roundw
       case rel=>exact FIN.v _ _ _ T.1 (B9.v _ B5.v)
       case measure=>simp[intOf];omega
  .obtain rfl:k=20:=bB
   go_wp2
   go_ret
   exact⟨r,rfl,T.v⟩
end
namespace Kn
def Vl(k k':Kp):Prop:=∃m y q:Nat,m<20/\m≠0/\lv k m=bw/\k.sp.of m=y+1/\(k.p m).par=(q:Int)/\kL k m 137 y q k'
def Gq:Nat->Kp->Kp->Prop
 |0,k,k'=>k'=k
 |j+1,k,k'=>∃k1,Gq j k k1/\Vl k1 k'
section
variable {N:Nat}{d:Nat->Nat}{k k':Kp}{n z:Nat}
theorem KH.enc(h:KH N d k)(e:Vl k k'):KH N d k':=by
 obtain⟨m,y,q,h1,h2,h3,h4,h5,h6⟩:=e;exact h.end h1 h2 h3 h4 h5 h6
theorem KH.ur(h:KH N d k):∀j {k':Kp},Gq j k k'->KH N d k'
 |0,_,e=>by rw[show _=k from e];exact h
 |j+1,_,⟨_,a,b⟩=>(h.ur j a).enc b
theorem KY(k:Kp)(q m:Nat):((nD k q).p m).st=(k.p m).st/\((nD k q).p m).cD=(k.p m).cD:=by
 unfold nD;split
 .unfold iG;by_cases c:m=q
  .subst c;rw[bG];exact⟨rfl,rfl⟩
  .rw[bO _ _ _ _ c];exact⟨rfl,rfl⟩
 .exact⟨rfl,rfl⟩
theorem KH.Dj(h:KH N d k)(hn:n<20)(n0:n≠0)(l:lv k n=bw)(ho:k.sp.of n=z+1){q:Nat}(et:kL k n c z q k'):lv k' n=bA/\∀m,m<20->lv k' m=bw->lv k m=bw/\(k'.p m).cD=(k.p m).cD:=by
 obtain⟨k1,k3,s1,mt,rfl⟩:=et;have hv:=h.ki.vi;have md:=hv.Ah hn n0 l ho s1 mt;have mq:=hv.mq hn n0 l ho s1 mt;have e:∀m,((nD (gG k3 (iC k3 n) (Sp.e9 k3.sp (z:Int) 1:Nat)) q).p m).st=(k3.p m).st/\((nD (gG k3 (iC k3 n) (Sp.e9 k3.sp (z:Int) 1:Nat)) q).p m).cD=(k3.p m).cD:=λm=>KY _ _ _;have nl:lv (nD (gG k3 (iC k3 n) (Sp.e9 k3.sp (z:Int) 1:Nat)) q) n=bA:=by unfold lv;rw[(e n).1,md.pn.1];rfl
 refine⟨nl,λm hm lm=>?_⟩;rw[(e m).2];by_cases c:m=n
 .subst c;rw[nl]at lm;cases lm
 .have s:=dO.1 lm;rw[(e m).1]at s;rcases mq.ot m hm c with⟨a,_⟩|⟨a,_⟩
  .rw[a]at s|-;exact⟨dO.2 s,rfl⟩
  .rw[a]at s;exact aZ s bE
theorem GY(a:∀m,m<20->lv k' m=bw->lv k m=bw):∀j,j<=20->(gA k' j).length<=(gA k j).length/\(lv k n=bw->lv k' n=bA->n<j->(gA k' j).length<(gA k j).length)
 |0,_=>⟨aL _,λ_ _ h=>aZ h bB⟩
 |j+1,hj=>by
  obtain⟨i1,i2⟩:=GY a j bB;cases x:lv k' j
  .rw[xD x];cases y:lv k j
   .rw[xD y];exact⟨i1,λh1 h2 h3=>i2 h1 h2 (by rcases Nat.lt_succ_iff_lt_or_eq.1 h3 with c|c;exact c;subst c;rw[y]at h1;cases h1)⟩
   .rw[rL y,List.length_append];exact⟨by simp;omega,λ_ _ _=>by simp;omega⟩
  .have y:=a j bB x;rw[rL x,rL y,List.length_append,List.length_append];exact⟨by simp;omega,λh1 h2 h3=>by
    have:=i2 h1 h2 (by rcases Nat.lt_succ_iff_lt_or_eq.1 h3 with c|c;exact c;subst c;rw[x]at h2;cases h2);simp;omega⟩
def U0:Option Value->Bool
 |some (aa _ q)=>q==1
 |_=>bA
def vb(b:Nat)(W:bD):Nat:=((List.range 20).filter λn=>U0 (W.cell? ⟨b,n*12,bu⟩)).length
end
end Kn
theorem bP.vb{w:bD}{Wr:Nat}{s:St}(h:bP w Wr s):Kn.vb (s.A 0) w=(Kn.gA s.k 20).length:=by
 unfold Kn.vb Kn.gA;rw[List.filter_congr (λn hn=>?_)];rw[h.uM n (by simpa using hn)];show(((s.k.p n).st:Int)==1)=decide ((s.k.p n).st=1);rw[Bool.eq_iff_iff];simp;omega
def Kn.V4(k:Kp):Prop:=∀g,g<10->(k.gr g).there=bw->(k.gr g).lp= -1/\(k.gr g).lq= -1
def Kn.Ta(j:Nat)(k k':Kp):Prop:=Kn.Gq j k k'/\(Kn.V4 k->j=0)
theorem Gr.Way.in{t:Nat->Gr.Gp}:∀{L:List Nat} {g:Int},Gr.Way t g L->∀x∈L,(t x).there=bw
 |[],_,_,_,h=>by cases h
 |_::_,_,⟨_,_,a,b⟩,x,h=>by
  rcases List.mem_cons.1 h with rfl|h
  .exact a
  .exact Gr.Way.in b x h
theorem Gr.Ox{t:Nat->Gr.Gp}{p q:Int}{y:Fin 10}(h:Gr.gY t Wy p q y=bw):(t y.val).lp≠ -1\/(t y.val).lq≠ -1:=by
 unfold Gr.gY Gr.nj at h;simp only[Bool.or_eq_true,decide_eq_true_eq]at h;exact h.imp (λx=>x.1) (λx=>x.1)
def Kn.yn(k:Kp)(n:Nat)(E:Int)(k':Kp):Prop:=∃j k1,Kn.Ta j k k1/\((Kn.lv k1 n=bw/\(k1.p n).cD=(k.p n).cD/\∃Wy,Gr.eW k1.gr Wy/\E=Gr.iF k1.gr Wy (k.p n).cD 0 1/\k'={k1 with gr:=Gr.gD k1.gr Wy (k.p n).cD 0 1})\/(E=6/\k'=k1))
section
variable (Wr N:Nat)(d:Nat->Nat)(s:St)(w:bD)
theorem Le{t:Nat->Gr.Gp}(b:Nat)(g:Int)(V:bD)(h:Gr.bT V b t)(hW:Gr.eW t Wy)(hS:Gr.Small t):Calls prog 238 #[ai (bj ⟨b,0,bu⟩),aa az g,aa az 0,aa az 1] V λe w'=>∃(f:Int) (l:Bool),e=bf (ao #[aa az f,ar l])/\(l=bw->∃g,g<10/\(t g).there=bw/\((t g).lp≠ -1\/(t g).lq≠ -1))/\Below V.heap.size V w':=by
 by_cases r:Gr.eQ t g 0 1=0
 .obtain⟨n,rfl,hn,_⟩:=Gr.ma r;refine(Gr.Oz b n 0 1 t Wy V h hW hS hn r).mono ?_;rintro _ w' ⟨⟨_,rfl⟩|⟨_,x,_,wy,_,lk,rfl⟩,b⟩
  .exact⟨0,bA,rfl,nofun,b⟩
  .exact⟨_,bw,rfl,λ_=>⟨x,x.2,(hW n hn).in x (List.mem_map_of_mem (by rw[wy];simp)),Gr.Ox lk⟩,b⟩
 .refine(Gr.Lf b g 0 1 t V h r).mono ?_;rintro _ w' ⟨rfl,b⟩;exact⟨0,bA,rfl,nofun,b⟩
theorem Om(n:Nat)(hN:N<=900)(h:bP w Wr s)(hh:KH N d s.k)(hn:n<20)(l:Kn.lv s.k n=bw):
  Calls prog 184 #[ai (bj ⟨s.A 0,0,bu⟩),aa az n] w (Kn.Nx Wr s w λv k'=>∃E,v=bN E/\Kn.yn s.k n E k'):=by
 have hnI:(n:Int)<20:=bB
 have H:=hZ (aK h (aK hh (aK hN l)));have cg:=h.pU n hn;obtain⟨gp,hg⟩:=nJ ((s.k.p n).cD);obtain⟨kb,hk⟩:=nJ (s.A 0);have HK:=hZ (aK hk hg);rw[hg,hk]at cg;rw[hk];go_in
 go_wp2_with fail
 go_loopw [6] (λ_ wr=>∃(j:Nat) (s1:St),Hid (Kn.Ta j s.k s1.k/\bP wr Wr s1/\KF s w s1 wr/\KH N d s1.k/\Kn.lv s1.k n=bw/\(s1.k.p n).cD=gp/\s1.A 0=kb)) (λ_ wr=>Kn.vb kb wr)
 case atStart=>exact⟨0,s,⟨rfl,λ_=>rfl⟩,H.1,KF.refl _ _,H.2.1,H.2.2.2,HK.2,HK.1⟩
 case round=>
  obtain⟨j,s1,T⟩:=hrel;obtain⟨en,K1,F1,kh,ln,eg,ea⟩:=T.v;obtain⟨Wy,hW⟩:=kh.ki.vi.kj.gr;have N9:=H.2.2.1;have LA:=hZ (Le (s1.A 2) gp wr K1.gr hW.ways (hW.small bB));have CH:Hid (∀V,Below wr.heap.size wr V->Calls prog 65 #[ai (bj ⟨s1.A 2,0,bu⟩),aa az gp,aa az 0,aa az 1] V λe w'=>∃E k',e=bf (bN E)/\Kn.yn s.k n E k'/\bP w' Wr {s1 with k:=k'}/\KF s w {s1 with k:=k'} w'):=hZ (λV b=>(Gr.nZ (s1.A 2) gp 0 1 s1.k.gr Wy V (K1.below b).gr hW.ways (hW.small bB)).mono (by
   rintro _ w' ⟨rfl,u,f⟩;have q:=(K1.below b).kv u f.sW;exact⟨_,_,rfl,⟨j,s1.k,en, .inl ⟨ln,by rw[eg,HK.2],Wy,hW.ways,by rw[HK.2],by rw[HK.2]⟩⟩,q.1,F1.trans ((KF.below b).trans q.2)⟩))
  have C2:Hid (∀V,Below wr.heap.size wr V->V.cell? ⟨kb,247,bu⟩=bj (ai (bj ⟨s1.A 2,0,bu⟩))):=hZ (λV b=>by rw[<-ea];exact(K1.below b).pG);have c2:=C2.v _ (aQ _ _);generalize s1.A 2=a2 at*;go_wp2_with fail
  refine LA.mono ?_;rintro e w2 ⟨f,lk,rfl,hl,b2⟩;have HL:=hZ hl;cases lk
  .have c2:=C2.v _ b2;go_wp2_with fail
   refine(CH.v _ b2).mono ?_;rintro e w3 ⟨E,k',rfl,S3⟩;have S3:=hZ S3;go_wp2
   go_ret
   exact⟨_,_,rfl,⟨E,rfl,S3.1⟩,S3.2⟩
  .have HY:=hZ (HL.v rfl);have GR:=hZ (Cd Wr N s1 w2 f (T.2.1.below b2) T.2.2.2.1.ki.vi.kj);rw[T.2.2.2.2.2.2]at GR;go_wp2_with fail
   refine GR.mono ?_;rintro e w3 ⟨r,rfl,mo,b3⟩;have B3:=hZ (b2.trans (b3.mono b2.size));rcases mo with rfl|⟨m,rfl,hm,m0,lm⟩
   .go_wp2
    go_ret
    exact⟨_,s1,rfl,⟨6,rfl,j,s1.k,T.1, .inr ⟨rfl,rfl⟩⟩,T.2.1.below B3.v,T.2.2.1.trans (KF.below B3.v)⟩
   .have kh:=T.2.2.2.1;obtain⟨y,hy⟩:=kh.of hm (by rw[Kn.dO.1 lm];omega);obtain⟨q,gU,qm,hp⟩:=kh.ki.pr m hm m0 (by rw[Kn.dO.1 lm];omega);have ED:=hZ (xB Wr N d H.2.2.1 s1 w3 m y q 137 (T.2.1.below B3.v) kh.ki.vi hm m0 lm hy gU qm hp (λx hx _ lx hx2=>kh.ki.fi x hx lx hx2));have CO:Hid (∀k',Kn.kL s1.k m 137 y q k'->Kn.Ta (j+1) s.k k'/\KH N d k'/\(Kn.gA k' 20).length<(Kn.gA s1.k 20).length/\(Kn.lv k' n=bw->(k'.p n).cD=gp)):=hZ (λk' et=>by
     have es:=kh.Dj hm m0 lm hy et;refine⟨⟨⟨s1.k,T.1.1,m,y,q,hm,m0,lm,hy,hp,et⟩,λnl=>?_⟩,kh.end hm m0 lm hy hp et,(Kn.GY (λx hx lx=>(es.2 x hx lx).1) 20 (aL _)).2 lm es.1 hm,λln=>((es.2 n hn ln).2).trans T.2.2.2.2.2.1⟩;obtain⟨g,hg,th,q⟩:=HY.v;have e:=T.1.1;rw[T.1.2 nl]at e;rw[show s1.k=s.k from e]at q th;have:=nl g hg th;omega)
    have mB:((m:Int)== -1)=bA:=by simp
    rw[T.2.2.2.2.2.2]at ED;go_wp2_with fail
    refine ED.mono ?_;rintro e w4 ⟨k',rfl,et,K4,F4⟩;have S4:=hZ (aK (CO.v k' et) (aK K4 (T.2.2.1.trans ((KF.below B3.v).trans F4))));have IL:=hZ (jt Wr {s1 with k:=k'} w4 n K4 hn _ rfl);rw[show({s1 with k:=k'}:St).A 0=kb from T.2.2.2.2.2.2]at IL;have ME:Hid (Kn.vb kb w4<Kn.vb kb wr):=hZ (by
     have a:=K4.vb;have b:=T.2.1.vb;rw[show({s1 with k:=k'}:St).A 0=kb from T.2.2.2.2.2.2]at a;rw[T.2.2.2.2.2.2]at b;rw[a,b];exact S4.1.2.2.1)
    go_wp2_with fail
    refine cG IL.v ?_;cases lv:Kn.lv ({s1 with k:=k'}:St).k n
    .clear lv;go_wp2
     go_ret
     exact⟨_,_,rfl,⟨6,rfl,j+1,k',S4.1.1, .inr ⟨rfl,rfl⟩⟩,S4.2⟩
    .have LV:=hZ lv;go_wp2
     go_roundw
     case rel=>exact⟨j+1,{s1 with k:=k'},S4.1.1,S4.2.1,S4.2.2,S4.1.2.1,LV.v,S4.1.2.2.2 LV.v,T.2.2.2.2.2.2⟩
     case measure=>exact ME.v
end
namespace Kn
theorem KH.PZ{k':Kp}(h:KH N d k)(c:yn k n E k'):KH (N+1) d k':=by
 obtain⟨j,k1,⟨e,_⟩,⟨_,_,Wy,hW,_,rfl⟩|⟨_,rfl⟩⟩:=c
 .have g:=h.ur j e;obtain⟨Wz,hz⟩:=g.ki.vi.kj.gr;exact g.gr (Nat.le_succ _) ⟨Wy,qC (x9 hz hW) _ _ _ bB bB⟩
 .exact(h.ur j e).more (Nat.le_succ _)
def lG(a:Int)(D:Kp->Nat->Int->Kp->Prop)(k:Kp)(z:Int)(v:Value)(k':Kp):Prop:=
 ∃E,v=bN E/\((0<E/\k'=k)\/∃n:Nat,z=n/\n<20/\lv k n=bw/\((Mv.kZ (k.p n).mem a=bA/\D k n E k')\/(Mv.kZ (k.p n).mem a=bw/\∃E1 k1,yn k n E1 k1/\((E1≠0/\E=E1/\k'=k1)\/(E1=0/\∃k2,D k1 n E k2/\((E=0/\k'=k2)\/(E≠0/\k'={k2 with gr:=Gr.dD k2.gr (k2.p n).cD 0 1})))))))
end Kn
def Kn.JN(Wr:Nat)(s:St)(w:bD):Prop:=∀V (n:Nat),Below w.heap.size w V->n<20->Kn.lv s.k n=bw->Calls prog 184 #[ai (bj ⟨s.A 0,0,bu⟩),aa az n] V (Kn.Nx Wr s V λv k'=>∃E,v=bN E/\Kn.yn s.k n E k')
theorem lS(h:bN E=ay):E=0:=by
 by_cases c:E=0
 .exact c
 .rw[bM c]at h;cases h
section
variable (Wr N:Nat)(d:Nat->Nat)(s:St)(w:bD)
theorem FJ(z a:Int)(c1 c2:Nat)(D:Kp->Nat->Int->Kp->Prop)(KG:bD->St->Prop)(P:Nat->bD->Kp->Prop)(cp:Kn.JN Wr s w)(hN:N<900)(h:bP w Wr s)(hh:KH N d s.k)(hD:∀k n E k',D k n E k'->k'.gr=k.gr/\(k'.p n).cD=(k.p n).cD)(hG:∀V s1 W s2,KG V s1->KF s1 V s2 W->KG W s2)(hG0:∀V s1,KF s w s1 V->KG V s1)
  (DO:∀V s1 n,bP V Wr s1->KF s w s1 V->KH (N+1) d s1.k->n<20->Kn.lv s1.k n=bw->Calls prog 107 #[ai (bj ⟨s1.A (9+n),0,bu⟩),ai (bj ⟨c1,0,bu⟩),ai (bj ⟨c2,0,bu⟩)] V λe w'=>∃E k',e=bf (bN E)/\D s1.k n E k'/\bP w' Wr {s1 with k:=k'}/\KG w' {s1 with k:=k'}/\(E=0->P n w' k')):
  Calls prog 106 #[ai (bj ⟨s.A 0,0,bu⟩),aa az z,aa az a,ar bA, .func (.func 107) #[] #[ai (bj ⟨c1,0,bu⟩),ai (bj ⟨c2,0,bu⟩)]] w λe w'=>∃v s',e=bf v/\Kn.lG a D s.k z v s'.k/\bP w' Wr s'/\KG w' s'/\(v=ay->P z.toNat w' s'.k):=by
 have AC:=hZ (dP Wr s w z h);have H:=hZ (aK h (aK hh hN));have HG:=hZ (aK hG (aK hG0 hD));have NO:Hid (∀W E,Below w.heap.size w W->0<E->∃v s',bf (bN E)=bf v/\Kn.lG a D s.k z v s'.k/\bP W Wr s'/\KG W s'/\(v=ay->P z.toNat W s'.k)):=hZ (λW E b e=>⟨_,s,rfl,⟨E,rfl, .inl ⟨e,rfl⟩⟩,h.below b,hG0 _ _ (KF.below b),λc=>aZ (lS c) bB⟩);have DO:=hZ DO;have C0:=hZ cp;by_cases A:Kn.cC s.k z=0
 .obtain⟨n,rfl,hn,hl⟩:=Kn.fL A;have hs:=hh.ki.vi.kj.lv n hn (λx=>x) (Kn.dO.1 hl);have HL:=hZ (aK hl hs);have C4:Hid (∀V,Below w.heap.size w V->V.cell? ⟨s.A 0,n*12+4,bu⟩=bj (ai (bj ⟨s.A (9+n),0,bu⟩))):=hZ (λV b=>(h.below b).rX n hn hs);have c4:=C4.v _ (aQ _ _);have MY:=hZ (oY (s.A (9+n)) (s.A 4) a bA (s.k.p n).mem w (h.me n hn hs));obtain⟨kb,hk⟩:=nJ (s.A 0);obtain⟨m9,h9⟩:=nJ (s.A (9+n));have HK:=hZ (aK hk h9);rw[A,bF,ie]at AC;rw[hk]at AC C4 c4|-;rw[h9]at C4 c4 MY;go_in
  go_wp2_with fail
  refine cG AC.v ?_;go_wp2_with fail
  refine sC MY.v ?_;rintro w1 b1;cases Mv.j5 (s.k.p n).mem a bA
  .go_wp2
   go_ret
   exact NO.v _ 10 b1 bE
  .have WN:=hZ (zH (s.A (9+n)) (s.A 4) a (s.k.p n).mem w1 ((H.1.below b1).me n hn HL.2));have c4:=C4.v _ b1;rw[HK.2]at WN;go_wp2_with fail
   refine sC WN.v ?_;rintro w2 b2;have b2:=b1.trans (b2.mono b1.size);cases hw:Mv.kZ (s.k.p n).mem a
   all_goals have HW:=hZ hw
   .have D2:=hZ (DO.v w2 s n (H.1.below b2) (KF.below b2) (H.2.1.more (Nat.le_succ _)) hn HL.1);have c4:=C4.v _ b2;rw[HK.2]at D2;go_wp2_with fail
    refine D2.mono ?_;rintro e w3 ⟨E,k',rfl,S3⟩;have S3:=hZ S3;go_wp2
    go_ret
    exact⟨_,_,rfl,⟨E,rfl, .inr ⟨n,rfl,hn,HL.1, .inl ⟨HW.v,S3.1⟩⟩⟩,S3.2.1,S3.2.2.1,λc=>S3.2.2.2 (lS c)⟩
   .have CP:=hZ (C0.v w2 n b2 hn HL.1);rw[HK.1]at CP;go_wp2_with fail
    refine CP.mono ?_;rintro e w3 ⟨v,s1,rfl,⟨E1,rfl,cp⟩,K3,F3⟩;have S3:=hZ (aK cp (aK K3 ((KF.below b2).trans F3)));by_cases e1:E1=0
    .subst e1;rw[bF];have ln:Kn.lv s1.k n=bw:=by
      obtain⟨j,k1,_,⟨l1,_,Wy,_,_,e⟩|⟨e,_⟩⟩:=S3.1
      .rw[e];exact l1
      .cases e
     have kh:=H.2.1.PZ S3.1;have hs:=kh.ki.vi.kj.lv n hn (λx=>x) (Kn.dO.1 ln);have c4:=S3.2.1.rX n hn hs;have D2:=hZ (DO.v w3 s1 n S3.2.1 S3.2.2 kh hn ln);have ea:=S3.2.2.a0.trans HK.1;obtain⟨Wy,hW⟩:=kh.ki.vi.kj.gr;have UC:Hid (∀V W k2 E,D s1.k n E k2->E≠0->bP V Wr {s1 with k:=k2}->KG V {s1 with k:=k2}->Below V.heap.size V W->Calls prog 67 #[ai (bj ⟨s1.A 2,0,bu⟩),aa az (k2.p n).cD,aa az 0,aa az 1] W λe w'=>(∃u,e=bf (bN u))/\∃v s',bf (bN E)=bf v/\Kn.lG a D s.k n v s'.k/\bP w' Wr s'/\KG w' s'/\(v=ay->P (n:Int).toNat w' s'.k)):=hZ (λV W k2 E dd e0 kk kg b=>by
      have g:=(HG.2.2 _ _ _ _ dd).1;refine sC (Gr.iT (s1.A 2) _ 0 1 k2.gr W (kk.below b).gr (by rw[g];exact hW.small (by have:=H.2.2;omega))) ?_;rintro w' ⟨u,f⟩;have q:=(kk.below b).kv u f.sW;exact⟨⟨_,rfl⟩,_,_,rfl,⟨E,rfl, .inr ⟨n,rfl,hn,HL.1, .inr ⟨HW.v,0,s1.k,S3.1, .inr ⟨rfl,k2,dd, .inr ⟨e0,rfl⟩⟩⟩⟩⟩,q.1,HG.1 _ _ _ _ kg ((KF.below b).trans q.2),λc=>aZ (lS c) e0⟩)
     rw[ea]at c4;generalize h9:s1.A (9+n)=m10 at c4 D2;have EA:=hZ ea;go_wp2_with fail
     refine D2.mono ?_;rintro e w4 ⟨E,k2,rfl,S4⟩;have S4:=hZ S4;by_cases e0:E=0
     .subst e0;rw[bF];go_wp2
      go_ret
      exact⟨_,_,rfl,⟨0,rfl, .inr ⟨n,rfl,hn,HL.1, .inr ⟨HW.v,0,s1.k,S3.1, .inr ⟨rfl,k2,S4.1, .inl ⟨rfl,rfl⟩⟩⟩⟩⟩,S4.2.1,S4.2.2.1,λ_=>S4.2.2.2 trivial⟩
     .have U4:=hZ (λW b=>UC.v w4 W k2 E S4.1 e0 S4.2.1 S4.2.2.1 b);have g2:=S4.2.1.pG;have g3:=S4.2.1.pU n hn;rw[show({s1 with k:=k2}:St).A 0=kb from EA.v]at g2 g3;rw[show({s1 with k:=k2}:St).A 2=s1.A 2 from rfl]at g2;rw[show({s1 with k:=k2}:St).k=k2 from rfl]at g3;have EE:=hZ (bM e0);rw[bM e0]at U4|-;generalize (k2.p n).cD=gg at*;generalize s1.A 2=a2 at*;go_upto_region 13 with fail
      go_region_with ((go_at_call 67;refine(U4.v _ (by first|exact aQ _ _|exact(aQ _ _).drew)).mono ?_;rintro e w5 ⟨⟨u,rfl⟩,S5⟩;have S5:=hZ S5))
      all_goals
       go_wp2
       go_ret
       exact S5.v
    .have EE:=hZ (aK e1 (bM e1));rw[bM e1];go_wp2
     go_ret
     exact⟨_,s1,rfl,⟨E1,EE.2.symm, .inr ⟨n,rfl,hn,HL.1, .inr ⟨HW.v,E1,s1.k,S3.1, .inl ⟨EE.1,rfl,rfl⟩⟩⟩⟩,S3.2.1,HG.2.1 _ _ S3.2.2,λc=>aZ (lS (EE.2.trans c)) EE.1⟩
 .have N1:=hZ (NO.v w _ (aQ _ _) (Kn.xh A));rw[bM A]at AC N1;generalize gO (s.A 0) z (Kn.cC s.k z)=ap at*;generalize Kn.cC s.k z=ae at*;generalize s.A 0=kb at*;go_in
  go_wp2_with fail
  refine cG AC.v ?_;go_wp2
  go_ret
  exact N1.v
theorem FL(z a:Int)(c1 c2:Nat)(D:Kp->Nat->Int->Kp->Prop)(KG:bD->St->Prop)(P:Nat->bD->Kp->Prop)(cp:Kn.JN Wr s w)(hN:N<900)(h:bP w Wr s)(hh:KH N d s.k)(hD:∀k n E k',D k n E k'->k'.gr=k.gr/\(k'.p n).cD=(k.p n).cD)(hG:∀V s1 W s2,KG V s1->KF s1 V s2 W->KG W s2)(hG0:∀V s1,KF s w s1 V->KG V s1)
  (DO:∀V s1 n,bP V Wr s1->KF s w s1 V->KH (N+1) d s1.k->n<20->Kn.lv s1.k n=bw->Calls prog 109 #[ai (bj ⟨s1.A (9+n),0,bu⟩),ai (bj ⟨c1,0,bu⟩),ai (bj ⟨c2,0,bu⟩)] V λe w'=>∃E k',e=bf (bN E)/\D s1.k n E k'/\bP w' Wr {s1 with k:=k'}/\KG w' {s1 with k:=k'}/\(E=0->P n w' k')):
  Calls prog 106 #[ai (bj ⟨s.A 0,0,bu⟩),aa az z,aa az a,ar bw, .func (.func 109) #[] #[ai (bj ⟨c1,0,bu⟩),ai (bj ⟨c2,0,bu⟩)]] w λe w'=>∃v s',e=bf v/\Kn.lG a D s.k z v s'.k/\bP w' Wr s'/\KG w' s'/\(v=ay->P z.toNat w' s'.k):=by
 have AC:=hZ (dP Wr s w z h);have H:=hZ (aK h (aK hh hN));have HG:=hZ (aK hG (aK hG0 hD));have NO:Hid (∀W E,Below w.heap.size w W->0<E->∃v s',bf (bN E)=bf v/\Kn.lG a D s.k z v s'.k/\bP W Wr s'/\KG W s'/\(v=ay->P z.toNat W s'.k)):=hZ (λW E b e=>⟨_,s,rfl,⟨E,rfl, .inl ⟨e,rfl⟩⟩,h.below b,hG0 _ _ (KF.below b),λc=>aZ (lS c) bB⟩);have DO:=hZ DO;have C0:=hZ cp;by_cases A:Kn.cC s.k z=0
 .obtain⟨n,rfl,hn,hl⟩:=Kn.fL A;have hs:=hh.ki.vi.kj.lv n hn (λx=>x) (Kn.dO.1 hl);have HL:=hZ (aK hl hs);have C4:Hid (∀V,Below w.heap.size w V->V.cell? ⟨s.A 0,n*12+4,bu⟩=bj (ai (bj ⟨s.A (9+n),0,bu⟩))):=hZ (λV b=>(h.below b).rX n hn hs);have c4:=C4.v _ (aQ _ _);have MY:=hZ (oY (s.A (9+n)) (s.A 4) a bw (s.k.p n).mem w (h.me n hn hs));obtain⟨kb,hk⟩:=nJ (s.A 0);obtain⟨m9,h9⟩:=nJ (s.A (9+n));have HK:=hZ (aK hk h9);rw[A,bF,ie]at AC;rw[hk]at AC C4 c4|-;rw[h9]at C4 c4 MY;go_in
  go_wp2_with fail
  refine cG AC.v ?_;go_wp2_with fail
  refine sC MY.v ?_;rintro w1 b1;cases Mv.j5 (s.k.p n).mem a bw
  .go_wp2
   go_ret
   exact NO.v _ 10 b1 bE
  .have WN:=hZ (zH (s.A (9+n)) (s.A 4) a (s.k.p n).mem w1 ((H.1.below b1).me n hn HL.2));have c4:=C4.v _ b1;rw[HK.2]at WN;go_wp2_with fail
   refine sC WN.v ?_;rintro w2 b2;have b2:=b1.trans (b2.mono b1.size);cases hw:Mv.kZ (s.k.p n).mem a
   all_goals have HW:=hZ hw
   .have D2:=hZ (DO.v w2 s n (H.1.below b2) (KF.below b2) (H.2.1.more (Nat.le_succ _)) hn HL.1);have c4:=C4.v _ b2;rw[HK.2]at D2;go_wp2_with fail
    refine D2.mono ?_;rintro e w3 ⟨E,k',rfl,S3⟩;have S3:=hZ S3;go_wp2
    go_ret
    exact⟨_,_,rfl,⟨E,rfl, .inr ⟨n,rfl,hn,HL.1, .inl ⟨HW.v,S3.1⟩⟩⟩,S3.2.1,S3.2.2.1,λc=>S3.2.2.2 (lS c)⟩
   .have CP:=hZ (C0.v w2 n b2 hn HL.1);rw[HK.1]at CP;go_wp2_with fail
    refine CP.mono ?_;rintro e w3 ⟨v,s1,rfl,⟨E1,rfl,cp⟩,K3,F3⟩;have S3:=hZ (aK cp (aK K3 ((KF.below b2).trans F3)));by_cases e1:E1=0
    .subst e1;rw[bF];have ln:Kn.lv s1.k n=bw:=by
      obtain⟨j,k1,_,⟨l1,_,Wy,_,_,e⟩|⟨e,_⟩⟩:=S3.1
      .rw[e];exact l1
      .cases e
     have kh:=H.2.1.PZ S3.1;have hs:=kh.ki.vi.kj.lv n hn (λx=>x) (Kn.dO.1 ln);have c4:=S3.2.1.rX n hn hs;have D2:=hZ (DO.v w3 s1 n S3.2.1 S3.2.2 kh hn ln);have ea:=S3.2.2.a0.trans HK.1;obtain⟨Wy,hW⟩:=kh.ki.vi.kj.gr;have UC:Hid (∀V W k2 E,D s1.k n E k2->E≠0->bP V Wr {s1 with k:=k2}->KG V {s1 with k:=k2}->Below V.heap.size V W->Calls prog 67 #[ai (bj ⟨s1.A 2,0,bu⟩),aa az (k2.p n).cD,aa az 0,aa az 1] W λe w'=>(∃u,e=bf (bN u))/\∃v s',bf (bN E)=bf v/\Kn.lG a D s.k n v s'.k/\bP w' Wr s'/\KG w' s'/\(v=ay->P (n:Int).toNat w' s'.k)):=hZ (λV W k2 E dd e0 kk kg b=>by
      have g:=(HG.2.2 _ _ _ _ dd).1;refine sC (Gr.iT (s1.A 2) _ 0 1 k2.gr W (kk.below b).gr (by rw[g];exact hW.small (by have:=H.2.2;omega))) ?_;rintro w' ⟨u,f⟩;have q:=(kk.below b).kv u f.sW;exact⟨⟨_,rfl⟩,_,_,rfl,⟨E,rfl, .inr ⟨n,rfl,hn,HL.1, .inr ⟨HW.v,0,s1.k,S3.1, .inr ⟨rfl,k2,dd, .inr ⟨e0,rfl⟩⟩⟩⟩⟩,q.1,HG.1 _ _ _ _ kg ((KF.below b).trans q.2),λc=>aZ (lS c) e0⟩)
     rw[ea]at c4;generalize h9:s1.A (9+n)=m10 at c4 D2;have EA:=hZ ea;go_wp2_with fail
     refine D2.mono ?_;rintro e w4 ⟨E,k2,rfl,S4⟩;have S4:=hZ S4;by_cases e0:E=0
     .subst e0;rw[bF];go_wp2
      go_ret
      exact⟨_,_,rfl,⟨0,rfl, .inr ⟨n,rfl,hn,HL.1, .inr ⟨HW.v,0,s1.k,S3.1, .inr ⟨rfl,k2,S4.1, .inl ⟨rfl,rfl⟩⟩⟩⟩⟩,S4.2.1,S4.2.2.1,λ_=>S4.2.2.2 trivial⟩
     .have U4:=hZ (λW b=>UC.v w4 W k2 E S4.1 e0 S4.2.1 S4.2.2.1 b);have g2:=S4.2.1.pG;have g3:=S4.2.1.pU n hn;rw[show({s1 with k:=k2}:St).A 0=kb from EA.v]at g2 g3;rw[show({s1 with k:=k2}:St).A 2=s1.A 2 from rfl]at g2;rw[show({s1 with k:=k2}:St).k=k2 from rfl]at g3;have EE:=hZ (bM e0);rw[bM e0]at U4|-;generalize (k2.p n).cD=gg at*;generalize s1.A 2=a2 at*;go_upto_region 13 with fail
      go_region_with ((go_at_call 67;refine(U4.v _ (by first|exact aQ _ _|exact(aQ _ _).drew)).mono ?_;rintro e w5 ⟨⟨u,rfl⟩,S5⟩;have S5:=hZ S5))
      all_goals
       go_wp2
       go_ret
       exact S5.v
    .have EE:=hZ (aK e1 (bM e1));rw[bM e1];go_wp2
     go_ret
     exact⟨_,s1,rfl,⟨E1,EE.2.symm, .inr ⟨n,rfl,hn,HL.1, .inr ⟨HW.v,E1,s1.k,S3.1, .inl ⟨EE.1,rfl,rfl⟩⟩⟩⟩,S3.2.1,HG.2.1 _ _ S3.2.2,λc=>aZ (lS (EE.2.trans c)) EE.1⟩
 .have N1:=hZ (NO.v w _ (aQ _ _) (Kn.xh A));rw[bM A]at AC N1;generalize gO (s.A 0) z (Kn.cC s.k z)=ap at*;generalize Kn.cC s.k z=ae at*;generalize s.A 0=kb at*;go_in
  go_wp2_with fail
  refine cG AC.v ?_;go_wp2
  go_ret
  exact N1.v
end
def Kn.xe(a:Int)(k:Kp)(n:Nat)(E:Int)(k':Kp):Prop:=∃g m b,Mv.mO (k.p n).mem k.bk a bA E g m b/\k'=Kn.cY k n m b
def Kn.yz(a u:Int)(k:Kp)(n:Nat)(E:Int)(k':Kp):Prop:=∃g m b,Mv.mO (k.p n).mem k.bk a bw E g m b/\k'=Kn.cY k n m (if E=0 then Mv.Mi b g (a.toNat%8) u else b)
def Kn.yF(k:Kp)(n a:Nat):Int:=if(k.p n).mem.fr (a/8)=0 then 0 else k.bk.dJ ((k.p n).mem.fr (a/8)-1) (a%8)
theorem Mv.mO.fr{m m':Me}{k k':Bk}{z:Int}{wr:Bool}{g:Nat}(t:Mv.mO m k z wr 0 g m' k'):m'.fr (z.toNat/8)=g+1:=by
 rcases t with⟨_,h,_⟩|⟨_,h,_,_,rfl,rfl,rfl⟩|⟨_,_,_,_,⟨h,_⟩|⟨_,rfl,_⟩⟩
 .exact aZ h bE
 .omega
 .exact aZ rfl h
 .simp[jk]
theorem Kn.QY{g:Nat}{wr:Bool}{m:Me}{b:Bk}(t:Mv.mO (k.p n).mem k.bk z wr 0 g m b)(c:Bk):Kn.yF (Kn.cY k n m c) n z.toNat=c.dJ g (z.toNat%8):=by
 unfold Kn.yF;rw[Kn.jj];show(if m.fr (z.toNat/8)=0 then 0 else c.dJ (m.fr (z.toNat/8)-1) (z.toNat%8))=_;rw[t.fr,nK,aP]
theorem Kn.G7(k:Kp)(n:Nat)(m:Me)(b:Bk):(Kn.cY k n m b).gr=k.gr/\((Kn.cY k n m b).p n).cD=(k.p n).cD:=⟨rfl,by rw[Kn.jj]⟩
section
variable (Wr N:Nat)(d:Nat->Nat)(s:St)(w:bD)
theorem IT(n c1 c2:Nat)(a:Int)(h:bP w Wr s)(hh:KH N d s.k)(hn:n<20)(l:Kn.lv s.k n=bw)(x1:w.cell? ⟨c1,0,bu⟩=bj (aa az a))(x2:∃u,w.heap[c2]? =bj (bh #[aa bc u] 5 (0,0)))(nk:¬KB s c2):
  Calls prog 107 #[ai (bj ⟨s.A (9+n),0,bu⟩),ai (bj ⟨c1,0,bu⟩),ai (bj ⟨c2,0,bu⟩)] w λe w'=>∃E k',e=bf (bN E)/\Kn.xe a s.k n E k'/\bP w' Wr {s with k:=k'}/\(∃W,KF s w {s with k:=k'} W/\bH c2 W w')/\∃u,w'.heap[c2]? =bj (bh #[aa bc u] 5 (0,0))/\(E=0->u=Kn.yF k' n a.toNat):=by
 have hs:=hh.ki.vi.kj.lv n hn (λx=>x) (Kn.dO.1 l);obtain⟨u,hu⟩:=x2;have LD:Hid (Calls prog 108 #[ai (bj ⟨s.A (9+n),0,bu⟩),aa az a] w λe w'=>∃(v E:Int) (k':Kp),e=bf (ao #[aa bc v,bN E])/\Kn.xe a s.k n E k'/\bP w' Wr {s with k:=k'}/\KF s w {s with k:=k'} w'/\w'.heap[c2]? =w.heap[c2]? /\(E=0->v=Kn.yF k' n a.toNat)):=hZ ((MJ _ _ _ a _ _ w (h.ub hn hs) (hh.ki.vi.kj.me.Tx hn)).mono (by
  rintro _ w' ⟨E,g,m,b,rfl,t,u1,f,_⟩;have q:=h.zl hn hs u1 f;exact⟨_,E,_,rfl,⟨g,m,b,t,rfl⟩,q.1,q.2,q.2.jP (aX.1 hu).1 nk,λe=>by subst e;rw[aJ rfl];exact(Kn.QY t _).symm⟩))
 generalize s.A (9+n)=m9 at*;have H:=hZ (aK nk hu);go_in
 go_wp2_with fail
 refine LD.mono ?_;rintro e w1 ⟨v,E,k',rfl,S1⟩;have S1:=hZ S1;have hu:=S1.2.2.2.1.trans H.2;have y:w1.cell? ⟨c2,0,bu⟩=bj (aa bc u):=by rw[bS hu];rfl
 have fz:=cE hu;have FI:Hid (bP (w1.setCell ⟨c2,0,bu⟩ (aa bc v)) Wr {s with k:=k'}/\(∃W,KF s w {s with k:=k'} W/\bH c2 W (w1.setCell ⟨c2,0,bu⟩ (aa bc v)))/\∃u,(w1.setCell ⟨c2,0,bu⟩ (aa bc v)).heap[c2]? =bj (bh #[aa bc u] 5 (0,0))/\(E=0->u=Kn.yF k' n a.toNat)):=hZ (by
  have f:bH c2 w1 (w1.setCell ⟨c2,0,bu⟩ (aa bc v)):=(bH.refl _ _).setCell _ _;refine⟨S1.2.1.fresh f (S1.2.2.1.apart (aX.1 H.2).1 H.1),⟨w1,S1.2.2.1,f⟩,v,?_,S1.2.2.2.2⟩;rw[cO hu 0];rfl)
 go_wp2
 go_ret
 exact⟨E,k',rfl,S1.1,FI.v⟩
def Kn.VZ(w:bD)(s:St)(c:Nat)(V:bD)(s1:St):Prop:=KF s w s1 V/\(∃u,V.heap[c]? =bj (bh #[aa bc u] 5 (0,0)))/\¬KB s1 c
theorem K6(z a:Int)(cp:Kn.JN Wr s w)(hN:N<900)(h:bP w Wr s)(hh:KH N d s.k):
  Calls prog 47 #[ai (bj ⟨s.A 0,0,bu⟩),aa az z,aa az a] w (Kn.Nx Wr s w λv k'=>∃(u:Int) (x:Value),v=ao #[aa bc u,x]/\Kn.lG a (Kn.xe a) s.k z x k'/\(x=ay->u=Kn.yF k' z.toNat a.toNat)):=by
 have B0:=((aQ w.heap.size w).alloc (aL _) (bh #[aa az a] 3)).alloc (by simp) (bh #[aa bc 0] 5);have h0:((w.alloc (bh #[aa az a] 3)).alloc (bh #[aa bc 0] 5)).heap[w.heap.size]? =bj (bh #[aa az a] 3 (0,0)):=
  (((aQ _ _).alloc (aL _) _).block w.heap.size (by simp)).trans (heap_alloc_new _ _)
 have h1:((w.alloc (bh #[aa az a] 3)).alloc (bh #[aa bc 0] 5)).heap[w.heap.size+1]? =bj (bh #[aa bc 0] 5 (0,0)):=by
  have:=heap_alloc_new (w.alloc (bh #[aa az a] 3)) (bh #[aa bc 0] 5);rw[show(w.alloc (bh #[aa az a] 3)).heap.size=w.heap.size+1 by simp]at this;exact this
 have TO:Hid (∀W,(w.alloc (bh #[aa az a] 3)).alloc (bh #[aa bc 0] 5)=W->_):=hZ (λW e=>by
  rw[e]at B0 h0 h1;exact FJ Wr N d s W z a w.heap.size (w.heap.size+1) (Kn.xe a) (Kn.VZ w s (w.heap.size+1)) (λn W k'=>∃u,W.heap[w.heap.size+1]? =bj (bh #[aa bc u] 5 (0,0))/\u=Kn.yF k' n a.toNat) (λV n b hn l=>cp V n (B0.trans (b.mono B0.size)) hn l) hN (h.below B0) hh (λk n E k'=>by rintro⟨_,_,_,_,rfl⟩;exact Kn.G7 _ _ _ _)
   (λV s1 W s2 g f=>by
    obtain⟨g1,⟨u,g2⟩,g3⟩:=g;have l:=(aX.1 g2).1;exact⟨g1.trans f,⟨u,(f.jP l g3).trans g2⟩,f.apart l g3⟩)
   (λV s1 f=>⟨(KF.below B0).trans f,⟨0,(f.jP (aX.1 h1).1 (h.ja bB)).trans h1⟩,f.apart (aX.1 h1).1 (h.ja bB)⟩)
   (λV s1 n K F kh hn ln=>by
    have l1:=(aX.1 h1).1;have nk:=h.ja (rb:=w.heap.size+1) bB;refine(IT Wr (N+1) d s1 V n _ _ a K kh hn ln (by rw[aV (F.jP (aX.1 h0).1 (h.ja (aL _))),bS h0];rfl) ⟨0,(F.jP l1 nk).trans h1⟩ (F.apart l1 nk)).mono ?_;rintro _ w' ⟨E,k',rfl,ld,kk,⟨W2,f,fr⟩,u,hu,hb⟩;exact⟨E,k',rfl,ld,kk,⟨((KF.below B0).trans (F.trans f)).fresh fr bB,⟨u,hu⟩,f.apart (aD l1 F.ia.size) (F.apart l1 nk)⟩,λe=>⟨u,hu,hb e⟩⟩))
 generalize s.A 0=kb at*;go_in
 go_wp2_with fail
 refine(TO.v _ rfl).mono ?_;rintro e w1 ⟨x,s',rfl,t,k1,⟨g1,⟨u,hu⟩,g3⟩,pp⟩;have S1:Hid ((Kn.lG a (Kn.xe a) s.k z x s'.k/\(x=ay->u=Kn.yF s'.k z.toNat a.toNat))/\bP w1 Wr s'/\KF s w s' w1):=hZ ⟨⟨t,λe=>by
  obtain⟨u',h1,h2⟩:=pp e;rw[hu]at h1;simp at h1;rw[h1];exact h2⟩,k1,g1⟩
 have y:w1.cell? ⟨w.heap.size+1,0,bu⟩=bj (aa bc u):=by rw[bS hu];rfl
 go_wp2
 go_ret2
 exact⟨_,s',rfl,⟨u,x,rfl,S1.1.1,S1.1.2⟩,S1.2⟩
theorem I8(z a u:Int)(cp:Kn.JN Wr s w)(hN:N<900)(h:bP w Wr s)(hh:KH N d s.k):
  Calls prog 48 #[ai (bj ⟨s.A 0,0,bu⟩),aa az z,aa az a,aa bc u] w (Kn.Nx Wr s w (Kn.lG a (Kn.yz a u) s.k z)):=by
 have B0:=((aQ w.heap.size w).alloc (aL _) (bh #[aa az a] 3)).alloc (by simp) (bh #[aa bc u] 5);have h0:((w.alloc (bh #[aa az a] 3)).alloc (bh #[aa bc u] 5)).heap[w.heap.size]? =bj (bh #[aa az a] 3 (0,0)):=
  (((aQ _ _).alloc (aL _) _).block w.heap.size (by simp)).trans (heap_alloc_new _ _)
 have h1:((w.alloc (bh #[aa az a] 3)).alloc (bh #[aa bc u] 5)).heap[w.heap.size+1]? =bj (bh #[aa bc u] 5 (0,0)):=by
  have:=heap_alloc_new (w.alloc (bh #[aa az a] 3)) (bh #[aa bc u] 5);rw[show(w.alloc (bh #[aa az a] 3)).heap.size=w.heap.size+1 by simp]at this;exact this
 have TO:Hid (∀W,(w.alloc (bh #[aa az a] 3)).alloc (bh #[aa bc u] 5)=W->_):=hZ (λW e=>by
  rw[e]at B0 h0 h1;exact FL Wr N d s W z a w.heap.size (w.heap.size+1) (Kn.yz a u) (λV s1=>KF s w s1 V) (λ_ _ _=>True) (λV n b hn l=>cp V n (B0.trans (b.mono B0.size)) hn l) hN (h.below B0) hh (λk n E k'=>by rintro⟨_,_,_,_,rfl⟩;exact Kn.G7 _ _ _ _)
   (λV s1 W s2 g f=>g.trans f) (λV s1 f=>(KF.below B0).trans f)
   (λV s1 n K F kh hn ln=>by
    have hs:=kh.ki.vi.kj.lv n hn (λx=>x) (Kn.dO.1 ln);have x0:V.cell? ⟨w.heap.size,0,bu⟩=bj (aa az a):=by rw[aV (F.jP (aX.1 h0).1 (h.ja (aL _))),bS h0];rfl
    have x1:V.cell? ⟨w.heap.size+1,0,bu⟩=bj (aa bc u):=by rw[aV (F.jP (aX.1 h1).1 (h.ja (rb:=w.heap.size+1) bB)),bS h1];rfl
    have ST:Hid (Calls prog 110 #[ai (bj ⟨s1.A (9+n),0,bu⟩),aa az a,aa bc u] V λe w'=>∃E k',e=bf (bN E)/\Kn.yz a u s1.k n E k'/\bP w' Wr {s1 with k:=k'}/\KF s w {s1 with k:=k'} w'):=hZ ((JI _ _ _ a u _ _ V (K.ub hn hs) (kh.ki.vi.kj.me.Tx hn)).mono (by
     rintro _ w' ⟨E,g,m,b,rfl,t,u1,f,_⟩;have q:=K.zl hn hs u1 f;exact⟨E,_,rfl,⟨g,m,b,t,rfl⟩,q.1,(KF.below B0).trans (F.trans q.2)⟩))
    generalize s1.A (9+n)=m9 at*;generalize w.heap.size=c1 at*;go_in
    go_wp2_with fail
    refine ST.mono ?_;rintro e w1 ⟨E,k',rfl,S1⟩;have S1:=hZ S1;go_wp2
    go_ret
    exact⟨E,k',rfl,S1.1,S1.2.1,S1.2.2,λ_=>trivial⟩))
 generalize s.A 0=kb at*;go_in
 go_wp2_with fail
 refine(TO.v _ rfl).mono ?_;rintro e w1 ⟨x,s',rfl,S1⟩;have S1:=hZ S1;go_wp2
 go_ret
 exact⟨_,s',rfl,S1.1,S1.2.1,S1.2.2.1⟩
theorem Dy(hN:N<=900)(h:bP w Wr s)(hh:KH N d s.k):Kn.JN Wr s w:=λV n b hn l=>Om Wr N d s V n hN (h.below b) hh hn l

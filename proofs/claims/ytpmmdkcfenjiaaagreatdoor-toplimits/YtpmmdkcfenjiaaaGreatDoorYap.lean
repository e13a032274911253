import Derived.Test.YtpmmdkcfenjiaaaGreatDoorYao
set_option maxRecDepth 100000
set_option maxHeartbeats 4000000
set_option linter.unusedVariables false
set_option linter.unusedSimpArgs false
namespace Go.Proofs.YtpmmdkcfenjiaaaGreatDoor
open Value renaming int->aa,pointer->ai,slice->aj,string->ak,tuple->ao,iface->aq,bool->ar,agg->au,nilIface->ay
open IntKind renaming i64->az,u8->bc
open Ending renaming returned->bf
open Obj renaming cells->bh
open Option renaming some->bj,none->bu
open Bool renaming true->bw,false->bA
open Tryz (prog)
open Go.RowKit
open Tr (Fo Nd)
open Mo (Wh Mt)
open Mv (Me Bk)
open Kn (Pr Kp St us KB KJ VI EI)
variable {F G:Fo}{E c f y z:Int}{k:Kp}{m:Me}{N Wt j n:Nat}{Wy:Nat->List (Fin 10)}{d xx:Nat->Nat}{X:Nat->Prop}{s:St}{v:Value}{R:Value->Kp->Prop}{w w':bD}
theorem Ot(w:bD):
  Calls prog 32 #[] w λe w'=>∃(s:St) (m:Wf.M),e=bf (ai (bj ⟨s.A 0,0,bu⟩))/\s.k=Kn.kN m/\Wf.jb (Wf.dH Wf.m0 ((0:Nat):Int) 0) ((0:Nat):Int) bw m/\bO w' w.heap.size s/\Below w.heap.size w w':=by
 obtain⟨Wt,hbs⟩:=hU (w.heap.size);have HB:Hid (Wt<=w.heap.size):=hJ bB;have HBS:=hJ hbs;clear hbs;go_in
 go_wp2_with fail
 refine sC (sA _) ?_;rintro w1 ⟨t1,b1,l1⟩;have S1:=hJ (aK t1 (aK b1 l1));clear t1 b1 l1;go_wp2_with fail
 refine sC (Gr.sA _) ?_;rintro w2 ⟨t2,b2⟩;have S2:=hJ (aK t2 b2);clear t2 b2;go_wp2_with fail
 refine sC (Wf.sA _) ?_;rintro w3 ⟨t3,b3,l3⟩;have S3:=hJ (aK t3 (aK b3 l3));clear t3 b3 l3;go_wp2_with fail
 refine(E5 _).mono ?_;rintro e w4 ⟨a4,rfl,t4,b4,l4⟩;have S4:=hJ (aK t4 (aK b4 l4));clear t4 b4 l4;go_wp2_with fail
 refine sC (Px _) ?_;rintro w5 ⟨t5,b5⟩;have S5:=hJ (aK t5 b5);clear t5 b5;have F7:Hid (NW w (w5.heap.size+1) w.heap.size w1.heap.size w2.heap.size a4 w3.heap.size w4.heap.size w5.heap.size ((w5.alloc (bh Pp.zA 122)).alloc (bh (oH (rQ w.heap.size w1.heap.size w2.heap.size a4 w4.heap.size w5.heap.size)) 86))):=hJ (by
  obtain⟨p6,c6⟩:=Gb w5;have z6:(w5.alloc (bh Pp.zA 122)).heap.size=w5.heap.size+1:=by simp
  have c7:Below (w5.alloc (bh Pp.zA 122)).heap.size (w5.alloc (bh Pp.zA 122)) ((w5.alloc (bh Pp.zA 122)).alloc (bh (oH (rQ w.heap.size w1.heap.size w2.heap.size a4 w4.heap.size w5.heap.size)) 86)):=(aQ _ _).alloc (aL _) _;have N:=heap_alloc_new (w5.alloc (bh Pp.zA 122)) (bh (oH (rQ w.heap.size w1.heap.size w2.heap.size a4 w4.heap.size w5.heap.size)) 86);rw[z6]at N;have e5:=c6.trans (c7.mono bB);have e4:=S5.2.trans (e5.mono S5.2.size);have e3:=S4.2.1.trans (e4.mono S4.2.1.size);have e2:=S3.2.1.trans (e3.mono S3.2.1.size);have e1:=S2.2.trans (e2.mono S2.2.size);have e0:=S1.2.1.trans (e1.mono S1.2.1.size);have g2:=S2.1.lt;have g3:=S3.2.2;have g4:=S4.2.2;have g4':=S4.1.lt;have g5:=S5.1.lt;exact⟨S1.1.same (e1.block _ S1.2.2),(e2.block _ g2).trans S2.1,S3.1.same (e3.block _ g3),S4.1.same (e4.block _ g4') (e4.block _ S4.1.DQ),S5.1.same (e5.block _ g5),p6.same (c7.block _ bB),N,e0,rfl,S1.2.2,g2,g3,g4,g4',g5,bB⟩)
 obtain⟨a1,h1⟩:=hU (w.heap.size);obtain⟨a2,h2⟩:=hU (w1.heap.size);obtain⟨a3,h3⟩:=hU (w2.heap.size);obtain⟨a5,h5⟩:=hU (w3.heap.size);obtain⟨a6,h6⟩:=hU (w4.heap.size);have H1:=hJ h1;rw[h1,h2,h3,h5,h6]at F7;rw[h1,h2,h3,h6];obtain⟨KA,hKA⟩:=hU (oH (rQ a1 a2 a3 a4 a6 w5.heap.size));have HKA:=hJ hKA;rw[hKA]at F7;clear S1 S2 S3 S4 S5 h1 h2 h3 h5 h6;go_upto_region 2 with(first|(refine Pp.M4 rfl rfl ?_)|(refine JG a1 a2 a3 a4 a6 w5.heap.size rfl rfl rfl rfl rfl rfl rfl rfl ?_;rw[hKA]))
 obtain⟨a7,h7⟩:=hU (w5.heap.size);obtain⟨a0,h0⟩:=hU (w5.heap.size+1);generalize (w5.alloc (bh Pp.zA 122)).alloc (bh KA 86)=W7 at F7|-;rw[h0]at F7|-;rw[h7]at F7|-;clear hKA HKA h7 h0;have K0:Hid (W7.cell? ⟨a0,250,bu⟩=bj (ai (bj ⟨a6,0,bu⟩))/\W7.cell? ⟨a0,251,bu⟩=bj (ai (bj ⟨a7,0,bu⟩))):=hJ ⟨F7.cell 250 bB,F7.cell 251 bB⟩;have XN:=hJ (PN a6 a7 W7.drew);obtain⟨a8,h8⟩:=hU (W7.heap.size);have hd8:W7.drew.heap.size=a8:=h8;have H8:=hJ h8;rw[hd8]at XN;have FIN:Hid (∀w8,eG w8 a8 a6 a7 Fx.gB->Below a8 W7.drew w8->(bO (w8.setCell ⟨a0,252,bu⟩ (ai (bj ⟨a8,0,bu⟩))) Wt ⟨mV a0 a1 a2 a3 a4 a5 a6 a7 a8,λ_=>aj bu 0 0,Kn.oz⟩/\Below w.heap.size w (w8.setCell ⟨a0,252,bu⟩ (ai (bj ⟨a8,0,bu⟩))))/\(w8.cell? ⟨a0,250,bu⟩=bj (ai (bj ⟨a6,0,bu⟩))/\w8.cell? ⟨a0,251,bu⟩=bj (ai (bj ⟨a7,0,bu⟩)))/\((w8.setCell ⟨a0,252,bu⟩ (ai (bj ⟨a8,0,bu⟩))).cell? ⟨a0,250,bu⟩=bj (ai (bj ⟨a6,0,bu⟩))/\(w8.setCell ⟨a0,252,bu⟩ (ai (bj ⟨a8,0,bu⟩))).cell? ⟨a0,251,bu⟩=bj (ai (bj ⟨a7,0,bu⟩)))/\(∃v,w8.cell? ⟨a0,252,bu⟩=bj v)/\∀o,w8.frozen? ⟨a0,o,bu⟩=bA):=hJ (λw8 xa bl=>by
  have bl':Below W7.heap.size W7 w8:=by rw[H8.v];exact⟨bl.os,bl.tape,bl.output,by have:=bl.size;exact this,bl.block⟩
  have q:=F7.Wc HB.v H8.v xa bl';have ke:w8.heap[a0]? =bj (bh (oH (rQ a1 a2 a3 a4 a6 a7)) 86 (0,0)):=(bl'.block _ F7.lt).trans F7.ke;have c:∀o,w8.cell? ⟨a0,o,bu⟩=W7.cell? ⟨a0,o,bu⟩:=λo=>aV (bl'.block _ F7.lt);refine⟨q,by rw[c,c];exact K0.v,⟨by rw[dm ke _ _ _ bB,c];exact K0.1,by rw[dm ke _ _ _ bB,c];exact K0.2⟩,⟨_,by rw[c];exact F7.cell 252 bB⟩,λo=>cE ke o⟩)
 clear h8 hd8;obtain⟨y1,y2⟩:=K0.v;go_region_held3 (λw'=>w'.cell? ⟨a0,250,bu⟩=bj (ai (bj ⟨a6,0,bu⟩))/\w'.cell? ⟨a0,251,bu⟩=bj (ai (bj ⟨a7,0,bu⟩))) (first|exact K0.v|exact S8.2.1|exact S8.2.2.1) (
  (go_at_call 88;refine sC XN.v ?_;rintro w8 ⟨xa,bl⟩;have S8:=hJ (FIN.v w8 xa bl);clear xa bl;have cy:=S8.2.2.2.1;obtain⟨vy,cy⟩:=cy;have fz:=S8.2.2.2.2))
 have S9:=hJ S8.1;clear FIN K0 XN y1 y2 cy fz;generalize w8.setCell ⟨a0,252,bu⟩ (ai (bj ⟨a8,0,bu⟩))=W9 at*;clear S8;have AA:Hid (mV a0 a1 a2 a3 a4 a5 a6 a7 a8 0=a0/\mV a0 a1 a2 a3 a4 a5 a6 a7 a8 2=a2/\mV a0 a1 a2 a3 a4 a5 a6 a7 a8 4=a4/\mV a0 a1 a2 a3 a4 a5 a6 a7 a8 6=a6):=hJ ⟨rfl,rfl,rfl,rfl⟩;generalize mV a0 a1 a2 a3 a4 a5 a6 a7 a8=A at S9 AA;have c250:=S9.1.wJ;rw[show(⟨A,λ_=>aj bu 0 0,Kn.oz⟩:St).A 0=a0 from AA.1,show(⟨A,λ_=>aj bu 0 0,Kn.oz⟩:St).A 6=a6 from AA.2.2.2]at c250;have PL:Hid (Calls prog 89 #[ai (bj ⟨a6,0,bu⟩)] W9 λe w'=>∃v,e=bf v/\bO w' Wt ⟨A,λ_=>aj bu 0 0,{Kn.oz with fo:=Tr.g1}⟩/\Below w.heap.size w w'):=hJ (by
  have fo:bS W9 (A 6) Tr.f0:=S9.1.fo;have q:=zs (A 6) Tr.f0 W9 fo bE;rw[AA.2.2.2]at q;refine q.mono ?_;rintro e w' ⟨T,E,G,rfl,hp,h2,k2⟩;obtain⟨rfl,rfl,rfl⟩:=Tr.LU hp;rw[<-AA.2.2.2]at h2 k2;have q2:=S9.1.Cv h2 k2;exact⟨_,rfl,q2.1,k2.below S9.2 (by rw[HBS.v];exact S9.1.low 6 cv) S9.2.size⟩)
 go_wp2_with fail
 refine PL.mono ?_;rintro e w10 ⟨v10,rfl,k10,b10⟩;have S10:=hJ (aK k10 b10);clear k10 b10 PL c250 S9;go_upto_region 4 with fail
 have K0:Hid (w10.cell? ⟨a0,250,bu⟩=bj (ai (bj ⟨a6,0,bu⟩))):=hJ (by
  have q:=S10.1.wJ;rw[show(⟨A,λ_=>aj bu 0 0,{Kn.oz with fo:=Tr.g1}⟩:St).A 0=a0 from AA.1,show(⟨A,λ_=>aj bu 0 0,{Kn.oz with fo:=Tr.g1}⟩:St).A 6=a6 from AA.2.2.2]at q;exact q)
 have MN:Hid (Calls prog 90 #[ai (bj ⟨a6,0,bu⟩),aa az 0] w10.drew λe w'=>∃b,e=bf (ao #[ai (bj ⟨b,0,bu⟩),ay])/\bO (w'.setCell ⟨a0,240,bu⟩ (ai (bj ⟨b,0,bu⟩))) Wt (Kn.iA ⟨A,λ_=>aj bu 0 0,{Kn.oz with fo:=Tr.dP Tr.g1 ((0:Nat):Int)}⟩ 0 b (aj bu 0 0) Kn.pJ)/\Below w.heap.size w (w'.setCell ⟨a0,240,bu⟩ (ai (bj ⟨b,0,bu⟩)))/\w'.cell? ⟨a0,250,bu⟩=bj (ai (bj ⟨a6,0,bu⟩))/\(w'.setCell ⟨a0,240,bu⟩ (ai (bj ⟨b,0,bu⟩))).cell? ⟨a0,250,bu⟩=bj (ai (bj ⟨a6,0,bu⟩))/\(∃v,w'.cell? ⟨a0,240,bu⟩=bj v)/\∀o,w'.frozen? ⟨a0,o,bu⟩=bA):=hJ (by
  have fo:bS w10.drew (A 6) Tr.g1:=S10.1.drew.fo;have q:=RY (A 6) 0 Tr.g1 0 w10.drew fo (by rfl) (λn hn=>by rw[Kn.P9.hd n hn];exact aL 0) bB;rw[AA.2.2.2]at q;refine q.mono ?_;rintro e w' ⟨b,rfl,lb,tt,h2,k2⟩;rw[<-AA.2.2.2]at h2 k2;have q2:=S10.1.drew.Cv h2 k2;have lt:∀i,us ⟨A,λ_=>aj bu 0 0,{Kn.oz with fo:=Tr.g1}⟩ i->A i<b:=λi hi=>aD (S10.1.lt hi) lb;have tt0:=tt Wt;rw[<-AA.2.2.2]at tt0;have q3:=q2.1.Qh (y:=0) (c:=b) bB (v:=aj bu 0 0) (T:=Kn.pJ) tt0 (λi hi=>by have:=lt i hi;show A i≠b;omega) (λg eg=>by cases eg) (by have:=S10.2.size;have:=HBS.v;have e1:w10.heap.size<=b:=lb;omega);have e0:A 0=a0:=AA.1;rw[show(⟨A,λ_=>aj bu 0 0,{Kn.oz with fo:=Tr.dP Tr.g1 ((Tr.fR Tr.g1 0:Nat):Int)}⟩:St).A 0=a0 from e0]at q3;have b2:Below w.heap.size w w':=k2.below S10.2.drew (by rw[HBS.v];exact S10.1.low 6 cv) S10.2.size;obtain⟨C,ke,_⟩:=q2.1.mT;have ke':w'.heap[a0]? =bj (bh C 86 (0,0)):=by rw[<-e0];exact ke
  have l0:w.heap.size<=a0:=by rw[HBS.v,<-e0];exact S10.1.low 0 cv
  have q4:w'.cell? ⟨a0,250,bu⟩=bj (ai (bj ⟨a6,0,bu⟩)):=by have:=q2.1.wJ;rw[<-e0,<-AA.2.2.2];exact this
  refine⟨b,rfl,q3.1,q3.2.below b2 l0 b2.size,q4,by rw[dm ke' _ _ _ bB];exact q4,?_,λo=>cE ke' o⟩;have:=q2.1.eE 240 bB;rw[<-e0];exact⟨_,this⟩)
 have y1:=K0.v;go_region_held3 (λw'=>w'.cell? ⟨a0,250,bu⟩=bj (ai (bj ⟨a6,0,bu⟩))) (first|exact K0.v|exact S11.2.2.1|exact S11.2.2.2.1) (
  (go_at_call 90;refine MN.mono ?_;rintro e w11 ⟨tb,rfl,q1,q2,q3,q4,q5,q6⟩;have S11:=hJ (aK q1 (aK q2 (aK q3 (aK q4 (aK q5 q6)))));clear q1 q2 q3 q4 q5 q6;have cy:=S11.2.2.2.2.1;obtain⟨vy,cy⟩:=cy;have fz:=S11.2.2.2.2.2))
 have S12:=hJ (aK S11.1 S11.2.1);clear K0 MN y1 cy fz S10;generalize w11.setCell ⟨a0,240,bu⟩ (ai (bj ⟨tb,0,bu⟩))=W12 at*;clear S11;have EO:Hid ((Kn.iA ⟨A,λ_=>aj bu 0 0,{Kn.oz with fo:=Tr.dP Tr.g1 ((0:Nat):Int)}⟩ 0 tb (aj bu 0 0) Kn.pJ).A 0=a0/\(Kn.iA ⟨A,λ_=>aj bu 0 0,{Kn.oz with fo:=Tr.dP Tr.g1 ((0:Nat):Int)}⟩ 0 tb (aj bu 0 0) Kn.pJ).A 2=a2/\(Kn.iA ⟨A,λ_=>aj bu 0 0,{Kn.oz with fo:=Tr.dP Tr.g1 ((0:Nat):Int)}⟩ 0 tb (aj bu 0 0) Kn.pJ).A 4=a4/\({(Kn.iA ⟨A,λ_=>aj bu 0 0,{Kn.oz with fo:=Tr.dP Tr.g1 ((0:Nat):Int)}⟩ 0 tb (aj bu 0 0) Kn.pJ).k with gr:=Gr.eR Gr.t0 Gr.W0 0 1 0}:Kp)=Kn.lP):=hJ (by
  refine⟨(Kn.fU _ _ _ _ _ bB bB).trans AA.1,(Kn.fU _ _ _ _ _ bB bB).trans AA.2.1,(Kn.fU _ _ _ _ _ bB bB).trans AA.2.2.1,?_⟩;have tbe:(λi=>if i=0 then Kn.pJ else Kn.pJ)=λ_:Nat=>Kn.pJ:=funext λi=>by split<;>rfl
  show(⟨λ_=>Pr.no,λi=>if i=0 then bw else bA,λi=>if i=0 then Kn.pJ else Kn.pJ,Sp.t0,Gr.eR Gr.t0 Gr.W0 0 1 0,Wf.m0,Mv.CV,Tr.dP Tr.g1 ((0:Nat):Int),Pp.gB,Fx.gB⟩:Kp)=_;rw[tbe];rfl)
 have GRK:Hid ((Kn.iA ⟨A,λ_=>aj bu 0 0,{Kn.oz with fo:=Tr.dP Tr.g1 ((0:Nat):Int)}⟩ 0 tb (aj bu 0 0) Kn.pJ).k.gr=Gr.t0):=hJ rfl;generalize Kn.iA ⟨A,λ_=>aj bu 0 0,{Kn.oz with fo:=Tr.dP Tr.g1 ((0:Nat):Int)}⟩ 0 tb (aj bu 0 0) Kn.pJ=s1 at*;have c247:=S12.1.pA;rw[EO.1,EO.2.1]at c247;have CG:Hid (Calls prog 65 #[ai (bj ⟨a2,0,bu⟩),aa az 0,aa az 1,aa az 0] W12 λe w'=>∃v,e=bf v/\bO w' Wt {s1 with k:=Kn.lP}/\Below w.heap.size w w'):=hJ (by
  have gt:=S12.1.gr;rw[GRK.v]at gt;have q:=Gr.nV (s1.A 2) 0 1 0 Gr.t0 Gr.W0 W12 gt Gr.zt.ways (Gr.zt.small bB);rw[EO.2.1]at q;refine sC q ?_;rintro w' ⟨t4,f4⟩;rw[<-EO.2.1]at t4 f4;have q2:=S12.1.ks t4 f4.sK;rw[EO.2.2.2]at q2;exact⟨_,rfl,q2.1,f4.sK.below S12.2 (by rw[HBS.v];exact S12.1.low 2 cv) S12.2.size⟩)
 go_wp2_with fail
 refine CG.mono ?_;rintro e w13 ⟨v13,rfl,k13,b13⟩;have S13:=hJ (aK k13 b13);clear k13 b13 CG c247 S12 GRK;have FP:Hid (Calls prog 91 #[ai (bj ⟨a0,0,bu⟩)] w13 λe w'=>∃mb bb,e=bf (au (dZ mb bb (Kn.gY 6)))/\dj w' mb a4 Mv.lR/\CX w' bb Sg.gB/\Below w13.heap.size w13 w'/\w13.heap.size<=mb/\w13.heap.size<=bb/\mb≠bb):=hJ (IN a0 a4 w13 (by have:=S13.1.V8;rw[show({s1 with k:=Kn.lP}:St).A 0=a0 from EO.1,show({s1 with k:=Kn.lP}:St).A 4=a4 from EO.2.2.1]at this;exact this) (by have:=S13.1.lt (cv (i:=0) bB);rw[show({s1 with k:=Kn.lP}:St).A 0=a0 from EO.1]at this;exact this));go_wp2_with fail
 refine FP.mono ?_;rintro e w14 ⟨mb,bb,rfl,um,ub,bl,lm,lb,mn⟩;have S14:Hid (bO w14 Wt {s1 with k:=Kn.lP}/\Below w.heap.size w w14):=hJ ⟨S13.1.below bl,S13.2.trans (bl.mono S13.2.size)⟩;have lt:∀i,us {s1 with k:=Kn.lP} i->s1.A i<w13.heap.size:=λi hi=>S13.1.lt hi;have bs:=S13.2.size;have ST0:=yX Wt {s1 with k:=Kn.lP} w14 0 mb bb (Kn.gY 6) ((0:Nat):Int) (λ_=>1) S14.1 bB Sp.xz (by rw[show({s1 with k:=Kn.lP}:St).A 4=a4 from EO.2.2.1];exact um) ub (λi hi=>by have:=lt i hi;show s1.A i≠mb;omega) (λi hi=>by have:=lt i hi;show s1.A i≠bb;omega) mn (by have:=HBS.v;omega) (by have:=HBS.v;omega);rw[show({s1 with k:=Kn.lP}:St).A 0=a0 from EO.1]at ST0;obtain⟨PA,hPA⟩:=hU (dZ mb bb (Kn.gY 6));rw[hPA]at ST0|-;have ST:Hid (Calls prog 68 #[ai (bj ⟨a0,0,bu⟩),aa az 0,au PA,aa az 0] w14 λe w'=>∃m',e=bf (ao #[])/\Wf.jb (Wf.dH Wf.m0 ((0:Nat):Int) 0) ((0:Nat):Int) bw m'/\bO w' Wt {Kn.ed {s1 with k:=Kn.lP} 0 mb bb (Kn.gY 6)with k:=Kn.kN m'}/\dS (KB {s1 with k:=Kn.lP}) w14 w'):=hJ ST0;clear ST0 um ub bl lm lb mn lt bs hPA FP;go_wp2_with fail
 refine ST.mono ?_;rintro e w15 ⟨m',rfl,wk,k15,o15⟩;have S15:Hid (Wf.jb (Wf.dH Wf.m0 ((0:Nat):Int) 0) ((0:Nat):Int) bw m'/\bO w15 Wt {Kn.ed {s1 with k:=Kn.lP} 0 mb bb (Kn.gY 6)with k:=Kn.kN m'}/\Below w.heap.size w w15):=hJ ⟨wk,k15,o15.behind S14.2 (λb hb=>by rw[HBS.v];exact S14.1.TZ hb) S14.2.size⟩;clear wk k15 o15 ST;go_wp2
 go_ret
 refine⟨{Kn.ed {s1 with k:=Kn.lP} 0 mb bb (Kn.gY 6)with k:=Kn.kN m'},m',?_,rfl,S15.1,by rw[HBS.v];exact S15.2.1,S15.2.2⟩;rw[show({Kn.ed {s1 with k:=Kn.lP} 0 mb bb (Kn.gY 6)with k:=Kn.kN m'}:St).A 0=a0 from(Kn.fa {s1 with k:=Kn.lP} 0 mb bb (Kn.gY 6) (i:=0) bB bB).trans EO.1];rfl
open Kn (Pr Kp St us KB KJ VI EI KH)
namespace Kn
theorem Ix{m1 m2:Wf.M}{r:Int}(k:Wf.jb (Wf.dH Wf.m0 ((0:Nat):Int) 0) ((0:Nat):Int) bw m1)(t:Wf.zU m1 r m2):r=0:=by
 unfold Wf.jb at k;subst k;have h:∀n,n<20->(Wf.dH Wf.m0 ((0:Nat):Int) 0).here (10+n)=decide (n=0):=by decide
 rcases t.2 with⟨_,q⟩|⟨n,rfl,hn,e⟩
 .exact aZ ⟨rfl,rfl⟩ q
 .have e2:(Wf.dH Wf.m0 ((0:Nat):Int) 0).here (10+n)=bw:=e;rw[h n hn]at e2;simpa using e2
theorem KH.tick(h:KH N d k)(m:Wf.M):KH (N+1) d {k with sc:=m}:=by
 have kj:KJ (λ_=>False) (N+1) {k with sc:=m}:=(h.ki.vi.kj.mono (λ_ _ e=>e) (Nat.le_succ N)).lH m;exact⟨⟨⟨kj,h.ki.vi.iv,h.ki.vi.hs⟩,h.ki.fi,h.ki.pr,h.ki.h0⟩,λj hj j0 s=>by
  obtain⟨q,a⟩:=h.pp j hj j0 s;exact⟨q,a.ic,a.qm,a.pq,a.lq,a.oq⟩,h.l0,h.p0,h.ge⟩
end Kn
section
variable (Wt:Nat)(s:St)(w:bD)
theorem Bu(h:bO w Wt s):
  Calls prog 37 #[ai (bj ⟨s.A 0,0,bu⟩)] w λe w'=>∃(r:Int) (m:Wf.M),e=bf (aa az r)/\Wf.zU s.k.sc r m/\bO w' Wt {s with k:={s.k with sc:=m}}/\KF s w {s with k:={s.k with sc:=m}} w':=by
 have c8:=h.wM;have TK:=hJ (Wf.Pt (s.A 3) s.k.sc w h.sc);have H:=hJ h;obtain⟨a3,h3⟩:=hU (s.A 3);have H3:=hJ h3;rw[h3]at c8 TK;generalize s.A 0=kb at*;go_in
 go_wp2_with fail
 refine TK.mono ?_;rintro e w1 ⟨r,m,rfl,t,u,f⟩;have S1:Hid (Wf.zU s.k.sc r m/\bO w1 Wt {s with k:={s.k with sc:=m}}/\KF s w {s with k:={s.k with sc:=m}} w1):=hJ (by
  rw[<-H3.v]at u f;exact⟨t,H.lH u f⟩)
 go_wp2
 go_ret
 exact⟨r,m,rfl,S1.v⟩
end
def Kn.Be(k:Kp):Prop:=∃m m',k={Kn.kN m with sc:=m'}
theorem Kn.Be.p{k:Kp}(h:Kn.Be k):k.p 0=Kn.gY 6/\(∀j,j≠0->k.p j=Pr.no)/\k.sp=Sp.fM Sp.t0 ((0:Nat):Int) ((0:Nat):Int):=by
 obtain⟨m,m',rfl⟩:=h;exact⟨Kn.bM Kn.lP 0 (Kn.gY 6),λj q=>Kn.bP Kn.lP 0 j (Kn.gY 6) q,rfl⟩
theorem Kn.Be.live(h:Kn.Be k):Kn.dY k 20=[0]:=by
 have e:Kn.lv k=λn=>decide (n=0):=funext λn=>by
  unfold Kn.lv;by_cases c:n=0
  .rw[c,h.p.1];rfl
  .rw[h.p.2.1 n c];simp[c];exact λq=>by cases q
 unfold Kn.dY;rw[e];rfl
theorem Rf(a:Option Addr)(n c:Nat)(m:Int)(w:bD)(hn:m<(n:Int)):
  Calls prog 10 #[aj a n c,aa az m] w λe w'=>e=bf (ar bA)/\w'=w:=by
 have d:decide ((n:Int)<=m)=bA:=by simp;omega
 go_in
 go_wp2_with fail
 refine sC (Bv _ _ _ _ _) ?_;rintro w1 hw;subst w1;rw[d];go_wp2
 go_ret
 exact⟨rfl,rfl⟩
theorem wT(E:Int)(w:bD):Calls prog 23 #[bN E] w λe w'=>e=bf (aa az E)/\w'=w:=by
 by_cases c:E=0
 .subst c;rw[bF];go_in
  go_wp2
  go_ret
  exact⟨rfl,rfl⟩
 .rw[bH c];have ha:=QL E;go_in
  go_wp2
  go_ret
  exact⟨rfl,rfl⟩
namespace Kn
theorem xY{t:Nat->Gr.Gp}{Wy0:Nat->List (Fin 10)}{c:Nat}(h:Gr.Tree t Wy0 c)(w:Gr.dC t Wy):Gr.Tree t Wy c:=
 ⟨w,λk hk=>by
  have l:=congrArg List.length ((w k hk).unique (h.ways k hk));unfold Gr.gq at l;simp only[List.length_map]at l;rw[l];exact h.deep k hk,h.root,h.par,h.own⟩
theorem nu(a:cD k (n:Int)=0):lv k n=bw:=by
 obtain⟨n',e,_,l⟩:=fL a;obtain rfl:n=n':=bB
 exact l
section
variable {N:Nat}{d:Nat->Nat}{k k':Kp}
theorem KH.more(h:KH N d k){M:Nat}(hM:N<=M):KH M d k:=h.gr hM (by obtain⟨Wy,g⟩:=h.ki.vi.kj.gr;exact⟨Wy,g.mono hM⟩)
theorem KH.fork(h:KH N d k){own:Bool}{p:Nat}(f:pX k z own p E k'):∃d',KH (N+2) d' k':=by
 rcases f with⟨_,_,_,rfl⟩|⟨a,n,c,F,Wy,rfl,hn,fr,ways,f⟩
 .exact⟨d,h.more bB⟩
 .have l:Kn.lv k n=bw:=nu a;obtain⟨Wy0,g0⟩:=h.ki.vi.kj.gr;have g1:Gr.Tree k.gr Wy N:=xY g0 ways;have kc:KH (N+1) d (cZ k Wy n):=h.gr (Nat.le_succ N) ⟨Wy,qw g1 _ _ _ bB (by have:=YtpmmdkcfenjiaaaGreatDoor.mr (k.p n).mem 16;omega)⟩;rcases f with⟨_,_,_,rfl⟩|⟨_,_,_,_,rfl⟩|⟨_,_,_,_,_,rfl⟩|⟨f0,ch,hm,_,m',wk,rfl,_⟩
  .exact⟨d,h.more bB⟩
  .exact⟨d,h.more bB⟩
  .obtain⟨Wy2,g2⟩:=kc.ki.vi.kj.gr;exact⟨d,(kc.gr (aL _) ⟨Wy2,oP g2 _ _ _⟩).more bB⟩
  .have lC:c<20/\(k.p c).st=0:=by
    rcases fr with q|q
    .exact⟨q.2.1,q.2.2.1⟩
    .omega
   obtain⟨y,oy⟩:=h.of hn (by rw[dL.1 l];omega);have y6:=(h.ki.vi.iv.dc hn oy).2;have iz:Sp.dX (cZ k Wy n).sp (n:Int)=y:=Sp.iB hn oy;cases own
   .have e:=Ak (cZ k Wy n) n;have en:nj (cZ k Wy n) n bA=y:=iz;rw[e.1]at wk|-;rw[en];exact⟨d,kc.born (k2:=cZ k Wy n) kc.ki.vi.kj kc.ki.vi.iv rfl rfl rfl hn l lC.1 lC.2 y6.1 y6.2 oy (.inl ⟨rfl,λ_ _ e=>e⟩) wk⟩
   .have ea:Sp.iY (cZ k Wy n).sp (y:Int)=0:=by unfold jL at hm;rw[aJ rfl,iz]at hm;exact hm
    obtain⟨z',ez,z6,zh,wl,f6,fh,fl⟩:=Sp.po ea;obtain⟨e1,e2,_⟩:=xv iz ea rfl;have es:=Sp.add_eq ea;rw[e1]at wk|-;rw[e2];have kj2:=kc.ki.vi.kj.LH ea rfl;obtain⟨d2,iv2⟩:=kj2.sp;refine⟨d2,kc.born (k2:=Ay (cZ k Wy n) y (Sp.fK (cZ k Wy n).sp)) kj2 iv2 rfl ?_ ?_ hn l lC.1 lC.2 f6 ?_ oy (.inr ⟨?_,?_,fh,?_⟩) wk⟩
    .show(Sp.ga (cZ k Wy n).sp (y:Int)).of=_;rw[es]
    .show(Sp.ga (cZ k Wy n).sp (y:Int)).b7=_;rw[es]
    .show(Sp.ga (cZ k Wy n).sp (y:Int)).here _=bw;rw[es];exact aJ rfl
    .intro e;rw[e]at fh;rw[show(cZ k Wy n).sp.here y=bw from y6.2]at fh;cases fh
    .show(Sp.ga (cZ k Wy n).sp (y:Int)).par _=_;rw[es];exact aJ rfl
    .intro s s6 sh;have sh2:(Sp.ga (cZ k Wy n).sp (y:Int)).here s=bw:=sh;rw[es]at sh2;have sh3:(if s=Sp.fK (cZ k Wy n).sp then bw else(cZ k Wy n).sp.here s)=bw:=sh2;by_cases c:s=Sp.fK (cZ k Wy n).sp
     .exact .inl c
     .rw[aI c]at sh3;exact .inr sh3
theorem KH.exit(h:KH N d k)(e:qX k z c k'):KH N d k':=by
 rcases e with⟨_,rfl⟩|⟨_,n,y,q,rfl,hn,n0,l,oy,_,_,hp,et⟩
 .exact h
 .exact h.end hn n0 l oy hp et
theorem KH.Tp(h:KH N d k){m:Nat}(hn:n<20)(l:Kn.lv k n=bw)(hm:m∈iU k n):m<20/\m≠0/\(k.p m).par=(n:Int)/\(k.p m).st≠0/\∃y,k.sp.of n=y+1/\Sp.mem k.sp y m:=by
 obtain⟨y,oy⟩:=h.of hn (by rw[dL.1 l];omega);have y6:=(h.ki.vi.iv.dc hn oy).2;have p:=vW m hm;have a:=hm;unfold iU jo at a;rw[Sp.iB hn oy]at a;have b:=Sp.Bz h.ki.vi.iv y6.1 y6.2 (bX.1 a).1;exact⟨b.1,λe=>by rw[e,h.p0]at p;omega,p,(h.ki.vi.kj.of m b.1).1 (h.ki.vi.iv.mem_of y6.1 b.1 b.2).1,y,oy,b.2⟩
theorem KH.wait(h:KH N d k){p:Nat}(w:yC k z p c E k'):KH N d k':=by
 rcases w with⟨_,_,_,_,rfl⟩|⟨a,n,rfl,hn,w⟩
 .exact h
 .rcases w with⟨_,_,_,_,rfl⟩|⟨_,_,_,_,_,rfl⟩|⟨_,i,m,hi,lm,_,_,_,v⟩
  .exact h
  .exact h
  .have l:Kn.lv k n=bw:=nu a;obtain⟨m20,m0,_,ms,_,_⟩:=h.Tp hn l (bK hi);obtain⟨x,ox⟩:=h.of m20 ms;have m2:(k.p m).st=2:=by
    have:=h.ki.vi.kj.st m m20;have:(k.p m).st≠1:=λe=>by rw[dL.2 e]at lm;cases lm
    omega
   exact(h.MH m20 m0 m2 ox v).1
end
end Kn
def Kn.fB(k:Kp)(z f:Int):Int:=if Kn.cD k z=0 then(if f<0\/6<=f then 1 else if(k.p z.toNat).fd f.toNat= -1 then 2 else 0)else Kn.cD k z
theorem Kn.sD(h:Kn.fB k z f=0):∃n g:Nat,z=n/\f=g/\n<20/\g<6/\Kn.lv k n=bw/\(k.p n).fd g≠ -1:=by
 unfold Kn.fB at h;by_cases a:Kn.cD k z=0
 .rw[aJ a]at h;obtain⟨n,rfl,hn,l⟩:=Kn.fL a;by_cases c:f<0\/6<=f
  .rw[aJ c]at h;omega
  .rw[aI c,hZ]at h;obtain⟨g,rfl⟩:=aG (show 0<=f by omega);rw[hZ]at h;by_cases e:(k.p n).fd g= -1
   .rw[aJ e]at h;omega
   .exact⟨n,g,rfl,rfl,hn,bB,l,e⟩
 .rw[aI a]at h;exact aZ h a
def tB(b:Nat)(z f E:Int):Value:=if E=0 then ai (bj ⟨b,z.toNat*12+6+f.toNat,bu⟩)else ai bu
theorem qi(b n g:Nat):tB b (n:Int) (g:Int) 0=ai (bj ⟨b,n*12+6+g,bu⟩):=by unfold tB;rw[aJ rfl,hZ,hZ]
theorem Av{b:Nat}(h:E≠0):tB b z f E=ai none:=aI h
section
variable (Wt:Nat)(s:St)(w:bD)
theorem pD(z f:Int)(h:bO w Wt s):
  Calls prog 76 #[ai (bj ⟨s.A 0,0,bu⟩),aa az z,aa az f] w λe w'=>e=bf (ao #[tB (s.A 0) z f (Kn.fB s.k z f),bN (Kn.fB s.k z f)])/\w'=w:=by
 have AC:=hJ (dG Wt s w z h);by_cases a:Kn.cD s.k z=0
 .obtain⟨n,rfl,hn,hl⟩:=Kn.fL a;rw[a,bF,gC]at AC;by_cases c:f<0\/6<=f
  .have E:Hid (Kn.fB s.k (n:Int) f=1):=hJ (by unfold Kn.fB;rw[aJ a,aJ c]);rw[E.v,Av bE,bH bE];generalize s.A 0=kb at*;by_cases c1:f<0
   .clear c;go_in
    go_wp2_with fail
    refine sC AC.v ?_;rintro w1 hw;subst w1;go_wp2
    go_ret2
    exact⟨rfl,rfl⟩
   .have c2:6<=f:=bB
    go_in
    go_wp2_with fail
    refine sC AC.v ?_;rintro w1 hw;subst w1;go_wp2
    go_ret2
    exact⟨rfl,rfl⟩
  .obtain⟨g,rfl⟩:=aG (show 0<=f by omega);have hg:g<6:=bB
   have hgI:(g:Int)<6:=bB
   have cf:=h.qt n g hn hg;by_cases e1:(s.k.p n).fd g= -1
   .have E:Hid (Kn.fB s.k (n:Int) (g:Int)=2):=hJ (by unfold Kn.fB;rw[aJ a,aI c,hZ,hZ,aJ e1]);rw[E.v,Av bE,bH bE];rw[e1]at cf;generalize s.A 0=kb at*;go_in
    go_wp2_with fail
    refine sC AC.v ?_;rintro w1 hw;subst w1;go_wp2
    go_ret2
    exact⟨rfl,rfl⟩
   .have E:Hid (Kn.fB s.k (n:Int) (g:Int)=0):=hJ (by unfold Kn.fB;rw[aJ a,aI c,hZ,hZ,aI e1]);rw[E.v,qi,bF];generalize (s.k.p n).fd g=v at*;have vB:(v== -1)=bA:=by simpa using e1
    generalize s.A 0=kb at*;go_in
    go_wp2_with fail
    refine sC AC.v ?_;rintro w1 hw;subst w1;go_wp2
    go_ret2
    exact⟨rfl,rfl⟩
 .have E:Hid (Kn.fB s.k z f=Kn.cD s.k z):=hJ (aI a);rw[bH a]at AC;rw[E.v,Av a,bH a];generalize gQ (s.A 0) z (Kn.cD s.k z)=ap at*;generalize Kn.cD s.k z=ae at*;generalize s.A 0=kb at*;go_in
  go_wp2_with fail
  refine sC AC.v ?_;rintro w1 hw;subst w1;go_wp2
  go_ret2
  exact⟨rfl,rfl⟩
def Kn.Cs(k:Kp)(z f:Int):Int:=if Kn.fB k z f=0 then Fx.dy k.fi ((k.p z.toNat).fd f.toNat)else Kn.fB k z f
def Kn.pd(k:Kp)(z f:Int):Kp:=if Kn.fB k z f=0 then Kn.jW (Kn.fT k z.toNat f.toNat (-1)) ((k.p z.toNat).fd f.toNat)else k
theorem Fy(N:Nat)(z f:Int)(h:bO w Wt s)(hj:KJ (λ_=>False) N s.k)(hN:N<=900):
  Calls prog 27 #[ai (bj ⟨s.A 0,0,bu⟩),aa az z,aa az f] w λe w'=>e=bf (bN (Kn.Cs s.k z f))/\bO w' Wt {s with k:=Kn.pd s.k z f}/\KF s w {s with k:=Kn.pd s.k z f} w':=by
 have NB:=hJ (pD Wt s w z f h);have H:=hJ (aK h (aK hj hN));by_cases a:Kn.fB s.k z f=0
 .obtain⟨n,g,rfl,rfl,hn,hg,hl,hf⟩:=Kn.sD a;have E:Hid (Kn.Cs s.k (n:Int) (g:Int)=Fx.dy s.k.fi ((s.k.p n).fd g)/\Kn.pd s.k (n:Int) (g:Int)=Kn.jW (Kn.fT s.k n g (-1)) ((s.k.p n).fd g)):=hJ ⟨by unfold Kn.Cs;rw[aJ a,hZ,hZ],by unfold Kn.pd;rw[aJ a,hZ,hZ]⟩;have cf:=h.qt n g hn hg;have fz:=h.frozen;have S1:=hJ (h.rF hn hg (-1));rw[a,bF,qi]at NB;rw[E.1,E.2];have XC:=hJ (zN (s.A 8) (s.A 6) (s.A 7) ((s.k.p n).fd g) s.k.fi s.k.fo s.k.pi _ (S1.1.fx) hj.sm (λm hm=>by have:=hj.rf m hm;have e1:(2:Nat)^60=1152921504606846976:=bE;omega));have c8:=S1.1.tS;rw[show({s with k:=Kn.fT s.k n g (-1)}:St).A 0=s.A 0 from rfl,show({s with k:=Kn.fT s.k n g (-1)}:St).A 8=s.A 8 from rfl]at c8;obtain⟨v,hv⟩:=hU ((s.k.p n).fd g);rw[hv]at cf XC|-;obtain⟨kb,hkb⟩:=hU (s.A 0);obtain⟨a8,ha8⟩:=hU (s.A 8);have HK:=hJ (aK hkb ha8);rw[hkb]at NB cf fz S1 XC c8|-;rw[ha8]at XC c8;go_in
  go_wp2_with fail
  refine sC NB.v ?_;rintro w1 hw;subst w1;go_wp2_with fail
  refine sC XC.v ?_;rintro w2 ⟨u2,f2⟩;have S2:Hid (bO w2 Wt {s with k:=Kn.jW (Kn.fT s.k n g (-1)) v}/\KF s w {s with k:=Kn.jW (Kn.fT s.k n g (-1)) v} w2):=hJ (by
   rw[<-HK.2]at u2 f2;have q:=S1.1.wo u2 f2;exact⟨q.1,S1.2.trans q.2⟩)
  go_wp2
  go_ret
  exact⟨rfl,S2.v⟩
 .have E:Hid (Kn.Cs s.k z f=Kn.fB s.k z f/\Kn.pd s.k z f=s.k):=hJ ⟨aI a,aI a⟩;rw[bH a]at NB;rw[E.1,E.2,bH a];generalize tB (s.A 0) z f (Kn.fB s.k z f)=ap at*;generalize Kn.fB s.k z f=ae at*;generalize s.A 0=kb at*;go_in
  go_wp2_with fail
  refine sC NB.v ?_;rintro w1 hw;subst w1;go_wp2
  go_ret
  exact⟨rfl,H.1,KF.refl _ _⟩
end
open Fx (Fi)
open Pp (Pi)
def Kn.jB(k:Kp)(T:Nat->Fi)(F:Fo)(S:Nat->Pi):Kp:={k with fi:=T,fo:=F,pi:=S}
def Kn.BA(k:Kp)(z f:Int):Int:=(k.p z.toNat).fd f.toNat
theorem Kn.v8(k:Kp)(n g:Nat):Kn.BA k (n:Int) (g:Int)=(k.p n).fd g:=by unfold Kn.BA;rw[hZ,hZ]
def Kn.Ct(k:Kp)(z f m:Int):Int:=if Kn.fB k z f=0 then Fx.eN k.fi k.fo k.pi (Kn.BA k z f) m else Kn.fB k z f
def Kn.Cu(k:Kp)(z f m:Int):bU:=if Kn.fB k z f=0 then Fx.tF k.fi k.fo k.pi (Kn.BA k z f) m else⟨#[]⟩
def Kn.pf(k:Kp)(z f m:Int):Kp:=if Kn.fB k z f=0 then Kn.jB k (Fx.iN k.fi k.fo (Kn.BA k z f) m) k.fo (Fx.qN k.fi k.pi (Kn.BA k z f) m)else k
section
variable (Wt:Nat)(s:St)(w:bD)
theorem IZ(z f m:Int)(h:bO w Wt s)(hz:Tr.ud s.k.fo)(hp:Fx.Pz s.k.fi):
  Calls prog 124 #[ai (bj ⟨s.A 0,0,bu⟩),aa az z,aa az f,aa az m] w λe w'=>e=bf (ao #[ak (Kn.Cu s.k z f m),bN (Kn.Ct s.k z f m)])/\bO w' Wt {s with k:=Kn.pf s.k z f m}/\KF s w {s with k:=Kn.pf s.k z f m} w':=by
 have NB:=hJ (pD Wt s w z f h);have H:=hJ (aK h (aK hz hp));by_cases a:Kn.fB s.k z f=0
 .obtain⟨n,g,rfl,rfl,hn,hg,hl,hf⟩:=Kn.sD a;have E:Hid (Kn.Ct s.k (n:Int) (g:Int) m=Fx.eN s.k.fi s.k.fo s.k.pi ((s.k.p n).fd g) m/\Kn.Cu s.k (n:Int) (g:Int) m=Fx.tF s.k.fi s.k.fo s.k.pi ((s.k.p n).fd g) m/\Kn.pf s.k (n:Int) (g:Int) m=Kn.jB s.k (Fx.iN s.k.fi s.k.fo ((s.k.p n).fd g) m) s.k.fo (Fx.qN s.k.fi s.k.pi ((s.k.p n).fd g) m)):=hJ ⟨by unfold Kn.Ct;rw[aJ a,Kn.v8],by unfold Kn.Cu;rw[aJ a,Kn.v8],by unfold Kn.pf;rw[aJ a,Kn.v8]⟩;rw[a,bF,qi]at NB;rw[E.1,E.2.1,E.2.2];have XR:=hJ (Nb (s.A 8) (s.A 6) (s.A 7) ((s.k.p n).fd g) m s.k.fi s.k.fo s.k.pi w.drew h.drew.fx hz hp);have K0:Hid (w.cell? ⟨s.A 0,252,bu⟩=bj (ai (bj ⟨s.A 8,0,bu⟩))/\w.cell? ⟨s.A 0,n*12+6+g,bu⟩=bj (aa az ((s.k.p n).fd g))):=hJ ⟨h.tS,h.qt n g hn hg⟩;obtain⟨v,hv⟩:=hU ((s.k.p n).fd g);obtain⟨kb,hkb⟩:=hU (s.A 0);obtain⟨a8,ha8⟩:=hU (s.A 8);have HK:=hJ (aK hkb (aK ha8 hv));rw[hv]at XR K0|-;rw[hkb]at NB K0|-;rw[ha8]at XR K0;go_in
  go_wp2_with fail
  refine sC NB.v ?_;rintro w1 hw;subst w1;go_upto_region 4 with fail
  obtain⟨y1,y2⟩:=K0.v;go_region_held3 (λw'=>w'.cell? ⟨kb,252,bu⟩=bj (ai (bj ⟨a8,0,bu⟩))/\w'.cell? ⟨kb,n*12+6+g,bu⟩=bj (aa az v)) (first|exact K0.v|exact K4.v) (
   (go_at_call 202;refine sC XR.v ?_;rintro w4 ⟨t4,f4⟩;have S4:Hid (bO w4 Wt {s with k:=Kn.jB s.k (Fx.iN s.k.fi s.k.fo v m) s.k.fo (Fx.qN s.k.fi s.k.pi v m)}/\KF s w {s with k:=Kn.jB s.k (Fx.iN s.k.fi s.k.fo v m) s.k.fo (Fx.qN s.k.fi s.k.pi v m)} w4):=hJ (by
    rw[<-HK.2.1]at t4 f4;have q:=H.1.drew.wo t4 f4;exact⟨q.1,(KF.drew _ _).trans q.2⟩);have K4:Hid (w4.cell? ⟨kb,252,bu⟩=bj (ai (bj ⟨a8,0,bu⟩))/\w4.cell? ⟨kb,n*12+6+g,bu⟩=bj (aa az v)):=hJ (by
    obtain⟨e1,e2,e3⟩:=HK.v;have q1:=S4.1.tS;have q2:=S4.1.qt n g hn hg;rw[<-e1,<-e2,<-e3];exact⟨q1,q2⟩)))
  go_wp2
  go_ret2
  exact⟨rfl,S4.v⟩
 .have E:Hid (Kn.Ct s.k z f m=Kn.fB s.k z f/\Kn.Cu s.k z f m=⟨#[]⟩/\Kn.pf s.k z f m=s.k):=hJ ⟨aI a,aI a,aI a⟩;rw[bH a]at NB;rw[E.1,E.2.1,E.2.2,bH a];generalize tB (s.A 0) z f (Kn.fB s.k z f)=ap at*;generalize Kn.fB s.k z f=ae at*;generalize s.A 0=kb at*;go_in
  go_wp2_with fail
  refine sC NB.v ?_;rintro w1 hw;subst w1;go_wp2
  go_ret2
  exact⟨rfl,H.1,KF.refl _ _⟩
end
theorem N3(w:bD):Sem.run prog (binOp BinOp.eql 34 (aq 100 (aa .i64 12)) (aq 100 (aa .i64 12))) w= .ok (ar bw) w:=by kernel_rfl
theorem NZ(w:bD):Sem.run prog (binOp BinOp.eql 34 ay (aq 100 (aa .i64 12))) w= .ok (ar bA) w:=by kernel_rfl
theorem NY(w:bD)(E:Int):Sem.run prog (binOp BinOp.eql 34 (aq 100 (aa az E)) (aq 100 (aa .i64 12))) w= .ok (ar (E==12)) w:=by kernel_rfl
section
variable (Wt N:Nat)(d:Nat->Nat)(s:St)(w:bD)
theorem Lc(hN:N<=900)(n:Nat)(c:Int)(h:bO w Wt s)(hn:n<20)(hl:Kn.lv s.k n=bw)(hi:Kn.KI N d s.k):
  Calls prog 151 #[ai (bj ⟨s.A 0,0,bu⟩),aa az n,aa az c] w λe w'=>∃(y q:Nat) (k':Kp),e=bf (ao #[])/\Kn.pY (Kn.iO s.k n c) n y q k'/\(s.k.sp.of n=y+1/\(n≠0->q<20/\q≠n/\(s.k.p n).par=(q:Int)))/\bO w' Wt {s with k:=k'}/\KF s w {s with k:=k'} w':=by
 have hnI:(n:Int)<20:=bB
 have hh:=hi.has hn hl;have c5:=h.sX n hn hh;have SE:=hJ (xM (s.A (29+n)) c (s.k.p n).box w (h.bx n hn hh));have H:=hJ (aK h (aK hh (aK hi (aK hl hN))));obtain⟨kb,hkb⟩:=hU (s.A 0);have HK:=hJ hkb;obtain⟨bb,hbb⟩:=hU (s.A (29+n));have HB:=hJ hbb;rw[hkb]at c5|-;rw[hbb]at c5 SE;go_in
 go_wp2_with fail
 refine sC SE.v ?_;rintro w1 ⟨u1,f1⟩;generalize bN (Sg.cN c)=ev;have S1:Hid (bO w1 Wt {s with k:=Kn.iO s.k n c}/\KF s w {s with k:=Kn.iO s.k n c} w1):=hJ (by
  rw[<-HB.v]at u1 f1;exact H.1.wm hn H.2.1 u1 f1)
 obtain⟨y,q,li⟩:=H.2.2.1.li hn H.2.2.2.1 (Sg.mO (s.k.p n).box c);have LK:=hJ (tw Wt N d {s with k:=Kn.iO s.k n c} w1 H.2.2.2.2 n y q (λ_=>H.2.2.1.h0) S1.1 li);rw[show({s with k:=Kn.iO s.k n c}:St).A 0=kb from HK.v]at LK;have HY:Hid (s.k.sp.of n=y+1/\(n≠0->q<20/\q≠n/\(s.k.p n).par=(q:Int))):=hJ ⟨li.ho,λn0=>by
  have a:=li.pr n0;have e:((Kn.dq s.k n (Sg.mO (s.k.p n).box c)).p n).par=(s.k.p n).par:=by unfold Kn.dq;rw[Kn.bM]
  rw[e]at a;exact a⟩
 go_wp2_with fail
 refine LK.mono ?_;rintro e w2 ⟨k',rfl,et,ka,kf⟩;have S2:Hid (Kn.pY (Kn.iO s.k n c) n y q k'/\(s.k.sp.of n=y+1/\(n≠0->q<20/\q≠n/\(s.k.p n).par=(q:Int)))/\bO w2 Wt {s with k:=k'}/\KF s w {s with k:=k'} w2):=hJ ⟨et,HY.v,ka,S1.2.trans kf⟩;go_wp2_with fail
 go_end0
 exact⟨y,q,k',rfl,S2.v⟩
def Kn.sf(k:Kp)(v:Int)(t:bU):Kp:=Kn.jB k (Fx.qW k.fi k.fo v t) (Fx.eY k.fi k.fo v t) (Fx.yj k.fi k.pi v t)
def Kn.vS(k:Kp)(z f:Int)(t:bU)(K:Nat)(E:Int)(k':Kp):Prop:=
 (Kn.fB k z f≠0/\K=0/\E=Kn.fB k z f/\k'=k)
 \/(Kn.fB k z f=0/\∃n g:Nat,z=n/\f=g/\n<20/\g<6/\Kn.lv k n=bw/\K=Fx.iS k.fi k.fo k.pi ((k.p n).fd g) t/\E=Fx.dR k.fi k.fo k.pi ((k.p n).fd g) t
  /\((E≠12/\k'=Kn.sf k ((k.p n).fd g) t)\/(E=12/\∃y q,Kn.pY (Kn.iO (Kn.sf k ((k.p n).fd g) t) n 2) n y q k'/\k.sp.of n=y+1/\(n≠0->q<20/\q≠n/\(k.p n).par=(q:Int)))))
theorem FC(hN:N<=900)(z f:Int)(t:bU)(h:bO w Wt s)(ht:t.size<2^59)(hp:Fx.Pz s.k.fi)(hi:Kn.fB s.k z f=0->Kn.KI N d (Kn.sf s.k (Kn.BA s.k z f) t)):
  Calls prog 125 #[ai (bj ⟨s.A 0,0,bu⟩),aa az z,aa az f,ak t] w λe w'=>∃(K:Nat) (E:Int) (k':Kp),e=bf (ao #[aa az (K:Int),bN E])/\Kn.vS s.k z f t K E k'/\bO w' Wt {s with k:=k'}/\KF s w {s with k:=k'} w':=by
 have NB:=hJ (pD Wt s w z f h);by_cases a:Kn.fB s.k z f=0
 .obtain⟨n,g,rfl,rfl,hn,hg,hl,hf⟩:=Kn.sD a;have hiA:=hi a;rw[Kn.v8]at hiA;have H:=hJ (aK h (aK hiA (aK hN (aK a hl))));rw[a,bF,qi]at NB;have XR:=hJ (JI (s.A 8) (s.A 6) (s.A 7) ((s.k.p n).fd g) t s.k.fi s.k.fo s.k.pi w.drew h.drew.fx ht hp);have K0:Hid (w.cell? ⟨s.A 0,252,bu⟩=bj (ai (bj ⟨s.A 8,0,bu⟩))/\w.cell? ⟨s.A 0,n*12+6+g,bu⟩=bj (aa az ((s.k.p n).fd g))):=hJ ⟨h.tS,h.qt n g hn hg⟩;obtain⟨v,hv⟩:=hU ((s.k.p n).fd g);obtain⟨kb,hkb⟩:=hU (s.A 0);obtain⟨a8,ha8⟩:=hU (s.A 8);have HK:=hJ (aK hkb (aK ha8 hv));rw[hv]at XR K0;rw[hkb]at NB K0|-;rw[ha8]at XR K0;obtain⟨E,hE⟩:=hU (Fx.dR s.k.fi s.k.fo s.k.pi v t);obtain⟨K,hKK⟩:=hU (Fx.iS s.k.fi s.k.fo s.k.pi v t);have HE:=hJ (aK hE hKK);rw[hE,hKK]at XR;go_in
  go_wp2_with fail
  refine sC NB.v ?_;rintro w1 hw;subst w1;go_upto_region 4 with fail
  obtain⟨y1,y2⟩:=K0.v;go_region_held3 (λw'=>w'.cell? ⟨kb,252,bu⟩=bj (ai (bj ⟨a8,0,bu⟩))/\w'.cell? ⟨kb,n*12+6+g,bu⟩=bj (aa az v)) (first|exact K0.v|exact K4.v) (
   (go_at_call 203;refine sC XR.v ?_;rintro w4 ⟨t4,f4⟩;have S4:Hid (bO w4 Wt {s with k:=Kn.sf s.k v t}/\KF s w {s with k:=Kn.sf s.k v t} w4):=hJ (by
     rw[<-HK.2.1]at t4 f4;have q:=H.1.drew.wo t4 f4;exact⟨q.1,(KF.drew _ _).trans q.2⟩);have K4:Hid (w4.cell? ⟨kb,252,bu⟩=bj (ai (bj ⟨a8,0,bu⟩))/\w4.cell? ⟨kb,n*12+6+g,bu⟩=bj (aa az v)):=hJ (by
     obtain⟨e1,e2,e3⟩:=HK.v;have q1:=S4.1.tS;have q2:=S4.1.qt n g hn hg;rw[<-e1,<-e2,<-e3];exact⟨q1,q2⟩)))
  by_cases e12:E=12
  .have E12:=hJ e12;have SD:=hJ (Lc Wt N d {s with k:=Kn.sf s.k v t} w4 H.2.2.1 n 2 S4.1 hn H.2.2.2.2 (by rw[<-HK.2.2];exact H.2.1));rw[show({s with k:=Kn.sf s.k v t}:St).A 0=kb from HK.1]at SD;rw[e12,bH bE];go_wp2_with fail
   rw[N3];go_wp2_with fail
   refine SD.mono ?_;rintro e w5 ⟨y,q,k',rfl,lt,yq,ka,kf⟩;have S5:Hid (Kn.vS s.k (n:Int) (g:Int) t K 12 k'/\bO w5 Wt {s with k:=k'}/\KF s w {s with k:=k'} w5):=hJ ⟨.inr ⟨H.2.2.2.1,n,g,rfl,rfl,hn,hg,H.2.2.2.2,by rw[HK.2.2];exact HE.2.symm,by rw[HK.2.2];exact(HE.1.trans E12.v).symm, .inr ⟨rfl,y,q,by rw[HK.2.2];exact lt,yq⟩⟩,ka,S4.2.trans kf⟩;go_wp2
   go_ret2
   exact⟨K,12,k',by rw[bH bE];rfl,S5.v⟩
  .have FIN:Hid (Kn.vS s.k (n:Int) (g:Int) t K E (Kn.sf s.k v t)):=hJ (.inr ⟨H.2.2.2.1,n,g,rfl,rfl,hn,hg,H.2.2.2.2,by rw[HK.2.2];exact HE.2.symm,by rw[HK.2.2];exact HE.1.symm, .inl ⟨e12,by rw[HK.2.2]⟩⟩);by_cases e0:E=0
   .rw[e0,bF];have E0:=hJ e0;go_wp2_with fail
    rw[NZ];go_wp2
    go_ret2
    exact⟨K,E,_,by rw[E0.v,bF];rfl,FIN.v,S4.v⟩
   .have EV:=hJ (bH e0);have eB:(E==12)=bA:=by simpa using e12
    rw[bH e0];go_wp2_with fail
    rw[NY,eB];go_wp2
    go_ret2
    exact⟨K,E,_,by rw[EV.v];rfl,FIN.v,S4.v⟩
 .have FIN:Hid (Kn.vS s.k z f t 0 (Kn.fB s.k z f) s.k):=hJ (.inl ⟨a,rfl,rfl,rfl⟩);have HE:=hJ (bH a);have H:=hJ h;rw[bH a]at NB;generalize tB (s.A 0) z f (Kn.fB s.k z f)=ap at*;generalize s.A 0=kb at*;go_in
  go_wp2_with fail
  refine sC NB.v ?_;rintro w1 hw;subst w1;go_wp2
  go_ret2
  exact⟨0,Kn.fB s.k z f,s.k,by rw[HE.v];rfl,FIN.v,H.v,KF.refl _ _⟩
end
def Kn.gV(k:Kp)(n j:Nat):List Nat:=(List.range j).filter (λf=>decide ((k.p n).fd f= -1))
theorem Kn.Rc(h:(k.p n).fd j= -1):Kn.gV k n (j+1)=Kn.gV k n j++[j]:=by
 unfold Kn.gV;rw[List.range_succ,List.filter_append];simp[h]
theorem Kn.Tu(h:¬(k.p n).fd j= -1):Kn.gV k n (j+1)=Kn.gV k n j:=by
 unfold Kn.gV;rw[List.range_succ,List.filter_append];simp[h]
theorem Kn.GD(k:Kp)(n j:Nat):(Kn.gV k n j).length<=j:=by
 unfold Kn.gV;refine aH (bW _ _) ?_;rw[List.length_range];exact aL _
theorem Kn.Ai{f:Nat}(h:f∈Kn.gV k n 6):f<6/\(k.p n).fd f= -1:=by
 unfold Kn.gV at h;have a:=bX.1 h;exact⟨List.mem_range.1 a.1,by simpa using a.2⟩
theorem Kn.Rb(h:2<=(Kn.gV k n 6).length):∃f g,(Kn.gV k n 6).getD 0 0=f/\(Kn.gV k n 6).getD 1 0=g/\f<6/\g<6/\f≠g:=by
 have nd:(Kn.gV k n 6).Nodup:=List.Pairwise.filter _ (List.nodup_range);refine⟨_,_,rfl,rfl,?_⟩
 match hL:Kn.gV k n 6,h,nd with
 |[],h,_=>simp at h
 |[x],h,_=>simp at h
 |x::y::L,_,nd=>
  have hx:=Kn.Ai (k:=k) (n:=n) (f:=x) (by rw[hL];simp);have hy:=Kn.Ai (k:=k) (n:=n) (f:=y) (by rw[hL];simp);refine⟨hx.1,hy.1,?_⟩;have:=List.nodup_cons.1 nd;intro e;have e':x=y:=e;exact this.1 (by rw[e'];simp)
section
variable (Wt N:Nat)(d:Nat->Nat)(s:St)(w:bD)
theorem tA(n:Nat)(h:bO w Wt s)(hn:n<20):
  Calls prog 196 #[ai (bj ⟨s.A 0,n*12,bu⟩)] w λe w'=>∃v,e=bf v/\LO w (Kn.gV s.k n 6) v w':=by
 obtain⟨i0,hi,hz0,hz1,hz2⟩:=info_parts Cq;obtain⟨fd,hfd⟩:=hU ((s.k.p n).fd);obtain⟨kb,hkb⟩:=hU (s.A 0);have LD:Hid (∀j,j<(mD fd).size->w.cell? ⟨kb,n*12+6+j,bu⟩=(mD fd)[j]?):=hJ (λj hj=>by
  have q:=h.fds hn j (by rw[hfd];exact hj);rw[hfd]at q;rw[<-hkb];exact q)
 have hsz:Hid ((prog.info? 72).map (·.size)=bj (mD fd).size):=hJ (by rw[qB];kernel_rfl);have HFD:=hJ hfd;rw[hkb];go_in
 go_wp2_with (refine jw rfl 72 _ rfl kb (n*12+6) rfl (mD fd) 6 3 LD.v bC hsz.v ?_)
 go_loopw [3,4,5,10] (λl _ _ i wr=>∃(k:Nat),i=aa az k/\k<=6/\Hid (LO w (Kn.gV s.k n k) l wr)) (λ_ _ _ i _=>6-(intOf i).toNat)
 case atStart=>exact⟨0,rfl,bB,LO.nil w⟩
 case round=>
  obtain⟨k,rfl,hk,R⟩:=hrel;by_cases hlt:k<6
  .have hltI:(k:Int)<6:=bB
   have hix:=xy fd k hlt wr;obtain⟨z,hz⟩:=hU (fd k);have HZ:=hJ hz;rw[hz]at hix;by_cases hz1:z= -1
   .have HM:=hJ (Kn.Rc (k:=s.k) (n:=n) (j:=k) (by rw[HFD.v,HZ.v,hz1]));subst hz1;obtain⟨a,cap,hv⟩:=ib R.own;rw[hv];have HV:=hJ hv;have hlm:=Kn.GD s.k n k;generalize hN:(Kn.gV s.k n k).length=M at*;have HN:=hJ hN;go_wp2_with (at_builtin;refine wpList_append_lies _ rfl _ _ 46 (by rfl) w.heap.size 3 i0 (aa .i64 0) 1 8 Tryz.underlying46 hi hz0 hz1 hz2 rfl bE (aj a M cap) M (rowOf (Kn.gV s.k n k)) (by rfl) (by rw[<-HV.v,<-HN.v];exact R.own.alloc _) ⟨wr.heap.size,0,bu⟩ 1 1 [aa az k] (by rfl) rfl (cell_one_new _ _ _) (by simp[Value.oneCell']) bE (by unfold maxLen;omega) bB (by have:=R.cU.size;simp;omega) (wr.heap.size+1) (by simp) ?_;intro gg cap2 w1 hown hgrow hat hlt2;have Q1:Hid (LO w (Kn.gV s.k n k++[k]) (aj (bj ⟨gg,0,bu⟩) (M+1) cap2) w1):=R.more HN.v hown _ (by rw[HV.v];exact hgrow))
    go_roundw
    case rel=>exact⟨k+1,by go_num,bB,by rw[HM.v];exact Q1⟩
    case measure=>simp[intOf];omega
   .have HM:=hJ (Kn.Tu (k:=s.k) (n:=n) (j:=k) (by rw[HFD.v,HZ.v];exact hz1));have z1:(z== -1)=bA:=by simpa using hz1
    go_wp2
    go_roundw
    case rel=>exact⟨k+1,by go_num,bB,by rw[HM.v];exact R⟩
    case measure=>simp[intOf];omega
  .obtain rfl:k=6:=bB
   go_wp2
   go_ret
   exact⟨_,rfl,R.v⟩
end
def Kn.vQ(k:Kp)(z:Int)(A C:Nat)(E:Int)(k':Kp):Prop:=
 (Kn.cD k z≠0/\A=0/\C=0/\E=Kn.cD k z/\k'=k)
 \/(Kn.cD k z=0/\∃n:Nat,z=n/\n<20/\((¬2<=(Kn.gV k n 6).length/\A=0/\C=0/\E=4/\k'=k)
  \/(2<=(Kn.gV k n 6).length/\∃(a c:Nat) (T:Nat->Fi) (S:Nat->Pi),Fx.vR k.fi k.pi a c E T S/\((E≠0/\A=0/\C=0/\k'=Kn.jB k T k.fo S)\/(E=0/\A=(Kn.gV k n 6).getD 0 0/\C=(Kn.gV k n 6).getD 1 0/\k'=Kn.fT (Kn.fT (Kn.jB k T k.fo S) n A (a:Int)) n C (c:Int))))))
section
variable (Wt N:Nat)(d:Nat->Nat)(s:St)(w:bD)
theorem IY(z:Int)(h:bO w Wt s):
  Calls prog 123 #[ai (bj ⟨s.A 0,0,bu⟩),aa az z] w λe w'=>∃(A C:Nat) (E:Int) (k':Kp),e=bf (ao #[aa az (A:Int),aa az (C:Int),bN E])/\Kn.vQ s.k z A C E k'/\bO w' Wt {s with k:=k'}/\KF s w {s with k:=k'} w':=by
 have AC:=hJ (dG Wt s w z h);have H:=hJ h;by_cases a:Kn.cD s.k z=0
 .obtain⟨n,rfl,hn,hl⟩:=Kn.fL a;have HA:=hJ a;rw[a,bF,gC]at AC;have FR1:=hJ (tA Wt s w n h hn);obtain⟨kb,hkb⟩:=hU (s.A 0);obtain⟨a8,ha8⟩:=hU (s.A 8);have HK:=hJ (aK hkb ha8);rw[hkb]at AC FR1|-;clear h a hl hkb ha8;go_in
  go_wp2_with fail
  refine sC AC.v ?_;rintro w1 hw;subst w1;go_wp2_with fail
  refine FR1.mono ?_;rintro e w1 ⟨v,rfl,lo⟩;have K1:Hid (bO w1 Wt s/\KF s w s w1):=hJ ⟨H.below lo.cU,KF.below lo.cU⟩;by_cases l2:2<=(Kn.gV s.k n 6).length
  .obtain⟨gg,cap,hv,hgg,hc⟩:=lo.cells bB;obtain⟨f,g,hf,hg,f6,g6,fg⟩:=Kn.Rb l2;have y0:=hc 0 bB;have y1:=hc 1 bB;rw[hf]at y0;rw[hg]at y1;have fI:(f:Int)<6:=bB
   have gI:(g:Int)<6:=bB
   have GB:Hid (∀i,us s i->gg≠s.A i):=hJ (λi hi e=>by
    have:=H.lt hi;have q:=lo.own;rw[hv]at q;have q2:=q.lt gg rfl;omega)
   have L3:=hJ (aK hf hg);have L2:Hid (2<=(Kn.gV s.k n 6).length/\(Kn.gV s.k n 6).getD 0 0=f/\(Kn.gV s.k n 6).getD 1 0=g):=hJ ⟨l2,hf,hg⟩;rw[hv];have hlm:=Kn.GD s.k n 6;generalize (Kn.gV s.k n 6).length=M at l2 hlm y0 y1|-;have lI:((M:Int)<2)=False:=by simp;omega
   have M0:(0:Int)<(M:Int):=bB
   have M1:(1:Int)<(M:Int):=bB
   clear hv hc lo hf hg;have c8:=K1.1.tS;rw[HK.1,HK.2]at c8;have XP:=hJ (Na (s.A 8) (s.A 6) (s.A 7) s.k.fi s.k.fo s.k.pi w1 K1.1.fx);rw[HK.2]at XP;go_wp2_with fail
   refine XP.mono ?_;rintro e w2 ⟨a,c,E,T,S,rfl,pt,u2,f2⟩;have S2:Hid (bO w2 Wt {s with k:=Kn.jB s.k T s.k.fo S}/\KF s w {s with k:=Kn.jB s.k T s.k.fo S} w2):=hJ (by
    rw[<-HK.2]at u2 f2;have q:=K1.1.wo u2 f2;exact⟨q.1,K1.2.trans q.2⟩)
   have PT:=hJ pt;have G2:Hid (gg<w2.heap.size):=hJ (aD hgg f2.size);have YY:Hid (w2.cell? ⟨gg,0,bu⟩=bj (aa az (f:Int))/\w2.cell? ⟨gg,1,bu⟩=bj (aa az (g:Int))):=hJ (by
    have e:=f2.block gg hgg (by rw[<-HK.2];exact GB.v 8 cv) (GB.v 6 cv) (GB.v 7 cv);exact⟨(aV e).trans y0,(aV e).trans y1⟩)
   clear u2 f2 c8 pt;by_cases e0:E=0
   .have E0:=hJ e0;rw[e0,bF];clear e0;go_upto_region 10 with fail
    obtain⟨x0,x1⟩:=YY.v;have gk:gg≠kb:=by rw[<-HK.1];exact GB.v 0 cv
    obtain⟨W3,hW3⟩:=hU (w2.setCell ⟨kb,n*12+6+f,bu⟩ (aa az (a:Int)));obtain⟨W4,hW4⟩:=hU (W3.setCell ⟨kb,n*12+6+g,bu⟩ (aa az (c:Int)));have S3:Hid (bO W3 Wt {s with k:=Kn.fT (Kn.jB s.k T s.k.fo S) n f (a:Int)}/\KF s w {s with k:=Kn.fT (Kn.jB s.k T s.k.fo S) n f (a:Int)} W3):=hJ (by
     have q:=S2.1.rF hn f6 (a:Int);rw[show({s with k:=Kn.jB s.k T s.k.fo S}:St).A 0=kb from HK.1,hW3]at q;exact⟨q.1,S2.2.trans q.2⟩)
    have S4:Hid (bO W4.drew Wt {s with k:=Kn.fT (Kn.fT (Kn.jB s.k T s.k.fo S) n f (a:Int)) n g (c:Int)}/\KF s w {s with k:=Kn.fT (Kn.fT (Kn.jB s.k T s.k.fo S) n f (a:Int)) n g (c:Int)} W4.drew):=hJ (by
     have q:=S3.1.rF hn g6 (c:Int);rw[show({s with k:=Kn.fT (Kn.jB s.k T s.k.fo S) n f (a:Int)}:St).A 0=kb from HK.1,hW4]at q;exact⟨q.1.drew,S3.2.trans (q.2.trans (KF.drew _ _))⟩)
    have b3:W3.heap[gg]? =w2.heap[gg]? :=by
     rw[<-hW3];have ff:bG kb w2 (w2.setCell ⟨kb,n*12+6+f,bu⟩ (aa az (a:Int))):=(bG.refl _ _).setCell _ _;exact ff.block gg G2.v gk
    have b4:W4.heap[gg]? =W3.heap[gg]? :=by
     rw[<-hW4];have ff:bG kb W3 (W3.setCell ⟨kb,n*12+6+g,bu⟩ (aa az (c:Int))):=(bG.refl _ _).setCell _ _;exact ff.block gg (by rw[<-hW3];simp;exact G2.v) gk
    have Y3:Hid (W3.drew.cell? ⟨gg,0,bu⟩=bj (aa az (f:Int))/\W3.drew.cell? ⟨gg,1,bu⟩=bj (aa az (g:Int))):=hJ ⟨(aV b3).trans x0,(aV b3).trans x1⟩;have Y4:Hid (W4.drew.cell? ⟨gg,0,bu⟩=bj (aa az (f:Int))/\W4.drew.cell? ⟨gg,1,bu⟩=bj (aa az (g:Int))):=hJ ⟨(aV (b4.trans b3)).trans x0,(aV (b4.trans b3)).trans x1⟩;rw[<-hW4,<-hW3]at S4 Y4;rw[<-hW3]at Y3;have cf:=S2.1.qt n f hn f6;have cg:=S2.1.qt n g hn g6;have fz:=S2.1.frozen;rw[show({s with k:=Kn.jB s.k T s.k.fo S}:St).A 0=kb from HK.1]at cf cg fz;generalize (({s with k:=Kn.jB s.k T s.k.fo S}:St).k.p n).fd f=vf at cf;generalize (({s with k:=Kn.jB s.k T s.k.fo S}:St).k.p n).fd g=vg at cg;have m0:0<M:=bB
    have m1:1<M:=bB
    have m00:¬M=0:=bB
    have m11:¬M<=1:=bB
    have m12:¬(M:Int)<=1:=bB
    clear hW3 hW4 b3 b4 S3;go_region_held3 (λw'=>w'.cell? ⟨gg,0,bu⟩=bj (aa az (f:Int))/\w'.cell? ⟨gg,1,bu⟩=bj (aa az (g:Int))) (first|exact YY.v|exact Y3.v|exact Y4.v|go_keep) (fail)
    generalize ((w2.setCell ⟨kb,n*12+6+f,bu⟩ (aa az (a:Int))).setCell ⟨kb,n*12+6+g,bu⟩ (aa az (c:Int))).drew=W5 at*;clear cf cg fz x0 x1 Y3 YY S2;go_upto_region 11 with fail
    obtain⟨x0,x1⟩:=Y4.v;have Y5:Hid (W5.drew.cell? ⟨gg,0,bu⟩=bj (aa az (f:Int))/\W5.drew.cell? ⟨gg,1,bu⟩=bj (aa az (g:Int))):=hJ ⟨x0,x1⟩;go_region_held3 (λw'=>w'.cell? ⟨gg,0,bu⟩=bj (aa az (f:Int))/\w'.cell? ⟨gg,1,bu⟩=bj (aa az (g:Int))) (first|exact Y4.v|exact Y5.v|go_keep) (fail)
    go_wp2
    go_ret3
    exact⟨f,g,0,by rw[bF];rfl,Kn.fT (Kn.fT (Kn.jB s.k T s.k.fo S) n f (a:Int)) n g (c:Int), .inr ⟨HA.v,n,rfl,hn, .inr ⟨L2.1,a,c,T,S,by rw[<-E0.v];exact PT.v, .inr ⟨rfl,L2.2.1.symm,L2.2.2.symm,rfl⟩⟩⟩,S4.1.drew,S4.2.trans (KF.drew _ _)⟩
   .have HE:=hJ (bH e0);have FIN:Hid (Kn.vQ s.k (n:Int) 0 0 E (Kn.jB s.k T s.k.fo S)):=hJ (.inr ⟨HA.v,n,rfl,hn, .inr ⟨L2.1,a,c,T,S,PT.v, .inl ⟨e0,rfl,rfl,rfl⟩⟩⟩);rw[bH e0];clear e0;go_wp2
    go_ret3
    exact⟨0,0,E,_,by rw[HE.v];rfl,FIN.v,S2.v⟩
  .have FIN:Hid (Kn.vQ s.k (n:Int) 0 0 4 s.k):=hJ (.inr ⟨HA.v,n,rfl,hn, .inl ⟨l2,rfl,rfl,rfl,rfl⟩⟩);obtain⟨a,cap,hv⟩:=ib lo.own;rw[hv];generalize (Kn.gV s.k n 6).length=M at*;have lI:((M:Int)<2):=bB
   clear hv lo l2;go_wp2
   go_ret3
   exact⟨0,0,4,s.k,by rw[bH bE];rfl,FIN.v,K1.v⟩
 .have FIN:Hid (Kn.vQ s.k z 0 0 (Kn.cD s.k z) s.k):=hJ (.inl ⟨a,rfl,rfl,rfl,rfl⟩);have HE:=hJ (bH a);rw[bH a]at AC;clear h a;generalize gQ (s.A 0) z (Kn.cD s.k z)=ap at*;generalize s.A 0=kb at*;go_in
  go_wp2_with fail
  refine sC AC.v ?_;rintro w1 hw;subst w1;go_wp2
  go_ret3
  exact⟨0,0,Kn.cD s.k z,s.k,by rw[HE.v];rfl,FIN.v,H.v,KF.refl _ _⟩
end
namespace Kn
theorem Pb(h:Tr.ud F)(z m:Int)(a:Nat)(ha:a<=40):a+(Tr.jH F z (a:Int) m).size<=40:=by
 unfold Tr.jH;split
 .rename_i d;have i0:Tr.cN F z 1=0:=by
   unfold Tr.eN at d;by_cases e:Tr.cN F z 1≠0
   .rw[aJ e]at d;exact aZ d e
   .omega
  obtain⟨n,rfl,n40,_,k1⟩:=Tr.fD i0;have z40:=h n n40 k1;have sz:∀(L:List Int) (r:bU),(L.foldl (λr n=>r.push (UInt8.ofNat n.toNat)) r).size=r.size+L.length:=by
   intro L
   induction L with
   |nil=>intro r;rfl
   |cons x L ih=>intro r;rw[List.foldl_cons,ih,ByteArray.size_push,List.length_cons];omega
  rw[hZ,hZ];unfold Tr.Ql;rw[sz,Tr.wi];show a+(0+_)<=40;omega
 .exact ha
section
variable {N:Nat}{d:Nat->Nat}{k k':Kp}
theorem KH.fx(h:KH N d k){M:Nat}(hM:N<=M){T:Nat->Fi}{S:Nat->Pi}(wx:WX (jO k) T F S)(rf:∀n,n<24->(T n).refs<=8*M)(ok:Tr.Ok F):KH M d (jB k T F S):=by
 have g:=h.more hM;have j:=g.ki.vi.kj;exact g.iZ ⟨⟨⟨j.sp,j.gr,j.me,wx,rf,ok,j.tb,j.st,j.hs,j.lv,j.of,j.ht,j.nm⟩,g.ki.vi.iv,g.ki.vi.hs⟩,g.ki.fi,g.ki.pr,g.ki.h0⟩ rfl (λm=>⟨rfl,rfl⟩)
theorem P7(k:Kp)(n f:Nat)(v:Int)(m:Nat):((fT k n f v).p m).st=(k.p m).st/\((fT k n f v).p m).par=(k.p m).par/\((fT k n f v).p m).box=(k.p m).box/\((fT k n f v).p m).has=(k.p m).has/\((fT k n f v).p m).fd=if m=n then(λi=>if i=f then v else(k.p n).fd i)else(k.p m).fd:=by
 unfold fT;by_cases c:m=n
 .subst c;rw[bM,aJ rfl];exact⟨rfl,rfl,rfl,rfl,rfl⟩
 .rw[bP _ _ _ _ c,aI c];exact⟨rfl,rfl,rfl,rfl,rfl⟩
theorem KH.fd(h:KH N d k)(n f:Nat)(v:Int):KH N d (fT k n f v):=by
 have e:=P7 k n f v;have l:∀m,lv (fT k n f v) m=lv k m:=λm=>by unfold lv;rw[(e m).1]
 refine h.iZ ⟨⟨h.ki.vi.kj.Ea rfl rfl rfl,h.ki.vi.iv,h.ki.vi.hs⟩,λm hm lm hm2=>?_,λm hm m0 s=>?_,h.ki.h0⟩ rfl (λm=>⟨(e m).1,(e m).2.1⟩)
 .rw[(e m).2.2.1];rw[l]at lm;exact h.ki.fi m hm lm hm2
 .rw[(e m).1]at s;rw[(e m).2.1];exact h.ki.pr m hm m0 s
theorem KH.Um(h:KH N d k)(z f m:Int):KH N d (pf k z f m):=by
 have j:=h.ki.vi.kj;unfold pf;split
 .generalize BA k z f=v;have a:WX (jO k) (Fx.iN k.fi k.fo v m) k.fo k.pi/\∀a,a<24->(Fx.iN k.fi k.fo v m a).refs<=8*N:=by
   unfold Fx.iN;split
   .rename_i e;obtain⟨n,rfl,n24,r0⟩:=Fx.kX e.1;rw[hZ];refine⟨j.wx.kP n24 r0 _ r0 rfl rfl (Pb j.ok.fz _ _ _ (j.wx.ps n n24)),λa ha=>?_⟩;by_cases c:a=n
    .subst c;rw[Fx.bM];exact j.rf a ha
    .rw[Fx.bP _ _ _ _ c];exact j.rf a ha
   .exact⟨j.wx,j.rf⟩
  refine h.fx (aL _) ?_ a.2 j.ok;unfold Fx.qN;split
  .exact a.1.Um _ _
  .exact a.1
 .exact h
theorem KH.Ca(h:KH N d k)(v:Int)(s:bU):KH N d (sf k v s):=by
 have j:=h.ki.vi.kj;have a:WX (jO k) (Fx.qW k.fi k.fo v s) k.fo k.pi/\∀a,a<24->(Fx.qW k.fi k.fo v s a).refs<=8*N:=by
  unfold Fx.qW;split
  .rename_i e;obtain⟨n,rfl,n24,r0⟩:=Fx.kX e.1.1;have e2:=e.2;rw[hZ]at e2|-;refine⟨j.wx.kP n24 r0 _ r0 rfl rfl ?_,λa ha=>?_⟩
   .show(k.fi n).pos+s.size<=40;unfold Tr.dR at e2;by_cases g:Tr.cN k.fo ((k.fi n).num:Int) 1≠0
    .rw[aJ g]at e2;exact aZ e2 g
    .rw[aI g,nJ]at e2;by_cases g2:40-(s.size:Int)<((k.fi n).pos:Int)
     .rw[aJ g2]at e2;exact aZ e2 bE
     .omega
   .by_cases c:a=n
    .subst c;rw[Fx.bM];exact j.rf a ha
    .rw[Fx.bP _ _ _ _ c];exact j.rf a ha
  .exact⟨j.wx,j.rf⟩
 have b:WX (jO k) (Fx.qW k.fi k.fo v s) (Fx.eY k.fi k.fo v s) k.pi/\Tr.Ok (Fx.eY k.fi k.fo v s):=by
  unfold Fx.eY;split
  .exact⟨a.1.Ca _ _ _,j.ok.Ca _ _ _⟩
  .exact⟨a.1,j.ok⟩
 refine h.fx (aL _) ?_ a.2 b.2;unfold Fx.yj;split
 .exact b.1.VK _ _
 .exact b.1
theorem KH.Wg(h:KH N d k){A C:Nat}(p:vQ k z A C E k'):KH (N+1) d k':=by
 have j:=h.ki.vi.kj;have key:∀{a c:Nat} {T:Nat->Fi} {S:Nat->Pi},Fx.vR k.fi k.pi a c E T S->KH (N+1) d (jB k T k.fo S):=λ{a c T S} pt=>by
  have up:∀a,a<24->(k.fi a).refs<=8*(N+1):=λa ha=>by have:=j.rf a ha;omega
  rcases pt with⟨_,_,_,_,rfl,rfl⟩|⟨_,n,e,hf,⟨_,_,_,_,rfl,rfl⟩|⟨rfl,_,a1,d1,rfl,rfl⟩⟩
  .exact h.fx bB j.wx up j.ok
  .exact h.fx bB j.wx up j.ok
  .refine h.fx bB (j.wx.pipe hf a1 d1) (λx hx=>?_) j.ok;by_cases e:x=c
   .subst e;rw[Fx.bM];show 1<=_;omega
   .rw[Fx.bP _ _ _ _ e];by_cases e2:x=a
    .subst e2;rw[Fx.bM];show 1<=_;omega
    .rw[Fx.bP _ _ _ _ e2];exact up x hx
 rcases p with⟨_,_,_,_,rfl⟩|⟨_,n,rfl,hn,⟨_,_,_,_,rfl⟩|⟨_,a,c,T,S,pt,⟨_,_,_,rfl⟩|⟨_,_,_,rfl⟩⟩⟩
 .exact h.more bB
 .exact h.more bB
 .exact key pt
 .exact((key pt).fd _ _ _).fd _ _ _
theorem KH.VJ(h:KH N d k)(z f:Int):KH N d (pd k z f):=by
 unfold pd;split
 .have g:=h.fd z.toNat f.toNat (-1);have j:=g.ki.vi.kj.Vs ((k.p z.toNat).fd f.toNat);exact g.fx (aL _) j.wx j.rf j.ok
 .exact h
end
end Kn
def Kn.Nx(Wt:Nat)(s:St)(w:bD)(R:Value->Kp->Prop)(e:Ending)(w':bD):Prop:=∃v s',e=bf v/\R v s'.k/\bO w' Wt s'/\KF s w s' w'
theorem Kn.Nx.no(h:bO w Wt s)(r:R v s.k):Kn.Nx Wt s w R (bf v) w:=⟨v,s,rfl,r,h,KF.refl _ _⟩
theorem Kn.Nx.mk(r:R v k)(h:bO w' Wt {s with k:=k}/\KF s w {s with k:=k} w'):Kn.Nx Wt s w R (bf v) w':=⟨v,_,rfl,r,h⟩
theorem cG{f:Nat}{a:Array Value}{E:Ending}{Q:Ending->bD->Prop}(h:Calls prog f a w λe w'=>e=E/\w'=w)(q:Q E w):Calls prog f a w Q:=h.mono (by rintro _ _ ⟨rfl,rfl⟩;exact q)
theorem below_drewN(w:bD)(j:Nat):Below w.heap.size w (w.drewN j):=⟨rfl,rfl,rfl,aL _,λ_ _=>rfl⟩
theorem bO.Qp(h:bO w Wt s)(hn:n<20)(hh:(s.k.p n).has=bw)(u:dj w' (s.A (9+n)) (s.A 4) m)(f:bG (s.A (9+n)) w w'):bO w' Wt {s with k:=Kn.cT s.k n m s.k.bk}/\KF s w {s with k:=Kn.cT s.k n m s.k.bk} w':=
 have b:=h.ub hn hh
 h.zd hn hh ⟨u,b.bk.mS f b.br b.bq,b.br,b.bq⟩ (fS.mem f)
section
variable (Wt N:Nat)(d:Nat->Nat)(s:St)(w:bD)
def Kn.H7(k:Kp)(z:Int)(on:Bool)(v:Value)(k':Kp):Prop:=∃E m',v=bN E/\(Kn.cD k z=0/\Wf.jb k.sc z (!on) m'\/m'=k.sc)/\k'={k with sc:=m'}
theorem I5(z:Int)(on:Bool)(h:bO w Wt s):
  Calls prog 53 #[ai (bj ⟨s.A 0,0,bu⟩),aa az z,ar on] w (Kn.Nx Wt s w (Kn.H7 s.k z on)):=by
 have AC:=hJ (dG Wt s w z h);have H:=hJ h;by_cases a:Kn.cD s.k z=0
 .have A:=hJ a;have WK:=hJ (Wf.Fb (s.A 3) s.k.sc w z (!on) h.sc);have c8:=h.wM;obtain⟨a3,h3⟩:=hU (s.A 3);have H3:=hJ h3;rw[a,bF]at AC;rw[h3]at WK c8;generalize gQ (s.A 0) z 0=ap at*;generalize s.A 0=kb at*;go_in
  go_wp2_with fail
  refine cG AC.v ?_;go_wp2_with fail
  refine WK.mono ?_;rintro e w1 ⟨⟨E1,rfl⟩,u,f⟩;obtain⟨m',t⟩:∃m',Wf.jb s.k.sc z (!on) m':=⟨_,rfl⟩;rw[<-t]at u;have S1:=hJ (H.lH (by rw[H3.v];exact u) (by rw[H3.v];exact f));have TT:=hJ t;go_wp2
  go_ret
  exact .mk ⟨_,m',rfl, .inl ⟨A.v,TT.v⟩,rfl⟩ S1.v
 .rw[bH a]at AC;have A:=hJ a;generalize gQ (s.A 0) z (Kn.cD s.k z)=ap at*;generalize Kn.cD s.k z=ae at*;generalize s.A 0=kb at*;go_in
  go_wp2_with fail
  refine cG AC.v ?_;go_wp2
  go_ret
  exact .no H.v ⟨ae,_,(bH A.v).symm, .inr rfl,rfl⟩
theorem Oo(z a m:Int)(wr:Bool)(h:bO w Wt s)(hj:KJ (λ_=>False) N s.k):
  Calls prog 45 #[ai (bj ⟨s.A 0,0,bu⟩),aa az z,aa az a,aa az m,ar wr] w (Kn.Nx Wt s w λv k'=>(∃n:Nat,z=n/\n<20/\Kn.lv s.k n=bw/\v=bN (Mv.rT (s.k.p n).mem a m)/\k'=Kn.cT s.k n (Mv.mapM (s.k.p n).mem a m wr) s.k.bk)\/Kn.cD s.k z≠0/\v=bN (Kn.cD s.k z)/\k'=s.k):=by
 have AC:=hJ (dG Wt s w z h);have H:=hJ h;by_cases A:Kn.cD s.k z=0
 .obtain⟨n,rfl,hn,hl⟩:=Kn.fL A;have hh:=hj.lv n hn (λx=>x) (Kn.dL.1 hl);have HH:=hJ (aK hh hl);have c4:=h.qv n hn hh;have UM:=hJ (PD (s.A (9+n)) (s.A 4) a m wr (s.k.p n).mem w (h.me n hn hh));rw[A,bF,gC]at AC;obtain⟨m9,h9⟩:=hU (s.A (9+n));have H9:=hJ h9;rw[h9]at UM c4;generalize s.A 0=kb at*;go_in
  go_wp2_with fail
  refine cG AC.v ?_;go_wp2_with fail
  refine sC UM.v ?_;rintro w1 ⟨u,f⟩;have S1:=hJ (H.Qp hn HH.1 (by rw[H9.v];exact u) (by rw[H9.v];exact f));go_wp2
  go_ret
  exact .mk (.inl ⟨n,rfl,hn,HH.2,rfl,rfl⟩) S1.v
 .have A':=hJ A;rw[bH A]at AC|-;generalize gQ (s.A 0) z (Kn.cD s.k z)=ap at*;generalize Kn.cD s.k z=ae at*;generalize s.A 0=kb at*;go_in
  go_wp2_with fail
  refine cG AC.v ?_;go_wp2
  go_ret
  exact .no H.v (.inr ⟨A'.v,rfl,rfl⟩)
theorem La(z a m:Int)(wr:Bool)(h:bO w Wt s)(hj:KJ (λ_=>False) N s.k):
  Calls prog 46 #[ai (bj ⟨s.A 0,0,bu⟩),aa az z,aa az a,aa az m,ar wr] w (Kn.Nx Wt s w λv k'=>(∃n:Nat,z=n/\n<20/\Kn.lv s.k n=bw/\v=bN (Mv.rV (s.k.p n).mem a m)/\k'=Kn.cT s.k n (Mv.vb (s.k.p n).mem a m wr) s.k.bk)\/Kn.cD s.k z≠0/\v=bN (Kn.cD s.k z)/\k'=s.k):=by
 have AC:=hJ (dG Wt s w z h);have H:=hJ h;by_cases A:Kn.cD s.k z=0
 .obtain⟨n,rfl,hn,hl⟩:=Kn.fL A;have hh:=hj.lv n hn (λx=>x) (Kn.dL.1 hl);have HH:=hJ (aK hh hl);have c4:=h.qv n hn hh;have UM:=hJ (E9 (s.A (9+n)) (s.A 4) a m wr (s.k.p n).mem w (h.me n hn hh));rw[A,bF,gC]at AC;obtain⟨m9,h9⟩:=hU (s.A (9+n));have H9:=hJ h9;rw[h9]at UM c4;generalize s.A 0=kb at*;go_in
  go_wp2_with fail
  refine cG AC.v ?_;go_wp2_with fail
  refine sC UM.v ?_;rintro w1 ⟨u,f⟩;have S1:=hJ (H.Qp hn HH.1 (by rw[H9.v];exact u) (by rw[H9.v];exact f));go_wp2
  go_ret
  exact .mk (.inl ⟨n,rfl,hn,HH.2,rfl,rfl⟩) S1.v
 .have A':=hJ A;rw[bH A]at AC|-;generalize gQ (s.A 0) z (Kn.cD s.k z)=ap at*;generalize Kn.cD s.k z=ae at*;generalize s.A 0=kb at*;go_in
  go_wp2_with fail
  refine cG AC.v ?_;go_wp2
  go_ret
  exact .no H.v (.inr ⟨A'.v,rfl,rfl⟩)
theorem Fz(z a m:Int)(h:bO w Wt s)(hj:KJ (λ_=>False) N s.k)(hS:Gr.Small s.k.gr):
  Calls prog 28 #[ai (bj ⟨s.A 0,0,bu⟩),aa az z,aa az a,aa az m] w (Kn.Nx Wt s w λv k'=>(∃n:Nat,z=n/\n<20/\Kn.lv s.k n=bw/\v=bN (Kn.AS s.k n a m)/\k'=Kn.dv s.k n a m)\/Kn.cD s.k z≠0/\v=bN (Kn.cD s.k z)/\k'=s.k):=by
 have AC:=hJ (dG Wt s w z h);have H:=hJ h;by_cases A:Kn.cD s.k z=0
 .obtain⟨n,rfl,hn,hl⟩:=Kn.fL A;have UM:=hJ (yZ Wt s w n a m h hn (hj.lv n hn (λx=>x) (Kn.dL.1 hl)) (hj.me.cW hn) hS);have HL:=hJ hl;rw[A,bF,gC]at AC;generalize s.A 0=kb at*;go_in
  go_wp2_with fail
  refine cG AC.v ?_;go_wp2_with fail
  refine sC UM.v ?_;rintro w1 S1;have S1:=hJ S1;go_wp2
  go_ret
  exact .mk (.inl ⟨n,rfl,hn,HL.v,rfl,rfl⟩) S1.v
 .have A':=hJ A;rw[bH A]at AC|-;generalize gQ (s.A 0) z (Kn.cD s.k z)=ap at*;generalize Kn.cD s.k z=ae at*;generalize s.A 0=kb at*;go_in
  go_wp2_with fail
  refine cG AC.v ?_;go_wp2
  go_ret
  exact .no H.v (.inr ⟨A'.v,rfl,rfl⟩)
end
def Kn.TP(s:St)(z:Int)(v:Value):Prop:=Kn.cD s.k z=0->∃y,y<6/\s.k.ht y=bw/\v=ai (bj ⟨s.A (49+y),0,bu⟩)
theorem Kn.KJ.tab(h:KJ X N k)(hn:n<20)(l:Kn.lv k n=bw):∃y,y<6/\k.ht y=bw/\Sp.dX k.sp (n:Int)=y:=by
 obtain⟨d,I⟩:=h.sp;have o:=(h.of n hn).2 (by have:=Kn.dL.1 l;omega);obtain⟨y,hy⟩:∃y,k.sp.of n=y+1:=⟨k.sp.of n-1,bB⟩;obtain⟨_,z6,zh⟩:=I.dc hn hy;exact⟨y,z6,by rw[h.ht y z6];exact zh,Sp.iB hn hy⟩
section
variable (Wt N:Nat)(d:Nat->Nat)(s:St)(w:bD)
theorem jR(z:Int)(h:bO w Wt s)(hj:KJ (λ_=>False) N s.k):
  Calls prog 92 #[ai (bj ⟨s.A 0,0,bu⟩),aa az z] w λe w'=>∃v,e=bf (ao #[v,bN (Kn.cD s.k z)])/\Kn.TP s z v/\Below w.heap.size w w':=by
 have AC:=hJ (dG Wt s w z h);by_cases A:Kn.cD s.k z=0
 .obtain⟨n,rfl,hn,hl⟩:=Kn.fL A;obtain⟨y,y6,yt,yi⟩:=hj.tab hn hl;have SP:Hid (∀j,Calls prog 62 #[ai (bj ⟨s.A 0,0,bu⟩),aa az n] (w.drewN j) λe w2=>e=bf (aa az y)/\w2=w.drewN j):=hJ (λj=>by have:=iJ Wt s _ (n:Int) (h.drewN j);rwa [yi]at this);have c:=h.Ns y y6 yt;have T:Hid (Kn.TP s n (ai (bj ⟨s.A (49+y),0,bu⟩))):=hJ (λ_=>⟨y,y6,yt,rfl⟩);have yI:(y:Int)<6:=bB
  rw[A,bF]at AC|-;rw[gC]at AC;generalize s.A 0=kb at*;generalize s.A (49+y)=tb at*;go_in
  go_wp2_with fail
  refine cG AC.v ?_;go_upto_region 4 with fail
  go_quiet ((go_at_call 62;exact Calls.quiet_of_same (SP.v _)))
  go_wp2
  go_ret2
  exact⟨_,rfl,T.v,below_drewN _ _⟩
 .have T:Hid (Kn.TP s z (ai bu)):=hJ (λa=>aZ a A);rw[bH A]at AC|-;generalize gQ (s.A 0) z (Kn.cD s.k z)=ap at*;generalize Kn.cD s.k z=ae at*;generalize s.A 0=kb at*;go_in
  go_wp2_with fail
  refine cG AC.v ?_;go_wp2
  go_ret2
  exact⟨_,rfl,T.v,aQ _ _⟩
end
def Kn.FG(k:Kp)(G:Fo):Prop:=Tr.Ok G/\WX (Kn.jO k) k.fi G k.pi
theorem WX.hk{T:Nat->Fi}{S:Nat->Pi}(h:WX xx T F S)(e:∀m,(G.nd m).held=(F.nd m).held/\(G.nd m).kind=(F.nd m).kind):WX xx T G S:=
 h.sr (λm _=>(e m).1) (λm _ _=>(e m).2) (λm hm k=>by rw[(e m).1];rw[(e m).2]at k;exact h.z0 m hm k)
theorem Tr.LZ{x:Nd}(h:x.held=(F.nd n).held/\x.kind=(F.nd n).kind)(m:Nat):((F.put n x).nd m).held=(F.nd m).held/\((F.put n x).nd m).kind=(F.nd m).kind:=by
 by_cases c:m=n
 .subst c;rw[Tr.bM];exact h
 .rw[Tr.bP _ _ _ _ c];exact⟨rfl,rfl⟩
theorem WX.Ue{T:Nat->Fi}{S:Nat->Pi}(h:WX xx T F S){s o:bU}(hm:Tr.Hw F z s y o E G):WX xx T G S:=by
 obtain⟨K,e,_,⟨_,_,rfl⟩|⟨_,⟨_,_,rfl⟩|⟨_,⟨_,_,rfl⟩|⟨_,⟨_,_,rfl⟩|⟨_,i,_,e2,_,⟨_,_,rfl⟩|⟨_,_,rfl⟩⟩⟩⟩⟩⟩:=hm<;>try exact h
 refine h.hk (λm=>?_);unfold Tr.Jf;rw[(WX.Lo _ m).1,(WX.Lo _ m).2];refine Tr.LZ ?_ m;exact⟨rfl,rfl⟩
theorem WX.T5{T:Nat->Fi}{S:Nat->Pi}(h:WX xx T F S){s:bU}(hm:Tr.Cj F y z s E G):WX xx T G S:=by
 obtain⟨_,_,rfl⟩|⟨_,e,_,⟨_,_,rfl⟩|⟨_,⟨_,_,rfl⟩|⟨_,_,rfl⟩⟩⟩:=hm<;>try exact h
 refine h.hk (λm=>?_);unfold Tr.Aq;rw[(WX.Lo _ m).1,(WX.Lo _ m).2];refine Tr.LZ ?_ m;exact⟨rfl,rfl⟩
theorem bO.Dq{V:bD}(h:bO w Wt s)(b:Below w.heap.size w V)(u:bS w' (s.A 6) G)(f:bG (s.A 6) V w'):bO w' Wt {s with k:={s.k with fo:=G}}/\KF s w {s with k:={s.k with fo:=G}} w':=
 have q:=(h.below b).Cv u f
 ⟨q.1,(KF.below b).trans q.2⟩
def Kn.tZ(k:Kp)(v:Value)(k':Kp):Prop:=∃E G,v=bN E/\Kn.FG k G/\k'={k with fo:=G}
theorem Kn.Nx.at(h:bO w Wt s)(b:Below w.heap.size w w')(r:R v s.k):Kn.Nx Wt s w R (bf v) w':=⟨v,s,rfl,r,h.below b,KF.below b⟩
theorem Kn.tZ.no(h:KJ X N k)(e:bN E=v):Kn.tZ k v k:=⟨E,k.fo,e.symm,⟨h.ok,h.wx⟩,rfl⟩
theorem Qm{u:Value}(e:bN E=v):bf (ao #[u,v])=bf (ao #[u,bN E]):=by rw[e]
section
variable (Wt N:Nat)(d:Nat->Nat)(s:St)(w:bD)
theorem uK(z:Int)(p:bU)(h:bO w Wt s)(hj:KJ (λ_=>False) N s.k):
  Calls prog 198 #[ai (bj ⟨s.A 0,0,bu⟩),aa az z,ak p] w λe w'=>∃x E:Int,e=bf (ao #[aa az x,bN E])/\Below w.heap.size w w':=by
 have TB:=hJ (jR Wt N s w z h hj);have H:=hJ (aK h hj);generalize hk:s.A 0=kb at TB|-;go_in
 go_wp2_with fail
 refine TB.mono ?_;rintro e w1 ⟨v,rfl,tp,b1⟩;have B1:=hJ b1;by_cases A:Kn.cD s.k z=0
 .obtain⟨y,y6,yt,rfl⟩:=tp A;have K1:=H.1.below b1;have WA:=hJ (Fc Wt (s.A (49+y)) (s.A 6) (s.k.tb y) (s.V y) s.k.fo p w1 (K1.tb y y6 yt) K1.fo H.2.ok.sz);rw[A,bF];generalize s.A (49+y)=tb at*;go_wp2_with fail
  refine WA.mono ?_;rintro e w2 ⟨x,E,rfl,_,b2⟩;have B2:Hid (Below w.heap.size w w2):=hJ (B1.trans (b2.mono B1.size));go_wp2
  go_ret2
  exact⟨x.2,E,rfl,B2.alloc B2.size _⟩
 .have A':=hJ (bH A);rw[bH A];generalize Kn.cD s.k z=ae at*;go_wp2
  go_ret2
  exact⟨0,ae,Qm A'.v,B1.v⟩
theorem Ou(z:Int)(p:bU)(h:bO w Wt s)(hj:KJ (λ_=>False) N s.k):
  Calls prog 128 #[ai (bj ⟨s.A 0,0,bu⟩),aa az z,ak p] w (Kn.Nx Wt s w (Kn.tZ s.k)):=by
 have TB:=hJ (jR Wt N s w z h hj);have H:=hJ (aK h hj);have RM:Hid (∀V (x:Int) (nm:bU),Below w.heap.size w V->Calls prog 206 #[ai (bj ⟨s.A 6,0,bu⟩),aa az x,ak nm] V λe w'=>∃E G,e=bf (bN E)/\Kn.FG s.k G/\bO w' Wt {s with k:={s.k with fo:=G}}/\KF s w {s with k:={s.k with fo:=G}} w'):=hJ (λV x nm b=>(Gi (s.A 6) x nm s.k.fo V (h.below b).fo hj.ok.sz hj.ok.cY).mono (by rintro _ w' ⟨E,G,rfl,r,u,f⟩;exact⟨E,G,rfl,⟨hj.ok.rem r,hj.wx.rem r⟩,h.Dq b u f⟩));have C6:Hid (∀V,Below w.heap.size w V->V.cell? ⟨s.A 0,250,bu⟩=bj (ai (bj ⟨s.A 6,0,bu⟩))):=hJ (λV b=>(h.below b).wJ);generalize hk:s.A 0=kb at TB C6|-;go_in
 go_wp2_with fail
 refine TB.mono ?_;rintro e w1 ⟨v,rfl,tp,b1⟩;have B1:=hJ b1;by_cases A:Kn.cD s.k z=0
 .obtain⟨y,y6,yt,rfl⟩:=tp A;have K1:=H.1.below b1;have LA:=hJ (xD Wt (s.A (49+y)) (s.A 6) (s.k.tb y) (s.V y) s.k.fo p w1 (K1.tb y y6 yt) K1.fo H.2.ok.sz);rw[A,bF];generalize s.A (49+y)=tb at*;generalize s.A 6=a6 at*;go_wp2_with fail
  refine LA.mono ?_;rintro e w2 ⟨x,nm,E,rfl,_,b2⟩;have B2:Hid (Below w.heap.size w w2):=hJ (B1.trans (b2.mono B1.size));by_cases E0:E=0
  .subst E0;rw[bF];go_upto_region 7 with fail
   have B3:=hJ (B2.alloc B2.size (bh #[aa az x.1,aa az x.2] 224));have c6:=C6.v _ B3.v;go_region_with ((go_at_call 206;refine(RM.v _ _ _ (by first|exact B3.v|exact B3.drew)).mono ?_;rintro e w4 ⟨E,G,rfl,S4⟩;have S4:=hJ S4))
   all_goals
    go_wp2
    go_ret
    exact .mk ⟨E,G,rfl,S4.1,rfl⟩ S4.2
  .have E1:=hJ (bH E0);rw[bH E0];go_wp2
   go_ret
   exact .at H.1 (B2.alloc B2.size _) (.no H.2 E1.v)
 .have A':=hJ (bH A);rw[bH A];generalize Kn.cD s.k z=ae at*;go_wp2
  go_ret
  exact .at H.1 B1.v (.no H.2 A'.v)
end
namespace Gr
def JN(li:Bool)(t t':Nat->Gp):Prop:=t'=t\/(∃n p:Nat,n<10/\(t n).there=bA/\t'=eS t n (mi p))\/(∃(Wy:Nat->List (Fin 10)) (n:Nat),n<10/\n≠0/\dC t Wy/\cr t Wy n Gp.op 10=0/\cr t Wy n Gp.oq 10=0/\t'=eS t n jM)\/li=bw/\∃(n:Nat) (a b:Int),t'=eS t n {t n with lp:=a,lq:=b}
def JM(li:Bool)(t:Nat->Gp)(N b:Nat)(V w':bD):Prop:=∃t',JN li t t'/\(∃Wy,Tree t' Wy N)/\bT w' b t'/\Go.Proofs.YtpmmdkcfenjiaaaGreatDoor.bG b V w'
section
variable {li:Bool}{t:Nat->Gp}{Wy:Nat->List (Fin 10)}{N b:Nat}{V:bD}
theorem JM.same(hT:Tree t Wy N)(h:bT V b t)(k:RowKit.Below V.heap.size V w'):JM li t N b V w':=⟨t, .inl rfl,⟨Wy,hT⟩,h.below k h.lt,Go.Proofs.YtpmmdkcfenjiaaaGreatDoor.bG.cL k⟩
theorem Rl(hT:Tree t Wy N)(g:Int)(h:bT V b t):Calls prog 111 #[ai (bj ⟨b,0,bu⟩),aa az g] V λe w'=>∃x E:Int,e=bf (ao #[aa az x,bN E])/\JM bA t N b V w':=by
 by_cases r:wr t g=0
 .obtain⟨n,rfl,hn,hh⟩:=nQ r;by_cases d:4<=(Wy n).length
  .refine sC (xg b n t (Wy n) V h (hT.ways n hn) hn hh d (by have:=hT.deep n hn;omega)) ?_;rintro w' k;exact⟨_,_,rfl, .same hT h k⟩
  .refine(xh b n t (Wy n) V h (hT.ways n hn) hn hh bB).mono ?_;rintro _ w' (⟨m,hm,hf,_,rfl,u,f⟩|⟨_,rfl,k⟩)
   .exact⟨_,_,rfl,_, .inr (.inl ⟨m,n,hm,hf,rfl⟩),⟨_,hT.add hm hf hn hh bB⟩,u,f.sK⟩
   .exact⟨_,_,rfl, .same hT h k⟩
 .refine sC (QK b g t V h r) ?_;rintro w' rfl;exact⟨_,_,rfl, .same hT h (RowKit.Below.refl _ _)⟩
theorem Rn(hT:Tree t Wy N)(hN:N<=1000)(g:Int)(h:bT V b t):Calls prog 113 #[ai (bj ⟨b,0,bu⟩),aa az g] V λe w'=>∃E:Int,e=bf (bN E)/\JM bA t N b V w':=by
 by_cases r:wr t g=0
 .obtain⟨n,rfl,hn,hh⟩:=nQ r;by_cases n0:n=0
  .subst n0;refine sC (Gd b t V h hh) ?_;rintro w' rfl;exact⟨_,rfl, .same hT h (RowKit.Below.refl _ _)⟩
  .by_cases hx:cr t Wy n Gp.op 10=0/\cr t Wy n Gp.oq 10=0
   .cases ha:pO t n
    .refine sC (L9 b n t Wy V h hT.ways (hT.small hN) hn n0 hh hx ha) ?_;rintro w' ⟨u,f⟩;exact⟨_,rfl,_, .inr (.inr (.inl ⟨Wy,n,hn,n0,hT.ways,hx.1,hx.2,rfl⟩)),⟨_,hT.rem n0 ha⟩,u,f.sK⟩
    .refine sC (Jn b n t Wy V h hT.ways (hT.small hN) hn n0 hh hx ha) ?_;rintro w' k;exact⟨_,rfl, .same hT h k⟩
   .refine sC (Jp b n t Wy V h hT.ways (hT.small hN) hn n0 hh bB) ?_;rintro w' k;exact⟨_,rfl, .same hT h k⟩
 .refine sC (Jo b g t V h r) ?_;rintro w' rfl;exact⟨_,rfl, .same hT h (RowKit.Below.refl _ _)⟩
theorem Rm(hT:Tree t Wy N)(g p q:Int)(h:bT V b t):Calls prog 115 #[ai (bj ⟨b,0,bu⟩),aa az g,aa az p,aa az q] V λe w'=>∃E:Int,e=bf (bN E)/\JM bw t N b V w':=by
 by_cases r:wr t g=0
 .obtain⟨n,rfl,hn,hh⟩:=nQ r;cases hf:ji p q (-1)
  .refine sC (F9 b n p q t V h hn hh hf) ?_;rintro w' k;exact⟨_,rfl, .same hT h k⟩
  .refine sC (OG b n p q t V h hn hh hf) ?_;rintro w' ⟨u,f⟩;exact⟨_,rfl,_, .inr (.inr (.inr ⟨rfl,n,p,q,rfl⟩)),⟨_,hT.UX⟩,u,f.sK⟩
 .refine sC (Lq b g p q t V h r) ?_;rintro w' rfl;exact⟨_,rfl, .same hT h (RowKit.Below.refl _ _)⟩
end
end Gr
namespace Kn
def SG(k:Kp)(m:Wf.M):Prop:=Wf.SG k.sc m
def lK(li:Bool)(N:Nat)(k k':Kp):Prop:=∃t m,Gr.JN li k.gr t/\(∃Wy,Gr.Tree t Wy N)/\SG k m/\k'={k with gr:=t,sc:=m}
theorem lK.sc{li:Bool}{N:Nat}{X:Nat->Prop}{k:Kp}(h:KJ X N k){m:Wf.M}(g:SG k m):lK li N k {k with sc:=m}:=⟨k.gr,m, .inl rfl,h.gr,g,rfl⟩
end Kn
section
variable (Wt N:Nat)(d:Nat->Nat)(s:St)(w:bD)
theorem Fv(z:Int)(on:Bool)(h:bO w Wt s)(hj:KJ (λ_=>False) N s.k):
  Calls prog 54 #[ai (bj ⟨s.A 0,0,bu⟩),aa az z,ar on] w (Kn.Nx Wt s w λv k'=>(∃E,v=bN E)/\Kn.lK bA N s.k k'):=by
 have FZ:Hid (Calls prog 119 #[ai (bj ⟨s.A 3,0,bu⟩),aa az z,ar on] w (Kn.Nx Wt s w λv k'=>(∃E,v=bN E)/\Kn.lK bA N s.k k')):=hJ ((Wf.IA (s.A 3) s.k.sc w z on h.sc).mono (by
  rintro _ w' ⟨E,m,rfl,t,u,f⟩;exact .mk ⟨⟨_,rfl⟩, .sc hj t⟩ (h.lH u f)))
 have c8:=h.wM;generalize s.A 0=kb at*;generalize s.A 3=a3 at*;go_in
 go_wp2_with fail
 refine FZ.mono ?_;rintro e w1 ⟨v,s',rfl,S1⟩;have S1:=hJ S1;go_wp2
 go_ret
 exact⟨v,s',rfl,S1.v⟩
theorem I4(z q p:Int)(h:bO w Wt s)(hj:KJ (λ_=>False) N s.k):
  Calls prog 55 #[ai (bj ⟨s.A 0,0,bu⟩),aa az z,aa az q,aa az p] w (Kn.Nx Wt s w λv k'=>(∃E,v=bN E)/\Kn.lK bA N s.k k'):=by
 have FZ:Hid (Calls prog 120 #[ai (bj ⟨s.A 3,0,bu⟩),aa az z,aa az q,aa az p] w (Kn.Nx Wt s w λv k'=>(∃E,v=bN E)/\Kn.lK bA N s.k k')):=hJ ((Wf.L4 (s.A 3) s.k.sc w z q p h.sc).mono (by
  rintro _ w' ⟨E,m,rfl,t,u,f⟩;exact .mk ⟨⟨_,rfl⟩, .sc hj t⟩ (h.lH u f)))
 have c8:=h.wM;generalize s.A 0=kb at*;generalize s.A 3=a3 at*;go_in
 go_wp2_with fail
 refine FZ.mono ?_;rintro e w1 ⟨v,s',rfl,S1⟩;have S1:=hJ S1;go_wp2
 go_ret
 exact⟨v,s',rfl,S1.v⟩
theorem IP(z q p:Int)(h:bO w Wt s)(hj:KJ (λ_=>False) N s.k):
  Calls prog 51 #[ai (bj ⟨s.A 0,0,bu⟩),aa az z,aa az q,aa az p] w (Kn.Nx Wt s w λv k'=>(∃E,v=bN E)/\Kn.lK bw N s.k k'):=by
 obtain⟨Wy,hT⟩:=hj.gr;have FZ:Hid (Calls prog 115 #[ai (bj ⟨s.A 2,0,bu⟩),aa az z,aa az q,aa az p] w (Kn.Nx Wt s w λv k'=>(∃E,v=bN E)/\Kn.lK bw N s.k k')):=hJ ((Gr.Rm hT z q p h.gr).mono (by
  rintro _ w' ⟨E,rfl,t,g,tr,u,f⟩;exact .mk ⟨⟨E,rfl⟩,t,s.k.sc,g,tr,Wf.SG.refl _,rfl⟩ (h.ks u f)))
 have c8:=h.pA;generalize s.A 0=kb at*;generalize s.A 2=a3 at*;go_in
 go_wp2_with fail
 refine FZ.mono ?_;rintro e w1 ⟨v,s',rfl,S1⟩;have S1:=hJ S1;go_wp2
 go_ret
 exact⟨v,s',rfl,S1.v⟩
theorem I3(h:bO w Wt s)(hj:KJ (λ_=>False) N s.k):
  Calls prog 33 #[ai (bj ⟨s.A 0,0,bu⟩)] w (Kn.Nx Wt s w λv k'=>∃(T:Nat) (E:Int) (G:Fo),v=ao #[aa az (T:Int),bN E]/\Tr.ra s.k.fo T E G/\k'={s.k with fo:=G}):=by
 have FZ:Hid (Calls prog 89 #[ai (bj ⟨s.A 6,0,bu⟩)] w λe w'=>∃(T:Nat) (E:Int) (G:Fo),e=bf (ao #[aa az (T:Int),bN E])/\Tr.ra s.k.fo T E G/\bO w' Wt {s with k:={s.k with fo:=G}}/\KF s w {s with k:={s.k with fo:=G}} w'):=hJ ((zs (s.A 6) s.k.fo w h.fo hj.ok.tr).mono (by
  rintro _ w' ⟨T,E,G,rfl,r,u,f⟩;exact⟨T,E,G,rfl,r,h.Dq (aQ _ _) u f⟩))
 have c8:=h.wJ;generalize s.A 0=kb at*;generalize s.A 6=a3 at*;go_in
 go_wp2_with fail
 refine FZ.mono ?_;rintro e w1 ⟨T,E,G,rfl,r,S1⟩;have S1:=hJ (aK r S1);go_wp2
 go_ret2
 exact .mk ⟨T,E,G,rfl,S1.1,rfl⟩ S1.2
end
section
variable (Wt N:Nat)(d:Nat->Nat)(s:St)(w:bD)
theorem KR(p wt:Int)(h:bO w Wt s)(hj:KJ (λ_=>False) N s.k):
  Calls prog 49 #[ai (bj ⟨s.A 0,0,bu⟩),aa az p,aa az wt] w (Kn.Nx Wt s w λv k'=>(∃x E:Int,v=ao #[aa az x,bN E])/\Kn.lK bA N s.k k'):=by
 obtain⟨Wy,hT⟩:=hj.gr;have H:=hJ h;have OK:Hid (Kn.SG s.k s.k.sc/\∃Wy,Gr.Tree s.k.gr Wy N):=hJ ⟨Wf.SG.refl _,hj.gr⟩;have AD:Hid (Calls prog 111 #[ai (bj ⟨s.A 2,0,bu⟩),aa az p] w λe w'=>∃(x E:Int) (t:Nat->Gr.Gp),e=bf (ao #[aa az x,bN E])/\(Gr.JN bA s.k.gr t/\∃Wy,Gr.Tree t Wy N)/\bO w' Wt {s with k:={s.k with gr:=t}}/\KF s w {s with k:={s.k with gr:=t}} w'):=hJ ((Gr.Rl hT p h.gr).mono (by
  rintro _ w' ⟨x,E,rfl,t,g,tr,u,f⟩;exact⟨x,E,t,rfl,⟨g,tr⟩,h.ks u f⟩))
 have AG:Hid (∀V t (x:Int),bO V Wt {s with k:={s.k with gr:=t}}->Calls prog 112 #[ai (bj ⟨s.A 3,0,bu⟩),aa az x,aa az p,aa az wt] V λe w'=>∃E m,e=bf (bN E)/\Kn.SG s.k m/\bO w' Wt {s with k:={s.k with gr:=t,sc:=m}}/\KF {s with k:={s.k with gr:=t}} V {s with k:={s.k with gr:=t,sc:=m}} w'):=hJ (λV t x k=>(Wf.CE (s.A 3) s.k.sc V x p wt k.sc).mono (by
  rintro _ w' ⟨E,m,rfl,g,u,f⟩;exact⟨_,_,rfl,g,k.lH u f⟩))
 have c2:=h.pA;have C3:Hid (∀V t,bO V Wt {s with k:={s.k with gr:=t}}->V.cell? ⟨s.A 0,248,bu⟩=bj (ai (bj ⟨s.A 3,0,bu⟩))):=hJ (λV t k=>k.wM);generalize s.A 0=kb at*;generalize s.A 2=a2 at*;generalize s.A 3=a3 at*;by_cases c:wt<1\/1000<wt
 .by_cases c1:wt<1
  all_goals
   go_in
   go_wp2
   go_ret2
   exact .no H.v ⟨⟨0,1,rfl⟩,s.k.gr,s.k.sc, .inl rfl,OK.2,OK.1,rfl⟩
 .have c1:¬wt<1:=λe=>c (.inl e);have c3:¬1000<wt:=λe=>c (.inr e);go_in
  go_wp2_with fail
  refine AD.mono ?_;rintro e w1 ⟨x,E,t,rfl,S1⟩;have S1:=hJ S1;by_cases e0:E=0
  .subst e0;rw[bF];have AG:=hJ (AG.v w1 t x S1.2.1);have c3:=C3.v w1 t S1.2.1;go_wp2_with fail
   refine AG.mono ?_;rintro e w2 ⟨E,m,rfl,S2⟩;have S2:=hJ S2;go_wp2
   go_ret2
   exact .mk ⟨⟨x,0,rfl⟩,t,m,S1.1.1,S1.1.2,S2.1,rfl⟩ ⟨S2.2.1,S1.2.2.trans S2.2.2⟩
  .have E1:=hJ (bH e0);rw[bH e0];go_wp2
   go_ret2
   exact .mk ⟨⟨0,E,by rw[E1.v];rfl⟩,t,s.k.sc,S1.1.1,S1.1.2,OK.1,rfl⟩ S1.2
theorem IM(hN:N<=1000)(p:Int)(h:bO w Wt s)(hj:KJ (λ_=>False) N s.k):
  Calls prog 50 #[ai (bj ⟨s.A 0,0,bu⟩),aa az p] w (Kn.Nx Wt s w λv k'=>(∃E:Int,v=bN E)/\Kn.lK bA N s.k k'):=by
 obtain⟨Wy,hT⟩:=hj.gr;have OK:Hid (Kn.SG s.k s.k.sc):=hJ (Wf.SG.refl _);have AD:Hid (Calls prog 113 #[ai (bj ⟨s.A 2,0,bu⟩),aa az p] w λe w'=>∃(E:Int) (t:Nat->Gr.Gp),e=bf (bN E)/\(Gr.JN bA s.k.gr t/\∃Wy,Gr.Tree t Wy N)/\bO w' Wt {s with k:={s.k with gr:=t}}/\KF s w {s with k:={s.k with gr:=t}} w'):=hJ ((Gr.Rn hT hN p h.gr).mono (by
  rintro _ w' ⟨E,rfl,t,g,tr,u,f⟩;exact⟨E,t,rfl,⟨g,tr⟩,h.ks u f⟩))
 have AG:Hid (∀V t,bO V Wt {s with k:={s.k with gr:=t}}->Calls prog 114 #[ai (bj ⟨s.A 3,0,bu⟩),aa az p] V λe w'=>∃E m,e=bf (bN E)/\Kn.SG s.k m/\bO w' Wt {s with k:={s.k with gr:=t,sc:=m}}/\KF {s with k:={s.k with gr:=t}} V {s with k:={s.k with gr:=t,sc:=m}} w'):=hJ (λV t k=>(Wf.Cc (s.A 3) s.k.sc V p k.sc).mono (by
  rintro _ w' ⟨E,m,rfl,g,u,f⟩;exact⟨_,_,rfl,g,k.lH u f⟩))
 have c2:=h.pA;have C3:Hid (∀V t,bO V Wt {s with k:={s.k with gr:=t}}->V.cell? ⟨s.A 0,248,bu⟩=bj (ai (bj ⟨s.A 3,0,bu⟩))):=hJ (λV t k=>k.wM);generalize s.A 0=kb at*;generalize s.A 2=a2 at*;generalize s.A 3=a3 at*;go_in
 go_wp2_with fail
 refine AD.mono ?_;rintro e w1 ⟨E,t,rfl,S1⟩;have S1:=hJ S1;by_cases e0:E=0
 .subst e0;rw[bF];have AG:=hJ (AG.v w1 t S1.2.1);have c3:=C3.v w1 t S1.2.1;go_wp2_with fail
  refine AG.mono ?_;rintro e w2 ⟨E,m,rfl,S2⟩;have S2:=hJ S2;go_wp2
  go_ret
  exact .mk ⟨⟨E,rfl⟩,t,m,S1.1.1,S1.1.2,S2.1,rfl⟩ ⟨S2.2.1,S1.2.2.trans S2.2.2⟩
 .have E1:=hJ (bH e0);rw[bH e0];go_wp2
  go_ret
  exact .mk ⟨⟨E,E1.symm⟩,t,s.k.sc,S1.1.1,S1.1.2,OK.v,rfl⟩ S1.2
end
def Kn.xB(k:Kp)(n:Nat)(g:Int)(t:Nat->Gr.Gp)(m:Wf.M):Kp:={k.put n {k.p n with cA:=g}with gr:=t,sc:=m}
def Kn.w9(k:Kp)(z g:Int)(v:Value)(k':Kp):Prop:=∃E,v=bN E/\(k'=k\/∃(n:Nat) (Wy:Nat->List (Fin 10)) (m:Wf.M),z=n/\n<20/\Kn.lv k n=bw/\Gr.dC k.gr Wy/\Gr.np k.gr Wy (k.p n).cA g 1 (Mv.cM (k.p n).mem 16:Int)=0/\Kn.SG k m/\k'=Kn.xB k n g (Gr.jZ k.gr Wy (k.p n).cA g 1 (Mv.cM (k.p n).mem 16:Int)) m)
section
variable (Wt N:Nat)(d:Nat->Nat)(s:St)(w:bD)
theorem KZ(hN:N<=1000)(z g:Int)(h:bO w Wt s)(hj:KJ (λ_=>False) N s.k):
  Calls prog 52 #[ai (bj ⟨s.A 0,0,bu⟩),aa az z,aa az g] w (Kn.Nx Wt s w (Kn.w9 s.k z g)):=by
 have AC:=hJ (dG Wt s w z h);have H:=hJ (aK h hj);by_cases A:Kn.cD s.k z=0
 .obtain⟨n,rfl,hn,hl⟩:=Kn.fL A;have hs:=hj.lv n hn (λx=>x) (Kn.dL.1 hl);obtain⟨Wy,hT⟩:=hj.gr;have RS:Hid (∀V,Below w.heap.size w V->Calls prog 64 #[ai (bj ⟨s.A (9+n),0,bu⟩)] V λe w'=>e=bf (aa az (Mv.cM (s.k.p n).mem 16:Int))/\Below w.heap.size w w'):=hJ (λV b=>(mW _ _ _ V ((h.below b).me n hn hs)).mono (by rintro _ w' ⟨rfl,b2⟩;exact⟨rfl,b.trans (b2.mono b.size)⟩));have MV:Hid (∀V,Below w.heap.size w V->Calls prog 116 #[ai (bj ⟨s.A 2,0,bu⟩),aa az (s.k.p n).cA,aa az g,aa az 1,aa az (Mv.cM (s.k.p n).mem 16:Int)] V λe w'=>e=bf (bN (Gr.np s.k.gr Wy (s.k.p n).cA g 1 (Mv.cM (s.k.p n).mem 16:Int)))/\bO w' Wt {s with k:={s.k with gr:=Gr.jZ s.k.gr Wy (s.k.p n).cA g 1 (Mv.cM (s.k.p n).mem 16:Int)}}/\KF s w {s with k:={s.k with gr:=Gr.jZ s.k.gr Wy (s.k.p n).cA g 1 (Mv.cM (s.k.p n).mem 16:Int)}} w'):=hJ (λV b=>(Gr.OW (s.A 2) _ g 1 _ s.k.gr Wy V (h.below b).gr hT.ways (hT.small hN)).mono (by
   rintro _ w' ⟨rfl,u,f⟩;have q:=(h.below b).ks u f.sK;exact⟨rfl,q.1,(KF.below b).trans q.2⟩))
  have CC:Hid (∀V t,bO V Wt {s with k:={s.k with gr:=t}}->V.cell? ⟨s.A 0,247,bu⟩=bj (ai (bj ⟨s.A 2,0,bu⟩))/\V.cell? ⟨s.A 0,n*12+2,bu⟩=bj (aa az (s.k.p n).cA)/\V.cell? ⟨s.A 0,n*12+4,bu⟩=bj (ai (bj ⟨s.A (9+n),0,bu⟩))):=hJ (λV t k=>⟨k.pA,k.pP n hn,k.qv n hn hs⟩);have C0:Hid (∀V,Below w.heap.size w V->V.cell? ⟨s.A 0,247,bu⟩=bj (ai (bj ⟨s.A 2,0,bu⟩))/\V.cell? ⟨s.A 0,n*12+2,bu⟩=bj (aa az (s.k.p n).cA)/\V.cell? ⟨s.A 0,n*12+4,bu⟩=bj (ai (bj ⟨s.A (9+n),0,bu⟩))):=hJ (λV b=>CC.v V s.k.gr (h.below b));have ME:Hid (Gr.np s.k.gr Wy (s.k.p n).cA g 1 (Mv.cM (s.k.p n).mem 16:Int)≠0->({s.k with gr:=Gr.jZ s.k.gr Wy (s.k.p n).cA g 1 (Mv.cM (s.k.p n).mem 16:Int)}:Kp)=s.k):=hJ (λe=>by unfold Gr.jZ;rw[aI e]);have HW:=hJ (aK hT.ways (aK hl hs));have DD:Hid (∀m,Kn.SG s.k m->Gr.np s.k.gr Wy (s.k.p n).cA g 1 (Mv.cM (s.k.p n).mem 16:Int)=0->∀E,Kn.w9 s.k n g (bN E) (Kn.xB s.k n g (Gr.jZ s.k.gr Wy (s.k.p n).cA g 1 (Mv.cM (s.k.p n).mem 16:Int)) m)):=hJ (λm sg e E=>⟨E,rfl, .inr ⟨n,Wy,m,rfl,hn,hl,hT.ways,e,sg,rfl⟩⟩);obtain⟨kb,hk⟩:=hU (s.A 0);have HK:=hJ hk;rw[A,bF,gC]at AC;generalize (Mv.cM (s.k.p n).mem 16:Int)=rs at*;generalize (s.k.p n).cA=gp at*;generalize Gr.np s.k.gr Wy gp g 1 rs=me at*;generalize Gr.jZ s.k.gr Wy gp g 1 rs=tt at*;rw[hk]at AC CC C0|-;generalize s.A 2=a2 at*;generalize s.A (9+n)=m9 at*;go_in
  go_wp2_with fail
  refine cG AC.v ?_;go_upto_region 4 with fail
  have K0:=hJ (C0.v _ (aQ _ _));obtain⟨y1,y2,y3⟩:=K0.v;go_region_held3 (λw'=>w'.cell? ⟨kb,247,bu⟩=bj (ai (bj ⟨a2,0,bu⟩))/\w'.cell? ⟨kb,n*12+2,bu⟩=bj (aa az gp)/\w'.cell? ⟨kb,n*12+4,bu⟩=bj (ai (bj ⟨m9,0,bu⟩))) (first|exact K0.v|exact C0.v _ B4.v|exact CC.v _ _ S5.1) (
   (first
    |(go_at_call 64;refine sC (RS.v _ (by first|exact aQ _ _|exact(aQ _ _).drew)) ?_;rintro w4 b4;have B4:=hJ b4)
    |(go_at_call 116;refine sC (MV.v _ (by first|exact B4.v|exact B4.drew)) ?_;rintro w5 S5;have S5:=hJ S5)))
  by_cases e0:me=0
  .have E0:=hJ e0;rw[e0,bF];have z2:=(CC.v _ _ S5.1).2.1;have fz:=S5.1.frozen;have q:=S5.1.Uo hn g;rw[show({s with k:={s.k with gr:=tt}}:St).A 0=kb from HK.v]at q fz;have MT:Hid (∀V,V=w5.setCell ⟨kb,n*12+2,bu⟩ (aa az g)->V.cell? ⟨kb,248,bu⟩=bj (ai (bj ⟨s.A 3,0,bu⟩))/\Calls prog 117 #[ai (bj ⟨s.A 3,0,bu⟩),aa az n,aa az g] V λe w'=>∃E m,e=bf (bN E)/\Kn.SG s.k m/\bO w' Wt {s with k:=Kn.xB s.k n g tt m}/\KF s w {s with k:=Kn.xB s.k n g tt m} w'):=hJ (λV e=>by
    subst e;have c:=q.1.wM;rw[show({s with k:=Kn.Kp.put {s.k with gr:=tt} n {({s.k with gr:=tt}:Kp).p n with cA:=g}}:St).A 0=kb from HK.v]at c;refine⟨c,(Wf.D0 (s.A 3) s.k.sc _ n g q.1.sc).mono ?_⟩;rintro _ w' ⟨E,m,rfl,mt,u,f⟩;have r:=q.1.lH u f;exact⟨_,m,rfl,mt,r.1,S5.2.trans (q.2.trans r.2)⟩)
   obtain⟨W,hW⟩:=hU (w5.setCell ⟨kb,n*12+2,bu⟩ (aa az g));obtain⟨z8,M8⟩:=MT.v W hW.symm;have M8:=hJ M8;generalize s.A 3=a3 at*;go_wp2_with fail
   refine M8.mono ?_;rintro e w6 ⟨E,m,rfl,S6⟩;have S6:=hJ S6;go_wp2
   go_ret
   exact .mk (DD.v m S6.1 E0.v E) S6.2
  .have E1:=hJ (aK (bH e0) (ME.v e0));rw[bH e0];go_wp2
   go_ret
   exact .mk ⟨me,E1.1.symm, .inl E1.2⟩ S5.v
 .have A':=hJ (bH A);rw[bH A]at AC;generalize gQ (s.A 0) z (Kn.cD s.k z)=ap at*;generalize Kn.cD s.k z=ae at*;generalize s.A 0=kb at*;go_in
  go_wp2_with fail
  refine cG AC.v ?_;go_wp2
  go_ret
  exact .no H.1 ⟨ae,A'.symm, .inl rfl⟩
end
def qM(s:St):List Value:=(List.range 240).map λo=>Kn.pc s (o/12) (o%12)
theorem Hc(s:St):(qM s).length=240:=by simp[qM]
theorem bO.qM{w:bD}{Wt:Nat}{s:St}(h:bO w Wt s):w.rangeAt (s.A 0) 0 (qM s):=λj v hv=>by
 have hj:j<240:=by have:=(aY.1 hv).1;rwa [Hc]at this
 simp[YtpmmdkcfenjiaaaGreatDoor.qM,hj]at hv;rw[Nat.zero_add,<-hv];have:=h.cP (j/12) (j%12) bB bB;rwa [show j/12*12+j%12=j by omega]at this
theorem Ui(s:St)(x:Nat)(h:x<20):(qM s).toArray.extract (x*12) (x*12+12)=dZ (s.A (9+x)) (s.A (29+x)) (s.k.p x):=by
 have hs:(qM s).toArray.size=240:=by simp[qM]
 apply bL;intro i;rw[Array.getElem?_extract];by_cases hi:i<12
 .rw[aJ (by rw[hs];omega),lT _ _ _ i hi];have e:(qM s).toArray[x*12+i]? =bj (Kn.pc s ((x*12+i)/12) ((x*12+i)%12)):=by simp[qM,show x*12+i<240 by omega]
  rw[e,show(x*12+i)/12=x by omega,show(x*12+i)%12=i by omega];rfl
 .rw[aI (by rw[hs];omega),aR (by rw[dM];omega)]
theorem KN(s:St)(x:Nat)(h:x<20)(w:bD):Sem.run prog (Instr.index 75 (au (qM s).toArray) (aa az x)) w= .ok (au (dZ (s.A (9+x)) (s.A (29+x)) (s.k.p x))) w:=by
 have hu:prog.underlying 75=bj (.array 20 74):=by kernel_rfl
 have hx:=Ui s x h;have h1:(x:Int)<20:=bB
 obtain⟨A,hA⟩:=hU ((qM s).toArray);obtain⟨B,hB⟩:=hU (dZ (s.A (9+x)) (s.A (29+x)) (s.k.p x));rw[hA,hB]at hx;rw[hA,hB];simp[Instr.index,Sem.run_bind,run_underlying hu,go_sem,hx];intro c;omega
theorem O8(s:St):(prog.info? 75).map (·.size)=bj (qM s).length:=by rw[Hc];kernel_rfl
theorem Gr.UG{t:Nat->Gr.Gp}(h:Gr.dC t Wy)(g:Int):∃xs,Gr.Way t g (Gr.gq xs):=by
 by_cases v:Gr.valid t g
 .obtain⟨h0,h1,h2⟩:=v;have:=h g.toNat bB;rw[show((g.toNat:Nat):Int)=g by omega]at this;exact⟨_,this⟩
 .exact⟨[],v⟩
def Kn.CD(k:Kp)(r:Int):Prop:=r= -1\/∃m:Nat,r=m/\m<20/\m≠0/\Kn.lv k m=bw
section
variable (Wt N:Nat)(d:Nat->Nat)(s:St)(w:bD)
theorem Cd(g:Int)(h:bO w Wt s)(hj:KJ (λ_=>False) N s.k):
  Calls prog 239 #[ai (bj ⟨s.A 0,0,bu⟩),aa az g] w λe w'=>∃r,e=bf (aa az r)/\Kn.CD s.k r/\Below w.heap.size w w':=by
 have hsz:=hJ (O8 s);have HR:=hJ h.qM;have H:=hJ (aK h hj);obtain⟨kb,hk⟩:=hU (s.A 0);have HK:=hJ hk;rw[hk]at HR|-;clear h hj hk;go_in
 go_wp2_with (refine wpList_load_mid rfl 75 _ rfl kb 0 rfl (qM s) (.array 20 74) HR.v bC rfl hsz.v ?_)
 go_loopw [5,6,14] (λa b i wr=>∃(k:Nat) (r p:Int),i=aa az k/\a=aa az r/\b=aa az p/\k<=20/\Hid (Kn.CD s.k r/\Below w.heap.size w wr)) (λ_ _ i _=>20-(intOf i).toNat)
 case atStart=>exact⟨0,-1,0,rfl,rfl,rfl,bB, .inl rfl,aQ _ _⟩
 case round=>
  obtain⟨k,r,p,rfl,rfl,rfl,hk,T⟩:=hrel;by_cases hlt:k<20
  .have hltI:(k:Int)<20:=bB
   have hix:=KN s k hlt;have P0:PB (wr.alloc (bh #[aa az 0,aa az 0,aa az 0,aa az 0,ai bu,ai bu,aa az 0,aa az 0,aa az 0,aa az 0,aa az 0,aa az 0] 74)) wr.heap.size 0 0 Pr.no:=heap_alloc_new _ _;have B0:=T.2.alloc T.2.size (bh #[aa az 0,aa az 0,aa az 0,aa az 0,ai bu,ai bu,aa az 0,aa az 0,aa az 0,aa az 0,aa az 0,aa az 0] 74);have F0:Hid (PB ((wr.alloc (bh #[aa az 0,aa az 0,aa az 0,aa az 0,ai bu,ai bu,aa az 0,aa az 0,aa az 0,aa az 0,aa az 0,aa az 0] 74)).setCells wr.heap.size 0 (dZ (s.A (9+k)) (s.A (29+k)) (s.k.p k)).toList) wr.heap.size (s.A (9+k)) (s.A (29+k)) (s.k.p k)/\Below w.heap.size w ((wr.alloc (bh #[aa az 0,aa az 0,aa az 0,aa az 0,ai bu,ai bu,aa az 0,aa az 0,aa az 0,aa az 0,aa az 0,aa az 0] 74)).setCells wr.heap.size 0 (dZ (s.A (9+k)) (s.A (29+k)) (s.k.p k)).toList)):=hJ ⟨P0.put _ _ _,((bG.refl _ _).setCells _ _).below B0 T.2.size (aH T.2.size (by simp))⟩;have TH:=hJ P0.there;obtain⟨A,hA⟩:=hU (dZ (s.A (9+k)) (s.A (29+k)) (s.k.p k));have SZ:Hid ((prog.info? 74).map (·.size)=bj A.size):=hJ (by rw[<-hA,dM];kernel_rfl);have H1:Hid (A.all (·.oneCell')=bw):=hJ (by rw[<-hA];exact qj _ _ _);have zA:=dM (s.A (9+k)) (s.A (29+k)) (s.k.p k);rw[hA]at hix F0 zA;rw[<-zA]at TH;clear hA P0 B0 zA
   go_upto_region 5 with(refine wpList_store_mid rfl 74 _ _ rfl wr.heap.size 0 A rfl rfl TH.v SZ.v H1.v ?_)
   refine cJ (λW=>PB W wr.heap.size (s.A (9+k)) (s.A (29+k)) (s.k.p k)/\Below w.heap.size w W) F0.v ?_;intro W1 hW1;have S1:=hJ hW1;clear hW1 F0 TH SZ H1 hix;simp only[Act.put];obtain⟨c,hc⟩:=hU (wr.heap.size);rw[hc]at S1|-;clear hc;have FIN:Hid (∀W r p,Kn.CD s.k r->Below w.heap.size w W->∃(k':Nat) (r' p':Int),(aa az ((k:Int)+1)=aa az k')/\aa az r=aa az r'/\aa az p=aa az p'/\k'<=20/\Hid (Kn.CD s.k r'/\Below w.heap.size w W)):=hJ (λW r p m b=>⟨k+1,r,p,by go_num,rfl,rfl,bB,m,b⟩);have IL:=hJ (λj=>jq Wt s (W1.drewN j) k ((H.1.below S1.2).drewN j) hlt _ rfl);rw[HK.v]at IL;by_cases k0:k=0
   .have kB:((k:Int)==0)=bw:=by simp;omega
    have kD:decide ((k:Int)=0)=bw:=by simp;omega
    clear IL k0;go_big_quiet (fail)
    go_wp2
    go_roundw
    case rel=>exact FIN.v _ _ _ T.1 (S1.2.trans ((below_drewN _ _).mono S1.2.size))
    case measure=>simp[intOf];omega
   .have kB:((k:Int)==0)=bA:=by simp;omega
    have kD:decide ((k:Int)=0)=bA:=by simp;omega
    cases l:Kn.lv s.k k
    .rw[l]at IL;clear k0 l;go_big_quiet ((go_at_call 60;refine Calls.quiet_of_same (IL.v _)))
     go_wp2
     go_roundw
     case rel=>exact FIN.v _ _ _ T.1 (S1.2.trans ((below_drewN _ _).mono S1.2.size))
     case measure=>simp[intOf];omega
    .have hh:=H.2.lv k hlt (λx=>x) (Kn.dL.1 l);obtain⟨Wy,hW⟩:=H.2.gr;obtain⟨xs,hx⟩:=Gr.UG hW.ways (s.k.p k).cA;have UN:Hid (∀V,Below W1.heap.size W1 V->Calls prog 172 #[ai (bj ⟨s.A 2,0,bu⟩),aa az (s.k.p k).cA,aa az g] V λe w'=>∃b,e=bf (ar b)/\Below W1.heap.size W1 w'):=hJ (λV b=>(Gr.BU (s.A 2) _ g s.k.gr xs V ((H.1.below S1.2).below b).gr hx).mono (by rintro _ w' ⟨rfl,b2⟩;exact⟨_,rfl,b.trans (b2.mono b.size)⟩));have IS:Hid (∀V,Below W1.heap.size W1 V->Calls prog 60 #[ai (bj ⟨s.A 0,0,bu⟩),aa az k] V λe w'=>e=bf (ar bw)/\w'=V):=hJ (λV b=>jq Wt s V k ((H.1.below S1.2).below b) hlt _ l);have C2:Hid (∀V,Below W1.heap.size W1 V->V.cell? ⟨s.A 0,247,bu⟩=bj (ai (bj ⟨s.A 2,0,bu⟩))/\V.cell? ⟨c,2,bu⟩=bj (aa az (s.k.p k).cA)):=hJ (λV b=>⟨((H.1.below S1.2).below b).pA,(S1.1.same (b.block _ S1.1.lt)).cell 2 bB⟩);have RE:Hid (∀V,Below W1.heap.size W1 V->V.cell? ⟨c,4,bu⟩=bj (ai (bj ⟨s.A (9+k),0,bu⟩))/\Calls prog 64 #[ai (bj ⟨s.A (9+k),0,bu⟩)] V λe w'=>∃v,e=bf (aa az v)/\Below W1.heap.size W1 w'):=hJ (λV b=>by
      have K:=(H.1.below S1.2).below b;have q:=(S1.1.same (b.block _ S1.1.lt)).cell 4 bB;refine⟨by rw[q];show bj (Kn.ptr _ (s.k.p k).has)=_;rw[hh];rfl,(mW _ _ _ V (K.me k hlt hh)).mono ?_⟩;rintro _ w' ⟨rfl,b2⟩;exact⟨_,rfl,b.trans (b2.mono b.size)⟩)
     have LM:Hid (Kn.CD s.k k):=hJ (.inr ⟨k,rfl,hlt,k0,l⟩);have B9:Hid (∀V,Below W1.heap.size W1 V->Below w.heap.size w V):=hJ (λV b=>S1.2.trans (b.mono S1.2.size));rw[HK.v]at IS C2;generalize (s.k.p k).cA=gp at*;generalize s.A 2=a2 at*;generalize s.A (9+k)=m9 at*;clear IL k0 l hh hW hx;have K0:=hJ (C2.v _ (aQ _ _));obtain⟨y1,y2⟩:=K0.v;go_region_held3 (λw'=>w'.cell? ⟨kb,247,bu⟩=bj (ai (bj ⟨a2,0,bu⟩))/\w'.cell? ⟨c,2,bu⟩=bj (aa az gp)) (first|exact K0.v|exact C2.v _ B4.v) (
      (first
       |(go_at_call 60;refine cG (IS.v _ (by first|exact aQ _ _|exact(aQ _ _).drew)) ?_)
       |(go_at_call 172;refine(UN.v _ (by first|exact aQ _ _|exact(aQ _ _).drew)).mono ?_;rintro e w4 ⟨bb,rfl,b4⟩;have B4:=hJ b4;clear b4)))
     cases bb
     .go_wp2
      go_roundw
      case rel=>exact FIN.v _ _ _ T.1 (B9.v _ B4.v)
      case measure=>simp[intOf];omega
     .obtain⟨z4,R4⟩:=RE.v _ B4.v;have R4:=hJ R4;go_wp2_with fail
      refine R4.mono ?_;rintro e w5 ⟨v,rfl,b5⟩;have B5:=hJ b5;clear b5 z4;by_cases gt:p<v
      .go_wp2
       go_roundw
       case rel=>exact FIN.v _ _ _ LM.v (B9.v _ B5.v)
       case measure=>simp[intOf];omega
      .go_wp2
       go_roundw
       case rel=>exact FIN.v _ _ _ T.1 (B9.v _ B5.v)
       case measure=>simp[intOf];omega
  .obtain rfl:k=20:=bB
   go_wp2
   go_ret
   exact⟨r,rfl,T.v⟩
end
namespace Kn
def Vl(k k':Kp):Prop:=∃m y q:Nat,m<20/\m≠0/\lv k m=bw/\k.sp.of m=y+1/\(k.p m).par=(q:Int)/\lX k m 137 y q k'
def Cy:Nat->Kp->Kp->Prop
 |0,k,k'=>k'=k
 |j+1,k,k'=>∃k1,Cy j k k1/\Vl k1 k'
section
variable {N:Nat}{d:Nat->Nat}{k k':Kp}{n z:Nat}
theorem KH.enc(h:KH N d k)(e:Vl k k'):KH N d k':=by
 obtain⟨m,y,q,h1,h2,h3,h4,h5,h6⟩:=e;exact h.end h1 h2 h3 h4 h5 h6
theorem KH.sq(h:KH N d k):∀j {k':Kp},Cy j k k'->KH N d k'
 |0,_,e=>by rw[show _=k from e];exact h
 |j+1,_,⟨_,a,b⟩=>(h.sq j a).enc b
theorem KY(k:Kp)(q m:Nat):((mL k q).p m).st=(k.p m).st/\((mL k q).p m).cA=(k.p m).cA:=by
 unfold mL;split
 .unfold iO;by_cases c:m=q
  .subst c;rw[bM];exact⟨rfl,rfl⟩
  .rw[bP _ _ _ _ c];exact⟨rfl,rfl⟩
 .exact⟨rfl,rfl⟩
theorem KH.Kl(h:KH N d k)(hn:n<20)(n0:n≠0)(l:lv k n=bw)(ho:k.sp.of n=z+1){q:Nat}(et:lX k n c z q k'):lv k' n=bA/\∀m,m<20->lv k' m=bw->lv k m=bw/\(k'.p m).cA=(k.p m).cA:=by
 obtain⟨k1,k3,s1,mt,rfl⟩:=et;have hv:=h.ki.vi;have md:=hv.Ag hn n0 l ho s1 mt;have mq:=hv.mq hn n0 l ho s1 mt;have e:∀m,((mL (gG k3 (iU k3 n) (Sp.fc k3.sp (z:Int) 1:Nat)) q).p m).st=(k3.p m).st/\((mL (gG k3 (iU k3 n) (Sp.fc k3.sp (z:Int) 1:Nat)) q).p m).cA=(k3.p m).cA:=λm=>KY _ _ _;have nl:lv (mL (gG k3 (iU k3 n) (Sp.fc k3.sp (z:Int) 1:Nat)) q) n=bA:=by unfold lv;rw[(e n).1,md.pn.1];rfl
 refine⟨nl,λm hm lm=>?_⟩;rw[(e m).2];by_cases c:m=n
 .subst c;rw[nl]at lm;cases lm
 .have s:=dL.1 lm;rw[(e m).1]at s;rcases mq.ot m hm c with⟨a,_⟩|⟨a,_⟩
  .rw[a]at s|-;exact⟨dL.2 s,rfl⟩
  .rw[a]at s;exact aZ s bE
theorem GZ(a:∀m,m<20->lv k' m=bw->lv k m=bw):∀j,j<=20->(dY k' j).length<=(dY k j).length/\(lv k n=bw->lv k' n=bA->n<j->(dY k' j).length<(dY k j).length)
 |0,_=>⟨aL _,λ_ _ h=>aZ h bB⟩
 |j+1,hj=>by
  obtain⟨i1,i2⟩:=GZ a j bB;cases x:lv k' j
  .rw[xE x];cases y:lv k j
   .rw[xE y];exact⟨i1,λh1 h2 h3=>i2 h1 h2 (by rcases Nat.lt_succ_iff_lt_or_eq.1 h3 with c|c;exact c;subst c;rw[y]at h1;cases h1)⟩
   .rw[rC y,List.length_append];exact⟨by simp;omega,λ_ _ _=>by simp;omega⟩
  .have y:=a j bB x;rw[rC x,rC y,List.length_append,List.length_append];exact⟨by simp;omega,λh1 h2 h3=>by
    have:=i2 h1 h2 (by rcases Nat.lt_succ_iff_lt_or_eq.1 h3 with c|c;exact c;subst c;rw[x]at h2;cases h2);simp;omega⟩
def UY:Option Value->Bool
 |some (aa _ q)=>q==1
 |_=>bA
def uU(b:Nat)(W:bD):Nat:=((List.range 20).filter λn=>UY (W.cell? ⟨b,n*12,bu⟩)).length
end
end Kn
theorem bO.uU{w:bD}{Wt:Nat}{s:St}(h:bO w Wt s):Kn.uU (s.A 0) w=(Kn.dY s.k 20).length:=by
 unfold Kn.uU Kn.dY;rw[List.filter_congr (λn hn=>?_)];rw[h.uA n (by simpa using hn)];show(((s.k.p n).st:Int)==1)=decide ((s.k.p n).st=1);rw[Bool.eq_iff_iff];simp;omega
def Kn.V5(k:Kp):Prop:=∀g,g<10->(k.gr g).there=bw->(k.gr g).lp= -1/\(k.gr g).lq= -1
def Kn.Ta(j:Nat)(k k':Kp):Prop:=Kn.Cy j k k'/\(Kn.V5 k->j=0)
theorem Gr.Way.in{t:Nat->Gr.Gp}:∀{L:List Nat} {g:Int},Gr.Way t g L->∀x∈L,(t x).there=bw
 |[],_,_,_,h=>by cases h
 |_::_,_,⟨_,_,a,b⟩,x,h=>by
  rcases List.mem_cons.1 h with rfl|h
  .exact a
  .exact Gr.Way.in b x h
theorem Gr.Ow{t:Nat->Gr.Gp}{p q:Int}{y:Fin 10}(h:Gr.gE t Wy p q y=bw):(t y.val).lp≠ -1\/(t y.val).lq≠ -1:=by
 unfold Gr.gE Gr.ml at h;simp only[Bool.or_eq_true,decide_eq_true_eq]at h;exact h.imp (λx=>x.1) (λx=>x.1)
def Kn.yl(k:Kp)(n:Nat)(E:Int)(k':Kp):Prop:=∃j k1,Kn.Ta j k k1/\((Kn.lv k1 n=bw/\(k1.p n).cA=(k.p n).cA/\∃Wy,Gr.dC k1.gr Wy/\E=Gr.gx k1.gr Wy (k.p n).cA 0 1/\k'={k1 with gr:=Gr.eR k1.gr Wy (k.p n).cA 0 1})\/(E=6/\k'=k1))
section
variable (Wt N:Nat)(d:Nat->Nat)(s:St)(w:bD)
theorem Lf{t:Nat->Gr.Gp}(b:Nat)(g:Int)(V:bD)(h:Gr.bT V b t)(hW:Gr.dC t Wy)(hS:Gr.Small t):Calls prog 238 #[ai (bj ⟨b,0,bu⟩),aa az g,aa az 0,aa az 1] V λe w'=>∃(f:Int) (l:Bool),e=bf (ao #[aa az f,ar l])/\(l=bw->∃g,g<10/\(t g).there=bw/\((t g).lp≠ -1\/(t g).lq≠ -1))/\Below V.heap.size V w':=by
 by_cases r:Gr.eF t g 0 1=0
 .obtain⟨n,rfl,hn,_⟩:=Gr.jS r;refine(Gr.Oy b n 0 1 t Wy V h hW hS hn r).mono ?_;rintro _ w' ⟨⟨_,rfl⟩|⟨_,x,_,wy,_,lk,rfl⟩,b⟩
  .exact⟨0,bA,rfl,nofun,b⟩
  .exact⟨_,bw,rfl,λ_=>⟨x,x.2,(hW n hn).in x (List.mem_map_of_mem (by rw[wy];simp)),Gr.Ow lk⟩,b⟩
 .refine(Gr.Lg b g 0 1 t V h r).mono ?_;rintro _ w' ⟨rfl,b⟩;exact⟨0,bA,rfl,nofun,b⟩
theorem Ol(n:Nat)(hN:N<=900)(h:bO w Wt s)(hh:KH N d s.k)(hn:n<20)(l:Kn.lv s.k n=bw):
  Calls prog 184 #[ai (bj ⟨s.A 0,0,bu⟩),aa az n] w (Kn.Nx Wt s w λv k'=>∃E,v=bN E/\Kn.yl s.k n E k'):=by
 have hnI:(n:Int)<20:=bB
 have H:=hJ (aK h (aK hh (aK hN l)));have cg:=h.pP n hn;obtain⟨gp,hg⟩:=hU ((s.k.p n).cA);obtain⟨kb,hk⟩:=hU (s.A 0);have HK:=hJ (aK hk hg);rw[hg,hk]at cg;rw[hk];go_in
 go_wp2_with fail
 go_loopw [6] (λ_ wr=>∃(j:Nat) (s1:St),Hid (Kn.Ta j s.k s1.k/\bO wr Wt s1/\KF s w s1 wr/\KH N d s1.k/\Kn.lv s1.k n=bw/\(s1.k.p n).cA=gp/\s1.A 0=kb)) (λ_ wr=>Kn.uU kb wr)
 case atStart=>exact⟨0,s,⟨rfl,λ_=>rfl⟩,H.1,KF.refl _ _,H.2.1,H.2.2.2,HK.2,HK.1⟩
 case round=>
  obtain⟨j,s1,T⟩:=hrel;obtain⟨en,K1,F1,kh,ln,eg,ea⟩:=T.v;obtain⟨Wy,hW⟩:=kh.ki.vi.kj.gr;have N9:=H.2.2.1;have LA:=hJ (Lf (s1.A 2) gp wr K1.gr hW.ways (hW.small bB));have CH:Hid (∀V,Below wr.heap.size wr V->Calls prog 65 #[ai (bj ⟨s1.A 2,0,bu⟩),aa az gp,aa az 0,aa az 1] V λe w'=>∃E k',e=bf (bN E)/\Kn.yl s.k n E k'/\bO w' Wt {s1 with k:=k'}/\KF s w {s1 with k:=k'} w'):=hJ (λV b=>(Gr.nV (s1.A 2) gp 0 1 s1.k.gr Wy V (K1.below b).gr hW.ways (hW.small bB)).mono (by
   rintro _ w' ⟨rfl,u,f⟩;have q:=(K1.below b).ks u f.sK;exact⟨_,_,rfl,⟨j,s1.k,en, .inl ⟨ln,by rw[eg,HK.2],Wy,hW.ways,by rw[HK.2],by rw[HK.2]⟩⟩,q.1,F1.trans ((KF.below b).trans q.2)⟩))
  have C2:Hid (∀V,Below wr.heap.size wr V->V.cell? ⟨kb,247,bu⟩=bj (ai (bj ⟨s1.A 2,0,bu⟩))):=hJ (λV b=>by rw[<-ea];exact(K1.below b).pA);have c2:=C2.v _ (aQ _ _);generalize s1.A 2=a2 at*;go_wp2_with fail
  refine LA.mono ?_;rintro e w2 ⟨f,lk,rfl,hl,b2⟩;have HL:=hJ hl;cases lk
  .have c2:=C2.v _ b2;go_wp2_with fail
   refine(CH.v _ b2).mono ?_;rintro e w3 ⟨E,k',rfl,S3⟩;have S3:=hJ S3;go_wp2
   go_ret
   exact⟨_,_,rfl,⟨E,rfl,S3.1⟩,S3.2⟩
  .have HY:=hJ (HL.v rfl);have GR:=hJ (Cd Wt N s1 w2 f (T.2.1.below b2) T.2.2.2.1.ki.vi.kj);rw[T.2.2.2.2.2.2]at GR;go_wp2_with fail
   refine GR.mono ?_;rintro e w3 ⟨r,rfl,mo,b3⟩;have B3:=hJ (b2.trans (b3.mono b2.size));rcases mo with rfl|⟨m,rfl,hm,m0,lm⟩
   .go_wp2
    go_ret
    exact⟨_,s1,rfl,⟨6,rfl,j,s1.k,T.1, .inr ⟨rfl,rfl⟩⟩,T.2.1.below B3.v,T.2.2.1.trans (KF.below B3.v)⟩
   .have kh:=T.2.2.2.1;obtain⟨y,hy⟩:=kh.of hm (by rw[Kn.dL.1 lm];omega);obtain⟨q,ic,qm,hp⟩:=kh.ki.pr m hm m0 (by rw[Kn.dL.1 lm];omega);have ED:=hJ (xC Wt N d H.2.2.1 s1 w3 m y q 137 (T.2.1.below B3.v) kh.ki.vi hm m0 lm hy ic qm hp (λx hx _ lx hx2=>kh.ki.fi x hx lx hx2));have CO:Hid (∀k',Kn.lX s1.k m 137 y q k'->Kn.Ta (j+1) s.k k'/\KH N d k'/\(Kn.dY k' 20).length<(Kn.dY s1.k 20).length/\(Kn.lv k' n=bw->(k'.p n).cA=gp)):=hJ (λk' et=>by
     have es:=kh.Kl hm m0 lm hy et;refine⟨⟨⟨s1.k,T.1.1,m,y,q,hm,m0,lm,hy,hp,et⟩,λnl=>?_⟩,kh.end hm m0 lm hy hp et,(Kn.GZ (λx hx lx=>(es.2 x hx lx).1) 20 (aL _)).2 lm es.1 hm,λln=>((es.2 n hn ln).2).trans T.2.2.2.2.2.1⟩;obtain⟨g,hg,th,q⟩:=HY.v;have e:=T.1.1;rw[T.1.2 nl]at e;rw[show s1.k=s.k from e]at q th;have:=nl g hg th;omega)
    have mB:((m:Int)== -1)=bA:=by simp
    rw[T.2.2.2.2.2.2]at ED;go_wp2_with fail
    refine ED.mono ?_;rintro e w4 ⟨k',rfl,et,K4,F4⟩;have S4:=hJ (aK (CO.v k' et) (aK K4 (T.2.2.1.trans ((KF.below B3.v).trans F4))));have IL:=hJ (jq Wt {s1 with k:=k'} w4 n K4 hn _ rfl);rw[show({s1 with k:=k'}:St).A 0=kb from T.2.2.2.2.2.2]at IL;have ME:Hid (Kn.uU kb w4<Kn.uU kb wr):=hJ (by
     have a:=K4.uU;have b:=T.2.1.uU;rw[show({s1 with k:=k'}:St).A 0=kb from T.2.2.2.2.2.2]at a;rw[T.2.2.2.2.2.2]at b;rw[a,b];exact S4.1.2.2.1)
    go_wp2_with fail
    refine cG IL.v ?_;cases lv:Kn.lv ({s1 with k:=k'}:St).k n
    .clear lv;go_wp2
     go_ret
     exact⟨_,_,rfl,⟨6,rfl,j+1,k',S4.1.1, .inr ⟨rfl,rfl⟩⟩,S4.2⟩
    .have LV:=hJ lv;go_wp2
     go_roundw
     case rel=>exact⟨j+1,{s1 with k:=k'},S4.1.1,S4.2.1,S4.2.2,S4.1.2.1,LV.v,S4.1.2.2.2 LV.v,T.2.2.2.2.2.2⟩
     case measure=>exact ME.v
end
namespace Kn
theorem KH.PX{k':Kp}(h:KH N d k)(c:yl k n E k'):KH (N+1) d k':=by
 obtain⟨j,k1,⟨e,_⟩,⟨_,_,Wy,hW,_,rfl⟩|⟨_,rfl⟩⟩:=c
 .have g:=h.sq j e;obtain⟨Wz,hz⟩:=g.ki.vi.kj.gr;exact g.gr (Nat.le_succ _) ⟨Wy,qw (xY hz hW) _ _ _ bB bB⟩
 .exact(h.sq j e).more (Nat.le_succ _)
def kJ(a:Int)(D:Kp->Nat->Int->Kp->Prop)(k:Kp)(z:Int)(v:Value)(k':Kp):Prop:=
 ∃E,v=bN E/\((0<E/\k'=k)\/∃n:Nat,z=n/\n<20/\lv k n=bw/\((Mv.kV (k.p n).mem a=bA/\D k n E k')\/(Mv.kV (k.p n).mem a=bw/\∃E1 k1,yl k n E1 k1/\((E1≠0/\E=E1/\k'=k1)\/(E1=0/\∃k2,D k1 n E k2/\((E=0/\k'=k2)\/(E≠0/\k'={k2 with gr:=Gr.dn k2.gr (k2.p n).cA 0 1})))))))
end Kn
def Kn.JK(Wt:Nat)(s:St)(w:bD):Prop:=∀V (n:Nat),Below w.heap.size w V->n<20->Kn.lv s.k n=bw->Calls prog 184 #[ai (bj ⟨s.A 0,0,bu⟩),aa az n] V (Kn.Nx Wt s V λv k'=>∃E,v=bN E/\Kn.yl s.k n E k')
theorem lN(h:bN E=ay):E=0:=by
 by_cases c:E=0
 .exact c
 .rw[bH c]at h;cases h
section
variable (Wt N:Nat)(d:Nat->Nat)(s:St)(w:bD)
theorem FE(z a:Int)(c1 c2:Nat)(D:Kp->Nat->Int->Kp->Prop)(KG:bD->St->Prop)(P:Nat->bD->Kp->Prop)(cp:Kn.JK Wt s w)(hN:N<900)(h:bO w Wt s)(hh:KH N d s.k)(hD:∀k n E k',D k n E k'->k'.gr=k.gr/\(k'.p n).cA=(k.p n).cA)(hG:∀V s1 W s2,KG V s1->KF s1 V s2 W->KG W s2)(hG0:∀V s1,KF s w s1 V->KG V s1)
  (DO:∀V s1 n,bO V Wt s1->KF s w s1 V->KH (N+1) d s1.k->n<20->Kn.lv s1.k n=bw->Calls prog 107 #[ai (bj ⟨s1.A (9+n),0,bu⟩),ai (bj ⟨c1,0,bu⟩),ai (bj ⟨c2,0,bu⟩)] V λe w'=>∃E k',e=bf (bN E)/\D s1.k n E k'/\bO w' Wt {s1 with k:=k'}/\KG w' {s1 with k:=k'}/\(E=0->P n w' k')):
  Calls prog 106 #[ai (bj ⟨s.A 0,0,bu⟩),aa az z,aa az a,ar bA, .func (.func 107) #[] #[ai (bj ⟨c1,0,bu⟩),ai (bj ⟨c2,0,bu⟩)]] w λe w'=>∃v s',e=bf v/\Kn.kJ a D s.k z v s'.k/\bO w' Wt s'/\KG w' s'/\(v=ay->P z.toNat w' s'.k):=by
 have AC:=hJ (dG Wt s w z h);have H:=hJ (aK h (aK hh hN));have HG:=hJ (aK hG (aK hG0 hD));have NO:Hid (∀W E,Below w.heap.size w W->0<E->∃v s',bf (bN E)=bf v/\Kn.kJ a D s.k z v s'.k/\bO W Wt s'/\KG W s'/\(v=ay->P z.toNat W s'.k)):=hJ (λW E b e=>⟨_,s,rfl,⟨E,rfl, .inl ⟨e,rfl⟩⟩,h.below b,hG0 _ _ (KF.below b),λc=>aZ (lN c) bB⟩);have DO:=hJ DO;have C0:=hJ cp;by_cases A:Kn.cD s.k z=0
 .obtain⟨n,rfl,hn,hl⟩:=Kn.fL A;have hs:=hh.ki.vi.kj.lv n hn (λx=>x) (Kn.dL.1 hl);have HL:=hJ (aK hl hs);have C4:Hid (∀V,Below w.heap.size w V->V.cell? ⟨s.A 0,n*12+4,bu⟩=bj (ai (bj ⟨s.A (9+n),0,bu⟩))):=hJ (λV b=>(h.below b).qv n hn hs);have c4:=C4.v _ (aQ _ _);have MY:=hJ (oR (s.A (9+n)) (s.A 4) a bA (s.k.p n).mem w (h.me n hn hs));obtain⟨kb,hk⟩:=hU (s.A 0);obtain⟨m9,h9⟩:=hU (s.A (9+n));have HK:=hJ (aK hk h9);rw[A,bF,gC]at AC;rw[hk]at AC C4 c4|-;rw[h9]at C4 c4 MY;go_in
  go_wp2_with fail
  refine cG AC.v ?_;go_wp2_with fail
  refine sC MY.v ?_;rintro w1 b1;cases Mv.jY (s.k.p n).mem a bA
  .go_wp2
   go_ret
   exact NO.v _ 10 b1 bE
  .have WN:=hJ (zF (s.A (9+n)) (s.A 4) a (s.k.p n).mem w1 ((H.1.below b1).me n hn HL.2));have c4:=C4.v _ b1;rw[HK.2]at WN;go_wp2_with fail
   refine sC WN.v ?_;rintro w2 b2;have b2:=b1.trans (b2.mono b1.size);cases hw:Mv.kV (s.k.p n).mem a
   all_goals have HW:=hJ hw
   .have D2:=hJ (DO.v w2 s n (H.1.below b2) (KF.below b2) (H.2.1.more (Nat.le_succ _)) hn HL.1);have c4:=C4.v _ b2;rw[HK.2]at D2;go_wp2_with fail
    refine D2.mono ?_;rintro e w3 ⟨E,k',rfl,S3⟩;have S3:=hJ S3;go_wp2
    go_ret
    exact⟨_,_,rfl,⟨E,rfl, .inr ⟨n,rfl,hn,HL.1, .inl ⟨HW.v,S3.1⟩⟩⟩,S3.2.1,S3.2.2.1,λc=>S3.2.2.2 (lN c)⟩
   .have CP:=hJ (C0.v w2 n b2 hn HL.1);rw[HK.1]at CP;go_wp2_with fail
    refine CP.mono ?_;rintro e w3 ⟨v,s1,rfl,⟨E1,rfl,cp⟩,K3,F3⟩;have S3:=hJ (aK cp (aK K3 ((KF.below b2).trans F3)));by_cases e1:E1=0
    .subst e1;rw[bF];have ln:Kn.lv s1.k n=bw:=by
      obtain⟨j,k1,_,⟨l1,_,Wy,_,_,e⟩|⟨e,_⟩⟩:=S3.1
      .rw[e];exact l1
      .cases e
     have kh:=H.2.1.PX S3.1;have hs:=kh.ki.vi.kj.lv n hn (λx=>x) (Kn.dL.1 ln);have c4:=S3.2.1.qv n hn hs;have D2:=hJ (DO.v w3 s1 n S3.2.1 S3.2.2 kh hn ln);have ea:=S3.2.2.a0.trans HK.1;obtain⟨Wy,hW⟩:=kh.ki.vi.kj.gr;have UC:Hid (∀V W k2 E,D s1.k n E k2->E≠0->bO V Wt {s1 with k:=k2}->KG V {s1 with k:=k2}->Below V.heap.size V W->Calls prog 67 #[ai (bj ⟨s1.A 2,0,bu⟩),aa az (k2.p n).cA,aa az 0,aa az 1] W λe w'=>(∃u,e=bf (bN u))/\∃v s',bf (bN E)=bf v/\Kn.kJ a D s.k n v s'.k/\bO w' Wt s'/\KG w' s'/\(v=ay->P (n:Int).toNat w' s'.k)):=hJ (λV W k2 E dd e0 kk kg b=>by
      have g:=(HG.2.2 _ _ _ _ dd).1;refine sC (Gr.iR (s1.A 2) _ 0 1 k2.gr W (kk.below b).gr (by rw[g];exact hW.small (by have:=H.2.2;omega))) ?_;rintro w' ⟨u,f⟩;have q:=(kk.below b).ks u f.sK;exact⟨⟨_,rfl⟩,_,_,rfl,⟨E,rfl, .inr ⟨n,rfl,hn,HL.1, .inr ⟨HW.v,0,s1.k,S3.1, .inr ⟨rfl,k2,dd, .inr ⟨e0,rfl⟩⟩⟩⟩⟩,q.1,HG.1 _ _ _ _ kg ((KF.below b).trans q.2),λc=>aZ (lN c) e0⟩)
     rw[ea]at c4;generalize h9:s1.A (9+n)=m10 at c4 D2;have EA:=hJ ea;go_wp2_with fail
     refine D2.mono ?_;rintro e w4 ⟨E,k2,rfl,S4⟩;have S4:=hJ S4;by_cases e0:E=0
     .subst e0;rw[bF];go_wp2
      go_ret
      exact⟨_,_,rfl,⟨0,rfl, .inr ⟨n,rfl,hn,HL.1, .inr ⟨HW.v,0,s1.k,S3.1, .inr ⟨rfl,k2,S4.1, .inl ⟨rfl,rfl⟩⟩⟩⟩⟩,S4.2.1,S4.2.2.1,λ_=>S4.2.2.2 trivial⟩
     .have U4:=hJ (λW b=>UC.v w4 W k2 E S4.1 e0 S4.2.1 S4.2.2.1 b);have g2:=S4.2.1.pA;have g3:=S4.2.1.pP n hn;rw[show({s1 with k:=k2}:St).A 0=kb from EA.v]at g2 g3;rw[show({s1 with k:=k2}:St).A 2=s1.A 2 from rfl]at g2;rw[show({s1 with k:=k2}:St).k=k2 from rfl]at g3;have EE:=hJ (bH e0);rw[bH e0]at U4|-;generalize (k2.p n).cA=gg at*;generalize s1.A 2=a2 at*;go_upto_region 13 with fail
      go_region_with ((go_at_call 67;refine(U4.v _ (by first|exact aQ _ _|exact(aQ _ _).drew)).mono ?_;rintro e w5 ⟨⟨u,rfl⟩,S5⟩;have S5:=hJ S5))
      all_goals
       go_wp2
       go_ret
       exact S5.v
    .have EE:=hJ (aK e1 (bH e1));rw[bH e1];go_wp2
     go_ret
     exact⟨_,s1,rfl,⟨E1,EE.2.symm, .inr ⟨n,rfl,hn,HL.1, .inr ⟨HW.v,E1,s1.k,S3.1, .inl ⟨EE.1,rfl,rfl⟩⟩⟩⟩,S3.2.1,HG.2.1 _ _ S3.2.2,λc=>aZ (lN (EE.2.trans c)) EE.1⟩
 .have N1:=hJ (NO.v w _ (aQ _ _) (Kn.xe A));rw[bH A]at AC N1;generalize gQ (s.A 0) z (Kn.cD s.k z)=ap at*;generalize Kn.cD s.k z=ae at*;generalize s.A 0=kb at*;go_in
  go_wp2_with fail
  refine cG AC.v ?_;go_wp2
  go_ret
  exact N1.v
theorem FH(z a:Int)(c1 c2:Nat)(D:Kp->Nat->Int->Kp->Prop)(KG:bD->St->Prop)(P:Nat->bD->Kp->Prop)(cp:Kn.JK Wt s w)(hN:N<900)(h:bO w Wt s)(hh:KH N d s.k)(hD:∀k n E k',D k n E k'->k'.gr=k.gr/\(k'.p n).cA=(k.p n).cA)(hG:∀V s1 W s2,KG V s1->KF s1 V s2 W->KG W s2)(hG0:∀V s1,KF s w s1 V->KG V s1)
  (DO:∀V s1 n,bO V Wt s1->KF s w s1 V->KH (N+1) d s1.k->n<20->Kn.lv s1.k n=bw->Calls prog 109 #[ai (bj ⟨s1.A (9+n),0,bu⟩),ai (bj ⟨c1,0,bu⟩),ai (bj ⟨c2,0,bu⟩)] V λe w'=>∃E k',e=bf (bN E)/\D s1.k n E k'/\bO w' Wt {s1 with k:=k'}/\KG w' {s1 with k:=k'}/\(E=0->P n w' k')):
  Calls prog 106 #[ai (bj ⟨s.A 0,0,bu⟩),aa az z,aa az a,ar bw, .func (.func 109) #[] #[ai (bj ⟨c1,0,bu⟩),ai (bj ⟨c2,0,bu⟩)]] w λe w'=>∃v s',e=bf v/\Kn.kJ a D s.k z v s'.k/\bO w' Wt s'/\KG w' s'/\(v=ay->P z.toNat w' s'.k):=by
 have AC:=hJ (dG Wt s w z h);have H:=hJ (aK h (aK hh hN));have HG:=hJ (aK hG (aK hG0 hD));have NO:Hid (∀W E,Below w.heap.size w W->0<E->∃v s',bf (bN E)=bf v/\Kn.kJ a D s.k z v s'.k/\bO W Wt s'/\KG W s'/\(v=ay->P z.toNat W s'.k)):=hJ (λW E b e=>⟨_,s,rfl,⟨E,rfl, .inl ⟨e,rfl⟩⟩,h.below b,hG0 _ _ (KF.below b),λc=>aZ (lN c) bB⟩);have DO:=hJ DO;have C0:=hJ cp;by_cases A:Kn.cD s.k z=0
 .obtain⟨n,rfl,hn,hl⟩:=Kn.fL A;have hs:=hh.ki.vi.kj.lv n hn (λx=>x) (Kn.dL.1 hl);have HL:=hJ (aK hl hs);have C4:Hid (∀V,Below w.heap.size w V->V.cell? ⟨s.A 0,n*12+4,bu⟩=bj (ai (bj ⟨s.A (9+n),0,bu⟩))):=hJ (λV b=>(h.below b).qv n hn hs);have c4:=C4.v _ (aQ _ _);have MY:=hJ (oR (s.A (9+n)) (s.A 4) a bw (s.k.p n).mem w (h.me n hn hs));obtain⟨kb,hk⟩:=hU (s.A 0);obtain⟨m9,h9⟩:=hU (s.A (9+n));have HK:=hJ (aK hk h9);rw[A,bF,gC]at AC;rw[hk]at AC C4 c4|-;rw[h9]at C4 c4 MY;go_in
  go_wp2_with fail
  refine cG AC.v ?_;go_wp2_with fail
  refine sC MY.v ?_;rintro w1 b1;cases Mv.jY (s.k.p n).mem a bw
  .go_wp2
   go_ret
   exact NO.v _ 10 b1 bE
  .have WN:=hJ (zF (s.A (9+n)) (s.A 4) a (s.k.p n).mem w1 ((H.1.below b1).me n hn HL.2));have c4:=C4.v _ b1;rw[HK.2]at WN;go_wp2_with fail
   refine sC WN.v ?_;rintro w2 b2;have b2:=b1.trans (b2.mono b1.size);cases hw:Mv.kV (s.k.p n).mem a
   all_goals have HW:=hJ hw
   .have D2:=hJ (DO.v w2 s n (H.1.below b2) (KF.below b2) (H.2.1.more (Nat.le_succ _)) hn HL.1);have c4:=C4.v _ b2;rw[HK.2]at D2;go_wp2_with fail
    refine D2.mono ?_;rintro e w3 ⟨E,k',rfl,S3⟩;have S3:=hJ S3;go_wp2
    go_ret
    exact⟨_,_,rfl,⟨E,rfl, .inr ⟨n,rfl,hn,HL.1, .inl ⟨HW.v,S3.1⟩⟩⟩,S3.2.1,S3.2.2.1,λc=>S3.2.2.2 (lN c)⟩
   .have CP:=hJ (C0.v w2 n b2 hn HL.1);rw[HK.1]at CP;go_wp2_with fail
    refine CP.mono ?_;rintro e w3 ⟨v,s1,rfl,⟨E1,rfl,cp⟩,K3,F3⟩;have S3:=hJ (aK cp (aK K3 ((KF.below b2).trans F3)));by_cases e1:E1=0
    .subst e1;rw[bF];have ln:Kn.lv s1.k n=bw:=by
      obtain⟨j,k1,_,⟨l1,_,Wy,_,_,e⟩|⟨e,_⟩⟩:=S3.1
      .rw[e];exact l1
      .cases e
     have kh:=H.2.1.PX S3.1;have hs:=kh.ki.vi.kj.lv n hn (λx=>x) (Kn.dL.1 ln);have c4:=S3.2.1.qv n hn hs;have D2:=hJ (DO.v w3 s1 n S3.2.1 S3.2.2 kh hn ln);have ea:=S3.2.2.a0.trans HK.1;obtain⟨Wy,hW⟩:=kh.ki.vi.kj.gr;have UC:Hid (∀V W k2 E,D s1.k n E k2->E≠0->bO V Wt {s1 with k:=k2}->KG V {s1 with k:=k2}->Below V.heap.size V W->Calls prog 67 #[ai (bj ⟨s1.A 2,0,bu⟩),aa az (k2.p n).cA,aa az 0,aa az 1] W λe w'=>(∃u,e=bf (bN u))/\∃v s',bf (bN E)=bf v/\Kn.kJ a D s.k n v s'.k/\bO w' Wt s'/\KG w' s'/\(v=ay->P (n:Int).toNat w' s'.k)):=hJ (λV W k2 E dd e0 kk kg b=>by
      have g:=(HG.2.2 _ _ _ _ dd).1;refine sC (Gr.iR (s1.A 2) _ 0 1 k2.gr W (kk.below b).gr (by rw[g];exact hW.small (by have:=H.2.2;omega))) ?_;rintro w' ⟨u,f⟩;have q:=(kk.below b).ks u f.sK;exact⟨⟨_,rfl⟩,_,_,rfl,⟨E,rfl, .inr ⟨n,rfl,hn,HL.1, .inr ⟨HW.v,0,s1.k,S3.1, .inr ⟨rfl,k2,dd, .inr ⟨e0,rfl⟩⟩⟩⟩⟩,q.1,HG.1 _ _ _ _ kg ((KF.below b).trans q.2),λc=>aZ (lN c) e0⟩)
     rw[ea]at c4;generalize h9:s1.A (9+n)=m10 at c4 D2;have EA:=hJ ea;go_wp2_with fail
     refine D2.mono ?_;rintro e w4 ⟨E,k2,rfl,S4⟩;have S4:=hJ S4;by_cases e0:E=0
     .subst e0;rw[bF];go_wp2
      go_ret
      exact⟨_,_,rfl,⟨0,rfl, .inr ⟨n,rfl,hn,HL.1, .inr ⟨HW.v,0,s1.k,S3.1, .inr ⟨rfl,k2,S4.1, .inl ⟨rfl,rfl⟩⟩⟩⟩⟩,S4.2.1,S4.2.2.1,λ_=>S4.2.2.2 trivial⟩
     .have U4:=hJ (λW b=>UC.v w4 W k2 E S4.1 e0 S4.2.1 S4.2.2.1 b);have g2:=S4.2.1.pA;have g3:=S4.2.1.pP n hn;rw[show({s1 with k:=k2}:St).A 0=kb from EA.v]at g2 g3;rw[show({s1 with k:=k2}:St).A 2=s1.A 2 from rfl]at g2;rw[show({s1 with k:=k2}:St).k=k2 from rfl]at g3;have EE:=hJ (bH e0);rw[bH e0]at U4|-;generalize (k2.p n).cA=gg at*;generalize s1.A 2=a2 at*;go_upto_region 13 with fail
      go_region_with ((go_at_call 67;refine(U4.v _ (by first|exact aQ _ _|exact(aQ _ _).drew)).mono ?_;rintro e w5 ⟨⟨u,rfl⟩,S5⟩;have S5:=hJ S5))
      all_goals
       go_wp2
       go_ret
       exact S5.v
    .have EE:=hJ (aK e1 (bH e1));rw[bH e1];go_wp2
     go_ret
     exact⟨_,s1,rfl,⟨E1,EE.2.symm, .inr ⟨n,rfl,hn,HL.1, .inr ⟨HW.v,E1,s1.k,S3.1, .inl ⟨EE.1,rfl,rfl⟩⟩⟩⟩,S3.2.1,HG.2.1 _ _ S3.2.2,λc=>aZ (lN (EE.2.trans c)) EE.1⟩
 .have N1:=hJ (NO.v w _ (aQ _ _) (Kn.xe A));rw[bH A]at AC N1;generalize gQ (s.A 0) z (Kn.cD s.k z)=ap at*;generalize Kn.cD s.k z=ae at*;generalize s.A 0=kb at*;go_in
  go_wp2_with fail
  refine cG AC.v ?_;go_wp2
  go_ret
  exact N1.v
end
def Kn.xb(a:Int)(k:Kp)(n:Nat)(E:Int)(k':Kp):Prop:=∃g m b,Mv.mH (k.p n).mem k.bk a bA E g m b/\k'=Kn.cT k n m b
def Kn.yy(a u:Int)(k:Kp)(n:Nat)(E:Int)(k':Kp):Prop:=∃g m b,Mv.mH (k.p n).mem k.bk a bw E g m b/\k'=Kn.cT k n m (if E=0 then Mv.Mi b g (a.toNat%8) u else b)
def Kn.yG(k:Kp)(n a:Nat):Int:=if(k.p n).mem.fr (a/8)=0 then 0 else k.bk.dO ((k.p n).mem.fr (a/8)-1) (a%8)
theorem Mv.mH.fr{m m':Me}{k k':Bk}{z:Int}{wr:Bool}{g:Nat}(t:Mv.mH m k z wr 0 g m' k'):m'.fr (z.toNat/8)=g+1:=by
 rcases t with⟨_,h,_⟩|⟨_,h,_,_,rfl,rfl,rfl⟩|⟨_,_,_,_,⟨h,_⟩|⟨_,rfl,_⟩⟩
 .exact aZ h bE
 .omega
 .exact aZ rfl h
 .simp[je]
theorem Kn.QR{g:Nat}{wr:Bool}{b:Bk}(t:Mv.mH (k.p n).mem k.bk z wr 0 g m b)(c:Bk):Kn.yG (Kn.cT k n m c) n z.toNat=c.dO g (z.toNat%8):=by
 unfold Kn.yG;rw[Kn.jF];show(if m.fr (z.toNat/8)=0 then 0 else c.dO (m.fr (z.toNat/8)-1) (z.toNat%8))=_;rw[t.fr,nJ,aP]
theorem Kn.G6(k:Kp)(n:Nat)(m:Me)(b:Bk):(Kn.cT k n m b).gr=k.gr/\((Kn.cT k n m b).p n).cA=(k.p n).cA:=⟨rfl,by rw[Kn.jF]⟩
section
variable (Wt N:Nat)(d:Nat->Nat)(s:St)(w:bD)
theorem IQ(n c1 c2:Nat)(a:Int)(h:bO w Wt s)(hh:KH N d s.k)(hn:n<20)(l:Kn.lv s.k n=bw)(x1:w.cell? ⟨c1,0,bu⟩=bj (aa az a))(x2:∃u,w.heap[c2]? =bj (bh #[aa bc u] 5 (0,0)))(nk:¬KB s c2):
  Calls prog 107 #[ai (bj ⟨s.A (9+n),0,bu⟩),ai (bj ⟨c1,0,bu⟩),ai (bj ⟨c2,0,bu⟩)] w λe w'=>∃E k',e=bf (bN E)/\Kn.xb a s.k n E k'/\bO w' Wt {s with k:=k'}/\(∃W,KF s w {s with k:=k'} W/\bG c2 W w')/\∃u,w'.heap[c2]? =bj (bh #[aa bc u] 5 (0,0))/\(E=0->u=Kn.yG k' n a.toNat):=by
 have hs:=hh.ki.vi.kj.lv n hn (λx=>x) (Kn.dL.1 l);obtain⟨u,hu⟩:=x2;have LD:Hid (Calls prog 108 #[ai (bj ⟨s.A (9+n),0,bu⟩),aa az a] w λe w'=>∃(v E:Int) (k':Kp),e=bf (ao #[aa bc v,bN E])/\Kn.xb a s.k n E k'/\bO w' Wt {s with k:=k'}/\KF s w {s with k:=k'} w'/\w'.heap[c2]? =w.heap[c2]? /\(E=0->v=Kn.yG k' n a.toNat)):=hJ ((MJ _ _ _ a _ _ w (h.ub hn hs) (hh.ki.vi.kj.me.Tz hn)).mono (by
  rintro _ w' ⟨E,g,m,b,rfl,t,u1,f,_⟩;have q:=h.zd hn hs u1 f;exact⟨_,E,_,rfl,⟨g,m,b,t,rfl⟩,q.1,q.2,q.2.jj (aX.1 hu).1 nk,λe=>by subst e;rw[aJ rfl];exact(Kn.QR t _).symm⟩))
 generalize s.A (9+n)=m9 at*;have H:=hJ (aK nk hu);go_in
 go_wp2_with fail
 refine LD.mono ?_;rintro e w1 ⟨v,E,k',rfl,S1⟩;have S1:=hJ S1;have hu:=S1.2.2.2.1.trans H.2;have y:w1.cell? ⟨c2,0,bu⟩=bj (aa bc u):=by rw[bR hu];rfl
 have fz:=cE hu;have FI:Hid (bO (w1.setCell ⟨c2,0,bu⟩ (aa bc v)) Wt {s with k:=k'}/\(∃W,KF s w {s with k:=k'} W/\bG c2 W (w1.setCell ⟨c2,0,bu⟩ (aa bc v)))/\∃u,(w1.setCell ⟨c2,0,bu⟩ (aa bc v)).heap[c2]? =bj (bh #[aa bc u] 5 (0,0))/\(E=0->u=Kn.yG k' n a.toNat)):=hJ (by
  have f:bG c2 w1 (w1.setCell ⟨c2,0,bu⟩ (aa bc v)):=(bG.refl _ _).setCell _ _;refine⟨S1.2.1.fresh f (S1.2.2.1.apart (aX.1 H.2).1 H.1),⟨w1,S1.2.2.1,f⟩,v,?_,S1.2.2.2.2⟩;rw[cQ hu 0];rfl)
 go_wp2
 go_ret
 exact⟨E,k',rfl,S1.1,FI.v⟩
def Kn.V4(w:bD)(s:St)(c:Nat)(V:bD)(s1:St):Prop:=KF s w s1 V/\(∃u,V.heap[c]? =bj (bh #[aa bc u] 5 (0,0)))/\¬KB s1 c
theorem K6(z a:Int)(cp:Kn.JK Wt s w)(hN:N<900)(h:bO w Wt s)(hh:KH N d s.k):
  Calls prog 47 #[ai (bj ⟨s.A 0,0,bu⟩),aa az z,aa az a] w (Kn.Nx Wt s w λv k'=>∃(u:Int) (x:Value),v=ao #[aa bc u,x]/\Kn.kJ a (Kn.xb a) s.k z x k'/\(x=ay->u=Kn.yG k' z.toNat a.toNat)):=by
 have B0:=((aQ w.heap.size w).alloc (aL _) (bh #[aa az a] 3)).alloc (by simp) (bh #[aa bc 0] 5);have h0:((w.alloc (bh #[aa az a] 3)).alloc (bh #[aa bc 0] 5)).heap[w.heap.size]? =bj (bh #[aa az a] 3 (0,0)):=
  (((aQ _ _).alloc (aL _) _).block w.heap.size (by simp)).trans (heap_alloc_new _ _)
 have h1:((w.alloc (bh #[aa az a] 3)).alloc (bh #[aa bc 0] 5)).heap[w.heap.size+1]? =bj (bh #[aa bc 0] 5 (0,0)):=by
  have:=heap_alloc_new (w.alloc (bh #[aa az a] 3)) (bh #[aa bc 0] 5);rw[show(w.alloc (bh #[aa az a] 3)).heap.size=w.heap.size+1 by simp]at this;exact this
 have TO:Hid (∀W,(w.alloc (bh #[aa az a] 3)).alloc (bh #[aa bc 0] 5)=W->_):=hJ (λW e=>by
  rw[e]at B0 h0 h1;exact FE Wt N d s W z a w.heap.size (w.heap.size+1) (Kn.xb a) (Kn.V4 w s (w.heap.size+1)) (λn W k'=>∃u,W.heap[w.heap.size+1]? =bj (bh #[aa bc u] 5 (0,0))/\u=Kn.yG k' n a.toNat) (λV n b hn l=>cp V n (B0.trans (b.mono B0.size)) hn l) hN (h.below B0) hh (λk n E k'=>by rintro⟨_,_,_,_,rfl⟩;exact Kn.G6 _ _ _ _)
   (λV s1 W s2 g f=>by
    obtain⟨g1,⟨u,g2⟩,g3⟩:=g;have l:=(aX.1 g2).1;exact⟨g1.trans f,⟨u,(f.jj l g3).trans g2⟩,f.apart l g3⟩)
   (λV s1 f=>⟨(KF.below B0).trans f,⟨0,(f.jj (aX.1 h1).1 (h.ie bB)).trans h1⟩,f.apart (aX.1 h1).1 (h.ie bB)⟩)
   (λV s1 n K F kh hn ln=>by
    have l1:=(aX.1 h1).1;have nk:=h.ie (rb:=w.heap.size+1) bB;refine(IQ Wt (N+1) d s1 V n _ _ a K kh hn ln (by rw[aV (F.jj (aX.1 h0).1 (h.ie (aL _))),bR h0];rfl) ⟨0,(F.jj l1 nk).trans h1⟩ (F.apart l1 nk)).mono ?_;rintro _ w' ⟨E,k',rfl,ld,kk,⟨W2,f,fr⟩,u,hu,hb⟩;exact⟨E,k',rfl,ld,kk,⟨((KF.below B0).trans (F.trans f)).fresh fr bB,⟨u,hu⟩,f.apart (aD l1 F.ia.size) (F.apart l1 nk)⟩,λe=>⟨u,hu,hb e⟩⟩))
 generalize s.A 0=kb at*;go_in
 go_wp2_with fail
 refine(TO.v _ rfl).mono ?_;rintro e w1 ⟨x,s',rfl,t,k1,⟨g1,⟨u,hu⟩,g3⟩,pp⟩;have S1:Hid ((Kn.kJ a (Kn.xb a) s.k z x s'.k/\(x=ay->u=Kn.yG s'.k z.toNat a.toNat))/\bO w1 Wt s'/\KF s w s' w1):=hJ ⟨⟨t,λe=>by
  obtain⟨u',h1,h2⟩:=pp e;rw[hu]at h1;simp at h1;rw[h1];exact h2⟩,k1,g1⟩
 have y:w1.cell? ⟨w.heap.size+1,0,bu⟩=bj (aa bc u):=by rw[bR hu];rfl
 go_wp2
 go_ret2
 exact⟨_,s',rfl,⟨u,x,rfl,S1.1.1,S1.1.2⟩,S1.2⟩
theorem I6(z a u:Int)(cp:Kn.JK Wt s w)(hN:N<900)(h:bO w Wt s)(hh:KH N d s.k):
  Calls prog 48 #[ai (bj ⟨s.A 0,0,bu⟩),aa az z,aa az a,aa bc u] w (Kn.Nx Wt s w (Kn.kJ a (Kn.yy a u) s.k z)):=by
 have B0:=((aQ w.heap.size w).alloc (aL _) (bh #[aa az a] 3)).alloc (by simp) (bh #[aa bc u] 5);have h0:((w.alloc (bh #[aa az a] 3)).alloc (bh #[aa bc u] 5)).heap[w.heap.size]? =bj (bh #[aa az a] 3 (0,0)):=
  (((aQ _ _).alloc (aL _) _).block w.heap.size (by simp)).trans (heap_alloc_new _ _)
 have h1:((w.alloc (bh #[aa az a] 3)).alloc (bh #[aa bc u] 5)).heap[w.heap.size+1]? =bj (bh #[aa bc u] 5 (0,0)):=by
  have:=heap_alloc_new (w.alloc (bh #[aa az a] 3)) (bh #[aa bc u] 5);rw[show(w.alloc (bh #[aa az a] 3)).heap.size=w.heap.size+1 by simp]at this;exact this
 have TO:Hid (∀W,(w.alloc (bh #[aa az a] 3)).alloc (bh #[aa bc u] 5)=W->_):=hJ (λW e=>by
  rw[e]at B0 h0 h1;exact FH Wt N d s W z a w.heap.size (w.heap.size+1) (Kn.yy a u) (λV s1=>KF s w s1 V) (λ_ _ _=>True) (λV n b hn l=>cp V n (B0.trans (b.mono B0.size)) hn l) hN (h.below B0) hh (λk n E k'=>by rintro⟨_,_,_,_,rfl⟩;exact Kn.G6 _ _ _ _)
   (λV s1 W s2 g f=>g.trans f) (λV s1 f=>(KF.below B0).trans f)
   (λV s1 n K F kh hn ln=>by
    have hs:=kh.ki.vi.kj.lv n hn (λx=>x) (Kn.dL.1 ln);have x0:V.cell? ⟨w.heap.size,0,bu⟩=bj (aa az a):=by rw[aV (F.jj (aX.1 h0).1 (h.ie (aL _))),bR h0];rfl
    have x1:V.cell? ⟨w.heap.size+1,0,bu⟩=bj (aa bc u):=by rw[aV (F.jj (aX.1 h1).1 (h.ie (rb:=w.heap.size+1) bB)),bR h1];rfl
    have ST:Hid (Calls prog 110 #[ai (bj ⟨s1.A (9+n),0,bu⟩),aa az a,aa bc u] V λe w'=>∃E k',e=bf (bN E)/\Kn.yy a u s1.k n E k'/\bO w' Wt {s1 with k:=k'}/\KF s w {s1 with k:=k'} w'):=hJ ((JE _ _ _ a u _ _ V (K.ub hn hs) (kh.ki.vi.kj.me.Tz hn)).mono (by
     rintro _ w' ⟨E,g,m,b,rfl,t,u1,f,_⟩;have q:=K.zd hn hs u1 f;exact⟨E,_,rfl,⟨g,m,b,t,rfl⟩,q.1,(KF.below B0).trans (F.trans q.2)⟩))
    generalize s1.A (9+n)=m9 at*;generalize w.heap.size=c1 at*;go_in
    go_wp2_with fail
    refine ST.mono ?_;rintro e w1 ⟨E,k',rfl,S1⟩;have S1:=hJ S1;go_wp2
    go_ret
    exact⟨E,k',rfl,S1.1,S1.2.1,S1.2.2,λ_=>trivial⟩))
 generalize s.A 0=kb at*;go_in
 go_wp2_with fail
 refine(TO.v _ rfl).mono ?_;rintro e w1 ⟨x,s',rfl,S1⟩;have S1:=hJ S1;go_wp2
 go_ret
 exact⟨_,s',rfl,S1.1,S1.2.1,S1.2.2.1⟩
theorem Dw(hN:N<=900)(h:bO w Wt s)(hh:KH N d s.k):Kn.JK Wt s w:=λV n b hn l=>Ol Wt N d s V n hN (h.below b) hh hn l
end
theorem yE{W w1:bD}(hb:Below W.heap.size W w1):(∀b o,b<W.heap.size->w1.cell? ⟨b,o,bu⟩=W.cell? ⟨b,o,bu⟩)/\(∀b o,b<W.heap.size->w1.frozen? ⟨b,o,bu⟩=W.frozen? ⟨b,o,bu⟩):=⟨λb o h=>hb.cell (p:=⟨b,o,bu⟩) h,λb o h=>hb.frozen (p:=⟨b,o,bu⟩) h⟩
section
variable {Wt N y:Nat}{s:St}{w:bD}
theorem Ap(h:bO w Wt s)(hj:KJ (λ_=>False) N s.k)(y6:y<6)(yt:s.k.ht y=bw)(V:bD)(p:bU)(b:Below w.heap.size w V):Calls prog 205 #[ai (bj ⟨s.A (49+y),0,bu⟩),ak p] V λe w'=>∃(x:Wh) (nm:bU) (E:Int),e=bf (ao #[au #[aa az x.1,aa az x.2],ak nm,bN E])/\Below V.heap.size V w':=
 (xD Wt _ _ _ _ _ p V ((h.below b).tb y y6 yt) (h.below b).fo hj.ok.sz).mono (by rintro _ w' ⟨x,nm,E,rfl,_,b2⟩;exact⟨x,nm,E,rfl,b2⟩)
theorem wF(h:bO w Wt s)(hj:KJ (λ_=>False) N s.k)(y6:y<6)(yt:s.k.ht y=bw)(V:bD)(p:bU)(b:Below w.heap.size w V):Calls prog 208 #[ai (bj ⟨s.A (49+y),0,bu⟩),ak p] V λe w'=>∃(x:Wh) (E:Int),e=bf (ao #[au #[aa az x.1,aa az x.2],bN E])/\Below V.heap.size V w':=
 (Fc Wt _ _ _ _ _ p V ((h.below b).tb y y6 yt) (h.below b).fo hj.ok.sz).mono (by rintro _ w' ⟨x,E,rfl,_,b2⟩;exact⟨x,E,rfl,b2⟩)
theorem L5(h:bO w Wt s)(hj:KJ (λ_=>False) N s.k)(y6:y<6)(yt:s.k.ht y=bw)(V:bD)(p:bU)(b:Below w.heap.size w V):Calls prog 210 #[ai (bj ⟨s.A (49+y),0,bu⟩),ak p] V λe w'=>∃(x:Wh) (E:Int),e=bf (ao #[au #[aa az x.1,aa az x.2],bN E])/\Below V.heap.size V w':=
 (Sd Wt _ _ _ _ _ p V ((h.below b).tb y y6 yt) (h.below b).fo hj.ok.sz).mono (by rintro _ w' ⟨x,E,rfl,_,b2⟩;exact⟨x,E,rfl,b2⟩)
end
section
variable (Wt N:Nat)(d:Nat->Nat)(s:St)(w:bD)
theorem Oq(z:Int)(p q:bU)(h:bO w Wt s)(hj:KJ (λ_=>False) N s.k):
  Calls prog 129 #[ai (bj ⟨s.A 0,0,bu⟩),aa az z,ak p,ak q] w (Kn.Nx Wt s w (Kn.tZ s.k)):=by
 have TB:=hJ (jR Wt N s w z h hj);have H:=hJ (aK h hj);have RM:Hid (∀V (x:Int) (n:bU) (y:Int) (m:bU),Below w.heap.size w V->Calls prog 207 #[ai (bj ⟨s.A 6,0,bu⟩),aa az x,ak n,aa az y,ak m] V λe w'=>∃E G,e=bf (bN E)/\Kn.FG s.k G/\bO w' Wt {s with k:={s.k with fo:=G}}/\KF s w {s with k:={s.k with fo:=G}} w'):=hJ (λV x n y m b=>(Mp (s.A 6) x n y m s.k.fo V (h.below b).fo hj.ok.sz hj.ok.cY hj.ok.en).mono (by rintro _ w' ⟨E,G,rfl,r,u,f⟩;exact⟨E,G,rfl,⟨hj.ok.Ue r,hj.wx.Ue r⟩,h.Dq b u f⟩));have C6:Hid (∀V,Below w.heap.size w V->V.cell? ⟨s.A 0,250,bu⟩=bj (ai (bj ⟨s.A 6,0,bu⟩))):=hJ (λV b=>(h.below b).wJ);generalize hk:s.A 0=kb at TB C6|-;go_in
 go_wp2_with fail
 refine TB.mono ?_;rintro e w1 ⟨v,rfl,tp,b1⟩;by_cases A:Kn.cD s.k z=0
 .obtain⟨y,y6,yt,rfl⟩:=tp A;have LA:=hJ (Ap H.1 H.2 y6 yt);have WA:=hJ (wF H.1 H.2 y6 yt);rw[A,bF];generalize s.A (49+y)=tb at*;generalize s.A 6=a6 at*;go_wp2_with fail
  refine(LA.v _ p b1).mono ?_;rintro e w2 ⟨x0,nm0,E,rfl,b2⟩;have b2:=b1.trans (b2.mono b1.size);have b2:=b2.alloc b2.size (bh #[aa az x0.1,aa az x0.2] 224);by_cases E0:E=0
  .subst E0;rw[bF];go_wp2_with fail
   refine(LA.v _ q b2).mono ?_;rintro e w3 ⟨x1,nm1,E,rfl,b3⟩;obtain⟨hc,hf⟩:=yE b3;have hz:w2.heap.size<w3.heap.size:=by have:=b3.size;simp at this;omega
   have b3:=b2.trans (b3.mono b2.size);have b3:=b3.alloc b3.size (bh #[aa az x1.1,aa az x1.2] 224);by_cases E0:E=0
   .subst E0;rw[bF];go_upto_region 10 with fail
    have c6:=C6.v _ b3;go_region_with ((go_at_call 207;refine(RM.v _ _ _ _ _ (by first|exact b3|exact b3.drew)).mono ?_;rintro e w4 ⟨E,G,rfl,S4⟩;have S4:=hJ S4))
    all_goals
     go_wp2
     go_ret
     exact .mk ⟨E,G,rfl,S4.1,rfl⟩ S4.2
   .have E1:=hJ (bH E0);rw[bH E0];go_wp2
    go_ret
    exact .at H.1 b3 (.no H.2 E1.v)
  .have E1:=hJ (bH E0);rw[bH E0];go_wp2
   go_ret
   exact .at H.1 b2 (.no H.2 E1.v)
 .have A':=hJ (bH A);rw[bH A];generalize Kn.cD s.k z=ae at*;go_wp2
  go_ret
  exact .at H.1 b1 (.no H.2 A'.v)
theorem On(z:Int)(p q:bU)(h:bO w Wt s)(hj:KJ (λ_=>False) N s.k):
  Calls prog 130 #[ai (bj ⟨s.A 0,0,bu⟩),aa az z,ak p,ak q] w (Kn.Nx Wt s w (Kn.tZ s.k)):=by
 have TB:=hJ (jR Wt N s w z h hj);have H:=hJ (aK h hj);have RM:Hid (∀V (x y:Int) (m:bU),Below w.heap.size w V->Calls prog 209 #[ai (bj ⟨s.A 6,0,bu⟩),aa az x,aa az y,ak m] V λe w'=>∃E G,e=bf (bN E)/\Kn.FG s.k G/\bO w' Wt {s with k:={s.k with fo:=G}}/\KF s w {s with k:={s.k with fo:=G}} w'):=hJ (λV x y m b=>(Ml (s.A 6) x y m s.k.fo V (h.below b).fo hj.ok.sz (λn hn k=>by have:=hj.ok.DM n hn k;have e1:(2:Nat)^60=1152921504606846976:=bE;omega)).mono (by rintro _ w' ⟨E,G,rfl,r,u,f⟩;exact⟨E,G,rfl,⟨hj.ok.T5 r,hj.wx.T5 r⟩,h.Dq b u f⟩));have C6:Hid (∀V,Below w.heap.size w V->V.cell? ⟨s.A 0,250,bu⟩=bj (ai (bj ⟨s.A 6,0,bu⟩))):=hJ (λV b=>(h.below b).wJ);generalize hk:s.A 0=kb at TB C6|-;go_in
 go_wp2_with fail
 refine TB.mono ?_;rintro e w1 ⟨v,rfl,tp,b1⟩;by_cases A:Kn.cD s.k z=0
 .obtain⟨y,y6,yt,rfl⟩:=tp A;have LA:=hJ (Ap H.1 H.2 y6 yt);have WA:=hJ (wF H.1 H.2 y6 yt);rw[A,bF];generalize s.A (49+y)=tb at*;generalize s.A 6=a6 at*;go_wp2_with fail
  refine(WA.v _ p b1).mono ?_;rintro e w2 ⟨x0,E,rfl,b2⟩;have b2:=b1.trans (b2.mono b1.size);have b2:=b2.alloc b2.size (bh #[aa az x0.1,aa az x0.2] 224);by_cases E0:E=0
  .subst E0;rw[bF];go_wp2_with fail
   refine(LA.v _ q b2).mono ?_;rintro e w3 ⟨x1,nm1,E,rfl,b3⟩;obtain⟨hc,hf⟩:=yE b3;have hz:w2.heap.size<w3.heap.size:=by have:=b3.size;simp at this;omega
   have b3:=b2.trans (b3.mono b2.size);have b3:=b3.alloc b3.size (bh #[aa az x1.1,aa az x1.2] 224);by_cases E0:E=0
   .subst E0;rw[bF];go_upto_region 10 with fail
    have c6:=C6.v _ b3;go_region_with ((go_at_call 209;refine(RM.v _ _ _ _ (by first|exact b3|exact b3.drew)).mono ?_;rintro e w4 ⟨E,G,rfl,S4⟩;have S4:=hJ S4))
    all_goals
     go_wp2
     go_ret
     exact .mk ⟨E,G,rfl,S4.1,rfl⟩ S4.2
   .have E1:=hJ (bH E0);rw[bH E0];go_wp2
    go_ret
    exact .at H.1 b3 (.no H.2 E1.v)
  .have E1:=hJ (bH E0);rw[bH E0];go_wp2
   go_ret
   exact .at H.1 b2 (.no H.2 E1.v)
 .have A':=hJ (bH A);rw[bH A];generalize Kn.cD s.k z=ae at*;go_wp2
  go_ret
  exact .at H.1 b1 (.no H.2 A'.v)
def Kn.Nf(k:Kp)(v:Value)(k':Kp):Prop:=∃(x E:Int) (G:Fo),v=ao #[aa az x,bN E]/\Kn.FG k G/\k'={k with fo:=G}
theorem Kn.Nf.no{N:Nat}(h:KJ X N k)(e:bN E=v):Kn.Nf k (ao #[aa az 0,v]) k:=⟨0,E,k.fo,by rw[e],⟨h.ok,h.wx⟩,rfl⟩
theorem Dz(z:Int)(p:bU)(kz:Int)(h:bO w Wt s)(hj:KJ (λ_=>False) N s.k):
  Calls prog 199 #[ai (bj ⟨s.A 0,0,bu⟩),aa az z,ak p,aa az kz] w (Kn.Nx Wt s w (Kn.Nf s.k)):=by
 have TB:=hJ (jR Wt N s w z h hj);have H:=hJ (aK h hj);have RM:Hid (∀V (x:Int) (n:bU),Below w.heap.size w V->Calls prog 242 #[ai (bj ⟨s.A 6,0,bu⟩),aa az x,ak n,aa az kz] V λe w'=>∃(K:Nat) (E:Int) (G:Fo),e=bf (ao #[aa az K,bN E])/\Kn.FG s.k G/\bO w' Wt {s with k:={s.k with fo:=G}}/\KF s w {s with k:={s.k with fo:=G}} w'):=hJ (λV x n b=>(Mn (s.A 6) x n kz s.k.fo V (h.below b).fo hj.ok.sz).mono (by rintro _ w' ⟨K,E,G,rfl,r,u,f⟩;exact⟨K,E,G,rfl,⟨hj.ok.T9 r,hj.wx.T9 r⟩,h.Dq b u f⟩));have C6:Hid (∀V,Below w.heap.size w V->V.cell? ⟨s.A 0,250,bu⟩=bj (ai (bj ⟨s.A 6,0,bu⟩))):=hJ (λV b=>(h.below b).wJ);generalize hk:s.A 0=kb at TB C6|-;go_in
 go_wp2_with fail
 refine TB.mono ?_;rintro e w1 ⟨v,rfl,tp,b1⟩;by_cases A:Kn.cD s.k z=0
 .obtain⟨y,y6,yt,rfl⟩:=tp A;have LA:=hJ (Ap H.1 H.2 y6 yt);have WA:=hJ (wF H.1 H.2 y6 yt);rw[A,bF];generalize s.A (49+y)=tb at*;generalize s.A 6=a6 at*;go_wp2_with fail
  refine(LA.v _ p b1).mono ?_;rintro e w2 ⟨x0,nm0,E,rfl,b2⟩;have b2:=b1.trans (b2.mono b1.size);have b2:=b2.alloc b2.size (bh #[aa az x0.1,aa az x0.2] 224);by_cases E0:E=0
  .subst E0;rw[bF];go_upto_region 7 with fail
   have c6:=C6.v _ b2;go_region_with ((go_at_call 242;refine(RM.v _ _ _ (by first|exact b2|exact b2.drew)).mono ?_;rintro e w4 ⟨K,E,G,rfl,S4⟩;have S4:=hJ S4))
   all_goals
    go_wp2
    go_ret2
    exact .mk ⟨K,E,G,rfl,S4.1,rfl⟩ S4.2
  .have E1:=hJ (bH E0);rw[bH E0];go_wp2
   go_ret2
   exact .at H.1 b2 (.no H.2 E1.v)
 .have A':=hJ (bH A);rw[bH A];generalize Kn.cD s.k z=ae at*;go_wp2
  go_ret2
  exact .at H.1 b1 (.no H.2 A'.v)
theorem IU(z:Int)(p:bU)(h:bO w Wt s)(hj:KJ (λ_=>False) N s.k):
  Calls prog 127 #[ai (bj ⟨s.A 0,0,bu⟩),aa az z,ak p] w (Kn.Nx Wt s w (Kn.tZ s.k)):=by
 have MA:=hJ (Dz Wt N s w z p 2 h hj);generalize s.A 0=kb at*;go_in
 go_wp2_with fail
 refine MA.mono ?_;rintro e w1 ⟨v,s',rfl,⟨x,E,G,rfl,g,ek⟩,S1⟩;have S1:=hJ (aK g (aK ek S1));go_wp2
 go_ret
 exact⟨_,s',rfl,⟨E,G,rfl,S1.1,S1.2.1⟩,S1.2.2⟩
end
namespace Mo
structure MG (g:Nat->Nat)(F0 F:Fo)(T:Mo.Tb):Prop where
 ok:Tr.Ok F
 hi:HI F (λn=>g n+tc T n)
 rg:Rg T
 sH:T.ms.length<=6
 kd:∀n,n<40->0<g n->(F.nd n).kind=(F0.nd n).kind
section
variable {g:Nat->Nat}{F0 F F':Fo}{T T':Mo.Tb}
theorem MG.bin(h:MG g F0 F T)(x y:Wh):MG g F0 (zX F T x y) (zY F T x y):=by
 unfold zX zY;by_cases c:lL F T x y=0
 .rw[aJ c,aJ c];obtain⟨c1,c2,c3⟩:=Th c;refine⟨(h.ok.dP _).dP _,(Kx h.hi (zM c1) (zM c2)).congr (λn _=>?_),⟨h.rg.1,λm hm=>?_⟩,?_,λn hn c=>(oE _ _ _).trans ((oE _ _ _).trans (h.kd n hn c))⟩
  .show _=g n+(gT T.rt.2 n+mc (T.ms++[(x,y)]) n);rw[Ua,nH,uS];unfold tc;omega
  .rcases List.mem_append.1 hm with k|k
   .exact h.rg.2 m k
   .rw[List.mem_singleton]at k;subst k;exact⟨xH (zM c1),xH (zM c2)⟩
  .have:=h.sH;show(T.ms++[(x,y)]).length<=6;rw[List.length_append,List.length_singleton];omega
 .rw[aI c,aI c];exact h
theorem MG.Wq{x:Wh}(h:MG g F0 F T)(hu:Cm F T x E T' F'):MG g F0 F' T':=by
 rcases hu with⟨i,_,m,hm,_,rfl,rfl⟩|⟨_,_,rfl,rfl⟩
 .have hl:=(aY.1 hm).1;have hin:=h.rg.2 m (bK hm);have hi:HI (jd F m) (λn=>g n+tc ⟨T.rt,T.ms.eraseIdx i⟩ n):=Lm (h.hi.congr (λn _=>by
   show g n+(gT T.rt.2 n+mc T.ms n)=g n+(gT T.rt.2 n+mc (T.ms.eraseIdx i) n)+gT m.1.2 n+gT m.2.2 n;rw[OP hm n];omega)) hin.1 hin.2
  refine⟨(h.ok.dD _).dD _,hi,⟨h.rg.1,λy hy=>h.rg.2 y (List.mem_of_mem_eraseIdx hy)⟩,?_,λn hn c=>(DI (by rw[hi.hd n hn];omega)).trans (h.kd n hn c)⟩;have:=h.sH;show(T.ms.eraseIdx i).length<=6;rw[List.length_eraseIdx_of_lt hl];omega
 .exact h
theorem MG.piv{t:Int}(h:MG g F0 F T)(e0:Tr.gF F t=0):MG g F0 (Tr.dP (lF F T) (Tr.fR F t)) ⟨(t,(Tr.fR F t:Int)),[]⟩:=by
 have o:=Ll (T:=T) h.ok;have er:Tr.gF (lF F T) t=Tr.gF F t:=by unfold Tr.gF;rw[(DH F T).2]
 have nr:Tr.fR (lF F T) t=Tr.fR F t:=by unfold Tr.fR;rw[er,(DH F T).1]
 have al:Tr.cH (lF F T) (Tr.fR F t)=0:=by rw[<-nr];exact Jq o (er.trans e0)
 have hl:=Lj h.hi h.rg;refine⟨o.dP _,(hl.dP al).congr (λn _=>?_),⟨xH al,λm hm=>by cases hm⟩,by simp,λn hn c=>(oE _ _ _).trans ((DG (by rw[hl.hd n hn];exact c)).trans (h.kd n hn c))⟩;show g n+gT (Tr.fR F t) n=g n+(gT (Tr.fR F t) n+mc [] n);rw[uS];rfl
end
end Mo
namespace Kn
def vz(k:Kp)(y:Nat)(T:Mo.Tb)(F:Fo):Kp:={k with tb:=λi=>if i=y then T else k.tb i,fo:=F}
theorem EB(k:Kp)(y:Nat)(T:Mo.Tb)(F:Fo)(yt:k.ht y=bw)(m:Nat):∀s,ly (vz k y T F) m s+(if y<s then Mo.tc (k.tb y) m else 0)=ly k m s+if y<s then Mo.tc T m else 0
 |0=>rfl
 |s+1=>by
  have ih:=EB k y T F yt m s;show ly (vz k y T F) m s+(if k.ht s=bw then Mo.tc (if s=y then T else k.tb s) m else 0)+_=ly k m s+(if k.ht s=bw then Mo.tc (k.tb s) m else 0)+_;by_cases c:s=y
  .subst c;rw[aI (bV _),aI (bV _)]at ih;rw[aJ yt,aJ yt,aJ rfl,aJ (Nat.lt_succ_self _),aJ (Nat.lt_succ_self _)];omega
  .rw[aI c];by_cases e:y<s
   .rw[aJ e,aJ e]at ih;rw[aJ (show y<s+1 by omega),aJ (show y<s+1 by omega)];omega
   .rw[aI e,aI e]at ih;rw[aI (show¬y<s+1 by omega),aI (show¬y<s+1 by omega)];omega
section
variable {X:Nat->Prop}{N y:Nat}{k:Kp}
def fW(k:Kp)(y n:Nat):Nat:=Fx.cK k.fi 1 n 24+(jO k n-Mo.tc (k.tb y) n)
theorem KJ.mg(h:KJ X N k)(y6:y<6)(yt:k.ht y=bw):Mo.MG (fW k y) k.fo k.fo (k.tb y):=by
 have rg:=h.tb y y6 yt;refine⟨h.ok,⟨λn hn=>?_,λn hn c kz=>?_⟩,rg.1,rg.2,λ_ _ _=>rfl⟩
 .have:Mo.tc (k.tb y) n<=jO k n:=sM n yt 6 y6;rw[h.wx.hl n hn];unfold fW;omega
 .have:Mo.tc (k.tb y) n<=jO k n:=sM n yt 6 y6;have:=h.wx.z0 n hn kz;rw[h.wx.hl n hn]at this;unfold fW at c;omega
theorem KJ.Wp(h:KJ X N k)(y6:y<6)(yt:k.ht y=bw){T:Mo.Tb}(g:Mo.MG (fW k y) k.fo F T):KJ X N (vz k y T F):=by
 have tx:∀m,fW k y m+Mo.tc T m=Fx.cK k.fi 1 m 24+jO (vz k y T F) m:=λm=>by
  have:=EB k y T F yt m 6;rw[aJ y6,aJ y6]at this;have:Mo.tc (k.tb y) m<=jO k m:=sM m yt 6 y6;unfold fW jO at*;omega
 refine⟨h.sp,h.gr,h.me,⟨h.wx.no,h.wx.kd,λn hn r k1=>?_,h.wx.pn,h.wx.ps,λm hm=>(g.hi.hd m hm).trans (tx m),λm hm kz=>?_,h.wx.rd,h.wx.wt⟩,h.rf,g.ok,λs hs q=>?_,h.st,h.hs,h.lv,h.of,h.ht,h.nm⟩
 .have a:=h.wx.nd n hn r k1;refine⟨a.1,(g.kd _ a.1 ?_).trans a.2⟩;have c1:=Fx.rm (T:=k.fi) (k:=1) (m:=(k.fi n).num) hn;have c2:=Fx.nC r;rw[k1]at c2;have c3:Fx.hit (k.fi n) 1 (k.fi n).num=1:=c2;unfold fW;omega
 .have e:(F.nd m).held=_:=g.hi.hd m hm;by_cases c:(F.nd m).held=0
  .exact c
  .exact aZ kz (g.hi.lv m hm bB)
 .show Mo.Rg (if s=y then T else k.tb s)/\(if s=y then T else k.tb s).ms.length<=6;by_cases c:s=y
  .rw[aJ c];exact⟨g.rg,g.sH⟩
  .rw[aI c];exact h.tb s hs q
end
def oc(s:St)(y:Nat)(v:Value)(T:Mo.Tb)(F:Fo):St:=⟨λi=>if i=55+y then v.ownBlock.getD 0 else s.A i,λi=>if i=y then v else s.V i,vz s.k y T F⟩
end Kn
open Kn (oc vz)
theorem bO.kP{y:Nat}(h:bO w Wt s)(y6:y<6)(yt:s.k.ht y=bw){T:Mo.Tb}(t:bT w' Wt (s.A (49+y)) (s.A 6) T v)(u:bS w' (s.A 6) F)(o:dS (BV (s.A (49+y)) (s.A 6) (s.V y)) w w')(nw:Nw w (s.V y) v):bO w' Wt (oc s y v T F)/\KF s w (oc s y v T F) w':=by
 have A9:∀i,i≠55+y->(oc s y v T F).A i=s.A i:=λi hi=>aI hi;have Ar:∀g,v.ownBlock=bj g->(oc s y v T F).A (55+y)=g:=λg e=>by show(if 55+y=55+y then v.ownBlock.getD 0 else _)=g;rw[aJ rfl,e];rfl
 have us':∀i,us (oc s y v T F) i->(i=55+y/\∃g,v.ownBlock=bj g)\/(i≠55+y/\us s i):=λi hi=>by
  by_cases c:i=55+y
  .left;refine⟨c,?_⟩;subst c;rcases hi with hi|⟨_,h2,_⟩|⟨_,h2,_⟩|⟨_,h2,_⟩|⟨_,_,_,h4⟩
   .omega
   .omega
   .omega
   .omega
   .have e:(oc s y v T F).V (55+y-55)=v:=by show(if 55+y-55=y then v else _)=v;rw[nK]
    rw[e]at h4;cases e2:v.ownBlock with
    |none=>exact aZ e2 h4
    |some g=>exact⟨g,rfl⟩
  .right;refine⟨c,?_⟩;rcases hi with hi|hi|hi|hi|⟨h1,h2,h3,h4⟩
   .exact .inl hi
   .exact .inr (.inl hi)
   .exact .inr (.inr (.inl hi))
   .exact .inr (.inr (.inr (.inl hi)))
   .have e:(oc s y v T F).V (i-55)=s.V (i-55):=nJ;rw[e]at h4;exact .inr (.inr (.inr (.inr ⟨h1,h2,h3,h4⟩)))
 have ut:=Kn.kE y6 yt;have bk:∀i,us s i->i≠49+y->i≠6->i≠55+y->w'.heap[s.A i]? =w.heap[s.A i]? :=λi hi a b c=>o.block _ (h.lt hi) (λq=>by
  rcases q with q|q|q
  .exact h.ne hi ut a q
  .exact h.ne hi cv b q
  .exact h.ne hi (Kn.km y6 yt q) c (h.ro y y6 yt _ q).symm)
 have b9:∀i,i<9->i≠6->w'.heap[s.A i]? =w.heap[s.A i]? :=λi hi c=>bk i (.inl hi) bB c bB;have ne:∀n,n<6->n≠y->(oc s y v T F).V n=s.V n/\(oc s y v T F).k.tb n=s.k.tb n:=λn _ c=>⟨aI c,aI c⟩;refine⟨⟨?_,λx hx=>?_,?_,?_,?_,?_,?_,?_,?_,λn hn hh=>?_,λn hn hh=>?_,λn hn hh=>?_,λn hn hh g e=>?_,λi j hi hj e=>?_,λi hi=>?_⟩,⟨?_,λb hb=>?_,A9 0 bB⟩⟩
 .rw[A9 0 bB,b9 0 bB bB];exact h.mT
 .rw[A9 0 bB,aV (b9 0 bB bB),h.eE x hx];refine congrArg bj ?_;unfold Kn.kc Kn.pc;split
  .rw[A9 _ bB,A9 _ bB];rfl
  .split
   .rw[A9 _ bB];rfl
   .split
    .rw[A9 _ bB]
    .rw[A9 _ bB]
 .rw[A9 1 bB];exact h.sp.same (b9 1 bB bB)
 .rw[A9 2 bB];exact(b9 2 bB bB).trans h.gr
 .rw[A9 3 bB];exact h.sc.same (b9 3 bB bB)
 .rw[A9 4 bB,A9 5 bB];exact h.bk.same (b9 4 bB bB) (b9 5 bB bB)
 .rw[A9 8 bB,A9 6 bB,A9 7 bB];exact h.fi.same (b9 8 bB bB)
 .rw[A9 6 bB];exact u
 .rw[A9 7 bB];exact h.pi.same (b9 7 bB bB)
 .rw[A9 _ bB,A9 4 bB];exact(h.me n hn hh).same (bk _ (Kn.ja hn hh) bB bB bB)
 .rw[A9 _ bB];exact(h.bx n hn hh).same (bk _ (Kn.j9 hn hh) bB bB bB)
 .rw[A9 _ bB,A9 6 bB];by_cases c:n=y
  .subst c;rw[show(oc s n v T F).k.tb n=T from aJ rfl,show(oc s n v T F).V n=v from aJ rfl];exact t
  .rw[(ne n hn c).1,(ne n hn c).2];exact(h.tb n hn hh).same (bk _ (Kn.kE hn hh) bB bB bB) (λg eg=>by have:=bk _ (Kn.km hn hh eg) bB bB bB;rwa [h.ro n hn hh g eg]at this)
 .by_cases c:n=y
  .subst c;exact Ar g (by rw[<-e];exact(congrArg Value.ownBlock (show(oc s n v T F).V n=v from aJ rfl)).symm)
  .rw[(ne n hn c).1]at e;rw[A9 _ bB];exact h.ro n hn hh g e
 .have key:∀g,v.ownBlock=bj g->∀j,j≠55+y->us s j->s.A j≠g:=λg eg j jn uj q=>by
   rcases nw with n1|n1
   .rw[eg]at n1;have r:=h.ro y y6 yt g n1.symm;exact jn (h.inj j (55+y) uj (Kn.km y6 yt n1.symm) (q.trans r.symm))
   .have:=n1 g eg;have:=h.lt uj;omega
  rcases us' i hi with⟨i1,g1,e1⟩|⟨i1,i2⟩
  .rcases us' j hj with⟨j1,_⟩|⟨j1,j2⟩
   .omega
   .rw[i1,Ar g1 e1,A9 j j1]at e;exact aZ e.symm (key g1 e1 j j1 j2)
  .rcases us' j hj with⟨j1,g1,e1⟩|⟨j1,j2⟩
   .rw[j1,Ar g1 e1,A9 i i1]at e;exact aZ e (key g1 e1 i i1 i2)
   .rw[A9 i i1,A9 j j1]at e;exact h.inj i j i2 j2 e
 .rcases us' i hi with⟨i1,g1,e1⟩|⟨i1,i2⟩
  .rw[i1,Ar g1 e1];exact(t.row.lt g1 e1).1
  .rw[A9 i i1];exact h.low i i2
 .refine⟨o.os,o.tape,o.output,o.size,λk hk hn=>o.block k hk (λq=>hn ?_)⟩;rcases q with q|q|q
  .exact⟨_,ut,q⟩
  .exact⟨6,cv,q⟩
  .exact⟨55+y,Kn.km y6 yt q,(h.ro y y6 yt _ q).symm⟩
 .obtain⟨i,hi,rfl⟩:=hb;rcases us' i hi with⟨i1,g1,e1⟩|⟨i1,i2⟩
  .rw[i1,Ar g1 e1];rcases nw with n1|n1
   .rw[e1]at n1;exact .inl ⟨55+y,Kn.km y6 yt n1.symm,(h.ro y y6 yt g1 n1.symm).symm⟩
   .exact .inr (n1 g1 e1)
  .exact .inl ⟨i,i2,A9 i i1⟩
open Kn (Pr Kp St us KB KJ VI EI KH oc vz)
def Kn.rN(k:Kp)(v:Value)(k':Kp):Prop:=∃E,v=bN E/\(k'=k\/∃y T F,y<6/\k.ht y=bw/\Mo.MG (Kn.fW k y) k.fo F T/\k'=vz k y T F)
theorem Kn.rN.no(e:bN E=v):Kn.rN k v k:=⟨E,e.symm, .inl rfl⟩
section
variable {Wt N y:Nat}{s:St}{w:bD}
theorem QM(h:bO w Wt s)(hb:Wt<=w.heap.size)(hj:KJ (λ_=>False) N s.k)(y6:y<6)(yt:s.k.ht y=bw)(V:bD)(x z:Wh)(b:Below w.heap.size w V):Calls prog 211 #[ai (bj ⟨s.A (49+y),0,bu⟩),au #[aa az x.1,aa az x.2],au #[aa az z.1,aa az z.2]] V (Kn.Nx Wt s w (Kn.rN s.k)):=
 have H:=h.below b
 (Np Wt _ _ 102 _ _ _ x z V (H.tb y y6 yt) H.fo hj.hb bB (aH hb b.size)).mono (by
  rintro _ w' ⟨v,rfl,t,u,o,n⟩;have q:=H.kP y6 yt t u o n;exact⟨_,_,rfl,⟨_,rfl, .inr ⟨y,_,_,y6,yt,(hj.mg y6 yt).bin x z,rfl⟩⟩,q.1,(KF.below b).trans q.2⟩)
theorem Mz(h:bO w Wt s)(hj:KJ (λ_=>False) N s.k)(y6:y<6)(yt:s.k.ht y=bw)(V:bD)(x:Wh)(b:Below w.heap.size w V):Calls prog 212 #[ai (bj ⟨s.A (49+y),0,bu⟩),au #[aa az x.1,aa az x.2]] V (Kn.Nx Wt s w (Kn.rN s.k)):=
 have H:=h.below b
 (JD Wt _ _ 102 _ _ _ x V (H.tb y y6 yt) H.fo hj.hb bB).mono (by
  rintro _ w' ⟨E,T,F,v,rfl,r,t,u,o,n⟩;have q:=H.kP y6 yt t u o (.inl n);exact⟨_,_,rfl,⟨_,rfl, .inr ⟨y,_,_,y6,yt,(hj.mg y6 yt).Wq r,rfl⟩⟩,q.1,(KF.below b).trans q.2⟩)
theorem O6(h:bO w Wt s)(hj:KJ (λ_=>False) N s.k)(y6:y<6)(yt:s.k.ht y=bw)(V:bD)(t:Int)(b:Below w.heap.size w V):Calls prog 94 #[ai (bj ⟨s.A (49+y),0,bu⟩),aa az t] V (Kn.Nx Wt s w (Kn.rN s.k)):=by
 have H:=h.below b;by_cases e0:Tr.gF s.k.fo t=0
 .refine sC (LR Wt _ _ 102 _ _ _ t V (H.tb y y6 yt) H.fo e0 hj.hb bB) ?_;rintro w' ⟨t,u,o⟩;have q:=H.kP y6 yt t u ⟨o.os,o.tape,o.output,o.size,λk hk c=>o.block k hk (λd=>c (d.elim .inl (λd=> .inr (.inl d))))⟩ (.inr (λg e=>by cases e));exact⟨_,_,rfl,⟨0,rfl, .inr ⟨y,_,_,y6,yt,(hj.mg y6 yt).piv e0,rfl⟩⟩,q.1,(KF.below b).trans q.2⟩
 .refine sC (O7 Wt _ _ _ _ _ t V (H.tb y y6 yt) H.fo e0) ?_;rintro w' b2;exact .at h (b.trans (b2.mono b.size)) (.no rfl)
end
section
variable (Wt N:Nat)(d:Nat->Nat)(s:St)(w:bD)
theorem KT(z:Int)(p q:bU)(h:bO w Wt s)(hb:Wt<=w.heap.size)(hj:KJ (λ_=>False) N s.k):
  Calls prog 131 #[ai (bj ⟨s.A 0,0,bu⟩),aa az z,ak p,ak q] w (Kn.Nx Wt s w (Kn.rN s.k)):=by
 have TB:=hJ (jR Wt N s w z h hj);have H:=hJ (aK h (aK hb hj));generalize s.A 0=kb at TB|-;go_in
 go_wp2_with fail
 refine TB.mono ?_;rintro e w1 ⟨v,rfl,tp,b1⟩;by_cases A:Kn.cD s.k z=0
 .obtain⟨y,y6,yt,rfl⟩:=tp A;have RA:=hJ (L5 H.1 H.2.2 y6 yt);have WA:=hJ (wF H.1 H.2.2 y6 yt);have BI:=hJ (QM H.1 H.2.1 H.2.2 y6 yt);rw[A,bF];generalize s.A (49+y)=tb at*;go_wp2_with fail
  refine(RA.v _ p b1).mono ?_;rintro e w2 ⟨x0,E,rfl,b2⟩;have b2:=b1.trans (b2.mono b1.size);have b2:=b2.alloc b2.size (bh #[aa az x0.1,aa az x0.2] 224);by_cases E0:E=0
  .subst E0;rw[bF];go_wp2_with fail
   refine(WA.v _ q b2).mono ?_;rintro e w3 ⟨x1,E,rfl,b3⟩;obtain⟨hc,hf⟩:=yE b3;have hz:w2.heap.size<w3.heap.size:=by have:=b3.size;simp at this;omega
   have b3:=b2.trans (b3.mono b2.size);have b3:=b3.alloc b3.size (bh #[aa az x1.1,aa az x1.2] 224);by_cases E0:E=0
   .subst E0;rw[bF];go_wp2_with fail
    refine(BI.v _ x0 x1 b3).mono ?_;rintro e w4 ⟨v,s',rfl,S4⟩;have S4:=hJ S4;go_wp2
    go_ret
    exact⟨v,s',rfl,S4.v⟩
   .have E1:=hJ (bH E0);rw[bH E0];go_wp2
    go_ret
    exact .at H.1 b3 (.no E1.v)
  .have E1:=hJ (bH E0);rw[bH E0];go_wp2
   go_ret
   exact .at H.1 b2 (.no E1.v)
 .have A':=hJ (bH A);rw[bH A];generalize Kn.cD s.k z=ae at*;go_wp2
  go_ret
  exact .at H.1 b1 (.no A'.v)
theorem FL(z:Int)(p:bU)(h:bO w Wt s)(hj:KJ (λ_=>False) N s.k):
  Calls prog 132 #[ai (bj ⟨s.A 0,0,bu⟩),aa az z,ak p] w (Kn.Nx Wt s w (Kn.rN s.k)):=by
 have TB:=hJ (jR Wt N s w z h hj);have H:=hJ (aK h hj);generalize s.A 0=kb at TB|-;go_in
 go_wp2_with fail
 refine TB.mono ?_;rintro e w1 ⟨v,rfl,tp,b1⟩;by_cases A:Kn.cD s.k z=0
 .obtain⟨y,y6,yt,rfl⟩:=tp A;have RA:=hJ (L5 H.1 H.2 y6 yt);have BI:=hJ (Mz H.1 H.2 y6 yt);rw[A,bF];generalize s.A (49+y)=tb at*;go_wp2_with fail
  refine(RA.v _ p b1).mono ?_;rintro e w2 ⟨x0,E,rfl,b2⟩;have b2:=b1.trans (b2.mono b1.size);have b2:=b2.alloc b2.size (bh #[aa az x0.1,aa az x0.2] 224);by_cases E0:E=0
  .subst E0;rw[bF];go_wp2_with fail
   refine(BI.v _ x0 b2).mono ?_;rintro e w4 ⟨v,s',rfl,S4⟩;have S4:=hJ S4;go_wp2
   go_ret
   exact⟨v,s',rfl,S4.v⟩
  .have E1:=hJ (bH E0);rw[bH E0];go_wp2
   go_ret
   exact .at H.1 b2 (.no E1.v)
 .have A':=hJ (bH A);rw[bH A];generalize Kn.cD s.k z=ae at*;go_wp2
  go_ret
  exact .at H.1 b1 (.no A'.v)
theorem I2(z t:Int)(h:bO w Wt s)(hj:KJ (λ_=>False) N s.k):
  Calls prog 34 #[ai (bj ⟨s.A 0,0,bu⟩),aa az z,aa az t] w (Kn.Nx Wt s w (Kn.rN s.k)):=by
 have TB:=hJ (jR Wt N s w z h hj);have H:=hJ (aK h hj);obtain⟨kb,hk⟩:=hU (s.A 0);have HK:=hJ hk;rw[hk]at TB|-;go_in
 go_wp2_with fail
 refine TB.mono ?_;rintro e w1 ⟨v,rfl,tp,b1⟩;by_cases A:Kn.cD s.k z=0
 .obtain⟨y,y6,yt,rfl⟩:=tp A;obtain⟨n,rfl,hn,hl⟩:=Kn.fL A;have IH:=hJ (mU Wt s w1 n (H.1.below b1) _ rfl);have PV:=hJ (O6 H.1 H.2 y6 yt);rw[HK.v]at IH;rw[A,bF];generalize s.A (49+y)=tb at*;go_wp2_with fail
  refine cG IH.v ?_;cases decide (Kn.hd s.k n=n)
  .go_wp2
   go_ret
   exact .at H.1 b1 (.no (E:=8) rfl)
  .go_wp2_with fail
   refine(PV.v _ t b1).mono ?_;rintro e w4 ⟨v,s',rfl,S4⟩;have S4:=hJ S4;go_wp2
   go_ret
   exact⟨v,s',rfl,S4.v⟩
 .have A':=hJ (bH A);rw[bH A];generalize Kn.cD s.k z=ae at*;go_wp2
  go_ret
  exact .at H.1 b1 (.no A'.v)

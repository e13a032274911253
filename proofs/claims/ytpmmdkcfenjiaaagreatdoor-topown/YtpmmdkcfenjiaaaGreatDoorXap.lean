import Derived.Test.YtpmmdkcfenjiaaaGreatDoorXao
set_option maxRecDepth 100000
set_option maxHeartbeats 4000000
set_option linter.unusedVariables false
set_option linter.unusedSimpArgs false
namespace Go.Proofs.YtpmmdkcfenjiaaaGreatDoor
open Value renaming int->aa,pointer->ai,slice->aj,string->ak,tuple->ao,iface->aq,bool->ar,agg->au,nilIface->az
open IntKind renaming i64->bf,u8->bh
open Ending renaming returned->bw
open Obj renaming cells->bA
open Option renaming some->bB,none->bC
open Bool renaming true->bE,false->bF
open Tryz (prog)
open Go.RowKit
open Tr (Fo Nd)
open Mo (Wh Mt)
open Mv (Me Bk)
open Kn (Pr Kp St us KB KJ VI EI)
variable {F G:Fo}{E c f y z:Int}{k:Kp}{m:Me}{N VK j n:Nat}{Wy:Nat->List (Fin 10)}{d xx:Nat->Nat}{X:Nat->Prop}{s:St}{v:Value}{R:Value->Kp->Prop}{w w':bD}
theorem ND(w:bD):
  Calls prog 32 #[] w λe w'=>∃(s:St) (m:Wf.M),e=bw (ai (bB ⟨s.A 0,0,bC⟩))/\s.k=Kn.kN m/\Wf.jw (Wf.eA Wf.m0 ((0:Nat):Int) 0) ((0:Nat):Int) bE m/\bT w' w.heap.size s/\Below w.heap.size w w':=by
 obtain⟨VK,hbs⟩:=hU (w.heap.size);have HB:Hid (VK<=w.heap.size):=hJ bG;have HBS:=hJ hbs;clear hbs;go_in
 go_wp2_with fail
 refine sC (su _) ?_;rintro w1 ⟨t1,b1,l1⟩;have S1:=hJ (aK t1 (aK b1 l1));clear t1 b1 l1;go_wp2_with fail
 refine sC (Gr.su _) ?_;rintro w2 ⟨t2,b2⟩;have S2:=hJ (aK t2 b2);clear t2 b2;go_wp2_with fail
 refine sC (Wf.su _) ?_;rintro w3 ⟨t3,b3,l3⟩;have S3:=hJ (aK t3 (aK b3 l3));clear t3 b3 l3;go_wp2_with fail
 refine(Ew _).mono ?_;rintro e w4 ⟨a4,rfl,t4,b4,l4⟩;have S4:=hJ (aK t4 (aK b4 l4));clear t4 b4 l4;go_wp2_with fail
 refine sC (OW _) ?_;rintro w5 ⟨t5,b5⟩;have S5:=hJ (aK t5 b5);clear t5 b5;have F7:Hid (NW w (w5.heap.size+1) w.heap.size w1.heap.size w2.heap.size a4 w3.heap.size w4.heap.size w5.heap.size ((w5.alloc (bA Pp.zA 122)).alloc (bA (oF (rP w.heap.size w1.heap.size w2.heap.size a4 w4.heap.size w5.heap.size)) 86))):=hJ (by
  obtain⟨p6,c6⟩:=Fv w5;have z6:(w5.alloc (bA Pp.zA 122)).heap.size=w5.heap.size+1:=by simp
  have c7:Below (w5.alloc (bA Pp.zA 122)).heap.size (w5.alloc (bA Pp.zA 122)) ((w5.alloc (bA Pp.zA 122)).alloc (bA (oF (rP w.heap.size w1.heap.size w2.heap.size a4 w4.heap.size w5.heap.size)) 86)):=(aQ _ _).alloc (aL _) _;have N:=heap_alloc_new (w5.alloc (bA Pp.zA 122)) (bA (oF (rP w.heap.size w1.heap.size w2.heap.size a4 w4.heap.size w5.heap.size)) 86);rw[z6]at N;have e5:=c6.trans (c7.mono bG);have e4:=S5.2.trans (e5.mono S5.2.size);have e3:=S4.2.1.trans (e4.mono S4.2.1.size);have e2:=S3.2.1.trans (e3.mono S3.2.1.size);have e1:=S2.2.trans (e2.mono S2.2.size);have e0:=S1.2.1.trans (e1.mono S1.2.1.size);have g2:=S2.1.lt;have g3:=S3.2.2;have g4:=S4.2.2;have g4':=S4.1.lt;have g5:=S5.1.lt;exact⟨S1.1.same (e1.block _ S1.2.2),(e2.block _ g2).trans S2.1,S3.1.same (e3.block _ g3),S4.1.same (e4.block _ g4') (e4.block _ S4.1.DB),S5.1.same (e5.block _ g5),p6.same (c7.block _ bG),N,e0,rfl,S1.2.2,g2,g3,g4,g4',g5,bG⟩)
 obtain⟨a1,h1⟩:=hU (w.heap.size);obtain⟨a2,h2⟩:=hU (w1.heap.size);obtain⟨a3,h3⟩:=hU (w2.heap.size);obtain⟨a5,h5⟩:=hU (w3.heap.size);obtain⟨a6,h6⟩:=hU (w4.heap.size);have H1:=hJ h1;rw[h1,h2,h3,h5,h6]at F7;rw[h1,h2,h3,h6];obtain⟨KA,hKA⟩:=hU (oF (rP a1 a2 a3 a4 a6 w5.heap.size));have HKA:=hJ hKA;rw[hKA]at F7;clear S1 S2 S3 S4 S5 h1 h2 h3 h5 h6;go_upto_region 2 with(first|(refine Pp.Mj rfl rfl ?_)|(refine Jl a1 a2 a3 a4 a6 w5.heap.size rfl rfl rfl rfl rfl rfl rfl rfl ?_;rw[hKA]))
 obtain⟨a7,h7⟩:=hU (w5.heap.size);obtain⟨a0,h0⟩:=hU (w5.heap.size+1);generalize (w5.alloc (bA Pp.zA 122)).alloc (bA KA 86)=W7 at F7|-;rw[h0]at F7|-;rw[h7]at F7|-;clear hKA HKA h7 h0;have K0:Hid (W7.cell? ⟨a0,250,bC⟩=bB (ai (bB ⟨a6,0,bC⟩))/\W7.cell? ⟨a0,251,bC⟩=bB (ai (bB ⟨a7,0,bC⟩))):=hJ ⟨F7.cell 250 bG,F7.cell 251 bG⟩;have XN:=hJ (O7 a6 a7 W7.drew);obtain⟨a8,h8⟩:=hU (W7.heap.size);have hd8:W7.drew.heap.size=a8:=h8;have H8:=hJ h8;rw[hd8]at XN;have FIN:Hid (∀w8,eI w8 a8 a6 a7 Fx.gC->Below a8 W7.drew w8->(bT (w8.setCell ⟨a0,252,bC⟩ (ai (bB ⟨a8,0,bC⟩))) VK ⟨mN a0 a1 a2 a3 a4 a5 a6 a7 a8,λ_=>aj bC 0 0,Kn.ov⟩/\Below w.heap.size w (w8.setCell ⟨a0,252,bC⟩ (ai (bB ⟨a8,0,bC⟩))))/\(w8.cell? ⟨a0,250,bC⟩=bB (ai (bB ⟨a6,0,bC⟩))/\w8.cell? ⟨a0,251,bC⟩=bB (ai (bB ⟨a7,0,bC⟩)))/\((w8.setCell ⟨a0,252,bC⟩ (ai (bB ⟨a8,0,bC⟩))).cell? ⟨a0,250,bC⟩=bB (ai (bB ⟨a6,0,bC⟩))/\(w8.setCell ⟨a0,252,bC⟩ (ai (bB ⟨a8,0,bC⟩))).cell? ⟨a0,251,bC⟩=bB (ai (bB ⟨a7,0,bC⟩)))/\(∃v,w8.cell? ⟨a0,252,bC⟩=bB v)/\∀o,w8.frozen? ⟨a0,o,bC⟩=bF):=hJ (λw8 xa bl=>by
  have bl':Below W7.heap.size W7 w8:=by rw[H8.v];exact⟨bl.os,bl.tape,bl.output,by have:=bl.size;exact this,bl.block⟩
  have q:=F7.Vv HB.v H8.v xa bl';have ke:w8.heap[a0]? =bB (bA (oF (rP a1 a2 a3 a4 a6 a7)) 86 (0,0)):=(bl'.block _ F7.lt).trans F7.ke;have c:∀o,w8.cell? ⟨a0,o,bC⟩=W7.cell? ⟨a0,o,bC⟩:=λo=>aV (bl'.block _ F7.lt);refine⟨q,by rw[c,c];exact K0.v,⟨by rw[dw ke _ _ _ bG,c];exact K0.1,by rw[dw ke _ _ _ bG,c];exact K0.2⟩,⟨_,by rw[c];exact F7.cell 252 bG⟩,λo=>cL ke o⟩)
 clear h8 hd8;obtain⟨y1,y2⟩:=K0.v;go_region_held3 (λw'=>w'.cell? ⟨a0,250,bC⟩=bB (ai (bB ⟨a6,0,bC⟩))/\w'.cell? ⟨a0,251,bC⟩=bB (ai (bB ⟨a7,0,bC⟩))) (first|exact K0.v|exact S8.2.1|exact S8.2.2.1) (
  (go_at_call 88;refine sC XN.v ?_;rintro w8 ⟨xa,bl⟩;have S8:=hJ (FIN.v w8 xa bl);clear xa bl;have cy:=S8.2.2.2.1;obtain⟨vy,cy⟩:=cy;have fz:=S8.2.2.2.2))
 have S9:=hJ S8.1;clear FIN K0 XN y1 y2 cy fz;generalize w8.setCell ⟨a0,252,bC⟩ (ai (bB ⟨a8,0,bC⟩))=W9 at*;clear S8;have AA:Hid (mN a0 a1 a2 a3 a4 a5 a6 a7 a8 0=a0/\mN a0 a1 a2 a3 a4 a5 a6 a7 a8 2=a2/\mN a0 a1 a2 a3 a4 a5 a6 a7 a8 4=a4/\mN a0 a1 a2 a3 a4 a5 a6 a7 a8 6=a6):=hJ ⟨rfl,rfl,rfl,rfl⟩;generalize mN a0 a1 a2 a3 a4 a5 a6 a7 a8=A at S9 AA;have c250:=S9.1.wI;rw[show(⟨A,λ_=>aj bC 0 0,Kn.ov⟩:St).A 0=a0 from AA.1,show(⟨A,λ_=>aj bC 0 0,Kn.ov⟩:St).A 6=a6 from AA.2.2.2]at c250;have PL:Hid (Calls prog 89 #[ai (bB ⟨a6,0,bC⟩)] W9 λe w'=>∃v,e=bw v/\bT w' VK ⟨A,λ_=>aj bC 0 0,{Kn.ov with fo:=Tr.g1}⟩/\Below w.heap.size w w'):=hJ (by
  have fo:cv W9 (A 6) Tr.f0:=S9.1.fo;have q:=zk (A 6) Tr.f0 W9 fo bM;rw[AA.2.2.2]at q;refine q.mono ?_;rintro e w' ⟨T,E,G,rfl,hp,h2,k2⟩;obtain⟨rfl,rfl,rfl⟩:=Tr.Lf hp;rw[<-AA.2.2.2]at h2 k2;have q2:=S9.1.Cm h2 k2;exact⟨_,rfl,q2.1,k2.below S9.2 (by rw[HBS.v];exact S9.1.low 6 cE) S9.2.size⟩)
 go_wp2_with fail
 refine PL.mono ?_;rintro e w10 ⟨v10,rfl,k10,b10⟩;have S10:=hJ (aK k10 b10);clear k10 b10 PL c250 S9;go_upto_region 4 with fail
 have K0:Hid (w10.cell? ⟨a0,250,bC⟩=bB (ai (bB ⟨a6,0,bC⟩))):=hJ (by
  have q:=S10.1.wI;rw[show(⟨A,λ_=>aj bC 0 0,{Kn.ov with fo:=Tr.g1}⟩:St).A 0=a0 from AA.1,show(⟨A,λ_=>aj bC 0 0,{Kn.ov with fo:=Tr.g1}⟩:St).A 6=a6 from AA.2.2.2]at q;exact q)
 have MN:Hid (Calls prog 90 #[ai (bB ⟨a6,0,bC⟩),aa bf 0] w10.drew λe w'=>∃b,e=bw (ao #[ai (bB ⟨b,0,bC⟩),az])/\bT (w'.setCell ⟨a0,240,bC⟩ (ai (bB ⟨b,0,bC⟩))) VK (Kn.iD ⟨A,λ_=>aj bC 0 0,{Kn.ov with fo:=Tr.dO Tr.g1 ((0:Nat):Int)}⟩ 0 b (aj bC 0 0) Kn.pE)/\Below w.heap.size w (w'.setCell ⟨a0,240,bC⟩ (ai (bB ⟨b,0,bC⟩)))/\w'.cell? ⟨a0,250,bC⟩=bB (ai (bB ⟨a6,0,bC⟩))/\(w'.setCell ⟨a0,240,bC⟩ (ai (bB ⟨b,0,bC⟩))).cell? ⟨a0,250,bC⟩=bB (ai (bB ⟨a6,0,bC⟩))/\(∃v,w'.cell? ⟨a0,240,bC⟩=bB v)/\∀o,w'.frozen? ⟨a0,o,bC⟩=bF):=hJ (by
  have fo:cv w10.drew (A 6) Tr.g1:=S10.1.drew.fo;have q:=Q7 (A 6) 0 Tr.g1 0 w10.drew fo (by rfl) (λn hn=>by rw[Kn.Pm.hd n hn];exact aL 0) bG;rw[AA.2.2.2]at q;refine q.mono ?_;rintro e w' ⟨b,rfl,lb,tt,h2,k2⟩;rw[<-AA.2.2.2]at h2 k2;have q2:=S10.1.drew.Cm h2 k2;have lt:∀i,us ⟨A,λ_=>aj bC 0 0,{Kn.ov with fo:=Tr.g1}⟩ i->A i<b:=λi hi=>aD (S10.1.lt hi) lb;have tt0:=tt VK;rw[<-AA.2.2.2]at tt0;have q3:=q2.1.Pw (y:=0) (c:=b) bG (v:=aj bC 0 0) (T:=Kn.pE) tt0 (λi hi=>by have:=lt i hi;show A i≠b;omega) (λg eg=>by cases eg) (by have:=S10.2.size;have:=HBS.v;have e1:w10.heap.size<=b:=lb;omega);have e0:A 0=a0:=AA.1;rw[show(⟨A,λ_=>aj bC 0 0,{Kn.ov with fo:=Tr.dO Tr.g1 ((Tr.fW Tr.g1 0:Nat):Int)}⟩:St).A 0=a0 from e0]at q3;have b2:Below w.heap.size w w':=k2.below S10.2.drew (by rw[HBS.v];exact S10.1.low 6 cE) S10.2.size;obtain⟨C,ke,_⟩:=q2.1.mL;have ke':w'.heap[a0]? =bB (bA C 86 (0,0)):=by rw[<-e0];exact ke
  have l0:w.heap.size<=a0:=by rw[HBS.v,<-e0];exact S10.1.low 0 cE
  have q4:w'.cell? ⟨a0,250,bC⟩=bB (ai (bB ⟨a6,0,bC⟩)):=by have:=q2.1.wI;rw[<-e0,<-AA.2.2.2];exact this
  refine⟨b,rfl,q3.1,q3.2.below b2 l0 b2.size,q4,by rw[dw ke' _ _ _ bG];exact q4,?_,λo=>cL ke' o⟩;have:=q2.1.eF 240 bG;rw[<-e0];exact⟨_,this⟩)
 have y1:=K0.v;go_region_held3 (λw'=>w'.cell? ⟨a0,250,bC⟩=bB (ai (bB ⟨a6,0,bC⟩))) (first|exact K0.v|exact S11.2.2.1|exact S11.2.2.2.1) (
  (go_at_call 90;refine MN.mono ?_;rintro e w11 ⟨tb,rfl,q1,q2,q3,q4,q5,q6⟩;have S11:=hJ (aK q1 (aK q2 (aK q3 (aK q4 (aK q5 q6)))));clear q1 q2 q3 q4 q5 q6;have cy:=S11.2.2.2.2.1;obtain⟨vy,cy⟩:=cy;have fz:=S11.2.2.2.2.2))
 have S12:=hJ (aK S11.1 S11.2.1);clear K0 MN y1 cy fz S10;generalize w11.setCell ⟨a0,240,bC⟩ (ai (bB ⟨tb,0,bC⟩))=W12 at*;clear S11;have EO:Hid ((Kn.iD ⟨A,λ_=>aj bC 0 0,{Kn.ov with fo:=Tr.dO Tr.g1 ((0:Nat):Int)}⟩ 0 tb (aj bC 0 0) Kn.pE).A 0=a0/\(Kn.iD ⟨A,λ_=>aj bC 0 0,{Kn.ov with fo:=Tr.dO Tr.g1 ((0:Nat):Int)}⟩ 0 tb (aj bC 0 0) Kn.pE).A 2=a2/\(Kn.iD ⟨A,λ_=>aj bC 0 0,{Kn.ov with fo:=Tr.dO Tr.g1 ((0:Nat):Int)}⟩ 0 tb (aj bC 0 0) Kn.pE).A 4=a4/\({(Kn.iD ⟨A,λ_=>aj bC 0 0,{Kn.ov with fo:=Tr.dO Tr.g1 ((0:Nat):Int)}⟩ 0 tb (aj bC 0 0) Kn.pE).k with gr:=Gr.gD Gr.t0 Gr.W0 0 1 0}:Kp)=Kn.lK):=hJ (by
  refine⟨(Kn.fZ _ _ _ _ _ bG bG).trans AA.1,(Kn.fZ _ _ _ _ _ bG bG).trans AA.2.1,(Kn.fZ _ _ _ _ _ bG bG).trans AA.2.2.1,?_⟩;have tbe:(λi=>if i=0 then Kn.pE else Kn.pE)=λ_:Nat=>Kn.pE:=funext λi=>by split<;>rfl
  show(⟨λ_=>Pr.no,λi=>if i=0 then bE else bF,λi=>if i=0 then Kn.pE else Kn.pE,Sp.t0,Gr.gD Gr.t0 Gr.W0 0 1 0,Wf.m0,Mv.Cz,Tr.dO Tr.g1 ((0:Nat):Int),Pp.gC,Fx.gC⟩:Kp)=_;rw[tbe];rfl)
 have GRK:Hid ((Kn.iD ⟨A,λ_=>aj bC 0 0,{Kn.ov with fo:=Tr.dO Tr.g1 ((0:Nat):Int)}⟩ 0 tb (aj bC 0 0) Kn.pE).k.gr=Gr.t0):=hJ rfl;generalize Kn.iD ⟨A,λ_=>aj bC 0 0,{Kn.ov with fo:=Tr.dO Tr.g1 ((0:Nat):Int)}⟩ 0 tb (aj bC 0 0) Kn.pE=s1 at*;have c247:=S12.1.pP;rw[EO.1,EO.2.1]at c247;have CG:Hid (Calls prog 65 #[ai (bB ⟨a2,0,bC⟩),aa bf 0,aa bf 1,aa bf 0] W12 λe w'=>∃v,e=bw v/\bT w' VK {s1 with k:=Kn.lK}/\Below w.heap.size w w'):=hJ (by
  have gt:=S12.1.gr;rw[GRK.v]at gt;have q:=Gr.nO (s1.A 2) 0 1 0 Gr.t0 Gr.W0 W12 gt Gr.zl.ways (Gr.zl.small bG);rw[EO.2.1]at q;refine sC q ?_;rintro w' ⟨t4,f4⟩;rw[<-EO.2.1]at t4 f4;have q2:=S12.1.j8 t4 f4.sI;rw[EO.2.2.2]at q2;exact⟨_,rfl,q2.1,f4.sI.below S12.2 (by rw[HBS.v];exact S12.1.low 2 cE) S12.2.size⟩)
 go_wp2_with fail
 refine CG.mono ?_;rintro e w13 ⟨v13,rfl,k13,b13⟩;have S13:=hJ (aK k13 b13);clear k13 b13 CG c247 S12 GRK;have FP:Hid (Calls prog 91 #[ai (bB ⟨a0,0,bC⟩)] w13 λe w'=>∃mb bb,e=bw (au (dW mb bb (Kn.ia 6)))/\du w' mb a4 Mv.j5/\CX w' bb Sg.gC/\Below w13.heap.size w13 w'/\w13.heap.size<=mb/\w13.heap.size<=bb/\mb≠bb):=hJ (Ip a0 a4 w13 (by have:=S13.1.Vr;rw[show({s1 with k:=Kn.lK}:St).A 0=a0 from EO.1,show({s1 with k:=Kn.lK}:St).A 4=a4 from EO.2.2.1]at this;exact this) (by have:=S13.1.lt (cE (i:=0) bG);rw[show({s1 with k:=Kn.lK}:St).A 0=a0 from EO.1]at this;exact this));go_wp2_with fail
 refine FP.mono ?_;rintro e w14 ⟨mb,bb,rfl,um,ub,bl,lm,lb,mn⟩;have S14:Hid (bT w14 VK {s1 with k:=Kn.lK}/\Below w.heap.size w w14):=hJ ⟨S13.1.below bl,S13.2.trans (bl.mono S13.2.size)⟩;have lt:∀i,us {s1 with k:=Kn.lK} i->s1.A i<w13.heap.size:=λi hi=>S13.1.lt hi;have bs:=S13.2.size;have ST0:=yO VK {s1 with k:=Kn.lK} w14 0 mb bb (Kn.ia 6) ((0:Nat):Int) (λ_=>1) S14.1 bG Sp.xp (by rw[show({s1 with k:=Kn.lK}:St).A 4=a4 from EO.2.2.1];exact um) ub (λi hi=>by have:=lt i hi;show s1.A i≠mb;omega) (λi hi=>by have:=lt i hi;show s1.A i≠bb;omega) mn (by have:=HBS.v;omega) (by have:=HBS.v;omega);rw[show({s1 with k:=Kn.lK}:St).A 0=a0 from EO.1]at ST0;obtain⟨PA,hPA⟩:=hU (dW mb bb (Kn.ia 6));rw[hPA]at ST0|-;have ST:Hid (Calls prog 68 #[ai (bB ⟨a0,0,bC⟩),aa bf 0,au PA,aa bf 0] w14 λe w'=>∃m',e=bw (ao #[])/\Wf.jw (Wf.eA Wf.m0 ((0:Nat):Int) 0) ((0:Nat):Int) bE m'/\bT w' VK {Kn.ec {s1 with k:=Kn.lK} 0 mb bb (Kn.ia 6)with k:=Kn.kN m'}/\dR (KB {s1 with k:=Kn.lK}) w14 w'):=hJ ST0;clear ST0 um ub bl lm lb mn lt bs hPA FP;go_wp2_with fail
 refine ST.mono ?_;rintro e w15 ⟨m',rfl,wk,k15,o15⟩;have S15:Hid (Wf.jw (Wf.eA Wf.m0 ((0:Nat):Int) 0) ((0:Nat):Int) bE m'/\bT w15 VK {Kn.ec {s1 with k:=Kn.lK} 0 mb bb (Kn.ia 6)with k:=Kn.kN m'}/\Below w.heap.size w w15):=hJ ⟨wk,k15,o15.behind S14.2 (λb hb=>by rw[HBS.v];exact S14.1.Tc hb) S14.2.size⟩;clear wk k15 o15 ST;go_wp2
 go_ret
 refine⟨{Kn.ec {s1 with k:=Kn.lK} 0 mb bb (Kn.ia 6)with k:=Kn.kN m'},m',?_,rfl,S15.1,by rw[HBS.v];exact S15.2.1,S15.2.2⟩;rw[show({Kn.ec {s1 with k:=Kn.lK} 0 mb bb (Kn.ia 6)with k:=Kn.kN m'}:St).A 0=a0 from(Kn.fa {s1 with k:=Kn.lK} 0 mb bb (Kn.ia 6) (i:=0) bG bG).trans EO.1];rfl
open Kn (Pr Kp St us KB KJ VI EI KH)
namespace Kn
theorem H7{m1 m2:Wf.M}{r:Int}(k:Wf.jw (Wf.eA Wf.m0 ((0:Nat):Int) 0) ((0:Nat):Int) bE m1)(t:Wf.Ct m1 r m2):r=0:=by
 unfold Wf.jw at k;subst k;have h:∀n,n<20->(Wf.eA Wf.m0 ((0:Nat):Int) 0).here (10+n)=decide (n=0):=by decide
 rcases t.2 with⟨_,q⟩|⟨n,rfl,hn,e⟩
 .exact aZ ⟨rfl,rfl⟩ q
 .have e2:(Wf.eA Wf.m0 ((0:Nat):Int) 0).here (10+n)=bE:=e;rw[h n hn]at e2;simpa using e2
theorem KH.tick(h:KH N d k)(m:Wf.M):KH (N+1) d {k with sc:=m}:=by
 have kj:KJ (λ_=>False) (N+1) {k with sc:=m}:=(h.ki.vi.kj.mono (λ_ _ e=>e) (Nat.le_succ N)).lC m;exact⟨⟨⟨kj,h.ki.vi.iv,h.ki.vi.hs⟩,h.ki.fi,h.ki.pr,h.ki.h0⟩,λj hj j0 s=>by
  obtain⟨q,a⟩:=h.pp j hj j0 s;exact⟨q,a.ik,a.qm,a.pq,a.lq,a.oq⟩,h.l0,h.p0,h.ge⟩
end Kn
section
variable (VK:Nat)(s:St)(w:bD)
theorem Bi(h:bT w VK s):
  Calls prog 37 #[ai (bB ⟨s.A 0,0,bC⟩)] w λe w'=>∃(r:Int) (m:Wf.M),e=bw (aa bf r)/\Wf.Ct s.k.sc r m/\bT w' VK {s with k:={s.k with sc:=m}}/\KF s w {s with k:={s.k with sc:=m}} w':=by
 have c8:=h.yC;have TK:=hJ (Wf.OT (s.A 3) s.k.sc w h.sc);have H:=hJ h;obtain⟨a3,h3⟩:=hU (s.A 3);have H3:=hJ h3;rw[h3]at c8 TK;generalize s.A 0=kb at*;go_in
 go_wp2_with fail
 refine TK.mono ?_;rintro e w1 ⟨r,m,rfl,t,u,f⟩;have S1:Hid (Wf.Ct s.k.sc r m/\bT w1 VK {s with k:={s.k with sc:=m}}/\KF s w {s with k:={s.k with sc:=m}} w1):=hJ (by
  rw[<-H3.v]at u f;exact⟨t,H.lC u f⟩)
 go_wp2
 go_ret
 exact⟨r,m,rfl,S1.v⟩
end
def Kn.yc(k:Kp):Prop:=∃m m',k={Kn.kN m with sc:=m'}
theorem Kn.yc.p{k:Kp}(h:Kn.yc k):k.p 0=Kn.ia 6/\(∀j,j≠0->k.p j=Pr.no)/\k.sp=Sp.fO Sp.t0 ((0:Nat):Int) ((0:Nat):Int):=by
 obtain⟨m,m',rfl⟩:=h;exact⟨Kn.bR Kn.lK 0 (Kn.ia 6),λj q=>Kn.cr Kn.lK 0 j (Kn.ia 6) q,rfl⟩
theorem Kn.yc.live(h:Kn.yc k):Kn.fN k 20=[0]:=by
 have e:Kn.lv k=λn=>decide (n=0):=funext λn=>by
  unfold Kn.lv;by_cases c:n=0
  .rw[c,h.p.1];rfl
  .rw[h.p.2.1 n c];simp[c];exact λq=>by cases q
 unfold Kn.fN;rw[e];rfl
theorem Il(w:bD):
  Calls prog 9 #[] w λe w'=>∃s:St,e=bw (ao #[ai (bB ⟨s.A 0,0,bC⟩),ar bE])/\Kn.yc s.k/\KH 2 (λ_=>1) s.k/\bT w' w.heap.size s/\Below w.heap.size w w':=by
 go_in
 go_wp2_with fail
 refine(ND _).mono ?_;rintro e w1 ⟨s,m,rfl,ek,wk,k1,b1⟩;have S1:=hJ (aK ek (aK wk (aK k1 b1)));have KH1:Hid (KH 1 (λ_=>1) s.k):=hJ (by rw[ek];exact Kn.Vu m);have TK:=hJ (Bi w.heap.size s w1 S1.2.2.1);obtain⟨kb,hkb⟩:=hU (s.A 0);have HK:=hJ hkb;rw[hkb]at TK|-;go_wp2_with fail
 refine TK.mono ?_;rintro e w2 ⟨r,m',rfl,t,k2,f2⟩;have r0:r=0:=Kn.H7 S1.2.1 (by
  have e:=S1.1;rw[e]at t;exact t)
 subst r0;have S2:Hid (Kn.yc {s.k with sc:=m'}/\KH 2 (λ_=>1) {s.k with sc:=m'}/\bT w2 w.heap.size {s with k:={s.k with sc:=m'}}/\Below w.heap.size w w2):=hJ ⟨⟨m,m',by rw[S1.1]⟩,KH1.tick m',k2,f2.behind S1.2.2.1 S1.2.2.2 (aL _) S1.2.2.2.size⟩;have PR:=hJ (tB w.heap.size {s with k:={s.k with sc:=m'}} w2 S2.2.2.1);rw[show({s with k:={s.k with sc:=m'}}:St).A 0=kb from HK.v,show Kn.fN ({s with k:={s.k with sc:=m'}}:St).k 20=[0]from S2.1.live]at PR;go_wp2_with fail
 refine PR.mono ?_;rintro e w3 ⟨v3,rfl,hL⟩;obtain⟨a,cap,hv⟩:=ij hL.own;have hv':v3=aj a 1 cap:=hv;subst hv';have S3:Hid (bT w3 w.heap.size {s with k:={s.k with sc:=m'}}/\Below w.heap.size w w3):=hJ ⟨S2.2.2.1.below hL.cZ,S2.2.2.2.trans (hL.cZ.mono S2.2.2.2.size)⟩;go_wp2
 go_ret2
 exact⟨{s with k:={s.k with sc:=m'}},by rw[show({s with k:={s.k with sc:=m'}}:St).A 0=kb from HK.v];rfl,S2.1,S2.2.1,S3.v⟩
theorem QF(a:Option Addr)(n c:Nat)(m:Int)(w:bD)(hn:m<(n:Int)):
  Calls prog 10 #[aj a n c,aa bf m] w λe w'=>e=bw (ar bF)/\w'=w:=by
 have d:decide ((n:Int)<=m)=bF:=by simp;omega
 go_in
 go_wp2_with fail
 refine sC (Bj _ _ _ _ _) ?_;rintro w1 hw;subst w1;rw[d];go_wp2
 go_ret
 exact⟨rfl,rfl⟩
theorem wP(E:Int)(w:bD):Calls prog 23 #[bS E] w λe w'=>e=bw (aa bf E)/\w'=w:=by
 by_cases c:E=0
 .subst c;rw[bN];go_in
  go_wp2
  go_ret
  exact⟨rfl,rfl⟩
 .rw[bP c];have ha:=Qf E;go_in
  go_wp2
  go_ret
  exact⟨rfl,rfl⟩
namespace Kn
theorem xS{t:Nat->Gr.Gp}{Wy0:Nat->List (Fin 10)}{c:Nat}(h:Gr.Tree t Wy0 c)(w:Gr.fH t Wy):Gr.Tree t Wy c:=
 ⟨w,λk hk=>by
  have l:=congrArg List.length ((w k hk).unique (h.ways k hk));unfold Gr.kA at l;simp only[List.length_map]at l;rw[l];exact h.deep k hk,h.root,h.par,h.own⟩
theorem mX(a:cH k (n:Int)=0):lv k n=bE:=by
 obtain⟨n',e,_,l⟩:=fY a;obtain rfl:n=n':=bG
 exact l
section
variable {N:Nat}{d:Nat->Nat}{k k':Kp}
theorem KH.more(h:KH N d k){M:Nat}(hM:N<=M):KH M d k:=h.gr hM (by obtain⟨Wy,g⟩:=h.ki.vi.kj.gr;exact⟨Wy,g.mono hM⟩)
theorem KH.fork(h:KH N d k){own:Bool}{p:Nat}(f:qV k z own p E k'):∃d',KH (N+2) d' k':=by
 rcases f with⟨_,_,_,rfl⟩|⟨a,n,c,F,Wy,rfl,hn,fr,ways,f⟩
 .exact⟨d,h.more bG⟩
 .have l:Kn.lv k n=bE:=mX a;obtain⟨Wy0,g0⟩:=h.ki.vi.kj.gr;have g1:Gr.Tree k.gr Wy N:=xS g0 ways;have kc:KH (N+1) d (dh k Wy n):=h.gr (Nat.le_succ N) ⟨Wy,ql g1 _ _ _ bG (by have:=YtpmmdkcfenjiaaaGreatDoor.qb (k.p n).mem 16;omega)⟩;rcases f with⟨_,_,_,rfl⟩|⟨_,_,_,_,rfl⟩|⟨_,_,_,_,_,rfl⟩|⟨f0,ch,hm,_,m',wk,rfl,_⟩
  .exact⟨d,h.more bG⟩
  .exact⟨d,h.more bG⟩
  .obtain⟨Wy2,g2⟩:=kc.ki.vi.kj.gr;exact⟨d,(kc.gr (aL _) ⟨Wy2,oN g2 _ _ _⟩).more bG⟩
  .have j4:c<20/\(k.p c).st=0:=by
    rcases fr with q|q
    .exact⟨q.2.1,q.2.2.1⟩
    .omega
   obtain⟨y,oy⟩:=h.of hn (by rw[dJ.1 l];omega);have y6:=(h.ki.vi.iv.dj hn oy).2;have iz:Sp.dV (dh k Wy n).sp (n:Int)=y:=Sp.gM hn oy;cases own
   .have e:=Ad (dh k Wy n) n;have en:mU (dh k Wy n) n bF=y:=iz;rw[e.1]at wk|-;rw[en];exact⟨d,kc.born (k2:=dh k Wy n) kc.ki.vi.kj kc.ki.vi.iv rfl rfl rfl hn l j4.1 j4.2 y6.1 y6.2 oy (.inl ⟨rfl,λ_ _ e=>e⟩) wk⟩
   .have ea:Sp.iN (dh k Wy n).sp (y:Int)=0:=by unfold jC at hm;rw[aJ rfl,iz]at hm;exact hm
    obtain⟨z',ez,z6,zh,wl,f6,fh,fl⟩:=Sp.pf ea;obtain⟨e1,e2,_⟩:=xk iz ea rfl;have es:=Sp.add_eq ea;rw[e1]at wk|-;rw[e2];have kj2:=kc.ki.vi.kj.Lc ea rfl;obtain⟨d2,iv2⟩:=kj2.sp;refine⟨d2,kc.born (k2:=Am (dh k Wy n) y (Sp.fM (dh k Wy n).sp)) kj2 iv2 rfl ?_ ?_ hn l j4.1 j4.2 f6 ?_ oy (.inr ⟨?_,?_,fh,?_⟩) wk⟩
    .show(Sp.gm (dh k Wy n).sp (y:Int)).of=_;rw[es]
    .show(Sp.gm (dh k Wy n).sp (y:Int)).cD=_;rw[es]
    .show(Sp.gm (dh k Wy n).sp (y:Int)).here _=bE;rw[es];exact aJ rfl
    .intro e;rw[e]at fh;rw[show(dh k Wy n).sp.here y=bE from y6.2]at fh;cases fh
    .show(Sp.gm (dh k Wy n).sp (y:Int)).par _=_;rw[es];exact aJ rfl
    .intro s s6 sh;have sh2:(Sp.gm (dh k Wy n).sp (y:Int)).here s=bE:=sh;rw[es]at sh2;have sh3:(if s=Sp.fM (dh k Wy n).sp then bE else(dh k Wy n).sp.here s)=bE:=sh2;by_cases c:s=Sp.fM (dh k Wy n).sp
     .exact .inl c
     .rw[aI c]at sh3;exact .inr sh3
theorem KH.exit(h:KH N d k)(e:qU k z c k'):KH N d k':=by
 rcases e with⟨_,rfl⟩|⟨_,n,y,q,rfl,hn,n0,l,oy,_,_,hp,et⟩
 .exact h
 .exact h.end hn n0 l oy hp et
theorem KH.Si(h:KH N d k){m:Nat}(hn:n<20)(l:Kn.lv k n=bE)(hm:m∈je k n):m<20/\m≠0/\(k.p m).par=(n:Int)/\(k.p m).st≠0/\∃y,k.sp.of n=y+1/\Sp.mem k.sp y m:=by
 obtain⟨y,oy⟩:=h.of hn (by rw[dJ.1 l];omega);have y6:=(h.ki.vi.iv.dj hn oy).2;have p:=vU m hm;have a:=hm;unfold je jo at a;rw[Sp.gM hn oy]at a;have b:=Sp.Bn h.ki.vi.iv y6.1 y6.2 (bX.1 a).1;exact⟨b.1,λe=>by rw[e,h.p0]at p;omega,p,(h.ki.vi.kj.of m b.1).1 (h.ki.vi.iv.mem_of y6.1 b.1 b.2).1,y,oy,b.2⟩
theorem KH.wait(h:KH N d k){p:Nat}(w:yu k z p c E k'):KH N d k':=by
 rcases w with⟨_,_,_,_,rfl⟩|⟨a,n,rfl,hn,w⟩
 .exact h
 .rcases w with⟨_,_,_,_,rfl⟩|⟨_,_,_,_,_,rfl⟩|⟨_,i,m,hi,lm,_,_,_,v⟩
  .exact h
  .exact h
  .have l:Kn.lv k n=bE:=mX a;obtain⟨m20,m0,_,ms,_,_⟩:=h.Si hn l (bK hi);obtain⟨x,ox⟩:=h.of m20 ms;have m2:(k.p m).st=2:=by
    have:=h.ki.vi.kj.st m m20;have:(k.p m).st≠1:=λe=>by rw[dJ.2 e]at lm;cases lm
    omega
   exact(h.G8 m20 m0 m2 ox v).1
end
end Kn
def Kn.fC(k:Kp)(z f:Int):Int:=if Kn.cH k z=0 then(if f<0\/6<=f then 1 else if(k.p z.toNat).fd f.toNat= -1 then 2 else 0)else Kn.cH k z
theorem Kn.sy(h:Kn.fC k z f=0):∃n g:Nat,z=n/\f=g/\n<20/\g<6/\Kn.lv k n=bE/\(k.p n).fd g≠ -1:=by
 unfold Kn.fC at h;by_cases a:Kn.cH k z=0
 .rw[aJ a]at h;obtain⟨n,rfl,hn,l⟩:=Kn.fY a;by_cases c:f<0\/6<=f
  .rw[aJ c]at h;omega
  .rw[aI c,hZ]at h;obtain⟨g,rfl⟩:=aG (show 0<=f by omega);rw[hZ]at h;by_cases e:(k.p n).fd g= -1
   .rw[aJ e]at h;omega
   .exact⟨n,g,rfl,rfl,hn,bG,l,e⟩
 .rw[aI a]at h;exact aZ h a
def tC(b:Nat)(z f E:Int):Value:=if E=0 then ai (bB ⟨b,z.toNat*12+6+f.toNat,bC⟩)else ai bC
theorem p9(b n g:Nat):tC b (n:Int) (g:Int) 0=ai (bB ⟨b,n*12+6+g,bC⟩):=by unfold tC;rw[aJ rfl,hZ,hZ]
theorem Aj{b:Nat}(h:E≠0):tC b z f E=ai none:=aI h
section
variable (VK:Nat)(s:St)(w:bD)
theorem py(z f:Int)(h:bT w VK s):
  Calls prog 76 #[ai (bB ⟨s.A 0,0,bC⟩),aa bf z,aa bf f] w λe w'=>e=bw (ao #[tC (s.A 0) z f (Kn.fC s.k z f),bS (Kn.fC s.k z f)])/\w'=w:=by
 have AC:=hJ (dX VK s w z h);by_cases a:Kn.cH s.k z=0
 .obtain⟨n,rfl,hn,hl⟩:=Kn.fY a;rw[a,bN,iG]at AC;by_cases c:f<0\/6<=f
  .have E:Hid (Kn.fC s.k (n:Int) f=1):=hJ (by unfold Kn.fC;rw[aJ a,aJ c]);rw[E.v,Aj bM,bP bM];generalize s.A 0=kb at*;by_cases c1:f<0
   .clear c;go_in
    go_wp2_with fail
    refine sC AC.v ?_;rintro w1 hw;subst w1;go_wp2
    go_ret2
    exact⟨rfl,rfl⟩
   .have c2:6<=f:=bG
    go_in
    go_wp2_with fail
    refine sC AC.v ?_;rintro w1 hw;subst w1;go_wp2
    go_ret2
    exact⟨rfl,rfl⟩
  .obtain⟨g,rfl⟩:=aG (show 0<=f by omega);have hg:g<6:=bG
   have hgI:(g:Int)<6:=bG
   have cf:=h.qi n g hn hg;by_cases e1:(s.k.p n).fd g= -1
   .have E:Hid (Kn.fC s.k (n:Int) (g:Int)=2):=hJ (by unfold Kn.fC;rw[aJ a,aI c,hZ,hZ,aJ e1]);rw[E.v,Aj bM,bP bM];rw[e1]at cf;generalize s.A 0=kb at*;go_in
    go_wp2_with fail
    refine sC AC.v ?_;rintro w1 hw;subst w1;go_wp2
    go_ret2
    exact⟨rfl,rfl⟩
   .have E:Hid (Kn.fC s.k (n:Int) (g:Int)=0):=hJ (by unfold Kn.fC;rw[aJ a,aI c,hZ,hZ,aI e1]);rw[E.v,p9,bN];generalize (s.k.p n).fd g=v at*;have vB:(v== -1)=bF:=by simpa using e1
    generalize s.A 0=kb at*;go_in
    go_wp2_with fail
    refine sC AC.v ?_;rintro w1 hw;subst w1;go_wp2
    go_ret2
    exact⟨rfl,rfl⟩
 .have E:Hid (Kn.fC s.k z f=Kn.cH s.k z):=hJ (aI a);rw[bP a]at AC;rw[E.v,Aj a,bP a];generalize gW (s.A 0) z (Kn.cH s.k z)=ap at*;generalize Kn.cH s.k z=ae at*;generalize s.A 0=kb at*;go_in
  go_wp2_with fail
  refine sC AC.v ?_;rintro w1 hw;subst w1;go_wp2
  go_ret2
  exact⟨rfl,rfl⟩
def Kn.Cj(k:Kp)(z f:Int):Int:=if Kn.fC k z f=0 then Fx.dB k.fi ((k.p z.toNat).fd f.toNat)else Kn.fC k z f
def Kn.oX(k:Kp)(z f:Int):Kp:=if Kn.fC k z f=0 then Kn.jJ (Kn.fS k z.toNat f.toNat (-1)) ((k.p z.toNat).fd f.toNat)else k
theorem Fe(N:Nat)(z f:Int)(h:bT w VK s)(hj:KJ (λ_=>False) N s.k)(hN:N<=900):
  Calls prog 27 #[ai (bB ⟨s.A 0,0,bC⟩),aa bf z,aa bf f] w λe w'=>e=bw (bS (Kn.Cj s.k z f))/\bT w' VK {s with k:=Kn.oX s.k z f}/\KF s w {s with k:=Kn.oX s.k z f} w':=by
 have NB:=hJ (py VK s w z f h);have H:=hJ (aK h (aK hj hN));by_cases a:Kn.fC s.k z f=0
 .obtain⟨n,g,rfl,rfl,hn,hg,hl,hf⟩:=Kn.sy a;have E:Hid (Kn.Cj s.k (n:Int) (g:Int)=Fx.dB s.k.fi ((s.k.p n).fd g)/\Kn.oX s.k (n:Int) (g:Int)=Kn.jJ (Kn.fS s.k n g (-1)) ((s.k.p n).fd g)):=hJ ⟨by unfold Kn.Cj;rw[aJ a,hZ,hZ],by unfold Kn.oX;rw[aJ a,hZ,hZ]⟩;have cf:=h.qi n g hn hg;have fz:=h.frozen;have S1:=hJ (h.rE hn hg (-1));rw[a,bN,p9]at NB;rw[E.1,E.2];have XC:=hJ (zF (s.A 8) (s.A 6) (s.A 7) ((s.k.p n).fd g) s.k.fi s.k.fo s.k.pi _ (S1.1.fx) hj.sm (λm hm=>by have:=hj.rf m hm;have e1:(2:Nat)^60=1152921504606846976:=bM;omega));have c8:=S1.1.tT;rw[show({s with k:=Kn.fS s.k n g (-1)}:St).A 0=s.A 0 from rfl,show({s with k:=Kn.fS s.k n g (-1)}:St).A 8=s.A 8 from rfl]at c8;obtain⟨v,hv⟩:=hU ((s.k.p n).fd g);rw[hv]at cf XC|-;obtain⟨kb,hkb⟩:=hU (s.A 0);obtain⟨a8,ha8⟩:=hU (s.A 8);have HK:=hJ (aK hkb ha8);rw[hkb]at NB cf fz S1 XC c8|-;rw[ha8]at XC c8;go_in
  go_wp2_with fail
  refine sC NB.v ?_;rintro w1 hw;subst w1;go_wp2_with fail
  refine sC XC.v ?_;rintro w2 ⟨u2,f2⟩;have S2:Hid (bT w2 VK {s with k:=Kn.jJ (Kn.fS s.k n g (-1)) v}/\KF s w {s with k:=Kn.jJ (Kn.fS s.k n g (-1)) v} w2):=hJ (by
   rw[<-HK.2]at u2 f2;have q:=S1.1.wo u2 f2;exact⟨q.1,S1.2.trans q.2⟩)
  go_wp2
  go_ret
  exact⟨rfl,S2.v⟩
 .have E:Hid (Kn.Cj s.k z f=Kn.fC s.k z f/\Kn.oX s.k z f=s.k):=hJ ⟨aI a,aI a⟩;rw[bP a]at NB;rw[E.1,E.2,bP a];generalize tC (s.A 0) z f (Kn.fC s.k z f)=ap at*;generalize Kn.fC s.k z f=ae at*;generalize s.A 0=kb at*;go_in
  go_wp2_with fail
  refine sC NB.v ?_;rintro w1 hw;subst w1;go_wp2
  go_ret
  exact⟨rfl,H.1,KF.refl _ _⟩
end
open Fx (Fi)
open Pp (Pi)
def Kn.jB(k:Kp)(T:Nat->Fi)(F:Fo)(S:Nat->Pi):Kp:={k with fi:=T,fo:=F,pi:=S}
def Kn.Bo(k:Kp)(z f:Int):Int:=(k.p z.toNat).fd f.toNat
theorem Kn.wa(k:Kp)(n g:Nat):Kn.Bo k (n:Int) (g:Int)=(k.p n).fd g:=by unfold Kn.Bo;rw[hZ,hZ]
def Kn.Ck(k:Kp)(z f m:Int):Int:=if Kn.fC k z f=0 then Fx.eO k.fi k.fo k.pi (Kn.Bo k z f) m else Kn.fC k z f
def Kn.Cl(k:Kp)(z f m:Int):bU:=if Kn.fC k z f=0 then Fx.tG k.fi k.fo k.pi (Kn.Bo k z f) m else⟨#[]⟩
def Kn.oY(k:Kp)(z f m:Int):Kp:=if Kn.fC k z f=0 then Kn.jB k (Fx.iP k.fi k.fo (Kn.Bo k z f) m) k.fo (Fx.qH k.fi k.pi (Kn.Bo k z f) m)else k
section
variable (VK:Nat)(s:St)(w:bD)
theorem Iz(z f m:Int)(h:bT w VK s)(hz:Tr.uf s.k.fo)(hp:Fx.Pz s.k.fi):
  Calls prog 124 #[ai (bB ⟨s.A 0,0,bC⟩),aa bf z,aa bf f,aa bf m] w λe w'=>e=bw (ao #[ak (Kn.Cl s.k z f m),bS (Kn.Ck s.k z f m)])/\bT w' VK {s with k:=Kn.oY s.k z f m}/\KF s w {s with k:=Kn.oY s.k z f m} w':=by
 have NB:=hJ (py VK s w z f h);have H:=hJ (aK h (aK hz hp));by_cases a:Kn.fC s.k z f=0
 .obtain⟨n,g,rfl,rfl,hn,hg,hl,hf⟩:=Kn.sy a;have E:Hid (Kn.Ck s.k (n:Int) (g:Int) m=Fx.eO s.k.fi s.k.fo s.k.pi ((s.k.p n).fd g) m/\Kn.Cl s.k (n:Int) (g:Int) m=Fx.tG s.k.fi s.k.fo s.k.pi ((s.k.p n).fd g) m/\Kn.oY s.k (n:Int) (g:Int) m=Kn.jB s.k (Fx.iP s.k.fi s.k.fo ((s.k.p n).fd g) m) s.k.fo (Fx.qH s.k.fi s.k.pi ((s.k.p n).fd g) m)):=hJ ⟨by unfold Kn.Ck;rw[aJ a,Kn.wa],by unfold Kn.Cl;rw[aJ a,Kn.wa],by unfold Kn.oY;rw[aJ a,Kn.wa]⟩;rw[a,bN,p9]at NB;rw[E.1,E.2.1,E.2.2];have XR:=hJ (Mp (s.A 8) (s.A 6) (s.A 7) ((s.k.p n).fd g) m s.k.fi s.k.fo s.k.pi w.drew h.drew.fx hz hp);have K0:Hid (w.cell? ⟨s.A 0,252,bC⟩=bB (ai (bB ⟨s.A 8,0,bC⟩))/\w.cell? ⟨s.A 0,n*12+6+g,bC⟩=bB (aa bf ((s.k.p n).fd g))):=hJ ⟨h.tT,h.qi n g hn hg⟩;obtain⟨v,hv⟩:=hU ((s.k.p n).fd g);obtain⟨kb,hkb⟩:=hU (s.A 0);obtain⟨a8,ha8⟩:=hU (s.A 8);have HK:=hJ (aK hkb (aK ha8 hv));rw[hv]at XR K0|-;rw[hkb]at NB K0|-;rw[ha8]at XR K0;go_in
  go_wp2_with fail
  refine sC NB.v ?_;rintro w1 hw;subst w1;go_upto_region 4 with fail
  obtain⟨y1,y2⟩:=K0.v;go_region_held3 (λw'=>w'.cell? ⟨kb,252,bC⟩=bB (ai (bB ⟨a8,0,bC⟩))/\w'.cell? ⟨kb,n*12+6+g,bC⟩=bB (aa bf v)) (first|exact K0.v|exact K4.v) (
   (go_at_call 202;refine sC XR.v ?_;rintro w4 ⟨t4,f4⟩;have S4:Hid (bT w4 VK {s with k:=Kn.jB s.k (Fx.iP s.k.fi s.k.fo v m) s.k.fo (Fx.qH s.k.fi s.k.pi v m)}/\KF s w {s with k:=Kn.jB s.k (Fx.iP s.k.fi s.k.fo v m) s.k.fo (Fx.qH s.k.fi s.k.pi v m)} w4):=hJ (by
    rw[<-HK.2.1]at t4 f4;have q:=H.1.drew.wo t4 f4;exact⟨q.1,(KF.drew _ _).trans q.2⟩);have K4:Hid (w4.cell? ⟨kb,252,bC⟩=bB (ai (bB ⟨a8,0,bC⟩))/\w4.cell? ⟨kb,n*12+6+g,bC⟩=bB (aa bf v)):=hJ (by
    obtain⟨e1,e2,e3⟩:=HK.v;have q1:=S4.1.tT;have q2:=S4.1.qi n g hn hg;rw[<-e1,<-e2,<-e3];exact⟨q1,q2⟩)))
  go_wp2
  go_ret2
  exact⟨rfl,S4.v⟩
 .have E:Hid (Kn.Ck s.k z f m=Kn.fC s.k z f/\Kn.Cl s.k z f m=⟨#[]⟩/\Kn.oY s.k z f m=s.k):=hJ ⟨aI a,aI a,aI a⟩;rw[bP a]at NB;rw[E.1,E.2.1,E.2.2,bP a];generalize tC (s.A 0) z f (Kn.fC s.k z f)=ap at*;generalize Kn.fC s.k z f=ae at*;generalize s.A 0=kb at*;go_in
  go_wp2_with fail
  refine sC NB.v ?_;rintro w1 hw;subst w1;go_wp2
  go_ret2
  exact⟨rfl,H.1,KF.refl _ _⟩
end
theorem Ng(w:bD):Sem.run prog (binOp BinOp.eql 34 (aq 100 (aa .i64 12)) (aq 100 (aa .i64 12))) w= .ok (ar bE) w:=by kernel_rfl
theorem Nf(w:bD):Sem.run prog (binOp BinOp.eql 34 az (aq 100 (aa .i64 12))) w= .ok (ar bF) w:=by kernel_rfl
theorem Nc(w:bD)(E:Int):Sem.run prog (binOp BinOp.eql 34 (aq 100 (aa bf E)) (aq 100 (aa .i64 12))) w= .ok (ar (E==12)) w:=by kernel_rfl
section
variable (VK N:Nat)(d:Nat->Nat)(s:St)(w:bD)
theorem Kx(hN:N<=900)(n:Nat)(c:Int)(h:bT w VK s)(hn:n<20)(hl:Kn.lv s.k n=bE)(hi:Kn.KI N d s.k):
  Calls prog 151 #[ai (bB ⟨s.A 0,0,bC⟩),aa bf n,aa bf c] w λe w'=>∃(y q:Nat) (k':Kp),e=bw (ao #[])/\Kn.pR (Kn.ja s.k n c) n y q k'/\(s.k.sp.of n=y+1/\(n≠0->q<20/\q≠n/\(s.k.p n).par=(q:Int)))/\bT w' VK {s with k:=k'}/\KF s w {s with k:=k'} w':=by
 have hnI:(n:Int)<20:=bG
 have hh:=hi.has hn hl;have c5:=h.sX n hn hh;have SE:=hJ (xF (s.A (29+n)) c (s.k.p n).box w (h.bx n hn hh));have H:=hJ (aK h (aK hh (aK hi (aK hl hN))));obtain⟨kb,hkb⟩:=hU (s.A 0);have HK:=hJ hkb;obtain⟨bb,hbb⟩:=hU (s.A (29+n));have HB:=hJ hbb;rw[hkb]at c5|-;rw[hbb]at c5 SE;go_in
 go_wp2_with fail
 refine sC SE.v ?_;rintro w1 ⟨u1,f1⟩;generalize bS (Sg.cQ c)=ev;have S1:Hid (bT w1 VK {s with k:=Kn.ja s.k n c}/\KF s w {s with k:=Kn.ja s.k n c} w1):=hJ (by
  rw[<-HB.v]at u1 f1;exact H.1.wm hn H.2.1 u1 f1)
 obtain⟨y,q,li⟩:=H.2.2.1.li hn H.2.2.2.1 (Sg.mE (s.k.p n).box c);have LK:=hJ (tw VK N d {s with k:=Kn.ja s.k n c} w1 H.2.2.2.2 n y q (λ_=>H.2.2.1.h0) S1.1 li);rw[show({s with k:=Kn.ja s.k n c}:St).A 0=kb from HK.v]at LK;have HY:Hid (s.k.sp.of n=y+1/\(n≠0->q<20/\q≠n/\(s.k.p n).par=(q:Int))):=hJ ⟨li.ho,λn0=>by
  have a:=li.pr n0;have e:((Kn.dy s.k n (Sg.mE (s.k.p n).box c)).p n).par=(s.k.p n).par:=by unfold Kn.dy;rw[Kn.bR]
  rw[e]at a;exact a⟩
 go_wp2_with fail
 refine LK.mono ?_;rintro e w2 ⟨k',rfl,et,ka,kf⟩;have S2:Hid (Kn.pR (Kn.ja s.k n c) n y q k'/\(s.k.sp.of n=y+1/\(n≠0->q<20/\q≠n/\(s.k.p n).par=(q:Int)))/\bT w2 VK {s with k:=k'}/\KF s w {s with k:=k'} w2):=hJ ⟨et,HY.v,ka,S1.2.trans kf⟩;go_wp2_with fail
 go_end0
 exact⟨y,q,k',rfl,S2.v⟩
def Kn.r9(k:Kp)(v:Int)(t:bU):Kp:=Kn.jB k (Fx.qT k.fi k.fo v t) (Fx.eX k.fi k.fo v t) (Fx.x9 k.fi k.pi v t)
def Kn.vQ(k:Kp)(z f:Int)(t:bU)(K:Nat)(E:Int)(k':Kp):Prop:=
 (Kn.fC k z f≠0/\K=0/\E=Kn.fC k z f/\k'=k)
 \/(Kn.fC k z f=0/\∃n g:Nat,z=n/\f=g/\n<20/\g<6/\Kn.lv k n=bE/\K=Fx.iT k.fi k.fo k.pi ((k.p n).fd g) t/\E=Fx.dQ k.fi k.fo k.pi ((k.p n).fd g) t
  /\((E≠12/\k'=Kn.r9 k ((k.p n).fd g) t)\/(E=12/\∃y q,Kn.pR (Kn.ja (Kn.r9 k ((k.p n).fd g) t) n 2) n y q k'/\k.sp.of n=y+1/\(n≠0->q<20/\q≠n/\(k.p n).par=(q:Int)))))
theorem Fg(hN:N<=900)(z f:Int)(t:bU)(h:bT w VK s)(ht:t.size<2^59)(hp:Fx.Pz s.k.fi)(hi:Kn.fC s.k z f=0->Kn.KI N d (Kn.r9 s.k (Kn.Bo s.k z f) t)):
  Calls prog 125 #[ai (bB ⟨s.A 0,0,bC⟩),aa bf z,aa bf f,ak t] w λe w'=>∃(K:Nat) (E:Int) (k':Kp),e=bw (ao #[aa bf (K:Int),bS E])/\Kn.vQ s.k z f t K E k'/\bT w' VK {s with k:=k'}/\KF s w {s with k:=k'} w':=by
 have NB:=hJ (py VK s w z f h);by_cases a:Kn.fC s.k z f=0
 .obtain⟨n,g,rfl,rfl,hn,hg,hl,hf⟩:=Kn.sy a;have hiA:=hi a;rw[Kn.wa]at hiA;have H:=hJ (aK h (aK hiA (aK hN (aK a hl))));rw[a,bN,p9]at NB;have XR:=hJ (Jm (s.A 8) (s.A 6) (s.A 7) ((s.k.p n).fd g) t s.k.fi s.k.fo s.k.pi w.drew h.drew.fx ht hp);have K0:Hid (w.cell? ⟨s.A 0,252,bC⟩=bB (ai (bB ⟨s.A 8,0,bC⟩))/\w.cell? ⟨s.A 0,n*12+6+g,bC⟩=bB (aa bf ((s.k.p n).fd g))):=hJ ⟨h.tT,h.qi n g hn hg⟩;obtain⟨v,hv⟩:=hU ((s.k.p n).fd g);obtain⟨kb,hkb⟩:=hU (s.A 0);obtain⟨a8,ha8⟩:=hU (s.A 8);have HK:=hJ (aK hkb (aK ha8 hv));rw[hv]at XR K0;rw[hkb]at NB K0|-;rw[ha8]at XR K0;obtain⟨E,hE⟩:=hU (Fx.dQ s.k.fi s.k.fo s.k.pi v t);obtain⟨K,hKK⟩:=hU (Fx.iT s.k.fi s.k.fo s.k.pi v t);have HE:=hJ (aK hE hKK);rw[hE,hKK]at XR;go_in
  go_wp2_with fail
  refine sC NB.v ?_;rintro w1 hw;subst w1;go_upto_region 4 with fail
  obtain⟨y1,y2⟩:=K0.v;go_region_held3 (λw'=>w'.cell? ⟨kb,252,bC⟩=bB (ai (bB ⟨a8,0,bC⟩))/\w'.cell? ⟨kb,n*12+6+g,bC⟩=bB (aa bf v)) (first|exact K0.v|exact K4.v) (
   (go_at_call 203;refine sC XR.v ?_;rintro w4 ⟨t4,f4⟩;have S4:Hid (bT w4 VK {s with k:=Kn.r9 s.k v t}/\KF s w {s with k:=Kn.r9 s.k v t} w4):=hJ (by
     rw[<-HK.2.1]at t4 f4;have q:=H.1.drew.wo t4 f4;exact⟨q.1,(KF.drew _ _).trans q.2⟩);have K4:Hid (w4.cell? ⟨kb,252,bC⟩=bB (ai (bB ⟨a8,0,bC⟩))/\w4.cell? ⟨kb,n*12+6+g,bC⟩=bB (aa bf v)):=hJ (by
     obtain⟨e1,e2,e3⟩:=HK.v;have q1:=S4.1.tT;have q2:=S4.1.qi n g hn hg;rw[<-e1,<-e2,<-e3];exact⟨q1,q2⟩)))
  by_cases e12:E=12
  .have E12:=hJ e12;have SD:=hJ (Kx VK N d {s with k:=Kn.r9 s.k v t} w4 H.2.2.1 n 2 S4.1 hn H.2.2.2.2 (by rw[<-HK.2.2];exact H.2.1));rw[show({s with k:=Kn.r9 s.k v t}:St).A 0=kb from HK.1]at SD;rw[e12,bP bM];go_wp2_with fail
   rw[Ng];go_wp2_with fail
   refine SD.mono ?_;rintro e w5 ⟨y,q,k',rfl,lt,yq,ka,kf⟩;have S5:Hid (Kn.vQ s.k (n:Int) (g:Int) t K 12 k'/\bT w5 VK {s with k:=k'}/\KF s w {s with k:=k'} w5):=hJ ⟨.inr ⟨H.2.2.2.1,n,g,rfl,rfl,hn,hg,H.2.2.2.2,by rw[HK.2.2];exact HE.2.symm,by rw[HK.2.2];exact(HE.1.trans E12.v).symm, .inr ⟨rfl,y,q,by rw[HK.2.2];exact lt,yq⟩⟩,ka,S4.2.trans kf⟩;go_wp2
   go_ret2
   exact⟨K,12,k',by rw[bP bM];rfl,S5.v⟩
  .have FIN:Hid (Kn.vQ s.k (n:Int) (g:Int) t K E (Kn.r9 s.k v t)):=hJ (.inr ⟨H.2.2.2.1,n,g,rfl,rfl,hn,hg,H.2.2.2.2,by rw[HK.2.2];exact HE.2.symm,by rw[HK.2.2];exact HE.1.symm, .inl ⟨e12,by rw[HK.2.2]⟩⟩);by_cases e0:E=0
   .rw[e0,bN];have E0:=hJ e0;go_wp2_with fail
    rw[Nf];go_wp2
    go_ret2
    exact⟨K,E,_,by rw[E0.v,bN];rfl,FIN.v,S4.v⟩
   .have EV:=hJ (bP e0);have eB:(E==12)=bF:=by simpa using e12
    rw[bP e0];go_wp2_with fail
    rw[Nc,eB];go_wp2
    go_ret2
    exact⟨K,E,_,by rw[EV.v];rfl,FIN.v,S4.v⟩
 .have FIN:Hid (Kn.vQ s.k z f t 0 (Kn.fC s.k z f) s.k):=hJ (.inl ⟨a,rfl,rfl,rfl⟩);have HE:=hJ (bP a);have H:=hJ h;rw[bP a]at NB;generalize tC (s.A 0) z f (Kn.fC s.k z f)=ap at*;generalize s.A 0=kb at*;go_in
  go_wp2_with fail
  refine sC NB.v ?_;rintro w1 hw;subst w1;go_wp2
  go_ret2
  exact⟨0,Kn.fC s.k z f,s.k,by rw[HE.v];rfl,FIN.v,H.v,KF.refl _ _⟩
end
def Kn.gT(k:Kp)(n j:Nat):List Nat:=(List.range j).filter (λf=>decide ((k.p n).fd f= -1))
theorem Kn.QC(h:(k.p n).fd j= -1):Kn.gT k n (j+1)=Kn.gT k n j++[j]:=by
 unfold Kn.gT;rw[List.range_succ,List.filter_append];simp[h]
theorem Kn.Sn(h:¬(k.p n).fd j= -1):Kn.gT k n (j+1)=Kn.gT k n j:=by
 unfold Kn.gT;rw[List.range_succ,List.filter_append];simp[h]
theorem Kn.Gj(k:Kp)(n j:Nat):(Kn.gT k n j).length<=j:=by
 unfold Kn.gT;refine aH (bW _ _) ?_;rw[List.length_range];exact aL _
theorem Kn.Ac{f:Nat}(h:f∈Kn.gT k n 6):f<6/\(k.p n).fd f= -1:=by
 unfold Kn.gT at h;have a:=bX.1 h;exact⟨List.mem_range.1 a.1,by simpa using a.2⟩
theorem Kn.QB(h:2<=(Kn.gT k n 6).length):∃f g,(Kn.gT k n 6).getD 0 0=f/\(Kn.gT k n 6).getD 1 0=g/\f<6/\g<6/\f≠g:=by
 have nd:(Kn.gT k n 6).Nodup:=List.Pairwise.filter _ (List.nodup_range);refine⟨_,_,rfl,rfl,?_⟩
 match hL:Kn.gT k n 6,h,nd with
 |[],h,_=>simp at h
 |[x],h,_=>simp at h
 |x::y::L,_,nd=>
  have hx:=Kn.Ac (k:=k) (n:=n) (f:=x) (by rw[hL];simp);have hy:=Kn.Ac (k:=k) (n:=n) (f:=y) (by rw[hL];simp);refine⟨hx.1,hy.1,?_⟩;have:=List.nodup_cons.1 nd;intro e;have e':x=y:=e;exact this.1 (by rw[e'];simp)
section
variable (VK N:Nat)(d:Nat->Nat)(s:St)(w:bD)
theorem tA(n:Nat)(h:bT w VK s)(hn:n<20):
  Calls prog 196 #[ai (bB ⟨s.A 0,n*12,bC⟩)] w λe w'=>∃v,e=bw v/\LO w (Kn.gT s.k n 6) v w':=by
 obtain⟨i0,hi,hz0,hz1,hz2⟩:=info_parts Cf;obtain⟨fd,hfd⟩:=hU ((s.k.p n).fd);obtain⟨kb,hkb⟩:=hU (s.A 0);have LD:Hid (∀j,j<(mh fd).size->w.cell? ⟨kb,n*12+6+j,bC⟩=(mh fd)[j]?):=hJ (λj hj=>by
  have q:=h.fds hn j (by rw[hfd];exact hj);rw[hfd]at q;rw[<-hkb];exact q)
 have hsz:Hid ((prog.info? 72).map (·.size)=bB (mh fd).size):=hJ (by rw[qt];kernel_rfl);have HFD:=hJ hfd;rw[hkb];go_in
 go_wp2_with (refine jv rfl 72 _ rfl kb (n*12+6) rfl (mh fd) 6 3 LD.v bH hsz.v ?_)
 go_loopw [3,4,5,10] (λl _ _ i wr=>∃(k:Nat),i=aa bf k/\k<=6/\Hid (LO w (Kn.gT s.k n k) l wr)) (λ_ _ _ i _=>6-(intOf i).toNat)
 case atStart=>exact⟨0,rfl,bG,LO.nil w⟩
 case round=>
  obtain⟨k,rfl,hk,R⟩:=hrel;by_cases hlt:k<6
  .have hltI:(k:Int)<6:=bG
   have hix:=xl fd k hlt wr;obtain⟨z,hz⟩:=hU (fd k);have HZ:=hJ hz;rw[hz]at hix;by_cases hz1:z= -1
   .have HM:=hJ (Kn.QC (k:=s.k) (n:=n) (j:=k) (by rw[HFD.v,HZ.v,hz1]));subst hz1;obtain⟨a,cap,hv⟩:=ij R.own;rw[hv];have HV:=hJ hv;have hlm:=Kn.Gj s.k n k;generalize hN:(Kn.gT s.k n k).length=M at*;have HN:=hJ hN;go_wp2_with (at_builtin;refine wpList_append_lies _ rfl _ _ 46 (by rfl) w.heap.size 3 i0 (aa .i64 0) 1 8 Tryz.underlying46 hi hz0 hz1 hz2 rfl bM (aj a M cap) M (rowOf (Kn.gT s.k n k)) (by rfl) (by rw[<-HV.v,<-HN.v];exact R.own.alloc _) ⟨wr.heap.size,0,bC⟩ 1 1 [aa bf k] (by rfl) rfl (cell_one_new _ _ _) (by simp[Value.oneCell']) bM (by unfold maxLen;omega) bG (by have:=R.cZ.size;simp;omega) (wr.heap.size+1) (by simp) ?_;intro gg cap2 w1 hown hgrow hat hlt2;have Q1:Hid (LO w (Kn.gT s.k n k++[k]) (aj (bB ⟨gg,0,bC⟩) (M+1) cap2) w1):=R.more HN.v hown _ (by rw[HV.v];exact hgrow))
    go_roundw
    case rel=>exact⟨k+1,by go_num,bG,by rw[HM.v];exact Q1⟩
    case measure=>simp[intOf];omega
   .have HM:=hJ (Kn.Sn (k:=s.k) (n:=n) (j:=k) (by rw[HFD.v,HZ.v];exact hz1));have z1:(z== -1)=bF:=by simpa using hz1
    go_wp2
    go_roundw
    case rel=>exact⟨k+1,by go_num,bG,by rw[HM.v];exact R⟩
    case measure=>simp[intOf];omega
  .obtain rfl:k=6:=bG
   go_wp2
   go_ret
   exact⟨_,rfl,R.v⟩
end
def Kn.vN(k:Kp)(z:Int)(A C:Nat)(E:Int)(k':Kp):Prop:=
 (Kn.cH k z≠0/\A=0/\C=0/\E=Kn.cH k z/\k'=k)
 \/(Kn.cH k z=0/\∃n:Nat,z=n/\n<20/\((¬2<=(Kn.gT k n 6).length/\A=0/\C=0/\E=4/\k'=k)
  \/(2<=(Kn.gT k n 6).length/\∃(a c:Nat) (T:Nat->Fi) (S:Nat->Pi),Fx.vO k.fi k.pi a c E T S/\((E≠0/\A=0/\C=0/\k'=Kn.jB k T k.fo S)\/(E=0/\A=(Kn.gT k n 6).getD 0 0/\C=(Kn.gT k n 6).getD 1 0/\k'=Kn.fS (Kn.fS (Kn.jB k T k.fo S) n A (a:Int)) n C (c:Int))))))
section
variable (VK N:Nat)(d:Nat->Nat)(s:St)(w:bD)
theorem Iy(z:Int)(h:bT w VK s):
  Calls prog 123 #[ai (bB ⟨s.A 0,0,bC⟩),aa bf z] w λe w'=>∃(A C:Nat) (E:Int) (k':Kp),e=bw (ao #[aa bf (A:Int),aa bf (C:Int),bS E])/\Kn.vN s.k z A C E k'/\bT w' VK {s with k:=k'}/\KF s w {s with k:=k'} w':=by
 have AC:=hJ (dX VK s w z h);have H:=hJ h;by_cases a:Kn.cH s.k z=0
 .obtain⟨n,rfl,hn,hl⟩:=Kn.fY a;have HA:=hJ a;rw[a,bN,iG]at AC;have FR1:=hJ (tA VK s w n h hn);obtain⟨kb,hkb⟩:=hU (s.A 0);obtain⟨a8,ha8⟩:=hU (s.A 8);have HK:=hJ (aK hkb ha8);rw[hkb]at AC FR1|-;clear h a hl hkb ha8;go_in
  go_wp2_with fail
  refine sC AC.v ?_;rintro w1 hw;subst w1;go_wp2_with fail
  refine FR1.mono ?_;rintro e w1 ⟨v,rfl,lo⟩;have K1:Hid (bT w1 VK s/\KF s w s w1):=hJ ⟨H.below lo.cZ,KF.below lo.cZ⟩;by_cases l2:2<=(Kn.gT s.k n 6).length
  .obtain⟨gg,cap,hv,hgg,hc⟩:=lo.cells bG;obtain⟨f,g,hf,hg,f6,g6,fg⟩:=Kn.QB l2;have y0:=hc 0 bG;have y1:=hc 1 bG;rw[hf]at y0;rw[hg]at y1;have fI:(f:Int)<6:=bG
   have gI:(g:Int)<6:=bG
   have GB:Hid (∀i,us s i->gg≠s.A i):=hJ (λi hi e=>by
    have:=H.lt hi;have q:=lo.own;rw[hv]at q;have q2:=q.lt gg rfl;omega)
   have L3:=hJ (aK hf hg);have L2:Hid (2<=(Kn.gT s.k n 6).length/\(Kn.gT s.k n 6).getD 0 0=f/\(Kn.gT s.k n 6).getD 1 0=g):=hJ ⟨l2,hf,hg⟩;rw[hv];have hlm:=Kn.Gj s.k n 6;generalize (Kn.gT s.k n 6).length=M at l2 hlm y0 y1|-;have lI:((M:Int)<2)=False:=by simp;omega
   have M0:(0:Int)<(M:Int):=bG
   have M1:(1:Int)<(M:Int):=bG
   clear hv hc lo hf hg;have c8:=K1.1.tT;rw[HK.1,HK.2]at c8;have XP:=hJ (Mn (s.A 8) (s.A 6) (s.A 7) s.k.fi s.k.fo s.k.pi w1 K1.1.fx);rw[HK.2]at XP;go_wp2_with fail
   refine XP.mono ?_;rintro e w2 ⟨a,c,E,T,S,rfl,pt,u2,f2⟩;have S2:Hid (bT w2 VK {s with k:=Kn.jB s.k T s.k.fo S}/\KF s w {s with k:=Kn.jB s.k T s.k.fo S} w2):=hJ (by
    rw[<-HK.2]at u2 f2;have q:=K1.1.wo u2 f2;exact⟨q.1,K1.2.trans q.2⟩)
   have PT:=hJ pt;have G2:Hid (gg<w2.heap.size):=hJ (aD hgg f2.size);have YY:Hid (w2.cell? ⟨gg,0,bC⟩=bB (aa bf (f:Int))/\w2.cell? ⟨gg,1,bC⟩=bB (aa bf (g:Int))):=hJ (by
    have e:=f2.block gg hgg (by rw[<-HK.2];exact GB.v 8 cE) (GB.v 6 cE) (GB.v 7 cE);exact⟨(aV e).trans y0,(aV e).trans y1⟩)
   clear u2 f2 c8 pt;by_cases e0:E=0
   .have E0:=hJ e0;rw[e0,bN];clear e0;go_upto_region 10 with fail
    obtain⟨x0,x1⟩:=YY.v;have gk:gg≠kb:=by rw[<-HK.1];exact GB.v 0 cE
    obtain⟨W3,hW3⟩:=hU (w2.setCell ⟨kb,n*12+6+f,bC⟩ (aa bf (a:Int)));obtain⟨W4,hW4⟩:=hU (W3.setCell ⟨kb,n*12+6+g,bC⟩ (aa bf (c:Int)));have S3:Hid (bT W3 VK {s with k:=Kn.fS (Kn.jB s.k T s.k.fo S) n f (a:Int)}/\KF s w {s with k:=Kn.fS (Kn.jB s.k T s.k.fo S) n f (a:Int)} W3):=hJ (by
     have q:=S2.1.rE hn f6 (a:Int);rw[show({s with k:=Kn.jB s.k T s.k.fo S}:St).A 0=kb from HK.1,hW3]at q;exact⟨q.1,S2.2.trans q.2⟩)
    have S4:Hid (bT W4.drew VK {s with k:=Kn.fS (Kn.fS (Kn.jB s.k T s.k.fo S) n f (a:Int)) n g (c:Int)}/\KF s w {s with k:=Kn.fS (Kn.fS (Kn.jB s.k T s.k.fo S) n f (a:Int)) n g (c:Int)} W4.drew):=hJ (by
     have q:=S3.1.rE hn g6 (c:Int);rw[show({s with k:=Kn.fS (Kn.jB s.k T s.k.fo S) n f (a:Int)}:St).A 0=kb from HK.1,hW4]at q;exact⟨q.1.drew,S3.2.trans (q.2.trans (KF.drew _ _))⟩)
    have b3:W3.heap[gg]? =w2.heap[gg]? :=by
     rw[<-hW3];have ff:bO kb w2 (w2.setCell ⟨kb,n*12+6+f,bC⟩ (aa bf (a:Int))):=(bO.refl _ _).setCell _ _;exact ff.block gg G2.v gk
    have b4:W4.heap[gg]? =W3.heap[gg]? :=by
     rw[<-hW4];have ff:bO kb W3 (W3.setCell ⟨kb,n*12+6+g,bC⟩ (aa bf (c:Int))):=(bO.refl _ _).setCell _ _;exact ff.block gg (by rw[<-hW3];simp;exact G2.v) gk
    have Y3:Hid (W3.drew.cell? ⟨gg,0,bC⟩=bB (aa bf (f:Int))/\W3.drew.cell? ⟨gg,1,bC⟩=bB (aa bf (g:Int))):=hJ ⟨(aV b3).trans x0,(aV b3).trans x1⟩;have Y4:Hid (W4.drew.cell? ⟨gg,0,bC⟩=bB (aa bf (f:Int))/\W4.drew.cell? ⟨gg,1,bC⟩=bB (aa bf (g:Int))):=hJ ⟨(aV (b4.trans b3)).trans x0,(aV (b4.trans b3)).trans x1⟩;rw[<-hW4,<-hW3]at S4 Y4;rw[<-hW3]at Y3;have cf:=S2.1.qi n f hn f6;have cg:=S2.1.qi n g hn g6;have fz:=S2.1.frozen;rw[show({s with k:=Kn.jB s.k T s.k.fo S}:St).A 0=kb from HK.1]at cf cg fz;generalize (({s with k:=Kn.jB s.k T s.k.fo S}:St).k.p n).fd f=vf at cf;generalize (({s with k:=Kn.jB s.k T s.k.fo S}:St).k.p n).fd g=vg at cg;have m0:0<M:=bG
    have m1:1<M:=bG
    have m00:¬M=0:=bG
    have m11:¬M<=1:=bG
    have m12:¬(M:Int)<=1:=bG
    clear hW3 hW4 b3 b4 S3;go_region_held3 (λw'=>w'.cell? ⟨gg,0,bC⟩=bB (aa bf (f:Int))/\w'.cell? ⟨gg,1,bC⟩=bB (aa bf (g:Int))) (first|exact YY.v|exact Y3.v|exact Y4.v|go_keep) (fail)
    generalize ((w2.setCell ⟨kb,n*12+6+f,bC⟩ (aa bf (a:Int))).setCell ⟨kb,n*12+6+g,bC⟩ (aa bf (c:Int))).drew=W5 at*;clear cf cg fz x0 x1 Y3 YY S2;go_upto_region 11 with fail
    obtain⟨x0,x1⟩:=Y4.v;have Y5:Hid (W5.drew.cell? ⟨gg,0,bC⟩=bB (aa bf (f:Int))/\W5.drew.cell? ⟨gg,1,bC⟩=bB (aa bf (g:Int))):=hJ ⟨x0,x1⟩;go_region_held3 (λw'=>w'.cell? ⟨gg,0,bC⟩=bB (aa bf (f:Int))/\w'.cell? ⟨gg,1,bC⟩=bB (aa bf (g:Int))) (first|exact Y4.v|exact Y5.v|go_keep) (fail)
    go_wp2
    go_ret3
    exact⟨f,g,0,by rw[bN];rfl,Kn.fS (Kn.fS (Kn.jB s.k T s.k.fo S) n f (a:Int)) n g (c:Int), .inr ⟨HA.v,n,rfl,hn, .inr ⟨L2.1,a,c,T,S,by rw[<-E0.v];exact PT.v, .inr ⟨rfl,L2.2.1.symm,L2.2.2.symm,rfl⟩⟩⟩,S4.1.drew,S4.2.trans (KF.drew _ _)⟩
   .have HE:=hJ (bP e0);have FIN:Hid (Kn.vN s.k (n:Int) 0 0 E (Kn.jB s.k T s.k.fo S)):=hJ (.inr ⟨HA.v,n,rfl,hn, .inr ⟨L2.1,a,c,T,S,PT.v, .inl ⟨e0,rfl,rfl,rfl⟩⟩⟩);rw[bP e0];clear e0;go_wp2
    go_ret3
    exact⟨0,0,E,_,by rw[HE.v];rfl,FIN.v,S2.v⟩
  .have FIN:Hid (Kn.vN s.k (n:Int) 0 0 4 s.k):=hJ (.inr ⟨HA.v,n,rfl,hn, .inl ⟨l2,rfl,rfl,rfl,rfl⟩⟩);obtain⟨a,cap,hv⟩:=ij lo.own;rw[hv];generalize (Kn.gT s.k n 6).length=M at*;have lI:((M:Int)<2):=bG
   clear hv lo l2;go_wp2
   go_ret3
   exact⟨0,0,4,s.k,by rw[bP bM];rfl,FIN.v,K1.v⟩
 .have FIN:Hid (Kn.vN s.k z 0 0 (Kn.cH s.k z) s.k):=hJ (.inl ⟨a,rfl,rfl,rfl,rfl⟩);have HE:=hJ (bP a);rw[bP a]at AC;clear h a;generalize gW (s.A 0) z (Kn.cH s.k z)=ap at*;generalize s.A 0=kb at*;go_in
  go_wp2_with fail
  refine sC AC.v ?_;rintro w1 hw;subst w1;go_wp2
  go_ret3
  exact⟨0,0,Kn.cH s.k z,s.k,by rw[HE.v];rfl,FIN.v,H.v,KF.refl _ _⟩
end
namespace Kn
theorem OD(h:Tr.uf F)(z m:Int)(a:Nat)(ha:a<=40):a+(Tr.jG F z (a:Int) m).size<=40:=by
 unfold Tr.jG;split
 .rename_i d;have i0:Tr.cQ F z 1=0:=by
   unfold Tr.eO at d;by_cases e:Tr.cQ F z 1≠0
   .rw[aJ e]at d;exact aZ d e
   .omega
  obtain⟨n,rfl,n40,_,k1⟩:=Tr.fE i0;have z40:=h n n40 k1;have sz:∀(L:List Int) (r:bU),(L.foldl (λr n=>r.push (UInt8.ofNat n.toNat)) r).size=r.size+L.length:=by
   intro L
   induction L with
   |nil=>intro r;rfl
   |cons x L ih=>intro r;rw[List.foldl_cons,ih,ByteArray.size_push,List.length_cons];omega
  rw[hZ,hZ];unfold Tr.PF;rw[sz,Tr.wi];show a+(0+_)<=40;omega
 .exact ha
section
variable {N:Nat}{d:Nat->Nat}{k k':Kp}
theorem KH.fx(h:KH N d k){M:Nat}(hM:N<=M){T:Nat->Fi}{S:Nat->Pi}(wx:WX (jM k) T F S)(rf:∀n,n<24->(T n).refs<=8*M)(ok:Tr.Ok F):KH M d (jB k T F S):=by
 have g:=h.more hM;have j:=g.ki.vi.kj;exact g.nT ⟨⟨⟨j.sp,j.gr,j.me,wx,rf,ok,j.tb,j.st,j.hs,j.lv,j.of,j.ht,j.nm⟩,g.ki.vi.iv,g.ki.vi.hs⟩,g.ki.fi,g.ki.pr,g.ki.h0⟩ rfl (λm=>⟨rfl,rfl⟩)
theorem Pj(k:Kp)(n f:Nat)(v:Int)(m:Nat):((fS k n f v).p m).st=(k.p m).st/\((fS k n f v).p m).par=(k.p m).par/\((fS k n f v).p m).box=(k.p m).box/\((fS k n f v).p m).has=(k.p m).has/\((fS k n f v).p m).fd=if m=n then(λi=>if i=f then v else(k.p n).fd i)else(k.p m).fd:=by
 unfold fS;by_cases c:m=n
 .subst c;rw[bR,aJ rfl];exact⟨rfl,rfl,rfl,rfl,rfl⟩
 .rw[cr _ _ _ _ c,aI c];exact⟨rfl,rfl,rfl,rfl,rfl⟩
theorem KH.fd(h:KH N d k)(n f:Nat)(v:Int):KH N d (fS k n f v):=by
 have e:=Pj k n f v;have l:∀m,lv (fS k n f v) m=lv k m:=λm=>by unfold lv;rw[(e m).1]
 refine h.nT ⟨⟨h.ki.vi.kj.DS rfl rfl rfl,h.ki.vi.iv,h.ki.vi.hs⟩,λm hm lm hm2=>?_,λm hm m0 s=>?_,h.ki.h0⟩ rfl (λm=>⟨(e m).1,(e m).2.1⟩)
 .rw[(e m).2.2.1];rw[l]at lm;exact h.ki.fi m hm lm hm2
 .rw[(e m).1]at s;rw[(e m).2.1];exact h.ki.pr m hm m0 s
theorem KH.TA(h:KH N d k)(z f m:Int):KH N d (oY k z f m):=by
 have j:=h.ki.vi.kj;unfold oY;split
 .generalize Bo k z f=v;have a:WX (jM k) (Fx.iP k.fi k.fo v m) k.fo k.pi/\∀a,a<24->(Fx.iP k.fi k.fo v m a).refs<=8*N:=by
   unfold Fx.iP;split
   .rename_i e;obtain⟨n,rfl,n24,r0⟩:=Fx.kT e.1;rw[hZ];refine⟨j.wx.jN n24 r0 _ r0 rfl rfl (OD j.ok.fz _ _ _ (j.wx.ps n n24)),λa ha=>?_⟩;by_cases c:a=n
    .subst c;rw[Fx.bR];exact j.rf a ha
    .rw[Fx.cr _ _ _ _ c];exact j.rf a ha
   .exact⟨j.wx,j.rf⟩
  refine h.fx (aL _) ?_ a.2 j.ok;unfold Fx.qH;split
  .exact a.1.TA _ _
  .exact a.1
 .exact h
theorem KH.BJ(h:KH N d k)(v:Int)(s:bU):KH N d (r9 k v s):=by
 have j:=h.ki.vi.kj;have a:WX (jM k) (Fx.qT k.fi k.fo v s) k.fo k.pi/\∀a,a<24->(Fx.qT k.fi k.fo v s a).refs<=8*N:=by
  unfold Fx.qT;split
  .rename_i e;obtain⟨n,rfl,n24,r0⟩:=Fx.kT e.1.1;have e2:=e.2;rw[hZ]at e2|-;refine⟨j.wx.jN n24 r0 _ r0 rfl rfl ?_,λa ha=>?_⟩
   .show(k.fi n).pos+s.size<=40;unfold Tr.dQ at e2;by_cases g:Tr.cQ k.fo ((k.fi n).num:Int) 1≠0
    .rw[aJ g]at e2;exact aZ e2 g
    .rw[aI g,nJ]at e2;by_cases g2:40-(s.size:Int)<((k.fi n).pos:Int)
     .rw[aJ g2]at e2;exact aZ e2 bM
     .omega
   .by_cases c:a=n
    .subst c;rw[Fx.bR];exact j.rf a ha
    .rw[Fx.cr _ _ _ _ c];exact j.rf a ha
  .exact⟨j.wx,j.rf⟩
 have b:WX (jM k) (Fx.qT k.fi k.fo v s) (Fx.eX k.fi k.fo v s) k.pi/\Tr.Ok (Fx.eX k.fi k.fo v s):=by
  unfold Fx.eX;split
  .exact⟨a.1.BJ _ _ _,j.ok.BJ _ _ _⟩
  .exact⟨a.1,j.ok⟩
 refine h.fx (aL _) ?_ a.2 b.2;unfold Fx.x9;split
 .exact b.1.U9 _ _
 .exact b.1
theorem KH.Vy(h:KH N d k){A C:Nat}(p:vN k z A C E k'):KH (N+1) d k':=by
 have j:=h.ki.vi.kj;have key:∀{a c:Nat} {T:Nat->Fi} {S:Nat->Pi},Fx.vO k.fi k.pi a c E T S->KH (N+1) d (jB k T k.fo S):=λ{a c T S} pt=>by
  have up:∀a,a<24->(k.fi a).refs<=8*(N+1):=λa ha=>by have:=j.rf a ha;omega
  rcases pt with⟨_,_,_,_,rfl,rfl⟩|⟨_,n,e,hf,⟨_,_,_,_,rfl,rfl⟩|⟨rfl,_,a1,d1,rfl,rfl⟩⟩
  .exact h.fx bG j.wx up j.ok
  .exact h.fx bG j.wx up j.ok
  .refine h.fx bG (j.wx.pipe hf a1 d1) (λx hx=>?_) j.ok;by_cases e:x=c
   .subst e;rw[Fx.bR];show 1<=_;omega
   .rw[Fx.cr _ _ _ _ e];by_cases e2:x=a
    .subst e2;rw[Fx.bR];show 1<=_;omega
    .rw[Fx.cr _ _ _ _ e2];exact up x hx
 rcases p with⟨_,_,_,_,rfl⟩|⟨_,n,rfl,hn,⟨_,_,_,_,rfl⟩|⟨_,a,c,T,S,pt,⟨_,_,_,rfl⟩|⟨_,_,_,rfl⟩⟩⟩
 .exact h.more bG
 .exact h.more bG
 .exact key pt
 .exact((key pt).fd _ _ _).fd _ _ _
theorem KH.U8(h:KH N d k)(z f:Int):KH N d (oX k z f):=by
 unfold oX;split
 .have g:=h.fd z.toNat f.toNat (-1);have j:=g.ki.vi.kj.UQ ((k.p z.toNat).fd f.toNat);exact g.fx (aL _) j.wx j.rf j.ok
 .exact h
end
end Kn
def Kn.Nx(VK:Nat)(s:St)(w:bD)(R:Value->Kp->Prop)(e:Ending)(w':bD):Prop:=∃v s',e=bw v/\R v s'.k/\bT w' VK s'/\KF s w s' w'
theorem Kn.Nx.no(h:bT w VK s)(r:R v s.k):Kn.Nx VK s w R (bw v) w:=⟨v,s,rfl,r,h,KF.refl _ _⟩
theorem Kn.Nx.mk(r:R v k)(h:bT w' VK {s with k:=k}/\KF s w {s with k:=k} w'):Kn.Nx VK s w R (bw v) w':=⟨v,_,rfl,r,h⟩
theorem cN{f:Nat}{a:Array Value}{E:Ending}{Q:Ending->bD->Prop}(h:Calls prog f a w λe w'=>e=E/\w'=w)(q:Q E w):Calls prog f a w Q:=h.mono (by rintro _ _ ⟨rfl,rfl⟩;exact q)
theorem below_drewN(w:bD)(j:Nat):Below w.heap.size w (w.drewN j):=⟨rfl,rfl,rfl,aL _,λ_ _=>rfl⟩
theorem bT.PM(h:bT w VK s)(hn:n<20)(hh:(s.k.p n).has=bE)(u:du w' (s.A (9+n)) (s.A 4) m)(f:bO (s.A (9+n)) w w'):bT w' VK {s with k:=Kn.cV s.k n m s.k.bk}/\KF s w {s with k:=Kn.cV s.k n m s.k.bk} w':=
 have b:=h.ub hn hh
 h.yX hn hh ⟨u,b.bk.mK f b.br b.bq,b.br,b.bq⟩ (fX.mem f)
section
variable (VK N:Nat)(d:Nat->Nat)(s:St)(w:bD)
def Kn.Hg(k:Kp)(z:Int)(on:Bool)(v:Value)(k':Kp):Prop:=∃E m',v=bS E/\(Kn.cH k z=0/\Wf.jw k.sc z (!on) m'\/m'=k.sc)/\k'={k with sc:=m'}
theorem IF(z:Int)(on:Bool)(h:bT w VK s):
  Calls prog 53 #[ai (bB ⟨s.A 0,0,bC⟩),aa bf z,ar on] w (Kn.Nx VK s w (Kn.Hg s.k z on)):=by
 have AC:=hJ (dX VK s w z h);have H:=hJ h;by_cases a:Kn.cH s.k z=0
 .have A:=hJ a;have WK:=hJ (Wf.Ez (s.A 3) s.k.sc w z (!on) h.sc);have c8:=h.yC;obtain⟨a3,h3⟩:=hU (s.A 3);have H3:=hJ h3;rw[a,bN]at AC;rw[h3]at WK c8;generalize gW (s.A 0) z 0=ap at*;generalize s.A 0=kb at*;go_in
  go_wp2_with fail
  refine cN AC.v ?_;go_wp2_with fail
  refine WK.mono ?_;rintro e w1 ⟨⟨E1,rfl⟩,u,f⟩;obtain⟨m',t⟩:∃m',Wf.jw s.k.sc z (!on) m':=⟨_,rfl⟩;rw[<-t]at u;have S1:=hJ (H.lC (by rw[H3.v];exact u) (by rw[H3.v];exact f));have TT:=hJ t;go_wp2
  go_ret
  exact .mk ⟨_,m',rfl, .inl ⟨A.v,TT.v⟩,rfl⟩ S1.v
 .rw[bP a]at AC;have A:=hJ a;generalize gW (s.A 0) z (Kn.cH s.k z)=ap at*;generalize Kn.cH s.k z=ae at*;generalize s.A 0=kb at*;go_in
  go_wp2_with fail
  refine cN AC.v ?_;go_wp2
  go_ret
  exact .no H.v ⟨ae,_,(bP A.v).symm, .inr rfl,rfl⟩
theorem Nz(z a m:Int)(wr:Bool)(h:bT w VK s)(hj:KJ (λ_=>False) N s.k):
  Calls prog 45 #[ai (bB ⟨s.A 0,0,bC⟩),aa bf z,aa bf a,aa bf m,ar wr] w (Kn.Nx VK s w λv k'=>(∃n:Nat,z=n/\n<20/\Kn.lv s.k n=bE/\v=bS (Mv.rS (s.k.p n).mem a m)/\k'=Kn.cV s.k n (Mv.mapM (s.k.p n).mem a m wr) s.k.bk)\/Kn.cH s.k z≠0/\v=bS (Kn.cH s.k z)/\k'=s.k):=by
 have AC:=hJ (dX VK s w z h);have H:=hJ h;by_cases A:Kn.cH s.k z=0
 .obtain⟨n,rfl,hn,hl⟩:=Kn.fY A;have hh:=hj.lv n hn (λx=>x) (Kn.dJ.1 hl);have HH:=hJ (aK hh hl);have c4:=h.rM n hn hh;have UM:=hJ (O1 (s.A (9+n)) (s.A 4) a m wr (s.k.p n).mem w (h.me n hn hh));rw[A,bN,iG]at AC;obtain⟨m9,h9⟩:=hU (s.A (9+n));have H9:=hJ h9;rw[h9]at UM c4;generalize s.A 0=kb at*;go_in
  go_wp2_with fail
  refine cN AC.v ?_;go_wp2_with fail
  refine sC UM.v ?_;rintro w1 ⟨u,f⟩;have S1:=hJ (H.PM hn HH.1 (by rw[H9.v];exact u) (by rw[H9.v];exact f));go_wp2
  go_ret
  exact .mk (.inl ⟨n,rfl,hn,HH.2,rfl,rfl⟩) S1.v
 .have A':=hJ A;rw[bP A]at AC|-;generalize gW (s.A 0) z (Kn.cH s.k z)=ap at*;generalize Kn.cH s.k z=ae at*;generalize s.A 0=kb at*;go_in
  go_wp2_with fail
  refine cN AC.v ?_;go_wp2
  go_ret
  exact .no H.v (.inr ⟨A'.v,rfl,rfl⟩)
theorem Kv(z a m:Int)(wr:Bool)(h:bT w VK s)(hj:KJ (λ_=>False) N s.k):
  Calls prog 46 #[ai (bB ⟨s.A 0,0,bC⟩),aa bf z,aa bf a,aa bf m,ar wr] w (Kn.Nx VK s w λv k'=>(∃n:Nat,z=n/\n<20/\Kn.lv s.k n=bE/\v=bS (Mv.rU (s.k.p n).mem a m)/\k'=Kn.cV s.k n (Mv.ve (s.k.p n).mem a m wr) s.k.bk)\/Kn.cH s.k z≠0/\v=bS (Kn.cH s.k z)/\k'=s.k):=by
 have AC:=hJ (dX VK s w z h);have H:=hJ h;by_cases A:Kn.cH s.k z=0
 .obtain⟨n,rfl,hn,hl⟩:=Kn.fY A;have hh:=hj.lv n hn (λx=>x) (Kn.dJ.1 hl);have HH:=hJ (aK hh hl);have c4:=h.rM n hn hh;have UM:=hJ (Ex (s.A (9+n)) (s.A 4) a m wr (s.k.p n).mem w (h.me n hn hh));rw[A,bN,iG]at AC;obtain⟨m9,h9⟩:=hU (s.A (9+n));have H9:=hJ h9;rw[h9]at UM c4;generalize s.A 0=kb at*;go_in
  go_wp2_with fail
  refine cN AC.v ?_;go_wp2_with fail
  refine sC UM.v ?_;rintro w1 ⟨u,f⟩;have S1:=hJ (H.PM hn HH.1 (by rw[H9.v];exact u) (by rw[H9.v];exact f));go_wp2
  go_ret
  exact .mk (.inl ⟨n,rfl,hn,HH.2,rfl,rfl⟩) S1.v
 .have A':=hJ A;rw[bP A]at AC|-;generalize gW (s.A 0) z (Kn.cH s.k z)=ap at*;generalize Kn.cH s.k z=ae at*;generalize s.A 0=kb at*;go_in
  go_wp2_with fail
  refine cN AC.v ?_;go_wp2
  go_ret
  exact .no H.v (.inr ⟨A'.v,rfl,rfl⟩)
theorem Ff(z a m:Int)(h:bT w VK s)(hj:KJ (λ_=>False) N s.k)(hS:Gr.Small s.k.gr):
  Calls prog 28 #[ai (bB ⟨s.A 0,0,bC⟩),aa bf z,aa bf a,aa bf m] w (Kn.Nx VK s w λv k'=>(∃n:Nat,z=n/\n<20/\Kn.lv s.k n=bE/\v=bS (Kn.pM s.k n a m)/\k'=Kn.dz s.k n a m)\/Kn.cH s.k z≠0/\v=bS (Kn.cH s.k z)/\k'=s.k):=by
 have AC:=hJ (dX VK s w z h);have H:=hJ h;by_cases A:Kn.cH s.k z=0
 .obtain⟨n,rfl,hn,hl⟩:=Kn.fY A;have UM:=hJ (yQ VK s w n a m h hn (hj.lv n hn (λx=>x) (Kn.dJ.1 hl)) (hj.me.cY hn) hS);have HL:=hJ hl;rw[A,bN,iG]at AC;generalize s.A 0=kb at*;go_in
  go_wp2_with fail
  refine cN AC.v ?_;go_wp2_with fail
  refine sC UM.v ?_;rintro w1 S1;have S1:=hJ S1;go_wp2
  go_ret
  exact .mk (.inl ⟨n,rfl,hn,HL.v,rfl,rfl⟩) S1.v
 .have A':=hJ A;rw[bP A]at AC|-;generalize gW (s.A 0) z (Kn.cH s.k z)=ap at*;generalize Kn.cH s.k z=ae at*;generalize s.A 0=kb at*;go_in
  go_wp2_with fail
  refine cN AC.v ?_;go_wp2
  go_ret
  exact .no H.v (.inr ⟨A'.v,rfl,rfl⟩)
end
def Kn.TP(s:St)(z:Int)(v:Value):Prop:=Kn.cH s.k z=0->∃y,y<6/\s.k.ht y=bE/\v=ai (bB ⟨s.A (49+y),0,bC⟩)
theorem Kn.KJ.tab(h:KJ X N k)(hn:n<20)(l:Kn.lv k n=bE):∃y,y<6/\k.ht y=bE/\Sp.dV k.sp (n:Int)=y:=by
 obtain⟨d,I⟩:=h.sp;have o:=(h.of n hn).2 (by have:=Kn.dJ.1 l;omega);obtain⟨y,hy⟩:∃y,k.sp.of n=y+1:=⟨k.sp.of n-1,bG⟩;obtain⟨_,z6,zh⟩:=I.dj hn hy;exact⟨y,z6,by rw[h.ht y z6];exact zh,Sp.gM hn hy⟩
section
variable (VK N:Nat)(d:Nat->Nat)(s:St)(w:bD)
theorem jR(z:Int)(h:bT w VK s)(hj:KJ (λ_=>False) N s.k):
  Calls prog 92 #[ai (bB ⟨s.A 0,0,bC⟩),aa bf z] w λe w'=>∃v,e=bw (ao #[v,bS (Kn.cH s.k z)])/\Kn.TP s z v/\Below w.heap.size w w':=by
 have AC:=hJ (dX VK s w z h);by_cases A:Kn.cH s.k z=0
 .obtain⟨n,rfl,hn,hl⟩:=Kn.fY A;obtain⟨y,y6,yt,yi⟩:=hj.tab hn hl;have SP:Hid (∀j,Calls prog 62 #[ai (bB ⟨s.A 0,0,bC⟩),aa bf n] (w.drewN j) λe w2=>e=bw (aa bf y)/\w2=w.drewN j):=hJ (λj=>by have:=iK VK s _ (n:Int) (h.drewN j);rwa [yi]at this);have c:=h.MJ y y6 yt;have T:Hid (Kn.TP s n (ai (bB ⟨s.A (49+y),0,bC⟩))):=hJ (λ_=>⟨y,y6,yt,rfl⟩);have yI:(y:Int)<6:=bG
  rw[A,bN]at AC|-;rw[iG]at AC;generalize s.A 0=kb at*;generalize s.A (49+y)=tb at*;go_in
  go_wp2_with fail
  refine cN AC.v ?_;go_upto_region 4 with fail
  go_quiet ((go_at_call 62;exact Calls.quiet_of_same (SP.v _)))
  go_wp2
  go_ret2
  exact⟨_,rfl,T.v,below_drewN _ _⟩
 .have T:Hid (Kn.TP s z (ai bC)):=hJ (λa=>aZ a A);rw[bP A]at AC|-;generalize gW (s.A 0) z (Kn.cH s.k z)=ap at*;generalize Kn.cH s.k z=ae at*;generalize s.A 0=kb at*;go_in
  go_wp2_with fail
  refine cN AC.v ?_;go_wp2
  go_ret2
  exact⟨_,rfl,T.v,aQ _ _⟩
end
def Kn.FG(k:Kp)(G:Fo):Prop:=Tr.Ok G/\WX (Kn.jM k) k.fi G k.pi
theorem WX.hk{T:Nat->Fi}{S:Nat->Pi}(h:WX xx T F S)(e:∀m,(G.nd m).held=(F.nd m).held/\(G.nd m).kind=(F.nd m).kind):WX xx T G S:=
 h.si (λm _=>(e m).1) (λm _ _=>(e m).2) (λm hm k=>by rw[(e m).1];rw[(e m).2]at k;exact h.z0 m hm k)
theorem Tr.Li{x:Nd}(h:x.held=(F.nd n).held/\x.kind=(F.nd n).kind)(m:Nat):((F.put n x).nd m).held=(F.nd m).held/\((F.put n x).nd m).kind=(F.nd m).kind:=by
 by_cases c:m=n
 .subst c;rw[Tr.bR];exact h
 .rw[Tr.cr _ _ _ _ c];exact⟨rfl,rfl⟩
theorem WX.Tn{T:Nat->Fi}{S:Nat->Pi}(h:WX xx T F S){s o:bU}(hm:Tr.Hd F z s y o E G):WX xx T G S:=by
 obtain⟨K,e,_,⟨_,_,rfl⟩|⟨_,⟨_,_,rfl⟩|⟨_,⟨_,_,rfl⟩|⟨_,⟨_,_,rfl⟩|⟨_,i,_,e2,_,⟨_,_,rfl⟩|⟨_,_,rfl⟩⟩⟩⟩⟩⟩:=hm<;>try exact h
 refine h.hk (λm=>?_);unfold Tr.IV;rw[(WX.KU _ m).1,(WX.KU _ m).2];refine Tr.Li ?_ m;exact⟨rfl,rfl⟩
theorem WX.Te{T:Nat->Fi}{S:Nat->Pi}(h:WX xx T F S){s:bU}(hm:Tr.BY F y z s E G):WX xx T G S:=by
 obtain⟨_,_,rfl⟩|⟨_,e,_,⟨_,_,rfl⟩|⟨_,⟨_,_,rfl⟩|⟨_,_,rfl⟩⟩⟩:=hm<;>try exact h
 refine h.hk (λm=>?_);unfold Tr.Ai;rw[(WX.KU _ m).1,(WX.KU _ m).2];refine Tr.Li ?_ m;exact⟨rfl,rfl⟩
theorem bT.Df{V:bD}(h:bT w VK s)(b:Below w.heap.size w V)(u:cv w' (s.A 6) G)(f:bO (s.A 6) V w'):bT w' VK {s with k:={s.k with fo:=G}}/\KF s w {s with k:={s.k with fo:=G}} w':=
 have q:=(h.below b).Cm u f
 ⟨q.1,(KF.below b).trans q.2⟩
def Kn.ue(k:Kp)(v:Value)(k':Kp):Prop:=∃E G,v=bS E/\Kn.FG k G/\k'={k with fo:=G}
theorem Kn.Nx.at(h:bT w VK s)(b:Below w.heap.size w w')(r:R v s.k):Kn.Nx VK s w R (bw v) w':=⟨v,s,rfl,r,h.below b,KF.below b⟩
theorem Kn.ue.no(h:KJ X N k)(e:bS E=v):Kn.ue k v k:=⟨E,k.fo,e.symm,⟨h.ok,h.wx⟩,rfl⟩
theorem PG{u:Value}(e:bS E=v):bw (ao #[u,v])=bw (ao #[u,bS E]):=by rw[e]
section
variable (VK N:Nat)(d:Nat->Nat)(s:St)(w:bD)
theorem uL(z:Int)(p:bU)(h:bT w VK s)(hj:KJ (λ_=>False) N s.k):
  Calls prog 198 #[ai (bB ⟨s.A 0,0,bC⟩),aa bf z,ak p] w λe w'=>∃x E:Int,e=bw (ao #[aa bf x,bS E])/\Below w.heap.size w w':=by
 have TB:=hJ (jR VK N s w z h hj);have H:=hJ (aK h hj);generalize hk:s.A 0=kb at TB|-;go_in
 go_wp2_with fail
 refine TB.mono ?_;rintro e w1 ⟨v,rfl,tp,b1⟩;have B1:=hJ b1;by_cases A:Kn.cH s.k z=0
 .obtain⟨y,y6,yt,rfl⟩:=tp A;have K1:=H.1.below b1;have WA:=hJ (EB VK (s.A (49+y)) (s.A 6) (s.k.tb y) (s.V y) s.k.fo p w1 (K1.tb y y6 yt) K1.fo H.2.ok.sz);rw[A,bN];generalize s.A (49+y)=tb at*;go_wp2_with fail
  refine WA.mono ?_;rintro e w2 ⟨x,E,rfl,_,b2⟩;have B2:Hid (Below w.heap.size w w2):=hJ (B1.trans (b2.mono B1.size));go_wp2
  go_ret2
  exact⟨x.2,E,rfl,B2.alloc B2.size _⟩
 .have A':=hJ (bP A);rw[bP A];generalize Kn.cH s.k z=ae at*;go_wp2
  go_ret2
  exact⟨0,ae,PG A'.v,B1.v⟩
theorem NF(z:Int)(p:bU)(h:bT w VK s)(hj:KJ (λ_=>False) N s.k):
  Calls prog 128 #[ai (bB ⟨s.A 0,0,bC⟩),aa bf z,ak p] w (Kn.Nx VK s w (Kn.ue s.k)):=by
 have TB:=hJ (jR VK N s w z h hj);have H:=hJ (aK h hj);have RM:Hid (∀V (x:Int) (nm:bU),Below w.heap.size w V->Calls prog 206 #[ai (bB ⟨s.A 6,0,bC⟩),aa bf x,ak nm] V λe w'=>∃E G,e=bw (bS E)/\Kn.FG s.k G/\bT w' VK {s with k:={s.k with fo:=G}}/\KF s w {s with k:={s.k with fo:=G}} w'):=hJ (λV x nm b=>(FH (s.A 6) x nm s.k.fo V (h.below b).fo hj.ok.sz hj.ok.db).mono (by rintro _ w' ⟨E,G,rfl,r,u,f⟩;exact⟨E,G,rfl,⟨hj.ok.rem r,hj.wx.rem r⟩,h.Df b u f⟩));have C6:Hid (∀V,Below w.heap.size w V->V.cell? ⟨s.A 0,250,bC⟩=bB (ai (bB ⟨s.A 6,0,bC⟩))):=hJ (λV b=>(h.below b).wI);generalize hk:s.A 0=kb at TB C6|-;go_in
 go_wp2_with fail
 refine TB.mono ?_;rintro e w1 ⟨v,rfl,tp,b1⟩;have B1:=hJ b1;by_cases A:Kn.cH s.k z=0
 .obtain⟨y,y6,yt,rfl⟩:=tp A;have K1:=H.1.below b1;have LA:=hJ (xu VK (s.A (49+y)) (s.A 6) (s.k.tb y) (s.V y) s.k.fo p w1 (K1.tb y y6 yt) K1.fo H.2.ok.sz);rw[A,bN];generalize s.A (49+y)=tb at*;generalize s.A 6=a6 at*;go_wp2_with fail
  refine LA.mono ?_;rintro e w2 ⟨x,nm,E,rfl,_,b2⟩;have B2:Hid (Below w.heap.size w w2):=hJ (B1.trans (b2.mono B1.size));by_cases E0:E=0
  .subst E0;rw[bN];go_upto_region 7 with fail
   have B3:=hJ (B2.alloc B2.size (bA #[aa bf x.1,aa bf x.2] 224));have c6:=C6.v _ B3.v;go_region_with ((go_at_call 206;refine(RM.v _ _ _ (by first|exact B3.v|exact B3.drew)).mono ?_;rintro e w4 ⟨E,G,rfl,S4⟩;have S4:=hJ S4))
   all_goals
    go_wp2
    go_ret
    exact .mk ⟨E,G,rfl,S4.1,rfl⟩ S4.2
  .have E1:=hJ (bP E0);rw[bP E0];go_wp2
   go_ret
   exact .at H.1 (B2.alloc B2.size _) (.no H.2 E1.v)
 .have A':=hJ (bP A);rw[bP A];generalize Kn.cH s.k z=ae at*;go_wp2
  go_ret
  exact .at H.1 B1.v (.no H.2 A'.v)
end
namespace Gr
def O8(li:Bool)(t t':Nat->Gp):Prop:=t'=t\/(∃n p:Nat,n<10/\(t n).there=bF/\t'=fK t n (nV p))\/(∃(Wy:Nat->List (Fin 10)) (n:Nat),n<10/\n≠0/\fH t Wy/\dg t Wy n Gp.op 10=0/\dg t Wy n Gp.oq 10=0/\t'=fK t n lM)\/li=bE/\∃(n:Nat) (a b:Int),t'=fK t n {t n with lp:=a,lq:=b}
def Jr(li:Bool)(t:Nat->Gp)(N b:Nat)(V w':bD):Prop:=∃t',O8 li t t'/\(∃Wy,Tree t' Wy N)/\cC w' b t'/\Go.Proofs.YtpmmdkcfenjiaaaGreatDoor.bO b V w'
section
variable {li:Bool}{t:Nat->Gp}{Wy:Nat->List (Fin 10)}{N b:Nat}{V:bD}
theorem Jr.same(hT:Tree t Wy N)(h:cC V b t)(k:RowKit.Below V.heap.size V w'):Jr li t N b V w':=⟨t, .inl rfl,⟨Wy,hT⟩,h.below k h.lt,Go.Proofs.YtpmmdkcfenjiaaaGreatDoor.bO.cO k⟩
theorem QJ(hT:Tree t Wy N)(g:Int)(h:cC V b t):Calls prog 111 #[ai (bB ⟨b,0,bC⟩),aa bf g] V λe w'=>∃x E:Int,e=bw (ao #[aa bf x,bS E])/\Jr bF t N b V w':=by
 by_cases r:wr t g=0
 .obtain⟨n,rfl,hn,hh⟩:=qe r;by_cases d:4<=(Wy n).length
  .refine sC (wX b n t (Wy n) V h (hT.ways n hn) hn hh d (by have:=hT.deep n hn;omega)) ?_;rintro w' k;exact⟨_,_,rfl, .same hT h k⟩
  .refine(wY b n t (Wy n) V h (hT.ways n hn) hn hh bG).mono ?_;rintro _ w' (⟨m,hm,hf,_,rfl,u,f⟩|⟨_,rfl,k⟩)
   .exact⟨_,_,rfl,_, .inr (.inl ⟨m,n,hm,hf,rfl⟩),⟨_,hT.add hm hf hn hh bG⟩,u,f.sI⟩
   .exact⟨_,_,rfl, .same hT h k⟩
 .refine sC (Qe b g t V h r) ?_;rintro w' rfl;exact⟨_,_,rfl, .same hT h (RowKit.Below.refl _ _)⟩
theorem QL(hT:Tree t Wy N)(hN:N<=1000)(g:Int)(h:cC V b t):Calls prog 113 #[ai (bB ⟨b,0,bC⟩),aa bf g] V λe w'=>∃E:Int,e=bw (bS E)/\Jr bF t N b V w':=by
 by_cases r:wr t g=0
 .obtain⟨n,rfl,hn,hh⟩:=qe r;by_cases n0:n=0
  .subst n0;refine sC (Fy b t V h hh) ?_;rintro w' rfl;exact⟨_,rfl, .same hT h (RowKit.Below.refl _ _)⟩
  .by_cases hx:dg t Wy n Gp.op 10=0/\dg t Wy n Gp.oq 10=0
   .cases ha:pJ t n
    .refine sC (Lo b n t Wy V h hT.ways (hT.small hN) hn n0 hh hx ha) ?_;rintro w' ⟨u,f⟩;exact⟨_,rfl,_, .inr (.inr (.inl ⟨Wy,n,hn,n0,hT.ways,hx.1,hx.2,rfl⟩)),⟨_,hT.rem n0 ha⟩,u,f.sI⟩
    .refine sC (I3 b n t Wy V h hT.ways (hT.small hN) hn n0 hh hx ha) ?_;rintro w' k;exact⟨_,rfl, .same hT h k⟩
   .refine sC (I5 b n t Wy V h hT.ways (hT.small hN) hn n0 hh bG) ?_;rintro w' k;exact⟨_,rfl, .same hT h k⟩
 .refine sC (I4 b g t V h r) ?_;rintro w' rfl;exact⟨_,rfl, .same hT h (RowKit.Below.refl _ _)⟩
theorem QK(hT:Tree t Wy N)(g p q:Int)(h:cC V b t):Calls prog 115 #[ai (bB ⟨b,0,bC⟩),aa bf g,aa bf p,aa bf q] V λe w'=>∃E:Int,e=bw (bS E)/\Jr bE t N b V w':=by
 by_cases r:wr t g=0
 .obtain⟨n,rfl,hn,hh⟩:=qe r;cases hf:jk p q (-1)
  .refine sC (Ft b n p q t V h hn hh hf) ?_;rintro w' k;exact⟨_,rfl, .same hT h k⟩
  .refine sC (N3 b n p q t V h hn hh hf) ?_;rintro w' ⟨u,f⟩;exact⟨_,rfl,_, .inr (.inr (.inr ⟨rfl,n,p,q,rfl⟩)),⟨_,hT.Ul⟩,u,f.sI⟩
 .refine sC (KX b g p q t V h r) ?_;rintro w' rfl;exact⟨_,rfl, .same hT h (RowKit.Below.refl _ _)⟩
end
end Gr
namespace Kn
def SG(k:Kp)(m:Wf.M):Prop:=Wf.SG k.sc m
def mR(li:Bool)(N:Nat)(k k':Kp):Prop:=∃t m,Gr.O8 li k.gr t/\(∃Wy,Gr.Tree t Wy N)/\SG k m/\k'={k with gr:=t,sc:=m}
theorem mR.sc{li:Bool}{N:Nat}{X:Nat->Prop}{k:Kp}(h:KJ X N k){m:Wf.M}(g:SG k m):mR li N k {k with sc:=m}:=⟨k.gr,m, .inl rfl,h.gr,g,rfl⟩
end Kn
section
variable (VK N:Nat)(d:Nat->Nat)(s:St)(w:bD)
theorem Fb(z:Int)(on:Bool)(h:bT w VK s)(hj:KJ (λ_=>False) N s.k):
  Calls prog 54 #[ai (bB ⟨s.A 0,0,bC⟩),aa bf z,ar on] w (Kn.Nx VK s w λv k'=>(∃E,v=bS E)/\Kn.mR bF N s.k k'):=by
 have FZ:Hid (Calls prog 119 #[ai (bB ⟨s.A 3,0,bC⟩),aa bf z,ar on] w (Kn.Nx VK s w λv k'=>(∃E,v=bS E)/\Kn.mR bF N s.k k')):=hJ ((Wf.Ib (s.A 3) s.k.sc w z on h.sc).mono (by
  rintro _ w' ⟨E,m,rfl,t,u,f⟩;exact .mk ⟨⟨_,rfl⟩, .sc hj t⟩ (h.lC u f)))
 have c8:=h.yC;generalize s.A 0=kb at*;generalize s.A 3=a3 at*;go_in
 go_wp2_with fail
 refine FZ.mono ?_;rintro e w1 ⟨v,s',rfl,S1⟩;have S1:=hJ S1;go_wp2
 go_ret
 exact⟨v,s',rfl,S1.v⟩
theorem IE(z q p:Int)(h:bT w VK s)(hj:KJ (λ_=>False) N s.k):
  Calls prog 55 #[ai (bB ⟨s.A 0,0,bC⟩),aa bf z,aa bf q,aa bf p] w (Kn.Nx VK s w λv k'=>(∃E,v=bS E)/\Kn.mR bF N s.k k'):=by
 have FZ:Hid (Calls prog 120 #[ai (bB ⟨s.A 3,0,bC⟩),aa bf z,aa bf q,aa bf p] w (Kn.Nx VK s w λv k'=>(∃E,v=bS E)/\Kn.mR bF N s.k k')):=hJ ((Wf.Lj (s.A 3) s.k.sc w z q p h.sc).mono (by
  rintro _ w' ⟨E,m,rfl,t,u,f⟩;exact .mk ⟨⟨_,rfl⟩, .sc hj t⟩ (h.lC u f)))
 have c8:=h.yC;generalize s.A 0=kb at*;generalize s.A 3=a3 at*;go_in
 go_wp2_with fail
 refine FZ.mono ?_;rintro e w1 ⟨v,s',rfl,S1⟩;have S1:=hJ S1;go_wp2
 go_ret
 exact⟨v,s',rfl,S1.v⟩
theorem Iq(z q p:Int)(h:bT w VK s)(hj:KJ (λ_=>False) N s.k):
  Calls prog 51 #[ai (bB ⟨s.A 0,0,bC⟩),aa bf z,aa bf q,aa bf p] w (Kn.Nx VK s w λv k'=>(∃E,v=bS E)/\Kn.mR bE N s.k k'):=by
 obtain⟨Wy,hT⟩:=hj.gr;have FZ:Hid (Calls prog 115 #[ai (bB ⟨s.A 2,0,bC⟩),aa bf z,aa bf q,aa bf p] w (Kn.Nx VK s w λv k'=>(∃E,v=bS E)/\Kn.mR bE N s.k k')):=hJ ((Gr.QK hT z q p h.gr).mono (by
  rintro _ w' ⟨E,rfl,t,g,tr,u,f⟩;exact .mk ⟨⟨E,rfl⟩,t,s.k.sc,g,tr,Wf.SG.refl _,rfl⟩ (h.j8 u f)))
 have c8:=h.pP;generalize s.A 0=kb at*;generalize s.A 2=a3 at*;go_in
 go_wp2_with fail
 refine FZ.mono ?_;rintro e w1 ⟨v,s',rfl,S1⟩;have S1:=hJ S1;go_wp2
 go_ret
 exact⟨v,s',rfl,S1.v⟩
theorem ID(h:bT w VK s)(hj:KJ (λ_=>False) N s.k):
  Calls prog 33 #[ai (bB ⟨s.A 0,0,bC⟩)] w (Kn.Nx VK s w λv k'=>∃(T:Nat) (E:Int) (G:Fo),v=ao #[aa bf (T:Int),bS E]/\Tr.qY s.k.fo T E G/\k'={s.k with fo:=G}):=by
 have FZ:Hid (Calls prog 89 #[ai (bB ⟨s.A 6,0,bC⟩)] w λe w'=>∃(T:Nat) (E:Int) (G:Fo),e=bw (ao #[aa bf (T:Int),bS E])/\Tr.qY s.k.fo T E G/\bT w' VK {s with k:={s.k with fo:=G}}/\KF s w {s with k:={s.k with fo:=G}} w'):=hJ ((zk (s.A 6) s.k.fo w h.fo hj.ok.tr).mono (by
  rintro _ w' ⟨T,E,G,rfl,r,u,f⟩;exact⟨T,E,G,rfl,r,h.Df (aQ _ _) u f⟩))
 have c8:=h.wI;generalize s.A 0=kb at*;generalize s.A 6=a3 at*;go_in
 go_wp2_with fail
 refine FZ.mono ?_;rintro e w1 ⟨T,E,G,rfl,r,S1⟩;have S1:=hJ (aK r S1);go_wp2
 go_ret2
 exact .mk ⟨T,E,G,rfl,S1.1,rfl⟩ S1.2
end
section
variable (VK N:Nat)(d:Nat->Nat)(s:St)(w:bD)
theorem Ki(p wt:Int)(h:bT w VK s)(hj:KJ (λ_=>False) N s.k):
  Calls prog 49 #[ai (bB ⟨s.A 0,0,bC⟩),aa bf p,aa bf wt] w (Kn.Nx VK s w λv k'=>(∃x E:Int,v=ao #[aa bf x,bS E])/\Kn.mR bF N s.k k'):=by
 obtain⟨Wy,hT⟩:=hj.gr;have H:=hJ h;have OK:Hid (Kn.SG s.k s.k.sc/\∃Wy,Gr.Tree s.k.gr Wy N):=hJ ⟨Wf.SG.refl _,hj.gr⟩;have AD:Hid (Calls prog 111 #[ai (bB ⟨s.A 2,0,bC⟩),aa bf p] w λe w'=>∃(x E:Int) (t:Nat->Gr.Gp),e=bw (ao #[aa bf x,bS E])/\(Gr.O8 bF s.k.gr t/\∃Wy,Gr.Tree t Wy N)/\bT w' VK {s with k:={s.k with gr:=t}}/\KF s w {s with k:={s.k with gr:=t}} w'):=hJ ((Gr.QJ hT p h.gr).mono (by
  rintro _ w' ⟨x,E,rfl,t,g,tr,u,f⟩;exact⟨x,E,t,rfl,⟨g,tr⟩,h.j8 u f⟩))
 have AG:Hid (∀V t (x:Int),bT V VK {s with k:={s.k with gr:=t}}->Calls prog 112 #[ai (bB ⟨s.A 3,0,bC⟩),aa bf x,aa bf p,aa bf wt] V λe w'=>∃E m,e=bw (bS E)/\Kn.SG s.k m/\bT w' VK {s with k:={s.k with gr:=t,sc:=m}}/\KF {s with k:={s.k with gr:=t}} V {s with k:={s.k with gr:=t,sc:=m}} w'):=hJ (λV t x k=>(Wf.Cu (s.A 3) s.k.sc V x p wt k.sc).mono (by
  rintro _ w' ⟨E,m,rfl,g,u,f⟩;exact⟨_,_,rfl,g,k.lC u f⟩))
 have c2:=h.pP;have C3:Hid (∀V t,bT V VK {s with k:={s.k with gr:=t}}->V.cell? ⟨s.A 0,248,bC⟩=bB (ai (bB ⟨s.A 3,0,bC⟩))):=hJ (λV t k=>k.yC);generalize s.A 0=kb at*;generalize s.A 2=a2 at*;generalize s.A 3=a3 at*;by_cases c:wt<1\/1000<wt
 .by_cases c1:wt<1
  all_goals
   go_in
   go_wp2
   go_ret2
   exact .no H.v ⟨⟨0,1,rfl⟩,s.k.gr,s.k.sc, .inl rfl,OK.2,OK.1,rfl⟩
 .have c1:¬wt<1:=λe=>c (.inl e);have c3:¬1000<wt:=λe=>c (.inr e);go_in
  go_wp2_with fail
  refine AD.mono ?_;rintro e w1 ⟨x,E,t,rfl,S1⟩;have S1:=hJ S1;by_cases e0:E=0
  .subst e0;rw[bN];have AG:=hJ (AG.v w1 t x S1.2.1);have c3:=C3.v w1 t S1.2.1;go_wp2_with fail
   refine AG.mono ?_;rintro e w2 ⟨E,m,rfl,S2⟩;have S2:=hJ S2;go_wp2
   go_ret2
   exact .mk ⟨⟨x,0,rfl⟩,t,m,S1.1.1,S1.1.2,S2.1,rfl⟩ ⟨S2.2.1,S1.2.2.trans S2.2.2⟩
  .have E1:=hJ (bP e0);rw[bP e0];go_wp2
   go_ret2
   exact .mk ⟨⟨0,E,by rw[E1.v];rfl⟩,t,s.k.sc,S1.1.1,S1.1.2,OK.1,rfl⟩ S1.2
theorem Io(hN:N<=1000)(p:Int)(h:bT w VK s)(hj:KJ (λ_=>False) N s.k):
  Calls prog 50 #[ai (bB ⟨s.A 0,0,bC⟩),aa bf p] w (Kn.Nx VK s w λv k'=>(∃E:Int,v=bS E)/\Kn.mR bF N s.k k'):=by
 obtain⟨Wy,hT⟩:=hj.gr;have OK:Hid (Kn.SG s.k s.k.sc):=hJ (Wf.SG.refl _);have AD:Hid (Calls prog 113 #[ai (bB ⟨s.A 2,0,bC⟩),aa bf p] w λe w'=>∃(E:Int) (t:Nat->Gr.Gp),e=bw (bS E)/\(Gr.O8 bF s.k.gr t/\∃Wy,Gr.Tree t Wy N)/\bT w' VK {s with k:={s.k with gr:=t}}/\KF s w {s with k:={s.k with gr:=t}} w'):=hJ ((Gr.QL hT hN p h.gr).mono (by
  rintro _ w' ⟨E,rfl,t,g,tr,u,f⟩;exact⟨E,t,rfl,⟨g,tr⟩,h.j8 u f⟩))
 have AG:Hid (∀V t,bT V VK {s with k:={s.k with gr:=t}}->Calls prog 114 #[ai (bB ⟨s.A 3,0,bC⟩),aa bf p] V λe w'=>∃E m,e=bw (bS E)/\Kn.SG s.k m/\bT w' VK {s with k:={s.k with gr:=t,sc:=m}}/\KF {s with k:={s.k with gr:=t}} V {s with k:={s.k with gr:=t,sc:=m}} w'):=hJ (λV t k=>(Wf.BM (s.A 3) s.k.sc V p k.sc).mono (by
  rintro _ w' ⟨E,m,rfl,g,u,f⟩;exact⟨_,_,rfl,g,k.lC u f⟩))
 have c2:=h.pP;have C3:Hid (∀V t,bT V VK {s with k:={s.k with gr:=t}}->V.cell? ⟨s.A 0,248,bC⟩=bB (ai (bB ⟨s.A 3,0,bC⟩))):=hJ (λV t k=>k.yC);generalize s.A 0=kb at*;generalize s.A 2=a2 at*;generalize s.A 3=a3 at*;go_in
 go_wp2_with fail
 refine AD.mono ?_;rintro e w1 ⟨E,t,rfl,S1⟩;have S1:=hJ S1;by_cases e0:E=0
 .subst e0;rw[bN];have AG:=hJ (AG.v w1 t S1.2.1);have c3:=C3.v w1 t S1.2.1;go_wp2_with fail
  refine AG.mono ?_;rintro e w2 ⟨E,m,rfl,S2⟩;have S2:=hJ S2;go_wp2
  go_ret
  exact .mk ⟨⟨E,rfl⟩,t,m,S1.1.1,S1.1.2,S2.1,rfl⟩ ⟨S2.2.1,S1.2.2.trans S2.2.2⟩
 .have E1:=hJ (bP e0);rw[bP e0];go_wp2
  go_ret
  exact .mk ⟨⟨E,E1.symm⟩,t,s.k.sc,S1.1.1,S1.1.2,OK.v,rfl⟩ S1.2
end
def Kn.xr(k:Kp)(n:Nat)(g:Int)(t:Nat->Gr.Gp)(m:Wf.M):Kp:={k.put n {k.p n with cJ:=g}with gr:=t,sc:=m}
def Kn.zM(k:Kp)(z g:Int)(v:Value)(k':Kp):Prop:=∃E,v=bS E/\(k'=k\/∃(n:Nat) (Wy:Nat->List (Fin 10)) (m:Wf.M),z=n/\n<20/\Kn.lv k n=bE/\Gr.fH k.gr Wy/\Gr.nU k.gr Wy (k.p n).cJ g 1 (Mv.cX (k.p n).mem 16:Int)=0/\Kn.SG k m/\k'=Kn.xr k n g (Gr.kK k.gr Wy (k.p n).cJ g 1 (Mv.cX (k.p n).mem 16:Int)) m)
section
variable (VK N:Nat)(d:Nat->Nat)(s:St)(w:bD)
theorem Kq(hN:N<=1000)(z g:Int)(h:bT w VK s)(hj:KJ (λ_=>False) N s.k):
  Calls prog 52 #[ai (bB ⟨s.A 0,0,bC⟩),aa bf z,aa bf g] w (Kn.Nx VK s w (Kn.zM s.k z g)):=by
 have AC:=hJ (dX VK s w z h);have H:=hJ (aK h hj);by_cases A:Kn.cH s.k z=0
 .obtain⟨n,rfl,hn,hl⟩:=Kn.fY A;have hs:=hj.lv n hn (λx=>x) (Kn.dJ.1 hl);obtain⟨Wy,hT⟩:=hj.gr;have RS:Hid (∀V,Below w.heap.size w V->Calls prog 64 #[ai (bB ⟨s.A (9+n),0,bC⟩)] V λe w'=>e=bw (aa bf (Mv.cX (s.k.p n).mem 16:Int))/\Below w.heap.size w w'):=hJ (λV b=>(pN _ _ _ V ((h.below b).me n hn hs)).mono (by rintro _ w' ⟨rfl,b2⟩;exact⟨rfl,b.trans (b2.mono b.size)⟩));have MV:Hid (∀V,Below w.heap.size w V->Calls prog 116 #[ai (bB ⟨s.A 2,0,bC⟩),aa bf (s.k.p n).cJ,aa bf g,aa bf 1,aa bf (Mv.cX (s.k.p n).mem 16:Int)] V λe w'=>e=bw (bS (Gr.nU s.k.gr Wy (s.k.p n).cJ g 1 (Mv.cX (s.k.p n).mem 16:Int)))/\bT w' VK {s with k:={s.k with gr:=Gr.kK s.k.gr Wy (s.k.p n).cJ g 1 (Mv.cX (s.k.p n).mem 16:Int)}}/\KF s w {s with k:={s.k with gr:=Gr.kK s.k.gr Wy (s.k.p n).cJ g 1 (Mv.cX (s.k.p n).mem 16:Int)}} w'):=hJ (λV b=>(Gr.On (s.A 2) _ g 1 _ s.k.gr Wy V (h.below b).gr hT.ways (hT.small hN)).mono (by
   rintro _ w' ⟨rfl,u,f⟩;have q:=(h.below b).j8 u f.sI;exact⟨rfl,q.1,(KF.below b).trans q.2⟩))
  have CC:Hid (∀V t,bT V VK {s with k:={s.k with gr:=t}}->V.cell? ⟨s.A 0,247,bC⟩=bB (ai (bB ⟨s.A 2,0,bC⟩))/\V.cell? ⟨s.A 0,n*12+2,bC⟩=bB (aa bf (s.k.p n).cJ)/\V.cell? ⟨s.A 0,n*12+4,bC⟩=bB (ai (bB ⟨s.A (9+n),0,bC⟩))):=hJ (λV t k=>⟨k.pP,k.qj n hn,k.rM n hn hs⟩);have C0:Hid (∀V,Below w.heap.size w V->V.cell? ⟨s.A 0,247,bC⟩=bB (ai (bB ⟨s.A 2,0,bC⟩))/\V.cell? ⟨s.A 0,n*12+2,bC⟩=bB (aa bf (s.k.p n).cJ)/\V.cell? ⟨s.A 0,n*12+4,bC⟩=bB (ai (bB ⟨s.A (9+n),0,bC⟩))):=hJ (λV b=>CC.v V s.k.gr (h.below b));have ME:Hid (Gr.nU s.k.gr Wy (s.k.p n).cJ g 1 (Mv.cX (s.k.p n).mem 16:Int)≠0->({s.k with gr:=Gr.kK s.k.gr Wy (s.k.p n).cJ g 1 (Mv.cX (s.k.p n).mem 16:Int)}:Kp)=s.k):=hJ (λe=>by unfold Gr.kK;rw[aI e]);have HW:=hJ (aK hT.ways (aK hl hs));have DD:Hid (∀m,Kn.SG s.k m->Gr.nU s.k.gr Wy (s.k.p n).cJ g 1 (Mv.cX (s.k.p n).mem 16:Int)=0->∀E,Kn.zM s.k n g (bS E) (Kn.xr s.k n g (Gr.kK s.k.gr Wy (s.k.p n).cJ g 1 (Mv.cX (s.k.p n).mem 16:Int)) m)):=hJ (λm sg e E=>⟨E,rfl, .inr ⟨n,Wy,m,rfl,hn,hl,hT.ways,e,sg,rfl⟩⟩);obtain⟨kb,hk⟩:=hU (s.A 0);have HK:=hJ hk;rw[A,bN,iG]at AC;generalize (Mv.cX (s.k.p n).mem 16:Int)=rs at*;generalize (s.k.p n).cJ=gp at*;generalize Gr.nU s.k.gr Wy gp g 1 rs=me at*;generalize Gr.kK s.k.gr Wy gp g 1 rs=tt at*;rw[hk]at AC CC C0|-;generalize s.A 2=a2 at*;generalize s.A (9+n)=m9 at*;go_in
  go_wp2_with fail
  refine cN AC.v ?_;go_upto_region 4 with fail
  have K0:=hJ (C0.v _ (aQ _ _));obtain⟨y1,y2,y3⟩:=K0.v;go_region_held3 (λw'=>w'.cell? ⟨kb,247,bC⟩=bB (ai (bB ⟨a2,0,bC⟩))/\w'.cell? ⟨kb,n*12+2,bC⟩=bB (aa bf gp)/\w'.cell? ⟨kb,n*12+4,bC⟩=bB (ai (bB ⟨m9,0,bC⟩))) (first|exact K0.v|exact C0.v _ B4.v|exact CC.v _ _ S5.1) (
   (first
    |(go_at_call 64;refine sC (RS.v _ (by first|exact aQ _ _|exact(aQ _ _).drew)) ?_;rintro w4 b4;have B4:=hJ b4)
    |(go_at_call 116;refine sC (MV.v _ (by first|exact B4.v|exact B4.drew)) ?_;rintro w5 S5;have S5:=hJ S5)))
  by_cases e0:me=0
  .have E0:=hJ e0;rw[e0,bN];have z2:=(CC.v _ _ S5.1).2.1;have fz:=S5.1.frozen;have q:=S5.1.TF hn g;rw[show({s with k:={s.k with gr:=tt}}:St).A 0=kb from HK.v]at q fz;have MT:Hid (∀V,V=w5.setCell ⟨kb,n*12+2,bC⟩ (aa bf g)->V.cell? ⟨kb,248,bC⟩=bB (ai (bB ⟨s.A 3,0,bC⟩))/\Calls prog 117 #[ai (bB ⟨s.A 3,0,bC⟩),aa bf n,aa bf g] V λe w'=>∃E m,e=bw (bS E)/\Kn.SG s.k m/\bT w' VK {s with k:=Kn.xr s.k n g tt m}/\KF s w {s with k:=Kn.xr s.k n g tt m} w'):=hJ (λV e=>by
    subst e;have c:=q.1.yC;rw[show({s with k:=Kn.Kp.put {s.k with gr:=tt} n {({s.k with gr:=tt}:Kp).p n with cJ:=g}}:St).A 0=kb from HK.v]at c;refine⟨c,(Wf.DL (s.A 3) s.k.sc _ n g q.1.sc).mono ?_⟩;rintro _ w' ⟨E,m,rfl,mt,u,f⟩;have r:=q.1.lC u f;exact⟨_,m,rfl,mt,r.1,S5.2.trans (q.2.trans r.2)⟩)
   obtain⟨W,hW⟩:=hU (w5.setCell ⟨kb,n*12+2,bC⟩ (aa bf g));obtain⟨z8,M8⟩:=MT.v W hW.symm;have M8:=hJ M8;generalize s.A 3=a3 at*;go_wp2_with fail
   refine M8.mono ?_;rintro e w6 ⟨E,m,rfl,S6⟩;have S6:=hJ S6;go_wp2
   go_ret
   exact .mk (DD.v m S6.1 E0.v E) S6.2
  .have E1:=hJ (aK (bP e0) (ME.v e0));rw[bP e0];go_wp2
   go_ret
   exact .mk ⟨me,E1.1.symm, .inl E1.2⟩ S5.v
 .have A':=hJ (bP A);rw[bP A]at AC;generalize gW (s.A 0) z (Kn.cH s.k z)=ap at*;generalize Kn.cH s.k z=ae at*;generalize s.A 0=kb at*;go_in
  go_wp2_with fail
  refine cN AC.v ?_;go_wp2
  go_ret
  exact .no H.1 ⟨ae,A'.symm, .inl rfl⟩
end
def qG(s:St):List Value:=(List.range 240).map λo=>Kn.pc s (o/12) (o%12)
theorem GJ(s:St):(qG s).length=240:=by simp[qG]
theorem bT.qG{w:bD}{VK:Nat}{s:St}(h:bT w VK s):w.rangeAt (s.A 0) 0 (qG s):=λj v hv=>by
 have hj:j<240:=by have:=(aY.1 hv).1;rwa [GJ]at this
 simp[YtpmmdkcfenjiaaaGreatDoor.qG,hj]at hv;rw[Nat.zero_add,<-hv];have:=h.cP (j/12) (j%12) bG bG;rwa [show j/12*12+j%12=j by omega]at this
theorem Tv(s:St)(x:Nat)(h:x<20):(qG s).toArray.extract (x*12) (x*12+12)=dW (s.A (9+x)) (s.A (29+x)) (s.k.p x):=by
 have hs:(qG s).toArray.size=240:=by simp[qG]
 apply bL;intro i;rw[Array.getElem?_extract];by_cases hi:i<12
 .rw[aJ (by rw[hs];omega),lO _ _ _ i hi];have e:(qG s).toArray[x*12+i]? =bB (Kn.pc s ((x*12+i)/12) ((x*12+i)%12)):=by simp[qG,show x*12+i<240 by omega]
  rw[e,show(x*12+i)/12=x by omega,show(x*12+i)%12=i by omega];rfl
 .rw[aI (by rw[hs];omega),aR (by rw[dM];omega)]
theorem Kf(s:St)(x:Nat)(h:x<20)(w:bD):Sem.run prog (Instr.index 75 (au (qG s).toArray) (aa bf x)) w= .ok (au (dW (s.A (9+x)) (s.A (29+x)) (s.k.p x))) w:=by
 have hu:prog.underlying 75=bB (.array 20 74):=by kernel_rfl
 have hx:=Tv s x h;have h1:(x:Int)<20:=bG
 obtain⟨A,hA⟩:=hU ((qG s).toArray);obtain⟨B,hB⟩:=hU (dW (s.A (9+x)) (s.A (29+x)) (s.k.p x));rw[hA,hB]at hx;rw[hA,hB];simp[Instr.index,Sem.run_bind,run_underlying hu,go_sem,hx];intro c;omega
theorem OB(s:St):(prog.info? 75).map (·.size)=bB (qG s).length:=by rw[GJ];kernel_rfl
theorem Gr.Ua{t:Nat->Gr.Gp}(h:Gr.fH t Wy)(g:Int):∃xs,Gr.Way t g (Gr.kA xs):=by
 by_cases v:Gr.valid t g
 .obtain⟨h0,h1,h2⟩:=v;have:=h g.toNat bG;rw[show((g.toNat:Nat):Int)=g by omega]at this;exact⟨_,this⟩
 .exact⟨[],v⟩
def Kn.Cs(k:Kp)(r:Int):Prop:=r= -1\/∃m:Nat,r=m/\m<20/\m≠0/\Kn.lv k m=bE
section
variable (VK N:Nat)(d:Nat->Nat)(s:St)(w:bD)
theorem BO(g:Int)(h:bT w VK s)(hj:KJ (λ_=>False) N s.k):
  Calls prog 239 #[ai (bB ⟨s.A 0,0,bC⟩),aa bf g] w λe w'=>∃r,e=bw (aa bf r)/\Kn.Cs s.k r/\Below w.heap.size w w':=by
 have hsz:=hJ (OB s);have HR:=hJ h.qG;have H:=hJ (aK h hj);obtain⟨kb,hk⟩:=hU (s.A 0);have HK:=hJ hk;rw[hk]at HR|-;clear h hj hk;go_in
 go_wp2_with (refine wpList_load_mid rfl 75 _ rfl kb 0 rfl (qG s) (.array 20 74) HR.v bH rfl hsz.v ?_)
 go_loopw [5,6,14] (λa b i wr=>∃(k:Nat) (r p:Int),i=aa bf k/\a=aa bf r/\b=aa bf p/\k<=20/\Hid (Kn.Cs s.k r/\Below w.heap.size w wr)) (λ_ _ i _=>20-(intOf i).toNat)
 case atStart=>exact⟨0,-1,0,rfl,rfl,rfl,bG, .inl rfl,aQ _ _⟩
 case round=>
  obtain⟨k,r,p,rfl,rfl,rfl,hk,T⟩:=hrel;by_cases hlt:k<20
  .have hltI:(k:Int)<20:=bG
   have hix:=Kf s k hlt;have P0:PB (wr.alloc (bA #[aa bf 0,aa bf 0,aa bf 0,aa bf 0,ai bC,ai bC,aa bf 0,aa bf 0,aa bf 0,aa bf 0,aa bf 0,aa bf 0] 74)) wr.heap.size 0 0 Pr.no:=heap_alloc_new _ _;have B0:=T.2.alloc T.2.size (bA #[aa bf 0,aa bf 0,aa bf 0,aa bf 0,ai bC,ai bC,aa bf 0,aa bf 0,aa bf 0,aa bf 0,aa bf 0,aa bf 0] 74);have F0:Hid (PB ((wr.alloc (bA #[aa bf 0,aa bf 0,aa bf 0,aa bf 0,ai bC,ai bC,aa bf 0,aa bf 0,aa bf 0,aa bf 0,aa bf 0,aa bf 0] 74)).setCells wr.heap.size 0 (dW (s.A (9+k)) (s.A (29+k)) (s.k.p k)).toList) wr.heap.size (s.A (9+k)) (s.A (29+k)) (s.k.p k)/\Below w.heap.size w ((wr.alloc (bA #[aa bf 0,aa bf 0,aa bf 0,aa bf 0,ai bC,ai bC,aa bf 0,aa bf 0,aa bf 0,aa bf 0,aa bf 0,aa bf 0] 74)).setCells wr.heap.size 0 (dW (s.A (9+k)) (s.A (29+k)) (s.k.p k)).toList)):=hJ ⟨P0.put _ _ _,((bO.refl _ _).setCells _ _).below B0 T.2.size (aH T.2.size (by simp))⟩;have TH:=hJ P0.there;obtain⟨A,hA⟩:=hU (dW (s.A (9+k)) (s.A (29+k)) (s.k.p k));have SZ:Hid ((prog.info? 74).map (·.size)=bB A.size):=hJ (by rw[<-hA,dM];kernel_rfl);have H1:Hid (A.all (·.oneCell')=bE):=hJ (by rw[<-hA];exact qa _ _ _);have zA:=dM (s.A (9+k)) (s.A (29+k)) (s.k.p k);rw[hA]at hix F0 zA;rw[<-zA]at TH;clear hA P0 B0 zA
   go_upto_region 5 with(refine wpList_store_mid rfl 74 _ _ rfl wr.heap.size 0 A rfl rfl TH.v SZ.v H1.v ?_)
   refine cR (λW=>PB W wr.heap.size (s.A (9+k)) (s.A (29+k)) (s.k.p k)/\Below w.heap.size w W) F0.v ?_;intro W1 hW1;have S1:=hJ hW1;clear hW1 F0 TH SZ H1 hix;simp only[Act.put];obtain⟨c,hc⟩:=hU (wr.heap.size);rw[hc]at S1|-;clear hc;have FIN:Hid (∀W r p,Kn.Cs s.k r->Below w.heap.size w W->∃(k':Nat) (r' p':Int),(aa bf ((k:Int)+1)=aa bf k')/\aa bf r=aa bf r'/\aa bf p=aa bf p'/\k'<=20/\Hid (Kn.Cs s.k r'/\Below w.heap.size w W)):=hJ (λW r p m b=>⟨k+1,r,p,by go_num,rfl,rfl,bG,m,b⟩);have IL:=hJ (λj=>jq VK s (W1.drewN j) k ((H.1.below S1.2).drewN j) hlt _ rfl);rw[HK.v]at IL;by_cases k0:k=0
   .have kB:((k:Int)==0)=bE:=by simp;omega
    have kD:decide ((k:Int)=0)=bE:=by simp;omega
    clear IL k0;go_big_quiet (fail)
    go_wp2
    go_roundw
    case rel=>exact FIN.v _ _ _ T.1 (S1.2.trans ((below_drewN _ _).mono S1.2.size))
    case measure=>simp[intOf];omega
   .have kB:((k:Int)==0)=bF:=by simp;omega
    have kD:decide ((k:Int)=0)=bF:=by simp;omega
    cases l:Kn.lv s.k k
    .rw[l]at IL;clear k0 l;go_big_quiet ((go_at_call 60;refine Calls.quiet_of_same (IL.v _)))
     go_wp2
     go_roundw
     case rel=>exact FIN.v _ _ _ T.1 (S1.2.trans ((below_drewN _ _).mono S1.2.size))
     case measure=>simp[intOf];omega
    .have hh:=H.2.lv k hlt (λx=>x) (Kn.dJ.1 l);obtain⟨Wy,hW⟩:=H.2.gr;obtain⟨xs,hx⟩:=Gr.Ua hW.ways (s.k.p k).cJ;have UN:Hid (∀V,Below W1.heap.size W1 V->Calls prog 172 #[ai (bB ⟨s.A 2,0,bC⟩),aa bf (s.k.p k).cJ,aa bf g] V λe w'=>∃b,e=bw (ar b)/\Below W1.heap.size W1 w'):=hJ (λV b=>(Gr.BA (s.A 2) _ g s.k.gr xs V ((H.1.below S1.2).below b).gr hx).mono (by rintro _ w' ⟨rfl,b2⟩;exact⟨_,rfl,b.trans (b2.mono b.size)⟩));have IS:Hid (∀V,Below W1.heap.size W1 V->Calls prog 60 #[ai (bB ⟨s.A 0,0,bC⟩),aa bf k] V λe w'=>e=bw (ar bE)/\w'=V):=hJ (λV b=>jq VK s V k ((H.1.below S1.2).below b) hlt _ l);have C2:Hid (∀V,Below W1.heap.size W1 V->V.cell? ⟨s.A 0,247,bC⟩=bB (ai (bB ⟨s.A 2,0,bC⟩))/\V.cell? ⟨c,2,bC⟩=bB (aa bf (s.k.p k).cJ)):=hJ (λV b=>⟨((H.1.below S1.2).below b).pP,(S1.1.same (b.block _ S1.1.lt)).cell 2 bG⟩);have RE:Hid (∀V,Below W1.heap.size W1 V->V.cell? ⟨c,4,bC⟩=bB (ai (bB ⟨s.A (9+k),0,bC⟩))/\Calls prog 64 #[ai (bB ⟨s.A (9+k),0,bC⟩)] V λe w'=>∃v,e=bw (aa bf v)/\Below W1.heap.size W1 w'):=hJ (λV b=>by
      have K:=(H.1.below S1.2).below b;have q:=(S1.1.same (b.block _ S1.1.lt)).cell 4 bG;refine⟨by rw[q];show bB (Kn.ptr _ (s.k.p k).has)=_;rw[hh];rfl,(pN _ _ _ V (K.me k hlt hh)).mono ?_⟩;rintro _ w' ⟨rfl,b2⟩;exact⟨_,rfl,b.trans (b2.mono b.size)⟩)
     have LM:Hid (Kn.Cs s.k k):=hJ (.inr ⟨k,rfl,hlt,k0,l⟩);have B9:Hid (∀V,Below W1.heap.size W1 V->Below w.heap.size w V):=hJ (λV b=>S1.2.trans (b.mono S1.2.size));rw[HK.v]at IS C2;generalize (s.k.p k).cJ=gp at*;generalize s.A 2=a2 at*;generalize s.A (9+k)=m9 at*;clear IL k0 l hh hW hx;have K0:=hJ (C2.v _ (aQ _ _));obtain⟨y1,y2⟩:=K0.v;go_region_held3 (λw'=>w'.cell? ⟨kb,247,bC⟩=bB (ai (bB ⟨a2,0,bC⟩))/\w'.cell? ⟨c,2,bC⟩=bB (aa bf gp)) (first|exact K0.v|exact C2.v _ B4.v) (
      (first
       |(go_at_call 60;refine cN (IS.v _ (by first|exact aQ _ _|exact(aQ _ _).drew)) ?_)
       |(go_at_call 172;refine(UN.v _ (by first|exact aQ _ _|exact(aQ _ _).drew)).mono ?_;rintro e w4 ⟨bb,rfl,b4⟩;have B4:=hJ b4;clear b4)))
     cases bb
     .go_wp2
      go_roundw
      case rel=>exact FIN.v _ _ _ T.1 (B9.v _ B4.v)
      case measure=>simp[intOf];omega
     .obtain⟨z4,R4⟩:=RE.v _ B4.v;have R4:=hJ R4;go_wp2_with fail
      refine R4.mono ?_;rintro e w5 ⟨v,rfl,b5⟩;have B5:=hJ b5;clear b5 z4;by_cases gt:p<v
      .go_wp2
       go_roundw
       case rel=>exact FIN.v _ _ _ LM.v (B9.v _ B5.v)
       case measure=>simp[intOf];omega
      .go_wp2
       go_roundw
       case rel=>exact FIN.v _ _ _ T.1 (B9.v _ B5.v)
       case measure=>simp[intOf];omega
  .obtain rfl:k=20:=bG
   go_wp2
   go_ret
   exact⟨r,rfl,T.v⟩
end
namespace Kn
def UI(k k':Kp):Prop:=∃m y q:Nat,m<20/\m≠0/\lv k m=bE/\k.sp.of m=y+1/\(k.p m).par=(q:Int)/\lS k m 137 y q k'
def FU:Nat->Kp->Kp->Prop
 |0,k,k'=>k'=k
 |j+1,k,k'=>∃k1,FU j k k1/\UI k1 k'
section
variable {N:Nat}{d:Nat->Nat}{k k':Kp}{n z:Nat}
theorem KH.enc(h:KH N d k)(e:UI k k'):KH N d k':=by
 obtain⟨m,y,q,h1,h2,h3,h4,h5,h6⟩:=e;exact h.end h1 h2 h3 h4 h5 h6
theorem KH.sf(h:KH N d k):∀j {k':Kp},FU j k k'->KH N d k'
 |0,_,e=>by rw[show _=k from e];exact h
 |j+1,_,⟨_,a,b⟩=>(h.sf j a).enc b
theorem Ko(k:Kp)(q m:Nat):((mV k q).p m).st=(k.p m).st/\((mV k q).p m).cJ=(k.p m).cJ:=by
 unfold mV;split
 .unfold ja;by_cases c:m=q
  .subst c;rw[bR];exact⟨rfl,rfl⟩
  .rw[cr _ _ _ _ c];exact⟨rfl,rfl⟩
 .exact⟨rfl,rfl⟩
theorem KH.JX(h:KH N d k)(hn:n<20)(n0:n≠0)(l:lv k n=bE)(ho:k.sp.of n=z+1){q:Nat}(et:lS k n c z q k'):lv k' n=bF/\∀m,m<20->lv k' m=bE->lv k m=bE/\(k'.p m).cJ=(k.p m).cJ:=by
 obtain⟨k1,k3,s1,mt,rfl⟩:=et;have hv:=h.ki.vi;have md:=hv.Aa hn n0 l ho s1 mt;have mq:=hv.mq hn n0 l ho s1 mt;have e:∀m,((mV (gK k3 (je k3 n) (Sp.eV k3.sp (z:Int) 1:Nat)) q).p m).st=(k3.p m).st/\((mV (gK k3 (je k3 n) (Sp.eV k3.sp (z:Int) 1:Nat)) q).p m).cJ=(k3.p m).cJ:=λm=>Ko _ _ _;have nl:lv (mV (gK k3 (je k3 n) (Sp.eV k3.sp (z:Int) 1:Nat)) q) n=bF:=by unfold lv;rw[(e n).1,md.pn.1];rfl
 refine⟨nl,λm hm lm=>?_⟩;rw[(e m).2];by_cases c:m=n
 .subst c;rw[nl]at lm;cases lm
 .have s:=dJ.1 lm;rw[(e m).1]at s;rcases mq.ot m hm c with⟨a,_⟩|⟨a,_⟩
  .rw[a]at s|-;exact⟨dJ.2 s,rfl⟩
  .rw[a]at s;exact aZ s bM
theorem Gx(a:∀m,m<20->lv k' m=bE->lv k m=bE):∀j,j<=20->(fN k' j).length<=(fN k j).length/\(lv k n=bE->lv k' n=bF->n<j->(fN k' j).length<(fN k j).length)
 |0,_=>⟨aL _,λ_ _ h=>aZ h bG⟩
 |j+1,hj=>by
  obtain⟨i1,i2⟩:=Gx a j bG;cases x:lv k' j
  .rw[xv x];cases y:lv k j
   .rw[xv y];exact⟨i1,λh1 h2 h3=>i2 h1 h2 (by rcases Nat.lt_succ_iff_lt_or_eq.1 h3 with c|c;exact c;subst c;rw[y]at h1;cases h1)⟩
   .rw[rA y,List.length_append];exact⟨by simp;omega,λ_ _ _=>by simp;omega⟩
  .have y:=a j bG x;rw[rA x,rA y,List.length_append,List.length_append];exact⟨by simp;omega,λh1 h2 h3=>by
    have:=i2 h1 h2 (by rcases Nat.lt_succ_iff_lt_or_eq.1 h3 with c|c;exact c;subst c;rw[x]at h2;cases h2);simp;omega⟩
def Um:Option Value->Bool
 |some (aa _ q)=>q==1
 |_=>bF
def uW(b:Nat)(W:bD):Nat:=((List.range 20).filter λn=>Um (W.cell? ⟨b,n*12,bC⟩)).length
end
end Kn
theorem bT.uW{w:bD}{VK:Nat}{s:St}(h:bT w VK s):Kn.uW (s.A 0) w=(Kn.fN s.k 20).length:=by
 unfold Kn.uW Kn.fN;rw[List.filter_congr (λn hn=>?_)];rw[h.uB n (by simpa using hn)];show(((s.k.p n).st:Int)==1)=decide ((s.k.p n).st=1);rw[Bool.eq_iff_iff];simp;omega
def Kn.Vn(k:Kp):Prop:=∀g,g<10->(k.gr g).there=bE->(k.gr g).lp= -1/\(k.gr g).lq= -1
def Kn.R3(j:Nat)(k k':Kp):Prop:=Kn.FU j k k'/\(Kn.Vn k->j=0)
theorem Gr.Way.in{t:Nat->Gr.Gp}:∀{L:List Nat} {g:Int},Gr.Way t g L->∀x∈L,(t x).there=bE
 |[],_,_,_,h=>by cases h
 |_::_,_,⟨_,_,a,b⟩,x,h=>by
  rcases List.mem_cons.1 h with rfl|h
  .exact a
  .exact Gr.Way.in b x h
theorem Gr.NG{t:Nat->Gr.Gp}{p q:Int}{y:Fin 10}(h:Gr.ib t Wy p q y=bE):(t y.val).lp≠ -1\/(t y.val).lq≠ -1:=by
 unfold Gr.ib Gr.mO at h;simp only[Bool.or_eq_true,decide_eq_true_eq]at h;exact h.imp (λx=>x.1) (λx=>x.1)
def Kn.yd(k:Kp)(n:Nat)(E:Int)(k':Kp):Prop:=∃j k1,Kn.R3 j k k1/\((Kn.lv k1 n=bE/\(k1.p n).cJ=(k.p n).cJ/\∃Wy,Gr.fH k1.gr Wy/\E=Gr.gY k1.gr Wy (k.p n).cJ 0 1/\k'={k1 with gr:=Gr.gD k1.gr Wy (k.p n).cJ 0 1})\/(E=6/\k'=k1))
section
variable (VK N:Nat)(d:Nat->Nat)(s:St)(w:bD)
theorem KD{t:Nat->Gr.Gp}(b:Nat)(g:Int)(V:bD)(h:Gr.cC V b t)(hW:Gr.fH t Wy)(hS:Gr.Small t):Calls prog 238 #[ai (bB ⟨b,0,bC⟩),aa bf g,aa bf 0,aa bf 1] V λe w'=>∃(f:Int) (l:Bool),e=bw (ao #[aa bf f,ar l])/\(l=bE->∃g,g<10/\(t g).there=bE/\((t g).lp≠ -1\/(t g).lq≠ -1))/\Below V.heap.size V w':=by
 by_cases r:Gr.eC t g 0 1=0
 .obtain⟨n,rfl,hn,_⟩:=Gr.lP r;refine(Gr.NJ b n 0 1 t Wy V h hW hS hn r).mono ?_;rintro _ w' ⟨⟨_,rfl⟩|⟨_,x,_,wy,_,lk,rfl⟩,b⟩
  .exact⟨0,bF,rfl,nofun,b⟩
  .exact⟨_,bE,rfl,λ_=>⟨x,x.2,(hW n hn).in x (List.mem_map_of_mem (by rw[wy];simp)),Gr.NG lk⟩,b⟩
 .refine(Gr.KM b g 0 1 t V h r).mono ?_;rintro _ w' ⟨rfl,b⟩;exact⟨0,bF,rfl,nofun,b⟩
theorem Nu(n:Nat)(hN:N<=900)(h:bT w VK s)(hh:KH N d s.k)(hn:n<20)(l:Kn.lv s.k n=bE):
  Calls prog 184 #[ai (bB ⟨s.A 0,0,bC⟩),aa bf n] w (Kn.Nx VK s w λv k'=>∃E,v=bS E/\Kn.yd s.k n E k'):=by
 have hnI:(n:Int)<20:=bG
 have H:=hJ (aK h (aK hh (aK hN l)));have cg:=h.qj n hn;obtain⟨gp,hg⟩:=hU ((s.k.p n).cJ);obtain⟨kb,hk⟩:=hU (s.A 0);have HK:=hJ (aK hk hg);rw[hg,hk]at cg;rw[hk];go_in
 go_wp2_with fail
 go_loopw [6] (λ_ wr=>∃(j:Nat) (s1:St),Hid (Kn.R3 j s.k s1.k/\bT wr VK s1/\KF s w s1 wr/\KH N d s1.k/\Kn.lv s1.k n=bE/\(s1.k.p n).cJ=gp/\s1.A 0=kb)) (λ_ wr=>Kn.uW kb wr)
 case atStart=>exact⟨0,s,⟨rfl,λ_=>rfl⟩,H.1,KF.refl _ _,H.2.1,H.2.2.2,HK.2,HK.1⟩
 case round=>
  obtain⟨j,s1,T⟩:=hrel;obtain⟨en,K1,F1,kh,ln,eg,ea⟩:=T.v;obtain⟨Wy,hW⟩:=kh.ki.vi.kj.gr;have N9:=H.2.2.1;have LA:=hJ (KD (s1.A 2) gp wr K1.gr hW.ways (hW.small bG));have CH:Hid (∀V,Below wr.heap.size wr V->Calls prog 65 #[ai (bB ⟨s1.A 2,0,bC⟩),aa bf gp,aa bf 0,aa bf 1] V λe w'=>∃E k',e=bw (bS E)/\Kn.yd s.k n E k'/\bT w' VK {s1 with k:=k'}/\KF s w {s1 with k:=k'} w'):=hJ (λV b=>(Gr.nO (s1.A 2) gp 0 1 s1.k.gr Wy V (K1.below b).gr hW.ways (hW.small bG)).mono (by
   rintro _ w' ⟨rfl,u,f⟩;have q:=(K1.below b).j8 u f.sI;exact⟨_,_,rfl,⟨j,s1.k,en, .inl ⟨ln,by rw[eg,HK.2],Wy,hW.ways,by rw[HK.2],by rw[HK.2]⟩⟩,q.1,F1.trans ((KF.below b).trans q.2)⟩))
  have C2:Hid (∀V,Below wr.heap.size wr V->V.cell? ⟨kb,247,bC⟩=bB (ai (bB ⟨s1.A 2,0,bC⟩))):=hJ (λV b=>by rw[<-ea];exact(K1.below b).pP);have c2:=C2.v _ (aQ _ _);generalize s1.A 2=a2 at*;go_wp2_with fail
  refine LA.mono ?_;rintro e w2 ⟨f,lk,rfl,hl,b2⟩;have HL:=hJ hl;cases lk
  .have c2:=C2.v _ b2;go_wp2_with fail
   refine(CH.v _ b2).mono ?_;rintro e w3 ⟨E,k',rfl,S3⟩;have S3:=hJ S3;go_wp2
   go_ret
   exact⟨_,_,rfl,⟨E,rfl,S3.1⟩,S3.2⟩
  .have HY:=hJ (HL.v rfl);have GR:=hJ (BO VK N s1 w2 f (T.2.1.below b2) T.2.2.2.1.ki.vi.kj);rw[T.2.2.2.2.2.2]at GR;go_wp2_with fail
   refine GR.mono ?_;rintro e w3 ⟨r,rfl,mo,b3⟩;have B3:=hJ (b2.trans (b3.mono b2.size));rcases mo with rfl|⟨m,rfl,hm,m0,lm⟩
   .go_wp2
    go_ret
    exact⟨_,s1,rfl,⟨6,rfl,j,s1.k,T.1, .inr ⟨rfl,rfl⟩⟩,T.2.1.below B3.v,T.2.2.1.trans (KF.below B3.v)⟩
   .have kh:=T.2.2.2.1;obtain⟨y,hy⟩:=kh.of hm (by rw[Kn.dJ.1 lm];omega);obtain⟨q,ik,qm,hp⟩:=kh.ki.pr m hm m0 (by rw[Kn.dJ.1 lm];omega);have ED:=hJ (xt VK N d H.2.2.1 s1 w3 m y q 137 (T.2.1.below B3.v) kh.ki.vi hm m0 lm hy ik qm hp (λx hx _ lx hx2=>kh.ki.fi x hx lx hx2));have CO:Hid (∀k',Kn.lS s1.k m 137 y q k'->Kn.R3 (j+1) s.k k'/\KH N d k'/\(Kn.fN k' 20).length<(Kn.fN s1.k 20).length/\(Kn.lv k' n=bE->(k'.p n).cJ=gp)):=hJ (λk' et=>by
     have es:=kh.JX hm m0 lm hy et;refine⟨⟨⟨s1.k,T.1.1,m,y,q,hm,m0,lm,hy,hp,et⟩,λnl=>?_⟩,kh.end hm m0 lm hy hp et,(Kn.Gx (λx hx lx=>(es.2 x hx lx).1) 20 (aL _)).2 lm es.1 hm,λln=>((es.2 n hn ln).2).trans T.2.2.2.2.2.1⟩;obtain⟨g,hg,th,q⟩:=HY.v;have e:=T.1.1;rw[T.1.2 nl]at e;rw[show s1.k=s.k from e]at q th;have:=nl g hg th;omega)
    have mB:((m:Int)== -1)=bF:=by simp
    rw[T.2.2.2.2.2.2]at ED;go_wp2_with fail
    refine ED.mono ?_;rintro e w4 ⟨k',rfl,et,K4,F4⟩;have S4:=hJ (aK (CO.v k' et) (aK K4 (T.2.2.1.trans ((KF.below B3.v).trans F4))));have IL:=hJ (jq VK {s1 with k:=k'} w4 n K4 hn _ rfl);rw[show({s1 with k:=k'}:St).A 0=kb from T.2.2.2.2.2.2]at IL;have ME:Hid (Kn.uW kb w4<Kn.uW kb wr):=hJ (by
     have a:=K4.uW;have b:=T.2.1.uW;rw[show({s1 with k:=k'}:St).A 0=kb from T.2.2.2.2.2.2]at a;rw[T.2.2.2.2.2.2]at b;rw[a,b];exact S4.1.2.2.1)
    go_wp2_with fail
    refine cN IL.v ?_;cases lv:Kn.lv ({s1 with k:=k'}:St).k n
    .clear lv;go_wp2
     go_ret
     exact⟨_,_,rfl,⟨6,rfl,j+1,k',S4.1.1, .inr ⟨rfl,rfl⟩⟩,S4.2⟩
    .have LV:=hJ lv;go_wp2
     go_roundw
     case rel=>exact⟨j+1,{s1 with k:=k'},S4.1.1,S4.2.1,S4.2.2,S4.1.2.1,LV.v,S4.1.2.2.2 LV.v,T.2.2.2.2.2.2⟩
     case measure=>exact ME.v
end
namespace Kn
theorem KH.Pe{k':Kp}(h:KH N d k)(c:yd k n E k'):KH (N+1) d k':=by
 obtain⟨j,k1,⟨e,_⟩,⟨_,_,Wy,hW,_,rfl⟩|⟨_,rfl⟩⟩:=c
 .have g:=h.sf j e;obtain⟨Wz,hz⟩:=g.ki.vi.kj.gr;exact g.gr (Nat.le_succ _) ⟨Wy,ql (xS hz hW) _ _ _ bG bG⟩
 .exact(h.sf j e).more (Nat.le_succ _)
def jP(a:Int)(D:Kp->Nat->Int->Kp->Prop)(k:Kp)(z:Int)(v:Value)(k':Kp):Prop:=
 ∃E,v=bS E/\((0<E/\k'=k)\/∃n:Nat,z=n/\n<20/\lv k n=bE/\((Mv.kR (k.p n).mem a=bF/\D k n E k')\/(Mv.kR (k.p n).mem a=bE/\∃E1 k1,yd k n E1 k1/\((E1≠0/\E=E1/\k'=k1)\/(E1=0/\∃k2,D k1 n E k2/\((E=0/\k'=k2)\/(E≠0/\k'={k2 with gr:=Gr.dG k2.gr (k2.p n).cJ 0 1})))))))
end Kn
def Kn.Jp(VK:Nat)(s:St)(w:bD):Prop:=∀V (n:Nat),Below w.heap.size w V->n<20->Kn.lv s.k n=bE->Calls prog 184 #[ai (bB ⟨s.A 0,0,bC⟩),aa bf n] V (Kn.Nx VK s V λv k'=>∃E,v=bS E/\Kn.yd s.k n E k')
theorem lH(h:bS E=az):E=0:=by
 by_cases c:E=0
 .exact c
 .rw[bP c]at h;cases h
section
variable (VK N:Nat)(d:Nat->Nat)(s:St)(w:bD)
theorem Fh(z a:Int)(c1 c2:Nat)(D:Kp->Nat->Int->Kp->Prop)(KG:bD->St->Prop)(P:Nat->bD->Kp->Prop)(cp:Kn.Jp VK s w)(hN:N<900)(h:bT w VK s)(hh:KH N d s.k)(hD:∀k n E k',D k n E k'->k'.gr=k.gr/\(k'.p n).cJ=(k.p n).cJ)(hG:∀V s1 W s2,KG V s1->KF s1 V s2 W->KG W s2)(hG0:∀V s1,KF s w s1 V->KG V s1)
  (DO:∀V s1 n,bT V VK s1->KF s w s1 V->KH (N+1) d s1.k->n<20->Kn.lv s1.k n=bE->Calls prog 107 #[ai (bB ⟨s1.A (9+n),0,bC⟩),ai (bB ⟨c1,0,bC⟩),ai (bB ⟨c2,0,bC⟩)] V λe w'=>∃E k',e=bw (bS E)/\D s1.k n E k'/\bT w' VK {s1 with k:=k'}/\KG w' {s1 with k:=k'}/\(E=0->P n w' k')):
  Calls prog 106 #[ai (bB ⟨s.A 0,0,bC⟩),aa bf z,aa bf a,ar bF, .func (.func 107) #[] #[ai (bB ⟨c1,0,bC⟩),ai (bB ⟨c2,0,bC⟩)]] w λe w'=>∃v s',e=bw v/\Kn.jP a D s.k z v s'.k/\bT w' VK s'/\KG w' s'/\(v=az->P z.toNat w' s'.k):=by
 have AC:=hJ (dX VK s w z h);have H:=hJ (aK h (aK hh hN));have HG:=hJ (aK hG (aK hG0 hD));have NO:Hid (∀W E,Below w.heap.size w W->0<E->∃v s',bw (bS E)=bw v/\Kn.jP a D s.k z v s'.k/\bT W VK s'/\KG W s'/\(v=az->P z.toNat W s'.k)):=hJ (λW E b e=>⟨_,s,rfl,⟨E,rfl, .inl ⟨e,rfl⟩⟩,h.below b,hG0 _ _ (KF.below b),λc=>aZ (lH c) bG⟩);have DO:=hJ DO;have C0:=hJ cp;by_cases A:Kn.cH s.k z=0
 .obtain⟨n,rfl,hn,hl⟩:=Kn.fY A;have hs:=hh.ki.vi.kj.lv n hn (λx=>x) (Kn.dJ.1 hl);have HL:=hJ (aK hl hs);have C4:Hid (∀V,Below w.heap.size w V->V.cell? ⟨s.A 0,n*12+4,bC⟩=bB (ai (bB ⟨s.A (9+n),0,bC⟩))):=hJ (λV b=>(h.below b).rM n hn hs);have c4:=C4.v _ (aQ _ _);have MY:=hJ (oP (s.A (9+n)) (s.A 4) a bF (s.k.p n).mem w (h.me n hn hs));obtain⟨kb,hk⟩:=hU (s.A 0);obtain⟨m9,h9⟩:=hU (s.A (9+n));have HK:=hJ (aK hk h9);rw[A,bN,iG]at AC;rw[hk]at AC C4 c4|-;rw[h9]at C4 c4 MY;go_in
  go_wp2_with fail
  refine cN AC.v ?_;go_wp2_with fail
  refine sC MY.v ?_;rintro w1 b1;cases Mv.jK (s.k.p n).mem a bF
  .go_wp2
   go_ret
   exact NO.v _ 10 b1 bM
  .have WN:=hJ (zv (s.A (9+n)) (s.A 4) a (s.k.p n).mem w1 ((H.1.below b1).me n hn HL.2));have c4:=C4.v _ b1;rw[HK.2]at WN;go_wp2_with fail
   refine sC WN.v ?_;rintro w2 b2;have b2:=b1.trans (b2.mono b1.size);cases hw:Mv.kR (s.k.p n).mem a
   all_goals have HW:=hJ hw
   .have D2:=hJ (DO.v w2 s n (H.1.below b2) (KF.below b2) (H.2.1.more (Nat.le_succ _)) hn HL.1);have c4:=C4.v _ b2;rw[HK.2]at D2;go_wp2_with fail
    refine D2.mono ?_;rintro e w3 ⟨E,k',rfl,S3⟩;have S3:=hJ S3;go_wp2
    go_ret
    exact⟨_,_,rfl,⟨E,rfl, .inr ⟨n,rfl,hn,HL.1, .inl ⟨HW.v,S3.1⟩⟩⟩,S3.2.1,S3.2.2.1,λc=>S3.2.2.2 (lH c)⟩
   .have CP:=hJ (C0.v w2 n b2 hn HL.1);rw[HK.1]at CP;go_wp2_with fail
    refine CP.mono ?_;rintro e w3 ⟨v,s1,rfl,⟨E1,rfl,cp⟩,K3,F3⟩;have S3:=hJ (aK cp (aK K3 ((KF.below b2).trans F3)));by_cases e1:E1=0
    .subst e1;rw[bN];have ln:Kn.lv s1.k n=bE:=by
      obtain⟨j,k1,_,⟨l1,_,Wy,_,_,e⟩|⟨e,_⟩⟩:=S3.1
      .rw[e];exact l1
      .cases e
     have kh:=H.2.1.Pe S3.1;have hs:=kh.ki.vi.kj.lv n hn (λx=>x) (Kn.dJ.1 ln);have c4:=S3.2.1.rM n hn hs;have D2:=hJ (DO.v w3 s1 n S3.2.1 S3.2.2 kh hn ln);have ea:=S3.2.2.a0.trans HK.1;obtain⟨Wy,hW⟩:=kh.ki.vi.kj.gr;have UC:Hid (∀V W k2 E,D s1.k n E k2->E≠0->bT V VK {s1 with k:=k2}->KG V {s1 with k:=k2}->Below V.heap.size V W->Calls prog 67 #[ai (bB ⟨s1.A 2,0,bC⟩),aa bf (k2.p n).cJ,aa bf 0,aa bf 1] W λe w'=>(∃u,e=bw (bS u))/\∃v s',bw (bS E)=bw v/\Kn.jP a D s.k n v s'.k/\bT w' VK s'/\KG w' s'/\(v=az->P (n:Int).toNat w' s'.k)):=hJ (λV W k2 E dd e0 kk kg b=>by
      have g:=(HG.2.2 _ _ _ _ dd).1;refine sC (Gr.iS (s1.A 2) _ 0 1 k2.gr W (kk.below b).gr (by rw[g];exact hW.small (by have:=H.2.2;omega))) ?_;rintro w' ⟨u,f⟩;have q:=(kk.below b).j8 u f.sI;exact⟨⟨_,rfl⟩,_,_,rfl,⟨E,rfl, .inr ⟨n,rfl,hn,HL.1, .inr ⟨HW.v,0,s1.k,S3.1, .inr ⟨rfl,k2,dd, .inr ⟨e0,rfl⟩⟩⟩⟩⟩,q.1,HG.1 _ _ _ _ kg ((KF.below b).trans q.2),λc=>aZ (lH c) e0⟩)
     rw[ea]at c4;generalize h9:s1.A (9+n)=m10 at c4 D2;have EA:=hJ ea;go_wp2_with fail
     refine D2.mono ?_;rintro e w4 ⟨E,k2,rfl,S4⟩;have S4:=hJ S4;by_cases e0:E=0
     .subst e0;rw[bN];go_wp2
      go_ret
      exact⟨_,_,rfl,⟨0,rfl, .inr ⟨n,rfl,hn,HL.1, .inr ⟨HW.v,0,s1.k,S3.1, .inr ⟨rfl,k2,S4.1, .inl ⟨rfl,rfl⟩⟩⟩⟩⟩,S4.2.1,S4.2.2.1,λ_=>S4.2.2.2 trivial⟩
     .have U4:=hJ (λW b=>UC.v w4 W k2 E S4.1 e0 S4.2.1 S4.2.2.1 b);have g2:=S4.2.1.pP;have g3:=S4.2.1.qj n hn;rw[show({s1 with k:=k2}:St).A 0=kb from EA.v]at g2 g3;rw[show({s1 with k:=k2}:St).A 2=s1.A 2 from rfl]at g2;rw[show({s1 with k:=k2}:St).k=k2 from rfl]at g3;have EE:=hJ (bP e0);rw[bP e0]at U4|-;generalize (k2.p n).cJ=gg at*;generalize s1.A 2=a2 at*;go_upto_region 13 with fail
      go_region_with ((go_at_call 67;refine(U4.v _ (by first|exact aQ _ _|exact(aQ _ _).drew)).mono ?_;rintro e w5 ⟨⟨u,rfl⟩,S5⟩;have S5:=hJ S5))
      all_goals
       go_wp2
       go_ret
       exact S5.v
    .have EE:=hJ (aK e1 (bP e1));rw[bP e1];go_wp2
     go_ret
     exact⟨_,s1,rfl,⟨E1,EE.2.symm, .inr ⟨n,rfl,hn,HL.1, .inr ⟨HW.v,E1,s1.k,S3.1, .inl ⟨EE.1,rfl,rfl⟩⟩⟩⟩,S3.2.1,HG.2.1 _ _ S3.2.2,λc=>aZ (lH (EE.2.trans c)) EE.1⟩
 .have N1:=hJ (NO.v w _ (aQ _ _) (Kn.sR A));rw[bP A]at AC N1;generalize gW (s.A 0) z (Kn.cH s.k z)=ap at*;generalize Kn.cH s.k z=ae at*;generalize s.A 0=kb at*;go_in
  go_wp2_with fail
  refine cN AC.v ?_;go_wp2
  go_ret
  exact N1.v
theorem Fj(z a:Int)(c1 c2:Nat)(D:Kp->Nat->Int->Kp->Prop)(KG:bD->St->Prop)(P:Nat->bD->Kp->Prop)(cp:Kn.Jp VK s w)(hN:N<900)(h:bT w VK s)(hh:KH N d s.k)(hD:∀k n E k',D k n E k'->k'.gr=k.gr/\(k'.p n).cJ=(k.p n).cJ)(hG:∀V s1 W s2,KG V s1->KF s1 V s2 W->KG W s2)(hG0:∀V s1,KF s w s1 V->KG V s1)
  (DO:∀V s1 n,bT V VK s1->KF s w s1 V->KH (N+1) d s1.k->n<20->Kn.lv s1.k n=bE->Calls prog 109 #[ai (bB ⟨s1.A (9+n),0,bC⟩),ai (bB ⟨c1,0,bC⟩),ai (bB ⟨c2,0,bC⟩)] V λe w'=>∃E k',e=bw (bS E)/\D s1.k n E k'/\bT w' VK {s1 with k:=k'}/\KG w' {s1 with k:=k'}/\(E=0->P n w' k')):
  Calls prog 106 #[ai (bB ⟨s.A 0,0,bC⟩),aa bf z,aa bf a,ar bE, .func (.func 109) #[] #[ai (bB ⟨c1,0,bC⟩),ai (bB ⟨c2,0,bC⟩)]] w λe w'=>∃v s',e=bw v/\Kn.jP a D s.k z v s'.k/\bT w' VK s'/\KG w' s'/\(v=az->P z.toNat w' s'.k):=by
 have AC:=hJ (dX VK s w z h);have H:=hJ (aK h (aK hh hN));have HG:=hJ (aK hG (aK hG0 hD));have NO:Hid (∀W E,Below w.heap.size w W->0<E->∃v s',bw (bS E)=bw v/\Kn.jP a D s.k z v s'.k/\bT W VK s'/\KG W s'/\(v=az->P z.toNat W s'.k)):=hJ (λW E b e=>⟨_,s,rfl,⟨E,rfl, .inl ⟨e,rfl⟩⟩,h.below b,hG0 _ _ (KF.below b),λc=>aZ (lH c) bG⟩);have DO:=hJ DO;have C0:=hJ cp;by_cases A:Kn.cH s.k z=0
 .obtain⟨n,rfl,hn,hl⟩:=Kn.fY A;have hs:=hh.ki.vi.kj.lv n hn (λx=>x) (Kn.dJ.1 hl);have HL:=hJ (aK hl hs);have C4:Hid (∀V,Below w.heap.size w V->V.cell? ⟨s.A 0,n*12+4,bC⟩=bB (ai (bB ⟨s.A (9+n),0,bC⟩))):=hJ (λV b=>(h.below b).rM n hn hs);have c4:=C4.v _ (aQ _ _);have MY:=hJ (oP (s.A (9+n)) (s.A 4) a bE (s.k.p n).mem w (h.me n hn hs));obtain⟨kb,hk⟩:=hU (s.A 0);obtain⟨m9,h9⟩:=hU (s.A (9+n));have HK:=hJ (aK hk h9);rw[A,bN,iG]at AC;rw[hk]at AC C4 c4|-;rw[h9]at C4 c4 MY;go_in
  go_wp2_with fail
  refine cN AC.v ?_;go_wp2_with fail
  refine sC MY.v ?_;rintro w1 b1;cases Mv.jK (s.k.p n).mem a bE
  .go_wp2
   go_ret
   exact NO.v _ 10 b1 bM
  .have WN:=hJ (zv (s.A (9+n)) (s.A 4) a (s.k.p n).mem w1 ((H.1.below b1).me n hn HL.2));have c4:=C4.v _ b1;rw[HK.2]at WN;go_wp2_with fail
   refine sC WN.v ?_;rintro w2 b2;have b2:=b1.trans (b2.mono b1.size);cases hw:Mv.kR (s.k.p n).mem a
   all_goals have HW:=hJ hw
   .have D2:=hJ (DO.v w2 s n (H.1.below b2) (KF.below b2) (H.2.1.more (Nat.le_succ _)) hn HL.1);have c4:=C4.v _ b2;rw[HK.2]at D2;go_wp2_with fail
    refine D2.mono ?_;rintro e w3 ⟨E,k',rfl,S3⟩;have S3:=hJ S3;go_wp2
    go_ret
    exact⟨_,_,rfl,⟨E,rfl, .inr ⟨n,rfl,hn,HL.1, .inl ⟨HW.v,S3.1⟩⟩⟩,S3.2.1,S3.2.2.1,λc=>S3.2.2.2 (lH c)⟩
   .have CP:=hJ (C0.v w2 n b2 hn HL.1);rw[HK.1]at CP;go_wp2_with fail
    refine CP.mono ?_;rintro e w3 ⟨v,s1,rfl,⟨E1,rfl,cp⟩,K3,F3⟩;have S3:=hJ (aK cp (aK K3 ((KF.below b2).trans F3)));by_cases e1:E1=0
    .subst e1;rw[bN];have ln:Kn.lv s1.k n=bE:=by
      obtain⟨j,k1,_,⟨l1,_,Wy,_,_,e⟩|⟨e,_⟩⟩:=S3.1
      .rw[e];exact l1
      .cases e
     have kh:=H.2.1.Pe S3.1;have hs:=kh.ki.vi.kj.lv n hn (λx=>x) (Kn.dJ.1 ln);have c4:=S3.2.1.rM n hn hs;have D2:=hJ (DO.v w3 s1 n S3.2.1 S3.2.2 kh hn ln);have ea:=S3.2.2.a0.trans HK.1;obtain⟨Wy,hW⟩:=kh.ki.vi.kj.gr;have UC:Hid (∀V W k2 E,D s1.k n E k2->E≠0->bT V VK {s1 with k:=k2}->KG V {s1 with k:=k2}->Below V.heap.size V W->Calls prog 67 #[ai (bB ⟨s1.A 2,0,bC⟩),aa bf (k2.p n).cJ,aa bf 0,aa bf 1] W λe w'=>(∃u,e=bw (bS u))/\∃v s',bw (bS E)=bw v/\Kn.jP a D s.k n v s'.k/\bT w' VK s'/\KG w' s'/\(v=az->P (n:Int).toNat w' s'.k)):=hJ (λV W k2 E dd e0 kk kg b=>by
      have g:=(HG.2.2 _ _ _ _ dd).1;refine sC (Gr.iS (s1.A 2) _ 0 1 k2.gr W (kk.below b).gr (by rw[g];exact hW.small (by have:=H.2.2;omega))) ?_;rintro w' ⟨u,f⟩;have q:=(kk.below b).j8 u f.sI;exact⟨⟨_,rfl⟩,_,_,rfl,⟨E,rfl, .inr ⟨n,rfl,hn,HL.1, .inr ⟨HW.v,0,s1.k,S3.1, .inr ⟨rfl,k2,dd, .inr ⟨e0,rfl⟩⟩⟩⟩⟩,q.1,HG.1 _ _ _ _ kg ((KF.below b).trans q.2),λc=>aZ (lH c) e0⟩)
     rw[ea]at c4;generalize h9:s1.A (9+n)=m10 at c4 D2;have EA:=hJ ea;go_wp2_with fail
     refine D2.mono ?_;rintro e w4 ⟨E,k2,rfl,S4⟩;have S4:=hJ S4;by_cases e0:E=0
     .subst e0;rw[bN];go_wp2
      go_ret
      exact⟨_,_,rfl,⟨0,rfl, .inr ⟨n,rfl,hn,HL.1, .inr ⟨HW.v,0,s1.k,S3.1, .inr ⟨rfl,k2,S4.1, .inl ⟨rfl,rfl⟩⟩⟩⟩⟩,S4.2.1,S4.2.2.1,λ_=>S4.2.2.2 trivial⟩
     .have U4:=hJ (λW b=>UC.v w4 W k2 E S4.1 e0 S4.2.1 S4.2.2.1 b);have g2:=S4.2.1.pP;have g3:=S4.2.1.qj n hn;rw[show({s1 with k:=k2}:St).A 0=kb from EA.v]at g2 g3;rw[show({s1 with k:=k2}:St).A 2=s1.A 2 from rfl]at g2;rw[show({s1 with k:=k2}:St).k=k2 from rfl]at g3;have EE:=hJ (bP e0);rw[bP e0]at U4|-;generalize (k2.p n).cJ=gg at*;generalize s1.A 2=a2 at*;go_upto_region 13 with fail
      go_region_with ((go_at_call 67;refine(U4.v _ (by first|exact aQ _ _|exact(aQ _ _).drew)).mono ?_;rintro e w5 ⟨⟨u,rfl⟩,S5⟩;have S5:=hJ S5))
      all_goals
       go_wp2
       go_ret
       exact S5.v
    .have EE:=hJ (aK e1 (bP e1));rw[bP e1];go_wp2
     go_ret
     exact⟨_,s1,rfl,⟨E1,EE.2.symm, .inr ⟨n,rfl,hn,HL.1, .inr ⟨HW.v,E1,s1.k,S3.1, .inl ⟨EE.1,rfl,rfl⟩⟩⟩⟩,S3.2.1,HG.2.1 _ _ S3.2.2,λc=>aZ (lH (EE.2.trans c)) EE.1⟩
 .have N1:=hJ (NO.v w _ (aQ _ _) (Kn.sR A));rw[bP A]at AC N1;generalize gW (s.A 0) z (Kn.cH s.k z)=ap at*;generalize Kn.cH s.k z=ae at*;generalize s.A 0=kb at*;go_in
  go_wp2_with fail
  refine cN AC.v ?_;go_wp2
  go_ret
  exact N1.v
end
def Kn.wW(a:Int)(k:Kp)(n:Nat)(E:Int)(k':Kp):Prop:=∃g m b,Mv.kG (k.p n).mem k.bk a bF E g m b/\k'=Kn.cV k n m b
def Kn.vP(a u:Int)(k:Kp)(n:Nat)(E:Int)(k':Kp):Prop:=∃g m b,Mv.kG (k.p n).mem k.bk a bE E g m b/\k'=Kn.cV k n m (if E=0 then Mv.GU b g (a.toNat%8) u else b)
def Kn.jy(k:Kp)(n a:Nat):Int:=if(k.p n).mem.fr (a/8)=0 then 0 else k.bk.dc ((k.p n).mem.fr (a/8)-1) (a%8)
theorem Mv.kG.fr{m m':Me}{k k':Bk}{z:Int}{wr:Bool}{g:Nat}(t:Mv.kG m k z wr 0 g m' k'):m'.fr (z.toNat/8)=g+1:=by
 rcases t with⟨_,h,_⟩|⟨_,h,_,_,rfl,rfl,rfl⟩|⟨_,_,_,_,⟨h,_⟩|⟨_,rfl,_⟩⟩
 .exact aZ h bM
 .omega
 .exact aZ rfl h
 .simp[iJ]
theorem Kn.Qk{g:Nat}{wr:Bool}{b:Bk}(t:Mv.kG (k.p n).mem k.bk z wr 0 g m b)(c:Bk):Kn.jy (Kn.cV k n m c) n z.toNat=c.dc g (z.toNat%8):=by
 unfold Kn.jy;rw[Kn.jg];show(if m.fr (z.toNat/8)=0 then 0 else c.dc (m.fr (z.toNat/8)-1) (z.toNat%8))=_;rw[t.fr,nJ,aP]
theorem Kn.GD(k:Kp)(n:Nat)(m:Me)(b:Bk):(Kn.cV k n m b).gr=k.gr/\((Kn.cV k n m b).p n).cJ=(k.p n).cJ:=⟨rfl,by rw[Kn.jg]⟩
section
variable (VK N:Nat)(d:Nat->Nat)(s:St)(w:bD)
theorem Ir(n c1 c2:Nat)(a:Int)(h:bT w VK s)(hh:KH N d s.k)(hn:n<20)(l:Kn.lv s.k n=bE)(x1:w.cell? ⟨c1,0,bC⟩=bB (aa bf a))(x2:∃u,w.heap[c2]? =bB (bA #[aa bh u] 5 (0,0)))(nk:¬KB s c2):
  Calls prog 107 #[ai (bB ⟨s.A (9+n),0,bC⟩),ai (bB ⟨c1,0,bC⟩),ai (bB ⟨c2,0,bC⟩)] w λe w'=>∃E k',e=bw (bS E)/\Kn.wW a s.k n E k'/\bT w' VK {s with k:=k'}/\(∃W,KF s w {s with k:=k'} W/\bO c2 W w')/\∃u,w'.heap[c2]? =bB (bA #[aa bh u] 5 (0,0))/\(E=0->u=Kn.jy k' n a.toNat):=by
 have hs:=hh.ki.vi.kj.lv n hn (λx=>x) (Kn.dJ.1 l);obtain⟨u,hu⟩:=x2;have LD:Hid (Calls prog 108 #[ai (bB ⟨s.A (9+n),0,bC⟩),aa bf a] w λe w'=>∃(v E:Int) (k':Kp),e=bw (ao #[aa bh v,bS E])/\Kn.wW a s.k n E k'/\bT w' VK {s with k:=k'}/\KF s w {s with k:=k'} w'/\w'.heap[c2]? =w.heap[c2]? /\(E=0->v=Kn.jy k' n a.toNat)):=hJ ((Mb _ _ _ a _ _ w (h.ub hn hs) (hh.ki.vi.kj.me.Sv hn)).mono (by
  rintro _ w' ⟨E,g,m,b,rfl,t,u1,f,_⟩;have q:=h.yX hn hs u1 f;exact⟨_,E,_,rfl,⟨g,m,b,t,rfl⟩,q.1,q.2,q.2.jl (aX.1 hu).1 nk,λe=>by subst e;rw[aJ rfl];exact(Kn.Qk t _).symm⟩))
 generalize s.A (9+n)=m9 at*;have H:=hJ (aK nk hu);go_in
 go_wp2_with fail
 refine LD.mono ?_;rintro e w1 ⟨v,E,k',rfl,S1⟩;have S1:=hJ S1;have hu:=S1.2.2.2.1.trans H.2;have y:w1.cell? ⟨c2,0,bC⟩=bB (aa bh u):=by rw[cA hu];rfl
 have fz:=cL hu;have FI:Hid (bT (w1.setCell ⟨c2,0,bC⟩ (aa bh v)) VK {s with k:=k'}/\(∃W,KF s w {s with k:=k'} W/\bO c2 W (w1.setCell ⟨c2,0,bC⟩ (aa bh v)))/\∃u,(w1.setCell ⟨c2,0,bC⟩ (aa bh v)).heap[c2]? =bB (bA #[aa bh u] 5 (0,0))/\(E=0->u=Kn.jy k' n a.toNat)):=hJ (by
  have f:bO c2 w1 (w1.setCell ⟨c2,0,bC⟩ (aa bh v)):=(bO.refl _ _).setCell _ _;refine⟨S1.2.1.fresh f (S1.2.2.1.apart (aX.1 H.2).1 H.1),⟨w1,S1.2.2.1,f⟩,v,?_,S1.2.2.2.2⟩;rw[cT hu 0];rfl)
 go_wp2
 go_ret
 exact⟨E,k',rfl,S1.1,FI.v⟩
def Kn.Vm(w:bD)(s:St)(c:Nat)(V:bD)(s1:St):Prop:=KF s w s1 V/\(∃u,V.heap[c]? =bB (bA #[aa bh u] 5 (0,0)))/\¬KB s1 c
theorem Kr(z a:Int)(cp:Kn.Jp VK s w)(hN:N<900)(h:bT w VK s)(hh:KH N d s.k):
  Calls prog 47 #[ai (bB ⟨s.A 0,0,bC⟩),aa bf z,aa bf a] w (Kn.Nx VK s w λv k'=>∃(u:Int) (x:Value),v=ao #[aa bh u,x]/\Kn.jP a (Kn.wW a) s.k z x k'/\(x=az->u=Kn.jy k' z.toNat a.toNat)):=by
 have B0:=((aQ w.heap.size w).alloc (aL _) (bA #[aa bf a] 3)).alloc (by simp) (bA #[aa bh 0] 5);have h0:((w.alloc (bA #[aa bf a] 3)).alloc (bA #[aa bh 0] 5)).heap[w.heap.size]? =bB (bA #[aa bf a] 3 (0,0)):=
  (((aQ _ _).alloc (aL _) _).block w.heap.size (by simp)).trans (heap_alloc_new _ _)
 have h1:((w.alloc (bA #[aa bf a] 3)).alloc (bA #[aa bh 0] 5)).heap[w.heap.size+1]? =bB (bA #[aa bh 0] 5 (0,0)):=by
  have:=heap_alloc_new (w.alloc (bA #[aa bf a] 3)) (bA #[aa bh 0] 5);rw[show(w.alloc (bA #[aa bf a] 3)).heap.size=w.heap.size+1 by simp]at this;exact this
 have TO:Hid (∀W,(w.alloc (bA #[aa bf a] 3)).alloc (bA #[aa bh 0] 5)=W->_):=hJ (λW e=>by
  rw[e]at B0 h0 h1;exact Fh VK N d s W z a w.heap.size (w.heap.size+1) (Kn.wW a) (Kn.Vm w s (w.heap.size+1)) (λn W k'=>∃u,W.heap[w.heap.size+1]? =bB (bA #[aa bh u] 5 (0,0))/\u=Kn.jy k' n a.toNat) (λV n b hn l=>cp V n (B0.trans (b.mono B0.size)) hn l) hN (h.below B0) hh (λk n E k'=>by rintro⟨_,_,_,_,rfl⟩;exact Kn.GD _ _ _ _)
   (λV s1 W s2 g f=>by
    obtain⟨g1,⟨u,g2⟩,g3⟩:=g;have l:=(aX.1 g2).1;exact⟨g1.trans f,⟨u,(f.jl l g3).trans g2⟩,f.apart l g3⟩)
   (λV s1 f=>⟨(KF.below B0).trans f,⟨0,(f.jl (aX.1 h1).1 (h.iq bG)).trans h1⟩,f.apart (aX.1 h1).1 (h.iq bG)⟩)
   (λV s1 n K F kh hn ln=>by
    have l1:=(aX.1 h1).1;have nk:=h.iq (rb:=w.heap.size+1) bG;refine(Ir VK (N+1) d s1 V n _ _ a K kh hn ln (by rw[aV (F.jl (aX.1 h0).1 (h.iq (aL _))),cA h0];rfl) ⟨0,(F.jl l1 nk).trans h1⟩ (F.apart l1 nk)).mono ?_;rintro _ w' ⟨E,k',rfl,ld,kk,⟨W2,f,fr⟩,u,hu,hb⟩;exact⟨E,k',rfl,ld,kk,⟨((KF.below B0).trans (F.trans f)).fresh fr bG,⟨u,hu⟩,f.apart (aD l1 F.ie.size) (F.apart l1 nk)⟩,λe=>⟨u,hu,hb e⟩⟩))
 generalize s.A 0=kb at*;go_in
 go_wp2_with fail
 refine(TO.v _ rfl).mono ?_;rintro e w1 ⟨x,s',rfl,t,k1,⟨g1,⟨u,hu⟩,g3⟩,pp⟩;have S1:Hid ((Kn.jP a (Kn.wW a) s.k z x s'.k/\(x=az->u=Kn.jy s'.k z.toNat a.toNat))/\bT w1 VK s'/\KF s w s' w1):=hJ ⟨⟨t,λe=>by
  obtain⟨u',h1,h2⟩:=pp e;rw[hu]at h1;simp at h1;rw[h1];exact h2⟩,k1,g1⟩
 have y:w1.cell? ⟨w.heap.size+1,0,bC⟩=bB (aa bh u):=by rw[cA hu];rfl
 go_wp2
 go_ret2
 exact⟨_,s',rfl,⟨u,x,rfl,S1.1.1,S1.1.2⟩,S1.2⟩
theorem II(z a u:Int)(cp:Kn.Jp VK s w)(hN:N<900)(h:bT w VK s)(hh:KH N d s.k):
  Calls prog 48 #[ai (bB ⟨s.A 0,0,bC⟩),aa bf z,aa bf a,aa bh u] w (Kn.Nx VK s w (Kn.jP a (Kn.vP a u) s.k z)):=by
 have B0:=((aQ w.heap.size w).alloc (aL _) (bA #[aa bf a] 3)).alloc (by simp) (bA #[aa bh u] 5);have h0:((w.alloc (bA #[aa bf a] 3)).alloc (bA #[aa bh u] 5)).heap[w.heap.size]? =bB (bA #[aa bf a] 3 (0,0)):=
  (((aQ _ _).alloc (aL _) _).block w.heap.size (by simp)).trans (heap_alloc_new _ _)
 have h1:((w.alloc (bA #[aa bf a] 3)).alloc (bA #[aa bh u] 5)).heap[w.heap.size+1]? =bB (bA #[aa bh u] 5 (0,0)):=by
  have:=heap_alloc_new (w.alloc (bA #[aa bf a] 3)) (bA #[aa bh u] 5);rw[show(w.alloc (bA #[aa bf a] 3)).heap.size=w.heap.size+1 by simp]at this;exact this
 have TO:Hid (∀W,(w.alloc (bA #[aa bf a] 3)).alloc (bA #[aa bh u] 5)=W->_):=hJ (λW e=>by
  rw[e]at B0 h0 h1;exact Fj VK N d s W z a w.heap.size (w.heap.size+1) (Kn.vP a u) (λV s1=>KF s w s1 V) (λ_ _ _=>True) (λV n b hn l=>cp V n (B0.trans (b.mono B0.size)) hn l) hN (h.below B0) hh (λk n E k'=>by rintro⟨_,_,_,_,rfl⟩;exact Kn.GD _ _ _ _)
   (λV s1 W s2 g f=>g.trans f) (λV s1 f=>(KF.below B0).trans f)
   (λV s1 n K F kh hn ln=>by
    have hs:=kh.ki.vi.kj.lv n hn (λx=>x) (Kn.dJ.1 ln);have x0:V.cell? ⟨w.heap.size,0,bC⟩=bB (aa bf a):=by rw[aV (F.jl (aX.1 h0).1 (h.iq (aL _))),cA h0];rfl
    have x1:V.cell? ⟨w.heap.size+1,0,bC⟩=bB (aa bh u):=by rw[aV (F.jl (aX.1 h1).1 (h.iq (rb:=w.heap.size+1) bG)),cA h1];rfl
    have ST:Hid (Calls prog 110 #[ai (bB ⟨s1.A (9+n),0,bC⟩),aa bf a,aa bh u] V λe w'=>∃E k',e=bw (bS E)/\Kn.vP a u s1.k n E k'/\bT w' VK {s1 with k:=k'}/\KF s w {s1 with k:=k'} w'):=hJ ((Jj _ _ _ a u _ _ V (K.ub hn hs) (kh.ki.vi.kj.me.Sv hn)).mono (by
     rintro _ w' ⟨E,g,m,b,rfl,t,u1,f,_⟩;have q:=K.yX hn hs u1 f;exact⟨E,_,rfl,⟨g,m,b,t,rfl⟩,q.1,(KF.below B0).trans (F.trans q.2)⟩))
    generalize s1.A (9+n)=m9 at*;generalize w.heap.size=c1 at*;go_in
    go_wp2_with fail
    refine ST.mono ?_;rintro e w1 ⟨E,k',rfl,S1⟩;have S1:=hJ S1;go_wp2
    go_ret
    exact⟨E,k',rfl,S1.1,S1.2.1,S1.2.2,λ_=>trivial⟩))
 generalize s.A 0=kb at*;go_in
 go_wp2_with fail
 refine(TO.v _ rfl).mono ?_;rintro e w1 ⟨x,s',rfl,S1⟩;have S1:=hJ S1;go_wp2
 go_ret
 exact⟨_,s',rfl,S1.1,S1.2.1,S1.2.2.1⟩
theorem Dl(hN:N<=900)(h:bT w VK s)(hh:KH N d s.k):Kn.Jp VK s w:=λV n b hn l=>Nu VK N d s V n hN (h.below b) hh hn l
end
theorem yw{W w1:bD}(hb:Below W.heap.size W w1):(∀b o,b<W.heap.size->w1.cell? ⟨b,o,bC⟩=W.cell? ⟨b,o,bC⟩)/\(∀b o,b<W.heap.size->w1.frozen? ⟨b,o,bC⟩=W.frozen? ⟨b,o,bC⟩):=⟨λb o h=>hb.cell (p:=⟨b,o,bC⟩) h,λb o h=>hb.frozen (p:=⟨b,o,bC⟩) h⟩
section
variable {VK N y:Nat}{s:St}{w:bD}
theorem Ah(h:bT w VK s)(hj:KJ (λ_=>False) N s.k)(y6:y<6)(yt:s.k.ht y=bE)(V:bD)(p:bU)(b:Below w.heap.size w V):Calls prog 205 #[ai (bB ⟨s.A (49+y),0,bC⟩),ak p] V λe w'=>∃(x:Wh) (nm:bU) (E:Int),e=bw (ao #[au #[aa bf x.1,aa bf x.2],ak nm,bS E])/\Below V.heap.size V w':=
 (xu VK _ _ _ _ _ p V ((h.below b).tb y y6 yt) (h.below b).fo hj.ok.sz).mono (by rintro _ w' ⟨x,nm,E,rfl,_,b2⟩;exact⟨x,nm,E,rfl,b2⟩)
theorem wE(h:bT w VK s)(hj:KJ (λ_=>False) N s.k)(y6:y<6)(yt:s.k.ht y=bE)(V:bD)(p:bU)(b:Below w.heap.size w V):Calls prog 208 #[ai (bB ⟨s.A (49+y),0,bC⟩),ak p] V λe w'=>∃(x:Wh) (E:Int),e=bw (ao #[au #[aa bf x.1,aa bf x.2],bS E])/\Below V.heap.size V w':=
 (EB VK _ _ _ _ _ p V ((h.below b).tb y y6 yt) (h.below b).fo hj.ok.sz).mono (by rintro _ w' ⟨x,E,rfl,_,b2⟩;exact⟨x,E,rfl,b2⟩)
theorem Ll(h:bT w VK s)(hj:KJ (λ_=>False) N s.k)(y6:y<6)(yt:s.k.ht y=bE)(V:bD)(p:bU)(b:Below w.heap.size w V):Calls prog 210 #[ai (bB ⟨s.A (49+y),0,bC⟩),ak p] V λe w'=>∃(x:Wh) (E:Int),e=bw (ao #[au #[aa bf x.1,aa bf x.2],bS E])/\Below V.heap.size V w':=
 (Rj VK _ _ _ _ _ p V ((h.below b).tb y y6 yt) (h.below b).fo hj.ok.sz).mono (by rintro _ w' ⟨x,E,rfl,_,b2⟩;exact⟨x,E,rfl,b2⟩)
end
section
variable (VK N:Nat)(d:Nat->Nat)(s:St)(w:bD)
theorem NA(z:Int)(p q:bU)(h:bT w VK s)(hj:KJ (λ_=>False) N s.k):
  Calls prog 129 #[ai (bB ⟨s.A 0,0,bC⟩),aa bf z,ak p,ak q] w (Kn.Nx VK s w (Kn.ue s.k)):=by
 have TB:=hJ (jR VK N s w z h hj);have H:=hJ (aK h hj);have RM:Hid (∀V (x:Int) (n:bU) (y:Int) (m:bU),Below w.heap.size w V->Calls prog 207 #[ai (bB ⟨s.A 6,0,bC⟩),aa bf x,ak n,aa bf y,ak m] V λe w'=>∃E G,e=bw (bS E)/\Kn.FG s.k G/\bT w' VK {s with k:={s.k with fo:=G}}/\KF s w {s with k:={s.k with fo:=G}} w'):=hJ (λV x n y m b=>(LH (s.A 6) x n y m s.k.fo V (h.below b).fo hj.ok.sz hj.ok.db hj.ok.en).mono (by rintro _ w' ⟨E,G,rfl,r,u,f⟩;exact⟨E,G,rfl,⟨hj.ok.Tn r,hj.wx.Tn r⟩,h.Df b u f⟩));have C6:Hid (∀V,Below w.heap.size w V->V.cell? ⟨s.A 0,250,bC⟩=bB (ai (bB ⟨s.A 6,0,bC⟩))):=hJ (λV b=>(h.below b).wI);generalize hk:s.A 0=kb at TB C6|-;go_in
 go_wp2_with fail
 refine TB.mono ?_;rintro e w1 ⟨v,rfl,tp,b1⟩;by_cases A:Kn.cH s.k z=0
 .obtain⟨y,y6,yt,rfl⟩:=tp A;have LA:=hJ (Ah H.1 H.2 y6 yt);have WA:=hJ (wE H.1 H.2 y6 yt);rw[A,bN];generalize s.A (49+y)=tb at*;generalize s.A 6=a6 at*;go_wp2_with fail
  refine(LA.v _ p b1).mono ?_;rintro e w2 ⟨x0,nm0,E,rfl,b2⟩;have b2:=b1.trans (b2.mono b1.size);have b2:=b2.alloc b2.size (bA #[aa bf x0.1,aa bf x0.2] 224);by_cases E0:E=0
  .subst E0;rw[bN];go_wp2_with fail
   refine(LA.v _ q b2).mono ?_;rintro e w3 ⟨x1,nm1,E,rfl,b3⟩;obtain⟨hc,hf⟩:=yw b3;have hz:w2.heap.size<w3.heap.size:=by have:=b3.size;simp at this;omega
   have b3:=b2.trans (b3.mono b2.size);have b3:=b3.alloc b3.size (bA #[aa bf x1.1,aa bf x1.2] 224);by_cases E0:E=0
   .subst E0;rw[bN];go_upto_region 10 with fail
    have c6:=C6.v _ b3;go_region_with ((go_at_call 207;refine(RM.v _ _ _ _ _ (by first|exact b3|exact b3.drew)).mono ?_;rintro e w4 ⟨E,G,rfl,S4⟩;have S4:=hJ S4))
    all_goals
     go_wp2
     go_ret
     exact .mk ⟨E,G,rfl,S4.1,rfl⟩ S4.2
   .have E1:=hJ (bP E0);rw[bP E0];go_wp2
    go_ret
    exact .at H.1 b3 (.no H.2 E1.v)
  .have E1:=hJ (bP E0);rw[bP E0];go_wp2
   go_ret
   exact .at H.1 b2 (.no H.2 E1.v)
 .have A':=hJ (bP A);rw[bP A];generalize Kn.cH s.k z=ae at*;go_wp2
  go_ret
  exact .at H.1 b1 (.no H.2 A'.v)
theorem Ny(z:Int)(p q:bU)(h:bT w VK s)(hj:KJ (λ_=>False) N s.k):
  Calls prog 130 #[ai (bB ⟨s.A 0,0,bC⟩),aa bf z,ak p,ak q] w (Kn.Nx VK s w (Kn.ue s.k)):=by
 have TB:=hJ (jR VK N s w z h hj);have H:=hJ (aK h hj);have RM:Hid (∀V (x y:Int) (m:bU),Below w.heap.size w V->Calls prog 209 #[ai (bB ⟨s.A 6,0,bC⟩),aa bf x,aa bf y,ak m] V λe w'=>∃E G,e=bw (bS E)/\Kn.FG s.k G/\bT w' VK {s with k:={s.k with fo:=G}}/\KF s w {s with k:={s.k with fo:=G}} w'):=hJ (λV x y m b=>(Ly (s.A 6) x y m s.k.fo V (h.below b).fo hj.ok.sz (λn hn k=>by have:=hj.ok.Dz n hn k;have e1:(2:Nat)^60=1152921504606846976:=bM;omega)).mono (by rintro _ w' ⟨E,G,rfl,r,u,f⟩;exact⟨E,G,rfl,⟨hj.ok.Te r,hj.wx.Te r⟩,h.Df b u f⟩));have C6:Hid (∀V,Below w.heap.size w V->V.cell? ⟨s.A 0,250,bC⟩=bB (ai (bB ⟨s.A 6,0,bC⟩))):=hJ (λV b=>(h.below b).wI);generalize hk:s.A 0=kb at TB C6|-;go_in
 go_wp2_with fail
 refine TB.mono ?_;rintro e w1 ⟨v,rfl,tp,b1⟩;by_cases A:Kn.cH s.k z=0
 .obtain⟨y,y6,yt,rfl⟩:=tp A;have LA:=hJ (Ah H.1 H.2 y6 yt);have WA:=hJ (wE H.1 H.2 y6 yt);rw[A,bN];generalize s.A (49+y)=tb at*;generalize s.A 6=a6 at*;go_wp2_with fail
  refine(WA.v _ p b1).mono ?_;rintro e w2 ⟨x0,E,rfl,b2⟩;have b2:=b1.trans (b2.mono b1.size);have b2:=b2.alloc b2.size (bA #[aa bf x0.1,aa bf x0.2] 224);by_cases E0:E=0
  .subst E0;rw[bN];go_wp2_with fail
   refine(LA.v _ q b2).mono ?_;rintro e w3 ⟨x1,nm1,E,rfl,b3⟩;obtain⟨hc,hf⟩:=yw b3;have hz:w2.heap.size<w3.heap.size:=by have:=b3.size;simp at this;omega
   have b3:=b2.trans (b3.mono b2.size);have b3:=b3.alloc b3.size (bA #[aa bf x1.1,aa bf x1.2] 224);by_cases E0:E=0
   .subst E0;rw[bN];go_upto_region 10 with fail
    have c6:=C6.v _ b3;go_region_with ((go_at_call 209;refine(RM.v _ _ _ _ (by first|exact b3|exact b3.drew)).mono ?_;rintro e w4 ⟨E,G,rfl,S4⟩;have S4:=hJ S4))
    all_goals
     go_wp2
     go_ret
     exact .mk ⟨E,G,rfl,S4.1,rfl⟩ S4.2
   .have E1:=hJ (bP E0);rw[bP E0];go_wp2
    go_ret
    exact .at H.1 b3 (.no H.2 E1.v)
  .have E1:=hJ (bP E0);rw[bP E0];go_wp2
   go_ret
   exact .at H.1 b2 (.no H.2 E1.v)
 .have A':=hJ (bP A);rw[bP A];generalize Kn.cH s.k z=ae at*;go_wp2
  go_ret
  exact .at H.1 b1 (.no H.2 A'.v)
def Kn.Mr(k:Kp)(v:Value)(k':Kp):Prop:=∃(x E:Int) (G:Fo),v=ao #[aa bf x,bS E]/\Kn.FG k G/\k'={k with fo:=G}
theorem Kn.Mr.no{N:Nat}(h:KJ X N k)(e:bS E=v):Kn.Mr k (ao #[aa bf 0,v]) k:=⟨0,E,k.fo,by rw[e],⟨h.ok,h.wx⟩,rfl⟩
theorem Dn(z:Int)(p:bU)(kz:Int)(h:bT w VK s)(hj:KJ (λ_=>False) N s.k):
  Calls prog 199 #[ai (bB ⟨s.A 0,0,bC⟩),aa bf z,ak p,aa bf kz] w (Kn.Nx VK s w (Kn.Mr s.k)):=by
 have TB:=hJ (jR VK N s w z h hj);have H:=hJ (aK h hj);have RM:Hid (∀V (x:Int) (n:bU),Below w.heap.size w V->Calls prog 242 #[ai (bB ⟨s.A 6,0,bC⟩),aa bf x,ak n,aa bf kz] V λe w'=>∃(K:Nat) (E:Int) (G:Fo),e=bw (ao #[aa bf K,bS E])/\Kn.FG s.k G/\bT w' VK {s with k:={s.k with fo:=G}}/\KF s w {s with k:={s.k with fo:=G}} w'):=hJ (λV x n b=>(LG (s.A 6) x n kz s.k.fo V (h.below b).fo hj.ok.sz).mono (by rintro _ w' ⟨K,E,G,rfl,r,u,f⟩;exact⟨K,E,G,rfl,⟨hj.ok.Ti r,hj.wx.Ti r⟩,h.Df b u f⟩));have C6:Hid (∀V,Below w.heap.size w V->V.cell? ⟨s.A 0,250,bC⟩=bB (ai (bB ⟨s.A 6,0,bC⟩))):=hJ (λV b=>(h.below b).wI);generalize hk:s.A 0=kb at TB C6|-;go_in
 go_wp2_with fail
 refine TB.mono ?_;rintro e w1 ⟨v,rfl,tp,b1⟩;by_cases A:Kn.cH s.k z=0
 .obtain⟨y,y6,yt,rfl⟩:=tp A;have LA:=hJ (Ah H.1 H.2 y6 yt);have WA:=hJ (wE H.1 H.2 y6 yt);rw[A,bN];generalize s.A (49+y)=tb at*;generalize s.A 6=a6 at*;go_wp2_with fail
  refine(LA.v _ p b1).mono ?_;rintro e w2 ⟨x0,nm0,E,rfl,b2⟩;have b2:=b1.trans (b2.mono b1.size);have b2:=b2.alloc b2.size (bA #[aa bf x0.1,aa bf x0.2] 224);by_cases E0:E=0
  .subst E0;rw[bN];go_upto_region 7 with fail
   have c6:=C6.v _ b2;go_region_with ((go_at_call 242;refine(RM.v _ _ _ (by first|exact b2|exact b2.drew)).mono ?_;rintro e w4 ⟨K,E,G,rfl,S4⟩;have S4:=hJ S4))
   all_goals
    go_wp2
    go_ret2
    exact .mk ⟨K,E,G,rfl,S4.1,rfl⟩ S4.2
  .have E1:=hJ (bP E0);rw[bP E0];go_wp2
   go_ret2
   exact .at H.1 b2 (.no H.2 E1.v)
 .have A':=hJ (bP A);rw[bP A];generalize Kn.cH s.k z=ae at*;go_wp2
  go_ret2
  exact .at H.1 b1 (.no H.2 A'.v)
theorem It(z:Int)(p:bU)(h:bT w VK s)(hj:KJ (λ_=>False) N s.k):
  Calls prog 127 #[ai (bB ⟨s.A 0,0,bC⟩),aa bf z,ak p] w (Kn.Nx VK s w (Kn.ue s.k)):=by
 have MA:=hJ (Dn VK N s w z p 2 h hj);generalize s.A 0=kb at*;go_in
 go_wp2_with fail
 refine MA.mono ?_;rintro e w1 ⟨v,s',rfl,⟨x,E,G,rfl,g,ek⟩,S1⟩;have S1:=hJ (aK g (aK ek S1));go_wp2
 go_ret
 exact⟨_,s',rfl,⟨E,G,rfl,S1.1,S1.2.1⟩,S1.2.2⟩
end
namespace Mo
structure MG (g:Nat->Nat)(F0 F:Fo)(T:Mo.Tb):Prop where
 ok:Tr.Ok F
 hi:HI F (λn=>g n+tc T n)
 rg:Rg T
 sF:T.ms.length<=6
 kd:∀n,n<40->0<g n->(F.nd n).kind=(F0.nd n).kind
section
variable {g:Nat->Nat}{F0 F F':Fo}{T T':Mo.Tb}
theorem MG.bin(h:MG g F0 F T)(x y:Wh):MG g F0 (zP F T x y) (zQ F T x y):=by
 unfold zP zQ;by_cases c:lF F T x y=0
 .rw[aJ c,aJ c];obtain⟨c1,c2,c3⟩:=Sb c;refine⟨(h.ok.dO _).dO _,(J9 h.hi (zE c1) (zE c2)).congr (λn _=>?_),⟨h.rg.1,λm hm=>?_⟩,?_,λn hn c=>(oC _ _ _).trans ((oC _ _ _).trans (h.kd n hn c))⟩
  .show _=g n+(gS T.rt.2 n+mc (T.ms++[(x,y)]) n);rw[Tj,nC,uU];unfold tc;omega
  .rcases List.mem_append.1 hm with k|k
   .exact h.rg.2 m k
   .rw[List.mem_singleton]at k;subst k;exact⟨xA (zE c1),xA (zE c2)⟩
  .have:=h.sF;show(T.ms++[(x,y)]).length<=6;rw[List.length_append,List.length_singleton];omega
 .rw[aI c,aI c];exact h
theorem MG.VG{x:Wh}(h:MG g F0 F T)(hu:B8 F T x E T' F'):MG g F0 F' T':=by
 rcases hu with⟨i,_,m,hm,_,rfl,rfl⟩|⟨_,_,rfl,rfl⟩
 .have hl:=(aY.1 hm).1;have hin:=h.rg.2 m (bK hm);have hi:HI (jf F m) (λn=>g n+tc ⟨T.rt,T.ms.eraseIdx i⟩ n):=KT (h.hi.congr (λn _=>by
   show g n+(gS T.rt.2 n+mc T.ms n)=g n+(gS T.rt.2 n+mc (T.ms.eraseIdx i) n)+gS m.1.2 n+gS m.2.2 n;rw[Oe hm n];omega)) hin.1 hin.2
  refine⟨(h.ok.dF _).dF _,hi,⟨h.rg.1,λy hy=>h.rg.2 y (List.mem_of_mem_eraseIdx hy)⟩,?_,λn hn c=>(Dw (by rw[hi.hd n hn];omega)).trans (h.kd n hn c)⟩;have:=h.sF;show(T.ms.eraseIdx i).length<=6;rw[List.length_eraseIdx_of_lt hl];omega
 .exact h
theorem MG.piv{t:Int}(h:MG g F0 F T)(e0:Tr.gG F t=0):MG g F0 (Tr.dO (lA F T) (Tr.fW F t)) ⟨(t,(Tr.fW F t:Int)),[]⟩:=by
 have o:=KR (T:=T) h.ok;have er:Tr.gG (lA F T) t=Tr.gG F t:=by unfold Tr.gG;rw[(Dv F T).2]
 have nr:Tr.fW (lA F T) t=Tr.fW F t:=by unfold Tr.fW;rw[er,(Dv F T).1]
 have al:Tr.cM (lA F T) (Tr.fW F t)=0:=by rw[<-nr];exact I6 o (er.trans e0)
 have hl:=KQ h.hi h.rg;refine⟨o.dO _,(hl.dO al).congr (λn _=>?_),⟨xA al,λm hm=>by cases hm⟩,by simp,λn hn c=>(oC _ _ _).trans ((Du (by rw[hl.hd n hn];exact c)).trans (h.kd n hn c))⟩;show g n+gS (Tr.fW F t) n=g n+(gS (Tr.fW F t) n+mc [] n);rw[uU];rfl
end
end Mo
namespace Kn
def vx(k:Kp)(y:Nat)(T:Mo.Tb)(F:Fo):Kp:={k with tb:=λi=>if i=y then T else k.tb i,fo:=F}
theorem Eo(k:Kp)(y:Nat)(T:Mo.Tb)(F:Fo)(yt:k.ht y=bE)(m:Nat):∀s,la (vx k y T F) m s+(if y<s then Mo.tc (k.tb y) m else 0)=la k m s+if y<s then Mo.tc T m else 0
 |0=>rfl
 |s+1=>by
  have ih:=Eo k y T F yt m s;show la (vx k y T F) m s+(if k.ht s=bE then Mo.tc (if s=y then T else k.tb s) m else 0)+_=la k m s+(if k.ht s=bE then Mo.tc (k.tb s) m else 0)+_;by_cases c:s=y
  .subst c;rw[aI (bV _),aI (bV _)]at ih;rw[aJ yt,aJ yt,aJ rfl,aJ (Nat.lt_succ_self _),aJ (Nat.lt_succ_self _)];omega
  .rw[aI c];by_cases e:y<s
   .rw[aJ e,aJ e]at ih;rw[aJ (show y<s+1 by omega),aJ (show y<s+1 by omega)];omega
   .rw[aI e,aI e]at ih;rw[aI (show¬y<s+1 by omega),aI (show¬y<s+1 by omega)];omega
section
variable {X:Nat->Prop}{N y:Nat}{k:Kp}
def fU(k:Kp)(y n:Nat):Nat:=Fx.cK k.fi 1 n 24+(jM k n-Mo.tc (k.tb y) n)
theorem KJ.mg(h:KJ X N k)(y6:y<6)(yt:k.ht y=bE):Mo.MG (fU k y) k.fo k.fo (k.tb y):=by
 have rg:=h.tb y y6 yt;refine⟨h.ok,⟨λn hn=>?_,λn hn c kz=>?_⟩,rg.1,rg.2,λ_ _ _=>rfl⟩
 .have:Mo.tc (k.tb y) n<=jM k n:=sK n yt 6 y6;rw[h.wx.hl n hn];unfold fU;omega
 .have:Mo.tc (k.tb y) n<=jM k n:=sK n yt 6 y6;have:=h.wx.z0 n hn kz;rw[h.wx.hl n hn]at this;unfold fU at c;omega
theorem KJ.VF(h:KJ X N k)(y6:y<6)(yt:k.ht y=bE){T:Mo.Tb}(g:Mo.MG (fU k y) k.fo F T):KJ X N (vx k y T F):=by
 have tx:∀m,fU k y m+Mo.tc T m=Fx.cK k.fi 1 m 24+jM (vx k y T F) m:=λm=>by
  have:=Eo k y T F yt m 6;rw[aJ y6,aJ y6]at this;have:Mo.tc (k.tb y) m<=jM k m:=sK m yt 6 y6;unfold fU jM at*;omega
 refine⟨h.sp,h.gr,h.me,⟨h.wx.no,h.wx.kd,λn hn r k1=>?_,h.wx.pn,h.wx.ps,λm hm=>(g.hi.hd m hm).trans (tx m),λm hm kz=>?_,h.wx.rd,h.wx.wt⟩,h.rf,g.ok,λs hs q=>?_,h.st,h.hs,h.lv,h.of,h.ht,h.nm⟩
 .have a:=h.wx.nd n hn r k1;refine⟨a.1,(g.kd _ a.1 ?_).trans a.2⟩;have c1:=Fx.rj (T:=k.fi) (k:=1) (m:=(k.fi n).num) hn;have c2:=Fx.np r;rw[k1]at c2;have c3:Fx.hit (k.fi n) 1 (k.fi n).num=1:=c2;unfold fU;omega
 .have e:(F.nd m).held=_:=g.hi.hd m hm;by_cases c:(F.nd m).held=0
  .exact c
  .exact aZ kz (g.hi.lv m hm bG)
 .show Mo.Rg (if s=y then T else k.tb s)/\(if s=y then T else k.tb s).ms.length<=6;by_cases c:s=y
  .rw[aJ c];exact⟨g.rg,g.sF⟩
  .rw[aI c];exact h.tb s hs q
end
def nZ(s:St)(y:Nat)(v:Value)(T:Mo.Tb)(F:Fo):St:=⟨λi=>if i=55+y then v.ownBlock.getD 0 else s.A i,λi=>if i=y then v else s.V i,vx s.k y T F⟩
end Kn
open Kn (nZ vx)
theorem bT.jN{y:Nat}(h:bT w VK s)(y6:y<6)(yt:s.k.ht y=bE){T:Mo.Tb}(t:cC w' VK (s.A (49+y)) (s.A 6) T v)(u:cv w' (s.A 6) F)(o:dR (BV (s.A (49+y)) (s.A 6) (s.V y)) w w')(nw:Nw w (s.V y) v):bT w' VK (nZ s y v T F)/\KF s w (nZ s y v T F) w':=by
 have A9:∀i,i≠55+y->(nZ s y v T F).A i=s.A i:=λi hi=>aI hi;have Ar:∀g,v.ownBlock=bB g->(nZ s y v T F).A (55+y)=g:=λg e=>by show(if 55+y=55+y then v.ownBlock.getD 0 else _)=g;rw[aJ rfl,e];rfl
 have us':∀i,us (nZ s y v T F) i->(i=55+y/\∃g,v.ownBlock=bB g)\/(i≠55+y/\us s i):=λi hi=>by
  by_cases c:i=55+y
  .left;refine⟨c,?_⟩;subst c;rcases hi with hi|⟨_,h2,_⟩|⟨_,h2,_⟩|⟨_,h2,_⟩|⟨_,_,_,h4⟩
   .omega
   .omega
   .omega
   .omega
   .have e:(nZ s y v T F).V (55+y-55)=v:=by show(if 55+y-55=y then v else _)=v;rw[nK]
    rw[e]at h4;cases e2:v.ownBlock with
    |none=>exact aZ e2 h4
    |some g=>exact⟨g,rfl⟩
  .right;refine⟨c,?_⟩;rcases hi with hi|hi|hi|hi|⟨h1,h2,h3,h4⟩
   .exact .inl hi
   .exact .inr (.inl hi)
   .exact .inr (.inr (.inl hi))
   .exact .inr (.inr (.inr (.inl hi)))
   .have e:(nZ s y v T F).V (i-55)=s.V (i-55):=nJ;rw[e]at h4;exact .inr (.inr (.inr (.inr ⟨h1,h2,h3,h4⟩)))
 have ut:=Kn.kv y6 yt;have bk:∀i,us s i->i≠49+y->i≠6->i≠55+y->w'.heap[s.A i]? =w.heap[s.A i]? :=λi hi a b c=>o.block _ (h.lt hi) (λq=>by
  rcases q with q|q|q
  .exact h.ne hi ut a q
  .exact h.ne hi cE b q
  .exact h.ne hi (Kn.jZ y6 yt q) c (h.ro y y6 yt _ q).symm)
 have b9:∀i,i<9->i≠6->w'.heap[s.A i]? =w.heap[s.A i]? :=λi hi c=>bk i (.inl hi) bG c bG;have ne:∀n,n<6->n≠y->(nZ s y v T F).V n=s.V n/\(nZ s y v T F).k.tb n=s.k.tb n:=λn _ c=>⟨aI c,aI c⟩;refine⟨⟨?_,λx hx=>?_,?_,?_,?_,?_,?_,?_,?_,λn hn hh=>?_,λn hn hh=>?_,λn hn hh=>?_,λn hn hh g e=>?_,λi j hi hj e=>?_,λi hi=>?_⟩,⟨?_,λb hb=>?_,A9 0 bG⟩⟩
 .rw[A9 0 bG,b9 0 bG bG];exact h.mL
 .rw[A9 0 bG,aV (b9 0 bG bG),h.eF x hx];refine congrArg bB ?_;unfold Kn.kc Kn.pc;split
  .rw[A9 _ bG,A9 _ bG];rfl
  .split
   .rw[A9 _ bG];rfl
   .split
    .rw[A9 _ bG]
    .rw[A9 _ bG]
 .rw[A9 1 bG];exact h.sp.same (b9 1 bG bG)
 .rw[A9 2 bG];exact(b9 2 bG bG).trans h.gr
 .rw[A9 3 bG];exact h.sc.same (b9 3 bG bG)
 .rw[A9 4 bG,A9 5 bG];exact h.bk.same (b9 4 bG bG) (b9 5 bG bG)
 .rw[A9 8 bG,A9 6 bG,A9 7 bG];exact h.fi.same (b9 8 bG bG)
 .rw[A9 6 bG];exact u
 .rw[A9 7 bG];exact h.pi.same (b9 7 bG bG)
 .rw[A9 _ bG,A9 4 bG];exact(h.me n hn hh).same (bk _ (Kn.jb hn hh) bG bG bG)
 .rw[A9 _ bG];exact(h.bx n hn hh).same (bk _ (Kn.jY hn hh) bG bG bG)
 .rw[A9 _ bG,A9 6 bG];by_cases c:n=y
  .subst c;rw[show(nZ s n v T F).k.tb n=T from aJ rfl,show(nZ s n v T F).V n=v from aJ rfl];exact t
  .rw[(ne n hn c).1,(ne n hn c).2];exact(h.tb n hn hh).same (bk _ (Kn.kv hn hh) bG bG bG) (λg eg=>by have:=bk _ (Kn.jZ hn hh eg) bG bG bG;rwa [h.ro n hn hh g eg]at this)
 .by_cases c:n=y
  .subst c;exact Ar g (by rw[<-e];exact(congrArg Value.ownBlock (show(nZ s n v T F).V n=v from aJ rfl)).symm)
  .rw[(ne n hn c).1]at e;rw[A9 _ bG];exact h.ro n hn hh g e
 .have key:∀g,v.ownBlock=bB g->∀j,j≠55+y->us s j->s.A j≠g:=λg eg j jn uj q=>by
   rcases nw with n1|n1
   .rw[eg]at n1;have r:=h.ro y y6 yt g n1.symm;exact jn (h.inj j (55+y) uj (Kn.jZ y6 yt n1.symm) (q.trans r.symm))
   .have:=n1 g eg;have:=h.lt uj;omega
  rcases us' i hi with⟨i1,g1,e1⟩|⟨i1,i2⟩
  .rcases us' j hj with⟨j1,_⟩|⟨j1,j2⟩
   .omega
   .rw[i1,Ar g1 e1,A9 j j1]at e;exact aZ e.symm (key g1 e1 j j1 j2)
  .rcases us' j hj with⟨j1,g1,e1⟩|⟨j1,j2⟩
   .rw[j1,Ar g1 e1,A9 i i1]at e;exact aZ e (key g1 e1 i i1 i2)
   .rw[A9 i i1,A9 j j1]at e;exact h.inj i j i2 j2 e
 .rcases us' i hi with⟨i1,g1,e1⟩|⟨i1,i2⟩
  .rw[i1,Ar g1 e1];exact(t.row.lt g1 e1).1
  .rw[A9 i i1];exact h.low i i2
 .refine⟨o.os,o.tape,o.output,o.size,λk hk hn=>o.block k hk (λq=>hn ?_)⟩;rcases q with q|q|q
  .exact⟨_,ut,q⟩
  .exact⟨6,cE,q⟩
  .exact⟨55+y,Kn.jZ y6 yt q,(h.ro y y6 yt _ q).symm⟩
 .obtain⟨i,hi,rfl⟩:=hb;rcases us' i hi with⟨i1,g1,e1⟩|⟨i1,i2⟩
  .rw[i1,Ar g1 e1];rcases nw with n1|n1
   .rw[e1]at n1;exact .inl ⟨55+y,Kn.jZ y6 yt n1.symm,(h.ro y y6 yt g1 n1.symm).symm⟩
   .exact .inr (n1 g1 e1)
  .exact .inl ⟨i,i2,A9 i i1⟩
open Kn (Pr Kp St us KB KJ VI EI KH nZ vx)
def Kn.rL(k:Kp)(v:Value)(k':Kp):Prop:=∃E,v=bS E/\(k'=k\/∃y T F,y<6/\k.ht y=bE/\Mo.MG (Kn.fU k y) k.fo F T/\k'=vx k y T F)
theorem Kn.rL.no(e:bS E=v):Kn.rL k v k:=⟨E,e.symm, .inl rfl⟩
section
variable {VK N y:Nat}{s:St}{w:bD}
theorem Qg(h:bT w VK s)(hb:VK<=w.heap.size)(hj:KJ (λ_=>False) N s.k)(y6:y<6)(yt:s.k.ht y=bE)(V:bD)(x z:Wh)(b:Below w.heap.size w V):Calls prog 211 #[ai (bB ⟨s.A (49+y),0,bC⟩),au #[aa bf x.1,aa bf x.2],au #[aa bf z.1,aa bf z.2]] V (Kn.Nx VK s w (Kn.rL s.k)):=
 have H:=h.below b
 (MF VK _ _ 102 _ _ _ x z V (H.tb y y6 yt) H.fo hj.hb bG (aH hb b.size)).mono (by
  rintro _ w' ⟨v,rfl,t,u,o,n⟩;have q:=H.jN y6 yt t u o n;exact⟨_,_,rfl,⟨_,rfl, .inr ⟨y,_,_,y6,yt,(hj.mg y6 yt).bin x z,rfl⟩⟩,q.1,(KF.below b).trans q.2⟩)
theorem L5(h:bT w VK s)(hj:KJ (λ_=>False) N s.k)(y6:y<6)(yt:s.k.ht y=bE)(V:bD)(x:Wh)(b:Below w.heap.size w V):Calls prog 212 #[ai (bB ⟨s.A (49+y),0,bC⟩),au #[aa bf x.1,aa bf x.2]] V (Kn.Nx VK s w (Kn.rL s.k)):=
 have H:=h.below b
 (Ji VK _ _ 102 _ _ _ x V (H.tb y y6 yt) H.fo hj.hb bG).mono (by
  rintro _ w' ⟨E,T,F,v,rfl,r,t,u,o,n⟩;have q:=H.jN y6 yt t u o (.inl n);exact⟨_,_,rfl,⟨_,rfl, .inr ⟨y,_,_,y6,yt,(hj.mg y6 yt).VG r,rfl⟩⟩,q.1,(KF.below b).trans q.2⟩)
theorem Oy(h:bT w VK s)(hj:KJ (λ_=>False) N s.k)(y6:y<6)(yt:s.k.ht y=bE)(V:bD)(t:Int)(b:Below w.heap.size w V):Calls prog 94 #[ai (bB ⟨s.A (49+y),0,bC⟩),aa bf t] V (Kn.Nx VK s w (Kn.rL s.k)):=by
 have H:=h.below b;by_cases e0:Tr.gG s.k.fo t=0
 .refine sC (Le VK _ _ 102 _ _ _ t V (H.tb y y6 yt) H.fo e0 hj.hb bG) ?_;rintro w' ⟨t,u,o⟩;have q:=H.jN y6 yt t u ⟨o.os,o.tape,o.output,o.size,λk hk c=>o.block k hk (λd=>c (d.elim .inl (λd=> .inr (.inl d))))⟩ (.inr (λg e=>by cases e));exact⟨_,_,rfl,⟨0,rfl, .inr ⟨y,_,_,y6,yt,(hj.mg y6 yt).piv e0,rfl⟩⟩,q.1,(KF.below b).trans q.2⟩
 .refine sC (Oz VK _ _ _ _ _ t V (H.tb y y6 yt) H.fo e0) ?_;rintro w' b2;exact .at h (b.trans (b2.mono b.size)) (.no rfl)
end
section
variable (VK N:Nat)(d:Nat->Nat)(s:St)(w:bD)
theorem Kj(z:Int)(p q:bU)(h:bT w VK s)(hb:VK<=w.heap.size)(hj:KJ (λ_=>False) N s.k):
  Calls prog 131 #[ai (bB ⟨s.A 0,0,bC⟩),aa bf z,ak p,ak q] w (Kn.Nx VK s w (Kn.rL s.k)):=by
 have TB:=hJ (jR VK N s w z h hj);have H:=hJ (aK h (aK hb hj));generalize s.A 0=kb at TB|-;go_in
 go_wp2_with fail
 refine TB.mono ?_;rintro e w1 ⟨v,rfl,tp,b1⟩;by_cases A:Kn.cH s.k z=0
 .obtain⟨y,y6,yt,rfl⟩:=tp A;have RA:=hJ (Ll H.1 H.2.2 y6 yt);have WA:=hJ (wE H.1 H.2.2 y6 yt);have BI:=hJ (Qg H.1 H.2.1 H.2.2 y6 yt);rw[A,bN];generalize s.A (49+y)=tb at*;go_wp2_with fail
  refine(RA.v _ p b1).mono ?_;rintro e w2 ⟨x0,E,rfl,b2⟩;have b2:=b1.trans (b2.mono b1.size);have b2:=b2.alloc b2.size (bA #[aa bf x0.1,aa bf x0.2] 224);by_cases E0:E=0
  .subst E0;rw[bN];go_wp2_with fail
   refine(WA.v _ q b2).mono ?_;rintro e w3 ⟨x1,E,rfl,b3⟩;obtain⟨hc,hf⟩:=yw b3;have hz:w2.heap.size<w3.heap.size:=by have:=b3.size;simp at this;omega
   have b3:=b2.trans (b3.mono b2.size);have b3:=b3.alloc b3.size (bA #[aa bf x1.1,aa bf x1.2] 224);by_cases E0:E=0
   .subst E0;rw[bN];go_wp2_with fail
    refine(BI.v _ x0 x1 b3).mono ?_;rintro e w4 ⟨v,s',rfl,S4⟩;have S4:=hJ S4;go_wp2
    go_ret
    exact⟨v,s',rfl,S4.v⟩
   .have E1:=hJ (bP E0);rw[bP E0];go_wp2
    go_ret
    exact .at H.1 b3 (.no E1.v)
  .have E1:=hJ (bP E0);rw[bP E0];go_wp2
   go_ret
   exact .at H.1 b2 (.no E1.v)
 .have A':=hJ (bP A);rw[bP A];generalize Kn.cH s.k z=ae at*;go_wp2
  go_ret
  exact .at H.1 b1 (.no A'.v)
theorem Fk(z:Int)(p:bU)(h:bT w VK s)(hj:KJ (λ_=>False) N s.k):
  Calls prog 132 #[ai (bB ⟨s.A 0,0,bC⟩),aa bf z,ak p] w (Kn.Nx VK s w (Kn.rL s.k)):=by
 have TB:=hJ (jR VK N s w z h hj);have H:=hJ (aK h hj);generalize s.A 0=kb at TB|-;go_in
 go_wp2_with fail
 refine TB.mono ?_;rintro e w1 ⟨v,rfl,tp,b1⟩;by_cases A:Kn.cH s.k z=0
 .obtain⟨y,y6,yt,rfl⟩:=tp A;have RA:=hJ (Ll H.1 H.2 y6 yt);have BI:=hJ (L5 H.1 H.2 y6 yt);rw[A,bN];generalize s.A (49+y)=tb at*;go_wp2_with fail
  refine(RA.v _ p b1).mono ?_;rintro e w2 ⟨x0,E,rfl,b2⟩;have b2:=b1.trans (b2.mono b1.size);have b2:=b2.alloc b2.size (bA #[aa bf x0.1,aa bf x0.2] 224);by_cases E0:E=0
  .subst E0;rw[bN];go_wp2_with fail
   refine(BI.v _ x0 b2).mono ?_;rintro e w4 ⟨v,s',rfl,S4⟩;have S4:=hJ S4;go_wp2
   go_ret
   exact⟨v,s',rfl,S4.v⟩
  .have E1:=hJ (bP E0);rw[bP E0];go_wp2
   go_ret
   exact .at H.1 b2 (.no E1.v)
 .have A':=hJ (bP A);rw[bP A];generalize Kn.cH s.k z=ae at*;go_wp2
  go_ret
  exact .at H.1 b1 (.no A'.v)
theorem IC(z t:Int)(h:bT w VK s)(hj:KJ (λ_=>False) N s.k):
  Calls prog 34 #[ai (bB ⟨s.A 0,0,bC⟩),aa bf z,aa bf t] w (Kn.Nx VK s w (Kn.rL s.k)):=by
 have TB:=hJ (jR VK N s w z h hj);have H:=hJ (aK h hj);obtain⟨kb,hk⟩:=hU (s.A 0);have HK:=hJ hk;rw[hk]at TB|-;go_in
 go_wp2_with fail
 refine TB.mono ?_;rintro e w1 ⟨v,rfl,tp,b1⟩;by_cases A:Kn.cH s.k z=0
 .obtain⟨y,y6,yt,rfl⟩:=tp A;obtain⟨n,rfl,hn,hl⟩:=Kn.fY A;have IH:=hJ (mM VK s w1 n (H.1.below b1) _ rfl);have PV:=hJ (Oy H.1 H.2 y6 yt);rw[HK.v]at IH;rw[A,bN];generalize s.A (49+y)=tb at*;go_wp2_with fail
  refine cN IH.v ?_;cases decide (Kn.hd s.k n=n)
  .go_wp2
   go_ret
   exact .at H.1 b1 (.no (E:=8) rfl)
  .go_wp2_with fail
   refine(PV.v _ t b1).mono ?_;rintro e w4 ⟨v,s',rfl,S4⟩;have S4:=hJ S4;go_wp2
   go_ret
   exact⟨v,s',rfl,S4.v⟩
 .have A':=hJ (bP A);rw[bP A];generalize Kn.cH s.k z=ae at*;go_wp2
  go_ret
  exact .at H.1 b1 (.no A'.v)

import Derived.Test.YtpmmdkcfenjiaaaGreatDoorVbf
set_option linter.unusedVariables false
set_option linter.unusedSimpArgs false
set_option maxRecDepth 100000
set_option maxHeartbeats 4000000
namespace Go.Proofs.YtpmmdkcfenjiaaaGreatDoor
open Go.RowKit
open Tr (Fo Nd)
open Mo (Wh Mt)
open Mv (Me Bk)
open Kn (Pr Kp St us KB KJ VI EI)
theorem I6 (w:bD):
  Calls Tryz.prog 32 #[] w fun e w'=> ∃(s:St) (m:Wf.M),e= .returned (.pointer (some ⟨s.A 0,0,none⟩))/\s.k=Kn.kN m/\Wf.im (Wf.dm Wf.m0 ((0:Nat):Int) 0) ((0:Nat):Int) true m/\ak w' w.heap.size s/\Below w.heap.size w w':=by
 obtain⟨base,hbs⟩:=nJ (w.heap.size);have HB:Hid (base<=w.heap.size):=hZ (by omega);have HBS:=hZ hbs;clear hbs;go_in
 go_wp2_with fail
 refine(qa _).mono ?_;rintro e w1 ⟨rfl,t1,b1,l1⟩;have S1:=hZ (aK t1 (aK b1 l1));clear t1 b1 l1;go_wp2_with fail
 refine(Gr.qa _).mono ?_;rintro e w2 ⟨rfl,t2,b2⟩;have S2:=hZ (aK t2 b2);clear t2 b2;go_wp2_with fail
 refine(Wf.qa _).mono ?_;rintro e w3 ⟨rfl,t3,b3,l3⟩;have S3:=hZ (aK t3 (aK b3 l3));clear t3 b3 l3;go_wp2_with fail
 refine(Ba _).mono ?_;rintro e w4 ⟨a4,rfl,t4,b4,l4⟩;have S4:=hZ (aK t4 (aK b4 l4));clear t4 b4 l4;go_wp2_with fail
 refine(Kf _).mono ?_;rintro e w5 ⟨rfl,t5,b5⟩;have S5:=hZ (aK t5 b5);clear t5 b5;have F7:Hid (NW w (w5.heap.size+1) w.heap.size w1.heap.size w2.heap.size a4 w3.heap.size w4.heap.size w5.heap.size ((w5.alloc (.cells Pp.zA 122)).alloc (.cells (mG (pR w.heap.size w1.heap.size w2.heap.size a4 w4.heap.size w5.heap.size)) 86))):=hZ (by
  obtain⟨p6,c6⟩:=Co w5;have z6:(w5.alloc (.cells Pp.zA 122)).heap.size=w5.heap.size+1:=by simp
  have c7:Below (w5.alloc (.cells Pp.zA 122)).heap.size (w5.alloc (.cells Pp.zA 122)) ((w5.alloc (.cells Pp.zA 122)).alloc (.cells (mG (pR w.heap.size w1.heap.size w2.heap.size a4 w4.heap.size w5.heap.size)) 86)):=(aQ _ _).alloc (aL _) _;have N:=heap_alloc_new (w5.alloc (.cells Pp.zA 122)) (.cells (mG (pR w.heap.size w1.heap.size w2.heap.size a4 w4.heap.size w5.heap.size)) 86);rw[z6]at N;have e5:=c6.trans (c7.mono (by omega));have e4:=S5.out.2.trans (e5.mono S5.out.2.size);have e3:=S4.out.2.1.trans (e4.mono S4.out.2.1.size);have e2:=S3.out.2.1.trans (e3.mono S3.out.2.1.size);have e1:=S2.out.2.trans (e2.mono S2.out.2.size);have e0:=S1.out.2.1.trans (e1.mono S1.out.2.1.size);have g2:=S2.out.1.lt;have g3:=S3.out.2.2;have g4:=S4.out.2.2;have g4':=S4.out.1.lt;have g5:=S5.out.1.lt;exact⟨S1.out.1.same (e1.block _ S1.out.2.2),(e2.block _ g2).trans S2.out.1,S3.out.1.same (e3.block _ g3),S4.out.1.same (e4.block _ g4') (e4.block _ S4.out.1.AO),S5.out.1.same (e5.block _ g5),p6.same (c7.block _ (by omega)),N,e0,rfl,S1.out.2.2,g2,g3,g4,g4',g5,by omega⟩)
 obtain⟨a1,h1⟩:=nJ (w.heap.size);obtain⟨a2,h2⟩:=nJ (w1.heap.size);obtain⟨a3,h3⟩:=nJ (w2.heap.size);obtain⟨a5,h5⟩:=nJ (w3.heap.size);obtain⟨a6,h6⟩:=nJ (w4.heap.size);have H1:=hZ h1;rw[h1,h2,h3,h5,h6]at F7;rw[h1,h2,h3,h6];obtain⟨KA,hKA⟩:=nJ (mG (pR a1 a2 a3 a4 a6 w5.heap.size));have HKA:=hZ hKA;rw[hKA]at F7;clear S1 S2 S3 S4 S5 h1 h2 h3 h5 h6;go_upto_region 2 with(first|(refine Pp.Hu rfl rfl ?_)|(refine Ee a1 a2 a3 a4 a6 w5.heap.size rfl rfl rfl rfl rfl rfl rfl rfl ?_;rw[hKA]))
 obtain⟨a7,h7⟩:=nJ (w5.heap.size);obtain⟨a0,h0⟩:=nJ (w5.heap.size+1);generalize (w5.alloc (.cells Pp.zA 122)).alloc (.cells KA 86)=W7 at F7|-;rw[h0]at F7|-;rw[h7]at F7|-;clear hKA HKA h7 h0;have K0:Hid (W7.cell? ⟨a0,250,none⟩=some (.pointer (some ⟨a6,0,none⟩))/\W7.cell? ⟨a0,251,none⟩=some (.pointer (some ⟨a7,0,none⟩))):=hZ ⟨F7.out.cell 250 (by omega),F7.out.cell 251 (by omega)⟩;have XN:=hZ (Jf a6 a7 W7.drew);obtain⟨a8,h8⟩:=nJ (W7.heap.size);have hd8:W7.drew.heap.size=a8:=h8;have H8:=hZ h8;rw[hd8]at XN;have FIN:Hid (∀w8,dy w8 a8 a6 a7 Fx.fj->Below a8 W7.drew w8->(ak (w8.setCell ⟨a0,252,none⟩ (.pointer (some ⟨a8,0,none⟩))) base ⟨kY a0 a1 a2 a3 a4 a5 a6 a7 a8,fun _=> .slice none 0 0,Kn.ml⟩/\Below w.heap.size w (w8.setCell ⟨a0,252,none⟩ (.pointer (some ⟨a8,0,none⟩))))/\(w8.cell? ⟨a0,250,none⟩=some (.pointer (some ⟨a6,0,none⟩))/\w8.cell? ⟨a0,251,none⟩=some (.pointer (some ⟨a7,0,none⟩)))/\((w8.setCell ⟨a0,252,none⟩ (.pointer (some ⟨a8,0,none⟩))).cell? ⟨a0,250,none⟩=some (.pointer (some ⟨a6,0,none⟩))/\(w8.setCell ⟨a0,252,none⟩ (.pointer (some ⟨a8,0,none⟩))).cell? ⟨a0,251,none⟩=some (.pointer (some ⟨a7,0,none⟩)))/\(∃v,w8.cell? ⟨a0,252,none⟩=some v)/\ ∀o,w8.frozen? ⟨a0,o,none⟩=false):=hZ (fun w8 xa bl=>by
  have bl':Below W7.heap.size W7 w8:=by rw[H8.out];exact⟨bl.os,bl.tape,bl.output,by have:=bl.size;exact this,bl.block⟩
  have q:=F7.out.QM HB.out H8.out xa bl';have ke:w8.heap[a0]? =some (.cells (mG (pR a1 a2 a3 a4 a6 a7)) 86 (0,0)):=(bl'.block _ F7.out.lt).trans F7.out.ke;have c: ∀o,w8.cell? ⟨a0,o,none⟩=W7.cell? ⟨a0,o,none⟩:=fun o=>aV (bl'.block _ F7.out.lt);refine⟨q,by rw[c,c];exact K0.out,⟨by rw[cC ke _ _ _ (by omega),c];exact K0.out.1,by rw[cC ke _ _ _ (by omega),c];exact K0.out.2⟩,⟨_,by rw[c];exact F7.out.cell 252 (by omega)⟩,fun o=>bf ke o⟩)
 clear h8 hd8;obtain⟨y1,y2⟩:=K0.out;go_region_held3 (fun w'=>w'.cell? ⟨a0,250,none⟩=some (.pointer (some ⟨a6,0,none⟩))/\w'.cell? ⟨a0,251,none⟩=some (.pointer (some ⟨a7,0,none⟩))) (first|exact K0.out|exact S8.out.2.1|exact S8.out.2.2.1) (
  (go_at_call 88;refine XN.out.mono ?_;rintro e w8 ⟨rfl,xa,bl⟩;have S8:=hZ (FIN.out w8 xa bl);clear xa bl;have cy:=S8.out.2.2.2.1;obtain⟨vy,cy⟩:=cy;have fz:=S8.out.2.2.2.2))
 have S9:=hZ S8.out.1;clear FIN K0 XN y1 y2 cy fz;generalize w8.setCell ⟨a0,252,none⟩ (.pointer (some ⟨a8,0,none⟩))=W9 at*;clear S8;have AA:Hid (kY a0 a1 a2 a3 a4 a5 a6 a7 a8 0=a0/\kY a0 a1 a2 a3 a4 a5 a6 a7 a8 2=a2/\kY a0 a1 a2 a3 a4 a5 a6 a7 a8 4=a4/\kY a0 a1 a2 a3 a4 a5 a6 a7 a8 6=a6):=hZ ⟨rfl,rfl,rfl,rfl⟩;generalize kY a0 a1 a2 a3 a4 a5 a6 a7 a8=A at S9 AA;have c250:=S9.out.1.vF;rw[show(⟨A,fun _=> .slice none 0 0,Kn.ml⟩:St).A 0=a0 from AA.out.1,show(⟨A,fun _=> .slice none 0 0,Kn.ml⟩:St).A 6=a6 from AA.out.2.2.2]at c250;have PL:Hid (Calls Tryz.prog 89 #[.pointer (some ⟨a6,0,none⟩)] W9 fun e w'=> ∃v,e= .returned v/\ak w' base ⟨A,fun _=> .slice none 0 0,{Kn.ml with fo:=Tr.g1}⟩/\Below w.heap.size w w'):=hZ (by
  have fo:ar W9 (A 6) Tr.f0:=S9.out.1.fo;have q:=Dz (A 6) Tr.f0 W9 fo (by decide);rw[AA.out.2.2.2]at q;refine q.mono ?_;rintro e w' ⟨T,E,G,rfl,hp,h2,k2⟩;obtain⟨rfl,rfl,rfl⟩:=Tr.Gn hp;rw[<-AA.out.2.2.2]at h2 k2;have q2:=S9.out.1.zy h2 k2;exact⟨_,rfl,q2.1,k2.below S9.out.2 (by rw[HBS.out];exact S9.out.1.low 6 (az (by omega))) S9.out.2.size⟩)
 go_wp2_with fail
 refine PL.out.mono ?_;rintro e w10 ⟨v10,rfl,k10,b10⟩;have S10:=hZ (aK k10 b10);clear k10 b10 PL c250 S9;go_upto_region 4 with fail
 have K0:Hid (w10.cell? ⟨a0,250,none⟩=some (.pointer (some ⟨a6,0,none⟩))):=hZ (by
  have q:=S10.out.1.vF;rw[show(⟨A,fun _=> .slice none 0 0,{Kn.ml with fo:=Tr.g1}⟩:St).A 0=a0 from AA.out.1,show(⟨A,fun _=> .slice none 0 0,{Kn.ml with fo:=Tr.g1}⟩:St).A 6=a6 from AA.out.2.2.2]at q;exact q)
 have MN:Hid (Calls Tryz.prog 90 #[.pointer (some ⟨a6,0,none⟩), .int .i64 0] w10.drew fun e w'=> ∃b,e= .returned (.tuple #[.pointer (some ⟨b,0,none⟩), .nilIface])/\ak (w'.setCell ⟨a0,240,none⟩ (.pointer (some ⟨b,0,none⟩))) base (Kn.gq ⟨A,fun _=> .slice none 0 0,{Kn.ml with fo:=Tr.dc Tr.g1 ((0:Nat):Int)}⟩ 0 b (.slice none 0 0) Kn.nE)/\Below w.heap.size w (w'.setCell ⟨a0,240,none⟩ (.pointer (some ⟨b,0,none⟩)))/\w'.cell? ⟨a0,250,none⟩=some (.pointer (some ⟨a6,0,none⟩))/\(w'.setCell ⟨a0,240,none⟩ (.pointer (some ⟨b,0,none⟩))).cell? ⟨a0,250,none⟩=some (.pointer (some ⟨a6,0,none⟩))/\(∃v,w'.cell? ⟨a0,240,none⟩=some v)/\ ∀o,w'.frozen? ⟨a0,o,none⟩=false):=hZ (by
  have fo:ar w10.drew (A 6) Tr.g1:=S10.out.1.drew.fo;have q:=Mr (A 6) 0 Tr.g1 0 w10.drew fo (by rfl) (fun n hn=>by rw[Kn.Ll.hd n hn];exact aL 0) (by omega);rw[AA.out.2.2.2]at q;refine q.mono ?_;rintro e w' ⟨b,rfl,lb,tt,h2,k2⟩;rw[<-AA.out.2.2.2]at h2 k2;have q2:=S10.out.1.drew.zy h2 k2;have lt: ∀i,us ⟨A,fun _=> .slice none 0 0,{Kn.ml with fo:=Tr.g1}⟩ i->A i<b:=fun i hi=>aD (S10.out.1.lt hi) lb;have tt0:=tt base;rw[<-AA.out.2.2.2]at tt0;have q3:=q2.1.Lx (y:=0) (c:=b) (by omega) (v:= .slice none 0 0) (T:=Kn.nE) tt0 (fun i hi=>by have:=lt i hi;show A i≠b;omega) (fun g eg=>by cases eg) (by have:=S10.out.2.size;have:=HBS.out;have e1:w10.heap.size<=b:=lb;omega);have e0:A 0=a0:=AA.out.1;rw[show(⟨A,fun _=> .slice none 0 0,{Kn.ml with fo:=Tr.dc Tr.g1 ((Tr.jl Tr.g1 0:Nat):Int)}⟩:St).A 0=a0 from e0]at q3;have b2:Below w.heap.size w w':=k2.below S10.out.2.drew (by rw[HBS.out];exact S10.out.1.low 6 (az (by omega))) S10.out.2.size;obtain⟨C,ke,_⟩:=q2.1.kT;have ke':w'.heap[a0]? =some (.cells C 86 (0,0)):=by rw[<-e0];exact ke
  have l0:w.heap.size<=a0:=by rw[HBS.out,<-e0];exact S10.out.1.low 0 (az (by omega))
  have q4:w'.cell? ⟨a0,250,none⟩=some (.pointer (some ⟨a6,0,none⟩)):=by have:=q2.1.vF;rw[<-e0,<-AA.out.2.2.2];exact this
  refine⟨b,rfl,q3.1,q3.2.below b2 l0 b2.size,q4,by rw[cC ke' _ _ _ (by omega)];exact q4,?_,fun o=>bf ke' o⟩;have:=q2.1.dC 240 (by omega);rw[<-e0];exact⟨_,this⟩)
 have y1:=K0.out;go_region_held3 (fun w'=>w'.cell? ⟨a0,250,none⟩=some (.pointer (some ⟨a6,0,none⟩))) (first|exact K0.out|exact S11.out.2.2.1|exact S11.out.2.2.2.1) (
  (go_at_call 90;refine MN.out.mono ?_;rintro e w11 ⟨tb,rfl,q1,q2,q3,q4,q5,q6⟩;have S11:=hZ (aK q1 (aK q2 (aK q3 (aK q4 (aK q5 q6)))));clear q1 q2 q3 q4 q5 q6;have cy:=S11.out.2.2.2.2.1;obtain⟨vy,cy⟩:=cy;have fz:=S11.out.2.2.2.2.2))
 have S12:=hZ (aK S11.out.1 S11.out.2.1);clear K0 MN y1 cy fz S10;generalize w11.setCell ⟨a0,240,none⟩ (.pointer (some ⟨tb,0,none⟩))=W12 at*;clear S11;have EO:Hid ((Kn.gq ⟨A,fun _=> .slice none 0 0,{Kn.ml with fo:=Tr.dc Tr.g1 ((0:Nat):Int)}⟩ 0 tb (.slice none 0 0) Kn.nE).A 0=a0/\(Kn.gq ⟨A,fun _=> .slice none 0 0,{Kn.ml with fo:=Tr.dc Tr.g1 ((0:Nat):Int)}⟩ 0 tb (.slice none 0 0) Kn.nE).A 2=a2/\(Kn.gq ⟨A,fun _=> .slice none 0 0,{Kn.ml with fo:=Tr.dc Tr.g1 ((0:Nat):Int)}⟩ 0 tb (.slice none 0 0) Kn.nE).A 4=a4/\({(Kn.gq ⟨A,fun _=> .slice none 0 0,{Kn.ml with fo:=Tr.dc Tr.g1 ((0:Nat):Int)}⟩ 0 tb (.slice none 0 0) Kn.nE).k with gr:=Gr.iR Gr.t0 Gr.W0 0 1 0}:Kp)=Kn.jZ):=hZ (by
  refine⟨(Kn.eR _ _ _ _ _ (by omega) (by omega)).trans AA.out.1,(Kn.eR _ _ _ _ _ (by omega) (by omega)).trans AA.out.2.1,(Kn.eR _ _ _ _ _ (by omega) (by omega)).trans AA.out.2.2.1,?_⟩;have tbe:(fun i=>if i=0 then Kn.nE else Kn.nE)=fun _:Nat=>Kn.nE:=funext fun i=>by split<;>rfl
  show(⟨fun _=>Pr.no,fun i=>if i=0 then true else false,fun i=>if i=0 then Kn.nE else Kn.nE,Sp.t0,Gr.iR Gr.t0 Gr.W0 0 1 0,Wf.m0,Mv.Ab,Tr.dc Tr.g1 ((0:Nat):Int),Pp.fj,Fx.fj⟩:Kp)=_;rw[tbe];rfl)
 have GRK:Hid ((Kn.gq ⟨A,fun _=> .slice none 0 0,{Kn.ml with fo:=Tr.dc Tr.g1 ((0:Nat):Int)}⟩ 0 tb (.slice none 0 0) Kn.nE).k.gr=Gr.t0):=hZ rfl;generalize Kn.gq ⟨A,fun _=> .slice none 0 0,{Kn.ml with fo:=Tr.dc Tr.g1 ((0:Nat):Int)}⟩ 0 tb (.slice none 0 0) Kn.nE=s1 at*;have c247:=S12.out.1.sr;rw[EO.out.1,EO.out.2.1]at c247;have CG:Hid (Calls Tryz.prog 65 #[.pointer (some ⟨a2,0,none⟩), .int .i64 0, .int .i64 1, .int .i64 0] W12 fun e w'=> ∃v,e= .returned v/\ak w' base {s1 with k:=Kn.jZ}/\Below w.heap.size w w'):=hZ (by
  have gt:=S12.out.1.gr;rw[GRK.out]at gt;have q:=Gr.qU (s1.A 2) 0 1 0 Gr.t0 Gr.W0 W12 gt Gr.wA.ways (Gr.wA.small (by omega));rw[EO.out.2.1]at q;refine q.mono ?_;rintro e w' ⟨rfl,t4,f4⟩;rw[<-EO.out.2.1]at t4 f4;have q2:=S12.out.1.lf t4 f4.wI;rw[EO.out.2.2.2]at q2;exact⟨_,rfl,q2.1,f4.wI.below S12.out.2 (by rw[HBS.out];exact S12.out.1.low 2 (az (by omega))) S12.out.2.size⟩)
 go_wp2_with fail
 refine CG.out.mono ?_;rintro e w13 ⟨v13,rfl,k13,b13⟩;have S13:=hZ (aK k13 b13);clear k13 b13 CG c247 S12 GRK;have FP:Hid (Calls Tryz.prog 91 #[.pointer (some ⟨a0,0,none⟩)] w13 fun e w'=> ∃mb bb,e= .returned (.agg (du mb bb (Kn.gj 6)))/\cA w' mb a4 Mv.kX/\CX w' bb Sg.fj/\Below w13.heap.size w13 w'/\w13.heap.size<=mb/\w13.heap.size<=bb/\mb≠bb):=hZ (Fh a0 a4 w13 (by have:=S13.out.1.Q6;rw[show({s1 with k:=Kn.jZ}:St).A 0=a0 from EO.out.1,show({s1 with k:=Kn.jZ}:St).A 4=a4 from EO.out.2.2.1]at this;exact this) (by have:=S13.out.1.lt (az (i:=0) (by omega));rw[show({s1 with k:=Kn.jZ}:St).A 0=a0 from EO.out.1]at this;exact this));go_wp2_with fail
 refine FP.out.mono ?_;rintro e w14 ⟨mb,bb,rfl,um,ub,bl,lm,lb,mn⟩;have S14:Hid (ak w14 base {s1 with k:=Kn.jZ}/\Below w.heap.size w w14):=hZ ⟨S13.out.1.below bl,S13.out.2.trans (bl.mono S13.out.2.size)⟩;have lt: ∀i,us {s1 with k:=Kn.jZ} i->s1.A i<w13.heap.size:=fun i hi=>S13.out.1.lt hi;have bs:=S13.out.2.size;have ST0:=vV base {s1 with k:=Kn.jZ} w14 0 mb bb (Kn.gj 6) ((0:Nat):Int) (fun _=>1) S14.out.1 (by omega) Sp.uU (by rw[show({s1 with k:=Kn.jZ}:St).A 4=a4 from EO.out.2.2.1];exact um) ub (fun i hi=>by have:=lt i hi;show s1.A i≠mb;omega) (fun i hi=>by have:=lt i hi;show s1.A i≠bb;omega) mn (by have:=HBS.out;omega) (by have:=HBS.out;omega);rw[show({s1 with k:=Kn.jZ}:St).A 0=a0 from EO.out.1]at ST0;obtain⟨PA,hPA⟩:=nJ (du mb bb (Kn.gj 6));rw[hPA]at ST0|-;have ST:Hid (Calls Tryz.prog 68 #[.pointer (some ⟨a0,0,none⟩), .int .i64 0, .agg PA, .int .i64 0] w14 fun e w'=> ∃m',e= .returned (.tuple #[])/\Wf.im (Wf.dm Wf.m0 ((0:Nat):Int) 0) ((0:Nat):Int) true m'/\ak w' base {Kn.dk {s1 with k:=Kn.jZ} 0 mb bb (Kn.gj 6)with k:=Kn.kN m'}/\dq (KB {s1 with k:=Kn.jZ}) w14 w'):=hZ ST0;clear ST0 um ub bl lm lb mn lt bs hPA FP;go_wp2_with fail
 refine ST.out.mono ?_;rintro e w15 ⟨m',rfl,wk,k15,o15⟩;have S15:Hid (Wf.im (Wf.dm Wf.m0 ((0:Nat):Int) 0) ((0:Nat):Int) true m'/\ak w15 base {Kn.dk {s1 with k:=Kn.jZ} 0 mb bb (Kn.gj 6)with k:=Kn.kN m'}/\Below w.heap.size w w15):=hZ ⟨wk,k15,o15.behind S14.out.2 (fun b hb=>by rw[HBS.out];exact S14.out.1.Oh hb) S14.out.2.size⟩;clear wk k15 o15 ST;go_wp2
 go_ret
 refine⟨{Kn.dk {s1 with k:=Kn.jZ} 0 mb bb (Kn.gj 6)with k:=Kn.kN m'},m',?_,rfl,S15.out.1,by rw[HBS.out];exact S15.out.2.1,S15.out.2.2⟩;rw[show({Kn.dk {s1 with k:=Kn.jZ} 0 mb bb (Kn.gj 6)with k:=Kn.kN m'}:St).A 0=a0 from(Kn.dN {s1 with k:=Kn.jZ} 0 mb bb (Kn.gj 6) (i:=0) (by omega) (by omega)).trans EO.out.1];rfl
open Kn (Pr Kp St us KB KJ VI EI KH)
namespace Kn
theorem Fm {m1 m2:Wf.M}{r:Int}(k:Wf.im (Wf.dm Wf.m0 ((0:Nat):Int) 0) ((0:Nat):Int) true m1)(t:Wf.Ap m1 r m2):r=0:=by
 unfold Wf.im at k;subst k;have h: ∀n,n<20->(Wf.dm Wf.m0 ((0:Nat):Int) 0).here (10+n)=decide (n=0):=by decide
 rcases t.2 with⟨_,q⟩|⟨n,rfl,hn,e⟩
 ·exact aZ ⟨rfl,rfl⟩ q
 ·have e2:(Wf.dm Wf.m0 ((0:Nat):Int) 0).here (10+n)=true:=e;rw[h n hn]at e2;simpa using e2
theorem KH.tick {N:Nat}{d:Nat->Nat}{k:Kp}(h:KH N d k)(m:Wf.M):KH (N+1) d {k with sc:=m}:=by
 have kj:KJ (fun _=>False) (N+1) {k with sc:=m}:=(h.ki.vi.kj.mono (fun _ _ e=>e) (Nat.le_succ N)).nX m;exact⟨⟨⟨kj,h.ki.vi.iv,h.ki.vi.hs⟩,h.ki.fi,h.ki.pr,h.ki.h0⟩,fun j hj j0 s=>by
  obtain⟨q,a⟩:=h.pp j hj j0 s;exact⟨q,a.gx,a.qm,a.pq,a.lq,a.oq⟩,h.l0,h.p0,h.ge⟩
end Kn
section
variable (base : Nat) (s : St) (w : bD)
theorem H7 (h:ak w base s):
  Calls Tryz.prog 37 #[.pointer (some ⟨s.A 0,0,none⟩)] w fun e w'=> ∃(r:Int) (m:Wf.M),e= .returned (.int .i64 r)/\Wf.Ap s.k.sc r m/\ak w' base {s with k:={s.k with sc:=m}}/\KF s w {s with k:={s.k with sc:=m}} w':=by
 have c8:=h.LM;have TK:=hZ (Wf.JV (s.A 3) s.k.sc w h.sc);have H:=hZ h;obtain⟨a3,h3⟩:=nJ (s.A 3);have H3:=hZ h3;rw[h3]at c8 TK;generalize s.A 0=kb at*;clear h h3;go_in
 go_wp2_with fail
 refine TK.out.mono ?_;rintro e w1 ⟨r,m,rfl,t,u,f⟩;have S1:Hid (Wf.Ap s.k.sc r m/\ak w1 base {s with k:={s.k with sc:=m}}/\KF s w {s with k:={s.k with sc:=m}} w1):=hZ (by
  rw[<-H3.out]at u f;exact⟨t,H.out.nX u f⟩)
 clear t u f c8;go_wp2
 go_ret
 exact⟨r,m,rfl,S1.out⟩
end
def Kn.ug (k:Kp):Prop:= ∃m m',k={Kn.kN m with sc:=m'}
theorem Kn.ug.p {k:Kp}(h:Kn.ug k):k.p 0=Kn.gj 6/\(∀j,j≠0->k.p j=Pr.no)/\k.sp=Sp.dM Sp.t0 ((0:Nat):Int) ((0:Nat):Int):=by
 obtain⟨m,m',rfl⟩:=h;exact⟨Kn.ai Kn.jZ 0 (Kn.gj 6),fun j q=>Kn.ao Kn.jZ 0 j (Kn.gj 6) q,rfl⟩
theorem Kn.ug.live {k:Kp}(h:Kn.ug k):Kn.iD k 20=[0]:=by
 have e:Kn.lv k=fun n=>decide (n=0):=funext fun n=>by
  unfold Kn.lv;by_cases c:n=0
  ·rw[c,h.p.1];rfl
  ·rw[h.p.2.1 n c];simp[c];exact fun q=>by cases q
 unfold Kn.iD;rw[e];rfl
theorem EH (w:bD):
  Calls Tryz.prog 9 #[] w fun e w'=> ∃s:St,e= .returned (.tuple #[.pointer (some ⟨s.A 0,0,none⟩), .bool true])/\Kn.ug s.k/\KH 2 (fun _=>1) s.k/\ak w' w.heap.size s/\Below w.heap.size w w':=by
 go_in
 go_wp2_with fail
 refine(I6 _).mono ?_;rintro e w1 ⟨s,m,rfl,ek,wk,k1,b1⟩;have S1:=hZ (aK ek (aK wk (aK k1 b1)));have KH1:Hid (KH 1 (fun _=>1) s.k):=hZ (by rw[ek];exact Kn.QX m);clear ek wk k1 b1;have TK:=hZ (H7 w.heap.size s w1 S1.out.2.2.1);obtain⟨kb,hkb⟩:=nJ (s.A 0);have HK:=hZ hkb;rw[hkb]at TK|-;clear hkb;go_wp2_with fail
 refine TK.out.mono ?_;rintro e w2 ⟨r,m',rfl,t,k2,f2⟩;have r0:r=0:=Kn.Fm S1.out.2.1 (by
  have e:=S1.out.1;rw[e]at t;exact t)
 subst r0;have S2:Hid (Kn.ug {s.k with sc:=m'}/\KH 2 (fun _=>1) {s.k with sc:=m'}/\ak w2 w.heap.size {s with k:={s.k with sc:=m'}}/\Below w.heap.size w w2):=hZ ⟨⟨m,m',by rw[S1.out.1]⟩,KH1.out.tick m',k2,f2.behind S1.out.2.2.1 S1.out.2.2.2 (aL _) S1.out.2.2.2.size⟩;clear t k2 f2 TK;have PR:=hZ (vC w.heap.size {s with k:={s.k with sc:=m'}} w2 S2.out.2.2.1);rw[show({s with k:={s.k with sc:=m'}}:St).A 0=kb from HK.out,show Kn.iD ({s with k:={s.k with sc:=m'}}:St).k 20=[0]from S2.out.1.live]at PR;go_wp2_with fail
 refine PR.out.mono ?_;rintro e w3 ⟨v3,rfl,hL⟩;obtain⟨a,cap,hv⟩:=fC hL.own;have hv':v3= .slice a 1 cap:=hv;subst hv';have S3:Hid (ak w3 w.heap.size {s with k:={s.k with sc:=m'}}/\Below w.heap.size w w3):=hZ ⟨S2.out.2.2.1.below hL.bF,S2.out.2.2.2.trans (hL.bF.mono S2.out.2.2.2.size)⟩;clear hL hv PR;go_wp2
 go_ret2
 exact⟨{s with k:={s.k with sc:=m'}},by rw[show({s with k:={s.k with sc:=m'}}:St).A 0=kb from HK.out];rfl,S2.out.1,S2.out.2.1,S3.out⟩
theorem MU (a:Option Addr)(n c:Nat)(m:Int)(w:bD)(hn:m<(n:Int)):
  Calls Tryz.prog 10 #[.slice a n c, .int .i64 m] w fun e w'=>e= .returned (.bool false)/\w'=w:=by
 have d:decide ((n:Int)<=m)=false:=by simp;omega
 go_in
 go_wp2_with fail
 refine(yy _ _ _ _ _).mono ?_;rintro e w1 ⟨rfl,hw⟩;subst w1;rw[d];go_wp2
 go_ret
 exact⟨rfl,rfl⟩
theorem pN (E:Int)(w:bD):Calls Tryz.prog 23 #[aq E] w fun e w'=>e= .returned (.int .i64 E)/\w'=w:=by
 by_cases c:E=0
 ·subst c;rw[aa];go_in
  go_wp2
  go_ret
  exact⟨rfl,rfl⟩
 ·rw[aj c];have ha:=Ng E;go_in
  go_wp2
  go_ret
  exact⟨rfl,rfl⟩
namespace Kn
theorem uH {t:Nat->Gr.Gp}{Wy Wy0:Nat->List (Fin 10)}{c:Nat}(h:Gr.Tree t Wy0 c)(w:Gr.gQ t Wy):Gr.Tree t Wy c:=
 ⟨w,fun k hk=>by
  have l:=congrArg List.length ((w k hk).unique (h.ways k hk));unfold Gr.mD at l;simp only[List.length_map]at l;rw[l];exact h.deep k hk,h.root,h.par,h.own⟩
theorem lD {k:Kp}{n:Nat}(a:bc k (n:Int)=0):lv k n=true:=by
 obtain⟨n',e,_,l⟩:=fv a;obtain rfl:n=n':=by omega
 exact l
section
variable {N : Nat} {d : Nat -> Nat} {k k' : Kp}
theorem KH.more (h:KH N d k){M:Nat}(hM:N<=M):KH M d k:=h.gr hM (by obtain⟨Wy,g⟩:=h.ki.vi.kj.gr;exact⟨Wy,g.mono hM⟩)
theorem KH.fork (h:KH N d k){z:Int}{own:Bool}{p:Nat}{E:Int}(f:mN k z own p E k'): ∃d',KH (N+2) d' k':=by
 rcases f with⟨_,_,_,rfl⟩|⟨a,n,c,F,Wy,rfl,hn,fr,ways,f⟩
 ·exact⟨d,h.more (by omega)⟩
 ·have l:Kn.lv k n=true:=lD a;obtain⟨Wy0,g0⟩:=h.ki.vi.kj.gr;have g1:Gr.Tree k.gr Wy N:=uH g0 ways;have kc:KH (N+1) d (bS k Wy n):=h.gr (Nat.le_succ N) ⟨Wy,oL g1 _ _ _ (by omega) (by have:=YtpmmdkcfenjiaaaGreatDoor.qp (k.p n).mem 16;omega)⟩;rcases f with⟨_,_,_,rfl⟩|⟨_,_,_,_,rfl⟩|⟨_,_,_,_,_,rfl⟩|⟨f0,ch,hm,_,m',wk,rfl,_⟩
  ·exact⟨d,h.more (by omega)⟩
  ·exact⟨d,h.more (by omega)⟩
  ·obtain⟨Wy2,g2⟩:=kc.ki.vi.kj.gr;exact⟨d,(kc.gr (aL _) ⟨Wy2,mu g2 _ _ _⟩).more (by omega)⟩
  ·have jy:c<20/\(k.p c).st=0:=by
    rcases fr with q|q
    ·exact⟨q.2.1,q.2.2.1⟩
    ·omega
   obtain⟨y,oy⟩:=h.of hn (by rw[cW.1 l];omega);have y6:=(h.ki.vi.iv.bH hn oy).2;have iz:Sp.cQ (bS k Wy n).sp (n:Int)=y:=Sp.fG hn oy;cases own
   ·have e:=tj (bS k Wy n) n;have en:jF (bS k Wy n) n false=y:=iz;rw[e.1]at wk|-;rw[en];exact⟨d,kc.born (k2:=bS k Wy n) kc.ki.vi.kj kc.ki.vi.iv rfl rfl rfl hn l jy.1 jy.2 y6.1 y6.2 oy (.inl ⟨rfl,fun _ _ e=>e⟩) wk⟩
   ·have ea:Sp.gS (bS k Wy n).sp (y:Int)=0:=by unfold gG at hm;rw[aJ rfl,iz]at hm;exact hm
    obtain⟨z',ez,z6,zh,wl,f6,fh,fl⟩:=Sp.ny ea;obtain⟨e1,e2,_⟩:=uY iz ea rfl;have es:=Sp.add_eq ea;rw[e1]at wk|-;rw[e2];have kj2:=kc.ki.vi.kj.FU ea rfl;obtain⟨d2,iv2⟩:=kj2.sp;refine⟨d2,kc.born (k2:=xu (bS k Wy n) y (Sp.eI (bS k Wy n).sp)) kj2 iv2 rfl ?_ ?_ hn l jy.1 jy.2 f6 ?_ oy (.inr ⟨?_,?_,fh,?_⟩) wk⟩
    ·show(Sp.eP (bS k Wy n).sp (y:Int)).of=_;rw[es]
    ·show(Sp.eP (bS k Wy n).sp (y:Int)).ay=_;rw[es]
    ·show(Sp.eP (bS k Wy n).sp (y:Int)).here _=true;rw[es];exact aJ rfl
    ·intro e;rw[e]at fh;rw[show(bS k Wy n).sp.here y=true from y6.2]at fh;cases fh
    ·show(Sp.eP (bS k Wy n).sp (y:Int)).par _=_;rw[es];exact aJ rfl
    ·intro s s6 sh;have sh2:(Sp.eP (bS k Wy n).sp (y:Int)).here s=true:=sh;rw[es]at sh2;have sh3:(if s=Sp.eI (bS k Wy n).sp then true else(bS k Wy n).sp.here s)=true:=sh2;by_cases c:s=Sp.eI (bS k Wy n).sp
     ·exact .inl c
     ·rw[aI c]at sh3;exact .inr sh3
theorem KH.exit (h:KH N d k){z c:Int}(e:nV k z c k'):KH N d k':=by
 rcases e with⟨_,rfl⟩|⟨_,n,y,q,rfl,hn,n0,l,oy,_,_,hp,et⟩
 ·exact h
 ·exact h.end hn n0 l oy hp et
theorem KH.DS (h:KH N d k){n m:Nat}(hn:n<20)(l:Kn.lv k n=true)(hm:m∈fa k n):m<20/\m≠0/\(k.p m).par=(n:Int)/\(k.p m).st≠0/\ ∃y,k.sp.of n=y+1/\Sp.mem k.sp y m:=by
 obtain⟨y,oy⟩:=h.of hn (by rw[cW.1 l];omega);have y6:=(h.ki.vi.iv.bH hn oy).2;have p:=ov m hm;have a:=hm;unfold fa gU at a;rw[Sp.fG hn oy]at a;have b:=Sp.yE h.ki.vi.iv y6.1 y6.2 (bX.1 a).1;exact⟨b.1,fun e=>by rw[e,h.p0]at p;omega,p,(h.ki.vi.kj.of m b.1).1 (h.ki.vi.iv.mem_of y6.1 b.1 b.2).1,y,oy,b.2⟩
theorem KH.wait (h:KH N d k){z:Int}{p:Nat}{c E:Int}(w:rh k z p c E k'):KH N d k':=by
 rcases w with⟨_,_,_,_,rfl⟩|⟨a,n,rfl,hn,w⟩
 ·exact h
 ·rcases w with⟨_,_,_,_,rfl⟩|⟨_,_,_,_,_,rfl⟩|⟨_,i,m,hi,lm,_,_,_,v⟩
  ·exact h
  ·exact h
  ·have l:Kn.lv k n=true:=lD a;obtain⟨m20,m0,_,ms,_,_⟩:=h.DS hn l (bK hi);obtain⟨x,ox⟩:=h.of m20 ms;have m2:(k.p m).st=2:=by
    have:=h.ki.vi.kj.st m m20;have:(k.p m).st≠1:=fun e=>by rw[cW.2 e]at lm;cases lm
    omega
   exact(h.Ic m20 m0 m2 ox v).1
end
end Kn
def Kn.dX (k:Kp)(z f:Int):Int:=if Kn.bc k z=0 then(if f<0\/6<=f then 1 else if(k.p z.toNat).fd f.toNat= -1 then 2 else 0)else Kn.bc k z
theorem Kn.ql {k:Kp}{z f:Int}(h:Kn.dX k z f=0): ∃n g:Nat,z=n/\f=g/\n<20/\g<6/\Kn.lv k n=true/\(k.p n).fd g≠ -1:=by
 unfold Kn.dX at h;by_cases a:Kn.bc k z=0
 ·rw[aJ a]at h;obtain⟨n,rfl,hn,l⟩:=Kn.fv a;by_cases c:f<0\/6<=f
  ·rw[aJ c]at h;omega
  ·rw[aI c,hU]at h;obtain⟨g,rfl⟩:=aG (show 0<=f by omega);rw[hU]at h;by_cases e:(k.p n).fd g= -1
   ·rw[aJ e]at h;omega
   ·exact⟨n,g,rfl,rfl,hn,by omega,l,e⟩
 ·rw[aI a]at h;exact aZ h a
def qV (b:Nat)(z f E:Int):Value:=if E=0 then .pointer (some ⟨b,z.toNat*12+6+f.toNat,none⟩)else .pointer none
theorem oz (b n g:Nat):qV b (n:Int) (g:Int) 0= .pointer (some ⟨b,n*12+6+g,none⟩):=by unfold qV;rw[aJ rfl,hU,hU]
theorem yc {b:Nat}{z f E:Int}(h:E≠0):qV b z f E= .pointer none:=aI h
section
variable (base : Nat) (s : St) (w : bD)
theorem nD (z f:Int)(h:ak w base s):
  Calls Tryz.prog 76 #[.pointer (some ⟨s.A 0,0,none⟩), .int .i64 z, .int .i64 f] w fun e w'=>e= .returned (.tuple #[qV (s.A 0) z f (Kn.dX s.k z f),aq (Kn.dX s.k z f)])/\w'=w:=by
 have AC:=hZ (dg base s w z h);by_cases a:Kn.bc s.k z=0
 ·obtain⟨n,rfl,hn,hl⟩:=Kn.fv a;rw[a,aa,gN]at AC;by_cases c:f<0\/6<=f
  ·have E:Hid (Kn.dX s.k (n:Int) f=1):=hZ (by unfold Kn.dX;rw[aJ a,aJ c]);rw[E.out,yc (by decide),aj (by decide)];generalize s.A 0=kb at*;clear h a hl;by_cases c1:f<0
   ·clear c;go_in
    go_wp2_with fail
    refine AC.out.mono ?_;rintro e w1 ⟨rfl,hw⟩;subst w1;go_wp2
    go_ret2
    exact⟨rfl,rfl⟩
   ·have c2:6<=f:=by omega
    clear c;go_in
    go_wp2_with fail
    refine AC.out.mono ?_;rintro e w1 ⟨rfl,hw⟩;subst w1;go_wp2
    go_ret2
    exact⟨rfl,rfl⟩
  ·obtain⟨g,rfl⟩:=aG (show 0<=f by omega);have hg:g<6:=by omega
   have hgI:(g:Int)<6:=by omega
   have cf:=h.oN n g hn hg;by_cases e1:(s.k.p n).fd g= -1
   ·have E:Hid (Kn.dX s.k (n:Int) (g:Int)=2):=hZ (by unfold Kn.dX;rw[aJ a,aI c,hU,hU,aJ e1]);rw[E.out,yc (by decide),aj (by decide)];rw[e1]at cf;generalize s.A 0=kb at*;clear h a hl c e1;go_in
    go_wp2_with fail
    refine AC.out.mono ?_;rintro e w1 ⟨rfl,hw⟩;subst w1;go_wp2
    go_ret2
    exact⟨rfl,rfl⟩
   ·have E:Hid (Kn.dX s.k (n:Int) (g:Int)=0):=hZ (by unfold Kn.dX;rw[aJ a,aI c,hU,hU,aI e1]);rw[E.out,oz,aa];generalize (s.k.p n).fd g=v at*;have vB:(v== -1)=false:=by simpa using e1
    generalize s.A 0=kb at*;clear h a hl c;go_in
    go_wp2_with fail
    refine AC.out.mono ?_;rintro e w1 ⟨rfl,hw⟩;subst w1;go_wp2
    go_ret2
    exact⟨rfl,rfl⟩
 ·have E:Hid (Kn.dX s.k z f=Kn.bc s.k z):=hZ (aI a);rw[aj a]at AC;rw[E.out,yc a,aj a];clear h a;generalize fP (s.A 0) z (Kn.bc s.k z)=ap at*;generalize Kn.bc s.k z=ae at*;generalize s.A 0=kb at*;go_in
  go_wp2_with fail
  refine AC.out.mono ?_;rintro e w1 ⟨rfl,hw⟩;subst w1;go_wp2
  go_ret2
  exact⟨rfl,rfl⟩
def Kn.zx (k:Kp)(z f:Int):Int:=if Kn.dX k z f=0 then Fx.cE k.fi ((k.p z.toNat).fd f.toNat)else Kn.dX k z f
def Kn.mR (k:Kp)(z f:Int):Kp:=if Kn.dX k z f=0 then Kn.iO (Kn.eS k z.toNat f.toNat (-1)) ((k.p z.toNat).fd f.toNat)else k
theorem Cq (N:Nat)(z f:Int)(h:ak w base s)(hj:KJ (fun _=>False) N s.k)(hN:N<=900):
  Calls Tryz.prog 27 #[.pointer (some ⟨s.A 0,0,none⟩), .int .i64 z, .int .i64 f] w fun e w'=>e= .returned (aq (Kn.zx s.k z f))/\ak w' base {s with k:=Kn.mR s.k z f}/\KF s w {s with k:=Kn.mR s.k z f} w':=by
 have NB:=hZ (nD base s w z f h);have H:=hZ (aK h (aK hj hN));by_cases a:Kn.dX s.k z f=0
 ·obtain⟨n,g,rfl,rfl,hn,hg,hl,hf⟩:=Kn.ql a;have E:Hid (Kn.zx s.k (n:Int) (g:Int)=Fx.cE s.k.fi ((s.k.p n).fd g)/\Kn.mR s.k (n:Int) (g:Int)=Kn.iO (Kn.eS s.k n g (-1)) ((s.k.p n).fd g)):=hZ ⟨by unfold Kn.zx;rw[aJ a,hU,hU],by unfold Kn.mR;rw[aJ a,hU,hU]⟩;have cf:=h.oN n g hn hg;have fz:=h.frozen;have S1:=hZ (h.pg hn hg (-1));rw[a,aa,oz]at NB;rw[E.out.1,E.out.2];have XC:=hZ (v7 (s.A 8) (s.A 6) (s.A 7) ((s.k.p n).fd g) s.k.fi s.k.fo s.k.pi _ (S1.out.1.fx) hj.sm (fun m hm=>by have:=hj.rf m hm;have e1:(2:Nat)^60=1152921504606846976:=(by decide);omega));have c8:=S1.out.1.rC;rw[show({s with k:=Kn.eS s.k n g (-1)}:St).A 0=s.A 0 from rfl,show({s with k:=Kn.eS s.k n g (-1)}:St).A 8=s.A 8 from rfl]at c8;obtain⟨v,hv⟩:=nJ ((s.k.p n).fd g);rw[hv]at cf XC|-;obtain⟨kb,hkb⟩:=nJ (s.A 0);obtain⟨a8,ha8⟩:=nJ (s.A 8);have HK:=hZ (aK hkb ha8);rw[hkb]at NB cf fz S1 XC c8|-;rw[ha8]at XC c8;clear h hj hN a hl hf hkb ha8 hv;go_in
  go_wp2_with fail
  refine NB.out.mono ?_;rintro e w1 ⟨rfl,hw⟩;subst w1;go_wp2_with fail
  refine XC.out.mono ?_;rintro e w2 ⟨rfl,u2,f2⟩;have S2:Hid (ak w2 base {s with k:=Kn.iO (Kn.eS s.k n g (-1)) v}/\KF s w {s with k:=Kn.iO (Kn.eS s.k n g (-1)) v} w2):=hZ (by
   rw[<-HK.out.2]at u2 f2;have q:=S1.out.1.tA u2 f2;exact⟨q.1,S1.out.2.trans q.2⟩)
  clear u2 f2 c8 cf fz;go_wp2
  go_ret
  exact⟨rfl,S2.out⟩
 ·have E:Hid (Kn.zx s.k z f=Kn.dX s.k z f/\Kn.mR s.k z f=s.k):=hZ ⟨aI a,aI a⟩;rw[aj a]at NB;rw[E.out.1,E.out.2,aj a];clear h hj hN a;generalize qV (s.A 0) z f (Kn.dX s.k z f)=ap at*;generalize Kn.dX s.k z f=ae at*;generalize s.A 0=kb at*;go_in
  go_wp2_with fail
  refine NB.out.mono ?_;rintro e w1 ⟨rfl,hw⟩;subst w1;go_wp2
  go_ret
  exact⟨rfl,H.out.1,KF.refl _ _⟩
end
open Fx (Fi)
open Pp (Pi)
def Kn.ix (k:Kp)(T:Nat->Fi)(F:Fo)(S:Nat->Pi):Kp:={k with fi:=T,fo:=F,pi:=S}
def Kn.za (k:Kp)(z f:Int):Int:=(k.p z.toNat).fd f.toNat
theorem Kn.tO (k:Kp)(n g:Nat):Kn.za k (n:Int) (g:Int)=(k.p n).fd g:=by unfold Kn.za;rw[hU,hU]
def Kn.zF (k:Kp)(z f m:Int):Int:=if Kn.dX k z f=0 then Fx.dA k.fi k.fo k.pi (Kn.za k z f) m else Kn.dX k z f
def Kn.zv (k:Kp)(z f m:Int):bU:=if Kn.dX k z f=0 then Fx.qM k.fi k.fo k.pi (Kn.za k z f) m else⟨#[]⟩
def Kn.mP (k:Kp)(z f m:Int):Kp:=if Kn.dX k z f=0 then Kn.ix k (Fx.gE k.fi k.fo (Kn.za k z f) m) k.fo (Fx.oF k.fi k.pi (Kn.za k z f) m)else k
section
variable (base : Nat) (s : St) (w : bD)
theorem Ex (z f m:Int)(h:ak w base s)(hz:Tr.sY s.k.fo)(hp:Fx.Pz s.k.fi):
  Calls Tryz.prog 124 #[.pointer (some ⟨s.A 0,0,none⟩), .int .i64 z, .int .i64 f, .int .i64 m] w fun e w'=>e= .returned (.tuple #[.string (Kn.zv s.k z f m),aq (Kn.zF s.k z f m)])/\ak w' base {s with k:=Kn.mP s.k z f m}/\KF s w {s with k:=Kn.mP s.k z f m} w':=by
 have NB:=hZ (nD base s w z f h);have H:=hZ (aK h (aK hz hp));by_cases a:Kn.dX s.k z f=0
 ·obtain⟨n,g,rfl,rfl,hn,hg,hl,hf⟩:=Kn.ql a;have E:Hid (Kn.zF s.k (n:Int) (g:Int) m=Fx.dA s.k.fi s.k.fo s.k.pi ((s.k.p n).fd g) m/\Kn.zv s.k (n:Int) (g:Int) m=Fx.qM s.k.fi s.k.fo s.k.pi ((s.k.p n).fd g) m/\Kn.mP s.k (n:Int) (g:Int) m=Kn.ix s.k (Fx.gE s.k.fi s.k.fo ((s.k.p n).fd g) m) s.k.fo (Fx.oF s.k.fi s.k.pi ((s.k.p n).fd g) m)):=hZ ⟨by unfold Kn.zF;rw[aJ a,Kn.tO],by unfold Kn.zv;rw[aJ a,Kn.tO],by unfold Kn.mP;rw[aJ a,Kn.tO]⟩;rw[a,aa,oz]at NB;rw[E.out.1,E.out.2.1,E.out.2.2];have XR:=hZ (IU (s.A 8) (s.A 6) (s.A 7) ((s.k.p n).fd g) m s.k.fi s.k.fo s.k.pi w.drew h.drew.fx hz hp);have K0:Hid (w.cell? ⟨s.A 0,252,none⟩=some (.pointer (some ⟨s.A 8,0,none⟩))/\w.cell? ⟨s.A 0,n*12+6+g,none⟩=some (.int .i64 ((s.k.p n).fd g))):=hZ ⟨h.rC,h.oN n g hn hg⟩;obtain⟨v,hv⟩:=nJ ((s.k.p n).fd g);obtain⟨kb,hkb⟩:=nJ (s.A 0);obtain⟨a8,ha8⟩:=nJ (s.A 8);have HK:=hZ (aK hkb (aK ha8 hv));rw[hv]at XR K0|-;rw[hkb]at NB K0|-;rw[ha8]at XR K0;clear h hz hp a hl hf hkb ha8 hv;go_in
  go_wp2_with fail
  refine NB.out.mono ?_;rintro e w1 ⟨rfl,hw⟩;subst w1;go_upto_region 4 with fail
  obtain⟨y1,y2⟩:=K0.out;go_region_held3 (fun w'=>w'.cell? ⟨kb,252,none⟩=some (.pointer (some ⟨a8,0,none⟩))/\w'.cell? ⟨kb,n*12+6+g,none⟩=some (.int .i64 v)) (first|exact K0.out|exact K4.out) (
   (go_at_call 202;refine XR.out.mono ?_;rintro e w4 ⟨rfl,t4,f4⟩;have S4:Hid (ak w4 base {s with k:=Kn.ix s.k (Fx.gE s.k.fi s.k.fo v m) s.k.fo (Fx.oF s.k.fi s.k.pi v m)}/\KF s w {s with k:=Kn.ix s.k (Fx.gE s.k.fi s.k.fo v m) s.k.fo (Fx.oF s.k.fi s.k.pi v m)} w4):=hZ (by
    rw[<-HK.out.2.1]at t4 f4;have q:=H.out.1.drew.tA t4 f4;exact⟨q.1,(KF.drew _ _).trans q.2⟩);have K4:Hid (w4.cell? ⟨kb,252,none⟩=some (.pointer (some ⟨a8,0,none⟩))/\w4.cell? ⟨kb,n*12+6+g,none⟩=some (.int .i64 v)):=hZ (by
    obtain⟨e1,e2,e3⟩:=HK.out;have q1:=S4.out.1.rC;have q2:=S4.out.1.oN n g hn hg;rw[<-e1,<-e2,<-e3];exact⟨q1,q2⟩);clear t4 f4))
  go_wp2
  go_ret2
  exact⟨rfl,S4.out⟩
 ·have E:Hid (Kn.zF s.k z f m=Kn.dX s.k z f/\Kn.zv s.k z f m=⟨#[]⟩/\Kn.mP s.k z f m=s.k):=hZ ⟨aI a,aI a,aI a⟩;rw[aj a]at NB;rw[E.out.1,E.out.2.1,E.out.2.2,aj a];clear h hz hp a;generalize qV (s.A 0) z f (Kn.dX s.k z f)=ap at*;generalize Kn.dX s.k z f=ae at*;generalize s.A 0=kb at*;go_in
  go_wp2_with fail
  refine NB.out.mono ?_;rintro e w1 ⟨rfl,hw⟩;subst w1;go_wp2
  go_ret2
  exact⟨rfl,H.out.1,KF.refl _ _⟩
end
theorem I8 (w:bD):Sem.run Tryz.prog (binOp BinOp.eql 34 (.iface 100 (.int .i64 12)) (.iface 100 (.int .i64 12))) w= .ok (.bool true) w:=by kernel_rfl
theorem Jr (w:bD):Sem.run Tryz.prog (binOp BinOp.eql 34 .nilIface (.iface 100 (.int .i64 12))) w= .ok (.bool false) w:=by kernel_rfl
theorem Jt (w:bD)(E:Int):Sem.run Tryz.prog (binOp BinOp.eql 34 (.iface 100 (.int .i64 E)) (.iface 100 (.int .i64 12))) w= .ok (.bool (E==12)) w:=by kernel_rfl
section
variable (base N : Nat) (d : Nat -> Nat) (s : St) (w : bD)
theorem GC (hN:N<=900)(n:Nat)(c:Int)(h:ak w base s)(hn:n<20)(hl:Kn.lv s.k n=true)(hi:Kn.KI N d s.k):
  Calls Tryz.prog 151 #[.pointer (some ⟨s.A 0,0,none⟩), .int .i64 n, .int .i64 c] w fun e w'=> ∃(y q:Nat) (k':Kp),e= .returned (.tuple #[])/\Kn.mQ (Kn.gH s.k n c) n y q k'/\(s.k.sp.of n=y+1/\(n≠0->q<20/\q≠n/\(s.k.p n).par=(q:Int)))/\ak w' base {s with k:=k'}/\KF s w {s with k:=k'} w':=by
 have hnI:(n:Int)<20:=by omega
 have hh:=hi.has hn hl;have c5:=h.qS n hn hh;have SE:=hZ (uF (s.A (29+n)) c (s.k.p n).box w (h.bx n hn hh));have H:=hZ (aK h (aK hh (aK hi (aK hl hN))));obtain⟨kb,hkb⟩:=nJ (s.A 0);have HK:=hZ hkb;obtain⟨bb,hbb⟩:=nJ (s.A (29+n));have HB:=hZ hbb;rw[hkb]at c5|-;rw[hbb]at c5 SE;clear h hh hl hi hN hkb hbb;go_in
 go_wp2_with fail
 refine SE.out.mono ?_;rintro e w1 ⟨rfl,u1,f1⟩;generalize aq (Sg.bj c)=ev;have S1:Hid (ak w1 base {s with k:=Kn.gH s.k n c}/\KF s w {s with k:=Kn.gH s.k n c} w1):=hZ (by
  rw[<-HB.out]at u1 f1;exact H.out.1.tE hn H.out.2.1 u1 f1)
 clear u1 f1 c5;obtain⟨y,q,li⟩:=H.out.2.2.1.li hn H.out.2.2.2.1 (Sg.kM (s.k.p n).box c);have LK:=hZ (ru base N d {s with k:=Kn.gH s.k n c} w1 H.out.2.2.2.2 n y q (fun _=>H.out.2.2.1.h0) S1.out.1 li);rw[show({s with k:=Kn.gH s.k n c}:St).A 0=kb from HK.out]at LK;have HY:Hid (s.k.sp.of n=y+1/\(n≠0->q<20/\q≠n/\(s.k.p n).par=(q:Int))):=hZ ⟨li.ho,fun n0=>by
  have a:=li.pr n0;have e:((Kn.ca s.k n (Sg.kM (s.k.p n).box c)).p n).par=(s.k.p n).par:=by unfold Kn.ca;rw[Kn.ai]
  rw[e]at a;exact a⟩
 clear li;go_wp2_with fail
 refine LK.out.mono ?_;rintro e w2 ⟨k',rfl,et,ka,kf⟩;have S2:Hid (Kn.mQ (Kn.gH s.k n c) n y q k'/\(s.k.sp.of n=y+1/\(n≠0->q<20/\q≠n/\(s.k.p n).par=(q:Int)))/\ak w2 base {s with k:=k'}/\KF s w {s with k:=k'} w2):=hZ ⟨et,HY.out,ka,S1.out.2.trans kf⟩;clear et ka kf;go_wp2_with fail
 go_end0
 exact⟨y,q,k',rfl,S2.out⟩
def Kn.pX (k:Kp)(v:Int)(t:bU):Kp:=Kn.ix k (Fx.oD k.fi k.fo v t) (Fx.dF k.fi k.fo v t) (Fx.uN k.fi k.pi v t)
def Kn.tU (k:Kp)(z f:Int)(t:bU)(K:Nat)(E:Int)(k':Kp):Prop:=
 (Kn.dX k z f≠0/\K=0/\E=Kn.dX k z f/\k'=k)
 \/(Kn.dX k z f=0/\ ∃n g:Nat,z=n/\f=g/\n<20/\g<6/\Kn.lv k n=true/\K=Fx.gC k.fi k.fo k.pi ((k.p n).fd g) t/\E=Fx.cV k.fi k.fo k.pi ((k.p n).fd g) t
  /\((E≠12/\k'=Kn.pX k ((k.p n).fd g) t)\/(E=12/\ ∃y q,Kn.mQ (Kn.gH (Kn.pX k ((k.p n).fd g) t) n 2) n y q k'/\k.sp.of n=y+1/\(n≠0->q<20/\q≠n/\(k.p n).par=(q:Int)))))
theorem Ci (hN:N<=900)(z f:Int)(t:bU)(h:ak w base s)(ht:t.size<2^59)(hp:Fx.Pz s.k.fi)(hi:Kn.dX s.k z f=0->Kn.KI N d (Kn.pX s.k (Kn.za s.k z f) t)):
  Calls Tryz.prog 125 #[.pointer (some ⟨s.A 0,0,none⟩), .int .i64 z, .int .i64 f, .string t] w fun e w'=> ∃(K:Nat) (E:Int) (k':Kp),e= .returned (.tuple #[.int .i64 (K:Int),aq E])/\Kn.tU s.k z f t K E k'/\ak w' base {s with k:=k'}/\KF s w {s with k:=k'} w':=by
 have NB:=hZ (nD base s w z f h);by_cases a:Kn.dX s.k z f=0
 ·obtain⟨n,g,rfl,rfl,hn,hg,hl,hf⟩:=Kn.ql a;have hiA:=hi a;rw[Kn.tO]at hiA;have H:=hZ (aK h (aK hiA (aK hN (aK a hl))));rw[a,aa,oz]at NB;have XR:=hZ (DM (s.A 8) (s.A 6) (s.A 7) ((s.k.p n).fd g) t s.k.fi s.k.fo s.k.pi w.drew h.drew.fx ht hp);have K0:Hid (w.cell? ⟨s.A 0,252,none⟩=some (.pointer (some ⟨s.A 8,0,none⟩))/\w.cell? ⟨s.A 0,n*12+6+g,none⟩=some (.int .i64 ((s.k.p n).fd g))):=hZ ⟨h.rC,h.oN n g hn hg⟩;obtain⟨v,hv⟩:=nJ ((s.k.p n).fd g);obtain⟨kb,hkb⟩:=nJ (s.A 0);obtain⟨a8,ha8⟩:=nJ (s.A 8);have HK:=hZ (aK hkb (aK ha8 hv));rw[hv]at XR K0;rw[hkb]at NB K0|-;rw[ha8]at XR K0;obtain⟨E,hE⟩:=nJ (Fx.cV s.k.fi s.k.fo s.k.pi v t);obtain⟨K,hKK⟩:=nJ (Fx.gC s.k.fi s.k.fo s.k.pi v t);have HE:=hZ (aK hE hKK);rw[hE,hKK]at XR;clear h ht hp hi hiA hN a hl hf hkb ha8 hv hE hKK;go_in
  go_wp2_with fail
  refine NB.out.mono ?_;rintro e w1 ⟨rfl,hw⟩;subst w1;go_upto_region 4 with fail
  obtain⟨y1,y2⟩:=K0.out;go_region_held3 (fun w'=>w'.cell? ⟨kb,252,none⟩=some (.pointer (some ⟨a8,0,none⟩))/\w'.cell? ⟨kb,n*12+6+g,none⟩=some (.int .i64 v)) (first|exact K0.out|exact K4.out) (
   (go_at_call 203;refine XR.out.mono ?_;rintro e w4 ⟨rfl,t4,f4⟩;have S4:Hid (ak w4 base {s with k:=Kn.pX s.k v t}/\KF s w {s with k:=Kn.pX s.k v t} w4):=hZ (by
     rw[<-HK.out.2.1]at t4 f4;have q:=H.out.1.drew.tA t4 f4;exact⟨q.1,(KF.drew _ _).trans q.2⟩);have K4:Hid (w4.cell? ⟨kb,252,none⟩=some (.pointer (some ⟨a8,0,none⟩))/\w4.cell? ⟨kb,n*12+6+g,none⟩=some (.int .i64 v)):=hZ (by
     obtain⟨e1,e2,e3⟩:=HK.out;have q1:=S4.out.1.rC;have q2:=S4.out.1.oN n g hn hg;rw[<-e1,<-e2,<-e3];exact⟨q1,q2⟩);clear t4 f4))
  by_cases e12:E=12
  ·have E12:=hZ e12;have SD:=hZ (GC base N d {s with k:=Kn.pX s.k v t} w4 H.out.2.2.1 n 2 S4.out.1 hn H.out.2.2.2.2 (by rw[<-HK.out.2.2];exact H.out.2.1));rw[show({s with k:=Kn.pX s.k v t}:St).A 0=kb from HK.out.1]at SD;rw[e12,aj (by decide)];clear e12;go_wp2_with fail
   rw[I8];go_wp2_with fail
   refine SD.out.mono ?_;rintro e w5 ⟨y,q,k',rfl,lt,yq,ka,kf⟩;have S5:Hid (Kn.tU s.k (n:Int) (g:Int) t K 12 k'/\ak w5 base {s with k:=k'}/\KF s w {s with k:=k'} w5):=hZ ⟨.inr ⟨H.out.2.2.2.1,n,g,rfl,rfl,hn,hg,H.out.2.2.2.2,by rw[HK.out.2.2];exact HE.out.2.symm,by rw[HK.out.2.2];exact(HE.out.1.trans E12.out).symm, .inr ⟨rfl,y,q,by rw[HK.out.2.2];exact lt,yq⟩⟩,ka,S4.out.2.trans kf⟩;clear lt yq ka kf;go_wp2
   go_ret2
   exact⟨K,12,k',by rw[aj (by decide)];rfl,S5.out⟩
  ·have FIN:Hid (Kn.tU s.k (n:Int) (g:Int) t K E (Kn.pX s.k v t)):=hZ (.inr ⟨H.out.2.2.2.1,n,g,rfl,rfl,hn,hg,H.out.2.2.2.2,by rw[HK.out.2.2];exact HE.out.2.symm,by rw[HK.out.2.2];exact HE.out.1.symm, .inl ⟨e12,by rw[HK.out.2.2]⟩⟩);by_cases e0:E=0
   ·rw[e0,aa];have E0:=hZ e0;clear e12 e0;go_wp2_with fail
    rw[Jr];go_wp2
    go_ret2
    exact⟨K,E,_,by rw[E0.out,aa];rfl,FIN.out,S4.out⟩
   ·have EV:=hZ (aj e0);have eB:(E==12)=false:=by simpa using e12
    rw[aj e0];clear e0;go_wp2_with fail
    rw[Jt,eB];go_wp2
    go_ret2
    exact⟨K,E,_,by rw[EV.out];rfl,FIN.out,S4.out⟩
 ·have FIN:Hid (Kn.tU s.k z f t 0 (Kn.dX s.k z f) s.k):=hZ (.inl ⟨a,rfl,rfl,rfl⟩);have HE:=hZ (aj a);have H:=hZ h;rw[aj a]at NB;clear h ht hp a hi hN;generalize qV (s.A 0) z f (Kn.dX s.k z f)=ap at*;generalize s.A 0=kb at*;go_in
  go_wp2_with fail
  refine NB.out.mono ?_;rintro e w1 ⟨rfl,hw⟩;subst w1;go_wp2
  go_ret2
  exact⟨0,Kn.dX s.k z f,s.k,by rw[HE.out];rfl,FIN.out,H.out,KF.refl _ _⟩
end
def Kn.fR (k:Kp)(n j:Nat):List Nat:=(List.range j).filter (fun f=>decide ((k.p n).fd f= -1))
theorem Kn.MC {k:Kp}{n j:Nat}(h:(k.p n).fd j= -1):Kn.fR k n (j+1)=Kn.fR k n j++[j]:=by
 unfold Kn.fR;rw[List.range_succ,List.filter_append];simp[h]
theorem Kn.Om {k:Kp}{n j:Nat}(h: ¬(k.p n).fd j= -1):Kn.fR k n (j+1)=Kn.fR k n j:=by
 unfold Kn.fR;rw[List.range_succ,List.filter_append];simp[h]
theorem Kn.CS (k:Kp)(n j:Nat):(Kn.fR k n j).length<=j:=by
 unfold Kn.fR;refine aH (bW _ _) ?_;rw[List.length_range];exact aL _
theorem Kn.yg {k:Kp}{n f:Nat}(h:f∈Kn.fR k n 6):f<6/\(k.p n).fd f= -1:=by
 unfold Kn.fR at h;have a:=bX.1 h;exact⟨List.mem_range.1 a.1,by simpa using a.2⟩
theorem Kn.Mx {k:Kp}{n:Nat}(h:2<=(Kn.fR k n 6).length): ∃f g,(Kn.fR k n 6).getD 0 0=f/\(Kn.fR k n 6).getD 1 0=g/\f<6/\g<6/\f≠g:=by
 have nd:(Kn.fR k n 6).Nodup:=List.Pairwise.filter _ (List.nodup_range);refine⟨_,_,rfl,rfl,?_⟩
 match hL:Kn.fR k n 6,h,nd with
 |[],h,_=>simp at h
 |[x],h,_=>simp at h
 |x::y::L,_,nd=>
  have hx:=Kn.yg (k:=k) (n:=n) (f:=x) (by rw[hL];simp);have hy:=Kn.yg (k:=k) (n:=n) (f:=y) (by rw[hL];simp);refine⟨hx.1,hy.1,?_⟩;have:=List.nodup_cons.1 nd;intro e;have e':x=y:=e;exact this.1 (by rw[e'];simp)
section
variable (base N : Nat) (d : Nat -> Nat) (s : St) (w : bD)
theorem ra (n:Nat)(h:ak w base s)(hn:n<20):
  Calls Tryz.prog 196 #[.pointer (some ⟨s.A 0,n*12,none⟩)] w fun e w'=> ∃v,e= .returned v/\LO w (Kn.fR s.k n 6) v w':=by
 obtain⟨i0,hi,hz0,hz1,hz2⟩:=info_parts vG;obtain⟨fd,hfd⟩:=nJ ((s.k.p n).fd);obtain⟨kb,hkb⟩:=nJ (s.A 0);have LD:Hid (∀j,j<(kE fd).size->w.cell? ⟨kb,n*12+6+j,none⟩=(kE fd)[j]?):=hZ (fun j hj=>by
  have q:=h.fds hn j (by rw[hfd];exact hj);rw[hfd]at q;rw[<-hkb];exact q)
 have hsz:Hid ((Tryz.prog.info? 72).map (·.size)=some (kE fd).size):=hZ (by rw[oP];kernel_rfl);have HFD:=hZ hfd;rw[hkb];clear h hfd hkb;go_in
 go_wp2_with (refine jb rfl 72 _ rfl kb (n*12+6) rfl (kE fd) 6 3 LD.out (by kernel_rfl) hsz.out ?_)
 go_loopw [3,4,5,10] (fun l _ _ i wr=> ∃(k:Nat),i= .int .i64 k/\k<=6/\Hid (LO w (Kn.fR s.k n k) l wr)) (fun _ _ _ i _=>6-(intOf i).toNat)
 case atStart=>exact⟨0,rfl,by omega,LO.nil w⟩
 case round=>
  obtain⟨k,rfl,hk,R⟩:=hrel;clear LD;by_cases hlt:k<6
  ·have hltI:(k:Int)<6:=by omega
   have hix:=uV fd k hlt wr;obtain⟨z,hz⟩:=nJ (fd k);have HZ:=hZ hz;rw[hz]at hix;clear hz;by_cases hz1:z= -1
   ·have HM:=hZ (Kn.MC (k:=s.k) (n:=n) (j:=k) (by rw[HFD.out,HZ.out,hz1]));subst hz1;obtain⟨a,cap,hv⟩:=fC R.out.own;rw[hv];have HV:=hZ hv;have hlm:=Kn.CS s.k n k;generalize hN:(Kn.fR s.k n k).length=M at*;have HN:=hZ hN;clear hv hN;go_wp2_with (at_builtin;refine wpList_append_lies _ rfl _ _ 46 (by rfl) w.heap.size 3 i0 (.int .i64 0) 1 8 Tryz.underlying46 hi hz0 hz1 hz2 rfl (by decide) (.slice a M cap) M (rowOf (Kn.fR s.k n k)) (by rfl) (by rw[<-HV.out,<-HN.out];exact R.out.own.alloc _) ⟨wr.heap.size,0,none⟩ 1 1 [.int .i64 k] (by rfl) rfl (cell_one_new _ _ _) (by simp[Value.oneCell']) (by decide) (by unfold maxLen;omega) (by omega) (by have:=R.out.bF.size;simp;omega) (wr.heap.size+1) (by simp) ?_;intro gg cap2 w1 hown hgrow hat hlt2;have Q1:Hid (LO w (Kn.fR s.k n k++[k]) (.slice (some ⟨gg,0,none⟩) (M+1) cap2) w1):=R.out.more HN.out hown _ (by rw[HV.out];exact hgrow);clear hown hgrow hat hlt2)
    go_roundw
    case rel=>exact⟨k+1,by go_num,by omega,by rw[HM.out];exact Q1⟩
    case measure=>simp[intOf];omega
   ·have HM:=hZ (Kn.Om (k:=s.k) (n:=n) (j:=k) (by rw[HFD.out,HZ.out];exact hz1));have z1:(z== -1)=false:=by simpa using hz1
    clear hz1;go_wp2
    go_roundw
    case rel=>exact⟨k+1,by go_num,by omega,by rw[HM.out];exact R⟩
    case measure=>simp[intOf];omega
  ·obtain rfl:k=6:=by omega
   go_wp2
   go_ret
   exact⟨_,rfl,R.out⟩
end
def Kn.ti (k:Kp)(z:Int)(A C:Nat)(E:Int)(k':Kp):Prop:=
 (Kn.bc k z≠0/\A=0/\C=0/\E=Kn.bc k z/\k'=k)
 \/(Kn.bc k z=0/\ ∃n:Nat,z=n/\n<20/\((¬2<=(Kn.fR k n 6).length/\A=0/\C=0/\E=4/\k'=k)
  \/(2<=(Kn.fR k n 6).length/\ ∃(a c:Nat) (T:Nat->Fi) (S:Nat->Pi),Fx.ts k.fi k.pi a c E T S/\((E≠0/\A=0/\C=0/\k'=Kn.ix k T k.fo S)\/(E=0/\A=(Kn.fR k n 6).getD 0 0/\C=(Kn.fR k n 6).getD 1 0/\k'=Kn.eS (Kn.eS (Kn.ix k T k.fo S) n A (a:Int)) n C (c:Int))))))
section
variable (base N : Nat) (d : Nat -> Nat) (s : St) (w : bD)
theorem DJ (z:Int)(h:ak w base s):
  Calls Tryz.prog 123 #[.pointer (some ⟨s.A 0,0,none⟩), .int .i64 z] w fun e w'=> ∃(A C:Nat) (E:Int) (k':Kp),e= .returned (.tuple #[.int .i64 (A:Int), .int .i64 (C:Int),aq E])/\Kn.ti s.k z A C E k'/\ak w' base {s with k:=k'}/\KF s w {s with k:=k'} w':=by
 have AC:=hZ (dg base s w z h);have H:=hZ h;by_cases a:Kn.bc s.k z=0
 ·obtain⟨n,rfl,hn,hl⟩:=Kn.fv a;have HA:=hZ a;rw[a,aa,gN]at AC;have FR1:=hZ (ra base s w n h hn);obtain⟨kb,hkb⟩:=nJ (s.A 0);obtain⟨a8,ha8⟩:=nJ (s.A 8);have HK:=hZ (aK hkb ha8);rw[hkb]at AC FR1|-;clear h a hl hkb ha8;go_in
  go_wp2_with fail
  refine AC.out.mono ?_;rintro e w1 ⟨rfl,hw⟩;subst w1;go_wp2_with fail
  refine FR1.out.mono ?_;rintro e w1 ⟨v,rfl,lo⟩;have K1:Hid (ak w1 base s/\KF s w s w1):=hZ ⟨H.out.below lo.bF,KF.below lo.bF⟩;by_cases l2:2<=(Kn.fR s.k n 6).length
  ·obtain⟨gg,cap,hv,hgg,hc⟩:=lo.cells (by omega);obtain⟨f,g,hf,hg,f6,g6,fg⟩:=Kn.Mx l2;have y0:=hc 0 (by omega);have y1:=hc 1 (by omega);rw[hf]at y0;rw[hg]at y1;have fI:(f:Int)<6:=by omega
   have gI:(g:Int)<6:=by omega
   have GB:Hid (∀i,us s i->gg≠s.A i):=hZ (fun i hi e=>by
    have:=H.out.lt hi;have q:=lo.own;rw[hv]at q;have q2:=q.lt gg rfl;omega)
   have L3:=hZ (aK hf hg);have L2:Hid (2<=(Kn.fR s.k n 6).length/\(Kn.fR s.k n 6).getD 0 0=f/\(Kn.fR s.k n 6).getD 1 0=g):=hZ ⟨l2,hf,hg⟩;rw[hv];have hlm:=Kn.CS s.k n 6;generalize (Kn.fR s.k n 6).length=M at l2 hlm y0 y1|-;have lI:((M:Int)<2)=False:=by simp;omega
   have M0:(0:Int)<(M:Int):=by omega
   have M1:(1:Int)<(M:Int):=by omega
   clear hv hc lo hf hg;have c8:=K1.out.1.rC;rw[HK.out.1,HK.out.2]at c8;have XP:=hZ (Gj (s.A 8) (s.A 6) (s.A 7) s.k.fi s.k.fo s.k.pi w1 K1.out.1.fx);rw[HK.out.2]at XP;go_wp2_with fail
   refine XP.out.mono ?_;rintro e w2 ⟨a,c,E,T,S,rfl,pt,u2,f2⟩;have S2:Hid (ak w2 base {s with k:=Kn.ix s.k T s.k.fo S}/\KF s w {s with k:=Kn.ix s.k T s.k.fo S} w2):=hZ (by
    rw[<-HK.out.2]at u2 f2;have q:=K1.out.1.tA u2 f2;exact⟨q.1,K1.out.2.trans q.2⟩)
   have PT:=hZ pt;have G2:Hid (gg<w2.heap.size):=hZ (aD hgg f2.size);have YY:Hid (w2.cell? ⟨gg,0,none⟩=some (.int .i64 (f:Int))/\w2.cell? ⟨gg,1,none⟩=some (.int .i64 (g:Int))):=hZ (by
    have e:=f2.block gg hgg (by rw[<-HK.out.2];exact GB.out 8 (az (by omega))) (GB.out 6 (az (by omega))) (GB.out 7 (az (by omega)));exact⟨(aV e).trans y0,(aV e).trans y1⟩)
   clear u2 f2 c8 pt;by_cases e0:E=0
   ·have E0:=hZ e0;rw[e0,aa];clear e0;go_upto_region 10 with fail
    obtain⟨x0,x1⟩:=YY.out;have gk:gg≠kb:=by rw[<-HK.out.1];exact GB.out 0 (az (by omega))
    obtain⟨W3,hW3⟩:=nJ (w2.setCell ⟨kb,n*12+6+f,none⟩ (.int .i64 (a:Int)));obtain⟨W4,hW4⟩:=nJ (W3.setCell ⟨kb,n*12+6+g,none⟩ (.int .i64 (c:Int)));have S3:Hid (ak W3 base {s with k:=Kn.eS (Kn.ix s.k T s.k.fo S) n f (a:Int)}/\KF s w {s with k:=Kn.eS (Kn.ix s.k T s.k.fo S) n f (a:Int)} W3):=hZ (by
     have q:=S2.out.1.pg hn f6 (a:Int);rw[show({s with k:=Kn.ix s.k T s.k.fo S}:St).A 0=kb from HK.out.1,hW3]at q;exact⟨q.1,S2.out.2.trans q.2⟩)
    have S4:Hid (ak W4.drew base {s with k:=Kn.eS (Kn.eS (Kn.ix s.k T s.k.fo S) n f (a:Int)) n g (c:Int)}/\KF s w {s with k:=Kn.eS (Kn.eS (Kn.ix s.k T s.k.fo S) n f (a:Int)) n g (c:Int)} W4.drew):=hZ (by
     have q:=S3.out.1.pg hn g6 (c:Int);rw[show({s with k:=Kn.eS (Kn.ix s.k T s.k.fo S) n f (a:Int)}:St).A 0=kb from HK.out.1,hW4]at q;exact⟨q.1.drew,S3.out.2.trans (q.2.trans (KF.drew _ _))⟩)
    have b3:W3.heap[gg]? =w2.heap[gg]? :=by
     rw[<-hW3];have ff:af kb w2 (w2.setCell ⟨kb,n*12+6+f,none⟩ (.int .i64 (a:Int))):=(af.refl _ _).setCell _ _;exact ff.block gg G2.out gk
    have b4:W4.heap[gg]? =W3.heap[gg]? :=by
     rw[<-hW4];have ff:af kb W3 (W3.setCell ⟨kb,n*12+6+g,none⟩ (.int .i64 (c:Int))):=(af.refl _ _).setCell _ _;exact ff.block gg (by rw[<-hW3];simp;exact G2.out) gk
    have Y3:Hid (W3.drew.cell? ⟨gg,0,none⟩=some (.int .i64 (f:Int))/\W3.drew.cell? ⟨gg,1,none⟩=some (.int .i64 (g:Int))):=hZ ⟨(aV b3).trans x0,(aV b3).trans x1⟩;have Y4:Hid (W4.drew.cell? ⟨gg,0,none⟩=some (.int .i64 (f:Int))/\W4.drew.cell? ⟨gg,1,none⟩=some (.int .i64 (g:Int))):=hZ ⟨(aV (b4.trans b3)).trans x0,(aV (b4.trans b3)).trans x1⟩;rw[<-hW4,<-hW3]at S4 Y4;rw[<-hW3]at Y3;have cf:=S2.out.1.oN n f hn f6;have cg:=S2.out.1.oN n g hn g6;have fz:=S2.out.1.frozen;rw[show({s with k:=Kn.ix s.k T s.k.fo S}:St).A 0=kb from HK.out.1]at cf cg fz;generalize (({s with k:=Kn.ix s.k T s.k.fo S}:St).k.p n).fd f=vf at cf;generalize (({s with k:=Kn.ix s.k T s.k.fo S}:St).k.p n).fd g=vg at cg;have m0:0<M:=by omega
    have m1:1<M:=by omega
    have m00: ¬M=0:=by omega
    have m11: ¬M<=1:=by omega
    have m12: ¬(M:Int)<=1:=by omega
    clear hW3 hW4 b3 b4 S3;go_region_held3 (fun w'=>w'.cell? ⟨gg,0,none⟩=some (.int .i64 (f:Int))/\w'.cell? ⟨gg,1,none⟩=some (.int .i64 (g:Int))) (first|exact YY.out|exact Y3.out|exact Y4.out|go_keep) (fail)
    generalize ((w2.setCell ⟨kb,n*12+6+f,none⟩ (.int .i64 (a:Int))).setCell ⟨kb,n*12+6+g,none⟩ (.int .i64 (c:Int))).drew=W5 at*;clear cf cg fz x0 x1 Y3 YY S2;go_upto_region 11 with fail
    obtain⟨x0,x1⟩:=Y4.out;have Y5:Hid (W5.drew.cell? ⟨gg,0,none⟩=some (.int .i64 (f:Int))/\W5.drew.cell? ⟨gg,1,none⟩=some (.int .i64 (g:Int))):=hZ ⟨x0,x1⟩;go_region_held3 (fun w'=>w'.cell? ⟨gg,0,none⟩=some (.int .i64 (f:Int))/\w'.cell? ⟨gg,1,none⟩=some (.int .i64 (g:Int))) (first|exact Y4.out|exact Y5.out|go_keep) (fail)
    go_wp2
    go_ret3
    exact⟨f,g,0,by rw[aa];rfl,Kn.eS (Kn.eS (Kn.ix s.k T s.k.fo S) n f (a:Int)) n g (c:Int), .inr ⟨HA.out,n,rfl,hn, .inr ⟨L2.out.1,a,c,T,S,by rw[<-E0.out];exact PT.out, .inr ⟨rfl,L2.out.2.1.symm,L2.out.2.2.symm,rfl⟩⟩⟩,S4.out.1.drew,S4.out.2.trans (KF.drew _ _)⟩
   ·have HE:=hZ (aj e0);have FIN:Hid (Kn.ti s.k (n:Int) 0 0 E (Kn.ix s.k T s.k.fo S)):=hZ (.inr ⟨HA.out,n,rfl,hn, .inr ⟨L2.out.1,a,c,T,S,PT.out, .inl ⟨e0,rfl,rfl,rfl⟩⟩⟩);rw[aj e0];clear e0;go_wp2
    go_ret3
    exact⟨0,0,E,_,by rw[HE.out];rfl,FIN.out,S2.out⟩
  ·have FIN:Hid (Kn.ti s.k (n:Int) 0 0 4 s.k):=hZ (.inr ⟨HA.out,n,rfl,hn, .inl ⟨l2,rfl,rfl,rfl,rfl⟩⟩);obtain⟨a,cap,hv⟩:=fC lo.own;rw[hv];generalize (Kn.fR s.k n 6).length=M at*;have lI:((M:Int)<2):=by omega
   clear hv lo l2;go_wp2
   go_ret3
   exact⟨0,0,4,s.k,by rw[aj (by decide)];rfl,FIN.out,K1.out⟩
 ·have FIN:Hid (Kn.ti s.k z 0 0 (Kn.bc s.k z) s.k):=hZ (.inl ⟨a,rfl,rfl,rfl,rfl⟩);have HE:=hZ (aj a);rw[aj a]at AC;clear h a;generalize fP (s.A 0) z (Kn.bc s.k z)=ap at*;generalize s.A 0=kb at*;go_in
  go_wp2_with fail
  refine AC.out.mono ?_;rintro e w1 ⟨rfl,hw⟩;subst w1;go_wp2
  go_ret3
  exact⟨0,0,Kn.bc s.k z,s.k,by rw[HE.out];rfl,FIN.out,H.out,KF.refl _ _⟩
end
namespace Kn
def fc (fd:Nat->Int)(f:Nat):Nat->Nat
 |0=>0
 |j+1=>fc fd f j+if fd j=(f:Int)then 1 else 0
def rW (x:Pr)(f:Nat):Nat:=if x.has=true then fc x.fd f 6 else 0
def rJ (p:Nat->Pr)(f:Nat):Nat->Nat
 |0=>0
 |m+1=>rJ p f m+rW (p m) f
def RC (k:Kp):Prop:= ∀f,f<24->(k.fi f).refs=rJ k.p f 20
theorem Lq {fd:Nat->Int}{f j:Nat}(h:fd j=(f:Int)): ∀N,j<N->1<=fc fd f N
 |0,l=>aZ l (Nat.not_lt_zero _)
 |N+1,l=>by
  show 1<=fc fd f N+(if fd N=(f:Int)then 1 else 0);by_cases c:j=N
  ·subst c;rw[aJ h];omega
  ·have:=Lq h N (by omega);omega
theorem Mg {fd:Nat->Int}{f:Nat}: ∀N,(∀j,j<N->fd j= -1)->fc fd f N=0
 |0,_=>rfl
 |N+1,l=>by
  show fc fd f N+(if fd N=(f:Int)then 1 else 0)=0;rw[Mg N (fun j hj=>l j (by omega)),l N (by omega),aI (by omega)]
theorem G9 {p:Nat->Pr}{f m:Nat}: ∀N,m<N->rW (p m) f<=rJ p f N
 |0,l=>aZ l (Nat.not_lt_zero _)
 |N+1,l=>by
  show _<=rJ p f N+rW (p N) f;by_cases c:m=N
  ·subst c;omega
  ·have:=G9 (p:=p) (f:=f) (m:=m) N (by omega);omega
theorem su {p q:Nat->Pr}{f:Nat}: ∀N,(∀m,m<N->(p m).has=(q m).has/\((q m).has=true->(p m).fd=(q m).fd))->rJ p f N=rJ q f N
 |0,_=>rfl
 |N+1,l=>by
  show rJ p f N+rW (p N) f=rJ q f N+rW (q N) f;rw[su N (fun m hm=>l m (by omega))];have e:=l N (by omega);unfold rW;rw[e.1];by_cases c:(q N).has=true
  ·rw[e.2 c]
  ·rw[aI c,aI c]
section
variable {k k' k1 k2 : Kp} {n : Nat}
theorem RC.refs (h:RC k){m j f:Nat}(hm:m<20)(hj:j<6)(f24:f<24)(hh:(k.p m).has=true)(e:(k.p m).fd j=(f:Int)):(k.fi f).refs≠0:=by
 have a:=h f f24;have b:=G9 (p:=k.p) (f:=f) (m:=m) 20 hm;have c:rW (k.p m) f=fc (k.p m).fd f 6:=aJ hh;have d:=Lq e 6 hj;omega
structure QF (k k':Kp):Prop where
 fi: ∀f,f<24->(k'.fi f).refs≠0->(k.fi f).refs≠0/\(k'.fi f).kind=(k.fi f).kind/\(k'.fi f).num=(k.fi f).num
 pi: ∀p,p<8->Pp.jJ (k'.pi p)=true->Pp.jJ (k.pi p)=true/\(k'.pi p).tx=(k.pi p).tx
theorem QF.same (e1:k'.fi=k.fi)(e2:k'.pi=k.pi):QF k k':=by
 refine⟨fun f _ r=>?_,fun p _ r=>?_⟩
 ·rw[e1]at r|-;exact⟨r,rfl,rfl⟩
 ·rw[e2]at r|-;exact⟨r,rfl⟩
end
end Kn
namespace Kn
def HX (k:Kp):Prop:=(∀m,m<20->((k.p m).has=true->(k.p m).st=1)/\((k.p m).st=1->(k.p m).has=true\/ ∀j,j<6->(k.p m).fd j= -1))/\ ∀s p,s<6->p<21->k.sp.ay s p<=20
structure QD (k k':Kp):Prop where
 qf:QF k k'
 up: ∀m,m<20->(k'.p m).has=true->(k.p m).has=true/\(k'.p m).fd=(k.p m).fd
 hl:HX k->HX k'
 rc:HX k->RC k->RC k'
section
variable {k k' k1 k2 : Kp} {n : Nat}
theorem QD.jd (e1:k'.fi=k.fi)(e2:k'.pi=k.pi)(e3: ∀s p,k'.sp.ay s p<=k.sp.ay s p)(h: ∀m,m<20->(k'.p m).has=(k.p m).has/\((k.p m).has=true->(k'.p m).fd=(k.p m).fd/\(k'.p m).st=(k.p m).st)/\((k'.p m).st=1->(k.p m).st=1/\(k'.p m).fd=(k.p m).fd)):QD k k':=by
 refine⟨QF.same e1 e2,fun m hm a=>?_,fun a=>⟨fun m hm=>?_,fun s p hs hp=>aH (e3 s p) (a.2 s p hs hp)⟩,fun _ b f hf=>?_⟩
 ·rw[(h m hm).1]at a;exact⟨a,((h m hm).2.1 a).1⟩
 ·obtain⟨x,y,z⟩:=h m hm;refine⟨fun q=>?_,fun q=>?_⟩
  ·rw[x]at q;rw[(y q).2];exact(a.1 m hm).1 q
  ·have:=z q;rw[x,this.2];exact(a.1 m hm).2 this.1
 ·rw[e1,b f hf];exact(su 20 (fun m hm=>⟨(h m hm).1,fun q=>((h m hm).2.1 q).1⟩)).symm
theorem HX.eO (h:HX k){z:Int}{i m:Nat}(e:(dv k.sp z)[i]? =some m):m<20:=by
 unfold dv at e;by_cases c:Sp.bj k.sp z=0
 ·rw[aJ c]at e;have z6:z.toNat<6:=by
   unfold Sp.bj at c;split at c
   ·omega
   ·omega
  exact(Sp.qE e (fun p hp=>h.2 z.toNat p z6 hp)).1
 ·rw[aI c]at e;simp at e
end
end Kn

import Derived.Test.YtpmmdkcfenjiaaaGreatDoorUbb
set_option maxRecDepth 100000
set_option maxHeartbeats 2000000
set_option linter.unusedVariables false
set_option linter.unusedSimpArgs false
namespace Go.Proofs.YtpmmdkcfenjiaaaGreatDoor
open Value renaming int->aa,pointer->ai,tuple->ao,bool->ar,nilIface->ay
open IntKind renaming i64->az,u8->bc
open Ending renaming returned->bf
open Obj renaming cells->bg
open Option renaming some->bh,none->bj
open Tryz (prog)
open Go.RowKit
open Tr (Fo Nd)
open Mv (Me Bk)
open Kn (Pr Kp St us KB KJ VI EI KH)
namespace Kn
theorem KH.NU{N n:Nat}{d:Nat->Nat}{k k':Kp}{E:Int}(h:KH N d k)(c:wY k n E k'):KH (N+1) d k':=by
 obtain⟨j,k1,⟨e,_⟩,⟨_,_,Wy,hW,_,rfl⟩|⟨_,rfl⟩⟩:=c
 .have g:=h.QT j e;obtain⟨Wz,hz⟩:=g.ki.vi.kj.gr;exact g.gr (Nat.le_succ _) ⟨Wy,pG (wO hz hW) _ _ _ bu bu⟩
 .exact(h.QT j e).more (Nat.le_succ _)
def lT(a:Int)(D:Kp->Nat->Int->Kp->Prop)(k:Kp)(z:Int)(v:Value)(k':Kp):Prop:=
 ∃E,v=bG E/\((0<E/\k'=k)\/∃n:Nat,z=n/\n<20/\lv k n=true/\((Mv.mY (k.p n).mem a=false/\D k n E k')\/(Mv.mY (k.p n).mem a=true/\∃E1 k1,wY k n E1 k1/\((E1≠0/\E=E1/\k'=k1)\/(E1=0/\∃k2,D k1 n E k2/\((E=0/\k'=k2)\/(E≠0/\k'={k2 with gr:=Gr.eU k2.gr (k2.p n).cN 0 1})))))))
end Kn
def Kn.Ij(UE:Nat)(s:St)(w:bD):Prop:=∀V (n:Nat),Below w.heap.size w V->n<20->Kn.lv s.k n=true->Calls prog 184 #[ai (bh ⟨s.A 0,0,bj⟩),aa az n] V (Kn.Nx UE s V λv k'=>∃E,v=bG E/\Kn.wY s.k n E k')
theorem kO{E:Int}(h:bG E=ay):E=0:=by
 by_cases c:E=0
 .exact c
 .rw[bC c]at h;cases h
section
variable (UE N:Nat)(d:Nat->Nat)(s:St)(w:bD)
theorem DN(z a:Int)(c1 c2:Nat)(D:Kp->Nat->Int->Kp->Prop)(KG:bD->St->Prop)(P:Nat->bD->Kp->Prop)(cp:Kn.Ij UE s w)(hN:N<900)(h:bH w UE s)(hh:KH N d s.k)(hD:∀k n E k',D k n E k'->k'.gr=k.gr/\(k'.p n).cN=(k.p n).cN)(hG:∀V s1 W s2,KG V s1->KF s1 V s2 W->KG W s2)(hG0:∀V s1,KF s w s1 V->KG V s1)
  (DO:∀V s1 n,bH V UE s1->KF s w s1 V->KH (N+1) d s1.k->n<20->Kn.lv s1.k n=true->Calls prog 107 #[ai (bh ⟨s1.A (9+n),0,bj⟩),ai (bh ⟨c1,0,bj⟩),ai (bh ⟨c2,0,bj⟩)] V λe w'=>∃E k',e=bf (bG E)/\D s1.k n E k'/\bH w' UE {s1 with k:=k'}/\KG w' {s1 with k:=k'}/\(E=0->P n w' k')):
  Calls prog 106 #[ai (bh ⟨s.A 0,0,bj⟩),aa az z,aa az a,ar false, .func (.func 107) #[] #[ai (bh ⟨c1,0,bj⟩),ai (bh ⟨c2,0,bj⟩)]] w λe w'=>∃v s',e=bf v/\Kn.lT a D s.k z v s'.k/\bH w' UE s'/\KG w' s'/\(v=ay->P z.toNat w' s'.k):=by
 have AC:=hJ (dv UE s w z h);have H:=hJ (aK h (aK hh hN));have HG:=hJ (aK hG (aK hG0 hD));have NO:Hid (∀W E,Below w.heap.size w W->0<E->∃v s',bf (bG E)=bf v/\Kn.lT a D s.k z v s'.k/\bH W UE s'/\KG W s'/\(v=ay->P z.toNat W s'.k)):=hJ (λW E b e=>⟨_,s,rfl,⟨E,rfl, .inl ⟨e,rfl⟩⟩,h.below b,hG0 _ _ (KF.below b),λc=>aZ (kO c) bu⟩);have DO:=hJ DO;have C0:=hJ cp;by_cases A:Kn.bT s.k z=0
 .obtain⟨n,rfl,hn,hl⟩:=Kn.fq A;have hs:=hh.ki.vi.kj.lv n hn (λx=>x) (Kn.eP.1 hl);have HL:=hJ (aK hl hs);have C4:Hid (∀V,Below w.heap.size w V->V.cell? ⟨s.A 0,n*12+4,bj⟩=bh (ai (bh ⟨s.A (9+n),0,bj⟩))):=hJ (λV b=>(h.below b).qR n hn hs);have c4:=C4.v _ (aQ _ _);have MY:=hJ (nS (s.A (9+n)) (s.A 4) a false (s.k.p n).mem w (h.me n hn hs));obtain⟨kb,hk⟩:=hU (s.A 0);obtain⟨m9,h9⟩:=hU (s.A (9+n));have HK:=hJ (aK hk h9);rw[A,bB,gS]at AC;rw[hk]at AC C4 c4|-;rw[h9]at C4 c4 MY;go_in
  go_wp2_with fail
  refine cr AC.v ?_;go_wp2_with fail
  refine sC MY.v ?_;rintro w1 b1;cases Mv.ko (s.k.p n).mem a false
  .go_wp2
   go_ret
   exact NO.v _ 10 b1 bA
  .have WN:=hJ (yz (s.A (9+n)) (s.A 4) a (s.k.p n).mem w1 ((H.1.below b1).me n hn HL.2));have c4:=C4.v _ b1;rw[HK.2]at WN;go_wp2_with fail
   refine sC WN.v ?_;rintro w2 b2;have b2:=b1.trans (b2.mono b1.size);cases hw:Mv.mY (s.k.p n).mem a
   all_goals have HW:=hJ hw
   .have D2:=hJ (DO.v w2 s n (H.1.below b2) (KF.below b2) (H.2.1.more (Nat.le_succ _)) hn HL.1);have c4:=C4.v _ b2;rw[HK.2]at D2;go_wp2_with fail
    refine D2.mono ?_;rintro e w3 ⟨E,k',rfl,S3⟩;have S3:=hJ S3;go_wp2
    go_ret
    exact⟨_,_,rfl,⟨E,rfl, .inr ⟨n,rfl,hn,HL.1, .inl ⟨HW.v,S3.1⟩⟩⟩,S3.2.1,S3.2.2.1,λc=>S3.2.2.2 (kO c)⟩
   .have CP:=hJ (C0.v w2 n b2 hn HL.1);rw[HK.1]at CP;go_wp2_with fail
    refine CP.mono ?_;rintro e w3 ⟨v,s1,rfl,⟨E1,rfl,cp⟩,K3,F3⟩;have S3:=hJ (aK cp (aK K3 ((KF.below b2).trans F3)));by_cases e1:E1=0
    .subst e1;rw[bB];have ln:Kn.lv s1.k n=true:=by
      obtain⟨j,k1,_,⟨l1,_,Wy,_,_,e⟩|⟨e,_⟩⟩:=S3.1
      .rw[e];exact l1
      .cases e
     have kh:=H.2.1.NU S3.1;have hs:=kh.ki.vi.kj.lv n hn (λx=>x) (Kn.eP.1 ln);have c4:=S3.2.1.qR n hn hs;have D2:=hJ (DO.v w3 s1 n S3.2.1 S3.2.2 kh hn ln);have ea:=S3.2.2.a0.trans HK.1;obtain⟨Wy,hW⟩:=kh.ki.vi.kj.gr;have UC:Hid (∀V W k2 E,D s1.k n E k2->E≠0->bH V UE {s1 with k:=k2}->KG V {s1 with k:=k2}->Below V.heap.size V W->Calls prog 67 #[ai (bh ⟨s1.A 2,0,bj⟩),aa az (k2.p n).cN,aa az 0,aa az 1] W λe w'=>(∃u,e=bf (bG u))/\∃v s',bf (bG E)=bf v/\Kn.lT a D s.k n v s'.k/\bH w' UE s'/\KG w' s'/\(v=ay->P (n:Int).toNat w' s'.k)):=hJ (λV W k2 E dd e0 kk kg b=>by
      have g:=(HG.2.2 _ _ _ _ dd).1;refine sC (Gr.ir (s1.A 2) _ 0 1 k2.gr W (kk.below b).gr (by rw[g];exact hW.small (by have:=H.2.2;omega))) ?_;rintro w' ⟨u,f⟩;have q:=(kk.below b).jF u f.rM;exact⟨⟨_,rfl⟩,_,_,rfl,⟨E,rfl, .inr ⟨n,rfl,hn,HL.1, .inr ⟨HW.v,0,s1.k,S3.1, .inr ⟨rfl,k2,dd, .inr ⟨e0,rfl⟩⟩⟩⟩⟩,q.1,HG.1 _ _ _ _ kg ((KF.below b).trans q.2),λc=>aZ (kO c) e0⟩)
     rw[ea]at c4;generalize h9:s1.A (9+n)=m10 at c4 D2;have EA:=hJ ea;go_wp2_with fail
     refine D2.mono ?_;rintro e w4 ⟨E,k2,rfl,S4⟩;have S4:=hJ S4;by_cases e0:E=0
     .subst e0;rw[bB];go_wp2
      go_ret
      exact⟨_,_,rfl,⟨0,rfl, .inr ⟨n,rfl,hn,HL.1, .inr ⟨HW.v,0,s1.k,S3.1, .inr ⟨rfl,k2,S4.1, .inl ⟨rfl,rfl⟩⟩⟩⟩⟩,S4.2.1,S4.2.2.1,λ_=>S4.2.2.2 trivial⟩
     .have U4:=hJ (λW b=>UC.v w4 W k2 E S4.1 e0 S4.2.1 S4.2.2.1 b);have g2:=S4.2.1.oS;have g3:=S4.2.1.pF n hn;rw[show({s1 with k:=k2}:St).A 0=kb from EA.v]at g2 g3;rw[show({s1 with k:=k2}:St).A 2=s1.A 2 from rfl]at g2;rw[show({s1 with k:=k2}:St).k=k2 from rfl]at g3;have EE:=hJ (bC e0);rw[bC e0]at U4|-;generalize (k2.p n).cN=gg at*;generalize s1.A 2=a2 at*;go_upto_region 13 with fail
      go_region_with ((go_at_call 67;refine(U4.v _ (by first|exact aQ _ _|exact(aQ _ _).drew)).mono ?_;rintro e w5 ⟨⟨u,rfl⟩,S5⟩;have S5:=hJ S5))
      all_goals
       go_wp2
       go_ret
       exact S5.v
    .have EE:=hJ (aK e1 (bC e1));rw[bC e1];go_wp2
     go_ret
     exact⟨_,s1,rfl,⟨E1,EE.2.symm, .inr ⟨n,rfl,hn,HL.1, .inr ⟨HW.v,E1,s1.k,S3.1, .inl ⟨EE.1,rfl,rfl⟩⟩⟩⟩,S3.2.1,HG.2.1 _ _ S3.2.2,λc=>aZ (kO (EE.2.trans c)) EE.1⟩
 .have N1:=hJ (NO.v w _ (aQ _ _) (Kn.vS A));rw[bC A]at AC N1;generalize fJ (s.A 0) z (Kn.bT s.k z)=ap at*;generalize Kn.bT s.k z=ae at*;generalize s.A 0=kb at*;go_in
  go_wp2_with fail
  refine cr AC.v ?_;go_wp2
  go_ret
  exact N1.v
theorem DP(z a:Int)(c1 c2:Nat)(D:Kp->Nat->Int->Kp->Prop)(KG:bD->St->Prop)(P:Nat->bD->Kp->Prop)(cp:Kn.Ij UE s w)(hN:N<900)(h:bH w UE s)(hh:KH N d s.k)(hD:∀k n E k',D k n E k'->k'.gr=k.gr/\(k'.p n).cN=(k.p n).cN)(hG:∀V s1 W s2,KG V s1->KF s1 V s2 W->KG W s2)(hG0:∀V s1,KF s w s1 V->KG V s1)
  (DO:∀V s1 n,bH V UE s1->KF s w s1 V->KH (N+1) d s1.k->n<20->Kn.lv s1.k n=true->Calls prog 109 #[ai (bh ⟨s1.A (9+n),0,bj⟩),ai (bh ⟨c1,0,bj⟩),ai (bh ⟨c2,0,bj⟩)] V λe w'=>∃E k',e=bf (bG E)/\D s1.k n E k'/\bH w' UE {s1 with k:=k'}/\KG w' {s1 with k:=k'}/\(E=0->P n w' k')):
  Calls prog 106 #[ai (bh ⟨s.A 0,0,bj⟩),aa az z,aa az a,ar true, .func (.func 109) #[] #[ai (bh ⟨c1,0,bj⟩),ai (bh ⟨c2,0,bj⟩)]] w λe w'=>∃v s',e=bf v/\Kn.lT a D s.k z v s'.k/\bH w' UE s'/\KG w' s'/\(v=ay->P z.toNat w' s'.k):=by
 have AC:=hJ (dv UE s w z h);have H:=hJ (aK h (aK hh hN));have HG:=hJ (aK hG (aK hG0 hD));have NO:Hid (∀W E,Below w.heap.size w W->0<E->∃v s',bf (bG E)=bf v/\Kn.lT a D s.k z v s'.k/\bH W UE s'/\KG W s'/\(v=ay->P z.toNat W s'.k)):=hJ (λW E b e=>⟨_,s,rfl,⟨E,rfl, .inl ⟨e,rfl⟩⟩,h.below b,hG0 _ _ (KF.below b),λc=>aZ (kO c) bu⟩);have DO:=hJ DO;have C0:=hJ cp;by_cases A:Kn.bT s.k z=0
 .obtain⟨n,rfl,hn,hl⟩:=Kn.fq A;have hs:=hh.ki.vi.kj.lv n hn (λx=>x) (Kn.eP.1 hl);have HL:=hJ (aK hl hs);have C4:Hid (∀V,Below w.heap.size w V->V.cell? ⟨s.A 0,n*12+4,bj⟩=bh (ai (bh ⟨s.A (9+n),0,bj⟩))):=hJ (λV b=>(h.below b).qR n hn hs);have c4:=C4.v _ (aQ _ _);have MY:=hJ (nS (s.A (9+n)) (s.A 4) a true (s.k.p n).mem w (h.me n hn hs));obtain⟨kb,hk⟩:=hU (s.A 0);obtain⟨m9,h9⟩:=hU (s.A (9+n));have HK:=hJ (aK hk h9);rw[A,bB,gS]at AC;rw[hk]at AC C4 c4|-;rw[h9]at C4 c4 MY;go_in
  go_wp2_with fail
  refine cr AC.v ?_;go_wp2_with fail
  refine sC MY.v ?_;rintro w1 b1;cases Mv.ko (s.k.p n).mem a true
  .go_wp2
   go_ret
   exact NO.v _ 10 b1 bA
  .have WN:=hJ (yz (s.A (9+n)) (s.A 4) a (s.k.p n).mem w1 ((H.1.below b1).me n hn HL.2));have c4:=C4.v _ b1;rw[HK.2]at WN;go_wp2_with fail
   refine sC WN.v ?_;rintro w2 b2;have b2:=b1.trans (b2.mono b1.size);cases hw:Mv.mY (s.k.p n).mem a
   all_goals have HW:=hJ hw
   .have D2:=hJ (DO.v w2 s n (H.1.below b2) (KF.below b2) (H.2.1.more (Nat.le_succ _)) hn HL.1);have c4:=C4.v _ b2;rw[HK.2]at D2;go_wp2_with fail
    refine D2.mono ?_;rintro e w3 ⟨E,k',rfl,S3⟩;have S3:=hJ S3;go_wp2
    go_ret
    exact⟨_,_,rfl,⟨E,rfl, .inr ⟨n,rfl,hn,HL.1, .inl ⟨HW.v,S3.1⟩⟩⟩,S3.2.1,S3.2.2.1,λc=>S3.2.2.2 (kO c)⟩
   .have CP:=hJ (C0.v w2 n b2 hn HL.1);rw[HK.1]at CP;go_wp2_with fail
    refine CP.mono ?_;rintro e w3 ⟨v,s1,rfl,⟨E1,rfl,cp⟩,K3,F3⟩;have S3:=hJ (aK cp (aK K3 ((KF.below b2).trans F3)));by_cases e1:E1=0
    .subst e1;rw[bB];have ln:Kn.lv s1.k n=true:=by
      obtain⟨j,k1,_,⟨l1,_,Wy,_,_,e⟩|⟨e,_⟩⟩:=S3.1
      .rw[e];exact l1
      .cases e
     have kh:=H.2.1.NU S3.1;have hs:=kh.ki.vi.kj.lv n hn (λx=>x) (Kn.eP.1 ln);have c4:=S3.2.1.qR n hn hs;have D2:=hJ (DO.v w3 s1 n S3.2.1 S3.2.2 kh hn ln);have ea:=S3.2.2.a0.trans HK.1;obtain⟨Wy,hW⟩:=kh.ki.vi.kj.gr;have UC:Hid (∀V W k2 E,D s1.k n E k2->E≠0->bH V UE {s1 with k:=k2}->KG V {s1 with k:=k2}->Below V.heap.size V W->Calls prog 67 #[ai (bh ⟨s1.A 2,0,bj⟩),aa az (k2.p n).cN,aa az 0,aa az 1] W λe w'=>(∃u,e=bf (bG u))/\∃v s',bf (bG E)=bf v/\Kn.lT a D s.k n v s'.k/\bH w' UE s'/\KG w' s'/\(v=ay->P (n:Int).toNat w' s'.k)):=hJ (λV W k2 E dd e0 kk kg b=>by
      have g:=(HG.2.2 _ _ _ _ dd).1;refine sC (Gr.ir (s1.A 2) _ 0 1 k2.gr W (kk.below b).gr (by rw[g];exact hW.small (by have:=H.2.2;omega))) ?_;rintro w' ⟨u,f⟩;have q:=(kk.below b).jF u f.rM;exact⟨⟨_,rfl⟩,_,_,rfl,⟨E,rfl, .inr ⟨n,rfl,hn,HL.1, .inr ⟨HW.v,0,s1.k,S3.1, .inr ⟨rfl,k2,dd, .inr ⟨e0,rfl⟩⟩⟩⟩⟩,q.1,HG.1 _ _ _ _ kg ((KF.below b).trans q.2),λc=>aZ (kO c) e0⟩)
     rw[ea]at c4;generalize h9:s1.A (9+n)=m10 at c4 D2;have EA:=hJ ea;go_wp2_with fail
     refine D2.mono ?_;rintro e w4 ⟨E,k2,rfl,S4⟩;have S4:=hJ S4;by_cases e0:E=0
     .subst e0;rw[bB];go_wp2
      go_ret
      exact⟨_,_,rfl,⟨0,rfl, .inr ⟨n,rfl,hn,HL.1, .inr ⟨HW.v,0,s1.k,S3.1, .inr ⟨rfl,k2,S4.1, .inl ⟨rfl,rfl⟩⟩⟩⟩⟩,S4.2.1,S4.2.2.1,λ_=>S4.2.2.2 trivial⟩
     .have U4:=hJ (λW b=>UC.v w4 W k2 E S4.1 e0 S4.2.1 S4.2.2.1 b);have g2:=S4.2.1.oS;have g3:=S4.2.1.pF n hn;rw[show({s1 with k:=k2}:St).A 0=kb from EA.v]at g2 g3;rw[show({s1 with k:=k2}:St).A 2=s1.A 2 from rfl]at g2;rw[show({s1 with k:=k2}:St).k=k2 from rfl]at g3;have EE:=hJ (bC e0);rw[bC e0]at U4|-;generalize (k2.p n).cN=gg at*;generalize s1.A 2=a2 at*;go_upto_region 13 with fail
      go_region_with ((go_at_call 67;refine(U4.v _ (by first|exact aQ _ _|exact(aQ _ _).drew)).mono ?_;rintro e w5 ⟨⟨u,rfl⟩,S5⟩;have S5:=hJ S5))
      all_goals
       go_wp2
       go_ret
       exact S5.v
    .have EE:=hJ (aK e1 (bC e1));rw[bC e1];go_wp2
     go_ret
     exact⟨_,s1,rfl,⟨E1,EE.2.symm, .inr ⟨n,rfl,hn,HL.1, .inr ⟨HW.v,E1,s1.k,S3.1, .inl ⟨EE.1,rfl,rfl⟩⟩⟩⟩,S3.2.1,HG.2.1 _ _ S3.2.2,λc=>aZ (kO (EE.2.trans c)) EE.1⟩
 .have N1:=hJ (NO.v w _ (aQ _ _) (Kn.vS A));rw[bC A]at AC N1;generalize fJ (s.A 0) z (Kn.bT s.k z)=ap at*;generalize Kn.bT s.k z=ae at*;generalize s.A 0=kb at*;go_in
  go_wp2_with fail
  refine cr AC.v ?_;go_wp2
  go_ret
  exact N1.v
end
def Kn.vR(a:Int)(k:Kp)(n:Nat)(E:Int)(k':Kp):Prop:=∃g m b,Mv.oM (k.p n).mem k.bk a false E g m b/\k'=Kn.cT k n m b
def Kn.xp(a u:Int)(k:Kp)(n:Nat)(E:Int)(k':Kp):Prop:=∃g m b,Mv.oM (k.p n).mem k.bk a true E g m b/\k'=Kn.cT k n m (if E=0 then Mv.J4 b g (a.toNat%8) u else b)
def Kn.xz(k:Kp)(n a:Nat):Int:=if(k.p n).mem.fr (a/8)=0 then 0 else k.bk.dA ((k.p n).mem.fr (a/8)-1) (a%8)
theorem Mv.oM.fr{m m':Me}{k k':Bk}{z:Int}{wr:Bool}{g:Nat}(t:Mv.oM m k z wr 0 g m' k'):m'.fr (z.toNat/8)=g+1:=by
 rcases t with⟨_,h,_⟩|⟨_,h,_,_,rfl,rfl,rfl⟩|⟨_,_,_,_,⟨h,_⟩|⟨_,rfl,_⟩⟩
 .exact aZ h bA
 .omega
 .exact aZ rfl h
 .simp[jK]
theorem Kn.OT{k:Kp}{n g:Nat}{z:Int}{wr:Bool}{m:Me}{b:Bk}(t:Mv.oM (k.p n).mem k.bk z wr 0 g m b)(c:Bk):Kn.xz (Kn.cT k n m c) n z.toNat=c.dA g (z.toNat%8):=by
 unfold Kn.xz;rw[Kn.pW];show(if m.fr (z.toNat/8)=0 then 0 else c.dA (m.fr (z.toNat/8)-1) (z.toNat%8))=_;rw[t.fr,nJ,aP]
theorem Kn.Fa(k:Kp)(n:Nat)(m:Me)(b:Bk):(Kn.cT k n m b).gr=k.gr/\((Kn.cT k n m b).p n).cN=(k.p n).cN:=⟨rfl,by rw[Kn.pW]⟩
section
variable (UE N:Nat)(d:Nat->Nat)(s:St)(w:bD)
theorem GJ(n c1 c2:Nat)(a:Int)(h:bH w UE s)(hh:KH N d s.k)(hn:n<20)(l:Kn.lv s.k n=true)(x1:w.cell? ⟨c1,0,bj⟩=bh (aa az a))(x2:∃u,w.heap[c2]? =bh (bg #[aa bc u] 5 (0,0)))(nk:¬KB s c2):
  Calls prog 107 #[ai (bh ⟨s.A (9+n),0,bj⟩),ai (bh ⟨c1,0,bj⟩),ai (bh ⟨c2,0,bj⟩)] w λe w'=>∃E k',e=bf (bG E)/\Kn.vR a s.k n E k'/\bH w' UE {s with k:=k'}/\(∃W,KF s w {s with k:=k'} W/\bE c2 W w')/\∃u,w'.heap[c2]? =bh (bg #[aa bc u] 5 (0,0))/\(E=0->u=Kn.xz k' n a.toNat):=by
 have hs:=hh.ki.vi.kj.lv n hn (λx=>x) (Kn.eP.1 l);obtain⟨u,hu⟩:=x2;have LD:Hid (Calls prog 108 #[ai (bh ⟨s.A (9+n),0,bj⟩),aa az a] w λe w'=>∃(v E:Int) (k':Kp),e=bf (ao #[aa bc v,bG E])/\Kn.vR a s.k n E k'/\bH w' UE {s with k:=k'}/\KF s w {s with k:=k'} w'/\w'.heap[c2]? =w.heap[c2]? /\(E=0->v=Kn.xz k' n a.toNat)):=hJ ((Ks _ _ _ a _ _ w (h.ub hn hs) (hh.ki.vi.kj.me.QY hn)).mono (by
  rintro _ w' ⟨E,g,m,b,rfl,t,u1,f,_⟩;have q:=h.xZ hn hs u1 f;exact⟨_,E,_,rfl,⟨g,m,b,t,rfl⟩,q.1,q.2,q.2.jm (aX.1 hu).1 nk,λe=>by subst e;rw[aJ rfl];exact(Kn.OT t _).symm⟩))
 generalize s.A (9+n)=m9 at*;have H:=hJ (aK nk hu);go_in
 go_wp2_with fail
 refine LD.mono ?_;rintro e w1 ⟨v,E,k',rfl,S1⟩;have S1:=hJ S1;have hu:=S1.2.2.2.1.trans H.2;have y:w1.cell? ⟨c2,0,bj⟩=bh (aa bc u):=by rw[bO hu];rfl
 have fz:=cv hu;have FI:Hid (bH (w1.setCell ⟨c2,0,bj⟩ (aa bc v)) UE {s with k:=k'}/\(∃W,KF s w {s with k:=k'} W/\bE c2 W (w1.setCell ⟨c2,0,bj⟩ (aa bc v)))/\∃u,(w1.setCell ⟨c2,0,bj⟩ (aa bc v)).heap[c2]? =bh (bg #[aa bc u] 5 (0,0))/\(E=0->u=Kn.xz k' n a.toNat)):=hJ (by
  have f:bE c2 w1 (w1.setCell ⟨c2,0,bj⟩ (aa bc v)):=(bE.refl _ _).setCell _ _;refine⟨S1.2.1.fresh f (S1.2.2.1.apart (aX.1 H.2).1 H.1),⟨w1,S1.2.2.1,f⟩,v,?_,S1.2.2.2.2⟩;rw[cE hu 0];rfl)
 go_wp2
 go_ret
 exact⟨E,k',rfl,S1.1,FI.v⟩
def Kn.Ug(w:bD)(s:St)(c:Nat)(V:bD)(s1:St):Prop:=KF s w s1 V/\(∃u,V.heap[c]? =bh (bg #[aa bc u] 5 (0,0)))/\¬KB s1 c
theorem Jg(z a:Int)(cp:Kn.Ij UE s w)(hN:N<900)(h:bH w UE s)(hh:KH N d s.k):
  Calls prog 47 #[ai (bh ⟨s.A 0,0,bj⟩),aa az z,aa az a] w (Kn.Nx UE s w λv k'=>∃(u:Int) (x:Value),v=ao #[aa bc u,x]/\Kn.lT a (Kn.vR a) s.k z x k'/\(x=ay->u=Kn.xz k' z.toNat a.toNat)):=by
 have B0:=((aQ w.heap.size w).alloc (aL _) (bg #[aa az a] 3)).alloc (by simp) (bg #[aa bc 0] 5);have h0:((w.alloc (bg #[aa az a] 3)).alloc (bg #[aa bc 0] 5)).heap[w.heap.size]? =bh (bg #[aa az a] 3 (0,0)):=
  (((aQ _ _).alloc (aL _) _).block w.heap.size (by simp)).trans (heap_alloc_new _ _)
 have h1:((w.alloc (bg #[aa az a] 3)).alloc (bg #[aa bc 0] 5)).heap[w.heap.size+1]? =bh (bg #[aa bc 0] 5 (0,0)):=by
  have:=heap_alloc_new (w.alloc (bg #[aa az a] 3)) (bg #[aa bc 0] 5);rw[show(w.alloc (bg #[aa az a] 3)).heap.size=w.heap.size+1 by simp]at this;exact this
 have TO:Hid (∀W,(w.alloc (bg #[aa az a] 3)).alloc (bg #[aa bc 0] 5)=W->_):=hJ (λW e=>by
  rw[e]at B0 h0 h1;exact DN UE N d s W z a w.heap.size (w.heap.size+1) (Kn.vR a) (Kn.Ug w s (w.heap.size+1)) (λn W k'=>∃u,W.heap[w.heap.size+1]? =bh (bg #[aa bc u] 5 (0,0))/\u=Kn.xz k' n a.toNat) (λV n b hn l=>cp V n (B0.trans (b.mono B0.size)) hn l) hN (h.below B0) hh (λk n E k'=>by rintro⟨_,_,_,_,rfl⟩;exact Kn.Fa _ _ _ _)
   (λV s1 W s2 g f=>by
    obtain⟨g1,⟨u,g2⟩,g3⟩:=g;have l:=(aX.1 g2).1;exact⟨g1.trans f,⟨u,(f.jm l g3).trans g2⟩,f.apart l g3⟩)
   (λV s1 f=>⟨(KF.below B0).trans f,⟨0,(f.jm (aX.1 h1).1 (h.ix bu)).trans h1⟩,f.apart (aX.1 h1).1 (h.ix bu)⟩)
   (λV s1 n K F kh hn ln=>by
    have l1:=(aX.1 h1).1;have nk:=h.ix (rb:=w.heap.size+1) bu;refine(GJ UE (N+1) d s1 V n _ _ a K kh hn ln (by rw[aV (F.jm (aX.1 h0).1 (h.ix (aL _))),bO h0];rfl) ⟨0,(F.jm l1 nk).trans h1⟩ (F.apart l1 nk)).mono ?_;rintro _ w' ⟨E,k',rfl,ld,kk,⟨W2,f,fr⟩,u,hu,hb⟩;exact⟨E,k',rfl,ld,kk,⟨((KF.below B0).trans (F.trans f)).fresh fr bu,⟨u,hu⟩,f.apart (aD l1 F.gP.size) (F.apart l1 nk)⟩,λe=>⟨u,hu,hb e⟩⟩))
 generalize s.A 0=kb at*;go_in
 go_wp2_with fail
 refine(TO.v _ rfl).mono ?_;rintro e w1 ⟨x,s',rfl,t,k1,⟨g1,⟨u,hu⟩,g3⟩,pp⟩;have S1:Hid ((Kn.lT a (Kn.vR a) s.k z x s'.k/\(x=ay->u=Kn.xz s'.k z.toNat a.toNat))/\bH w1 UE s'/\KF s w s' w1):=hJ ⟨⟨t,λe=>by
  obtain⟨u',h1,h2⟩:=pp e;rw[hu]at h1;simp at h1;rw[h1];exact h2⟩,k1,g1⟩
 have y:w1.cell? ⟨w.heap.size+1,0,bj⟩=bh (aa bc u):=by rw[bO hu];rfl
 go_wp2
 go_ret2
 exact⟨_,s',rfl,⟨u,x,rfl,S1.1.1,S1.1.2⟩,S1.2⟩
theorem G5(z a u:Int)(cp:Kn.Ij UE s w)(hN:N<900)(h:bH w UE s)(hh:KH N d s.k):
  Calls prog 48 #[ai (bh ⟨s.A 0,0,bj⟩),aa az z,aa az a,aa bc u] w (Kn.Nx UE s w (Kn.lT a (Kn.xp a u) s.k z)):=by
 have B0:=((aQ w.heap.size w).alloc (aL _) (bg #[aa az a] 3)).alloc (by simp) (bg #[aa bc u] 5);have h0:((w.alloc (bg #[aa az a] 3)).alloc (bg #[aa bc u] 5)).heap[w.heap.size]? =bh (bg #[aa az a] 3 (0,0)):=
  (((aQ _ _).alloc (aL _) _).block w.heap.size (by simp)).trans (heap_alloc_new _ _)
 have h1:((w.alloc (bg #[aa az a] 3)).alloc (bg #[aa bc u] 5)).heap[w.heap.size+1]? =bh (bg #[aa bc u] 5 (0,0)):=by
  have:=heap_alloc_new (w.alloc (bg #[aa az a] 3)) (bg #[aa bc u] 5);rw[show(w.alloc (bg #[aa az a] 3)).heap.size=w.heap.size+1 by simp]at this;exact this
 have TO:Hid (∀W,(w.alloc (bg #[aa az a] 3)).alloc (bg #[aa bc u] 5)=W->_):=hJ (λW e=>by
  rw[e]at B0 h0 h1;exact DP UE N d s W z a w.heap.size (w.heap.size+1) (Kn.xp a u) (λV s1=>KF s w s1 V) (λ_ _ _=>True) (λV n b hn l=>cp V n (B0.trans (b.mono B0.size)) hn l) hN (h.below B0) hh (λk n E k'=>by rintro⟨_,_,_,_,rfl⟩;exact Kn.Fa _ _ _ _)
   (λV s1 W s2 g f=>g.trans f) (λV s1 f=>(KF.below B0).trans f)
   (λV s1 n K F kh hn ln=>by
    have hs:=kh.ki.vi.kj.lv n hn (λx=>x) (Kn.eP.1 ln);have x0:V.cell? ⟨w.heap.size,0,bj⟩=bh (aa az a):=by rw[aV (F.jm (aX.1 h0).1 (h.ix (aL _))),bO h0];rfl
    have x1:V.cell? ⟨w.heap.size+1,0,bj⟩=bh (aa bc u):=by rw[aV (F.jm (aX.1 h1).1 (h.ix (rb:=w.heap.size+1) bu)),bO h1];rfl
    have ST:Hid (Calls prog 110 #[ai (bh ⟨s1.A (9+n),0,bj⟩),aa az a,aa bc u] V λe w'=>∃E k',e=bf (bG E)/\Kn.xp a u s1.k n E k'/\bH w' UE {s1 with k:=k'}/\KF s w {s1 with k:=k'} w'):=hJ ((Ic _ _ _ a u _ _ V (K.ub hn hs) (kh.ki.vi.kj.me.QY hn)).mono (by
     rintro _ w' ⟨E,g,m,b,rfl,t,u1,f,_⟩;have q:=K.xZ hn hs u1 f;exact⟨E,_,rfl,⟨g,m,b,t,rfl⟩,q.1,(KF.below B0).trans (F.trans q.2)⟩))
    generalize s1.A (9+n)=m9 at*;generalize w.heap.size=c1 at*;go_in
    go_wp2_with fail
    refine ST.mono ?_;rintro e w1 ⟨E,k',rfl,S1⟩;have S1:=hJ S1;go_wp2
    go_ret
    exact⟨E,k',rfl,S1.1,S1.2.1,S1.2.2,λ_=>trivial⟩))
 generalize s.A 0=kb at*;go_in
 go_wp2_with fail
 refine(TO.v _ rfl).mono ?_;rintro e w1 ⟨x,s',rfl,S1⟩;have S1:=hJ S1;go_wp2
 go_ret
 exact⟨_,s',rfl,S1.1,S1.2.1,S1.2.2.1⟩
theorem BW(hN:N<=900)(h:bH w UE s)(hh:KH N d s.k):Kn.Ij UE s w:=λV n b hn l=>LZ UE N d s V n hN (h.below b) hh hn l

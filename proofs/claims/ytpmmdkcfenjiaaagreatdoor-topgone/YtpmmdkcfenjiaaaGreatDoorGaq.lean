import Derived.Test.YtpmmdkcfenjiaaaGreatDoorGap
set_option maxRecDepth 100000
set_option maxHeartbeats 2000000
set_option linter.unusedVariables false
set_option linter.unusedSimpArgs false
namespace Go.Proofs.YtpmmdkcfenjiaaaGreatDoor
open Value renaming int->aa,pointer->ai,string->ak,tuple->ao,iface->aq,bool->ar,agg->au
open IntKind renaming i64->az
open Ending renaming returned->bf
open Obj renaming cells->bh
open Option renaming some->bj,none->bu
open Bool renaming true->bw,false->bA
open Tryz (prog)
open Go.RowKit
open Fx (Fi)
open Tr (Fo Nd)
open Pp (Pi)
open Mo (Wh Mt)
open Mv (Me Bk)
open Kn (Pr Kp St us KB KJ VI EI KH)
variable {F:Fo}{E:Int}{k:Kp}{Wr n:Nat}{s:St}{v:Value}{w:bD}
theorem yD{W w1:bD}(hb:Below W.heap.size W w1):(∀b o,b<W.heap.size->w1.cell? ⟨b,o,bu⟩=W.cell? ⟨b,o,bu⟩)/\(∀b o,b<W.heap.size->w1.frozen? ⟨b,o,bu⟩=W.frozen? ⟨b,o,bu⟩):=⟨λb o h=>hb.cell (p:=⟨b,o,bu⟩) h,λb o h=>hb.frozen (p:=⟨b,o,bu⟩) h⟩
section
variable {Wr N y:Nat}{s:St}{w:bD}
theorem As(h:bP w Wr s)(hj:KJ (λ_=>False) N s.k)(y6:y<6)(yt:s.k.ht y=bw)(V:bD)(p:bU)(b:Below w.heap.size w V):Calls prog 205 #[ai (bj ⟨s.A (49+y),0,bu⟩),ak p] V λe w'=>∃(x:Wh) (nm:bU) (E:Int),e=bf (ao #[au #[aa az x.1,aa az x.2],ak nm,bN E])/\Below V.heap.size V w':=
 (xC Wr _ _ _ _ _ p V ((h.below b).tb y y6 yt) (h.below b).fo hj.ok.sz).mono (by rintro _ w' ⟨x,nm,E,rfl,_,b2⟩;exact⟨x,nm,E,rfl,b2⟩)
theorem wI(h:bP w Wr s)(hj:KJ (λ_=>False) N s.k)(y6:y<6)(yt:s.k.ht y=bw)(V:bD)(p:bU)(b:Below w.heap.size w V):Calls prog 208 #[ai (bj ⟨s.A (49+y),0,bu⟩),ak p] V λe w'=>∃(x:Wh) (E:Int),e=bf (ao #[au #[aa az x.1,aa az x.2],bN E])/\Below V.heap.size V w':=
 (Fj Wr _ _ _ _ _ p V ((h.below b).tb y y6 yt) (h.below b).fo hj.ok.sz).mono (by rintro _ w' ⟨x,E,rfl,_,b2⟩;exact⟨x,E,rfl,b2⟩)
theorem L5(h:bP w Wr s)(hj:KJ (λ_=>False) N s.k)(y6:y<6)(yt:s.k.ht y=bw)(V:bD)(p:bU)(b:Below w.heap.size w V):Calls prog 210 #[ai (bj ⟨s.A (49+y),0,bu⟩),ak p] V λe w'=>∃(x:Wh) (E:Int),e=bf (ao #[au #[aa az x.1,aa az x.2],bN E])/\Below V.heap.size V w':=
 (Se Wr _ _ _ _ _ p V ((h.below b).tb y y6 yt) (h.below b).fo hj.ok.sz).mono (by rintro _ w' ⟨x,E,rfl,_,b2⟩;exact⟨x,E,rfl,b2⟩)
end
section
variable (Wr N:Nat)(d:Nat->Nat)(s:St)(w:bD)
theorem Ot(z:Int)(p q:bU)(h:bP w Wr s)(hj:KJ (λ_=>False) N s.k):
  Calls prog 129 #[ai (bj ⟨s.A 0,0,bu⟩),aa az z,ak p,ak q] w (Kn.Nx Wr s w (Kn.uB s.k)):=by
 have TB:=hZ (jW Wr N s w z h hj);have H:=hZ (aK h hj);have RM:Hid (∀V (x:Int) (n:bU) (y:Int) (m:bU),Below w.heap.size w V->Calls prog 207 #[ai (bj ⟨s.A 6,0,bu⟩),aa az x,ak n,aa az y,ak m] V λe w'=>∃E G,e=bf (bN E)/\Kn.FG s.k G/\bP w' Wr {s with k:={s.k with fo:=G}}/\KF s w {s with k:={s.k with fo:=G}} w'):=hZ (λV x n y m b=>(Mn (s.A 6) x n y m s.k.fo V (h.below b).fo hj.ok.sz hj.ok.db hj.ok.en).mono (by rintro _ w' ⟨E,G,rfl,r,u,f⟩;exact⟨E,G,rfl,⟨hj.ok.Uc r,hj.wx.Uc r⟩,h.Dq b u f⟩));have C6:Hid (∀V,Below w.heap.size w V->V.cell? ⟨s.A 0,250,bu⟩=bj (ai (bj ⟨s.A 6,0,bu⟩))):=hZ (λV b=>(h.below b).uI);generalize hk:s.A 0=kb at TB C6|-;go_in
 go_wp2_with fail
 refine TB.mono ?_;rintro e w1 ⟨v,rfl,tp,b1⟩;by_cases A:Kn.cC s.k z=0
 .obtain⟨y,y6,yt,rfl⟩:=tp A;have LA:=hZ (As H.1 H.2 y6 yt);have WA:=hZ (wI H.1 H.2 y6 yt);rw[A,bF];generalize s.A (49+y)=tb at*;generalize s.A 6=a6 at*;go_wp2_with fail
  refine(LA.v _ p b1).mono ?_;rintro e w2 ⟨x0,nm0,E,rfl,b2⟩;have b2:=b1.trans (b2.mono b1.size);have b2:=b2.alloc b2.size (bh #[aa az x0.1,aa az x0.2] 224);by_cases E0:E=0
  .subst E0;rw[bF];go_wp2_with fail
   refine(LA.v _ q b2).mono ?_;rintro e w3 ⟨x1,nm1,E,rfl,b3⟩;obtain⟨hc,hf⟩:=yD b3;have hz:w2.heap.size<w3.heap.size:=by have:=b3.size;simp at this;omega
   have b3:=b2.trans (b3.mono b2.size);have b3:=b3.alloc b3.size (bh #[aa az x1.1,aa az x1.2] 224);by_cases E0:E=0
   .subst E0;rw[bF];go_upto_region 10 with fail
    have c6:=C6.v _ b3;go_region_with ((go_at_call 207;refine(RM.v _ _ _ _ _ (by first|exact b3|exact b3.drew)).mono ?_;rintro e w4 ⟨E,G,rfl,S4⟩;have S4:=hZ S4))
    all_goals
     go_wp2
     go_ret
     exact .mk ⟨E,G,rfl,S4.1,rfl⟩ S4.2
   .have E1:=hZ (bM E0);rw[bM E0];go_wp2
    go_ret
    exact .at H.1 b3 (.no H.2 E1.v)
  .have E1:=hZ (bM E0);rw[bM E0];go_wp2
   go_ret
   exact .at H.1 b2 (.no H.2 E1.v)
 .have A':=hZ (bM A);rw[bM A];generalize Kn.cC s.k z=ae at*;go_wp2
  go_ret
  exact .at H.1 b1 (.no H.2 A'.v)
theorem Oo(z:Int)(p q:bU)(h:bP w Wr s)(hj:KJ (λ_=>False) N s.k):
  Calls prog 130 #[ai (bj ⟨s.A 0,0,bu⟩),aa az z,ak p,ak q] w (Kn.Nx Wr s w (Kn.uB s.k)):=by
 have TB:=hZ (jW Wr N s w z h hj);have H:=hZ (aK h hj);have RM:Hid (∀V (x y:Int) (m:bU),Below w.heap.size w V->Calls prog 209 #[ai (bj ⟨s.A 6,0,bu⟩),aa az x,aa az y,ak m] V λe w'=>∃E G,e=bf (bN E)/\Kn.FG s.k G/\bP w' Wr {s with k:={s.k with fo:=G}}/\KF s w {s with k:={s.k with fo:=G}} w'):=hZ (λV x y m b=>(Mk (s.A 6) x y m s.k.fo V (h.below b).fo hj.ok.sz (λn hn k=>by have:=hj.ok.DP n hn k;have e1:(2:Nat)^60=1152921504606846976:=bE;omega)).mono (by rintro _ w' ⟨E,G,rfl,r,u,f⟩;exact⟨E,G,rfl,⟨hj.ok.T0 r,hj.wx.T0 r⟩,h.Dq b u f⟩));have C6:Hid (∀V,Below w.heap.size w V->V.cell? ⟨s.A 0,250,bu⟩=bj (ai (bj ⟨s.A 6,0,bu⟩))):=hZ (λV b=>(h.below b).uI);generalize hk:s.A 0=kb at TB C6|-;go_in
 go_wp2_with fail
 refine TB.mono ?_;rintro e w1 ⟨v,rfl,tp,b1⟩;by_cases A:Kn.cC s.k z=0
 .obtain⟨y,y6,yt,rfl⟩:=tp A;have LA:=hZ (As H.1 H.2 y6 yt);have WA:=hZ (wI H.1 H.2 y6 yt);rw[A,bF];generalize s.A (49+y)=tb at*;generalize s.A 6=a6 at*;go_wp2_with fail
  refine(WA.v _ p b1).mono ?_;rintro e w2 ⟨x0,E,rfl,b2⟩;have b2:=b1.trans (b2.mono b1.size);have b2:=b2.alloc b2.size (bh #[aa az x0.1,aa az x0.2] 224);by_cases E0:E=0
  .subst E0;rw[bF];go_wp2_with fail
   refine(LA.v _ q b2).mono ?_;rintro e w3 ⟨x1,nm1,E,rfl,b3⟩;obtain⟨hc,hf⟩:=yD b3;have hz:w2.heap.size<w3.heap.size:=by have:=b3.size;simp at this;omega
   have b3:=b2.trans (b3.mono b2.size);have b3:=b3.alloc b3.size (bh #[aa az x1.1,aa az x1.2] 224);by_cases E0:E=0
   .subst E0;rw[bF];go_upto_region 10 with fail
    have c6:=C6.v _ b3;go_region_with ((go_at_call 209;refine(RM.v _ _ _ _ (by first|exact b3|exact b3.drew)).mono ?_;rintro e w4 ⟨E,G,rfl,S4⟩;have S4:=hZ S4))
    all_goals
     go_wp2
     go_ret
     exact .mk ⟨E,G,rfl,S4.1,rfl⟩ S4.2
   .have E1:=hZ (bM E0);rw[bM E0];go_wp2
    go_ret
    exact .at H.1 b3 (.no H.2 E1.v)
  .have E1:=hZ (bM E0);rw[bM E0];go_wp2
   go_ret
   exact .at H.1 b2 (.no H.2 E1.v)
 .have A':=hZ (bM A);rw[bM A];generalize Kn.cC s.k z=ae at*;go_wp2
  go_ret
  exact .at H.1 b1 (.no H.2 A'.v)
def Kn.Nb(k:Kp)(v:Value)(k':Kp):Prop:=∃(x E:Int) (G:Fo),v=ao #[aa az x,bN E]/\Kn.FG k G/\k'={k with fo:=G}
theorem Kn.Nb.no{X:Nat->Prop}{N:Nat}(h:KJ X N k)(e:bN E=v):Kn.Nb k (ao #[aa az 0,v]) k:=⟨0,E,k.fo,by rw[e],⟨h.ok,h.wx⟩,rfl⟩
theorem DA(z:Int)(p:bU)(kz:Int)(h:bP w Wr s)(hj:KJ (λ_=>False) N s.k):
  Calls prog 199 #[ai (bj ⟨s.A 0,0,bu⟩),aa az z,ak p,aa az kz] w (Kn.Nx Wr s w (Kn.Nb s.k)):=by
 have TB:=hZ (jW Wr N s w z h hj);have H:=hZ (aK h hj);have RM:Hid (∀V (x:Int) (n:bU),Below w.heap.size w V->Calls prog 242 #[ai (bj ⟨s.A 6,0,bu⟩),aa az x,ak n,aa az kz] V λe w'=>∃(K:Nat) (E:Int) (G:Fo),e=bf (ao #[aa az K,bN E])/\Kn.FG s.k G/\bP w' Wr {s with k:={s.k with fo:=G}}/\KF s w {s with k:={s.k with fo:=G}} w'):=hZ (λV x n b=>(Mm (s.A 6) x n kz s.k.fo V (h.below b).fo hj.ok.sz).mono (by rintro _ w' ⟨K,E,G,rfl,r,u,f⟩;exact⟨K,E,G,rfl,⟨hj.ok.T7 r,hj.wx.T7 r⟩,h.Dq b u f⟩));have C6:Hid (∀V,Below w.heap.size w V->V.cell? ⟨s.A 0,250,bu⟩=bj (ai (bj ⟨s.A 6,0,bu⟩))):=hZ (λV b=>(h.below b).uI);generalize hk:s.A 0=kb at TB C6|-;go_in
 go_wp2_with fail
 refine TB.mono ?_;rintro e w1 ⟨v,rfl,tp,b1⟩;by_cases A:Kn.cC s.k z=0
 .obtain⟨y,y6,yt,rfl⟩:=tp A;have LA:=hZ (As H.1 H.2 y6 yt);have WA:=hZ (wI H.1 H.2 y6 yt);rw[A,bF];generalize s.A (49+y)=tb at*;generalize s.A 6=a6 at*;go_wp2_with fail
  refine(LA.v _ p b1).mono ?_;rintro e w2 ⟨x0,nm0,E,rfl,b2⟩;have b2:=b1.trans (b2.mono b1.size);have b2:=b2.alloc b2.size (bh #[aa az x0.1,aa az x0.2] 224);by_cases E0:E=0
  .subst E0;rw[bF];go_upto_region 7 with fail
   have c6:=C6.v _ b2;go_region_with ((go_at_call 242;refine(RM.v _ _ _ (by first|exact b2|exact b2.drew)).mono ?_;rintro e w4 ⟨K,E,G,rfl,S4⟩;have S4:=hZ S4))
   all_goals
    go_wp2
    go_ret2
    exact .mk ⟨K,E,G,rfl,S4.1,rfl⟩ S4.2
  .have E1:=hZ (bM E0);rw[bM E0];go_wp2
   go_ret2
   exact .at H.1 b2 (.no H.2 E1.v)
 .have A':=hZ (bM A);rw[bM A];generalize Kn.cC s.k z=ae at*;go_wp2
  go_ret2
  exact .at H.1 b1 (.no H.2 A'.v)
theorem IV(z:Int)(p:bU)(h:bP w Wr s)(hj:KJ (λ_=>False) N s.k):
  Calls prog 127 #[ai (bj ⟨s.A 0,0,bu⟩),aa az z,ak p] w (Kn.Nx Wr s w (Kn.uB s.k)):=by
 have MA:=hZ (DA Wr N s w z p 2 h hj);generalize s.A 0=kb at*;go_in
 go_wp2_with fail
 refine MA.mono ?_;rintro e w1 ⟨v,s',rfl,⟨x,E,G,rfl,g,ek⟩,S1⟩;have S1:=hZ (aK g (aK ek S1));go_wp2
 go_ret
 exact⟨_,s',rfl,⟨E,G,rfl,S1.1,S1.2.1⟩,S1.2.2⟩
end
namespace Mo
structure MG (g:Nat->Nat)(F0 F:Fo)(T:Mo.Tb):Prop where
 ok:Tr.Ok F
 hi:HI F (λn=>g n+tc T n)
 rg:Rg T
 sS:T.ms.length<=6
 kd:∀n,n<40->0<g n->(F.nd n).kind=(F0.nd n).kind
section
variable {g:Nat->Nat}{F0 F F':Fo}{T T':Mo.Tb}
theorem MG.bin(h:MG g F0 F T)(x y:Wh):MG g F0 (zY F T x y) (zZ F T x y):=by
 unfold zY zZ;by_cases c:lP F T x y=0
 .rw[aJ c,aJ c];obtain⟨c1,c2,c3⟩:=Th c;refine⟨(h.ok.dK _).dK _,(Kz h.hi (zO c1) (zO c2)).congr (λn _=>?_),⟨h.rg.1,λm hm=>?_⟩,?_,λn hn c=>(oN _ _ _).trans ((oN _ _ _).trans (h.kd n hn c))⟩
  .show _=g n+(gT T.rt.2 n+mc (T.ms++[(x,y)]) n);rw[T8,nR,u7];unfold tc;omega
  .rcases List.mem_append.1 hm with k|k
   .exact h.rg.2 m k
   .rw[List.mem_singleton]at k;subst k;exact⟨xH (zO c1),xH (zO c2)⟩
  .have:=h.sS;show(T.ms++[(x,y)]).length<=6;rw[List.length_append,List.length_singleton];omega
 .rw[aI c,aI c];exact h
theorem MG.Wo{x:Wh}(h:MG g F0 F T)(hu:Cm F T x E T' F'):MG g F0 F' T':=by
 rcases hu with⟨i,_,m,hm,_,rfl,rfl⟩|⟨_,_,rfl,rfl⟩
 .have hl:=(aY.1 hm).1;have hin:=h.rg.2 m (bK hm);have hi:HI (ji F m) (λn=>g n+tc ⟨T.rt,T.ms.eraseIdx i⟩ n):=Ll (h.hi.congr (λn _=>by
   show g n+(gT T.rt.2 n+mc T.ms n)=g n+(gT T.rt.2 n+mc (T.ms.eraseIdx i) n)+gT m.1.2 n+gT m.2.2 n;rw[OQ hm n];omega)) hin.1 hin.2
  refine⟨(h.ok.dC _).dC _,hi,⟨h.rg.1,λy hy=>h.rg.2 y (List.mem_of_mem_eraseIdx hy)⟩,?_,λn hn c=>(DJ (by rw[hi.hd n hn];omega)).trans (h.kd n hn c)⟩;have:=h.sS;show(T.ms.eraseIdx i).length<=6;rw[List.length_eraseIdx_of_lt hl];omega
 .exact h
theorem MG.piv{t:Int}(h:MG g F0 F T)(e0:Tr.gF F t=0):MG g F0 (Tr.dK (lK F T) (Tr.fQ F t)) ⟨(t,(Tr.fQ F t:Int)),[]⟩:=by
 have o:=Lj (T:=T) h.ok;have er:Tr.gF (lK F T) t=Tr.gF F t:=by unfold Tr.gF;rw[(DI F T).2]
 have nr:Tr.fQ (lK F T) t=Tr.fQ F t:=by unfold Tr.fQ;rw[er,(DI F T).1]
 have al:Tr.cH (lK F T) (Tr.fQ F t)=0:=by rw[<-nr];exact Js o (er.trans e0)
 have hl:=Li h.hi h.rg;refine⟨o.dK _,(hl.dK al).congr (λn _=>?_),⟨xH al,λm hm=>by cases hm⟩,by simp,λn hn c=>(oN _ _ _).trans ((DH (by rw[hl.hd n hn];exact c)).trans (h.kd n hn c))⟩;show g n+gT (Tr.fQ F t) n=g n+(gT (Tr.fQ F t) n+mc [] n);rw[u7];rfl
end
end Mo
namespace Kn
def vE(k:Kp)(y:Nat)(T:Mo.Tb)(F:Fo):Kp:={k with tb:=λi=>if i=y then T else k.tb i,fo:=F}
theorem EY(k:Kp)(y:Nat)(T:Mo.Tb)(F:Fo)(yt:k.ht y=bw)(m:Nat):∀s,lE (vE k y T F) m s+(if y<s then Mo.tc (k.tb y) m else 0)=lE k m s+if y<s then Mo.tc T m else 0
 |0=>rfl
 |s+1=>by
  have ih:=EY k y T F yt m s;show lE (vE k y T F) m s+(if k.ht s=bw then Mo.tc (if s=y then T else k.tb s) m else 0)+_=lE k m s+(if k.ht s=bw then Mo.tc (k.tb s) m else 0)+_;by_cases c:s=y
  .subst c;rw[aI (bV _),aI (bV _)]at ih;rw[aJ yt,aJ yt,aJ rfl,aJ (Nat.lt_succ_self _),aJ (Nat.lt_succ_self _)];omega
  .rw[aI c];by_cases e:y<s
   .rw[aJ e,aJ e]at ih;rw[aJ (show y<s+1 by omega),aJ (show y<s+1 by omega)];omega
   .rw[aI e,aI e]at ih;rw[aI (show¬y<s+1 by omega),aI (show¬y<s+1 by omega)];omega
section
variable {X:Nat->Prop}{N y:Nat}{k:Kp}
def fP(k:Kp)(y n:Nat):Nat:=Fx.cK k.fi 1 n 24+(jR k n-Mo.tc (k.tb y) n)
theorem KJ.mg(h:KJ X N k)(y6:y<6)(yt:k.ht y=bw):Mo.MG (fP k y) k.fo k.fo (k.tb y):=by
 have rg:=h.tb y y6 yt;refine⟨h.ok,⟨λn hn=>?_,λn hn c kz=>?_⟩,rg.1,rg.2,λ_ _ _=>rfl⟩
 .have:Mo.tc (k.tb y) n<=jR k n:=sY n yt 6 y6;rw[h.wx.hl n hn];unfold fP;omega
 .have:Mo.tc (k.tb y) n<=jR k n:=sY n yt 6 y6;have:=h.wx.z0 n hn kz;rw[h.wx.hl n hn]at this;unfold fP at c;omega
theorem KJ.Wn(h:KJ X N k)(y6:y<6)(yt:k.ht y=bw){T:Mo.Tb}(g:Mo.MG (fP k y) k.fo F T):KJ X N (vE k y T F):=by
 have tx:∀m,fP k y m+Mo.tc T m=Fx.cK k.fi 1 m 24+jR (vE k y T F) m:=λm=>by
  have:=EY k y T F yt m 6;rw[aJ y6,aJ y6]at this;have:Mo.tc (k.tb y) m<=jR k m:=sY m yt 6 y6;unfold fP jR at*;omega
 refine⟨h.sp,h.gr,h.me,⟨h.wx.no,h.wx.kd,λn hn r k1=>?_,h.wx.pn,h.wx.ps,λm hm=>(g.hi.hd m hm).trans (tx m),λm hm kz=>?_,h.wx.rd,h.wx.wt⟩,h.rf,g.ok,λs hs q=>?_,h.st,h.hs,h.lv,h.of,h.ht,h.nm⟩
 .have a:=h.wx.nd n hn r k1;refine⟨a.1,(g.kd _ a.1 ?_).trans a.2⟩;have c1:=Fx.rD (T:=k.fi) (k:=1) (m:=(k.fi n).num) hn;have c2:=Fx.nM r;rw[k1]at c2;have c3:Fx.hit (k.fi n) 1 (k.fi n).num=1:=c2;unfold fP;omega
 .have e:(F.nd m).held=_:=g.hi.hd m hm;by_cases c:(F.nd m).held=0
  .exact c
  .exact aZ kz (g.hi.lv m hm bB)
 .show Mo.Rg (if s=y then T else k.tb s)/\(if s=y then T else k.tb s).ms.length<=6;by_cases c:s=y
  .rw[aJ c];exact⟨g.rg,g.sS⟩
  .rw[aI c];exact h.tb s hs q
end
def oE(s:St)(y:Nat)(v:Value)(T:Mo.Tb)(F:Fo):St:=⟨λi=>if i=55+y then v.ownBlock.getD 0 else s.A i,λi=>if i=y then v else s.V i,vE s.k y T F⟩
end Kn
open Kn (oE vE)
theorem bP.kU{w':bD}{y:Nat}(h:bP w Wr s)(y6:y<6)(yt:s.k.ht y=bw){T:Mo.Tb}(t:bT w' Wr (s.A (49+y)) (s.A 6) T v)(u:bR w' (s.A 6) F)(o:dM (BV (s.A (49+y)) (s.A 6) (s.V y)) w w')(nw:Nw w (s.V y) v):bP w' Wr (oE s y v T F)/\KF s w (oE s y v T F) w':=by
 have A9:∀i,i≠55+y->(oE s y v T F).A i=s.A i:=λi hi=>aI hi;have Ar:∀g,v.ownBlock=bj g->(oE s y v T F).A (55+y)=g:=λg e=>by show(if 55+y=55+y then v.ownBlock.getD 0 else _)=g;rw[aJ rfl,e];rfl
 have us':∀i,us (oE s y v T F) i->(i=55+y/\∃g,v.ownBlock=bj g)\/(i≠55+y/\us s i):=λi hi=>by
  by_cases c:i=55+y
  .left;refine⟨c,?_⟩;subst c;rcases hi with hi|⟨_,h2,_⟩|⟨_,h2,_⟩|⟨_,h2,_⟩|⟨_,_,_,h4⟩
   .omega
   .omega
   .omega
   .omega
   .have e:(oE s y v T F).V (55+y-55)=v:=by show(if 55+y-55=y then v else _)=v;rw[nL]
    rw[e]at h4;cases e2:v.ownBlock with
    |none=>exact aZ e2 h4
    |some g=>exact⟨g,rfl⟩
  .right;refine⟨c,?_⟩;rcases hi with hi|hi|hi|hi|⟨h1,h2,h3,h4⟩
   .exact .inl hi
   .exact .inr (.inl hi)
   .exact .inr (.inr (.inl hi))
   .exact .inr (.inr (.inr (.inl hi)))
   .have e:(oE s y v T F).V (i-55)=s.V (i-55):=nK;rw[e]at h4;exact .inr (.inr (.inr (.inr ⟨h1,h2,h3,h4⟩)))
 have ut:=Kn.kF y6 yt;have bk:∀i,us s i->i≠49+y->i≠6->i≠55+y->w'.heap[s.A i]? =w.heap[s.A i]? :=λi hi a b c=>o.block _ (h.lt hi) (λq=>by
  rcases q with q|q|q
  .exact h.ne hi ut a q
  .exact h.ne hi cv b q
  .exact h.ne hi (Kn.km y6 yt q) c (h.ro y y6 yt _ q).symm)
 have b9:∀i,i<9->i≠6->w'.heap[s.A i]? =w.heap[s.A i]? :=λi hi c=>bk i (.inl hi) bB c bB;have ne:∀n,n<6->n≠y->(oE s y v T F).V n=s.V n/\(oE s y v T F).k.tb n=s.k.tb n:=λn _ c=>⟨aI c,aI c⟩;refine⟨⟨?_,λx hx=>?_,?_,?_,?_,?_,?_,?_,?_,λn hn hh=>?_,λn hn hh=>?_,λn hn hh=>?_,λn hn hh g e=>?_,λi j hi hj e=>?_,λi hi=>?_⟩,⟨?_,λb hb=>?_,A9 0 bB⟩⟩
 .rw[A9 0 bB,b9 0 bB bB];exact h.mW
 .rw[A9 0 bB,aV (b9 0 bB bB),h.dY x hx];refine congrArg bj ?_;unfold Kn.kc Kn.pc;split
  .rw[A9 _ bB,A9 _ bB];rfl
  .split
   .rw[A9 _ bB];rfl
   .split
    .rw[A9 _ bB]
    .rw[A9 _ bB]
 .rw[A9 1 bB];exact h.sp.same (b9 1 bB bB)
 .rw[A9 2 bB];exact(b9 2 bB bB).trans h.gr
 .rw[A9 3 bB];exact h.sc.same (b9 3 bB bB)
 .rw[A9 4 bB,A9 5 bB];exact h.bk.same (b9 4 bB bB) (b9 5 bB bB)
 .rw[A9 8 bB,A9 6 bB,A9 7 bB];exact h.fi.same (b9 8 bB bB)
 .rw[A9 6 bB];exact u
 .rw[A9 7 bB];exact h.pi.same (b9 7 bB bB)
 .rw[A9 _ bB,A9 4 bB];exact(h.me n hn hh).same (bk _ (Kn.jf hn hh) bB bB bB)
 .rw[A9 _ bB];exact(h.bx n hn hh).same (bk _ (Kn.j9 hn hh) bB bB bB)
 .rw[A9 _ bB,A9 6 bB];by_cases c:n=y
  .subst c;rw[show(oE s n v T F).k.tb n=T from aJ rfl,show(oE s n v T F).V n=v from aJ rfl];exact t
  .rw[(ne n hn c).1,(ne n hn c).2];exact(h.tb n hn hh).same (bk _ (Kn.kF hn hh) bB bB bB) (λg eg=>by have:=bk _ (Kn.km hn hh eg) bB bB bB;rwa [h.ro n hn hh g eg]at this)
 .by_cases c:n=y
  .subst c;exact Ar g (by rw[<-e];exact(congrArg Value.ownBlock (show(oE s n v T F).V n=v from aJ rfl)).symm)
  .rw[(ne n hn c).1]at e;rw[A9 _ bB];exact h.ro n hn hh g e
 .have key:∀g,v.ownBlock=bj g->∀j,j≠55+y->us s j->s.A j≠g:=λg eg j jn uj q=>by
   rcases nw with n1|n1
   .rw[eg]at n1;have r:=h.ro y y6 yt g n1.symm;exact jn (h.inj j (55+y) uj (Kn.km y6 yt n1.symm) (q.trans r.symm))
   .have:=n1 g eg;have:=h.lt uj;omega
  rcases us' i hi with⟨i1,g1,e1⟩|⟨i1,i2⟩
  .rcases us' j hj with⟨j1,_⟩|⟨j1,j2⟩
   .omega
   .rw[i1,Ar g1 e1,A9 j j1]at e;exact aZ e.symm (key g1 e1 j j1 j2)
  .rcases us' j hj with⟨j1,g1,e1⟩|⟨j1,j2⟩
   .rw[j1,Ar g1 e1,A9 i i1]at e;exact aZ e (key g1 e1 i i1 i2)
   .rw[A9 i i1,A9 j j1]at e;exact h.inj i j i2 j2 e
 .rcases us' i hi with⟨i1,g1,e1⟩|⟨i1,i2⟩
  .rw[i1,Ar g1 e1];exact(t.row.lt g1 e1).1
  .rw[A9 i i1];exact h.low i i2
 .refine⟨o.os,o.tape,o.output,o.size,λk hk hn=>o.block k hk (λq=>hn ?_)⟩;rcases q with q|q|q
  .exact⟨_,ut,q⟩
  .exact⟨6,cv,q⟩
  .exact⟨55+y,Kn.km y6 yt q,(h.ro y y6 yt _ q).symm⟩
 .obtain⟨i,hi,rfl⟩:=hb;rcases us' i hi with⟨i1,g1,e1⟩|⟨i1,i2⟩
  .rw[i1,Ar g1 e1];rcases nw with n1|n1
   .rw[e1]at n1;exact .inl ⟨55+y,Kn.km y6 yt n1.symm,(h.ro y y6 yt g1 n1.symm).symm⟩
   .exact .inr (n1 g1 e1)
  .exact .inl ⟨i,i2,A9 i i1⟩
open Kn (Pr Kp St us KB KJ VI EI KH oE vE)
def Kn.rW(k:Kp)(v:Value)(k':Kp):Prop:=∃E,v=bN E/\(k'=k\/∃y T F,y<6/\k.ht y=bw/\Mo.MG (Kn.fP k y) k.fo F T/\k'=vE k y T F)
theorem Kn.rW.no(e:bN E=v):Kn.rW k v k:=⟨E,e.symm, .inl rfl⟩
section
variable {Wr N y:Nat}{s:St}{w:bD}
theorem QV(h:bP w Wr s)(hb:Wr<=w.heap.size)(hj:KJ (λ_=>False) N s.k)(y6:y<6)(yt:s.k.ht y=bw)(V:bD)(x z:Wh)(b:Below w.heap.size w V):Calls prog 211 #[ai (bj ⟨s.A (49+y),0,bu⟩),au #[aa az x.1,aa az x.2],au #[aa az z.1,aa az z.2]] V (Kn.Nx Wr s w (Kn.rW s.k)):=
 have H:=h.below b
 (Np Wr _ _ 102 _ _ _ x z V (H.tb y y6 yt) H.fo hj.hb bB (aH hb b.size)).mono (by
  rintro _ w' ⟨v,rfl,t,u,o,n⟩;have q:=H.kU y6 yt t u o n;exact⟨_,_,rfl,⟨_,rfl, .inr ⟨y,_,_,y6,yt,(hj.mg y6 yt).bin x z,rfl⟩⟩,q.1,(KF.below b).trans q.2⟩)
theorem My(h:bP w Wr s)(hj:KJ (λ_=>False) N s.k)(y6:y<6)(yt:s.k.ht y=bw)(V:bD)(x:Wh)(b:Below w.heap.size w V):Calls prog 212 #[ai (bj ⟨s.A (49+y),0,bu⟩),au #[aa az x.1,aa az x.2]] V (Kn.Nx Wr s w (Kn.rW s.k)):=
 have H:=h.below b
 (JH Wr _ _ 102 _ _ _ x V (H.tb y y6 yt) H.fo hj.hb bB).mono (by
  rintro _ w' ⟨E,T,F,v,rfl,r,t,u,o,n⟩;have q:=H.kU y6 yt t u o (.inl n);exact⟨_,_,rfl,⟨_,rfl, .inr ⟨y,_,_,y6,yt,(hj.mg y6 yt).Wo r,rfl⟩⟩,q.1,(KF.below b).trans q.2⟩)
theorem O6(h:bP w Wr s)(hj:KJ (λ_=>False) N s.k)(y6:y<6)(yt:s.k.ht y=bw)(V:bD)(t:Int)(b:Below w.heap.size w V):Calls prog 94 #[ai (bj ⟨s.A (49+y),0,bu⟩),aa az t] V (Kn.Nx Wr s w (Kn.rW s.k)):=by
 have H:=h.below b;by_cases e0:Tr.gF s.k.fo t=0
 .refine sC (LR Wr _ _ 102 _ _ _ t V (H.tb y y6 yt) H.fo e0 hj.hb bB) ?_;rintro w' ⟨t,u,o⟩;have q:=H.kU y6 yt t u ⟨o.os,o.tape,o.output,o.size,λk hk c=>o.block k hk (λd=>c (d.elim .inl (λd=> .inr (.inl d))))⟩ (.inr (λg e=>by cases e));exact⟨_,_,rfl,⟨0,rfl, .inr ⟨y,_,_,y6,yt,(hj.mg y6 yt).piv e0,rfl⟩⟩,q.1,(KF.below b).trans q.2⟩
 .refine sC (O7 Wr _ _ _ _ _ t V (H.tb y y6 yt) H.fo e0) ?_;rintro w' b2;exact .at h (b.trans (b2.mono b.size)) (.no rfl)
end
section
variable (Wr N:Nat)(d:Nat->Nat)(s:St)(w:bD)
theorem KU(z:Int)(p q:bU)(h:bP w Wr s)(hb:Wr<=w.heap.size)(hj:KJ (λ_=>False) N s.k):
  Calls prog 131 #[ai (bj ⟨s.A 0,0,bu⟩),aa az z,ak p,ak q] w (Kn.Nx Wr s w (Kn.rW s.k)):=by
 have TB:=hZ (jW Wr N s w z h hj);have H:=hZ (aK h (aK hb hj));generalize s.A 0=kb at TB|-;go_in
 go_wp2_with fail
 refine TB.mono ?_;rintro e w1 ⟨v,rfl,tp,b1⟩;by_cases A:Kn.cC s.k z=0
 .obtain⟨y,y6,yt,rfl⟩:=tp A;have RA:=hZ (L5 H.1 H.2.2 y6 yt);have WA:=hZ (wI H.1 H.2.2 y6 yt);have BI:=hZ (QV H.1 H.2.1 H.2.2 y6 yt);rw[A,bF];generalize s.A (49+y)=tb at*;go_wp2_with fail
  refine(RA.v _ p b1).mono ?_;rintro e w2 ⟨x0,E,rfl,b2⟩;have b2:=b1.trans (b2.mono b1.size);have b2:=b2.alloc b2.size (bh #[aa az x0.1,aa az x0.2] 224);by_cases E0:E=0
  .subst E0;rw[bF];go_wp2_with fail
   refine(WA.v _ q b2).mono ?_;rintro e w3 ⟨x1,E,rfl,b3⟩;obtain⟨hc,hf⟩:=yD b3;have hz:w2.heap.size<w3.heap.size:=by have:=b3.size;simp at this;omega
   have b3:=b2.trans (b3.mono b2.size);have b3:=b3.alloc b3.size (bh #[aa az x1.1,aa az x1.2] 224);by_cases E0:E=0
   .subst E0;rw[bF];go_wp2_with fail
    refine(BI.v _ x0 x1 b3).mono ?_;rintro e w4 ⟨v,s',rfl,S4⟩;have S4:=hZ S4;go_wp2
    go_ret
    exact⟨v,s',rfl,S4.v⟩
   .have E1:=hZ (bM E0);rw[bM E0];go_wp2
    go_ret
    exact .at H.1 b3 (.no E1.v)
  .have E1:=hZ (bM E0);rw[bM E0];go_wp2
   go_ret
   exact .at H.1 b2 (.no E1.v)
 .have A':=hZ (bM A);rw[bM A];generalize Kn.cC s.k z=ae at*;go_wp2
  go_ret
  exact .at H.1 b1 (.no A'.v)
theorem FN(z:Int)(p:bU)(h:bP w Wr s)(hj:KJ (λ_=>False) N s.k):
  Calls prog 132 #[ai (bj ⟨s.A 0,0,bu⟩),aa az z,ak p] w (Kn.Nx Wr s w (Kn.rW s.k)):=by
 have TB:=hZ (jW Wr N s w z h hj);have H:=hZ (aK h hj);generalize s.A 0=kb at TB|-;go_in
 go_wp2_with fail
 refine TB.mono ?_;rintro e w1 ⟨v,rfl,tp,b1⟩;by_cases A:Kn.cC s.k z=0
 .obtain⟨y,y6,yt,rfl⟩:=tp A;have RA:=hZ (L5 H.1 H.2 y6 yt);have BI:=hZ (My H.1 H.2 y6 yt);rw[A,bF];generalize s.A (49+y)=tb at*;go_wp2_with fail
  refine(RA.v _ p b1).mono ?_;rintro e w2 ⟨x0,E,rfl,b2⟩;have b2:=b1.trans (b2.mono b1.size);have b2:=b2.alloc b2.size (bh #[aa az x0.1,aa az x0.2] 224);by_cases E0:E=0
  .subst E0;rw[bF];go_wp2_with fail
   refine(BI.v _ x0 b2).mono ?_;rintro e w4 ⟨v,s',rfl,S4⟩;have S4:=hZ S4;go_wp2
   go_ret
   exact⟨v,s',rfl,S4.v⟩
  .have E1:=hZ (bM E0);rw[bM E0];go_wp2
   go_ret
   exact .at H.1 b2 (.no E1.v)
 .have A':=hZ (bM A);rw[bM A];generalize Kn.cC s.k z=ae at*;go_wp2
  go_ret
  exact .at H.1 b1 (.no A'.v)
theorem I4(z t:Int)(h:bP w Wr s)(hj:KJ (λ_=>False) N s.k):
  Calls prog 34 #[ai (bj ⟨s.A 0,0,bu⟩),aa az z,aa az t] w (Kn.Nx Wr s w (Kn.rW s.k)):=by
 have TB:=hZ (jW Wr N s w z h hj);have H:=hZ (aK h hj);obtain⟨kb,hk⟩:=nJ (s.A 0);have HK:=hZ hk;rw[hk]at TB|-;go_in
 go_wp2_with fail
 refine TB.mono ?_;rintro e w1 ⟨v,rfl,tp,b1⟩;by_cases A:Kn.cC s.k z=0
 .obtain⟨y,y6,yt,rfl⟩:=tp A;obtain⟨n,rfl,hn,hl⟩:=Kn.fL A;have IH:=hZ (mX Wr s w1 n (H.1.below b1) _ rfl);have PV:=hZ (O6 H.1 H.2 y6 yt);rw[HK.v]at IH;rw[A,bF];generalize s.A (49+y)=tb at*;go_wp2_with fail
  refine cG IH.v ?_;cases decide (Kn.hd s.k n=n)
  .go_wp2
   go_ret
   exact .at H.1 b1 (.no (E:=8) rfl)
  .go_wp2_with fail
   refine(PV.v _ t b1).mono ?_;rintro e w4 ⟨v,s',rfl,S4⟩;have S4:=hZ S4;go_wp2
   go_ret
   exact⟨v,s',rfl,S4.v⟩
 .have A':=hZ (bM A);rw[bM A];generalize Kn.cC s.k z=ae at*;go_wp2
  go_ret
  exact .at H.1 b1 (.no A'.v)
end
theorem Kn.GG(h:0<(Kn.gy k n 6).length):∃f,(Kn.gy k n 6).getD 0 0=f/\f<6/\(k.p n).fd f= -1:=by
 refine⟨_,rfl,Kn.sG ?_⟩;rw[aF,aW h];exact List.getElem_mem _
section
variable (Wr N:Nat)(d:Nat->Nat)(s:St)(w:bD)
theorem Lb(z f a:Int)(h:bP w Wr s):
  Calls prog 126 #[ai (bj ⟨s.A 0,0,bu⟩),aa az z,aa az f,aa az a] w (Kn.Nx Wr s w λv k'=>∃E,v=bN E/\(k'=s.k\/∃u,k'={s.k with fi:=Fx.lC s.k.fi u a})):=by
 have NB:=hZ (pK Wr s w z f h);have H:=hZ h;by_cases A:Kn.fk s.k z f=0
 .obtain⟨n,g,rfl,rfl,hn,hg,hl,hf⟩:=Kn.qs A;have SK:Hid (∀V,Below w.heap.size w V->Calls prog 204 #[ai (bj ⟨s.A 8,0,bu⟩),aa az ((s.k.p n).fd g),aa az a] V λe w'=>∃E,e=bf (bN E)/\bP w' Wr {s with k:={s.k with fi:=Fx.lC s.k.fi ((s.k.p n).fd g) a}}/\KF s w {s with k:={s.k with fi:=Fx.lC s.k.fi ((s.k.p n).fd g) a}} w'):=hZ (λV b=>(Na (s.A 8) (s.A 6) (s.A 7) _ a s.k.fi V (h.below b).fi).mono (by
   rintro _ w' ⟨rfl,u,f⟩;have q:=(h.below b).Jw u f;exact⟨_,rfl,q.1,(KF.below b).trans q.2⟩))
  have c8:=h.sF;have cf:=h.qA n g hn hg;rw[A,bF,qq]at NB;generalize (s.k.p n).fd g=v at*;generalize s.A 0=kb at*;generalize s.A 8=a8 at*;go_in
  go_wp2_with fail
  refine cG NB.v ?_;go_upto_region 4 with fail
  go_region_with ((go_at_call 204;refine(SK.v _ (by first|exact aQ _ _|exact(aQ _ _).drew)).mono ?_;rintro e w4 ⟨E,rfl,S4⟩;have S4:=hZ S4))
  all_goals
   go_wp2
   go_ret
   exact .mk ⟨E,rfl, .inr ⟨v,rfl⟩⟩ S4.v
 .have A':=hZ (bM A);rw[bM A]at NB;generalize tQ (s.A 0) z f (Kn.fk s.k z f)=ap at*;generalize Kn.fk s.k z f=ae at*;generalize s.A 0=kb at*;go_in
  go_wp2_with fail
  refine cG NB.v ?_;go_wp2
  go_ret
  exact .no H.v ⟨ae,A'.symm, .inl rfl⟩
def Kn.Hw(k:Kp)(v:Value)(k':Kp):Prop:=∃x E:Int,v=ao #[aa az x,bN E]/\(k'=k\/∃n f g:Nat,n<20/\f<6/\g<6/\Kn.lv k n=bw/\(k.p n).fd f= -1/\(k.p n).fd g≠ -1/\k'={Kn.eJ k n f ((k.p n).fd g)with fi:=Fx.iH k.fi ((k.p n).fd g)})
theorem On(z f:Int)(h:bP w Wr s)(hr:∀n,n<24->(s.k.fi n).refs<2^60):
  Calls prog 122 #[ai (bj ⟨s.A 0,0,bu⟩),aa az z,aa az f] w (Kn.Nx Wr s w (Kn.Hw s.k)):=by
 have NB:=hZ (pK Wr s w z f h);have H:=hZ h;by_cases A:Kn.fk s.k z f=0
 .obtain⟨n,g,rfl,rfl,hn,hg,hl,hf⟩:=Kn.qs A;have FRh:=hZ (tP Wr s w n h hn);have hnI:(n:Int)<20:=bB
  have HL:=hZ (aK hl (aK hf hr));rw[A,bF,qq]at NB;obtain⟨kb,hk⟩:=nJ (s.A 0);have HK:=hZ hk;rw[hk]at NB FRh|-;go_in
  go_wp2_with fail
  refine cG NB.v ?_;go_wp2_with fail
  refine FRh.mono ?_;rintro e w1 ⟨v,rfl,lo⟩;by_cases l0:0<(Kn.gy s.k n 6).length
  .obtain⟨gg,cap,hv,hgg,hc⟩:=lo.cells l0;obtain⟨f,ef,f6,fm⟩:=Kn.GG l0;have y0:w1.cell? ⟨gg,0,bu⟩=bj (aa az (((Kn.gy s.k n 6).getD 0 0:Nat):Int)):=hc 0 l0;rw[ef]at y0;have K1:=H.below lo.cZ;have cf:=K1.qA n g hn hg;have cd:=K1.qA n f hn f6;have fz:=K1.frozen;have q:=K1.rP hn f6 ((s.k.p n).fd g);have GB:∀i,i<9->gg≠s.A i:=λi hi e=>by
    have a:=H.lt (cv hi);have o:=lo.own;rw[hv]at o;have:=o.lt gg rfl;omega
   have GK:=GB 0 bB;have fg:f≠g:=λe=>HL.2.1 (by rw[<-e];exact fm);have SH:Hid (∀V,Below w1.heap.size (w1.setCell ⟨s.A 0,n*12+6+f,bu⟩ (aa az ((s.k.p n).fd g))) V->Calls prog 146 #[ai (bj ⟨s.A 8,0,bu⟩),aa az ((s.k.p n).fd g)] V λe w'=>∃E,e=bf (bN E)/\(∀o,w'.cell? ⟨gg,o,bu⟩=V.cell? ⟨gg,o,bu⟩/\w'.cell? ⟨s.A 0,o,bu⟩=V.cell? ⟨s.A 0,o,bu⟩)/\bP w' Wr {s with k:={Kn.eJ s.k n f ((s.k.p n).fd g)with fi:=Fx.iH s.k.fi ((s.k.p n).fd g)}}/\KF s w {s with k:={Kn.eJ s.k n f ((s.k.p n).fd g)with fi:=Fx.iH s.k.fi ((s.k.p n).fd g)}} w'):=hZ (λV b=>by
    have b:Below (w1.setCell ⟨s.A 0,n*12+6+f,bu⟩ (aa az ((s.k.p n).fd g))).heap.size (w1.setCell ⟨s.A 0,n*12+6+f,bu⟩ (aa az ((s.k.p n).fd g))) V:=b.mono (by simp);refine(zQ (s.A 8) (s.A 6) (s.A 7) _ s.k.fi V (q.1.below b).fi HL.2.2).mono ?_;rintro _ w' ⟨rfl,u,f⟩;have r:=(q.1.below b).Jw u f;exact⟨_,rfl,λo=>⟨aV (f.block gg (aD (by simpa using hgg) b.size) (GB 8 bB)),aV (f.block _ ((q.1.below b).lt (i:=0) cv) (H.ne cv cv bB))⟩,r.1,(KF.below lo.cZ).trans (q.2.trans ((KF.below b).trans r.2))⟩)
   have R:Hid (Kn.lv s.k n=bw/\(s.k.p n).fd f= -1/\(s.k.p n).fd g≠ -1):=hZ ⟨HL.1,fm,HL.2.1⟩;have z1:(w1.setCell ⟨s.A 0,n*12+6+f,bu⟩ (aa az ((s.k.p n).fd g))).cell? ⟨s.A 0,n*12+6+g,bu⟩=bj (aa az ((s.k.p n).fd g)):=by
    refine(q.1.qA n g hn hg).trans (congrArg (λx=>bj (aa az x)) ?_);show((Kn.eJ s.k n f ((s.k.p n).fd g)).p n).fd g=_;rw[(Kn.Ct _ _ _ _ _).2.2.2.2,aJ rfl];exact aI (bQ fg)
   have z8:(w1.setCell ⟨s.A 0,n*12+6+f,bu⟩ (aa az ((s.k.p n).fd g))).cell? ⟨s.A 0,252,bu⟩=bj (ai (bj ⟨s.A 8,0,bu⟩)):=q.1.sF;have fI:(f:Int)<6:=bB
   rw[hv];rw[HK.v]at cf cd fz GK SH z1 z8;have DD:Hid (∀u:Int,Kn.Hw s.k (ao #[aa az (f:Int),bN u]) {Kn.eJ s.k n f ((s.k.p n).fd g)with fi:=Fx.iH s.k.fi ((s.k.p n).fd g)}):=hZ (λu=>⟨f,u,rfl, .inr ⟨n,f,g,hn,f6,hg,R.1,R.2.1,R.2.2,rfl⟩⟩);generalize {Kn.eJ s.k n f ((s.k.p n).fd g)with fi:=Fx.iH s.k.fi ((s.k.p n).fd g)}=k2 at*;generalize (s.k.p n).fd g=v at*;generalize (s.k.p n).fd f=v2 at*;generalize s.A 8=a8 at*;generalize (Kn.gy s.k n 6).length=M at*;have M0:0<(M:Int):=bB
   have M1:((M:Int)==0)=bA:=by simp;omega
   have M2:¬M=0:=bB
   have M3:¬(M:Int)<=0:=bB
   have Z0:=hZ (aK y0 cf);obtain⟨W,hW⟩:=nJ (w1.setCell ⟨kb,n*12+6+f,bu⟩ (aa az v));have fr:bH kb w1 W:=by rw[<-hW];exact(bH.refl _ _).setCell _ _
   have y1:=(aV (fr.block gg hgg GK)).trans y0;rw[hW]at z1 z8 SH;have Z1:=hZ (aK y1 (aK z1 z8));go_upto_region 8 with fail
   go_region_held3 (λw'=>w'.cell? ⟨gg,0,bu⟩=bj (aa az (f:Int))/\w'.cell? ⟨kb,n*12+6+g,bu⟩=bj (aa az v)) (first|exact Z0.v|exact⟨Z1.1,Z1.2.1⟩|go_keep) (fail)
   obtain⟨x0,x1,x8⟩:=Z1.v;go_upto_region 9 with fail
   go_region_held3 (λw'=>w'.cell? ⟨gg,0,bu⟩=bj (aa az (f:Int))/\w'.cell? ⟨kb,n*12+6+g,bu⟩=bj (aa az v)/\w'.cell? ⟨kb,252,bu⟩=bj (ai (bj ⟨a8,0,bu⟩))) (first|exact Z1.v|exact Z4.v) ((go_at_call 146;refine(SH.v _ (by first|exact(aQ _ _).drew|exact(aQ _ _).drew.drew)).mono ?_;rintro e w4 ⟨E,rfl,z4,S4⟩;have Z4:=hZ (aK ((z4 0).1.trans x0) (aK ((z4 _).2.trans x1) ((z4 _).2.trans x8)));have S4:=hZ S4))
   all_goals
    go_wp2
    go_ret2
    exact .mk (DD.v E) S4.v
  .have K1:=hZ lo.cZ;have l1:(Kn.gy s.k n 6).length=0:=bB
   obtain⟨a,c,hv⟩:=gJ lo.own;rw[hv,l1];go_wp2
   go_ret2
   exact .at H.v K1.v ⟨0,4,rfl, .inl rfl⟩
 .have A':=hZ (bM A);rw[bM A]at NB;generalize tQ (s.A 0) z f (Kn.fk s.k z f)=ap at*;generalize Kn.fk s.k z f=ae at*;generalize s.A 0=kb at*;go_in
  go_wp2_with fail
  refine cG NB.v ?_;go_wp2
  go_ret2
  exact .no H.v ⟨0,ae,by rw[A'.v];rfl, .inl rfl⟩
end
theorem Ri(w:bD):Sem.run prog (binOp BinOp.eql 34 .nilIface (aq 100 (aa .i64 2))) w= .ok (ar bA) w:=by kernel_rfl
theorem GA(w:bD)(E:Int):Sem.run prog (binOp BinOp.eql 34 (aq 100 (aa az E)) (aq 100 (aa .i64 2))) w= .ok (ar (E==2)) w:=by kernel_rfl
def Kn.H7(k:Kp)(v:Value)(k':Kp):Prop:=∃x E:Int,v=ao #[aa az x,bN E]/\∃G,Kn.FG k G/\(k'={k with fo:=G}\/∃(n f K:Nat) (z:Int) (wr:Bool) (T:Nat->Fi) (F:Fo),n<20/\f<6/\Kn.lv k n=bw/\(k.p n).fd f= -1/\Fx.vS k.fi G z wr K 0 T F/\k'=Kn.eJ (Kn.iL k T F k.pi) n f (K:Int))
theorem Kn.BC{W w5:bD}{f gg:Nat}{s1:St}{G:Fo}{T:Nat->Fi}(k:bP W Wr s1)(e:s1.k={s.k with fo:=G})(f1:KF s w s1 W)(y:W.cell? ⟨gg,0,bu⟩=bj (aa az (f:Int)))(hl:gg<W.heap.size)(gb:∀i,us s1 i->gg≠s1.A i)(hn:n<20)(f6:f<6)(u:FX w5 (s1.A 8) (s1.A 6) (s1.A 7) T F s.k.pi)(t:dF (s1.A 8) (s1.A 6) (s1.A 7) W w5):
  (bP w5 Wr {s1 with k:=Kn.iL s.k T F s.k.pi}/\KF s w {s1 with k:=Kn.iL s.k T F s.k.pi} w5)/\w5.cell? ⟨gg,0,bu⟩=bj (aa az (f:Int))/\(∃v,w5.cell? ⟨s1.A 0,n*12+6+f,bu⟩=bj (aa az v))/\(∀o,w5.frozen? ⟨s1.A 0,o,bu⟩=bA)/\∀K:Nat,(w5.setCell ⟨s1.A 0,n*12+6+f,bu⟩ (aa az (K:Int))).cell? ⟨gg,0,bu⟩=bj (aa az (f:Int))/\bP (w5.setCell ⟨s1.A 0,n*12+6+f,bu⟩ (aa az (K:Int))) Wr {s1 with k:=Kn.eJ (Kn.iL s.k T F s.k.pi) n f (K:Int)}/\KF s w {s1 with k:=Kn.eJ (Kn.iL s.k T F s.k.pi) n f (K:Int)} (w5.setCell ⟨s1.A 0,n*12+6+f,bu⟩ (aa az (K:Int))):=by
 have q:=k.wB u t;rw[e]at q;have q:bP w5 Wr {s1 with k:=Kn.iL s.k T F s.k.pi}/\KF s1 W {s1 with k:=Kn.iL s.k T F s.k.pi} w5:=q;have y5:=(aV (t.block gg hl (gb 8 cv) (gb 6 cv) (gb 7 cv))).trans y;have f5:=f1.trans q.2;refine⟨⟨q.1,f5⟩,y5,⟨_,q.1.qA n f hn f6⟩,q.1.frozen,λK=>?_⟩;have r:=q.1.rP hn f6 (K:Int);have fr:bH (s1.A 0) w5 (w5.setCell ⟨s1.A 0,n*12+6+f,bu⟩ (aa az (K:Int))):=(bH.refl _ _).setCell _ _;exact⟨(aV (fr.block gg (aD hl q.2.ia.size) (gb 0 cv))).trans y5,r.1,f5.trans r.2⟩
section
variable (Wr N:Nat)(d:Nat->Nat)(s:St)(w:bD)
theorem K9(z:Int)(p:bU)(wr made:Bool)(h:bP w Wr s)(hj:KJ (λ_=>False) N s.k):
  Calls prog 121 #[ai (bj ⟨s.A 0,0,bu⟩),aa az z,ak p,ar wr,ar made] w (Kn.Nx Wr s w (Kn.H7 s.k)):=by
 have AC:=hZ (dP Wr s w z h);have H:=hZ (aK h hj);have OK:Hid (∀x E:Int,Kn.H7 s.k (ao #[aa az x,bN E]) s.k):=hZ (λx E=>⟨x,E,rfl,_,⟨hj.ok,hj.wx⟩, .inl rfl⟩);by_cases A:Kn.cC s.k z=0
 .obtain⟨n,rfl,hn,hl⟩:=Kn.fL A;have FRh:=hZ (tP Wr s w n h hn);have HL:=hZ hl;rw[A,bF,ie]at AC;obtain⟨kb,hk⟩:=nJ (s.A 0);have HK:=hZ hk;rw[hk]at AC FRh|-;go_in
  go_wp2_with fail
  refine cG AC.v ?_;go_wp2_with fail
  refine FRh.mono ?_;rintro e w1 ⟨v,rfl,lo⟩;have B1:=hZ lo.cZ;obtain⟨a,cap,hv⟩:=gJ lo.own;by_cases l0:0<(Kn.gy s.k n 6).length
  .obtain⟨gg,cap,hv,hgg,hc⟩:=lo.cells l0;obtain⟨f,ef,f6,fm⟩:=Kn.GG l0;have y0:w1.cell? ⟨gg,0,bu⟩=bj (aa az (((Kn.gy s.k n 6).getD 0 0:Nat):Int)):=hc 0 l0;rw[ef]at y0;have GB:Hid (∀i,us s i->gg≠s.A i):=hZ (λi hi e=>by
    have a:=H.1.lt hi;have o:=lo.own;rw[hv]at o;have:=o.lt gg rfl;omega)
   have K1:=H.1.below lo.cZ;have c8:=K1.sF;have RO:=hZ (pS (s.A 8) (s.A 6) (s.A 7) 1 s.k.fi w1 K1.fi);have WK:=hZ (uT Wr N s w1 (n:Int) p K1 H.2);have FM:=hZ fm;rw[hv];obtain⟨a8,h8⟩:=nJ (s.A 8);have H8:=hZ h8;rw[HK.v,h8]at c8;rw[h8]at RO;rw[HK.v]at WK;generalize (Kn.gy s.k n 6).length=M at*;have M0:0<(M:Int):=bB
   have M1:((M:Int)==0)=bA:=by simp;omega
   have M2:¬M=0:=bB
   have M3:¬(M:Int)<=0:=bB
   have fI:(f:Int)<6:=bB
   have Y0:=hZ (aK y0 hgg);go_wp2_with fail
   refine cG RO.v ?_;cases decide ((1:Int)<=24-(Fx.cQ s.k.fi 24:Int))
   .go_wp2
    go_ret2
    exact .at H.1 B1.v (OK.v 0 4)
   .clear y0 c8;go_wp2_with fail
    refine WK.mono ?_;rintro e w2 ⟨x,E,rfl,b2⟩;have B2:=hZ (B1.trans (b2.mono B1.size));have Y2:Hid (w2.cell? ⟨gg,0,bu⟩=bj (aa az (f:Int))/\gg<w2.heap.size):=hZ ⟨(b2.cell (p:=⟨gg,0,bu⟩) Y0.2).trans Y0.1,aD Y0.2 b2.size⟩;have MA:=hZ (DA Wr N s w2 (n:Int) p 1 (H.1.below B2.v) H.2);rw[HK.v]at MA;have KBg:Hid (¬Kn.KB s gg):=hZ (λ⟨i,hi,e⟩=>GB.v i hi e);by_cases go:E=0\/(E=2/\made=bw)
    .have TL:Hid (∀(s1:St) (W:bD) (G:Fo),bP W Wr s1->KF s w2 s1 W->s1.k={s.k with fo:=G}->Kn.FG s.k G->KF s w s1 W/\FX W (s1.A 8) (s1.A 6) (s1.A 7) s.k.fi G s.k.pi/\Fx.Sm G s.k.pi/\W.cell? ⟨kb,252,bu⟩=bj (ai (bj ⟨s1.A 8,0,bu⟩))/\W.cell? ⟨gg,0,bu⟩=bj (aa az (f:Int))/\gg<W.heap.size/\(∀i,us s1 i->gg≠s1.A i)/\s1.A 0=kb):=hZ (λs1 W G k f e g=>by
      have x:=k.fx;rw[e]at x;refine⟨(KF.below B2.v).trans f,x,g.2.sm (λm _=>by have:=H.2.tx m;omega),?_,(aV (f.jP Y2.2 KBg.v)).trans Y2.1,aD Y2.2 f.ia.size,λi hi e=>f.apart Y2.2 KBg.v ⟨i,hi,e⟩,f.a0.trans HK.v⟩;have c:=k.sF;rw[f.a0,HK.v]at c;exact c)
     rcases go with rfl|⟨rfl,rfl⟩
     .rw[bF];obtain⟨s1,G,K1,e1,g1⟩:∃s1 G,(bP w2 Wr s1/\KF s w2 s1 w2)/\s1.k={s.k with fo:=G}/\Kn.FG s.k G:=⟨s,s.k.fo,⟨H.1.below B2.v,KF.refl _ _⟩,rfl,⟨H.2.ok,H.2.wx⟩⟩;go_wp2_with fail
      rw[Ri];obtain⟨F1,X1,sm,c8,y0,hgl,gb,a0⟩:=TL.v s1 w2 G K1.1 K1.2 e1 g1;have XN:=hZ (Ca (s1.A 8) (s1.A 6) (s1.A 7) x wr s.k.fi G s.k.pi w2 X1 sm);have NT:Hid (∀w5 T F,_->_->_):=hZ (λw5 T F=>Kn.BC (w5:=w5) (T:=T) (F:=F) K1.1 e1 F1 y0 hgl gb hn f6);have S1:=hZ (aK K1.1 (aK F1 (aK e1 g1)));rw[a0]at NT;generalize s1.A 8=b8 at*;go_wp2_with fail
      refine XN.mono ?_;rintro e w5 ⟨K,E,T,F,rfl,nt,u5,f5⟩;obtain⟨a1,a2,⟨vo,a3⟩,a4,a5⟩:=NT.v w5 T F u5 f5;by_cases E0:E=0
      .subst E0;rw[bF];have A5:=hZ (aK nt (a5 K));have A2:=hZ a2;obtain⟨W6,hW6⟩:=nJ (w5.setCell ⟨kb,n*12+6+f,bu⟩ (aa az (K:Int)));rw[hW6]at A5;go_upto_region 15 with fail
       go_region_held3 (λw'=>w'.cell? ⟨gg,0,bu⟩=bj (aa az (f:Int))) (first|exact A2.v|exact A5.2.1|go_keep) (fail)
       have x0:=A5.2.1;go_wp2
       go_ret2
       exact⟨_,_,rfl,⟨f,0,rfl,G,S1.2.2.2, .inr ⟨n,f,K,x,wr,T,F,hn,f6,HL.v,FM.v,A5.1,rfl⟩⟩,A5.2.2.1.drew,A5.2.2.2.trans (KF.drew _ _)⟩
      .have E1:=hZ (bM E0);have A1:Hid (T=s.k.fi/\F=G):=hZ (by
        rcases nt with⟨_,_,_,q⟩|⟨_,_,_,_,q⟩|⟨_,_,_,q,_⟩
        .exact q
        .exact q
        .exact aZ q E0)
       have A2:=hZ a1;rw[bM E0];go_wp2
       go_ret2
       exact⟨_,_,rfl,⟨0,E,by rw[E1.v];rfl,G,S1.2.2.2, .inl (by rw[A1.1,A1.2];rfl)⟩,A2.v⟩
     .rw[bM bE];go_wp2_with fail
      rw[GA];go_wp2_with fail
      refine MA.mono ?_;rintro e w3 ⟨v,s1,rfl,⟨x,E,G,rfl,g1,e1⟩,K1⟩;by_cases E0:E=0
      .subst E0;rw[bF];obtain⟨F1,X1,sm,c8,y0,hgl,gb,a0⟩:=TL.v s1 w3 G K1.1 K1.2 e1 g1;have XN:=hZ (Ca (s1.A 8) (s1.A 6) (s1.A 7) x wr s.k.fi G s.k.pi w3 X1 sm);have NT:Hid (∀w5 T F,_->_->_):=hZ (λw5 T F=>Kn.BC (w5:=w5) (T:=T) (F:=F) K1.1 e1 F1 y0 hgl gb hn f6);have S1:=hZ (aK K1.1 (aK F1 (aK e1 g1)));rw[a0]at NT;generalize s1.A 8=b8 at*;go_wp2_with fail
       refine XN.mono ?_;rintro e w5 ⟨K,E,T,F,rfl,nt,u5,f5⟩;obtain⟨a1,a2,⟨vo,a3⟩,a4,a5⟩:=NT.v w5 T F u5 f5;by_cases E0:E=0
       .subst E0;rw[bF];have A5:=hZ (aK nt (a5 K));have A2:=hZ a2;obtain⟨W6,hW6⟩:=nJ (w5.setCell ⟨kb,n*12+6+f,bu⟩ (aa az (K:Int)));rw[hW6]at A5;go_upto_region 15 with fail
        go_region_held3 (λw'=>w'.cell? ⟨gg,0,bu⟩=bj (aa az (f:Int))) (first|exact A2.v|exact A5.2.1|go_keep) (fail)
        have x0:=A5.2.1;go_wp2
        go_ret2
        exact⟨_,_,rfl,⟨f,0,rfl,G,S1.2.2.2, .inr ⟨n,f,K,x,wr,T,F,hn,f6,HL.v,FM.v,A5.1,rfl⟩⟩,A5.2.2.1.drew,A5.2.2.2.trans (KF.drew _ _)⟩
       .have E1:=hZ (bM E0);have A1:Hid (T=s.k.fi/\F=G):=hZ (by
         rcases nt with⟨_,_,_,q⟩|⟨_,_,_,_,q⟩|⟨_,_,_,q,_⟩
         .exact q
         .exact q
         .exact aZ q E0)
        have A2:=hZ a1;rw[bM E0];go_wp2
        go_ret2
        exact⟨_,_,rfl,⟨0,E,by rw[E1.v];rfl,G,S1.2.2.2, .inl (by rw[A1.1,A1.2];rfl)⟩,A2.v⟩
      .have E1:=hZ (bM E0);have S1:=hZ (aK K1 (aK e1 g1));rw[bM E0];go_wp2
       go_ret2
       exact⟨_,s1,rfl,⟨0,E,by rw[E1.v];rfl,G,S1.2.2, .inl S1.2.1⟩,S1.1.1,(KF.below B2.v).trans S1.1.2⟩
    .have E0:E≠0:=λe=>go (.inl e);have E1:=hZ (bM E0);have O':=hZ (OK.v 0 E);rw[bM E0]at O'|-;go_wp2_with fail
     rw[GA];by_cases E2:E=2
     .have m0:made=bA:=by cases made;rfl;exact aZ (.inr ⟨E2,rfl⟩) go
      subst m0 E2;go_wp2
      go_ret2
      exact .at H.1 B2.v O'.v
     .have E3:(E==2)=bA:=by simpa using E2
      go_wp2
      go_ret2
      exact .at H.1 B2.v O'.v
  .have l1:(Kn.gy s.k n 6).length=0:=bB
   rw[hv,l1];go_wp2
   go_ret2
   exact .at H.1 B1.v (OK.v 0 4)
 .have A':=hZ (bM A);have O':=hZ (OK.v 0 (Kn.cC s.k z));rw[bM A]at AC O';generalize gO (s.A 0) z (Kn.cC s.k z)=ap at*;generalize Kn.cC s.k z=ae at*;generalize s.A 0=kb at*;go_in
  go_wp2_with fail
  refine cG AC.v ?_;go_wp2
  go_ret2
  exact .no H.1 O'.v

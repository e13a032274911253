import Derived.Test.YtpmmdkcfenjiaaaGreatDoorUbb
set_option maxRecDepth 100000
set_option maxHeartbeats 2000000
set_option linter.unusedVariables false
set_option linter.unusedSimpArgs false
namespace Go.Proofs.YtpmmdkcfenjiaaaGreatDoor
open Value renaming int->aa,pointer->ai,string->ak,tuple->ao,iface->aq,bool->ar,agg->au,nilIface->ay
open IntKind renaming i64->az
open Ending renaming returned->bf
open Obj renaming cells->bg
open Option renaming some->bh,none->bj
open Tryz (prog)
open Go.RowKit
open Fx (Fi)
open Tr (Fo Nd)
open Pp (Pi)
open Mo (Wh Mt)
open Mv (Me Bk)
open Kn (Pr Kp St us KB KJ VI EI KH)
theorem xv{W w1:bD}(hb:Below W.heap.size W w1):(∀b o,b<W.heap.size->w1.cell? ⟨b,o,bj⟩=W.cell? ⟨b,o,bj⟩)/\(∀b o,b<W.heap.size->w1.frozen? ⟨b,o,bj⟩=W.frozen? ⟨b,o,bj⟩):=⟨λb o h=>hb.cell (p:=⟨b,o,bj⟩) h,λb o h=>hb.frozen (p:=⟨b,o,bj⟩) h⟩
section
variable {UE N y:Nat}{s:St}{w:bD}
theorem zb(h:bH w UE s)(hj:KJ (λ_=>False) N s.k)(y6:y<6)(yt:s.k.ht y=true)(V:bD)(p:bU)(b:Below w.heap.size w V):Calls prog 205 #[ai (bh ⟨s.A (49+y),0,bj⟩),ak p] V λe w'=>∃(x:Wh) (nm:bU) (E:Int),e=bf (ao #[au #[aa az x.1,aa az x.2],ak nm,bG E])/\Below V.heap.size V w':=
 (wo UE _ _ _ _ _ p V ((h.below b).tb y y6 yt) (h.below b).fo hj.ok.sz).mono (by rintro _ w' ⟨x,nm,E,rfl,_,b2⟩;exact⟨x,nm,E,rfl,b2⟩)
theorem vv(h:bH w UE s)(hj:KJ (λ_=>False) N s.k)(y6:y<6)(yt:s.k.ht y=true)(V:bD)(p:bU)(b:Below w.heap.size w V):Calls prog 208 #[ai (bh ⟨s.A (49+y),0,bj⟩),ak p] V λe w'=>∃(x:Wh) (E:Int),e=bf (ao #[au #[aa az x.1,aa az x.2],bG E])/\Below V.heap.size V w':=
 (Dq UE _ _ _ _ _ p V ((h.below b).tb y y6 yt) (h.below b).fo hj.ok.sz).mono (by rintro _ w' ⟨x,E,rfl,_,b2⟩;exact⟨x,E,rfl,b2⟩)
theorem JT(h:bH w UE s)(hj:KJ (λ_=>False) N s.k)(y6:y<6)(yt:s.k.ht y=true)(V:bD)(p:bU)(b:Below w.heap.size w V):Calls prog 210 #[ai (bh ⟨s.A (49+y),0,bj⟩),ak p] V λe w'=>∃(x:Wh) (E:Int),e=bf (ao #[au #[aa az x.1,aa az x.2],bG E])/\Below V.heap.size V w':=
 (P7 UE _ _ _ _ _ p V ((h.below b).tb y y6 yt) (h.below b).fo hj.ok.sz).mono (by rintro _ w' ⟨x,E,rfl,_,b2⟩;exact⟨x,E,rfl,b2⟩)
end
section
variable (UE N:Nat)(d:Nat->Nat)(s:St)(w:bD)
theorem Mb(z:Int)(p q:bU)(h:bH w UE s)(hj:KJ (λ_=>False) N s.k):
  Calls prog 129 #[ai (bh ⟨s.A 0,0,bj⟩),aa az z,ak p,ak q] w (Kn.Nx UE s w (Kn.tf s.k)):=by
 have TB:=hJ (jv UE N s w z h hj);have H:=hJ (aK h hj);have RM:Hid (∀V (x:Int) (n:bU) (y:Int) (m:bU),Below w.heap.size w V->Calls prog 207 #[ai (bh ⟨s.A 6,0,bj⟩),aa az x,ak n,aa az y,ak m] V λe w'=>∃E G,e=bf (bG E)/\Kn.FG s.k G/\bH w' UE {s with k:={s.k with fo:=G}}/\KF s w {s with k:={s.k with fo:=G}} w'):=hJ (λV x n y m b=>(Ka (s.A 6) x n y m s.k.fo V (h.below b).fo hj.ok.sz hj.ok.cR hj.ok.en).mono (by rintro _ w' ⟨E,G,rfl,r,u,f⟩;exact⟨E,G,rfl,⟨hj.ok.Rw r,hj.wx.Rw r⟩,h.BJ b u f⟩));have C6:Hid (∀V,Below w.heap.size w V->V.cell? ⟨s.A 0,250,bj⟩=bh (ai (bh ⟨s.A 6,0,bj⟩))):=hJ (λV b=>(h.below b).vD);generalize hk:s.A 0=kb at TB C6|-;go_in
 go_wp2_with fail
 refine TB.mono ?_;rintro e w1 ⟨v,rfl,tp,b1⟩;by_cases A:Kn.bT s.k z=0
 .obtain⟨y,y6,yt,rfl⟩:=tp A;have LA:=hJ (zb H.1 H.2 y6 yt);have WA:=hJ (vv H.1 H.2 y6 yt);rw[A,bB];generalize s.A (49+y)=tb at*;generalize s.A 6=a6 at*;go_wp2_with fail
  refine(LA.v _ p b1).mono ?_;rintro e w2 ⟨x0,nm0,E,rfl,b2⟩;have b2:=b1.trans (b2.mono b1.size);have b2:=b2.alloc b2.size (bg #[aa az x0.1,aa az x0.2] 224);by_cases E0:E=0
  .subst E0;rw[bB];go_wp2_with fail
   refine(LA.v _ q b2).mono ?_;rintro e w3 ⟨x1,nm1,E,rfl,b3⟩;obtain⟨hc,hf⟩:=xv b3;have hz:w2.heap.size<w3.heap.size:=by have:=b3.size;simp at this;omega
   have b3:=b2.trans (b3.mono b2.size);have b3:=b3.alloc b3.size (bg #[aa az x1.1,aa az x1.2] 224);by_cases E0:E=0
   .subst E0;rw[bB];go_upto_region 10 with fail
    have c6:=C6.v _ b3;go_region_with ((go_at_call 207;refine(RM.v _ _ _ _ _ (by first|exact b3|exact b3.drew)).mono ?_;rintro e w4 ⟨E,G,rfl,S4⟩;have S4:=hJ S4))
    all_goals
     go_wp2
     go_ret
     exact .mk ⟨E,G,rfl,S4.1,rfl⟩ S4.2
   .have E1:=hJ (bC E0);rw[bC E0];go_wp2
    go_ret
    exact .at H.1 b3 (.no H.2 E1.v)
  .have E1:=hJ (bC E0);rw[bC E0];go_wp2
   go_ret
   exact .at H.1 b2 (.no H.2 E1.v)
 .have A':=hJ (bC A);rw[bC A];generalize Kn.bT s.k z=ae at*;go_wp2
  go_ret
  exact .at H.1 b1 (.no H.2 A'.v)
theorem L5(z:Int)(p q:bU)(h:bH w UE s)(hj:KJ (λ_=>False) N s.k):
  Calls prog 130 #[ai (bh ⟨s.A 0,0,bj⟩),aa az z,ak p,ak q] w (Kn.Nx UE s w (Kn.tf s.k)):=by
 have TB:=hJ (jv UE N s w z h hj);have H:=hJ (aK h hj);have RM:Hid (∀V (x y:Int) (m:bU),Below w.heap.size w V->Calls prog 209 #[ai (bh ⟨s.A 6,0,bj⟩),aa az x,aa az y,ak m] V λe w'=>∃E G,e=bf (bG E)/\Kn.FG s.k G/\bH w' UE {s with k:={s.k with fo:=G}}/\KF s w {s with k:={s.k with fo:=G}} w'):=hJ (λV x y m b=>(J7 (s.A 6) x y m s.k.fo V (h.below b).fo hj.ok.sz (λn hn k=>by have:=hj.ok.Ck n hn k;have e1:(2:Nat)^60=1152921504606846976:=bA;omega)).mono (by rintro _ w' ⟨E,G,rfl,r,u,f⟩;exact⟨E,G,rfl,⟨hj.ok.Rl r,hj.wx.Rl r⟩,h.BJ b u f⟩));have C6:Hid (∀V,Below w.heap.size w V->V.cell? ⟨s.A 0,250,bj⟩=bh (ai (bh ⟨s.A 6,0,bj⟩))):=hJ (λV b=>(h.below b).vD);generalize hk:s.A 0=kb at TB C6|-;go_in
 go_wp2_with fail
 refine TB.mono ?_;rintro e w1 ⟨v,rfl,tp,b1⟩;by_cases A:Kn.bT s.k z=0
 .obtain⟨y,y6,yt,rfl⟩:=tp A;have LA:=hJ (zb H.1 H.2 y6 yt);have WA:=hJ (vv H.1 H.2 y6 yt);rw[A,bB];generalize s.A (49+y)=tb at*;generalize s.A 6=a6 at*;go_wp2_with fail
  refine(WA.v _ p b1).mono ?_;rintro e w2 ⟨x0,E,rfl,b2⟩;have b2:=b1.trans (b2.mono b1.size);have b2:=b2.alloc b2.size (bg #[aa az x0.1,aa az x0.2] 224);by_cases E0:E=0
  .subst E0;rw[bB];go_wp2_with fail
   refine(LA.v _ q b2).mono ?_;rintro e w3 ⟨x1,nm1,E,rfl,b3⟩;obtain⟨hc,hf⟩:=xv b3;have hz:w2.heap.size<w3.heap.size:=by have:=b3.size;simp at this;omega
   have b3:=b2.trans (b3.mono b2.size);have b3:=b3.alloc b3.size (bg #[aa az x1.1,aa az x1.2] 224);by_cases E0:E=0
   .subst E0;rw[bB];go_upto_region 10 with fail
    have c6:=C6.v _ b3;go_region_with ((go_at_call 209;refine(RM.v _ _ _ _ (by first|exact b3|exact b3.drew)).mono ?_;rintro e w4 ⟨E,G,rfl,S4⟩;have S4:=hJ S4))
    all_goals
     go_wp2
     go_ret
     exact .mk ⟨E,G,rfl,S4.1,rfl⟩ S4.2
   .have E1:=hJ (bC E0);rw[bC E0];go_wp2
    go_ret
    exact .at H.1 b3 (.no H.2 E1.v)
  .have E1:=hJ (bC E0);rw[bC E0];go_wp2
   go_ret
   exact .at H.1 b2 (.no H.2 E1.v)
 .have A':=hJ (bC A);rw[bC A];generalize Kn.bT s.k z=ae at*;go_wp2
  go_ret
  exact .at H.1 b1 (.no H.2 A'.v)
def Kn.KT(k:Kp)(v:Value)(k':Kp):Prop:=∃(x E:Int) (G:Fo),v=ao #[aa az x,bG E]/\Kn.FG k G/\k'={k with fo:=G}
theorem Kn.KT.no{k:Kp}{X:Nat->Prop}{N:Nat}(h:KJ X N k){E:Int}{v:Value}(e:bG E=v):Kn.KT k (ao #[aa az 0,v]) k:=⟨0,E,k.fo,by rw[e],⟨h.ok,h.wx⟩,rfl⟩
theorem Ca(z:Int)(p:bU)(kz:Int)(h:bH w UE s)(hj:KJ (λ_=>False) N s.k):
  Calls prog 199 #[ai (bh ⟨s.A 0,0,bj⟩),aa az z,ak p,aa az kz] w (Kn.Nx UE s w (Kn.KT s.k)):=by
 have TB:=hJ (jv UE N s w z h hj);have H:=hJ (aK h hj);have RM:Hid (∀V (x:Int) (n:bU),Below w.heap.size w V->Calls prog 242 #[ai (bh ⟨s.A 6,0,bj⟩),aa az x,ak n,aa az kz] V λe w'=>∃(K:Nat) (E:Int) (G:Fo),e=bf (ao #[aa az K,bG E])/\Kn.FG s.k G/\bH w' UE {s with k:={s.k with fo:=G}}/\KF s w {s with k:={s.k with fo:=G}} w'):=hJ (λV x n b=>(J9 (s.A 6) x n kz s.k.fo V (h.below b).fo hj.ok.sz).mono (by rintro _ w' ⟨K,E,G,rfl,r,u,f⟩;exact⟨K,E,G,rfl,⟨hj.ok.Rq r,hj.wx.Rq r⟩,h.BJ b u f⟩));have C6:Hid (∀V,Below w.heap.size w V->V.cell? ⟨s.A 0,250,bj⟩=bh (ai (bh ⟨s.A 6,0,bj⟩))):=hJ (λV b=>(h.below b).vD);generalize hk:s.A 0=kb at TB C6|-;go_in
 go_wp2_with fail
 refine TB.mono ?_;rintro e w1 ⟨v,rfl,tp,b1⟩;by_cases A:Kn.bT s.k z=0
 .obtain⟨y,y6,yt,rfl⟩:=tp A;have LA:=hJ (zb H.1 H.2 y6 yt);have WA:=hJ (vv H.1 H.2 y6 yt);rw[A,bB];generalize s.A (49+y)=tb at*;generalize s.A 6=a6 at*;go_wp2_with fail
  refine(LA.v _ p b1).mono ?_;rintro e w2 ⟨x0,nm0,E,rfl,b2⟩;have b2:=b1.trans (b2.mono b1.size);have b2:=b2.alloc b2.size (bg #[aa az x0.1,aa az x0.2] 224);by_cases E0:E=0
  .subst E0;rw[bB];go_upto_region 7 with fail
   have c6:=C6.v _ b2;go_region_with ((go_at_call 242;refine(RM.v _ _ _ (by first|exact b2|exact b2.drew)).mono ?_;rintro e w4 ⟨K,E,G,rfl,S4⟩;have S4:=hJ S4))
   all_goals
    go_wp2
    go_ret2
    exact .mk ⟨K,E,G,rfl,S4.1,rfl⟩ S4.2
  .have E1:=hJ (bC E0);rw[bC E0];go_wp2
   go_ret2
   exact .at H.1 b2 (.no H.2 E1.v)
 .have A':=hJ (bC A);rw[bC A];generalize Kn.bT s.k z=ae at*;go_wp2
  go_ret2
  exact .at H.1 b1 (.no H.2 A'.v)
theorem GO(z:Int)(p:bU)(h:bH w UE s)(hj:KJ (λ_=>False) N s.k):
  Calls prog 127 #[ai (bh ⟨s.A 0,0,bj⟩),aa az z,ak p] w (Kn.Nx UE s w (Kn.tf s.k)):=by
 have MA:=hJ (Ca UE N s w z p 2 h hj);generalize s.A 0=kb at*;go_in
 go_wp2_with fail
 refine MA.mono ?_;rintro e w1 ⟨v,s',rfl,⟨x,E,G,rfl,g,ek⟩,S1⟩;have S1:=hJ (aK g (aK ek S1));go_wp2
 go_ret
 exact⟨_,s',rfl,⟨E,G,rfl,S1.1,S1.2.1⟩,S1.2.2⟩
end
namespace Mo
structure MG (g:Nat->Nat)(F0 F:Fo)(T:Tb):Prop where
 ok:Tr.Ok F
 hi:HI F (λn=>g n+tc T n)
 rg:Rg T
 rJ:T.ms.length<=6
 kd:∀n,n<40->0<g n->(F.nd n).kind=(F0.nd n).kind
section
variable {g:Nat->Nat}{F0 F F':Fo}{T T':Tb}
theorem MG.bin(h:MG g F0 F T)(x y:Wh):MG g F0 (yO F T x y) (yP F T x y):=by
 unfold yO yP;by_cases c:kL F T x y=0
 .rw[aJ c,aJ c];obtain⟨c1,c2,c3⟩:=QG c;refine⟨(h.ok.dB _).dB _,(I3 h.hi (yE c1) (yE c2)).congr (λn _=>?_),⟨h.rg.1,λm hm=>?_⟩,?_,λn hn c=>(nA _ _ _).trans ((nA _ _ _).trans (h.kd n hn c))⟩
  .show _=g n+(gG T.rt.2 n+mc (T.ms++[(x,y)]) n);rw[Rr,mw,tX];unfold tc;omega
  .rcases List.mem_append.1 hm with k|k
   .exact h.rg.2 m k
   .rw[List.mem_singleton]at k;subst k;exact⟨wA (yE c1),wA (yE c2)⟩
  .have:=h.rJ;show(T.ms++[(x,y)]).length<=6;rw[List.length_append,List.length_singleton];omega
 .rw[aI c,aI c];exact h
theorem MG.Uy{x:Wh}{E:Int}(h:MG g F0 F T)(hu:AK F T x E T' F'):MG g F0 F' T':=by
 rcases hu with⟨i,_,m,hm,_,rfl,rfl⟩|⟨_,_,rfl,rfl⟩
 .have hl:=(aY.1 hm).1;have hin:=h.rg.2 m (bK hm);have hi:HI (iG F m) (λn=>g n+tc ⟨T.rt,T.ms.eraseIdx i⟩ n):=Jw (h.hi.congr (λn _=>by
   show g n+(gG T.rt.2 n+mc T.ms n)=g n+(gG T.rt.2 n+mc (T.ms.eraseIdx i) n)+gG m.1.2 n+gG m.2.2 n;rw[My hm n];omega)) hin.1 hin.2
  refine⟨(h.ok.dq _).dq _,hi,⟨h.rg.1,λy hy=>h.rg.2 y (List.mem_of_mem_eraseIdx hy)⟩,?_,λn hn c=>(Cg (by rw[hi.hd n hn];omega)).trans (h.kd n hn c)⟩;have:=h.rJ;show(T.ms.eraseIdx i).length<=6;rw[List.length_eraseIdx_of_lt hl];omega
 .exact h
theorem MG.piv{t:Int}(h:MG g F0 F T)(e0:Tr.ga F t=0):MG g F0 (Tr.dB (kF F T) (Tr.fB F t)) ⟨(t,(Tr.fB F t:Int)),[]⟩:=by
 have o:=Jv (T:=T) h.ok;have er:Tr.ga (kF F T) t=Tr.ga F t:=by unfold Tr.ga;rw[(Cf F T).2]
 have nr:Tr.fB (kF F T) t=Tr.fB F t:=by unfold Tr.fB;rw[er,(Cf F T).1]
 have al:Tr.cA (kF F T) (Tr.fB F t)=0:=by rw[<-nr];exact Hp o (er.trans e0)
 have hl:=Ju h.hi h.rg;refine⟨o.dB _,(hl.dB al).congr (λn _=>?_),⟨wA al,λm hm=>by cases hm⟩,by simp,λn hn c=>(nA _ _ _).trans ((Ce (by rw[hl.hd n hn];exact c)).trans (h.kd n hn c))⟩;show g n+gG (Tr.fB F t) n=g n+(gG (Tr.fB F t) n+mc [] n);rw[tX];rfl
end
end Mo
namespace Kn
def uF(k:Kp)(y:Nat)(T:Mo.Tb)(F:Fo):Kp:={k with tb:=λi=>if i=y then T else k.tb i,fo:=F}
theorem Df(k:Kp)(y:Nat)(T:Mo.Tb)(F:Fo)(yt:k.ht y=true)(m:Nat):∀s,kv (uF k y T F) m s+(if y<s then Mo.tc (k.tb y) m else 0)=kv k m s+if y<s then Mo.tc T m else 0
 |0=>rfl
 |s+1=>by
  have ih:=Df k y T F yt m s;show kv (uF k y T F) m s+(if k.ht s=true then Mo.tc (if s=y then T else k.tb s) m else 0)+_=kv k m s+(if k.ht s=true then Mo.tc (k.tb s) m else 0)+_;by_cases c:s=y
  .subst c;rw[aI (bV _),aI (bV _)]at ih;rw[aJ yt,aJ yt,aJ rfl,aJ (Nat.lt_succ_self _),aJ (Nat.lt_succ_self _)];omega
  .rw[aI c];by_cases e:y<s
   .rw[aJ e,aJ e]at ih;rw[aJ (show y<s+1 by omega),aJ (show y<s+1 by omega)];omega
   .rw[aI e,aI e]at ih;rw[aI (show¬y<s+1 by omega),aI (show¬y<s+1 by omega)];omega
section
variable {X:Nat->Prop}{N y:Nat}{k:Kp}
def fT(k:Kp)(y n:Nat):Nat:=Fx.cK k.fi 1 n 24+(jq k n-Mo.tc (k.tb y) n)
theorem KJ.mg(h:KJ X N k)(y6:y<6)(yt:k.ht y=true):Mo.MG (fT k y) k.fo k.fo (k.tb y):=by
 have rg:=h.tb y y6 yt;refine⟨h.ok,⟨λn hn=>?_,λn hn c kz=>?_⟩,rg.1,rg.2,λ_ _ _=>rfl⟩
 .have:Mo.tc (k.tb y) n<=jq k n:=rO n yt 6 y6;rw[h.wx.hl n hn];unfold fT;omega
 .have:Mo.tc (k.tb y) n<=jq k n:=rO n yt 6 y6;have:=h.wx.z0 n hn kz;rw[h.wx.hl n hn]at this;unfold fT at c;omega
theorem KJ.Ux(h:KJ X N k)(y6:y<6)(yt:k.ht y=true){T:Mo.Tb}{F:Fo}(g:Mo.MG (fT k y) k.fo F T):KJ X N (uF k y T F):=by
 have tx:∀m,fT k y m+Mo.tc T m=Fx.cK k.fi 1 m 24+jq (uF k y T F) m:=λm=>by
  have:=Df k y T F yt m 6;rw[aJ y6,aJ y6]at this;have:Mo.tc (k.tb y) m<=jq k m:=rO m yt 6 y6;unfold fT jq at*;omega
 refine⟨h.sp,h.gr,h.me,⟨h.wx.no,h.wx.kd,λn hn r k1=>?_,h.wx.pn,h.wx.ps,λm hm=>(g.hi.hd m hm).trans (tx m),λm hm kz=>?_,h.wx.rd,h.wx.wt⟩,h.rf,g.ok,λs hs q=>?_,h.st,h.hs,h.lv,h.of,h.ht,h.nm⟩
 .have a:=h.wx.nd n hn r k1;refine⟨a.1,(g.kd _ a.1 ?_).trans a.2⟩;have c1:=Fx.qz (T:=k.fi) (k:=1) (m:=(k.fi n).num) hn;have c2:=Fx.mj r;rw[k1]at c2;have c3:Fx.hit (k.fi n) 1 (k.fi n).num=1:=c2;unfold fT;omega
 .have e:(F.nd m).held=_:=g.hi.hd m hm;by_cases c:(F.nd m).held=0
  .exact c
  .exact aZ kz (g.hi.lv m hm bu)
 .show Mo.Rg (if s=y then T else k.tb s)/\(if s=y then T else k.tb s).ms.length<=6;by_cases c:s=y
  .rw[aJ c];exact⟨g.rg,g.rJ⟩
  .rw[aI c];exact h.tb s hs q
end
def mW(s:St)(y:Nat)(v:Value)(T:Mo.Tb)(F:Fo):St:=⟨λi=>if i=55+y then v.ownBlock.getD 0 else s.A i,λi=>if i=y then v else s.V i,uF s.k y T F⟩
end Kn
open Kn (mW uF)
theorem bH.jU{w w':bD}{UE y:Nat}{s:St}(h:bH w UE s)(y6:y<6)(yt:s.k.ht y=true){T:Mo.Tb}{F:Fo}{v:Value}(t:bP w' UE (s.A (49+y)) (s.A 6) T v)(u:bN w' (s.A 6) F)(o:dF (BV (s.A (49+y)) (s.A 6) (s.V y)) w w')(nw:Nw w (s.V y) v):bH w' UE (mW s y v T F)/\KF s w (mW s y v T F) w':=by
 have A9:∀i,i≠55+y->(mW s y v T F).A i=s.A i:=λi hi=>aI hi;have Ar:∀g,v.ownBlock=bh g->(mW s y v T F).A (55+y)=g:=λg e=>by show(if 55+y=55+y then v.ownBlock.getD 0 else _)=g;rw[aJ rfl,e];rfl
 have us':∀i,us (mW s y v T F) i->(i=55+y/\∃g,v.ownBlock=bh g)\/(i≠55+y/\us s i):=λi hi=>by
  by_cases c:i=55+y
  .left;refine⟨c,?_⟩;subst c;rcases hi with hi|⟨_,h2,_⟩|⟨_,h2,_⟩|⟨_,h2,_⟩|⟨_,_,_,h4⟩
   .omega
   .omega
   .omega
   .omega
   .have e:(mW s y v T F).V (55+y-55)=v:=by show(if 55+y-55=y then v else _)=v;rw[nK]
    rw[e]at h4;cases e2:v.ownBlock with
    |none=>exact aZ e2 h4
    |some g=>exact⟨g,rfl⟩
  .right;refine⟨c,?_⟩;rcases hi with hi|hi|hi|hi|⟨h1,h2,h3,h4⟩
   .exact .inl hi
   .exact .inr (.inl hi)
   .exact .inr (.inr (.inl hi))
   .exact .inr (.inr (.inr (.inl hi)))
   .have e:(mW s y v T F).V (i-55)=s.V (i-55):=nJ;rw[e]at h4;exact .inr (.inr (.inr (.inr ⟨h1,h2,h3,h4⟩)))
 have ut:=Kn.jL y6 yt;have bk:∀i,us s i->i≠49+y->i≠6->i≠55+y->w'.heap[s.A i]? =w.heap[s.A i]? :=λi hi a b c=>o.block _ (h.lt hi) (λq=>by
  rcases q with q|q|q
  .exact h.ne hi ut a q
  .exact h.ne hi bS b q
  .exact h.ne hi (Kn.jD y6 yt q) c (h.ro y y6 yt _ q).symm)
 have b9:∀i,i<9->i≠6->w'.heap[s.A i]? =w.heap[s.A i]? :=λi hi c=>bk i (.inl hi) bu c bu;have ne:∀n,n<6->n≠y->(mW s y v T F).V n=s.V n/\(mW s y v T F).k.tb n=s.k.tb n:=λn _ c=>⟨aI c,aI c⟩;refine⟨⟨?_,λx hx=>?_,?_,?_,?_,?_,?_,?_,?_,λn hn hh=>?_,λn hn hh=>?_,λn hn hh=>?_,λn hn hh g e=>?_,λi j hi hj e=>?_,λi hi=>?_⟩,⟨?_,λb hb=>?_,A9 0 bu⟩⟩
 .rw[A9 0 bu,b9 0 bu bu];exact h.lO
 .rw[A9 0 bu,aV (b9 0 bu bu),h.dQ x hx];refine congrArg bh ?_;unfold Kn.kc Kn.pc;split
  .rw[A9 _ bu,A9 _ bu];rfl
  .split
   .rw[A9 _ bu];rfl
   .split
    .rw[A9 _ bu]
    .rw[A9 _ bu]
 .rw[A9 1 bu];exact h.sp.same (b9 1 bu bu)
 .rw[A9 2 bu];exact(b9 2 bu bu).trans h.gr
 .rw[A9 3 bu];exact h.sc.same (b9 3 bu bu)
 .rw[A9 4 bu,A9 5 bu];exact h.bk.same (b9 4 bu bu) (b9 5 bu bu)
 .rw[A9 8 bu,A9 6 bu,A9 7 bu];exact h.fi.same (b9 8 bu bu)
 .rw[A9 6 bu];exact u
 .rw[A9 7 bu];exact h.pi.same (b9 7 bu bu)
 .rw[A9 _ bu,A9 4 bu];exact(h.me n hn hh).same (bk _ (Kn.iD hn hh) bu bu bu)
 .rw[A9 _ bu];exact(h.bx n hn hh).same (bk _ (Kn.jC hn hh) bu bu bu)
 .rw[A9 _ bu,A9 6 bu];by_cases c:n=y
  .subst c;rw[show(mW s n v T F).k.tb n=T from aJ rfl,show(mW s n v T F).V n=v from aJ rfl];exact t
  .rw[(ne n hn c).1,(ne n hn c).2];exact(h.tb n hn hh).same (bk _ (Kn.jL hn hh) bu bu bu) (λg eg=>by have:=bk _ (Kn.jD hn hh eg) bu bu bu;rwa [h.ro n hn hh g eg]at this)
 .by_cases c:n=y
  .subst c;exact Ar g (by rw[<-e];exact(congrArg Value.ownBlock (show(mW s n v T F).V n=v from aJ rfl)).symm)
  .rw[(ne n hn c).1]at e;rw[A9 _ bu];exact h.ro n hn hh g e
 .have key:∀g,v.ownBlock=bh g->∀j,j≠55+y->us s j->s.A j≠g:=λg eg j jn uj q=>by
   rcases nw with n1|n1
   .rw[eg]at n1;have r:=h.ro y y6 yt g n1.symm;exact jn (h.inj j (55+y) uj (Kn.jD y6 yt n1.symm) (q.trans r.symm))
   .have:=n1 g eg;have:=h.lt uj;omega
  rcases us' i hi with⟨i1,g1,e1⟩|⟨i1,i2⟩
  .rcases us' j hj with⟨j1,_⟩|⟨j1,j2⟩
   .omega
   .rw[i1,Ar g1 e1,A9 j j1]at e;exact aZ e.symm (key g1 e1 j j1 j2)
  .rcases us' j hj with⟨j1,g1,e1⟩|⟨j1,j2⟩
   .rw[j1,Ar g1 e1,A9 i i1]at e;exact aZ e (key g1 e1 i i1 i2)
   .rw[A9 i i1,A9 j j1]at e;exact h.inj i j i2 j2 e
 .rcases us' i hi with⟨i1,g1,e1⟩|⟨i1,i2⟩
  .rw[i1,Ar g1 e1];exact(t.row.lt g1 e1).1
  .rw[A9 i i1];exact h.low i i2
 .refine⟨o.os,o.tape,o.output,o.size,λk hk hn=>o.block k hk (λq=>hn ?_)⟩;rcases q with q|q|q
  .exact⟨_,ut,q⟩
  .exact⟨6,bS,q⟩
  .exact⟨55+y,Kn.jD y6 yt q,(h.ro y y6 yt _ q).symm⟩
 .obtain⟨i,hi,rfl⟩:=hb;rcases us' i hi with⟨i1,g1,e1⟩|⟨i1,i2⟩
  .rw[i1,Ar g1 e1];rcases nw with n1|n1
   .rw[e1]at n1;exact .inl ⟨55+y,Kn.jD y6 yt n1.symm,(h.ro y y6 yt g1 n1.symm).symm⟩
   .exact .inr (n1 g1 e1)
  .exact .inl ⟨i,i2,A9 i i1⟩
open Kn (Pr Kp St us KB KJ VI EI KH mW uF)
def Kn.qQ(k:Kp)(v:Value)(k':Kp):Prop:=∃E,v=bG E/\(k'=k\/∃y T F,y<6/\k.ht y=true/\Mo.MG (Kn.fT k y) k.fo F T/\k'=uF k y T F)
theorem Kn.qQ.no{k:Kp}{E:Int}{v:Value}(e:bG E=v):Kn.qQ k v k:=⟨E,e.symm, .inl rfl⟩
section
variable {UE N y:Nat}{s:St}{w:bD}
theorem OQ(h:bH w UE s)(hb:UE<=w.heap.size)(hj:KJ (λ_=>False) N s.k)(y6:y<6)(yt:s.k.ht y=true)(V:bD)(x z:Wh)(b:Below w.heap.size w V):Calls prog 211 #[ai (bh ⟨s.A (49+y),0,bj⟩),au #[aa az x.1,aa az x.2],au #[aa az z.1,aa az z.2]] V (Kn.Nx UE s w (Kn.qQ s.k)):=
 have H:=h.below b
 (La UE _ _ 102 _ _ _ x z V (H.tb y y6 yt) H.fo hj.hb bu (aH hb b.size)).mono (by
  rintro _ w' ⟨v,rfl,t,u,o,n⟩;have q:=H.jU y6 yt t u o n;exact⟨_,_,rfl,⟨_,rfl, .inr ⟨y,_,_,y6,yt,(hj.mg y6 yt).bin x z,rfl⟩⟩,q.1,(KF.below b).trans q.2⟩)
theorem Kj(h:bH w UE s)(hj:KJ (λ_=>False) N s.k)(y6:y<6)(yt:s.k.ht y=true)(V:bD)(x:Wh)(b:Below w.heap.size w V):Calls prog 212 #[ai (bh ⟨s.A (49+y),0,bj⟩),au #[aa az x.1,aa az x.2]] V (Kn.Nx UE s w (Kn.qQ s.k)):=
 have H:=h.below b
 (Ib UE _ _ 102 _ _ _ x V (H.tb y y6 yt) H.fo hj.hb bu).mono (by
  rintro _ w' ⟨E,T,F,v,rfl,r,t,u,o,n⟩;have q:=H.jU y6 yt t u o (.inl n);exact⟨_,_,rfl,⟨_,rfl, .inr ⟨y,_,_,y6,yt,(hj.mg y6 yt).Uy r,rfl⟩⟩,q.1,(KF.below b).trans q.2⟩)
theorem MZ(h:bH w UE s)(hj:KJ (λ_=>False) N s.k)(y6:y<6)(yt:s.k.ht y=true)(V:bD)(t:Int)(b:Below w.heap.size w V):Calls prog 94 #[ai (bh ⟨s.A (49+y),0,bj⟩),aa az t] V (Kn.Nx UE s w (Kn.qQ s.k)):=by
 have H:=h.below b;by_cases e0:Tr.ga s.k.fo t=0
 .refine sC (JM UE _ _ 102 _ _ _ t V (H.tb y y6 yt) H.fo e0 hj.hb bu) ?_;rintro w' ⟨t,u,o⟩;have q:=H.jU y6 yt t u ⟨o.os,o.tape,o.output,o.size,λk hk c=>o.block k hk (λd=>c (d.elim .inl (λd=> .inr (.inl d))))⟩ (.inr (λg e=>by cases e));exact⟨_,_,rfl,⟨0,rfl, .inr ⟨y,_,_,y6,yt,(hj.mg y6 yt).piv e0,rfl⟩⟩,q.1,(KF.below b).trans q.2⟩
 .refine sC (M4 UE _ _ _ _ _ t V (H.tb y y6 yt) H.fo e0) ?_;rintro w' b2;exact .at h (b.trans (b2.mono b.size)) (.no rfl)
end
section
variable (UE N:Nat)(d:Nat->Nat)(s:St)(w:bD)
theorem Jb(z:Int)(p q:bU)(h:bH w UE s)(hb:UE<=w.heap.size)(hj:KJ (λ_=>False) N s.k):
  Calls prog 131 #[ai (bh ⟨s.A 0,0,bj⟩),aa az z,ak p,ak q] w (Kn.Nx UE s w (Kn.qQ s.k)):=by
 have TB:=hJ (jv UE N s w z h hj);have H:=hJ (aK h (aK hb hj));generalize s.A 0=kb at TB|-;go_in
 go_wp2_with fail
 refine TB.mono ?_;rintro e w1 ⟨v,rfl,tp,b1⟩;by_cases A:Kn.bT s.k z=0
 .obtain⟨y,y6,yt,rfl⟩:=tp A;have RA:=hJ (JT H.1 H.2.2 y6 yt);have WA:=hJ (vv H.1 H.2.2 y6 yt);have BI:=hJ (OQ H.1 H.2.1 H.2.2 y6 yt);rw[A,bB];generalize s.A (49+y)=tb at*;go_wp2_with fail
  refine(RA.v _ p b1).mono ?_;rintro e w2 ⟨x0,E,rfl,b2⟩;have b2:=b1.trans (b2.mono b1.size);have b2:=b2.alloc b2.size (bg #[aa az x0.1,aa az x0.2] 224);by_cases E0:E=0
  .subst E0;rw[bB];go_wp2_with fail
   refine(WA.v _ q b2).mono ?_;rintro e w3 ⟨x1,E,rfl,b3⟩;obtain⟨hc,hf⟩:=xv b3;have hz:w2.heap.size<w3.heap.size:=by have:=b3.size;simp at this;omega
   have b3:=b2.trans (b3.mono b2.size);have b3:=b3.alloc b3.size (bg #[aa az x1.1,aa az x1.2] 224);by_cases E0:E=0
   .subst E0;rw[bB];go_wp2_with fail
    refine(BI.v _ x0 x1 b3).mono ?_;rintro e w4 ⟨v,s',rfl,S4⟩;have S4:=hJ S4;go_wp2
    go_ret
    exact⟨v,s',rfl,S4.v⟩
   .have E1:=hJ (bC E0);rw[bC E0];go_wp2
    go_ret
    exact .at H.1 b3 (.no E1.v)
  .have E1:=hJ (bC E0);rw[bC E0];go_wp2
   go_ret
   exact .at H.1 b2 (.no E1.v)
 .have A':=hJ (bC A);rw[bC A];generalize Kn.bT s.k z=ae at*;go_wp2
  go_ret
  exact .at H.1 b1 (.no A'.v)
theorem DQ(z:Int)(p:bU)(h:bH w UE s)(hj:KJ (λ_=>False) N s.k):
  Calls prog 132 #[ai (bh ⟨s.A 0,0,bj⟩),aa az z,ak p] w (Kn.Nx UE s w (Kn.qQ s.k)):=by
 have TB:=hJ (jv UE N s w z h hj);have H:=hJ (aK h hj);generalize s.A 0=kb at TB|-;go_in
 go_wp2_with fail
 refine TB.mono ?_;rintro e w1 ⟨v,rfl,tp,b1⟩;by_cases A:Kn.bT s.k z=0
 .obtain⟨y,y6,yt,rfl⟩:=tp A;have RA:=hJ (JT H.1 H.2 y6 yt);have BI:=hJ (Kj H.1 H.2 y6 yt);rw[A,bB];generalize s.A (49+y)=tb at*;go_wp2_with fail
  refine(RA.v _ p b1).mono ?_;rintro e w2 ⟨x0,E,rfl,b2⟩;have b2:=b1.trans (b2.mono b1.size);have b2:=b2.alloc b2.size (bg #[aa az x0.1,aa az x0.2] 224);by_cases E0:E=0
  .subst E0;rw[bB];go_wp2_with fail
   refine(BI.v _ x0 b2).mono ?_;rintro e w4 ⟨v,s',rfl,S4⟩;have S4:=hJ S4;go_wp2
   go_ret
   exact⟨v,s',rfl,S4.v⟩
  .have E1:=hJ (bC E0);rw[bC E0];go_wp2
   go_ret
   exact .at H.1 b2 (.no E1.v)
 .have A':=hJ (bC A);rw[bC A];generalize Kn.bT s.k z=ae at*;go_wp2
  go_ret
  exact .at H.1 b1 (.no A'.v)
theorem GY(z t:Int)(h:bH w UE s)(hj:KJ (λ_=>False) N s.k):
  Calls prog 34 #[ai (bh ⟨s.A 0,0,bj⟩),aa az z,aa az t] w (Kn.Nx UE s w (Kn.qQ s.k)):=by
 have TB:=hJ (jv UE N s w z h hj);have H:=hJ (aK h hj);obtain⟨kb,hk⟩:=hU (s.A 0);have HK:=hJ hk;rw[hk]at TB|-;go_in
 go_wp2_with fail
 refine TB.mono ?_;rintro e w1 ⟨v,rfl,tp,b1⟩;by_cases A:Kn.bT s.k z=0
 .obtain⟨y,y6,yt,rfl⟩:=tp A;obtain⟨n,rfl,hn,hl⟩:=Kn.fq A;have IH:=hJ (lP UE s w1 n (H.1.below b1) _ rfl);have PV:=hJ (MZ H.1 H.2 y6 yt);rw[HK.v]at IH;rw[A,bB];generalize s.A (49+y)=tb at*;go_wp2_with fail
  refine cr IH.v ?_;cases decide (Kn.hd s.k n=n)
  .go_wp2
   go_ret
   exact .at H.1 b1 (.no (E:=8) rfl)
  .go_wp2_with fail
   refine(PV.v _ t b1).mono ?_;rintro e w4 ⟨v,s',rfl,S4⟩;have S4:=hJ S4;go_wp2
   go_ret
   exact⟨v,s',rfl,S4.v⟩
 .have A':=hJ (bC A);rw[bC A];generalize Kn.bT s.k z=ae at*;go_wp2
  go_ret
  exact .at H.1 b1 (.no A'.v)
end
theorem Kn.Ew{k:Kp}{n:Nat}(h:0<(Kn.gJ k n 6).length):∃f,(Kn.gJ k n 6).getD 0 0=f/\f<6/\(k.p n).fd f= -1:=by
 refine⟨_,rfl,Kn.y8 ?_⟩;rw[aF,aW h];exact List.getElem_mem _
section
variable (UE N:Nat)(d:Nat->Nat)(s:St)(w:bD)
theorem Jl(z f a:Int)(h:bH w UE s):
  Calls prog 126 #[ai (bh ⟨s.A 0,0,bj⟩),aa az z,aa az f,aa az a] w (Kn.Nx UE s w λv k'=>∃E,v=bG E/\(k'=s.k\/∃u,k'={s.k with fi:=Fx.lG s.k.fi u a})):=by
 have NB:=hJ (oB UE s w z f h);have H:=hJ h;by_cases A:Kn.eX s.k z f=0
 .obtain⟨n,g,rfl,rfl,hn,hg,hl,hf⟩:=Kn.rF A;have SK:Hid (∀V,Below w.heap.size w V->Calls prog 204 #[ai (bh ⟨s.A 8,0,bj⟩),aa az ((s.k.p n).fd g),aa az a] V λe w'=>∃E,e=bf (bG E)/\bH w' UE {s with k:={s.k with fi:=Fx.lG s.k.fi ((s.k.p n).fd g) a}}/\KF s w {s with k:={s.k with fi:=Fx.lG s.k.fi ((s.k.p n).fd g) a}} w'):=hJ (λV b=>(KR (s.A 8) (s.A 6) (s.A 7) _ a s.k.fi V (h.below b).fi).mono (by
   rintro _ w' ⟨rfl,u,f⟩;have q:=(h.below b).Hs u f;exact⟨_,rfl,q.1,(KF.below b).trans q.2⟩))
  have c8:=h.sY;have cf:=h.pE n g hn hg;rw[A,bB,py]at NB;generalize (s.k.p n).fd g=v at*;generalize s.A 0=kb at*;generalize s.A 8=a8 at*;go_in
  go_wp2_with fail
  refine cr NB.v ?_;go_upto_region 4 with fail
  go_region_with ((go_at_call 204;refine(SK.v _ (by first|exact aQ _ _|exact(aQ _ _).drew)).mono ?_;rintro e w4 ⟨E,rfl,S4⟩;have S4:=hJ S4))
  all_goals
   go_wp2
   go_ret
   exact .mk ⟨E,rfl, .inr ⟨v,rfl⟩⟩ S4.v
 .have A':=hJ (bC A);rw[bC A]at NB;generalize sH (s.A 0) z f (Kn.eX s.k z f)=ap at*;generalize Kn.eX s.k z f=ae at*;generalize s.A 0=kb at*;go_in
  go_wp2_with fail
  refine cr NB.v ?_;go_wp2
  go_ret
  exact .no H.v ⟨ae,A'.symm, .inl rfl⟩
def Kn.FA(k:Kp)(v:Value)(k':Kp):Prop:=∃x E:Int,v=ao #[aa az x,bG E]/\(k'=k\/∃n f g:Nat,n<20/\f<6/\g<6/\Kn.lv k n=true/\(k.p n).fd f= -1/\(k.p n).fd g≠ -1/\k'={Kn.fH k n f ((k.p n).fd g)with fi:=Fx.jB k.fi ((k.p n).fd g)})
theorem L4(z f:Int)(h:bH w UE s)(hr:∀n,n<24->(s.k.fi n).refs<2^60):
  Calls prog 122 #[ai (bh ⟨s.A 0,0,bj⟩),aa az z,aa az f] w (Kn.Nx UE s w (Kn.FA s.k)):=by
 have NB:=hJ (oB UE s w z f h);have H:=hJ h;by_cases A:Kn.eX s.k z f=0
 .obtain⟨n,g,rfl,rfl,hn,hg,hl,hf⟩:=Kn.rF A;have FRh:=hJ (sE UE s w n h hn);have hnI:(n:Int)<20:=bu
  have HL:=hJ (aK hl (aK hf hr));rw[A,bB,py]at NB;obtain⟨kb,hk⟩:=hU (s.A 0);have HK:=hJ hk;rw[hk]at NB FRh|-;go_in
  go_wp2_with fail
  refine cr NB.v ?_;go_wp2_with fail
  refine FRh.mono ?_;rintro e w1 ⟨v,rfl,lo⟩;by_cases l0:0<(Kn.gJ s.k n 6).length
  .obtain⟨gg,cap,hv,hgg,hc⟩:=lo.cells l0;obtain⟨f,ef,f6,fm⟩:=Kn.Ew l0;have y0:w1.cell? ⟨gg,0,bj⟩=bh (aa az (((Kn.gJ s.k n 6).getD 0 0:Nat):Int)):=hc 0 l0;rw[ef]at y0;have K1:=H.below lo.cM;have cf:=K1.pE n g hn hg;have cd:=K1.pE n f hn f6;have fz:=K1.frozen;have q:=K1.qJ hn f6 ((s.k.p n).fd g);have GB:∀i,i<9->gg≠s.A i:=λi hi e=>by
    have a:=H.lt (bS hi);have o:=lo.own;rw[hv]at o;have:=o.lt gg rfl;omega
   have GK:=GB 0 bu;have fg:f≠g:=λe=>HL.2.1 (by rw[<-e];exact fm);have SH:Hid (∀V,Below w1.heap.size (w1.setCell ⟨s.A 0,n*12+6+f,bj⟩ (aa az ((s.k.p n).fd g))) V->Calls prog 146 #[ai (bh ⟨s.A 8,0,bj⟩),aa az ((s.k.p n).fd g)] V λe w'=>∃E,e=bf (bG E)/\(∀o,w'.cell? ⟨gg,o,bj⟩=V.cell? ⟨gg,o,bj⟩/\w'.cell? ⟨s.A 0,o,bj⟩=V.cell? ⟨s.A 0,o,bj⟩)/\bH w' UE {s with k:={Kn.fH s.k n f ((s.k.p n).fd g)with fi:=Fx.jB s.k.fi ((s.k.p n).fd g)}}/\KF s w {s with k:={Kn.fH s.k n f ((s.k.p n).fd g)with fi:=Fx.jB s.k.fi ((s.k.p n).fd g)}} w'):=hJ (λV b=>by
    have b:Below (w1.setCell ⟨s.A 0,n*12+6+f,bj⟩ (aa az ((s.k.p n).fd g))).heap.size (w1.setCell ⟨s.A 0,n*12+6+f,bj⟩ (aa az ((s.k.p n).fd g))) V:=b.mono (by simp);refine(yG (s.A 8) (s.A 6) (s.A 7) _ s.k.fi V (q.1.below b).fi HL.2.2).mono ?_;rintro _ w' ⟨rfl,u,f⟩;have r:=(q.1.below b).Hs u f;exact⟨_,rfl,λo=>⟨aV (f.block gg (aD (by simpa using hgg) b.size) (GB 8 bu)),aV (f.block _ ((q.1.below b).lt (i:=0) bS) (H.ne bS bS bu))⟩,r.1,(KF.below lo.cM).trans (q.2.trans ((KF.below b).trans r.2))⟩)
   have R:Hid (Kn.lv s.k n=true/\(s.k.p n).fd f= -1/\(s.k.p n).fd g≠ -1):=hJ ⟨HL.1,fm,HL.2.1⟩;have z1:(w1.setCell ⟨s.A 0,n*12+6+f,bj⟩ (aa az ((s.k.p n).fd g))).cell? ⟨s.A 0,n*12+6+g,bj⟩=bh (aa az ((s.k.p n).fd g)):=by
    refine(q.1.pE n g hn hg).trans (congrArg (λx=>bh (aa az x)) ?_);show((Kn.fH s.k n f ((s.k.p n).fd g)).p n).fd g=_;rw[(Kn.NZ _ _ _ _ _).2.2.2.2,aJ rfl];exact aI (bQ fg)
   have z8:(w1.setCell ⟨s.A 0,n*12+6+f,bj⟩ (aa az ((s.k.p n).fd g))).cell? ⟨s.A 0,252,bj⟩=bh (ai (bh ⟨s.A 8,0,bj⟩)):=q.1.sY;have fI:(f:Int)<6:=bu
   rw[hv];rw[HK.v]at cf cd fz GK SH z1 z8;have DD:Hid (∀u:Int,Kn.FA s.k (ao #[aa az (f:Int),bG u]) {Kn.fH s.k n f ((s.k.p n).fd g)with fi:=Fx.jB s.k.fi ((s.k.p n).fd g)}):=hJ (λu=>⟨f,u,rfl, .inr ⟨n,f,g,hn,f6,hg,R.1,R.2.1,R.2.2,rfl⟩⟩);generalize {Kn.fH s.k n f ((s.k.p n).fd g)with fi:=Fx.jB s.k.fi ((s.k.p n).fd g)}=k2 at*;generalize (s.k.p n).fd g=v at*;generalize (s.k.p n).fd f=v2 at*;generalize s.A 8=a8 at*;generalize (Kn.gJ s.k n 6).length=M at*;have M0:0<(M:Int):=bu
   have M1:((M:Int)==0)=false:=by simp;omega
   have M2:¬M=0:=bu
   have M3:¬(M:Int)<=0:=bu
   have Z0:=hJ (aK y0 cf);obtain⟨W,hW⟩:=hU (w1.setCell ⟨kb,n*12+6+f,bj⟩ (aa az v));have fr:bE kb w1 W:=by rw[<-hW];exact(bE.refl _ _).setCell _ _
   have y1:=(aV (fr.block gg hgg GK)).trans y0;rw[hW]at z1 z8 SH;have Z1:=hJ (aK y1 (aK z1 z8));go_upto_region 8 with fail
   go_region_held3 (λw'=>w'.cell? ⟨gg,0,bj⟩=bh (aa az (f:Int))/\w'.cell? ⟨kb,n*12+6+g,bj⟩=bh (aa az v)) (first|exact Z0.v|exact⟨Z1.1,Z1.2.1⟩|go_keep) (fail)
   obtain⟨x0,x1,x8⟩:=Z1.v;go_upto_region 9 with fail
   go_region_held3 (λw'=>w'.cell? ⟨gg,0,bj⟩=bh (aa az (f:Int))/\w'.cell? ⟨kb,n*12+6+g,bj⟩=bh (aa az v)/\w'.cell? ⟨kb,252,bj⟩=bh (ai (bh ⟨a8,0,bj⟩))) (first|exact Z1.v|exact Z4.v) ((go_at_call 146;refine(SH.v _ (by first|exact(aQ _ _).drew|exact(aQ _ _).drew.drew)).mono ?_;rintro e w4 ⟨E,rfl,z4,S4⟩;have Z4:=hJ (aK ((z4 0).1.trans x0) (aK ((z4 _).2.trans x1) ((z4 _).2.trans x8)));have S4:=hJ S4))
   all_goals
    go_wp2
    go_ret2
    exact .mk (DD.v E) S4.v
  .have K1:=hJ lo.cM;have l1:(Kn.gJ s.k n 6).length=0:=bu
   obtain⟨a,c,hv⟩:=fG lo.own;rw[hv,l1];go_wp2
   go_ret2
   exact .at H.v K1.v ⟨0,4,rfl, .inl rfl⟩
 .have A':=hJ (bC A);rw[bC A]at NB;generalize sH (s.A 0) z f (Kn.eX s.k z f)=ap at*;generalize Kn.eX s.k z f=ae at*;generalize s.A 0=kb at*;go_in
  go_wp2_with fail
  refine cr NB.v ?_;go_wp2
  go_ret2
  exact .no H.v ⟨0,ae,by rw[A'.v];rfl, .inl rfl⟩
end
theorem O8(w:bD):Sem.run prog (binOp BinOp.eql 34 ay (aq 100 (aa .i64 2))) w= .ok (ar false) w:=by kernel_rfl
theorem Es(w:bD)(E:Int):Sem.run prog (binOp BinOp.eql 34 (aq 100 (aa az E)) (aq 100 (aa .i64 2))) w= .ok (ar (E==2)) w:=by kernel_rfl
def Kn.FJ(k:Kp)(v:Value)(k':Kp):Prop:=∃x E:Int,v=ao #[aa az x,bG E]/\∃G,Kn.FG k G/\(k'={k with fo:=G}\/∃(n f K:Nat) (z:Int) (wr:Bool) (T:Nat->Fi) (F:Fo),n<20/\f<6/\Kn.lv k n=true/\(k.p n).fd f= -1/\Fx.uS k.fi G z wr K 0 T F/\k'=Kn.fH (Kn.jt k T F k.pi) n f (K:Int))
theorem Kn.Ac{w W w5:bD}{UE n f gg:Nat}{s s1:St}{G F:Fo}{T:Nat->Fi}(k:bH W UE s1)(e:s1.k={s.k with fo:=G})(f1:KF s w s1 W)(y:W.cell? ⟨gg,0,bj⟩=bh (aa az (f:Int)))(hl:gg<W.heap.size)(gb:∀i,us s1 i->gg≠s1.A i)(hn:n<20)(f6:f<6)(u:FX w5 (s1.A 8) (s1.A 6) (s1.A 7) T F s.k.pi)(t:dw (s1.A 8) (s1.A 6) (s1.A 7) W w5):
  (bH w5 UE {s1 with k:=Kn.jt s.k T F s.k.pi}/\KF s w {s1 with k:=Kn.jt s.k T F s.k.pi} w5)/\w5.cell? ⟨gg,0,bj⟩=bh (aa az (f:Int))/\(∃v,w5.cell? ⟨s1.A 0,n*12+6+f,bj⟩=bh (aa az v))/\(∀o,w5.frozen? ⟨s1.A 0,o,bj⟩=false)/\∀K:Nat,(w5.setCell ⟨s1.A 0,n*12+6+f,bj⟩ (aa az (K:Int))).cell? ⟨gg,0,bj⟩=bh (aa az (f:Int))/\bH (w5.setCell ⟨s1.A 0,n*12+6+f,bj⟩ (aa az (K:Int))) UE {s1 with k:=Kn.fH (Kn.jt s.k T F s.k.pi) n f (K:Int)}/\KF s w {s1 with k:=Kn.fH (Kn.jt s.k T F s.k.pi) n f (K:Int)} (w5.setCell ⟨s1.A 0,n*12+6+f,bj⟩ (aa az (K:Int))):=by
 have q:=k.vm u t;rw[e]at q;have q:bH w5 UE {s1 with k:=Kn.jt s.k T F s.k.pi}/\KF s1 W {s1 with k:=Kn.jt s.k T F s.k.pi} w5:=q;have y5:=(aV (t.block gg hl (gb 8 bS) (gb 6 bS) (gb 7 bS))).trans y;have f5:=f1.trans q.2;refine⟨⟨q.1,f5⟩,y5,⟨_,q.1.pE n f hn f6⟩,q.1.frozen,λK=>?_⟩;have r:=q.1.qJ hn f6 (K:Int);have fr:bE (s1.A 0) w5 (w5.setCell ⟨s1.A 0,n*12+6+f,bj⟩ (aa az (K:Int))):=(bE.refl _ _).setCell _ _;exact⟨(aV (fr.block gg (aD hl q.2.gP.size) (gb 0 bS))).trans y5,r.1,f5.trans r.2⟩
section
variable (UE N:Nat)(d:Nat->Nat)(s:St)(w:bD)
theorem Jj(z:Int)(p:bU)(wr made:Bool)(h:bH w UE s)(hj:KJ (λ_=>False) N s.k):
  Calls prog 121 #[ai (bh ⟨s.A 0,0,bj⟩),aa az z,ak p,ar wr,ar made] w (Kn.Nx UE s w (Kn.FJ s.k)):=by
 have AC:=hJ (dv UE s w z h);have H:=hJ (aK h hj);have OK:Hid (∀x E:Int,Kn.FJ s.k (ao #[aa az x,bG E]) s.k):=hJ (λx E=>⟨x,E,rfl,_,⟨hj.ok,hj.wx⟩, .inl rfl⟩);by_cases A:Kn.bT s.k z=0
 .obtain⟨n,rfl,hn,hl⟩:=Kn.fq A;have FRh:=hJ (sE UE s w n h hn);have HL:=hJ hl;rw[A,bB,gS]at AC;obtain⟨kb,hk⟩:=hU (s.A 0);have HK:=hJ hk;rw[hk]at AC FRh|-;go_in
  go_wp2_with fail
  refine cr AC.v ?_;go_wp2_with fail
  refine FRh.mono ?_;rintro e w1 ⟨v,rfl,lo⟩;have B1:=hJ lo.cM;obtain⟨a,cap,hv⟩:=fG lo.own;by_cases l0:0<(Kn.gJ s.k n 6).length
  .obtain⟨gg,cap,hv,hgg,hc⟩:=lo.cells l0;obtain⟨f,ef,f6,fm⟩:=Kn.Ew l0;have y0:w1.cell? ⟨gg,0,bj⟩=bh (aa az (((Kn.gJ s.k n 6).getD 0 0:Nat):Int)):=hc 0 l0;rw[ef]at y0;have GB:Hid (∀i,us s i->gg≠s.A i):=hJ (λi hi e=>by
    have a:=H.1.lt hi;have o:=lo.own;rw[hv]at o;have:=o.lt gg rfl;omega)
   have K1:=H.1.below lo.cM;have c8:=K1.sY;have RO:=hJ (oL (s.A 8) (s.A 6) (s.A 7) 1 s.k.fi w1 K1.fi);have WK:=hJ (tO UE N s w1 (n:Int) p K1 H.2);have FM:=hJ fm;rw[hv];obtain⟨a8,h8⟩:=hU (s.A 8);have H8:=hJ h8;rw[HK.v,h8]at c8;rw[h8]at RO;rw[HK.v]at WK;generalize (Kn.gJ s.k n 6).length=M at*;have M0:0<(M:Int):=bu
   have M1:((M:Int)==0)=false:=by simp;omega
   have M2:¬M=0:=bu
   have M3:¬(M:Int)<=0:=bu
   have fI:(f:Int)<6:=bu
   have Y0:=hJ (aK y0 hgg);go_wp2_with fail
   refine cr RO.v ?_;cases decide ((1:Int)<=24-(Fx.cL s.k.fi 24:Int))
   .go_wp2
    go_ret2
    exact .at H.1 B1.v (OK.v 0 4)
   .clear y0 c8;go_wp2_with fail
    refine WK.mono ?_;rintro e w2 ⟨x,E,rfl,b2⟩;have B2:=hJ (B1.trans (b2.mono B1.size));have Y2:Hid (w2.cell? ⟨gg,0,bj⟩=bh (aa az (f:Int))/\gg<w2.heap.size):=hJ ⟨(b2.cell (p:=⟨gg,0,bj⟩) Y0.2).trans Y0.1,aD Y0.2 b2.size⟩;have MA:=hJ (Ca UE N s w2 (n:Int) p 1 (H.1.below B2.v) H.2);rw[HK.v]at MA;have KBg:Hid (¬Kn.KB s gg):=hJ (λ⟨i,hi,e⟩=>GB.v i hi e);by_cases go:E=0\/(E=2/\made=true)
    .have TL:Hid (∀(s1:St) (W:bD) (G:Fo),bH W UE s1->KF s w2 s1 W->s1.k={s.k with fo:=G}->Kn.FG s.k G->KF s w s1 W/\FX W (s1.A 8) (s1.A 6) (s1.A 7) s.k.fi G s.k.pi/\Fx.Sm G s.k.pi/\W.cell? ⟨kb,252,bj⟩=bh (ai (bh ⟨s1.A 8,0,bj⟩))/\W.cell? ⟨gg,0,bj⟩=bh (aa az (f:Int))/\gg<W.heap.size/\(∀i,us s1 i->gg≠s1.A i)/\s1.A 0=kb):=hJ (λs1 W G k f e g=>by
      have x:=k.fx;rw[e]at x;refine⟨(KF.below B2.v).trans f,x,g.2.sm (λm _=>by have:=H.2.tx m;omega),?_,(aV (f.jm Y2.2 KBg.v)).trans Y2.1,aD Y2.2 f.gP.size,λi hi e=>f.apart Y2.2 KBg.v ⟨i,hi,e⟩,f.a0.trans HK.v⟩;have c:=k.sY;rw[f.a0,HK.v]at c;exact c)
     rcases go with rfl|⟨rfl,rfl⟩
     .rw[bB];obtain⟨s1,G,K1,e1,g1⟩:∃s1 G,(bH w2 UE s1/\KF s w2 s1 w2)/\s1.k={s.k with fo:=G}/\Kn.FG s.k G:=⟨s,s.k.fo,⟨H.1.below B2.v,KF.refl _ _⟩,rfl,⟨H.2.ok,H.2.wx⟩⟩;go_wp2_with fail
      rw[O8];obtain⟨F1,X1,sm,c8,y0,hgl,gb,a0⟩:=TL.v s1 w2 G K1.1 K1.2 e1 g1;have XN:=hJ (As (s1.A 8) (s1.A 6) (s1.A 7) x wr s.k.fi G s.k.pi w2 X1 sm);have NT:Hid (∀w5 T F,_->_->_):=hJ (λw5 T F=>Kn.Ac (w5:=w5) (T:=T) (F:=F) K1.1 e1 F1 y0 hgl gb hn f6);have S1:=hJ (aK K1.1 (aK F1 (aK e1 g1)));rw[a0]at NT;generalize s1.A 8=b8 at*;go_wp2_with fail
      refine XN.mono ?_;rintro e w5 ⟨K,E,T,F,rfl,nt,u5,f5⟩;obtain⟨a1,a2,⟨vo,a3⟩,a4,a5⟩:=NT.v w5 T F u5 f5;by_cases E0:E=0
      .subst E0;rw[bB];have A5:=hJ (aK nt (a5 K));have A2:=hJ a2;obtain⟨W6,hW6⟩:=hU (w5.setCell ⟨kb,n*12+6+f,bj⟩ (aa az (K:Int)));rw[hW6]at A5;go_upto_region 15 with fail
       go_region_held3 (λw'=>w'.cell? ⟨gg,0,bj⟩=bh (aa az (f:Int))) (first|exact A2.v|exact A5.2.1|go_keep) (fail)
       have x0:=A5.2.1;go_wp2
       go_ret2
       exact⟨_,_,rfl,⟨f,0,rfl,G,S1.2.2.2, .inr ⟨n,f,K,x,wr,T,F,hn,f6,HL.v,FM.v,A5.1,rfl⟩⟩,A5.2.2.1.drew,A5.2.2.2.trans (KF.drew _ _)⟩
      .have E1:=hJ (bC E0);have A1:Hid (T=s.k.fi/\F=G):=hJ (by
        rcases nt with⟨_,_,_,q⟩|⟨_,_,_,_,q⟩|⟨_,_,_,q,_⟩
        .exact q
        .exact q
        .exact aZ q E0)
       have A2:=hJ a1;rw[bC E0];go_wp2
       go_ret2
       exact⟨_,_,rfl,⟨0,E,by rw[E1.v];rfl,G,S1.2.2.2, .inl (by rw[A1.1,A1.2];rfl)⟩,A2.v⟩
     .rw[bC bA];go_wp2_with fail
      rw[Es];go_wp2_with fail
      refine MA.mono ?_;rintro e w3 ⟨v,s1,rfl,⟨x,E,G,rfl,g1,e1⟩,K1⟩;by_cases E0:E=0
      .subst E0;rw[bB];obtain⟨F1,X1,sm,c8,y0,hgl,gb,a0⟩:=TL.v s1 w3 G K1.1 K1.2 e1 g1;have XN:=hJ (As (s1.A 8) (s1.A 6) (s1.A 7) x wr s.k.fi G s.k.pi w3 X1 sm);have NT:Hid (∀w5 T F,_->_->_):=hJ (λw5 T F=>Kn.Ac (w5:=w5) (T:=T) (F:=F) K1.1 e1 F1 y0 hgl gb hn f6);have S1:=hJ (aK K1.1 (aK F1 (aK e1 g1)));rw[a0]at NT;generalize s1.A 8=b8 at*;go_wp2_with fail
       refine XN.mono ?_;rintro e w5 ⟨K,E,T,F,rfl,nt,u5,f5⟩;obtain⟨a1,a2,⟨vo,a3⟩,a4,a5⟩:=NT.v w5 T F u5 f5;by_cases E0:E=0
       .subst E0;rw[bB];have A5:=hJ (aK nt (a5 K));have A2:=hJ a2;obtain⟨W6,hW6⟩:=hU (w5.setCell ⟨kb,n*12+6+f,bj⟩ (aa az (K:Int)));rw[hW6]at A5;go_upto_region 15 with fail
        go_region_held3 (λw'=>w'.cell? ⟨gg,0,bj⟩=bh (aa az (f:Int))) (first|exact A2.v|exact A5.2.1|go_keep) (fail)
        have x0:=A5.2.1;go_wp2
        go_ret2
        exact⟨_,_,rfl,⟨f,0,rfl,G,S1.2.2.2, .inr ⟨n,f,K,x,wr,T,F,hn,f6,HL.v,FM.v,A5.1,rfl⟩⟩,A5.2.2.1.drew,A5.2.2.2.trans (KF.drew _ _)⟩
       .have E1:=hJ (bC E0);have A1:Hid (T=s.k.fi/\F=G):=hJ (by
         rcases nt with⟨_,_,_,q⟩|⟨_,_,_,_,q⟩|⟨_,_,_,q,_⟩
         .exact q
         .exact q
         .exact aZ q E0)
        have A2:=hJ a1;rw[bC E0];go_wp2
        go_ret2
        exact⟨_,_,rfl,⟨0,E,by rw[E1.v];rfl,G,S1.2.2.2, .inl (by rw[A1.1,A1.2];rfl)⟩,A2.v⟩
      .have E1:=hJ (bC E0);have S1:=hJ (aK K1 (aK e1 g1));rw[bC E0];go_wp2
       go_ret2
       exact⟨_,s1,rfl,⟨0,E,by rw[E1.v];rfl,G,S1.2.2, .inl S1.2.1⟩,S1.1.1,(KF.below B2.v).trans S1.1.2⟩
    .have E0:E≠0:=λe=>go (.inl e);have E1:=hJ (bC E0);have O':=hJ (OK.v 0 E);rw[bC E0]at O'|-;go_wp2_with fail
     rw[Es];by_cases E2:E=2
     .have m0:made=false:=by cases made;rfl;exact aZ (.inr ⟨E2,rfl⟩) go
      subst m0 E2;go_wp2
      go_ret2
      exact .at H.1 B2.v O'.v
     .have E3:(E==2)=false:=by simpa using E2
      go_wp2
      go_ret2
      exact .at H.1 B2.v O'.v
  .have l1:(Kn.gJ s.k n 6).length=0:=bu
   rw[hv,l1];go_wp2
   go_ret2
   exact .at H.1 B1.v (OK.v 0 4)
 .have A':=hJ (bC A);have O':=hJ (OK.v 0 (Kn.bT s.k z));rw[bC A]at AC O';generalize fJ (s.A 0) z (Kn.bT s.k z)=ap at*;generalize Kn.bT s.k z=ae at*;generalize s.A 0=kb at*;go_in
  go_wp2_with fail
  refine cr AC.v ?_;go_wp2
  go_ret2
  exact .no H.1 O'.v

import Derived.Test.YtpmmdkcfenjiaaaGreatDoorUag
import Derived.Test.YtpmmdkcfenjiaaaGreatDoorUai
import Derived.Test.YtpmmdkcfenjiaaaGreatDoorUal
import Derived.Test.YtpmmdkcfenjiaaaGreatDoorUar
import Derived.Test.YtpmmdkcfenjiaaaGreatDoorUau
set_option maxRecDepth 100000
set_option maxHeartbeats 1000000
set_option linter.unusedVariables false
set_option linter.unusedSimpArgs false
namespace Go.Proofs.YtpmmdkcfenjiaaaGreatDoor
open Value renaming int->aa,pointer->ai,slice->aj,tuple->ao,bool->ar
open IntKind renaming i64->az
open Ending renaming returned->bf
open Obj renaming cells->bg
open Option renaming some->bh,none->bj
open Tryz (prog)
open Go.RowKit
open Tr (Fo Nd)
open Mo (Wh Mt)
open Mv (Me Bk)
open Sg (S1)
open Fx (Fi)
open Pp (Pi)
namespace Kn
structure Pr where
 st:Nat
 par:Int
 cN:Int
 code:Int
 fd:Nat->Int
 has:Bool
 mem:Me
 box:Nat->S1
def Pr.no:Pr:=⟨0,0,0,0,λ_=>0,false,Mv.lQ,Sg.fS⟩
structure Kp where
 p:Nat->Pr
 ht:Nat->Bool
 tb:Nat->Mo.Tb
 sp:Sp.T
 gr:Nat->Gr.Gp
 sc:Wf.M
 bk:Bk
 fo:Fo
 pi:Nat->Pi
 fi:Nat->Fi
def Kp.put(k:Kp)(n:Nat)(x:Pr):Kp:={k with p:=λm=>if m=n then x else k.p m}
theorem bF(k:Kp)(n:Nat)(x:Pr):(k.put n x).p n=x:=aJ rfl
theorem bM(k:Kp)(n m:Nat)(x:Pr)(h:m≠n):(k.put n x).p m=k.p m:=aI h
structure St where
 A:Nat->Nat
 V:Nat->Value
 k:Kp
def us(s:St)(i:Nat):Prop:=i<9\/(9<=i/\i<29/\(s.k.p (i-9)).has=true)\/(29<=i/\i<49/\(s.k.p (i-29)).has=true)\/(49<=i/\i<55/\s.k.ht (i-49)=true)\/(55<=i/\i<61/\s.k.ht (i-55)=true/\(s.V (i-55)).ownBlock≠bj)
theorem iD{s:St}{n:Nat}(hn:n<20)(h:(s.k.p n).has=true):us s (9+n):= .inr (.inl ⟨by omega,bu,by rw[show 9+n-9=n by omega];exact h⟩)
theorem jC{s:St}{n:Nat}(hn:n<20)(h:(s.k.p n).has=true):us s (29+n):= .inr (.inr (.inl ⟨by omega,bu,by rw[show 29+n-29=n by omega];exact h⟩))
theorem jL{s:St}{n:Nat}(hn:n<6)(h:s.k.ht n=true):us s (49+n):= .inr (.inr (.inr (.inl ⟨by omega,bu,by rw[show 49+n-49=n by omega];exact h⟩)))
theorem jD{s:St}{n g:Nat}(hn:n<6)(h:s.k.ht n=true)(e:(s.V n).ownBlock=bh g):us s (55+n):= .inr (.inr (.inr (.inr ⟨by omega,bu,by rw[show 55+n-55=n by omega];exact h,by rw[show 55+n-55=n by omega,e];simp⟩)))
def KB(s:St)(b:Nat):Prop:=∃i,us s i/\b=s.A i
def ptr(b:Nat)(on:Bool):Value:=if on then ai (bh ⟨b,0,bj⟩)else ai bj
def eW(a b:Nat)(x:Pr)(j:Nat):Value:=
 if j=0 then aa az (x.st:Int)else if j=1 then aa az x.par else if j=2 then aa az x.cN else if j=3 then aa az x.code
 else if j=4 then ptr a x.has else if j=5 then ptr b x.has else aa az (x.fd (j-6))
def pc(s:St)(n j:Nat):Value:=eW (s.A (9+n)) (s.A (29+n)) (s.k.p n) j
def kc(s:St)(o:Nat):Value:=if o<240 then pc s (o/12) (o%12)else if o<246 then ptr (s.A (49+(o-240))) (s.k.ht (o-240))else if o<250 then ai (bh ⟨s.A (o-245),0,bj⟩)else ai (bh ⟨s.A (o-244),0,bj⟩)
end Kn
open Kn (Pr Kp St us KB)
structure bH (w:bD)(UE:Nat)(s:St):Prop where
 lO:∃C,w.heap[s.A 0]? =bh (bg C 86 (0,0))/\C.size=253
 dQ:∀o,o<253->w.cell? ⟨s.A 0,o,bj⟩=bh (Kn.kc s o)
 sp:Tb true w (s.A 1) s.k.sp
 gr:Gr.bP w (s.A 2) s.k.gr
 sc:Wf.Fair w (s.A 3) s.k.sc
 bk:dz w (s.A 4) (s.A 5) s.k.bk
 fi:dR w (s.A 8) (s.A 6) (s.A 7) s.k.fi
 fo:bN w (s.A 6) s.k.fo
 pi:dH w (s.A 7) s.k.pi
 me:∀n,n<20->(s.k.p n).has=true->cY w (s.A (9+n)) (s.A 4) (s.k.p n).mem
 bx:∀n,n<20->(s.k.p n).has=true->CX w (s.A (29+n)) (s.k.p n).box
 tb:∀n,n<6->s.k.ht n=true->bP w UE (s.A (49+n)) (s.A 6) (s.k.tb n) (s.V n)
 ro:∀n,n<6->s.k.ht n=true->∀g,(s.V n).ownBlock=bh g->s.A (55+n)=g
 inj:∀i j,us s i->us s j->s.A i=s.A j->i=j
 low:∀i,us s i->UE<=s.A i
section
variable {w w':bD}{UE:Nat}{s s':St}
theorem bH.lt(h:bH w UE s){i:Nat}(hi:us s i):s.A i<w.heap.size:=by
 rcases hi with hi|⟨h1,h2,h3⟩|⟨h1,h2,h3⟩|⟨h1,h2,h3⟩|⟨h1,h2,h3,h4⟩
 .match i,hi with
  |0,_=>obtain⟨C,e,_⟩:=h.lO;exact(aX.1 e).1
  |1,_=>exact h.sp.lt
  |2,_=>exact h.gr.lt
  |3,_=>exact h.sc.lt
  |4,_=>exact h.bk.lt
  |5,_=>exact h.bk.Cm
  |6,_=>exact h.fo.lt
  |7,_=>exact h.pi.lt
  |8,_=>exact h.fi.lt
 .have:=(h.me (i-9) bu h3).lt;rwa [show 9+(i-9)=i by omega]at this
 .have:=(h.bx (i-29) bu h3).lt;rwa [show 29+(i-29)=i by omega]at this
 .have:=(h.tb (i-49) bu h3).lt;rwa [show 49+(i-49)=i by omega]at this
 .cases e:(s.V (i-55)).ownBlock with
  |none=>exact aZ e h4
  |some g=>
   have a:=h.ro (i-55) bu h3 g e;have b:=((h.tb (i-55) bu h3).row.lt g e).2;rw[show 55+(i-55)=i by omega]at a;rw[a];exact b
theorem bH.Tu(h:bH w UE s){b:Nat}(hb:KB s b):b<w.heap.size:=by obtain⟨i,hi,rfl⟩:=hb;exact h.lt hi
theorem bH.Rj(h:bH w UE s){b:Nat}(hb:KB s b):UE<=b:=by obtain⟨i,hi,rfl⟩:=hb;exact h.low i hi
theorem bH.ne(h:bH w UE s){i j:Nat}(hi:us s i)(hj:us s j)(n:i≠j):s.A i≠s.A j:=λe=>n (h.inj i j hi hj e)
theorem bH.frozen(h:bH w UE s)(o:Nat):w.frozen? ⟨s.A 0,o,bj⟩=false:=by obtain⟨C,h1,_⟩:=h.lO;exact cv h1 o
theorem bH.same(h:bH w UE s)(e:∀i,us s i->w'.heap[s.A i]? =w.heap[s.A i]?):bH w' UE s:=by
 have e0:=e 0 (.inl bu);exact⟨by rw[e0];exact h.lO,λo ho=>(aV e0).trans (h.dQ o ho),h.sp.same (e 1 (.inl bu)),(e 2 (.inl bu)).trans h.gr,h.sc.same (e 3 (.inl bu)),h.bk.same (e 4 (.inl bu)) (e 5 (.inl bu)),h.fi.same (e 8 (.inl bu)),h.fo.same (e 6 (.inl bu)),h.pi.same (e 7 (.inl bu)),
  λn hn hh=>(h.me n hn hh).same (e _ (Kn.iD hn hh)),λn hn hh=>(h.bx n hn hh).same (e _ (Kn.jC hn hh)),
  λn hn hh=>(h.tb n hn hh).same (e _ (Kn.jL hn hh)) (λg eg=>by have:=e _ (Kn.jD hn hh eg);rwa [h.ro n hn hh g eg]at this),h.ro,h.inj,h.low⟩
theorem bH.below(h:bH w UE s)(k:Below w.heap.size w w'):bH w' UE s:=h.same (λ_ hi=>k.block _ (h.lt hi))
theorem bH.drew(h:bH w UE s):bH w.drew UE s:=h.same (λ_ _=>rfl)
theorem bH.drewN(h:bH w UE s)(n:Nat):bH (w.drewN n) UE s:=h.same (λ_ _=>rfl)
end
structure KF (s:St)(w:bD)(s':St)(w':bD):Prop where
 gP:dF (KB s) w w'
 sub:∀b,KB s' b->KB s b\/w.heap.size<=b
 a0:s'.A 0=s.A 0
section
variable {s s1 s2:St}{w w1 w2:bD}{UE:Nat}
theorem KF.refl(s:St)(w:bD):KF s w s w:=⟨dF.refl _ _,λ_ h=> .inl h,rfl⟩
theorem KF.trans(h:KF s w s1 w1)(k:KF s1 w1 s2 w2):KF s w s2 w2:=
 ⟨⟨k.gP.os.trans h.gP.os,k.gP.tape.trans h.gP.tape,k.gP.output.trans h.gP.output,aH h.gP.size k.gP.size,λb hb hn=>(k.gP.block b (aD hb h.gP.size) (λc=>(h.sub b c).elim hn (λc=>bu))).trans (h.gP.block b hb hn)⟩,
  λb hb=>(k.sub b hb).elim (h.sub b) (λc=> .inr (aH h.gP.size c)),k.a0.trans h.a0⟩
theorem KF.below(h:Below w.heap.size w w1):KF s w s w1:=⟨dF.cC h,λ_ h=> .inl h,rfl⟩
theorem KF.drew(s:St)(w:bD):KF s w s w.drew:=KF.below ((aQ _ _).drew)
theorem KF.behind(h:KF s w s1 w1)(hk:bH w UE s){t:bD}{B:Nat}(b:Below B t w)(hB:B<=UE)(hs:B<=w.heap.size):Below B t w1:=h.gP.behind b (λ_ c=>aH hB (hk.Rj c)) hs
theorem KF.jm(h:KF s w s1 w1){c:Nat}(hc:c<w.heap.size)(hn:¬KB s c):w1.heap[c]? =w.heap[c]? :=h.gP.block c hc hn
theorem KF.apart(h:KF s w s1 w1){c:Nat}(hc:c<w.heap.size)(hn:¬KB s c):¬KB s1 c:=λd=>(h.sub c d).elim hn (λe=>bu)
end
section
variable {w w':bD}{UE:Nat}{s s':St}
theorem bS{s:St}{i:Nat}(h:i<9:=by omega):us s i:= .inl h
theorem Kn.TS(s:St)(n j:Nat)(hn:n<20)(hj:j<12):Kn.kc s (n*12+j)=Kn.pc s n j:=by
 unfold Kn.kc;rw[nK,show(n*12+j)/12=n by omega,show(n*12+j)%12=j by omega]
theorem bH.cP(h:bH w UE s)(n j:Nat)(hn:n<20)(hj:j<12):w.cell? ⟨s.A 0,n*12+j,bj⟩=bh (Kn.pc s n j):=by rw[h.dQ _ bu,Kn.TS s n j hn hj]
theorem bH.tC(h:bH w UE s)(n:Nat)(hn:n<20):w.cell? ⟨s.A 0,n*12,bj⟩=bh (aa az ((s.k.p n).st:Int)):=h.cP n 0 hn bu
theorem bH.sj(h:bH w UE s)(n:Nat)(hn:n<20):w.cell? ⟨s.A 0,n*12+1,bj⟩=bh (aa az (s.k.p n).par):=h.cP n 1 hn bu
theorem bH.pF(h:bH w UE s)(n:Nat)(hn:n<20):w.cell? ⟨s.A 0,n*12+2,bj⟩=bh (aa az (s.k.p n).cN):=h.cP n 2 hn bu
theorem bH.NJ(h:bH w UE s)(n:Nat)(hn:n<20):w.cell? ⟨s.A 0,n*12+3,bj⟩=bh (aa az (s.k.p n).code):=h.cP n 3 hn bu
theorem bH.qR(h:bH w UE s)(n:Nat)(hn:n<20)(hh:(s.k.p n).has=true):w.cell? ⟨s.A 0,n*12+4,bj⟩=bh (ai (bh ⟨s.A (9+n),0,bj⟩)):=by rw[h.cP n 4 hn bu];unfold Kn.pc Kn.eW;rw[hh];rfl
theorem bH.sd(h:bH w UE s)(n:Nat)(hn:n<20)(hh:(s.k.p n).has=true):w.cell? ⟨s.A 0,n*12+5,bj⟩=bh (ai (bh ⟨s.A (29+n),0,bj⟩)):=by rw[h.cP n 5 hn bu];unfold Kn.pc Kn.eW;rw[hh];rfl
theorem bH.pE(h:bH w UE s)(n f:Nat)(hn:n<20)(hf:f<6):w.cell? ⟨s.A 0,n*12+6+f,bj⟩=bh (aa az ((s.k.p n).fd f)):=by
 rw[Nat.add_assoc,h.cP n (6+f) hn bu];unfold Kn.pc Kn.eW;rw[nJ,nJ,nJ,nJ,nJ,nJ,show 6+f-6=f by omega]
theorem bH.Ld(h:bH w UE s)(n:Nat)(hn:n<6)(hh:s.k.ht n=true):w.cell? ⟨s.A 0,240+n,bj⟩=bh (ai (bh ⟨s.A (49+n),0,bj⟩)):=by
 rw[h.dQ _ bu];unfold Kn.kc;rw[nJ,nK,show 240+n-240=n by omega,hh];rfl
theorem bH.xE(h:bH w UE s):w.cell? ⟨s.A 0,246,bj⟩=bh (ai (bh ⟨s.A 1,0,bj⟩)):=h.dQ 246 bu
theorem bH.oS(h:bH w UE s):w.cell? ⟨s.A 0,247,bj⟩=bh (ai (bh ⟨s.A 2,0,bj⟩)):=h.dQ 247 bu
theorem bH.xD(h:bH w UE s):w.cell? ⟨s.A 0,248,bj⟩=bh (ai (bh ⟨s.A 3,0,bj⟩)):=h.dQ 248 bu
theorem bH.Uj(h:bH w UE s):w.cell? ⟨s.A 0,249,bj⟩=bh (ai (bh ⟨s.A 4,0,bj⟩)):=h.dQ 249 bu
theorem bH.vD(h:bH w UE s):w.cell? ⟨s.A 0,250,bj⟩=bh (ai (bh ⟨s.A 6,0,bj⟩)):=h.dQ 250 bu
theorem bH.sY(h:bH w UE s):w.cell? ⟨s.A 0,252,bj⟩=bh (ai (bh ⟨s.A 8,0,bj⟩)):=h.dQ 252 bu
theorem bH.others(h:bH w UE s){j:Nat}(hj:us s j)(f:bE (s.A j) w w'):∀i,us s i->i≠j->w'.heap[s.A i]? =w.heap[s.A i]? :=λ_ hi n=>f.block _ (h.lt hi) (h.ne hi hj n)
theorem KF.one(s':St){j:Nat}(hj:us s j)(f:bE (s.A j) w w')(hA:s'.A=s.A)(hu:∀i,us s' i->us s i):KF s w s' w':=⟨dF.jW f ⟨j,hj,rfl⟩,λb ⟨i,hi,e⟩=> .inl ⟨i,hu i hi,by rw[e,hA]⟩,by rw[hA]⟩
theorem Gr.bE.rM{b:Nat}(f:Gr.bE b w w'):Go.Proofs.YtpmmdkcfenjiaaaGreatDoor.bE b w w':=⟨f.os,f.tape,f.output,f.size,f.block⟩
theorem bH.x9(h:bH w UE s){t:Sp.T}(u:Tb true w' (s.A 1) t)(f:bE (s.A 1) w w'):bH w' UE {s with k:={s.k with sp:=t}}/\KF s w {s with k:={s.k with sp:=t}} w':=by
 have o:=h.others bS f;refine⟨⟨by rw[o 0 bS bu];exact h.lO,λx hx=>(aV (o 0 bS bu)).trans (h.dQ x hx),u,(o 2 bS bu).trans h.gr,h.sc.same (o 3 bS bu),h.bk.same (o 4 bS bu) (o 5 bS bu),h.fi.same (o 8 bS bu),h.fo.same (o 6 bS bu),h.pi.same (o 7 bS bu),
  λn hn hh=>(h.me n hn hh).same (o _ (Kn.iD hn hh) bu),λn hn hh=>(h.bx n hn hh).same (o _ (Kn.jC hn hh) bu),
  λn hn hh=>(h.tb n hn hh).same (o _ (Kn.jL hn hh) bu) (λg eg=>by have:=o _ (Kn.jD hn hh eg) bu;rwa [h.ro n hn hh g eg]at this),h.ro,h.inj,h.low⟩,KF.one _ bS f rfl (λ_ hi=>hi)⟩
theorem bH.jF(h:bH w UE s){t:Nat->Gr.Gp}(u:Gr.bP w' (s.A 2) t)(f:bE (s.A 2) w w'):bH w' UE {s with k:={s.k with gr:=t}}/\KF s w {s with k:={s.k with gr:=t}} w':=by
 have o:=h.others bS f;refine⟨⟨by rw[o 0 bS bu];exact h.lO,λx hx=>(aV (o 0 bS bu)).trans (h.dQ x hx),h.sp.same (o 1 bS bu),u,h.sc.same (o 3 bS bu),h.bk.same (o 4 bS bu) (o 5 bS bu),h.fi.same (o 8 bS bu),h.fo.same (o 6 bS bu),h.pi.same (o 7 bS bu),
  λn hn hh=>(h.me n hn hh).same (o _ (Kn.iD hn hh) bu),λn hn hh=>(h.bx n hn hh).same (o _ (Kn.jC hn hh) bu),
  λn hn hh=>(h.tb n hn hh).same (o _ (Kn.jL hn hh) bu) (λg eg=>by have:=o _ (Kn.jD hn hh eg) bu;rwa [h.ro n hn hh g eg]at this),h.ro,h.inj,h.low⟩,KF.one _ bS f rfl (λ_ hi=>hi)⟩
theorem bH.kH(h:bH w UE s){t:Wf.M}(u:Wf.Fair w' (s.A 3) t)(f:bE (s.A 3) w w'):bH w' UE {s with k:={s.k with sc:=t}}/\KF s w {s with k:={s.k with sc:=t}} w':=by
 have o:=h.others bS f;refine⟨⟨by rw[o 0 bS bu];exact h.lO,λx hx=>(aV (o 0 bS bu)).trans (h.dQ x hx),h.sp.same (o 1 bS bu),(o 2 bS bu).trans h.gr,u,h.bk.same (o 4 bS bu) (o 5 bS bu),h.fi.same (o 8 bS bu),h.fo.same (o 6 bS bu),h.pi.same (o 7 bS bu),
  λn hn hh=>(h.me n hn hh).same (o _ (Kn.iD hn hh) bu),λn hn hh=>(h.bx n hn hh).same (o _ (Kn.jC hn hh) bu),
  λn hn hh=>(h.tb n hn hh).same (o _ (Kn.jL hn hh) bu) (λg eg=>by have:=o _ (Kn.jD hn hh eg) bu;rwa [h.ro n hn hh g eg]at this),h.ro,h.inj,h.low⟩,KF.one _ bS f rfl (λ_ hi=>hi)⟩
theorem bH.AV(h:bH w UE s){F:Fo}(u:bN w' (s.A 6) F)(f:bE (s.A 6) w w'):bH w' UE {s with k:={s.k with fo:=F}}/\KF s w {s with k:={s.k with fo:=F}} w':=by
 have o:=h.others bS f;refine⟨⟨by rw[o 0 bS bu];exact h.lO,λx hx=>(aV (o 0 bS bu)).trans (h.dQ x hx),h.sp.same (o 1 bS bu),(o 2 bS bu).trans h.gr,h.sc.same (o 3 bS bu),h.bk.same (o 4 bS bu) (o 5 bS bu),h.fi.same (o 8 bS bu),u,h.pi.same (o 7 bS bu),
  λn hn hh=>(h.me n hn hh).same (o _ (Kn.iD hn hh) bu),λn hn hh=>(h.bx n hn hh).same (o _ (Kn.jC hn hh) bu),
  λn hn hh=>(h.tb n hn hh).same (o _ (Kn.jL hn hh) bu) (λg eg=>by have:=o _ (Kn.jD hn hh eg) bu;rwa [h.ro n hn hh g eg]at this),h.ro,h.inj,h.low⟩,KF.one _ bS f rfl (λ_ hi=>hi)⟩
theorem bH.fx(h:bH w UE s):FX w (s.A 8) (s.A 6) (s.A 7) s.k.fi s.k.fo s.k.pi:=⟨h.fi,h.fo,h.pi,h.ne bS bS bu,h.ne bS bS bu,h.ne bS bS bu⟩
theorem bH.vm(h:bH w UE s){T:Nat->Fi}{F:Fo}{S:Nat->Pi}(u:FX w' (s.A 8) (s.A 6) (s.A 7) T F S)(f:dw (s.A 8) (s.A 6) (s.A 7) w w'):bH w' UE {s with k:={s.k with fi:=T,fo:=F,pi:=S}}/\KF s w {s with k:={s.k with fi:=T,fo:=F,pi:=S}} w':=by
 have o:∀i,us s i->i≠8->i≠6->i≠7->w'.heap[s.A i]? =w.heap[s.A i]? :=λi hi a b c=>f.block _ (h.lt hi) (h.ne hi bS a) (h.ne hi bS b) (h.ne hi bS c);refine⟨⟨by rw[o 0 bS bu bu bu];exact h.lO,λx hx=>(aV (o 0 bS bu bu bu)).trans (h.dQ x hx),h.sp.same (o 1 bS bu bu bu),(o 2 bS bu bu bu).trans h.gr,h.sc.same (o 3 bS bu bu bu),h.bk.same (o 4 bS bu bu bu) (o 5 bS bu bu bu),u.1,u.2.1,u.2.2.1,
  λn hn hh=>(h.me n hn hh).same (o _ (Kn.iD hn hh) bu bu bu),λn hn hh=>(h.bx n hn hh).same (o _ (Kn.jC hn hh) bu bu bu),
  λn hn hh=>(h.tb n hn hh).same (o _ (Kn.jL hn hh) bu bu bu) (λg eg=>by have:=o _ (Kn.jD hn hh eg) bu bu bu;rwa [h.ro n hn hh g eg]at this),h.ro,h.inj,h.low⟩,
  ⟨⟨f.os,f.tape,f.output,f.size,λb hb hn=>f.block b hb (λe=>hn ⟨8,bS,e⟩) (λe=>hn ⟨6,bS,e⟩) (λe=>hn ⟨7,bS,e⟩)⟩,λb hb=> .inl hb,rfl⟩⟩
theorem bH.ub(h:bH w UE s){n:Nat}(hn:n<20)(hh:(s.k.p n).has=true):UB w (s.A (9+n)) (s.A 4) (s.A 5) (s.k.p n).mem s.k.bk:=⟨h.me n hn hh,h.bk,h.ne (Kn.iD hn hh) bS bu,h.ne (Kn.iD hn hh) bS bu⟩
def Kn.cT(k:Kp)(n:Nat)(m:Me)(b:Bk):Kp:={k.put n {k.p n with mem:=m}with bk:=b}
theorem Kn.Kq{s:St}{n:Nat}{x:Pr}(hx:x.has=(s.k.p n).has)(b:Bk)(i:Nat):us {s with k:={s.k.put n x with bk:=b}} i↔us s i:=by
 have e:∀j,((s.k.put n x).p j).has=(s.k.p j).has:=λj=>by
  by_cases c:j=n
  .rw[c,Kn.bF,hx]
  .rw[Kn.bM _ _ _ _ c]
 unfold us;show(_\/(_/\_/\((s.k.put n x).p _).has=true)\/(_/\_/\((s.k.put n x).p _).has=true)\/_\/_)↔_;rw[e,e];exact Iff.rfl
theorem bH.xZ(h:bH w UE s){n:Nat}(hn:n<20)(hh:(s.k.p n).has=true){m:Me}{b:Bk}(u:UB w' (s.A (9+n)) (s.A 4) (s.A 5) m b)(f:fC (s.A (9+n)) (s.A 4) (s.A 5) w w'):bH w' UE {s with k:=Kn.cT s.k n m b}/\KF s w {s with k:=Kn.cT s.k n m b} w':=by
 have o:∀i,us s i->i≠9+n->i≠4->i≠5->w'.heap[s.A i]? =w.heap[s.A i]? :=λi hi a b c=>f.block _ (h.lt hi) (h.ne hi (Kn.iD hn hh) a) (h.ne hi bS b) (h.ne hi bS c);have pu:∀i,us {s with k:=Kn.cT s.k n m b} i↔us s i:=Kn.Kq (n:=n) (x:={s.k.p n with mem:=m}) rfl b;have pk:∀x,Kn.kc {s with k:=Kn.cT s.k n m b} x=Kn.kc s x:=λx=>by
  unfold Kn.kc Kn.pc Kn.eW;by_cases c:x/12=n
  .rw[show(Kn.cT s.k n m b).p (x/12)={s.k.p n with mem:=m}by rw[c];exact Kn.bF _ _ _,<-c];rfl
  .rw[show(Kn.cT s.k n m b).p (x/12)=s.k.p (x/12)from Kn.bM _ _ _ _ c];rfl
 refine⟨⟨by rw[show({s with k:=Kn.cT s.k n m b}:St).A 0=s.A 0 from rfl,o 0 bS bu bu bu];exact h.lO,λx hx=>by rw[pk];exact(aV (o 0 bS bu bu bu)).trans (h.dQ x hx),h.sp.same (o 1 bS bu bu bu),(o 2 bS bu bu bu).trans h.gr,h.sc.same (o 3 bS bu bu bu),u.bk,h.fi.same (o 8 bS bu bu bu),h.fo.same (o 6 bS bu bu bu),h.pi.same (o 7 bS bu bu bu),
  λj hj jh=>?_,λj hj jh=>?_,
  λn hn hh=>(h.tb n hn hh).same (o _ (Kn.jL hn hh) bu bu bu) (λg eg=>by have:=o _ (Kn.jD hn hh eg) bu bu bu;rwa [h.ro n hn hh g eg]at this),h.ro,λi j hi hj=>h.inj i j ((pu i).1 hi) ((pu j).1 hj),λi hi=>h.low i ((pu i).1 hi)⟩,
  ⟨⟨f.os,f.tape,f.output,f.size,λb hb hc=>f.block b hb (λe=>hc ⟨_,Kn.iD hn hh,e⟩) (λe=>hc ⟨4,bS,e⟩) (λe=>hc ⟨5,bS,e⟩)⟩,λb ⟨i,hi,e⟩=> .inl ⟨i,(pu i).1 hi,e⟩,rfl⟩⟩
 .by_cases c:j=n
  .subst c;rw[show(Kn.cT s.k j m b).p j={s.k.p j with mem:=m}from Kn.bF _ _ _];exact u.me
  .rw[show(Kn.cT s.k n m b).p j=s.k.p j from Kn.bM _ _ _ _ c]at jh|-;exact(h.me j hj jh).same (o _ (Kn.iD hj jh) bu bu bu)
 .by_cases c:j=n
  .subst c;rw[show(Kn.cT s.k j m b).p j={s.k.p j with mem:=m}from Kn.bF _ _ _];exact(h.bx j hj hh).same (o _ (Kn.jC hj hh) bu bu bu)
  .rw[show(Kn.cT s.k n m b).p j=s.k.p j from Kn.bM _ _ _ _ c]at jh|-;exact(h.bx j hj jh).same (o _ (Kn.jC hj jh) bu bu bu)
end
section
variable {w w':bD}{UE:Nat}{s s':St}
theorem bH.SM(h:bH w UE s){b:Bk}(u:dz w' (s.A 4) (s.A 5) b)(f:iP (s.A 4) (s.A 5) w w'):bH w' UE {s with k:={s.k with bk:=b}}/\KF s w {s with k:={s.k with bk:=b}} w':=by
 have o:∀i,us s i->i≠4->i≠5->w'.heap[s.A i]? =w.heap[s.A i]? :=λi hi a b=>f.block _ (h.lt hi) (h.ne hi bS a) (h.ne hi bS b);refine⟨⟨by rw[o 0 bS bu bu];exact h.lO,λx hx=>(aV (o 0 bS bu bu)).trans (h.dQ x hx),h.sp.same (o 1 bS bu bu),(o 2 bS bu bu).trans h.gr,h.sc.same (o 3 bS bu bu),u,h.fi.same (o 8 bS bu bu),h.fo.same (o 6 bS bu bu),h.pi.same (o 7 bS bu bu),
  λn hn hh=>(h.me n hn hh).same (o _ (Kn.iD hn hh) bu bu),λn hn hh=>(h.bx n hn hh).same (o _ (Kn.jC hn hh) bu bu),
  λn hn hh=>(h.tb n hn hh).same (o _ (Kn.jL hn hh) bu bu) (λg eg=>by have:=o _ (Kn.jD hn hh eg) bu bu;rwa [h.ro n hn hh g eg]at this),h.ro,h.inj,h.low⟩,
  ⟨⟨f.os,f.tape,f.output,f.size,λb hb hc=>f.block b hb (λe=>hc ⟨4,bS,e⟩) (λe=>hc ⟨5,bS,e⟩)⟩,λb hb=> .inl hb,rfl⟩⟩
theorem Kn.xO(s:St)(n:Nat)(x:Pr)(o:Nat):Kn.kc {s with k:=s.k.put n x} o=if o<240/\o/12=n then Kn.eW (s.A (9+n)) (s.A (29+n)) x (o%12)else Kn.kc s o:=by
 unfold Kn.kc;by_cases c:o<240
 .rw[aJ c,aJ c];by_cases d:o/12=n
  .rw[aJ ⟨c,d⟩];unfold Kn.pc;rw[d];show Kn.eW (s.A (9+n)) (s.A (29+n)) ((s.k.put n x).p n) _=_;rw[Kn.bF]
  .rw[aI (λe=>d e.2)];unfold Kn.pc;show Kn.eW (s.A (9+o/12)) (s.A (29+o/12)) ((s.k.put n x).p (o/12)) _=_;rw[Kn.bM _ _ _ _ d]
 .rw[aI c,aI (show¬(o<240/\o/12=n)from λe=>c e.1),aI c];rfl
theorem Kn.zu{s:St}{n:Nat}{x:Pr}(hx:x.has=(s.k.p n).has)(i:Nat):us {s with k:=s.k.put n x} i↔us s i:=Kn.Kq hx s.k.bk i
theorem bH.Tf(h:bH w UE s){n:Nat}{x:Pr}(hx:x.has=(s.k.p n).has)(hm:x.mem=(s.k.p n).mem)(hb:x.box=(s.k.p n).box)(f:bE (s.A 0) w w')(hk:∃C,w'.heap[s.A 0]? =bh (bg C 86 (0,0))/\C.size=253)
  (hc:∀o,o<253->w'.cell? ⟨s.A 0,o,bj⟩=bh (Kn.kc {s with k:=s.k.put n x} o)):bH w' UE {s with k:=s.k.put n x}/\KF s w {s with k:=s.k.put n x} w':=by
 have o:=h.others bS f;have pu:=Kn.zu (s:=s) hx;refine⟨⟨hk,hc,h.sp.same (o 1 bS bu),(o 2 bS bu).trans h.gr,h.sc.same (o 3 bS bu),h.bk.same (o 4 bS bu) (o 5 bS bu),h.fi.same (o 8 bS bu),h.fo.same (o 6 bS bu),h.pi.same (o 7 bS bu),
  λj hj jh=>?_,λj hj jh=>?_,
  λn hn hh=>(h.tb n hn hh).same (o _ (Kn.jL hn hh) bu) (λg eg=>by have:=o _ (Kn.jD hn hh eg) bu;rwa [h.ro n hn hh g eg]at this),h.ro,λi j hi hj=>h.inj i j ((pu i).1 hi) ((pu j).1 hj),λi hi=>h.low i ((pu i).1 hi)⟩,KF.one _ bS f rfl (λi hi=>(pu i).1 hi)⟩
 .by_cases c:j=n
  .subst c;rw[show((s.k.put j x).p j)=x from Kn.bF _ _ _]at jh|-;rw[hm];rw[hx]at jh;exact(h.me j hj jh).same (o _ (Kn.iD hj jh) bu)
  .rw[show((s.k.put n x).p j)=s.k.p j from Kn.bM _ _ _ _ c]at jh|-;exact(h.me j hj jh).same (o _ (Kn.iD hj jh) bu)
 .by_cases c:j=n
  .subst c;rw[show((s.k.put j x).p j)=x from Kn.bF _ _ _]at jh|-;rw[hb];rw[hx]at jh;exact(h.bx j hj jh).same (o _ (Kn.jC hj jh) bu)
  .rw[show((s.k.put n x).p j)=s.k.p j from Kn.bM _ _ _ _ c]at jh|-;exact(h.bx j hj jh).same (o _ (Kn.jC hj jh) bu)
theorem bH.CY(h:bH w UE s){n j:Nat}(hn:n<20)(hj:j<12){x:Pr}(v:Value)(hx:x.has=(s.k.p n).has)(hm:x.mem=(s.k.p n).mem)(hb:x.box=(s.k.p n).box)(hv:∀a b i,i<12->Kn.eW a b x i=if i=j then v else Kn.eW a b (s.k.p n) i):
  bH (w.setCell ⟨s.A 0,n*12+j,bj⟩ v) UE {s with k:=s.k.put n x}/\KF s w {s with k:=s.k.put n x} (w.setCell ⟨s.A 0,n*12+j,bj⟩ v):=by
 obtain⟨C,e,sz⟩:=h.lO;refine h.Tf hx hm hb ((bE.refl _ _).setCell _ _) ⟨_,cE e _ v,by simpa using sz⟩ (λo ho=>?_);rw[Kn.xO];by_cases c:o=n*12+j
 .subst c;rw[du e _ v bu,aJ ⟨by omega,bu⟩,show(n*12+j)%12=j by omega,hv _ _ j hj,aJ rfl]
 .rw[da e _ _ v (bQ c)];by_cases d:o<240/\o/12=n
  .rw[aJ d,hv _ _ _ bu,nJ,h.dQ o ho];unfold Kn.kc Kn.pc;rw[aJ d.1,d.2]
  .rw[aI d];exact h.dQ o ho
theorem bH.SN(h:bH w UE s){n:Nat}(hn:n<20)(v:Nat):bH (w.setCell ⟨s.A 0,n*12,bj⟩ (aa az (v:Int))) UE {s with k:=s.k.put n {s.k.p n with st:=v}}/\KF s w {s with k:=s.k.put n {s.k.p n with st:=v}} (w.setCell ⟨s.A 0,n*12,bj⟩ (aa az (v:Int))):=
 h.CY hn (j:=0) bu _ rfl rfl rfl (λa b i hi=>by
  match i,hi with
  |0,_=>rfl
  |i+1,_=>rw[nJ];rfl)
theorem bH.C5(h:bH w UE s){n:Nat}(hn:n<20)(v:Int):bH (w.setCell ⟨s.A 0,n*12+1,bj⟩ (aa az v)) UE {s with k:=s.k.put n {s.k.p n with par:=v}}/\KF s w {s with k:=s.k.put n {s.k.p n with par:=v}} (w.setCell ⟨s.A 0,n*12+1,bj⟩ (aa az v)):=
 h.CY hn (j:=1) bu _ rfl rfl rfl (λa b i hi=>by
  match i,hi with
  |0,_=>rfl
  |1,_=>rfl
  |i+2,_=>rw[nJ];rfl)
theorem bH.RV(h:bH w UE s){n:Nat}(hn:n<20)(v:Int):bH (w.setCell ⟨s.A 0,n*12+2,bj⟩ (aa az v)) UE {s with k:=s.k.put n {s.k.p n with cN:=v}}/\KF s w {s with k:=s.k.put n {s.k.p n with cN:=v}} (w.setCell ⟨s.A 0,n*12+2,bj⟩ (aa az v)):=
 h.CY hn (j:=2) bu _ rfl rfl rfl (λa b i hi=>by
  match i,hi with
  |0,_=>rfl
  |1,_=>rfl
  |2,_=>rfl
  |i+3,_=>rw[nJ];rfl)
theorem bH.Qg(h:bH w UE s){n:Nat}(hn:n<20)(v:Int):bH (w.setCell ⟨s.A 0,n*12+3,bj⟩ (aa az v)) UE {s with k:=s.k.put n {s.k.p n with code:=v}}/\KF s w {s with k:=s.k.put n {s.k.p n with code:=v}} (w.setCell ⟨s.A 0,n*12+3,bj⟩ (aa az v)):=
 h.CY hn (j:=3) bu _ rfl rfl rfl (λa b i hi=>by
  match i,hi with
  |0,_=>rfl
  |1,_=>rfl
  |2,_=>rfl
  |3,_=>rfl
  |i+4,_=>rw[nJ];rfl)
def Kn.fH(k:Kp)(n f:Nat)(v:Int):Kp:=k.put n {k.p n with fd:=λi=>if i=f then v else(k.p n).fd i}
theorem bH.qJ(h:bH w UE s){n f:Nat}(hn:n<20)(hf:f<6)(v:Int):bH (w.setCell ⟨s.A 0,n*12+6+f,bj⟩ (aa az v)) UE {s with k:=Kn.fH s.k n f v}/\KF s w {s with k:=Kn.fH s.k n f v} (w.setCell ⟨s.A 0,n*12+6+f,bj⟩ (aa az v)):=by
 rw[Nat.add_assoc];exact h.CY hn (j:=6+f) bu _ rfl rfl rfl (λa b i hi=>by
  unfold Kn.eW;by_cases c:i=6+f
  .rw[aJ c,nJ,nJ,nJ,nJ,nJ,nJ];simp[show i-6=f by omega]
  .rw[aI c];by_cases d:i<6
   .have q:i=0\/i=1\/i=2\/i=3\/i=4\/i=5:=bu
    rcases q with rfl|rfl|rfl|rfl|rfl|rfl<;>rfl
   .rw[nJ,nJ,nJ,nJ,nJ,nJ];simp[show i-6≠f by omega,show i≠0 by omega,show i≠1 by omega,show i≠2 by omega,show i≠3 by omega,show i≠4 by omega,show i≠5 by omega])
theorem bH.vl(h:bH w UE s){n:Nat}(hn:n<20)(hh:(s.k.p n).has=true){X:Nat->S1}(u:CX w' (s.A (29+n)) X)(f:bE (s.A (29+n)) w w'):bH w' UE {s with k:=s.k.put n {s.k.p n with box:=X}}/\KF s w {s with k:=s.k.put n {s.k.p n with box:=X}} w':=by
 have o:=h.others (Kn.jC hn hh) f;have pu:=Kn.zu (s:=s) (n:=n) (x:={s.k.p n with box:=X}) rfl;have pk:∀x,Kn.kc {s with k:=s.k.put n {s.k.p n with box:=X}} x=Kn.kc s x:=λx=>by
  rw[Kn.xO];by_cases c:x<240/\x/12=n
  .rw[aJ c];unfold Kn.kc Kn.pc;rw[aJ c.1,c.2];rfl
  .rw[aI c]
 refine⟨⟨by rw[show({s with k:=s.k.put n {s.k.p n with box:=X}}:St).A 0=s.A 0 from rfl,o 0 bS bu];exact h.lO,λx hx=>by rw[pk];exact(aV (o 0 bS bu)).trans (h.dQ x hx),h.sp.same (o 1 bS bu),(o 2 bS bu).trans h.gr,h.sc.same (o 3 bS bu),h.bk.same (o 4 bS bu) (o 5 bS bu),h.fi.same (o 8 bS bu),h.fo.same (o 6 bS bu),h.pi.same (o 7 bS bu),
  λj hj jh=>?_,λj hj jh=>?_,
  λn hn hh=>(h.tb n hn hh).same (o _ (Kn.jL hn hh) bu) (λg eg=>by have:=o _ (Kn.jD hn hh eg) bu;rwa [h.ro n hn hh g eg]at this),h.ro,λi j hi hj=>h.inj i j ((pu i).1 hi) ((pu j).1 hj),λi hi=>h.low i ((pu i).1 hi)⟩,KF.one _ (Kn.jC hn hh) f rfl (λi hi=>(pu i).1 hi)⟩
 .by_cases c:j=n
  .subst c;rw[show((s.k.put j {s.k.p j with box:=X}).p j)={s.k.p j with box:=X}from Kn.bF _ _ _];exact(h.me j hj hh).same (o _ (Kn.iD hj hh) bu)
  .rw[show((s.k.put n {s.k.p n with box:=X}).p j)=s.k.p j from Kn.bM _ _ _ _ c]at jh|-;exact(h.me j hj jh).same (o _ (Kn.iD hj jh) bu)
 .by_cases c:j=n
  .subst c;rw[show((s.k.put j {s.k.p j with box:=X}).p j)={s.k.p j with box:=X}from Kn.bF _ _ _];exact u
  .rw[show((s.k.put n {s.k.p n with box:=X}).p j)=s.k.p j from Kn.bM _ _ _ _ c]at jh|-;exact(h.bx j hj jh).same (o _ (Kn.jC hj jh) bu)
end
def Kn.lv(k:Kp)(n:Nat):Bool:=decide ((k.p n).st=1)
def Kn.bT(k:Kp)(z:Int):Int:=if z<0\/20<=z then 1 else if Kn.lv k z.toNat=true then 0 else 2
theorem Kn.vS{k:Kp}{z:Int}(h:Kn.bT k z≠0):0<Kn.bT k z:=by
 unfold Kn.bT at h|-;split
 .decide
 .split
  .rename_i a b;rw[aI a,aJ b]at h;exact aZ rfl h
  .decide
theorem Kn.fq{k:Kp}{z:Int}(h:Kn.bT k z=0):∃n:Nat,z=n/\n<20/\Kn.lv k n=true:=by
 unfold Kn.bT at h;by_cases c:z<0\/20<=z
 .rw[aJ c]at h;omega
 .rw[aI c]at h;by_cases d:Kn.lv k z.toNat=true
  .exact⟨z.toNat,bu,bu,d⟩
  .rw[aI d]at h;omega
theorem Kn.Uc{k:Kp}{n:Nat}(hn:n<20)(h:Kn.lv k n=true):Kn.bT k (n:Int)=0:=by
 unfold Kn.bT;rw[nJ,hZ,aJ h]
def fJ(b:Nat)(z E:Int):Value:=if E=0 then ai (bh ⟨b,z.toNat*12,bj⟩)else ai bj
theorem gS(b n:Nat):fJ b (n:Int) 0=ai (bh ⟨b,n*12,bj⟩):=by unfold fJ;rw[aJ rfl,hZ]
theorem Em{b:Nat}{z E:Int}(h:E≠0):fJ b z E=ai none:=aI h
section
variable (UE:Nat)(s:St)(w:bD)
theorem iS(n:Nat)(h:bH w UE s)(hn:n<20)(v:Bool)(hv:Kn.lv s.k n=v):
  Calls prog 60 #[ai (bh ⟨s.A 0,0,bj⟩),aa az n] w λe w'=>e=bf (ar v)/\w'=w:=by
 have c0:=h.tC n hn;have hnI:(n:Int)<20:=bu
 generalize s.A 0=kb at*;unfold Kn.lv at hv;generalize (s.k.p n).st=st at*;by_cases d:st=1
 .subst d;have E:v=true:=by rw[<-hv];rfl
  subst E;have c0':w.cell? ⟨kb,n*12,bj⟩=bh (aa .i64 1):=c0;go_in
  go_wp2
  go_ret
  exact⟨rfl,rfl⟩
 .have E:v=false:=by rw[<-hv];exact aT d
  subst E;have d1:((st:Int)==1)=false:=by simp;omega
  go_in
  go_wp2
  go_ret
  exact⟨rfl,rfl⟩
theorem dv(z:Int)(h:bH w UE s):
  Calls prog 57 #[ai (bh ⟨s.A 0,0,bj⟩),aa az z] w λe w'=>e=bf (ao #[fJ (s.A 0) z (Kn.bT s.k z),bG (Kn.bT s.k z)])/\w'=w:=by
 by_cases c:z<0\/20<=z
 .have E:Hid (Kn.bT s.k z=1/\fJ (s.A 0) z 1=ai bj):=hJ ⟨aJ c,Em bA⟩;generalize s.A 0=kb at*;by_cases c1:z<0
  .clear c;go_in
   go_wp2
   go_ret2
   rw[E.1,E.2];exact⟨rfl,rfl⟩
  .have c2:20<=z:=bu
   go_in
   go_wp2
   go_ret2
   rw[E.1,E.2];exact⟨rfl,rfl⟩
 .obtain⟨n,rfl⟩:∃n:Nat,z=n:=⟨z.toNat,bu⟩;have hn:n<20:=bu
  have hnI:(n:Int)<20:=bu
  have E0:Kn.bT s.k (n:Int)=if Kn.lv s.k n=true then 0 else 2:=by unfold Kn.bT;rw[aI c,hZ]
  obtain⟨v,hv⟩:=hU (Kn.lv s.k n);have LV:=hJ (iS UE s w n h hn v hv);cases v
  .have E:Hid (Kn.bT s.k (n:Int)=2/\fJ (s.A 0) (n:Int) 2=ai bj):=hJ ⟨by rw[E0,hv];rfl,Em bA⟩;generalize s.A 0=kb at*;go_in
   go_wp2_with fail
   refine sC LV.v ?_;rintro w1 hw;subst w1;go_wp2
   go_ret2
   rw[E.1,E.2];exact⟨rfl,rfl⟩
  .have E:Hid (Kn.bT s.k (n:Int)=0/\fJ (s.A 0) (n:Int) 0=ai (bh ⟨s.A 0,n*12,bj⟩)):=hJ ⟨by rw[E0,hv];rfl,gS _ _⟩;generalize s.A 0=kb at*;go_in
   go_wp2_with fail
   refine sC LV.v ?_;rintro w1 hw;subst w1;go_wp2
   go_ret2
   rw[E.1,E.2];exact⟨rfl,rfl⟩
theorem fL(z:Int)(h:bH w UE s):
  Calls prog 62 #[ai (bh ⟨s.A 0,0,bj⟩),aa az z] w λe w'=>e=bf (aa az (Sp.dc s.k.sp z:Int))/\w'=w:=by
 have c0:=h.xE;have OF:=hJ (Cw (s.A 1) z s.k.sp w h.sp);generalize s.A 0=kb at*;go_in
 go_wp2_with fail
 refine sC OF.v ?_;rintro w1 hw;subst w1;go_wp2
 go_ret
 exact⟨rfl,rfl⟩
theorem pR(x z:Int)(h:bH w UE s)(h0:∀n,n<6->s.k.sp.bR n 0=0):
  Calls prog 70 #[ai (bh ⟨s.A 0,0,bj⟩),aa az x,aa az z] w λe w'=>e=bf (aa az (Sp.gQ s.k.sp x z:Int))/\w'=w:=by
 have c0:=h.xE;have OF:=hJ (MU (s.A 1) x z s.k.sp w h.sp h0);generalize s.A 0=kb at*;go_in
 go_wp2_with fail
 refine sC OF.v ?_;rintro w1 hw;subst w1;go_wp2
 go_ret
 exact⟨rfl,rfl⟩
theorem zR(z:Int)(h:bH w UE s):
  Calls prog 150 #[ai (bh ⟨s.A 0,0,bj⟩),aa az z] w λe w'=>e=bf (aa az (Sp.eH s.k.sp z 1:Int))/\w'=w:=by
 have c0:=h.xE;have OF:=hJ (BH (s.A 1) z 1 s.k.sp w h.sp);generalize s.A 0=kb at*;go_in
 go_wp2_with fail
 refine sC OF.v ?_;rintro w1 hw;subst w1;go_wp2
 go_ret
 exact⟨rfl,rfl⟩
theorem mR(z:Int)(h:bH w UE s):
  Calls prog 75 #[ai (bh ⟨s.A 0,0,bj⟩),aa az z] w λe w'=>∃v,e=bf v/\LO w (dL s.k.sp z) v w':=by
 have c0:=h.xE;have OF:=hJ (Cs (s.A 1) z s.k.sp w h.sp);generalize s.A 0=kb at*;go_in
 go_wp2_with fail
 refine OF.mono ?_;rintro e w1 ⟨v,rfl,hL⟩;have HL:=hJ hL;go_wp2
 go_ret
 exact⟨v,rfl,HL.v⟩
def Kn.hd(k:Kp)(n:Nat):Nat:=Sp.eH k.sp (Sp.dc k.sp (n:Int):Int) 1
theorem lP(n:Nat)(h:bH w UE s)(v:Bool)(hv:decide (Kn.hd s.k n=n)=v):
  Calls prog 93 #[ai (bh ⟨s.A 0,0,bj⟩),aa az n] w λe w'=>e=bf (ar v)/\w'=w:=by
 have SP:=hJ (fL UE s w (n:Int) h);have HD:=hJ (zR UE s w (Sp.dc s.k.sp (n:Int):Int) h);unfold Kn.hd at hv;generalize Sp.eH s.k.sp (Sp.dc s.k.sp (n:Int):Int) 1=x at*;generalize Sp.dc s.k.sp (n:Int)=y at*;generalize s.A 0=kb at*;by_cases d:x=n
 .subst d;have E:v=true:=by rw[<-hv];simp
  subst E;go_in
  go_wp2_with fail
  refine sC SP.v ?_;rintro w1 hw;subst w1;go_wp2_with fail
  refine sC HD.v ?_;rintro w1 hw;subst w1;go_wp2
  go_ret
  exact⟨rfl,rfl⟩
 .have E:v=false:=by rw[<-hv];exact aT d
  subst E;have d1:((x:Int)==(n:Int))=false:=by simp;omega
  go_in
  go_wp2_with fail
  refine sC SP.v ?_;rintro w1 hw;subst w1;go_wp2_with fail
  refine sC HD.v ?_;rintro w1 hw;subst w1;go_wp2
  go_ret
  exact⟨rfl,rfl⟩
def Kn.dV(k:Kp)(n:Nat):List Nat:=(List.range n).filter (Kn.lv k)
theorem Kn.qG{k:Kp}{n:Nat}(h:Kn.lv k n=true):Kn.dV k (n+1)=Kn.dV k n++[n]:=by
 unfold Kn.dV;rw[List.range_succ,List.filter_append];simp[h]
theorem Kn.wu{k:Kp}{n:Nat}(h:Kn.lv k n=false):Kn.dV k (n+1)=Kn.dV k n:=by
 unfold Kn.dV;rw[List.range_succ,List.filter_append];simp[h]
theorem Kn.zZ(k:Kp)(n:Nat):(Kn.dV k n).length<=n:=by
 have:=bW (Kn.lv k) (List.range n);simpa[Kn.dV]using this
theorem xQ(h:bH w UE s):
  Calls prog 15 #[ai (bh ⟨s.A 0,0,bj⟩)] w λe w'=>∃v,e=bf v/\LO w (Kn.dV s.k 20) v w':=by
 obtain⟨i0,hi,hz0,hz1,hz2⟩:=info_parts xM;have H:=hJ h;go_in
 go_wp2_with fail
 go_loopw [3,5] (λl i wr=>∃(k:Nat),i=aa az k/\k<=20/\Hid (LO w (Kn.dV s.k k) l wr)) (λ_ i _=>20-(intOf i).toNat)
 case atStart=>exact⟨0,rfl,bu,LO.nil w⟩
 case round=>
  obtain⟨k,rfl,hk,R⟩:=hrel;by_cases hlt:k<20
  .have hltI:(k:Int)<20:=bu
   cases hth:Kn.lv s.k k
   .have HM:=hJ (Kn.wu hth);have LV:=hJ (iS UE s wr k (H.below R.cM) hlt false hth);go_wp2_with fail
    refine sC LV.v ?_;rintro w1 hw;subst w1;go_wp2
    go_roundw
    case rel=>exact⟨k+1,by go_num,bu,by rw[HM.v];exact R⟩
    case measure=>simp[intOf];omega
   .have HM:=hJ (Kn.qG hth);have LV:=hJ (iS UE s wr k (H.below R.cM) hlt true hth);obtain⟨a,cap,hv⟩:=fG R.own;rw[hv];have HV:=hJ hv;have hlm:=Kn.zZ s.k k;generalize hN:(Kn.dV s.k k).length=N at*;have HN:=hJ hN;go_wp2_with fail
    refine sC LV.v ?_;rintro w1 hw;subst w1;go_wp2_with (at_builtin;refine wpList_append_lies _ rfl _ _ 46 (by rfl) w.heap.size 3 i0 (aa .i64 0) 1 8 Tryz.underlying46 hi hz0 hz1 hz2 rfl bA (aj a N cap) N (rowOf (Kn.dV s.k k)) (by rfl) (by rw[<-HV.v,<-HN.v];exact R.own.alloc _) ⟨wr.heap.size,0,bj⟩ 1 1 [aa az k] (by rfl) rfl (cell_one_new _ _ _) (by simp[Value.oneCell']) bA (by unfold maxLen;omega) bu (by have:=R.cM.size;simp;omega) (wr.heap.size+1) (by simp) ?_;intro gg cap2 w1 hown hgrow hat hlt2;have Q1:Hid (LO w (Kn.dV s.k k++[k]) (aj (bh ⟨gg,0,bj⟩) (N+1) cap2) w1):=R.more HN.v hown _ (by rw[HV.v];exact hgrow))
    go_roundw
    case rel=>exact⟨k+1,by go_num,bu,by rw[HM.v];exact Q1⟩
    case measure=>simp[intOf];omega
  .obtain rfl:k=20:=bu
   go_wp2
   go_ret
   exact⟨_,rfl,R.v⟩
def Kn.gq(k:Kp)(n:Nat)(E:Int):Prop:=(E=0/\n<20/\(k.p n).st=0/\∀m,m<n->(k.p m).st≠0)\/(E=4/\n=0/\∀m,m<20->(k.p m).st≠0)
theorem GQ(h:bH w UE s):
  Calls prog 63 #[ai (bh ⟨s.A 0,0,bj⟩)] w λe w'=>∃(n:Nat) (E:Int),e=bf (ao #[aa az (n:Int),bG E])/\Kn.gq s.k n E/\w'=w:=by
 have H:=hJ h;obtain⟨kb,hkb⟩:=hU (s.A 0);have HK:=hJ hkb;rw[hkb];go_in
 go_wp2
 go_loopw [4,5] (λ_ i wr=>∃(k:Nat),i=aa az k/\k<=20/\wr=w/\Hid (∀m,m<k->(s.k.p m).st≠0)) (λ_ i _=>20-(intOf i).toNat)
 case atStart=>exact⟨0,rfl,bu,rfl,hJ (λm hm=>aZ hm (Nat.not_lt_zero m))⟩
 case round=>
  obtain⟨k,rfl,hk,hwr,R⟩:=hrel;subst wr;by_cases hlt:k<20
  .have hltI:(k:Int)<20:=bu
   have c0:=H.tC k hlt;rw[HK.v]at c0;by_cases d:(s.k.p k).st=0
   .have FT:Hid (Kn.gq s.k k 0):=hJ (.inl ⟨rfl,hlt,d,R.v⟩);rw[d]at c0;have c0':w.cell? ⟨kb,k*12,bj⟩=bh (aa .i64 0):=c0;go_wp2
    go_ret2
    exact⟨k,0,by rw[bB];rfl,FT.v,rfl⟩
   .have R1:Hid (∀m,m<k+1->(s.k.p m).st≠0):=hJ (λm hm=>by
     by_cases e:m=k
     .rw[e];exact d
     .exact R.v m bu)
    generalize (s.k.p k).st=st at*;have d1:((st:Int)==0)=false:=by simp;omega
    go_wp2
    go_roundw
    case rel=>exact⟨k+1,by go_num,bu,by first|rfl|trivial,R1⟩
    case measure=>simp[intOf];omega
  .obtain rfl:k=20:=bu
   have FT:Hid (Kn.gq s.k 0 4):=hJ (.inr ⟨rfl,rfl,R.v⟩);go_wp2
   go_ret2
   exact⟨0,4,rfl,FT.v,rfl⟩

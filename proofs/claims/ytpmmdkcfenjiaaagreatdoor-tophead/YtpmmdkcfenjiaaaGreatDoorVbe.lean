import Derived.Test.YtpmmdkcfenjiaaaGreatDoorVbd
set_option linter.unusedVariables false
set_option linter.unusedSimpArgs false
set_option maxRecDepth 100000
set_option maxHeartbeats 2000000
namespace Go.Proofs.YtpmmdkcfenjiaaaGreatDoor
open Go.RowKit
open Tr (Fo Nd)
open Mo (Wh Mt)
open Mv (Me Bk)
open Kn (Pr Kp St us KB KJ VI EI)
def PB (w:bD)(c a b:Nat)(x:Pr):Prop:=w.heap[c]? =some (.cells (du a b x) 74 (0,0))
section
variable {w w' : bD} {c a b : Nat} {x : Pr}
theorem PB.lt (h:PB w c a b x):c<w.heap.size:=(aX.1 h).1
theorem PB.same (h:PB w c a b x)(e:w'.heap[c]? =w.heap[c]?):PB w' c a b x:=e.trans h
theorem PB.cell (h:PB w c a b x)(j:Nat)(hj:j<12):w.cell? ⟨c,j,none⟩=some (Kn.dV a b x j):=by rw[au h,kW a b x j hj]
theorem PB.frozen (h:PB w c a b x)(o:Nat):w.frozen? ⟨c,o,none⟩=false:=bf h o
theorem PB.range (h:PB w c a b x):w.rangeAt c 0 (du a b x).toList:=fun j hj=>by
 rw[Nat.zero_add,au h];simp
theorem PB.there (h:PB w c a b x):w.there c 0 12:=fun j hj=>⟨by rw[Nat.zero_add,h.cell j hj];rfl,h.frozen _⟩
theorem tX {A:Array Value}{a b:Nat}{x:Pr}(hs:A.size=12)(h: ∀j,j<12->A[j]? =some (Kn.dV a b x j)):A=du a b x:=by grind [du,kW,dh]
theorem PB.set (h:PB w c a b x){a' b':Nat}{y:Pr}{i:Nat}{v:Value}(hi:i<12)(hv: ∀j,j<12->Kn.dV a' b' y j=if j=i then v else Kn.dV a b x j):PB (w.setCell ⟨c,i,none⟩ v) c a' b' y:=by
 unfold PB;rw[bC h i v,tX (A:=(du a b x).setIfInBounds i v) (a:=a') (b:=b') (x:=y) (by simp[dh]) (fun j hj=>?_)];grind [PB,bC,tX,du,dh,kW]
theorem PB.Bf (h:PB w c a b x)(n:Int):PB (w.setCell ⟨c,1,none⟩ (.int .i64 n)) c a b {x with par:=n}:=h.set (by omega) (fun j hj=>by
 match j,hj with
 |0,_=>rfl
 |1,_=>rfl
 |j+2,_=>rw[aI (by omega)];rfl)
theorem PB.ON (h:PB w c a b x)(hh:x.has=true)(m:Nat):PB (w.setCell ⟨c,4,none⟩ (.pointer (some ⟨m,0,none⟩))) c m b x:=h.set (by omega) (fun j hj=>by
 match j,hj with
 |0,_=>rfl
 |1,_=>rfl
 |2,_=>rfl
 |3,_=>rfl
 |4,_=>show Kn.ptr m x.has=_;rw[hh];rfl
 |j+5,_=>rw[aI (by omega)];rfl)
theorem PB.Od (h:PB w c a b x)(hh:x.has=true)(m:Nat):PB (w.setCell ⟨c,5,none⟩ (.pointer (some ⟨m,0,none⟩))) c a m x:=h.set (by omega) (fun j hj=>by
 match j,hj with
 |0,_=>rfl
 |1,_=>rfl
 |2,_=>rfl
 |3,_=>rfl
 |4,_=>rfl
 |5,_=>show Kn.ptr m x.has=_;rw[hh];rfl
 |j+6,_=>rw[aI (by omega)];rfl)
theorem PB.box (h:PB w c a b x)(X:Nat->Sg.S1):PB w c a b {x with box:=X}:=h
theorem PB.fds (h:PB w c a b x)(j:Nat)(hj:j<(kE x.fd).size):w.cell? ⟨c,6+j,none⟩=(kE x.fd)[j]? :=by
 rw[oP]at hj;rw[zM _ j hj,h.cell (6+j) (by omega)];unfold Kn.dV;grind
end
theorem PB.put {w:bD}{c a b:Nat}{x:Pr}(h:PB w c a b x)(a' b':Nat)(y:Pr):PB (w.setCells c 0 (du a' b' y).toList) c a' b' y:=by
 obtain⟨C',e',sz'⟩:=dR c (du a' b' y).toList 0 w _ h;unfold PB;rw[e'];have hl:(du a' b' y).toList.length=12:=by rw[aB,dh]
 have:C'=du a' b' y:=by
  refine tX (by rw[sz',dh]) (fun j hj=>?_);have q:=aS c (du a' b' y).toList 0 w (fun i hi=>by rw[hl]at hi;rw[Nat.zero_add,h.cell i hi];rfl) j (by omega);rw[Nat.zero_add,au e']at q;rw[q,<-aW (by omega),aM,kW _ _ _ j hj]
 rw[this]
namespace Kn
theorem Og (T:Nat->Fx.Fi)(z:Int)(n:Nat):(Fx.iV T z n).refs<=(T n).refs+1:=by
 unfold Fx.iV;by_cases c:Fx.cE T z=0
 ·rw[aJ c];by_cases e:n=z.toNat
  ·subst e;rw[Fx.ai];exact aL _
  ·rw[Fx.ao _ _ _ _ e];omega
 ·rw[aI c];omega
theorem Cx (k:Kp)(fd:Nat->Int)(n:Nat): ∀j,((iH k fd j).fi n).refs<=(k.fi n).refs+j
 |0=>aL _
 |j+1=>by
  have ih:=Cx k fd n j;show((if fd j= -1 then iH k fd j else _:Kp).fi n).refs<=_;split
  ·omega
  grind [iH,Og,Fx.iV]
end Kn
theorem ak.Fq {w w':bD}{base:Nat}{s:St}(h:ak w base s){T:Nat->Fx.Fi}(u:dy w' (s.A 8) (s.A 6) (s.A 7) T)(f:af (s.A 8) w w'):ak w' base {s with k:={s.k with fi:=T}}/\KF s w {s with k:={s.k with fi:=T}} w':=by
 have o:=h.others (az (by omega)) f;refine⟨⟨by rw[o 0 (az (by omega)) (by omega)];exact h.kT,fun x hx=>(aV (o 0 (az (by omega)) (by omega))).trans (h.dC x hx),h.sp.same (o 1 (az (by omega)) (by omega)),(o 2 (az (by omega)) (by omega)).trans h.gr,h.sc.same (o 3 (az (by omega)) (by omega)),h.bk.same (o 4 (az (by omega)) (by omega)) (o 5 (az (by omega)) (by omega)),u,h.fo.same (o 6 (az (by omega)) (by omega)),h.pi.same (o 7 (az (by omega)) (by omega)),
  fun n hn hh=>(h.me n hn hh).same (o _ (Kn.gP hn hh) (by omega)),fun n hn hh=>(h.bx n hn hh).same (o _ (Kn.iQ hn hh) (by omega)),
  fun n hn hh=>(h.tb n hn hh).same (o _ (Kn.ja hn hh) (by omega)) (fun g eg=>by have:=o _ (Kn.iT hn hh eg) (by omega);rwa [h.ro n hn hh g eg]at this),h.ro,h.inj,h.low⟩,KF.one _ (az (by omega)) f rfl (fun _ hi=>hi)⟩
theorem ak.NU {w:bD}{base:Nat}{s:St}(h:ak w base s){n:Nat}(hn:n<20):w.rangeAt (s.A 0) (n*12) (du (s.A (9+n)) (s.A (29+n)) (s.k.p n)).toList:=fun j v hv=>by
 rw[aM]at hv;have hj:j<12:=by grind [dh,kW]
 rw[kW _ _ _ j hj]at hv;rw[h.cP n j hn hj];exact hv
structure CO (base:Nat)(s:St)(w:bD)(n rb c mb bb:Nat)(k:Kp)(W:bD):Prop where
 kk:ak W base {s with k:=k}
 kf:KF s w {s with k:=k} W
 pb:PB W c mb bb (Kn.dI s.k n)
 rs:PB W rb 0 0 Pr.no
 um:cA W mb (s.A 4) (s.k.p n).mem
 ub:CX W bb (Sg.oO (s.k.p n).box)
 ge:w.heap.size<=rb/\w.heap.size<=c/\w.heap.size<=mb/\w.heap.size<=bb
 ne:mb≠bb/\rb≠c/\rb≠mb/\rb≠bb/\c≠mb/\c≠bb
theorem CO.step {base:Nat}{s:St}{w:bD}{n rb c mb bb:Nat}{k k':Kp}{W W':bD}(h:CO base s w n rb c mb bb k W)(f:af (s.A 8) W W')(kk:ak W' base {s with k:=k'})(kf:KF {s with k:=k} W {s with k:=k'} W')(l8:s.A 8<w.heap.size):CO base s w n rb c mb bb k' W':=
 ⟨kk,h.kf.trans kf,h.pb.same (f.block _ h.pb.lt (by have:=h.ge;omega)),h.rs.same (f.block _ h.rs.lt (by have:=h.ge;omega)),h.um.same (f.block _ h.um.lt (by have:=h.ge;omega)),h.ub.same (f.block _ h.ub.lt (by have:=h.ge;omega)),h.ge,h.ne⟩
section
variable (base : Nat) (s : St) (w : bD)
theorem Ey (n:Nat)(h:ak w base s)(hn:n<20)(hh:(s.k.p n).has=true)(hW:Mv.eZ s.k.bk 20 (fun m=>(s.k.p m).mem))(hr: ∀f,f<24->(s.k.fi f).refs<2^50):
  Calls Tryz.prog 69 #[.pointer (some ⟨s.A 0,0,none⟩), .int .i64 n] w fun e w'=> ∃mb bb,e= .returned (.agg (du mb bb (Kn.dI s.k n)))/\ak w' base {s with k:=Kn.cO s.k n}/\KF s w {s with k:=Kn.cO s.k n} w'/\cA w' mb (s.A 4) (s.k.p n).mem/\CX w' bb (Sg.oO (s.k.p n).box)/\w.heap.size<=mb/\w.heap.size<=bb/\mb≠bb:=by
 have hnI:(n:Int)<20:=by omega
 obtain⟨kb,hkb⟩:=nJ (s.A 0);have HK:=hZ hkb;obtain⟨A,hA⟩:=nJ (du (s.A (9+n)) (s.A (29+n)) (s.k.p n));have HA:=hZ hA;have b0:Below w.heap.size w (w.alloc (.cells #[.int .i64 0, .int .i64 0, .int .i64 0, .int .i64 0, .pointer none, .pointer none, .int .i64 0, .int .i64 0, .int .i64 0, .int .i64 0, .int .i64 0, .int .i64 0] 74)):=(aQ _ _).alloc (aL _) _;have N1:((w.alloc (.cells #[.int .i64 0, .int .i64 0, .int .i64 0, .int .i64 0, .pointer none, .pointer none, .int .i64 0, .int .i64 0, .int .i64 0, .int .i64 0, .int .i64 0, .int .i64 0] 74)).alloc (.cells #[.int .i64 0, .int .i64 0, .int .i64 0, .int .i64 0, .pointer none, .pointer none, .int .i64 0, .int .i64 0, .int .i64 0, .int .i64 0, .int .i64 0, .int .i64 0] 74)).heap[w.heap.size+1]? =some (.cells #[.int .i64 0, .int .i64 0, .int .i64 0, .int .i64 0, .pointer none, .pointer none, .int .i64 0, .int .i64 0, .int .i64 0, .int .i64 0, .int .i64 0, .int .i64 0] 74 (0,0)):=by
  have:=heap_alloc_new (w.alloc (.cells #[.int .i64 0, .int .i64 0, .int .i64 0, .int .i64 0, .pointer none, .pointer none, .int .i64 0, .int .i64 0, .int .i64 0, .int .i64 0, .int .i64 0, .int .i64 0] 74)) (.cells #[.int .i64 0, .int .i64 0, .int .i64 0, .int .i64 0, .pointer none, .pointer none, .int .i64 0, .int .i64 0, .int .i64 0, .int .i64 0, .int .i64 0, .int .i64 0] 74);rw[show(w.alloc (.cells #[.int .i64 0, .int .i64 0, .int .i64 0, .int .i64 0, .pointer none, .pointer none, .int .i64 0, .int .i64 0, .int .i64 0, .int .i64 0, .int .i64 0, .int .i64 0] 74)).heap.size=w.heap.size+1 by simp]at this;exact this
 have b1:Below w.heap.size w ((w.alloc (.cells #[.int .i64 0, .int .i64 0, .int .i64 0, .int .i64 0, .pointer none, .pointer none, .int .i64 0, .int .i64 0, .int .i64 0, .int .i64 0, .int .i64 0, .int .i64 0] 74)).alloc (.cells #[.int .i64 0, .int .i64 0, .int .i64 0, .int .i64 0, .pointer none, .pointer none, .int .i64 0, .int .i64 0, .int .i64 0, .int .i64 0, .int .i64 0, .int .i64 0] 74)):=b0.alloc b0.size _;have R0:Hid ((w.alloc (.cells #[.int .i64 0, .int .i64 0, .int .i64 0, .int .i64 0, .pointer none, .pointer none, .int .i64 0, .int .i64 0, .int .i64 0, .int .i64 0, .int .i64 0, .int .i64 0] 74)).rangeAt kb (n*12) A.toList):=hZ (by rw[<-hkb,<-hA];exact(h.below b0).NU hn);have SL:Hid ((Tryz.prog.info? 74).map (·.size)=some A.toList.length):=hZ (by rw[<-hA,aB,dh];kernel_rfl);have SZ:Hid ((Tryz.prog.info? 74).map (·.size)=some A.size):=hZ (by rw[<-hA,dh];kernel_rfl);have TH:Hid (((w.alloc (.cells #[.int .i64 0, .int .i64 0, .int .i64 0, .int .i64 0, .pointer none, .pointer none, .int .i64 0, .int .i64 0, .int .i64 0, .int .i64 0, .int .i64 0, .int .i64 0] 74)).alloc (.cells #[.int .i64 0, .int .i64 0, .int .i64 0, .int .i64 0, .pointer none, .pointer none, .int .i64 0, .int .i64 0, .int .i64 0, .int .i64 0, .int .i64 0, .int .i64 0] 74)).there (w.heap.size+1) 0 A.size):=hZ (by rw[<-hA,dh];exact PB.there (a:=0) (b:=0) (x:=Pr.no) (by unfold PB;rw[wV];exact N1));have H1:Hid (A.all (·.oneCell')=true):=hZ (by rw[<-hA];exact qg _ _ _);have F0:Hid (PB (((w.alloc (.cells #[.int .i64 0, .int .i64 0, .int .i64 0, .int .i64 0, .pointer none, .pointer none, .int .i64 0, .int .i64 0, .int .i64 0, .int .i64 0, .int .i64 0, .int .i64 0] 74)).alloc (.cells #[.int .i64 0, .int .i64 0, .int .i64 0, .int .i64 0, .pointer none, .pointer none, .int .i64 0, .int .i64 0, .int .i64 0, .int .i64 0, .int .i64 0, .int .i64 0] 74)).setCells (w.heap.size+1) 0 A.toList) (w.heap.size+1) (s.A (9+n)) (s.A (29+n)) (s.k.p n)/\PB (((w.alloc (.cells #[.int .i64 0, .int .i64 0, .int .i64 0, .int .i64 0, .pointer none, .pointer none, .int .i64 0, .int .i64 0, .int .i64 0, .int .i64 0, .int .i64 0, .int .i64 0] 74)).alloc (.cells #[.int .i64 0, .int .i64 0, .int .i64 0, .int .i64 0, .pointer none, .pointer none, .int .i64 0, .int .i64 0, .int .i64 0, .int .i64 0, .int .i64 0, .int .i64 0] 74)).setCells (w.heap.size+1) 0 A.toList) w.heap.size 0 0 Pr.no/\Below w.heap.size w (((w.alloc (.cells #[.int .i64 0, .int .i64 0, .int .i64 0, .int .i64 0, .pointer none, .pointer none, .int .i64 0, .int .i64 0, .int .i64 0, .int .i64 0, .int .i64 0, .int .i64 0] 74)).alloc (.cells #[.int .i64 0, .int .i64 0, .int .i64 0, .int .i64 0, .pointer none, .pointer none, .int .i64 0, .int .i64 0, .int .i64 0, .int .i64 0, .int .i64 0, .int .i64 0] 74)).setCells (w.heap.size+1) 0 A.toList)):=hZ (by
  have fr:af (w.heap.size+1) ((w.alloc (.cells #[.int .i64 0, .int .i64 0, .int .i64 0, .int .i64 0, .pointer none, .pointer none, .int .i64 0, .int .i64 0, .int .i64 0, .int .i64 0, .int .i64 0, .int .i64 0] 74)).alloc (.cells #[.int .i64 0, .int .i64 0, .int .i64 0, .int .i64 0, .pointer none, .pointer none, .int .i64 0, .int .i64 0, .int .i64 0, .int .i64 0, .int .i64 0, .int .i64 0] 74)) (((w.alloc (.cells #[.int .i64 0, .int .i64 0, .int .i64 0, .int .i64 0, .pointer none, .pointer none, .int .i64 0, .int .i64 0, .int .i64 0, .int .i64 0, .int .i64 0, .int .i64 0] 74)).alloc (.cells #[.int .i64 0, .int .i64 0, .int .i64 0, .int .i64 0, .pointer none, .pointer none, .int .i64 0, .int .i64 0, .int .i64 0, .int .i64 0, .int .i64 0, .int .i64 0] 74)).setCells (w.heap.size+1) 0 A.toList):=af.setCells _ _ (af.refl _ _);refine⟨?_,?_,fr.below b1 (by omega) b1.size⟩
  ·obtain⟨C',e',sz'⟩:=dR (w.heap.size+1) A.toList 0 _ _ N1;unfold PB;rw[e',hA];have sz:C'.size=12:=by rw[sz'];rfl
   have:C'=A:=by
    rw[<-hA];refine tX sz (fun j hj=>?_);have q:=aS (w.heap.size+1) A.toList 0 ((w.alloc (.cells #[.int .i64 0, .int .i64 0, .int .i64 0, .int .i64 0, .pointer none, .pointer none, .int .i64 0, .int .i64 0, .int .i64 0, .int .i64 0, .int .i64 0, .int .i64 0] 74)).alloc (.cells #[.int .i64 0, .int .i64 0, .int .i64 0, .int .i64 0, .pointer none, .pointer none, .int .i64 0, .int .i64 0, .int .i64 0, .int .i64 0, .int .i64 0, .int .i64 0] 74)) (fun i hi=>by rw[au N1];rw[aB,<-hA,dh]at hi;simp;omega) j (by rw[aB,<-hA,dh];exact hj);rw[Nat.zero_add,au e']at q;rw[q,<-aW (by rw[aB,<-hA,dh];exact hj),aM,<-hA,kW _ _ _ j hj]
   rw[this]
  ·unfold PB;rw[wV,fr.block w.heap.size (by simp;omega) (by omega)];have:=heap_alloc_new w (.cells #[.int .i64 0, .int .i64 0, .int .i64 0, .int .i64 0, .pointer none, .pointer none, .int .i64 0, .int .i64 0, .int .i64 0, .int .i64 0, .int .i64 0, .int .i64 0] 74);rw[show((w.alloc (.cells #[.int .i64 0, .int .i64 0, .int .i64 0, .int .i64 0, .pointer none, .pointer none, .int .i64 0, .int .i64 0, .int .i64 0, .int .i64 0, .int .i64 0, .int .i64 0] 74)).alloc (.cells #[.int .i64 0, .int .i64 0, .int .i64 0, .int .i64 0, .pointer none, .pointer none, .int .i64 0, .int .i64 0, .int .i64 0, .int .i64 0, .int .i64 0, .int .i64 0] 74)).heap[w.heap.size]? =(w.alloc (.cells #[.int .i64 0, .int .i64 0, .int .i64 0, .int .i64 0, .pointer none, .pointer none, .int .i64 0, .int .i64 0, .int .i64 0, .int .i64 0, .int .i64 0, .int .i64 0] 74)).heap[w.heap.size]? from((aQ _ _).alloc (aL _) (.cells #[.int .i64 0, .int .i64 0, .int .i64 0, .int .i64 0, .pointer none, .pointer none, .int .i64 0, .int .i64 0, .int .i64 0, .int .i64 0, .int .i64 0, .int .i64 0] 74):Below (w.alloc (.cells #[.int .i64 0, .int .i64 0, .int .i64 0, .int .i64 0, .pointer none, .pointer none, .int .i64 0, .int .i64 0, .int .i64 0, .int .i64 0, .int .i64 0, .int .i64 0] 74)).heap.size (w.alloc (.cells #[.int .i64 0, .int .i64 0, .int .i64 0, .int .i64 0, .pointer none, .pointer none, .int .i64 0, .int .i64 0, .int .i64 0, .int .i64 0, .int .i64 0, .int .i64 0] 74)) ((w.alloc (.cells #[.int .i64 0, .int .i64 0, .int .i64 0, .int .i64 0, .pointer none, .pointer none, .int .i64 0, .int .i64 0, .int .i64 0, .int .i64 0, .int .i64 0, .int .i64 0] 74)).alloc (.cells #[.int .i64 0, .int .i64 0, .int .i64 0, .int .i64 0, .pointer none, .pointer none, .int .i64 0, .int .i64 0, .int .i64 0, .int .i64 0, .int .i64 0, .int .i64 0] 74))).block w.heap.size (by simp)]
   exact this)
 have H:=hZ (aK h (aK hh (aK hW hr)));rw[hkb];clear h hh hW hr hA hkb b0 N1 b1;go_in
 go_upto_region 2 with(first|(refine wpList_load_mid rfl 74 _ rfl kb (n*12) rfl A.toList _ R0.out Tryz.underlying74 rfl SL.out ?_;rw[Array.toArray_toList])|(refine wpList_store_mid rfl 74 _ _ rfl (w.heap.size+1) 0 A rfl rfl TH.out SZ.out H1.out ?_))
 obtain⟨rb,hrb⟩:=nJ (w.heap.size);have HR:=hZ hrb;refine bw (fun W=>PB W (w.heap.size+1) (s.A (9+n)) (s.A (29+n)) (s.k.p n)/\PB W w.heap.size 0 0 Pr.no/\Below w.heap.size w W) F0.out ?_;intro W1 hW1;have S1:=hZ hW1;clear hW1 F0 R0 SL SZ TH H1;rw[hrb]at S1|-;clear hrb;have y1:=S1.out.1.cell 1 (by omega);have yf:=S1.out.1.frozen;have y1':W1.cell? ⟨rb+1,1,none⟩=some (.int .i64 (s.k.p n).par):=y1;generalize (s.k.p n).par=pv at y1';clear y1;go_upto_region 3 with fail
 have F1:Hid (PB (W1.setCell ⟨rb+1,1,none⟩ (.int .i64 n)) (rb+1) (s.A (9+n)) (s.A (29+n)) {s.k.p n with par:=(n:Int)}/\PB (W1.setCell ⟨rb+1,1,none⟩ (.int .i64 n)) rb 0 0 Pr.no/\Below rb w (W1.setCell ⟨rb+1,1,none⟩ (.int .i64 n))):=hZ (by
  have fr:af (rb+1) W1 (W1.setCell ⟨rb+1,1,none⟩ (.int .i64 n)):=(af.refl _ _).setCell _ _;refine⟨S1.out.1.Bf _,S1.out.2.1.same (fr.block rb S1.out.2.1.lt (by omega)),fr.below S1.out.2.2 (by omega) (bI S1.out.2.1.lt)⟩)
 refine bw (fun W=>PB W (rb+1) (s.A (9+n)) (s.A (29+n)) {s.k.p n with par:=(n:Int)}/\PB W rb 0 0 Pr.no/\Below rb w W) F1.out ?_;intro W2 hW2;have S2:=hZ hW2;clear hW2 F1 S1 y1' yf;have K2:Hid (ak W2 base s):=hZ (H.out.1.below (by rw[HR.out];exact S2.out.2.2));obtain⟨m9,hm9⟩:=nJ (s.A (9+n));obtain⟨b29,hb29⟩:=nJ (s.A (29+n));have HM:=hZ (aK hm9 hb29);have LT:Hid (∀i,us s i->s.A i<rb):=hZ (fun i hi=>by rw[<-HR.out];exact H.out.1.lt hi);have y4:W2.cell? ⟨rb+1,4,none⟩=some (.pointer (some ⟨m9,0,none⟩)):=by
  rw[S2.out.1.cell 4 (by omega),<-hm9];show some (Kn.ptr _ (s.k.p n).has)=_;rw[H.out.2.1];rfl
 have y5:W2.cell? ⟨rb+1,5,none⟩=some (.pointer (some ⟨b29,0,none⟩)):=by
  rw[S2.out.1.cell 5 (by omega),<-hb29];show some (Kn.ptr _ (s.k.p n).has)=_;rw[H.out.2.1];rfl
 have FK:=hZ (Hr (s.A (9+n)) (s.A 4) (s.A 5) (s.k.p n).mem s.k.bk W2.drew ⟨K2.out.drew.me n hn H.out.2.1,K2.out.drew.bk,K2.out.ne (Kn.gP hn H.out.2.1) (az (by omega)) (by omega),K2.out.ne (Kn.gP hn H.out.2.1) (az (by omega)) (by omega)⟩ (fun i hi=>H.out.2.2.1.le n hn i hi) (fun f hf=>by have:=H.out.2.2.1.refl f hf;omega));have A4:Hid (∀w4,cA w4 W2.drew.heap.size (s.A 4) (s.k.p n).mem->UB w4 (s.A (9+n)) (s.A 4) (s.A 5) (s.k.p n).mem (Mv.dw (s.k.p n).mem s.k.bk 16)->af (s.A 4) W2.drew w4->ak w4 base {s with k:={s.k with bk:=Mv.dw (s.k.p n).mem s.k.bk 16}}/\KF s w {s with k:={s.k with bk:=Mv.dw (s.k.p n).mem s.k.bk 16}} w4/\PB w4 (rb+1) m9 b29 {s.k.p n with par:=(n:Int)}/\PB w4 rb 0 0 Pr.no/\rb+1<W2.heap.size/\W2.heap.size<w4.heap.size):=hZ (fun w4 u1 u2 f=>by
  have q:=K2.out.drew.Pk u2.bk (gZ.left (gZ.refl _ _ _) f);have l4:=LT.out 4 (az (by omega));refine⟨q.1,(KF.below (by rw[HR.out];exact S2.out.2.2)).trans ((KF.drew _ _).trans q.2),?_,S2.out.2.1.same (f.block rb S2.out.2.1.lt (by omega)),S2.out.1.lt,u1.lt⟩;have:=S2.out.1.same (f.block (rb+1) S2.out.1.lt (by omega));rw[hm9,hb29]at this;exact this)
 obtain⟨mb,hmb⟩:=nJ (W2.heap.size);have HMB:=hZ hmb;have hmd:W2.drew.heap.size=mb:=hmb;rw[hmd,hm9]at FK;rw[hmd,hmb,hm9]at A4;have CC:Hid (∀w4,ak w4 base {s with k:={s.k with bk:=Mv.dw (s.k.p n).mem s.k.bk 16}}->Calls Tryz.prog 145 #[.pointer (some ⟨b29,0,none⟩)] w4 fun e w'=>e= .returned (.pointer (some ⟨w4.heap.size,0,none⟩))/\CX w' w4.heap.size (Sg.oO (s.k.p n).box)/\Below w4.heap.size w4 w'/\w4.heap.size<w'.heap.size):=hZ (fun w4 hk=>by rw[<-hb29];exact G4 _ _ _ (hk.bx n hn H.out.2.1));have FIN:Hid (∀w4 w5,cA w4 mb (s.A 4) (s.k.p n).mem->(ak w4 base {s with k:={s.k with bk:=Mv.dw (s.k.p n).mem s.k.bk 16}}/\KF s w {s with k:={s.k with bk:=Mv.dw (s.k.p n).mem s.k.bk 16}} w4/\PB w4 (rb+1) m9 b29 {s.k.p n with par:=(n:Int)}/\PB w4 rb 0 0 Pr.no/\rb+1<mb/\mb<w4.heap.size)->CX w5 w4.heap.size (Sg.oO (s.k.p n).box)->Below w4.heap.size w4 w5->CO base s w n rb (rb+1) mb w4.heap.size {s.k with bk:=Mv.dw (s.k.p n).mem s.k.bk 16} ((w5.setCell ⟨rb+1,4,none⟩ (.pointer (some ⟨mb,0,none⟩))).setCell ⟨rb+1,5,none⟩ (.pointer (some ⟨w4.heap.size,0,none⟩)))):=hZ (fun w4 w5 u1 a cx bl=>by
  obtain⟨a1,a2,a3,a4,a5,a6⟩:=a;have fr:af (rb+1) w5 ((w5.setCell ⟨rb+1,4,none⟩ (.pointer (some ⟨mb,0,none⟩))).setCell ⟨rb+1,5,none⟩ (.pointer (some ⟨w4.heap.size,0,none⟩))):=((af.refl _ _).setCell _ _).setCell _ _;have p5:=(a3.same (bl.block _ a3.lt));have nk: ¬KB ({s with k:={s.k with bk:=Mv.dw (s.k.p n).mem s.k.bk 16}}:St) (rb+1):=fun⟨i,hi,e⟩=>by have:=LT.out i hi;have e2:rb+1=s.A i:=e;omega
  refine⟨(a1.below bl).fresh fr nk,(a2.trans (KF.below bl)).fresh fr (by rw[HR.out];omega),?_,(a4.same (bl.block _ a4.lt)).same (fr.block rb (aD a4.lt bl.size) (by omega)),(u1.below bl).same (fr.block mb (aD a6 bl.size) (by omega)),cx.same (fr.block w4.heap.size cx.lt (by omega)),⟨by rw[HR.out];omega,by rw[HR.out];omega,by rw[HR.out];omega,by rw[HR.out];omega⟩,by omega,by omega,by omega,by omega,by omega,by omega⟩;exact((p5.ON (by exact H.out.2.1) mb).Od (by exact H.out.2.1) w4.heap.size).box _)
 clear hm9 hb29 hmb hmd S2;go_cut [15]from 16 to 24 (fun _ wc=> ∃bb,Hid (CO base s w n rb (rb+1) mb bb {s.k with bk:=Mv.dw (s.k.p n).mem s.k.bk 16} wc))
 case first=>
  go_region_with (first|(go_at_call 144;refine FK.out.mono ?_;rintro e w4 ⟨rfl,u1,u2,f4⟩;have S4:=hZ (aK u1 (A4.out w4 u1 u2 f4));clear u1 u2 f4;have z5:w4.cell? ⟨rb+1,5,none⟩=some (.pointer (some ⟨b29,0,none⟩)):=(by rw[S4.out.2.2.2.1.cell 5 (by omega)];show some (Kn.ptr _ (s.k.p n).has)=_;rw[H.out.2.1];rfl))|(go_at_call 145;refine(CC.out _ S4.out.2.1).mono ?_;rintro e w5 ⟨rfl,cx,bl,l5⟩;have S5:=hZ (aK (FIN.out w4 w5 S4.out.1 S4.out.2 cx bl) (S4.out.2.2.2.1.same (bl.block _ S4.out.2.2.2.1.lt)));clear cx bl l5;have v4:=S5.out.2.cell 4 (by omega);have v5:=S5.out.2.cell 5 (by omega);have vf:=S5.out.2.frozen))
  all_goals
   have F5:Hid (CO base s w n rb (rb+1) mb w4.heap.size {s.k with bk:=Mv.dw (s.k.p n).mem s.k.bk 16} ((w5.setCell ⟨rb+1,4,none⟩ (.pointer (some ⟨mb,0,none⟩))).setCell ⟨rb+1,5,none⟩ (.pointer (some ⟨w4.heap.size,0,none⟩)))):=hZ S5.out.1;generalize (w5.setCell ⟨rb+1,4,none⟩ (.pointer (some ⟨mb,0,none⟩))).setCell ⟨rb+1,5,none⟩ (.pointer (some ⟨w4.heap.size,0,none⟩))=W6 at F5|-
   first|(go_wp2_with fail;go_meet)|go_meet
   case rel=>exact⟨_,F5⟩
 case rest=>
  obtain⟨bb,S3⟩:=hcut;clear FIN CC A4 FK y4 y5 K2;obtain⟨fd,hfd⟩:=nJ ((s.k.p n).fd);have HFD:=hZ hfd;have LD:Hid (∀j,j<(kE fd).size->wc.cell? ⟨rb+1,6+j,none⟩=(kE fd)[j]?):=hZ (fun j hj=>by
   have q:=S3.out.pb.fds j (by show j<(kE (s.k.p n).fd).size;rw[hfd];exact hj);rw[show(Kn.dI s.k n).fd=fd from hfd]at q;exact q)
  have hsz:Hid ((Tryz.prog.info? 72).map (·.size)=some (kE fd).size):=hZ (by rw[oP];kernel_rfl);have L8:Hid (s.A 8<w.heap.size):=hZ (H.out.1.lt (az (by omega)));clear hfd;go_wp2_with (refine jb rfl 72 _ rfl (rb+1) 6 rfl (kE fd) 6 3 LD.out (by kernel_rfl) hsz.out ?_)
  go_loopw [7,26] (fun _ i wr=> ∃(j:Nat),i= .int .i64 j/\j<=6/\Hid (CO base s w n rb (rb+1) mb bb (Kn.iH {s.k with bk:=Mv.dw (s.k.p n).mem s.k.bk 16} fd j) wr)) (fun _ i _=>6-(intOf i).toNat)
  case atStart=>exact⟨0,rfl,by omega,S3⟩
  case round=>
   clear S3 LD;obtain⟨j,rfl,hj6,S⟩:=hrel;by_cases hlt:j<6
   ·have hltI:(j:Int)<6:=by omega
    have hix:=uV fd j hlt wr;have SU:Hid (Kn.iH {s.k with bk:=Mv.dw (s.k.p n).mem s.k.bk 16} fd (j+1)=if fd j= -1 then Kn.iH {s.k with bk:=Mv.dw (s.k.p n).mem s.k.bk 16} fd j else{Kn.iH {s.k with bk:=Mv.dw (s.k.p n).mem s.k.bk 16} fd j with fi:=Fx.iV (Kn.iH {s.k with bk:=Mv.dw (s.k.p n).mem s.k.bk 16} fd j).fi (fd j)}):=hZ rfl;have RL:Hid (∀f,f<24->((Kn.iH {s.k with bk:=Mv.dw (s.k.p n).mem s.k.bk 16} fd j).fi f).refs<2^60):=hZ (fun f hf=>by
     have a:=Kn.Cx {s.k with bk:=Mv.dw (s.k.p n).mem s.k.bk 16} fd f j;have b:=H.out.2.2.2 f hf;have c:((Kn.iH {s.k with bk:=Mv.dw (s.k.p n).mem s.k.bk 16} fd j).fi f).refs<=(s.k.fi f).refs+j:=a;have e1:(2:Nat)^50=1125899906842624:=by decide
     have e2:(2:Nat)^60=1152921504606846976:=by decide
     omega)
    generalize Kn.iH {s.k with bk:=Mv.dw (s.k.p n).mem s.k.bk 16} fd j=kj at*;obtain⟨z,hz⟩:=nJ (fd j);rw[hz]at SU hix;clear hz;by_cases hz1:z= -1
    ·subst hz1;rw[aJ rfl]at SU;go_wp2
     go_roundw
     case rel=>exact⟨j+1,by go_num,by omega,by rw[SU.out];exact S⟩
     case measure=>simp[intOf];omega
    ·rw[aI hz1]at SU;have zB:(z== -1)=false:=by simpa using hz1
     have c8:=S.out.kk.rC;rw[show({s with k:=kj}:St).A 0=kb from HK.out]at c8;have XS:=hZ (vK (s.A 8) (s.A 6) (s.A 7) z kj.fi wr S.out.kk.fi RL.out);have c8':wr.cell? ⟨kb,252,none⟩=some (.pointer (some ⟨s.A 8,0,none⟩)):=c8;clear c8;obtain⟨a8,ha8⟩:=nJ (s.A 8);have HA8:=hZ ha8;rw[ha8]at XS c8';clear ha8;go_wp2_with fail
     refine XS.out.mono ?_;rintro e w5 ⟨rfl,u5,f5⟩;generalize aq (Fx.cE kj.fi z)=ev;have S5:Hid (CO base s w n rb (rb+1) mb bb {kj with fi:=Fx.iV kj.fi z} w5):=hZ (by
      rw[<-HA8.out]at u5 f5;have q:=S.out.kk.Fq u5 f5;exact S.out.step f5 q.1 q.2 L8.out)
     clear u5 f5 c8';go_wp2
     go_roundw
     case rel=>exact⟨j+1,by go_num,by omega,by rw[SU.out];exact S5⟩
     case measure=>simp[intOf];omega
   ·obtain rfl:j=6:=by omega
    obtain⟨B,hB⟩:=nJ (du mb bb (Kn.dI s.k n));have HB:=hZ hB;have RG:Hid (wr.rangeAt (rb+1) 0 B.toList):=hZ (by rw[<-hB];exact S.out.pb.range);have SL:Hid ((Tryz.prog.info? 74).map (·.size)=some B.toList.length):=hZ (by rw[<-hB,aB,dh];kernel_rfl);have SZ:Hid ((Tryz.prog.info? 74).map (·.size)=some B.size):=hZ (by rw[<-hB,dh];kernel_rfl);have TH:Hid (wr.there rb 0 B.size):=hZ (by rw[<-hB,dh];exact S.out.rs.there);have H1:Hid (B.all (·.oneCell')=true):=hZ (by rw[<-hB];exact qg _ _ _);have F6:Hid (PB (wr.setCells rb 0 B.toList) rb mb bb (Kn.dI s.k n)/\ak (wr.setCells rb 0 B.toList) base {s with k:=Kn.cO s.k n}/\KF s w {s with k:=Kn.cO s.k n} (wr.setCells rb 0 B.toList)/\cA (wr.setCells rb 0 B.toList) mb (s.A 4) (s.k.p n).mem/\CX (wr.setCells rb 0 B.toList) bb (Sg.oO (s.k.p n).box)):=hZ (by
     have fr:af rb wr (wr.setCells rb 0 B.toList):=af.setCells _ _ (af.refl _ _);have e:Kn.iH {s.k with bk:=Mv.dw (s.k.p n).mem s.k.bk 16} fd 6=Kn.cO s.k n:=by unfold Kn.cO;rw[HFD.out]
     have q:=S.out;rw[e]at q;refine⟨by rw[<-hB];exact S.out.rs.put _ _ _,q.kk.fresh fr (fun⟨i,hi,e⟩=>?_),q.kf.fresh fr (by have:=q.ge;omega),q.um.same (fr.block _ q.um.lt (by have:=q.ne;omega)),q.ub.same (fr.block _ q.ub.lt (by have:=q.ne;omega))⟩;have a:=q.kf.sub rb ⟨i,hi,e⟩;have g:=q.ge;rcases a with a|a
     ·have:=H.out.1.Qe a;omega
     ·have e2:rb=s.A i:=e;have k0:us s i:=by
       have hi2:=hi;obtain⟨T,eT⟩:=Kn.jf {s.k with bk:=Mv.dw (s.k.p n).mem s.k.bk 16} fd 6;have e3:Kn.cO s.k n={s.k with bk:=Mv.dw (s.k.p n).mem s.k.bk 16,fi:=T}:=by rw[<-eT];unfold Kn.cO;rw[HFD.out]
       rw[e3]at hi2;exact hi2
      have:=H.out.1.lt k0;omega)
    have GE:=hZ (aK S.out.ge S.out.ne);clear hB S;go_wp2_with (first|(refine wpList_load_mid rfl 74 _ rfl (rb+1) 0 rfl B.toList _ RG.out Tryz.underlying74 rfl SL.out ?_;rw[Array.toArray_toList])|(refine wpList_store_mid rfl 74 _ _ rfl rb 0 B rfl rfl TH.out SZ.out H1.out ?_))
    generalize wr.setCells rb 0 B.toList=WF at F6|-;have g0:=F6.out.1.cell 0 (by omega);have g1:=F6.out.1.cell 1 (by omega);have g2:=F6.out.1.cell 2 (by omega);have g3:=F6.out.1.cell 3 (by omega);have g4:=F6.out.1.cell 4 (by omega);have g5:=F6.out.1.cell 5 (by omega);have g6:=F6.out.1.cell 6 (by omega);have g7:=F6.out.1.cell 7 (by omega);have g8:=F6.out.1.cell 8 (by omega);have g9:=F6.out.1.cell 9 (by omega);have g10:=F6.out.1.cell 10 (by omega);have g11:=F6.out.1.cell 11 (by omega)
    (try simp only[Exit.then])
    refine bodyPost_ret (v:= .agg #[Kn.dV mb bb (Kn.dI s.k n) 0,Kn.dV mb bb (Kn.dI s.k n) 1,Kn.dV mb bb (Kn.dI s.k n) 2,Kn.dV mb bb (Kn.dI s.k n) 3,Kn.dV mb bb (Kn.dI s.k n) 4,Kn.dV mb bb (Kn.dI s.k n) 5,Kn.dV mb bb (Kn.dI s.k n) 6,Kn.dV mb bb (Kn.dI s.k n) 7,Kn.dV mb bb (Kn.dI s.k n) 8,Kn.dV mb bb (Kn.dI s.k n) 9,Kn.dV mb bb (Kn.dI s.k n) 10,Kn.dV mb bb (Kn.dI s.k n) 11]) (by simp[results,Tryz.f69,go_sem,g0,g1,g2,g3,g4,g5,g6,g7,g8,g9,g10,g11]) rfl ?_;exact⟨mb,bb,rfl,F6.out.2.1,F6.out.2.2.1,F6.out.2.2.2.1,F6.out.2.2.2.2,GE.out.1.2.2.1,GE.out.1.2.2.2,GE.out.2.1⟩

import Derived.Test.YtpmmdkcfenjiaaaGreatDoorUba
set_option maxRecDepth 100000
set_option maxHeartbeats 2000000
set_option linter.unusedVariables false
set_option linter.unusedSimpArgs false
namespace Go.Proofs.YtpmmdkcfenjiaaaGreatDoor
open Value renaming int->aa,pointer->ai,slice->aj,string->ak,tuple->ao,iface->aq,bool->ar,agg->au,nilIface->ay
open IntKind renaming i64->az
open Ending renaming returned->bf
open Obj renaming cells->bg
open Option renaming some->bh,none->bj
open Tryz (prog)
open Go.RowKit
open Fx (Fi)
open Tr (Fo Nd)
open Pp (Pi)
open Mo (Wh Mt)
open Mv (Me Bk)
open Kn (Pr Kp St us KB KJ VI EI KH)
def Kn.jt(k:Kp)(T:Nat->Fi)(F:Fo)(S:Nat->Pi):Kp:={k with fi:=T,fo:=F,pi:=S}
def Kn.Ab(k:Kp)(z f:Int):Int:=(k.p z.toNat).fd f.toNat
theorem Kn.vd(k:Kp)(n g:Nat):Kn.Ab k (n:Int) (g:Int)=(k.p n).fd g:=by unfold Kn.Ab;rw[hZ,hZ]
def Kn.AS(k:Kp)(z f m:Int):Int:=if Kn.eX k z f=0 then Fx.dU k.fi k.fo k.pi (Kn.Ab k z f) m else Kn.eX k z f
def Kn.AU(k:Kp)(z f m:Int):bU:=if Kn.eX k z f=0 then Fx.sM k.fi k.fo k.pi (Kn.Ab k z f) m else⟨#[]⟩
def Kn.pf(k:Kp)(z f m:Int):Kp:=if Kn.eX k z f=0 then Kn.jt k (Fx.im k.fi k.fo (Kn.Ab k z f) m) k.fo (Fx.p8 k.fi k.pi (Kn.Ab k z f) m)else k
section
variable (UE:Nat)(s:St)(w:bD)
theorem GV(z f m:Int)(h:bH w UE s)(hz:Tr.tg s.k.fo)(hp:Fx.Pz s.k.fi):
  Calls prog 124 #[ai (bh ⟨s.A 0,0,bj⟩),aa az z,aa az f,aa az m] w λe w'=>e=bf (ao #[ak (Kn.AU s.k z f m),bG (Kn.AS s.k z f m)])/\bH w' UE {s with k:=Kn.pf s.k z f m}/\KF s w {s with k:=Kn.pf s.k z f m} w':=by
 have NB:=hJ (oB UE s w z f h);have H:=hJ (aK h (aK hz hp));by_cases a:Kn.eX s.k z f=0
 .obtain⟨n,g,rfl,rfl,hn,hg,hl,hf⟩:=Kn.rF a;have E:Hid (Kn.AS s.k (n:Int) (g:Int) m=Fx.dU s.k.fi s.k.fo s.k.pi ((s.k.p n).fd g) m/\Kn.AU s.k (n:Int) (g:Int) m=Fx.sM s.k.fi s.k.fo s.k.pi ((s.k.p n).fd g) m/\Kn.pf s.k (n:Int) (g:Int) m=Kn.jt s.k (Fx.im s.k.fi s.k.fo ((s.k.p n).fd g) m) s.k.fo (Fx.p8 s.k.fi s.k.pi ((s.k.p n).fd g) m)):=hJ ⟨by unfold Kn.AS;rw[aJ a,Kn.vd],by unfold Kn.AU;rw[aJ a,Kn.vd],by unfold Kn.pf;rw[aJ a,Kn.vd]⟩;rw[a,bB,py]at NB;rw[E.1,E.2.1,E.2.2];have XR:=hJ (KQ (s.A 8) (s.A 6) (s.A 7) ((s.k.p n).fd g) m s.k.fi s.k.fo s.k.pi w.drew h.drew.fx hz hp);have K0:Hid (w.cell? ⟨s.A 0,252,bj⟩=bh (ai (bh ⟨s.A 8,0,bj⟩))/\w.cell? ⟨s.A 0,n*12+6+g,bj⟩=bh (aa az ((s.k.p n).fd g))):=hJ ⟨h.sY,h.pE n g hn hg⟩;obtain⟨v,hv⟩:=hU ((s.k.p n).fd g);obtain⟨kb,hkb⟩:=hU (s.A 0);obtain⟨a8,ha8⟩:=hU (s.A 8);have HK:=hJ (aK hkb (aK ha8 hv));rw[hv]at XR K0|-;rw[hkb]at NB K0|-;rw[ha8]at XR K0;go_in
  go_wp2_with fail
  refine sC NB.v ?_;rintro w1 hw;subst w1;go_upto_region 4 with fail
  obtain⟨y1,y2⟩:=K0.v;go_region_held3 (λw'=>w'.cell? ⟨kb,252,bj⟩=bh (ai (bh ⟨a8,0,bj⟩))/\w'.cell? ⟨kb,n*12+6+g,bj⟩=bh (aa az v)) (first|exact K0.v|exact K4.v) (
   (go_at_call 202;refine sC XR.v ?_;rintro w4 ⟨t4,f4⟩;have S4:Hid (bH w4 UE {s with k:=Kn.jt s.k (Fx.im s.k.fi s.k.fo v m) s.k.fo (Fx.p8 s.k.fi s.k.pi v m)}/\KF s w {s with k:=Kn.jt s.k (Fx.im s.k.fi s.k.fo v m) s.k.fo (Fx.p8 s.k.fi s.k.pi v m)} w4):=hJ (by
    rw[<-HK.2.1]at t4 f4;have q:=H.1.drew.vm t4 f4;exact⟨q.1,(KF.drew _ _).trans q.2⟩);have K4:Hid (w4.cell? ⟨kb,252,bj⟩=bh (ai (bh ⟨a8,0,bj⟩))/\w4.cell? ⟨kb,n*12+6+g,bj⟩=bh (aa az v)):=hJ (by
    obtain⟨e1,e2,e3⟩:=HK.v;have q1:=S4.1.sY;have q2:=S4.1.pE n g hn hg;rw[<-e1,<-e2,<-e3];exact⟨q1,q2⟩)))
  go_wp2
  go_ret2
  exact⟨rfl,S4.v⟩
 .have E:Hid (Kn.AS s.k z f m=Kn.eX s.k z f/\Kn.AU s.k z f m=⟨#[]⟩/\Kn.pf s.k z f m=s.k):=hJ ⟨aI a,aI a,aI a⟩;rw[bC a]at NB;rw[E.1,E.2.1,E.2.2,bC a];generalize sH (s.A 0) z f (Kn.eX s.k z f)=ap at*;generalize Kn.eX s.k z f=ae at*;generalize s.A 0=kb at*;go_in
  go_wp2_with fail
  refine sC NB.v ?_;rintro w1 hw;subst w1;go_wp2
  go_ret2
  exact⟨rfl,H.1,KF.refl _ _⟩
end
theorem Lw(w:bD):Sem.run prog (binOp BinOp.eql 34 (aq 100 (aa .i64 12)) (aq 100 (aa .i64 12))) w= .ok (ar true) w:=by kernel_rfl
theorem Lv(w:bD):Sem.run prog (binOp BinOp.eql 34 ay (aq 100 (aa .i64 12))) w= .ok (ar false) w:=by kernel_rfl
theorem Lu(w:bD)(E:Int):Sem.run prog (binOp BinOp.eql 34 (aq 100 (aa az E)) (aq 100 (aa .i64 12))) w= .ok (ar (E==12)) w:=by kernel_rfl
section
variable (UE N:Nat)(d:Nat->Nat)(s:St)(w:bD)
theorem Jn(hN:N<=900)(n:Nat)(c:Int)(h:bH w UE s)(hn:n<20)(hl:Kn.lv s.k n=true)(hi:Kn.KI N d s.k):
  Calls prog 151 #[ai (bh ⟨s.A 0,0,bj⟩),aa az n,aa az c] w λe w'=>∃(y q:Nat) (k':Kp),e=bf (ao #[])/\Kn.qq (Kn.iN s.k n c) n y q k'/\(s.k.sp.of n=y+1/\(n≠0->q<20/\q≠n/\(s.k.p n).par=(q:Int)))/\bH w' UE {s with k:=k'}/\KF s w {s with k:=k'} w':=by
 have hnI:(n:Int)<20:=bu
 have hh:=hi.has hn hl;have c5:=h.sd n hn hh;have SE:=hJ (wD (s.A (29+n)) c (s.k.p n).box w (h.bx n hn hh));have H:=hJ (aK h (aK hh (aK hi (aK hl hN))));obtain⟨kb,hkb⟩:=hU (s.A 0);have HK:=hJ hkb;obtain⟨bb,hbb⟩:=hU (s.A (29+n));have HB:=hJ hbb;rw[hkb]at c5|-;rw[hbb]at c5 SE;go_in
 go_wp2_with fail
 refine sC SE.v ?_;rintro w1 ⟨u1,f1⟩;generalize bG (Sg.cD c)=ev;have S1:Hid (bH w1 UE {s with k:=Kn.iN s.k n c}/\KF s w {s with k:=Kn.iN s.k n c} w1):=hJ (by
  rw[<-HB.v]at u1 f1;exact H.1.vl hn H.2.1 u1 f1)
 obtain⟨y,q,li⟩:=H.2.2.1.li hn H.2.2.2.1 (Sg.lH (s.k.p n).box c);have LK:=hJ (sD UE N d {s with k:=Kn.iN s.k n c} w1 H.2.2.2.2 n y q (λ_=>H.2.2.1.h0) S1.1 li);rw[show({s with k:=Kn.iN s.k n c}:St).A 0=kb from HK.v]at LK;have HY:Hid (s.k.sp.of n=y+1/\(n≠0->q<20/\q≠n/\(s.k.p n).par=(q:Int))):=hJ ⟨li.ho,λn0=>by
  have a:=li.pr n0;have e:((Kn.dh s.k n (Sg.lH (s.k.p n).box c)).p n).par=(s.k.p n).par:=by unfold Kn.dh;rw[Kn.bF]
  rw[e]at a;exact a⟩
 go_wp2_with fail
 refine LK.mono ?_;rintro e w2 ⟨k',rfl,et,ka,kf⟩;have S2:Hid (Kn.qq (Kn.iN s.k n c) n y q k'/\(s.k.sp.of n=y+1/\(n≠0->q<20/\q≠n/\(s.k.p n).par=(q:Int)))/\bH w2 UE {s with k:=k'}/\KF s w {s with k:=k'} w2):=hJ ⟨et,HY.v,ka,S1.2.trans kf⟩;go_wp2_with fail
 go_end0
 exact⟨y,q,k',rfl,S2.v⟩
def Kn.sW(k:Kp)(v:Int)(t:bU):Kp:=Kn.jt k (Fx.qk k.fi k.fo v t) (Fx.eA k.fi k.fo v t) (Fx.wW k.fi k.pi v t)
def Kn.uV(k:Kp)(z f:Int)(t:bU)(K:Nat)(E:Int)(k':Kp):Prop:=
 (Kn.eX k z f≠0/\K=0/\E=Kn.eX k z f/\k'=k)
 \/(Kn.eX k z f=0/\∃n g:Nat,z=n/\f=g/\n<20/\g<6/\Kn.lv k n=true/\K=Fx.iu k.fi k.fo k.pi ((k.p n).fd g) t/\E=Fx.dE k.fi k.fo k.pi ((k.p n).fd g) t
  /\((E≠12/\k'=Kn.sW k ((k.p n).fd g) t)\/(E=12/\∃y q,Kn.qq (Kn.iN (Kn.sW k ((k.p n).fd g) t) n 2) n y q k'/\k.sp.of n=y+1/\(n≠0->q<20/\q≠n/\(k.p n).par=(q:Int)))))
theorem DL(hN:N<=900)(z f:Int)(t:bU)(h:bH w UE s)(ht:t.size<2^59)(hp:Fx.Pz s.k.fi)(hi:Kn.eX s.k z f=0->Kn.KI N d (Kn.sW s.k (Kn.Ab s.k z f) t)):
  Calls prog 125 #[ai (bh ⟨s.A 0,0,bj⟩),aa az z,aa az f,ak t] w λe w'=>∃(K:Nat) (E:Int) (k':Kp),e=bf (ao #[aa az (K:Int),bG E])/\Kn.uV s.k z f t K E k'/\bH w' UE {s with k:=k'}/\KF s w {s with k:=k'} w':=by
 have NB:=hJ (oB UE s w z f h);by_cases a:Kn.eX s.k z f=0
 .obtain⟨n,g,rfl,rfl,hn,hg,hl,hf⟩:=Kn.rF a;have hiA:=hi a;rw[Kn.vd]at hiA;have H:=hJ (aK h (aK hiA (aK hN (aK a hl))));rw[a,bB,py]at NB;have XR:=hJ (Ii (s.A 8) (s.A 6) (s.A 7) ((s.k.p n).fd g) t s.k.fi s.k.fo s.k.pi w.drew h.drew.fx ht hp);have K0:Hid (w.cell? ⟨s.A 0,252,bj⟩=bh (ai (bh ⟨s.A 8,0,bj⟩))/\w.cell? ⟨s.A 0,n*12+6+g,bj⟩=bh (aa az ((s.k.p n).fd g))):=hJ ⟨h.sY,h.pE n g hn hg⟩;obtain⟨v,hv⟩:=hU ((s.k.p n).fd g);obtain⟨kb,hkb⟩:=hU (s.A 0);obtain⟨a8,ha8⟩:=hU (s.A 8);have HK:=hJ (aK hkb (aK ha8 hv));rw[hv]at XR K0;rw[hkb]at NB K0|-;rw[ha8]at XR K0;obtain⟨E,hE⟩:=hU (Fx.dE s.k.fi s.k.fo s.k.pi v t);obtain⟨K,hKK⟩:=hU (Fx.iu s.k.fi s.k.fo s.k.pi v t);have HE:=hJ (aK hE hKK);rw[hE,hKK]at XR;go_in
  go_wp2_with fail
  refine sC NB.v ?_;rintro w1 hw;subst w1;go_upto_region 4 with fail
  obtain⟨y1,y2⟩:=K0.v;go_region_held3 (λw'=>w'.cell? ⟨kb,252,bj⟩=bh (ai (bh ⟨a8,0,bj⟩))/\w'.cell? ⟨kb,n*12+6+g,bj⟩=bh (aa az v)) (first|exact K0.v|exact K4.v) (
   (go_at_call 203;refine sC XR.v ?_;rintro w4 ⟨t4,f4⟩;have S4:Hid (bH w4 UE {s with k:=Kn.sW s.k v t}/\KF s w {s with k:=Kn.sW s.k v t} w4):=hJ (by
     rw[<-HK.2.1]at t4 f4;have q:=H.1.drew.vm t4 f4;exact⟨q.1,(KF.drew _ _).trans q.2⟩);have K4:Hid (w4.cell? ⟨kb,252,bj⟩=bh (ai (bh ⟨a8,0,bj⟩))/\w4.cell? ⟨kb,n*12+6+g,bj⟩=bh (aa az v)):=hJ (by
     obtain⟨e1,e2,e3⟩:=HK.v;have q1:=S4.1.sY;have q2:=S4.1.pE n g hn hg;rw[<-e1,<-e2,<-e3];exact⟨q1,q2⟩)))
  by_cases e12:E=12
  .have E12:=hJ e12;have SD:=hJ (Jn UE N d {s with k:=Kn.sW s.k v t} w4 H.2.2.1 n 2 S4.1 hn H.2.2.2.2 (by rw[<-HK.2.2];exact H.2.1));rw[show({s with k:=Kn.sW s.k v t}:St).A 0=kb from HK.1]at SD;rw[e12,bC bA];go_wp2_with fail
   rw[Lw];go_wp2_with fail
   refine SD.mono ?_;rintro e w5 ⟨y,q,k',rfl,lt,yq,ka,kf⟩;have S5:Hid (Kn.uV s.k (n:Int) (g:Int) t K 12 k'/\bH w5 UE {s with k:=k'}/\KF s w {s with k:=k'} w5):=hJ ⟨.inr ⟨H.2.2.2.1,n,g,rfl,rfl,hn,hg,H.2.2.2.2,by rw[HK.2.2];exact HE.2.symm,by rw[HK.2.2];exact(HE.1.trans E12.v).symm, .inr ⟨rfl,y,q,by rw[HK.2.2];exact lt,yq⟩⟩,ka,S4.2.trans kf⟩;go_wp2
   go_ret2
   exact⟨K,12,k',by rw[bC bA];rfl,S5.v⟩
  .have FIN:Hid (Kn.uV s.k (n:Int) (g:Int) t K E (Kn.sW s.k v t)):=hJ (.inr ⟨H.2.2.2.1,n,g,rfl,rfl,hn,hg,H.2.2.2.2,by rw[HK.2.2];exact HE.2.symm,by rw[HK.2.2];exact HE.1.symm, .inl ⟨e12,by rw[HK.2.2]⟩⟩);by_cases e0:E=0
   .rw[e0,bB];have E0:=hJ e0;go_wp2_with fail
    rw[Lv];go_wp2
    go_ret2
    exact⟨K,E,_,by rw[E0.v,bB];rfl,FIN.v,S4.v⟩
   .have EV:=hJ (bC e0);have eB:(E==12)=false:=by simpa using e12
    rw[bC e0];go_wp2_with fail
    rw[Lu,eB];go_wp2
    go_ret2
    exact⟨K,E,_,by rw[EV.v];rfl,FIN.v,S4.v⟩
 .have FIN:Hid (Kn.uV s.k z f t 0 (Kn.eX s.k z f) s.k):=hJ (.inl ⟨a,rfl,rfl,rfl⟩);have HE:=hJ (bC a);have H:=hJ h;rw[bC a]at NB;generalize sH (s.A 0) z f (Kn.eX s.k z f)=ap at*;generalize s.A 0=kb at*;go_in
  go_wp2_with fail
  refine sC NB.v ?_;rintro w1 hw;subst w1;go_wp2
  go_ret2
  exact⟨0,Kn.eX s.k z f,s.k,by rw[HE.v];rfl,FIN.v,H.v,KF.refl _ _⟩
end
def Kn.gJ(k:Kp)(n j:Nat):List Nat:=(List.range j).filter (λf=>decide ((k.p n).fd f= -1))
theorem Kn.Pb{k:Kp}{n j:Nat}(h:(k.p n).fd j= -1):Kn.gJ k n (j+1)=Kn.gJ k n j++[j]:=by
 unfold Kn.gJ;rw[List.range_succ,List.filter_append];simp[h]
theorem Kn.QU{k:Kp}{n j:Nat}(h:¬(k.p n).fd j= -1):Kn.gJ k n (j+1)=Kn.gJ k n j:=by
 unfold Kn.gJ;rw[List.range_succ,List.filter_append];simp[h]
theorem Kn.Ev(k:Kp)(n j:Nat):(Kn.gJ k n j).length<=j:=by
 unfold Kn.gJ;refine aH (bW _ _) ?_;rw[List.length_range];exact aL _
theorem Kn.y8{k:Kp}{n f:Nat}(h:f∈Kn.gJ k n 6):f<6/\(k.p n).fd f= -1:=by
 unfold Kn.gJ at h;have a:=bX.1 h;exact⟨List.mem_range.1 a.1,by simpa using a.2⟩
theorem Kn.O9{k:Kp}{n:Nat}(h:2<=(Kn.gJ k n 6).length):∃f g,(Kn.gJ k n 6).getD 0 0=f/\(Kn.gJ k n 6).getD 1 0=g/\f<6/\g<6/\f≠g:=by
 have nd:(Kn.gJ k n 6).Nodup:=List.Pairwise.filter _ (List.nodup_range);refine⟨_,_,rfl,rfl,?_⟩
 match hL:Kn.gJ k n 6,h,nd with
 |[],h,_=>simp at h
 |[x],h,_=>simp at h
 |x::y::L,_,nd=>
  have hx:=Kn.y8 (k:=k) (n:=n) (f:=x) (by rw[hL];simp);have hy:=Kn.y8 (k:=k) (n:=n) (f:=y) (by rw[hL];simp);refine⟨hx.1,hy.1,?_⟩;have:=List.nodup_cons.1 nd;intro e;have e':x=y:=e;exact this.1 (by rw[e'];simp)
section
variable (UE N:Nat)(d:Nat->Nat)(s:St)(w:bD)
theorem sE(n:Nat)(h:bH w UE s)(hn:n<20):
  Calls prog 196 #[ai (bh ⟨s.A 0,n*12,bj⟩)] w λe w'=>∃v,e=bf v/\LO w (Kn.gJ s.k n 6) v w':=by
 obtain⟨i0,hi,hz0,hz1,hz2⟩:=info_parts xM;obtain⟨fd,hfd⟩:=hU ((s.k.p n).fd);obtain⟨kb,hkb⟩:=hU (s.A 0);have LD:Hid (∀j,j<(ly fd).size->w.cell? ⟨kb,n*12+6+j,bj⟩=(ly fd)[j]?):=hJ (λj hj=>by
  have q:=h.fds hn j (by rw[hfd];exact hj);rw[hfd]at q;rw[<-hkb];exact q)
 have hsz:Hid ((prog.info? 72).map (·.size)=bh (ly fd).size):=hJ (by rw[pK];kernel_rfl);have HFD:=hJ hfd;rw[hkb];go_in
 go_wp2_with (refine iX rfl 72 _ rfl kb (n*12+6) rfl (ly fd) 6 3 LD.v bw hsz.v ?_)
 go_loopw [3,4,5,10] (λl _ _ i wr=>∃(k:Nat),i=aa az k/\k<=6/\Hid (LO w (Kn.gJ s.k n k) l wr)) (λ_ _ _ i _=>6-(intOf i).toNat)
 case atStart=>exact⟨0,rfl,bu,LO.nil w⟩
 case round=>
  obtain⟨k,rfl,hk,R⟩:=hrel;by_cases hlt:k<6
  .have hltI:(k:Int)<6:=bu
   have hix:=wg fd k hlt wr;obtain⟨z,hz⟩:=hU (fd k);have HZ:=hJ hz;rw[hz]at hix;by_cases hz1:z= -1
   .have HM:=hJ (Kn.Pb (k:=s.k) (n:=n) (j:=k) (by rw[HFD.v,HZ.v,hz1]));subst hz1;obtain⟨a,cap,hv⟩:=fG R.own;rw[hv];have HV:=hJ hv;have hlm:=Kn.Ev s.k n k;generalize hN:(Kn.gJ s.k n k).length=M at*;have HN:=hJ hN;go_wp2_with (at_builtin;refine wpList_append_lies _ rfl _ _ 46 (by rfl) w.heap.size 3 i0 (aa .i64 0) 1 8 Tryz.underlying46 hi hz0 hz1 hz2 rfl bA (aj a M cap) M (rowOf (Kn.gJ s.k n k)) (by rfl) (by rw[<-HV.v,<-HN.v];exact R.own.alloc _) ⟨wr.heap.size,0,bj⟩ 1 1 [aa az k] (by rfl) rfl (cell_one_new _ _ _) (by simp[Value.oneCell']) bA (by unfold maxLen;omega) bu (by have:=R.cM.size;simp;omega) (wr.heap.size+1) (by simp) ?_;intro gg cap2 w1 hown hgrow hat hlt2;have Q1:Hid (LO w (Kn.gJ s.k n k++[k]) (aj (bh ⟨gg,0,bj⟩) (M+1) cap2) w1):=R.more HN.v hown _ (by rw[HV.v];exact hgrow))
    go_roundw
    case rel=>exact⟨k+1,by go_num,bu,by rw[HM.v];exact Q1⟩
    case measure=>simp[intOf];omega
   .have HM:=hJ (Kn.QU (k:=s.k) (n:=n) (j:=k) (by rw[HFD.v,HZ.v];exact hz1));have z1:(z== -1)=false:=by simpa using hz1
    go_wp2
    go_roundw
    case rel=>exact⟨k+1,by go_num,bu,by rw[HM.v];exact R⟩
    case measure=>simp[intOf];omega
  .obtain rfl:k=6:=bu
   go_wp2
   go_ret
   exact⟨_,rfl,R.v⟩
end
def Kn.uT(k:Kp)(z:Int)(A C:Nat)(E:Int)(k':Kp):Prop:=
 (Kn.bT k z≠0/\A=0/\C=0/\E=Kn.bT k z/\k'=k)
 \/(Kn.bT k z=0/\∃n:Nat,z=n/\n<20/\((¬2<=(Kn.gJ k n 6).length/\A=0/\C=0/\E=4/\k'=k)
  \/(2<=(Kn.gJ k n 6).length/\∃(a c:Nat) (T:Nat->Fi) (S:Nat->Pi),Fx.uU k.fi k.pi a c E T S/\((E≠0/\A=0/\C=0/\k'=Kn.jt k T k.fo S)\/(E=0/\A=(Kn.gJ k n 6).getD 0 0/\C=(Kn.gJ k n 6).getD 1 0/\k'=Kn.fH (Kn.fH (Kn.jt k T k.fo S) n A (a:Int)) n C (c:Int))))))
section
variable (UE N:Nat)(d:Nat->Nat)(s:St)(w:bD)
theorem GU(z:Int)(h:bH w UE s):
  Calls prog 123 #[ai (bh ⟨s.A 0,0,bj⟩),aa az z] w λe w'=>∃(A C:Nat) (E:Int) (k':Kp),e=bf (ao #[aa az (A:Int),aa az (C:Int),bG E])/\Kn.uT s.k z A C E k'/\bH w' UE {s with k:=k'}/\KF s w {s with k:=k'} w':=by
 have AC:=hJ (dv UE s w z h);have H:=hJ h;by_cases a:Kn.bT s.k z=0
 .obtain⟨n,rfl,hn,hl⟩:=Kn.fq a;have HA:=hJ a;rw[a,bB,gS]at AC;have FR1:=hJ (sE UE s w n h hn);obtain⟨kb,hkb⟩:=hU (s.A 0);obtain⟨a8,ha8⟩:=hU (s.A 8);have HK:=hJ (aK hkb ha8);rw[hkb]at AC FR1|-;clear h a hl hkb ha8;go_in
  go_wp2_with fail
  refine sC AC.v ?_;rintro w1 hw;subst w1;go_wp2_with fail
  refine FR1.mono ?_;rintro e w1 ⟨v,rfl,lo⟩;have K1:Hid (bH w1 UE s/\KF s w s w1):=hJ ⟨H.below lo.cM,KF.below lo.cM⟩;by_cases l2:2<=(Kn.gJ s.k n 6).length
  .obtain⟨gg,cap,hv,hgg,hc⟩:=lo.cells bu;obtain⟨f,g,hf,hg,f6,g6,fg⟩:=Kn.O9 l2;have y0:=hc 0 bu;have y1:=hc 1 bu;rw[hf]at y0;rw[hg]at y1;have fI:(f:Int)<6:=bu
   have gI:(g:Int)<6:=bu
   have GB:Hid (∀i,us s i->gg≠s.A i):=hJ (λi hi e=>by
    have:=H.lt hi;have q:=lo.own;rw[hv]at q;have q2:=q.lt gg rfl;omega)
   have L3:=hJ (aK hf hg);have L2:Hid (2<=(Kn.gJ s.k n 6).length/\(Kn.gJ s.k n 6).getD 0 0=f/\(Kn.gJ s.k n 6).getD 1 0=g):=hJ ⟨l2,hf,hg⟩;rw[hv];have hlm:=Kn.Ev s.k n 6;generalize (Kn.gJ s.k n 6).length=M at l2 hlm y0 y1|-;have lI:((M:Int)<2)=False:=by simp;omega
   have M0:(0:Int)<(M:Int):=bu
   have M1:(1:Int)<(M:Int):=bu
   clear hv hc lo hf hg;have c8:=K1.1.sY;rw[HK.1,HK.2]at c8;have XP:=hJ (KO (s.A 8) (s.A 6) (s.A 7) s.k.fi s.k.fo s.k.pi w1 K1.1.fx);rw[HK.2]at XP;go_wp2_with fail
   refine XP.mono ?_;rintro e w2 ⟨a,c,E,T,S,rfl,pt,u2,f2⟩;have S2:Hid (bH w2 UE {s with k:=Kn.jt s.k T s.k.fo S}/\KF s w {s with k:=Kn.jt s.k T s.k.fo S} w2):=hJ (by
    rw[<-HK.2]at u2 f2;have q:=K1.1.vm u2 f2;exact⟨q.1,K1.2.trans q.2⟩)
   have PT:=hJ pt;have G2:Hid (gg<w2.heap.size):=hJ (aD hgg f2.size);have YY:Hid (w2.cell? ⟨gg,0,bj⟩=bh (aa az (f:Int))/\w2.cell? ⟨gg,1,bj⟩=bh (aa az (g:Int))):=hJ (by
    have e:=f2.block gg hgg (by rw[<-HK.2];exact GB.v 8 bS) (GB.v 6 bS) (GB.v 7 bS);exact⟨(aV e).trans y0,(aV e).trans y1⟩)
   clear u2 f2 c8 pt;by_cases e0:E=0
   .have E0:=hJ e0;rw[e0,bB];clear e0;go_upto_region 10 with fail
    obtain⟨x0,x1⟩:=YY.v;have gk:gg≠kb:=by rw[<-HK.1];exact GB.v 0 bS
    obtain⟨W3,hW3⟩:=hU (w2.setCell ⟨kb,n*12+6+f,bj⟩ (aa az (a:Int)));obtain⟨W4,hW4⟩:=hU (W3.setCell ⟨kb,n*12+6+g,bj⟩ (aa az (c:Int)));have S3:Hid (bH W3 UE {s with k:=Kn.fH (Kn.jt s.k T s.k.fo S) n f (a:Int)}/\KF s w {s with k:=Kn.fH (Kn.jt s.k T s.k.fo S) n f (a:Int)} W3):=hJ (by
     have q:=S2.1.qJ hn f6 (a:Int);rw[show({s with k:=Kn.jt s.k T s.k.fo S}:St).A 0=kb from HK.1,hW3]at q;exact⟨q.1,S2.2.trans q.2⟩)
    have S4:Hid (bH W4.drew UE {s with k:=Kn.fH (Kn.fH (Kn.jt s.k T s.k.fo S) n f (a:Int)) n g (c:Int)}/\KF s w {s with k:=Kn.fH (Kn.fH (Kn.jt s.k T s.k.fo S) n f (a:Int)) n g (c:Int)} W4.drew):=hJ (by
     have q:=S3.1.qJ hn g6 (c:Int);rw[show({s with k:=Kn.fH (Kn.jt s.k T s.k.fo S) n f (a:Int)}:St).A 0=kb from HK.1,hW4]at q;exact⟨q.1.drew,S3.2.trans (q.2.trans (KF.drew _ _))⟩)
    have b3:W3.heap[gg]? =w2.heap[gg]? :=by
     rw[<-hW3];have ff:bE kb w2 (w2.setCell ⟨kb,n*12+6+f,bj⟩ (aa az (a:Int))):=(bE.refl _ _).setCell _ _;exact ff.block gg G2.v gk
    have b4:W4.heap[gg]? =W3.heap[gg]? :=by
     rw[<-hW4];have ff:bE kb W3 (W3.setCell ⟨kb,n*12+6+g,bj⟩ (aa az (c:Int))):=(bE.refl _ _).setCell _ _;exact ff.block gg (by rw[<-hW3];simp;exact G2.v) gk
    have Y3:Hid (W3.drew.cell? ⟨gg,0,bj⟩=bh (aa az (f:Int))/\W3.drew.cell? ⟨gg,1,bj⟩=bh (aa az (g:Int))):=hJ ⟨(aV b3).trans x0,(aV b3).trans x1⟩;have Y4:Hid (W4.drew.cell? ⟨gg,0,bj⟩=bh (aa az (f:Int))/\W4.drew.cell? ⟨gg,1,bj⟩=bh (aa az (g:Int))):=hJ ⟨(aV (b4.trans b3)).trans x0,(aV (b4.trans b3)).trans x1⟩;rw[<-hW4,<-hW3]at S4 Y4;rw[<-hW3]at Y3;have cf:=S2.1.pE n f hn f6;have cg:=S2.1.pE n g hn g6;have fz:=S2.1.frozen;rw[show({s with k:=Kn.jt s.k T s.k.fo S}:St).A 0=kb from HK.1]at cf cg fz;generalize (({s with k:=Kn.jt s.k T s.k.fo S}:St).k.p n).fd f=vf at cf;generalize (({s with k:=Kn.jt s.k T s.k.fo S}:St).k.p n).fd g=vg at cg;have m0:0<M:=bu
    have m1:1<M:=bu
    have m00:¬M=0:=bu
    have m11:¬M<=1:=bu
    have m12:¬(M:Int)<=1:=bu
    clear hW3 hW4 b3 b4 S3;go_region_held3 (λw'=>w'.cell? ⟨gg,0,bj⟩=bh (aa az (f:Int))/\w'.cell? ⟨gg,1,bj⟩=bh (aa az (g:Int))) (first|exact YY.v|exact Y3.v|exact Y4.v|go_keep) (fail)
    generalize ((w2.setCell ⟨kb,n*12+6+f,bj⟩ (aa az (a:Int))).setCell ⟨kb,n*12+6+g,bj⟩ (aa az (c:Int))).drew=W5 at*;clear cf cg fz x0 x1 Y3 YY S2;go_upto_region 11 with fail
    obtain⟨x0,x1⟩:=Y4.v;have Y5:Hid (W5.drew.cell? ⟨gg,0,bj⟩=bh (aa az (f:Int))/\W5.drew.cell? ⟨gg,1,bj⟩=bh (aa az (g:Int))):=hJ ⟨x0,x1⟩;go_region_held3 (λw'=>w'.cell? ⟨gg,0,bj⟩=bh (aa az (f:Int))/\w'.cell? ⟨gg,1,bj⟩=bh (aa az (g:Int))) (first|exact Y4.v|exact Y5.v|go_keep) (fail)
    go_wp2
    go_ret3
    exact⟨f,g,0,by rw[bB];rfl,Kn.fH (Kn.fH (Kn.jt s.k T s.k.fo S) n f (a:Int)) n g (c:Int), .inr ⟨HA.v,n,rfl,hn, .inr ⟨L2.1,a,c,T,S,by rw[<-E0.v];exact PT.v, .inr ⟨rfl,L2.2.1.symm,L2.2.2.symm,rfl⟩⟩⟩,S4.1.drew,S4.2.trans (KF.drew _ _)⟩
   .have HE:=hJ (bC e0);have FIN:Hid (Kn.uT s.k (n:Int) 0 0 E (Kn.jt s.k T s.k.fo S)):=hJ (.inr ⟨HA.v,n,rfl,hn, .inr ⟨L2.1,a,c,T,S,PT.v, .inl ⟨e0,rfl,rfl,rfl⟩⟩⟩);rw[bC e0];clear e0;go_wp2
    go_ret3
    exact⟨0,0,E,_,by rw[HE.v];rfl,FIN.v,S2.v⟩
  .have FIN:Hid (Kn.uT s.k (n:Int) 0 0 4 s.k):=hJ (.inr ⟨HA.v,n,rfl,hn, .inl ⟨l2,rfl,rfl,rfl,rfl⟩⟩);obtain⟨a,cap,hv⟩:=fG lo.own;rw[hv];generalize (Kn.gJ s.k n 6).length=M at*;have lI:((M:Int)<2):=bu
   clear hv lo l2;go_wp2
   go_ret3
   exact⟨0,0,4,s.k,by rw[bC bA];rfl,FIN.v,K1.v⟩
 .have FIN:Hid (Kn.uT s.k z 0 0 (Kn.bT s.k z) s.k):=hJ (.inl ⟨a,rfl,rfl,rfl,rfl⟩);have HE:=hJ (bC a);rw[bC a]at AC;clear h a;generalize fJ (s.A 0) z (Kn.bT s.k z)=ap at*;generalize s.A 0=kb at*;go_in
  go_wp2_with fail
  refine sC AC.v ?_;rintro w1 hw;subst w1;go_wp2
  go_ret3
  exact⟨0,0,Kn.bT s.k z,s.k,by rw[HE.v];rfl,FIN.v,H.v,KF.refl _ _⟩
end
namespace Kn
theorem M9{F:Fo}(h:Tr.tg F)(z m:Int)(a:Nat)(ha:a<=40):a+(Tr.jf F z (a:Int) m).size<=40:=by
 unfold Tr.jf;split
 .rename_i d;have i0:Tr.cD F z 1=0:=by
   unfold Tr.dU at d;by_cases e:Tr.cD F z 1≠0
   .rw[aJ e]at d;exact aZ d e
   .omega
  obtain⟨n,rfl,n40,_,k1⟩:=Tr.eZ i0;have z40:=h n n40 k1;have sz:∀(L:List Int) (r:bU),(L.foldl (λr n=>r.push (UInt8.ofNat n.toNat)) r).size=r.size+L.length:=by
   intro L
   induction L with
   |nil=>intro r;rfl
   |cons x L ih=>intro r;rw[List.foldl_cons,ih,ByteArray.size_push,List.length_cons];omega
  rw[hZ,hZ];unfold Tr.On;rw[sz,Tr.vh];show a+(0+_)<=40;omega
 .exact ha
section
variable {N:Nat}{d:Nat->Nat}{k k':Kp}
theorem KH.fx(h:KH N d k){M:Nat}(hM:N<=M){T:Nat->Fi}{F:Fo}{S:Nat->Pi}(wx:WX (jq k) T F S)(rf:∀n,n<24->(T n).refs<=8*M)(ok:Tr.Ok F):KH M d (jt k T F S):=by
 have g:=h.more hM;have j:=g.ki.vi.kj;exact g.tV ⟨⟨⟨j.sp,j.gr,j.me,wx,rf,ok,j.tb,j.st,j.hs,j.lv,j.of,j.ht,j.nm⟩,g.ki.vi.iv,g.ki.vi.hs⟩,g.ki.fi,g.ki.pr,g.ki.h0⟩ rfl (λm=>⟨rfl,rfl⟩)
theorem NZ(k:Kp)(n f:Nat)(v:Int)(m:Nat):((fH k n f v).p m).st=(k.p m).st/\((fH k n f v).p m).par=(k.p m).par/\((fH k n f v).p m).box=(k.p m).box/\((fH k n f v).p m).has=(k.p m).has/\((fH k n f v).p m).fd=if m=n then(λi=>if i=f then v else(k.p n).fd i)else(k.p m).fd:=by
 unfold fH;by_cases c:m=n
 .subst c;rw[bF,aJ rfl];exact⟨rfl,rfl,rfl,rfl,rfl⟩
 .rw[bM _ _ _ _ c,aI c];exact⟨rfl,rfl,rfl,rfl,rfl⟩
theorem KH.fd(h:KH N d k)(n f:Nat)(v:Int):KH N d (fH k n f v):=by
 have e:=NZ k n f v;have l:∀m,lv (fH k n f v) m=lv k m:=λm=>by unfold lv;rw[(e m).1]
 refine h.tV ⟨⟨h.ki.vi.kj.Cz rfl rfl rfl,h.ki.vi.iv,h.ki.vi.hs⟩,λm hm lm hm2=>?_,λm hm m0 s=>?_,h.ki.h0⟩ rfl (λm=>⟨(e m).1,(e m).2.1⟩)
 .rw[(e m).2.2.1];rw[l]at lm;exact h.ki.fi m hm lm hm2
 .rw[(e m).1]at s;rw[(e m).2.1];exact h.ki.pr m hm m0 s
theorem KH.RJ(h:KH N d k)(z f m:Int):KH N d (pf k z f m):=by
 have j:=h.ki.vi.kj;unfold pf;split
 .generalize Ab k z f=v;have a:WX (jq k) (Fx.im k.fi k.fo v m) k.fo k.pi/\∀a,a<24->(Fx.im k.fi k.fo v m a).refs<=8*N:=by
   unfold Fx.im;split
   .rename_i e;obtain⟨n,rfl,n24,r0⟩:=Fx.jZ e.1;rw[hZ];refine⟨j.wx.jU n24 r0 _ r0 rfl rfl (M9 j.ok.fz _ _ _ (j.wx.ps n n24)),λa ha=>?_⟩;by_cases c:a=n
    .subst c;rw[Fx.bF];exact j.rf a ha
    .rw[Fx.bM _ _ _ _ c];exact j.rf a ha
   .exact⟨j.wx,j.rf⟩
  refine h.fx (aL _) ?_ a.2 j.ok;unfold Fx.p8;split
  .exact a.1.RJ _ _
  .exact a.1
 .exact h
theorem KH.Dy(h:KH N d k)(v:Int)(s:bU):KH N d (sW k v s):=by
 have j:=h.ki.vi.kj;have a:WX (jq k) (Fx.qk k.fi k.fo v s) k.fo k.pi/\∀a,a<24->(Fx.qk k.fi k.fo v s a).refs<=8*N:=by
  unfold Fx.qk;split
  .rename_i e;obtain⟨n,rfl,n24,r0⟩:=Fx.jZ e.1.1;have e2:=e.2;rw[hZ]at e2|-;refine⟨j.wx.jU n24 r0 _ r0 rfl rfl ?_,λa ha=>?_⟩
   .show(k.fi n).pos+s.size<=40;unfold Tr.dE at e2;by_cases g:Tr.cD k.fo ((k.fi n).num:Int) 1≠0
    .rw[aJ g]at e2;exact aZ e2 g
    .rw[aI g,nJ]at e2;by_cases g2:40-(s.size:Int)<((k.fi n).pos:Int)
     .rw[aJ g2]at e2;exact aZ e2 bA
     .omega
   .by_cases c:a=n
    .subst c;rw[Fx.bF];exact j.rf a ha
    .rw[Fx.bM _ _ _ _ c];exact j.rf a ha
  .exact⟨j.wx,j.rf⟩
 have b:WX (jq k) (Fx.qk k.fi k.fo v s) (Fx.eA k.fi k.fo v s) k.pi/\Tr.Ok (Fx.eA k.fi k.fo v s):=by
  unfold Fx.eA;split
  .exact⟨a.1.Dy _ _ _,j.ok.Dy _ _ _⟩
  .exact⟨a.1,j.ok⟩
 refine h.fx (aL _) ?_ a.2 b.2;unfold Fx.wW;split
 .exact b.1.TZ _ _
 .exact b.1
theorem KH.Uq(h:KH N d k){z:Int}{A C:Nat}{E:Int}(p:uT k z A C E k'):KH (N+1) d k':=by
 have j:=h.ki.vi.kj;have key:∀{a c:Nat} {T:Nat->Fi} {S:Nat->Pi},Fx.uU k.fi k.pi a c E T S->KH (N+1) d (jt k T k.fo S):=λ{a c T S} pt=>by
  have up:∀a,a<24->(k.fi a).refs<=8*(N+1):=λa ha=>by have:=j.rf a ha;omega
  rcases pt with⟨_,_,_,_,rfl,rfl⟩|⟨_,n,e,hf,⟨_,_,_,_,rfl,rfl⟩|⟨rfl,_,a1,d1,rfl,rfl⟩⟩
  .exact h.fx bu j.wx up j.ok
  .exact h.fx bu j.wx up j.ok
  .refine h.fx bu (j.wx.pipe hf a1 d1) (λx hx=>?_) j.ok;by_cases e:x=c
   .subst e;rw[Fx.bF];show 1<=_;omega
   .rw[Fx.bM _ _ _ _ e];by_cases e2:x=a
    .subst e2;rw[Fx.bF];show 1<=_;omega
    .rw[Fx.bM _ _ _ _ e2];exact up x hx
 rcases p with⟨_,_,_,_,rfl⟩|⟨_,n,rfl,hn,⟨_,_,_,_,rfl⟩|⟨_,a,c,T,S,pt,⟨_,_,_,rfl⟩|⟨_,_,_,rfl⟩⟩⟩
 .exact h.more bu
 .exact h.more bu
 .exact key pt
 .exact((key pt).fd _ _ _).fd _ _ _
theorem KH.TY(h:KH N d k)(z f:Int):KH N d (pd k z f):=by
 unfold pd;split
 .have g:=h.fd z.toNat f.toNat (-1);have j:=g.ki.vi.kj.Tt ((k.p z.toNat).fd f.toNat);exact g.fx (aL _) j.wx j.rf j.ok
 .exact h
end
end Kn
def Kn.Nx(UE:Nat)(s:St)(w:bD)(R:Value->Kp->Prop)(e:Ending)(w':bD):Prop:=∃v s',e=bf v/\R v s'.k/\bH w' UE s'/\KF s w s' w'
theorem Kn.Nx.no{UE:Nat}{s:St}{w:bD}{R:Value->Kp->Prop}(h:bH w UE s){v:Value}(r:R v s.k):Kn.Nx UE s w R (bf v) w:=⟨v,s,rfl,r,h,KF.refl _ _⟩
theorem Kn.Nx.mk{UE:Nat}{s:St}{w w':bD}{R:Value->Kp->Prop}{v:Value}{k:Kp}(r:R v k)(h:bH w' UE {s with k:=k}/\KF s w {s with k:=k} w'):Kn.Nx UE s w R (bf v) w':=⟨v,_,rfl,r,h⟩
theorem cr{f:Nat}{a:Array Value}{w:bD}{E:Ending}{Q:Ending->bD->Prop}(h:Calls prog f a w λe w'=>e=E/\w'=w)(q:Q E w):Calls prog f a w Q:=h.mono (by rintro _ _ ⟨rfl,rfl⟩;exact q)
theorem below_drewN(w:bD)(j:Nat):Below w.heap.size w (w.drewN j):=⟨rfl,rfl,rfl,aL _,λ_ _=>rfl⟩
theorem bH.Ou{w w':bD}{UE:Nat}{s:St}(h:bH w UE s){n:Nat}(hn:n<20)(hh:(s.k.p n).has=true){m:Me}(u:cY w' (s.A (9+n)) (s.A 4) m)(f:bE (s.A (9+n)) w w'):bH w' UE {s with k:=Kn.cT s.k n m s.k.bk}/\KF s w {s with k:=Kn.cT s.k n m s.k.bk} w':=
 have b:=h.ub hn hh
 h.xZ hn hh ⟨u,b.bk.lN f b.br b.bq,b.br,b.bq⟩ (fC.mem f)
section
variable (UE N:Nat)(d:Nat->Nat)(s:St)(w:bD)
def Kn.FN(k:Kp)(z:Int)(on:Bool)(v:Value)(k':Kp):Prop:=∃E m',v=bG E/\(Kn.bT k z=0/\Wf.iY k.sc z (!on) m'\/m'=k.sc)/\k'={k with sc:=m'}
theorem G3(z:Int)(on:Bool)(h:bH w UE s):
  Calls prog 53 #[ai (bh ⟨s.A 0,0,bj⟩),aa az z,ar on] w (Kn.Nx UE s w (Kn.FN s.k z on)):=by
 have AC:=hJ (dv UE s w z h);have H:=hJ h;by_cases a:Kn.bT s.k z=0
 .have A:=hJ a;have WK:=hJ (Wf.Dp (s.A 3) s.k.sc w z (!on) h.sc);have c8:=h.xD;obtain⟨a3,h3⟩:=hU (s.A 3);have H3:=hJ h3;rw[a,bB]at AC;rw[h3]at WK c8;generalize fJ (s.A 0) z 0=ap at*;generalize s.A 0=kb at*;go_in
  go_wp2_with fail
  refine cr AC.v ?_;go_wp2_with fail
  refine WK.mono ?_;rintro e w1 ⟨⟨E1,rfl⟩,u,f⟩;obtain⟨m',t⟩:∃m',Wf.iY s.k.sc z (!on) m':=⟨_,rfl⟩;rw[<-t]at u;have S1:=hJ (H.kH (by rw[H3.v];exact u) (by rw[H3.v];exact f));have TT:=hJ t;go_wp2
  go_ret
  exact .mk ⟨_,m',rfl, .inl ⟨A.v,TT.v⟩,rfl⟩ S1.v
 .rw[bC a]at AC;have A:=hJ a;generalize fJ (s.A 0) z (Kn.bT s.k z)=ap at*;generalize Kn.bT s.k z=ae at*;generalize s.A 0=kb at*;go_in
  go_wp2_with fail
  refine cr AC.v ?_;go_wp2
  go_ret
  exact .no H.v ⟨ae,_,(bC A.v).symm, .inr rfl,rfl⟩
theorem Ma(z a m:Int)(wr:Bool)(h:bH w UE s)(hj:KJ (λ_=>False) N s.k):
  Calls prog 45 #[ai (bh ⟨s.A 0,0,bj⟩),aa az z,aa az a,aa az m,ar wr] w (Kn.Nx UE s w λv k'=>(∃n:Nat,z=n/\n<20/\Kn.lv s.k n=true/\v=bG (Mv.qX (s.k.p n).mem a m)/\k'=Kn.cT s.k n (Mv.mapM (s.k.p n).mem a m wr) s.k.bk)\/Kn.bT s.k z≠0/\v=bG (Kn.bT s.k z)/\k'=s.k):=by
 have AC:=hJ (dv UE s w z h);have H:=hJ h;by_cases A:Kn.bT s.k z=0
 .obtain⟨n,rfl,hn,hl⟩:=Kn.fq A;have hh:=hj.lv n hn (λx=>x) (Kn.eP.1 hl);have HH:=hJ (aK hh hl);have c4:=h.qR n hn hh;have UM:=hJ (Nv (s.A (9+n)) (s.A 4) a m wr (s.k.p n).mem w (h.me n hn hh));rw[A,bB,gS]at AC;obtain⟨m9,h9⟩:=hU (s.A (9+n));have H9:=hJ h9;rw[h9]at UM c4;generalize s.A 0=kb at*;go_in
  go_wp2_with fail
  refine cr AC.v ?_;go_wp2_with fail
  refine sC UM.v ?_;rintro w1 ⟨u,f⟩;have S1:=hJ (H.Ou hn HH.1 (by rw[H9.v];exact u) (by rw[H9.v];exact f));go_wp2
  go_ret
  exact .mk (.inl ⟨n,rfl,hn,HH.2,rfl,rfl⟩) S1.v
 .have A':=hJ A;rw[bC A]at AC|-;generalize fJ (s.A 0) z (Kn.bT s.k z)=ap at*;generalize Kn.bT s.k z=ae at*;generalize s.A 0=kb at*;go_in
  go_wp2_with fail
  refine cr AC.v ?_;go_wp2
  go_ret
  exact .no H.v (.inr ⟨A'.v,rfl,rfl⟩)
theorem Jk(z a m:Int)(wr:Bool)(h:bH w UE s)(hj:KJ (λ_=>False) N s.k):
  Calls prog 46 #[ai (bh ⟨s.A 0,0,bj⟩),aa az z,aa az a,aa az m,ar wr] w (Kn.Nx UE s w λv k'=>(∃n:Nat,z=n/\n<20/\Kn.lv s.k n=true/\v=bG (Mv.qZ (s.k.p n).mem a m)/\k'=Kn.cT s.k n (Mv.uq (s.k.p n).mem a m wr) s.k.bk)\/Kn.bT s.k z≠0/\v=bG (Kn.bT s.k z)/\k'=s.k):=by
 have AC:=hJ (dv UE s w z h);have H:=hJ h;by_cases A:Kn.bT s.k z=0
 .obtain⟨n,rfl,hn,hl⟩:=Kn.fq A;have hh:=hj.lv n hn (λx=>x) (Kn.eP.1 hl);have HH:=hJ (aK hh hl);have c4:=h.qR n hn hh;have UM:=hJ (Dm (s.A (9+n)) (s.A 4) a m wr (s.k.p n).mem w (h.me n hn hh));rw[A,bB,gS]at AC;obtain⟨m9,h9⟩:=hU (s.A (9+n));have H9:=hJ h9;rw[h9]at UM c4;generalize s.A 0=kb at*;go_in
  go_wp2_with fail
  refine cr AC.v ?_;go_wp2_with fail
  refine sC UM.v ?_;rintro w1 ⟨u,f⟩;have S1:=hJ (H.Ou hn HH.1 (by rw[H9.v];exact u) (by rw[H9.v];exact f));go_wp2
  go_ret
  exact .mk (.inl ⟨n,rfl,hn,HH.2,rfl,rfl⟩) S1.v
 .have A':=hJ A;rw[bC A]at AC|-;generalize fJ (s.A 0) z (Kn.bT s.k z)=ap at*;generalize Kn.bT s.k z=ae at*;generalize s.A 0=kb at*;go_in
  go_wp2_with fail
  refine cr AC.v ?_;go_wp2
  go_ret
  exact .no H.v (.inr ⟨A'.v,rfl,rfl⟩)
theorem DJ(z a m:Int)(h:bH w UE s)(hj:KJ (λ_=>False) N s.k)(hS:Gr.Small s.k.gr):
  Calls prog 28 #[ai (bh ⟨s.A 0,0,bj⟩),aa az z,aa az a,aa az m] w (Kn.Nx UE s w λv k'=>(∃n:Nat,z=n/\n<20/\Kn.lv s.k n=true/\v=bG (Kn.zs s.k n a m)/\k'=Kn.dD s.k n a m)\/Kn.bT s.k z≠0/\v=bG (Kn.bT s.k z)/\k'=s.k):=by
 have AC:=hJ (dv UE s w z h);have H:=hJ h;by_cases A:Kn.bT s.k z=0
 .obtain⟨n,rfl,hn,hl⟩:=Kn.fq A;have UM:=hJ (xT UE s w n a m h hn (hj.lv n hn (λx=>x) (Kn.eP.1 hl)) (hj.me.cL hn) hS);have HL:=hJ hl;rw[A,bB,gS]at AC;generalize s.A 0=kb at*;go_in
  go_wp2_with fail
  refine cr AC.v ?_;go_wp2_with fail
  refine sC UM.v ?_;rintro w1 S1;have S1:=hJ S1;go_wp2
  go_ret
  exact .mk (.inl ⟨n,rfl,hn,HL.v,rfl,rfl⟩) S1.v
 .have A':=hJ A;rw[bC A]at AC|-;generalize fJ (s.A 0) z (Kn.bT s.k z)=ap at*;generalize Kn.bT s.k z=ae at*;generalize s.A 0=kb at*;go_in
  go_wp2_with fail
  refine cr AC.v ?_;go_wp2
  go_ret
  exact .no H.v (.inr ⟨A'.v,rfl,rfl⟩)
end
def Kn.TP(s:St)(z:Int)(v:Value):Prop:=Kn.bT s.k z=0->∃y,y<6/\s.k.ht y=true/\v=ai (bh ⟨s.A (49+y),0,bj⟩)
theorem Kn.KJ.tab{X:Nat->Prop}{N n:Nat}{k:Kp}(h:KJ X N k)(hn:n<20)(l:Kn.lv k n=true):∃y,y<6/\k.ht y=true/\Sp.dc k.sp (n:Int)=y:=by
 obtain⟨d,I⟩:=h.sp;have o:=(h.of n hn).2 (by have:=Kn.eP.1 l;omega);obtain⟨y,hy⟩:∃y,k.sp.of n=y+1:=⟨k.sp.of n-1,bu⟩;obtain⟨_,z6,zh⟩:=I.cO hn hy;exact⟨y,z6,by rw[h.ht y z6];exact zh,Sp.gM hn hy⟩
section
variable (UE N:Nat)(d:Nat->Nat)(s:St)(w:bD)
theorem jv(z:Int)(h:bH w UE s)(hj:KJ (λ_=>False) N s.k):
  Calls prog 92 #[ai (bh ⟨s.A 0,0,bj⟩),aa az z] w λe w'=>∃v,e=bf (ao #[v,bG (Kn.bT s.k z)])/\Kn.TP s z v/\Below w.heap.size w w':=by
 have AC:=hJ (dv UE s w z h);by_cases A:Kn.bT s.k z=0
 .obtain⟨n,rfl,hn,hl⟩:=Kn.fq A;obtain⟨y,y6,yt,yi⟩:=hj.tab hn hl;have SP:Hid (∀j,Calls prog 62 #[ai (bh ⟨s.A 0,0,bj⟩),aa az n] (w.drewN j) λe w2=>e=bf (aa az y)/\w2=w.drewN j):=hJ (λj=>by have:=fL UE s _ (n:Int) (h.drewN j);rwa [yi]at this);have c:=h.Ld y y6 yt;have T:Hid (Kn.TP s n (ai (bh ⟨s.A (49+y),0,bj⟩))):=hJ (λ_=>⟨y,y6,yt,rfl⟩);have yI:(y:Int)<6:=bu
  rw[A,bB]at AC|-;rw[gS]at AC;generalize s.A 0=kb at*;generalize s.A (49+y)=tb at*;go_in
  go_wp2_with fail
  refine cr AC.v ?_;go_upto_region 4 with fail
  go_quiet ((go_at_call 62;exact Calls.quiet_of_same (SP.v _)))
  go_wp2
  go_ret2
  exact⟨_,rfl,T.v,below_drewN _ _⟩
 .have T:Hid (Kn.TP s z (ai bj)):=hJ (λa=>aZ a A);rw[bC A]at AC|-;generalize fJ (s.A 0) z (Kn.bT s.k z)=ap at*;generalize Kn.bT s.k z=ae at*;generalize s.A 0=kb at*;go_in
  go_wp2_with fail
  refine cr AC.v ?_;go_wp2
  go_ret2
  exact⟨_,rfl,T.v,aQ _ _⟩
end
def Kn.FG(k:Kp)(G:Fo):Prop:=Tr.Ok G/\WX (Kn.jq k) k.fi G k.pi
theorem WX.hk{xx:Nat->Nat}{T:Nat->Fi}{F G:Fo}{S:Nat->Pi}(h:WX xx T F S)(e:∀m,(G.nd m).held=(F.nd m).held/\(G.nd m).kind=(F.nd m).kind):WX xx T G S:=
 h.ry (λm _=>(e m).1) (λm _ _=>(e m).2) (λm hm k=>by rw[(e m).1];rw[(e m).2]at k;exact h.z0 m hm k)
theorem Tr.JR{F:Fo}{n:Nat}{x:Nd}(h:x.held=(F.nd n).held/\x.kind=(F.nd n).kind)(m:Nat):((F.put n x).nd m).held=(F.nd m).held/\((F.put n x).nd m).kind=(F.nd m).kind:=by
 by_cases c:m=n
 .subst c;rw[Tr.bF];exact h
 .rw[Tr.bM _ _ _ _ c];exact⟨rfl,rfl⟩
theorem WX.Rw{xx:Nat->Nat}{T:Nat->Fi}{F G:Fo}{S:Nat->Pi}(h:WX xx T F S){z y E:Int}{s o:bU}(hm:Tr.FH F z s y o E G):WX xx T G S:=by
 obtain⟨K,e,_,⟨_,_,rfl⟩|⟨_,⟨_,_,rfl⟩|⟨_,⟨_,_,rfl⟩|⟨_,⟨_,_,rfl⟩|⟨_,i,_,e2,_,⟨_,_,rfl⟩|⟨_,_,rfl⟩⟩⟩⟩⟩⟩:=hm<;>try exact h
 refine h.hk (λm=>?_);unfold Tr.He;rw[(WX.Jy _ m).1,(WX.Jy _ m).2];refine Tr.JR ?_ m;exact⟨rfl,rfl⟩
theorem WX.Rl{xx:Nat->Nat}{T:Nat->Fi}{F G:Fo}{S:Nat->Pi}(h:WX xx T F S){y z E:Int}{s:bU}(hm:Tr.AF F y z s E G):WX xx T G S:=by
 obtain⟨_,_,rfl⟩|⟨_,e,_,⟨_,_,rfl⟩|⟨_,⟨_,_,rfl⟩|⟨_,_,rfl⟩⟩⟩:=hm<;>try exact h
 refine h.hk (λm=>?_);unfold Tr.zc;rw[(WX.Jy _ m).1,(WX.Jy _ m).2];refine Tr.JR ?_ m;exact⟨rfl,rfl⟩
theorem bH.BJ{w V w':bD}{UE:Nat}{s:St}(h:bH w UE s)(b:Below w.heap.size w V){G:Fo}(u:bN w' (s.A 6) G)(f:bE (s.A 6) V w'):bH w' UE {s with k:={s.k with fo:=G}}/\KF s w {s with k:={s.k with fo:=G}} w':=
 have q:=(h.below b).AV u f
 ⟨q.1,(KF.below b).trans q.2⟩
def Kn.tf(k:Kp)(v:Value)(k':Kp):Prop:=∃E G,v=bG E/\Kn.FG k G/\k'={k with fo:=G}
theorem Kn.Nx.at{UE:Nat}{s:St}{w w':bD}{R:Value->Kp->Prop}(h:bH w UE s)(b:Below w.heap.size w w'){v:Value}(r:R v s.k):Kn.Nx UE s w R (bf v) w':=⟨v,s,rfl,r,h.below b,KF.below b⟩
theorem Kn.tf.no{k:Kp}{X:Nat->Prop}{N:Nat}(h:KJ X N k){E:Int}{v:Value}(e:bG E=v):Kn.tf k v k:=⟨E,k.fo,e.symm,⟨h.ok,h.wx⟩,rfl⟩
theorem Oo{E:Int}{u v:Value}(e:bG E=v):bf (ao #[u,v])=bf (ao #[u,bG E]):=by rw[e]
section
variable (UE N:Nat)(d:Nat->Nat)(s:St)(w:bD)
theorem tO(z:Int)(p:bU)(h:bH w UE s)(hj:KJ (λ_=>False) N s.k):
  Calls prog 198 #[ai (bh ⟨s.A 0,0,bj⟩),aa az z,ak p] w λe w'=>∃x E:Int,e=bf (ao #[aa az x,bG E])/\Below w.heap.size w w':=by
 have TB:=hJ (jv UE N s w z h hj);have H:=hJ (aK h hj);generalize hk:s.A 0=kb at TB|-;go_in
 go_wp2_with fail
 refine TB.mono ?_;rintro e w1 ⟨v,rfl,tp,b1⟩;have B1:=hJ b1;by_cases A:Kn.bT s.k z=0
 .obtain⟨y,y6,yt,rfl⟩:=tp A;have K1:=H.1.below b1;have WA:=hJ (Dq UE (s.A (49+y)) (s.A 6) (s.k.tb y) (s.V y) s.k.fo p w1 (K1.tb y y6 yt) K1.fo H.2.ok.sz);rw[A,bB];generalize s.A (49+y)=tb at*;go_wp2_with fail
  refine WA.mono ?_;rintro e w2 ⟨x,E,rfl,_,b2⟩;have B2:Hid (Below w.heap.size w w2):=hJ (B1.trans (b2.mono B1.size));go_wp2
  go_ret2
  exact⟨x.2,E,rfl,B2.alloc B2.size _⟩
 .have A':=hJ (bC A);rw[bC A];generalize Kn.bT s.k z=ae at*;go_wp2
  go_ret2
  exact⟨0,ae,Oo A'.v,B1.v⟩
theorem Md(z:Int)(p:bU)(h:bH w UE s)(hj:KJ (λ_=>False) N s.k):
  Calls prog 128 #[ai (bh ⟨s.A 0,0,bj⟩),aa az z,ak p] w (Kn.Nx UE s w (Kn.tf s.k)):=by
 have TB:=hJ (jv UE N s w z h hj);have H:=hJ (aK h hj);have RM:Hid (∀V (x:Int) (nm:bU),Below w.heap.size w V->Calls prog 206 #[ai (bh ⟨s.A 6,0,bj⟩),aa az x,ak nm] V λe w'=>∃E G,e=bf (bG E)/\Kn.FG s.k G/\bH w' UE {s with k:={s.k with fo:=G}}/\KF s w {s with k:={s.k with fo:=G}} w'):=hJ (λV x nm b=>(Ee (s.A 6) x nm s.k.fo V (h.below b).fo hj.ok.sz hj.ok.cR).mono (by rintro _ w' ⟨E,G,rfl,r,u,f⟩;exact⟨E,G,rfl,⟨hj.ok.rem r,hj.wx.rem r⟩,h.BJ b u f⟩));have C6:Hid (∀V,Below w.heap.size w V->V.cell? ⟨s.A 0,250,bj⟩=bh (ai (bh ⟨s.A 6,0,bj⟩))):=hJ (λV b=>(h.below b).vD);generalize hk:s.A 0=kb at TB C6|-;go_in
 go_wp2_with fail
 refine TB.mono ?_;rintro e w1 ⟨v,rfl,tp,b1⟩;have B1:=hJ b1;by_cases A:Kn.bT s.k z=0
 .obtain⟨y,y6,yt,rfl⟩:=tp A;have K1:=H.1.below b1;have LA:=hJ (wo UE (s.A (49+y)) (s.A 6) (s.k.tb y) (s.V y) s.k.fo p w1 (K1.tb y y6 yt) K1.fo H.2.ok.sz);rw[A,bB];generalize s.A (49+y)=tb at*;generalize s.A 6=a6 at*;go_wp2_with fail
  refine LA.mono ?_;rintro e w2 ⟨x,nm,E,rfl,_,b2⟩;have B2:Hid (Below w.heap.size w w2):=hJ (B1.trans (b2.mono B1.size));by_cases E0:E=0
  .subst E0;rw[bB];go_upto_region 7 with fail
   have B3:=hJ (B2.alloc B2.size (bg #[aa az x.1,aa az x.2] 224));have c6:=C6.v _ B3.v;go_region_with ((go_at_call 206;refine(RM.v _ _ _ (by first|exact B3.v|exact B3.drew)).mono ?_;rintro e w4 ⟨E,G,rfl,S4⟩;have S4:=hJ S4))
   all_goals
    go_wp2
    go_ret
    exact .mk ⟨E,G,rfl,S4.1,rfl⟩ S4.2
  .have E1:=hJ (bC E0);rw[bC E0];go_wp2
   go_ret
   exact .at H.1 (B2.alloc B2.size _) (.no H.2 E1.v)
 .have A':=hJ (bC A);rw[bC A];generalize Kn.bT s.k z=ae at*;go_wp2
  go_ret
  exact .at H.1 B1.v (.no H.2 A'.v)
end
namespace Gr
def NF(li:Bool)(t t':Nat->Gp):Prop:=t'=t\/(∃n p:Nat,n<10/\(t n).there=false/\t'=gm t n (mS p))\/(∃(Wy:Nat->List (Fin 10)) (n:Nat),n<10/\n≠0/\fF t Wy/\db t Wy n Gp.op 10=0/\db t Wy n Gp.oq 10=0/\t'=gm t n kS)\/li=true/\∃(n:Nat) (a b:Int),t'=gm t n {t n with lp:=a,lq:=b}
def Il(li:Bool)(t:Nat->Gp)(N b:Nat)(V w':bD):Prop:=∃t',NF li t t'/\(∃Wy,Tree t' Wy N)/\bP w' b t'/\Go.Proofs.YtpmmdkcfenjiaaaGreatDoor.bE b V w'
section
variable {li:Bool}{t:Nat->Gp}{Wy:Nat->List (Fin 10)}{N b:Nat}{V:bD}
theorem Il.same(hT:Tree t Wy N)(h:bP V b t){w':bD}(k:RowKit.Below V.heap.size V w'):Il li t N b V w':=⟨t, .inl rfl,⟨Wy,hT⟩,h.below k h.lt,Go.Proofs.YtpmmdkcfenjiaaaGreatDoor.bE.cC k⟩
theorem Pg(hT:Tree t Wy N)(g:Int)(h:bP V b t):Calls prog 111 #[ai (bh ⟨b,0,bj⟩),aa az g] V λe w'=>∃x E:Int,e=bf (ao #[aa az x,bG E])/\Il false t N b V w':=by
 by_cases r:wr t g=0
 .obtain⟨n,rfl,hn,hh⟩:=rS r;by_cases d:4<=(Wy n).length
  .refine sC (vT b n t (Wy n) V h (hT.ways n hn) hn hh d (by have:=hT.deep n hn;omega)) ?_;rintro w' k;exact⟨_,_,rfl, .same hT h k⟩
  .refine(vU b n t (Wy n) V h (hT.ways n hn) hn hh bu).mono ?_;rintro _ w' (⟨m,hm,hf,_,rfl,u,f⟩|⟨_,rfl,k⟩)
   .exact⟨_,_,rfl,_, .inr (.inl ⟨m,n,hm,hf,rfl⟩),⟨_,hT.add hm hf hn hh bu⟩,u,f.rM⟩
   .exact⟨_,_,rfl, .same hT h k⟩
 .refine sC (OO b g t V h r) ?_;rintro w' rfl;exact⟨_,_,rfl, .same hT h (RowKit.Below.refl _ _)⟩
theorem Pj(hT:Tree t Wy N)(hN:N<=1000)(g:Int)(h:bP V b t):Calls prog 113 #[ai (bh ⟨b,0,bj⟩),aa az g] V λe w'=>∃E:Int,e=bf (bG E)/\Il false t N b V w':=by
 by_cases r:wr t g=0
 .obtain⟨n,rfl,hn,hh⟩:=rS r;by_cases n0:n=0
  .subst n0;refine sC (D9 b t V h hh) ?_;rintro w' rfl;exact⟨_,rfl, .same hT h (RowKit.Below.refl _ _)⟩
  .by_cases hx:db t Wy n Gp.op 10=0/\db t Wy n Gp.oq 10=0
   .cases ha:oN t n
    .refine sC (JV b n t Wy V h hT.ways (hT.small hN) hn n0 hh hx ha) ?_;rintro w' ⟨u,f⟩;exact⟨_,rfl,_, .inr (.inr (.inl ⟨Wy,n,hn,n0,hT.ways,hx.1,hx.2,rfl⟩)),⟨_,hT.rem n0 ha⟩,u,f.rM⟩
    .refine sC (Hm b n t Wy V h hT.ways (hT.small hN) hn n0 hh hx ha) ?_;rintro w' k;exact⟨_,rfl, .same hT h k⟩
   .refine sC (Ho b n t Wy V h hT.ways (hT.small hN) hn n0 hh bu) ?_;rintro w' k;exact⟨_,rfl, .same hT h k⟩
 .refine sC (Hn b g t V h r) ?_;rintro w' rfl;exact⟨_,rfl, .same hT h (RowKit.Below.refl _ _)⟩
theorem Ph(hT:Tree t Wy N)(g p q:Int)(h:bP V b t):Calls prog 115 #[ai (bh ⟨b,0,bj⟩),aa az g,aa az p,aa az q] V λe w'=>∃E:Int,e=bf (bG E)/\Il true t N b V w':=by
 by_cases r:wr t g=0
 .obtain⟨n,rfl,hn,hh⟩:=rS r;cases hf:js p q (-1)
  .refine sC (D0 b n p q t V h hn hh hf) ?_;rintro w' k;exact⟨_,rfl, .same hT h k⟩
  .refine sC (Mn b n p q t V h hn hh hf) ?_;rintro w' ⟨u,f⟩;exact⟨_,rfl,_, .inr (.inr (.inr ⟨rfl,n,p,q,rfl⟩)),⟨_,hT.Sw⟩,u,f.rM⟩
 .refine sC (JA b g p q t V h r) ?_;rintro w' rfl;exact⟨_,rfl, .same hT h (RowKit.Below.refl _ _)⟩
end
end Gr
namespace Kn
def SG(k:Kp)(m:Wf.M):Prop:=Wf.SG k.sc m
def nj(li:Bool)(N:Nat)(k k':Kp):Prop:=∃t m,Gr.NF li k.gr t/\(∃Wy,Gr.Tree t Wy N)/\SG k m/\k'={k with gr:=t,sc:=m}
theorem nj.sc{li:Bool}{N:Nat}{X:Nat->Prop}{k:Kp}(h:KJ X N k){m:Wf.M}(g:SG k m):nj li N k {k with sc:=m}:=⟨k.gr,m, .inl rfl,h.gr,g,rfl⟩
end Kn
section
variable (UE N:Nat)(d:Nat->Nat)(s:St)(w:bD)
theorem DG(z:Int)(on:Bool)(h:bH w UE s)(hj:KJ (λ_=>False) N s.k):
  Calls prog 54 #[ai (bh ⟨s.A 0,0,bj⟩),aa az z,ar on] w (Kn.Nx UE s w λv k'=>(∃E,v=bG E)/\Kn.nj false N s.k k'):=by
 have FZ:Hid (Calls prog 119 #[ai (bh ⟨s.A 3,0,bj⟩),aa az z,ar on] w (Kn.Nx UE s w λv k'=>(∃E,v=bG E)/\Kn.nj false N s.k k')):=hJ ((Wf.Gs (s.A 3) s.k.sc w z on h.sc).mono (by
  rintro _ w' ⟨E,m,rfl,t,u,f⟩;exact .mk ⟨⟨_,rfl⟩, .sc hj t⟩ (h.kH u f)))
 have c8:=h.xD;generalize s.A 0=kb at*;generalize s.A 3=a3 at*;go_in
 go_wp2_with fail
 refine FZ.mono ?_;rintro e w1 ⟨v,s',rfl,S1⟩;have S1:=hJ S1;go_wp2
 go_ret
 exact⟨v,s',rfl,S1.v⟩
theorem G0(z q p:Int)(h:bH w UE s)(hj:KJ (λ_=>False) N s.k):
  Calls prog 55 #[ai (bh ⟨s.A 0,0,bj⟩),aa az z,aa az q,aa az p] w (Kn.Nx UE s w λv k'=>(∃E,v=bG E)/\Kn.nj false N s.k k'):=by
 have FZ:Hid (Calls prog 120 #[ai (bh ⟨s.A 3,0,bj⟩),aa az z,aa az q,aa az p] w (Kn.Nx UE s w λv k'=>(∃E,v=bG E)/\Kn.nj false N s.k k')):=hJ ((Wf.JS (s.A 3) s.k.sc w z q p h.sc).mono (by
  rintro _ w' ⟨E,m,rfl,t,u,f⟩;exact .mk ⟨⟨_,rfl⟩, .sc hj t⟩ (h.kH u f)))
 have c8:=h.xD;generalize s.A 0=kb at*;generalize s.A 3=a3 at*;go_in
 go_wp2_with fail
 refine FZ.mono ?_;rintro e w1 ⟨v,s',rfl,S1⟩;have S1:=hJ S1;go_wp2
 go_ret
 exact⟨v,s',rfl,S1.v⟩
theorem GI(z q p:Int)(h:bH w UE s)(hj:KJ (λ_=>False) N s.k):
  Calls prog 51 #[ai (bh ⟨s.A 0,0,bj⟩),aa az z,aa az q,aa az p] w (Kn.Nx UE s w λv k'=>(∃E,v=bG E)/\Kn.nj true N s.k k'):=by
 obtain⟨Wy,hT⟩:=hj.gr;have FZ:Hid (Calls prog 115 #[ai (bh ⟨s.A 2,0,bj⟩),aa az z,aa az q,aa az p] w (Kn.Nx UE s w λv k'=>(∃E,v=bG E)/\Kn.nj true N s.k k')):=hJ ((Gr.Ph hT z q p h.gr).mono (by
  rintro _ w' ⟨E,rfl,t,g,tr,u,f⟩;exact .mk ⟨⟨E,rfl⟩,t,s.k.sc,g,tr,Wf.SG.refl _,rfl⟩ (h.jF u f)))
 have c8:=h.oS;generalize s.A 0=kb at*;generalize s.A 2=a3 at*;go_in
 go_wp2_with fail
 refine FZ.mono ?_;rintro e w1 ⟨v,s',rfl,S1⟩;have S1:=hJ S1;go_wp2
 go_ret
 exact⟨v,s',rfl,S1.v⟩
theorem GZ(h:bH w UE s)(hj:KJ (λ_=>False) N s.k):
  Calls prog 33 #[ai (bh ⟨s.A 0,0,bj⟩)] w (Kn.Nx UE s w λv k'=>∃(T:Nat) (E:Int) (G:Fo),v=ao #[aa az (T:Int),bG E]/\Tr.qs s.k.fo T E G/\k'={s.k with fo:=G}):=by
 have FZ:Hid (Calls prog 89 #[ai (bh ⟨s.A 6,0,bj⟩)] w λe w'=>∃(T:Nat) (E:Int) (G:Fo),e=bf (ao #[aa az (T:Int),bG E])/\Tr.qs s.k.fo T E G/\bH w' UE {s with k:={s.k with fo:=G}}/\KF s w {s with k:={s.k with fo:=G}} w'):=hJ ((yl (s.A 6) s.k.fo w h.fo hj.ok.tr).mono (by
  rintro _ w' ⟨T,E,G,rfl,r,u,f⟩;exact⟨T,E,G,rfl,r,h.BJ (aQ _ _) u f⟩))
 have c8:=h.vD;generalize s.A 0=kb at*;generalize s.A 6=a3 at*;go_in
 go_wp2_with fail
 refine FZ.mono ?_;rintro e w1 ⟨T,E,G,rfl,r,S1⟩;have S1:=hJ (aK r S1);go_wp2
 go_ret2
 exact .mk ⟨T,E,G,rfl,S1.1,rfl⟩ S1.2
end
section
variable (UE N:Nat)(d:Nat->Nat)(s:St)(w:bD)
theorem Ja(p wt:Int)(h:bH w UE s)(hj:KJ (λ_=>False) N s.k):
  Calls prog 49 #[ai (bh ⟨s.A 0,0,bj⟩),aa az p,aa az wt] w (Kn.Nx UE s w λv k'=>(∃x E:Int,v=ao #[aa az x,bG E])/\Kn.nj false N s.k k'):=by
 obtain⟨Wy,hT⟩:=hj.gr;have H:=hJ h;have OK:Hid (Kn.SG s.k s.k.sc/\∃Wy,Gr.Tree s.k.gr Wy N):=hJ ⟨Wf.SG.refl _,hj.gr⟩;have AD:Hid (Calls prog 111 #[ai (bh ⟨s.A 2,0,bj⟩),aa az p] w λe w'=>∃(x E:Int) (t:Nat->Gr.Gp),e=bf (ao #[aa az x,bG E])/\(Gr.NF false s.k.gr t/\∃Wy,Gr.Tree t Wy N)/\bH w' UE {s with k:={s.k with gr:=t}}/\KF s w {s with k:={s.k with gr:=t}} w'):=hJ ((Gr.Pg hT p h.gr).mono (by
  rintro _ w' ⟨x,E,rfl,t,g,tr,u,f⟩;exact⟨x,E,t,rfl,⟨g,tr⟩,h.jF u f⟩))
 have AG:Hid (∀V t (x:Int),bH V UE {s with k:={s.k with gr:=t}}->Calls prog 112 #[ai (bh ⟨s.A 3,0,bj⟩),aa az x,aa az p,aa az wt] V λe w'=>∃E m,e=bf (bG E)/\Kn.SG s.k m/\bH w' UE {s with k:={s.k with gr:=t,sc:=m}}/\KF {s with k:={s.k with gr:=t}} V {s with k:={s.k with gr:=t,sc:=m}} w'):=hJ (λV t x k=>(Wf.Be (s.A 3) s.k.sc V x p wt k.sc).mono (by
  rintro _ w' ⟨E,m,rfl,g,u,f⟩;exact⟨_,_,rfl,g,k.kH u f⟩))
 have c2:=h.oS;have C3:Hid (∀V t,bH V UE {s with k:={s.k with gr:=t}}->V.cell? ⟨s.A 0,248,bj⟩=bh (ai (bh ⟨s.A 3,0,bj⟩))):=hJ (λV t k=>k.xD);generalize s.A 0=kb at*;generalize s.A 2=a2 at*;generalize s.A 3=a3 at*;by_cases c:wt<1\/1000<wt
 .by_cases c1:wt<1
  all_goals
   go_in
   go_wp2
   go_ret2
   exact .no H.v ⟨⟨0,1,rfl⟩,s.k.gr,s.k.sc, .inl rfl,OK.2,OK.1,rfl⟩
 .have c1:¬wt<1:=λe=>c (.inl e);have c3:¬1000<wt:=λe=>c (.inr e);go_in
  go_wp2_with fail
  refine AD.mono ?_;rintro e w1 ⟨x,E,t,rfl,S1⟩;have S1:=hJ S1;by_cases e0:E=0
  .subst e0;rw[bB];have AG:=hJ (AG.v w1 t x S1.2.1);have c3:=C3.v w1 t S1.2.1;go_wp2_with fail
   refine AG.mono ?_;rintro e w2 ⟨E,m,rfl,S2⟩;have S2:=hJ S2;go_wp2
   go_ret2
   exact .mk ⟨⟨x,0,rfl⟩,t,m,S1.1.1,S1.1.2,S2.1,rfl⟩ ⟨S2.2.1,S1.2.2.trans S2.2.2⟩
  .have E1:=hJ (bC e0);rw[bC e0];go_wp2
   go_ret2
   exact .mk ⟨⟨0,E,by rw[E1.v];rfl⟩,t,s.k.sc,S1.1.1,S1.1.2,OK.1,rfl⟩ S1.2
theorem GG(hN:N<=1000)(p:Int)(h:bH w UE s)(hj:KJ (λ_=>False) N s.k):
  Calls prog 50 #[ai (bh ⟨s.A 0,0,bj⟩),aa az p] w (Kn.Nx UE s w λv k'=>(∃E:Int,v=bG E)/\Kn.nj false N s.k k'):=by
 obtain⟨Wy,hT⟩:=hj.gr;have OK:Hid (Kn.SG s.k s.k.sc):=hJ (Wf.SG.refl _);have AD:Hid (Calls prog 113 #[ai (bh ⟨s.A 2,0,bj⟩),aa az p] w λe w'=>∃(E:Int) (t:Nat->Gr.Gp),e=bf (bG E)/\(Gr.NF false s.k.gr t/\∃Wy,Gr.Tree t Wy N)/\bH w' UE {s with k:={s.k with gr:=t}}/\KF s w {s with k:={s.k with gr:=t}} w'):=hJ ((Gr.Pj hT hN p h.gr).mono (by
  rintro _ w' ⟨E,rfl,t,g,tr,u,f⟩;exact⟨E,t,rfl,⟨g,tr⟩,h.jF u f⟩))
 have AG:Hid (∀V t,bH V UE {s with k:={s.k with gr:=t}}->Calls prog 114 #[ai (bh ⟨s.A 3,0,bj⟩),aa az p] V λe w'=>∃E m,e=bf (bG E)/\Kn.SG s.k m/\bH w' UE {s with k:={s.k with gr:=t,sc:=m}}/\KF {s with k:={s.k with gr:=t}} V {s with k:={s.k with gr:=t,sc:=m}} w'):=hJ (λV t k=>(Wf.Au (s.A 3) s.k.sc V p k.sc).mono (by
  rintro _ w' ⟨E,m,rfl,g,u,f⟩;exact⟨_,_,rfl,g,k.kH u f⟩))
 have c2:=h.oS;have C3:Hid (∀V t,bH V UE {s with k:={s.k with gr:=t}}->V.cell? ⟨s.A 0,248,bj⟩=bh (ai (bh ⟨s.A 3,0,bj⟩))):=hJ (λV t k=>k.xD);generalize s.A 0=kb at*;generalize s.A 2=a2 at*;generalize s.A 3=a3 at*;go_in
 go_wp2_with fail
 refine AD.mono ?_;rintro e w1 ⟨E,t,rfl,S1⟩;have S1:=hJ S1;by_cases e0:E=0
 .subst e0;rw[bB];have AG:=hJ (AG.v w1 t S1.2.1);have c3:=C3.v w1 t S1.2.1;go_wp2_with fail
  refine AG.mono ?_;rintro e w2 ⟨E,m,rfl,S2⟩;have S2:=hJ S2;go_wp2
  go_ret
  exact .mk ⟨⟨E,rfl⟩,t,m,S1.1.1,S1.1.2,S2.1,rfl⟩ ⟨S2.2.1,S1.2.2.trans S2.2.2⟩
 .have E1:=hJ (bC e0);rw[bC e0];go_wp2
  go_ret
  exact .mk ⟨⟨E,E1.symm⟩,t,s.k.sc,S1.1.1,S1.1.2,OK.v,rfl⟩ S1.2
end
def Kn.GA(k:Kp)(n:Nat)(g:Int)(t:Nat->Gr.Gp)(m:Wf.M):Kp:={k.put n {k.p n with cN:=g}with gr:=t,sc:=m}
def Kn.FC(k:Kp)(z g:Int)(v:Value)(k':Kp):Prop:=∃E,v=bG E/\(k'=k\/∃(n:Nat) (Wy:Nat->List (Fin 10)) (m:Wf.M),z=n/\n<20/\Kn.lv k n=true/\Gr.fF k.gr Wy/\Gr.nG k.gr Wy (k.p n).cN g 1 (Mv.fX (k.p n).mem 16:Int)=0/\Kn.SG k m/\k'=Kn.GA k n g (Gr.pX k.gr Wy (k.p n).cN g 1 (Mv.fX (k.p n).mem 16:Int)) m)
section
variable (UE N:Nat)(d:Nat->Nat)(s:St)(w:bD)
theorem Jf(hN:N<=1000)(z g:Int)(h:bH w UE s)(hj:KJ (λ_=>False) N s.k):
  Calls prog 52 #[ai (bh ⟨s.A 0,0,bj⟩),aa az z,aa az g] w (Kn.Nx UE s w (Kn.FC s.k z g)):=by
 have AC:=hJ (dv UE s w z h);have H:=hJ (aK h hj);by_cases A:Kn.bT s.k z=0
 .obtain⟨n,rfl,hn,hl⟩:=Kn.fq A;have hs:=hj.lv n hn (λx=>x) (Kn.eP.1 hl);obtain⟨Wy,hT⟩:=hj.gr;have RS:Hid (∀V,Below w.heap.size w V->Calls prog 64 #[ai (bh ⟨s.A (9+n),0,bj⟩)] V λe w'=>e=bf (aa az (Mv.fX (s.k.p n).mem 16:Int))/\Below w.heap.size w w'):=hJ (λV b=>(oQ _ _ _ V ((h.below b).me n hn hs)).mono (by rintro _ w' ⟨rfl,b2⟩;exact⟨rfl,b.trans (b2.mono b.size)⟩));have MV:Hid (∀V,Below w.heap.size w V->Calls prog 116 #[ai (bh ⟨s.A 2,0,bj⟩),aa az (s.k.p n).cN,aa az g,aa az 1,aa az (Mv.fX (s.k.p n).mem 16:Int)] V λe w'=>e=bf (bG (Gr.nG s.k.gr Wy (s.k.p n).cN g 1 (Mv.fX (s.k.p n).mem 16:Int)))/\bH w' UE {s with k:={s.k with gr:=Gr.pX s.k.gr Wy (s.k.p n).cN g 1 (Mv.fX (s.k.p n).mem 16:Int)}}/\KF s w {s with k:={s.k with gr:=Gr.pX s.k.gr Wy (s.k.p n).cN g 1 (Mv.fX (s.k.p n).mem 16:Int)}} w'):=hJ (λV b=>(Gr.MI (s.A 2) _ g 1 _ s.k.gr Wy V (h.below b).gr hT.ways (hT.small hN)).mono (by
   rintro _ w' ⟨rfl,u,f⟩;have q:=(h.below b).jF u f.rM;exact⟨rfl,q.1,(KF.below b).trans q.2⟩))
  have CC:Hid (∀V t,bH V UE {s with k:={s.k with gr:=t}}->V.cell? ⟨s.A 0,247,bj⟩=bh (ai (bh ⟨s.A 2,0,bj⟩))/\V.cell? ⟨s.A 0,n*12+2,bj⟩=bh (aa az (s.k.p n).cN)/\V.cell? ⟨s.A 0,n*12+4,bj⟩=bh (ai (bh ⟨s.A (9+n),0,bj⟩))):=hJ (λV t k=>⟨k.oS,k.pF n hn,k.qR n hn hs⟩);have C0:Hid (∀V,Below w.heap.size w V->V.cell? ⟨s.A 0,247,bj⟩=bh (ai (bh ⟨s.A 2,0,bj⟩))/\V.cell? ⟨s.A 0,n*12+2,bj⟩=bh (aa az (s.k.p n).cN)/\V.cell? ⟨s.A 0,n*12+4,bj⟩=bh (ai (bh ⟨s.A (9+n),0,bj⟩))):=hJ (λV b=>CC.v V s.k.gr (h.below b));have ME:Hid (Gr.nG s.k.gr Wy (s.k.p n).cN g 1 (Mv.fX (s.k.p n).mem 16:Int)≠0->({s.k with gr:=Gr.pX s.k.gr Wy (s.k.p n).cN g 1 (Mv.fX (s.k.p n).mem 16:Int)}:Kp)=s.k):=hJ (λe=>by unfold Gr.pX;rw[aI e]);have HW:=hJ (aK hT.ways (aK hl hs));have DD:Hid (∀m,Kn.SG s.k m->Gr.nG s.k.gr Wy (s.k.p n).cN g 1 (Mv.fX (s.k.p n).mem 16:Int)=0->∀E,Kn.FC s.k n g (bG E) (Kn.GA s.k n g (Gr.pX s.k.gr Wy (s.k.p n).cN g 1 (Mv.fX (s.k.p n).mem 16:Int)) m)):=hJ (λm sg e E=>⟨E,rfl, .inr ⟨n,Wy,m,rfl,hn,hl,hT.ways,e,sg,rfl⟩⟩);obtain⟨kb,hk⟩:=hU (s.A 0);have HK:=hJ hk;rw[A,bB,gS]at AC;generalize (Mv.fX (s.k.p n).mem 16:Int)=rs at*;generalize (s.k.p n).cN=gp at*;generalize Gr.nG s.k.gr Wy gp g 1 rs=me at*;generalize Gr.pX s.k.gr Wy gp g 1 rs=tt at*;rw[hk]at AC CC C0|-;generalize s.A 2=a2 at*;generalize s.A (9+n)=m9 at*;go_in
  go_wp2_with fail
  refine cr AC.v ?_;go_upto_region 4 with fail
  have K0:=hJ (C0.v _ (aQ _ _));obtain⟨y1,y2,y3⟩:=K0.v;go_region_held3 (λw'=>w'.cell? ⟨kb,247,bj⟩=bh (ai (bh ⟨a2,0,bj⟩))/\w'.cell? ⟨kb,n*12+2,bj⟩=bh (aa az gp)/\w'.cell? ⟨kb,n*12+4,bj⟩=bh (ai (bh ⟨m9,0,bj⟩))) (first|exact K0.v|exact C0.v _ B4.v|exact CC.v _ _ S5.1) (
   (first
    |(go_at_call 64;refine sC (RS.v _ (by first|exact aQ _ _|exact(aQ _ _).drew)) ?_;rintro w4 b4;have B4:=hJ b4)
    |(go_at_call 116;refine sC (MV.v _ (by first|exact B4.v|exact B4.drew)) ?_;rintro w5 S5;have S5:=hJ S5)))
  by_cases e0:me=0
  .have E0:=hJ e0;rw[e0,bB];have z2:=(CC.v _ _ S5.1).2.1;have fz:=S5.1.frozen;have q:=S5.1.RV hn g;rw[show({s with k:={s.k with gr:=tt}}:St).A 0=kb from HK.v]at q fz;have MT:Hid (∀V,V=w5.setCell ⟨kb,n*12+2,bj⟩ (aa az g)->V.cell? ⟨kb,248,bj⟩=bh (ai (bh ⟨s.A 3,0,bj⟩))/\Calls prog 117 #[ai (bh ⟨s.A 3,0,bj⟩),aa az n,aa az g] V λe w'=>∃E m,e=bf (bG E)/\Kn.SG s.k m/\bH w' UE {s with k:=Kn.GA s.k n g tt m}/\KF s w {s with k:=Kn.GA s.k n g tt m} w'):=hJ (λV e=>by
    subst e;have c:=q.1.xD;rw[show({s with k:=Kn.Kp.put {s.k with gr:=tt} n {({s.k with gr:=tt}:Kp).p n with cN:=g}}:St).A 0=kb from HK.v]at c;refine⟨c,(Wf.Ct (s.A 3) s.k.sc _ n g q.1.sc).mono ?_⟩;rintro _ w' ⟨E,m,rfl,mt,u,f⟩;have r:=q.1.kH u f;exact⟨_,m,rfl,mt,r.1,S5.2.trans (q.2.trans r.2)⟩)
   obtain⟨W,hW⟩:=hU (w5.setCell ⟨kb,n*12+2,bj⟩ (aa az g));obtain⟨z8,M8⟩:=MT.v W hW.symm;have M8:=hJ M8;generalize s.A 3=a3 at*;go_wp2_with fail
   refine M8.mono ?_;rintro e w6 ⟨E,m,rfl,S6⟩;have S6:=hJ S6;go_wp2
   go_ret
   exact .mk (DD.v m S6.1 E0.v E) S6.2
  .have E1:=hJ (aK (bC e0) (ME.v e0));rw[bC e0];go_wp2
   go_ret
   exact .mk ⟨me,E1.1.symm, .inl E1.2⟩ S5.v
 .have A':=hJ (bC A);rw[bC A]at AC;generalize fJ (s.A 0) z (Kn.bT s.k z)=ap at*;generalize Kn.bT s.k z=ae at*;generalize s.A 0=kb at*;go_in
  go_wp2_with fail
  refine cr AC.v ?_;go_wp2
  go_ret
  exact .no H.1 ⟨ae,A'.symm, .inl rfl⟩
end
def p7(s:St):List Value:=(List.range 240).map λo=>Kn.pc s (o/12) (o%12)
theorem Fg(s:St):(p7 s).length=240:=by simp[p7]
theorem bH.p7{w:bD}{UE:Nat}{s:St}(h:bH w UE s):w.rangeAt (s.A 0) 0 (p7 s):=λj v hv=>by
 have hj:j<240:=by have:=(aY.1 hv).1;rwa [Fg]at this
 simp[YtpmmdkcfenjiaaaGreatDoor.p7,hj]at hv;rw[Nat.zero_add,<-hv];have:=h.cP (j/12) (j%12) bu bu;rwa [show j/12*12+j%12=j by omega]at this
theorem Rz(s:St)(x:Nat)(h:x<20):(p7 s).toArray.extract (x*12) (x*12+12)=dK (s.A (9+x)) (s.A (29+x)) (s.k.p x):=by
 have hs:(p7 s).toArray.size=240:=by simp[p7]
 apply bL;intro i;rw[Array.getElem?_extract];by_cases hi:i<12
 .rw[aJ (by rw[hs];omega),kU _ _ _ i hi];have e:(p7 s).toArray[x*12+i]? =bh (Kn.pc s ((x*12+i)/12) ((x*12+i)%12)):=by simp[p7,show x*12+i<240 by omega]
  rw[e,show(x*12+i)/12=x by omega,show(x*12+i)%12=i by omega];rfl
 .rw[aI (by rw[hs];omega),aR (by rw[dy];omega)]
theorem I7(s:St)(x:Nat)(h:x<20)(w:bD):Sem.run prog (Instr.index 75 (au (p7 s).toArray) (aa az x)) w= .ok (au (dK (s.A (9+x)) (s.A (29+x)) (s.k.p x))) w:=by
 have hu:prog.underlying 75=bh (.array 20 74):=by kernel_rfl
 have hx:=Rz s x h;have h1:(x:Int)<20:=bu
 obtain⟨A,hA⟩:=hU ((p7 s).toArray);obtain⟨B,hB⟩:=hU (dK (s.A (9+x)) (s.A (29+x)) (s.k.p x));rw[hA,hB]at hx;rw[hA,hB];simp[Instr.index,Sem.run_bind,run_underlying hu,go_sem,hx];intro c;omega
theorem M6(s:St):(prog.info? 75).map (·.size)=bh (p7 s).length:=by rw[Fg];kernel_rfl
theorem Gr.Sh{t:Nat->Gr.Gp}{Wy:Nat->List (Fin 10)}(h:Gr.fF t Wy)(g:Int):∃xs,Gr.Way t g (Gr.jM xs):=by
 by_cases v:Gr.valid t g
 .obtain⟨h0,h1,h2⟩:=v;have:=h g.toNat bu;rw[show((g.toNat:Nat):Int)=g by omega]at this;exact⟨_,this⟩
 .exact⟨[],v⟩
def Kn.Ba(k:Kp)(r:Int):Prop:=r= -1\/∃m:Nat,r=m/\m<20/\m≠0/\Kn.lv k m=true
section
variable (UE N:Nat)(d:Nat->Nat)(s:St)(w:bD)
theorem Av(g:Int)(h:bH w UE s)(hj:KJ (λ_=>False) N s.k):
  Calls prog 239 #[ai (bh ⟨s.A 0,0,bj⟩),aa az g] w λe w'=>∃r,e=bf (aa az r)/\Kn.Ba s.k r/\Below w.heap.size w w':=by
 have hsz:=hJ (M6 s);have HR:=hJ h.p7;have H:=hJ (aK h hj);obtain⟨kb,hk⟩:=hU (s.A 0);have HK:=hJ hk;rw[hk]at HR|-;clear h hj hk;go_in
 go_wp2_with (refine wpList_load_mid rfl 75 _ rfl kb 0 rfl (p7 s) (.array 20 74) HR.v bw rfl hsz.v ?_)
 go_loopw [5,6,14] (λa b i wr=>∃(k:Nat) (r p:Int),i=aa az k/\a=aa az r/\b=aa az p/\k<=20/\Hid (Kn.Ba s.k r/\Below w.heap.size w wr)) (λ_ _ i _=>20-(intOf i).toNat)
 case atStart=>exact⟨0,-1,0,rfl,rfl,rfl,bu, .inl rfl,aQ _ _⟩
 case round=>
  obtain⟨k,r,p,rfl,rfl,rfl,hk,T⟩:=hrel;by_cases hlt:k<20
  .have hltI:(k:Int)<20:=bu
   have hix:=I7 s k hlt;have P0:PB (wr.alloc (bg #[aa az 0,aa az 0,aa az 0,aa az 0,ai bj,ai bj,aa az 0,aa az 0,aa az 0,aa az 0,aa az 0,aa az 0] 74)) wr.heap.size 0 0 Pr.no:=heap_alloc_new _ _;have B0:=T.2.alloc T.2.size (bg #[aa az 0,aa az 0,aa az 0,aa az 0,ai bj,ai bj,aa az 0,aa az 0,aa az 0,aa az 0,aa az 0,aa az 0] 74);have F0:Hid (PB ((wr.alloc (bg #[aa az 0,aa az 0,aa az 0,aa az 0,ai bj,ai bj,aa az 0,aa az 0,aa az 0,aa az 0,aa az 0,aa az 0] 74)).setCells wr.heap.size 0 (dK (s.A (9+k)) (s.A (29+k)) (s.k.p k)).toList) wr.heap.size (s.A (9+k)) (s.A (29+k)) (s.k.p k)/\Below w.heap.size w ((wr.alloc (bg #[aa az 0,aa az 0,aa az 0,aa az 0,ai bj,ai bj,aa az 0,aa az 0,aa az 0,aa az 0,aa az 0,aa az 0] 74)).setCells wr.heap.size 0 (dK (s.A (9+k)) (s.A (29+k)) (s.k.p k)).toList)):=hJ ⟨P0.put _ _ _,((bE.refl _ _).setCells _ _).below B0 T.2.size (aH T.2.size (by simp))⟩;have TH:=hJ P0.there;obtain⟨A,hA⟩:=hU (dK (s.A (9+k)) (s.A (29+k)) (s.k.p k));have SZ:Hid ((prog.info? 74).map (·.size)=bh A.size):=hJ (by rw[<-hA,dy];kernel_rfl);have H1:Hid (A.all (·.oneCell')=true):=hJ (by rw[<-hA];exact pA _ _ _);have zA:=dy (s.A (9+k)) (s.A (29+k)) (s.k.p k);rw[hA]at hix F0 zA;rw[<-zA]at TH;clear hA P0 B0 zA
   go_upto_region 5 with(refine wpList_store_mid rfl 74 _ _ rfl wr.heap.size 0 A rfl rfl TH.v SZ.v H1.v ?_)
   refine cG (λW=>PB W wr.heap.size (s.A (9+k)) (s.A (29+k)) (s.k.p k)/\Below w.heap.size w W) F0.v ?_;intro W1 hW1;have S1:=hJ hW1;clear hW1 F0 TH SZ H1 hix;simp only[Act.put];obtain⟨c,hc⟩:=hU (wr.heap.size);rw[hc]at S1|-;clear hc;have FIN:Hid (∀W r p,Kn.Ba s.k r->Below w.heap.size w W->∃(k':Nat) (r' p':Int),(aa az ((k:Int)+1)=aa az k')/\aa az r=aa az r'/\aa az p=aa az p'/\k'<=20/\Hid (Kn.Ba s.k r'/\Below w.heap.size w W)):=hJ (λW r p m b=>⟨k+1,r,p,by go_num,rfl,rfl,bu,m,b⟩);have IL:=hJ (λj=>iS UE s (W1.drewN j) k ((H.1.below S1.2).drewN j) hlt _ rfl);rw[HK.v]at IL;by_cases k0:k=0
   .have kB:((k:Int)==0)=true:=by simp;omega
    have kD:decide ((k:Int)=0)=true:=by simp;omega
    clear IL k0;go_big_quiet (fail)
    go_wp2
    go_roundw
    case rel=>exact FIN.v _ _ _ T.1 (S1.2.trans ((below_drewN _ _).mono S1.2.size))
    case measure=>simp[intOf];omega
   .have kB:((k:Int)==0)=false:=by simp;omega
    have kD:decide ((k:Int)=0)=false:=by simp;omega
    cases l:Kn.lv s.k k
    .rw[l]at IL;clear k0 l;go_big_quiet ((go_at_call 60;refine Calls.quiet_of_same (IL.v _)))
     go_wp2
     go_roundw
     case rel=>exact FIN.v _ _ _ T.1 (S1.2.trans ((below_drewN _ _).mono S1.2.size))
     case measure=>simp[intOf];omega
    .have hh:=H.2.lv k hlt (λx=>x) (Kn.eP.1 l);obtain⟨Wy,hW⟩:=H.2.gr;obtain⟨xs,hx⟩:=Gr.Sh hW.ways (s.k.p k).cN;have UN:Hid (∀V,Below W1.heap.size W1 V->Calls prog 172 #[ai (bh ⟨s.A 2,0,bj⟩),aa az (s.k.p k).cN,aa az g] V λe w'=>∃b,e=bf (ar b)/\Below W1.heap.size W1 w'):=hJ (λV b=>(Gr.An (s.A 2) _ g s.k.gr xs V ((H.1.below S1.2).below b).gr hx).mono (by rintro _ w' ⟨rfl,b2⟩;exact⟨_,rfl,b.trans (b2.mono b.size)⟩));have IS:Hid (∀V,Below W1.heap.size W1 V->Calls prog 60 #[ai (bh ⟨s.A 0,0,bj⟩),aa az k] V λe w'=>e=bf (ar true)/\w'=V):=hJ (λV b=>iS UE s V k ((H.1.below S1.2).below b) hlt _ l);have C2:Hid (∀V,Below W1.heap.size W1 V->V.cell? ⟨s.A 0,247,bj⟩=bh (ai (bh ⟨s.A 2,0,bj⟩))/\V.cell? ⟨c,2,bj⟩=bh (aa az (s.k.p k).cN)):=hJ (λV b=>⟨((H.1.below S1.2).below b).oS,(S1.1.same (b.block _ S1.1.lt)).cell 2 bu⟩);have RE:Hid (∀V,Below W1.heap.size W1 V->V.cell? ⟨c,4,bj⟩=bh (ai (bh ⟨s.A (9+k),0,bj⟩))/\Calls prog 64 #[ai (bh ⟨s.A (9+k),0,bj⟩)] V λe w'=>∃v,e=bf (aa az v)/\Below W1.heap.size W1 w'):=hJ (λV b=>by
      have K:=(H.1.below S1.2).below b;have q:=(S1.1.same (b.block _ S1.1.lt)).cell 4 bu;refine⟨by rw[q];show bh (Kn.ptr _ (s.k.p k).has)=_;rw[hh];rfl,(oQ _ _ _ V (K.me k hlt hh)).mono ?_⟩;rintro _ w' ⟨rfl,b2⟩;exact⟨_,rfl,b.trans (b2.mono b.size)⟩)
     have LM:Hid (Kn.Ba s.k k):=hJ (.inr ⟨k,rfl,hlt,k0,l⟩);have B9:Hid (∀V,Below W1.heap.size W1 V->Below w.heap.size w V):=hJ (λV b=>S1.2.trans (b.mono S1.2.size));rw[HK.v]at IS C2;generalize (s.k.p k).cN=gp at*;generalize s.A 2=a2 at*;generalize s.A (9+k)=m9 at*;clear IL k0 l hh hW hx;have K0:=hJ (C2.v _ (aQ _ _));obtain⟨y1,y2⟩:=K0.v;go_region_held3 (λw'=>w'.cell? ⟨kb,247,bj⟩=bh (ai (bh ⟨a2,0,bj⟩))/\w'.cell? ⟨c,2,bj⟩=bh (aa az gp)) (first|exact K0.v|exact C2.v _ B4.v) (
      (first
       |(go_at_call 60;refine cr (IS.v _ (by first|exact aQ _ _|exact(aQ _ _).drew)) ?_)
       |(go_at_call 172;refine(UN.v _ (by first|exact aQ _ _|exact(aQ _ _).drew)).mono ?_;rintro e w4 ⟨bb,rfl,b4⟩;have B4:=hJ b4;clear b4)))
     cases bb
     .go_wp2
      go_roundw
      case rel=>exact FIN.v _ _ _ T.1 (B9.v _ B4.v)
      case measure=>simp[intOf];omega
     .obtain⟨z4,R4⟩:=RE.v _ B4.v;have R4:=hJ R4;go_wp2_with fail
      refine R4.mono ?_;rintro e w5 ⟨v,rfl,b5⟩;have B5:=hJ b5;clear b5 z4;by_cases gt:p<v
      .go_wp2
       go_roundw
       case rel=>exact FIN.v _ _ _ LM.v (B9.v _ B5.v)
       case measure=>simp[intOf];omega
      .go_wp2
       go_roundw
       case rel=>exact FIN.v _ _ _ T.1 (B9.v _ B5.v)
       case measure=>simp[intOf];omega
  .obtain rfl:k=20:=bu
   go_wp2
   go_ret
   exact⟨r,rfl,T.v⟩
end
namespace Kn
def Tl(k k':Kp):Prop:=∃m y q:Nat,m<20/\m≠0/\lv k m=true/\k.sp.of m=y+1/\(k.p m).par=(q:Int)/\lS k m 137 y q k'
def QA:Nat->Kp->Kp->Prop
 |0,k,k'=>k'=k
 |j+1,k,k'=>∃k1,QA j k k1/\Tl k1 k'
section
variable {N:Nat}{d:Nat->Nat}{k k':Kp}{n z:Nat}
theorem KH.enc(h:KH N d k)(e:Tl k k'):KH N d k':=by
 obtain⟨m,y,q,h1,h2,h3,h4,h5,h6⟩:=e;exact h.end h1 h2 h3 h4 h5 h6
theorem KH.QT(h:KH N d k):∀j {k':Kp},QA j k k'->KH N d k'
 |0,_,e=>by rw[show _=k from e];exact h
 |j+1,_,⟨_,a,b⟩=>(h.QT j a).enc b
theorem Ri(k:Kp)(q m:Nat):((pQ k q).p m).st=(k.p m).st/\((pQ k q).p m).cN=(k.p m).cN:=by
 unfold pQ;split
 .unfold iN;by_cases c:m=q
  .subst c;rw[bF];exact⟨rfl,rfl⟩
  .rw[bM _ _ _ _ c];exact⟨rfl,rfl⟩
 .exact⟨rfl,rfl⟩
theorem KH.QR(h:KH N d k)(hn:n<20)(n0:n≠0)(l:lv k n=true)(ho:k.sp.of n=z+1){q:Nat}{c:Int}(et:lS k n c z q k'):lv k' n=false/\∀m,m<20->lv k' m=true->lv k m=true/\(k'.p m).cN=(k.p m).cN:=by
 obtain⟨k1,k3,s1,mt,rfl⟩:=et;have hv:=h.ki.vi;have md:=hv.yY hn n0 l ho s1 mt;have mq:=hv.mq hn n0 l ho s1 mt;have e:∀m,((pQ (gH k3 (iR k3 n) (Sp.eH k3.sp (z:Int) 1:Nat)) q).p m).st=(k3.p m).st/\((pQ (gH k3 (iR k3 n) (Sp.eH k3.sp (z:Int) 1:Nat)) q).p m).cN=(k3.p m).cN:=λm=>Ri _ _ _;have nl:lv (pQ (gH k3 (iR k3 n) (Sp.eH k3.sp (z:Int) 1:Nat)) q) n=false:=by unfold lv;rw[(e n).1,md.pn.1];rfl
 refine⟨nl,λm hm lm=>?_⟩;rw[(e m).2];by_cases c:m=n
 .subst c;rw[nl]at lm;cases lm
 .have s:=eP.1 lm;rw[(e m).1]at s;rcases mq.ot m hm c with⟨a,_⟩|⟨a,_⟩
  .rw[a]at s|-;exact⟨eP.2 s,rfl⟩
  .rw[a]at s;exact aZ s bA
theorem EU(a:∀m,m<20->lv k' m=true->lv k m=true):∀j,j<=20->(dV k' j).length<=(dV k j).length/\(lv k n=true->lv k' n=false->n<j->(dV k' j).length<(dV k j).length)
 |0,_=>⟨aL _,λ_ _ h=>aZ h bu⟩
 |j+1,hj=>by
  obtain⟨i1,i2⟩:=EU a j bu;cases x:lv k' j
  .rw[wu x];cases y:lv k j
   .rw[wu y];exact⟨i1,λh1 h2 h3=>i2 h1 h2 (by rcases Nat.lt_succ_iff_lt_or_eq.1 h3 with c|c;exact c;subst c;rw[y]at h1;cases h1)⟩
   .rw[qG y,List.length_append];exact⟨by simp;omega,λ_ _ _=>by simp;omega⟩
  .have y:=a j bu x;rw[qG x,qG y,List.length_append,List.length_append];exact⟨by simp;omega,λh1 h2 h3=>by
    have:=i2 h1 h2 (by rcases Nat.lt_succ_iff_lt_or_eq.1 h3 with c|c;exact c;subst c;rw[x]at h2;cases h2);simp;omega⟩
def Sx:Option Value->Bool
 |some (aa _ q)=>q==1
 |_=>false
def tZ(b:Nat)(W:bD):Nat:=((List.range 20).filter λn=>Sx (W.cell? ⟨b,n*12,bj⟩)).length
end
end Kn
theorem bH.tZ{w:bD}{UE:Nat}{s:St}(h:bH w UE s):Kn.tZ (s.A 0) w=(Kn.dV s.k 20).length:=by
 unfold Kn.tZ Kn.dV;rw[List.filter_congr (λn hn=>?_)];rw[h.tC n (by simpa using hn)];show(((s.k.p n).st:Int)==1)=decide ((s.k.p n).st=1);rw[Bool.eq_iff_iff];simp;omega
def Kn.Uh(k:Kp):Prop:=∀g,g<10->(k.gr g).there=true->(k.gr g).lp= -1/\(k.gr g).lq= -1
def Kn.Qz(j:Nat)(k k':Kp):Prop:=Kn.QA j k k'/\(Kn.Uh k->j=0)
theorem Gr.Way.in{t:Nat->Gr.Gp}:∀{L:List Nat} {g:Int},Gr.Way t g L->∀x∈L,(t x).there=true
 |[],_,_,_,h=>by cases h
 |_::_,_,⟨_,_,a,b⟩,x,h=>by
  rcases List.mem_cons.1 h with rfl|h
  .exact a
  .exact Gr.Way.in b x h
theorem Gr.Mf{t:Nat->Gr.Gp}{Wy:Nat->List (Fin 10)}{p q:Int}{y:Fin 10}(h:Gr.gN t Wy p q y=true):(t y.val).lp≠ -1\/(t y.val).lq≠ -1:=by
 unfold Gr.gN Gr.lU at h;simp only[Bool.or_eq_true,decide_eq_true_eq]at h;exact h.imp (λx=>x.1) (λx=>x.1)
def Kn.wY(k:Kp)(n:Nat)(E:Int)(k':Kp):Prop:=∃j k1,Kn.Qz j k k1/\((Kn.lv k1 n=true/\(k1.p n).cN=(k.p n).cN/\∃Wy,Gr.fF k1.gr Wy/\E=Gr.iB k1.gr Wy (k.p n).cN 0 1/\k'={k1 with gr:=Gr.j6 k1.gr Wy (k.p n).cN 0 1})\/(E=6/\k'=k1))
section
variable (UE N:Nat)(d:Nat->Nat)(s:St)(w:bD)
theorem Jq{t:Nat->Gr.Gp}{Wy:Nat->List (Fin 10)}(b:Nat)(g:Int)(V:bD)(h:Gr.bP V b t)(hW:Gr.fF t Wy)(hS:Gr.Small t):Calls prog 238 #[ai (bh ⟨b,0,bj⟩),aa az g,aa az 0,aa az 1] V λe w'=>∃(f:Int) (l:Bool),e=bf (ao #[aa az f,ar l])/\(l=true->∃g,g<10/\(t g).there=true/\((t g).lp≠ -1\/(t g).lq≠ -1))/\Below V.heap.size V w':=by
 by_cases r:Gr.eS t g 0 1=0
 .obtain⟨n,rfl,hn,_⟩:=Gr.mD r;refine(Gr.Mh b n 0 1 t Wy V h hW hS hn r).mono ?_;rintro _ w' ⟨⟨_,rfl⟩|⟨_,x,_,wy,_,lk,rfl⟩,b⟩
  .exact⟨0,false,rfl,nofun,b⟩
  .exact⟨_,true,rfl,λ_=>⟨x,x.2,(hW n hn).in x (List.mem_map_of_mem (by rw[wy];simp)),Gr.Mf lk⟩,b⟩
 .refine(Gr.Jr b g 0 1 t V h r).mono ?_;rintro _ w' ⟨rfl,b⟩;exact⟨0,false,rfl,nofun,b⟩
theorem LZ(n:Nat)(hN:N<=900)(h:bH w UE s)(hh:KH N d s.k)(hn:n<20)(l:Kn.lv s.k n=true):
  Calls prog 184 #[ai (bh ⟨s.A 0,0,bj⟩),aa az n] w (Kn.Nx UE s w λv k'=>∃E,v=bG E/\Kn.wY s.k n E k'):=by
 have hnI:(n:Int)<20:=bu
 have H:=hJ (aK h (aK hh (aK hN l)));have cg:=h.pF n hn;obtain⟨gp,hg⟩:=hU ((s.k.p n).cN);obtain⟨kb,hk⟩:=hU (s.A 0);have HK:=hJ (aK hk hg);rw[hg,hk]at cg;rw[hk];go_in
 go_wp2_with fail
 go_loopw [6] (λ_ wr=>∃(j:Nat) (s1:St),Hid (Kn.Qz j s.k s1.k/\bH wr UE s1/\KF s w s1 wr/\KH N d s1.k/\Kn.lv s1.k n=true/\(s1.k.p n).cN=gp/\s1.A 0=kb)) (λ_ wr=>Kn.tZ kb wr)
 case atStart=>exact⟨0,s,⟨rfl,λ_=>rfl⟩,H.1,KF.refl _ _,H.2.1,H.2.2.2,HK.2,HK.1⟩
 case round=>
  obtain⟨j,s1,T⟩:=hrel;obtain⟨en,K1,F1,kh,ln,eg,ea⟩:=T.v;obtain⟨Wy,hW⟩:=kh.ki.vi.kj.gr;have N9:=H.2.2.1;have LA:=hJ (Jq (s1.A 2) gp wr K1.gr hW.ways (hW.small bu));have CH:Hid (∀V,Below wr.heap.size wr V->Calls prog 65 #[ai (bh ⟨s1.A 2,0,bj⟩),aa az gp,aa az 0,aa az 1] V λe w'=>∃E k',e=bf (bG E)/\Kn.wY s.k n E k'/\bH w' UE {s1 with k:=k'}/\KF s w {s1 with k:=k'} w'):=hJ (λV b=>(Gr.mM (s1.A 2) gp 0 1 s1.k.gr Wy V (K1.below b).gr hW.ways (hW.small bu)).mono (by
   rintro _ w' ⟨rfl,u,f⟩;have q:=(K1.below b).jF u f.rM;exact⟨_,_,rfl,⟨j,s1.k,en, .inl ⟨ln,by rw[eg,HK.2],Wy,hW.ways,by rw[HK.2],by rw[HK.2]⟩⟩,q.1,F1.trans ((KF.below b).trans q.2)⟩))
  have C2:Hid (∀V,Below wr.heap.size wr V->V.cell? ⟨kb,247,bj⟩=bh (ai (bh ⟨s1.A 2,0,bj⟩))):=hJ (λV b=>by rw[<-ea];exact(K1.below b).oS);have c2:=C2.v _ (aQ _ _);generalize s1.A 2=a2 at*;go_wp2_with fail
  refine LA.mono ?_;rintro e w2 ⟨f,lk,rfl,hl,b2⟩;have HL:=hJ hl;cases lk
  .have c2:=C2.v _ b2;go_wp2_with fail
   refine(CH.v _ b2).mono ?_;rintro e w3 ⟨E,k',rfl,S3⟩;have S3:=hJ S3;go_wp2
   go_ret
   exact⟨_,_,rfl,⟨E,rfl,S3.1⟩,S3.2⟩
  .have HY:=hJ (HL.v rfl);have GR:=hJ (Av UE N s1 w2 f (T.2.1.below b2) T.2.2.2.1.ki.vi.kj);rw[T.2.2.2.2.2.2]at GR;go_wp2_with fail
   refine GR.mono ?_;rintro e w3 ⟨r,rfl,mo,b3⟩;have B3:=hJ (b2.trans (b3.mono b2.size));rcases mo with rfl|⟨m,rfl,hm,m0,lm⟩
   .go_wp2
    go_ret
    exact⟨_,s1,rfl,⟨6,rfl,j,s1.k,T.1, .inr ⟨rfl,rfl⟩⟩,T.2.1.below B3.v,T.2.2.1.trans (KF.below B3.v)⟩
   .have kh:=T.2.2.2.1;obtain⟨y,hy⟩:=kh.of hm (by rw[Kn.eP.1 lm];omega);obtain⟨q,fU,qm,hp⟩:=kh.ki.pr m hm m0 (by rw[Kn.eP.1 lm];omega);have ED:=hJ (wm UE N d H.2.2.1 s1 w3 m y q 137 (T.2.1.below B3.v) kh.ki.vi hm m0 lm hy fU qm hp (λx hx _ lx hx2=>kh.ki.fi x hx lx hx2));have CO:Hid (∀k',Kn.lS s1.k m 137 y q k'->Kn.Qz (j+1) s.k k'/\KH N d k'/\(Kn.dV k' 20).length<(Kn.dV s1.k 20).length/\(Kn.lv k' n=true->(k'.p n).cN=gp)):=hJ (λk' et=>by
     have es:=kh.QR hm m0 lm hy et;refine⟨⟨⟨s1.k,T.1.1,m,y,q,hm,m0,lm,hy,hp,et⟩,λnl=>?_⟩,kh.end hm m0 lm hy hp et,(Kn.EU (λx hx lx=>(es.2 x hx lx).1) 20 (aL _)).2 lm es.1 hm,λln=>((es.2 n hn ln).2).trans T.2.2.2.2.2.1⟩;obtain⟨g,hg,th,q⟩:=HY.v;have e:=T.1.1;rw[T.1.2 nl]at e;rw[show s1.k=s.k from e]at q th;have:=nl g hg th;omega)
    have mB:((m:Int)== -1)=false:=by simp
    rw[T.2.2.2.2.2.2]at ED;go_wp2_with fail
    refine ED.mono ?_;rintro e w4 ⟨k',rfl,et,K4,F4⟩;have S4:=hJ (aK (CO.v k' et) (aK K4 (T.2.2.1.trans ((KF.below B3.v).trans F4))));have IL:=hJ (iS UE {s1 with k:=k'} w4 n K4 hn _ rfl);rw[show({s1 with k:=k'}:St).A 0=kb from T.2.2.2.2.2.2]at IL;have ME:Hid (Kn.tZ kb w4<Kn.tZ kb wr):=hJ (by
     have a:=K4.tZ;have b:=T.2.1.tZ;rw[show({s1 with k:=k'}:St).A 0=kb from T.2.2.2.2.2.2]at a;rw[T.2.2.2.2.2.2]at b;rw[a,b];exact S4.1.2.2.1)
    go_wp2_with fail
    refine cr IL.v ?_;cases lv:Kn.lv ({s1 with k:=k'}:St).k n
    .clear lv;go_wp2
     go_ret
     exact⟨_,_,rfl,⟨6,rfl,j+1,k',S4.1.1, .inr ⟨rfl,rfl⟩⟩,S4.2⟩
    .have LV:=hJ lv;go_wp2
     go_roundw
     case rel=>exact⟨j+1,{s1 with k:=k'},S4.1.1,S4.2.1,S4.2.2,S4.1.2.1,LV.v,S4.1.2.2.2 LV.v,T.2.2.2.2.2.2⟩
     case measure=>exact ME.v

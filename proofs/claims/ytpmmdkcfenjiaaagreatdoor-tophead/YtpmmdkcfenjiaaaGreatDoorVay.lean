import Derived.Test.YtpmmdkcfenjiaaaGreatDoorVax
set_option maxRecDepth 100000
set_option maxHeartbeats 1000000
namespace Go.Proofs.YtpmmdkcfenjiaaaGreatDoor
open Go.RowKit
open Kn (Pr Kp St us KB)
def Kn.lv (k:Kp)(n:Nat):Bool:=decide ((k.p n).st=1)
def Kn.bc (k:Kp)(z:Int):Int:=if z<0\/20<=z then 1 else if Kn.lv k z.toNat=true then 0 else 2
theorem Kn.fv {k:Kp}{z:Int}(h:Kn.bc k z=0): ∃n:Nat,z=n/\n<20/\Kn.lv k n=true:=by
 unfold Kn.bc at h;by_cases c:z<0\/20<=z
 ·rw[aJ c]at h;omega
 ·rw[aI c]at h;by_cases d:Kn.lv k z.toNat=true
  ·exact⟨z.toNat,by omega,by omega,d⟩
  ·rw[aI d]at h;omega
theorem Kn.oc {k:Kp}{n:Nat}(hn:n<20)(h:Kn.lv k n=true):Kn.bc k (n:Int)=0:=by
 unfold Kn.bc;rw[aI (by omega),hU,aJ h]
def fP (b:Nat)(z E:Int):Value:=if E=0 then .pointer (some ⟨b,z.toNat*12,none⟩)else .pointer none
theorem gN (b n:Nat):fP b (n:Int) 0= .pointer (some ⟨b,n*12,none⟩):=by unfold fP;rw[aJ rfl,hU]
theorem Di {b:Nat}{z E:Int}(h:E≠0):fP b z E= .pointer none:=aI h
section
variable (base : Nat) (s : St) (w : bD)
theorem j5 (n:Nat)(h:ak w base s)(hn:n<20)(v:Bool)(hv:Kn.lv s.k n=v):
  Calls Tryz.prog 60 #[.pointer (some ⟨s.A 0,0,none⟩), .int .i64 n] w fun e w'=>e= .returned (.bool v)/\w'=w:=by
 have c0:=h.ux n hn;have hnI:(n:Int)<20:=by omega
 generalize s.A 0=kb at*;unfold Kn.lv at hv;generalize (s.k.p n).st=st at*;clear h;by_cases d:st=1
 ·subst d;have E:v=true:=by rw[<-hv];rfl
  subst E;clear hv;have c0':w.cell? ⟨kb,n*12,none⟩=some (.int .i64 1):=c0;clear c0;go_in
  go_wp2
  go_ret
  exact⟨rfl,rfl⟩
 ·have E:v=false:=by rw[<-hv];exact aT d
  subst E;have d1:((st:Int)==1)=false:=by simp;omega
  clear hv d;go_in
  go_wp2
  go_ret
  exact⟨rfl,rfl⟩
theorem dg (z:Int)(h:ak w base s):
  Calls Tryz.prog 57 #[.pointer (some ⟨s.A 0,0,none⟩), .int .i64 z] w fun e w'=>e= .returned (.tuple #[fP (s.A 0) z (Kn.bc s.k z),aq (Kn.bc s.k z)])/\w'=w:=by
 by_cases c:z<0\/20<=z
 ·have E:Hid (Kn.bc s.k z=1/\fP (s.A 0) z 1= .pointer none):=hZ ⟨aJ c,Di (by decide)⟩;generalize s.A 0=kb at*;clear h;by_cases c1:z<0
  ·clear c;go_in
   go_wp2
   go_ret2
   rw[E.out.1,E.out.2];exact⟨rfl,rfl⟩
  ·have c2:20<=z:=by omega
   clear c;go_in
   go_wp2
   go_ret2
   rw[E.out.1,E.out.2];exact⟨rfl,rfl⟩
 ·obtain⟨n,rfl⟩: ∃n:Nat,z=n:=⟨z.toNat,by omega⟩;have hn:n<20:=by omega
  have hnI:(n:Int)<20:=by omega
  have E0:Kn.bc s.k (n:Int)=if Kn.lv s.k n=true then 0 else 2:=by unfold Kn.bc;rw[aI c,hU]
  obtain⟨v,hv⟩:=nJ (Kn.lv s.k n);have LV:=hZ (j5 base s w n h hn v hv);clear h;cases v
  ·have E:Hid (Kn.bc s.k (n:Int)=2/\fP (s.A 0) (n:Int) 2= .pointer none):=hZ ⟨by rw[E0,hv];rfl,Di (by decide)⟩;clear c E0 hv;generalize s.A 0=kb at*;go_in
   go_wp2_with fail
   refine LV.out.mono ?_;rintro e w1 ⟨rfl,hw⟩;subst w1;go_wp2
   go_ret2
   rw[E.out.1,E.out.2];exact⟨rfl,rfl⟩
  ·have E:Hid (Kn.bc s.k (n:Int)=0/\fP (s.A 0) (n:Int) 0= .pointer (some ⟨s.A 0,n*12,none⟩)):=hZ ⟨by rw[E0,hv];rfl,gN _ _⟩;clear c E0 hv;generalize s.A 0=kb at*;go_in
   go_wp2_with fail
   refine LV.out.mono ?_;rintro e w1 ⟨rfl,hw⟩;subst w1;go_wp2
   go_ret2
   rw[E.out.1,E.out.2];exact⟨rfl,rfl⟩
theorem fT (z:Int)(h:ak w base s):
  Calls Tryz.prog 62 #[.pointer (some ⟨s.A 0,0,none⟩), .int .i64 z] w fun e w'=>e= .returned (.int .i64 (Sp.cQ s.k.sp z:Int))/\w'=w:=by
 have c0:=h.uw;have OF:=hZ (Ae (s.A 1) z s.k.sp w h.sp);generalize s.A 0=kb at*;clear h;go_in
 go_wp2_with fail
 refine OF.out.mono ?_;rintro e w1 ⟨rfl,hw⟩;subst w1;go_wp2
 go_ret
 exact⟨rfl,rfl⟩
theorem uE (x z:Int)(h:ak w base s)(h0: ∀n,n<6->s.k.sp.ay n 0=0):
  Calls Tryz.prog 70 #[.pointer (some ⟨s.A 0,0,none⟩), .int .i64 x, .int .i64 z] w fun e w'=>e= .returned (.int .i64 (Sp.js s.k.sp x z:Int))/\w'=w:=by
 have c0:=h.uw;have OF:=hZ (J7 (s.A 1) x z s.k.sp w h.sp h0);generalize s.A 0=kb at*;clear h h0;go_in
 go_wp2_with fail
 refine OF.out.mono ?_;rintro e w1 ⟨rfl,hw⟩;subst w1;go_wp2
 go_ret
 exact⟨rfl,rfl⟩
theorem yS (z:Int)(h:ak w base s):
  Calls Tryz.prog 150 #[.pointer (some ⟨s.A 0,0,none⟩), .int .i64 z] w fun e w'=>e= .returned (.int .i64 (Sp.dZ s.k.sp z 1:Int))/\w'=w:=by
 have c0:=h.uw;have OF:=hZ (Ax (s.A 1) z 1 s.k.sp w h.sp);generalize s.A 0=kb at*;clear h;go_in
 go_wp2_with fail
 refine OF.out.mono ?_;rintro e w1 ⟨rfl,hw⟩;subst w1;go_wp2
 go_ret
 exact⟨rfl,rfl⟩
theorem oM (z:Int)(h:ak w base s):
  Calls Tryz.prog 75 #[.pointer (some ⟨s.A 0,0,none⟩), .int .i64 z] w fun e w'=> ∃v,e= .returned v/\LO w (dv s.k.sp z) v w':=by
 have c0:=h.uw;have OF:=hZ (z7 (s.A 1) z s.k.sp w h.sp);generalize s.A 0=kb at*;clear h;go_in
 go_wp2_with fail
 refine OF.out.mono ?_;rintro e w1 ⟨v,rfl,hL⟩;have HL:=hZ hL;clear hL;go_wp2
 go_ret
 exact⟨v,rfl,HL.out⟩
def Kn.hd (k:Kp)(n:Nat):Nat:=Sp.dZ k.sp (Sp.cQ k.sp (n:Int):Int) 1
theorem mS (n:Nat)(h:ak w base s)(v:Bool)(hv:decide (Kn.hd s.k n=n)=v):
  Calls Tryz.prog 93 #[.pointer (some ⟨s.A 0,0,none⟩), .int .i64 n] w fun e w'=>e= .returned (.bool v)/\w'=w:=by
 have SP:=hZ (fT base s w (n:Int) h);have HD:=hZ (yS base s w (Sp.cQ s.k.sp (n:Int):Int) h);unfold Kn.hd at hv;generalize Sp.dZ s.k.sp (Sp.cQ s.k.sp (n:Int):Int) 1=x at*;generalize Sp.cQ s.k.sp (n:Int)=y at*;generalize s.A 0=kb at*;clear h;by_cases d:x=n
 ·subst d;have E:v=true:=by rw[<-hv];simp
  subst E;clear hv;go_in
  go_wp2_with fail
  refine SP.out.mono ?_;rintro e w1 ⟨rfl,hw⟩;subst w1;go_wp2_with fail
  refine HD.out.mono ?_;rintro e w1 ⟨rfl,hw⟩;subst w1;go_wp2
  go_ret
  exact⟨rfl,rfl⟩
 ·have E:v=false:=by rw[<-hv];exact aT d
  subst E;have d1:((x:Int)==(n:Int))=false:=by simp;omega
  clear hv d;go_in
  go_wp2_with fail
  refine SP.out.mono ?_;rintro e w1 ⟨rfl,hw⟩;subst w1;go_wp2_with fail
  refine HD.out.mono ?_;rintro e w1 ⟨rfl,hw⟩;subst w1;go_wp2
  go_ret
  exact⟨rfl,rfl⟩
def Kn.iD (k:Kp)(n:Nat):List Nat:=(List.range n).filter (Kn.lv k)
theorem Kn.GF {k:Kp}{n:Nat}(h:Kn.lv k n=true):Kn.iD k (n+1)=Kn.iD k n++[n]:=by
 unfold Kn.iD;rw[List.range_succ,List.filter_append];simp[h]
theorem Kn.Jj {k:Kp}{n:Nat}(h:Kn.lv k n=false):Kn.iD k (n+1)=Kn.iD k n:=by
 unfold Kn.iD;rw[List.range_succ,List.filter_append];simp[h]
theorem Kn.GQ (k:Kp)(n:Nat):(Kn.iD k n).length<=n:=by
 have:=bW (Kn.lv k) (List.range n);simpa[Kn.iD]using this
theorem vC (h:ak w base s):
  Calls Tryz.prog 15 #[.pointer (some ⟨s.A 0,0,none⟩)] w fun e w'=> ∃v,e= .returned v/\LO w (Kn.iD s.k 20) v w':=by
 obtain⟨i0,hi,hz0,hz1,hz2⟩:=info_parts vG;have H:=hZ h;clear h;go_in
 go_wp2_with fail
 go_loopw [3,5] (fun l i wr=> ∃(k:Nat),i= .int .i64 k/\k<=20/\Hid (LO w (Kn.iD s.k k) l wr)) (fun _ i _=>20-(intOf i).toNat)
 case atStart=>exact⟨0,rfl,by omega,LO.nil w⟩
 case round=>
  obtain⟨k,rfl,hk,R⟩:=hrel;by_cases hlt:k<20
  ·have hltI:(k:Int)<20:=by omega
   cases hth:Kn.lv s.k k
   ·have HM:=hZ (Kn.Jj hth);have LV:=hZ (j5 base s wr k (H.out.below R.out.bF) hlt false hth);clear hth;go_wp2_with fail
    refine LV.out.mono ?_;rintro e w1 ⟨rfl,hw⟩;subst w1;go_wp2
    go_roundw
    case rel=>exact⟨k+1,by go_num,by omega,by rw[HM.out];exact R⟩
    case measure=>simp[intOf];omega
   ·have HM:=hZ (Kn.GF hth);have LV:=hZ (j5 base s wr k (H.out.below R.out.bF) hlt true hth);obtain⟨a,cap,hv⟩:=fC R.out.own;rw[hv];have HV:=hZ hv;have hlm:=Kn.GQ s.k k;generalize hN:(Kn.iD s.k k).length=N at*;have HN:=hZ hN;clear hv hN hth;go_wp2_with fail
    refine LV.out.mono ?_;rintro e w1 ⟨rfl,hw⟩;subst w1;go_wp2_with (at_builtin;refine wpList_append_lies _ rfl _ _ 46 (by rfl) w.heap.size 3 i0 (.int .i64 0) 1 8 Tryz.underlying46 hi hz0 hz1 hz2 rfl (by decide) (.slice a N cap) N (rowOf (Kn.iD s.k k)) (by rfl) (by rw[<-HV.out,<-HN.out];exact R.out.own.alloc _) ⟨wr.heap.size,0,none⟩ 1 1 [.int .i64 k] (by rfl) rfl (cell_one_new _ _ _) (by simp[Value.oneCell']) (by decide) (by unfold maxLen;omega) (by omega) (by have:=R.out.bF.size;simp;omega) (wr.heap.size+1) (by simp) ?_;intro gg cap2 w1 hown hgrow hat hlt2;have Q1:Hid (LO w (Kn.iD s.k k++[k]) (.slice (some ⟨gg,0,none⟩) (N+1) cap2) w1):=R.out.more HN.out hown _ (by rw[HV.out];exact hgrow);clear hown hgrow hat hlt2)
    go_roundw
    case rel=>exact⟨k+1,by go_num,by omega,by rw[HM.out];exact Q1⟩
    case measure=>simp[intOf];omega
  ·obtain rfl:k=20:=by omega
   go_wp2
   go_ret
   exact⟨_,rfl,R.out⟩
def Kn.fF (k:Kp)(n:Nat)(E:Int):Prop:=(E=0/\n<20/\(k.p n).st=0/\ ∀m,m<n->(k.p m).st≠0)\/(E=4/\n=0/\ ∀m,m<20->(k.p m).st≠0)
theorem DC (h:ak w base s):
  Calls Tryz.prog 63 #[.pointer (some ⟨s.A 0,0,none⟩)] w fun e w'=> ∃(n:Nat) (E:Int),e= .returned (.tuple #[.int .i64 (n:Int),aq E])/\Kn.fF s.k n E/\w'=w:=by
 have H:=hZ h;obtain⟨kb,hkb⟩:=nJ (s.A 0);have HK:=hZ hkb;rw[hkb];clear h hkb;go_in
 go_wp2_with fail
 go_loopw [4,5] (fun _ i wr=> ∃(k:Nat),i= .int .i64 k/\k<=20/\wr=w/\Hid (∀m,m<k->(s.k.p m).st≠0)) (fun _ i _=>20-(intOf i).toNat)
 case atStart=>exact⟨0,rfl,by omega,rfl,hZ (fun m hm=>aZ hm (Nat.not_lt_zero m))⟩
 case round=>
  obtain⟨k,rfl,hk,hwr,R⟩:=hrel;subst wr;by_cases hlt:k<20
  ·have hltI:(k:Int)<20:=by omega
   have c0:=H.out.ux k hlt;rw[HK.out]at c0;by_cases d:(s.k.p k).st=0
   ·have FT:Hid (Kn.fF s.k k 0):=hZ (.inl ⟨rfl,hlt,d,R.out⟩);rw[d]at c0;have c0':w.cell? ⟨kb,k*12,none⟩=some (.int .i64 0):=c0;clear d c0;go_wp2
    go_ret2
    exact⟨k,0,by rw[aa];rfl,FT.out,rfl⟩
   ·have R1:Hid (∀m,m<k+1->(s.k.p m).st≠0):=hZ (fun m hm=>by
     by_cases e:m=k
     ·rw[e];exact d
     ·exact R.out m (by omega))
    generalize (s.k.p k).st=st at*;have d1:((st:Int)==0)=false:=by simp;omega
    clear d;go_wp2
    go_roundw
    case rel=>exact⟨k+1,by go_num,by omega,by first|rfl|trivial,R1⟩
    case measure=>simp[intOf];omega
  ·obtain rfl:k=20:=by omega
   have FT:Hid (Kn.fF s.k 0 4):=hZ (.inr ⟨rfl,rfl,R.out⟩);go_wp2
   go_ret2
   exact⟨0,4,rfl,FT.out,rfl⟩

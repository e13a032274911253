import Derived.Test.YtpmmdkcfenjiaaaGreatDoorRows
import Derived.LaidMore
import Derived.Lay
import Derived.SevenTiedAt
import Derived.Test.YtpmmdkcfenjiaaaGreatDoorVbn
import Derived.Test.YtpmmdkcfenjiaaaGreatDoorVbo
import Derived.Test.YtpmmdkcfenjiaaaGreatDoorVbm
import Derived.Test.YtpmmdkcfenjiaaaGreatDoorVbl
set_option linter.unusedSimpArgs false
set_option maxRecDepth 100000
set_option maxHeartbeats 20000000
namespace Go.Proofs.YtpmmdkcfenjiaaaGreatDoor
open Go.RowKit
theorem ve (b1 b2 o1 o2 n c1 c2:Nat)(f:Nat->Int)(hn:n<1000000)(w:bD)(h1: ∀i,i<n->w.cell? ⟨b1,o1+i,none⟩=some (.int .i64 (f i)))(h2: ∀i,i<n->w.cell? ⟨b2,o2+i,none⟩=some (.int .i64 (f i))):
  Calls Tryz.prog 17 #[.slice (some ⟨b1,o1,none⟩) n c1, .slice (some ⟨b2,o2,none⟩) n c2] w fun e w'=>e= .returned (.bool true)/\ ∃k,w'=w.drewN k:=by
 go_in
 go_wp2
 go_loopw [5] (fun i wr=> ∃(k nq:Nat),k<=n/\i= .int .i64 k/\wr=w.drewN nq) (fun i _=>n-(intOf i).toNat)
 case atStart=>exact⟨0,0,aC _,rfl,rfl⟩
 case round=>
  obtain⟨k,nq,hk,rfl,rfl⟩:=hrel;by_cases hlt:k<n
  ·have g1:=h1 k hlt;have g2:=h2 k hlt;have hlt':(k:Int)<(n:Int):=by omega
   clear h1 h2;go_wp2
   go_quiet (fail)
   go_wp2
   go_roundw
   case rel=>exact⟨k+1,_,by omega,by go_num,rfl⟩
   case measure=>simp[intOf];omega
  ·go_wp2
   go_ret
   exact⟨rfl,_,rfl⟩
open Kn (Pr Kp St us KB KJ VI EI KH)
section
def Kn.bad:List (List UInt8):=[[97,100,100],[100,114,111,112],[108,105,109,105,116],[106,111,105,110],[102,114,101,101,122,101],[113,117,111,116,97],[116,105,99,107],[112,108,97,110,116],[112,105,118,111,116]]
def Kn.vH (l:List UInt8):Prop:= ∀b∈Kn.bad,(l==b)=false
theorem D7 (kd:bU)(w:bD):Calls Tryz.prog 19 #[.string kd] w fun e w'=> ∃v:Bool,e= .returned (.bool v)/\(v=true->Kn.vH kd.toList)/\w'=w:=by
 by_cases t: ∃b∈Kn.bad,kd.toList=b
 ·have F: ∀l,(Kn.bad.all fun b=> !(b==l))=true->(kd.toList==l)=false:=fun l h=>by
   obtain⟨b,hb,e⟩:=t;rw[e];simpa using List.all_eq_true.1 h b hb
  have f0:=F [102,111,114,107] rfl;have f1:=F [101,120,105,116] rfl;have f2:=F [119,97,105,116] rfl;have f3:=F [115,105,103,110,97,108] rfl;have f4:=F [104,111,108,100] rfl;have f5:=F [104,111,119] rfl;have f6:=F [116,97,107,101] rfl;have f7:=F [109,97,112] rfl;have f8:=F [112,114,111,116,101,99,116] rfl;have f9:=F [117,110,109,97,112] rfl;have f10:=F [108,111,97,100] rfl;have f11:=F [115,116,111,114,101] rfl;have f12:=F [115,108,101,101,112] rfl;have f13:=F [111,112,101,110] rfl;have f14:=F [99,108,111,115,101] rfl;have f15:=F [100,117,112] rfl;have f16:=F [112,105,112,101] rfl;have f17:=F [114,101,97,100] rfl;have f18:=F [119,114,105,116,101] rfl;have f19:=F [115,101,101,107] rfl;have f20:=F [109,107,100,105,114] rfl;have f21:=F [114,101,109,111,118,101] rfl;have f22:=F [109,111,118,101] rfl;have f23:=F [108,105,110,107] rfl;have f24:=F [98,105,110,100] rfl;have f25:=F [117,110,98,105,110,100] rfl;have f26:=F [110,97,109,101,115] rfl;clear F t;go_in
  go_wp2
  go_ret
  exact⟨false,rfl,nofun,rfl⟩
 ·have T:Hid (Kn.vH kd.toList):=hZ (fun b hb=>by
   cases e:kd.toList==b
   ·rfl
   ·exact aZ ⟨b,hb,eq_of_beq e⟩ t)
  clear t;go_in
  go_wp2_with fail
  all_goals
   go_ret
   exact⟨_,rfl,fun _=>T.out,rfl⟩
theorem B9 (base:Nat)(s:St)(w:bD)(h:ak w base s):Calls Tryz.prog 24 #[.pointer (some ⟨s.A 0,0,none⟩)] w fun e w'=> ∃v,e= .returned v/\LO w (Sp.all s.k.sp) v w':=by
 have AL:=hZ (MZ (s.A 1) s.k.sp w h.sp);have c:=h.uw;generalize s.A 0=kb at*;generalize s.A 1=a1 at*;clear h;go_in
 go_wp2_with fail
 refine AL.out.mono ?_;rintro e w1 ⟨v,rfl,lo⟩;have L:=hZ lo;clear lo;go_wp2
 go_ret
 exact⟨v,rfl,L.out⟩
theorem zH {u w:bD}{L:List Nat}{v:Value}(h:LO u L v w)(l0:0<L.length)(l9:L.length<9){C:Array Value}{T:TypeId}(hC: ∀i,i<L.length->C[i]? =some (.int .i64 ((L.getD i 0:Nat):Int))):Calls Tryz.prog 17 #[v, .slice (some ⟨w.heap.size,0,none⟩) L.length L.length] (w.alloc (.cells C T)) fun e w'=>e= .returned (.bool true)/\Below w.heap.size w w':=by
 obtain⟨gg,cap,rfl,gl,gc⟩:=h.cells l0;have b:=(aQ w.heap.size w).alloc (aL _) (.cells C T);refine(ve gg w.heap.size 0 0 L.length cap L.length (fun i=>((L.getD i 0:Nat):Int)) (by omega) _ (fun i hi=>(b.cell (p:=⟨gg,0+i,none⟩) gl).trans (gc i hi)) (fun i hi=>by rw[au (heap_alloc_new w _),Nat.zero_add];exact hC i hi)).mono ?_;rintro e w' ⟨rfl,k,rfl⟩;exact⟨rfl,b.trans ((below_drewN _ k).mono b.size)⟩
end
section
variable (base N : Nat) (d : Nat -> Nat) (s : St) (w : bD)
theorem Ir (x:eQ)(gk:Kn.vH x.kind.toList)(h:ak w base s)(hh:KH N d s.k)(hN:N<880)(hb:base<=w.heap.size)(hs:x.s.size<2^59):
  Calls Tryz.prog 56 #[.pointer (some ⟨s.A 0,0,none⟩), .agg #[.string x.kind, .int .i64 x.a, .int .i64 x.b, .int .i64 x.c, .int .u64 x.key, .bool x.on, .string x.s, .string x.t]] w fun e w'=> ∃(n m E:Int) (t:bU) (s':St),e= .returned (.agg #[.int .i64 n, .int .i64 m, .int .i64 E, .string t])/\Kn.sK s.k x s'.k/\ak w' base s'/\KF s w s' w':=by
 have GK:=hZ gk;clear gk;have H:=hZ (aK h (aK hh (aK hN (aK hb hs))));obtain⟨kb,hk⟩:=nJ (s.A 0);have HK:=hZ hk;rw[hk];clear h hh hN hb hk hs;go_in
 go_upto_block 0 with fail
 refine bw (fun W=>AW base s w (w.heap.size+1) s 0 0 ⟨#[]⟩ W/\qy W w.heap.size x) (AW.start H.out.1 x) ?_;rintro W ⟨aw,ab⟩;have S:=hZ (aK aw ab);have q1:=ab.at 1 (by omega);have q2:=ab.at 2 (by omega);have q3:=ab.at 3 (by omega);have q5:=ab.at 5 (by omega);have q6:=ab.at 6 (by omega);have q7:=ab.at 7 (by omega);have y5:=aw.a5;simp only[eQ.cell]at q1 q2 q3 q5 q6 q7;clear aw ab;go_cut [6]from 7 to 222 (fun er wc=> ∃(E n m:Int) (t:bU) (s1:St),er=aq E/\Hid (Kn.sK s.k x s1.k/\AW base s w (w.heap.size+1) s1 n m t wc))
 case first=>
  by_cases t0:(x.kind.toList==[111,112,101,110])=true
  ·as_aux_lemma=>
   have CT:=hZ (fun u=>Ih base N s W x.a x.s x.on u S.out.1.kk H.out.2.1.ki.vi.kj);simp only[HK.out]at CT;go_wp2_with fail
   refine(CT.out _).mono ?_;rintro e w5 ⟨v,s',rfl,⟨y,E,rfl,r5⟩,k5,f5⟩;have S5:=hZ (aK r5 (S.out.1.step (s2:=s') k5 f5));have y0:=S5.out.2.a5.at 0 _ rfl;have fz:=bf S5.out.2.a5;clear r5 k5 f5 CT q1 q2 q3 q5 q6 q7 y5;go_wp2
   go_meet
   case rel=>exact⟨_,_,_,_,_,rfl, .inl (⟨_,y,E,rfl,S5.out.1⟩),S5.out.2.kJ _⟩
  have t0:(x.kind.toList==[111,112,101,110])=false:=by simpa using t0
  by_cases t1:(x.kind.toList==[99,108,111,115,101])=true
  ·as_aux_lemma=>
   have CT:=hZ (Cq base s W N x.a x.b S.out.1.kk H.out.2.1.ki.vi.kj (by have:=H.out.2.2.1;omega));rw[HK.out]at CT;go_wp2_with fail
   refine CT.out.mono ?_;rintro e w5 ⟨rfl,k5,f5⟩;have S5:=hZ (aK trivial (S.out.1.step (s2:={s with k:=Kn.mR s.k x.a x.b}) k5 f5));clear k5 f5 CT q1 q2 q3 q5 q6 q7 y5;go_wp2
   go_meet
   case rel=>exact⟨_,_,_,_,_,rfl, .inr (.inl (rfl)),S5.out.2⟩
  have t1:(x.kind.toList==[99,108,111,115,101])=false:=by simpa using t1
  by_cases t2:(x.kind.toList==[100,117,112])=true
  ·as_aux_lemma=>
   have CT:=hZ (KN base s W x.a x.b S.out.1.kk (fun n hn=>by have:=H.out.2.1.ki.vi.kj.rf n hn;have:=H.out.2.2.1;have e1:(2:Nat)^60=1152921504606846976:=(by decide);omega));rw[HK.out]at CT;go_wp2_with fail
   refine CT.out.mono ?_;rintro e w5 ⟨v,s',rfl,⟨y,E,rfl,r5⟩,k5,f5⟩;have S5:=hZ (aK r5 (S.out.1.step (s2:=s') k5 f5));have y0:=S5.out.2.a5.at 0 _ rfl;have fz:=bf S5.out.2.a5;clear r5 k5 f5 CT q1 q2 q3 q5 q6 q7 y5;go_wp2
   go_meet
   case rel=>exact⟨_,_,_,_,_,rfl, .inr (.inr (.inl (⟨_,y,E,rfl,S5.out.1⟩))),S5.out.2.kJ _⟩
  have t2:(x.kind.toList==[100,117,112])=false:=by simpa using t2
  by_cases t3:(x.kind.toList==[112,105,112,101])=true
  ·as_aux_lemma=>
   have CT:=hZ (DJ base s W x.a S.out.1.kk);rw[HK.out]at CT;go_wp2_with fail
   refine CT.out.mono ?_;rintro e w5 ⟨A,C,E,k',rfl,r5,k5,f5⟩;have S5:=hZ (aK r5 (S.out.1.step (s2:={s with k:=k'}) k5 f5));have y0:=S5.out.2.a5.at 0 _ rfl;have y1:=S5.out.2.a5.at 1 _ rfl;have fz:=bf S5.out.2.a5;clear r5 k5 f5 CT q1 q2 q3 q5 q6 q7 y5;go_wp2
   go_meet
   case rel=>exact⟨_,_,_,_,_,rfl, .inr (.inr (.inr (.inl (⟨A,C,E,S5.out.1⟩)))),(S5.out.2.kJ _).zJ _⟩
  have t3:(x.kind.toList==[112,105,112,101])=false:=by simpa using t3
  by_cases t4:(x.kind.toList==[114,101,97,100])=true
  ·as_aux_lemma=>
   have CT:=hZ (Ex base s W x.a x.b x.c S.out.1.kk H.out.2.1.ki.vi.kj.ok.fz H.out.2.1.ki.vi.kj.wx.pz);rw[HK.out]at CT;go_wp2_with fail
   refine CT.out.mono ?_;rintro e w5 ⟨rfl,k5,f5⟩;have S5:=hZ (aK trivial (S.out.1.step (s2:={s with k:=Kn.mP s.k x.a x.b x.c}) k5 f5));have y3:=S5.out.2.a5.at 3 _ rfl;have fz:=bf S5.out.2.a5;clear k5 f5 CT q1 q2 q3 q5 q6 q7 y5;go_wp2
   go_meet
   case rel=>exact⟨_,_,_,_,_,rfl, .inr (.inr (.inr (.inr (.inl (rfl))))),S5.out.2.kP _⟩
  have t4:(x.kind.toList==[114,101,97,100])=false:=by simpa using t4
  by_cases t5:(x.kind.toList==[119,114,105,116,101])=true
  ·as_aux_lemma=>
   have CT:=hZ (Ci base N d s W (by have:=H.out.2.2.1;omega) x.a x.b x.s S.out.1.kk H.out.2.2.2.2 H.out.2.1.ki.vi.kj.wx.pz (fun _=>(H.out.2.1.zd _ _).ki));rw[HK.out]at CT;go_wp2_with fail
   refine CT.out.mono ?_;rintro e w5 ⟨A,E,k',rfl,r5,k5,f5⟩;have S5:=hZ (aK r5 (S.out.1.step (s2:={s with k:=k'}) k5 f5));have y0:=S5.out.2.a5.at 0 _ rfl;have fz:=bf S5.out.2.a5;clear r5 k5 f5 CT q1 q2 q3 q5 q6 q7 y5;go_wp2
   go_meet
   case rel=>exact⟨_,_,_,_,_,rfl, .inr (.inr (.inr (.inr (.inr (.inl (⟨A,E,S5.out.1⟩)))))),S5.out.2.kJ _⟩
  have t5:(x.kind.toList==[119,114,105,116,101])=false:=by simpa using t5
  by_cases t6:(x.kind.toList==[115,101,101,107])=true
  ·as_aux_lemma=>
   have CT:=hZ (Gd base s W x.a x.b x.c S.out.1.kk);rw[HK.out]at CT;go_wp2_with fail
   refine CT.out.mono ?_;rintro e w5 ⟨v,s',rfl,⟨E,rfl,r5⟩,k5,f5⟩;have S5:=hZ (aK r5 (S.out.1.step (s2:=s') k5 f5));clear r5 k5 f5 CT q1 q2 q3 q5 q6 q7 y5;go_wp2
   go_meet
   case rel=>exact⟨_,_,_,_,_,rfl,S5.out.1.elim (fun e=> .inr (.inr (.inr (.inr (.inr (.inr (.inr (.inr (.inr (.inr (e))))))))))) (fun e=> .inr (.inr (.inr (.inr (.inr (.inr (.inl (e)))))))),S5.out.2⟩
  have t6:(x.kind.toList==[115,101,101,107])=false:=by simpa using t6
  by_cases t7:(x.kind.toList==[109,107,100,105,114])=true
  ·as_aux_lemma=>
   have CT:=hZ (Ec base N s W x.a x.s S.out.1.kk H.out.2.1.ki.vi.kj);rw[HK.out]at CT;go_wp2_with fail
   refine CT.out.mono ?_;rintro e w5 ⟨v,s',rfl,⟨E,G,rfl,r5⟩,k5,f5⟩;have S5:=hZ (aK r5 (S.out.1.step (s2:=s') k5 f5));clear r5 k5 f5 CT q1 q2 q3 q5 q6 q7 y5;go_wp2
   go_meet
   case rel=>exact⟨_,_,_,_,_,rfl, .inr (.inr (.inr (.inr (.inr (.inr (.inr (.inl (⟨_,E,G,rfl,S5.out.1⟩)))))))),S5.out.2⟩
  have t7:(x.kind.toList==[109,107,100,105,114])=false:=by simpa using t7
  by_cases t8:(x.kind.toList==[114,101,109,111,118,101])=true
  ·as_aux_lemma=>
   have CT:=hZ (Ky base N s W x.a x.s S.out.1.kk H.out.2.1.ki.vi.kj);rw[HK.out]at CT;go_wp2_with fail
   refine CT.out.mono ?_;rintro e w5 ⟨v,s',rfl,⟨E,G,rfl,r5⟩,k5,f5⟩;have S5:=hZ (aK r5 (S.out.1.step (s2:=s') k5 f5));clear r5 k5 f5 CT q1 q2 q3 q5 q6 q7 y5;go_wp2
   go_meet
   case rel=>exact⟨_,_,_,_,_,rfl, .inr (.inr (.inr (.inr (.inr (.inr (.inr (.inl (⟨_,E,G,rfl,S5.out.1⟩)))))))),S5.out.2⟩
  have t8:(x.kind.toList==[114,101,109,111,118,101])=false:=by simpa using t8
  by_cases t9:(x.kind.toList==[109,111,118,101])=true
  ·as_aux_lemma=>
   have CT:=hZ (Jh base N s W x.a x.s x.t S.out.1.kk H.out.2.1.ki.vi.kj);rw[HK.out]at CT;go_wp2_with fail
   refine CT.out.mono ?_;rintro e w5 ⟨v,s',rfl,⟨E,G,rfl,r5⟩,k5,f5⟩;have S5:=hZ (aK r5 (S.out.1.step (s2:=s') k5 f5));clear r5 k5 f5 CT q1 q2 q3 q5 q6 q7 y5;go_wp2
   go_meet
   case rel=>exact⟨_,_,_,_,_,rfl, .inr (.inr (.inr (.inr (.inr (.inr (.inr (.inl (⟨_,E,G,rfl,S5.out.1⟩)))))))),S5.out.2⟩
  have t9:(x.kind.toList==[109,111,118,101])=false:=by simpa using t9
  by_cases t10:(x.kind.toList==[108,105,110,107])=true
  ·as_aux_lemma=>
   have CT:=hZ (JK base N s W x.a x.s x.t S.out.1.kk H.out.2.1.ki.vi.kj);rw[HK.out]at CT;go_wp2_with fail
   refine CT.out.mono ?_;rintro e w5 ⟨v,s',rfl,⟨E,G,rfl,r5⟩,k5,f5⟩;have S5:=hZ (aK r5 (S.out.1.step (s2:=s') k5 f5));clear r5 k5 f5 CT q1 q2 q3 q5 q6 q7 y5;go_wp2
   go_meet
   case rel=>exact⟨_,_,_,_,_,rfl, .inr (.inr (.inr (.inr (.inr (.inr (.inr (.inl (⟨_,E,G,rfl,S5.out.1⟩)))))))),S5.out.2⟩
  have t10:(x.kind.toList==[108,105,110,107])=false:=by simpa using t10
  by_cases t11:(x.kind.toList==[98,105,110,100])=true
  ·as_aux_lemma=>
   have CT:=hZ (IV base N s W x.a x.s x.t S.out.1.kk (aH H.out.2.2.2.1 S.out.1.kf.fU.size) H.out.2.1.ki.vi.kj);rw[HK.out]at CT;go_wp2_with fail
   refine CT.out.mono ?_;rintro e w5 ⟨v,s',rfl,⟨E,rfl,r5⟩,k5,f5⟩;have S5:=hZ (aK r5 (S.out.1.step (s2:=s') k5 f5));clear r5 k5 f5 CT q1 q2 q3 q5 q6 q7 y5;go_wp2
   go_meet
   case rel=>exact⟨_,_,_,_,_,rfl, .inr (.inr (.inr (.inr (.inr (.inr (.inr (.inr (.inl (⟨_,E,rfl,S5.out.1⟩))))))))),S5.out.2⟩
  have t11:(x.kind.toList==[98,105,110,100])=false:=by simpa using t11
  by_cases t12:(x.kind.toList==[117,110,98,105,110,100])=true
  ·as_aux_lemma=>
   have CT:=hZ (Cj base N s W x.a x.s S.out.1.kk H.out.2.1.ki.vi.kj);rw[HK.out]at CT;go_wp2_with fail
   refine CT.out.mono ?_;rintro e w5 ⟨v,s',rfl,⟨E,rfl,r5⟩,k5,f5⟩;have S5:=hZ (aK r5 (S.out.1.step (s2:=s') k5 f5));clear r5 k5 f5 CT q1 q2 q3 q5 q6 q7 y5;go_wp2
   go_meet
   case rel=>exact⟨_,_,_,_,_,rfl, .inr (.inr (.inr (.inr (.inr (.inr (.inr (.inr (.inl (⟨_,E,rfl,S5.out.1⟩))))))))),S5.out.2⟩
  have t12:(x.kind.toList==[117,110,98,105,110,100])=false:=by simpa using t12
  by_cases t13:(x.kind.toList==[110,97,109,101,115])=true
  ·as_aux_lemma=>
   have CT:=hZ (Ez base N s W x.a x.s S.out.1.kk H.out.2.1.ki.vi.kj);rw[HK.out]at CT;go_wp2_with fail
   refine CT.out.mono ?_;rintro e w5 ⟨u,E,L,rfl,⟨l8,n8⟩,tl,b5⟩;have N8:=hZ n8;clear n8;obtain⟨ua,uc,rfl,ub⟩:=tl (w.heap.size+1+1) S.out.1.a5.lt;have S5:Hid (AW base s w (w.heap.size+1) s 0 0 ⟨#[]⟩ w5/\qy w5 w.heap.size x/\TL (w.heap.size+1+1) L (.slice ua L.length uc) w5):=hZ ⟨S.out.1.below b5,(b5.block _ (aX.1 S.out.2).1).trans S.out.2,ua,uc,rfl,ub⟩;clear tl ub b5 CT q1 q2 q3 q5 q6 q7 y5 S;obtain⟨c,hc⟩:=nJ (w.heap.size+1);have HC:=hZ hc;rw[hc]at S5|-;obtain⟨ba,hba⟩:=nJ (w.heap.size);have HB:Hid (w.heap.size=ba/\c=ba+1):=hZ ⟨hba,by rw[<-hba,hc]⟩;rw[hba]at S5|-;clear hc hba;go_wp2_with fail
   go_loopw [9] (fun i wr=> ∃(j:Nat) (t:bU),i= .int .i64 j/\j<=L.length/\Hid (AW base s w c s 0 0 t wr/\qy wr ba x/\TL (c+1) L (.slice ua L.length uc) wr/\t.size<=9*j)) (fun i _=>L.length-(intOf i).toNat)
   case atStart=>exact⟨0,_,rfl,aC _,S5.out.1,S5.out.2.1,S5.out.2.2,aC _⟩
   case round=>
    clear S5;obtain⟨j,t,rfl,hj,S⟩:=hrel;by_cases hlt:j<L.length
    ·have hltI:(j:Int)<(L.length:Int):=by omega
     obtain⟨a2,c2,e2,tt⟩:=S.out.2.2.1;cases e2;obtain⟨g,rfl,gb,gl,gc⟩:=tt (by omega);have y3:=S.out.1.a5.at 3 _ rfl;have fz:=bf S.out.1.a5;have c1:=gc j hlt;have NX:Hid (∀z,AW base s w c s 0 0 z ((wr.setCell ⟨c+1,3,none⟩ (.string z)).drew)/\qy ((wr.setCell ⟨c+1,3,none⟩ (.string z)).drew) ba x/\TL (c+1) L (.slice (some ⟨g,0,none⟩) L.length uc) ((wr.setCell ⟨c+1,3,none⟩ (.string z)).drew)):=hZ (fun z=>⟨(S.out.1.kP z).below ⟨rfl,rfl,rfl,aL _,fun _ _=>rfl⟩,(dD _ _ _ _ (by have:=HB.out.2;omega)).trans S.out.2.1,S.out.2.2.1.jW (((af.refl _ _).setCell _ _).drew)⟩);have z1:=S.out.2.2.2;have z2:=N8.out j;generalize L.getD j ⟨#[]⟩=nm at*;have z3: ¬9223372036854775807<t.size+nm.size:=by omega
     have z4: ¬9223372036854775807<t.size+nm.size+1:=by omega
     have Z:=hZ (aK z1 z2);clear gc tt z1 z2;go_wp2_with fail
     go_region
     go_wp2
     go_roundw
     case rel=>exact⟨j+1,_,by go_num,by omega,(NX.out _).1,(NX.out _).2.1,(NX.out _).2.2,by have:=Z.out;simp only[ByteArray.size_append];show _+1<=_;omega⟩
     case measure=>simp[intOf];omega
    ·have hltI: ¬(j:Int)<(L.length:Int):=by omega
     have CT:=hZ (Gl base N s wr x.a x.s S.out.1.kk H.out.2.1.ki.vi.kj);rw[HK.out]at CT;have q1:=S.out.2.1.at 1 (by omega);have q6:=S.out.2.1.at 6 (by omega);simp only[eQ.cell]at q1 q6;go_wp2_with fail
     refine CT.out.mono ?_;rintro e w6 ⟨o1,o2,o3,o4,E2,rfl,b6⟩;have S6:Hid (AW base s w c s 0 0 t w6):=hZ (S.out.1.below b6);clear b6 q1 q6 S CT;generalize aq E2=ev2;have y0:=S6.out.a5.at 0 _ rfl;have fz:=bf S6.out.a5;have lt6:=S6.out.a5.lt;go_wp2_with fail
     have e1:=HB.out.1;have e2:=HC.out;subst e1;subst e2;go_meet
     case rel=>exact⟨_,_,_,_,s,rfl, .inr (.inr (.inr (.inr (.inr (.inr (.inr (.inr (.inr (.inr (rfl)))))))))),(S6.out.kJ _).below ((aQ _ _).alloc (aL _) _)⟩
  have t13:(x.kind.toList==[110,97,109,101,115])=false:=by simpa using t13
  by_cases t14:(x.kind.toList==[112,108,97,110,116])=true
  ·exact aZ t14 (by rw[GK.out _ (by decide)];decide)
  have t14:(x.kind.toList==[112,108,97,110,116])=false:=by simpa using t14
  by_cases t15:(x.kind.toList==[112,105,118,111,116])=true
  ·exact aZ t15 (by rw[GK.out _ (by decide)];decide)
  have t15:(x.kind.toList==[112,105,118,111,116])=false:=by simpa using t15
  go_wp2
  go_meet
  case rel=>exact⟨0,_,_,_,s,aa.symm, .inr (.inr (.inr (.inr (.inr (.inr (.inr (.inr (.inr (.inr (rfl)))))))))),S.out.1⟩
 case rest=>
  clear q1 q2 q3 q5 q6 q7 y5 S;obtain⟨E,n,m,t,s1,rfl,T⟩:=hcut;have NB:=hZ (pN E wc);go_wp2_with fail
  refine bM NB.out ?_;obtain⟨c,hc⟩:=nJ (w.heap.size+1);rw[hc]at T|-;have y0:=T.out.2.a5.at 0 _ rfl;have y1:=T.out.2.a5.at 1 _ rfl;have y2:=T.out.2.a5.at 2 _ rfl;have y3:=T.out.2.a5.at 3 _ rfl;have z0:=T.out.2.a4.at 0 _ rfl;have z1:=T.out.2.a4.at 1 _ rfl;have z2:=T.out.2.a4.at 2 _ rfl;have z3:=T.out.2.a4.at 3 _ rfl;have f5:=bf T.out.2.a5;have f4:=bf T.out.2.a4;have FI:=hZ (T.out.2.fin E);clear hc;go_wp2_with fail
  exact bodyPost_ret (v:= .agg #[.int .i64 n, .int .i64 m, .int .i64 E, .string t]) (by simp[results,Tryz.results56,go_sem,z0,z1,z2,z3]) rfl ⟨n,m,E,t,s1,rfl,T.out.1,FI.out⟩
end
section
variable (base N : Nat) (d : Nat -> Nat) (s : St) (w : bD)
theorem yV (hN:N<=900)(h:ak w base s)(hh:KH N d s.k)(nl:Kn.qC s.k):Kn.Gw base s w:=fun V n b hn l=>by
 have hnI:(n:Int)<20:=by omega
 obtain⟨Wy,hW⟩:=hh.ki.vi.kj.gr;have LA:Hid (Calls Tryz.prog 238 #[.pointer (some ⟨s.A 2,0,none⟩), .int .i64 (s.k.p n).bP, .int .i64 0, .int .i64 1] V fun e w'=> ∃f:Int,e= .returned (.tuple #[.int .i64 f, .bool false])/\Below V.heap.size V w'):=hZ ((FY (s.A 2) (s.k.p n).bP V (h.below b).gr hW.ways (hW.small (by omega))).mono (by
  rintro e w' ⟨f,lk,rfl,hl,b2⟩;cases lk
  ·exact⟨f,rfl,b2⟩
  ·obtain⟨g,hg,th,q⟩:=hl rfl;have:=nl g hg th;omega))
 have CH:Hid (∀U,Below V.heap.size V U->Calls Tryz.prog 65 #[.pointer (some ⟨s.A 2,0,none⟩), .int .i64 (s.k.p n).bP, .int .i64 0, .int .i64 1] U fun e w'=> ∃E k',e= .returned (aq E)/\Kn.zw s.k n E k'/\ak w' base {s with k:=k'}/\KF s V {s with k:=k'} w'):=hZ (fun U b2=>(Gr.qU (s.A 2) (s.k.p n).bP 0 1 s.k.gr Wy U ((h.below b).below b2).gr hW.ways (hW.small (by omega))).mono (by
  rintro _ w' ⟨rfl,u,f⟩;have q:=((h.below b).below b2).lf u f.wI;exact⟨_,_,rfl,⟨0,s.k,⟨rfl,fun _=>rfl⟩, .inl ⟨l,rfl,Wy,hW.ways,rfl,rfl⟩⟩,q.1,(KF.below b2).trans q.2⟩))
 have cg:=(h.below b).pU n hn;have C2:Hid (∀U,Below V.heap.size V U->U.cell? ⟨s.A 0,247,none⟩=some (.pointer (some ⟨s.A 2,0,none⟩))):=hZ (fun U b2=>((h.below b).below b2).sr);have c2:=C2.out _ (aQ _ _);generalize (s.k.p n).bP=gp at*;generalize s.A 0=kb at*;generalize s.A 2=a2 at*;clear h hh nl hW b l;go_in
 go_wp2_with fail
 go_loopw [6] (fun _ wr=>wr=V) (fun _ _=>0)
 case atStart=>rfl
 case round=>
  subst hrel;go_wp2_with fail
  refine LA.out.mono ?_;rintro e w2 ⟨f,rfl,b2⟩;have c2:=C2.out _ b2;have CH:=hZ (CH.out _ b2);clear b2 cg;go_wp2_with fail
  refine CH.out.mono ?_;rintro e w3 ⟨E,k',rfl,S3⟩;have S3:=hZ S3;go_wp2
  go_ret
  exact⟨_,_,rfl,⟨E,rfl,S3.out.1⟩,S3.out.2⟩
end
section
variable (base N : Nat) (d : Nat -> Nat) (s : St) (w : bD)
theorem KT (x:eQ)(gk:Kn.vH x.kind.toList)(nl:Kn.qC s.k)(h:ak w base s)(hh:KH N d s.k)(hN:N<880)(hb:base<=w.heap.size)(hs:x.s.size<2^59):
  Calls Tryz.prog 12 #[.pointer (some ⟨s.A 0,0,none⟩), .agg #[.string x.kind, .int .i64 x.a, .int .i64 x.b, .int .i64 x.c, .int .u64 x.key, .bool x.on, .string x.s, .string x.t]] w fun e w'=> ∃(n m E:Int) (t:bU) (s':St),e= .returned (.agg #[.int .i64 n, .int .i64 m, .int .i64 E, .string t])/\(Kn.rU N s.k x n E s'.k\/Kn.NK x/\Kn.sK s.k x s'.k)/\ak w' base s'/\KF s w s' w':=by
 have GK:=hZ gk;have NL:=hZ nl;clear gk nl;have H:=hZ (aK h (aK hh (aK hN (aK hb hs))));obtain⟨kb,hk⟩:=nJ (s.A 0);have HK:=hZ hk;rw[hk];clear h hh hN hb hk hs;go_in
 go_upto_block 0 with fail
 refine bw (fun W=>AW base s w (w.heap.size+1) s 0 0 ⟨#[]⟩ W/\qy W w.heap.size x) (AW.start H.out.1 x) ?_;rintro W ⟨aw,ab⟩;have S:=hZ (aK aw ab);have q1:=ab.at 1 (by omega);have q2:=ab.at 2 (by omega);have q3:=ab.at 3 (by omega);have q5:=ab.at 5 (by omega);have q0:=ab.at 0 (by omega);have q4:=ab.at 4 (by omega);have q6:=ab.at 6 (by omega);have q7:=ab.at 7 (by omega);have y5:=aw.a5;simp only[eQ.cell]at q0 q1 q2 q3 q4 q5 q6 q7;have GE:Hid (w.heap.size+1=w.heap.size+1):=hZ rfl;clear aw ab;go_cut [6]from 7 to 218 (fun er wc=> ∃(E n m:Int) (s1:St),er=aq E/\Hid (Kn.rU N s.k x n E s1.k/\AW base s w (w.heap.size+1) s1 n m ⟨#[]⟩ wc))
 case first=>
  by_cases t0:(x.kind.toList==[102,111,114,107])=true
  ·as_aux_lemma=>
   have CT:=hZ (sg base N d s W (by have:=H.out.2.2.1;omega) x.a x.on S.out.1.kk (aH H.out.2.2.2.1 S.out.1.kf.fU.size) H.out.2.1.ki.vi);rw[HK.out]at CT;go_wp2_with fail
   refine CT.out.mono ?_;rintro e w5 ⟨p,E,s',rfl,r5,k5,f5⟩;have S5:=hZ (aK r5 (S.out.1.step (s2:=s') k5 f5));have y0:=S5.out.2.a5.at 0 _ rfl;have fz:=bf S5.out.2.a5;clear r5 k5 f5 CT q0 q1 q2 q3 q4 q5 q6 q7 y5;go_wp2
   go_meet
   case rel=>exact⟨_,_,_,_,rfl, .inl ⟨t0,p,rfl,S5.out.1⟩,S5.out.2.kJ _⟩
  have t0:(x.kind.toList==[102,111,114,107])=false:=by simpa using t0
  by_cases t1:(x.kind.toList==[101,120,105,116])=true
  ·as_aux_lemma=>
   have CT:=hZ (yQ base N d s W (by have:=H.out.2.2.1;omega) x.a x.b S.out.1.kk H.out.2.1.ki);rw[HK.out]at CT;go_wp2_with fail
   refine CT.out.mono ?_;rintro e w5 ⟨k',rfl,r5,k5,f5⟩;have S5:=hZ (aK r5 (S.out.1.step (s2:={s with k:=k'}) k5 f5));clear r5 k5 f5 CT q0 q1 q2 q3 q4 q5 q6 q7 y5;go_wp2
   go_meet
   case rel=>exact⟨_,_,_,_,rfl, .ot (.of t1 rfl) (.inl ⟨t1,S5.out.1⟩),S5.out.2⟩
  have t1:(x.kind.toList==[101,120,105,116])=false:=by simpa using t1
  by_cases t2:(x.kind.toList==[119,97,105,116])=true
  ·as_aux_lemma=>
   have CT:=hZ (rL base N d s W (by have:=H.out.2.2.1;omega) x.a S.out.1.kk H.out.2.1.ki.vi H.out.2.1.p0);rw[HK.out]at CT;go_wp2_with fail
   refine CT.out.mono ?_;rintro e w5 ⟨p,c,E,k',rfl,r5,k5,f5⟩;have S5:=hZ (aK r5 (S.out.1.step (s2:={s with k:=k'}) k5 f5));have y0:=S5.out.2.a5.at 0 _ rfl;have y1:=S5.out.2.a5.at 1 _ rfl;have l5:=S5.out.2.a5.lt;have fz:=bf S5.out.2.a5;clear r5 k5 f5 CT q0 q1 q2 q3 q4 q5 q6 q7 y5;go_wp2
   go_meet
   case rel=>exact⟨_,_,_,_,rfl, .ot (.of t2 rfl) (.inr (.inl ⟨p,c,E,S5.out.1⟩)),((S5.out.2.kJ _).zJ _).below ((aQ _ _).alloc (aL _) _)⟩
  have t2:(x.kind.toList==[119,97,105,116])=false:=by simpa using t2
  by_cases t3:(x.kind.toList==[115,105,103,110,97,108])=true
  ·as_aux_lemma=>
   have CT:=hZ (Be base N d s W (by have:=H.out.2.2.1;omega) x.a x.b x.c S.out.1.kk H.out.2.1.ki (fun a b=>H.out.2.1.ki.vi.J4 a b));rw[HK.out]at CT;go_wp2_with fail
   refine CT.out.mono ?_;rintro e w5 ⟨k',rfl,r5,k5,f5⟩;have S5:=hZ (aK r5 (S.out.1.step (s2:={s with k:=k'}) k5 f5));clear r5 k5 f5 CT q0 q1 q2 q3 q4 q5 q6 q7 y5;go_wp2
   go_meet
   case rel=>exact⟨_,_,_,_,rfl, .ot (.of t3 rfl) (.inr (.inr (.inl S5.out.1))),S5.out.2⟩
  have t3:(x.kind.toList==[115,105,103,110,97,108])=false:=by simpa using t3
  by_cases t4:(x.kind.toList==[104,111,108,100])=true
  ·as_aux_lemma=>
   have CT:=hZ (Em base N d s W (by have:=H.out.2.2.1;omega) x.a x.b x.on S.out.1.kk H.out.2.1.ki);rw[HK.out]at CT;go_wp2_with fail
   refine CT.out.mono ?_;rintro e w5 ⟨E,k',rfl,r5,k5,f5⟩;have S5:=hZ (aK r5 (S.out.1.step (s2:={s with k:=k'}) k5 f5));clear r5 k5 f5 CT q0 q1 q2 q3 q4 q5 q6 q7 y5;go_wp2
   go_meet
   case rel=>exact⟨_,_,_,_,rfl, .ot (.of t4 rfl) (.inr (.inr (.inr (.inl ⟨E,S5.out.1⟩)))),S5.out.2⟩
  have t4:(x.kind.toList==[104,111,108,100])=false:=by simpa using t4
  by_cases t5:(x.kind.toList==[104,111,119])=true
  ·as_aux_lemma=>
   have CT:=hZ (Gu base N d s W (by have:=H.out.2.2.1;omega) x.a x.b x.c S.out.1.kk H.out.2.1.ki);rw[HK.out]at CT;go_wp2_with fail
   refine CT.out.mono ?_;rintro e w5 ⟨E,k',rfl,r5,k5,f5⟩;have S5:=hZ (aK r5 (S.out.1.step (s2:={s with k:=k'}) k5 f5));clear r5 k5 f5 CT q0 q1 q2 q3 q4 q5 q6 q7 y5;go_wp2
   go_meet
   case rel=>exact⟨_,_,_,_,rfl, .ot (.of t5 rfl) (.inr (.inr (.inr (.inr (.inl ⟨E,S5.out.1⟩))))),S5.out.2⟩
  have t5:(x.kind.toList==[104,111,119])=false:=by simpa using t5
  by_cases t6:(x.kind.toList==[116,97,107,101])=true
  ·as_aux_lemma=>
   have CT:=hZ (Ew base s W x.a S.out.1.kk (fun n hn l=>H.out.2.1.ki.has hn l));rw[HK.out]at CT;go_wp2_with fail
   refine CT.out.mono ?_;rintro e w5 ⟨m,E,k',rfl,r5,k5,f5⟩;have S5:=hZ (aK r5 (S.out.1.step (s2:={s with k:=k'}) k5 f5));have y0:=S5.out.2.a5.at 0 _ rfl;have fz:=bf S5.out.2.a5;clear r5 k5 f5 CT q0 q1 q2 q3 q4 q5 q6 q7 y5;go_wp2
   go_meet
   case rel=>exact⟨_,_,_,_,rfl, .ot (.of t6 rfl) (.inr (.inr (.inr (.inr (.inr (.inl ⟨m,E,S5.out.1⟩)))))),S5.out.2.kJ _⟩
  have t6:(x.kind.toList==[116,97,107,101])=false:=by simpa using t6
  by_cases t7:(x.kind.toList==[109,97,112])=true
  ·as_aux_lemma=>
   have CT:=hZ (Ko base N s W x.a x.b x.c x.on S.out.1.kk H.out.2.1.ki.vi.kj);rw[HK.out]at CT;go_wp2_with fail
   refine CT.out.mono ?_;rintro e w5 ⟨v,s',rfl,r5,k5,f5⟩;have r6:(∃E,v=aq E)/\Kn.uJ N s.k x s'.k:=by
    rcases r5 with⟨n,_,hn,l,rfl,e⟩|⟨_,rfl,e⟩
    ·exact⟨⟨_,rfl⟩, .inr (.inr (.inr (.inr (.inr (.inr (.inl ⟨n,_,hn,l,Mv.Mn _ _ _ _,e⟩))))))⟩
    ·exact⟨⟨_,rfl⟩, .inr (.inr (.inr (.inr (.inr (.inr (.inr (.inr (.inr (.inr (e))))))))))⟩
   obtain⟨⟨E,rfl⟩,r7⟩:=r6;have S5:=hZ (aK r7 (S.out.1.step (s2:=s') k5 f5));clear r5 k5 f5 CT q0 q1 q2 q3 q4 q5 q6 q7 y5 r7;go_wp2
   go_meet
   case rel=>exact⟨_,_,_,_,rfl, .ot (.of t7 rfl) (S5.out.1),S5.out.2⟩
  have t7:(x.kind.toList==[109,97,112])=false:=by simpa using t7
  by_cases t8:(x.kind.toList==[112,114,111,116,101,99,116])=true
  ·as_aux_lemma=>
   have CT:=hZ (GU base N s W x.a x.b x.c x.on S.out.1.kk H.out.2.1.ki.vi.kj);rw[HK.out]at CT;go_wp2_with fail
   refine CT.out.mono ?_;rintro e w5 ⟨v,s',rfl,r5,k5,f5⟩;have r6:(∃E,v=aq E)/\Kn.uJ N s.k x s'.k:=by
    rcases r5 with⟨n,_,hn,l,rfl,e⟩|⟨_,rfl,e⟩
    ·exact⟨⟨_,rfl⟩, .inr (.inr (.inr (.inr (.inr (.inr (.inl ⟨n,_,hn,l,Mv.Md _ _ _ _,e⟩))))))⟩
    ·exact⟨⟨_,rfl⟩, .inr (.inr (.inr (.inr (.inr (.inr (.inr (.inr (.inr (.inr (e))))))))))⟩
   obtain⟨⟨E,rfl⟩,r7⟩:=r6;have S5:=hZ (aK r7 (S.out.1.step (s2:=s') k5 f5));clear r5 k5 f5 CT q0 q1 q2 q3 q4 q5 q6 q7 y5 r7;go_wp2
   go_meet
   case rel=>exact⟨_,_,_,_,rfl, .ot (.of t8 rfl) (S5.out.1),S5.out.2⟩
  have t8:(x.kind.toList==[112,114,111,116,101,99,116])=false:=by simpa using t8
  by_cases t9:(x.kind.toList==[117,110,109,97,112])=true
  ·as_aux_lemma=>
   have CT:=hZ (Cn base N s W x.a x.b x.c S.out.1.kk H.out.2.1.ki.vi.kj (by obtain⟨Wy,t⟩:=H.out.2.1.ki.vi.kj.gr;exact t.small (by have:=H.out.2.2.1;omega)));rw[HK.out]at CT;go_wp2_with fail
   refine CT.out.mono ?_;rintro e w5 ⟨v,s',rfl,r5,k5,f5⟩;have r6: ∃E,v=aq E/\ ∀a,Kn.rU N s.k x a E s'.k:=by
    rcases r5 with⟨n,a,hn,l,rfl,e⟩|⟨ne,rfl,e⟩
    ·exact⟨_,rfl,fun _=> .inr (.inl ⟨t9, .inl ⟨n,a,hn,l,rfl,e⟩⟩)⟩
    ·exact⟨_,rfl,fun _=> .inr (.inl ⟨t9, .inr ⟨ne,e⟩⟩)⟩
   obtain⟨E,rfl,r7⟩:=r6;have S5:=hZ (aK r7 (S.out.1.step (s2:=s') k5 f5));clear r5 k5 f5 CT q0 q1 q2 q3 q4 q5 q6 q7 y5 r7;go_wp2
   go_meet
   case rel=>exact⟨_,_,_,_,rfl,S5.out.1 _,S5.out.2⟩
  have t9:(x.kind.toList==[117,110,109,97,112])=false:=by simpa using t9
  by_cases t10:(x.kind.toList==[108,111,97,100])=true
  ·as_aux_lemma=>
   have CT:=hZ (Hl base N d s W x.a x.b (yV base N d s W (by have:=H.out.2.2.1;omega) S.out.1.kk H.out.2.1 NL.out) (by have:=H.out.2.2.1;omega) S.out.1.kk H.out.2.1);rw[HK.out]at CT;go_wp2_with fail
   refine CT.out.mono ?_;rintro e w5 ⟨v,s',rfl,⟨u,y,rfl,r5,ub⟩,k5,f5⟩;obtain⟨E,rfl⟩: ∃E,y=aq E:=by obtain⟨E,e,_⟩:=r5;exact⟨E,e⟩
   have S5:=hZ (aK (aK r5 ub) (S.out.1.step (s2:=s') k5 f5));have y0:=S5.out.2.a5.at 0 _ rfl;have fz:=bf S5.out.2.a5;clear r5 ub k5 f5 CT q0 q1 q2 q3 q4 q5 q6 q7 y5;go_wp2
   go_meet
   case rel=>exact⟨_,wrap64 u,_,_,rfl, .inr (.inr (.inl ⟨t10,u, .inr (IntWalk.i64_left u).symm,S5.out.1.1,fun e=>S5.out.1.2 (by rw[e];rfl)⟩)),S5.out.2.kJ _⟩
  have t10:(x.kind.toList==[108,111,97,100])=false:=by simpa using t10
  by_cases t11:(x.kind.toList==[115,116,111,114,101])=true
  ·as_aux_lemma=>
   have CT:=hZ (fun u=>Eb base N d s W x.a x.b u (yV base N d s W (by have:=H.out.2.2.1;omega) S.out.1.kk H.out.2.1 NL.out) (by have:=H.out.2.2.1;omega) S.out.1.kk H.out.2.1);simp only[HK.out]at CT;go_wp2_with fail
   refine(CT.out _).mono ?_;rintro e w5 ⟨y,s',rfl,r5,k5,f5⟩;obtain⟨E,rfl⟩: ∃E,y=aq E:=by obtain⟨E,e,_⟩:=r5;exact⟨E,e⟩
   have S5:=hZ (aK r5 (S.out.1.step (s2:=s') k5 f5));clear r5 k5 f5 CT q0 q1 q2 q3 q4 q5 q6 q7 y5;go_wp2
   go_meet
   case rel=>exact⟨_,_,_,_,rfl, .inr (.inr (.inr (.inl ⟨t11,S5.out.1⟩))),S5.out.2⟩
  have t11:(x.kind.toList==[115,116,111,114,101])=false:=by simpa using t11
  by_cases t12:(x.kind.toList==[97,100,100])=true
  ·exact aZ t12 (by rw[GK.out _ (by decide)];decide)
  have t12:(x.kind.toList==[97,100,100])=false:=by simpa using t12
  by_cases t13:(x.kind.toList==[100,114,111,112])=true
  ·exact aZ t13 (by rw[GK.out _ (by decide)];decide)
  have t13:(x.kind.toList==[100,114,111,112])=false:=by simpa using t13
  by_cases t14:(x.kind.toList==[108,105,109,105,116])=true
  ·exact aZ t14 (by rw[GK.out _ (by decide)];decide)
  have t14:(x.kind.toList==[108,105,109,105,116])=false:=by simpa using t14
  by_cases t15:(x.kind.toList==[106,111,105,110])=true
  ·exact aZ t15 (by rw[GK.out _ (by decide)];decide)
  have t15:(x.kind.toList==[106,111,105,110])=false:=by simpa using t15
  by_cases t16:(x.kind.toList==[115,108,101,101,112])=true
  ·as_aux_lemma=>
   have CT:=hZ (DX base s W x.a x.on S.out.1.kk);rw[HK.out]at CT;go_wp2_with fail
   refine CT.out.mono ?_;rintro e w5 ⟨y,s',rfl,r5,k5,f5⟩;obtain⟨E,rfl⟩: ∃E,y=aq E:=by obtain⟨E,_,e,_⟩:=r5;exact⟨E,e⟩
   have S5:=hZ (aK r5 (S.out.1.step (s2:=s') k5 f5));clear r5 k5 f5 CT q0 q1 q2 q3 q4 q5 q6 q7 y5;go_wp2
   go_meet
   case rel=>exact⟨_,_,_,_,rfl, .ot (.of t16 rfl) (.inr (.inr (.inr (.inr (.inr (.inr (.inr (.inr (.inr (.inl ⟨_,S5.out.1⟩)))))))))),S5.out.2⟩
  have t16:(x.kind.toList==[115,108,101,101,112])=false:=by simpa using t16
  by_cases t17:(x.kind.toList==[102,114,101,101,122,101])=true
  ·exact aZ t17 (by rw[GK.out _ (by decide)];decide)
  have t17:(x.kind.toList==[102,114,101,101,122,101])=false:=by simpa using t17
  by_cases t18:(x.kind.toList==[113,117,111,116,97])=true
  ·exact aZ t18 (by rw[GK.out _ (by decide)];decide)
  have t18:(x.kind.toList==[113,117,111,116,97])=false:=by simpa using t18
  by_cases t19:(x.kind.toList==[116,105,99,107])=true
  ·exact aZ t19 (by rw[GK.out _ (by decide)];decide)
  have t19:(x.kind.toList==[116,105,99,107])=false:=by simpa using t19
  have nk:Kn.NK x:=fun l hl=>by
   unfold Kn.wk at hl;simp only[List.mem_cons,List.not_mem_nil,or_false]at hl;rcases hl with rfl|rfl|rfl|rfl|rfl|rfl<;>assumption
  have NK:=hZ nk;clear nk
  as_aux_lemma=>
   have CT:=hZ (Ir base N d s W x GK.out S.out.1.kk H.out.2.1 H.out.2.2.1 (aH H.out.2.2.2.1 S.out.1.kf.fU.size) H.out.2.2.2.2);rw[HK.out]at CT;go_wp2_with fail
   refine CT.out.mono ?_;rintro e w5 ⟨n,m,E,t,s',rfl,r5,k5,f5⟩;have S5:=hZ (aK r5 (S.out.1.step (s2:=s') k5 f5));clear r5 k5 f5 CT q0 q1 q2 q3 q4 q5 q6 q7 y5;obtain⟨c,hc⟩:=nJ (w.heap.size+1);rw[hc]at S5|-;have z0:=S5.out.2.a4.at 0 _ rfl;have z1:=S5.out.2.a4.at 1 _ rfl;have z2:=S5.out.2.a4.at 2 _ rfl;have z3:=S5.out.2.a4.at 3 _ rfl;have f4:=bf S5.out.2.a4;have FI:=hZ (S5.out.2.Qm n m E t);clear hc;go_wp2_with fail
   exact bodyPost_ret (v:= .agg #[.int .i64 n, .int .i64 m, .int .i64 E, .string t]) (by simp[results,Tryz.results12,go_sem,z0,z1,z2,z3]) rfl ⟨n,m,E,t,s',rfl, .inr ⟨NK.out,S5.out.1⟩,FI.out⟩
 case rest=>
  clear q0 q1 q2 q3 q4 q5 q6 q7 y5 S;obtain⟨E,n,m,s1,rfl,T⟩:=hcut;have NB:=hZ (pN E wc);go_wp2_with fail
  refine bM NB.out ?_;obtain⟨c,hc⟩:=nJ (w.heap.size+1);rw[hc]at T|-;have y0:=T.out.2.a5.at 0 _ rfl;have y1:=T.out.2.a5.at 1 _ rfl;have y2:=T.out.2.a5.at 2 _ rfl;have y3:=T.out.2.a5.at 3 _ rfl;have z0:=T.out.2.a4.at 0 _ rfl;have z1:=T.out.2.a4.at 1 _ rfl;have z2:=T.out.2.a4.at 2 _ rfl;have z3:=T.out.2.a4.at 3 _ rfl;have f5:=bf T.out.2.a5;have f4:=bf T.out.2.a4;have FI:=hZ (T.out.2.fin E);clear hc;go_wp2_with fail
  exact bodyPost_ret (v:= .agg #[.int .i64 n, .int .i64 m, .int .i64 E, .string ⟨#[]⟩]) (by simp[results,Tryz.results12,go_sem,z0,z1,z2,z3]) rfl ⟨n,m,E,_,s1,rfl, .inl T.out.1,FI.out⟩
end
theorem KW.Qr {w W:bD}{kb N:Nat}{d:Nat->Nat}{s:St}(h:KW w kb N d s W)(hN:N<880)(x:eQ)(gk:Kn.vH x.kind.toList)(nl:Kn.qC s.k)(hs:x.s.size<2^59):Calls Tryz.prog 12 #[.pointer (some ⟨kb,0,none⟩), .agg #[.string x.kind, .int .i64 x.a, .int .i64 x.b, .int .i64 x.c, .int .u64 x.key, .bool x.on, .string x.s, .string x.t]] W fun e w'=> ∃(n m E:Int) (t:bU) (s':St) (d':Nat->Nat),e= .returned (.agg #[.int .i64 n, .int .i64 m, .int .i64 E, .string t])/\(Kn.rU N s.k x n E s'.k\/Kn.NK x/\Kn.sK s.k x s'.k)/\KF s W s' w'/\KW w kb (N+2) d' s' w':=by
 have:=KT w.heap.size N d s W x gk nl h.kk h.kh hN h.bF.size hs;rw[h.a0]at this;refine this.mono ?_;rintro e w' ⟨n,m,E,t,s',rfl,r,k,f⟩;obtain⟨d',q⟩: ∃d',KH (N+2) d' s'.k:=r.elim h.kh.ac (fun r=>h.kh.di r.2);exact⟨n,m,E,t,s',d',rfl,r,f,h.step k f q⟩
theorem KW.jW {w W W':bD}{kb N b:Nat}{d:Nat->Nat}{s:St}(h:KW w kb N d s W)(f:af b W W')(nk: ¬KB s b)(ge:w.heap.size<=b):KW w kb N d s W':=⟨f.below h.bF ge h.bF.size,h.kk.fresh f nk,h.kh,h.a0⟩
section
theorem I2 (a0:Option Addr)(b0 o0 n0 c0:Nat)(code:Int)(ax:Nat->eQ)(w:bD)(ha:0<n0->a0=some ⟨b0,o0,none⟩)(hc: ∀i,i<n0-> ∀j,j<8->w.cell? ⟨b0,o0+i*8+j,none⟩=some ((ax i).cell j)):
  Calls Tryz.prog 5 #[.slice a0 n0 c0, .int .i64 code] w fun e w'=>e= .returned (.bool true)/\Below w.heap.size w w':=by
 have H0:=hZ (aK ha hc);clear ha hc;go_in
 go_wp2_with fail
 refine(EH _).mono ?_;rintro e w1 ⟨s,rfl,bg,kh,kk,b1⟩;obtain⟨kb,hkb⟩:=nJ (s.A 0);have S1:Hid (Kn.ug s.k/\KW w kb 2 (fun _=>1) s w1):=hZ ⟨bg,b1,kk,kh,hkb⟩;rw[hkb];clear bg kh kk b1 hkb;have F1:=hZ (sg w.heap.size 2 _ s w1 (by omega) 0 true S1.out.2.kk S1.out.2.bF.size S1.out.2.kh.ki.vi);rw[S1.out.2.a0]at F1;go_wp2_with fail
 refine F1.out.mono ?_;rintro e w2 ⟨p,E,s2,rfl,ft,k2,f2⟩;obtain⟨d2,kh2⟩:=S1.out.2.kh.fork ft;obtain⟨rfl,rfl,nx⟩:=Kn.HE.Q7 S1.out.1 S1.out.2.kh ft;have S2:=hZ (aK (S1.out.2.step k2 f2 kh2) (fun p' E' k2=> @nx _ _ p' E' k2 kh2));rw[aa];clear ft k2 f2 kh2 nx F1 S1;have F2:=hZ (sg w.heap.size _ _ s2 w2 (by omega) 0 false S2.out.1.kk S2.out.1.bF.size S2.out.1.kh.ki.vi);rw[S2.out.1.a0]at F2;go_wp2_with fail
 refine F2.out.mono ?_;rintro e w3 ⟨p,E,s3,rfl,ft,k3,f3⟩;obtain⟨d3,kh3⟩:=S2.out.1.kh.fork ft;obtain⟨rfl,rfl,he⟩:=S2.out.2 _ _ _ ft;have S3:Hid (KW w kb 6 d3 s3 w3/\Kn.HE s3.k):=hZ ⟨S2.out.1.step k3 f3 kh3,he kh3⟩;rw[aa];clear ft k3 f3 kh3 he F2 S2;have FW:=hZ (L5 a0 b0 o0 n0 c0 100 ax w3 (by omega) H0.out.1 (fun i hi j hj=>by
  have bl:b0<w.heap.size:=bZ _ _ (H0.out.2 i hi j hj);exact(S3.out.1.bF.cell (p:=⟨b0,o0+i*8+j,none⟩) bl).trans (H0.out.2 i hi j hj)))
 go_wp2_with fail
 refine FW.out.mono ?_;rintro e w4 ⟨v,rfl,lt,hw⟩;subst w4;cases v
 ·go_wp2
  go_ret
  exact⟨rfl,S3.out.1.bF⟩
 ·obtain⟨hn,lt⟩:=lt rfl;have LT:=hZ lt;clear lt FW;by_cases c0:code<0
  ·go_wp2
   go_ret
   exact⟨rfl,S3.out.1.bF⟩
  ·by_cases c1:255<code
   ·go_wp2
    go_ret
    exact⟨rfl,S3.out.1.bF⟩
   ·have CO:=hZ (aK (show 0<=code by omega) (show code<=255 by omega));go_wp2_with fail
    go_loopw [11] (fun i wr=> ∃(k:Nat) (s:St) (N:Nat) (d:Nat->Nat),i= .int .i64 k/\k<=n0/\N<=6+2*k/\Hid (KW w kb N d s wr/\Kn.HE s.k)) (fun i _=>n0-(intOf i).toNat)
    case atStart=>exact⟨0,s3,6,d3,rfl,by omega,by omega,S3⟩
    case round=>
     clear S3 c0 c1;obtain⟨k,s,N,d,rfl,hk,hN,S⟩:=hrel;by_cases hlt:k<n0
     ·as_aux_lemma=>
      have hltI:(k:Int)<(n0:Int):=by omega
      have hae:=H0.out.1 (by omega);subst hae;have HN:=hZ (aK hN hk);have HS:=hZ (LT.out k hlt);have cl: ∀j,j<8->wr.cell? ⟨b0,o0+k*8+j,none⟩=some ((ax k).cell j):=fun j hj=>(S.out.1.bF.cell (p:=⟨b0,o0+k*8+j,none⟩) (bZ _ _ (H0.out.2 k hlt j hj))).trans (H0.out.2 k hlt j hj);obtain⟨x,hx⟩:=nJ (ax k);rw[hx]at cl HS;have q0:wr.cell? ⟨b0,o0+k*8,none⟩=some (.string x.kind):=cl 0 (by omega);have q1:wr.cell? ⟨b0,o0+k*8+1,none⟩=some (.int .i64 x.a):=cl 1 (by omega);have q2:wr.cell? ⟨b0,o0+k*8+2,none⟩=some (.int .i64 x.b):=cl 2 (by omega);have q3:wr.cell? ⟨b0,o0+k*8+3,none⟩=some (.int .i64 x.c):=cl 3 (by omega);have q4:wr.cell? ⟨b0,o0+k*8+4,none⟩=some (.int .u64 x.key):=cl 4 (by omega);have q5:wr.cell? ⟨b0,o0+k*8+5,none⟩=some (.bool x.on):=cl 5 (by omega);have q6:wr.cell? ⟨b0,o0+k*8+6,none⟩=some (.string x.s):=cl 6 (by omega);have q7:wr.cell? ⟨b0,o0+k*8+7,none⟩=some (.string x.t):=cl 7 (by omega);clear cl hx hN;go_upto_region 14 with fail
      have bb:=(aQ wr.heap.size wr).alloc (aL _) (.cells #[.string x.kind, .int .i64 x.a, .int .i64 x.b, .int .i64 x.c, .int .u64 x.key, .bool x.on, .string x.s, .string x.t] 29);refine bw (fun W=>((KW w kb N d s W/\Kn.HE s.k)/\ ¬KB s wr.heap.size/\w.heap.size<=wr.heap.size)/\qy W wr.heap.size x) ⟨⟨⟨S.out.1.below bb,S.out.2⟩,S.out.1.kk.fZ (aL _),S.out.1.bF.size⟩,heap_alloc_new wr _⟩ ?_;rintro W3 ⟨hS3,hbx⟩;clear q0 q1 q2 q3 q4 q5 q6 q7 S bb;generalize wr.heap.size=ba at*;have S3:=hZ hS3;have AB:=hZ hbx;have x0:=hbx.at 0 (by omega);have x1:=hbx.at 1 (by omega);simp only[eQ.cell]at x0 x1;have WI:=hZ (D7 x.kind W3);clear hS3 hbx;go_wp2_with fail
      refine WI.out.mono ?_;rintro e w5 ⟨v,rfl,hl,hw⟩;subst w5;have HL:=hZ hl;have SE:=hZ (zL w.heap.size s W3 1 x.a S3.out.1.1.kk S3.out.1.1.kh.ki.vi.iv.nS);rw[S3.out.1.1.a0]at SE;clear hl WI;go_wp2_with fail
      refine SE.out.mono ?_;rintro e w6 ⟨rfl,b6⟩;have B6:Hid ((KW w kb N d s w6/\Kn.HE s.k)/\qy w6 ba x):=hZ ⟨⟨S3.out.1.1.below b6,S3.out.1.2⟩,(b6.block ba (aX.1 AB.out).1).trans AB.out⟩;have x0:=B6.out.2.at 0 (by omega);have x1:=B6.out.2.at 1 (by omega);simp only[eQ.cell]at x0 x1;clear b6 SE;cases v
      ·go_wp2
       go_roundw
       case rel=>exact⟨k+1,s,N,d,by go_num,by omega,by have:=HN.out;omega,B6.out.1⟩
       case measure=>simp[intOf];omega
      ·have HV:=hZ (HL.out rfl);clear HL;by_cases e0:Kn.dP s.k 1 x.a=0
       ·have HE:=hZ (B6.out.1.2.Qy B6.out.1.1.kh e0);rw[e0,aa];obtain⟨n,en⟩:=nJ (Kn.fB s.k 1 x.a);rw[en]at HE|-;clear e0 en;by_cases cc:x.a=1/\(x.kind.toList==[101,120,105,116])=true
        ·obtain⟨a1,t1⟩:=cc;have a1B:(x.a==1)=true:=by rw[a1];rfl
         go_wp2
         go_roundw
         case rel=>exact⟨k+1,s,N,d,by go_num,by omega,by have:=HN.out;omega,B6.out.1⟩
         case measure=>simp[intOf];omega
        ·have CX:Hid ((x.kind.toList==[101,120,105,116])=true->n≠1):=hZ (fun t=>HE.out.2.2 (fun a=>cc ⟨a,t⟩));have C2:x.a=1/\(x.kind.toList==[101,120,105,116])=false\/x.a≠1:=by
          by_cases a1:x.a=1
          ·exact .inl ⟨a1,by cases t:(x.kind.toList==[101,120,105,116])with|false=>rfl|true=>exact aZ ⟨a1,t⟩ cc⟩
          ·exact .inr a1
         clear cc;have fz:=bf B6.out.2;have AB2:Hid (qy (w6.setCell ⟨ba,1,none⟩ (.int .i64 (n:Int))) ba {x with a:=(n:Int)}):=hZ (by unfold qy;rw[bC B6.out.2 1];rfl);have LI:Hid (¬Kn.kd {x with a:=(n:Int)} [108,105,109,105,116]):=hZ (fun c=>by
          have c:(x.kind.toList==[108,105,109,105,116])=true:=c;rw[HV.out _ (by decide)]at c;cases c)
         rcases C2 with⟨a1,t1⟩|a1
         case' inl=>have a1B:(x.a==1)=true:=by rw[a1];rfl
         case' inr=>have a1B:(x.a==1)=false:=by simp[a1]
         all_goals
          go_upto_region 18 with fail
          refine bw (fun W=>KW w kb N d s W/\qy W ba {x with a:=(n:Int)}) ⟨B6.out.1.1.jW ((af.refl ba w6).setCell 1 (.int .i64 (n:Int))) S3.out.2.1 S3.out.2.2,AB2.out⟩ ?_;rintro W7 ⟨k7,a7⟩;have S7:=hZ k7;have AC:=hZ (S7.out.Qr (by have:=HN.out;omega) {x with a:=(n:Int)} HV.out B6.out.1.2.nl HS.out);have q0:=a7.at 0 (by omega);have q1:=a7.at 1 (by omega);have q2:=a7.at 2 (by omega);have q3:=a7.at 3 (by omega);have q4:=a7.at 4 (by omega);have q5:=a7.at 5 (by omega);have q6:=a7.at 6 (by omega);have q7:=a7.at 7 (by omega);simp only[eQ.cell]at q0 q1 q2 q3 q4 q5 q6 q7;clear x0 x1 fz k7 a7 AB2;go_wp2_with fail
          refine AC.out.mono ?_;rintro e w8 ⟨_,_,_,_,s',d',rfl,r,_,k8⟩;have S8:Hid (KW w kb (N+2) d' s' w8/\Kn.HE s'.k):=hZ ⟨k8,B6.out.1.2.ac (x:={x with a:=(n:Int)}) B6.out.1.1.kh rfl HE.out.2.1 HE.out.1 CX.out LI.out r⟩;clear k8 r AC q0 q1 q2 q3 q4 q5 q6 q7;go_wp2
          go_roundw
          case rel=>exact⟨k+1,s',N+2,d',by go_num,by omega,by have:=HN.out;omega,S8⟩
          case measure=>simp[intOf];omega
       ·rw[aj e0];clear e0;generalize Kn.fB s.k 1 x.a=n at*;go_wp2
        go_roundw
        case rel=>exact⟨k+1,s,N,d,by go_num,by omega,by have:=HN.out;omega,B6.out.1⟩
        case measure=>simp[intOf];omega
     ·as_aux_lemma=>
      have hltI: ¬(k:Int)<(n0:Int):=by omega
      have HN:Hid (N<=206):=hZ (by omega);have EX:=hZ (yQ w.heap.size N d s wr (by have:=HN.out;omega) 1 code S.out.1.kk S.out.1.kh.ki);rw[S.out.1.a0,S.out.2.P7 CO.out.1 CO.out.2,aa]at EX;clear hN hk hlt H0 LT;go_wp2_with fail
      refine EX.out.mono ?_;rintro e w5 ⟨k5,rfl,et,kk5,f5⟩;have S5:Hid (KW w kb N d {s with k:=k5} w5/\Kn.HF k5 code):=hZ ⟨S.out.1.step kk5 f5 (S.out.1.kh.exit et),S.out.2.exit S.out.1.kh CO.out.1 CO.out.2 et⟩;clear et kk5 f5 EX S hltI;have SF:=hZ (G3 w.heap.size {s with k:=k5} w5 2 S5.out.1.kk S5.out.1.kh.ki.vi.iv.nO);rw[S5.out.1.a0,(S5.out.2.self S5.out.1.kh).1,(S5.out.2.self S5.out.1.kh).2,aa]at SF;go_wp2_with fail
      refine bM SF.out ?_;have W1:=hZ (rL w.heap.size N d {s with k:=k5} w5 (by have:=HN.out;omega) 0 S5.out.1.kk S5.out.1.kh.ki.vi S5.out.1.kh.p0);rw[S5.out.1.a0]at W1;go_wp2_with fail
      refine W1.out.mono ?_;rintro e w6 ⟨p,c,E,k6,rfl,wt,kk6,f6⟩;obtain⟨rfl,rfl,hv,hg⟩:=S5.out.2.wait S5.out.1.kh wt;have S6:Hid (KW w kb N d {s with k:=k6} w6/\Kn.HG k6):=hZ ⟨S5.out.1.step kk6 f6 (S5.out.1.kh.wait wt),hg⟩;rw[aa,hv];clear wt kk6 f6 hv hg W1 SF S5;go_upto_region 23 with fail
      refine bw (fun W=>(KW w kb N d {s with k:=k6} W/\ ¬KB {s with k:=k6} w6.heap.size)/\W.heap[w6.heap.size]? =some (.cells #[.int .i64 2, .int .i64 code] 54 (0,0))) ⟨⟨S6.out.1.below ((aQ _ _).alloc (aL _) _),S6.out.1.kk.fZ (aL _)⟩,heap_alloc_new w6 _⟩ ?_;rintro W7 ⟨k7,b7⟩;generalize w6.heap.size=cb at*;have S7:=hZ (aK k7 b7);have HGK:=hZ S6.out.2;clear k7 b7 S6;have W2:=hZ (rL w.heap.size N d {s with k:=k6} W7 (by have:=HN.out;omega) 0 S7.out.1.1.kk S7.out.1.1.kh.ki.vi S7.out.1.1.kh.p0);rw[S7.out.1.1.a0]at W2;go_wp2_with fail
      refine W2.out.mono ?_;rintro e w8 ⟨p,c,E,k8,rfl,wt,kk8,f8⟩;obtain⟨rfl,ek⟩:=HGK.out.wait S7.out.1.1.kh wt;subst ek;have S8:Hid (∀W,Below w8.heap.size w8 W->KW w kb N d {s with k:=k8} W/\W.heap[cb]? =some (.cells #[.int .i64 2, .int .i64 code] 54 (0,0))):=hZ (fun W b=>by
       have e:=(f8.iC (aX.1 S7.out.2).1 S7.out.1.2).trans S7.out.2;exact⟨(S7.out.1.1.step kk8 f8 S7.out.1.1.kh).below b,(b.block _ (aX.1 e).1).trans e⟩)
      rw[aj (by decide)];clear wt kk8 f8 W2 S7;go_upto_region 24 with fail
      refine bw (fun W=>KW w kb N d {s with k:=k8} W/\W.heap[cb]? =some (.cells #[.int .i64 2, .int .i64 code] 54 (0,0))) (S8.out _ ((aQ _ _).alloc (aL _) _)) ?_;rintro W9 h9;have S9:=hZ h9;have PR:=hZ (vC w.heap.size {s with k:=k8} W9 S9.out.1.kk);rw[S9.out.1.a0,HGK.out.live]at PR;clear h9 S8;go_wp2_with fail
      refine PR.out.mono ?_;rintro e w10 ⟨v,rfl,hL⟩;have SN:=hZ (zH hL (by show 0<2;omega) (by show 2<9;omega) (C:=#[.int .i64 0, .int .i64 2]) (T:=3) (fun i hi=>by
       have hi:i<2:=hi
       match i,hi with
       |0,_=>rfl
       |1,_=>rfl))
      have B10:=hZ hL.bF;obtain⟨gg,cap,rfl,gl,gc⟩:=hL.cells (by show 0<2;omega);clear hL gl gc;go_wp2_with fail
      refine SN.out.mono ?_;rintro e w11 ⟨rfl,b11⟩;have S11:Hid (KW w kb N d {s with k:=k8} w11/\w11.heap[cb]? =some (.cells #[.int .i64 2, .int .i64 code] 54 (0,0))):=hZ (by
       have b:=B10.out.trans (b11.mono B10.out.size);exact⟨S9.out.1.below b,(b.block _ (aX.1 S9.out.2).1).trans S9.out.2⟩)
      have c0:w11.cell? ⟨cb,0,none⟩=some (.int .i64 2):=by rw[au S11.out.2];rfl
      have c1:w11.cell? ⟨cb,1,none⟩=some (.int .i64 code):=by rw[au S11.out.2];rfl
      have NB:=hZ (fun V=>pN 8 V);rw[aj (by decide)]at NB;clear b11 B10 SN S9 PR;go_wp2_with fail
      refine bM (NB.out _) ?_;have SP:=hZ (B9 w.heap.size {s with k:=k8} w11 S11.out.1.kk);rw[S11.out.1.a0,HGK.out.all S11.out.1.kh]at SP;go_wp2_with fail
      refine SP.out.mono ?_;rintro e w12 ⟨v,rfl,hL⟩;have SN:=hZ (zH hL (by show 0<1;omega) (by show 1<9;omega) (C:=#[.int .i64 0]) (T:=3) (fun i hi=>by
       have hi:i<1:=hi
       match i,hi with
       |0,_=>rfl))
      have B12:=hZ (S11.out.1.below hL.bF).bF;obtain⟨gg,cap,rfl,gl,gc⟩:=hL.cells (by show 0<1;omega);clear hL gl gc c0 c1;go_wp2_with fail
      refine SN.out.mono ?_;rintro e w13 ⟨rfl,b13⟩;have B13:=hZ (B12.out.trans (b13.mono B12.out.size));clear b13 SN SP;go_wp2
      go_ret
      exact⟨rfl,B13.out⟩
theorem Mu (a:Option Addr)(len cap:Nat)(code:Int)(w:bD)(h:tK w a len):
 Calls Tryz.prog 5 #[.slice a len cap, .int .i64 code] w fun e w'=>e= .returned (.bool true)/\Below w.heap.size w w':=Kv h fun b o ax ha hc=>I2 a b o len cap code ax w ha hc
end
end Go.Proofs.YtpmmdkcfenjiaaaGreatDoor
namespace Go.Proofs.YtpmmdkcfenjiaaaGreatDoor.HdP
open Go.ChangeShapes Go.WideShapes Go.ChangeAt Go.RowKit
set_option linter.unusedVariables false
theorem own:ownKnob Tryz.prog.godebug=none:=by kernel_rfl
theorem laidOut:laidOutB Tryz.prog=true:=by kernel_rfl
theorem lifted (os:Os)(started:os.Started)(H:Type)(enc:TypeId×Value->H):
  ReturnsInHanded {} Tryz.checked os 5 .any (fun w args=>(Rows.topHeadSpec.pre enc Tryz.prog Tryz.f5 Rows.topHeadRow.domain false w args/\laidMetH Tryz.prog Rows.topHeadRow.laid w)/\sizedMet enc Tryz.prog Tryz.f5 (OpenSpec.ofChange Rows.topHeadSpec) false w args)
   (Rows.topHeadSpec.post enc Tryz.prog Tryz.f5 false true false false):=by
 refine returnsInHanded_of_change_and (C:=Tryz.checked) (X:=fun w _=>laidMetH Tryz.prog Rows.topHeadRow.laid w) (fun _ _ _ hh h=>h.of_heap hh) own started (by kernel_rfl) Tryz.func5
  (ChangeSpec.witness_shaped (enc:=enc) (C:=Tryz.checked) (os:=os) (X:=fun w _=>laidMetH Tryz.prog Rows.topHeadRow.laid w) false (World.laidAll Tryz.prog os Rows.topHeadRow.laid) #[.slice none 0 0, .int .i64 0] 8 (World.laidAll_os _ _ _)
   (World.shaped_of_ZipB (by kernel_rfl) (by kernel_rfl)) (by kernel_rfl) (by kernel_rfl) (by kernel_rfl)
   (by rw[MakeChecks.laidMetH_plain _ _ _ (by kernel_rfl)];exact laidMet_laidAll _ (by kernel_rfl) (by kernel_rfl))) ?_
 intro W base args ds gs before hval0 hW hc _ hL _;have hval: ∀(j:Nat) t v,Tryz.f5.params[j]? =some t->args[j]? =some v->Value.okWide Tryz.prog W .any base t v:=hval0;have hW':=hW;obtain⟨p,q,hA0,hV,rfl,hfz,hnd⟩:=hW;have hA:DataW.TrodAll enc Tryz.prog W 0 (fun _=>true) true Tryz.f5.params.toList args.toList ds p:=hA0;rw[Tryz.params5]at hA hval;obtain⟨v0,vs0,d0,ds0,p0,q0,hargs,rfl,rfl,h0,r0⟩:=trodAll_cons hA;obtain⟨v1,vs1,d1,ds1,p1,q1,rfl,rfl,rfl,h1,r1⟩:=trodAll_cons r0;obtain⟨rfl,rfl,rfl⟩:=trodAll_nil r1;obtain rfl:args=#[v0,v1]:=by cases args;simp_all
 obtain⟨rfl,rfl⟩:=trodVars_none hV;obtain⟨a0,len0,cap0,rfl⟩:=okWide_slice Tryz.underlying22 (hval 0 22 v0 rfl rfl);obtain⟨zc,rfl⟩:=okWide_int Tryz.underlying3 (hval 1 3 v1 rfl rfl);have k0:=h0;have lt1: ∀x∈p1,x.block<W.heap.size:=by obtain⟨m,hm⟩:=h1;exact DataW.trod_lt m _ _ _ hm
 have lt0: ∀x∈p0,x.block<W.heap.size:=by obtain⟨m,hm⟩:=k0;exact DataW.trod_lt m _ _ _ hm
 have w0:tK W a0 len0:=by
  obtain⟨fuel,hf⟩:=h0;exact Mk (by simpa[Value.cells]using hf)
 clear hA0 hval0;refine(Mu a0 len0 cap0 zc W w0).mono fun e W' ⟨he,bF⟩=>?_;subst he;exact⟨_,rfl,_,_,_,[],_,[],hW',trodAll_mk1 (shut_bool Tryz.underlying4 _),(trodAll_cons_mk (Below.trod laidOut (by kernel_rfl) (of_decide_eq_true (by kernel_rfl)) k0 bF lt0) (trodAll_cons_mk (Below.trod laidOut (by kernel_rfl) (of_decide_eq_true (by kernel_rfl)) h1 bF lt1) trodAll_mk0)),rfl,bF.frame _,fun h=>by cases h⟩
end Go.Proofs.YtpmmdkcfenjiaaaGreatDoor.HdP

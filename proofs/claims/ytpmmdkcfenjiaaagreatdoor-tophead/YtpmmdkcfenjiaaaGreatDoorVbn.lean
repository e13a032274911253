import Derived.Test.YtpmmdkcfenjiaaaGreatDoorVbk
set_option linter.unusedVariables false
set_option linter.unusedSimpArgs false
namespace Go.Proofs.YtpmmdkcfenjiaaaGreatDoor
open Go.RowKit
open Kn (Pr Kp St us KB KJ VI EI KH)
def uy (W:bD)(b:Nat)(n m e:Int)(t:bU):Prop:=W.heap[b]? =some (.cells #[.int .i64 n, .int .i64 m, .int .i64 e, .string t] 38 (0,0))
theorem uy.lt {W:bD}{b:Nat}{n m e:Int}{t:bU}(h:uy W b n m e t):b<W.heap.size:=(aX.1 h).1
structure AW (base:Nat)(s:St)(w:bD)(c:Nat)(s1:St)(n m:Int)(t:bU)(W:bD):Prop where
 kk:ak W base s1
 kf:KF s w s1 W
 a4:uy W c 0 0 0 ⟨#[]⟩
 a5:uy W (c+1) n m 0 t
 n4: ¬KB s1 c
 n5: ¬KB s1 (c+1)
 ge:w.heap.size<=c
section
variable {base c : Nat} {s s1 s2 : St} {w W W2 : bD} {n m : Int} {t : bU}
theorem AW.step (h:AW base s w c s1 n m t W)(k:ak W2 base s2)(f:KF s1 W s2 W2):AW base s w c s2 n m t W2:=
 ⟨k,h.kf.trans f,(f.iC h.a4.lt h.n4).trans h.a4,(f.iC h.a5.lt h.n5).trans h.a5,f.apart h.a4.lt h.n4,f.apart h.a5.lt h.n5,h.ge⟩
theorem AW.set (h:AW base s w c s1 n m t W)(j:Nat)(v:Value){n' m':Int}{t':bU}(e:uy (W.setCell ⟨c+1,j,none⟩ v) (c+1) n' m' 0 t'):AW base s w c s1 n' m' t' (W.setCell ⟨c+1,j,none⟩ v):=by
 have f:af (c+1) W (W.setCell ⟨c+1,j,none⟩ v):=(af.refl _ _).setCell _ _;exact⟨h.kk.fresh f h.n5,h.kf.fresh f (by have:=h.ge;omega),(f.block c h.a4.lt (by omega)).trans h.a4,e,h.n4,h.n5,h.ge⟩
theorem AW.kJ (h:AW base s w c s1 n m t W)(x:Int):AW base s w c s1 x m t (W.setCell ⟨c+1,0,none⟩ (.int .i64 x)):=h.set 0 _ (by unfold uy;rw[bC h.a5 0];rfl)
theorem AW.zJ (h:AW base s w c s1 n m t W)(x:Int):AW base s w c s1 n x t (W.setCell ⟨c+1,1,none⟩ (.int .i64 x)):=h.set 1 _ (by unfold uy;rw[bC h.a5 1];rfl)
theorem AW.kP (h:AW base s w c s1 n m t W)(x:bU):AW base s w c s1 n m x (W.setCell ⟨c+1,3,none⟩ (.string x)):=h.set 3 _ (by unfold uy;rw[bC h.a5 3];rfl)
theorem AW.below (h:AW base s w c s1 n m t W)(b:Below W.heap.size W W2):AW base s w c s1 n m t W2:=h.step (h.kk.below b) (KF.below b)
end
theorem uy.at {W:bD}{b:Nat}{n m e:Int}{t:bU}(h:uy W b n m e t)(j:Nat)(v:Value)(hv:(#[.int .i64 n, .int .i64 m, .int .i64 e, .string t]:Array Value)[j]? =some v):W.cell? ⟨b,j,none⟩=some v:=by rw[au h];exact hv
theorem AW.fin {base c:Nat}{s s1:St}{w W:bD}{n m:Int}{t:bU}(h:AW base s w c s1 n m t W)(E:Int):ak (((((W.setCell ⟨c+1,2,none⟩ (.int .i64 E)).setCell ⟨c,0,none⟩ (.int .i64 n)).setCell ⟨c,1,none⟩ (.int .i64 m)).setCell ⟨c,2,none⟩ (.int .i64 E)).setCell ⟨c,3,none⟩ (.string t)) base s1/\KF s w s1 (((((W.setCell ⟨c+1,2,none⟩ (.int .i64 E)).setCell ⟨c,0,none⟩ (.int .i64 n)).setCell ⟨c,1,none⟩ (.int .i64 m)).setCell ⟨c,2,none⟩ (.int .i64 E)).setCell ⟨c,3,none⟩ (.string t)):=by
 have f:af (c+1) W (W.setCell ⟨c+1,2,none⟩ (.int .i64 E)):=(af.refl _ _).setCell _ _;have g:af c (W.setCell ⟨c+1,2,none⟩ (.int .i64 E)) (((((W.setCell ⟨c+1,2,none⟩ (.int .i64 E)).setCell ⟨c,0,none⟩ (.int .i64 n)).setCell ⟨c,1,none⟩ (.int .i64 m)).setCell ⟨c,2,none⟩ (.int .i64 E)).setCell ⟨c,3,none⟩ (.string t)):=((((af.refl _ _).setCell _ _).setCell _ _).setCell _ _).setCell _ _;have:=h.ge;exact⟨(h.kk.fresh f h.n5).fresh g h.n4,(h.kf.fresh f (by omega)).fresh g h.ge⟩
def qy (W:bD)(b:Nat)(x:eQ):Prop:=W.heap[b]? =some (.cells #[.string x.kind, .int .i64 x.a, .int .i64 x.b, .int .i64 x.c, .int .u64 x.key, .bool x.on, .string x.s, .string x.t] 29 (0,0))
theorem qy.at {W:bD}{b:Nat}{x:eQ}(h:qy W b x)(j:Nat)(hj:j<8):W.cell? ⟨b,j,none⟩=some (x.cell j):=by
 rw[au h]
 match j,hj with
 |0,_=>rfl
 |1,_=>rfl
 |2,_=>rfl
 |3,_=>rfl
 |4,_=>rfl
 |5,_=>rfl
 |6,_=>rfl
 |7,_=>rfl
theorem AW.start {base:Nat}{s:St}{w:bD}(h:ak w base s)(x:eQ):AW base s w (w.heap.size+1) s 0 0 ⟨#[]⟩ (((w.alloc (.cells #[.string x.kind, .int .i64 x.a, .int .i64 x.b, .int .i64 x.c, .int .u64 x.key, .bool x.on, .string x.s, .string x.t] 29)).alloc (.cells #[.int .i64 0, .int .i64 0, .int .i64 0, .string ⟨#[]⟩] 38)).alloc (.cells #[.int .i64 0, .int .i64 0, .int .i64 0, .string ⟨#[]⟩] 38))/\qy (((w.alloc (.cells #[.string x.kind, .int .i64 x.a, .int .i64 x.b, .int .i64 x.c, .int .u64 x.key, .bool x.on, .string x.s, .string x.t] 29)).alloc (.cells #[.int .i64 0, .int .i64 0, .int .i64 0, .string ⟨#[]⟩] 38)).alloc (.cells #[.int .i64 0, .int .i64 0, .int .i64 0, .string ⟨#[]⟩] 38)) w.heap.size x:=by
 have z1:(w.alloc (.cells #[.string x.kind, .int .i64 x.a, .int .i64 x.b, .int .i64 x.c, .int .u64 x.key, .bool x.on, .string x.s, .string x.t] 29)).heap.size=w.heap.size+1:=by simp
 have z2:((w.alloc (.cells #[.string x.kind, .int .i64 x.a, .int .i64 x.b, .int .i64 x.c, .int .u64 x.key, .bool x.on, .string x.s, .string x.t] 29)).alloc (.cells #[.int .i64 0, .int .i64 0, .int .i64 0, .string ⟨#[]⟩] 38)).heap.size=w.heap.size+1+1:=by simp
 have b1:=(aQ w.heap.size w).alloc (aL _) (.cells #[.string x.kind, .int .i64 x.a, .int .i64 x.b, .int .i64 x.c, .int .u64 x.key, .bool x.on, .string x.s, .string x.t] 29);have c2:=(aQ (w.alloc (.cells #[.string x.kind, .int .i64 x.a, .int .i64 x.b, .int .i64 x.c, .int .u64 x.key, .bool x.on, .string x.s, .string x.t] 29)).heap.size (w.alloc (.cells #[.string x.kind, .int .i64 x.a, .int .i64 x.b, .int .i64 x.c, .int .u64 x.key, .bool x.on, .string x.s, .string x.t] 29))).alloc (aL _) (.cells #[.int .i64 0, .int .i64 0, .int .i64 0, .string ⟨#[]⟩] 38);have c3:=(aQ ((w.alloc (.cells #[.string x.kind, .int .i64 x.a, .int .i64 x.b, .int .i64 x.c, .int .u64 x.key, .bool x.on, .string x.s, .string x.t] 29)).alloc (.cells #[.int .i64 0, .int .i64 0, .int .i64 0, .string ⟨#[]⟩] 38)).heap.size ((w.alloc (.cells #[.string x.kind, .int .i64 x.a, .int .i64 x.b, .int .i64 x.c, .int .u64 x.key, .bool x.on, .string x.s, .string x.t] 29)).alloc (.cells #[.int .i64 0, .int .i64 0, .int .i64 0, .string ⟨#[]⟩] 38))).alloc (aL _) (.cells #[.int .i64 0, .int .i64 0, .int .i64 0, .string ⟨#[]⟩] 38);have B:=b1.trans ((c2.trans (c3.mono (by rw[z1,z2];omega))).mono b1.size);have h1:=heap_alloc_new w (.cells #[.string x.kind, .int .i64 x.a, .int .i64 x.b, .int .i64 x.c, .int .u64 x.key, .bool x.on, .string x.s, .string x.t] 29);have h2:=heap_alloc_new (w.alloc (.cells #[.string x.kind, .int .i64 x.a, .int .i64 x.b, .int .i64 x.c, .int .u64 x.key, .bool x.on, .string x.s, .string x.t] 29)) (.cells #[.int .i64 0, .int .i64 0, .int .i64 0, .string ⟨#[]⟩] 38)
 have h3:=heap_alloc_new ((w.alloc (.cells #[.string x.kind, .int .i64 x.a, .int .i64 x.b, .int .i64 x.c, .int .u64 x.key, .bool x.on, .string x.s, .string x.t] 29)).alloc (.cells #[.int .i64 0, .int .i64 0, .int .i64 0, .string ⟨#[]⟩] 38)) (.cells #[.int .i64 0, .int .i64 0, .int .i64 0, .string ⟨#[]⟩] 38);rw[z1]at h2;rw[z2]at h3;exact⟨⟨h.below B,KF.below B,(c3.block _ (by rw[z2];omega)).trans h2,h3,h.fZ (by omega),h.fZ (by omega),by omega⟩,(c3.block _ (by rw[z2];omega)).trans ((c2.block _ (by rw[z1];omega)).trans h1)⟩
theorem Mv.Mn (m:Mv.Me)(a n:Int)(w:Bool):(Mv.mapM m a n w).fr=m.fr:=by unfold Mv.mapM;split<;>rfl
theorem Mv.Md (m:Mv.Me)(a n:Int)(w:Bool):(Mv.sj m a n w).fr=m.fr:=by unfold Mv.sj;split<;>rfl
theorem AW.Qm {base c:Nat}{s s1:St}{w W:bD}{n m:Int}{t:bU}(h:AW base s w c s1 n m t W)(a b e:Int)(u:bU):ak ((((W.setCell ⟨c,0,none⟩ (.int .i64 a)).setCell ⟨c,1,none⟩ (.int .i64 b)).setCell ⟨c,2,none⟩ (.int .i64 e)).setCell ⟨c,3,none⟩ (.string u)) base s1/\KF s w s1 ((((W.setCell ⟨c,0,none⟩ (.int .i64 a)).setCell ⟨c,1,none⟩ (.int .i64 b)).setCell ⟨c,2,none⟩ (.int .i64 e)).setCell ⟨c,3,none⟩ (.string u)):=
 have g:=((((af.refl c W).setCell 0 (.int .i64 a)).setCell 1 (.int .i64 b)).setCell 2 (.int .i64 e)).setCell 3 (.string u)
 ⟨h.kk.fresh g h.n4,h.kf.fresh g h.ge⟩

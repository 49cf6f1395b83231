/- VgRol, VgTb6, VgStp, VgStA, VgCgs, PgMay, PgPut, PgFind, PgApi, PgHide, PgSnap, PgRoll. -/
import Derived.Test.YtdagdllomphidaaGreatDoorZP9
set_option linter.unusedVariables false
set_option linter.unusedSimpArgs false
set_option maxHeartbeats 30000000
set_option maxRecDepth 100000
namespace Go.Proofs.YtdagdllomphidaaGreatDoor.vt.pg
open _root_.Go.Proofs.Tryz Go Go.RowKit Go.Sort ib mt im sp
def r1M (m:Mt)(k:Nat):Mt:={ m with qa:=m.qa.take k }
def r2M (m:Mt)(k:Nat):Mt:={ r1M m k with live:=kN m k }
def r3M (m:Mt)(k:Nat):Mt:={ r2M m k with tok:=zD }
theorem qkM{m:Mt}{k:Nat}(h:k≤m.qa.length):jC m (k:Int)=⟨0,r3M m k,[]⟩:=by
 unfold jC;rw[if_neg (by omega)];rfl
theorem qoV{m:Mt}{n:Int}(h:n<0∨(m.qa.length:Int)<n):jC m n=⟨2,m,[]⟩:=by
 unfold jC;rw[if_pos h]
def qs6 (G:Nat→Prop)(p:Nat)(T:Array Value)(m:Mt)(k:Nat):Nat→Value→World→Prop:=fun i v w=>match i with
 | 1 | 7=>v=.int .i64 (k:Int)
 | 2=>dD G v w m (r1M m k)
 | 6=>v=.agg T
 | 8=>∃A c,v=.slice A (kN m k).length c∧ay G w A (kN m k) c
 | 9=>dD G v w (r1M m k) (r2M m k)
 | 10=>v=.agg (wh zD none 0 0)
 | 11=>dD G v w (r2M m k) (r3M m k)
 | 12=>∃B f1 f2 f3,v=.slice (some ⟨B,0,none⟩) 3 3∧qf w B 115 #[f1,f2,f3]∧dD G f1 w m (r1M m k)∧dD G f2 w (r1M m k) (r2M m k)∧dD G f3 w (r2M m k) (r3M m k)
 | _=>v=pt p
theorem qkN(G:Nat→Prop)(p:Nat)(T:Array Value)(m:Mt)(k:Nat):∀i v w w',i<13→qs6 G p T m k i v w→Below w.heap.size w w'→qs6 G p T m k i v w':=by
 intro i v w w' hi h hb;rcases i with _|_|_|_|_|_|_|_|_|_|_|_|_|i;all_goals (first|omega|skip)
 all_goals unfold qs6 at h ⊢
 all_goals try dsimp only at h ⊢
 all_goals first
  | exact h
  | exact h.below hb
  | (obtain⟨A,c,h1,h2⟩:=h
     exact⟨A,c,h1,h2.stay (uS.of_below hb)⟩)
  | (obtain⟨B,f1,f2,f3,h1,h2,h3,h4,h5⟩:=h
     exact⟨B,f1,f2,f3,h1,h2.below hb,h3.below hb,h4.below hb,h5.below hb⟩)
theorem qoW{o1 o2:Nat→Prop}{w:World}{v pd N b:Nat}{d:DD}{m:Mt}{t:Tg}(n:Int)(h:VP jJ w o1 o2 v pd d m false)(hJ:jr.JJ N t d)(hf:0≤d.qp)(hR:qO b N t m)(hn:ib.yA n) :
    Calls prog 34 #[pt v,.int .i64 n] w (kZ jJ o1 o2 v pd (yo N t d m (jC m n)) w):=by
 have HV:=QH h;have HJ:=QH hJ;have HR:=QH hR;have HFU:=QH hf;have xE:=QH (jP h hJ.on);have nT:=QH (lu hR n);obtain⟨A0,A1,A2,c0,c1,c2,hA⟩:=h.is;have HA:=QH hA;obtain⟨bz,k0,k1,k2,k3,k4,k5,k6,k7,k8,k9,cP⟩:=hA.cells;by_cases hbd:n<0∨(m.qa.length:Int)<n
 ·have eG:=QH (qoV hbd);obtain⟨PN,lR⟩:=QE (jC m n);rw[lR]at eG ⊢;clear h hJ hR hf hA lR nT;by_cases h0:n<0
  ·clear hbd;go_enter func34,ntmps34;go_wp2_with fail;refine xE.out.mono ?_;rintro e W0 ⟨rfl,rfl⟩;clear xE;go_wp2_with fail;go_ret;rw[eG.out];exact jR HV.out (Below.refl _ _) (kQ (by decide))
  ·have h1:(m.qa.length:Int)<n:=by omega
   clear hbd;go_enter func34,ntmps34;go_wp2_with fail;refine xE.out.mono ?_;rintro e W0 ⟨rfl,rfl⟩;clear xE;go_wp2_with fail;go_ret;rw[eG.out];exact jR HV.out (Below.refl _ _) (kQ (by decide))
 ·obtain⟨k,rfl⟩:∃k:Nat,n=(k:Int):=⟨n.toNat,by omega⟩;have hkl:k≤m.qa.length:=by omega
  have h0:¬ (k:Int)<0:=by omega
  have h1:¬ (m.qa.length:Int)<(k:Int):=by omega
  have dS:=qkM hkl;obtain⟨PN,lR⟩:=QE (jC m (k:Int));rw[lR]at dS nT ⊢;have df:Hid (PN.code=0∧PN.m=r3M m k∧PN.ws=[]):=by unfold Hid;rw[dS];exact⟨rfl,rfl,rfl⟩
  have HDK:Hid (yB b N PN.m∧dE N m PN.ws):=⟨(nT.out.2.1 df.out.1).ok,(nT.out.2.1 df.out.1).ws⟩;have HKL:=QH hkl;have nO:Hid ((kN m k).length≤1000):=by
   have h7:=HDK.out.1;rw[df.out.2.1]at h7;have h8:=h7.len;have h9:=h7.b8;show(r3M m k).live.length≤1000;omega
  clear h hJ hR hf hA lR nT dS hbd hkl;go_enter func34,ntmps34;go_wp2_with fail;refine xE.out.mono ?_;rintro e W0 ⟨rfl,rfl⟩;clear xE;go_wp2_with fail;refine qM (by kernel_rfl) 13 [23,24,25,26,27,28,29,30,31,32,33,34,35] (by kernel_rfl) (qs6 (fun j=>(o1 j∧j≠v)∨w.heap.size≤j) v (zq A0 A1 A2 c0 c1 c2 m) m k) (qkN _ _ _ _ _) ?_ ?_
  ·intro i o vs ρ W hi hop hρ hfn hb hG;have t0:ρ (.tmp 0)=pt v:=hρ.out 0 rfl;have t1:ρ (.tmp 1)=.int .i64 (k:Int):=hρ.out 1 rfl;have s24:=hρ.at_ 24 1 rfl;have s25:=hρ.at_ 25 2 rfl;have s26:=hρ.at_ 26 3 rfl;have s27:=hρ.at_ 27 4 rfl;have s28:=hρ.at_ 28 5 rfl;have s29:=hρ.at_ 29 6 rfl;have s30:=hρ.at_ 30 7 rfl;have s31:=hρ.at_ 31 8 rfl;have s32:=hρ.at_ 32 9 rfl;have s33:=hρ.at_ 33 10 rfl;have s34:=hρ.at_ 34 11 rfl;have n4:=HA.out.below hb;obtain⟨bz,k0,k1,k2,k3,k4,k5,k6,k7,k8,k9,cP⟩:=n4.cells;have hsz:w.heap.size≤W.heap.size:=hb.size;rcases i with _|_|_|_|_|_|_|_|_|_|_|_|_|i;all_goals (first|omega|skip)
   all_goals simp only[QA,QB,QC,Option.some.injEq]at hop
   all_goals subst hop
   ·exact q9 (w':=W) (by unfold execOp;simp only[t0];go_simp) ⟨Below.refl _ _,rfl⟩
   ·exact q9 (w':=W) (by unfold execOp;simp only[t1];go_simp) ⟨Below.refl _ _,rfl⟩
   ·have g1:vs 1=_:=hG 1 (by kernel_rfl);refine qi (f:=80) (args:=#[.int .i64 (k:Int)]) (w':=W) (by unfold execOp;simp only[hfn,s24,g1];go_simp) ((qjN (G:=fun j=>(o1 j∧j≠v)∨w.heap.size≤j) k).mono ?_);rintro e W' ⟨f,rfl,lS,hb5⟩;exact⟨f,rfl,hb5,dD.of (lS m (r1M m k) ⟨HKL.out,rfl⟩)⟩
   ·exact q9 (w':=W) (by unfold execOp;simp only[t0];go_simp) ⟨Below.refl _ _,rfl⟩
   ·have g3:vs 3=_:=hG 3 (by kernel_rfl);exact q9 (w':=W) (by unfold execOp;simp only[s26,g3];go_simp) ⟨Below.refl _ _,rfl⟩
   ·have g4:vs 4=_:=hG 4 (by kernel_rfl);exact q9 (w':=W) (by unfold execOp;simp only[s27,g4];go_simp) ⟨Below.refl _ _,rfl⟩
   ·have g5:vs 5=_:=hG 5 (by kernel_rfl);exact q9 (w':=W) (by unfold zq execOp;simp only[s28,g5];go_simp) ⟨Below.refl _ _,rfl⟩
   ·exact q9 (w':=W) (by unfold execOp;simp only[t1];go_simp) ⟨Below.refl _ _,rfl⟩
   ·have g6:vs 6=_:=hG 6 (by kernel_rfl);have g7:vs 7=_:=hG 7 (by kernel_rfl);refine qi (f:=79) (args:=#[.agg (zq A0 A1 A2 c0 c1 c2 m),.int .i64 (k:Int)]) (w':=W) (by unfold execOp;simp only[hfn,s29,g6,s30,g7];go_simp) ((pR (G:=fun j=>(o1 j∧j≠v)∨w.heap.size≤j) (n4.tab.qa.mono (fun j hj=>.inl hj)) n4.sz (fun j hj=>.inr (Nat.le_trans hsz hj)) k HKL.out).mono ?_);rintro e W' ⟨A,c,rfl,wU,hb5⟩;exact⟨_,rfl,hb5,A,c,rfl,wU⟩
   ·obtain⟨A,c,g8,wU⟩:=hG 8 (by kernel_rfl);refine qi (f:=57) (args:=#[.slice A (kN m k).length c]) (w':=W) (by unfold execOp;simp only[hfn,s31,g8];go_simp) ((lA (G:=fun j=>(o1 j∧j≠v)∨w.heap.size≤j) wU nO.out (fun j hj=>.inr (Nat.le_trans hsz hj))).mono ?_);rintro e W' ⟨f,rfl,lS,hb5⟩;exact⟨f,rfl,hb5,dD.of (lS (r1M m k) _ rfl)⟩
   ·exact q9 (w':=W) (by unfold wh zD execOp;go_simp) ⟨Below.refl _ _,rfl⟩
   ·have g10:vs 10=_:=hG 10 (by kernel_rfl);refine qi (f:=60) (args:=#[.agg (wh zD none 0 0)]) (w':=W) (by unfold execOp;simp only[hfn,s33,g10];go_simp) ((vg (G:=fun j=>(o1 j∧j≠v)∨w.heap.size≤j) (t:=zD) (yM.none W) (by decide) qem (fun j hj=>.inr (Nat.le_trans hsz hj))).mono ?_);rintro e W' ⟨f,rfl,lS,hb5⟩;exact⟨f,rfl,hb5,dD.of (lS (r2M m k) _ rfl)⟩
   ·have g2:=hG 2 (by kernel_rfl);have g9:=hG 9 (by kernel_rfl);have g11:=hG 11 (by kernel_rfl);obtain⟨⟨ka,ca,ea⟩,ga⟩:=g2;obtain⟨⟨kb,cb,eb⟩,gb⟩:=g9;obtain⟨⟨kc,cc,ec⟩,gc⟩:=g11;have hb1:=(Below.refl _ W).alloc (Nat.le_refl _) (.cells #[.func (.func ka) #[] ca,.func (.func kb) #[] cb,.func (.func kc) #[] cc] 115);rw[ea]at ga;rw[eb]at gb;rw[ec]at gc;exact q9 (v:=.slice (some ⟨W.heap.size,0,none⟩) 3 3) (w':=W.alloc (.cells #[.func (.func ka) #[] ca,.func (.func kb) #[] cb,.func (.func kc) #[] cc] 115)) (by unfold execOp;simp only[s25,ea,s32,eb,s34,ec];go_simp) ⟨hb1,_,_,_,_,rfl,qf.new _ _ _,(dD.of ga).below hb1,(dD.of gb).below hb1,(dD.of gc).below hb1⟩
  ·intro vs W hb hG;have g0:vs 0=_:=hG 0 (by decide);obtain⟨B,f1,f2,f3,g12,ji,he1,tS,he3⟩:=hG 12 (by decide);have eo:=QH (gM HV.out hb HJ.out HFU.out HR.out df.out.1 HDK.out (M:=fun i=>if i=0 then m else if i=1 then r1M m k else if i=2 then r2M m k else r3M m k) (n:=3) (c:=3) rfl (df.out.2.1.symm) (rU ji he1.2 tS.2 he3.2) (by omega) (cb:=0) (ir W) (by simp) (df.out.2.2.symm));simp only[qW,qG,if_true];rw[g0,g12];generalize vs 1=z1;generalize vs 2=z2;generalize vs 3=z3;generalize vs 4=z4;generalize vs 5=z5;generalize vs 6=z6;generalize vs 7=z7;generalize vs 8=z8;generalize vs 9=z9;generalize vs 10=z10;generalize vs 11=z11;clear hG g0 g12 hb ji he1 tS he3;simp only[Act.put,List.setIfInBounds_toArray,List.set_cons_succ,List.set_cons_zero];refine qJ (i:=13) (by kernel_rfl) rfl rfl ?_;go_simp;refine eo.out.mono ?_;rintro e W7 ⟨r,d',m',lost,bm,dB,rfl,hh⟩;have HH:=QH hh;clear hh eo;go_simp;refine qJ (i:=14) (by kernel_rfl) rfl rfl ?_;go_simp;refine⟨by kernel_rfl,?_⟩;go_wp2_with fail;go_ret;exact⟨r,d',m',lost,bm,dB,rfl,HH.out⟩
section
variable {b n:Nat} {last:Gd} {f:Tf} {x:List (Int × Bt)}
theorem qoX(h:f.base≠last):zQ b n last f x=2:=by unfold zQ;rw[if_pos (.inl h)]
theorem qkO(h:above f.target last=false):zQ b n last f x=2:=by unfold zQ;rw[if_pos (.inr (.inl h))]
theorem qoY(h:f.next<0):zQ b n last f x=2:=by unfold zQ;rw[if_pos (.inr (.inr (.inr (.inr (.inl h)))))]
theorem qoZ(h:f.all<f.next):zQ b n last f x=2:=by unfold zQ;rw[if_pos (.inr (.inr (.inr (.inr (.inr (.inl h))))))]
theorem qs7(h:(b:Int)<f.all):zQ b n last f x=2:=by unfold zQ;rw[if_pos (.inr (.inr (.inr (.inl h))))]
theorem qpa(h:¬ (f.next=0↔f.all=0)):zQ b n last f x=2:=by unfold zQ;rw[if_pos (.inr (.inr (.inr (.inr (.inr (.inr h))))))]
theorem qs8(h:zH b (-1) x=false):zQ b n last f x=2:=by unfold zQ;rw[if_pos h];split <;> rfl
theorem qpb(h1:f.base=last)(h2:above f.target last=true)(h3:¬ f.next<0)(h4:¬ f.all<f.next)(h5:¬ (b:Int)<f.all)(h6:f.next=0↔f.all=0)(h7:zH b (-1) x=true):zQ b n last f x=if f.next=f.all then(if above f.target last=false then 2 else if 20≤n then 3 else 0)else 0:=by
 unfold zQ;have h2':¬ above f.target last=false:=by rw[h2];simp
 rw[if_neg,if_neg (by rw[h7];simp),if_neg h2']
 ·by_cases e:f.next=f.all
  ·rw[if_pos e];by_cases e2:20≤n
   ·rw[if_pos ⟨e,e2⟩,if_pos e2]
   ·rw[if_neg (fun h=>e2 h.2),if_neg e2]
  ·rw[if_neg (fun h=>e h.1),if_neg e]
 ·rintro(h|h|h|h|h|h|h)
  ·exact h h1
  ·exact h2' h
  ·omega
  ·exact h5 h
  ·exact h3 h
  ·exact h4 h
  ·exact h h6
end
theorem qck{w:World}{A0 A1 A2:Option Addr}{c0 c1 c2:Nat}{m:Mt}(hS:jM w A1 m.qa)(hsz:mtS m)(f:Tf)(A:Option Addr)(n c:Nat)(B:Option Addr)(cx:Nat)(x:List (Int × Bt))(hx:ch.vU w B x)(aW:x.length≤1000) :
    Calls prog 64 #[.agg (zq A0 A1 A2 c0 c1 c2 m),.agg (ee f A n c),.slice B x.length cx] w (qiK (zQ m.live.length m.qa.length (qw m) f x) w):=by
 obtain⟨W1,hW1,zK,hb1⟩:=xW w (zq A0 A1 A2 c0 c1 c2 m);have hb2:=(Below.refl _ W1).alloc (Nat.le_refl _) (.cells (ee f A n c) 59);have hr2:=qf.new W1 59 (ee f A n c);obtain⟨W,hW2⟩:=QE (W1.alloc (.cells (ee f A n c) 59));rw[hW2]at hb2 hr2;have qB:=QH (qc hb1 hb2);have hk2:=zK.below hb2;have jZ:=QH hk2;have jI:=QH hr2;have HS:=QH (hS.below qB.out);have HX:=QH (hx.below qB.out);have bF:=hsz.qa;have h8:=hsz.live;have q0:=hk2.cell 0;have q1:=hk2.cell 1;have q2:=hk2.cell 2;have q3:=hk2.cell 3;have q4:=hk2.cell 4;have q5:=hk2.cell 5;have q6:=hk2.cell 6;have q7:=hk2.cell 7;have q8:=hk2.cell 8;have qlt:=hk2.lt;simp only[zq,ee,QA,QB,QC]at q0 q1 q2 q3 q4 q5 q6 q7 q8;have r0:=hr2.cell 0;have r1:=hr2.cell 1;have r2:=hr2.cell 2;have r3:=hr2.cell 3;have r4:=hr2.cell 4;have r5:=hr2.cell 5;have r6:=hr2.cell 6;have rlt:=hr2.lt;simp only[zq,ee,QA,QB,QC]at r0 r1 r2 r3 r4 r5 r6;have e0:=fun d os=>cell_regrown q0 d os;have e1:=fun d os=>cell_regrown q1 d os;have e2:=fun d os=>cell_regrown q2 d os;have e3:=fun d os=>cell_regrown q3 d os;have e4:=fun d os=>cell_regrown q4 d os;have e5:=fun d os=>cell_regrown q5 d os;have e6:=fun d os=>cell_regrown q6 d os;have e7:=fun d os=>cell_regrown q7 d os;have e8:=fun d os=>cell_regrown q8 d os;have p0:=fun d os=>cell_regrown r0 d os;have p1:=fun d os=>cell_regrown r1 d os;have cL:∀b os,Calls prog 112 #[.agg (zq A0 A1 A2 c0 c1 c2 m)] (grow (redrawn W b) os) fun e w''=>e=.returned (gv (qw m))∧∃q:Regrown,w''=grow (redrawn W q.d) q.os :=
  fun b os=>Calls.regrown_of (qau (HS.out.below (below_regrown W b os)) bF)
 have EB:=QH (fun h=>qoX (b:=m.live.length) (n:=m.qa.length) (last:=qw m) (f:=f) (x:=x) h);have EA:=QH (fun h=>qkO (b:=m.live.length) (n:=m.qa.length) (last:=qw m) (f:=f) (x:=x) h);have EN:=QH (fun h=>qoY (b:=m.live.length) (n:=m.qa.length) (last:=qw m) (f:=f) (x:=x) h);have EO:=QH (fun h=>qoZ (b:=m.live.length) (n:=m.qa.length) (last:=qw m) (f:=f) (x:=x) h);have EL:=QH (fun h=>qs7 (b:=m.live.length) (n:=m.qa.length) (last:=qw m) (f:=f) (x:=x) h);have EZ:=QH (fun h=>qpa (b:=m.live.length) (n:=m.qa.length) (last:=qw m) (f:=f) (x:=x) h);have EC:=QH (fun h=>qs8 (b:=m.live.length) (n:=m.qa.length) (last:=qw m) (f:=f) (x:=x) h);have EG:=QH (fun h1 h2 h3 h4 h5 h6 h7=>qpb (b:=m.live.length) (n:=m.qa.length) (last:=qw m) (f:=f) (x:=x) h1 h2 h3 h4 h5 h6 h7);have lM:Hid (∀W',Calls prog 113 #[gv f.target,gv f.base] W' (dL (above f.target f.base) W')):=fun W'=>pO f.target f.base W';have dF:Hid (∀W',ch.vU W' B x→Calls prog 54 #[.agg (zq A0 A1 A2 c0 c1 c2 m),.slice B x.length cx] W' (dL (zH m.live.length (-1) x) W')):=fun W' h=>wQ h8 h aW;have HCM:Hid (∀W',jM W' A1 m.qa→Calls prog 76 #[.agg (zq A0 A1 A2 c0 c1 c2 m),gv f.target] W' (qiK (if above f.target (qw m)=false then 2 else if 20≤m.qa.length then 3 else 0) W')):=fun W' h=>rO h bF f.target;obtain⟨Z,hZ⟩:=QE (if above f.target (qw m)=false then(2:Int)else if 20≤m.qa.length then 3 else 0);rw[hZ]at HCM EG;clear hZ;obtain⟨R,hR⟩:=QE (zQ m.live.length m.qa.length (qw m) f x);obtain⟨q,hq⟩:=QE (zH m.live.length (-1) x);rw[hR]at EB EA EN EO EL EZ EC EG ⊢;rw[hq]at dF EC EG;clear hR hq;obtain⟨⟨ba,bb⟩,⟨ta,tb⟩,nx,al⟩:=f;obtain⟨L,hL⟩:=QE (qw m);rw[hL]at cL EB EA EG;obtain⟨la,lb⟩:=L;clear hS zK hb1 hb2 hr2 hk2 hL hx;dsimp only[ee,gv]at *;unfold zq at *;go_enter func64,ntmps64;go_upto_region 1 with fail;try rw[hW1]
 try rw[hW2]
 clear hW1 hW2;have qwS:((ba:Int)=la∧(bb:Int)=lb∧(ba,bb)=(la,lb))∨((¬ (ba:Int)=la∨((ba:Int)=la∧¬ (bb:Int)=lb))∧R=2):=by
  by_cases e1:ba=la
  ·by_cases e2:bb=lb
   ·exact .inl ⟨by rw[e1],by rw[e2],by rw[e1,e2]⟩
   ·exact .inr ⟨.inr ⟨by rw[e1],by omega⟩,EB.out (fun h=>e2 (Prod.mk.inj h).2)⟩
  ·exact .inr ⟨.inl (by omega),EB.out (fun h=>e1 (Prod.mk.inj h).1)⟩
 have FIN:Hid (∀dq osq,Below w.heap.size w (grow (redrawn W dq) osq)):=fun dq osq=>qc qB.out (below_regrown W dq osq);rcases qwS with⟨hba,hbb,hbe⟩|⟨hno,hr⟩
 case' inr =>
  have HR:=QH hr;clear hr;rcases hno with hn1|⟨hn1,hn2⟩;all_goals
   refine wp_region_quiet_below vX (by kernel_rfl) ?_;repeat (any_goals (first|go_big_quiet_step (first|exact cL _ _)|quiet_step (first|exact cL _ _)))
   refine wpQuiet_nil ?_;intro _ hw';obtain⟨⟨dq,osq⟩,hw''⟩:=hw';subst hw'';have qY:=QH (FIN.out dq osq);clear cL e0 e1 e2 e3 e4 e5 e6 e7 e8 p0 p1;go_wp2_with fail;go_ret;exact⟨by rw[HR.out];rfl,qY.out⟩
 have gX:=QH hbe;clear hbe;refine wp_region_quiet_below vX (by kernel_rfl) ?_;repeat (any_goals (first|go_big_quiet_step (first|exact cL _ _)|quiet_step (first|exact cL _ _)))
 refine wpQuiet_nil ?_;intro _ hw';obtain⟨⟨dq,osq⟩,hw''⟩:=hw';subst hw'';have hbg:=below_regrown W dq osq;have qY:=QH (FIN.out dq osq);have l7:=QH (jZ.out.below hbg);have w6:=QH (jI.out.below hbg);have tZ:=QH (HS.out.below hbg);have HX3:=QH (HX.out.below hbg);clear hbg cL e0 e1 e2 e3 e4 e5 e6 e7 e8 p0 p1 qlt rlt q0 q1 q2 q3 q4 q5 q6 q7 q8 r0 r1 r2 r3 r4 r5 r6 hba hbb qB jZ jI HS HX FIN;generalize grow (redrawn W dq) osq=W3 at *;have hr3:=w6.out;have r0:=hr3.cell 0;have r1:=hr3.cell 1;have r2:=hr3.cell 2;have r3:=hr3.cell 3;have r4:=hr3.cell 4;have r5:=hr3.cell 5;have r6:=hr3.cell 6;have rlt:=hr3.lt;simp only[Nat.zero_add,QA,QB,QC]at r0 r1 r2 r3 r4 r5 r6;clear hr3;go_wp2_with fail;refine(lM.out _).mono ?_;rintro e W4 ⟨rfl,hb4⟩;have zP:=QH (qc qY.out hb4);have mv:=QH (l7.out.below hb4);have HR4:=QH (w6.out.below hb4);have HS4:=QH (tZ.out.below hb4);have HX4:=QH (HX3.out.below hb4);clear hb4 lM qY l7 w6 tZ HX3 rlt r0 r1 r2 r3 r4 r5 r6;have hbe:=gX.out;obtain⟨ab,hab⟩:=QE (above (ta,tb) (ba,bb));have HAB:Hid (above (ta,tb) (la,lb)=ab):=by unfold Hid;rw[← hbe];exact hab
 rw[hab];clear hab hbe;have hr4:=HR4.out;have hk4:=mv.out;have r0:=hr4.cell 0;have r1:=hr4.cell 1;have r2:=hr4.cell 2;have r3:=hr4.cell 3;have r4:=hr4.cell 4;have r5:=hr4.cell 5;have r6:=hr4.cell 6;have rlt:=hr4.lt;simp only[Nat.zero_add,QA,QB,QC]at r0 r1 r2 r3 r4 r5 r6;have q0:=hk4.cell 0;have q1:=hk4.cell 1;have q2:=hk4.cell 2;have q3:=hk4.cell 3;have q4:=hk4.cell 4;have q5:=hk4.cell 5;have q6:=hk4.cell 6;have q7:=hk4.cell 7;have q8:=hk4.cell 8;have qlt:=hk4.lt;simp only[Nat.zero_add,QA,QB,QC]at q0 q1 q2 q3 q4 q5 q6 q7 q8;clear hr4 hk4;cases ab
 case' false =>
  have HR:=QH (EA.out HAB.out);go_wp2_with fail;go_ret;exact⟨by rw[HR.out];rfl,zP.out⟩
 by_cases h3:nx<0
 case' pos =>
  have HR:=QH (EN.out h3);go_wp2_with fail;go_ret;exact⟨by rw[HR.out];rfl,zP.out⟩
 by_cases h4:al<nx
 case' pos =>
  have HR:=QH (EO.out h4);go_wp2_with fail;go_ret;exact⟨by rw[HR.out];rfl,zP.out⟩
 by_cases h5:(m.live.length:Int)<al
 case' pos =>
  have HR:=QH (EL.out h5);go_wp2_with fail;go_ret;exact⟨by rw[HR.out];rfl,zP.out⟩
 obtain⟨z1,hz1⟩:=QE (nx == 0);obtain⟨z2,hz2⟩:=QE (al == 0);have HZ:Hid ((nx=0↔al=0)↔z1=z2):=by
  unfold Hid;rw[← hz1,← hz2,Bool.eq_iff_iff];simp
 have HZ0:Hid (¬ (z1=z2)→R=2):=fun h=>EZ.out (fun e=>h (HZ.out.1 e));have HG:Hid (z1=z2→q=true→R=if nx=al then Z else 0):=fun h h7=>EG.out gX.out HAB.out (by omega) (by omega) (by omega) (HZ.out.2 h) h7;clear HZ;cases z1 <;> cases z2
 case' false.true =>
  have HR:=QH (HZ0.out (by decide));go_wp2_with fail;go_ret;exact⟨by rw[HR.out];rfl,zP.out⟩
 case' true.false =>
  have HR:=QH (HZ0.out (by decide));go_wp2_with fail;go_ret;exact⟨by rw[HR.out];rfl,zP.out⟩
 all_goals
  have HG2:=QH (HG.out rfl);clear HG HZ0;go_wp2_with fail;refine(dF.out _ HX4.out).mono ?_;rintro e W5 ⟨rfl,hb5⟩;have xQ:=QH (qc zP.out hb5);have sU:=HR4.out.below hb5;have hk5:=mv.out.below hb5;have HS5:=QH (HS4.out.below hb5);clear hb5 r0 r1 r2 r3 r4 r5 r6 rlt q0 q1 q2 q3 q4 q5 q6 q7 q8 qlt;have r0:=sU.cell 0;have r1:=sU.cell 1;have r2:=sU.cell 2;have r3:=sU.cell 3;have r4:=sU.cell 4;have r5:=sU.cell 5;have r6:=sU.cell 6;have rlt:=sU.lt;simp only[Nat.zero_add,QA,QB,QC]at r0 r1 r2 r3 r4 r5 r6;have q0:=hk5.cell 0;have q1:=hk5.cell 1;have q2:=hk5.cell 2;have q3:=hk5.cell 3;have q4:=hk5.cell 4;have q5:=hk5.cell 5;have q6:=hk5.cell 6;have q7:=hk5.cell 7;have q8:=hk5.cell 8;have qlt:=hk5.lt;simp only[Nat.zero_add,QA,QB,QC]at q0 q1 q2 q3 q4 q5 q6 q7 q8;clear sU hk5;cases q
  case' false =>
   have HR:=QH (EC.out rfl);go_wp2_with fail;go_ret;exact⟨by rw[HR.out];rfl,xQ.out⟩
  have HG3:=QH (HG2.out rfl);by_cases h6:nx=al
  case' neg =>
   have HR:Hid (R=0):=by unfold Hid;rw[HG3.out,if_neg h6]
   go_wp2_with fail;all_goals go_ret
   all_goals exact⟨by rw[HR.out];rfl,xQ.out⟩
  have HR:Hid (R=Z):=by unfold Hid;rw[HG3.out,if_pos h6]
  have hnx:(nx == al)=true:=by rw[h6];simp
  go_wp2_with fail;refine(HCM.out _ HS5.out).mono ?_;rintro e W6 ⟨rfl,kU⟩;have jy:=QH (qc xQ.out kU);clear kU r0 r1 r2 r3 r4 r5 r6 rlt q0 q1 q2 q3 q4 q5 q6 q7 q8 qlt;go_wp2_with fail;go_ret;exact⟨by rw[HR.out];rfl,jy.out⟩
end Go.Proofs.YtdagdllomphidaaGreatDoor.vt.pg
namespace Go.Proofs.YtdagdllomphidaaGreatDoor.vt.pg
open _root_.Go.Proofs.Tryz Go Go.RowKit Go.Sort ib mt im sp
theorem qpc{b N:Nat}{m:Mt}{f:Tf}(h:yB b N m)(e2:mt.above f.target (qw m)=true):jt b N (zr m f):=by
 unfold zr;split
 ·rename_i hm;rcases h.tok with ht|ht
  ·exfalso;rw[ht]at hm;have:f.target=(0,0):=hm.2.1.symm;rw[this]at e2;unfold mt.above at e2;simp at e2
  ·exact ht.2.2.2.2.2
 ·exact ax h
def s1M (m:Mt)(f:Tf)(l:List Int):Mt:=dh m f.target l
def s2M (m:Mt)(f:Tf)(l:List Int):Mt:={ s1M m f l with live:=l }
def s3M (m:Mt)(f:Tf)(l:List Int):Mt:={ s2M m f l with tok:=zD }
def qpd (f:Tf)(l:List Int):Tk:=⟨f.base,f.target,f.next,f.all,l⟩
theorem qex{b N:Nat}{t:Tg}{m:Mt}(h:qO b N t m)(f:Tf)(x:List (Int × Bt)) :
    (zQ m.live.length m.qa.length (qw m) f x≠0∧qV N m f x=⟨zQ m.live.length m.qa.length (qw m) f x,m,[]⟩) ∨
    (zQ m.live.length m.qa.length (qw m) f x=0∧zH m.live.length (-1) x=true∧x.length≤8∧jt b N (zr m f)∧f.next≤f.all ∧
     (((qu N m x).2≠0∧qV N m f x=⟨(qu N m x).2,m,[]⟩) ∨
      ((qu N m x).2=0∧((f.next=f.all∧qV N m f x=⟨0,s3M m f (zA (zr m f) x (qu N m x).1.1),(qu N m x).1.2⟩) ∨
       (f.next≠f.all∧qV N m f x=⟨0,{ m with tok:=qpd f (zA (zr m f) x (qu N m x).1.1) },(qu N m x).1.2⟩))))):=by
 by_cases he:zQ m.live.length m.qa.length (qw m) f x=0
 ·right
  obtain⟨e1,e2,e3,e4,e5,e6,e7,e8⟩:=pH he;have hlen:=h.ok.len;have hb1:=h.ok.b1;have kJ:=h.ok.b8;refine⟨he,e7,?_,qpc h.ok e2,by omega,?_⟩
  ·have:=lp e7 (by omega) (by omega);omega
  ·unfold qV;rw[if_neg (by rw[he];simp)];by_cases h0:(qu N m x).2=0
   ·rw[if_neg (by rw[h0];simp)];refine .inr ⟨h0,?_⟩;by_cases hn:f.next=f.all
    ·rw[if_pos hn];exact .inl ⟨hn,rfl⟩
    ·rw[if_neg hn];exact .inr ⟨hn,rfl⟩
   ·rw[if_pos h0];exact .inl ⟨h0,rfl⟩
 ·left
  unfold qV;rw[if_pos he];exact⟨he,rfl⟩
theorem qpe{b N:Nat}{t:Tg}{m:Mt}(h:qO b N t m)(f:Tf)(hg:zZ f.target)(x:List (Int × Bt))(h0:(qV N m f x).code=0):yB b N (qV N m f x).m∧dE N m (qV N m f x).ws:=by
 rcases uR h f hg x with⟨h7,_⟩|⟨_,hd⟩
 ·rw[h0]at h7;cases h7
 ·have hs:=hd h0;by_cases hn:f.next=f.all
  ·exact⟨(hs.whole hn).1.ok,(hs.whole hn).1.ws⟩
  ·exact⟨(hs.part hn).1.ok,(hs.part hn).1.ws⟩
theorem OPl.new{w:World}{B:Nat}{v:Value}{l:List Pl}(h:OPl w B v l):∀a n c,v=.slice a n c→∀b o s,a=some ⟨b,o,s⟩→B≤b:=by
 intro a n c hv b o s ha;rcases h.2 with⟨rfl,h0⟩|⟨g,cap,cur,rfl,hg,hh,hcc,hm,hcs,xP⟩
 ·cases hv;cases ha
 ·cases hv;cases ha;exact hg
theorem PlL.set{w:World}{A:Option Addr}{l:List Pl}(h:PlL w A l){g k:Nat}{u:Value}(hg:∀b o s,A=some ⟨b,o,s⟩→b≠g):PlL (w.setCell ⟨g,k,none⟩ u) A l:=by
 intro i hi;obtain⟨b,o,h1,h2,h3,h4,h5⟩:=h i hi;have hn:=hg b o none h1;have hb:(w.setCell ⟨g,k,none⟩ u).heap[b]?=w.heap[b]? :=qC _ _ _ _ _ hn;exact⟨b,o,h1,by simpa[World.setCell]using h2,(World.cell?_of_block (w:=w) (a:=⟨b,o+i*3,none⟩) hb).trans h3,(World.cell?_of_block (w:=w) (a:=⟨b,o+i*3+1,none⟩) hb).trans h4,(World.cell?_of_block (w:=w) (a:=⟨b,o+i*3+2,none⟩) hb).trans h5⟩
def qsA (G:Nat→Prop)(p tb:Nat)(T F:Array Value)(src ql:List Int)(PV:Value):Nat→Value→World→Prop:=fun i v w=>match i with
 | 3=>v=.agg T
 | 4=>v=.agg F
 | 5=>∃A c,v=.slice A src.length c∧ay G w A src c
 | 6=>v=PV
 | 7=>∃A c,v=.slice A ql.length c∧ay G w A ql c
 | 8=>v=.pointer (some ⟨tb,6,none⟩)
 | _=>v=pt p
theorem qkP(G:Nat→Prop)(p tb:Nat)(T F:Array Value)(src ql:List Int)(PV:Value):∀i v w w',i<9→qsA G p tb T F src ql PV i v w→Below w.heap.size w w'→qsA G p tb T F src ql PV i v w':=by
 intro i v w w' hi h hb;rcases i with _|_|_|_|_|_|_|_|_|i;all_goals (first|omega|skip)
 all_goals unfold qsA at h ⊢
 all_goals try dsimp only at h ⊢
 all_goals first
  | exact h
  | (obtain⟨A,c,h1,h2⟩:=h
     exact⟨A,c,h1,h2.stay (uS.of_below hb)⟩)
def qsB (G:Nat→Prop)(p tb:Nat)(PV IV:Value)(m:Mt)(f:Tf)(ql:List Int):Nat→Value→World→Prop:=fun i v w=>match i with
 | 1=>v=PV
 | 2=>v=.pointer (some ⟨tb,2,none⟩)
 | 3=>v=.agg #[.int .u64 (f.target.1:Int),.int .u64 (f.target.2:Int)]
 | 4 | 7=>v=.pointer (some ⟨tb,6,none⟩)
 | 5 | 8=>v=IV
 | 6=>dD G v w m (s1M m f ql)
 | 9=>dD G v w (s1M m f ql) (s2M m f ql)
 | 10=>v=.agg (wh zD none 0 0)
 | 11=>dD G v w (s2M m f ql) (s3M m f ql)
 | 12=>∃B f1 f2 f3,v=.slice (some ⟨B,0,none⟩) 3 3∧qf w B 115 #[f1,f2,f3]∧dD G f1 w m (s1M m f ql)∧dD G f2 w (s1M m f ql) (s2M m f ql)∧dD G f3 w (s2M m f ql) (s3M m f ql)
 | _=>v=pt p
theorem qkQ(G:Nat→Prop)(p tb:Nat)(PV IV:Value)(m:Mt)(f:Tf)(ql:List Int):∀i v w w',i<13→qsB G p tb PV IV m f ql i v w→Below w.heap.size w w'→qsB G p tb PV IV m f ql i v w':=by
 intro i v w w' hi h hb;rcases i with _|_|_|_|_|_|_|_|_|_|_|_|_|i;all_goals (first|omega|skip)
 all_goals unfold qsB at h ⊢
 all_goals try dsimp only at h ⊢
 all_goals first
  | exact h
  | exact h.below hb
  | (obtain⟨B,f1,f2,f3,h1,h2,h3,h4,h5⟩:=h
     exact⟨B,f1,f2,f3,h1,h2.below hb,h3.below hb,h4.below hb,h5.below hb⟩)
theorem qkR{o1 o2:Nat→Prop}{w:World}{v pd N b:Nat}{d:DD}{m:Mt}{t:Tg}(f:Tf)(A:Option Addr)(c:Nat)(x:List (Int × Bt))(h:VP jJ w o1 o2 v pd d m false)(hJ:jr.JJ N t d)(hf:0≤d.qp)(hR:qO b N t m)(hfb:TfB f)(hx:ch.vU w A x)(aW:x.length≤1000) :
    Calls prog 24 #[pt v,dc f none 0 0,.slice A x.length c] w (kZ jJ o1 o2 v pd (yo N t d m (qV N m f x)) w):=by
 have nT:=QH (qpe hR f hfb.target x);have HFB:=QH hfb;have ni:=QH h;have hb2:=(Below.refl _ w).alloc (Nat.le_refl _) (.cells (ee f none 0 0) 59);have hr2:=qf.new w 59 (ee f none 0 0);obtain⟨W,hW2⟩:=QE (w.alloc (.cells (ee f none 0 0) 59));rw[hW2]at hb2 hr2;have h2:=qT h hb2;obtain⟨A0,A1,A2,c0,c1,c2,hA⟩:=h2.is;have HA:=QH hA;have HJ:=QH hJ;have HR:=QH hR;have HFU:=QH hf;have qB:=QH hb2;have jI:=QH hr2;have HX2:=QH (hx.below hb2);have xE:=QH (jP h2 hJ.on);have iU:=QH hA.sz;have HXL:=QH aW;obtain⟨bz,k0,k1,k2,k3,k4,k5,k6,k7,k8,k9,cP⟩:=hA.cells;have r0:=hr2.cell 0;have r1:=hr2.cell 1;have r2:=hr2.cell 2;have r3:=hr2.cell 3;have r4:=hr2.cell 4;have r5:=hr2.cell 5;have r6:=hr2.cell 6;have rlt:=hr2.lt;simp only[ee,Nat.zero_add,QA,QB,QC]at r0 r1 r2 r3 r4 r5 r6;have e0:=fun d os=>cell_regrown k0 d os;have e1:=fun d os=>cell_regrown k1 d os;have e2:=fun d os=>cell_regrown k2 d os;have e3:=fun d os=>cell_regrown k3 d os;have e4:=fun d os=>cell_regrown k4 d os;have e5:=fun d os=>cell_regrown k5 d os;have e6:=fun d os=>cell_regrown k6 d os;have e7:=fun d os=>cell_regrown k7 d os;have e8:=fun d os=>cell_regrown k8 d os;have p0:=fun d os=>cell_regrown r0 d os;have p1:=fun d os=>cell_regrown r1 d os;have p2:=fun d os=>cell_regrown r2 d os;have p3:=fun d os=>cell_regrown r3 d os;have p4:=fun d os=>cell_regrown r4 d os;have p5:=fun d os=>cell_regrown r5 d os;have p6:=fun d os=>cell_regrown r6 d os;have cF:∀b os,Calls prog 64 #[.agg (zq A0 A1 A2 c0 c1 c2 m),.agg (ee f none 0 0),.slice A x.length c] (grow (redrawn W b) os) fun e w''=>e=.returned (.int .i64 (zQ m.live.length m.qa.length (qw m) f x))∧∃q:Regrown,w''=grow (redrawn W q.d) q.os :=
  fun b os=>Calls.regrown_of (qck (HA.out.below (below_regrown W b os)).tab.mt.qa iU.out f none 0 0 A c x (HX2.out.below (below_regrown W b os)) HXL.out)
 have HFC:=QH (qex hR f x);obtain⟨PN,lR⟩:=QE (qV N m f x);obtain⟨F,hF⟩:=QE (zQ m.live.length m.qa.length (qw m) f x);rw[hF,lR]at HFC;rw[lR]at nT;rw[hF]at cF;rw[lR];obtain⟨n,hn⟩:=QE x.length;rw[hn]at cF ⊢;have HN:=QH hn;clear h h2 hJ hR hA hb2 hr2 lR hF hf hfb hx hn aW;unfold zq ee at cF;try dsimp only at cF
 unfold dc;unfold ee at hW2;go_enter func24,ntmps24;go_upto_region 1 with fail;try rw[hW2]
 clear hW2;go_wp2_with fail;refine xE.out.mono ?_;rintro e W1 ⟨rfl,rfl⟩;clear xE;go_upto_region 4 with fail;refine wp_region_quiet_below vX (by kernel_rfl) ?_;repeat (any_goals (first|go_big_quiet_step (first|exact cF _ _)|quiet_step (first|exact cF _ _)))
 refine wpQuiet_nil ?_;intro _ hw';obtain⟨⟨dq,osq⟩,hw''⟩:=hw';subst hw'';have hb:=below_regrown W dq osq;have qY:=QH (qc qB.out hb);have cd:=QH (HA.out.below hb);have w6:=QH (jI.out.below hb);have HX3:=QH (HX2.out.below hb);clear hb e0 e1 e2 e3 e4 e5 e6 e7 e8 p0 p1 p2 p3 p4 p5 p6 cF HA qB jI HX2 bz k0 k1 k2 k3 k4 k5 k6 k7 k8 k9 cP r0 r1 r2 r3 r4 r5 r6 rlt;generalize grow (redrawn W dq) osq=W3 at *;rcases HFC.out with⟨hc,dS⟩|⟨rfl,hck,hx8,hso,hle,qey⟩
 ·have hcb:(F != 0)=true:=by simpa using hc
  have eG:=QH dS;have HC:=QH hc;clear hc dS HFC;go_wp2_with fail;go_ret;rw[eG.out];exact jR (qT ni.out qY.out) qY.out (kQ HC.out)
 ·have qwU:=rS (c:=c) (qT ni.out qY.out) HJ.out.rb.1 HR.out.ok HR.out.N1 HX3.out hx8 (fun y hy=>(kH hck y hy).1);rw[HN.out]at qwU;have qkF:=QH qwU;have HCK:=QH hck;have HX8:=QH hx8;have HSO:=QH hso;have HLE:=QH hle;have qi1:=QH qey;have hce:((0:Int) != 0)=false:=rfl;clear HFC hck hx8 hso hle qey qwU;go_wp2_with fail;refine qkF.out.mono ?_;rintro e W4 ⟨hb4,qdN⟩;have zP:=QH (qc qY.out hb4);have iT:=QH (cd.out.below hb4);have HR4:=QH (w6.out.below hb4);have zea:=QH hb4.size;clear hb4 qkF;rcases qdN with⟨hne,rfl⟩|⟨h0,pv,rfl,hop⟩
  ·have hcb:((qu N m x).2 != 0)=true:=by simpa using hne
   have HPE:Hid (PN=⟨(qu N m x).2,m,[]⟩):=by
    unfold Hid;rcases qi1.out with⟨_,h⟩|⟨h,_⟩
    ·exact h
    ·exact absurd h hne
   have HNE:=QH hne;clear qi1 hne;generalize (qu N m x).2=pc at *;go_wp2_with fail;go_ret;rw[HPE.out];exact jR (qT ni.out zP.out) zP.out (kQ HNE.out)
  ·have hpw:=rT HR.out.ok HR.out.N1 h0;have hpl:ll N m x (qu N m x).1.1 (qu N m x).1.2:=by
    rcases jd HR.out.ok HR.out.N1 x HX8.out (fun c hc=>(kH HCK.out c hc).1)with⟨h7,_⟩|⟨_,hp⟩
    ·rw[h7]at h0;cases h0
    ·exact hp
   have qey:(f.next=f.all∧PN=⟨0,s3M m f (zA (zr m f) x (qu N m x).1.1),(qu N m x).1.2⟩)∨(f.next≠f.all∧PN=⟨0,{ m with tok:=qpd f (zA (zr m f) x (qu N m x).1.1) },(qu N m x).1.2⟩):=by
    rcases qi1.out with⟨h,_⟩|⟨_,h⟩
    ·exact absurd h0 h
    ·exact h
   have qa7:=qum hpl HR.out.N1 HCK.out;have qca:=qoN hpl.len;obtain⟨BA,bc,hpv,hPL⟩:=hop.view;have hnew:=hop.new _ _ _ hpv;have hsp:=qbW x (qu N m x).1.1 (zr m f);generalize (qu N m x).1.1=at_ at *;generalize (qu N m x).1.2=ws at *;have wU:(zr m f).length=b:=HSO.out.1;have hml:m.live.length=b:=HR.out.ok.len;have eE:(zA (zr m f) x at_).length=b:=by rw[cM];exact wU
   have HPW:=QH hpw;have HPL:=QH hPL;have qkG:=QH qca;have qcY:=QH hnew;have nR:=QH qey;have aX:=QH wU;have qek:Hid (∀W A c,ay (fun j=>(o1 j∧j≠v)∨w.heap.size<j) W A (zr m f) c→Below W4.heap.size W4 W→Calls prog 58 #[.slice A (zr m f).length c,.slice BA (PL x at_).length bc] W (qjQ (fun j=>(o1 j∧j≠v)∨w.heap.size<j) (zA (zr m f) x at_) W)):=fun W A c hs hb=>by
    have:=jk hs (by rw[wU];exact HR.out.ok.b1) (by rw[wU];have:=HR.out.ok.b8;omega) (hPL.below hb) (cb:=bc) (by rw[wU];rw[hml]at qa7;exact qa7) (by rw[qca];have:=HX8.out;omega) (fun j hj=>.inr (by
     have h1:=HR4.out.lt;have h2:=hb.size;omega))
    rw[hsp]at this;exact this
   obtain⟨pn,dS⟩:=QE ((PL x at_).length);rw[dS]at hpv qek;have eG:=QH dS;subst hpv;obtain⟨ql,qjG⟩:=QE (zA (zr m f) x at_);rw[qjG]at qek nR eE;have HIL:=QH eE;obtain⟨P,hP⟩:=QE (PL x at_);rw[hP]at HPW HPL qkG eG;obtain⟨src,nu⟩:=QE (zr m f);have q7g:=QH nu;rw[nu]at qek aX;clear h0 hpw hpl qey qa7 qca hPL hsp wU hml eE hop hnew qi1 dS qjG hP nu;go_wp2_with fail;refine qM (by kernel_rfl) 9 [35,36,37,38,39,40,41,42,43] (by kernel_rfl) (qsA (fun j=>(o1 j∧j≠v)∨w.heap.size<j) v w.heap.size (zq A0 A1 A2 c0 c1 c2 m) (ee f none 0 0) src ql (.slice BA pn bc)) (qkP _ _ _ _ _ _ _ _) ?_ ?_
   ·intro i o vs ρ W hi hop hρ hfn hb hG;have t0:ρ (.tmp 0)=pt v:=hρ.out 0 rfl;have t4:ρ (.tmp 4)=pt w.heap.size:=hρ.out 4 rfl;have t9:ρ (.tmp 9)=.slice BA pn bc:=hρ.out 9 rfl;have s35:=hρ.at_ 35 0 rfl;have s36:=hρ.at_ 36 1 rfl;have s37:=hρ.at_ 37 2 rfl;have s38:=hρ.at_ 38 3 rfl;have s39:=hρ.at_ 39 4 rfl;have s40:=hρ.at_ 40 5 rfl;have s41:=hρ.at_ 41 6 rfl;have n4:=iT.out.below hb;obtain⟨bz,k0,k1,k2,k3,k4,k5,k6,k7,k8,k9,cP⟩:=n4.cells;have hr:=HR4.out.below hb;have r0:=hr.cell 0;have r1:=hr.cell 1;have r2:=hr.cell 2;have r3:=hr.cell 3;have r4:=hr.cell 4;have r5:=hr.cell 5;have r6:=hr.cell 6;have rlt:=hr.lt;simp only[ee,QA,QB,QC]at r0 r1 r2 r3 r4 r5 r6;rcases i with _|_|_|_|_|_|_|_|_|i;all_goals (first|omega|skip)
    all_goals simp only[QA,QB,QC,Option.some.injEq]at hop
    all_goals subst hop
    ·exact q9 (w':=W) (by unfold execOp;simp only[t0];go_simp) ⟨Below.refl _ _,rfl⟩
    ·have g0:vs 0=_:=hG 0 (by kernel_rfl);exact q9 (w':=W) (by unfold execOp;simp only[s35,g0];go_simp) ⟨Below.refl _ _,rfl⟩
    ·have g1:vs 1=_:=hG 1 (by kernel_rfl);exact q9 (w':=W) (by unfold execOp;simp only[s36,g1];go_simp) ⟨Below.refl _ _,rfl⟩
    ·have g2:vs 2=_:=hG 2 (by kernel_rfl);exact q9 (w':=W) (by unfold zq execOp;simp only[s37,g2];go_simp) ⟨Below.refl _ _,rfl⟩
    ·exact q9 (w':=W) (by unfold ee execOp;simp only[t4];go_simp) ⟨Below.refl _ _,rfl⟩
    ·have g3:vs 3=_:=hG 3 (by kernel_rfl);have g4:vs 4=_:=hG 4 (by kernel_rfl);refine qi (f:=65) (args:=#[.agg (zq A0 A1 A2 c0 c1 c2 m),.agg (ee f none 0 0)]) (w':=W) (by unfold execOp;simp only[hfn,s38,g3,s39,g4];go_simp) ((qgR (G:=fun j=>(o1 j∧j≠v)∨w.heap.size<j) (n4.tab.mono (fun j hj=>.inl hj)) n4.sz (fun j hj=>.inr (by omega)) f none 0 0).mono ?_);rintro e W' ⟨A,c,rfl,wU,hb5⟩;rw[q7g.out]at wU ⊢;exact⟨_,rfl,hb5,A,c,rfl,wU⟩
    ·exact q9 (w':=W) (by unfold execOp;simp only[t9];go_simp) ⟨Below.refl _ _,rfl⟩
    ·obtain⟨A,c,g5,wU⟩:=hG 5 (by kernel_rfl);have g6:vs 6=_:=hG 6 (by kernel_rfl);have hp:=qek.out W A c;refine qi (f:=58) (args:=#[.slice A src.length c,.slice BA pn bc]) (w':=W) (by unfold execOp;simp only[hfn,s40,g5,s41,g6];go_simp) ((hp wU hb).mono ?_);rintro e W' ⟨A,c,rfl,wU,hb5⟩;exact⟨_,rfl,hb5,A,c,rfl,wU⟩
    ·exact q9 (w':=W) (by unfold execOp;simp only[t4];go_simp) ⟨Below.refl _ _,rfl⟩
   ·intro vs W hb hG;have g0:vs 0=_:=hG 0 (by decide);have g3:vs 3=_:=hG 3 (by decide);have g8:vs 8=_:=hG 8 (by decide);obtain⟨AL,cL,g7,wU⟩:=hG 7 (by decide);have hr:=HR4.out.below hb;have f6:=hr.frozen 6;have r6:=hr.cell 6;have rlt:=hr.lt;simp only[ee,QA,QB,QC]at r6;have xQ:Hid (Below w.heap.size w (W.setCell ⟨w.heap.size,6,none⟩ (.slice AL ql.length cL))):=(qc zP.out hb).setCell (p:=⟨w.heap.size,6,none⟩) (Nat.le_refl _) _;have bK:Hid (qf (W.setCell ⟨w.heap.size,6,none⟩ (.slice AL ql.length cL)) w.heap.size 59 (ee f AL ql.length cL)):=by
     have:=hr.qo 6 (.slice AL ql.length cL);simpa[Hid,ee]using this
    have HS5:Hid (ay (fun j=>(o1 j∧j≠v)∨w.heap.size≤j) (W.setCell ⟨w.heap.size,6,none⟩ (.slice AL ql.length cL)) AL ql cL) :=
     (wU.stay (wN (fun j hj=>by
      rcases hj with hj|hj
      ·have:=qoM ni.out j (.inl hj.1);omega
      ·omega))).mono (fun j hj=>by
      rcases hj with hj|hj
      ·exact .inl hj
      ·exact .inr (by omega))
    have tE:Hid (PlL (W.setCell ⟨w.heap.size,6,none⟩ (.slice AL ql.length cL)) BA P):=(HPL.out.below hb).set (fun b o s e=>by
     have h1:=qcY.out b o s e;have h2:=w6.out.lt;omega)
    obtain⟨W5,iC⟩:=QE (W.setCell ⟨w.heap.size,6,none⟩ (.slice AL ql.length cL));rw[iC]at xQ bK HS5 tE;simp only[qW,qG,if_true];rw[g7,g8];generalize vs 0=z0;generalize vs 1=z1;generalize vs 2=z2;generalize vs 3=z3;generalize vs 4=z4;generalize vs 5=z5;generalize vs 6=z6;clear hG g0 g3 g7 g8 hb wU hr qek HPL qcY;simp only[Act.put,List.setIfInBounds_toArray,List.set_cons_succ,List.set_cons_zero];refine qJ (i:=9) (by kernel_rfl) rfl rfl ?_;go_simp;try rw[iC]
    clear f6 r6 rlt iC;refine⟨by kernel_rfl,?_⟩;have j0:=bK.out.cell 0;have j1:=bK.out.cell 1;have j2:=bK.out.cell 2;have j3:=bK.out.cell 3;have j4:=bK.out.cell 4;have j5:=bK.out.cell 5;have j6:=bK.out.cell 6;have jlt:=bK.out.lt;simp only[ee,QA,QB,QC]at j0 j1 j2 j3 j4 j5 j6;by_cases hn:f.next=f.all
    ·have hlt:¬ f.next<f.all:=by omega
     have df:Hid (PN.code=0∧PN.m=s3M m f ql∧PN.ws=ws):=by
      unfold Hid;rcases nR.out with⟨_,h⟩|⟨h,_⟩
      ·rw[h];exact⟨rfl,rfl,rfl⟩
      ·exact absurd hn h
     have HDK:=QH (nT.out df.out.1);clear hn;go_wp2_with fail;refine qM (by kernel_rfl) 13 [55,56,57,58,59,60,61,62,63,64,65,66,67] (by kernel_rfl) (qsB (fun j=>(o1 j∧j≠v)∨w.heap.size≤j) v w.heap.size (.slice BA pn bc) (.slice AL ql.length cL) m f ql) (qkQ _ _ _ _ _ _ _ _) ?_ ?_
     ·intro i o vs ρ W hi hop hρ hfn hb hG;have t0:ρ (.tmp 0)=pt v:=hρ.out 0 rfl;have t4:ρ (.tmp 4)=pt w.heap.size:=hρ.out 4 rfl;have t9:ρ (.tmp 9)=.slice BA pn bc:=hρ.out 9 rfl;have s57:=hρ.at_ 57 2 rfl;have s58:=hρ.at_ 58 3 rfl;have s59:=hρ.at_ 59 4 rfl;have s60:=hρ.at_ 60 5 rfl;have s61:=hρ.at_ 61 6 rfl;have s62:=hρ.at_ 62 7 rfl;have s63:=hρ.at_ 63 8 rfl;have s64:=hρ.at_ 64 9 rfl;have s65:=hρ.at_ 65 10 rfl;have s66:=hρ.at_ 66 11 rfl;have hr:=bK.out.below hb;have q2:=hr.cell 2;have q3:=hr.cell 3;have q6:=hr.cell 6;have qlt:=hr.lt;simp only[ee,QA,QB,QC]at q2 q3 q6;have hsW:=HS5.out.stay (uS.of_below hb);have hiW:ql.length≤1000:=by rw[HIL.out];have:=HR.out.ok.b8;omega
      have hsz:w.heap.size≤W.heap.size:=Nat.le_trans xQ.out.size hb.size;clear j0 j1 j2 j3 j4 j5 j6 jlt;rcases i with _|_|_|_|_|_|_|_|_|_|_|_|_|i;all_goals (first|omega|skip)
      all_goals simp only[QA,QB,QC,Option.some.injEq]at hop
      all_goals subst hop
      ·exact q9 (w':=W) (by unfold execOp;simp only[t0];go_simp) ⟨Below.refl _ _,rfl⟩
      ·exact q9 (w':=W) (by unfold execOp;simp only[t9];go_simp) ⟨Below.refl _ _,rfl⟩
      ·exact q9 (w':=W) (by unfold execOp;simp only[t4];go_simp) ⟨Below.refl _ _,rfl⟩
      ·have g2:vs 2=_:=hG 2 (by kernel_rfl);exact q9 (w':=W) (by unfold execOp;simp only[s57,g2];go_simp) ⟨Below.refl _ _,rfl⟩
      ·exact q9 (w':=W) (by unfold execOp;simp only[t4];go_simp) ⟨Below.refl _ _,rfl⟩
      ·have g4:vs 4=_:=hG 4 (by kernel_rfl);exact q9 (w':=W) (by unfold execOp;simp only[s59,g4];go_simp) ⟨Below.refl _ _,rfl⟩
      ·have g3:vs 3=_:=hG 3 (by kernel_rfl);have g5:vs 5=_:=hG 5 (by kernel_rfl);refine qi (f:=66) (args:=#[gv f.target,.slice AL ql.length cL]) (w':=W) (by unfold execOp gv;simp only[hfn,s58,g3,s60,g5];go_simp) ((qdE (G:=fun j=>(o1 j∧j≠v)∨w.heap.size≤j) hsW.at_ hiW HFB.out.target (fun j hj=>.inr (Nat.le_trans hsz hj))).mono ?_);rintro e W' ⟨fe,rfl,lS,hb5⟩;exact⟨fe,rfl,hb5,dD.of (lS m (s1M m f ql) ⟨by have:=HR.out.ok.few;omega,rfl⟩)⟩
      ·exact q9 (w':=W) (by unfold execOp;simp only[t4];go_simp) ⟨Below.refl _ _,rfl⟩
      ·have g7:vs 7=_:=hG 7 (by kernel_rfl);exact q9 (w':=W) (by unfold execOp;simp only[s62,g7];go_simp) ⟨Below.refl _ _,rfl⟩
      ·have g8:vs 8=_:=hG 8 (by kernel_rfl);refine qi (f:=57) (args:=#[.slice AL ql.length cL]) (w':=W) (by unfold execOp;simp only[hfn,s63,g8];go_simp) ((lA (G:=fun j=>(o1 j∧j≠v)∨w.heap.size≤j) hsW hiW (fun j hj=>.inr (Nat.le_trans hsz hj))).mono ?_);rintro e W' ⟨fe,rfl,lS,hb5⟩;exact⟨fe,rfl,hb5,dD.of (lS (s1M m f ql) _ rfl)⟩
      ·exact q9 (w':=W) (by unfold wh zD execOp;go_simp) ⟨Below.refl _ _,rfl⟩
      ·have g10:vs 10=_:=hG 10 (by kernel_rfl);refine qi (f:=60) (args:=#[.agg (wh zD none 0 0)]) (w':=W) (by unfold execOp;simp only[hfn,s65,g10];go_simp) ((vg (G:=fun j=>(o1 j∧j≠v)∨w.heap.size≤j) (t:=zD) (yM.none W) (by decide) qem (fun j hj=>.inr (Nat.le_trans hsz hj))).mono ?_);rintro e W' ⟨fe,rfl,lS,hb5⟩;exact⟨fe,rfl,hb5,dD.of (lS (s2M m f ql) _ rfl)⟩
      ·have g6:=hG 6 (by kernel_rfl);have g9:=hG 9 (by kernel_rfl);have g11:=hG 11 (by kernel_rfl);obtain⟨⟨ka,ca,ea⟩,ga⟩:=g6;obtain⟨⟨kb,cb,eb⟩,gb⟩:=g9;obtain⟨⟨kc,cc,ec⟩,gc⟩:=g11;have hb1:=(Below.refl _ W).alloc (Nat.le_refl _) (.cells #[.func (.func ka) #[] ca,.func (.func kb) #[] cb,.func (.func kc) #[] cc] 115);rw[ea]at ga;rw[eb]at gb;rw[ec]at gc;exact q9 (v:=.slice (some ⟨W.heap.size,0,none⟩) 3 3) (w':=W.alloc (.cells #[.func (.func ka) #[] ca,.func (.func kb) #[] cb,.func (.func kc) #[] cc] 115)) (by unfold execOp;simp only[s61,ea,s64,eb,s66,ec];go_simp) ⟨hb1,_,_,_,_,rfl,qf.new _ _ _,(dD.of ga).below hb1,(dD.of gb).below hb1,(dD.of gc).below hb1⟩
     ·intro vs W hb hG;have g0:vs 0=_:=hG 0 (by decide);have g1:vs 1=_:=hG 1 (by decide);obtain⟨B,f1,f2,f3,g12,ji,he1,tS,he3⟩:=hG 12 (by decide);have eo:=QH (gM ni.out (qc xQ.out hb) HJ.out HFU.out HR.out df.out.1 HDK.out (M:=fun i=>if i=0 then m else if i=1 then s1M m f ql else if i=2 then s2M m f ql else s3M m f ql) (n:=3) (c:=3) rfl (df.out.2.1.symm) (rU ji he1.2 tS.2 he3.2) (by omega) (cb:=bc) (tE.out.below hb) (by rw[qkG.out];have:=HX8.out;omega) (HPW.out.trans df.out.2.2.symm));rw[eG.out]at eo;simp only[qW,qG,if_true];rw[g0,g1,g12];generalize vs 2=z2;generalize vs 3=z3;generalize vs 4=z4;generalize vs 5=z5;generalize vs 6=z6;generalize vs 7=z7;generalize vs 8=z8;generalize vs 9=z9;generalize vs 10=z10;generalize vs 11=z11;clear hG g0 g1 g12 hb ji he1 tS he3 j0 j1 j2 j3 j4 j5 j6 jlt;simp only[Act.put,List.setIfInBounds_toArray,List.set_cons_succ,List.set_cons_zero];refine qJ (i:=13) (by kernel_rfl) rfl rfl ?_;go_simp;refine eo.out.mono ?_;rintro e W7 ⟨r,d',m',lost,bm,dB,rfl,hh⟩;have HH:=QH hh;clear hh eo;go_simp;refine qJ (i:=14) (by kernel_rfl) rfl rfl ?_;go_simp;refine⟨by kernel_rfl,?_⟩;go_wp2_with fail;go_ret;exact⟨r,d',m',lost,bm,dB,rfl,HH.out⟩
    ·have hlt:f.next<f.all:=by have:=HLE.out;omega
     have df:Hid (PN.code=0∧PN.m={ m with tok:=qpd f ql }∧PN.ws=ws):=by
      unfold Hid;rcases nR.out with⟨h,_⟩|⟨_,h⟩
      ·exact absurd h hn
      ·rw[h];exact⟨rfl,rfl,rfl⟩
     have HDK:=QH (nT.out df.out.1);have hst:=vg (G:=fun j=>(o1 j∧j≠v)∨w.heap.size≤j) (t:=qpd f ql) (A:=AL) (c:=cL) HS5.out.at_ (by show ql.length≤1000;rw[HIL.out];have:=HR.out.ok.b8;omega) ⟨HFB.out.base,HFB.out.target,HFB.out.next,HFB.out.all⟩ (fun j hj=>.inr (Nat.le_trans xQ.out.size hj));unfold wh qpd at hst;have HST:=QH hst;clear hn hst;go_wp2_with fail;refine HST.out.mono ?_;rintro e W6 ⟨fe,rfl,lS,kU⟩;have HEF:=QH (lS m PN.m df.out.2.1);obtain⟨kf,kq,rfl⟩:=HEF.out.form;have jy:=QH (qc xQ.out kU);have HP6:=QH (tE.out.below kU);clear lS kU HST tE j0 j1 j2 j3 j4 j5 j6 jlt;have kG:=(Below.refl _ W6).alloc (Nat.le_refl _) (.cells #[.func (.func kf) #[] kq] 115);have hk7:=qf.new W6 115 #[.func (.func kf) #[] kq];obtain⟨W7,hW7⟩:=QE (W6.alloc (.cells #[.func (.func kf) #[] kq] 115));rw[hW7]at kG hk7;have eo:=QH (gM ni.out (qc jy.out kG) HJ.out HFU.out HR.out df.out.1 HDK.out (c:=1) rfl rfl (il hk7 (HEF.out.below kG)) (by omega) (cb:=bc) (HP6.out.below kG) (by rw[qkG.out];have:=HX8.out;omega) (HPW.out.trans df.out.2.2.symm));rw[eG.out]at eo;clear kG hk7 HEF HP6;go_wp2_with fail;try rw[hW7]
     refine eo.out.mono ?_;rintro e W8 ⟨r,d',m',lost,bm,dB,rfl,hh⟩;have HH:=QH hh;clear hh eo;go_wp2_with fail;go_ret;exact⟨r,d',m',lost,bm,dB,rfl,HH.out⟩
theorem qhg{t:Tg}{m:Mt}{k:Int}(h:k<0∨(m.qa.length:Int)≤k):(zh t m).changes k=([],5):=by
 unfold ch.CH.changes;have:(zh t m).qa.length=m.qa.length:=by simp[zh]
 rw[this,if_pos h]
theorem qez{t:Tg}{m:Mt}{k:Nat}(h:k<m.qa.length):(zh t m).changes (k:Int)=(ch.pg.lK (volume t (kN m k)) (volume t m.qa[k].ql) (volume t m.qa[k].ql).length,0):=by
 unfold ch.CH.changes;have hl:(zh t m).qa.length=m.qa.length:=by simp[zh]
 rw[hl,if_neg (by omega),Int.toNat_natCast];have hv:∀i (hi:i<m.qa.length),(zh t m).mG i=volume t m.qa[i].ql:=fun i hi=>by
  unfold ch.CH.mG;have e:(zh t m).qa[i]?=some (fE t m.qa[i]):=by simp[zh,hi]
  rw[e];rfl
 have hp:(zh t m).prev k=volume t (kN m k):=by
  unfold ch.CH.prev;cases k with
  | zero =>
   rw[if_pos rfl,pP];show ch.wI (volume t m.live).length=_;rw[xw];unfold ch.wI volume;rw[List.map_replicate];rfl
  | succ k =>
   rw[if_neg (by omega),Nat.add_sub_cancel,hv k (by omega),qat (by omega)]
 rw[hp,hv k h];rfl
theorem qpf{b N:Nat}{m:Mt}(h:yB b N m)(k:Nat):jt b N (kN m k) :=
 ax (m:={ m with qa:=m.qa.take k,tok:=zD }) (h.take k m.live h.live)
def CgR (P Q:List Bt)(w:World)(v i:Value)(wr:World):Prop :=
 ∃k:Nat,k≤Q.length∧i=.int .i64 (k:Int)∧ch.kr wr w.heap.size v (ch.pg.lK P Q k)∧Below w.heap.size w wr
theorem qpg{w:World}{B:Nat}{v:Value}{l:List (Int × Bt)}(h:ch.kr w B v l)(hz:∀x∈l,yA x.1):∃a c,v=.slice a l.length c∧ch.vU w a l∧∀b o,a=some ⟨b,o,none⟩→B≤b∧b<w.heap.size:=by
 obtain⟨a,c,hv,h1⟩:=h.view hz;refine⟨a,c,hv,h1,fun b o e=>?_⟩;subst hv;have:=h.lt b (by rw[e];rfl);exact this
theorem qcl{o1 o2:Nat→Prop}{w:World}{v pd N b:Nat}{d:DD}{m:Mt}{t:Tg}(k:Int)(h:VP jJ w o1 o2 v pd d m false)(hJ:jr.JJ N t d)(hR:qO b N t m)(hk:ib.yA k):Calls prog 33 #[pt v,.int .i64 k] w (ch.bN ((zh t m).changes k) w):=by
 obtain⟨i0,hi,hz0,hz1,hz2⟩:=info_parts ch.qbR;obtain⟨A0,A1,A2,c0,c1,c2,hA⟩:=h.is;have HA:=QH hA;have HV:=QH h;have HJ:=QH hJ;have HR:=QH hR;have xE:=QH (jP h hJ.on);have iU:=QH hA.sz;obtain⟨bz,k0,k1,k2,k3,k4,k5,k6,k7,k8,k9,cP⟩:=hA.cells;clear h hJ hR hA;by_cases hno:k<0∨(m.qa.length:Int)≤k
 ·have HC:=QH (qhg (t:=t) hno);go_enter func33,ntmps33;go_wp2_with fail;refine xE.out.mono ?_;rintro e W1 ⟨rfl,rfl⟩;clear xE;by_cases h0:k<0
  ·clear hno;go_wp2_with fail;go_ret2;rw[HC.out];exact⟨none,0,rfl,ch.vU.nil _ _,ib.uC.none _ _,Below.refl _ _⟩
  ·have h1:(m.qa.length:Int)≤k:=by omega
   clear hno;go_wp2_with fail;go_ret2;rw[HC.out];exact⟨none,0,rfl,ch.vU.nil _ _,ib.uC.none _ _,Below.refl _ _⟩
 ·obtain⟨n,rfl⟩:∃n:Nat,k=(n:Int):=⟨k.toNat,by omega⟩;have hn:n<m.qa.length:=by omega
  have hn0:¬ (n:Int)<0:=by omega
  have hn1:¬ (m.qa.length:Int)≤(n:Int):=by omega
  have hn2:(n:Int)<(m.qa.length:Int):=by omega
  have HC:=QH (qez (t:=t) hn);have q1E:=qpf HR.out.ok n;have HBO:=QH q1E;have HBS:=QH (pR (G:=fun _=>True) (A0:=A0) (A2:=A2) (c0:=c0) (c1:=c1) (c2:=c2) (HA.out.tab.mono (fun _ _=>trivial)).qa iU.out (fun _ _=>trivial) n (by omega));unfold zq at HBS;clear hno hk q1E;go_enter func33,ntmps33;go_wp2_with fail;refine xE.out.mono ?_;rintro e W1 ⟨rfl,rfl⟩;clear xE;go_wp2_with fail;refine HBS.out.mono ?_;rintro e W2 ⟨B0,d0,rfl,hs,hb2⟩;have kJ:(kN m n).length≤1000:=by have:=HBO.out.1;have:=HR.out.ok.b8;omega
  have q1F:=QH (wR (qT HV.out hb2) HJ.out hs.at_ kJ (fun z hz=>HBO.out.2.1 z hz));have qB:=QH hb2;clear hs hb2 HBS kJ;go_wp2_with fail;refine q1F.out.mono ?_;rintro e W3 ⟨X1,e1,rfl,hx1,_,hb3⟩;have HX1:=QH hx1;have qY:=QH (qc qB.out hb3);have hA3:=HA.out.below qY.out;have cd:=QH hA3;obtain⟨b',o',B,cc,rfl,s1,s2,s3,s4,s5,s6,s7⟩:=hA3.tab.mt.qa n hn;have qsD:=QH (wR (qT HV.out qY.out) HJ.out s6 (iU.out.uD _ (List.getElem_mem hn)) (fun z hz=>(HR.out.ok.uD _ (List.getElem_mem hn)).2.1 z hz));obtain⟨bz,k0,k1,k2,k3,k4,k5,k6,k7,k8,k9,cP⟩:=hA3.cells;have hbl:(volume t (kN m n)).length=b:=by rw[xw];exact HBO.out.1
  have eE:(volume t m.qa[n].ql).length=b:=by rw[xw];exact(HR.out.ok.uD _ (List.getElem_mem hn)).1
  have kJ:=HR.out.ok.b8;obtain⟨im,vO⟩:=QE (m.qa[n].ql);rw[vO]at HC qsD eE s4;obtain⟨P,hP⟩:=QE (volume t (kN m n));obtain⟨Q,hQ⟩:=QE (volume t im);rw[hP]at HC HX1 hbl ⊢;rw[hQ]at HC qsD eE;clear hx1 hb3 hA3 s2 s3 s5 s6 s7 q1F vO hP hQ;go_wp2_with fail;refine qsD.out.mono ?_;rintro e W4 ⟨X2,e2,rfl,hx2,_,hb4⟩;have HX2:=QH hx2;have HX3:=QH (HX1.out.below hb4);have zP:=QH (qc qY.out hb4);have HQL:=QH eE;have HPL:=QH hbl;clear hx2 hb4 qsD HX1 bz k0 k1 k2 k3 k4 k5 k6 k7 k8 k9 cP s1 s4 eE hbl;go_wp2_with fail;go_loopw [10,63] (fun v i wr=>CgR P Q W4 v i wr) (fun _ i _=>Q.length-(intOf i).toNat);case atStart=>exact⟨0,Nat.zero_le _,rfl,World.ownsRow_nil _ _ _ _,Below.refl _ _⟩
  case round =>
   obtain⟨j,hj,rfl,ho,hB⟩:=hrel;have HO:=QH ho;have HB:=QH hB;clear ho hB;by_cases hlt:j<Q.length
   ·have vn:(j:Int)<(Q.length:Int):=by omega
    have hj0:¬ (j:Int)<0:=by omega
    have hjP:j<P.length:=by have:=HQL.out;have:=HPL.out;omega
    have hjp:(j:Int)<(P.length:Int):=by omega
    have hjb:j<b:=by have:=HQL.out;omega
    have zeg:(j:Int)<(b:Int):=by omega
    obtain⟨q1,q2,rfl,q3,q4⟩:=HX2.out j hlt;obtain⟨p1,p2,rfl,p3,p4⟩:=HX3.out j hjP;have q5:=Nat.lt_of_lt_of_le q3 HB.out.size;have p5:=Nat.lt_of_lt_of_le p3 HB.out.size;have q6:=(HB.out.cell (p:=⟨q1,q2+j,none⟩) q3).trans q4;have p6:=(HB.out.cell (p:=⟨p1,p2+j,none⟩) p3).trans p4;have gQ:Q.getD j []=Q[j]:=by simp[List.getD,hlt]
    have gP:P.getD j []=P[j]:=by simp[List.getD,hjP]
    have HSA:=QH (ch.pg.rE P Q j);have HMO:=QH (ch.pg.qdY P Q j);rw[gQ,gP]at HSA HMO;have hq:((str Q[j]).toList == (str P[j]).toList)=decide (Q[j]=P[j]):=by
     have h:=iI (str Q[j]) P[j];rw[zi]at h;exact h
    obtain⟨y,hy⟩:=QE (Q[j]);obtain⟨z,hz⟩:=QE (P[j]);rw[hy]at q6 HSA HMO hq;rw[hz]at p6 HSA HMO hq;have hdl:=ch.pg.qiq P Q j;clear hy hz q3 q4 p3 p4 gQ gP;by_cases he:y=z
    ·have q7i:=QH (HSA.out he);rw[decide_eq_true he]at hq;have hqn:((str y).toList != (str z).toList)=false:=by unfold bne;rw[hq];rfl
     obtain⟨S1,hS1⟩:=QE (str y);obtain⟨S2,hS2⟩:=QE (str z);rw[hS1]at q6 hq hqn;rw[hS2]at p6 hq hqn;clear he hS1 hS2 HSA HMO;go_wp2_with fail;go_roundw;case rel=>exact⟨j+1,by omega,by go_num,by rw[q7i.out];exact HO.out,HB.out⟩
     case measure=>simp[intOf];omega
    ·have q1H:=QH (HMO.out he);rw[decide_eq_false he]at hq;have hqn:((str y).toList != (str z).toList)=true:=by unfold bne;rw[hq];rfl
     obtain⟨S1,hS1⟩:=QE (str y);obtain⟨S2,hS2⟩:=QE (str z);have aV:=QH hS1;rw[hS1]at q6 hq hqn;rw[hS2]at p6 hq hqn;have hby:=(Below.refl _ wr).alloc (Nat.le_refl _) (.cells #[.int .i64 (j:Int),.string S1] 62);have HO6:Hid (ch.kr (wr.alloc (.cells #[.int .i64 (j:Int),.string S1] 62)) W4.heap.size _ (ch.pg.lK P Q j)):=zB HO.out (fun j' hj'=>hby.block j' (HO.out.lt j' hj').2);have jy:=QH (qc HB.out hby);have dC:Hid (∀j' u,([.int .i64 (j:Int),.string S1]:List Value)[j']?=some u→(wr.alloc (.cells #[.int .i64 (j:Int),.string S1] 62)).cell? ((⟨wr.heap.size,0,none⟩:Addr).add j')=some u):=fun j' u hu=>by
      rw[addr_add,Nat.zero_add,(qf.new wr 62 #[.int .i64 (j:Int),.string S1]).cell j'];simpa using hu
     have e1':∀u∈([.int .i64 (j:Int),.string S1]:List Value),u.oneCell'=true:=by intro u hu;simp at hu;rcases hu with rfl|rfl <;> rfl
     have E1:=QH e1';have E2:Hid ((ch.pg.lK P Q j).length+1≤maxLen):=by have:=HQL.out;unfold Hid maxLen;omega
     have E3:Hid (((ch.pg.lK P Q j).length+1)*24≤140737488355328):=by have:=HQL.out;unfold Hid;omega
     obtain⟨Lw,hLw⟩:=QE (ch.pg.lK P Q j);rw[hLw]at HO6 q1H E2 E3;clear he hS1 hS2 HSA HMO hby e1' hLw HO hdl;go_wp2_with (at_builtin;refine xq rfl (.tmp 74) (.tmp 78) 60 rfl W4.heap.size 62 i0 (.agg #[.int .i64 0,.string ByteArray.empty]) 2 24 underlying60 hi hz0 hz1 hz2 rfl (by decide) _ _ _ rfl HO6.out ⟨wr.heap.size,0,none⟩ 1 1 [.int .i64 (j:Int),.string S1] rfl rfl dC.out E1.out E2.out E3.out jy.out.size ?_);intro v' w1 hown hgrow _;have gY:Hid (Below W4.heap.size W4 w1):=jy.out.grown hgrow jy.out.size (fun j hj=>(HO6.out.lt j hj).1);have HO7:Hid (ch.kr w1 W4.heap.size v' (Lw++[((j:Int),y)])):=by
      refine ch.kr.snoc (x:=((j:Int),y)) ?_;show w1.ownsRow _ _ _ v' (Lw.length+1) (ch.yY Lw++[.int .i64 (j:Int),.string (str y)]);rw[aV.out];exact hown
     clear hown hgrow;go_wp2_with fail;go_roundw;case rel=>exact⟨j+1,by omega,by go_num,by rw[q1H.out];exact HO7.out,gY.out⟩
     case measure=>simp[intOf];omega
   ·obtain rfl:j=Q.length:=by omega
    have vn:¬ (Q.length:Int)<(Q.length:Int):=by omega
    obtain⟨a,c,hv,h1,h2⟩:=qpg HO.out (ch.pg.qbS P Q Q.length (by have:=HQL.out;omega));have HV2:=QH hv;have H1:=QH h1;have H2:=QH h2;clear hv h1 h2;go_wp2_with fail;go_ret2;rw[HC.out];exact⟨a,c,by rw[HV2.out];rfl,H1.out,fun b o e=>⟨Nat.le_trans zP.out.size (H2.out b o e).1,(H2.out b o e).2⟩,qc zP.out HB.out⟩
theorem gO (k:Int)(w:World):Calls prog 33 #[.pointer none,.int .i64 k] w (ch.bN ([],1) w):=by
 have xE:=QH (yh w);go_enter func33,ntmps33;go_wp2_with fail;refine xE.out.mono ?_;rintro e W1 ⟨rfl,rfl⟩;go_wp2_with fail;go_ret2;exact⟨none,0,rfl,ch.vU.nil _ _,ib.uC.none _ _,Below.refl _ _⟩
end Go.Proofs.YtdagdllomphidaaGreatDoor.vt.pg
namespace Go.Proofs.YtdagdllomphidaaGreatDoor.ch.pg
open _root_.Go.Proofs.Tryz Go Go.RowKit Go.Sort ib
theorem qph{t:TypeId}{d:TypeDesc}(h:prog.underlying t=some d)(hd:(match d with | .struct _ | .array _ _=>true|_=>false)=true)(w:World):(isAgg t).run prog w=.ok true w:=by
 unfold isAgg;rw[Sem.run_bind,run_underlying h w];cases d <;> simp_all
theorem gG {t:TypeId}{n:Nat}(h:(prog.info? t).map (·.size)=some n)(w:World):(sizeOf t).run prog w=.ok n w:=by
 cases hq:prog.info? t with
 | none=>simp[hq]at h
 | some i =>
  simp[hq]at h;simp[sizeOf,typeInfo,hq,h]
theorem qe0{t:TypeId}{d:TypeDesc}{n:Nat}(h:prog.underlying t=some d)(hd:(match d with | .struct _ | .array _ _=>true|_=>false)=true)(hn:(prog.info? t).map (·.size)=some n)
    (cs xs:List Value) (o:Nat) (hx:(cs.drop o).take n=xs) (w:World):(part t cs.toArray o).run prog w=.ok (.agg xs.toArray) w:=by
 have ha:=qph h hd w;have hz:=gG hn w;have he:cs.toArray.extract o (o+n)=xs.toArray:=by
  apply Array.ext';rw[Array.toList_extract,List.extract_eq_take_drop,Nat.add_sub_cancel_left];exact hx
 simp only[part,Sem.run_bind,ha,Result.andThen_ok,if_true,hz,Sem.run_pure,he]
theorem qpi:(prog.info? 55).map (·.size)=some 2:=by kernel_rfl
theorem lY {n:Nat}(s:Sn)(h:qP n s.bs)(h8:n≤8)(w:World):(Instr.field 131 (.agg (sc s).toArray) 0).run prog w=.ok (.agg (vc s.bs).toArray) w:=by
 have hp:=qe0 (t:=84) underlying84 rfl uj (sc s) (vc s.bs) 0 (by
  unfold sc;rw[List.drop_zero,List.take_left' (xg h h8)]) w
 simp[Instr.field,run_underlying underlying131,Result.andThen,asAgg,hp]
theorem qpj{n:Nat}(s:Sn)(h:qP n s.bs)(h8:n≤8)(w:World):(Instr.field 131 (.agg (sc s).toArray) 1).run prog w=.ok (gv s.g) w:=by
 have hp:=qe0 (t:=55) underlying55 rfl qpi (sc s) [.int .u64 (s.g.1:Int),.int .u64 (s.g.2:Int)] 256 (by
  unfold sc;rw[List.drop_left' (xg h h8)];rfl) w
 simp[Instr.field,run_underlying underlying131,Result.andThen,asAgg,hp,gv]
theorem qi2{own:Nat→Prop}{w:World}{p:Nat}{d:CH}(h:mX own w p d)(g:Gd):Calls prog 68 #[.pointer (some ⟨p,0,none⟩),gv g] w fun e w'=>e=.returned (.int .i64 (d.may g))∧Below w.heap.size w w':=by
 obtain⟨h0,v,hr⟩:=h;have hb0:=(Below.refl w.heap.size w).alloc (Nat.le_refl _) (.cells #[.int .u64 (g.1:Int),.int .u64 (g.2:Int)] 55);have hr1:=hr.below hb0;obtain⟨W,hW⟩:=QE (w.alloc (.cells #[.int .u64 (g.1:Int),.int .u64 (g.2:Int)] 55));have q0:W.cell? ⟨w.heap.size,0,none⟩=some (.int .u64 (g.1:Int)):=by rw[← hW];exact(qf.new w _ _).cell 0
 have q1:W.cell? ⟨w.heap.size,1,none⟩=some (.int .u64 (g.2:Int)):=by rw[← hW];exact(qf.new w _ _).cell 1
 rw[hW]at hr1 hb0;have q2:=hr1.c2 h0;have HB:=QH hb0;have HW:=QH hW;have HR:=QH hr1;have yz:=QH h0;have e0:∀d os,(grow (redrawn W d) os).cell? ⟨w.heap.size,0,none⟩=some (.int .u64 (g.1:Int)):=fun d os=>cell_regrown q0 d os;have e1:∀d os,(grow (redrawn W d) os).cell? ⟨w.heap.size,1,none⟩=some (.int .u64 (g.2:Int)):=fun d os=>cell_regrown q1 d os;have e2:∀d os,(grow (redrawn W d) os).cell? ⟨p,257,none⟩=some v:=fun d os=>cell_regrown q2 d os;have si:=h0.few;have cL:∀b os,Calls prog 69 #[v] (grow (redrawn W b) os) fun e w''=>e=.returned (.agg (sc (xH d.live.length d.qa)).toArray)∧∃q:Regrown,w''=grow (redrawn W q.d) q.os :=
  fun b os=>Calls.regrown_of (ie (HR.out.row.below (below_regrown W b os)) yz.out.qa yz.out.n8 si)
 have cA:∀b os,Calls prog 115 #[gv g,gv d.last] (grow (redrawn W b) os) fun e w''=>e=.returned (.bool (above g d.last))∧∃q:Regrown,w''=grow (redrawn W q.d) q.os :=
  fun b os=>Calls.regrown_of (aS g d.last _)
 have sO:=qpj (xH d.live.length d.qa) (aF h0.qa) h0.n8;rw[qsj]at sO;obtain⟨L,hL⟩:=QE (gv d.last);obtain⟨S,hS⟩:=QE ((sc (xH d.live.length d.qa)).toArray);rw[hL]at cA sO;rw[hS]at cL sO;have HM:Hid (d.may g=if above g d.last then(if 20≤d.qa.length then 3 else 0)else 2):=rfl;obtain⟨m,hm⟩:=QE (d.may g);rw[hm]at HM ⊢;generalize above g d.last=q at *;obtain⟨A,c,rfl,hlc,_,_⟩:=xD hr1.row h0.qa h0.n8;clear q0 q1 q2 hW hb0 hL hm hr1 hr h0 hS;unfold gv at cA ⊢;go_enter func68,ntmps68;go_wp2_with fail;rw[HW.out];refine wp_region_quiet_below vX (by kernel_rfl) ?_;repeat (any_goals (first|go_big_quiet_step (first|exact cL _ _|exact cA _ _)|quiet_step (first|exact cL _ _|exact cA _ _)))
 refine wpQuiet_nil ?_;intro _ hw';obtain⟨⟨dq,osq⟩,hw''⟩:=hw';subst hw'';have c2:=e2 dq osq;have hb:=below_regrown W dq osq;have qB:=QH (HB.out.trans (hb.mono HB.out.size));clear hb e0 e1 e2 cL cA HR HB HW;generalize grow (redrawn W dq) osq=W2 at *;cases q with
 | false =>
  have HT:Hid (m=2):=by unfold Hid;rw[HM.out];rfl
  clear HM;go_wp2_with fail;go_ret;exact⟨by rw[HT.out];rfl,qB.out⟩
 | true =>
  by_cases hx:(20:Int)≤(d.qa.length:Int)
  ·have HT:Hid (m=3):=by unfold Hid;rw[HM.out,if_pos rfl,if_pos (by omega)]
   clear HM;go_wp2_with fail;go_ret;exact⟨by rw[HT.out];rfl,qB.out⟩
  ·have HT:Hid (m=0):=by unfold Hid;rw[HM.out,if_pos rfl,if_neg (by omega)]
   clear HM;go_wp2_with fail;go_ret;exact⟨by rw[HT.out];rfl,qB.out⟩
theorem qe1(g:Gd)(w:World):Calls prog 68 #[.pointer none,gv g] w (xV 1 w):=by
 have HB:=QH ((Below.refl w.heap.size w).alloc (Nat.le_refl _) (.cells #[.int .u64 (g.1:Int),.int .u64 (g.2:Int)] 55));unfold gv;go_enter func68,ntmps68;go_wp2_with fail;go_ret;exact⟨rfl,HB.out⟩
theorem qe2{d:CH}(h:d.ok)(s:Sn)(hl:d.qa.length<20)(hs:qP d.live.length s.bs)(hg:zZ s.g):CH.ok ⟨d.live,d.qa++[s]⟩:=by
 refine⟨h.live,h.n1,h.n8,fun x hx=>?_,?_,fun x hx=>?_⟩
 ·rcases List.mem_append.1 hx with hx|hx
  ·exact h.qa x hx
  ·obtain rfl:x=s:=by simpa using hx
   exact hs
 ·show(d.qa++[s]).length≤20;rw[List.length_append,List.length_singleton];omega
 ·rcases List.mem_append.1 hx with hx|hx
  ·exact h.iy x hx
  ·obtain rfl:x=s:=by simpa using hx
   exact hg
theorem jF.quy{w w1:World}{own:Nat→Prop}{p:Nat}{v v':Value}{d:CH}{l:List Sn}(h:jF w own p v d)(hb:Below w.heap.size w w1)(hr:ve w1 v' l)(ho:d.ok)(hn:∀k,v'.ownBlock=some k→own k∨w.heap.size≤k) :
    jF (w1.setCell ⟨p,257,none⟩ v') (fun j=>own j∨v'.ownBlock=some j) p v' ⟨d.live,l⟩:=by
 have hb1:=h.blk.of_block (hb.block p h.blk.lt);have hp:=hr.ne hb1 (by decide);refine⟨?_,hr.of_block (fun k hk=>qC _ _ _ _ _ (hp k hk)),.inl h.op,fun k hk=>.inr hk,fun j hj=>?_⟩
 ·have:=hb1.qo 257 v';rw[mW ho.live ho.n8]at this;exact this
 ·have e:(w1.setCell ⟨p,257,none⟩ v').heap.size=w1.heap.size:=by simp[World.setCell]
  rw[e];rcases hj with hj|hj
  ·exact Nat.lt_of_lt_of_le (h.low j hj) hb.size
  ·exact hr.lt j hj
def PuG (p:Nat)(A:Option Addr)(n c B:Nat)(S:List Value):Nat→Value→World→Prop
 | 0,v,_=>v=.pointer (some ⟨p,0,none⟩)
 | 1,v,_=>v=.pointer (some ⟨p,0,none⟩)
 | 2,v,_=>v=.pointer (some ⟨p,0,none⟩)
 | 3,v,_=>v=.pointer (some ⟨p,257,none⟩)
 | 4,v,_=>v=.slice A n c
 | 5,v,_=>v=.int .i64 (n:Int)
 | 6,v,_=>v=.int .i64 (n:Int)
 | 7,v,_=>v=.slice A n n
 | 8,v,_=>v=.agg S.toArray
 | 9,v,w=>∃b,v=.slice (some ⟨b,0,none⟩) 1 1∧qf w b 131 S.toArray∧B≤b
 | _,_,_=>True
theorem qpk(p:Nat)(A:Option Addr)(n c B:Nat)(S:List Value)(i:Nat)(v:Value)(w w':World)(hi:i<10)(h:PuG p A n c B S i v w)(hb:Below w.heap.size w w'):PuG p A n c B S i v w':=by
 match i,hi,h with
 | 0,_,h | 1,_,h | 2,_,h | 3,_,h | 4,_,h | 5,_,h | 6,_,h | 7,_,h | 8,_,h=>exact h
 | 9,_,⟨b,h1,h2,h3⟩=>exact⟨b,h1,h2.below hb,h3⟩
theorem jk {own:Nat→Prop}{w:World}{p:Nat}{v:Value}{d:CH}(h:jF w own p v d)(ho:d.ok)(hl:d.qa.length<20)(s:Sn)(hs:qP d.live.length s.bs) :
    Calls prog 72 #[.pointer (some ⟨p,0,none⟩),.agg (sc s).toArray] w fun e w'=>e=.returned (.tuple #[])∧∃v' jT,jF w' jT p v' ⟨d.live,d.qa++[s]⟩∧qy (fun j=>j=p) w w'∧∀j,jT j→own j∨w.heap.size≤j:=by
 obtain⟨i0,hi,hz0,hz1,hz2⟩:=info_parts bw;have aX:Hid ((sc s).length=259):=yZ hs ho.n8;have aV:=QH (lL s);have kg:=QH (qkx d.qa s);have HLEN:=QH (rH ho.qa ho.n8);obtain⟨S,hS⟩:=QE (sc s);rw[hS]at aX aV kg ⊢;have hb0:=(Below.refl w.heap.size w).alloc (Nat.le_refl _) (.cells S.toArray 131);have hr1:=h.below hb0;have HBX:Hid (qf (w.alloc (.cells S.toArray 131)) w.heap.size 131 S.toArray):=qf.new _ _ _;have HB:=QH hb0;have HR:=QH hr1;have eC:=QH h;have HO:=QH ho;obtain⟨A,c,rfl,hlc,hA,_⟩:=xD h.row ho.qa ho.n8;have hcl:=hr1.row.cells;have HA:=QH hcl.2.1;have HCE:=QH hcl.2.2;have c2:=hr1.c2 ho;have hci:((d.qa.length:Nat):Int)≤(c:Int):=by omega
 have HL:=QH hl;clear h hb0 hr1 hcl hA hS ho hl hs;have qev:=HR.out.blk.lt;go_enter func72,ntmps72;go_wp2_with (refine qg rfl (fK 131 (.tmp 1) S.toArray rfl rfl (by rw[yS,List.size_toArray,aX.out]) (jE aV.out)) ?_);have C2:=QH c2;obtain⟨n,hn⟩:=QE d.qa.length;have HN:=QH hn;rw[hn]at HA HL HLEN hlc hci C2 c2 ⊢;clear hn c2;obtain⟨W1,hW1⟩:=QE (w.alloc (.cells S.toArray 131));rw[hW1]at HBX HB HR HCE C2 qev ⊢;clear hW1;refine vJ (by kernel_rfl) 10 [10,11,12,13,14,15,16,17,18,19] (by kernel_rfl) (PuG p A n c W1.heap.size S) _ (.pointer (some ⟨p,0,none⟩)) rfl (by decide) (by kernel_rfl) (by kernel_rfl) (by kernel_rfl) (fun _ _ _ h=>h) (Or.inl ⟨by rfl,fun w=>by go_simp⟩) (fun _=>rfl) (qpk _ _ _ _ _ _) ?_ ?_
 ·intro i o vs ρ W zeh hop hρ hfn hb hG;have t0:ρ (.tmp 0)=.pointer (some ⟨p,0,none⟩):=hρ.out 0 rfl;have t3:ρ (.tmp 3)=.pointer (some ⟨w.heap.size,0,none⟩):=hρ.out 3 rfl;have t4:ρ (.tmp 4)=.int .i64 (n:Int):=hρ.out 4 rfl;have tT:=hρ.at_ 11 1 rfl;have s12:=hρ.at_ 12 2 rfl;have s13:=hρ.at_ 13 3 rfl;have s14:=hρ.at_ 14 4 rfl;have s15:=hρ.at_ 15 5 rfl;have s16:=hρ.at_ 16 6 rfl;have s18:=hρ.at_ 18 8 rfl;have c2:W.cell? ⟨p,257,none⟩=some (.slice A n c):=(hb.cell (p:=⟨p,257,none⟩) qev).trans C2.out;rcases i with _|_|_|_|_|_|_|_|_|_|i;all_goals (first|omega|skip)
  all_goals simp only[QA,QB,QC,Option.some.injEq]at hop
  all_goals subst hop
  ·exact q9 (w':=W) (by unfold execOp;simp only[t0];go_simp) ⟨Below.refl _ _,rfl⟩
  ·exact q9 (w':=W) (by unfold execOp;simp only[t0];go_simp) ⟨Below.refl _ _,rfl⟩
  ·have g1:vs 1=_:=hG 1 (by kernel_rfl);exact q9 (w':=W) (by unfold execOp;simp only[tT,g1];go_simp) ⟨Below.refl _ _,rfl⟩
  ·have g2:vs 2=_:=hG 2 (by kernel_rfl);exact q9 (w':=W) (by unfold execOp;simp only[s12,g2];go_simp) ⟨Below.refl _ _,rfl⟩
  ·have g3:vs 3=_:=hG 3 (by kernel_rfl);exact q9 (w':=W) (by unfold execOp;simp only[s13,g3];go_simp) ⟨Below.refl _ _,rfl⟩
  ·exact q9 (w':=W) (by unfold execOp;simp only[t4];go_simp) ⟨Below.refl _ _,rfl⟩
  ·exact q9 (w':=W) (by unfold execOp;simp only[t4];go_simp) ⟨Below.refl _ _,rfl⟩
  ·have g4:vs 4=_:=hG 4 (by kernel_rfl);have g5:vs 5=_:=hG 5 (by kernel_rfl);have g6:vs 6=_:=hG 6 (by kernel_rfl);exact q9 (w':=W) (by unfold execOp;simp only[s14,g4,s15,g5,s16,g6];go_simp) ⟨Below.refl _ _,rfl⟩
  ·exact q9 (w':=W) (qI 131 (.tmp 3) rfl w.heap.size 0 t3 _ _ S _ _ (HBX.out.below hb) underlying131 rfl (by rw[yS,aX.out]) (fun j u hu=>by rw[Nat.zero_add];simpa using hu)) ⟨Below.refl _ _,rfl⟩
  ·have g8:vs 8=_:=hG 8 (by kernel_rfl);exact q9 (qnA 85 131 (.tmp 18) S.toArray 259 rfl (s18.trans g8) underlying85 i0 _ hi hz0 hz1 (by decide) (by decide) (by rw[List.size_toArray,aX.out])) ⟨(Below.refl _ W).alloc (Nat.le_refl _) _,W.heap.size,rfl,qf.new _ _ _,hb.size⟩
 ·intro vs W hb hG;have g0:vs 0=_:=hG 0 (by decide);have g7:vs 7=_:=hG 7 (by decide);obtain⟨bb,g9,yC,hbB⟩:=hG 9 (by decide);have B2:=QH (HB.out.trans (hb.mono HB.out.size));have jI:=QH (HR.out.below hb);have q1J:Hid (∀b,A=some b→∀j u,(vz d.qa)[j]?=some u→W.cell? (b.add j)=some u):=(jI.out.row.cells).2.2;have dC:Hid (∀j u,S[j]?=some u→W.cell? ((⟨bb,0,none⟩:Addr).add j)=some u):=fun j u hu=>by
   rw[addr_add,Nat.zero_add,yC.cell j];simpa using hu
  simp only[qW,qG,if_true];rw[g0,g7,g9];generalize vs 1=z1;generalize vs 2=z2;generalize vs 3=z3;generalize vs 4=z4;generalize vs 5=z5;generalize vs 6=z6;generalize vs 8=z8;clear hG g0 g7 g9 hb yC hbB;simp only[Act.put,List.setIfInBounds_toArray,List.set_cons_succ,List.set_cons_zero];refine qJ (i:=10) (by kernel_rfl) rfl rfl ?_;refine uT (.tmp 17) (.tmp 19) 85 rfl 131 i0 _ 259 280 underlying85 hi hz0 hz1 hz2 A n (vz d.qa) rfl HLEN.out HA.out q1J.out ⟨bb,0,none⟩ 1 1 S rfl (by rw[aX.out]) dC.out (by decide) (by have:=HL.out;unfold maxLen;omega) (by have:=HL.out;omega) ?_;intro cap cur w1 hb1 zK ht1 hc1 hc2 hsz;have HRW:Hid (ve w1 (.slice (some ⟨W.heap.size,0,none⟩) (n+1) cap) (d.qa++[s])):=by
   refine⟨some ⟨W.heap.size,0,none⟩,cap,?_,?_,hc2,.inr ⟨W.heap.size,cur,rfl,zK,?_⟩⟩
   ·rw[List.length_append,HN.out];rfl
   ·rw[List.length_append,HN.out];exact hc1
   ·rw[List.length_append,HN.out,kg.out];exact ht1
  have HP:=QH (jF.quy jI.out hb1 HRW.out HO.out (fun k hk=>by
   simp[Value.ownBlock]at hk;exact .inr (by omega)))
  have bO:=QH (((qy.of_below (S:=fun j=>j=p) B2.out).trans (S':=fun _=>False) (qy.of_below hb1) (fun _ h=>h.elim)).setCell ⟨p,257,none⟩ (.slice (some ⟨W.heap.size,0,none⟩) (n+1) cap) (.inl rfl));have HOW:Hid (∀j,(own j∨(Value.slice (some ⟨W.heap.size,0,none⟩) (n+1) cap).ownBlock=some j)→own j∨w.heap.size≤j):=fun j hj=>by
   rcases hj with hj|hj
   ·exact .inl hj
   ·simp[Value.ownBlock]at hj;have:=B2.out.size;exact .inr (by omega)
  have f1:w1.frozen? ⟨p,257,none⟩=false:=(jI.out.blk.of_block (hb1.block p jI.out.blk.lt)).frozen 257;obtain⟨b1,q7k⟩:∃z,w1.cell? ⟨p,257,none⟩=some z:=⟨_,(hb1.cell (p:=⟨p,257,none⟩) jI.out.blk.lt).trans (jI.out.c2 HO.out)⟩;clear hb1 zK ht1 hc1 hc2 hsz HRW q1J dC HCE;go_simp;refine qJ (i:=11) (by kernel_rfl) rfl rfl ?_;go_simp;refine qJ (i:=12) (by kernel_rfl) rfl rfl ?_;go_simp;refine qJ (i:=13) (by kernel_rfl) rfl rfl ?_;go_simp;refine⟨by kernel_rfl,?_⟩;go_wp2_with fail
  go_end0
  exact⟨rfl,_,_,HP.out,bO.out,HOW.out⟩
theorem qpl{w:World}{n gb:Nat}(s:Sn)(hs:qP n s.bs)(h8:n≤8)(g:Gd)(hgb:gb<w.heap.size)(q0:w.cell? ⟨gb,0,none⟩=some (.int .u64 (g.1:Int)))(q1:w.cell? ⟨gb,1,none⟩=some (.int .u64 (g.2:Int))) :
    Calls prog 126 #[.agg (sc s).toArray,.pointer (some ⟨gb,0,none⟩)] w fun e w'=>e=.returned (.bool (decide (s.g=g)))∧Below w.heap.size w w':=by
 have aX:Hid ((sc s).length=259):=yZ hs h8;have aV:=QH (lL s);have h1:=qtZ hs h8;have h2:=qua hs h8;have hq:=qoy s.g g;obtain⟨S,hS⟩:=QE (sc s);rw[hS]at aX aV h1 h2 ⊢;have hb0:=(Below.refl w.heap.size w).alloc (Nat.le_refl _) (.cells S.toArray 131);have e0:(w.alloc (.cells S.toArray 131)).cell? ⟨w.heap.size,256,none⟩=some (.int .u64 (s.g.1:Int)):=by
  rw[(qf.new w 131 S.toArray).cell 256];simpa using h1
 have e1:(w.alloc (.cells S.toArray 131)).cell? ⟨w.heap.size,257,none⟩=some (.int .u64 (s.g.2:Int)):=by
  rw[(qf.new w 131 S.toArray).cell 257];simpa using h2
 have p0:=(hb0.cell (p:=⟨gb,0,none⟩) hgb).trans q0;have p1:=(hb0.cell (p:=⟨gb,1,none⟩) hgb).trans q1;have HB:=QH hb0;obtain⟨r,hr⟩:=QE (decide (s.g=g));rw[hr]at hq ⊢;generalize (s.g.1:Int)=x1 at *;generalize (s.g.2:Int)=x2 at *;generalize (g.1:Int)=y1 at *;generalize (g.2:Int)=y2 at *;obtain⟨b1,hb1⟩:=QE (x1 == y1);obtain⟨b2,hb2⟩:=QE (x2 == y2);rw[hb1,hb2]at hq;subst hq;clear hS h1 h2 hb0 hr hs;have E0:=QH e0;have E1:=QH e1;have P0:=QH p0;have P1:=QH p1;clear e0 e1 p0 p1 q0 q1;cases b1 <;> cases b2;all_goals
  go_enter func126,ntmps126;go_wp2_with (refine qg rfl (fK 131 (.tmp 0) S.toArray rfl rfl (by rw[yS,List.size_toArray,aX.out]) (jE aV.out)) ?_;have e0:=E0.out;have e1:=E1.out;have p0:=P0.out;have p1:=P1.out;generalize w.alloc (.cells S.toArray 131)=W at *);go_ret;exact⟨rfl,HB.out⟩
def tF (l:List Sn)(g:Gd):Int:=match l.findIdx? fun s=>decide (s.g=g)with
 | none=>-1
 | some i=>(i:Int)
theorem qpm{l:List Sn}{g:Gd}{k:Nat}(hk:k<l.length)(hg:l[k].g=g)(hb:∀j (h:j<l.length),j<k→l[j].g≠g):tF l g=(k:Int):=by
 unfold tF;have:(l.findIdx? fun s=>decide (s.g=g))=some k:=by
  rw[List.findIdx?_eq_some_iff_getElem];exact⟨hk,by simpa using hg,fun j hj=>by simpa using hb j (by omega) hj⟩
 rw[this]
theorem qpn{l:List Sn}{g:Gd}(hb:∀j (h:j<l.length),l[j].g≠g):tF l g = -1:=by
 unfold tF;have:(l.findIdx? fun s=>decide (s.g=g))=none:=by
  rw[List.findIdx?_eq_none_iff];intro s hs;obtain⟨j,hj,rfl⟩:=List.getElem_of_mem hs;simpa using hb j hj
 rw[this]
def q1K (l:List Sn)(g:Gd)(w:World)(i:Value)(wr:World):Prop :=
 ∃k:Nat,k≤l.length∧i=.int .i64 (k:Int)∧(∀j (h:j<l.length),j<k→l[j].g≠g)∧Below w.heap.size w wr
theorem qsE{w:World}{n gb:Nat}{v:Value}{l:List Sn}(h:ve w v l)(ho:∀s∈l,qP n s.bs)(h8:n≤8)(bF:l.length≤20)(g:Gd)(hgb:gb<w.heap.size)(q0:w.cell? ⟨gb,0,none⟩=some (.int .u64 (g.1:Int)))(q1:w.cell? ⟨gb,1,none⟩=some (.int .u64 (g.2:Int))) :
    Calls prog 125 #[v,.func (.func 126) #[] #[.pointer (some ⟨gb,0,none⟩)]] w fun e w'=>e=.returned (.int .i64 (tF l g))∧Below w.heap.size w w':=by
 obtain⟨A,c,rfl,hlc,hA,hx⟩:=xD h ho h8;have HX:=QH hx;have HQ0:=QH q0;have HQ1:=QH q1;have HO:=QH ho;have nR:=QH (fun k hk hg hb=>qpm (l:=l) (g:=g) (k:=k) hk hg hb);have HRN:=QH (fun hb=>qpn (l:=l) (g:=g) hb);obtain⟨R,hR⟩:=QE (tF l g);rw[hR]at nR HRN ⊢;clear hx q0 q1 h hR ho;go_enter func125,ntmps125;go_wp2_with fail;go_loopw [8] (fun i wr=>q1K l g w i wr) (fun i _=>l.length-(intOf i).toNat);case atStart=>exact⟨0,Nat.zero_le _,rfl,fun j _ h=>absurd h (by omega),Below.refl _ _⟩
 case round =>
  obtain⟨k,hk,rfl,hno,hB⟩:=hrel;have vr:=QH hno;have HB:=QH hB;clear hno hB;by_cases hlt:k<l.length
  ·have jG:(k:Int)<(l.length:Int):=by omega
   obtain⟨gr,cur,rfl,hb,hc⟩:=HX.out k hlt;have hso:=HO.out _ (List.getElem_mem hlt);have aX:Hid ((sc l[k]).length=259):=yZ hso h8;have yL:=QH (hb.below HB.out);have HC:=QH hc;have gK:=QH (qpl l[k] hso h8 g (w:=wr) (Nat.lt_of_lt_of_le hgb HB.out.size) ((HB.out.cell (p:=⟨gb,0,none⟩) hgb).trans HQ0.out) ((HB.out.cell (p:=⟨gb,1,none⟩) hgb).trans HQ1.out));have HYE:=QH (fun(e:l[k].g=g)=>nR.out k hlt e vr.out);have HNX:Hid (l[k].g≠g→∀j (h:j<l.length),j<k+1→l[j].g≠g):=fun hne j hj hjk=>by
    by_cases qod:j<k
    ·exact vr.out j hj qod
    ·obtain rfl:j=k:=by omega
     exact hne
   clear hb hc hso;generalize sc l[k]=S at *;generalize l[k].g=gk at *;go_wp2_with (refine qg rfl (qI 131 (.tmp 14) rfl gr (k*259) rfl _ cur S _ _ yL.out underlying131 rfl (by rw[yS,aX.out]) HC.out) ?_);refine gK.out.mono ?_;rintro e W1 ⟨rfl,hb1⟩;have qR:=QH (HB.out.trans (hb1.mono HB.out.size));clear hb1;by_cases hg:gk=g
   ·rw[decide_eq_true hg];have HR:=QH (HYE.out hg);clear hg HYE HNX gK;go_wp2_with fail;go_ret;rw[HR.out];exact⟨rfl,qR.out⟩
   ·rw[decide_eq_false hg];have HN:=QH (HNX.out hg);clear hg HYE HNX gK;go_wp2_with fail;go_roundw;case rel=>exact⟨k+1,by omega,by go_num,HN.out,qR.out⟩
    case measure=>simp[intOf];omega
  ·have jG:¬ (k:Int)<(l.length:Int):=by omega
   have HR:=QH (HRN.out (fun j hj=>vr.out j hj (by omega)));go_wp2_with fail;go_ret;rw[HR.out];exact⟨rfl,HB.out⟩
def aI (d:CH)(g:Gd):Int × Int:=match d.find g with
 | none=>(0,5)
 | some i=>match d.qa[i]? with
  | none=>(0,5)
  | some s=>if s.hid then(0,14)else((i:Int),0)
theorem qkS(d:CH)(g:Gd):(tF d.qa g = -1∧aI d g=(0,5))∨∃i s,tF d.qa g=((i:Nat):Int)∧i<d.qa.length∧d.qa[i]?=some s∧aI d g=if s.hid then(0,14)else((i:Int),0):=by
 unfold tF aI CH.find;cases hf:d.qa.findIdx? fun s=>decide (s.g=g)with
 | none=>exact .inl ⟨rfl,rfl⟩
 | some i =>
  have hi:=(List.findIdx?_eq_some_iff_getElem.1 hf).1;refine .inr ⟨i,d.qa[i],rfl,hi,List.getElem?_eq_getElem hi,?_⟩;show(match d.qa[i]? with
   | none=>((0:Int),(5:Int))
   | some s=>if s.hid then(0,14)else((i:Int),0))=_
  rw[List.getElem?_eq_getElem hi]
theorem nb (d:CH)(g:Gd):(∃c,c≠0∧aI d g=(0,c)∧d.kY g=(d,c)∧d.read g=([],c)) ∨
    ∃(i:Nat) (s:Sn),aI d g=((i:Int),0)∧i<d.qa.length∧d.qa[i]?=some s∧d.kY g=(⟨d.live,xj d.qa i⟩,0)∧d.read g=(s.bs,0):=by
 unfold aI CH.kY CH.read;cases hf:d.find g with
 | none=>exact .inl ⟨5,by decide,rfl,rfl,rfl⟩
 | some i =>
  dsimp only;have hi:=(List.findIdx?_eq_some_iff_getElem.1 hf).1;rw[List.getElem?_eq_getElem hi];dsimp only;cases hh:d.qa[i].hid with
  | true=>exact .inl ⟨14,by decide,by simp,by simp,by simp⟩
  | false=>exact .inr ⟨i,d.qa[i],by simp,hi,List.getElem?_eq_getElem hi,by simp,by simp⟩
theorem jQ {own:Nat→Prop}{w:World}{p:Nat}{d:CH}(h:mX own w p d)(g:Gd):Calls prog 81 #[.pointer (some ⟨p,0,none⟩),gv g] w fun e w'=>e=.returned (.tuple #[.int .i64 (aI d g).1,.int .i64 (aI d g).2])∧Below w.heap.size w w':=by
 obtain⟨h0,v,hr⟩:=h;have hb0:=(Below.refl w.heap.size w).alloc (Nat.le_refl _) (.cells #[.int .u64 (g.1:Int),.int .u64 (g.2:Int)] 55);have hr1:=hr.below hb0;have q0:(w.alloc (.cells #[.int .u64 (g.1:Int),.int .u64 (g.2:Int)] 55)).cell? ⟨w.heap.size,0,none⟩=some (.int .u64 (g.1:Int)):=(qf.new w _ _).cell 0;have q1:(w.alloc (.cells #[.int .u64 (g.1:Int),.int .u64 (g.2:Int)] 55)).cell? ⟨w.heap.size,1,none⟩=some (.int .u64 (g.2:Int)):=(qf.new w _ _).cell 1;have HI:=QH (qsE hr1.row h0.qa h0.n8 h0.few g (by simp) q0 q1);have q2:=hr1.c2 h0;have sL:=QH (qkS d g);have HB:=QH hb0;have HR:=QH hr1;have yz:=QH h0;obtain⟨R,hR⟩:=QE (aI d g);rw[hR]at sL ⊢;obtain⟨X,hX⟩:=QE (tF d.qa g);rw[hX]at sL HI;have si:=h0.few;have qev:=HR.out.blk.lt;obtain⟨A,c,rfl,hlc,_,_⟩:=xD hr1.row h0.qa h0.n8;clear q0 q1 hb0 hr1 hr h0 hR hX;unfold gv;go_enter func81,ntmps81;go_wp2_with fail;refine HI.out.mono ?_;rintro e W1 ⟨rfl,hb1⟩;have qR:=QH (HB.out.trans (hb1.mono HB.out.size));have jH:=QH (HR.out.below hb1);clear hb1 HI q2 HB HR;rcases sL.out with⟨rfl,hf⟩|⟨i,s,rfl,eE,hs,hf⟩
 ·have HF:=QH hf;clear hf sL;go_wp2_with fail;go_ret2;rw[HF.out];exact⟨rfl,qR.out⟩
 ·have HF:=QH hf;obtain⟨A2,c3,e,_,_,hx⟩:=xD jH.out.row yz.out.qa yz.out.n8;simp only[Value.slice.injEq]at e;obtain⟨rfl,_,rfl⟩:=e;obtain⟨gr,cur,rfl,hb,hc⟩:=hx i eE;obtain rfl:d.qa[i]=s:=by
   rw[List.getElem?_eq_getElem eE]at hs;exact Option.some.inj hs
  have hso:=yz.out.qa _ (List.getElem_mem eE);have c3:W1.cell? ⟨gr,i*259+258,none⟩=some (.bool d.qa[i].hid):=by
   rw[hb.cell];exact hc 258 _ (qw0 hso yz.out.n8)
  have q2:=jH.out.c2 yz.out;have hii:(i:Int)<(d.qa.length:Int):=by omega
  have hin:¬ (i:Int)<0:=by omega
  generalize d.qa[i].hid=hd at *;clear hf sL hx hb hc hso hs;cases hd with
  | true =>
   have HF2:Hid (R=(0,14)):=by unfold Hid;simpa using HF.out
   go_wp2_with fail;go_ret2;rw[HF2.out];exact⟨rfl,qR.out⟩
  | false =>
   have HF2:Hid (R=((i:Int),0)):=by unfold Hid;simpa using HF.out
   go_wp2_with fail;go_ret2;rw[HF2.out];exact⟨rfl,qR.out⟩
theorem qaA(g:Gd)(w:World):Calls prog 81 #[.pointer none,gv g] w fun e w'=>e=.returned (.tuple #[.int .i64 0,.int .i64 1])∧Below w.heap.size w w':=by
 have HB:=QH ((Below.refl w.heap.size w).alloc (Nat.le_refl _) (.cells #[.int .u64 (g.1:Int),.int .u64 (g.2:Int)] 55));unfold gv;go_enter func81,ntmps81;go_wp2_with fail;go_ret2;exact⟨rfl,HB.out⟩
theorem vh {own:Nat→Prop}{w w':World}{p:Nat}{d:CH}{r:Int}{e:Ending}(h:mX own w p d)(hb:Below w.heap.size w w')(he:e=.returned (.int .i64 r)):Aft mX own p (d,r) w e w'∧qy (fun j=>j=p) w w':=by
 obtain⟨h0,v,h1⟩:=h;exact⟨⟨he,own,⟨h0,v,h1.below hb⟩,qy.of_below hb,fun j hj=>.inl hj⟩,qy.of_below hb⟩
theorem qhh(n:Nat)(h8:n≤8):qF n (wI n) (.slice none 0 0)=qF n [] (.slice none 0 0):=by
 unfold qF;rw[qis n h8]
theorem qe3{ρ:Operand→Value}{o:Oper}{w:World}(x:Operand)(n:Nat)(ho:o.op=.build 87 #[(0,x)])(hx:ρ x=.int .i64 (n:Int)) :
    (execOp ρ o).run prog w=.ok (.value (.agg (qF n [] (.slice none 0 0)).toArray)) w:=by
 obtain⟨i0,hi,hz0,_,_⟩:=info_parts qit;have hz:∀w,(zeroValue 87).run prog w=.ok (.agg (qF 0 [] (.slice none 0 0)).toArray) w:=fun w=>by simp[zeroValue,typeInfo,hi,hz0]
 have hb:(Instr.build 87 #[(0,.int .i64 (n:Int))]).run prog w=.ok (.agg (qF n [] (.slice none 0 0)).toArray) w:=by
  have e:(qF n [] (.slice none 0 0)).toArray=(qF 0 [] (.slice none 0 0)).toArray.set! 0 (.int .i64 (n:Int)):=rfl;rw[e];have hne:(qF 0 [] (.slice none 0 0)).toArray ≠ #[]:=by simp[qF]
  generalize (qF 0 [] (.slice none 0 0)).toArray=z0 at *;simp[Instr.build,hz,Result.andThen,go_sem,Value.cells];rw[if_neg hne];rfl
 simp[execOp,ho,hx,hb,Result.andThen]
theorem sj (n:Nat)(l:List Bt)(v:Value)(hv:v.oneCell'=true):∀u∈qF n l v,u.oneCell'=true:=by
 intro u hu;unfold qF at hu;simp only[List.mem_cons,List.mem_append,List.not_mem_nil,or_false]at hu;rcases hu with rfl|hu|rfl
 ·rfl
 ·exact rG l u hu
 ·exact hv
theorem pI (b:Int)(w:World)(hb:yA b)(h:b<1∨8<b):Calls prog 10 #[.int .i64 b] w fun e w'=>e=.returned (.pointer none)∧Below w.heap.size w w':=by
 rcases h with h|h
 ·go_enter func10,ntmps10;go_wp2_with fail;go_ret;exact⟨rfl,Below.refl _ _⟩
 ·have h2:¬ b<1:=by omega
  go_enter func10,ntmps10;go_wp2_with fail;go_ret;exact⟨rfl,Below.refl _ _⟩
def q1L (n:Nat)(w:World)(e:Ending)(w':World):Prop:=∃p own,e=.returned (.pointer (some ⟨p,0,none⟩))∧mX own w' p (jW n)∧Below w.heap.size w w'∧∀j,own j→w.heap.size≤j
theorem uM (n:Nat)(w:World)(h1:1≤n)(h8:n≤8):Calls prog 10 #[.int .i64 (n:Int)] w (q1L n w):=by
 have hi1:¬ (n:Int)<1:=by omega
 have hi8:¬ (8:Int)<(n:Int):=by omega
 have HC:=QH (sj n [] (.slice none 0 0) rfl);have HL:Hid ((qF n [] (.slice none 0 0)).length=258):=ku (n:=0) ⟨rfl,fun v hv=>by simp at hv⟩ (by omega);have HE:=QH (qhh n h8);obtain⟨C,hC⟩:=QE (qF n [] (.slice none 0 0));have HCC:=QH hC;rw[hC]at HC HL HE;clear hC;go_enter func10,ntmps10;go_wp2_with (first|(refine qg rfl (qe3 _ n rfl rfl) ?_;rw[HCC.out])|(refine qg rfl (fK 87 (.tmp 10) C.toArray rfl rfl (by rw[qbV,List.size_toArray,HL.out]) (jE HC.out)) ?_));go_ret;refine⟨w.heap.size,fun j=>j=w.heap.size,rfl,⟨?_,.slice none 0 0,?_,?_,rfl,(fun k hk=>by cases hk),fun k hk=>by rw[hk];simp⟩,(Below.refl w.heap.size w).alloc (Nat.le_refl _) _,fun j hj=>by omega⟩
 ·have hl:(jW n).live.length=n:=by simp[jW,wI]
  exact⟨by rw[hl];exact qbx n,by rw[hl];exact h1,by rw[hl];exact h8,fun s hs=>by simp[jW]at hs,by simp[jW],fun s hs=>by simp[jW]at hs⟩
 ·have hl:(jW n).live.length=n:=by simp[jW,wI]
  show qf _ _ _ (qF (jW n).live.length (wI n) (.slice none 0 0)).toArray;rw[hl,HE.out];exact qf.new _ _ _
 ·exact⟨none,0,rfl,Nat.le_refl _,by unfold maxLen;omega,.inl ⟨rfl,rfl,rfl⟩⟩
def qwV (own:Nat→Prop)(p:Nat)(d:CH)(w:World)(e:Ending)(w':World):Prop:=∃q jT,e=.returned (.pointer (some ⟨q,0,none⟩))∧mX jT w' q d∧Below w.heap.size w w'∧∀j,jT j→(own j∧j≠p)∨w.heap.size≤j
theorem rZ {own:Nat→Prop}{w:World}{p:Nat}{d:CH}(h:mX own w p d):Calls prog 14 #[.pointer (some ⟨p,0,none⟩)] w (qwV own p d w):=by
 obtain⟨i0,hi,hz0,_,_⟩:=info_parts qit;have HI:=QH hi;have HZ0:=QH hz0;have HIS:=QH h;obtain⟨h0,v,hr⟩:=h;have HV:=QH hr.vp;have HR:=QH hr;have yz:=QH h0;have HL:Hid ((qF d.live.length d.live v).length=258):=ku h0.live h0.n8;have hv1:v.oneCell'=true:=by
  obtain⟨A,c,rfl,_⟩:=hr.row;rfl
 have HC:=QH (sj d.live.length d.live v hv1);have HB:=QH hr.blk;have HCC:Hid (∃C,qF d.live.length d.live v=C):=⟨_,rfl⟩;obtain⟨C,hC⟩:=HCC.out;have HE:=QH hC;rw[hC]at HL HC HB;have HZL:Hid ((qF 0 [] (.slice none 0 0)).length=258):=ku (n:=0) ⟨rfl,fun v hv=>by simp at hv⟩ (by omega);obtain⟨Z,hZ⟩:=QE (qF 0 [] (.slice none 0 0));rw[hZ]at HZ0 HZL;clear hC HCC hr h0 hv1 hi hz0 hZ;go_enter func14,ntmps14;go_wp2_with (first|(refine qg rfl (qI 87 (.tmp 7) rfl p 0 rfl _ _ C _ _ HB.out underlying87 rfl (by rw[qbV,HL.out]) (fun j u hu=>by rw[Nat.zero_add];simpa using hu)) ?_)|(refine qg rfl (km 87 i0 Z.toArray rfl HI.out HZ0.out) ?_)|(refine wpList_skip rfl (zy w 87 Z.toArray C.toArray (.tmp 3) (.tmp 8) rfl rfl rfl (by rw[qbV,List.size_toArray,HL.out]) (by rw[List.size_toArray,List.size_toArray,HL.out,HZL.out]) (jE HC.out)) ?_));go_ret;have hb:Below w.heap.size w (w.alloc (.cells C.toArray 87)):=(Below.refl w.heap.size w).alloc (Nat.le_refl _) _;refine⟨w.heap.size,fun j=>(own j∧j≠p)∨j=w.heap.size,rfl,⟨yz.out,v,?_,HR.out.row.below hb,.inr rfl,fun k hk=>.inl ⟨HR.out.om k hk,HV.out k hk⟩,fun k hk=>?_⟩,hb,fun j hj=>?_⟩
 ·rw[HE.out];exact qf.new _ _ _
 ·rcases hk with hk|hk
  ·exact Nat.lt_of_lt_of_le (HR.out.low k hk.1) hb.size
  ·rw[hk];simp
 ·rcases hj with hj|hj
  ·exact .inl hj
  ·exact .inr (by omega)
theorem sq {own:Nat→Prop}{w:World}{p:Nat}{d:CH}(k:Int)(s:Bt)(h:mX own w p d):Calls prog 37 #[.pointer (some ⟨p,0,none⟩),.int .i64 k,.string (str s)] w fun e w'=>Aft mX own p (d.write k s) w e w'∧qy (fun j=>j=p) w w':=by
 have HIS:=QH h;obtain⟨h0,v,hr⟩:=h;have HT:=QH (wQ hr.c0 k s);by_cases hg:0≤k∧k<(d.live.length:Int)∧s.length=32
 ·rw[decide_eq_true hg]at HT;obtain⟨m,rfl⟩:∃m:Nat,k=(m:Int):=⟨k.toNat,by omega⟩;have hm:m<d.live.length:=by omega
  have hw:d.write (m:Int) s=(⟨d.live.set m s,d.qa⟩,0):=by
   unfold CH.write;rw[if_neg (by omega)];rfl
  rw[hw];have HR:=QH hr;have yz:=QH h0;have HHM:=QH hm;have HS:=QH hg.2.2;have HN8:=QH h0.n8;clear hg hw hr h0 hm;go_enter func37,ntmps37;go_wp2_with fail;refine HT.out.mono ?_;rintro e W1 ⟨rfl,hb1⟩;have qR:=QH hb1;have jH:=QH (HR.out.below hb1);clear hb1 HT;go_wp2_with fail;refine(qiu jH.out.blk (o:=1) (by rw[List.size_toArray,ku yz.out.live yz.out.n8];omega) m (by have:=HHM.out;have:=HN8.out;omega) s HS.out).mono ?_;rintro e W2 ⟨rfl,hW2⟩;have HW2:=QH hW2;clear hW2;go_wp2_with fail;go_ret;have bZ:=qea (m:=d.live.length) (v:=v) yz.out.live yz.out.n8 m s HHM.out;have hb:=jH.out.blk;have hbu:=uW W1 p (qF d.live.length (d.live.set m s) v).toArray;have hk2:=uV (c:=(qF d.live.length (d.live.set m s) v).toArray) hb;have e2:W2=W1.setRow p (qF d.live.length (d.live.set m s) v).toArray:=by
   rw[HW2.out,← bZ]
  rw[← e2]at hbu hk2;have hl:(d.live.set m s).length=d.live.length:=List.length_set;have bL:qy (fun j=>j=p) w W2:=(qy.of_below (S:=fun j=>j=p) qR.out).trans hbu (fun _ h=>.inl h);refine⟨⟨rfl,own,⟨?_,v,?_,?_,jH.out.op,jH.out.om,fun j hj=>Nat.lt_of_lt_of_le (jH.out.low j hj) hbu.size⟩,bL.mono (fun j hj=>by rw[hj];exact HR.out.op),fun j hj=>.inl hj⟩,bL⟩
  ·have h0:=yz.out;have hvo:qP d.live.length (d.live.set m s):=qno h0.live HS.out;exact⟨by rw[hl];exact hvo,by rw[hl];exact h0.n1,by rw[hl];exact h0.n8,by intro x hx;rw[hl];exact h0.qa x hx,h0.few,h0.iy⟩
  ·show qf W2 p _ (qF (d.live.set m s).length (d.live.set m s) v).toArray;rw[hl];exact hk2
  ·exact jH.out.row.of_block (fun j hj=>hbu.block j (jH.out.row.lt j hj) (jH.out.vp j hj))
 ·rw[decide_eq_false hg]at HT;have hw:d.write k s=(d,2):=by
   unfold CH.write;rw[if_pos (by omega)]
  rw[hw];clear hg hw hr h0;go_enter func37,ntmps37;go_wp2_with fail;refine HT.out.mono ?_;rintro e W1 ⟨rfl,hb1⟩;have qR:=QH hb1;clear hb1 HT;go_wp2_with fail;go_ret;exact vh HIS.out qR.out rfl
theorem qaB:∀(l:List Sn) (i:Nat),i<l.length→(∀s∈l,(sc s).length=259)→(vz l).set (i*259+258) (.bool true)=vz (xj l i)
 | x::l,0,_,h=>by
  have hx:=h x (by simp);have hv:(vc x.bs).length=256:=by
   unfold sc at hx;simpa using hx
  show(sc x++vz l).set (0*259+258) (.bool true)=sc { x with hid:=true }++vz l;rw[List.set_append_left _ _ (by omega)]
  congr 1
  unfold sc;rw[List.set_append_right _ _ (by omega),hv];rfl
 | x::l,i+1,hi,h=>by
  have ih:=qaB l i (by simpa using hi) (fun s hs=>h s (by simp[hs]));have hx:=h x (by simp);have e:xj (x::l) (i+1)=x::xj l i:=by simp[xj]
  rw[e];show(sc x++vz l).set ((i+1)*259+258) (.bool true)=sc x++vz (xj l i);rw[List.set_append_right _ _ (by omega),hx,show(i+1)*259+258-259=i*259+258 by omega,ih]
def qwW (l:List Sn)(w:World)(e:Ending)(w':World):Prop:=∃g c cur,e=.returned (.slice (some ⟨g,0,none⟩) l.length c)∧w.heap.size≤g∧qf w' g 131 cur∧cur.toList.take (l.length*259)=vz l∧l.length≤c∧c≤maxLen∧Below w.heap.size w w'
theorem qhi{ρ:Operand→Value}{o:Oper}{w:World}(ho:o.op=.buildSlice 85 0 #[]) :
    (execOp ρ o).run prog w=.ok (.value (.slice (some ⟨w.heap.size,0,none⟩) 0 0)) (w.alloc (.cells #[] 131)):=by
 have hz:=gG (t:=131) yS w;have hr:(Instr.buildSlice 85 0 #[]).run prog w=.ok (.slice (some ⟨w.heap.size,0,none⟩) 0 0) (w.alloc (.cells #[] 131)):=by
  simp[Instr.buildSlice,run_underlying underlying85,hz,Instr.fill,newRow,Result.andThen];rw[show Array.map (fun _:Nat=>(default:Value)) (Array.range 0) = #[]from Array.ext (by simp) (fun i _ h2=>by simp at h2)]
 simp[execOp,ho,hr,Result.andThen]
theorem qkT(d:Nat)(a:Addr)(n c:Nat)(w:World):(Op.equalIn (d+1) 85 (.slice (some a) n c) (.slice none 0 0)).run prog w=.ok false w:=by
 simp[Op.equalIn,run_underlying underlying85]
theorem nU (a:Addr)(n c:Nat)(w:World):(binOp .eql 85 (.slice (some a) n c) (.slice none 0 0)).run prog w=.ok (.bool false) w:=by
 have h:(Op.equalIn 10000 85 (.slice (some a) n c) (.slice none 0 0)).run prog w=.ok false w:=qkT 9999 a n c w;simp only[binOp];simp[Op.equal,Op.maxDepth,h,Result.andThen]
theorem lJ {w:World}{n:Nat}{v:Value}{l:List Sn}(h:ve w v l)(ho:∀s∈l,qP n s.bs)(h8:n≤8)(h1:0<l.length)(bF:l.length≤20):Calls prog 82 #[v] w (qwW l w):=by
 obtain⟨i0,hi,hz0,hz1,hz2⟩:=info_parts bw;have HLEN:=QH (rH ho h8);have qsb:Hid (∀u∈vz l,u.oneCell'=true):=fun u hu=>by
  obtain⟨s,_,h⟩:=List.mem_flatMap.1 hu;exact lL s u h
 have hb1:=(Below.refl w.heap.size w).alloc (Nat.le_refl _) (.cells #[] 131);have hr1:=h.below hb1;obtain⟨A,c,rfl,hlc,_,hx⟩:=xD h ho h8;obtain⟨g,cur,rfl,_,_⟩:=hx 0 h1;have HCE:=QH ((hr1.cells).2.2);have HB:=QH hb1;have HSI:Hid ((w.alloc (.cells #[] 131)).heap.size=w.heap.size+1):=by unfold Hid;simp
 have heq:(binOp .eql 85 (.slice (some ⟨g,0,none⟩) l.length c) (.slice none 0 0)).run prog w=.ok (.bool false) w:=nU _ _ _ w;clear hx hb1 hr1 h ho;go_enter func82,ntmps82;go_wp2_with (first|(refine qg rfl (qhi rfl) ?_)|(at_builtin;refine uU rfl (.tmp 5) (.tmp 6) 85 rfl 131 i0 _ 259 280 underlying85 hi hz0 hz1 hz2 (some ⟨w.heap.size,0,none⟩) 0 [] rfl rfl (fun h=>by cases h) (fun b _ j u hu=>by simp at hu) ⟨g,0,none⟩ l.length c (vz l) rfl HLEN.out (HCE.out _ rfl) h1 (by unfold maxLen;omega) (by omega) ?_));intro cap qnD w1 hb2 hk2 ck hc1 hc2 hsz;have qB:=QH (HB.out.trans (hb2.mono (by simp)));have jZ:=QH hk2;have dT:Hid (qnD.toList.take (l.length*259)=vz l):=by
  unfold Hid;simpa using ck
 have HC1:Hid (l.length≤cap):=by unfold Hid;omega
 have HC2:=QH hc2;clear hb2 hk2 ck hc1 hc2 hsz HCE HB HLEN;go_wp2_with fail;go_ret;exact⟨w.heap.size+1,cap,qnD,rfl,Nat.le_succ _,jZ.out,dT.out,HC1.out,HC2.out,qB.out⟩
theorem jF.kY{w:World}{own:Nat→Prop}{p g c:Nat}{cur:Array Value}{d:CH}(h:jF w own p (.slice (some ⟨g,0,none⟩) d.qa.length c) d)(ho:d.ok)(hb:qf w g 131 cur)(ht:cur.toList.take (d.qa.length*259)=vz d.qa)(i:Nat)(hi:i<d.qa.length) :
    jF (w.setCell ⟨g,i*259+258,none⟩ (.bool true)) own p (.slice (some ⟨g,0,none⟩) d.qa.length c) ⟨d.live,xj d.qa i⟩:=by
 have hgp:=h.vp g rfl;obtain⟨A',c',e,h1,h2,_⟩:=h.row;simp only[Value.slice.injEq,true_and]at e;obtain⟨rfl,rfl⟩:=e;have eX:(xj d.qa i).length=d.qa.length:=by unfold xj;rw[List.length_modify]
 refine⟨h.blk.of_block (qC _ _ _ _ _ hgp.symm),?_,h.op,h.om,fun j hj=>?_⟩
 ·refine⟨some ⟨g,0,none⟩,c,by rw[eX],by rw[eX];exact h1,h2,.inr ⟨g,_,rfl,hb.qo (i*259+258) (.bool true),?_⟩⟩;show(cur.setIfInBounds _ _).toList.take ((xj d.qa i).length*259)=vz (xj d.qa i);rw[eX,Array.toList_setIfInBounds,List.take_set,ht];exact qaB d.qa i hi (fun s hs=>yZ (ho.qa s hs) ho.n8)
 ·have:=h.low j hj;simpa[World.setCell]using this
theorem qaC{own:Nat→Prop}{w:World}{p:Nat}{d:CH}(h:mX own w p d)(g:Gd):Calls prog 40 #[.pointer (some ⟨p,0,none⟩),gv g] w fun e w'=>Aft mX own p (d.kY g) w e w'∧qy (fun j=>j=p) w w':=by
 have HIS:=QH h;have hb0:=(Below.refl w.heap.size w).alloc (Nat.le_refl _) (.cells #[.int .u64 (g.1:Int),.int .u64 (g.2:Int)] 55);obtain⟨h0,v,hr⟩:=h;have hr1:=hr.below hb0;have HF:=QH (jQ (⟨h0,v,hr1⟩:mX own _ p d) g);have q0:(w.alloc (.cells #[.int .u64 (g.1:Int),.int .u64 (g.2:Int)] 55)).cell? ⟨w.heap.size,0,none⟩=some (.int .u64 (g.1:Int)):=(qf.new w _ _).cell 0;have q1:(w.alloc (.cells #[.int .u64 (g.1:Int),.int .u64 (g.2:Int)] 55)).cell? ⟨w.heap.size,1,none⟩=some (.int .u64 (g.2:Int)):=(qf.new w _ _).cell 1;have xu:=QH hb0;have eC:=QH hr1;have yz:=QH h0;have HC:=QH (nb d g);obtain⟨R,hR⟩:=QE (aI d g);rw[hR]at HF HC;clear hb0 hr1 hr h0 hR;unfold gv at HF ⊢;go_enter func40,ntmps40;go_wp2_with fail;refine HF.out.mono ?_;rintro e W1 ⟨rfl,hb1⟩;have qR:=QH (xu.out.trans (hb1.mono xu.out.size));have jH:=QH (eC.out.below hb1);clear hb1 HF q0 q1 xu eC;rcases HC.out with⟨c,hc,rfl,wM,_⟩|⟨i,s,rfl,eE,hs,wM,_⟩
 ·have hcb:(c != 0)=true:=by simpa using hc
  have xE:=QH wM;clear hc wM HC jH yz;go_wp2_with fail;go_ret;rw[xE.out];exact vh HIS.out qR.out rfl
 ·have xE:=QH wM;have bF:=yz.out.few;have gK:=QH (lJ jH.out.row yz.out.qa yz.out.n8 (by omega) bF);have c2:=jH.out.c2 yz.out;have hii:(i:Int)<(d.qa.length:Int):=by omega
  have HIL:=QH eE;obtain⟨A,c,hv,_,_,_⟩:=xD jH.out.row yz.out.qa yz.out.n8;subst hv;clear hs wM HC eE;go_wp2_with fail;refine gK.out.mono ?_;rintro e W2 ⟨g2,c3,cur,rfl,hg2,hk2,ck,hlc,hcm,hb2⟩;have HRW:Hid (ve W2 (.slice (some ⟨g2,0,none⟩) d.qa.length c3) d.qa):=⟨_,c3,rfl,hlc,hcm,.inr ⟨g2,cur,rfl,hk2,ck⟩⟩;have HP3:=QH (jF.quy jH.out hb2 HRW.out yz.out (fun k hk=>by
   simp[Value.ownBlock]at hk;exact .inr (by omega)))
  have hgp:g2≠p:=HRW.out.ne (jH.out.blk.of_block (hb2.block p jH.out.blk.lt)) (by decide) g2 rfl;have hk3:qf (W2.setCell ⟨p,257,none⟩ (.slice (some ⟨g2,0,none⟩) d.qa.length c3)) g2 131 cur:=hk2.of_block (qC _ _ _ _ _ hgp);have HP4:=QH (jF.kY HP3.out yz.out hk3 ck i HIL.out);have qB:=QH (qR.out.trans (hb2.mono qR.out.size));have bO:=QH (((qy.of_below (S:=fun j=>j=p) qB.out).setCell ⟨p,257,none⟩ (.slice (some ⟨g2,0,none⟩) d.qa.length c3) (.inl rfl)).setCell ⟨g2,i*259+258,none⟩ (.bool true) (.inr (by have:=qR.out.size;show w.heap.size≤g2;omega)));have HGE:Hid (w.heap.size≤g2):=by have:=qR.out.size;unfold Hid;omega
  have f1:=(jH.out.blk.of_block (hb2.block p jH.out.blk.lt)).frozen 257;obtain⟨b1,q7k⟩:∃z,W2.cell? ⟨p,257,none⟩=some z:=⟨_,(hb2.cell (p:=⟨p,257,none⟩) jH.out.blk.lt).trans (jH.out.c2 yz.out)⟩;have f2:=hk3.frozen (i*259+258);have c4:(W2.setCell ⟨p,257,none⟩ (.slice (some ⟨g2,0,none⟩) d.qa.length c3)).cell? ⟨p,257,none⟩=some (.slice (some ⟨g2,0,none⟩) d.qa.length c3):=HP3.out.c2 yz.out;obtain⟨b2,zej⟩:∃z,(W2.setCell ⟨p,257,none⟩ (.slice (some ⟨g2,0,none⟩) d.qa.length c3)).cell? ⟨g2,i*259+258,none⟩=some z:=by
   have hs:=rH yz.out.qa yz.out.n8;rw[hk3.cell];have hlt:i*259+258<cur.size:=by
    have h1:=congrArg List.length ck;rw[List.length_take,hs]at h1;have h2:d.qa.length*259≤cur.toList.length:=by omega
    have h3:=HIL.out;have h4:cur.toList.length=cur.size:=by simp
    omega
   exact⟨cur[i*259+258],by simp[hlt]⟩
  clear hg2 hk2 ck hlc hcm hb2 hk3 HRW gK;go_wp2_with fail;go_ret;rw[xE.out];refine⟨⟨rfl,_,⟨qsf yz.out i,_,HP4.out⟩,bO.out.mono (fun j hj=>by rw[hj];exact jH.out.op),fun j hj=>?_⟩,bO.out⟩
  ·rcases hj with hj|hj
   ·exact .inl hj
   ·simp[Value.ownBlock]at hj;exact .inr (by rw[← hj];exact HGE.out)
theorem qhj{n:Nat}(l:List Bt)(g:Gd)(hl:qP n l)(h8:n≤8)(w:World) :
    (Instr.build 131 #[(0,.agg (vc l).toArray),(1,.agg #[.int .u64 (g.1:Int),.int .u64 (g.2:Int)])]).run prog w=.ok (.agg (sc ⟨g,l,false⟩).toArray) w:=by
 obtain⟨i0,hi,hz0,_,_⟩:=info_parts bw;have hz:(zeroValue 131).run prog w=.ok (.agg (sc z0).toArray) w:=by simp[zeroValue,typeInfo,hi,hz0]
 have hzl:(sc z0).length=259:=yZ (n:=0) ⟨rfl,fun v hv=>by simp[z0]at hv⟩ (by omega);have hzd:(sc z0).drop 256=[.int .u64 0,.int .u64 0,.bool false]:=by
  have h:=xg (n:=0) (l:=z0.bs) ⟨rfl,fun v hv=>by simp[z0]at hv⟩ (by omega);unfold sc;rw[List.drop_left' h];rfl
 have hvl:=xg hl h8;have s1:=gG (t:=84) uj w;have s2:=gG (t:=55) qpi w;have s3:=gG (t:=4) (n:=1) (by kernel_rfl) w;have hf:∀place:Nat→Option (Nat × Nat),place 0=some (0,256)→place 1=some (256,2)→Instr.fill place (sc z0).toArray [(0,.agg (vc l).toArray),(1,.agg #[.int .u64 (g.1:Int),.int .u64 (g.2:Int)])]=some (sc ⟨g,l,false⟩).toArray:=by
  intro place h0 h1;rw[lz _ _ 0 0 256 _ _ h0 (by simp[hvl]) (by simp[hzl])];have e1:((sc z0).toArray.toList.take 0++(vc l).toArray.toList++(sc z0).toArray.toList.drop (0+256))=vc l++[.int .u64 0,.int .u64 0,.bool false]:=by
   simp[hzd]
  rw[e1,lz _ _ 1 256 2 _ _ h1 rfl (by simp[hvl])];simp only[Instr.fill]
  congr 1
  apply Array.ext';show(vc l++[Value.int .u64 0,.int .u64 0,.bool false]).take 256++[Value.int .u64 (g.1:Int),.int .u64 (g.2:Int)]++(vc l++[Value.int .u64 0,.int .u64 0,.bool false]).drop 258=sc ⟨g,l,false⟩;rw[List.take_left' hvl,show 258=(vc l).length+2 by rw[hvl],List.drop_append];unfold sc;simp
 generalize (vc l).toArray=V at *;generalize (sc ⟨g,l,false⟩).toArray=R at *;generalize (sc z0).toArray=Z at *;clear hzd hzl hvl hi hz0;simp only[Instr.build,Sem.run_bind,hz,Result.andThen_ok,Value.cells,run_underlying underlying131]
 have hm:∀(K:Array (Nat × Nat)→World→Result Value),K #[(0,256),(256,2),(258,1)] w=.ok (.agg R) w→((Array.mapM
         (fun f:Field=>do
          let z ← sizeOf f.type
          pure (f.offset,z))
         #[{ name := "volume",type:=84,offset:=0,embedded:=true,tag := "",pkgPath := "stemma/chain",byteOffset:=0 },
          { name := "guid",type:=55,offset:=256,embedded:=false,tag := "",pkgPath := "stemma/chain",byteOffset:=256 },
          { name := "hidden",type:=4,offset:=258,embedded:=false,tag := "",pkgPath := "stemma/chain",byteOffset:=272 }]).run prog w).andThen K=.ok (.agg R) w:=by
  intro K hK;simp only[List.mapM_toArray,List.mapM_cons,List.mapM_nil,Sem.run_bind,s1,s2,s3,Result.andThen_ok,Sem.run_pure,Functor.map,Sem.run_map];exact hK
 refine hm _ ?_;rw[hf _ rfl rfl];rfl
theorem nc {ρ:Operand→Value}{o:Oper}{w:World}{n:Nat}(x y:Operand)(l:List Bt)(g:Gd)(y1 y2:Int)(h1:(g.1:Int)=y1)(h2:(g.2:Int)=y2)(ho:o.op=.build 131 #[(0,x),(1,y)])(hx:ρ x=.agg (vc l).toArray)(hy:ρ y=.agg #[.int .u64 y1,.int .u64 y2])(hl:qP n l)(h8:n≤8) :
    (execOp ρ o).run prog w=.ok (.value (.agg (sc ⟨g,l,false⟩).toArray)) w:=by
 subst h1;subst h2;have hb:=qhj l g hl h8 w;simp[execOp,ho,hx,hy,hb,Result.andThen]
def SpG (p:Nat)(V S:List Value)(y1 y2:Int):Nat→Value→World→Prop
 | 0,v,_=>v=.pointer (some ⟨p,0,none⟩)
 | 1,v,_=>v=.pointer (some ⟨p,0,none⟩)
 | 2,v,_=>v=.pointer (some ⟨p,0,none⟩)
 | 3,v,_=>v=.pointer (some ⟨p,1,none⟩)
 | 4,v,_=>v=.agg V.toArray
 | 5,v,_=>v=.agg #[.int .u64 y1,.int .u64 y2]
 | 6,v,_=>v=.agg S.toArray
 | _,_,_=>True
theorem qpo(p:Nat)(V S:List Value)(y1 y2:Int)(i:Nat)(v:Value)(w w':World)(hi:i<7)(h:SpG p V S y1 y2 i v w)(_:Below w.heap.size w w'):SpG p V S y1 y2 i v w':=by
 match i,hi,h with
 | 0,_,h | 1,_,h | 2,_,h | 3,_,h | 4,_,h | 5,_,h | 6,_,h=>exact h
theorem qaD{own:Nat→Prop}{w:World}{p:Nat}{d:CH}(h:mX own w p d)(g:Gd)(hg:zZ g):Calls prog 38 #[.pointer (some ⟨p,0,none⟩),gv g] w fun e w'=>Aft mX own p (d.snap g) w e w'∧qy (fun j=>j=p) w w':=by
 have hb0:=(Below.refl w.heap.size w).alloc (Nat.le_refl _) (.cells #[.int .u64 (g.1:Int),.int .u64 (g.2:Int)] 55);have HIS:=QH h;obtain⟨h0,v,hr⟩:=h;have hr1:=hr.below hb0;have xu:=QH hb0;have eC:=QH hr1;have yz:=QH h0;have HG:=QH hg;have HM:=QH (qi2 (⟨h0,v,hr1⟩:mX own _ p d) g);obtain⟨y1,hy1⟩:=QE (g.1:Int);obtain⟨y2,hy2⟩:=QE (g.2:Int);have nz:=QH hy1;have nA:=QH hy2;unfold gv at HM ⊢;rw[hy1,hy2]at HM xu eC ⊢;clear hb0 hg hy1 hy2 hr1 hr h0;have kg:Hid (d.snap g=if d.may g=0 then(⟨d.live,d.qa++[⟨g,d.live,false⟩]⟩,0)else(d,d.may g)):=rfl;have HMZ:=QH (fun h=>qdz (c:=d) (g:=g) h);obtain⟨m,hm⟩:=QE (d.may g);rw[hm]at HM kg HMZ;clear hm;obtain⟨W0,hW0⟩:=QE (w.alloc (.cells #[.int .u64 y1,.int .u64 y2] 55));rw[hW0]at HM eC xu;have q0:W0.cell? ⟨w.heap.size,0,none⟩=some (.int .u64 y1):=by rw[← hW0];exact(qf.new w _ _).cell 0
 have q1:W0.cell? ⟨w.heap.size,1,none⟩=some (.int .u64 y2):=by rw[← hW0];exact(qf.new w _ _).cell 1
 have sJ:Hid (w.heap.size<W0.heap.size):=by unfold Hid;rw[← hW0];simp
 have Q0:=QH q0;have Q1:=QH q1;go_enter func38,ntmps38;go_wp2_with fail;clear hW0;refine HM.out.mono ?_;rintro e W1 ⟨rfl,hb1⟩;have qR:=QH (xu.out.trans (hb1.mono xu.out.size));have jH:=QH (eC.out.below hb1);have R0:Hid (W1.cell? ⟨w.heap.size,0,none⟩=some (.int .u64 y1)):=(hb1.cell (p:=⟨w.heap.size,0,none⟩) sJ.out).trans Q0.out;have R1:Hid (W1.cell? ⟨w.heap.size,1,none⟩=some (.int .u64 y2)):=(hb1.cell (p:=⟨w.heap.size,1,none⟩) sJ.out).trans Q1.out;have aV:Hid (w.heap.size<W1.heap.size):=Nat.lt_of_lt_of_le sJ.out hb1.size;clear hb1 HM eC xu q0 q1 Q0 Q1 sJ;by_cases hz:m=0
 ·subst hz;have hsn:=kg.out;rw[if_pos rfl]at hsn;have HSD:=QH hsn;obtain⟨_,si⟩:=HMZ.out rfl;have qpp:=QH si;clear hsn kg HMZ si;have HVL:Hid ((vc d.live).length=256):=xg yz.out.live yz.out.n8;have HVC:Hid (∀j u,(vc d.live)[j]?=some u→(qF d.live.length d.live v).toArray[1+j]?=some u):=fun j u hu=>by simpa using qa2 (m:=d.live.length) (v:=v) j u hu
  go_wp2_with fail;refine qM (by kernel_rfl) 7 [12,13,14,15,16,17,18] (by kernel_rfl) (SpG p (vc d.live) (sc ⟨g,d.live,false⟩) y1 y2) (qpo _ _ _ _ _) ?_ ?_
  ·intro i o vs ρ W hi hop hρ hfn hb hG;have t0:ρ (.tmp 0)=.pointer (some ⟨p,0,none⟩):=hρ.out 0 rfl;have t3:ρ (.tmp 3)=.pointer (some ⟨w.heap.size,0,none⟩):=hρ.out 3 rfl;have s13:=hρ.at_ 13 1 rfl;have s14:=hρ.at_ 14 2 rfl;have s15:=hρ.at_ 15 3 rfl;have s16:=hρ.at_ 16 4 rfl;have s17:=hρ.at_ 17 5 rfl;have r0:W.cell? ⟨w.heap.size,0,none⟩=some (.int .u64 y1):=(hb.cell (p:=⟨w.heap.size,0,none⟩) aV.out).trans R0.out;have r1:W.cell? ⟨w.heap.size,1,none⟩=some (.int .u64 y2):=(hb.cell (p:=⟨w.heap.size,1,none⟩) aV.out).trans R1.out;rcases i with _|_|_|_|_|_|_|i;all_goals (first|omega|skip)
   all_goals simp only[QA,QB,QC,Option.some.injEq]at hop
   all_goals subst hop
   ·exact q9 (w':=W) (by unfold execOp;simp only[t0];go_simp) ⟨Below.refl _ _,rfl⟩
   ·exact q9 (w':=W) (by unfold execOp;simp only[t0];go_simp) ⟨Below.refl _ _,rfl⟩
   ·have g1:vs 1=_:=hG 1 (by kernel_rfl);exact q9 (w':=W) (by unfold execOp;simp only[s13,g1];go_simp) ⟨Below.refl _ _,rfl⟩
   ·have g2:vs 2=_:=hG 2 (by kernel_rfl);exact q9 (w':=W) (by unfold execOp;simp only[s14,g2];go_simp) ⟨Below.refl _ _,rfl⟩
   ·have g3:vs 3=_:=hG 3 (by kernel_rfl);exact q9 (w':=W) (qI 84 (.tmp 15) rfl p 1 (s15.trans g3) _ _ (vc d.live) _ _ (jH.out.below hb).blk underlying84 rfl (by rw[uj,HVL.out]) HVC.out) ⟨Below.refl _ _,rfl⟩
   ·exact q9 (w':=W) (by unfold execOp;simp only[t3];go_simp) ⟨Below.refl _ _,rfl⟩
   ·have g4:vs 4=_:=hG 4 (by kernel_rfl);have g5:vs 5=_:=hG 5 (by kernel_rfl);exact q9 (w':=W) (nc (.tmp 16) (.tmp 17) d.live g y1 y2 nz.out nA.out rfl (s16.trans g4) (s17.trans g5) yz.out.live yz.out.n8) ⟨Below.refl _ _,rfl⟩
  ·intro vs W hb hG;have g0:vs 0=_:=hG 0 (by decide);have g6:vs 6=_:=hG 6 (by decide);simp only[qW,qG,if_true];rw[g0,g6];generalize vs 1=z1;generalize vs 2=z2;generalize vs 3=z3;generalize vs 4=z4;generalize vs 5=z5;have B2:=QH (qR.out.trans (hb.mono qR.out.size));have jI:=QH (jH.out.below hb);clear hG g0 g6 hb;simp only[Act.put,List.setIfInBounds_toArray,List.set_cons_succ,List.set_cons_zero];have HPU:=QH (jk jI.out yz.out qpp.out ⟨g,d.live,false⟩ yz.out.live);obtain⟨S,hS⟩:=QE (sc ⟨g,d.live,false⟩);rw[hS]at HPU ⊢;clear hS;refine qJ (i:=7) (by kernel_rfl) rfl rfl ?_;go_simp;refine HPU.out.mono ?_;rintro e W3 ⟨rfl,v',jT,hp3,q1M,hgr⟩;have HP3:=QH hp3;have bO:=QH ((qy.of_below (S:=fun j=>j=p) B2.out).trans q1M (fun _ h=>.inl h));have HGR:Hid (∀j,jT j→own j∨w.heap.size≤j):=fun j hj=>by
    rcases hgr j hj with h|h
    ·exact .inl h
    ·have:=B2.out.size;exact .inr (by omega)
   clear hp3 q1M hgr HPU;go_simp;refine⟨by kernel_rfl,?_⟩;go_wp2_with fail;go_ret;rw[HSD.out];exact⟨⟨rfl,jT,⟨qe2 yz.out _ qpp.out yz.out.live HG.out,v',HP3.out⟩,bO.out.mono (fun j hj=>by rw[hj];exact jH.out.op),HGR.out⟩,bO.out⟩
 ·have hc:(m == 0)=false:=beq_false_of_ne hz;have hcn:(m != 0)=true:=by simpa using hz
  have hsn:=kg.out;rw[if_neg hz]at hsn;have HSD:=QH hsn;clear hsn kg HMZ jH;go_wp2_with fail;go_ret;rw[HSD.out];exact vh HIS.out qR.out rfl
theorem jF.qpq{w w':World}{own:Nat→Prop}{p:Nat}{v:Value}{d:CH}{l:List Bt}(h:jF w own p v d)(ho:d.ok)(hl:qP d.live.length l)
    (hw:w'=w.setRow p ((qF d.live.length d.live v).toArray.toList.take 1++vc l++(qF d.live.length d.live v).toArray.toList.drop (1+(vc l).length)).toArray):jF w' own p v ⟨l,d.qa⟩∧qy (fun j=>j=p) w w':=by
 have hb:=h.blk;have e:((qF d.live.length d.live v).toArray.toList.take 1++vc l++(qF d.live.length d.live v).toArray.toList.drop (1+(vc l).length)).toArray=(qF d.live.length l v).toArray:=by
  have:=qdZ (m:=d.live.length) (v:=v) ho.live hl ho.n8;rw[← this]
 rw[e]at hw;have hbu:=uW w p (qF d.live.length l v).toArray;have hk2:=uV (c:=(qF d.live.length l v).toArray) hb;rw[← hw]at hbu hk2;refine⟨⟨?_,h.row.of_block (fun j hj=>hbu.block j (h.row.lt j hj) (h.vp j hj)),h.op,h.om,fun j hj=>Nat.lt_of_lt_of_le (h.low j hj) hbu.size⟩,hbu⟩;show qf w' p _ (qF l.length l v).toArray;rw[hl.1];exact hk2
theorem qhk(d:CH)(m:Nat):(xH d.live.length (d.qa.take m)).bs=(⟨d.live,d.qa.take m⟩:CH).base:=qeb ⟨d.live,d.qa.take m⟩
theorem qaE{own:Nat→Prop}{w:World}{p:Nat}{d:CH}(k:Int)(h:mX own w p d):Calls prog 39 #[.pointer (some ⟨p,0,none⟩),.int .i64 k] w fun e w'=>Aft mX own p (d.roll k) w e w'∧qy (fun j=>j=p) w w':=by
 have HIS:=QH h;obtain⟨h0,v,hr⟩:=h;have c2:=hr.c2 h0;have bF:=h0.few;obtain⟨A,c,hv,hlc,hA,_⟩:=xD hr.row h0.qa h0.n8;subst hv;by_cases uJ:k<0∨(d.qa.length:Int)<k
 ·have HW:Hid (d.roll k=(d,2)):=by unfold Hid CH.roll;rw[if_pos uJ]
  rw[HW.out];have hcs:k<0∨(¬ k<0∧(d.qa.length:Int)<k):=by omega
  clear uJ HW hr h0;rcases hcs with hk|⟨hk,hk2⟩;all_goals
   go_enter func39,ntmps39;go_wp2_with fail;go_ret;exact vh HIS.out (Below.refl _ _) rfl
 ·have HW:Hid (d.roll k=(⟨(⟨d.live,d.qa.take k.toNat⟩:CH).base,d.qa.take k.toNat⟩,0)):=by unfold Hid CH.roll;rw[if_neg uJ]
  rw[HW.out];obtain⟨m,rfl⟩:∃m:Nat,k=(m:Int):=⟨k.toNat,by omega⟩;rw[Int.toNat_natCast];have hm:m≤d.qa.length:=by omega
  have hk3:¬ (m:Int)<0:=by omega
  have hk4:¬ (d.qa.length:Int)<(m:Int):=by omega
  have hk5:(m:Int)≤(c:Int):=by omega
  have ji:m≤c:=by omega
  have HTR:=QH (qa3 hr.row h0.qa h0.n8 hm m (Nat.le_refl _) ji);have HOT:=QH (qse h0 m);have f1:=hr.blk.frozen 257;have jH:Hid (jF (w.setCell ⟨p,257,none⟩ (.slice A m m)) own p (.slice A m m) ⟨d.live,d.qa.take m⟩):=by
   have hob:∀j,(Value.slice A m m).ownBlock=some j→(Value.slice A d.qa.length c).ownBlock=some j:=fun j hj=>by
    cases A with
    | none=>cases hj
    | some a=>exact hj
   refine⟨?_,HTR.out.of_block (fun j hj=>qC _ _ _ _ _ (hr.vp j (hob j hj))),hr.op,fun j hj=>hr.om j (hob j hj),fun j hj=>?_⟩
   ·have:=hr.blk.qo 257 (.slice A m m);rw[mW h0.live h0.n8]at this;exact this
   ·have:=hr.low j hj;simpa[World.setCell]using this
  have qpr:Hid (qy (fun j=>j=p) w (w.setCell ⟨p,257,none⟩ (.slice A m m))):=(qy.refl _ w).setCell ⟨p,257,none⟩ (.slice A m m) (.inl rfl);have nJ:Hid ((d.qa.take m).length≤20):=by unfold Hid;rw[List.length_take];omega
  have HLA:=QH (ie jH.out.row HOT.out.qa HOT.out.n8 nJ.out);have hlo:=aF (n:=d.live.length) HOT.out.qa;have sO:=lY (xH d.live.length (d.qa.take m)) hlo h0.n8;rw[qhk d m]at sO hlo;obtain⟨S,hS⟩:=QE (sc (xH d.live.length (d.qa.take m)));rw[hS]at sO;have q7n:Hid (Calls prog 69 #[.slice A m m] (w.setCell ⟨p,257,none⟩ (.slice A m m)) fun e w'=>e=.returned (.agg S.toArray)∧Below (w.setCell ⟨p,257,none⟩ (.slice A m m)).heap.size (w.setCell ⟨p,257,none⟩ (.slice A m m)) w'):=by
   have:=HLA.out;rw[show sc (xH (⟨d.live,d.qa.take m⟩:CH).live.length (⟨d.live,d.qa.take m⟩:CH).qa)=S from hS]at this;exact this
  obtain⟨L,hL⟩:=QE ((⟨d.live,d.qa.take m⟩:CH).base);rw[hL]at sO hlo ⊢;have bT:Hid (qP d.live.length L):=hlo;have HVL:Hid ((vc L).length=256):=xg bT.out h0.n8;have yz:=QH h0;have HOP:=QH hr.op;clear uJ HW hr h0 hlo hS hL HTR HLA nJ hA hm;go_enter func39,ntmps39;go_wp2_with fail;refine q7n.out.mono ?_;rintro e W1 ⟨rfl,hb1⟩;have qR:=QH hb1;have jI:=QH (jH.out.below hb1);clear hb1;have gK:Hid ((qF (⟨d.live,d.qa.take m⟩:CH).live.length (⟨d.live,d.qa.take m⟩:CH).live (.slice A m m)).length=258):=ku HOT.out.live HOT.out.n8;go_wp2_with (refine wpList_skip rfl (jl W1 84 (.tmp 38) (.tmp 36) rfl p 1 rfl (vc L) rfl _ _ jI.out.blk (by rw[uj,HVL.out]) (by rw[List.size_toArray,gK.out,HVL.out];decide) (rG L)) ?_);go_ret;obtain⟨hp2,q7o⟩:=jF.qpq jI.out HOT.out bT.out rfl;have bL:=(qpr.out.trans (S':=fun _=>False) (qy.of_below qR.out) (fun _ h=>h.elim)).trans q7o (fun _ h=>.inl h);exact⟨⟨rfl,own,⟨qip HOT.out bT.out,_,hp2⟩,bL.mono (fun j hj=>by rw[hj];exact HOP.out),fun j hj=>.inl hj⟩,bL⟩
end Go.Proofs.YtdagdllomphidaaGreatDoor.ch.pg

/- VgRol, VgTb6, VgStp, VgStA, VgCgs, PgMay, PgPut, PgFind, PgApi, PgHide, PgSnap, PgRoll. -/
import Derived.Test.YtdagdllomphidaaGreatDoorZC9
set_option linter.unusedVariables false
set_option linter.unusedSimpArgs false
set_option maxHeartbeats 30000000
set_option maxRecDepth 100000
namespace Go.Proofs.YtdagdllomphidaaGreatDoor.vt.pg
open _root_.Go.Proofs.Tryz Go Go.RowKit Go.Sort ib mt im sp
def r1M (m:Mt)(k:Nat):Mt:={ m with qa:=m.qa.take k }
def r2M (m:Mt)(k:Nat):Mt:={ r1M m k with live:=ky m k }
def r3M (m:Mt)(k:Nat):Mt:={ r2M m k with tok:=zI }
theorem qj6{m:Mt}{k:Nat}(h:k≤m.qa.length):ju m (k:Int)=⟨0,r3M m k,[]⟩:=by
 unfold ju;rw[if_neg (by omega)];rfl
theorem qn9{m:Mt}{n:Int}(h:n<0∨(m.qa.length:Int)<n):ju m n=⟨2,m,[]⟩:=by
 unfold ju;rw[if_pos h]
def qqZ (G:Nat→Prop)(p:Nat)(T:Array Value)(m:Mt)(k:Nat):Nat→Value→World→Prop:=fun i v w=>match i with
 | 1 | 7=>v=.int .i64 (k:Int)
 | 2=>gS G v w m (r1M m k)
 | 6=>v=.agg T
 | 8=>∃A c,v=.slice A (ky m k).length c∧dQ G w A (ky m k) c
 | 9=>gS G v w (r1M m k) (r2M m k)
 | 10=>v=.agg (cB zI none 0 0)
 | 11=>gS G v w (r2M m k) (r3M m k)
 | 12=>∃B f1 f2 f3,v=.slice (some ⟨B,0,none⟩) 3 3∧qf w B 115 #[f1,f2,f3]∧gS G f1 w m (r1M m k)∧gS G f2 w (r1M m k) (r2M m k)∧gS G f3 w (r2M m k) (r3M m k)
 | _=>v=pt p
theorem qj7(G:Nat→Prop)(p:Nat)(T:Array Value)(m:Mt)(k:Nat):∀i v w w',i<13→qqZ G p T m k i v w→Below w.heap.size w w'→qqZ G p T m k i v w':=by
 intro i v w w' hi h hb;rcases i with _|_|_|_|_|_|_|_|_|_|_|_|_|i;all_goals (first|omega|skip)
 all_goals unfold qqZ at h ⊢
 all_goals try dsimp only at h ⊢
 all_goals first
  | exact h
  | exact h.below hb
  | (obtain⟨A,c,h1,h2⟩:=h
     exact⟨A,c,h1,h2.stay (uD.of_below hb)⟩)
  | (obtain⟨B,f1,f2,f3,h1,h2,h3,h4,h5⟩:=h
     exact⟨B,f1,f2,f3,h1,h2.below hb,h3.below hb,h4.below hb,h5.below hb⟩)
theorem qnA{o1 o2:Nat→Prop}{w:World}{v pd N b:Nat}{d:DD}{m:Mt}{t:Tg}(n:Int)(h:VP jB w o1 o2 v pd d m false)(hJ:jr.JJ N t d)(hf:0≤d.qp)(hR:qT b N t m)(hn:ib.yS n) :
    Calls prog 34 #[pt v,.int .i64 n] w (kK jB o1 o2 v pd (yn N t d m (ju m n)) w):=by
 have HV:=QH h;have HJ:=QH hJ;have HR:=QH hR;have HFU:=QH hf;have xz:=QH (jI h hJ.on);have mX:=QH (iB hR n);obtain⟨A0,A1,A2,c0,c1,c2,hA⟩:=h.is;have HA:=QH hA;obtain⟨aL,k0,k1,k2,k3,k4,k5,k6,k7,k8,k9,bQ⟩:=hA.cells;by_cases hbd:n<0∨(m.qa.length:Int)<n
 ·have HPN:=QH (qn9 hbd);obtain⟨PN,iW⟩:=QE (ju m n);rw[iW]at HPN ⊢;clear h hJ hR hf hA iW mX;by_cases h0:n<0
  ·clear hbd;go_enter func34,ntmps34;go_wp2_with fail;refine xz.out.mono ?_;rintro e W0 ⟨rfl,rfl⟩;clear xz;go_wp2_with fail;go_ret;rw[HPN.out];exact jK HV.out (Below.refl _ _) (kC (by decide))
  ·have h1:(m.qa.length:Int)<n:=by omega
   clear hbd;go_enter func34,ntmps34;go_wp2_with fail;refine xz.out.mono ?_;rintro e W0 ⟨rfl,rfl⟩;clear xz;go_wp2_with fail;go_ret;rw[HPN.out];exact jK HV.out (Below.refl _ _) (kC (by decide))
 ·obtain⟨k,rfl⟩:∃k:Nat,n=(k:Int):=⟨n.toNat,by omega⟩;have hkl:k≤m.qa.length:=by omega
  have h0:¬ (k:Int)<0:=by omega
  have h1:¬ (m.qa.length:Int)<(k:Int):=by omega
  have dv:=qj6 hkl;obtain⟨PN,iW⟩:=QE (ju m (k:Int));rw[iW]at dv mX ⊢;have gy:Hid (PN.code=0∧PN.m=r3M m k∧PN.ws=[]):=by unfold Hid;rw[dv];exact⟨rfl,rfl,rfl⟩
  have HDK:Hid (yt b N PN.m∧gV N m PN.ws):=⟨(mX.out.2.1 gy.out.1).ok,(mX.out.2.1 gy.out.1).ws⟩;have HKL:=QH hkl;have HBL:Hid ((ky m k).length≤1000):=by
   have h7:=HDK.out.1;rw[gy.out.2.1]at h7;have h8:=h7.len;have h9:=h7.b8;show(r3M m k).live.length≤1000;omega
  clear h hJ hR hf hA iW mX dv hbd hkl;go_enter func34,ntmps34;go_wp2_with fail;refine xz.out.mono ?_;rintro e W0 ⟨rfl,rfl⟩;clear xz;go_wp2_with fail;refine qM (by kernel_rfl) 13 [23,24,25,26,27,28,29,30,31,32,33,34,35] (by kernel_rfl) (qqZ (fun j=>(o1 j∧j≠v)∨w.heap.size≤j) v (zj A0 A1 A2 c0 c1 c2 m) m k) (qj7 _ _ _ _ _) ?_ ?_
  ·intro i o vs ρ W hi hop hρ hfn hb hG;have t0:ρ (.tmp 0)=pt v:=hρ.out 0 rfl;have t1:ρ (.tmp 1)=.int .i64 (k:Int):=hρ.out 1 rfl;have s24:=hρ.at_ 24 1 rfl;have s25:=hρ.at_ 25 2 rfl;have s26:=hρ.at_ 26 3 rfl;have s27:=hρ.at_ 27 4 rfl;have s28:=hρ.at_ 28 5 rfl;have s29:=hρ.at_ 29 6 rfl;have s30:=hρ.at_ 30 7 rfl;have s31:=hρ.at_ 31 8 rfl;have s32:=hρ.at_ 32 9 rfl;have s33:=hρ.at_ 33 10 rfl;have s34:=hρ.at_ 34 11 rfl;have lZ:=HA.out.below hb;obtain⟨aL,k0,k1,k2,k3,k4,k5,k6,k7,k8,k9,bQ⟩:=lZ.cells;have hsz:w.heap.size≤W.heap.size:=hb.size;rcases i with _|_|_|_|_|_|_|_|_|_|_|_|_|i;all_goals (first|omega|skip)
   all_goals simp only[QA,QB,QC,Option.some.injEq]at hop
   all_goals subst hop
   ·exact q9 (w':=W) (by unfold execOp;simp only[t0];go_simp) ⟨Below.refl _ _,rfl⟩
   ·exact q9 (w':=W) (by unfold execOp;simp only[t1];go_simp) ⟨Below.refl _ _,rfl⟩
   ·have g1:vs 1=_:=hG 1 (by kernel_rfl);refine qi (f:=80) (args:=#[.int .i64 (k:Int)]) (w':=W) (by unfold execOp;simp only[hfn,s24,g1];go_simp) ((qiB (G:=fun j=>(o1 j∧j≠v)∨w.heap.size≤j) k).mono ?_);rintro e W' ⟨f,rfl,iX,hb5⟩;exact⟨f,rfl,hb5,gS.of (iX m (r1M m k) ⟨HKL.out,rfl⟩)⟩
   ·exact q9 (w':=W) (by unfold execOp;simp only[t0];go_simp) ⟨Below.refl _ _,rfl⟩
   ·have g3:vs 3=_:=hG 3 (by kernel_rfl);exact q9 (w':=W) (by unfold execOp;simp only[s26,g3];go_simp) ⟨Below.refl _ _,rfl⟩
   ·have g4:vs 4=_:=hG 4 (by kernel_rfl);exact q9 (w':=W) (by unfold execOp;simp only[s27,g4];go_simp) ⟨Below.refl _ _,rfl⟩
   ·have g5:vs 5=_:=hG 5 (by kernel_rfl);exact q9 (w':=W) (by unfold zj execOp;simp only[s28,g5];go_simp) ⟨Below.refl _ _,rfl⟩
   ·exact q9 (w':=W) (by unfold execOp;simp only[t1];go_simp) ⟨Below.refl _ _,rfl⟩
   ·have g6:vs 6=_:=hG 6 (by kernel_rfl);have g7:vs 7=_:=hG 7 (by kernel_rfl);refine qi (f:=79) (args:=#[.agg (zj A0 A1 A2 c0 c1 c2 m),.int .i64 (k:Int)]) (w':=W) (by unfold execOp;simp only[hfn,s29,g6,s30,g7];go_simp) ((oP (G:=fun j=>(o1 j∧j≠v)∨w.heap.size≤j) (lZ.tab.qa.mono (fun j hj=>.inl hj)) lZ.sz (fun j hj=>.inr (Nat.le_trans hsz hj)) k HKL.out).mono ?_);rintro e W' ⟨A,c,rfl,wu,hb5⟩;exact⟨_,rfl,hb5,A,c,rfl,wu⟩
   ·obtain⟨A,c,g8,wu⟩:=hG 8 (by kernel_rfl);refine qi (f:=57) (args:=#[.slice A (ky m k).length c]) (w':=W) (by unfold execOp;simp only[hfn,s31,g8];go_simp) ((iF (G:=fun j=>(o1 j∧j≠v)∨w.heap.size≤j) wu HBL.out (fun j hj=>.inr (Nat.le_trans hsz hj))).mono ?_);rintro e W' ⟨f,rfl,iX,hb5⟩;exact⟨f,rfl,hb5,gS.of (iX (r1M m k) _ rfl)⟩
   ·exact q9 (w':=W) (by unfold cB zI execOp;go_simp) ⟨Below.refl _ _,rfl⟩
   ·have g10:vs 10=_:=hG 10 (by kernel_rfl);refine qi (f:=60) (args:=#[.agg (cB zI none 0 0)]) (w':=W) (by unfold execOp;simp only[hfn,s33,g10];go_simp) ((uN (G:=fun j=>(o1 j∧j≠v)∨w.heap.size≤j) (t:=zI) (yE.none W) (by decide) qdm (fun j hj=>.inr (Nat.le_trans hsz hj))).mono ?_);rintro e W' ⟨f,rfl,iX,hb5⟩;exact⟨f,rfl,hb5,gS.of (iX (r2M m k) _ rfl)⟩
   ·have g2:=hG 2 (by kernel_rfl);have g9:=hG 9 (by kernel_rfl);have g11:=hG 11 (by kernel_rfl);obtain⟨⟨ka,ca,ea⟩,ga⟩:=g2;obtain⟨⟨kb,cb,eb⟩,gb⟩:=g9;obtain⟨⟨kc,cc,ec⟩,gc⟩:=g11;have hb1:=(Below.refl _ W).alloc (Nat.le_refl _) (.cells #[.func (.func ka) #[] ca,.func (.func kb) #[] cb,.func (.func kc) #[] cc] 115);rw[ea]at ga;rw[eb]at gb;rw[ec]at gc;exact q9 (v:=.slice (some ⟨W.heap.size,0,none⟩) 3 3) (w':=W.alloc (.cells #[.func (.func ka) #[] ca,.func (.func kb) #[] cb,.func (.func kc) #[] cc] 115)) (by unfold execOp;simp only[s25,ea,s32,eb,s34,ec];go_simp) ⟨hb1,_,_,_,_,rfl,qf.new _ _ _,(gS.of ga).below hb1,(gS.of gb).below hb1,(gS.of gc).below hb1⟩
  ·intro vs W hb hG;have g0:vs 0=_:=hG 0 (by decide);obtain⟨B,f1,f2,f3,g12,uO,he1,su,he3⟩:=hG 12 (by decide);have bZ:=QH (wV HV.out hb HJ.out HFU.out HR.out gy.out.1 HDK.out (M:=fun i=>if i=0 then m else if i=1 then r1M m k else if i=2 then r2M m k else r3M m k) (n:=3) (c:=3) rfl (gy.out.2.1.symm) (pU uO he1.2 su.2 he3.2) (by omega) (cb:=0) (fy W) (by simp) (gy.out.2.2.symm));simp only[qW,qK,if_true];rw[g0,g12];generalize vs 1=z1;generalize vs 2=z2;generalize vs 3=z3;generalize vs 4=z4;generalize vs 5=z5;generalize vs 6=z6;generalize vs 7=z7;generalize vs 8=z8;generalize vs 9=z9;generalize vs 10=z10;generalize vs 11=z11;clear hG g0 g12 hb uO he1 su he3;simp only[Act.put,List.setIfInBounds_toArray,List.set_cons_succ,List.set_cons_zero];refine qI (i:=13) (by kernel_rfl) rfl rfl ?_;go_simp;refine bZ.out.mono ?_;rintro e W7 ⟨r,d',m',lost,aF,gO,rfl,hh⟩;have HH:=QH hh;clear hh bZ;go_simp;refine qI (i:=14) (by kernel_rfl) rfl rfl ?_;go_simp;refine⟨by kernel_rfl,?_⟩;go_wp2_with fail;go_ret;exact⟨r,d',m',lost,aF,gO,rfl,HH.out⟩
section
variable {b n:Nat} {last:Gd} {f:Tf} {x:List (Int × Bt)}
theorem qnB(h:f.base≠last):zM b n last f x=2:=by unfold zM;rw[if_pos (.inl h)]
theorem qj8(h:above f.target last=false):zM b n last f x=2:=by unfold zM;rw[if_pos (.inr (.inl h))]
theorem qnC(h:f.next<0):zM b n last f x=2:=by unfold zM;rw[if_pos (.inr (.inr (.inr (.inr (.inl h)))))]
theorem qnD(h:f.all<f.next):zM b n last f x=2:=by unfold zM;rw[if_pos (.inr (.inr (.inr (.inr (.inr (.inl h))))))]
theorem qra(h:(b:Int)<f.all):zM b n last f x=2:=by unfold zM;rw[if_pos (.inr (.inr (.inr (.inl h))))]
theorem qnE(h:¬ (f.next=0↔f.all=0)):zM b n last f x=2:=by unfold zM;rw[if_pos (.inr (.inr (.inr (.inr (.inr (.inr h))))))]
theorem qrb(h:zL b (-1) x=false):zM b n last f x=2:=by unfold zM;rw[if_pos h];split <;> rfl
theorem qnF(h1:f.base=last)(h2:above f.target last=true)(h3:¬ f.next<0)(h4:¬ f.all<f.next)(h5:¬ (b:Int)<f.all)(h6:f.next=0↔f.all=0)(h7:zL b (-1) x=true):zM b n last f x=if f.next=f.all then(if above f.target last=false then 2 else if 20≤n then 3 else 0)else 0:=by
 unfold zM;have h2':¬ above f.target last=false:=by rw[h2];simp
 rw[if_neg,if_neg (by rw[h7];simp),if_neg h2']
 ·by_cases e:f.next=f.all
  ·rw[if_pos e];by_cases e2:20≤n
   ·rw[if_pos ⟨e,e2⟩,if_pos e2]
   ·rw[if_neg (fun h=>e2 h.2),if_neg e2]
  ·rw[if_neg (fun h=>e h.1),if_neg e]
 ·rintro(h|h|h|h|h|h|h)
  ·exact h h1
  ·exact h2' h
  ·omega
  ·exact h5 h
  ·exact h3 h
  ·exact h4 h
  ·exact h h6
end
theorem qbp{w:World}{A0 A1 A2:Option Addr}{c0 c1 c2:Nat}{m:Mt}(hS:jF w A1 m.qa)(hsz:mtS m)(f:Tf)(A:Option Addr)(n c:Nat)(B:Option Addr)(cx:Nat)(x:List (Int × Bt))(hx:ch.aD w B x)(aw:x.length≤1000) :
    Calls prog 64 #[.agg (zj A0 A1 A2 c0 c1 c2 m),.agg (bY f A n c),.slice B x.length cx] w (qh2 (zM m.live.length m.qa.length (qB m) f x) w):=by
 obtain⟨W1,hW1,zJ,hb1⟩:=xQ w (zj A0 A1 A2 c0 c1 c2 m);have hb2:=(Below.refl _ W1).alloc (Nat.le_refl _) (.cells (bY f A n c) 59);have hr2:=qf.new W1 59 (bY f A n c);obtain⟨W,hW2⟩:=QE (W1.alloc (.cells (bY f A n c) 59));rw[hW2]at hb2 hr2;have qy:=QH (qc hb1 hb2);have hk2:=zJ.below hb2;have jR:=QH hk2;have jA:=QH hr2;have HS:=QH (hS.below qy.out);have HX:=QH (hx.below qy.out);have aY:=hsz.qa;have h8:=hsz.live;have q0:=hk2.cell 0;have q1:=hk2.cell 1;have q2:=hk2.cell 2;have q3:=hk2.cell 3;have q4:=hk2.cell 4;have q5:=hk2.cell 5;have q6:=hk2.cell 6;have q7:=hk2.cell 7;have q8:=hk2.cell 8;have qlt:=hk2.lt;simp only[zj,bY,QA,QB,QC]at q0 q1 q2 q3 q4 q5 q6 q7 q8;have r0:=hr2.cell 0;have r1:=hr2.cell 1;have r2:=hr2.cell 2;have r3:=hr2.cell 3;have r4:=hr2.cell 4;have r5:=hr2.cell 5;have r6:=hr2.cell 6;have rlt:=hr2.lt;simp only[zj,bY,QA,QB,QC]at r0 r1 r2 r3 r4 r5 r6;have e0:=fun d os=>cell_regrown q0 d os;have e1:=fun d os=>cell_regrown q1 d os;have e2:=fun d os=>cell_regrown q2 d os;have e3:=fun d os=>cell_regrown q3 d os;have e4:=fun d os=>cell_regrown q4 d os;have e5:=fun d os=>cell_regrown q5 d os;have e6:=fun d os=>cell_regrown q6 d os;have e7:=fun d os=>cell_regrown q7 d os;have e8:=fun d os=>cell_regrown q8 d os;have p0:=fun d os=>cell_regrown r0 d os;have p1:=fun d os=>cell_regrown r1 d os;have cL:∀b os,Calls prog 112 #[.agg (zj A0 A1 A2 c0 c1 c2 m)] (grow (redrawn W b) os) fun e w''=>e=.returned (gv (qB m))∧∃q:Regrown,w''=grow (redrawn W q.d) q.os :=
  fun b os=>Calls.regrown_of (tq (HS.out.below (below_regrown W b os)) aY)
 have EB:=QH (fun h=>qnB (b:=m.live.length) (n:=m.qa.length) (last:=qB m) (f:=f) (x:=x) h);have EA:=QH (fun h=>qj8 (b:=m.live.length) (n:=m.qa.length) (last:=qB m) (f:=f) (x:=x) h);have EN:=QH (fun h=>qnC (b:=m.live.length) (n:=m.qa.length) (last:=qB m) (f:=f) (x:=x) h);have EO:=QH (fun h=>qnD (b:=m.live.length) (n:=m.qa.length) (last:=qB m) (f:=f) (x:=x) h);have EL:=QH (fun h=>qra (b:=m.live.length) (n:=m.qa.length) (last:=qB m) (f:=f) (x:=x) h);have EZ:=QH (fun h=>qnE (b:=m.live.length) (n:=m.qa.length) (last:=qB m) (f:=f) (x:=x) h);have EC:=QH (fun h=>qrb (b:=m.live.length) (n:=m.qa.length) (last:=qB m) (f:=f) (x:=x) h);have EG:=QH (fun h1 h2 h3 h4 h5 h6 h7=>qnF (b:=m.live.length) (n:=m.qa.length) (last:=qB m) (f:=f) (x:=x) h1 h2 h3 h4 h5 h6 h7);have iR:Hid (∀W',Calls prog 113 #[gv f.target,gv f.base] W' (dh (above f.target f.base) W')):=fun W'=>oM f.target f.base W';have gW:Hid (∀W',ch.aD W' B x→Calls prog 54 #[.agg (zj A0 A1 A2 c0 c1 c2 m),.slice B x.length cx] W' (dh (zL m.live.length (-1) x) W')):=fun W' h=>wm h8 h aw;have HCM:Hid (∀W',jF W' A1 m.qa→Calls prog 76 #[.agg (zj A0 A1 A2 c0 c1 c2 m),gv f.target] W' (qh2 (if above f.target (qB m)=false then 2 else if 20≤m.qa.length then 3 else 0) W')):=fun W' h=>pO h aY f.target;obtain⟨Z,hZ⟩:=QE (if above f.target (qB m)=false then(2:Int)else if 20≤m.qa.length then 3 else 0);rw[hZ]at HCM EG;clear hZ;obtain⟨R,hR⟩:=QE (zM m.live.length m.qa.length (qB m) f x);obtain⟨q,hq⟩:=QE (zL m.live.length (-1) x);rw[hR]at EB EA EN EO EL EZ EC EG ⊢;rw[hq]at gW EC EG;clear hR hq;obtain⟨⟨ba,bb⟩,⟨ta,tb⟩,nx,al⟩:=f;obtain⟨L,hL⟩:=QE (qB m);rw[hL]at cL EB EA EG;obtain⟨la,lb⟩:=L;clear hS zJ hb1 hb2 hr2 hk2 hL hx;dsimp only[bY,gv]at *;unfold zj at *;go_enter func64,ntmps64;go_upto_region 1 with fail;try rw[hW1]
 try rw[hW2]
 clear hW1 hW2;have qvy:((ba:Int)=la∧(bb:Int)=lb∧(ba,bb)=(la,lb))∨((¬ (ba:Int)=la∨((ba:Int)=la∧¬ (bb:Int)=lb))∧R=2):=by
  by_cases e1:ba=la
  ·by_cases e2:bb=lb
   ·exact .inl ⟨by rw[e1],by rw[e2],by rw[e1,e2]⟩
   ·exact .inr ⟨.inr ⟨by rw[e1],by omega⟩,EB.out (fun h=>e2 (Prod.mk.inj h).2)⟩
  ·exact .inr ⟨.inl (by omega),EB.out (fun h=>e1 (Prod.mk.inj h).1)⟩
 have FIN:Hid (∀dq osq,Below w.heap.size w (grow (redrawn W dq) osq)):=fun dq osq=>qc qy.out (below_regrown W dq osq);rcases qvy with⟨hba,hbb,hbe⟩|⟨hno,hr⟩
 case' inr =>
  have HR:=QH hr;clear hr;rcases hno with hn1|⟨hn1,hn2⟩;all_goals
   refine wp_region_quiet_below vF (by kernel_rfl) ?_;repeat (any_goals (first|go_big_quiet_step (first|exact cL _ _)|quiet_step (first|exact cL _ _)))
   refine wpQuiet_nil ?_;intro _ hw';obtain⟨⟨dq,osq⟩,hw''⟩:=hw';subst hw'';have qV:=QH (FIN.out dq osq);clear cL e0 e1 e2 e3 e4 e5 e6 e7 e8 p0 p1;go_wp2_with fail;go_ret;exact⟨by rw[HR.out];rfl,qV.out⟩
 have gp:=QH hbe;clear hbe;refine wp_region_quiet_below vF (by kernel_rfl) ?_;repeat (any_goals (first|go_big_quiet_step (first|exact cL _ _)|quiet_step (first|exact cL _ _)))
 refine wpQuiet_nil ?_;intro _ hw';obtain⟨⟨dq,osq⟩,hw''⟩:=hw';subst hw'';have hbg:=below_regrown W dq osq;have qV:=QH (FIN.out dq osq);have ie:=QH (jR.out.below hbg);have cq:=QH (jA.out.below hbg);have HS3:=QH (HS.out.below hbg);have HX3:=QH (HX.out.below hbg);clear hbg cL e0 e1 e2 e3 e4 e5 e6 e7 e8 p0 p1 qlt rlt q0 q1 q2 q3 q4 q5 q6 q7 q8 r0 r1 r2 r3 r4 r5 r6 hba hbb qy jR jA HS HX FIN;generalize grow (redrawn W dq) osq=W3 at *;have hr3:=cq.out;have r0:=hr3.cell 0;have r1:=hr3.cell 1;have r2:=hr3.cell 2;have r3:=hr3.cell 3;have r4:=hr3.cell 4;have r5:=hr3.cell 5;have r6:=hr3.cell 6;have rlt:=hr3.lt;simp only[Nat.zero_add,QA,QB,QC]at r0 r1 r2 r3 r4 r5 r6;clear hr3;go_wp2_with fail;refine(iR.out _).mono ?_;rintro e W4 ⟨rfl,hb4⟩;have zO:=QH (qc qV.out hb4);have lx:=QH (ie.out.below hb4);have HR4:=QH (cq.out.below hb4);have HS4:=QH (HS3.out.below hb4);have HX4:=QH (HX3.out.below hb4);clear hb4 iR qV ie cq HS3 HX3 rlt r0 r1 r2 r3 r4 r5 r6;have hbe:=gp.out;obtain⟨ab,hab⟩:=QE (above (ta,tb) (ba,bb));have HAB:Hid (above (ta,tb) (la,lb)=ab):=by unfold Hid;rw[← hbe];exact hab
 rw[hab];clear hab hbe;have hr4:=HR4.out;have hk4:=lx.out;have r0:=hr4.cell 0;have r1:=hr4.cell 1;have r2:=hr4.cell 2;have r3:=hr4.cell 3;have r4:=hr4.cell 4;have r5:=hr4.cell 5;have r6:=hr4.cell 6;have rlt:=hr4.lt;simp only[Nat.zero_add,QA,QB,QC]at r0 r1 r2 r3 r4 r5 r6;have q0:=hk4.cell 0;have q1:=hk4.cell 1;have q2:=hk4.cell 2;have q3:=hk4.cell 3;have q4:=hk4.cell 4;have q5:=hk4.cell 5;have q6:=hk4.cell 6;have q7:=hk4.cell 7;have q8:=hk4.cell 8;have qlt:=hk4.lt;simp only[Nat.zero_add,QA,QB,QC]at q0 q1 q2 q3 q4 q5 q6 q7 q8;clear hr4 hk4;cases ab
 case' false =>
  have HR:=QH (EA.out HAB.out);go_wp2_with fail;go_ret;exact⟨by rw[HR.out];rfl,zO.out⟩
 by_cases h3:nx<0
 case' pos =>
  have HR:=QH (EN.out h3);go_wp2_with fail;go_ret;exact⟨by rw[HR.out];rfl,zO.out⟩
 by_cases h4:al<nx
 case' pos =>
  have HR:=QH (EO.out h4);go_wp2_with fail;go_ret;exact⟨by rw[HR.out];rfl,zO.out⟩
 by_cases h5:(m.live.length:Int)<al
 case' pos =>
  have HR:=QH (EL.out h5);go_wp2_with fail;go_ret;exact⟨by rw[HR.out];rfl,zO.out⟩
 obtain⟨z1,hz1⟩:=QE (nx == 0);obtain⟨z2,hz2⟩:=QE (al == 0);have HZ:Hid ((nx=0↔al=0)↔z1=z2):=by
  unfold Hid;rw[← hz1,← hz2,Bool.eq_iff_iff];simp
 have HZ0:Hid (¬ (z1=z2)→R=2):=fun h=>EZ.out (fun e=>h (HZ.out.1 e));have HG:Hid (z1=z2→q=true→R=if nx=al then Z else 0):=fun h h7=>EG.out gp.out HAB.out (by omega) (by omega) (by omega) (HZ.out.2 h) h7;clear HZ;cases z1 <;> cases z2
 case' false.true =>
  have HR:=QH (HZ0.out (by decide));go_wp2_with fail;go_ret;exact⟨by rw[HR.out];rfl,zO.out⟩
 case' true.false =>
  have HR:=QH (HZ0.out (by decide));go_wp2_with fail;go_ret;exact⟨by rw[HR.out];rfl,zO.out⟩
 all_goals
  have HG2:=QH (HG.out rfl);clear HG HZ0;go_wp2_with fail;refine(gW.out _ HX4.out).mono ?_;rintro e W5 ⟨rfl,hb5⟩;have jx:=QH (qc zO.out hb5);have hr5:=HR4.out.below hb5;have hk5:=lx.out.below hb5;have HS5:=QH (HS4.out.below hb5);clear hb5 r0 r1 r2 r3 r4 r5 r6 rlt q0 q1 q2 q3 q4 q5 q6 q7 q8 qlt;have r0:=hr5.cell 0;have r1:=hr5.cell 1;have r2:=hr5.cell 2;have r3:=hr5.cell 3;have r4:=hr5.cell 4;have r5:=hr5.cell 5;have r6:=hr5.cell 6;have rlt:=hr5.lt;simp only[Nat.zero_add,QA,QB,QC]at r0 r1 r2 r3 r4 r5 r6;have q0:=hk5.cell 0;have q1:=hk5.cell 1;have q2:=hk5.cell 2;have q3:=hk5.cell 3;have q4:=hk5.cell 4;have q5:=hk5.cell 5;have q6:=hk5.cell 6;have q7:=hk5.cell 7;have q8:=hk5.cell 8;have qlt:=hk5.lt;simp only[Nat.zero_add,QA,QB,QC]at q0 q1 q2 q3 q4 q5 q6 q7 q8;clear hr5 hk5;cases q
  case' false =>
   have HR:=QH (EC.out rfl);go_wp2_with fail;go_ret;exact⟨by rw[HR.out];rfl,jx.out⟩
  have HG3:=QH (HG2.out rfl);by_cases h6:nx=al
  case' neg =>
   have HR:Hid (R=0):=by unfold Hid;rw[HG3.out,if_neg h6]
   go_wp2_with fail;all_goals go_ret
   all_goals exact⟨by rw[HR.out];rfl,jx.out⟩
  have HR:Hid (R=Z):=by unfold Hid;rw[HG3.out,if_pos h6]
  have hnx:(nx == al)=true:=by rw[h6];simp
  go_wp2_with fail;refine(HCM.out _ HS5.out).mono ?_;rintro e W6 ⟨rfl,kG⟩;have gU:=QH (qc jx.out kG);clear kG r0 r1 r2 r3 r4 r5 r6 rlt q0 q1 q2 q3 q4 q5 q6 q7 q8 qlt;go_wp2_with fail;go_ret;exact⟨by rw[HR.out];rfl,gU.out⟩
end Go.Proofs.YtdagdllomphidaaGreatDoor.vt.pg
namespace Go.Proofs.YtdagdllomphidaaGreatDoor.vt.pg
open _root_.Go.Proofs.Tryz Go Go.RowKit Go.Sort ib mt im sp
theorem qnG{b N:Nat}{m:Mt}{f:Tf}(h:yt b N m)(e2:mt.above f.target (qB m)=true):jk b N (zC m f):=by
 unfold zC;split
 ·rename_i hm;rcases h.tok with ht|ht
  ·exfalso;rw[ht]at hm;have:f.target=(0,0):=hm.2.1.symm;rw[this]at e2;unfold mt.above at e2;simp at e2
  ·exact ht.2.2.2.2.2
 ·exact dP h
def s1M (m:Mt)(f:Tf)(l:List Int):Mt:=gz m f.target l
def s2M (m:Mt)(f:Tf)(l:List Int):Mt:={ s1M m f l with live:=l }
def s3M (m:Mt)(f:Tf)(l:List Int):Mt:={ s2M m f l with tok:=zI }
def qnH (f:Tf)(l:List Int):Tk:=⟨f.base,f.target,f.next,f.all,l⟩
theorem qdx{b N:Nat}{t:Tg}{m:Mt}(h:qT b N t m)(f:Tf)(x:List (Int × Bt)) :
    (zM m.live.length m.qa.length (qB m) f x≠0∧ze N m f x=⟨zM m.live.length m.qa.length (qB m) f x,m,[]⟩) ∨
    (zM m.live.length m.qa.length (qB m) f x=0∧zL m.live.length (-1) x=true∧x.length≤8∧jk b N (zC m f)∧f.next≤f.all ∧
     (((qu N m x).2≠0∧ze N m f x=⟨(qu N m x).2,m,[]⟩) ∨
      ((qu N m x).2=0∧((f.next=f.all∧ze N m f x=⟨0,s3M m f (zu (zC m f) x (qu N m x).1.1),(qu N m x).1.2⟩) ∨
       (f.next≠f.all∧ze N m f x=⟨0,{ m with tok:=qnH f (zu (zC m f) x (qu N m x).1.1) },(qu N m x).1.2⟩))))):=by
 by_cases he:zM m.live.length m.qa.length (qB m) f x=0
 ·right
  obtain⟨e1,e2,e3,e4,e5,e6,e7,e8⟩:=oF he;have hlen:=h.ok.len;have hb1:=h.ok.b1;have hb8:=h.ok.b8;refine⟨he,e7,?_,qnG h.ok e2,by omega,?_⟩
  ·have:=iy e7 (by omega) (by omega);omega
  ·unfold ze;rw[if_neg (by rw[he];simp)];by_cases h0:(qu N m x).2=0
   ·rw[if_neg (by rw[h0];simp)];refine .inr ⟨h0,?_⟩;by_cases hn:f.next=f.all
    ·rw[if_pos hn];exact .inl ⟨hn,rfl⟩
    ·rw[if_neg hn];exact .inr ⟨hn,rfl⟩
   ·rw[if_pos h0];exact .inl ⟨h0,rfl⟩
 ·left
  unfold ze;rw[if_pos he];exact⟨he,rfl⟩
theorem qnI{b N:Nat}{t:Tg}{m:Mt}(h:qT b N t m)(f:Tf)(hg:zZ f.target)(x:List (Int × Bt))(h0:(ze N m f x).code=0):yt b N (ze N m f x).m∧gV N m (ze N m f x).ws:=by
 rcases wO h f hg x with⟨h7,_⟩|⟨_,hd⟩
 ·rw[h0]at h7;cases h7
 ·have hs:=hd h0;by_cases hn:f.next=f.all
  ·exact⟨(hs.whole hn).1.ok,(hs.whole hn).1.ws⟩
  ·exact⟨(hs.part hn).1.ok,(hs.part hn).1.ws⟩
theorem OPl.new{w:World}{B:Nat}{v:Value}{l:List Pl}(h:OPl w B v l):∀a n c,v=.slice a n c→∀b o s,a=some ⟨b,o,s⟩→B≤b:=by
 intro a n c hv b o s ha;rcases h.2 with⟨rfl,h0⟩|⟨g,cap,cur,rfl,hg,hh,hcc,hm,hcs,xI⟩
 ·cases hv;cases ha
 ·cases hv;cases ha;exact hg
theorem PlL.set{w:World}{A:Option Addr}{l:List Pl}(h:PlL w A l){g k:Nat}{u:Value}(hg:∀b o s,A=some ⟨b,o,s⟩→b≠g):PlL (w.setCell ⟨g,k,none⟩ u) A l:=by
 intro i hi;obtain⟨b,o,h1,h2,h3,h4,h5⟩:=h i hi;have hn:=hg b o none h1;have hb:(w.setCell ⟨g,k,none⟩ u).heap[b]?=w.heap[b]? :=qz _ _ _ _ _ hn;exact⟨b,o,h1,by simpa[World.setCell]using h2,(World.cell?_of_block (w:=w) (a:=⟨b,o+i*3,none⟩) hb).trans h3,(World.cell?_of_block (w:=w) (a:=⟨b,o+i*3+1,none⟩) hb).trans h4,(World.cell?_of_block (w:=w) (a:=⟨b,o+i*3+2,none⟩) hb).trans h5⟩
def qrd (G:Nat→Prop)(p tb:Nat)(T F:Array Value)(src ql:List Int)(PV:Value):Nat→Value→World→Prop:=fun i v w=>match i with
 | 3=>v=.agg T
 | 4=>v=.agg F
 | 5=>∃A c,v=.slice A src.length c∧dQ G w A src c
 | 6=>v=PV
 | 7=>∃A c,v=.slice A ql.length c∧dQ G w A ql c
 | 8=>v=.pointer (some ⟨tb,6,none⟩)
 | _=>v=pt p
theorem qj9(G:Nat→Prop)(p tb:Nat)(T F:Array Value)(src ql:List Int)(PV:Value):∀i v w w',i<9→qrd G p tb T F src ql PV i v w→Below w.heap.size w w'→qrd G p tb T F src ql PV i v w':=by
 intro i v w w' hi h hb;rcases i with _|_|_|_|_|_|_|_|_|i;all_goals (first|omega|skip)
 all_goals unfold qrd at h ⊢
 all_goals try dsimp only at h ⊢
 all_goals first
  | exact h
  | (obtain⟨A,c,h1,h2⟩:=h
     exact⟨A,c,h1,h2.stay (uD.of_below hb)⟩)
def qre (G:Nat→Prop)(p tb:Nat)(PV IV:Value)(m:Mt)(f:Tf)(ql:List Int):Nat→Value→World→Prop:=fun i v w=>match i with
 | 1=>v=PV
 | 2=>v=.pointer (some ⟨tb,2,none⟩)
 | 3=>v=.agg #[.int .u64 (f.target.1:Int),.int .u64 (f.target.2:Int)]
 | 4 | 7=>v=.pointer (some ⟨tb,6,none⟩)
 | 5 | 8=>v=IV
 | 6=>gS G v w m (s1M m f ql)
 | 9=>gS G v w (s1M m f ql) (s2M m f ql)
 | 10=>v=.agg (cB zI none 0 0)
 | 11=>gS G v w (s2M m f ql) (s3M m f ql)
 | 12=>∃B f1 f2 f3,v=.slice (some ⟨B,0,none⟩) 3 3∧qf w B 115 #[f1,f2,f3]∧gS G f1 w m (s1M m f ql)∧gS G f2 w (s1M m f ql) (s2M m f ql)∧gS G f3 w (s2M m f ql) (s3M m f ql)
 | _=>v=pt p
theorem qjA(G:Nat→Prop)(p tb:Nat)(PV IV:Value)(m:Mt)(f:Tf)(ql:List Int):∀i v w w',i<13→qre G p tb PV IV m f ql i v w→Below w.heap.size w w'→qre G p tb PV IV m f ql i v w':=by
 intro i v w w' hi h hb;rcases i with _|_|_|_|_|_|_|_|_|_|_|_|_|i;all_goals (first|omega|skip)
 all_goals unfold qre at h ⊢
 all_goals try dsimp only at h ⊢
 all_goals first
  | exact h
  | exact h.below hb
  | (obtain⟨B,f1,f2,f3,h1,h2,h3,h4,h5⟩:=h
     exact⟨B,f1,f2,f3,h1,h2.below hb,h3.below hb,h4.below hb,h5.below hb⟩)
theorem qjB{o1 o2:Nat→Prop}{w:World}{v pd N b:Nat}{d:DD}{m:Mt}{t:Tg}(f:Tf)(A:Option Addr)(c:Nat)(x:List (Int × Bt))(h:VP jB w o1 o2 v pd d m false)(hJ:jr.JJ N t d)(hf:0≤d.qp)(hR:qT b N t m)(hfb:TfB f)(hx:ch.aD w A x)(aw:x.length≤1000) :
    Calls prog 24 #[pt v,tkV f none 0 0,.slice A x.length c] w (kK jB o1 o2 v pd (yn N t d m (ze N m f x)) w):=by
 have mX:=QH (qnI hR f hfb.target x);have HFB:=QH hfb;have ml:=QH h;have hb2:=(Below.refl _ w).alloc (Nat.le_refl _) (.cells (bY f none 0 0) 59);have hr2:=qf.new w 59 (bY f none 0 0);obtain⟨W,hW2⟩:=QE (w.alloc (.cells (bY f none 0 0) 59));rw[hW2]at hb2 hr2;have h2:=qQ h hb2;obtain⟨A0,A1,A2,c0,c1,c2,hA⟩:=h2.is;have HA:=QH hA;have HJ:=QH hJ;have HR:=QH hR;have HFU:=QH hf;have qy:=QH hb2;have jA:=QH hr2;have HX2:=QH (hx.below hb2);have xz:=QH (jI h2 hJ.on);have fU:=QH hA.sz;have HXL:=QH aw;obtain⟨aL,k0,k1,k2,k3,k4,k5,k6,k7,k8,k9,bQ⟩:=hA.cells;have r0:=hr2.cell 0;have r1:=hr2.cell 1;have r2:=hr2.cell 2;have r3:=hr2.cell 3;have r4:=hr2.cell 4;have r5:=hr2.cell 5;have r6:=hr2.cell 6;have rlt:=hr2.lt;simp only[bY,Nat.zero_add,QA,QB,QC]at r0 r1 r2 r3 r4 r5 r6;have e0:=fun d os=>cell_regrown k0 d os;have e1:=fun d os=>cell_regrown k1 d os;have e2:=fun d os=>cell_regrown k2 d os;have e3:=fun d os=>cell_regrown k3 d os;have e4:=fun d os=>cell_regrown k4 d os;have e5:=fun d os=>cell_regrown k5 d os;have e6:=fun d os=>cell_regrown k6 d os;have e7:=fun d os=>cell_regrown k7 d os;have e8:=fun d os=>cell_regrown k8 d os;have p0:=fun d os=>cell_regrown r0 d os;have p1:=fun d os=>cell_regrown r1 d os;have p2:=fun d os=>cell_regrown r2 d os;have p3:=fun d os=>cell_regrown r3 d os;have p4:=fun d os=>cell_regrown r4 d os;have p5:=fun d os=>cell_regrown r5 d os;have p6:=fun d os=>cell_regrown r6 d os;have cF:∀b os,Calls prog 64 #[.agg (zj A0 A1 A2 c0 c1 c2 m),.agg (bY f none 0 0),.slice A x.length c] (grow (redrawn W b) os) fun e w''=>e=.returned (.int .i64 (zM m.live.length m.qa.length (qB m) f x))∧∃q:Regrown,w''=grow (redrawn W q.d) q.os :=
  fun b os=>Calls.regrown_of (qbp (HA.out.below (below_regrown W b os)).tab.mt.qa fU.out f none 0 0 A c x (HX2.out.below (below_regrown W b os)) HXL.out)
 have HFC:=QH (qdx hR f x);obtain⟨PN,iW⟩:=QE (ze N m f x);obtain⟨F,hF⟩:=QE (zM m.live.length m.qa.length (qB m) f x);rw[hF,iW]at HFC;rw[iW]at mX;rw[hF]at cF;rw[iW];obtain⟨n,hn⟩:=QE x.length;rw[hn]at cF ⊢;have HN:=QH hn;clear h h2 hJ hR hA hb2 hr2 iW hF hf hfb hx hn aw;unfold zj bY at cF;try dsimp only at cF
 unfold tkV;unfold bY at hW2;go_enter func24,ntmps24;go_upto_region 1 with fail;try rw[hW2]
 clear hW2;go_wp2_with fail;refine xz.out.mono ?_;rintro e W1 ⟨rfl,rfl⟩;clear xz;go_upto_region 4 with fail;refine wp_region_quiet_below vF (by kernel_rfl) ?_;repeat (any_goals (first|go_big_quiet_step (first|exact cF _ _)|quiet_step (first|exact cF _ _)))
 refine wpQuiet_nil ?_;intro _ hw';obtain⟨⟨dq,osq⟩,hw''⟩:=hw';subst hw'';have hb:=below_regrown W dq osq;have qV:=QH (qc qy.out hb);have bw:=QH (HA.out.below hb);have cq:=QH (jA.out.below hb);have HX3:=QH (HX2.out.below hb);clear hb e0 e1 e2 e3 e4 e5 e6 e7 e8 p0 p1 p2 p3 p4 p5 p6 cF HA qy jA HX2 aL k0 k1 k2 k3 k4 k5 k6 k7 k8 k9 bQ r0 r1 r2 r3 r4 r5 r6 rlt;generalize grow (redrawn W dq) osq=W3 at *;rcases HFC.out with⟨hc,dv⟩|⟨rfl,hck,hx8,hso,hle,qdy⟩
 ·have hcb:(F != 0)=true:=by simpa using hc
  have HPN:=QH dv;have HC:=QH hc;clear hc dv HFC;go_wp2_with fail;go_ret;rw[HPN.out];exact jK (qQ ml.out qV.out) qV.out (kC HC.out)
 ·have qv0:=pS (c:=c) (qQ ml.out qV.out) HJ.out.rb.1 HR.out.ok HR.out.N1 HX3.out hx8 (fun y hy=>(ku hck y hy).1);rw[HN.out]at qv0;have qjz:=QH qv0;have HCK:=QH hck;have HX8:=QH hx8;have HSO:=QH hso;have HLE:=QH hle;have qhp:=QH qdy;have hce:((0:Int) != 0)=false:=rfl;clear HFC hck hx8 hso hle qdy qv0;go_wp2_with fail;refine qjz.out.mono ?_;rintro e W4 ⟨hb4,qcM⟩;have zO:=QH (qc qV.out hb4);have fT:=QH (bw.out.below hb4);have HR4:=QH (cq.out.below hb4);have zcf:=QH hb4.size;clear hb4 qjz;rcases qcM with⟨hne,rfl⟩|⟨h0,pv,rfl,hop⟩
  ·have hcb:((qu N m x).2 != 0)=true:=by simpa using hne
   have HPE:Hid (PN=⟨(qu N m x).2,m,[]⟩):=by
    unfold Hid;rcases qhp.out with⟨_,h⟩|⟨h,_⟩
    ·exact h
    ·exact absurd h hne
   have HNE:=QH hne;clear qhp hne;generalize (qu N m x).2=pc at *;go_wp2_with fail;go_ret;rw[HPE.out];exact jK (qQ ml.out zO.out) zO.out (kC HNE.out)
  ·have hpw:=pT HR.out.ok HR.out.N1 h0;have hpl:ix N m x (qu N m x).1.1 (qu N m x).1.2:=by
    rcases yV HR.out.ok HR.out.N1 x HX8.out (fun c hc=>(ku HCK.out c hc).1)with⟨h7,_⟩|⟨_,hp⟩
    ·rw[h7]at h0;cases h0
    ·exact hp
   have qdy:(f.next=f.all∧PN=⟨0,s3M m f (zu (zC m f) x (qu N m x).1.1),(qu N m x).1.2⟩)∨(f.next≠f.all∧PN=⟨0,{ m with tok:=qnH f (zu (zC m f) x (qu N m x).1.1) },(qu N m x).1.2⟩):=by
    rcases qhp.out with⟨h,_⟩|⟨_,h⟩
    ·exact absurd h0 h
    ·exact h
   have tH:=qsC hpl HR.out.N1 HCK.out;have qbg:=qn1 hpl.len;obtain⟨BA,bc,hpv,hPL⟩:=hop.view;have hnew:=hop.new _ _ _ hpv;have hsp:=qbc x (qu N m x).1.1 (zC m f);generalize (qu N m x).1.1=at_ at *;generalize (qu N m x).1.2=ws at *;have wu:(zC m f).length=b:=HSO.out.1;have hml:m.live.length=b:=HR.out.ok.len;have cy:(zu (zC m f) x at_).length=b:=by rw[bN];exact wu
   have HPW:=QH hpw;have HPL:=QH hPL;have qj0:=QH qbg;have qbW:=QH hnew;have mV:=QH qdy;have fE:=QH wu;have qdk:Hid (∀W A c,dQ (fun j=>(o1 j∧j≠v)∨w.heap.size<j) W A (zC m f) c→Below W4.heap.size W4 W→Calls prog 58 #[.slice A (zC m f).length c,.slice BA (PL x at_).length bc] W (qiE (fun j=>(o1 j∧j≠v)∨w.heap.size<j) (zu (zC m f) x at_) W)):=fun W A c hs hb=>by
    have:=jc hs (by rw[wu];exact HR.out.ok.b1) (by rw[wu];have:=HR.out.ok.b8;omega) (hPL.below hb) (cb:=bc) (by rw[wu];rw[hml]at tH;exact tH) (by rw[qbg];have:=HX8.out;omega) (fun j hj=>.inr (by
     have h1:=HR4.out.lt;have h2:=hb.size;omega))
    rw[hsp]at this;exact this
   obtain⟨pn,dv⟩:=QE ((PL x at_).length);rw[dv]at hpv qdk;have HPN:=QH dv;subst hpv;obtain⟨ql,qi1⟩:=QE (zu (zC m f) x at_);rw[qi1]at qdk mV cy;have HIL:=QH cy;obtain⟨P,hP⟩:=QE (PL x at_);rw[hP]at HPW HPL qj0 HPN;obtain⟨src,mA⟩:=QE (zC m f);have q5n:=QH mA;rw[mA]at qdk fE;clear h0 hpw hpl qdy tH qbg hPL hsp wu hml cy hop hnew qhp dv qi1 hP mA;go_wp2_with fail;refine qM (by kernel_rfl) 9 [35,36,37,38,39,40,41,42,43] (by kernel_rfl) (qrd (fun j=>(o1 j∧j≠v)∨w.heap.size<j) v w.heap.size (zj A0 A1 A2 c0 c1 c2 m) (bY f none 0 0) src ql (.slice BA pn bc)) (qj9 _ _ _ _ _ _ _ _) ?_ ?_
   ·intro i o vs ρ W hi hop hρ hfn hb hG;have t0:ρ (.tmp 0)=pt v:=hρ.out 0 rfl;have t4:ρ (.tmp 4)=pt w.heap.size:=hρ.out 4 rfl;have t9:ρ (.tmp 9)=.slice BA pn bc:=hρ.out 9 rfl;have s35:=hρ.at_ 35 0 rfl;have s36:=hρ.at_ 36 1 rfl;have s37:=hρ.at_ 37 2 rfl;have s38:=hρ.at_ 38 3 rfl;have s39:=hρ.at_ 39 4 rfl;have s40:=hρ.at_ 40 5 rfl;have s41:=hρ.at_ 41 6 rfl;have lZ:=fT.out.below hb;obtain⟨aL,k0,k1,k2,k3,k4,k5,k6,k7,k8,k9,bQ⟩:=lZ.cells;have hr:=HR4.out.below hb;have r0:=hr.cell 0;have r1:=hr.cell 1;have r2:=hr.cell 2;have r3:=hr.cell 3;have r4:=hr.cell 4;have r5:=hr.cell 5;have r6:=hr.cell 6;have rlt:=hr.lt;simp only[bY,QA,QB,QC]at r0 r1 r2 r3 r4 r5 r6;rcases i with _|_|_|_|_|_|_|_|_|i;all_goals (first|omega|skip)
    all_goals simp only[QA,QB,QC,Option.some.injEq]at hop
    all_goals subst hop
    ·exact q9 (w':=W) (by unfold execOp;simp only[t0];go_simp) ⟨Below.refl _ _,rfl⟩
    ·have g0:vs 0=_:=hG 0 (by kernel_rfl);exact q9 (w':=W) (by unfold execOp;simp only[s35,g0];go_simp) ⟨Below.refl _ _,rfl⟩
    ·have g1:vs 1=_:=hG 1 (by kernel_rfl);exact q9 (w':=W) (by unfold execOp;simp only[s36,g1];go_simp) ⟨Below.refl _ _,rfl⟩
    ·have g2:vs 2=_:=hG 2 (by kernel_rfl);exact q9 (w':=W) (by unfold zj execOp;simp only[s37,g2];go_simp) ⟨Below.refl _ _,rfl⟩
    ·exact q9 (w':=W) (by unfold bY execOp;simp only[t4];go_simp) ⟨Below.refl _ _,rfl⟩
    ·have g3:vs 3=_:=hG 3 (by kernel_rfl);have g4:vs 4=_:=hG 4 (by kernel_rfl);refine qi (f:=65) (args:=#[.agg (zj A0 A1 A2 c0 c1 c2 m),.agg (bY f none 0 0)]) (w':=W) (by unfold execOp;simp only[hfn,s38,g3,s39,g4];go_simp) ((qfP (G:=fun j=>(o1 j∧j≠v)∨w.heap.size<j) (lZ.tab.mono (fun j hj=>.inl hj)) lZ.sz (fun j hj=>.inr (by omega)) f none 0 0).mono ?_);rintro e W' ⟨A,c,rfl,wu,hb5⟩;rw[q5n.out]at wu ⊢;exact⟨_,rfl,hb5,A,c,rfl,wu⟩
    ·exact q9 (w':=W) (by unfold execOp;simp only[t9];go_simp) ⟨Below.refl _ _,rfl⟩
    ·obtain⟨A,c,g5,wu⟩:=hG 5 (by kernel_rfl);have g6:vs 6=_:=hG 6 (by kernel_rfl);have hp:=qdk.out W A c;refine qi (f:=58) (args:=#[.slice A src.length c,.slice BA pn bc]) (w':=W) (by unfold execOp;simp only[hfn,s40,g5,s41,g6];go_simp) ((hp wu hb).mono ?_);rintro e W' ⟨A,c,rfl,wu,hb5⟩;exact⟨_,rfl,hb5,A,c,rfl,wu⟩
    ·exact q9 (w':=W) (by unfold execOp;simp only[t4];go_simp) ⟨Below.refl _ _,rfl⟩
   ·intro vs W hb hG;have g0:vs 0=_:=hG 0 (by decide);have g3:vs 3=_:=hG 3 (by decide);have g8:vs 8=_:=hG 8 (by decide);obtain⟨AL,cL,g7,wu⟩:=hG 7 (by decide);have hr:=HR4.out.below hb;have f6:=hr.frozen 6;have r6:=hr.cell 6;have rlt:=hr.lt;simp only[bY,QA,QB,QC]at r6;have jx:Hid (Below w.heap.size w (W.setCell ⟨w.heap.size,6,none⟩ (.slice AL ql.length cL))):=(qc zO.out hb).setCell (p:=⟨w.heap.size,6,none⟩) (Nat.le_refl _) _;have cY:Hid (qf (W.setCell ⟨w.heap.size,6,none⟩ (.slice AL ql.length cL)) w.heap.size 59 (bY f AL ql.length cL)):=by
     have:=hr.qo 6 (.slice AL ql.length cL);simpa[Hid,bY]using this
    have HS5:Hid (dQ (fun j=>(o1 j∧j≠v)∨w.heap.size≤j) (W.setCell ⟨w.heap.size,6,none⟩ (.slice AL ql.length cL)) AL ql cL) :=
     (wu.stay (wb (fun j hj=>by
      rcases hj with hj|hj
      ·have:=qn0 ml.out j (.inl hj.1);omega
      ·omega))).mono (fun j hj=>by
      rcases hj with hj|hj
      ·exact .inl hj
      ·exact .inr (by omega))
    have HP5:Hid (PlL (W.setCell ⟨w.heap.size,6,none⟩ (.slice AL ql.length cL)) BA P):=(HPL.out.below hb).set (fun b o s e=>by
     have h1:=qbW.out b o s e;have h2:=cq.out.lt;omega)
    obtain⟨W5,fD⟩:=QE (W.setCell ⟨w.heap.size,6,none⟩ (.slice AL ql.length cL));rw[fD]at jx cY HS5 HP5;simp only[qW,qK,if_true];rw[g7,g8];generalize vs 0=z0;generalize vs 1=z1;generalize vs 2=z2;generalize vs 3=z3;generalize vs 4=z4;generalize vs 5=z5;generalize vs 6=z6;clear hG g0 g3 g7 g8 hb wu hr qdk HPL qbW;simp only[Act.put,List.setIfInBounds_toArray,List.set_cons_succ,List.set_cons_zero];refine qI (i:=9) (by kernel_rfl) rfl rfl ?_;go_simp;try rw[fD]
    clear f6 r6 rlt fD;refine⟨by kernel_rfl,?_⟩;have j0:=cY.out.cell 0;have j1:=cY.out.cell 1;have j2:=cY.out.cell 2;have j3:=cY.out.cell 3;have j4:=cY.out.cell 4;have j5:=cY.out.cell 5;have j6:=cY.out.cell 6;have jlt:=cY.out.lt;simp only[bY,QA,QB,QC]at j0 j1 j2 j3 j4 j5 j6;by_cases hn:f.next=f.all
    ·have hlt:¬ f.next<f.all:=by omega
     have gy:Hid (PN.code=0∧PN.m=s3M m f ql∧PN.ws=ws):=by
      unfold Hid;rcases mV.out with⟨_,h⟩|⟨h,_⟩
      ·rw[h];exact⟨rfl,rfl,rfl⟩
      ·exact absurd hn h
     have HDK:=QH (mX.out gy.out.1);clear hn;go_wp2_with fail;refine qM (by kernel_rfl) 13 [55,56,57,58,59,60,61,62,63,64,65,66,67] (by kernel_rfl) (qre (fun j=>(o1 j∧j≠v)∨w.heap.size≤j) v w.heap.size (.slice BA pn bc) (.slice AL ql.length cL) m f ql) (qjA _ _ _ _ _ _ _ _) ?_ ?_
     ·intro i o vs ρ W hi hop hρ hfn hb hG;have t0:ρ (.tmp 0)=pt v:=hρ.out 0 rfl;have t4:ρ (.tmp 4)=pt w.heap.size:=hρ.out 4 rfl;have t9:ρ (.tmp 9)=.slice BA pn bc:=hρ.out 9 rfl;have s57:=hρ.at_ 57 2 rfl;have s58:=hρ.at_ 58 3 rfl;have s59:=hρ.at_ 59 4 rfl;have s60:=hρ.at_ 60 5 rfl;have s61:=hρ.at_ 61 6 rfl;have s62:=hρ.at_ 62 7 rfl;have s63:=hρ.at_ 63 8 rfl;have s64:=hρ.at_ 64 9 rfl;have s65:=hρ.at_ 65 10 rfl;have s66:=hρ.at_ 66 11 rfl;have hr:=cY.out.below hb;have q2:=hr.cell 2;have q3:=hr.cell 3;have q6:=hr.cell 6;have qlt:=hr.lt;simp only[bY,QA,QB,QC]at q2 q3 q6;have hsW:=HS5.out.stay (uD.of_below hb);have hiW:ql.length≤1000:=by rw[HIL.out];have:=HR.out.ok.b8;omega
      have hsz:w.heap.size≤W.heap.size:=Nat.le_trans jx.out.size hb.size;clear j0 j1 j2 j3 j4 j5 j6 jlt;rcases i with _|_|_|_|_|_|_|_|_|_|_|_|_|i;all_goals (first|omega|skip)
      all_goals simp only[QA,QB,QC,Option.some.injEq]at hop
      all_goals subst hop
      ·exact q9 (w':=W) (by unfold execOp;simp only[t0];go_simp) ⟨Below.refl _ _,rfl⟩
      ·exact q9 (w':=W) (by unfold execOp;simp only[t9];go_simp) ⟨Below.refl _ _,rfl⟩
      ·exact q9 (w':=W) (by unfold execOp;simp only[t4];go_simp) ⟨Below.refl _ _,rfl⟩
      ·have g2:vs 2=_:=hG 2 (by kernel_rfl);exact q9 (w':=W) (by unfold execOp;simp only[s57,g2];go_simp) ⟨Below.refl _ _,rfl⟩
      ·exact q9 (w':=W) (by unfold execOp;simp only[t4];go_simp) ⟨Below.refl _ _,rfl⟩
      ·have g4:vs 4=_:=hG 4 (by kernel_rfl);exact q9 (w':=W) (by unfold execOp;simp only[s59,g4];go_simp) ⟨Below.refl _ _,rfl⟩
      ·have g3:vs 3=_:=hG 3 (by kernel_rfl);have g5:vs 5=_:=hG 5 (by kernel_rfl);refine qi (f:=66) (args:=#[gv f.target,.slice AL ql.length cL]) (w':=W) (by unfold execOp gv;simp only[hfn,s58,g3,s60,g5];go_simp) ((qcD (G:=fun j=>(o1 j∧j≠v)∨w.heap.size≤j) hsW.at_ hiW HFB.out.target (fun j hj=>.inr (Nat.le_trans hsz hj))).mono ?_);rintro e W' ⟨fe,rfl,iX,hb5⟩;exact⟨fe,rfl,hb5,gS.of (iX m (s1M m f ql) ⟨by have:=HR.out.ok.few;omega,rfl⟩)⟩
      ·exact q9 (w':=W) (by unfold execOp;simp only[t4];go_simp) ⟨Below.refl _ _,rfl⟩
      ·have g7:vs 7=_:=hG 7 (by kernel_rfl);exact q9 (w':=W) (by unfold execOp;simp only[s62,g7];go_simp) ⟨Below.refl _ _,rfl⟩
      ·have g8:vs 8=_:=hG 8 (by kernel_rfl);refine qi (f:=57) (args:=#[.slice AL ql.length cL]) (w':=W) (by unfold execOp;simp only[hfn,s63,g8];go_simp) ((iF (G:=fun j=>(o1 j∧j≠v)∨w.heap.size≤j) hsW hiW (fun j hj=>.inr (Nat.le_trans hsz hj))).mono ?_);rintro e W' ⟨fe,rfl,iX,hb5⟩;exact⟨fe,rfl,hb5,gS.of (iX (s1M m f ql) _ rfl)⟩
      ·exact q9 (w':=W) (by unfold cB zI execOp;go_simp) ⟨Below.refl _ _,rfl⟩
      ·have g10:vs 10=_:=hG 10 (by kernel_rfl);refine qi (f:=60) (args:=#[.agg (cB zI none 0 0)]) (w':=W) (by unfold execOp;simp only[hfn,s65,g10];go_simp) ((uN (G:=fun j=>(o1 j∧j≠v)∨w.heap.size≤j) (t:=zI) (yE.none W) (by decide) qdm (fun j hj=>.inr (Nat.le_trans hsz hj))).mono ?_);rintro e W' ⟨fe,rfl,iX,hb5⟩;exact⟨fe,rfl,hb5,gS.of (iX (s2M m f ql) _ rfl)⟩
      ·have g6:=hG 6 (by kernel_rfl);have g9:=hG 9 (by kernel_rfl);have g11:=hG 11 (by kernel_rfl);obtain⟨⟨ka,ca,ea⟩,ga⟩:=g6;obtain⟨⟨kb,cb,eb⟩,gb⟩:=g9;obtain⟨⟨kc,cc,ec⟩,gc⟩:=g11;have hb1:=(Below.refl _ W).alloc (Nat.le_refl _) (.cells #[.func (.func ka) #[] ca,.func (.func kb) #[] cb,.func (.func kc) #[] cc] 115);rw[ea]at ga;rw[eb]at gb;rw[ec]at gc;exact q9 (v:=.slice (some ⟨W.heap.size,0,none⟩) 3 3) (w':=W.alloc (.cells #[.func (.func ka) #[] ca,.func (.func kb) #[] cb,.func (.func kc) #[] cc] 115)) (by unfold execOp;simp only[s61,ea,s64,eb,s66,ec];go_simp) ⟨hb1,_,_,_,_,rfl,qf.new _ _ _,(gS.of ga).below hb1,(gS.of gb).below hb1,(gS.of gc).below hb1⟩
     ·intro vs W hb hG;have g0:vs 0=_:=hG 0 (by decide);have g1:vs 1=_:=hG 1 (by decide);obtain⟨B,f1,f2,f3,g12,uO,he1,su,he3⟩:=hG 12 (by decide);have bZ:=QH (wV ml.out (qc jx.out hb) HJ.out HFU.out HR.out gy.out.1 HDK.out (M:=fun i=>if i=0 then m else if i=1 then s1M m f ql else if i=2 then s2M m f ql else s3M m f ql) (n:=3) (c:=3) rfl (gy.out.2.1.symm) (pU uO he1.2 su.2 he3.2) (by omega) (cb:=bc) (HP5.out.below hb) (by rw[qj0.out];have:=HX8.out;omega) (HPW.out.trans gy.out.2.2.symm));rw[HPN.out]at bZ;simp only[qW,qK,if_true];rw[g0,g1,g12];generalize vs 2=z2;generalize vs 3=z3;generalize vs 4=z4;generalize vs 5=z5;generalize vs 6=z6;generalize vs 7=z7;generalize vs 8=z8;generalize vs 9=z9;generalize vs 10=z10;generalize vs 11=z11;clear hG g0 g1 g12 hb uO he1 su he3 j0 j1 j2 j3 j4 j5 j6 jlt;simp only[Act.put,List.setIfInBounds_toArray,List.set_cons_succ,List.set_cons_zero];refine qI (i:=13) (by kernel_rfl) rfl rfl ?_;go_simp;refine bZ.out.mono ?_;rintro e W7 ⟨r,d',m',lost,aF,gO,rfl,hh⟩;have HH:=QH hh;clear hh bZ;go_simp;refine qI (i:=14) (by kernel_rfl) rfl rfl ?_;go_simp;refine⟨by kernel_rfl,?_⟩;go_wp2_with fail;go_ret;exact⟨r,d',m',lost,aF,gO,rfl,HH.out⟩
    ·have hlt:f.next<f.all:=by have:=HLE.out;omega
     have gy:Hid (PN.code=0∧PN.m={ m with tok:=qnH f ql }∧PN.ws=ws):=by
      unfold Hid;rcases mV.out with⟨h,_⟩|⟨_,h⟩
      ·exact absurd h hn
      ·rw[h];exact⟨rfl,rfl,rfl⟩
     have HDK:=QH (mX.out gy.out.1);have hst:=uN (G:=fun j=>(o1 j∧j≠v)∨w.heap.size≤j) (t:=qnH f ql) (A:=AL) (c:=cL) HS5.out.at_ (by show ql.length≤1000;rw[HIL.out];have:=HR.out.ok.b8;omega) ⟨HFB.out.base,HFB.out.target,HFB.out.next,HFB.out.all⟩ (fun j hj=>.inr (Nat.le_trans jx.out.size hj));unfold cB qnH at hst;have HST:=QH hst;clear hn hst;go_wp2_with fail;refine HST.out.mono ?_;rintro e W6 ⟨fe,rfl,iX,kG⟩;have HEF:=QH (iX m PN.m gy.out.2.1);obtain⟨kf,jZ,rfl⟩:=HEF.out.form;have gU:=QH (qc jx.out kG);have HP6:=QH (HP5.out.below kG);clear iX kG HST HP5 j0 j1 j2 j3 j4 j5 j6 jlt;have rJ:=(Below.refl _ W6).alloc (Nat.le_refl _) (.cells #[.func (.func kf) #[] jZ] 115);have hk7:=qf.new W6 115 #[.func (.func kf) #[] jZ];obtain⟨W7,hW7⟩:=QE (W6.alloc (.cells #[.func (.func kf) #[] jZ] 115));rw[hW7]at rJ hk7;have bZ:=QH (wV ml.out (qc gU.out rJ) HJ.out HFU.out HR.out gy.out.1 HDK.out (c:=1) rfl rfl (fu hk7 (HEF.out.below rJ)) (by omega) (cb:=bc) (HP6.out.below rJ) (by rw[qj0.out];have:=HX8.out;omega) (HPW.out.trans gy.out.2.2.symm));rw[HPN.out]at bZ;clear rJ hk7 HEF HP6;go_wp2_with fail;try rw[hW7]
     refine bZ.out.mono ?_;rintro e W8 ⟨r,d',m',lost,aF,gO,rfl,hh⟩;have HH:=QH hh;clear hh bZ;go_wp2_with fail;go_ret;exact⟨r,d',m',lost,aF,gO,rfl,HH.out⟩
theorem qgd{t:Tg}{m:Mt}{k:Int}(h:k<0∨(m.qa.length:Int)≤k):(zA t m).changes k=([],5):=by
 unfold ch.CH.changes;have:(zA t m).qa.length=m.qa.length:=by simp[zA]
 rw[this,if_pos h]
theorem qdz{t:Tg}{m:Mt}{k:Nat}(h:k<m.qa.length):(zA t m).changes (k:Int)=(ch.pg.iP (volume t (ky m k)) (volume t m.qa[k].ql) (volume t m.qa[k].ql).length,0):=by
 unfold ch.CH.changes;have hl:(zA t m).qa.length=m.qa.length:=by simp[zA]
 rw[hl,if_neg (by omega),Int.toNat_natCast];have hv:∀i (hi:i<m.qa.length),(zA t m).lH i=volume t m.qa[i].ql:=fun i hi=>by
  unfold ch.CH.lH;have e:(zA t m).qa[i]?=some (eG t m.qa[i]):=by simp[zA,hi]
  rw[e];rfl
 have hp:(zA t m).prev k=volume t (ky m k):=by
  unfold ch.CH.prev;cases k with
  | zero =>
   rw[if_pos rfl,oN];show ch.vV (volume t m.live).length=_;rw[xZ];unfold ch.vV volume;rw[List.map_replicate];rfl
  | succ k =>
   rw[if_neg (by omega),Nat.add_sub_cancel,hv k (by omega),tj (by omega)]
 rw[hp,hv k h];rfl
theorem qnJ{b N:Nat}{m:Mt}(h:yt b N m)(k:Nat):jk b N (ky m k) :=
 dP (m:={ m with qa:=m.qa.take k,tok:=zI }) (h.take k m.live h.live)
def CgR (P Q:List Bt)(w:World)(v i:Value)(wr:World):Prop :=
 ∃k:Nat,k≤Q.length∧i=.int .i64 (k:Int)∧ch.wk wr w.heap.size v (ch.pg.iP P Q k)∧Below w.heap.size w wr
theorem qnK{w:World}{B:Nat}{v:Value}{l:List (Int × Bt)}(h:ch.wk w B v l)(hz:∀x∈l,yS x.1):∃a c,v=.slice a l.length c∧ch.aD w a l∧∀b o,a=some ⟨b,o,none⟩→B≤b∧b<w.heap.size:=by
 obtain⟨a,c,hv,h1⟩:=h.view hz;refine⟨a,c,hv,h1,fun b o e=>?_⟩;subst hv;have:=h.lt b (by rw[e];rfl);exact this
theorem qbq{o1 o2:Nat→Prop}{w:World}{v pd N b:Nat}{d:DD}{m:Mt}{t:Tg}(k:Int)(h:VP jB w o1 o2 v pd d m false)(hJ:jr.JJ N t d)(hR:qT b N t m)(hk:ib.yS k):Calls prog 33 #[pt v,.int .i64 k] w (ch.aX ((zA t m).changes k) w):=by
 obtain⟨i0,hi,hz0,hz1,hz2⟩:=info_parts ch.qfD;obtain⟨A0,A1,A2,c0,c1,c2,hA⟩:=h.is;have HA:=QH hA;have HV:=QH h;have HJ:=QH hJ;have HR:=QH hR;have xz:=QH (jI h hJ.on);have fU:=QH hA.sz;obtain⟨aL,k0,k1,k2,k3,k4,k5,k6,k7,k8,k9,bQ⟩:=hA.cells;clear h hJ hR hA;by_cases hno:k<0∨(m.qa.length:Int)≤k
 ·have HC:=QH (qgd (t:=t) hno);go_enter func33,ntmps33;go_wp2_with fail;refine xz.out.mono ?_;rintro e W1 ⟨rfl,rfl⟩;clear xz;by_cases h0:k<0
  ·clear hno;go_wp2_with fail;go_ret2;rw[HC.out];exact⟨none,0,rfl,ch.aD.nil _ _,ib.ui.none _ _,Below.refl _ _⟩
  ·have h1:(m.qa.length:Int)≤k:=by omega
   clear hno;go_wp2_with fail;go_ret2;rw[HC.out];exact⟨none,0,rfl,ch.aD.nil _ _,ib.ui.none _ _,Below.refl _ _⟩
 ·obtain⟨n,rfl⟩:∃n:Nat,k=(n:Int):=⟨k.toNat,by omega⟩;have hn:n<m.qa.length:=by omega
  have hn0:¬ (n:Int)<0:=by omega
  have hn1:¬ (m.qa.length:Int)≤(n:Int):=by omega
  have hn2:(n:Int)<(m.qa.length:Int):=by omega
  have HC:=QH (qdz (t:=t) hn);have qzZ:=qnJ HR.out.ok n;have HBO:=QH qzZ;have HBS:=QH (oP (G:=fun _=>True) (A0:=A0) (A2:=A2) (c0:=c0) (c1:=c1) (c2:=c2) (HA.out.tab.mono (fun _ _=>trivial)).qa fU.out (fun _ _=>trivial) n (by omega));unfold zj at HBS;clear hno hk qzZ;go_enter func33,ntmps33;go_wp2_with fail;refine xz.out.mono ?_;rintro e W1 ⟨rfl,rfl⟩;clear xz;go_wp2_with fail;refine HBS.out.mono ?_;rintro e W2 ⟨B0,d0,rfl,hs,hb2⟩;have hb8:(ky m n).length≤1000:=by have:=HBO.out.1;have:=HR.out.ok.b8;omega
  have q0a:=QH (wq (qQ HV.out hb2) HJ.out hs.at_ hb8 (fun z hz=>HBO.out.2.1 z hz));have qy:=QH hb2;clear hs hb2 HBS hb8;go_wp2_with fail;refine q0a.out.mono ?_;rintro e W3 ⟨X1,e1,rfl,hx1,_,hb3⟩;have HX1:=QH hx1;have qV:=QH (qc qy.out hb3);have hA3:=HA.out.below qV.out;have bw:=QH hA3;obtain⟨b',o',B,cc,rfl,s1,s2,s3,s4,s5,s6,s7⟩:=hA3.tab.mt.qa n hn;have qrg:=QH (wq (qQ HV.out qV.out) HJ.out s6 (fU.out.uj _ (List.getElem_mem hn)) (fun z hz=>(HR.out.ok.uj _ (List.getElem_mem hn)).2.1 z hz));obtain⟨aL,k0,k1,k2,k3,k4,k5,k6,k7,k8,k9,bQ⟩:=hA3.cells;have hbl:(volume t (ky m n)).length=b:=by rw[xZ];exact HBO.out.1
  have cy:(volume t m.qa[n].ql).length=b:=by rw[xZ];exact(HR.out.ok.uj _ (List.getElem_mem hn)).1
  have hb8:=HR.out.ok.b8;obtain⟨im,vr⟩:=QE (m.qa[n].ql);rw[vr]at HC qrg cy s4;obtain⟨P,hP⟩:=QE (volume t (ky m n));obtain⟨Q,hQ⟩:=QE (volume t im);rw[hP]at HC HX1 hbl ⊢;rw[hQ]at HC qrg cy;clear hx1 hb3 hA3 s2 s3 s5 s6 s7 q0a vr hP hQ;go_wp2_with fail;refine qrg.out.mono ?_;rintro e W4 ⟨X2,e2,rfl,hx2,_,hb4⟩;have HX2:=QH hx2;have HX3:=QH (HX1.out.below hb4);have zO:=QH (qc qV.out hb4);have HQL:=QH cy;have HPL:=QH hbl;clear hx2 hb4 qrg HX1 aL k0 k1 k2 k3 k4 k5 k6 k7 k8 k9 bQ s1 s4 cy hbl;go_wp2_with fail;go_loopw [10,63] (fun v i wr=>CgR P Q W4 v i wr) (fun _ i _=>Q.length-(intOf i).toNat);case atStart=>exact⟨0,Nat.zero_le _,rfl,World.ownsRow_nil _ _ _ _,Below.refl _ _⟩
  case round =>
   obtain⟨j,hj,rfl,ho,hB⟩:=hrel;have HO:=QH ho;have HB:=QH hB;clear ho hB;by_cases hlt:j<Q.length
   ·have wZ:(j:Int)<(Q.length:Int):=by omega
    have hj0:¬ (j:Int)<0:=by omega
    have hjP:j<P.length:=by have:=HQL.out;have:=HPL.out;omega
    have hjp:(j:Int)<(P.length:Int):=by omega
    have hjb:j<b:=by have:=HQL.out;omega
    have zcl:(j:Int)<(b:Int):=by omega
    obtain⟨q1,q2,rfl,q3,q4⟩:=HX2.out j hlt;obtain⟨p1,p2,rfl,p3,p4⟩:=HX3.out j hjP;have q5:=Nat.lt_of_lt_of_le q3 HB.out.size;have p5:=Nat.lt_of_lt_of_le p3 HB.out.size;have q6:=(HB.out.cell (p:=⟨q1,q2+j,none⟩) q3).trans q4;have p6:=(HB.out.cell (p:=⟨p1,p2+j,none⟩) p3).trans p4;have gQ:Q.getD j []=Q[j]:=by simp[List.getD,hlt]
    have gP:P.getD j []=P[j]:=by simp[List.getD,hjP]
    have HSA:=QH (ch.pg.pF P Q j);have HMO:=QH (ch.pg.qcY P Q j);rw[gQ,gP]at HSA HMO;have hq:((str Q[j]).toList == (str P[j]).toList)=decide (Q[j]=P[j]):=by
     have h:=fK (str Q[j]) P[j];rw[za]at h;exact h
    obtain⟨y,hy⟩:=QE (Q[j]);obtain⟨z,hz⟩:=QE (P[j]);rw[hy]at q6 HSA HMO hq;rw[hz]at p6 HSA HMO hq;have hdl:=ch.pg.qhf P Q j;clear hy hz q3 q4 p3 p4 gQ gP;by_cases he:y=z
    ·have q5p:=QH (HSA.out he);rw[decide_eq_true he]at hq;have hqn:((str y).toList != (str z).toList)=false:=by unfold bne;rw[hq];rfl
     obtain⟨S1,hS1⟩:=QE (str y);obtain⟨S2,hS2⟩:=QE (str z);rw[hS1]at q6 hq hqn;rw[hS2]at p6 hq hqn;clear he hS1 hS2 HSA HMO;go_wp2_with fail;go_roundw;case rel=>exact⟨j+1,by omega,by go_num,by rw[q5p.out];exact HO.out,HB.out⟩
     case measure=>simp[intOf];omega
    ·have q0c:=QH (HMO.out he);rw[decide_eq_false he]at hq;have hqn:((str y).toList != (str z).toList)=true:=by unfold bne;rw[hq];rfl
     obtain⟨S1,hS1⟩:=QE (str y);obtain⟨S2,hS2⟩:=QE (str z);have av:=QH hS1;rw[hS1]at q6 hq hqn;rw[hS2]at p6 hq hqn;have hby:=(Below.refl _ wr).alloc (Nat.le_refl _) (.cells #[.int .i64 (j:Int),.string S1] 62);have HO6:Hid (ch.wk (wr.alloc (.cells #[.int .i64 (j:Int),.string S1] 62)) W4.heap.size _ (ch.pg.iP P Q j)):=zP HO.out (fun j' hj'=>hby.block j' (HO.out.lt j' hj').2);have gU:=QH (qc HB.out hby);have aN:Hid (∀j' u,([.int .i64 (j:Int),.string S1]:List Value)[j']?=some u→(wr.alloc (.cells #[.int .i64 (j:Int),.string S1] 62)).cell? ((⟨wr.heap.size,0,none⟩:Addr).add j')=some u):=fun j' u hu=>by
      rw[addr_add,Nat.zero_add,(qf.new wr 62 #[.int .i64 (j:Int),.string S1]).cell j'];simpa using hu
     have e1':∀u∈([.int .i64 (j:Int),.string S1]:List Value),u.oneCell'=true:=by intro u hu;simp at hu;rcases hu with rfl|rfl <;> rfl
     have E1:=QH e1';have E2:Hid ((ch.pg.iP P Q j).length+1≤maxLen):=by have:=HQL.out;unfold Hid maxLen;omega
     have E3:Hid (((ch.pg.iP P Q j).length+1)*24≤140737488355328):=by have:=HQL.out;unfold Hid;omega
     obtain⟨Lw,hLw⟩:=QE (ch.pg.iP P Q j);rw[hLw]at HO6 q0c E2 E3;clear he hS1 hS2 HSA HMO hby e1' hLw HO hdl;go_wp2_with (at_builtin;refine xg rfl (.tmp 74) (.tmp 78) 60 rfl W4.heap.size 62 i0 (.agg #[.int .i64 0,.string ByteArray.empty]) 2 24 underlying60 hi hz0 hz1 hz2 rfl (by decide) _ _ _ rfl HO6.out ⟨wr.heap.size,0,none⟩ 1 1 [.int .i64 (j:Int),.string S1] rfl rfl aN.out E1.out E2.out E3.out gU.out.size ?_);intro v' w1 hown hgrow _;have HB7:Hid (Below W4.heap.size W4 w1):=gU.out.grown hgrow gU.out.size (fun j hj=>(HO6.out.lt j hj).1);have HO7:Hid (ch.wk w1 W4.heap.size v' (Lw++[((j:Int),y)])):=by
      refine ch.wk.snoc (x:=((j:Int),y)) ?_;show w1.ownsRow _ _ _ v' (Lw.length+1) (ch.kM Lw++[.int .i64 (j:Int),.string (str y)]);rw[av.out];exact hown
     clear hown hgrow;go_wp2_with fail;go_roundw;case rel=>exact⟨j+1,by omega,by go_num,by rw[q0c.out];exact HO7.out,HB7.out⟩
     case measure=>simp[intOf];omega
   ·obtain rfl:j=Q.length:=by omega
    have wZ:¬ (Q.length:Int)<(Q.length:Int):=by omega
    obtain⟨a,c,hv,h1,h2⟩:=qnK HO.out (ch.pg.qaY P Q Q.length (by have:=HQL.out;omega));have HV2:=QH hv;have H1:=QH h1;have H2:=QH h2;clear hv h1 h2;go_wp2_with fail;go_ret2;rw[HC.out];exact⟨a,c,by rw[HV2.out];rfl,H1.out,fun b o e=>⟨Nat.le_trans zO.out.size (H2.out b o e).1,(H2.out b o e).2⟩,qc zO.out HB.out⟩
theorem wW (k:Int)(w:World):Calls prog 33 #[.pointer none,.int .i64 k] w (ch.aX ([],1) w):=by
 have xz:=QH (yb w);go_enter func33,ntmps33;go_wp2_with fail;refine xz.out.mono ?_;rintro e W1 ⟨rfl,rfl⟩;go_wp2_with fail;go_ret2;exact⟨none,0,rfl,ch.aD.nil _ _,ib.ui.none _ _,Below.refl _ _⟩
end Go.Proofs.YtdagdllomphidaaGreatDoor.vt.pg
namespace Go.Proofs.YtdagdllomphidaaGreatDoor.ch.pg
open _root_.Go.Proofs.Tryz Go Go.RowKit Go.Sort ib
theorem qnL{t:TypeId}{d:TypeDesc}(h:prog.underlying t=some d)(hd:(match d with | .struct _ | .array _ _=>true|_=>false)=true)(w:World):(isAgg t).run prog w=.ok true w:=by
 unfold isAgg;rw[Sem.run_bind,run_underlying h w];cases d <;> simp_all
theorem wQ {t:TypeId}{n:Nat}(h:(prog.info? t).map (·.size)=some n)(w:World):(sizeOf t).run prog w=.ok n w:=by
 cases hq:prog.info? t with
 | none=>simp[hq]at h
 | some i =>
  simp[hq]at h;simp[sizeOf,typeInfo,hq,h]
theorem qd0{t:TypeId}{d:TypeDesc}{n:Nat}(h:prog.underlying t=some d)(hd:(match d with | .struct _ | .array _ _=>true|_=>false)=true)(hn:(prog.info? t).map (·.size)=some n)
    (cs xs:List Value) (o:Nat) (hx:(cs.drop o).take n=xs) (w:World):(part t cs.toArray o).run prog w=.ok (.agg xs.toArray) w:=by
 have ha:=qnL h hd w;have hz:=wQ hn w;have he:cs.toArray.extract o (o+n)=xs.toArray:=by
  apply Array.ext';rw[Array.toList_extract,List.extract_eq_take_drop,Nat.add_sub_cancel_left];exact hx
 simp only[part,Sem.run_bind,ha,Result.andThen_ok,if_true,hz,Sem.run_pure,he]
theorem qnM:(prog.info? 55).map (·.size)=some 2:=by kernel_rfl
theorem l7 {n:Nat}(s:Sn)(h:qN n s.bs)(h8:n≤8)(w:World):(Instr.field 131 (.agg (sc s).toArray) 0).run prog w=.ok (.agg (vc s.bs).toArray) w:=by
 have hp:=qd0 (t:=84) underlying84 rfl kW (sc s) (vc s.bs) 0 (by
  unfold sc;rw[List.drop_zero,List.take_left' (zX h h8)]) w
 simp[Instr.field,run_underlying underlying131,Result.andThen,asAgg,hp]
theorem qnN{n:Nat}(s:Sn)(h:qN n s.bs)(h8:n≤8)(w:World):(Instr.field 131 (.agg (sc s).toArray) 1).run prog w=.ok (gv s.g) w:=by
 have hp:=qd0 (t:=55) underlying55 rfl qnM (sc s) [.int .u64 (s.g.1:Int),.int .u64 (s.g.2:Int)] 256 (by
  unfold sc;rw[List.drop_left' (zX h h8)];rfl) w
 simp[Instr.field,run_underlying underlying131,Result.andThen,asAgg,hp,gv]
theorem qhq{own:Nat→Prop}{w:World}{p:Nat}{d:CH}(h:lX own w p d)(g:Gd):Calls prog 68 #[.pointer (some ⟨p,0,none⟩),gv g] w fun e w'=>e=.returned (.int .i64 (d.may g))∧Below w.heap.size w w':=by
 obtain⟨h0,v,hr⟩:=h;have hb0:=(Below.refl w.heap.size w).alloc (Nat.le_refl _) (.cells #[.int .u64 (g.1:Int),.int .u64 (g.2:Int)] 55);have hr1:=hr.below hb0;obtain⟨W,hW⟩:=QE (w.alloc (.cells #[.int .u64 (g.1:Int),.int .u64 (g.2:Int)] 55));have q0:W.cell? ⟨w.heap.size,0,none⟩=some (.int .u64 (g.1:Int)):=by rw[← hW];exact(qf.new w _ _).cell 0
 have q1:W.cell? ⟨w.heap.size,1,none⟩=some (.int .u64 (g.2:Int)):=by rw[← hW];exact(qf.new w _ _).cell 1
 rw[hW]at hr1 hb0;have q2:=hr1.c2 h0;have HB:=QH hb0;have HW:=QH hW;have HR:=QH hr1;have yr:=QH h0;have e0:∀d os,(grow (redrawn W d) os).cell? ⟨w.heap.size,0,none⟩=some (.int .u64 (g.1:Int)):=fun d os=>cell_regrown q0 d os;have e1:∀d os,(grow (redrawn W d) os).cell? ⟨w.heap.size,1,none⟩=some (.int .u64 (g.2:Int)):=fun d os=>cell_regrown q1 d os;have e2:∀d os,(grow (redrawn W d) os).cell? ⟨p,257,none⟩=some v:=fun d os=>cell_regrown q2 d os;have qd1:=h0.few;have cL:∀b os,Calls prog 69 #[v] (grow (redrawn W b) os) fun e w''=>e=.returned (.agg (sc (xC d.live.length d.qa)).toArray)∧∃q:Regrown,w''=grow (redrawn W q.d) q.os :=
  fun b os=>Calls.regrown_of (fh (HR.out.row.below (below_regrown W b os)) yr.out.qa yr.out.n8 qd1)
 have cA:∀b os,Calls prog 115 #[gv g,gv d.last] (grow (redrawn W b) os) fun e w''=>e=.returned (.bool (above g d.last))∧∃q:Regrown,w''=grow (redrawn W q.d) q.os :=
  fun b os=>Calls.regrown_of (aq g d.last _)
 have rB:=qnN (xC d.live.length d.qa) (dW h0.qa) h0.n8;rw[qqC]at rB;obtain⟨L,hL⟩:=QE (gv d.last);obtain⟨S,hS⟩:=QE ((sc (xC d.live.length d.qa)).toArray);rw[hL]at cA rB;rw[hS]at cL rB;have HM:Hid (d.may g=if above g d.last then(if 20≤d.qa.length then 3 else 0)else 2):=rfl;obtain⟨m,hm⟩:=QE (d.may g);rw[hm]at HM ⊢;generalize above g d.last=q at *;obtain⟨A,c,rfl,hlc,_,_⟩:=xy hr1.row h0.qa h0.n8;clear q0 q1 q2 hW hb0 hL hm hr1 hr h0 hS;unfold gv at cA ⊢;go_enter func68,ntmps68;go_wp2_with fail;rw[HW.out];refine wp_region_quiet_below vF (by kernel_rfl) ?_;repeat (any_goals (first|go_big_quiet_step (first|exact cL _ _|exact cA _ _)|quiet_step (first|exact cL _ _|exact cA _ _)))
 refine wpQuiet_nil ?_;intro _ hw';obtain⟨⟨dq,osq⟩,hw''⟩:=hw';subst hw'';have c2:=e2 dq osq;have hb:=below_regrown W dq osq;have qy:=QH (HB.out.trans (hb.mono HB.out.size));clear hb e0 e1 e2 cL cA HR HB HW;generalize grow (redrawn W dq) osq=W2 at *;cases q with
 | false =>
  have HT:Hid (m=2):=by unfold Hid;rw[HM.out];rfl
  clear HM;go_wp2_with fail;go_ret;exact⟨by rw[HT.out];rfl,qy.out⟩
 | true =>
  by_cases hx:(20:Int)≤(d.qa.length:Int)
  ·have HT:Hid (m=3):=by unfold Hid;rw[HM.out,if_pos rfl,if_pos (by omega)]
   clear HM;go_wp2_with fail;go_ret;exact⟨by rw[HT.out];rfl,qy.out⟩
  ·have HT:Hid (m=0):=by unfold Hid;rw[HM.out,if_pos rfl,if_neg (by omega)]
   clear HM;go_wp2_with fail;go_ret;exact⟨by rw[HT.out];rfl,qy.out⟩
theorem qd2(g:Gd)(w:World):Calls prog 68 #[.pointer none,gv g] w (xP 1 w):=by
 have HB:=QH ((Below.refl w.heap.size w).alloc (Nat.le_refl _) (.cells #[.int .u64 (g.1:Int),.int .u64 (g.2:Int)] 55));unfold gv;go_enter func68,ntmps68;go_wp2_with fail;go_ret;exact⟨rfl,HB.out⟩
theorem qd3{d:CH}(h:d.ok)(s:Sn)(hl:d.qa.length<20)(hs:qN d.live.length s.bs)(hg:zZ s.g):CH.ok ⟨d.live,d.qa++[s]⟩:=by
 refine⟨h.live,h.n1,h.n8,fun x hx=>?_,?_,fun x hx=>?_⟩
 ·rcases List.mem_append.1 hx with hx|hx
  ·exact h.qa x hx
  ·obtain rfl:x=s:=by simpa using hx
   exact hs
 ·show(d.qa++[s]).length≤20;rw[List.length_append,List.length_singleton];omega
 ·rcases List.mem_append.1 hx with hx|hx
  ·exact h.fA x hx
  ·obtain rfl:x=s:=by simpa using hx
   exact hg
theorem jy.qsM{w w1:World}{own:Nat→Prop}{p:Nat}{v v':Value}{d:CH}{l:List Sn}(h:jy w own p v d)(hb:Below w.heap.size w w1)(hr:uM w1 v' l)(ho:d.ok)(hn:∀k,v'.ownBlock=some k→own k∨w.heap.size≤k) :
    jy (w1.setCell ⟨p,257,none⟩ v') (fun j=>own j∨v'.ownBlock=some j) p v' ⟨d.live,l⟩:=by
 have hb1:=h.blk.of_block (hb.block p h.blk.lt);have hp:=hr.ne hb1 (by decide);refine⟨?_,hr.of_block (fun k hk=>qz _ _ _ _ _ (hp k hk)),.inl h.op,fun k hk=>.inr hk,fun j hj=>?_⟩
 ·have:=hb1.qo 257 v';rw[lW ho.live ho.n8]at this;exact this
 ·have e:(w1.setCell ⟨p,257,none⟩ v').heap.size=w1.heap.size:=by simp[World.setCell]
  rw[e];rcases hj with hj|hj
  ·exact Nat.lt_of_lt_of_le (h.low j hj) hb.size
  ·exact hr.lt j hj
def PuG (p:Nat)(A:Option Addr)(n c B:Nat)(S:List Value):Nat→Value→World→Prop
 | 0,v,_=>v=.pointer (some ⟨p,0,none⟩)
 | 1,v,_=>v=.pointer (some ⟨p,0,none⟩)
 | 2,v,_=>v=.pointer (some ⟨p,0,none⟩)
 | 3,v,_=>v=.pointer (some ⟨p,257,none⟩)
 | 4,v,_=>v=.slice A n c
 | 5,v,_=>v=.int .i64 (n:Int)
 | 6,v,_=>v=.int .i64 (n:Int)
 | 7,v,_=>v=.slice A n n
 | 8,v,_=>v=.agg S.toArray
 | 9,v,w=>∃b,v=.slice (some ⟨b,0,none⟩) 1 1∧qf w b 131 S.toArray∧B≤b
 | _,_,_=>True
theorem qnO(p:Nat)(A:Option Addr)(n c B:Nat)(S:List Value)(i:Nat)(v:Value)(w w':World)(hi:i<10)(h:PuG p A n c B S i v w)(hb:Below w.heap.size w w'):PuG p A n c B S i v w':=by
 match i,hi,h with
 | 0,_,h | 1,_,h | 2,_,h | 3,_,h | 4,_,h | 5,_,h | 6,_,h | 7,_,h | 8,_,h=>exact h
 | 9,_,⟨b,h1,h2,h3⟩=>exact⟨b,h1,h2.below hb,h3⟩
theorem jc {own:Nat→Prop}{w:World}{p:Nat}{v:Value}{d:CH}(h:jy w own p v d)(ho:d.ok)(hl:d.qa.length<20)(s:Sn)(hs:qN d.live.length s.bs) :
    Calls prog 72 #[.pointer (some ⟨p,0,none⟩),.agg (sc s).toArray] w fun e w'=>e=.returned (.tuple #[])∧∃v' jM,jy w' jM p v' ⟨d.live,d.qa++[s]⟩∧qx (fun j=>j=p) w w'∧∀j,jM j→own j∨w.heap.size≤j:=by
 obtain⟨i0,hi,hz0,hz1,hz2⟩:=info_parts aK;have fE:Hid ((sc s).length=259):=yO hs ho.n8;have av:=QH (iQ s);have kI:=QH (qjj d.qa s);have HLEN:=QH (pI ho.qa ho.n8);obtain⟨S,hS⟩:=QE (sc s);rw[hS]at fE av kI ⊢;have hb0:=(Below.refl w.heap.size w).alloc (Nat.le_refl _) (.cells S.toArray 131);have hr1:=h.below hb0;have HBX:Hid (qf (w.alloc (.cells S.toArray 131)) w.heap.size 131 S.toArray):=qf.new _ _ _;have HB:=QH hb0;have HR:=QH hr1;have cm:=QH h;have HO:=QH ho;obtain⟨A,c,rfl,hlc,hA,_⟩:=xy h.row ho.qa ho.n8;have hcl:=hr1.row.cells;have HA:=QH hcl.2.1;have HCE:=QH hcl.2.2;have c2:=hr1.c2 ho;have hci:((d.qa.length:Nat):Int)≤(c:Int):=by omega
 have HL:=QH hl;clear h hb0 hr1 hcl hA hS ho hl hs;have qdv:=HR.out.blk.lt;go_enter func72,ntmps72;go_wp2_with (refine qg rfl (eK 131 (.tmp 1) S.toArray rfl rfl (by rw[yK,List.size_toArray,fE.out]) (jw av.out)) ?_);have C2:=QH c2;obtain⟨n,hn⟩:=QE d.qa.length;have HN:=QH hn;rw[hn]at HA HL HLEN hlc hci C2 c2 ⊢;clear hn c2;obtain⟨W1,hW1⟩:=QE (w.alloc (.cells S.toArray 131));rw[hW1]at HBX HB HR HCE C2 qdv ⊢;clear hW1;refine vg (by kernel_rfl) 10 [10,11,12,13,14,15,16,17,18,19] (by kernel_rfl) (PuG p A n c W1.heap.size S) _ (.pointer (some ⟨p,0,none⟩)) rfl (by decide) (by kernel_rfl) (by kernel_rfl) (by kernel_rfl) (fun _ _ _ h=>h) (Or.inl ⟨by rfl,fun w=>by go_simp⟩) (fun _=>rfl) (qnO _ _ _ _ _ _) ?_ ?_
 ·intro i o vs ρ W zcm hop hρ hfn hb hG;have t0:ρ (.tmp 0)=.pointer (some ⟨p,0,none⟩):=hρ.out 0 rfl;have t3:ρ (.tmp 3)=.pointer (some ⟨w.heap.size,0,none⟩):=hρ.out 3 rfl;have t4:ρ (.tmp 4)=.int .i64 (n:Int):=hρ.out 4 rfl;have sw:=hρ.at_ 11 1 rfl;have s12:=hρ.at_ 12 2 rfl;have s13:=hρ.at_ 13 3 rfl;have s14:=hρ.at_ 14 4 rfl;have s15:=hρ.at_ 15 5 rfl;have s16:=hρ.at_ 16 6 rfl;have s18:=hρ.at_ 18 8 rfl;have c2:W.cell? ⟨p,257,none⟩=some (.slice A n c):=(hb.cell (p:=⟨p,257,none⟩) qdv).trans C2.out;rcases i with _|_|_|_|_|_|_|_|_|_|i;all_goals (first|omega|skip)
  all_goals simp only[QA,QB,QC,Option.some.injEq]at hop
  all_goals subst hop
  ·exact q9 (w':=W) (by unfold execOp;simp only[t0];go_simp) ⟨Below.refl _ _,rfl⟩
  ·exact q9 (w':=W) (by unfold execOp;simp only[t0];go_simp) ⟨Below.refl _ _,rfl⟩
  ·have g1:vs 1=_:=hG 1 (by kernel_rfl);exact q9 (w':=W) (by unfold execOp;simp only[sw,g1];go_simp) ⟨Below.refl _ _,rfl⟩
  ·have g2:vs 2=_:=hG 2 (by kernel_rfl);exact q9 (w':=W) (by unfold execOp;simp only[s12,g2];go_simp) ⟨Below.refl _ _,rfl⟩
  ·have g3:vs 3=_:=hG 3 (by kernel_rfl);exact q9 (w':=W) (by unfold execOp;simp only[s13,g3];go_simp) ⟨Below.refl _ _,rfl⟩
  ·exact q9 (w':=W) (by unfold execOp;simp only[t4];go_simp) ⟨Below.refl _ _,rfl⟩
  ·exact q9 (w':=W) (by unfold execOp;simp only[t4];go_simp) ⟨Below.refl _ _,rfl⟩
  ·have g4:vs 4=_:=hG 4 (by kernel_rfl);have g5:vs 5=_:=hG 5 (by kernel_rfl);have g6:vs 6=_:=hG 6 (by kernel_rfl);exact q9 (w':=W) (by unfold execOp;simp only[s14,g4,s15,g5,s16,g6];go_simp) ⟨Below.refl _ _,rfl⟩
  ·exact q9 (w':=W) (qH 131 (.tmp 3) rfl w.heap.size 0 t3 _ _ S _ _ (HBX.out.below hb) underlying131 rfl (by rw[yK,fE.out]) (fun j u hu=>by rw[Nat.zero_add];simpa using hu)) ⟨Below.refl _ _,rfl⟩
  ·have g8:vs 8=_:=hG 8 (by kernel_rfl);exact q9 (qmp 85 131 (.tmp 18) S.toArray 259 rfl (s18.trans g8) underlying85 i0 _ hi hz0 hz1 (by decide) (by decide) (by rw[List.size_toArray,fE.out])) ⟨(Below.refl _ W).alloc (Nat.le_refl _) _,W.heap.size,rfl,qf.new _ _ _,hb.size⟩
 ·intro vs W hb hG;have g0:vs 0=_:=hG 0 (by decide);have g7:vs 7=_:=hG 7 (by decide);obtain⟨bb,g9,yu,hbB⟩:=hG 9 (by decide);have B2:=QH (HB.out.trans (hb.mono HB.out.size));have jA:=QH (HR.out.below hb);have q0e:Hid (∀b,A=some b→∀j u,(uT d.qa)[j]?=some u→W.cell? (b.add j)=some u):=(jA.out.row.cells).2.2;have aN:Hid (∀j u,S[j]?=some u→W.cell? ((⟨bb,0,none⟩:Addr).add j)=some u):=fun j u hu=>by
   rw[addr_add,Nat.zero_add,yu.cell j];simpa using hu
  simp only[qW,qK,if_true];rw[g0,g7,g9];generalize vs 1=z1;generalize vs 2=z2;generalize vs 3=z3;generalize vs 4=z4;generalize vs 5=z5;generalize vs 6=z6;generalize vs 8=z8;clear hG g0 g7 g9 hb yu hbB;simp only[Act.put,List.setIfInBounds_toArray,List.set_cons_succ,List.set_cons_zero];refine qI (i:=10) (by kernel_rfl) rfl rfl ?_;refine uE (.tmp 17) (.tmp 19) 85 rfl 131 i0 _ 259 280 underlying85 hi hz0 hz1 hz2 A n (uT d.qa) rfl HLEN.out HA.out q0e.out ⟨bb,0,none⟩ 1 1 S rfl (by rw[fE.out]) aN.out (by decide) (by have:=HL.out;unfold maxLen;omega) (by have:=HL.out;omega) ?_;intro cap cur w1 hb1 zJ ht1 hc1 hc2 hsz;have HRW:Hid (uM w1 (.slice (some ⟨W.heap.size,0,none⟩) (n+1) cap) (d.qa++[s])):=by
   refine⟨some ⟨W.heap.size,0,none⟩,cap,?_,?_,hc2,.inr ⟨W.heap.size,cur,rfl,zJ,?_⟩⟩
   ·rw[List.length_append,HN.out];rfl
   ·rw[List.length_append,HN.out];exact hc1
   ·rw[List.length_append,HN.out,kI.out];exact ht1
  have HP:=QH (jy.qsM jA.out hb1 HRW.out HO.out (fun k hk=>by
   simp[Value.ownBlock]at hk;exact .inr (by omega)))
  have HBU:=QH (((qx.of_below (S:=fun j=>j=p) B2.out).trans (S':=fun _=>False) (qx.of_below hb1) (fun _ h=>h.elim)).setCell ⟨p,257,none⟩ (.slice (some ⟨W.heap.size,0,none⟩) (n+1) cap) (.inl rfl));have HOW:Hid (∀j,(own j∨(Value.slice (some ⟨W.heap.size,0,none⟩) (n+1) cap).ownBlock=some j)→own j∨w.heap.size≤j):=fun j hj=>by
   rcases hj with hj|hj
   ·exact .inl hj
   ·simp[Value.ownBlock]at hj;have:=B2.out.size;exact .inr (by omega)
  have f1:w1.frozen? ⟨p,257,none⟩=false:=(jA.out.blk.of_block (hb1.block p jA.out.blk.lt)).frozen 257;obtain⟨b1,q5r⟩:∃z,w1.cell? ⟨p,257,none⟩=some z:=⟨_,(hb1.cell (p:=⟨p,257,none⟩) jA.out.blk.lt).trans (jA.out.c2 HO.out)⟩;clear hb1 zJ ht1 hc1 hc2 hsz HRW q0e aN HCE;go_simp;refine qI (i:=11) (by kernel_rfl) rfl rfl ?_;go_simp;refine qI (i:=12) (by kernel_rfl) rfl rfl ?_;go_simp;refine qI (i:=13) (by kernel_rfl) rfl rfl ?_;go_simp;refine⟨by kernel_rfl,?_⟩;go_wp2_with fail
  go_end0
  exact⟨rfl,_,_,HP.out,HBU.out,HOW.out⟩
theorem qnP{w:World}{n gb:Nat}(s:Sn)(hs:qN n s.bs)(h8:n≤8)(g:Gd)(hgb:gb<w.heap.size)(q0:w.cell? ⟨gb,0,none⟩=some (.int .u64 (g.1:Int)))(q1:w.cell? ⟨gb,1,none⟩=some (.int .u64 (g.2:Int))) :
    Calls prog 126 #[.agg (sc s).toArray,.pointer (some ⟨gb,0,none⟩)] w fun e w'=>e=.returned (.bool (decide (s.g=g)))∧Below w.heap.size w w':=by
 have fE:Hid ((sc s).length=259):=yO hs h8;have av:=QH (iQ s);have h1:=qsz hs h8;have h2:=qs0 hs h8;have hq:=qnc s.g g;obtain⟨S,hS⟩:=QE (sc s);rw[hS]at fE av h1 h2 ⊢;have hb0:=(Below.refl w.heap.size w).alloc (Nat.le_refl _) (.cells S.toArray 131);have e0:(w.alloc (.cells S.toArray 131)).cell? ⟨w.heap.size,256,none⟩=some (.int .u64 (s.g.1:Int)):=by
  rw[(qf.new w 131 S.toArray).cell 256];simpa using h1
 have e1:(w.alloc (.cells S.toArray 131)).cell? ⟨w.heap.size,257,none⟩=some (.int .u64 (s.g.2:Int)):=by
  rw[(qf.new w 131 S.toArray).cell 257];simpa using h2
 have p0:=(hb0.cell (p:=⟨gb,0,none⟩) hgb).trans q0;have p1:=(hb0.cell (p:=⟨gb,1,none⟩) hgb).trans q1;have HB:=QH hb0;obtain⟨r,hr⟩:=QE (decide (s.g=g));rw[hr]at hq ⊢;generalize (s.g.1:Int)=x1 at *;generalize (s.g.2:Int)=x2 at *;generalize (g.1:Int)=y1 at *;generalize (g.2:Int)=y2 at *;obtain⟨b1,hb1⟩:=QE (x1 == y1);obtain⟨b2,hb2⟩:=QE (x2 == y2);rw[hb1,hb2]at hq;subst hq;clear hS h1 h2 hb0 hr hs;have E0:=QH e0;have E1:=QH e1;have P0:=QH p0;have P1:=QH p1;clear e0 e1 p0 p1 q0 q1;cases b1 <;> cases b2;all_goals
  go_enter func126,ntmps126;go_wp2_with (refine qg rfl (eK 131 (.tmp 0) S.toArray rfl rfl (by rw[yK,List.size_toArray,fE.out]) (jw av.out)) ?_;have e0:=E0.out;have e1:=E1.out;have p0:=P0.out;have p1:=P1.out;generalize w.alloc (.cells S.toArray 131)=W at *);go_ret;exact⟨rfl,HB.out⟩
def rW (l:List Sn)(g:Gd):Int:=match l.findIdx? fun s=>decide (s.g=g)with
 | none=>-1
 | some i=>(i:Int)
theorem qnQ{l:List Sn}{g:Gd}{k:Nat}(hk:k<l.length)(hg:l[k].g=g)(hb:∀j (h:j<l.length),j<k→l[j].g≠g):rW l g=(k:Int):=by
 unfold rW;have:(l.findIdx? fun s=>decide (s.g=g))=some k:=by
  rw[List.findIdx?_eq_some_iff_getElem];exact⟨hk,by simpa using hg,fun j hj=>by simpa using hb j (by omega) hj⟩
 rw[this]
theorem qnR{l:List Sn}{g:Gd}(hb:∀j (h:j<l.length),l[j].g≠g):rW l g = -1:=by
 unfold rW;have:(l.findIdx? fun s=>decide (s.g=g))=none:=by
  rw[List.findIdx?_eq_none_iff];intro s hs;obtain⟨j,hj,rfl⟩:=List.getElem_of_mem hs;simpa using hb j hj
 rw[this]
def q0f (l:List Sn)(g:Gd)(w:World)(i:Value)(wr:World):Prop :=
 ∃k:Nat,k≤l.length∧i=.int .i64 (k:Int)∧(∀j (h:j<l.length),j<k→l[j].g≠g)∧Below w.heap.size w wr
theorem qrh{w:World}{n gb:Nat}{v:Value}{l:List Sn}(h:uM w v l)(ho:∀s∈l,qN n s.bs)(h8:n≤8)(aY:l.length≤20)(g:Gd)(hgb:gb<w.heap.size)(q0:w.cell? ⟨gb,0,none⟩=some (.int .u64 (g.1:Int)))(q1:w.cell? ⟨gb,1,none⟩=some (.int .u64 (g.2:Int))) :
    Calls prog 125 #[v,.func (.func 126) #[] #[.pointer (some ⟨gb,0,none⟩)]] w fun e w'=>e=.returned (.int .i64 (rW l g))∧Below w.heap.size w w':=by
 obtain⟨A,c,rfl,hlc,hA,hx⟩:=xy h ho h8;have HX:=QH hx;have HQ0:=QH q0;have HQ1:=QH q1;have HO:=QH ho;have mV:=QH (fun k hk hg hb=>qnQ (l:=l) (g:=g) (k:=k) hk hg hb);have HRN:=QH (fun hb=>qnR (l:=l) (g:=g) hb);obtain⟨R,hR⟩:=QE (rW l g);rw[hR]at mV HRN ⊢;clear hx q0 q1 h hR ho;go_enter func125,ntmps125;go_wp2_with fail;go_loopw [8] (fun i wr=>q0f l g w i wr) (fun i _=>l.length-(intOf i).toNat);case atStart=>exact⟨0,Nat.zero_le _,rfl,fun j _ h=>absurd h (by omega),Below.refl _ _⟩
 case round =>
  obtain⟨k,hk,rfl,hno,hB⟩:=hrel;have uQ:=QH hno;have HB:=QH hB;clear hno hB;by_cases hlt:k<l.length
  ·have jD:(k:Int)<(l.length:Int):=by omega
   obtain⟨gr,cur,rfl,hb,hc⟩:=HX.out k hlt;have hso:=HO.out _ (List.getElem_mem hlt);have fE:Hid ((sc l[k]).length=259):=yO hso h8;have yD:=QH (hb.below HB.out);have HC:=QH hc;have aO:=QH (qnP l[k] hso h8 g (w:=wr) (Nat.lt_of_lt_of_le hgb HB.out.size) ((HB.out.cell (p:=⟨gb,0,none⟩) hgb).trans HQ0.out) ((HB.out.cell (p:=⟨gb,1,none⟩) hgb).trans HQ1.out));have HYE:=QH (fun(e:l[k].g=g)=>mV.out k hlt e uQ.out);have HNX:Hid (l[k].g≠g→∀j (h:j<l.length),j<k+1→l[j].g≠g):=fun hne j hj hjk=>by
    by_cases qmJ:j<k
    ·exact uQ.out j hj qmJ
    ·obtain rfl:j=k:=by omega
     exact hne
   clear hb hc hso;generalize sc l[k]=S at *;generalize l[k].g=gk at *;go_wp2_with (refine qg rfl (qH 131 (.tmp 14) rfl gr (k*259) rfl _ cur S _ _ yD.out underlying131 rfl (by rw[yK,fE.out]) HC.out) ?_);refine aO.out.mono ?_;rintro e W1 ⟨rfl,hb1⟩;have qP:=QH (HB.out.trans (hb1.mono HB.out.size));clear hb1;by_cases hg:gk=g
   ·rw[decide_eq_true hg];have HR:=QH (HYE.out hg);clear hg HYE HNX aO;go_wp2_with fail;go_ret;rw[HR.out];exact⟨rfl,qP.out⟩
   ·rw[decide_eq_false hg];have HN:=QH (HNX.out hg);clear hg HYE HNX aO;go_wp2_with fail;go_roundw;case rel=>exact⟨k+1,by omega,by go_num,HN.out,qP.out⟩
    case measure=>simp[intOf];omega
  ·have jD:¬ (k:Int)<(l.length:Int):=by omega
   have HR:=QH (HRN.out (fun j hj=>uQ.out j hj (by omega)));go_wp2_with fail;go_ret;rw[HR.out];exact⟨rfl,HB.out⟩
def dZ (d:CH)(g:Gd):Int × Int:=match d.find g with
 | none=>(0,5)
 | some i=>match d.qa[i]? with
  | none=>(0,5)
  | some s=>if s.hid then(0,14)else((i:Int),0)
theorem qjC(d:CH)(g:Gd):(rW d.qa g = -1∧dZ d g=(0,5))∨∃i s,rW d.qa g=((i:Nat):Int)∧i<d.qa.length∧d.qa[i]?=some s∧dZ d g=if s.hid then(0,14)else((i:Int),0):=by
 unfold rW dZ CH.find;cases hf:d.qa.findIdx? fun s=>decide (s.g=g)with
 | none=>exact .inl ⟨rfl,rfl⟩
 | some i =>
  have hi:=(List.findIdx?_eq_some_iff_getElem.1 hf).1;refine .inr ⟨i,d.qa[i],rfl,hi,List.getElem?_eq_getElem hi,?_⟩;show(match d.qa[i]? with
   | none=>((0:Int),(5:Int))
   | some s=>if s.hid then(0,14)else((i:Int),0))=_
  rw[List.getElem?_eq_getElem hi]
theorem mf (d:CH)(g:Gd):(∃c,c≠0∧dZ d g=(0,c)∧d.kV g=(d,c)∧d.read g=([],c)) ∨
    ∃(i:Nat) (s:Sn),dZ d g=((i:Int),0)∧i<d.qa.length∧d.qa[i]?=some s∧d.kV g=(⟨d.live,xE d.qa i⟩,0)∧d.read g=(s.bs,0):=by
 unfold dZ CH.kV CH.read;cases hf:d.find g with
 | none=>exact .inl ⟨5,by decide,rfl,rfl,rfl⟩
 | some i =>
  dsimp only;have hi:=(List.findIdx?_eq_some_iff_getElem.1 hf).1;rw[List.getElem?_eq_getElem hi];dsimp only;cases hh:d.qa[i].hid with
  | true=>exact .inl ⟨14,by decide,by simp,by simp,by simp⟩
  | false=>exact .inr ⟨i,d.qa[i],by simp,hi,List.getElem?_eq_getElem hi,by simp,by simp⟩
theorem jJ {own:Nat→Prop}{w:World}{p:Nat}{d:CH}(h:lX own w p d)(g:Gd):Calls prog 81 #[.pointer (some ⟨p,0,none⟩),gv g] w fun e w'=>e=.returned (.tuple #[.int .i64 (dZ d g).1,.int .i64 (dZ d g).2])∧Below w.heap.size w w':=by
 obtain⟨h0,v,hr⟩:=h;have hb0:=(Below.refl w.heap.size w).alloc (Nat.le_refl _) (.cells #[.int .u64 (g.1:Int),.int .u64 (g.2:Int)] 55);have hr1:=hr.below hb0;have q0:(w.alloc (.cells #[.int .u64 (g.1:Int),.int .u64 (g.2:Int)] 55)).cell? ⟨w.heap.size,0,none⟩=some (.int .u64 (g.1:Int)):=(qf.new w _ _).cell 0;have q1:(w.alloc (.cells #[.int .u64 (g.1:Int),.int .u64 (g.2:Int)] 55)).cell? ⟨w.heap.size,1,none⟩=some (.int .u64 (g.2:Int)):=(qf.new w _ _).cell 1;have HI:=QH (qrh hr1.row h0.qa h0.n8 h0.few g (by simp) q0 q1);have q2:=hr1.c2 h0;have ry:=QH (qjC d g);have HB:=QH hb0;have HR:=QH hr1;have yr:=QH h0;obtain⟨R,hR⟩:=QE (dZ d g);rw[hR]at ry ⊢;obtain⟨X,hX⟩:=QE (rW d.qa g);rw[hX]at ry HI;have qd1:=h0.few;have qdv:=HR.out.blk.lt;obtain⟨A,c,rfl,hlc,_,_⟩:=xy hr1.row h0.qa h0.n8;clear q0 q1 hb0 hr1 hr h0 hR hX;unfold gv;go_enter func81,ntmps81;go_wp2_with fail;refine HI.out.mono ?_;rintro e W1 ⟨rfl,hb1⟩;have qP:=QH (HB.out.trans (hb1.mono HB.out.size));have jz:=QH (HR.out.below hb1);clear hb1 HI q2 HB HR;rcases ry.out with⟨rfl,hf⟩|⟨i,s,rfl,cy,hs,hf⟩
 ·have HF:=QH hf;clear hf ry;go_wp2_with fail;go_ret2;rw[HF.out];exact⟨rfl,qP.out⟩
 ·have HF:=QH hf;obtain⟨A2,c3,e,_,_,hx⟩:=xy jz.out.row yr.out.qa yr.out.n8;simp only[Value.slice.injEq]at e;obtain⟨rfl,_,rfl⟩:=e;obtain⟨gr,cur,rfl,hb,hc⟩:=hx i cy;obtain rfl:d.qa[i]=s:=by
   rw[List.getElem?_eq_getElem cy]at hs;exact Option.some.inj hs
  have hso:=yr.out.qa _ (List.getElem_mem cy);have c3:W1.cell? ⟨gr,i*259+258,none⟩=some (.bool d.qa[i].hid):=by
   rw[hb.cell];exact hc 258 _ (quT hso yr.out.n8)
  have q2:=jz.out.c2 yr.out;have hii:(i:Int)<(d.qa.length:Int):=by omega
  have hin:¬ (i:Int)<0:=by omega
  generalize d.qa[i].hid=hd at *;clear hf ry hx hb hc hso hs;cases hd with
  | true =>
   have HF2:Hid (R=(0,14)):=by unfold Hid;simpa using HF.out
   go_wp2_with fail;go_ret2;rw[HF2.out];exact⟨rfl,qP.out⟩
  | false =>
   have HF2:Hid (R=((i:Int),0)):=by unfold Hid;simpa using HF.out
   go_wp2_with fail;go_ret2;rw[HF2.out];exact⟨rfl,qP.out⟩
theorem tK (g:Gd)(w:World):Calls prog 81 #[.pointer none,gv g] w fun e w'=>e=.returned (.tuple #[.int .i64 0,.int .i64 1])∧Below w.heap.size w w':=by
 have HB:=QH ((Below.refl w.heap.size w).alloc (Nat.le_refl _) (.cells #[.int .u64 (g.1:Int),.int .u64 (g.2:Int)] 55));unfold gv;go_enter func81,ntmps81;go_wp2_with fail;go_ret2;exact⟨rfl,HB.out⟩
theorem uP {own:Nat→Prop}{w w':World}{p:Nat}{d:CH}{r:Int}{e:Ending}(h:lX own w p d)(hb:Below w.heap.size w w')(he:e=.returned (.int .i64 r)):Aft lX own p (d,r) w e w'∧qx (fun j=>j=p) w w':=by
 obtain⟨h0,v,h1⟩:=h;exact⟨⟨he,own,⟨h0,v,h1.below hb⟩,qx.of_below hb,fun j hj=>.inl hj⟩,qx.of_below hb⟩
theorem qge(n:Nat)(h8:n≤8):qE n (vV n) (.slice none 0 0)=qE n [] (.slice none 0 0):=by
 unfold qE;rw[qhh n h8]
theorem qd4{ρ:Operand→Value}{o:Oper}{w:World}(x:Operand)(n:Nat)(ho:o.op=.build 87 #[(0,x)])(hx:ρ x=.int .i64 (n:Int)) :
    (execOp ρ o).run prog w=.ok (.value (.agg (qE n [] (.slice none 0 0)).toArray)) w:=by
 obtain⟨i0,hi,hz0,_,_⟩:=info_parts qhi;have hz:∀w,(zeroValue 87).run prog w=.ok (.agg (qE 0 [] (.slice none 0 0)).toArray) w:=fun w=>by simp[zeroValue,typeInfo,hi,hz0]
 have hb:(Instr.build 87 #[(0,.int .i64 (n:Int))]).run prog w=.ok (.agg (qE n [] (.slice none 0 0)).toArray) w:=by
  have e:(qE n [] (.slice none 0 0)).toArray=(qE 0 [] (.slice none 0 0)).toArray.set! 0 (.int .i64 (n:Int)):=rfl;rw[e];have hne:(qE 0 [] (.slice none 0 0)).toArray ≠ #[]:=by simp[qE]
  generalize (qE 0 [] (.slice none 0 0)).toArray=z0 at *;simp[Instr.build,hz,Result.andThen,go_sem,Value.cells];rw[if_neg hne];rfl
 simp[execOp,ho,hx,hb,Result.andThen]
theorem ra (n:Nat)(l:List Bt)(v:Value)(hv:v.oneCell'=true):∀u∈qE n l v,u.oneCell'=true:=by
 intro u hu;unfold qE at hu;simp only[List.mem_cons,List.mem_append,List.not_mem_nil,or_false]at hu;rcases hu with rfl|hu|rfl
 ·rfl
 ·exact pH l u hu
 ·exact hv
theorem oG (b:Int)(w:World)(hb:yS b)(h:b<1∨8<b):Calls prog 10 #[.int .i64 b] w fun e w'=>e=.returned (.pointer none)∧Below w.heap.size w w':=by
 rcases h with h|h
 ·go_enter func10,ntmps10;go_wp2_with fail;go_ret;exact⟨rfl,Below.refl _ _⟩
 ·have h2:¬ b<1:=by omega
  go_enter func10,ntmps10;go_wp2_with fail;go_ret;exact⟨rfl,Below.refl _ _⟩
def q0g (n:Nat)(w:World)(e:Ending)(w':World):Prop:=∃p own,e=.returned (.pointer (some ⟨p,0,none⟩))∧lX own w' p (kO n)∧Below w.heap.size w w'∧∀j,own j→w.heap.size≤j
theorem ux (n:Nat)(w:World)(h1:1≤n)(h8:n≤8):Calls prog 10 #[.int .i64 (n:Int)] w (q0g n w):=by
 have hi1:¬ (n:Int)<1:=by omega
 have hi8:¬ (8:Int)<(n:Int):=by omega
 have HC:=QH (ra n [] (.slice none 0 0) rfl);have HL:Hid ((qE n [] (.slice none 0 0)).length=258):=kd (n:=0) ⟨rfl,fun v hv=>by simp at hv⟩ (by omega);have HE:=QH (qge n h8);obtain⟨C,hC⟩:=QE (qE n [] (.slice none 0 0));have HCC:=QH hC;rw[hC]at HC HL HE;clear hC;go_enter func10,ntmps10;go_wp2_with (first|(refine qg rfl (qd4 _ n rfl rfl) ?_;rw[HCC.out])|(refine qg rfl (eK 87 (.tmp 10) C.toArray rfl rfl (by rw[qbb,List.size_toArray,HL.out]) (jw HC.out)) ?_));go_ret;refine⟨w.heap.size,fun j=>j=w.heap.size,rfl,⟨?_,.slice none 0 0,?_,?_,rfl,(fun k hk=>by cases hk),fun k hk=>by rw[hk];simp⟩,(Below.refl w.heap.size w).alloc (Nat.le_refl _) _,fun j hj=>by omega⟩
 ·have hl:(kO n).live.length=n:=by simp[kO,vV]
  exact⟨by rw[hl];exact qa4 n,by rw[hl];exact h1,by rw[hl];exact h8,fun s hs=>by simp[kO]at hs,by simp[kO],fun s hs=>by simp[kO]at hs⟩
 ·have hl:(kO n).live.length=n:=by simp[kO,vV]
  show qf _ _ _ (qE (kO n).live.length (vV n) (.slice none 0 0)).toArray;rw[hl,HE.out];exact qf.new _ _ _
 ·exact⟨none,0,rfl,Nat.le_refl _,by unfold maxLen;omega,.inl ⟨rfl,rfl,rfl⟩⟩
def qv2 (own:Nat→Prop)(p:Nat)(d:CH)(w:World)(e:Ending)(w':World):Prop:=∃q jM,e=.returned (.pointer (some ⟨q,0,none⟩))∧lX jM w' q d∧Below w.heap.size w w'∧∀j,jM j→(own j∧j≠p)∨w.heap.size≤j
theorem pZ {own:Nat→Prop}{w:World}{p:Nat}{d:CH}(h:lX own w p d):Calls prog 14 #[.pointer (some ⟨p,0,none⟩)] w (qv2 own p d w):=by
 obtain⟨i0,hi,hz0,_,_⟩:=info_parts qhi;have HI:=QH hi;have HZ0:=QH hz0;have HIS:=QH h;obtain⟨h0,v,hr⟩:=h;have HV:=QH hr.vp;have HR:=QH hr;have yr:=QH h0;have HL:Hid ((qE d.live.length d.live v).length=258):=kd h0.live h0.n8;have hv1:v.oneCell'=true:=by
  obtain⟨A,c,rfl,_⟩:=hr.row;rfl
 have HC:=QH (ra d.live.length d.live v hv1);have HB:=QH hr.blk;have HCC:Hid (∃C,qE d.live.length d.live v=C):=⟨_,rfl⟩;obtain⟨C,hC⟩:=HCC.out;have HE:=QH hC;rw[hC]at HL HC HB;have HZL:Hid ((qE 0 [] (.slice none 0 0)).length=258):=kd (n:=0) ⟨rfl,fun v hv=>by simp at hv⟩ (by omega);obtain⟨Z,hZ⟩:=QE (qE 0 [] (.slice none 0 0));rw[hZ]at HZ0 HZL;clear hC HCC hr h0 hv1 hi hz0 hZ;go_enter func14,ntmps14;go_wp2_with (first|(refine qg rfl (qH 87 (.tmp 7) rfl p 0 rfl _ _ C _ _ HB.out underlying87 rfl (by rw[qbb,HL.out]) (fun j u hu=>by rw[Nat.zero_add];simpa using hu)) ?_)|(refine qg rfl (jY 87 i0 Z.toArray rfl HI.out HZ0.out) ?_)|(refine wpList_skip rfl (zr w 87 Z.toArray C.toArray (.tmp 3) (.tmp 8) rfl rfl rfl (by rw[qbb,List.size_toArray,HL.out]) (by rw[List.size_toArray,List.size_toArray,HL.out,HZL.out]) (jw HC.out)) ?_));go_ret;have hb:Below w.heap.size w (w.alloc (.cells C.toArray 87)):=(Below.refl w.heap.size w).alloc (Nat.le_refl _) _;refine⟨w.heap.size,fun j=>(own j∧j≠p)∨j=w.heap.size,rfl,⟨yr.out,v,?_,HR.out.row.below hb,.inr rfl,fun k hk=>.inl ⟨HR.out.om k hk,HV.out k hk⟩,fun k hk=>?_⟩,hb,fun j hj=>?_⟩
 ·rw[HE.out];exact qf.new _ _ _
 ·rcases hk with hk|hk
  ·exact Nat.lt_of_lt_of_le (HR.out.low k hk.1) hb.size
  ·rw[hk];simp
 ·rcases hj with hj|hj
  ·exact .inl hj
  ·exact .inr (by omega)
theorem rf {own:Nat→Prop}{w:World}{p:Nat}{d:CH}(k:Int)(s:Bt)(h:lX own w p d):Calls prog 37 #[.pointer (some ⟨p,0,none⟩),.int .i64 k,.string (str s)] w fun e w'=>Aft lX own p (d.write k s) w e w'∧qx (fun j=>j=p) w w':=by
 have HIS:=QH h;obtain⟨h0,v,hr⟩:=h;have HT:=QH (wm hr.c0 k s);by_cases hg:0≤k∧k<(d.live.length:Int)∧s.length=32
 ·rw[decide_eq_true hg]at HT;obtain⟨m,rfl⟩:∃m:Nat,k=(m:Int):=⟨k.toNat,by omega⟩;have hm:m<d.live.length:=by omega
  have hw:d.write (m:Int) s=(⟨d.live.set m s,d.qa⟩,0):=by
   unfold CH.write;rw[if_neg (by omega)];rfl
  rw[hw];have HR:=QH hr;have yr:=QH h0;have HHM:=QH hm;have HS:=QH hg.2.2;have HN8:=QH h0.n8;clear hg hw hr h0 hm;go_enter func37,ntmps37;go_wp2_with fail;refine HT.out.mono ?_;rintro e W1 ⟨rfl,hb1⟩;have qP:=QH hb1;have jz:=QH (HR.out.below hb1);clear hb1 HT;go_wp2_with fail;refine(qhj jz.out.blk (o:=1) (by rw[List.size_toArray,kd yr.out.live yr.out.n8];omega) m (by have:=HHM.out;have:=HN8.out;omega) s HS.out).mono ?_;rintro e W2 ⟨rfl,hW2⟩;have HW2:=QH hW2;clear hW2;go_wp2_with fail;go_ret;have bu:=qda (m:=d.live.length) (v:=v) yr.out.live yr.out.n8 m s HHM.out;have hb:=jz.out.blk;have hbu:=uH W1 p (qE d.live.length (d.live.set m s) v).toArray;have hk2:=uG (c:=(qE d.live.length (d.live.set m s) v).toArray) hb;have e2:W2=W1.setRow p (qE d.live.length (d.live.set m s) v).toArray:=by
   rw[HW2.out,← bu]
  rw[← e2]at hbu hk2;have hl:(d.live.set m s).length=d.live.length:=List.length_set;have lA:qx (fun j=>j=p) w W2:=(qx.of_below (S:=fun j=>j=p) qP.out).trans hbu (fun _ h=>.inl h);refine⟨⟨rfl,own,⟨?_,v,?_,?_,jz.out.op,jz.out.om,fun j hj=>Nat.lt_of_lt_of_le (jz.out.low j hj) hbu.size⟩,lA.mono (fun j hj=>by rw[hj];exact HR.out.op),fun j hj=>.inl hj⟩,lA⟩
  ·have h0:=yr.out;have hvo:qN d.live.length (d.live.set m s):=qlV h0.live HS.out;exact⟨by rw[hl];exact hvo,by rw[hl];exact h0.n1,by rw[hl];exact h0.n8,by intro x hx;rw[hl];exact h0.qa x hx,h0.few,h0.fA⟩
  ·show qf W2 p _ (qE (d.live.set m s).length (d.live.set m s) v).toArray;rw[hl];exact hk2
  ·exact jz.out.row.of_block (fun j hj=>hbu.block j (jz.out.row.lt j hj) (jz.out.vp j hj))
 ·rw[decide_eq_false hg]at HT;have hw:d.write k s=(d,2):=by
   unfold CH.write;rw[if_pos (by omega)]
  rw[hw];clear hg hw hr h0;go_enter func37,ntmps37;go_wp2_with fail;refine HT.out.mono ?_;rintro e W1 ⟨rfl,hb1⟩;have qP:=QH hb1;clear hb1 HT;go_wp2_with fail;go_ret;exact uP HIS.out qP.out rfl
theorem tL:∀(l:List Sn) (i:Nat),i<l.length→(∀s∈l,(sc s).length=259)→(uT l).set (i*259+258) (.bool true)=uT (xE l i)
 | x::l,0,_,h=>by
  have hx:=h x (by simp);have hv:(vc x.bs).length=256:=by
   unfold sc at hx;simpa using hx
  show(sc x++uT l).set (0*259+258) (.bool true)=sc { x with hid:=true }++uT l;rw[List.set_append_left _ _ (by omega)]
  congr 1
  unfold sc;rw[List.set_append_right _ _ (by omega),hv];rfl
 | x::l,i+1,hi,h=>by
  have ih:=tL l i (by simpa using hi) (fun s hs=>h s (by simp[hs]));have hx:=h x (by simp);have e:xE (x::l) (i+1)=x::xE l i:=by simp[xE]
  rw[e];show(sc x++uT l).set ((i+1)*259+258) (.bool true)=sc x++uT (xE l i);rw[List.set_append_right _ _ (by omega),hx,show(i+1)*259+258-259=i*259+258 by omega,ih]
def qv3 (l:List Sn)(w:World)(e:Ending)(w':World):Prop:=∃g c cur,e=.returned (.slice (some ⟨g,0,none⟩) l.length c)∧w.heap.size≤g∧qf w' g 131 cur∧cur.toList.take (l.length*259)=uT l∧l.length≤c∧c≤maxLen∧Below w.heap.size w w'
theorem qgf{ρ:Operand→Value}{o:Oper}{w:World}(ho:o.op=.buildSlice 85 0 #[]) :
    (execOp ρ o).run prog w=.ok (.value (.slice (some ⟨w.heap.size,0,none⟩) 0 0)) (w.alloc (.cells #[] 131)):=by
 have hz:=wQ (t:=131) yK w;have hr:(Instr.buildSlice 85 0 #[]).run prog w=.ok (.slice (some ⟨w.heap.size,0,none⟩) 0 0) (w.alloc (.cells #[] 131)):=by
  simp[Instr.buildSlice,run_underlying underlying85,hz,Instr.fill,newRow,Result.andThen];rw[show Array.map (fun _:Nat=>(default:Value)) (Array.range 0) = #[]from Array.ext (by simp) (fun i _ h2=>by simp at h2)]
 simp[execOp,ho,hr,Result.andThen]
theorem qjD(d:Nat)(a:Addr)(n c:Nat)(w:World):(Op.equalIn (d+1) 85 (.slice (some a) n c) (.slice none 0 0)).run prog w=.ok false w:=by
 simp[Op.equalIn,run_underlying underlying85]
theorem mY (a:Addr)(n c:Nat)(w:World):(binOp .eql 85 (.slice (some a) n c) (.slice none 0 0)).run prog w=.ok (.bool false) w:=by
 have h:(Op.equalIn 10000 85 (.slice (some a) n c) (.slice none 0 0)).run prog w=.ok false w:=qjD 9999 a n c w;simp only[binOp];simp[Op.equal,Op.maxDepth,h,Result.andThen]
theorem iO {w:World}{n:Nat}{v:Value}{l:List Sn}(h:uM w v l)(ho:∀s∈l,qN n s.bs)(h8:n≤8)(h1:0<l.length)(aY:l.length≤20):Calls prog 82 #[v] w (qv3 l w):=by
 obtain⟨i0,hi,hz0,hz1,hz2⟩:=info_parts aK;have HLEN:=QH (pI ho h8);have qq4:Hid (∀u∈uT l,u.oneCell'=true):=fun u hu=>by
  obtain⟨s,_,h⟩:=List.mem_flatMap.1 hu;exact iQ s u h
 have hb1:=(Below.refl w.heap.size w).alloc (Nat.le_refl _) (.cells #[] 131);have hr1:=h.below hb1;obtain⟨A,c,rfl,hlc,_,hx⟩:=xy h ho h8;obtain⟨g,cur,rfl,_,_⟩:=hx 0 h1;have HCE:=QH ((hr1.cells).2.2);have HB:=QH hb1;have HSI:Hid ((w.alloc (.cells #[] 131)).heap.size=w.heap.size+1):=by unfold Hid;simp
 have heq:(binOp .eql 85 (.slice (some ⟨g,0,none⟩) l.length c) (.slice none 0 0)).run prog w=.ok (.bool false) w:=mY _ _ _ w;clear hx hb1 hr1 h ho;go_enter func82,ntmps82;go_wp2_with (first|(refine qg rfl (qgf rfl) ?_)|(at_builtin;refine uF rfl (.tmp 5) (.tmp 6) 85 rfl 131 i0 _ 259 280 underlying85 hi hz0 hz1 hz2 (some ⟨w.heap.size,0,none⟩) 0 [] rfl rfl (fun h=>by cases h) (fun b _ j u hu=>by simp at hu) ⟨g,0,none⟩ l.length c (uT l) rfl HLEN.out (HCE.out _ rfl) h1 (by unfold maxLen;omega) (by omega) ?_));intro cap qms w1 hb2 hk2 bB hc1 hc2 hsz;have qy:=QH (HB.out.trans (hb2.mono (by simp)));have jR:=QH hk2;have dw:Hid (qms.toList.take (l.length*259)=uT l):=by
  unfold Hid;simpa using bB
 have HC1:Hid (l.length≤cap):=by unfold Hid;omega
 have HC2:=QH hc2;clear hb2 hk2 bB hc1 hc2 hsz HCE HB HLEN;go_wp2_with fail;go_ret;exact⟨w.heap.size+1,cap,qms,rfl,Nat.le_succ _,jR.out,dw.out,HC1.out,HC2.out,qy.out⟩
theorem jy.kV{w:World}{own:Nat→Prop}{p g c:Nat}{cur:Array Value}{d:CH}(h:jy w own p (.slice (some ⟨g,0,none⟩) d.qa.length c) d)(ho:d.ok)(hb:qf w g 131 cur)(ht:cur.toList.take (d.qa.length*259)=uT d.qa)(i:Nat)(hi:i<d.qa.length) :
    jy (w.setCell ⟨g,i*259+258,none⟩ (.bool true)) own p (.slice (some ⟨g,0,none⟩) d.qa.length c) ⟨d.live,xE d.qa i⟩:=by
 have hgp:=h.vp g rfl;obtain⟨A',c',e,h1,h2,_⟩:=h.row;simp only[Value.slice.injEq,true_and]at e;obtain⟨rfl,rfl⟩:=e;have lB:(xE d.qa i).length=d.qa.length:=by unfold xE;rw[List.length_modify]
 refine⟨h.blk.of_block (qz _ _ _ _ _ hgp.symm),?_,h.op,h.om,fun j hj=>?_⟩
 ·refine⟨some ⟨g,0,none⟩,c,by rw[lB],by rw[lB];exact h1,h2,.inr ⟨g,_,rfl,hb.qo (i*259+258) (.bool true),?_⟩⟩;show(cur.setIfInBounds _ _).toList.take ((xE d.qa i).length*259)=uT (xE d.qa i);rw[lB,Array.toList_setIfInBounds,List.take_set,ht];exact tL d.qa i hi (fun s hs=>yO (ho.qa s hs) ho.n8)
 ·have:=h.low j hj;simpa[World.setCell]using this
theorem tM {own:Nat→Prop}{w:World}{p:Nat}{d:CH}(h:lX own w p d)(g:Gd):Calls prog 40 #[.pointer (some ⟨p,0,none⟩),gv g] w fun e w'=>Aft lX own p (d.kV g) w e w'∧qx (fun j=>j=p) w w':=by
 have HIS:=QH h;have hb0:=(Below.refl w.heap.size w).alloc (Nat.le_refl _) (.cells #[.int .u64 (g.1:Int),.int .u64 (g.2:Int)] 55);obtain⟨h0,v,hr⟩:=h;have hr1:=hr.below hb0;have HF:=QH (jJ (⟨h0,v,hr1⟩:lX own _ p d) g);have q0:(w.alloc (.cells #[.int .u64 (g.1:Int),.int .u64 (g.2:Int)] 55)).cell? ⟨w.heap.size,0,none⟩=some (.int .u64 (g.1:Int)):=(qf.new w _ _).cell 0;have q1:(w.alloc (.cells #[.int .u64 (g.1:Int),.int .u64 (g.2:Int)] 55)).cell? ⟨w.heap.size,1,none⟩=some (.int .u64 (g.2:Int)):=(qf.new w _ _).cell 1;have xn:=QH hb0;have cm:=QH hr1;have yr:=QH h0;have HC:=QH (mf d g);obtain⟨R,hR⟩:=QE (dZ d g);rw[hR]at HF HC;clear hb0 hr1 hr h0 hR;unfold gv at HF ⊢;go_enter func40,ntmps40;go_wp2_with fail;refine HF.out.mono ?_;rintro e W1 ⟨rfl,hb1⟩;have qP:=QH (xn.out.trans (hb1.mono xn.out.size));have jz:=QH (cm.out.below hb1);clear hb1 HF q0 q1 xn cm;rcases HC.out with⟨c,hc,rfl,wa,_⟩|⟨i,s,rfl,cy,hs,wa,_⟩
 ·have hcb:(c != 0)=true:=by simpa using hc
  have xz:=QH wa;clear hc wa HC jz yr;go_wp2_with fail;go_ret;rw[xz.out];exact uP HIS.out qP.out rfl
 ·have xz:=QH wa;have aY:=yr.out.few;have aO:=QH (iO jz.out.row yr.out.qa yr.out.n8 (by omega) aY);have c2:=jz.out.c2 yr.out;have hii:(i:Int)<(d.qa.length:Int):=by omega
  have HIL:=QH cy;obtain⟨A,c,hv,_,_,_⟩:=xy jz.out.row yr.out.qa yr.out.n8;subst hv;clear hs wa HC cy;go_wp2_with fail;refine aO.out.mono ?_;rintro e W2 ⟨g2,c3,cur,rfl,hg2,hk2,bB,hlc,hcm,hb2⟩;have HRW:Hid (uM W2 (.slice (some ⟨g2,0,none⟩) d.qa.length c3) d.qa):=⟨_,c3,rfl,hlc,hcm,.inr ⟨g2,cur,rfl,hk2,bB⟩⟩;have HP3:=QH (jy.qsM jz.out hb2 HRW.out yr.out (fun k hk=>by
   simp[Value.ownBlock]at hk;exact .inr (by omega)))
  have hgp:g2≠p:=HRW.out.ne (jz.out.blk.of_block (hb2.block p jz.out.blk.lt)) (by decide) g2 rfl;have hk3:qf (W2.setCell ⟨p,257,none⟩ (.slice (some ⟨g2,0,none⟩) d.qa.length c3)) g2 131 cur:=hk2.of_block (qz _ _ _ _ _ hgp);have HP4:=QH (jy.kV HP3.out yr.out hk3 bB i HIL.out);have qy:=QH (qP.out.trans (hb2.mono qP.out.size));have HBU:=QH (((qx.of_below (S:=fun j=>j=p) qy.out).setCell ⟨p,257,none⟩ (.slice (some ⟨g2,0,none⟩) d.qa.length c3) (.inl rfl)).setCell ⟨g2,i*259+258,none⟩ (.bool true) (.inr (by have:=qP.out.size;show w.heap.size≤g2;omega)));have HGE:Hid (w.heap.size≤g2):=by have:=qP.out.size;unfold Hid;omega
  have f1:=(jz.out.blk.of_block (hb2.block p jz.out.blk.lt)).frozen 257;obtain⟨b1,q5r⟩:∃z,W2.cell? ⟨p,257,none⟩=some z:=⟨_,(hb2.cell (p:=⟨p,257,none⟩) jz.out.blk.lt).trans (jz.out.c2 yr.out)⟩;have f2:=hk3.frozen (i*259+258);have c4:(W2.setCell ⟨p,257,none⟩ (.slice (some ⟨g2,0,none⟩) d.qa.length c3)).cell? ⟨p,257,none⟩=some (.slice (some ⟨g2,0,none⟩) d.qa.length c3):=HP3.out.c2 yr.out;obtain⟨b2,zco⟩:∃z,(W2.setCell ⟨p,257,none⟩ (.slice (some ⟨g2,0,none⟩) d.qa.length c3)).cell? ⟨g2,i*259+258,none⟩=some z:=by
   have hs:=pI yr.out.qa yr.out.n8;rw[hk3.cell];have hlt:i*259+258<cur.size:=by
    have h1:=congrArg List.length bB;rw[List.length_take,hs]at h1;have h2:d.qa.length*259≤cur.toList.length:=by omega
    have h3:=HIL.out;have h4:cur.toList.length=cur.size:=by simp
    omega
   exact⟨cur[i*259+258],by simp[hlt]⟩
  clear hg2 hk2 bB hlc hcm hb2 hk3 HRW aO;go_wp2_with fail;go_ret;rw[xz.out];refine⟨⟨rfl,_,⟨qq8 yr.out i,_,HP4.out⟩,HBU.out.mono (fun j hj=>by rw[hj];exact jz.out.op),fun j hj=>?_⟩,HBU.out⟩
  ·rcases hj with hj|hj
   ·exact .inl hj
   ·simp[Value.ownBlock]at hj;exact .inr (by rw[← hj];exact HGE.out)
theorem qgg{n:Nat}(l:List Bt)(g:Gd)(hl:qN n l)(h8:n≤8)(w:World) :
    (Instr.build 131 #[(0,.agg (vc l).toArray),(1,.agg #[.int .u64 (g.1:Int),.int .u64 (g.2:Int)])]).run prog w=.ok (.agg (sc ⟨g,l,false⟩).toArray) w:=by
 obtain⟨i0,hi,hz0,_,_⟩:=info_parts aK;have hz:(zeroValue 131).run prog w=.ok (.agg (sc z0).toArray) w:=by simp[zeroValue,typeInfo,hi,hz0]
 have hzl:(sc z0).length=259:=yO (n:=0) ⟨rfl,fun v hv=>by simp[z0]at hv⟩ (by omega);have hzd:(sc z0).drop 256=[.int .u64 0,.int .u64 0,.bool false]:=by
  have h:=zX (n:=0) (l:=z0.bs) ⟨rfl,fun v hv=>by simp[z0]at hv⟩ (by omega);unfold sc;rw[List.drop_left' h];rfl
 have hvl:=zX hl h8;have s1:=wQ (t:=84) kW w;have s2:=wQ (t:=55) qnM w;have s3:=wQ (t:=4) (n:=1) (by kernel_rfl) w;have hf:∀place:Nat→Option (Nat × Nat),place 0=some (0,256)→place 1=some (256,2)→Instr.fill place (sc z0).toArray [(0,.agg (vc l).toArray),(1,.agg #[.int .u64 (g.1:Int),.int .u64 (g.2:Int)])]=some (sc ⟨g,l,false⟩).toArray:=by
  intro place h0 h1;rw[iE _ _ 0 0 256 _ _ h0 (by simp[hvl]) (by simp[hzl])];have e1:((sc z0).toArray.toList.take 0++(vc l).toArray.toList++(sc z0).toArray.toList.drop (0+256))=vc l++[.int .u64 0,.int .u64 0,.bool false]:=by
   simp[hzd]
  rw[e1,iE _ _ 1 256 2 _ _ h1 rfl (by simp[hvl])];simp only[Instr.fill]
  congr 1
  apply Array.ext';show(vc l++[Value.int .u64 0,.int .u64 0,.bool false]).take 256++[Value.int .u64 (g.1:Int),.int .u64 (g.2:Int)]++(vc l++[Value.int .u64 0,.int .u64 0,.bool false]).drop 258=sc ⟨g,l,false⟩;rw[List.take_left' hvl,show 258=(vc l).length+2 by rw[hvl],List.drop_append];unfold sc;simp
 generalize (vc l).toArray=V at *;generalize (sc ⟨g,l,false⟩).toArray=R at *;generalize (sc z0).toArray=Z at *;clear hzd hzl hvl hi hz0;simp only[Instr.build,Sem.run_bind,hz,Result.andThen_ok,Value.cells,run_underlying underlying131]
 have hm:∀(K:Array (Nat × Nat)→World→Result Value),K #[(0,256),(256,2),(258,1)] w=.ok (.agg R) w→((Array.mapM
         (fun f:Field=>do
          let z ← sizeOf f.type
          pure (f.offset,z))
         #[{ name := "volume",type:=84,offset:=0,embedded:=true,tag := "",pkgPath := "stemma/chain",byteOffset:=0 },
          { name := "guid",type:=55,offset:=256,embedded:=false,tag := "",pkgPath := "stemma/chain",byteOffset:=256 },
          { name := "hidden",type:=4,offset:=258,embedded:=false,tag := "",pkgPath := "stemma/chain",byteOffset:=272 }]).run prog w).andThen K=.ok (.agg R) w:=by
  intro K hK;simp only[List.mapM_toArray,List.mapM_cons,List.mapM_nil,Sem.run_bind,s1,s2,s3,Result.andThen_ok,Sem.run_pure,Functor.map,Sem.run_map];exact hK
 refine hm _ ?_;rw[hf _ rfl rfl];rfl
theorem mg {ρ:Operand→Value}{o:Oper}{w:World}{n:Nat}(x y:Operand)(l:List Bt)(g:Gd)(y1 y2:Int)(h1:(g.1:Int)=y1)(h2:(g.2:Int)=y2)(ho:o.op=.build 131 #[(0,x),(1,y)])(hx:ρ x=.agg (vc l).toArray)(hy:ρ y=.agg #[.int .u64 y1,.int .u64 y2])(hl:qN n l)(h8:n≤8) :
    (execOp ρ o).run prog w=.ok (.value (.agg (sc ⟨g,l,false⟩).toArray)) w:=by
 subst h1;subst h2;have hb:=qgg l g hl h8 w;simp[execOp,ho,hx,hy,hb,Result.andThen]
def SpG (p:Nat)(V S:List Value)(y1 y2:Int):Nat→Value→World→Prop
 | 0,v,_=>v=.pointer (some ⟨p,0,none⟩)
 | 1,v,_=>v=.pointer (some ⟨p,0,none⟩)
 | 2,v,_=>v=.pointer (some ⟨p,0,none⟩)
 | 3,v,_=>v=.pointer (some ⟨p,1,none⟩)
 | 4,v,_=>v=.agg V.toArray
 | 5,v,_=>v=.agg #[.int .u64 y1,.int .u64 y2]
 | 6,v,_=>v=.agg S.toArray
 | _,_,_=>True
theorem qnS(p:Nat)(V S:List Value)(y1 y2:Int)(i:Nat)(v:Value)(w w':World)(hi:i<7)(h:SpG p V S y1 y2 i v w)(_:Below w.heap.size w w'):SpG p V S y1 y2 i v w':=by
 match i,hi,h with
 | 0,_,h | 1,_,h | 2,_,h | 3,_,h | 4,_,h | 5,_,h | 6,_,h=>exact h
theorem tN {own:Nat→Prop}{w:World}{p:Nat}{d:CH}(h:lX own w p d)(g:Gd)(hg:zZ g):Calls prog 38 #[.pointer (some ⟨p,0,none⟩),gv g] w fun e w'=>Aft lX own p (d.snap g) w e w'∧qx (fun j=>j=p) w w':=by
 have hb0:=(Below.refl w.heap.size w).alloc (Nat.le_refl _) (.cells #[.int .u64 (g.1:Int),.int .u64 (g.2:Int)] 55);have HIS:=QH h;obtain⟨h0,v,hr⟩:=h;have hr1:=hr.below hb0;have xn:=QH hb0;have cm:=QH hr1;have yr:=QH h0;have HG:=QH hg;have HM:=QH (qhq (⟨h0,v,hr1⟩:lX own _ p d) g);obtain⟨y1,hy1⟩:=QE (g.1:Int);obtain⟨y2,hy2⟩:=QE (g.2:Int);have HY1:=QH hy1;have HY2:=QH hy2;unfold gv at HM ⊢;rw[hy1,hy2]at HM xn cm ⊢;clear hb0 hg hy1 hy2 hr1 hr h0;have kI:Hid (d.snap g=if d.may g=0 then(⟨d.live,d.qa++[⟨g,d.live,false⟩]⟩,0)else(d,d.may g)):=rfl;have HMZ:=QH (fun h=>qcx (c:=d) (g:=g) h);obtain⟨m,hm⟩:=QE (d.may g);rw[hm]at HM kI HMZ;clear hm;obtain⟨W0,hW0⟩:=QE (w.alloc (.cells #[.int .u64 y1,.int .u64 y2] 55));rw[hW0]at HM cm xn;have q0:W0.cell? ⟨w.heap.size,0,none⟩=some (.int .u64 y1):=by rw[← hW0];exact(qf.new w _ _).cell 0
 have q1:W0.cell? ⟨w.heap.size,1,none⟩=some (.int .u64 y2):=by rw[← hW0];exact(qf.new w _ _).cell 1
 have rr:Hid (w.heap.size<W0.heap.size):=by unfold Hid;rw[← hW0];simp
 have Q0:=QH q0;have Q1:=QH q1;go_enter func38,ntmps38;go_wp2_with fail;clear hW0;refine HM.out.mono ?_;rintro e W1 ⟨rfl,hb1⟩;have qP:=QH (xn.out.trans (hb1.mono xn.out.size));have jz:=QH (cm.out.below hb1);have R0:Hid (W1.cell? ⟨w.heap.size,0,none⟩=some (.int .u64 y1)):=(hb1.cell (p:=⟨w.heap.size,0,none⟩) rr.out).trans Q0.out;have R1:Hid (W1.cell? ⟨w.heap.size,1,none⟩=some (.int .u64 y2)):=(hb1.cell (p:=⟨w.heap.size,1,none⟩) rr.out).trans Q1.out;have av:Hid (w.heap.size<W1.heap.size):=Nat.lt_of_lt_of_le rr.out hb1.size;clear hb1 HM cm xn q0 q1 Q0 Q1 rr;by_cases hz:m=0
 ·subst hz;have hsn:=kI.out;rw[if_pos rfl]at hsn;have HSD:=QH hsn;obtain⟨_,qd1⟩:=HMZ.out rfl;have qnT:=QH qd1;clear hsn kI HMZ qd1;have HVL:Hid ((vc d.live).length=256):=zX yr.out.live yr.out.n8;have HVC:Hid (∀j u,(vc d.live)[j]?=some u→(qE d.live.length d.live v).toArray[1+j]?=some u):=fun j u hu=>by simpa using tC (m:=d.live.length) (v:=v) j u hu
  go_wp2_with fail;refine qM (by kernel_rfl) 7 [12,13,14,15,16,17,18] (by kernel_rfl) (SpG p (vc d.live) (sc ⟨g,d.live,false⟩) y1 y2) (qnS _ _ _ _ _) ?_ ?_
  ·intro i o vs ρ W hi hop hρ hfn hb hG;have t0:ρ (.tmp 0)=.pointer (some ⟨p,0,none⟩):=hρ.out 0 rfl;have t3:ρ (.tmp 3)=.pointer (some ⟨w.heap.size,0,none⟩):=hρ.out 3 rfl;have s13:=hρ.at_ 13 1 rfl;have s14:=hρ.at_ 14 2 rfl;have s15:=hρ.at_ 15 3 rfl;have s16:=hρ.at_ 16 4 rfl;have s17:=hρ.at_ 17 5 rfl;have r0:W.cell? ⟨w.heap.size,0,none⟩=some (.int .u64 y1):=(hb.cell (p:=⟨w.heap.size,0,none⟩) av.out).trans R0.out;have r1:W.cell? ⟨w.heap.size,1,none⟩=some (.int .u64 y2):=(hb.cell (p:=⟨w.heap.size,1,none⟩) av.out).trans R1.out;rcases i with _|_|_|_|_|_|_|i;all_goals (first|omega|skip)
   all_goals simp only[QA,QB,QC,Option.some.injEq]at hop
   all_goals subst hop
   ·exact q9 (w':=W) (by unfold execOp;simp only[t0];go_simp) ⟨Below.refl _ _,rfl⟩
   ·exact q9 (w':=W) (by unfold execOp;simp only[t0];go_simp) ⟨Below.refl _ _,rfl⟩
   ·have g1:vs 1=_:=hG 1 (by kernel_rfl);exact q9 (w':=W) (by unfold execOp;simp only[s13,g1];go_simp) ⟨Below.refl _ _,rfl⟩
   ·have g2:vs 2=_:=hG 2 (by kernel_rfl);exact q9 (w':=W) (by unfold execOp;simp only[s14,g2];go_simp) ⟨Below.refl _ _,rfl⟩
   ·have g3:vs 3=_:=hG 3 (by kernel_rfl);exact q9 (w':=W) (qH 84 (.tmp 15) rfl p 1 (s15.trans g3) _ _ (vc d.live) _ _ (jz.out.below hb).blk underlying84 rfl (by rw[kW,HVL.out]) HVC.out) ⟨Below.refl _ _,rfl⟩
   ·exact q9 (w':=W) (by unfold execOp;simp only[t3];go_simp) ⟨Below.refl _ _,rfl⟩
   ·have g4:vs 4=_:=hG 4 (by kernel_rfl);have g5:vs 5=_:=hG 5 (by kernel_rfl);exact q9 (w':=W) (mg (.tmp 16) (.tmp 17) d.live g y1 y2 HY1.out HY2.out rfl (s16.trans g4) (s17.trans g5) yr.out.live yr.out.n8) ⟨Below.refl _ _,rfl⟩
  ·intro vs W hb hG;have g0:vs 0=_:=hG 0 (by decide);have g6:vs 6=_:=hG 6 (by decide);simp only[qW,qK,if_true];rw[g0,g6];generalize vs 1=z1;generalize vs 2=z2;generalize vs 3=z3;generalize vs 4=z4;generalize vs 5=z5;have B2:=QH (qP.out.trans (hb.mono qP.out.size));have jA:=QH (jz.out.below hb);clear hG g0 g6 hb;simp only[Act.put,List.setIfInBounds_toArray,List.set_cons_succ,List.set_cons_zero];have HPU:=QH (jc jA.out yr.out qnT.out ⟨g,d.live,false⟩ yr.out.live);obtain⟨S,hS⟩:=QE (sc ⟨g,d.live,false⟩);rw[hS]at HPU ⊢;clear hS;refine qI (i:=7) (by kernel_rfl) rfl rfl ?_;go_simp;refine HPU.out.mono ?_;rintro e W3 ⟨rfl,v',jM,hp3,q0h,hgr⟩;have HP3:=QH hp3;have HBU:=QH ((qx.of_below (S:=fun j=>j=p) B2.out).trans q0h (fun _ h=>.inl h));have HGR:Hid (∀j,jM j→own j∨w.heap.size≤j):=fun j hj=>by
    rcases hgr j hj with h|h
    ·exact .inl h
    ·have:=B2.out.size;exact .inr (by omega)
   clear hp3 q0h hgr HPU;go_simp;refine⟨by kernel_rfl,?_⟩;go_wp2_with fail;go_ret;rw[HSD.out];exact⟨⟨rfl,jM,⟨qd3 yr.out _ qnT.out yr.out.live HG.out,v',HP3.out⟩,HBU.out.mono (fun j hj=>by rw[hj];exact jz.out.op),HGR.out⟩,HBU.out⟩
 ·have hc:(m == 0)=false:=beq_false_of_ne hz;have hcn:(m != 0)=true:=by simpa using hz
  have hsn:=kI.out;rw[if_neg hz]at hsn;have HSD:=QH hsn;clear hsn kI HMZ jz;go_wp2_with fail;go_ret;rw[HSD.out];exact uP HIS.out qP.out rfl
theorem jy.qnU{w w':World}{own:Nat→Prop}{p:Nat}{v:Value}{d:CH}{l:List Bt}(h:jy w own p v d)(ho:d.ok)(hl:qN d.live.length l)
    (hw:w'=w.setRow p ((qE d.live.length d.live v).toArray.toList.take 1++vc l++(qE d.live.length d.live v).toArray.toList.drop (1+(vc l).length)).toArray):jy w' own p v ⟨l,d.qa⟩∧qx (fun j=>j=p) w w':=by
 have hb:=h.blk;have e:((qE d.live.length d.live v).toArray.toList.take 1++vc l++(qE d.live.length d.live v).toArray.toList.drop (1+(vc l).length)).toArray=(qE d.live.length l v).toArray:=by
  have:=qcZ (m:=d.live.length) (v:=v) ho.live hl ho.n8;rw[← this]
 rw[e]at hw;have hbu:=uH w p (qE d.live.length l v).toArray;have hk2:=uG (c:=(qE d.live.length l v).toArray) hb;rw[← hw]at hbu hk2;refine⟨⟨?_,h.row.of_block (fun j hj=>hbu.block j (h.row.lt j hj) (h.vp j hj)),h.op,h.om,fun j hj=>Nat.lt_of_lt_of_le (h.low j hj) hbu.size⟩,hbu⟩;show qf w' p _ (qE l.length l v).toArray;rw[hl.1];exact hk2
theorem qgh(d:CH)(m:Nat):(xC d.live.length (d.qa.take m)).bs=(⟨d.live,d.qa.take m⟩:CH).base:=qdb ⟨d.live,d.qa.take m⟩
theorem tO {own:Nat→Prop}{w:World}{p:Nat}{d:CH}(k:Int)(h:lX own w p d):Calls prog 39 #[.pointer (some ⟨p,0,none⟩),.int .i64 k] w fun e w'=>Aft lX own p (d.roll k) w e w'∧qx (fun j=>j=p) w w':=by
 have HIS:=QH h;obtain⟨h0,v,hr⟩:=h;have c2:=hr.c2 h0;have aY:=h0.few;obtain⟨A,c,hv,hlc,hA,_⟩:=xy hr.row h0.qa h0.n8;subst hv;by_cases uu:k<0∨(d.qa.length:Int)<k
 ·have HW:Hid (d.roll k=(d,2)):=by unfold Hid CH.roll;rw[if_pos uu]
  rw[HW.out];have hcs:k<0∨(¬ k<0∧(d.qa.length:Int)<k):=by omega
  clear uu HW hr h0;rcases hcs with hk|⟨hk,hk2⟩;all_goals
   go_enter func39,ntmps39;go_wp2_with fail;go_ret;exact uP HIS.out (Below.refl _ _) rfl
 ·have HW:Hid (d.roll k=(⟨(⟨d.live,d.qa.take k.toNat⟩:CH).base,d.qa.take k.toNat⟩,0)):=by unfold Hid CH.roll;rw[if_neg uu]
  rw[HW.out];obtain⟨m,rfl⟩:∃m:Nat,k=(m:Int):=⟨k.toNat,by omega⟩;rw[Int.toNat_natCast];have hm:m≤d.qa.length:=by omega
  have hk3:¬ (m:Int)<0:=by omega
  have hk4:¬ (d.qa.length:Int)<(m:Int):=by omega
  have hk5:(m:Int)≤(c:Int):=by omega
  have uO:m≤c:=by omega
  have HTR:=QH (tD hr.row h0.qa h0.n8 hm m (Nat.le_refl _) uO);have HOT:=QH (qq7 h0 m);have f1:=hr.blk.frozen 257;have jz:Hid (jy (w.setCell ⟨p,257,none⟩ (.slice A m m)) own p (.slice A m m) ⟨d.live,d.qa.take m⟩):=by
   have hob:∀j,(Value.slice A m m).ownBlock=some j→(Value.slice A d.qa.length c).ownBlock=some j:=fun j hj=>by
    cases A with
    | none=>cases hj
    | some a=>exact hj
   refine⟨?_,HTR.out.of_block (fun j hj=>qz _ _ _ _ _ (hr.vp j (hob j hj))),hr.op,fun j hj=>hr.om j (hob j hj),fun j hj=>?_⟩
   ·have:=hr.blk.qo 257 (.slice A m m);rw[lW h0.live h0.n8]at this;exact this
   ·have:=hr.low j hj;simpa[World.setCell]using this
  have qnV:Hid (qx (fun j=>j=p) w (w.setCell ⟨p,257,none⟩ (.slice A m m))):=(qx.refl _ w).setCell ⟨p,257,none⟩ (.slice A m m) (.inl rfl);have sK:Hid ((d.qa.take m).length≤20):=by unfold Hid;rw[List.length_take];omega
  have HLA:=QH (fh jz.out.row HOT.out.qa HOT.out.n8 sK.out);have hlo:=dW (n:=d.live.length) HOT.out.qa;have rB:=l7 (xC d.live.length (d.qa.take m)) hlo h0.n8;rw[qgh d m]at rB hlo;obtain⟨S,hS⟩:=QE (sc (xC d.live.length (d.qa.take m)));rw[hS]at rB;have q5u:Hid (Calls prog 69 #[.slice A m m] (w.setCell ⟨p,257,none⟩ (.slice A m m)) fun e w'=>e=.returned (.agg S.toArray)∧Below (w.setCell ⟨p,257,none⟩ (.slice A m m)).heap.size (w.setCell ⟨p,257,none⟩ (.slice A m m)) w'):=by
   have:=HLA.out;rw[show sc (xC (⟨d.live,d.qa.take m⟩:CH).live.length (⟨d.live,d.qa.take m⟩:CH).qa)=S from hS]at this;exact this
  obtain⟨L,hL⟩:=QE ((⟨d.live,d.qa.take m⟩:CH).base);rw[hL]at rB hlo ⊢;have bj:Hid (qN d.live.length L):=hlo;have HVL:Hid ((vc L).length=256):=zX bj.out h0.n8;have yr:=QH h0;have HOP:=QH hr.op;clear uu HW hr h0 hlo hS hL HTR HLA sK hA hm;go_enter func39,ntmps39;go_wp2_with fail;refine q5u.out.mono ?_;rintro e W1 ⟨rfl,hb1⟩;have qP:=QH hb1;have jA:=QH (jz.out.below hb1);clear hb1;have aO:Hid ((qE (⟨d.live,d.qa.take m⟩:CH).live.length (⟨d.live,d.qa.take m⟩:CH).live (.slice A m m)).length=258):=kd HOT.out.live HOT.out.n8;go_wp2_with (refine wpList_skip rfl (jd W1 84 (.tmp 38) (.tmp 36) rfl p 1 rfl (vc L) rfl _ _ jA.out.blk (by rw[kW,HVL.out]) (by rw[List.size_toArray,aO.out,HVL.out];decide) (pH L)) ?_);go_ret;obtain⟨hp2,q5v⟩:=jy.qnU jA.out HOT.out bj.out rfl;have lA:=(qnV.out.trans (S':=fun _=>False) (qx.of_below qP.out) (fun _ h=>h.elim)).trans q5v (fun _ h=>.inl h);exact⟨⟨rfl,own,⟨qhe HOT.out bj.out,_,hp2⟩,lA.mono (fun j hj=>by rw[hj];exact HOP.out),fun j hj=>.inl hj⟩,lA⟩
end Go.Proofs.YtdagdllomphidaaGreatDoor.ch.pg

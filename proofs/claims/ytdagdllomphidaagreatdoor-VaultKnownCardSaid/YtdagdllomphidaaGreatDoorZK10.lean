/- VgSnp, VgRol, VgTb6, VgStp, VgStA, VgCgs, PgMay, PgPut, PgFind, PgApi, PgHide, PgSnap, PgRoll, PgAdd, PgEq, PgChg, PgRead, PgChgs, PgLst, ChProg, VtProg, VtStep, VxData, VxMem, VxChanges, VxGuid, VtDo, VtMade, VtWkP, VtDoW, VtDoS, VtDoT, VtAny, VxTexts, VxBlocks, VxEq, VtAs, VtAsV, VtVc, VtWkQ. -/
import Derived.Test.YtdagdllomphidaaGreatDoorZK9
import Derived.Stop.BytesEq
set_option linter.unusedVariables false
set_option linter.unusedSimpArgs false
set_option maxHeartbeats 30000000
set_option maxRecDepth 100000
namespace Go.Proofs.YtdagdllomphidaaGreatDoor.vt.pg
open _root_.Go.Proofs.Tryz Go Go.RowKit Go.Sort ib mt im sp
def qig (m:Mt)(g:Gd):Int:=if mt.above g (qH m)=false then 2 else if 20≤m.qa.length then 3 else 0
def wu (m:Mt)(g:Gd)(l:List Int):Mt:={ m with qa:=m.qa++[⟨g,l,false⟩] }
theorem qew(m:Mt)(g:Gd):(qig m g≠0∧yv m g=⟨qig m g,m,[]⟩)∨(qig m g=0∧yv m g=⟨0,{ wu m g m.live with tok:=zL },[]⟩):=by
 unfold qig yv wu;by_cases h1:mt.above g (qH m)=false
 ·rw[if_pos h1,if_pos h1];exact .inl ⟨by decide,rfl⟩
 ·rw[if_neg h1,if_neg h1];by_cases h2:20≤m.qa.length
  ·rw[if_pos h2,if_pos h2];exact .inl ⟨by decide,rfl⟩
  ·rw[if_neg h2,if_neg h2];exact .inr ⟨rfl,rfl⟩
def wL (G:Nat→Prop)(v:Value)(w:World)(m m':Mt):Prop:=(∃k jC,v=.func (.func k) #[] jC)∧kW G w v m m'
theorem wL.below{G:Nat→Prop}{v:Value}{w w':World}{m m':Mt}(h:wL G v w m m')(hb:Below w.heap.size w w'):wL G v w' m m':=⟨h.1,h.2.below hb⟩
theorem wL.of{G:Nat→Prop}{v:Value}{w:World}{m m':Mt}(h:kW G w v m m'):wL G v w m m':=⟨h.form,h⟩
def qoY (G:Nat→Prop)(p:Nat)(A0:Option Addr)(c0:Nat)(m:Mt)(g:Gd):Nat→Value→World→Prop:=fun i v w=>match i with
 | 1=>v=.agg #[.int .u64 (g.1:Int),.int .u64 (g.2:Int)]
 | 6=>v=.slice A0 m.live.length c0
 | 7=>wL G v w m (wu m g m.live)
 | 8=>v=.agg (bm zL none 0 0)
 | 9=>wL G v w (wu m g m.live) { wu m g m.live with tok:=zL }
 | 10=>∃B f1 f2,v=.slice (some ⟨B,0,none⟩) 2 2∧qg w B 115 #[f1,f2]∧wL G f1 w m (wu m g m.live)∧wL G f2 w (wu m g m.live) { wu m g m.live with tok:=zL }
 | _=>v=pt p
theorem qih(G:Nat→Prop)(p:Nat)(A0:Option Addr)(c0:Nat)(m:Mt)(g:Gd):∀i v w w',i<11→qoY G p A0 c0 m g i v w→Below w.heap.size w w'→qoY G p A0 c0 m g i v w':=by
 intro i v w w' hi h hb;rcases i with _|_|_|_|_|_|_|_|_|_|_|i;all_goals (first|omega|skip)
 all_goals unfold qoY at h ⊢
 all_goals dsimp only at h ⊢
 all_goals first
  | exact h
  | exact h.below hb
  | (obtain⟨B,f1,f2,h1,h2,h3,h4⟩:=h
     exact⟨B,f1,f2,h1,h2.below hb,h3.below hb,h4.below hb⟩)
theorem lB {o1 o2:Nat→Prop}{w:World}{v pd N b:Nat}{d:DD}{m:Mt}{t:Tg}(g:Gd)(h:VP jg w o1 o2 v pd d m false)(hJ:jr.JJ N t d)(hf:0≤d.qi)(hR:qM b N t m)(hg:xn g) :
    Calls prog 30 #[pt v,gv g] w (kz jg o1 o2 v pd (xp N t d m (yv m g)) w):=by
 have iZ:=QH (fj hR g hg);have HGD:=QH hg;obtain⟨g1,g2⟩:=g;have iD:=QH h;have hb2:=(Below.refl _ w).alloc (Nat.le_refl _) (.cells #[.int .u64 (g1:Int),.int .u64 (g2:Int)] 55);have hr2:=qg.new w 55 #[.int .u64 (g1:Int),.int .u64 (g2:Int)];obtain⟨W,hW2⟩:=QE (w.alloc (.cells #[.int .u64 (g1:Int),.int .u64 (g2:Int)] 55));rw[hW2]at hb2 hr2;have h2:=qN h hb2;obtain⟨A0,A1,A2,c0,c1,c2,hA⟩:=h2.is;have HA:=QH hA;have HJ:=QH hJ;have HR:=QH hR;have HFU:=QH hf;have qG:=QH hb2;have uQ:=QH hr2;have xJ:=QH (jm h2 hJ.on);have eM:=QH hA.sz;obtain⟨dS,k0,k1,k2,k3,k4,k5,k6,k7,k8,k9,aR⟩:=hA.cells;have r0:=hr2.cell 0;have r1:=hr2.cell 1;have rlt:=hr2.lt;simp only[Nat.zero_add,QA,QB,QC]at r0 r1;have e0:=fun d os=>cell_regrown k0 d os;have e1:=fun d os=>cell_regrown k1 d os;have e2:=fun d os=>cell_regrown k2 d os;have e3:=fun d os=>cell_regrown k3 d os;have e4:=fun d os=>cell_regrown k4 d os;have e5:=fun d os=>cell_regrown k5 d os;have e6:=fun d os=>cell_regrown k6 d os;have e7:=fun d os=>cell_regrown k7 d os;have e8:=fun d os=>cell_regrown k8 d os;have p0:=fun d os=>cell_regrown r0 d os;have p1:=fun d os=>cell_regrown r1 d os;have cF:∀b os,Calls prog 76 #[.agg (zi A0 A1 A2 c0 c1 c2 m),gv (g1,g2)] (grow (redrawn W b) os) fun e w''=>e=.returned (.int .i64 (qig m (g1,g2)))∧∃q:Regrown,w''=grow (redrawn W q.d) q.os :=
  fun b os=>Calls.regrown_of (nA (HA.out.below (below_regrown W b os)).tab.mt.qa eM.out.qa (g1,g2))
 have tF:=QH (qew m (g1,g2));obtain⟨PN,fF⟩:=QE (yv m (g1,g2));obtain⟨F,hF⟩:=QE (qig m (g1,g2));rw[hF,fF]at tF;rw[fF]at iZ;rw[hF]at cF;rw[fF];clear h h2 hJ hR hA hb2 hr2 fF hF hf hg;unfold gv at cF;unfold zi at cF;dsimp only at cF;show Calls _ _ #[pt v,.agg #[.int .u64 (g1:Int),.int .u64 (g2:Int)]] _ _;go_enter func30,ntmps30;go_upto_region 1 with fail;try rw[hW2]
 clear hW2;go_wp2_with fail;refine xJ.out.mono ?_;rintro e W1 ⟨rfl,rfl⟩;clear xJ;go_upto_region 4 with fail;refine wp_region_quiet_below dp (by kernel_rfl) ?_;repeat (any_goals (first|go_big_quiet_step (first|exact cF _ _)|quiet_step (first|exact cF _ _)))
 refine wpQuiet_nil ?_;intro _ hw';obtain⟨⟨dq,osq⟩,hw''⟩:=hw';subst hw'';have hb:=below_regrown W dq osq;have zf:=QH (q9 qG.out hb);have fT:=QH (HA.out.below hb);have fV:=QH (uQ.out.below hb);clear hb e0 e1 e2 e3 e4 e5 e6 e7 e8 p0 p1 cF HA qG uQ dS k0 k1 k2 k3 k4 k5 k6 k7 k8 k9 aR r0 r1 rlt;generalize grow (redrawn W dq) osq=W3 at *;rcases tF.out with⟨hc,gp⟩|⟨hc,gp⟩
 ·have hcb:(F != 0)=true:=by simpa using hc
  have HPN:=QH gp;have HC:=QH hc;clear hc gp tF;go_wp2_with fail;go_ret;rw[HPN.out];exact jn (qN iD.out zf.out) zf.out (jO HC.out)
 ·subst hc;have wq:Hid (PN.code=0∧PN.m={ wu m (g1,g2) m.live with tok:=zL }∧PN.ws=[]):=by unfold Hid;rw[gp];exact⟨rfl,rfl,rfl⟩
  have HDK:Hid (yD b N PN.m∧wO N m PN.ws):=⟨(iZ.out.2.1 wq.out.1).ok,(iZ.out.2.1 wq.out.1).ws⟩;have hce:((0:Int) != 0)=false:=rfl;have nS:=HR.out.ok.few;have H20:=QH nS;clear gp tF iZ nS;go_wp2_with fail;refine zT (by kernel_rfl) 11 [21,22,23,24,25,26,27,28,29,30,31] (by kernel_rfl) (qoY (fun j=>(o1 j∧j≠v)∨w.heap.size≤j) v A0 c0 m (g1,g2)) (qih _ _ _ _ _ _) ?_ ?_
  ·intro i o vs ρ W hi hop hρ hfn hb hG;have t0:ρ (.tmp 0)=pt v:=hρ.out 0 rfl;have t3:ρ (.tmp 3)=pt w.heap.size:=hρ.out 3 rfl;have s22:=hρ.at_ 22 1 rfl;have s23:=hρ.at_ 23 2 rfl;have s24:=hρ.at_ 24 3 rfl;have s25:=hρ.at_ 25 4 rfl;have s26:=hρ.at_ 26 5 rfl;have s27:=hρ.at_ 27 6 rfl;have s28:=hρ.at_ 28 7 rfl;have s29:=hρ.at_ 29 8 rfl;have s30:=hρ.at_ 30 9 rfl;have hr:=fV.out.below hb;have r0:=hr.cell 0;have r1:=hr.cell 1;simp only[QA,QB,QC]at r0 r1;have hrl:=hr.lt;have iz:=fT.out.below hb;have k0:=iz.cells.k0;have dS:=iz.cells.lt;have hsz:w.heap.size≤W.heap.size:=Nat.le_trans zf.out.size hb.size;rcases i with _|_|_|_|_|_|_|_|_|_|_|i;all_goals (first|omega|skip)
   all_goals simp only[QA,QB,QC,Option.some.injEq]at hop
   all_goals subst hop
   ·exact qc (w':=W) (by unfold execOp;simp only[t0];go_simp) ⟨Below.refl _ _,rfl⟩
   ·exact qc (w':=W) (by unfold execOp;simp only[t3];go_simp) ⟨Below.refl _ _,rfl⟩
   ·exact qc (w':=W) (by unfold execOp;simp only[t0];go_simp) ⟨Below.refl _ _,rfl⟩
   ·have g2:vs 2=_:=hG 2 (by kernel_rfl);exact qc (w':=W) (by unfold execOp;simp only[s23,g2];go_simp) ⟨Below.refl _ _,rfl⟩
   ·have g3:vs 3=_:=hG 3 (by kernel_rfl);exact qc (w':=W) (by unfold execOp;simp only[s24,g3];go_simp) ⟨Below.refl _ _,rfl⟩
   ·have g4:vs 4=_:=hG 4 (by kernel_rfl);exact qc (w':=W) (by unfold execOp;simp only[s25,g4];go_simp) ⟨Below.refl _ _,rfl⟩
   ·have g5:vs 5=_:=hG 5 (by kernel_rfl);exact qc (w':=W) (by unfold execOp;simp only[s26,g5];go_simp) ⟨Below.refl _ _,rfl⟩
   ·have g1':vs 1=_:=hG 1 (by kernel_rfl);have g6:vs 6=_:=hG 6 (by kernel_rfl);refine qu (f:=66) (args:=#[gv (g1,g2),.slice A0 m.live.length c0]) (w':=W) (by unfold execOp gv;simp only[hfn,s22,g1',s27,g6];go_simp) ((qbr (G:=fun j=>(o1 j∧j≠v)∨w.heap.size≤j) iz.tab.live.at_ iz.sz.live HGD.out (fun j hj=>.inr (Nat.le_trans hsz hj))).mono ?_);rintro e W' ⟨f,rfl,fG,hb5⟩;exact⟨f,rfl,hb5,wL.of (fG m (wu m (g1,g2) m.live) ⟨by have:=H20.out;omega,rfl⟩)⟩
   ·exact qc (w':=W) (by unfold bm zL execOp;go_simp) ⟨Below.refl _ _,rfl⟩
   ·have g8:vs 8=_:=hG 8 (by kernel_rfl);refine qu (f:=60) (args:=#[.agg (bm zL none 0 0)]) (w':=W) (by unfold execOp;simp only[hfn,s29,g8];go_simp) ((ub (G:=fun j=>(o1 j∧j≠v)∨w.heap.size≤j) (t:=zL) (yx.none W) (by decide) qbN (fun j hj=>.inr (Nat.le_trans hsz hj))).mono ?_);rintro e W' ⟨f,rfl,fG,hb5⟩;exact⟨f,rfl,hb5,wL.of (fG (wu m (g1,g2) m.live) _ rfl)⟩
   ·have g7:=hG 7 (by kernel_rfl);have g9:=hG 9 (by kernel_rfl);obtain⟨⟨ka,ca,ea⟩,g7b⟩:=g7;obtain⟨⟨kb,cb,eb⟩,g9b⟩:=g9;have hb1:=(Below.refl _ W).alloc (Nat.le_refl _) (.cells #[.func (.func ka) #[] ca,.func (.func kb) #[] cb] 115);rw[ea]at g7b;rw[eb]at g9b;exact qc (v:=.slice (some ⟨W.heap.size,0,none⟩) 2 2) (w':=W.alloc (.cells #[.func (.func ka) #[] ca,.func (.func kb) #[] cb] 115)) (by unfold execOp;simp only[s28,ea,s30,eb];go_simp) ⟨hb1,_,_,_,rfl,qg.new _ _ _,(wL.of g7b).below hb1,(wL.of g9b).below hb1⟩
  ·intro vs W hb hG;have g0:vs 0=_:=hG 0 (by decide);obtain⟨B,f1,f2,g10,dn,he1,oU⟩:=hG 10 (by decide);have ey:=QH (wa iD.out (q9 zf.out hb) HJ.out HFU.out HR.out wq.out.1 HDK.out (c:=2) rfl (wq.out.2.1.symm) (qlQ dn he1.2 oU.2) (by omega) (cb:=0) (ed W) (by simp) (wq.out.2.2.symm));simp only[zJ,qP,if_true];rw[g0,g10];generalize vs 1=z1;generalize vs 2=z2;generalize vs 3=z3;generalize vs 4=z4;generalize vs 5=z5;generalize vs 6=z6;generalize vs 7=z7;generalize vs 8=z8;generalize vs 9=z9;clear hG g0 g10 hb dn he1 oU;simp only[Act.put,List.setIfInBounds_toArray,List.set_cons_succ,List.set_cons_zero];refine qV (i:=11) (by kernel_rfl) rfl rfl ?_;go_simp;refine ey.out.mono ?_;rintro e W7 ⟨r,d',m',lost,wP,uL,rfl,hh⟩;have HH:=QH hh;clear hh ey;go_simp;refine qV (i:=12) (by kernel_rfl) rfl rfl ?_;go_simp;refine⟨by kernel_rfl,?_⟩;go_wp2_with fail;go_ret;exact⟨r,d',m',lost,wP,uL,rfl,HH.out⟩
def r1M (m:Mt)(k:Nat):Mt:={ m with qa:=m.qa.take k }
def r2M (m:Mt)(k:Nat):Mt:={ r1M m k with live:=jL m k }
def r3M (m:Mt)(k:Nat):Mt:={ r2M m k with tok:=zL }
theorem qii{m:Mt}{k:Nat}(h:k≤m.qa.length):kg m (k:Int)=⟨0,r3M m k,[]⟩:=by
 unfold kg;rw[if_neg (by omega)];rfl
theorem qlX{m:Mt}{n:Int}(h:n<0∨(m.qa.length:Int)<n):kg m n=⟨2,m,[]⟩:=by
 unfold kg;rw[if_pos h]
def qoZ (G:Nat→Prop)(p:Nat)(T:Array Value)(m:Mt)(k:Nat):Nat→Value→World→Prop:=fun i v w=>match i with
 | 1 | 7=>v=.int .i64 (k:Int)
 | 2=>wL G v w m (r1M m k)
 | 6=>v=.agg T
 | 8=>∃A c,v=.slice A (jL m k).length c∧gV G w A (jL m k) c
 | 9=>wL G v w (r1M m k) (r2M m k)
 | 10=>v=.agg (bm zL none 0 0)
 | 11=>wL G v w (r2M m k) (r3M m k)
 | 12=>∃B f1 f2 f3,v=.slice (some ⟨B,0,none⟩) 3 3∧qg w B 115 #[f1,f2,f3]∧wL G f1 w m (r1M m k)∧wL G f2 w (r1M m k) (r2M m k)∧wL G f3 w (r2M m k) (r3M m k)
 | _=>v=pt p
theorem qij(G:Nat→Prop)(p:Nat)(T:Array Value)(m:Mt)(k:Nat):∀i v w w',i<13→qoZ G p T m k i v w→Below w.heap.size w w'→qoZ G p T m k i v w':=by
 intro i v w w' hi h hb;rcases i with _|_|_|_|_|_|_|_|_|_|_|_|_|i;all_goals (first|omega|skip)
 all_goals unfold qoZ at h ⊢
 all_goals try dsimp only at h ⊢
 all_goals first
  | exact h
  | exact h.below hb
  | (obtain⟨A,c,h1,h2⟩:=h
     exact⟨A,c,h1,h2.stay (kV.of_below hb)⟩)
  | (obtain⟨B,f1,f2,f3,h1,h2,h3,h4,h5⟩:=h
     exact⟨B,f1,f2,f3,h1,h2.below hb,h3.below hb,h4.below hb,h5.below hb⟩)
theorem qlY{o1 o2:Nat→Prop}{w:World}{v pd N b:Nat}{d:DD}{m:Mt}{t:Tg}(n:Int)(h:VP jg w o1 o2 v pd d m false)(hJ:jr.JJ N t d)(hf:0≤d.qi)(hR:qM b N t m)(hn:ib.yf n) :
    Calls prog 34 #[pt v,.int .i64 n] w (kz jg o1 o2 v pd (xp N t d m (kg m n)) w):=by
 have HV:=QH h;have HJ:=QH hJ;have HR:=QH hR;have HFU:=QH hf;have xJ:=QH (jm h hJ.on);have iZ:=QH (pL hR n);obtain⟨A0,A1,A2,c0,c1,c2,hA⟩:=h.is;have HA:=QH hA;obtain⟨dS,k0,k1,k2,k3,k4,k5,k6,k7,k8,k9,aR⟩:=hA.cells;by_cases hbd:n<0∨(m.qa.length:Int)<n
 ·have HPN:=QH (qlX hbd);obtain⟨PN,fF⟩:=QE (kg m n);rw[fF]at HPN ⊢;clear h hJ hR hf hA fF iZ;by_cases h0:n<0
  ·clear hbd;go_enter func34,ntmps34;go_wp2_with fail;refine xJ.out.mono ?_;rintro e W0 ⟨rfl,rfl⟩;clear xJ;go_wp2_with fail;go_ret;rw[HPN.out];exact jn HV.out (Below.refl _ _) (jO (by decide))
  ·have h1:(m.qa.length:Int)<n:=by omega
   clear hbd;go_enter func34,ntmps34;go_wp2_with fail;refine xJ.out.mono ?_;rintro e W0 ⟨rfl,rfl⟩;clear xJ;go_wp2_with fail;go_ret;rw[HPN.out];exact jn HV.out (Below.refl _ _) (jO (by decide))
 ·obtain⟨k,rfl⟩:∃k:Nat,n=(k:Int):=⟨n.toNat,by omega⟩;have hkl:k≤m.qa.length:=by omega
  have h0:¬ (k:Int)<0:=by omega
  have h1:¬ (m.qa.length:Int)<(k:Int):=by omega
  have gp:=qii hkl;obtain⟨PN,fF⟩:=QE (kg m (k:Int));rw[fF]at gp iZ ⊢;have wq:Hid (PN.code=0∧PN.m=r3M m k∧PN.ws=[]):=by unfold Hid;rw[gp];exact⟨rfl,rfl,rfl⟩
  have HDK:Hid (yD b N PN.m∧wO N m PN.ws):=⟨(iZ.out.2.1 wq.out.1).ok,(iZ.out.2.1 wq.out.1).ws⟩;have HKL:=QH hkl;have HBL:Hid ((jL m k).length≤1000):=by
   have h7:=HDK.out.1;rw[wq.out.2.1]at h7;have h8:=h7.len;have h9:=h7.b8;show(r3M m k).live.length≤1000;omega
  clear h hJ hR hf hA fF iZ gp hbd hkl;go_enter func34,ntmps34;go_wp2_with fail;refine xJ.out.mono ?_;rintro e W0 ⟨rfl,rfl⟩;clear xJ;go_wp2_with fail;refine zT (by kernel_rfl) 13 [23,24,25,26,27,28,29,30,31,32,33,34,35] (by kernel_rfl) (qoZ (fun j=>(o1 j∧j≠v)∨w.heap.size≤j) v (zi A0 A1 A2 c0 c1 c2 m) m k) (qij _ _ _ _ _) ?_ ?_
  ·intro i o vs ρ W hi hop hρ hfn hb hG;have t0:ρ (.tmp 0)=pt v:=hρ.out 0 rfl;have t1:ρ (.tmp 1)=.int .i64 (k:Int):=hρ.out 1 rfl;have s24:=hρ.at_ 24 1 rfl;have s25:=hρ.at_ 25 2 rfl;have s26:=hρ.at_ 26 3 rfl;have s27:=hρ.at_ 27 4 rfl;have s28:=hρ.at_ 28 5 rfl;have s29:=hρ.at_ 29 6 rfl;have s30:=hρ.at_ 30 7 rfl;have s31:=hρ.at_ 31 8 rfl;have s32:=hρ.at_ 32 9 rfl;have s33:=hρ.at_ 33 10 rfl;have s34:=hρ.at_ 34 11 rfl;have iz:=HA.out.below hb;obtain⟨dS,k0,k1,k2,k3,k4,k5,k6,k7,k8,k9,aR⟩:=iz.cells;have hsz:w.heap.size≤W.heap.size:=hb.size;rcases i with _|_|_|_|_|_|_|_|_|_|_|_|_|i;all_goals (first|omega|skip)
   all_goals simp only[QA,QB,QC,Option.some.injEq]at hop
   all_goals subst hop
   ·exact qc (w':=W) (by unfold execOp;simp only[t0];go_simp) ⟨Below.refl _ _,rfl⟩
   ·exact qc (w':=W) (by unfold execOp;simp only[t1];go_simp) ⟨Below.refl _ _,rfl⟩
   ·have g1:vs 1=_:=hG 1 (by kernel_rfl);refine qu (f:=80) (args:=#[.int .i64 (k:Int)]) (w':=W) (by unfold execOp;simp only[hfn,s24,g1];go_simp) ((qhi (G:=fun j=>(o1 j∧j≠v)∨w.heap.size≤j) k).mono ?_);rintro e W' ⟨f,rfl,fG,hb5⟩;exact⟨f,rfl,hb5,wL.of (fG m (r1M m k) ⟨HKL.out,rfl⟩)⟩
   ·exact qc (w':=W) (by unfold execOp;simp only[t0];go_simp) ⟨Below.refl _ _,rfl⟩
   ·have g3:vs 3=_:=hG 3 (by kernel_rfl);exact qc (w':=W) (by unfold execOp;simp only[s26,g3];go_simp) ⟨Below.refl _ _,rfl⟩
   ·have g4:vs 4=_:=hG 4 (by kernel_rfl);exact qc (w':=W) (by unfold execOp;simp only[s27,g4];go_simp) ⟨Below.refl _ _,rfl⟩
   ·have g5:vs 5=_:=hG 5 (by kernel_rfl);exact qc (w':=W) (by unfold zi execOp;simp only[s28,g5];go_simp) ⟨Below.refl _ _,rfl⟩
   ·exact qc (w':=W) (by unfold execOp;simp only[t1];go_simp) ⟨Below.refl _ _,rfl⟩
   ·have g6:vs 6=_:=hG 6 (by kernel_rfl);have g7:vs 7=_:=hG 7 (by kernel_rfl);refine qu (f:=79) (args:=#[.agg (zi A0 A1 A2 c0 c1 c2 m),.int .i64 (k:Int)]) (w':=W) (by unfold execOp;simp only[hfn,s29,g6,s30,g7];go_simp) ((mM (G:=fun j=>(o1 j∧j≠v)∨w.heap.size≤j) (iz.tab.qa.mono (fun j hj=>.inl hj)) iz.sz (fun j hj=>.inr (Nat.le_trans hsz hj)) k HKL.out).mono ?_);rintro e W' ⟨A,c,rfl,uJ,hb5⟩;exact⟨_,rfl,hb5,A,c,rfl,uJ⟩
   ·obtain⟨A,c,g8,uJ⟩:=hG 8 (by kernel_rfl);refine qu (f:=57) (args:=#[.slice A (jL m k).length c]) (w':=W) (by unfold execOp;simp only[hfn,s31,g8];go_simp) ((fp (G:=fun j=>(o1 j∧j≠v)∨w.heap.size≤j) uJ HBL.out (fun j hj=>.inr (Nat.le_trans hsz hj))).mono ?_);rintro e W' ⟨f,rfl,fG,hb5⟩;exact⟨f,rfl,hb5,wL.of (fG (r1M m k) _ rfl)⟩
   ·exact qc (w':=W) (by unfold bm zL execOp;go_simp) ⟨Below.refl _ _,rfl⟩
   ·have g10:vs 10=_:=hG 10 (by kernel_rfl);refine qu (f:=60) (args:=#[.agg (bm zL none 0 0)]) (w':=W) (by unfold execOp;simp only[hfn,s33,g10];go_simp) ((ub (G:=fun j=>(o1 j∧j≠v)∨w.heap.size≤j) (t:=zL) (yx.none W) (by decide) qbN (fun j hj=>.inr (Nat.le_trans hsz hj))).mono ?_);rintro e W' ⟨f,rfl,fG,hb5⟩;exact⟨f,rfl,hb5,wL.of (fG (r2M m k) _ rfl)⟩
   ·have g2:=hG 2 (by kernel_rfl);have g9:=hG 9 (by kernel_rfl);have g11:=hG 11 (by kernel_rfl);obtain⟨⟨ka,ca,ea⟩,ga⟩:=g2;obtain⟨⟨kb,cb,eb⟩,gb⟩:=g9;obtain⟨⟨kc,cc,ec⟩,gc⟩:=g11;have hb1:=(Below.refl _ W).alloc (Nat.le_refl _) (.cells #[.func (.func ka) #[] ca,.func (.func kb) #[] cb,.func (.func kc) #[] cc] 115);rw[ea]at ga;rw[eb]at gb;rw[ec]at gc;exact qc (v:=.slice (some ⟨W.heap.size,0,none⟩) 3 3) (w':=W.alloc (.cells #[.func (.func ka) #[] ca,.func (.func kb) #[] cb,.func (.func kc) #[] cc] 115)) (by unfold execOp;simp only[s25,ea,s32,eb,s34,ec];go_simp) ⟨hb1,_,_,_,_,rfl,qg.new _ _ _,(wL.of ga).below hb1,(wL.of gb).below hb1,(wL.of gc).below hb1⟩
  ·intro vs W hb hG;have g0:vs 0=_:=hG 0 (by decide);obtain⟨B,f1,f2,f3,g12,dn,he1,oU,he3⟩:=hG 12 (by decide);have ey:=QH (wa HV.out hb HJ.out HFU.out HR.out wq.out.1 HDK.out (M:=fun i=>if i=0 then m else if i=1 then r1M m k else if i=2 then r2M m k else r3M m k) (n:=3) (c:=3) rfl (wq.out.2.1.symm) (nG dn he1.2 oU.2 he3.2) (by omega) (cb:=0) (ed W) (by simp) (wq.out.2.2.symm));simp only[zJ,qP,if_true];rw[g0,g12];generalize vs 1=z1;generalize vs 2=z2;generalize vs 3=z3;generalize vs 4=z4;generalize vs 5=z5;generalize vs 6=z6;generalize vs 7=z7;generalize vs 8=z8;generalize vs 9=z9;generalize vs 10=z10;generalize vs 11=z11;clear hG g0 g12 hb dn he1 oU he3;simp only[Act.put,List.setIfInBounds_toArray,List.set_cons_succ,List.set_cons_zero];refine qV (i:=13) (by kernel_rfl) rfl rfl ?_;go_simp;refine ey.out.mono ?_;rintro e W7 ⟨r,d',m',lost,wP,uL,rfl,hh⟩;have HH:=QH hh;clear hh ey;go_simp;refine qV (i:=14) (by kernel_rfl) rfl rfl ?_;go_simp;refine⟨by kernel_rfl,?_⟩;go_wp2_with fail;go_ret;exact⟨r,d',m',lost,wP,uL,rfl,HH.out⟩
section
variable {b n:Nat} {last:Gd} {f:Tf} {x:List (Int × Bt)}
theorem qlZ(h:f.base≠last):zF b n last f x=2:=by unfold zF;rw[if_pos (.inl h)]
theorem qik(h:above f.target last=false):zF b n last f x=2:=by unfold zF;rw[if_pos (.inr (.inl h))]
theorem qma(h:f.next<0):zF b n last f x=2:=by unfold zF;rw[if_pos (.inr (.inr (.inr (.inr (.inl h)))))]
theorem qmb(h:f.all<f.next):zF b n last f x=2:=by unfold zF;rw[if_pos (.inr (.inr (.inr (.inr (.inr (.inl h))))))]
theorem qpa(h:(b:Int)<f.all):zF b n last f x=2:=by unfold zF;rw[if_pos (.inr (.inr (.inr (.inl h))))]
theorem qmc(h:¬ (f.next=0↔f.all=0)):zF b n last f x=2:=by unfold zF;rw[if_pos (.inr (.inr (.inr (.inr (.inr (.inr h))))))]
theorem qpb(h:xx b (-1) x=false):zF b n last f x=2:=by unfold zF;rw[if_pos h];split <;> rfl
theorem qmd(h1:f.base=last)(h2:above f.target last=true)(h3:¬ f.next<0)(h4:¬ f.all<f.next)(h5:¬ (b:Int)<f.all)(h6:f.next=0↔f.all=0)(h7:xx b (-1) x=true):zF b n last f x=if f.next=f.all then(if above f.target last=false then 2 else if 20≤n then 3 else 0)else 0:=by
 unfold zF;have h2':¬ above f.target last=false:=by rw[h2];simp
 rw[if_neg,if_neg (by rw[h7];simp),if_neg h2']
 ·by_cases e:f.next=f.all
  ·rw[if_pos e];by_cases e2:20≤n
   ·rw[if_pos ⟨e,e2⟩,if_pos e2]
   ·rw[if_neg (fun h=>e2 h.2),if_neg e2]
  ·rw[if_neg (fun h=>e h.1),if_neg e]
 ·rintro(h|h|h|h|h|h|h)
  ·exact h h1
  ·exact h2' h
  ·omega
  ·exact h5 h
  ·exact h3 h
  ·exact h4 h
  ·exact h h6
end
theorem tP {w:World}{A0 A1 A2:Option Addr}{c0 c1 c2:Nat}{m:Mt}(hS:ji w A1 m.qa)(hsz:mtS m)(f:Tf)(A:Option Addr)(n c:Nat)(B:Option Addr)(cx:Nat)(x:List (Int × Bt))(hx:ch.dU w B x)(wN:x.length≤1000) :
    Calls prog 64 #[.agg (zi A0 A1 A2 c0 c1 c2 m),.agg (bf f A n c),.slice B x.length cx] w (qga (zF m.live.length m.qa.length (qH m) f x) w):=by
 obtain⟨W1,hW1,zN,hb1⟩:=xI w (zi A0 A1 A2 c0 c1 c2 m);have hb2:=(Below.refl _ W1).alloc (Nat.le_refl _) (.cells (bf f A n c) 59);have hr2:=qg.new W1 59 (bf f A n c);obtain⟨W,hW2⟩:=QE (W1.alloc (.cells (bf f A n c) 59));rw[hW2]at hb2 hr2;have qG:=QH (q9 hb1 hb2);have hk2:=zN.below hb2;have wJ:=QH hk2;have uQ:=QH hr2;have HS:=QH (hS.below qG.out);have HX:=QH (hx.below qG.out);have nS:=hsz.qa;have h8:=hsz.live;have q0:=hk2.cell 0;have q1:=hk2.cell 1;have q2:=hk2.cell 2;have q3:=hk2.cell 3;have q4:=hk2.cell 4;have q5:=hk2.cell 5;have q6:=hk2.cell 6;have q7:=hk2.cell 7;have q8:=hk2.cell 8;have qlt:=hk2.lt;simp only[zi,bf,QA,QB,QC]at q0 q1 q2 q3 q4 q5 q6 q7 q8;have r0:=hr2.cell 0;have r1:=hr2.cell 1;have r2:=hr2.cell 2;have r3:=hr2.cell 3;have r4:=hr2.cell 4;have r5:=hr2.cell 5;have r6:=hr2.cell 6;have rlt:=hr2.lt;simp only[zi,bf,QA,QB,QC]at r0 r1 r2 r3 r4 r5 r6;have e0:=fun d os=>cell_regrown q0 d os;have e1:=fun d os=>cell_regrown q1 d os;have e2:=fun d os=>cell_regrown q2 d os;have e3:=fun d os=>cell_regrown q3 d os;have e4:=fun d os=>cell_regrown q4 d os;have e5:=fun d os=>cell_regrown q5 d os;have e6:=fun d os=>cell_regrown q6 d os;have e7:=fun d os=>cell_regrown q7 d os;have e8:=fun d os=>cell_regrown q8 d os;have p0:=fun d os=>cell_regrown r0 d os;have p1:=fun d os=>cell_regrown r1 d os;have cL:∀b os,Calls prog 112 #[.agg (zi A0 A1 A2 c0 c1 c2 m)] (grow (redrawn W b) os) fun e w''=>e=.returned (gv (qH m))∧∃q:Regrown,w''=grow (redrawn W q.d) q.os :=
  fun b os=>Calls.regrown_of (pR (HS.out.below (below_regrown W b os)) nS)
 have EB:=QH (fun h=>qlZ (b:=m.live.length) (n:=m.qa.length) (last:=qH m) (f:=f) (x:=x) h);have EA:=QH (fun h=>qik (b:=m.live.length) (n:=m.qa.length) (last:=qH m) (f:=f) (x:=x) h);have EN:=QH (fun h=>qma (b:=m.live.length) (n:=m.qa.length) (last:=qH m) (f:=f) (x:=x) h);have EO:=QH (fun h=>qmb (b:=m.live.length) (n:=m.qa.length) (last:=qH m) (f:=f) (x:=x) h);have EL:=QH (fun h=>qpa (b:=m.live.length) (n:=m.qa.length) (last:=qH m) (f:=f) (x:=x) h);have EZ:=QH (fun h=>qmc (b:=m.live.length) (n:=m.qa.length) (last:=qH m) (f:=f) (x:=x) h);have EC:=QH (fun h=>qpb (b:=m.live.length) (n:=m.qa.length) (last:=qH m) (f:=f) (x:=x) h);have EG:=QH (fun h1 h2 h3 h4 h5 h6 h7=>qmd (b:=m.live.length) (n:=m.qa.length) (last:=qH m) (f:=f) (x:=x) h1 h2 h3 h4 h5 h6 h7);have dW:Hid (∀W',Calls prog 113 #[gv f.target,gv f.base] W' (wU (above f.target f.base) W')):=fun W'=>mJ f.target f.base W';have wK:Hid (∀W',ch.dU W' B x→Calls prog 54 #[.agg (zi A0 A1 A2 c0 c1 c2 m),.slice B x.length cx] W' (wU (xx m.live.length (-1) x) W')):=fun W' h=>ra h8 h wN;have HCM:Hid (∀W',ji W' A1 m.qa→Calls prog 76 #[.agg (zi A0 A1 A2 c0 c1 c2 m),gv f.target] W' (qga (if above f.target (qH m)=false then 2 else if 20≤m.qa.length then 3 else 0) W')):=fun W' h=>nA h nS f.target;obtain⟨Z,hZ⟩:=QE (if above f.target (qH m)=false then(2:Int)else if 20≤m.qa.length then 3 else 0);rw[hZ]at HCM EG;clear hZ;obtain⟨R,hR⟩:=QE (zF m.live.length m.qa.length (qH m) f x);obtain⟨q,hq⟩:=QE (xx m.live.length (-1) x);rw[hR]at EB EA EN EO EL EZ EC EG ⊢;rw[hq]at wK EC EG;clear hR hq;obtain⟨⟨ba,bb⟩,⟨ta,tb⟩,nx,al⟩:=f;obtain⟨L,hL⟩:=QE (qH m);rw[hL]at cL EB EA EG;obtain⟨la,lb⟩:=L;clear hS zN hb1 hb2 hr2 hk2 hL hx;dsimp only[bf,gv]at *;unfold zi at *;go_enter func64,ntmps64;go_upto_region 1 with fail;try rw[hW1]
 try rw[hW2]
 clear hW1 hW2;have qve:((ba:Int)=la∧(bb:Int)=lb∧(ba,bb)=(la,lb))∨((¬ (ba:Int)=la∨((ba:Int)=la∧¬ (bb:Int)=lb))∧R=2):=by
  by_cases e1:ba=la
  ·by_cases e2:bb=lb
   ·exact .inl ⟨by rw[e1],by rw[e2],by rw[e1,e2]⟩
   ·exact .inr ⟨.inr ⟨by rw[e1],by omega⟩,EB.out (fun h=>e2 (Prod.mk.inj h).2)⟩
  ·exact .inr ⟨.inl (by omega),EB.out (fun h=>e1 (Prod.mk.inj h).1)⟩
 have FIN:Hid (∀dq osq,Below w.heap.size w (grow (redrawn W dq) osq)):=fun dq osq=>q9 qG.out (below_regrown W dq osq);rcases qve with⟨hba,hbb,hbe⟩|⟨hno,hr⟩
 case' inr =>
  have HR:=QH hr;clear hr;rcases hno with hn1|⟨hn1,hn2⟩;all_goals
   refine wp_region_quiet_below dp (by kernel_rfl) ?_;repeat (any_goals (first|go_big_quiet_step (first|exact cL _ _)|quiet_step (first|exact cL _ _)))
   refine wpQuiet_nil ?_;intro _ hw';obtain⟨⟨dq,osq⟩,hw''⟩:=hw';subst hw'';have zf:=QH (FIN.out dq osq);clear cL e0 e1 e2 e3 e4 e5 e6 e7 e8 p0 p1;go_wp2_with fail;go_ret;exact⟨by rw[HR.out];rfl,zf.out⟩
 have HBE:=QH hbe;clear hbe;refine wp_region_quiet_below dp (by kernel_rfl) ?_;repeat (any_goals (first|go_big_quiet_step (first|exact cL _ _)|quiet_step (first|exact cL _ _)))
 refine wpQuiet_nil ?_;intro _ hw';obtain⟨⟨dq,osq⟩,hw''⟩:=hw';subst hw'';have hbg:=below_regrown W dq osq;have zf:=QH (FIN.out dq osq);have og:=QH (wJ.out.below hbg);have fV:=QH (uQ.out.below hbg);have rR:=QH (HS.out.below hbg);have HX3:=QH (HX.out.below hbg);clear hbg cL e0 e1 e2 e3 e4 e5 e6 e7 e8 p0 p1 qlt rlt q0 q1 q2 q3 q4 q5 q6 q7 q8 r0 r1 r2 r3 r4 r5 r6 hba hbb qG wJ uQ HS HX FIN;generalize grow (redrawn W dq) osq=W3 at *;have hr3:=fV.out;have r0:=hr3.cell 0;have r1:=hr3.cell 1;have r2:=hr3.cell 2;have r3:=hr3.cell 3;have r4:=hr3.cell 4;have r5:=hr3.cell 5;have r6:=hr3.cell 6;have rlt:=hr3.lt;simp only[Nat.zero_add,QA,QB,QC]at r0 r1 r2 r3 r4 r5 r6;clear hr3;go_wp2_with fail;refine(dW.out _).mono ?_;rintro e W4 ⟨rfl,hb4⟩;have zU:=QH (q9 zf.out hb4);have pw:=QH (og.out.below hb4);have HR4:=QH (fV.out.below hb4);have pj:=QH (rR.out.below hb4);have HX4:=QH (HX3.out.below hb4);clear hb4 dW zf og fV rR HX3 rlt r0 r1 r2 r3 r4 r5 r6;have hbe:=HBE.out;obtain⟨ab,hab⟩:=QE (above (ta,tb) (ba,bb));have HAB:Hid (above (ta,tb) (la,lb)=ab):=by unfold Hid;rw[← hbe];exact hab
 rw[hab];clear hab hbe;have hr4:=HR4.out;have hk4:=pw.out;have r0:=hr4.cell 0;have r1:=hr4.cell 1;have r2:=hr4.cell 2;have r3:=hr4.cell 3;have r4:=hr4.cell 4;have r5:=hr4.cell 5;have r6:=hr4.cell 6;have rlt:=hr4.lt;simp only[Nat.zero_add,QA,QB,QC]at r0 r1 r2 r3 r4 r5 r6;have q0:=hk4.cell 0;have q1:=hk4.cell 1;have q2:=hk4.cell 2;have q3:=hk4.cell 3;have q4:=hk4.cell 4;have q5:=hk4.cell 5;have q6:=hk4.cell 6;have q7:=hk4.cell 7;have q8:=hk4.cell 8;have qlt:=hk4.lt;simp only[Nat.zero_add,QA,QB,QC]at q0 q1 q2 q3 q4 q5 q6 q7 q8;clear hr4 hk4;cases ab
 case' false =>
  have HR:=QH (EA.out HAB.out);go_wp2_with fail;go_ret;exact⟨by rw[HR.out];rfl,zU.out⟩
 by_cases h3:nx<0
 case' pos =>
  have HR:=QH (EN.out h3);go_wp2_with fail;go_ret;exact⟨by rw[HR.out];rfl,zU.out⟩
 by_cases h4:al<nx
 case' pos =>
  have HR:=QH (EO.out h4);go_wp2_with fail;go_ret;exact⟨by rw[HR.out];rfl,zU.out⟩
 by_cases h5:(m.live.length:Int)<al
 case' pos =>
  have HR:=QH (EL.out h5);go_wp2_with fail;go_ret;exact⟨by rw[HR.out];rfl,zU.out⟩
 obtain⟨z1,hz1⟩:=QE (nx == 0);obtain⟨z2,hz2⟩:=QE (al == 0);have HZ:Hid ((nx=0↔al=0)↔z1=z2):=by
  unfold Hid;rw[← hz1,← hz2,Bool.eq_iff_iff];simp
 have HZ0:Hid (¬ (z1=z2)→R=2):=fun h=>EZ.out (fun e=>h (HZ.out.1 e));have HG:Hid (z1=z2→q=true→R=if nx=al then Z else 0):=fun h h7=>EG.out HBE.out HAB.out (by omega) (by omega) (by omega) (HZ.out.2 h) h7;clear HZ;cases z1 <;> cases z2
 case' false.true =>
  have HR:=QH (HZ0.out (by decide));go_wp2_with fail;go_ret;exact⟨by rw[HR.out];rfl,zU.out⟩
 case' true.false =>
  have HR:=QH (HZ0.out (by decide));go_wp2_with fail;go_ret;exact⟨by rw[HR.out];rfl,zU.out⟩
 all_goals
  have HG2:=QH (HG.out rfl);clear HG HZ0;go_wp2_with fail;refine(wK.out _ HX4.out).mono ?_;rintro e W5 ⟨rfl,hb5⟩;have jt:=QH (q9 zU.out hb5);have hr5:=HR4.out.below hb5;have hk5:=pw.out.below hb5;have rW:=QH (pj.out.below hb5);clear hb5 r0 r1 r2 r3 r4 r5 r6 rlt q0 q1 q2 q3 q4 q5 q6 q7 q8 qlt;have r0:=hr5.cell 0;have r1:=hr5.cell 1;have r2:=hr5.cell 2;have r3:=hr5.cell 3;have r4:=hr5.cell 4;have r5:=hr5.cell 5;have r6:=hr5.cell 6;have rlt:=hr5.lt;simp only[Nat.zero_add,QA,QB,QC]at r0 r1 r2 r3 r4 r5 r6;have q0:=hk5.cell 0;have q1:=hk5.cell 1;have q2:=hk5.cell 2;have q3:=hk5.cell 3;have q4:=hk5.cell 4;have q5:=hk5.cell 5;have q6:=hk5.cell 6;have q7:=hk5.cell 7;have q8:=hk5.cell 8;have qlt:=hk5.lt;simp only[Nat.zero_add,QA,QB,QC]at q0 q1 q2 q3 q4 q5 q6 q7 q8;clear hr5 hk5;cases q
  case' false =>
   have HR:=QH (EC.out rfl);go_wp2_with fail;go_ret;exact⟨by rw[HR.out];rfl,jt.out⟩
  have HG3:=QH (HG2.out rfl);by_cases h6:nx=al
  case' neg =>
   have HR:Hid (R=0):=by unfold Hid;rw[HG3.out,if_neg h6]
   go_wp2_with fail;all_goals go_ret
   all_goals exact⟨by rw[HR.out];rfl,jt.out⟩
  have HR:Hid (R=Z):=by unfold Hid;rw[HG3.out,if_pos h6]
  have hnx:(nx == al)=true:=by rw[h6];simp
  go_wp2_with fail;refine(HCM.out _ rW.out).mono ?_;rintro e W6 ⟨rfl,jQ⟩;have vL:=QH (q9 jt.out jQ);clear jQ r0 r1 r2 r3 r4 r5 r6 rlt q0 q1 q2 q3 q4 q5 q6 q7 q8 qlt;go_wp2_with fail;go_ret;exact⟨by rw[HR.out];rfl,vL.out⟩
end Go.Proofs.YtdagdllomphidaaGreatDoor.vt.pg
namespace Go.Proofs.YtdagdllomphidaaGreatDoor.vt.pg
open _root_.Go.Proofs.Tryz Go Go.RowKit Go.Sort ib mt im sp
theorem qme{b N:Nat}{m:Mt}{f:Tf}(h:yD b N m)(e2:mt.above f.target (qH m)=true):yX b N (zI m f):=by
 unfold zI;split
 ·rename_i hm;rcases h.tok with ht|ht
  ·exfalso;rw[ht]at hm;have:f.target=(0,0):=hm.2.1.symm;rw[this]at e2;unfold mt.above at e2;simp at e2
  ·exact ht.2.2.2.2.2
 ·exact cj h
def s1M (m:Mt)(f:Tf)(l:List Int):Mt:=wu m f.target l
def s2M (m:Mt)(f:Tf)(l:List Int):Mt:={ s1M m f l with live:=l }
def s3M (m:Mt)(f:Tf)(l:List Int):Mt:={ s2M m f l with tok:=zL }
def qmf (f:Tf)(l:List Int):Tk:=⟨f.base,f.target,f.next,f.all,l⟩
theorem qbX{b N:Nat}{t:Tg}{m:Mt}(h:qM b N t m)(f:Tf)(x:List (Int × Bt)) :
    (zF m.live.length m.qa.length (qH m) f x≠0∧qT N m f x=⟨zF m.live.length m.qa.length (qH m) f x,m,[]⟩) ∨
    (zF m.live.length m.qa.length (qH m) f x=0∧xx m.live.length (-1) x=true∧x.length≤8∧yX b N (zI m f)∧f.next≤f.all ∧
     (((qw N m x).2≠0∧qT N m f x=⟨(qw N m x).2,m,[]⟩) ∨
      ((qw N m x).2=0∧((f.next=f.all∧qT N m f x=⟨0,s3M m f (zt (zI m f) x (qw N m x).1.1),(qw N m x).1.2⟩) ∨
       (f.next≠f.all∧qT N m f x=⟨0,{ m with tok:=qmf f (zt (zI m f) x (qw N m x).1.1) },(qw N m x).1.2⟩))))):=by
 by_cases he:zF m.live.length m.qa.length (qH m) f x=0
 ·right
  obtain⟨e1,e2,e3,e4,e5,e6,e7,e8⟩:=mD he;have hlen:=h.ok.len;have hb1:=h.ok.b1;have hb8:=h.ok.b8;refine⟨he,e7,?_,qme h.ok e2,by omega,?_⟩
  ·have:=fg e7 (by omega) (by omega);omega
  ·unfold qT;rw[if_neg (by rw[he];simp)];by_cases h0:(qw N m x).2=0
   ·rw[if_neg (by rw[h0];simp)];refine .inr ⟨h0,?_⟩;by_cases hn:f.next=f.all
    ·rw[if_pos hn];exact .inl ⟨hn,rfl⟩
    ·rw[if_neg hn];exact .inr ⟨hn,rfl⟩
   ·rw[if_pos h0];exact .inl ⟨h0,rfl⟩
 ·left
  unfold qT;rw[if_pos he];exact⟨he,rfl⟩
theorem qmg{b N:Nat}{t:Tg}{m:Mt}(h:qM b N t m)(f:Tf)(hg:xn f.target)(x:List (Int × Bt))(h0:(qT N m f x).code=0):yD b N (qT N m f x).m∧wO N m (qT N m f x).ws:=by
 rcases vU h f hg x with⟨h7,_⟩|⟨_,hd⟩
 ·rw[h0]at h7;cases h7
 ·have hs:=hd h0;by_cases hn:f.next=f.all
  ·exact⟨(hs.whole hn).1.ok,(hs.whole hn).1.ws⟩
  ·exact⟨(hs.part hn).1.ok,(hs.part hn).1.ws⟩
theorem tx.new{w:World}{B:Nat}{v:Value}{l:List Pl}(h:tx w B v l):∀a n c,v=.slice a n c→∀b o s,a=some ⟨b,o,s⟩→B≤b:=by
 intro a n c hv b o s ha;rcases h.2 with⟨rfl,h0⟩|⟨g,cap,cur,rfl,hg,hh,hcc,hm,hcs,xt⟩
 ·cases hv;cases ha
 ·cases hv;cases ha;exact hg
theorem PlL.set{w:World}{A:Option Addr}{l:List Pl}(h:PlL w A l){g k:Nat}{u:Value}(hg:∀b o s,A=some ⟨b,o,s⟩→b≠g):PlL (w.setCell ⟨g,k,none⟩ u) A l:=by
 intro i hi;obtain⟨b,o,h1,h2,h3,h4,h5⟩:=h i hi;have hn:=hg b o none h1;have hb:(w.setCell ⟨g,k,none⟩ u).heap[b]?=w.heap[b]? :=qE _ _ _ _ _ hn;exact⟨b,o,h1,by simpa[World.setCell]using h2,(World.cell?_of_block (w:=w) (a:=⟨b,o+i*3,none⟩) hb).trans h3,(World.cell?_of_block (w:=w) (a:=⟨b,o+i*3+1,none⟩) hb).trans h4,(World.cell?_of_block (w:=w) (a:=⟨b,o+i*3+2,none⟩) hb).trans h5⟩
def qpc (G:Nat→Prop)(p tb:Nat)(T F:Array Value)(src qj:List Int)(PV:Value):Nat→Value→World→Prop:=fun i v w=>match i with
 | 3=>v=.agg T
 | 4=>v=.agg F
 | 5=>∃A c,v=.slice A src.length c∧gV G w A src c
 | 6=>v=PV
 | 7=>∃A c,v=.slice A qj.length c∧gV G w A qj c
 | 8=>v=.pointer (some ⟨tb,6,none⟩)
 | _=>v=pt p
theorem qil(G:Nat→Prop)(p tb:Nat)(T F:Array Value)(src qj:List Int)(PV:Value):∀i v w w',i<9→qpc G p tb T F src qj PV i v w→Below w.heap.size w w'→qpc G p tb T F src qj PV i v w':=by
 intro i v w w' hi h hb;rcases i with _|_|_|_|_|_|_|_|_|i;all_goals (first|omega|skip)
 all_goals unfold qpc at h ⊢
 all_goals try dsimp only at h ⊢
 all_goals first
  | exact h
  | (obtain⟨A,c,h1,h2⟩:=h
     exact⟨A,c,h1,h2.stay (kV.of_below hb)⟩)
def qpd (G:Nat→Prop)(p tb:Nat)(PV IV:Value)(m:Mt)(f:Tf)(qj:List Int):Nat→Value→World→Prop:=fun i v w=>match i with
 | 1=>v=PV
 | 2=>v=.pointer (some ⟨tb,2,none⟩)
 | 3=>v=.agg #[.int .u64 (f.target.1:Int),.int .u64 (f.target.2:Int)]
 | 4 | 7=>v=.pointer (some ⟨tb,6,none⟩)
 | 5 | 8=>v=IV
 | 6=>wL G v w m (s1M m f qj)
 | 9=>wL G v w (s1M m f qj) (s2M m f qj)
 | 10=>v=.agg (bm zL none 0 0)
 | 11=>wL G v w (s2M m f qj) (s3M m f qj)
 | 12=>∃B f1 f2 f3,v=.slice (some ⟨B,0,none⟩) 3 3∧qg w B 115 #[f1,f2,f3]∧wL G f1 w m (s1M m f qj)∧wL G f2 w (s1M m f qj) (s2M m f qj)∧wL G f3 w (s2M m f qj) (s3M m f qj)
 | _=>v=pt p
theorem qim(G:Nat→Prop)(p tb:Nat)(PV IV:Value)(m:Mt)(f:Tf)(qj:List Int):∀i v w w',i<13→qpd G p tb PV IV m f qj i v w→Below w.heap.size w w'→qpd G p tb PV IV m f qj i v w':=by
 intro i v w w' hi h hb;rcases i with _|_|_|_|_|_|_|_|_|_|_|_|_|i;all_goals (first|omega|skip)
 all_goals unfold qpd at h ⊢
 all_goals try dsimp only at h ⊢
 all_goals first
  | exact h
  | exact h.below hb
  | (obtain⟨B,f1,f2,f3,h1,h2,h3,h4,h5⟩:=h
     exact⟨B,f1,f2,f3,h1,h2.below hb,h3.below hb,h4.below hb,h5.below hb⟩)
theorem qin{o1 o2:Nat→Prop}{w:World}{v pd N b:Nat}{d:DD}{m:Mt}{t:Tg}(f:Tf)(A:Option Addr)(c:Nat)(x:List (Int × Bt))(h:VP jg w o1 o2 v pd d m false)(hJ:jr.JJ N t d)(hf:0≤d.qi)(hR:qM b N t m)(hfb:TfB f)(hx:ch.dU w A x)(wN:x.length≤1000) :
    Calls prog 24 #[pt v,tkV f none 0 0,.slice A x.length c] w (kz jg o1 o2 v pd (xp N t d m (qT N m f x)) w):=by
 have iZ:=QH (qmg hR f hfb.target x);have HFB:=QH hfb;have iD:=QH h;have hb2:=(Below.refl _ w).alloc (Nat.le_refl _) (.cells (bf f none 0 0) 59);have hr2:=qg.new w 59 (bf f none 0 0);obtain⟨W,hW2⟩:=QE (w.alloc (.cells (bf f none 0 0) 59));rw[hW2]at hb2 hr2;have h2:=qN h hb2;obtain⟨A0,A1,A2,c0,c1,c2,hA⟩:=h2.is;have HA:=QH hA;have HJ:=QH hJ;have HR:=QH hR;have HFU:=QH hf;have qG:=QH hb2;have uQ:=QH hr2;have tY:=QH (hx.below hb2);have xJ:=QH (jm h2 hJ.on);have eM:=QH hA.sz;have HXL:=QH wN;obtain⟨dS,k0,k1,k2,k3,k4,k5,k6,k7,k8,k9,aR⟩:=hA.cells;have r0:=hr2.cell 0;have r1:=hr2.cell 1;have r2:=hr2.cell 2;have r3:=hr2.cell 3;have r4:=hr2.cell 4;have r5:=hr2.cell 5;have r6:=hr2.cell 6;have rlt:=hr2.lt;simp only[bf,Nat.zero_add,QA,QB,QC]at r0 r1 r2 r3 r4 r5 r6;have e0:=fun d os=>cell_regrown k0 d os;have e1:=fun d os=>cell_regrown k1 d os;have e2:=fun d os=>cell_regrown k2 d os;have e3:=fun d os=>cell_regrown k3 d os;have e4:=fun d os=>cell_regrown k4 d os;have e5:=fun d os=>cell_regrown k5 d os;have e6:=fun d os=>cell_regrown k6 d os;have e7:=fun d os=>cell_regrown k7 d os;have e8:=fun d os=>cell_regrown k8 d os;have p0:=fun d os=>cell_regrown r0 d os;have p1:=fun d os=>cell_regrown r1 d os;have p2:=fun d os=>cell_regrown r2 d os;have p3:=fun d os=>cell_regrown r3 d os;have p4:=fun d os=>cell_regrown r4 d os;have p5:=fun d os=>cell_regrown r5 d os;have p6:=fun d os=>cell_regrown r6 d os;have cF:∀b os,Calls prog 64 #[.agg (zi A0 A1 A2 c0 c1 c2 m),.agg (bf f none 0 0),.slice A x.length c] (grow (redrawn W b) os) fun e w''=>e=.returned (.int .i64 (zF m.live.length m.qa.length (qH m) f x))∧∃q:Regrown,w''=grow (redrawn W q.d) q.os :=
  fun b os=>Calls.regrown_of (tP (HA.out.below (below_regrown W b os)).tab.mt.qa eM.out f none 0 0 A c x (tY.out.below (below_regrown W b os)) HXL.out)
 have tF:=QH (qbX hR f x);obtain⟨PN,fF⟩:=QE (qT N m f x);obtain⟨F,hF⟩:=QE (zF m.live.length m.qa.length (qH m) f x);rw[hF,fF]at tF;rw[fF]at iZ;rw[hF]at cF;rw[fF];obtain⟨n,hn⟩:=QE x.length;rw[hn]at cF ⊢;have HN:=QH hn;clear h h2 hJ hR hA hb2 hr2 fF hF hf hfb hx hn wN;unfold zi bf at cF;try dsimp only at cF
 unfold tkV;unfold bf at hW2;go_enter func24,ntmps24;go_upto_region 1 with fail;try rw[hW2]
 clear hW2;go_wp2_with fail;refine xJ.out.mono ?_;rintro e W1 ⟨rfl,rfl⟩;clear xJ;go_upto_region 4 with fail;refine wp_region_quiet_below dp (by kernel_rfl) ?_;repeat (any_goals (first|go_big_quiet_step (first|exact cF _ _)|quiet_step (first|exact cF _ _)))
 refine wpQuiet_nil ?_;intro _ hw';obtain⟨⟨dq,osq⟩,hw''⟩:=hw';subst hw'';have hb:=below_regrown W dq osq;have zf:=QH (q9 qG.out hb);have fT:=QH (HA.out.below hb);have fV:=QH (uQ.out.below hb);have HX3:=QH (tY.out.below hb);clear hb e0 e1 e2 e3 e4 e5 e6 e7 e8 p0 p1 p2 p3 p4 p5 p6 cF HA qG uQ tY dS k0 k1 k2 k3 k4 k5 k6 k7 k8 k9 aR r0 r1 r2 r3 r4 r5 r6 rlt;generalize grow (redrawn W dq) osq=W3 at *;rcases tF.out with⟨hc,gp⟩|⟨rfl,hck,hx8,hso,hle,cE⟩
 ·have hcb:(F != 0)=true:=by simpa using hc
  have HPN:=QH gp;have HC:=QH hc;clear hc gp tF;go_wp2_with fail;go_ret;rw[HPN.out];exact jn (qN iD.out zf.out) zf.out (jO HC.out)
 ·have qvg:=nD (c:=c) (qN iD.out zf.out) HJ.out.rb.1 HR.out.ok HR.out.N1 HX3.out hx8 (fun y hy=>(jJ hck y hy).1);rw[HN.out]at qvg;have qhY:=QH qvg;have HCK:=QH hck;have HX8:=QH hx8;have HSO:=QH hso;have HLE:=QH hle;have qf4:=QH cE;have hce:((0:Int) != 0)=false:=rfl;clear tF hck hx8 hso hle cE qvg;go_wp2_with fail;refine qhY.out.mono ?_;rintro e W4 ⟨hb4,qb3⟩;have zU:=QH (q9 zf.out hb4);have iF:=QH (fT.out.below hb4);have HR4:=QH (fV.out.below hb4);have zb7:=QH hb4.size;clear hb4 qhY;rcases qb3 with⟨hne,rfl⟩|⟨h0,pv,rfl,hop⟩
  ·have hcb:((qw N m x).2 != 0)=true:=by simpa using hne
   have HPE:Hid (PN=⟨(qw N m x).2,m,[]⟩):=by
    unfold Hid;rcases qf4.out with⟨_,h⟩|⟨h,_⟩
    ·exact h
    ·exact absurd h hne
   have rS:=QH hne;clear qf4 hne;generalize (qw N m x).2=pc at *;go_wp2_with fail;go_ret;rw[HPE.out];exact jn (qN iD.out zU.out) zU.out (jO rS.out)
  ·have hpw:=nE HR.out.ok HR.out.N1 h0;have hpl:eZ N m x (qw N m x).1.1 (qw N m x).1.2:=by
    rcases yM HR.out.ok HR.out.N1 x HX8.out (fun c hc=>(jJ HCK.out c hc).1)with⟨h7,_⟩|⟨_,hp⟩
    ·rw[h7]at h0;cases h0
    ·exact hp
   have cE:(f.next=f.all∧PN=⟨0,s3M m f (zt (zI m f) x (qw N m x).1.1),(qw N m x).1.2⟩)∨(f.next≠f.all∧PN=⟨0,{ m with tok:=qmf f (zt (zI m f) x (qw N m x).1.1) },(qw N m x).1.2⟩):=by
    rcases qf4.out with⟨h,_⟩|⟨_,h⟩
    ·exact absurd h0 h
    ·exact h
   have rh:=qq1 hpl HR.out.N1 HCK.out;have tG:=qlP hpl.len;obtain⟨BA,bc,hpv,hPL⟩:=hop.view;have hnew:=hop.new _ _ _ hpv;have hsp:=tC x (qw N m x).1.1 (zI m f);generalize (qw N m x).1.1=at_ at *;generalize (qw N m x).1.2=ws at *;have uJ:(zI m f).length=b:=HSO.out.1;have hml:m.live.length=b:=HR.out.ok.len;have hil:(zt (zI m f) x at_).length=b:=by rw[aP];exact uJ
   have HPW:=QH hpw;have tr:=QH hPL;have qhZ:=QH tG;have qa3:=QH hnew;have oC:=QH cE;have HSL:=QH uJ;have qbL:Hid (∀W A c,gV (fun j=>(o1 j∧j≠v)∨w.heap.size<j) W A (zI m f) c→Below W4.heap.size W4 W→Calls prog 58 #[.slice A (zI m f).length c,.slice BA (PL x at_).length bc] W (qhk (fun j=>(o1 j∧j≠v)∨w.heap.size<j) (zt (zI m f) x at_) W)):=fun W A c hs hb=>by
    have:=km hs (by rw[uJ];exact HR.out.ok.b1) (by rw[uJ];have:=HR.out.ok.b8;omega) (hPL.below hb) (cb:=bc) (by rw[uJ];rw[hml]at rh;exact rh) (by rw[tG];have:=HX8.out;omega) (fun j hj=>.inr (by
     have h1:=HR4.out.lt;have h2:=hb.size;omega))
    rw[hsp]at this;exact this
   obtain⟨pn,gp⟩:=QE ((PL x at_).length);rw[gp]at hpv qbL;have HPN:=QH gp;subst hpv;obtain⟨qj,qhb⟩:=QE (zt (zI m f) x at_);rw[qhb]at qbL oC hil;have HIL:=QH hil;obtain⟨P,hP⟩:=QE (PL x at_);rw[hP]at HPW tr qhZ HPN;obtain⟨src,ou⟩:=QE (zI m f);have q4R:=QH ou;rw[ou]at qbL HSL;clear h0 hpw hpl cE rh tG hPL hsp uJ hml hil hop hnew qf4 gp qhb hP ou;go_wp2_with fail;refine zT (by kernel_rfl) 9 [35,36,37,38,39,40,41,42,43] (by kernel_rfl) (qpc (fun j=>(o1 j∧j≠v)∨w.heap.size<j) v w.heap.size (zi A0 A1 A2 c0 c1 c2 m) (bf f none 0 0) src qj (.slice BA pn bc)) (qil _ _ _ _ _ _ _ _) ?_ ?_
   ·intro i o vs ρ W hi hop hρ hfn hb hG;have t0:ρ (.tmp 0)=pt v:=hρ.out 0 rfl;have t4:ρ (.tmp 4)=pt w.heap.size:=hρ.out 4 rfl;have t9:ρ (.tmp 9)=.slice BA pn bc:=hρ.out 9 rfl;have s35:=hρ.at_ 35 0 rfl;have s36:=hρ.at_ 36 1 rfl;have s37:=hρ.at_ 37 2 rfl;have s38:=hρ.at_ 38 3 rfl;have s39:=hρ.at_ 39 4 rfl;have s40:=hρ.at_ 40 5 rfl;have s41:=hρ.at_ 41 6 rfl;have iz:=iF.out.below hb;obtain⟨dS,k0,k1,k2,k3,k4,k5,k6,k7,k8,k9,aR⟩:=iz.cells;have hr:=HR4.out.below hb;have r0:=hr.cell 0;have r1:=hr.cell 1;have r2:=hr.cell 2;have r3:=hr.cell 3;have r4:=hr.cell 4;have r5:=hr.cell 5;have r6:=hr.cell 6;have rlt:=hr.lt;simp only[bf,QA,QB,QC]at r0 r1 r2 r3 r4 r5 r6;rcases i with _|_|_|_|_|_|_|_|_|i;all_goals (first|omega|skip)
    all_goals simp only[QA,QB,QC,Option.some.injEq]at hop
    all_goals subst hop
    ·exact qc (w':=W) (by unfold execOp;simp only[t0];go_simp) ⟨Below.refl _ _,rfl⟩
    ·have g0:vs 0=_:=hG 0 (by kernel_rfl);exact qc (w':=W) (by unfold execOp;simp only[s35,g0];go_simp) ⟨Below.refl _ _,rfl⟩
    ·have g1:vs 1=_:=hG 1 (by kernel_rfl);exact qc (w':=W) (by unfold execOp;simp only[s36,g1];go_simp) ⟨Below.refl _ _,rfl⟩
    ·have g2:vs 2=_:=hG 2 (by kernel_rfl);exact qc (w':=W) (by unfold zi execOp;simp only[s37,g2];go_simp) ⟨Below.refl _ _,rfl⟩
    ·exact qc (w':=W) (by unfold bf execOp;simp only[t4];go_simp) ⟨Below.refl _ _,rfl⟩
    ·have g3:vs 3=_:=hG 3 (by kernel_rfl);have g4:vs 4=_:=hG 4 (by kernel_rfl);refine qu (f:=65) (args:=#[.agg (zi A0 A1 A2 c0 c1 c2 m),.agg (bf f none 0 0)]) (w':=W) (by unfold execOp;simp only[hfn,s38,g3,s39,g4];go_simp) ((qei (G:=fun j=>(o1 j∧j≠v)∨w.heap.size<j) (iz.tab.mono (fun j hj=>.inl hj)) iz.sz (fun j hj=>.inr (by omega)) f none 0 0).mono ?_);rintro e W' ⟨A,c,rfl,uJ,hb5⟩;rw[q4R.out]at uJ ⊢;exact⟨_,rfl,hb5,A,c,rfl,uJ⟩
    ·exact qc (w':=W) (by unfold execOp;simp only[t9];go_simp) ⟨Below.refl _ _,rfl⟩
    ·obtain⟨A,c,g5,uJ⟩:=hG 5 (by kernel_rfl);have g6:vs 6=_:=hG 6 (by kernel_rfl);have hp:=qbL.out W A c;refine qu (f:=58) (args:=#[.slice A src.length c,.slice BA pn bc]) (w':=W) (by unfold execOp;simp only[hfn,s40,g5,s41,g6];go_simp) ((hp uJ hb).mono ?_);rintro e W' ⟨A,c,rfl,uJ,hb5⟩;exact⟨_,rfl,hb5,A,c,rfl,uJ⟩
    ·exact qc (w':=W) (by unfold execOp;simp only[t4];go_simp) ⟨Below.refl _ _,rfl⟩
   ·intro vs W hb hG;have g0:vs 0=_:=hG 0 (by decide);have g3:vs 3=_:=hG 3 (by decide);have g8:vs 8=_:=hG 8 (by decide);obtain⟨AL,cL,g7,uJ⟩:=hG 7 (by decide);have hr:=HR4.out.below hb;have f6:=hr.frozen 6;have r6:=hr.cell 6;have rlt:=hr.lt;simp only[bf,QA,QB,QC]at r6;have jt:Hid (Below w.heap.size w (W.setCell ⟨w.heap.size,6,none⟩ (.slice AL qj.length cL))):=(q9 zU.out hb).setCell (p:=⟨w.heap.size,6,none⟩) (Nat.le_refl _) _;have p9:Hid (qg (W.setCell ⟨w.heap.size,6,none⟩ (.slice AL qj.length cL)) w.heap.size 59 (bf f AL qj.length cL)):=by
     have:=hr.qo 6 (.slice AL qj.length cL);simpa[Hid,bf]using this
    have rW:Hid (gV (fun j=>(o1 j∧j≠v)∨w.heap.size≤j) (W.setCell ⟨w.heap.size,6,none⟩ (.slice AL qj.length cL)) AL qj cL) :=
     (uJ.stay (vr (fun j hj=>by
      rcases hj with hj|hj
      ·have:=qlO iD.out j (.inl hj.1);omega
      ·omega))).mono (fun j hj=>by
      rcases hj with hj|hj
      ·exact .inl hj
      ·exact .inr (by omega))
    have HP5:Hid (PlL (W.setCell ⟨w.heap.size,6,none⟩ (.slice AL qj.length cL)) BA P):=(tr.out.below hb).set (fun b o s e=>by
     have h1:=qa3.out b o s e;have h2:=fV.out.lt;omega)
    obtain⟨W5,et⟩:=QE (W.setCell ⟨w.heap.size,6,none⟩ (.slice AL qj.length cL));rw[et]at jt p9 rW HP5;simp only[zJ,qP,if_true];rw[g7,g8];generalize vs 0=z0;generalize vs 1=z1;generalize vs 2=z2;generalize vs 3=z3;generalize vs 4=z4;generalize vs 5=z5;generalize vs 6=z6;clear hG g0 g3 g7 g8 hb uJ hr qbL tr qa3;simp only[Act.put,List.setIfInBounds_toArray,List.set_cons_succ,List.set_cons_zero];refine qV (i:=9) (by kernel_rfl) rfl rfl ?_;go_simp;try rw[et]
    clear f6 r6 rlt et;refine⟨by kernel_rfl,?_⟩;have j0:=p9.out.cell 0;have j1:=p9.out.cell 1;have j2:=p9.out.cell 2;have j3:=p9.out.cell 3;have j4:=p9.out.cell 4;have j5:=p9.out.cell 5;have j6:=p9.out.cell 6;have jlt:=p9.out.lt;simp only[bf,QA,QB,QC]at j0 j1 j2 j3 j4 j5 j6;by_cases hn:f.next=f.all
    ·have hlt:¬ f.next<f.all:=by omega
     have wq:Hid (PN.code=0∧PN.m=s3M m f qj∧PN.ws=ws):=by
      unfold Hid;rcases oC.out with⟨_,h⟩|⟨h,_⟩
      ·rw[h];exact⟨rfl,rfl,rfl⟩
      ·exact absurd hn h
     have HDK:=QH (iZ.out wq.out.1);clear hn;go_wp2_with fail;refine zT (by kernel_rfl) 13 [55,56,57,58,59,60,61,62,63,64,65,66,67] (by kernel_rfl) (qpd (fun j=>(o1 j∧j≠v)∨w.heap.size≤j) v w.heap.size (.slice BA pn bc) (.slice AL qj.length cL) m f qj) (qim _ _ _ _ _ _ _ _) ?_ ?_
     ·intro i o vs ρ W hi hop hρ hfn hb hG;have t0:ρ (.tmp 0)=pt v:=hρ.out 0 rfl;have t4:ρ (.tmp 4)=pt w.heap.size:=hρ.out 4 rfl;have t9:ρ (.tmp 9)=.slice BA pn bc:=hρ.out 9 rfl;have s57:=hρ.at_ 57 2 rfl;have s58:=hρ.at_ 58 3 rfl;have s59:=hρ.at_ 59 4 rfl;have s60:=hρ.at_ 60 5 rfl;have s61:=hρ.at_ 61 6 rfl;have s62:=hρ.at_ 62 7 rfl;have s63:=hρ.at_ 63 8 rfl;have s64:=hρ.at_ 64 9 rfl;have s65:=hρ.at_ 65 10 rfl;have s66:=hρ.at_ 66 11 rfl;have hr:=p9.out.below hb;have q2:=hr.cell 2;have q3:=hr.cell 3;have q6:=hr.cell 6;have qlt:=hr.lt;simp only[bf,QA,QB,QC]at q2 q3 q6;have hsW:=rW.out.stay (kV.of_below hb);have hiW:qj.length≤1000:=by rw[HIL.out];have:=HR.out.ok.b8;omega
      have hsz:w.heap.size≤W.heap.size:=Nat.le_trans jt.out.size hb.size;clear j0 j1 j2 j3 j4 j5 j6 jlt;rcases i with _|_|_|_|_|_|_|_|_|_|_|_|_|i;all_goals (first|omega|skip)
      all_goals simp only[QA,QB,QC,Option.some.injEq]at hop
      all_goals subst hop
      ·exact qc (w':=W) (by unfold execOp;simp only[t0];go_simp) ⟨Below.refl _ _,rfl⟩
      ·exact qc (w':=W) (by unfold execOp;simp only[t9];go_simp) ⟨Below.refl _ _,rfl⟩
      ·exact qc (w':=W) (by unfold execOp;simp only[t4];go_simp) ⟨Below.refl _ _,rfl⟩
      ·have g2:vs 2=_:=hG 2 (by kernel_rfl);exact qc (w':=W) (by unfold execOp;simp only[s57,g2];go_simp) ⟨Below.refl _ _,rfl⟩
      ·exact qc (w':=W) (by unfold execOp;simp only[t4];go_simp) ⟨Below.refl _ _,rfl⟩
      ·have g4:vs 4=_:=hG 4 (by kernel_rfl);exact qc (w':=W) (by unfold execOp;simp only[s59,g4];go_simp) ⟨Below.refl _ _,rfl⟩
      ·have g3:vs 3=_:=hG 3 (by kernel_rfl);have g5:vs 5=_:=hG 5 (by kernel_rfl);refine qu (f:=66) (args:=#[gv f.target,.slice AL qj.length cL]) (w':=W) (by unfold execOp gv;simp only[hfn,s58,g3,s60,g5];go_simp) ((qbr (G:=fun j=>(o1 j∧j≠v)∨w.heap.size≤j) hsW.at_ hiW HFB.out.target (fun j hj=>.inr (Nat.le_trans hsz hj))).mono ?_);rintro e W' ⟨fe,rfl,fG,hb5⟩;exact⟨fe,rfl,hb5,wL.of (fG m (s1M m f qj) ⟨by have:=HR.out.ok.few;omega,rfl⟩)⟩
      ·exact qc (w':=W) (by unfold execOp;simp only[t4];go_simp) ⟨Below.refl _ _,rfl⟩
      ·have g7:vs 7=_:=hG 7 (by kernel_rfl);exact qc (w':=W) (by unfold execOp;simp only[s62,g7];go_simp) ⟨Below.refl _ _,rfl⟩
      ·have g8:vs 8=_:=hG 8 (by kernel_rfl);refine qu (f:=57) (args:=#[.slice AL qj.length cL]) (w':=W) (by unfold execOp;simp only[hfn,s63,g8];go_simp) ((fp (G:=fun j=>(o1 j∧j≠v)∨w.heap.size≤j) hsW hiW (fun j hj=>.inr (Nat.le_trans hsz hj))).mono ?_);rintro e W' ⟨fe,rfl,fG,hb5⟩;exact⟨fe,rfl,hb5,wL.of (fG (s1M m f qj) _ rfl)⟩
      ·exact qc (w':=W) (by unfold bm zL execOp;go_simp) ⟨Below.refl _ _,rfl⟩
      ·have g10:vs 10=_:=hG 10 (by kernel_rfl);refine qu (f:=60) (args:=#[.agg (bm zL none 0 0)]) (w':=W) (by unfold execOp;simp only[hfn,s65,g10];go_simp) ((ub (G:=fun j=>(o1 j∧j≠v)∨w.heap.size≤j) (t:=zL) (yx.none W) (by decide) qbN (fun j hj=>.inr (Nat.le_trans hsz hj))).mono ?_);rintro e W' ⟨fe,rfl,fG,hb5⟩;exact⟨fe,rfl,hb5,wL.of (fG (s2M m f qj) _ rfl)⟩
      ·have g6:=hG 6 (by kernel_rfl);have g9:=hG 9 (by kernel_rfl);have g11:=hG 11 (by kernel_rfl);obtain⟨⟨ka,ca,ea⟩,ga⟩:=g6;obtain⟨⟨kb,cb,eb⟩,gb⟩:=g9;obtain⟨⟨kc,cc,ec⟩,gc⟩:=g11;have hb1:=(Below.refl _ W).alloc (Nat.le_refl _) (.cells #[.func (.func ka) #[] ca,.func (.func kb) #[] cb,.func (.func kc) #[] cc] 115);rw[ea]at ga;rw[eb]at gb;rw[ec]at gc;exact qc (v:=.slice (some ⟨W.heap.size,0,none⟩) 3 3) (w':=W.alloc (.cells #[.func (.func ka) #[] ca,.func (.func kb) #[] cb,.func (.func kc) #[] cc] 115)) (by unfold execOp;simp only[s61,ea,s64,eb,s66,ec];go_simp) ⟨hb1,_,_,_,_,rfl,qg.new _ _ _,(wL.of ga).below hb1,(wL.of gb).below hb1,(wL.of gc).below hb1⟩
     ·intro vs W hb hG;have g0:vs 0=_:=hG 0 (by decide);have g1:vs 1=_:=hG 1 (by decide);obtain⟨B,f1,f2,f3,g12,dn,he1,oU,he3⟩:=hG 12 (by decide);have ey:=QH (wa iD.out (q9 jt.out hb) HJ.out HFU.out HR.out wq.out.1 HDK.out (M:=fun i=>if i=0 then m else if i=1 then s1M m f qj else if i=2 then s2M m f qj else s3M m f qj) (n:=3) (c:=3) rfl (wq.out.2.1.symm) (nG dn he1.2 oU.2 he3.2) (by omega) (cb:=bc) (HP5.out.below hb) (by rw[qhZ.out];have:=HX8.out;omega) (HPW.out.trans wq.out.2.2.symm));rw[HPN.out]at ey;simp only[zJ,qP,if_true];rw[g0,g1,g12];generalize vs 2=z2;generalize vs 3=z3;generalize vs 4=z4;generalize vs 5=z5;generalize vs 6=z6;generalize vs 7=z7;generalize vs 8=z8;generalize vs 9=z9;generalize vs 10=z10;generalize vs 11=z11;clear hG g0 g1 g12 hb dn he1 oU he3 j0 j1 j2 j3 j4 j5 j6 jlt;simp only[Act.put,List.setIfInBounds_toArray,List.set_cons_succ,List.set_cons_zero];refine qV (i:=13) (by kernel_rfl) rfl rfl ?_;go_simp;refine ey.out.mono ?_;rintro e W7 ⟨r,d',m',lost,wP,uL,rfl,hh⟩;have HH:=QH hh;clear hh ey;go_simp;refine qV (i:=14) (by kernel_rfl) rfl rfl ?_;go_simp;refine⟨by kernel_rfl,?_⟩;go_wp2_with fail;go_ret;exact⟨r,d',m',lost,wP,uL,rfl,HH.out⟩
    ·have hlt:f.next<f.all:=by have:=HLE.out;omega
     have wq:Hid (PN.code=0∧PN.m={ m with tok:=qmf f qj }∧PN.ws=ws):=by
      unfold Hid;rcases oC.out with⟨h,_⟩|⟨_,h⟩
      ·exact absurd h hn
      ·rw[h];exact⟨rfl,rfl,rfl⟩
     have HDK:=QH (iZ.out wq.out.1);have hst:=ub (G:=fun j=>(o1 j∧j≠v)∨w.heap.size≤j) (t:=qmf f qj) (A:=AL) (c:=cL) rW.out.at_ (by show qj.length≤1000;rw[HIL.out];have:=HR.out.ok.b8;omega) ⟨HFB.out.base,HFB.out.target,HFB.out.next,HFB.out.all⟩ (fun j hj=>.inr (Nat.le_trans jt.out.size hj));unfold bm qmf at hst;have HST:=QH hst;clear hn hst;go_wp2_with fail;refine HST.out.mono ?_;rintro e W6 ⟨fe,rfl,fG,jQ⟩;have HEF:=QH (fG m PN.m wq.out.2.1);obtain⟨kf,jC,rfl⟩:=HEF.out.form;have vL:=QH (q9 jt.out jQ);have HP6:=QH (HP5.out.below jQ);clear fG jQ HST HP5 j0 j1 j2 j3 j4 j5 j6 jlt;have hb7:=(Below.refl _ W6).alloc (Nat.le_refl _) (.cells #[.func (.func kf) #[] jC] 115);have hk7:=qg.new W6 115 #[.func (.func kf) #[] jC];obtain⟨W7,hW7⟩:=QE (W6.alloc (.cells #[.func (.func kf) #[] jC] 115));rw[hW7]at hb7 hk7;have ey:=QH (wa iD.out (q9 vL.out hb7) HJ.out HFU.out HR.out wq.out.1 HDK.out (c:=1) rfl rfl (cY hk7 (HEF.out.below hb7)) (by omega) (cb:=bc) (HP6.out.below hb7) (by rw[qhZ.out];have:=HX8.out;omega) (HPW.out.trans wq.out.2.2.symm));rw[HPN.out]at ey;clear hb7 hk7 HEF HP6;go_wp2_with fail;try rw[hW7]
     refine ey.out.mono ?_;rintro e W8 ⟨r,d',m',lost,wP,uL,rfl,hh⟩;have HH:=QH hh;clear hh ey;go_wp2_with fail;go_ret;exact⟨r,d',m',lost,wP,uL,rfl,HH.out⟩
theorem qex{t:Tg}{m:Mt}{k:Int}(h:k<0∨(m.qa.length:Int)≤k):(zX t m).changes k=([],5):=by
 unfold ch.CH.changes;have:(zX t m).qa.length=m.qa.length:=by simp[zX]
 rw[this,if_pos h]
theorem qbY{t:Tg}{m:Mt}{k:Nat}(h:k<m.qa.length):(zX t m).changes (k:Int)=(ch.pg.dTo (qy t (jL m k)) (qy t m.qa[k].qj) (qy t m.qa[k].qj).length,0):=by
 unfold ch.CH.changes;have hl:(zX t m).qa.length=m.qa.length:=by simp[zX]
 rw[hl,if_neg (by omega),Int.toNat_natCast];have hv:∀i (hi:i<m.qa.length),(zX t m).qfb i=qy t m.qa[i].qj:=fun i hi=>by
  unfold ch.CH.qfb;have e:(zX t m).qa[i]?=some (cd t m.qa[i]):=by simp[zX,hi]
  rw[e];rfl
 have hp:(zX t m).prev k=qy t (jL m k):=by
  unfold ch.CH.prev;cases k with
  | zero =>
   rw[if_pos rfl,mK];show ch.gK (qy t m.live).length=_;rw[kU];unfold ch.gK qy;rw[List.map_replicate];rfl
  | succ k =>
   rw[if_neg (by omega),Nat.add_sub_cancel,hv k (by omega),pQ (by omega)]
 rw[hp,hv k h];rfl
theorem qmh{b N:Nat}{m:Mt}(h:yD b N m)(k:Nat):yX b N (jL m k) :=
 cj (m:={ m with qa:=m.qa.take k,tok:=zL }) (h.take k m.live h.live)
def CgR (P Q:List Bt)(w:World)(v i:Value)(wr:World):Prop :=
 ∃k:Nat,k≤Q.length∧i=.int .i64 (k:Int)∧ch.dm wr w.heap.size v (ch.pg.dTo P Q k)∧Below w.heap.size w wr
theorem qmi{w:World}{B:Nat}{v:Value}{l:List (Int × Bt)}(h:ch.dm w B v l)(hz:∀x∈l,yf x.1):∃a c,v=.slice a l.length c∧ch.dU w a l∧∀b o,a=some ⟨b,o,none⟩→B≤b∧b<w.heap.size:=by
 obtain⟨a,c,hv,h1⟩:=h.view hz;refine⟨a,c,hv,h1,fun b o e=>?_⟩;subst hv;have:=h.lt b (by rw[e];rfl);exact this
theorem tQ {o1 o2:Nat→Prop}{w:World}{v pd N b:Nat}{d:DD}{m:Mt}{t:Tg}(k:Int)(h:VP jg w o1 o2 v pd d m false)(hJ:jr.JJ N t d)(hR:qM b N t m)(hk:ib.yf k):Calls prog 33 #[pt v,.int .i64 k] w (ch.pO ((zX t m).changes k) w):=by
 obtain⟨i0,hi,hz0,hz1,hz2⟩:=info_parts ch.ql2;obtain⟨A0,A1,A2,c0,c1,c2,hA⟩:=h.is;have HA:=QH hA;have HV:=QH h;have HJ:=QH hJ;have HR:=QH hR;have xJ:=QH (jm h hJ.on);have eM:=QH hA.sz;obtain⟨dS,k0,k1,k2,k3,k4,k5,k6,k7,k8,k9,aR⟩:=hA.cells;clear h hJ hR hA;by_cases hno:k<0∨(m.qa.length:Int)≤k
 ·have HC:=QH (qex (t:=t) hno);go_enter func33,ntmps33;go_wp2_with fail;refine xJ.out.mono ?_;rintro e W1 ⟨rfl,rfl⟩;clear xJ;by_cases h0:k<0
  ·clear hno;go_wp2_with fail;go_ret2;rw[HC.out];exact⟨none,0,rfl,ch.dU.nil _ _,ib.ay.none _ _,Below.refl _ _⟩
  ·have h1:(m.qa.length:Int)≤k:=by omega
   clear hno;go_wp2_with fail;go_ret2;rw[HC.out];exact⟨none,0,rfl,ch.dU.nil _ _,ib.ay.none _ _,Below.refl _ _⟩
 ·obtain⟨n,rfl⟩:∃n:Nat,k=(n:Int):=⟨k.toNat,by omega⟩;have hn:n<m.qa.length:=by omega
  have hn0:¬ (n:Int)<0:=by omega
  have hn1:¬ (m.qa.length:Int)≤(n:Int):=by omega
  have hn2:(n:Int)<(m.qa.length:Int):=by omega
  have HC:=QH (qbY (t:=t) hn);have qzK:=qmh HR.out.ok n;have HBO:=QH qzK;have HBS:=QH (mM (G:=fun _=>True) (A0:=A0) (A2:=A2) (c0:=c0) (c1:=c1) (c2:=c2) (HA.out.tab.mono (fun _ _=>trivial)).qa eM.out (fun _ _=>trivial) n (by omega));unfold zi at HBS;clear hno hk qzK;go_enter func33,ntmps33;go_wp2_with fail;refine xJ.out.mono ?_;rintro e W1 ⟨rfl,rfl⟩;clear xJ;go_wp2_with fail;refine HBS.out.mono ?_;rintro e W2 ⟨B0,d0,rfl,hs,hb2⟩;have hb8:(jL m n).length≤1000:=by have:=HBO.out.1;have:=HR.out.ok.b8;omega
  have qzL:=QH (cS (qN HV.out hb2) HJ.out hs.at_ hb8 (fun z hz=>HBO.out.2.1 z hz));have qG:=QH hb2;clear hs hb2 HBS hb8;go_wp2_with fail;refine qzL.out.mono ?_;rintro e W3 ⟨X1,e1,rfl,hx1,_,hb3⟩;have HX1:=QH hx1;have zf:=QH (q9 qG.out hb3);have hA3:=HA.out.below zf.out;have fT:=QH hA3;obtain⟨b',o',B,cc,rfl,s1,s2,s3,s4,s5,s6,s7⟩:=hA3.tab.mt.qa n hn;have qpe:=QH (cS (qN HV.out zf.out) HJ.out s6 (eM.out.uf _ (List.getElem_mem hn)) (fun z hz=>(HR.out.ok.uf _ (List.getElem_mem hn)).2.1 z hz));obtain⟨dS,k0,k1,k2,k3,k4,k5,k6,k7,k8,k9,aR⟩:=hA3.cells;have hbl:(qy t (jL m n)).length=b:=by rw[kU];exact HBO.out.1
  have hil:(qy t m.qa[n].qj).length=b:=by rw[kU];exact(HR.out.ok.uf _ (List.getElem_mem hn)).1
  have hb8:=HR.out.ok.b8;obtain⟨im,vE⟩:=QE (m.qa[n].qj);rw[vE]at HC qpe hil s4;obtain⟨P,hP⟩:=QE (qy t (jL m n));obtain⟨Q,hQ⟩:=QE (qy t im);rw[hP]at HC HX1 hbl ⊢;rw[hQ]at HC qpe hil;clear hx1 hb3 hA3 s2 s3 s5 s6 s7 qzL vE hP hQ;go_wp2_with fail;refine qpe.out.mono ?_;rintro e W4 ⟨X2,e2,rfl,hx2,_,hb4⟩;have tY:=QH hx2;have HX3:=QH (HX1.out.below hb4);have zU:=QH (q9 zf.out hb4);have HQL:=QH hil;have tr:=QH hbl;clear hx2 hb4 qpe HX1 dS k0 k1 k2 k3 k4 k5 k6 k7 k8 k9 aR s1 s4 hil hbl;go_wp2_with fail;go_loopw [10,63] (fun v i wr=>CgR P Q W4 v i wr) (fun _ i _=>Q.length-(intOf i).toNat);case atStart=>exact⟨0,Nat.zero_le _,rfl,World.ownsRow_nil _ _ _ _,Below.refl _ _⟩
  case round =>
   obtain⟨j,hj,rfl,ho,hB⟩:=hrel;have HO:=QH ho;have HB:=QH hB;clear ho hB;by_cases hlt:j<Q.length
   ·have dY:(j:Int)<(Q.length:Int):=by omega
    have hj0:¬ (j:Int)<0:=by omega
    have hjP:j<P.length:=by have:=HQL.out;have:=tr.out;omega
    have hjp:(j:Int)<(P.length:Int):=by omega
    have hjb:j<b:=by have:=HQL.out;omega
    have zbD:(j:Int)<(b:Int):=by omega
    obtain⟨q1,q2,rfl,q3,q4⟩:=tY.out j hlt;obtain⟨p1,p2,rfl,p3,p4⟩:=HX3.out j hjP;have q5:=Nat.lt_of_lt_of_le q3 HB.out.size;have p5:=Nat.lt_of_lt_of_le p3 HB.out.size;have q6:=(HB.out.cell (p:=⟨q1,q2+j,none⟩) q3).trans q4;have p6:=(HB.out.cell (p:=⟨p1,p2+j,none⟩) p3).trans p4;have gQ:Q.getD j []=Q[j]:=by simp[List.getD,hlt]
    have gP:P.getD j []=P[j]:=by simp[List.getD,hjP]
    have HSA:=QH (ch.pg.ql3 P Q j);have HMO:=QH (ch.pg.ql4 P Q j);rw[gQ,gP]at HSA HMO;have hq:((str Q[j]).toList == (str P[j]).toList)=decide (Q[j]=P[j]):=by
     have h:=rz (str Q[j]) P[j];rw[zo]at h;exact h
    obtain⟨y,hy⟩:=QE (Q[j]);obtain⟨z,hz⟩:=QE (P[j]);rw[hy]at q6 HSA HMO hq;rw[hz]at p6 HSA HMO hq;have hdl:=ch.pg.qoH P Q j;clear hy hz q3 q4 p3 p4 gQ gP;by_cases he:y=z
    ·have q4T:=QH (HSA.out he);rw[decide_eq_true he]at hq;have hqn:((str y).toList != (str z).toList)=false:=by unfold bne;rw[hq];rfl
     obtain⟨S1,hS1⟩:=QE (str y);obtain⟨S2,sH⟩:=QE (str z);rw[hS1]at q6 hq hqn;rw[sH]at p6 hq hqn;clear he hS1 sH HSA HMO;go_wp2_with fail;go_roundw;case rel=>exact⟨j+1,by omega,by go_num,by rw[q4T.out];exact HO.out,HB.out⟩
     case measure=>simp[intOf];omega
    ·have qzO:=QH (HMO.out he);rw[decide_eq_false he]at hq;have hqn:((str y).toList != (str z).toList)=true:=by unfold bne;rw[hq];rfl
     obtain⟨S1,hS1⟩:=QE (str y);obtain⟨S2,sH⟩:=QE (str z);have eJ:=QH hS1;rw[hS1]at q6 hq hqn;rw[sH]at p6 hq hqn;have hby:=(Below.refl _ wr).alloc (Nat.le_refl _) (.cells #[.int .i64 (j:Int),.string S1] 62);have HO6:Hid (ch.dm (wr.alloc (.cells #[.int .i64 (j:Int),.string S1] 62)) W4.heap.size _ (ch.pg.dTo P Q j)):=xQ HO.out (fun j' hj'=>hby.block j' (HO.out.lt j' hj').2);have vL:=QH (q9 HB.out hby);have fu:Hid (∀j' u,([.int .i64 (j:Int),.string S1]:List Value)[j']?=some u→(wr.alloc (.cells #[.int .i64 (j:Int),.string S1] 62)).cell? ((⟨wr.heap.size,0,none⟩:Addr).add j')=some u):=fun j' u hu=>by
      rw[addr_add,Nat.zero_add,(qg.new wr 62 #[.int .i64 (j:Int),.string S1]).cell j'];simpa using hu
     have e1':∀u∈([.int .i64 (j:Int),.string S1]:List Value),u.oneCell'=true:=by intro u hu;simp at hu;rcases hu with rfl|rfl <;> rfl
     have E1:=QH e1';have E2:Hid ((ch.pg.dTo P Q j).length+1≤maxLen):=by have:=HQL.out;unfold Hid maxLen;omega
     have E3:Hid (((ch.pg.dTo P Q j).length+1)*24≤140737488355328):=by have:=HQL.out;unfold Hid;omega
     obtain⟨Lw,hLw⟩:=QE (ch.pg.dTo P Q j);rw[hLw]at HO6 qzO E2 E3;clear he hS1 sH HSA HMO hby e1' hLw HO hdl;go_wp2_with (at_builtin;refine xh rfl (.tmp 74) (.tmp 78) 60 rfl W4.heap.size 62 i0 (.agg #[.int .i64 0,.string ByteArray.empty]) 2 24 underlying60 hi hz0 hz1 hz2 rfl (by decide) _ _ _ rfl HO6.out ⟨wr.heap.size,0,none⟩ 1 1 [.int .i64 (j:Int),.string S1] rfl rfl fu.out E1.out E2.out E3.out vL.out.size ?_);intro v' w1 hown hgrow _;have HB7:Hid (Below W4.heap.size W4 w1):=vL.out.grown hgrow vL.out.size (fun j hj=>(HO6.out.lt j hj).1);have HO7:Hid (ch.dm w1 W4.heap.size v' (Lw++[((j:Int),y)])):=by
      refine ch.dm.snoc (x:=((j:Int),y)) ?_;show w1.ownsRow _ _ _ v' (Lw.length+1) (ch.jX Lw++[.int .i64 (j:Int),.string (str y)]);rw[eJ.out];exact hown
     clear hown hgrow;go_wp2_with fail;go_roundw;case rel=>exact⟨j+1,by omega,by go_num,by rw[qzO.out];exact HO7.out,HB7.out⟩
     case measure=>simp[intOf];omega
   ·obtain rfl:j=Q.length:=by omega
    have dY:¬ (Q.length:Int)<(Q.length:Int):=by omega
    obtain⟨a,c,hv,h1,h2⟩:=qmi HO.out (ch.pg.qoG P Q Q.length (by have:=HQL.out;omega));have HV2:=QH hv;have H1:=QH h1;have H2:=QH h2;clear hv h1 h2;go_wp2_with fail;go_ret2;rw[HC.out];exact⟨a,c,by rw[HV2.out];rfl,H1.out,fun b o e=>⟨Nat.le_trans zU.out.size (H2.out b o e).1,(H2.out b o e).2⟩,q9 zU.out HB.out⟩
theorem tR (k:Int)(w:World):Calls prog 33 #[.pointer none,.int .i64 k] w (ch.pO ([],1) w):=by
 have xJ:=QH (xT w);go_enter func33,ntmps33;go_wp2_with fail;refine xJ.out.mono ?_;rintro e W1 ⟨rfl,rfl⟩;go_wp2_with fail;go_ret2;exact⟨none,0,rfl,ch.dU.nil _ _,ib.ay.none _ _,Below.refl _ _⟩
end Go.Proofs.YtdagdllomphidaaGreatDoor.vt.pg
namespace Go.Proofs.YtdagdllomphidaaGreatDoor.ch.pg
open _root_.Go.Proofs.Tryz Go Go.RowKit Go.Sort ib
theorem qey(n:Nat)(h8:n≤8):xq n (gK n) (.slice none 0 0)=xq n [] (.slice none 0 0):=by
 unfold xq;rw[qoJ n h8]
theorem qbZ{ρ:Operand→Value}{o:Oper}{w:World}(x:Operand)(n:Nat)(ho:o.op=.build 87 #[(0,x)])(hx:ρ x=.int .i64 (n:Int)) :
    (execOp ρ o).run prog w=.ok (.value (.agg (xq n [] (.slice none 0 0)).toArray)) w:=by
 obtain⟨i0,hi,hz0,_,_⟩:=info_parts qoL;have hz:∀w,(zeroValue 87).run prog w=.ok (.agg (xq 0 [] (.slice none 0 0)).toArray) w:=fun w=>by simp[zeroValue,typeInfo,hi,hz0]
 have hb:(Instr.build 87 #[(0,.int .i64 (n:Int))]).run prog w=.ok (.agg (xq n [] (.slice none 0 0)).toArray) w:=by
  have e:(xq n [] (.slice none 0 0)).toArray=(xq 0 [] (.slice none 0 0)).toArray.set! 0 (.int .i64 (n:Int)):=rfl;rw[e];have hne:(xq 0 [] (.slice none 0 0)).toArray ≠ #[]:=by simp[xq]
  generalize (xq 0 [] (.slice none 0 0)).toArray=z0 at *;simp[Instr.build,hz,Result.andThen,go_sem,Value.cells];rw[if_neg hne];rfl
 simp[execOp,ho,hx,hb,Result.andThen]
theorem qez(n:Nat)(l:List Bt)(v:Value)(hv:v.oneCell'=true):∀u∈xq n l v,u.oneCell'=true:=by
 intro u hu;unfold xq at hu;simp only[List.mem_cons,List.mem_append,List.not_mem_nil,or_false]at hu;rcases hu with rfl|hu|rfl
 ·rfl
 ·exact quC l u hu
 ·exact hv
theorem qaI(b:Int)(w:World)(hb:yf b)(h:b<1∨8<b):Calls prog 10 #[.int .i64 b] w fun e w'=>e=.returned (.pointer none)∧Below w.heap.size w w':=by
 rcases h with h|h
 ·go_enter func10,ntmps10;go_wp2_with fail;go_ret;exact⟨rfl,Below.refl _ _⟩
 ·have h2:¬ b<1:=by omega
  go_enter func10,ntmps10;go_wp2_with fail;go_ret;exact⟨rfl,Below.refl _ _⟩
def qzP (n:Nat)(w:World)(e:Ending)(w':World):Prop:=∃p own,e=.returned (.pointer (some ⟨p,0,none⟩))∧Is0 own w' p (wm n)∧Below w.heap.size w w'∧∀j,own j→w.heap.size≤j
theorem gu (n:Nat)(w:World)(h1:1≤n)(h8:n≤8):Calls prog 10 #[.int .i64 (n:Int)] w (qzP n w):=by
 have hi1:¬ (n:Int)<1:=by omega
 have hi8:¬ (8:Int)<(n:Int):=by omega
 have HC:=QH (qez n [] (.slice none 0 0) rfl);have HL:Hid ((xq n [] (.slice none 0 0)).length=258):=qdX (n:=0) ⟨rfl,fun v hv=>by simp at hv⟩ (by omega);have HE:=QH (qey n h8);obtain⟨C,hC⟩:=QE (xq n [] (.slice none 0 0));have HCC:=QH hC;rw[hC]at HC HL HE;clear hC;go_enter func10,ntmps10;go_wp2_with (first|(refine ql rfl (qbZ _ n rfl rfl) ?_;rw[HCC.out])|(refine ql rfl (qk7 87 (.tmp 10) C.toArray rfl rfl (by rw[qoK,List.size_toArray,HL.out]) (qhd HC.out)) ?_));go_ret;refine⟨w.heap.size,fun j=>j=w.heap.size,rfl,⟨?_,.slice none 0 0,?_,?_,rfl,(fun k hk=>by cases hk),fun k hk=>by rw[hk];simp⟩,(Below.refl w.heap.size w).alloc (Nat.le_refl _) _,fun j hj=>by omega⟩
 ·have hl:(wm n).live.length=n:=by simp[wm,gK]
  exact⟨by rw[hl];exact qnR n,by rw[hl];exact h1,by rw[hl];exact h8,fun s hs=>by simp[wm]at hs,by simp[wm],fun s hs=>by simp[wm]at hs⟩
 ·have hl:(wm n).live.length=n:=by simp[wm,gK]
  show qg _ _ _ (xq (wm n).live.length (gK n) (.slice none 0 0)).toArray;rw[hl,HE.out];exact qg.new _ _ _
 ·exact⟨none,0,rfl,Nat.le_refl _,by unfold maxLen;omega,.inl ⟨rfl,rfl,rfl⟩⟩
theorem rk:∀(l:List Sn) (i:Nat),i<l.length→(∀s∈l,(sc s).length=259)→(oF l).set (i*259+258) (.bool true)=oF (yV l i)
 | x::l,0,_,h=>by
  have hx:=h x (by simp);have hv:(vc x.bs).length=256:=by
   unfold sc at hx;simpa using hx
  show(sc x++oF l).set (0*259+258) (.bool true)=sc { x with hid:=true }++oF l;rw[List.set_append_left _ _ (by omega)]
  congr 1
  unfold sc;rw[List.set_append_right _ _ (by omega),hv];rfl
 | x::l,i+1,hi,h=>by
  have ih:=rk l i (by simpa using hi) (fun s hs=>h s (by simp[hs]));have hx:=h x (by simp);have e:yV (x::l) (i+1)=x::yV l i:=by simp[yV]
  rw[e];show(sc x++oF l).set ((i+1)*259+258) (.bool true)=sc x++oF (yV l i);rw[List.set_append_right _ _ (by omega),hx,show(i+1)*259+258-259=i*259+258 by omega,ih]
theorem dV.eW{w:World}{own:Nat→Prop}{p g c:Nat}{cur:Array Value}{d:CH}(h:dV w own p (.slice (some ⟨g,0,none⟩) d.qa.length c) d)(ho:d.ok)(hb:qg w g 131 cur)(ht:cur.toList.take (d.qa.length*259)=oF d.qa)(i:Nat)(hi:i<d.qa.length) :
    dV (w.setCell ⟨g,i*259+258,none⟩ (.bool true)) own p (.slice (some ⟨g,0,none⟩) d.qa.length c) ⟨d.live,yV d.qa i⟩:=by
 have hgp:=h.vp g rfl;obtain⟨A',c',e,h1,h2,_⟩:=h.row;simp only[Value.slice.injEq,true_and]at e;obtain⟨rfl,rfl⟩:=e;have rV:(yV d.qa i).length=d.qa.length:=by unfold yV;rw[List.length_modify]
 refine⟨h.blk.of_block (qE _ _ _ _ _ hgp.symm),?_,h.op,h.om,fun j hj=>?_⟩
 ·refine⟨some ⟨g,0,none⟩,c,by rw[rV],by rw[rV];exact h1,h2,.inr ⟨g,_,rfl,hb.qo (i*259+258) (.bool true),?_⟩⟩;show(cur.setIfInBounds _ _).toList.take ((yV d.qa i).length*259)=oF (yV d.qa i);rw[rV,Array.toList_setIfInBounds,List.take_set,ht];exact rk d.qa i hi (fun s hs=>quD (ho.qa s hs) ho.n8)
 ·have:=h.low j hj;simpa[World.setCell]using this
def AdG (p:Nat)(v0:Value)(S V N:List Value)(y1 y2:Int)(B:Nat):Nat→Value→World→Prop
 | 0,v,_=>v=.pointer (some ⟨p,0,none⟩)
 | 1,v,_=>v=.pointer (some ⟨p,0,none⟩)
 | 2,v,_=>v=.pointer (some ⟨p,257,none⟩)
 | 3,v,_=>v=v0
 | 4,v,_=>v=.agg S.toArray
 | 5,v,_=>v=.agg V.toArray
 | 6,v,_=>v=.agg #[.int .u64 y1,.int .u64 y2]
 | 7,v,_=>v=.agg N.toArray
 | 8,v,w=>∃g Z,v=.pointer (some ⟨g,0,none⟩)∧B≤g∧qg w g 131 Z∧Z.size=259
 | _,_,_=>True
theorem qbq(p:Nat)(v0:Value)(S V N:List Value)(y1 y2:Int)(B:Nat)(i:Nat)(v:Value)(w w':World)(hi:i<9)(h:AdG p v0 S V N y1 y2 B i v w)(hb:Below w.heap.size w w'):AdG p v0 S V N y1 y2 B i v w':=by
 match i,hi,h with
 | 0,_,h | 1,_,h | 2,_,h | 3,_,h | 4,_,h | 5,_,h | 6,_,h | 7,_,h=>exact h
 | 8,_,⟨g,Z,h1,h2,h3,h4⟩=>exact⟨g,Z,h1,h2,h3.below hb,h4⟩
end Go.Proofs.YtdagdllomphidaaGreatDoor.ch.pg
namespace Go.Proofs.YtdagdllomphidaaGreatDoor.ch.pg
open _root_.Go.Proofs.Tryz Go Go.RowKit ib
end Go.Proofs.YtdagdllomphidaaGreatDoor.ch.pg
namespace Go.Proofs.YtdagdllomphidaaGreatDoor.ch.pg
open _root_.Go.Proofs.Tryz Go Go.RowKit Go.Sort ib
def TxV (l:List Bt)(B:Nat)(v:Value)(w:World):Prop:=∃A cc,v=.slice A l.length cc∧TxL w A l∧∀b o,A=some ⟨b,o,none⟩→B≤b∧b<w.heap.size
theorem TxV.below{l:List Bt}{B:Nat}{v:Value}{w w':World}(h:TxV l B v w)(hb:Below w.heap.size w w'):TxV l B v w':=by
 obtain⟨A,cc,h1,h2,h3⟩:=h;exact⟨A,cc,h1,h2.below hb,fun b o e=>⟨(h3 b o e).1,Nat.lt_of_lt_of_le (h3 b o e).2 hb.size⟩⟩
def CgV (l:List (Int × Bt))(B:Nat)(v:Value)(w:World):Prop:=∃A cc,v=.slice A l.length cc∧dU w A l∧∀b o,A=some ⟨b,o,none⟩→B≤b∧b<w.heap.size
theorem CgV.below{l:List (Int × Bt)}{B:Nat}{v:Value}{w w':World}(h:CgV l B v w)(hb:Below w.heap.size w w'):CgV l B v w':=by
 obtain⟨A,cc,h1,h2,h3⟩:=h;exact⟨A,cc,h1,h2.below hb,fun b o e=>⟨(h3 b o e).1,Nat.lt_of_lt_of_le (h3 b o e).2 hb.size⟩⟩
end Go.Proofs.YtdagdllomphidaaGreatDoor.ch.pg
namespace Go.Proofs.YtdagdllomphidaaGreatDoor.ch.pg
open _root_.Go.Proofs.Tryz Go Go.RowKit Go.Sort Go.Proofs.YtdagdllomphidaaGreatDoor.ib
end Go.Proofs.YtdagdllomphidaaGreatDoor.ch.pg
namespace Go.Proofs.YtdagdllomphidaaGreatDoor.ch
abbrev Is0:IsT:=pg.Is0
end Go.Proofs.YtdagdllomphidaaGreatDoor.ch
namespace Go.Proofs.YtdagdllomphidaaGreatDoor.vt
open _root_.Go.Proofs.Tryz Go Go.RowKit jr mt im sp
theorem qqA:ki pg.jg where
 tab:=fun h=>pg.qnW h
 low:=fun h=>pg.sJ h
 keep:=fun h hb hs=>pg.qk6 h hb hs
 nP:=fun h=>pg.qnX h
 mG:=fun b w _=>pg.nL b w
 aQ:=fun b h _ _ hb=>pg.nM b h hb
 fk:=fun b N room h ew hog h1 h8 hN fZ hr=>pg.oI b N room h ew hog h1 h8 hN fZ hr
 qbj:=fun w=>pg.tL w
 qbk:=fun N room h _ hN _=>pg.tM N room h (by omega)
 iV:=fun h ew hog hJ hf hR=>pg.qbU h ew hog hJ hf hR
 blocks:=fun h=>pg.j9 h
 list:=fun h=>pg.lv h
 token:=fun h=>pg.eI h
 live:=fun h hJ hR=>pg.qlH h hJ hR
 read:=fun g h hJ hR _=>pg.qhW g h hJ hR
 changes:=fun k h hJ hR hk=>pg.tQ k h hJ hR hk
 write:=fun k s h hJ hf hR hk=>pg.fy k s h hJ hf hR hk
 snap:=fun g h hJ hf hR hg=>pg.lB g h hJ hf hR hg
 roll:=fun n h hJ hf hR hn=>pg.qlY n h hJ hf hR hn
 eW:=fun g h hJ hf hR _=>pg.qlS g h hJ hf hR
 stage:=fun f A c x h hJ hf hR hfb hx wN _=>pg.qin f A c x h hJ hf hR hfb hx wN
 forget:=fun h hJ hf hR=>pg.qeo h hJ hf hR
 qk3:=fun {o1 o2 w v pd d m l} h hl=>(pg.qbI h hl).mono fun e w' hx=>⟨hx.1,o1,hx.2.1,hx.2.2.mono (fun j hj=>by
  obtain⟨A0,A1,A2,c0,c1,c2,h1⟩:=h.is;rw[hj];exact h1.own),fun j hj=>.inl hj⟩
 eR:=fun k s h hl _=>pg.oH k s h hl
 qbl:=fun g h hl _=>pg.tJ g h hl
 qd2:=fun h hl=>pg.nH h hl
 qfe:=fun w=>pg.qbH w
 qky:=fun w=>pg.qhU w
 qk4:=fun w=>pg.qes w
 qkx:=fun w=>pg.qhV w
 qkz:=fun g w _=>pg.qhX g w
 mE:=fun k w _=>pg.tR k w
 qdz:=fun k s w _=>pg.qep k s w
 qku:=fun g w _=>pg.qib g w
 qkv:=fun n w _=>pg.qia n w
 qkw:=fun g w _=>pg.qic g w
 qk5:=fun f w _=>pg.qeq f w
 qff:=fun w=>pg.qbO w
end Go.Proofs.YtdagdllomphidaaGreatDoor.vt
namespace Go.Proofs.YtdagdllomphidaaGreatDoor.vt
open _root_.Go.Proofs.Tryz Go Go.RowKit ib jr mt im sp
section
variable {N:Nat} {t:Tg} {m:Mt}
end
end Go.Proofs.YtdagdllomphidaaGreatDoor.vt
namespace Go.Proofs.YtdagdllomphidaaGreatDoor.ch
open _root_.Go.Proofs.Tryz Go Go.RowKit ib
theorem dv (c:UInt8)(w:World):Calls prog 18 #[.int .u8 (c.toNat:Int)] w (okS (eG c) w):=by
 have hc0:(0:Int)≤(c.toNat:Int):=by omega
 have hc1:(c.toNat:Int)<256:=by have:=c.toNat_lt;omega
 go_enter func18,ntmps18;go_wp2_with (at_make;refine ql rfl (qat _ _ 32 rfl rfl rfl (by decide)) ?_;rw[← qcA c]);have hb0:qg (w.alloc (.cells (uO c 0) 5)) w.heap.size 5 (uO c 0):=qg.new _ _ _;have hB0:Below w.heap.size w (w.alloc (.cells (uO c 0) 5)):=(Below.refl _ w).alloc (Nat.le_refl _) _;have Hb0:=QH hb0;have uj:=QH hB0;clear hb0 hB0;generalize w.alloc (.cells (uO c 0) 5)=W0 at *;go_loopw [4] (fun i wr=>∃k:Nat,k≤32∧i=.int .i64 (k:Int)∧qg wr w.heap.size 5 (uO c k)∧Below w.heap.size w wr) (fun i _=>32-(intOf i).toNat);case atStart=>exact⟨0,by omega,rfl,Hb0.out,uj.out⟩
 case round =>
  obtain⟨k,hk,rfl,jV,hBk⟩:=hrel;have js:=QH jV;have HB:=QH hBk;by_cases hlt:k<32
  ·have hcell:(wr.cell? ⟨w.heap.size,k,none⟩).isSome=true:=by
      rw[jV.cell k,Array.getElem?_eq_getElem (by rw[qcB c k hk];exact hlt)];rfl
   obtain⟨u,hu⟩:=Option.isSome_iff_exists.1 hcell;have hf:=jV.frozen k;clear jV hBk hcell;go_wp2_with fail;go_roundw;case rel=>exact⟨k+1,by omega,by go_num,by rw[← qgc c k hlt];exact js.out.qo k _,HB.out.setCell (Nat.le_refl _) _⟩
   case measure=>simp[intOf];omega
  ·have q4X:k=32:=by omega
   clear jV hBk hk hlt;subst q4X;have hP:=js.out;rw[qcC]at hP;have HP:=QH hP;clear hP;by_cases qpf:c.toNat≤250
   ·have hcv:=aw (rep c 32) w.heap.size 32 5 wr (ax _ _) HP.out;have hd:eG c=rep c 32:=by unfold eG;rw[if_pos qpf]
    have HD:=QH hd;have qzQ:¬ 250<(c.toNat:Int):=by omega
    clear hd qpf;go_wp2_with fail;go_ret;exact⟨(by rw[HD.out];rfl),HB.out⟩
   ·have hd:eG c=rep c (c.toNat%31):=by unfold eG;rw[if_neg qpf]
    have HD:=QH hd;have hm:c.toNat%31<31:=Nat.mod_lt _ (by decide);have hcv:=qgb (rep c (c.toNat%31)) _ w.heap.size 32 5 wr HP.out (by
     intro j u hu;have hj:j<c.toNat%31:=by have:=(List.getElem?_eq_some_iff.1 hu).1;simpa[Lib.byteCells,rep]using this
     simp only[Lib.byteCells,rep,List.map_replicate,List.getElem?_toArray,List.getElem?_replicate]at hu ⊢;rw[if_pos hj]at hu;rw[if_pos (by omega)];exact hu)
    rw[ax]at hcv;have qzQ:250<(c.toNat:Int):=by omega
    have hmi:((c.toNat:Int)%31).toNat=c.toNat%31:=by omega
    have zbG:0≤(c.toNat:Int)%31:=by omega
    have zbH:(c.toNat:Int)%31≤32:=by omega
    clear hd qpf;go_wp2_with fail;go_ret;exact⟨(by rw[HD.out];rfl),HB.out⟩
def PtL (w:World)(A:Option Addr)(zs:List (Int × UInt8)):Prop :=
 ∀i (h:i<zs.length),∃b o,A=some ⟨b,o,none⟩∧b<w.heap.size∧w.cell? ⟨b,o+i*2,none⟩=some (.int .i64 zs[i].1)∧w.cell? ⟨b,o+i*2+1,none⟩=some (.int .u8 (zs[i].2.toNat:Int))∧yf zs[i].1
theorem PtL.below{w w':World}{A:Option Addr}{x:List (Int × UInt8)}(h:PtL w A x)(hb:Below w.heap.size w w'):PtL w' A x:=by
 intro i hi;obtain⟨b,o,h1,h2,h3,h4,h5⟩:=h i hi;exact⟨b,o,h1,Nat.lt_of_lt_of_le h2 hb.size,by rw[hb.cell (p:=⟨b,o+i*2,none⟩) h2];exact h3,by rw[hb.cell (p:=⟨b,o+i*2+1,none⟩) h2];exact h4,h5⟩
def dw (zs:List (Int × UInt8)):List (Int × Bt):=(zs.take 10).map fun x=>(x.1,eG x.2)
theorem l5 (W:World)(j:Int)(a:UInt8)(hj:yf j):PtL (W.alloc (.cells #[.int .i64 j,.int .u8 (a.toNat:Int)] 73)) (some ⟨W.heap.size,0,none⟩) [(j,a)]:=by
 intro i hi;obtain rfl:i=0:=by simpa using hi
 exact⟨W.heap.size,0,rfl,by simp,(qg.new W _ _).cell 0,(qg.new W _ _).cell 1,hj⟩
def CG (vo:Value)(bb bo k n c:Nat)(x1:Int)(x2:Nat)(S:ByteArray):Nat→Value→World→Prop
 | 0,v,_=>v=vo
 | 1,v,_=>v=.slice (some ⟨bb,bo,none⟩) n c
 | 2,v,_=>v=.int .i64 (k:Int)
 | 3,v,_=>v=.pointer (some ⟨bb,bo+k*2,none⟩)
 | 4,v,_=>v=.pointer (some ⟨bb,bo+k*2,none⟩)
 | 5,v,_=>v=.int .i64 x1
 | 6,v,_=>v=.slice (some ⟨bb,bo,none⟩) n c
 | 7,v,_=>v=.int .i64 (k:Int)
 | 8,v,_=>v=.pointer (some ⟨bb,bo+k*2,none⟩)
 | 9,v,_=>v=.pointer (some ⟨bb,bo+k*2+1,none⟩)
 | 10,v,_=>v=.int .u8 (x2:Int)
 | 11,v,_=>v=.string S
 | 12,v,_=>v=.agg #[.int .i64 x1,.string S]
 | 13,v,w=>∃g,v=.slice (some ⟨g,0,none⟩) 1 1∧qg w g 62 #[.int .i64 x1,.string S]
 | _,_,_=>True
theorem qph(vo:Value)(bb bo k n c:Nat)(x1:Int)(x2:Nat)(S:ByteArray)(i:Nat)(v:Value)(w w':World)(hi:i<14)(h:CG vo bb bo k n c x1 x2 S i v w)(hb:Below w.heap.size w w'):CG vo bb bo k n c x1 x2 S i v w':=by
 match i,hi,h with
 | 0,_,h | 1,_,h | 2,_,h | 3,_,h | 4,_,h | 5,_,h | 6,_,h | 7,_,h | 8,_,h | 9,_,h | 10,_,h | 11,_,h | 12,_,h=>exact h
 | 13,_,⟨g,h1,h2⟩=>exact⟨g,h1,h2.below hb⟩
def qzR (zs:List (Int × UInt8))(w:World)(v i:Value)(wr:World):Prop :=
 ∃k:Nat,k≤zs.length∧k≤10∧i=.int .i64 (k:Int)∧dm wr w.heap.size v (dw (zs.take k))∧Below w.heap.size w wr
theorem qio(zs:List (Int × UInt8))(k:Nat)(h:k<zs.length)(h10:k<10):dw (zs.take (k+1))=dw (zs.take k)++[(zs[k].1,eG zs[k].2)]:=by
 unfold dw;rw[List.take_take,List.take_take,Nat.min_eq_right (by omega),Nat.min_eq_right (by omega),List.take_succ_eq_append_getElem h,List.map_append];rfl
theorem qmj(zs:List (Int × UInt8))(k:Nat)(h:k≤zs.length)(h10:k≤10):(dw (zs.take k)).length=k:=by
 unfold dw;rw[List.take_take,List.length_map,List.length_take];omega
theorem qip(zs:List (Int × UInt8))(k:Nat)(h:k≤zs.length)(h10:k≤10)(he:¬ (k<zs.length∧k<10)):dw (zs.take k)=dw zs:=by
 unfold dw;rw[List.take_take]
 congr 1
 by_cases h:k=zs.length
 ·subst h;rw[← List.take_take,List.take_length]
 ·have:k=10:=by omega
  subst this;rw[Nat.min_self]
theorem qca{zs:List (Int × UInt8)}(h:∀x∈zs,yf x.1):∀x∈dw zs,yf x.1:=by
 intro x hx;obtain⟨y,hy,rfl⟩:=List.mem_map.1 hx;exact h y (List.mem_of_mem_take hy)
theorem uv (A:Option Addr)(cp:Nat)(zs:List (Int × UInt8))(w:World)(hT:PtL w A zs)(hl:zs.length≤9223372036854775807) :
    Calls prog 29 #[.slice A zs.length cp] w (qyL (dw zs) w):=by
 obtain⟨i0,hi,hz0,hz1,hz2⟩:=info_parts ql2;have HT:=QH hT;have HZB:Hid (∀x∈zs,yf x.1):=fun x hx=>by
  obtain⟨i,hi,rfl⟩:=List.getElem_of_mem hx;obtain⟨_,_,_,_,_,_,h⟩:=hT i hi;exact h
 clear hT;go_enter func29,ntmps29;go_wp2_with fail;go_loopw [3,4] (fun v i wr=>qzR zs w v i wr) (fun _ i _=>11-(intOf i).toNat);case atStart=>exact⟨0,Nat.zero_le _,Nat.zero_le _,rfl,World.ownsRow_nil _ _ _ _,Below.refl _ _⟩
 case round =>
  obtain⟨k,hk,qhN,rfl,ho,hB⟩:=hrel;have HO:=QH ho;have HB:=QH hB;clear ho hB;by_cases hgo:k<zs.length∧k<10
  ·obtain⟨hlt,qzS⟩:=hgo;obtain⟨bb,bo,rfl,hbb,c0,c1,cb⟩:=HT.out k hlt;have wM:=QH (qio zs k hlt qzS);have az:=QH (qmj zs k hk qhN);obtain⟨A5,c5,hv5,_⟩:=HO.out.view (fun y hy=>qca (zs:=zs.take k) (fun z hz=>HZB.out z (List.mem_of_mem_take hz)) y hy);rw[az.out]at hv5;subst hv5;have q0:wr.cell? ⟨bb,bo+k*2,none⟩=some (.int .i64 zs[k].1):=by rw[HB.out.cell (p:=⟨bb,bo+k*2,none⟩) hbb];exact c0
   have q1:wr.cell? ⟨bb,bo+k*2+1,none⟩=some (.int .u8 (zs[k].2.toNat:Int)):=by rw[HB.out.cell (p:=⟨bb,bo+k*2+1,none⟩) hbb];exact c1
   have hbw:bb<wr.heap.size:=Nat.lt_of_lt_of_le hbb HB.out.size;have oz:(k:Int)<(zs.length:Int):=by omega
   have q8f:(k:Int)<10:=by omega
   clear c0 c1 cb;generalize zs[k]=x at *;have Q0:=QH q0;have Q1:=QH q1;clear q0 q1;have hcz:=x.2.toNat_lt;obtain⟨S,hS⟩:=QE (str (eG x.2));have HD:=QH (fun W=>dv x.2 W);have HS:=QH hS;clear hS;go_wp2_with fail;refine zT (by kernel_rfl) 14 [15,16,17,18,19,20,21,22,23,24,25,26,27,28] (by kernel_rfl) (CG (.slice A5 k c5) bb bo k zs.length cp x.1 x.2.toNat S) (qph _ _ _ _ _ _ _ _ _) ?_ ?_
   ·intro i o vs ρ W hi ho hρ hfn hb hG;have t3:ρ (.tmp 3)=.slice A5 k c5:=hρ.out 3 rfl;have t0:ρ (.tmp 0)=.slice (some ⟨bb,bo,none⟩) zs.length cp:=hρ.out 0 rfl;have t4:ρ (.tmp 4)=.int .i64 (k:Int):=hρ.out 4 rfl;have s1:=hρ.at_ 16 1 rfl;have s2:=hρ.at_ 17 2 rfl;have s3:=hρ.at_ 18 3 rfl;have s4:=hρ.at_ 19 4 rfl;have s5:=hρ.at_ 20 5 rfl;have s6:=hρ.at_ 21 6 rfl;have s7:=hρ.at_ 22 7 rfl;have s8:=hρ.at_ 23 8 rfl;have s9:=hρ.at_ 24 9 rfl;have s10:=hρ.at_ 25 10 rfl;have s11:=hρ.at_ 26 11 rfl;have s12:=hρ.at_ 27 12 rfl;have hc:=hρ.const;have q0:W.cell? ⟨bb,bo+k*2,none⟩=some (.int .i64 x.1):=by rw[hb.cell (p:=⟨bb,bo+k*2,none⟩) hbw];exact Q0.out
    have q1:W.cell? ⟨bb,bo+k*2+1,none⟩=some (.int .u8 (x.2.toNat:Int)):=by rw[hb.cell (p:=⟨bb,bo+k*2+1,none⟩) hbw];exact Q1.out
    rcases i with _|_|_|_|_|_|_|_|_|_|_|_|_|_|i;all_goals (first|omega|skip)
    all_goals simp only[QA,QB,QC,Option.some.injEq]at ho
    all_goals subst ho
    ·exact qc (w':=W) (by unfold execOp;simp only[t3];go_simp) ⟨Below.refl _ _,rfl⟩
    ·exact qc (w':=W) (by unfold execOp;simp only[t0];go_simp) ⟨Below.refl _ _,rfl⟩
    ·exact qc (w':=W) (by unfold execOp;simp only[t4];go_simp) ⟨Below.refl _ _,rfl⟩
    ·have g1:vs 1=_:=hG 1 (by kernel_rfl);have g2:vs 2=_:=hG 2 (by kernel_rfl);exact qc (w':=W) (by unfold execOp;simp only[s1,g1,s2,g2];go_simp) ⟨Below.refl _ _,rfl⟩
    ·have g3:vs 3=_:=hG 3 (by kernel_rfl);exact qc (w':=W) (by unfold execOp;simp only[s3,g3];go_simp) ⟨Below.refl _ _,rfl⟩
    ·have g4:vs 4=_:=hG 4 (by kernel_rfl);exact qc (w':=W) (by unfold execOp;simp only[s4,g4];go_simp) ⟨Below.refl _ _,rfl⟩
    ·exact qc (w':=W) (by unfold execOp;simp only[t0];go_simp) ⟨Below.refl _ _,rfl⟩
    ·exact qc (w':=W) (by unfold execOp;simp only[t4];go_simp) ⟨Below.refl _ _,rfl⟩
    ·have g6:vs 6=_:=hG 6 (by kernel_rfl);have g7:vs 7=_:=hG 7 (by kernel_rfl);exact qc (w':=W) (by unfold execOp;simp only[s6,g6,s7,g7];go_simp) ⟨Below.refl _ _,rfl⟩
    ·have g8:vs 8=_:=hG 8 (by kernel_rfl);exact qc (w':=W) (by unfold execOp;simp only[s8,g8];go_simp) ⟨Below.refl _ _,rfl⟩
    ·have g9:vs 9=_:=hG 9 (by kernel_rfl);exact qc (w':=W) (by unfold execOp;simp only[s9,g9];go_simp) ⟨Below.refl _ _,rfl⟩
    ·have g10:vs 10=_:=hG 10 (by kernel_rfl);refine qu (f:=18) (args:=#[.int .u8 (x.2.toNat:Int)]) (w':=W) (by unfold execOp;simp only[hc,hfn,s10,g10];go_simp) ((HD.out W).mono ?_);rintro e W' ⟨rfl,hb'⟩;exact⟨_,rfl,hb',by rw[HS.out];rfl⟩
    ·have g5:vs 5=_:=hG 5 (by kernel_rfl);have g11:vs 11=_:=hG 11 (by kernel_rfl);exact qc (w':=W) (by unfold execOp;simp only[s5,g5,s11,g11];go_simp) ⟨Below.refl _ _,rfl⟩
    ·have g12:vs 12=_:=hG 12 (by kernel_rfl);refine qc (w':=W.alloc (.cells #[.int .i64 x.1,.string S] 62)) (v:=.slice (some ⟨W.heap.size,0,none⟩) 1 1) (by unfold execOp;simp only[s12,g12];go_simp) ⟨(Below.refl _ W).alloc (Nat.le_refl _) _,W.heap.size,rfl,qg.new _ _ _⟩
   ·intro vs W hb hG;have g0:vs 0=_:=hG 0 (by decide);obtain⟨g,g13,jV⟩:=hG 13 (by decide);have B2:=QH (q9 HB.out hb);have uF:Hid (W.ownsRow w.heap.size 62 2 (.slice A5 k c5) k (jX (dw (zs.take k)))):=by
     have ho:=HO.out;unfold dm at ho;rw[az.out]at ho;refine⟨ho.1,?_⟩;rcases ho.2 with h2|⟨g',cap,cur,h1,h2,h3,h4⟩
     ·exact .inl h2
     ·exact .inr ⟨g',cap,cur,h1,h2,(hb.block g' (Array.getElem?_eq_some_iff.1 h3).1).trans h3,h4⟩
    have fu:Hid (∀(j:Nat) (u:Value),([.int .i64 x.1,.string S]:List Value)[j]?=some u→W.cell? ((⟨g,0,none⟩:Addr).add j)=some u):=by
     intro j u hj
     match j,hj with
     | 0,hj =>
      simp at hj;subst hj;rw[addr_add];exact jV.cell 0
     | 1,hj =>
      simp at hj;subst hj;rw[addr_add];exact jV.cell 1
    simp only[zJ,qP,if_true];rw[g0,g13];generalize vs 1=y1;generalize vs 2=y2;generalize vs 3=y3;generalize vs 4=y4;generalize vs 5=y5;generalize vs 6=y6;generalize vs 7=y7;generalize vs 8=y8;generalize vs 9=y9;generalize vs 10=y10;generalize vs 11=y11;generalize vs 12=y12;clear hG g0 g13 jV;simp only[Act.put,List.setIfInBounds_toArray,List.set_cons_succ,List.set_cons_zero];refine qV (i:=14) (by kernel_rfl) rfl rfl ?_;have q4Y:∀u∈([Value.int .i64 x.1,.string S]:List Value),u.oneCell'=true:=by
     rw[← HS.out];exact sY (x.1,eG x.2)
    refine wp_append_own W (.tmp 15) (.tmp 28) 60 rfl w.heap.size 62 i0 (.agg #[.int .i64 0,.string ByteArray.empty]) 2 24 underlying60 hi hz0 hz1 hz2 rfl (by decide) _ k _ rfl uF.out ⟨g,0,none⟩ 1 1 [.int .i64 x.1,.string S] rfl rfl fu.out q4Y (by unfold maxLen;omega) (by omega) B2.out.size ?_;intro v' w1 hown hgrow _;have zf:=QH (B2.out.grown hgrow B2.out.size (fun j hj=>(uF.out.lt j hj).1));have HOS:Hid (dm w1 w.heap.size v' (dw (zs.take (k+1)))):=by
     unfold Hid;rw[wM.out];refine dm.snoc (x:=(x.1,eG x.2)) ?_;rw[az.out,HS.out];exact hown
    obtain⟨A6,c6,hv6,_⟩:=HOS.out.view (fun y hy=>qca (zs:=zs.take (k+1)) (fun z hz=>HZB.out z (List.mem_of_mem_take hz)) y hy);clear hown hgrow hb;subst hv6;go_simp;refine qV (i:=15) (by kernel_rfl) rfl rfl ?_;go_simp;refine⟨by kernel_rfl,?_⟩;go_wp2_with fail;go_roundw;case rel=>exact⟨k+1,by omega,by omega,by go_num,HOS.out,zf.out⟩
    case measure=>simp[intOf];omega
  ·have HE:=QH (qip zs k hk qhN hgo);by_cases hkl:(k:Int)<(zs.length:Int)
   ·have zN:¬ ((k:Int)<10):=by omega
    go_wp2_with fail;go_ret;exact⟨_,rfl,by rw[← HE.out];exact HO.out,HB.out⟩
   ·go_wp2_with fail;go_ret;exact⟨_,rfl,by rw[← HE.out];exact HO.out,HB.out⟩
theorem xD (e c:Nat)(w:World):Calls prog 23 #[.int .u64 (e:Int),.int .u64 (c:Int)] w fun x w'=>x=.returned (gv (e,c))∧Below w.heap.size w w':=by
 go_enter func23,ntmps23;go_wp2_with fail;have q0:(w.alloc (.cells #[.int .u64 (e:Int),.int .u64 (c:Int)] 55)).cell? ⟨w.heap.size,0,none⟩=some (.int .u64 (e:Int)):=(qg.new w _ _).cell 0;have q1:(w.alloc (.cells #[.int .u64 (e:Int),.int .u64 (c:Int)] 55)).cell? ⟨w.heap.size,1,none⟩=some (.int .u64 (c:Int)):=(qg.new w _ _).cell 1;refine bodyPost_ret (v:=gv (e,c)) (by simp[results,results23,go_sem,q0,q1,gv]) rfl ?_;exact⟨rfl,(Below.refl w.heap.size w).alloc (Nat.le_refl _) _⟩
end Go.Proofs.YtdagdllomphidaaGreatDoor.ch
namespace Go.Proofs.YtdagdllomphidaaGreatDoor.vt
open _root_.Go.Proofs.Tryz Go Go.RowKit ib jr mt im sp
theorem qqB{w wr:World}(h:Below w.heap.size w wr)(n:Nat):Below w.heap.size w (wr.drewN n):=⟨h.os,h.tape,h.output,h.size,h.block⟩
section
variable {IV:jw} {IC:ch.IsT} (H:ki IV) (HC:ch.Ops IC) {B v pd p:Nat} {X:Nat→Prop} {w0 W W':World} {s:Tri} {c':ch.CH} {Q:Int→DD→Mt→Bool→Prop} {x:Value} {a b:Bool}
include H HC
end
end Go.Proofs.YtdagdllomphidaaGreatDoor.vt
namespace Go.Proofs.YtdagdllomphidaaGreatDoor.vt
open _root_.Go.Proofs.Tryz Go Go.RowKit ib jr mt im sp
def MdP (IV:jw)(b:Nat)(w:World)(e:Ending)(w':World):Prop :=
 ∃v pd t d o1 o2,e=.returned (.tuple #[.pointer (some ⟨pd,0,none⟩),.pointer (some ⟨v,0,none⟩)])∧VP IV w' o1 o2 v pd d (m0 b) false∧JJ 400 t d∧qM b 400 t (m0 b)∧d.qi=0∧Below w.heap.size w w'∧∀j,o1 j∨o2 j→w.heap.size≤j
theorem qmk{IV:jw}(H:ki IV)(b:Nat)(h1:1≤b)(h8:b≤8)(w:World)(ht:xC w):Calls prog 9 #[.int .i64 (b:Int)] w (MdP IV b w):=by
 go_enter func9,ntmps9;go_wp2_with fail;refine(dk.gu 1000 400 400 (by decide) (by decide) (by decide) (by decide) w).mono ?_;rintro e W1 ⟨pd,o,rfl,hd,hb1,ho⟩;go_wp2_with fail;refine(H.fk b 400 400 hd (x9 ht hb1 (zG ht)) (fun h=>by have h1:=ho _ h;have h2:=zG ht;omega) h1 h8 (by decide) (by decide) (by decide)).mono ?_;rintro e W2 ⟨rfl,t,d,o',hd2,hj,hr,hf,xZ,ho'⟩;have hs1:=hb1.size;have hb2:Below w.heap.size w W2:=hb1.trans (xZ.below (fun j hj=>ho j hj) hs1);have ho2:∀j,o' j→w.heap.size≤j:=fun j hj=>by
  rcases ho' j hj with h|h
  ·exact ho j h
  ·omega
 have hs2:=hb2.size;have lM:xC W2:=x9 ht hb2 (zG ht);have hn2:¬ o' gN:=fun h=>by have h1:=ho2 _ h;have h2:=zG ht;omega
 clear hd hb1 ho xZ ho' hs1;go_wp2_with fail;refine(H.iV hd2 lM hn2 hj.toRJ hf hr).mono ?_;rintro e W3 ⟨v,d',o1,o2,rfl,hv,hj',hf',xZ,h1',h2'⟩;have hb3:Below w.heap.size w W3:=hb2.trans (xZ.below (fun j hj=>ho2 j hj) hs2);have ho3:∀j,o1 j∨o2 j→w.heap.size≤j:=fun j hj=>by
  rcases hj with hj|hj
  ·have:=h1' j hj;omega
  ·rcases h2' j hj with h|h
   ·exact ho2 j h
   ·omega
 have HV:=QH hv;clear hv hd2 hj xZ h1' h2' hb2 ho2;go_wp2_with fail;go_ret2;exact⟨v,pd,t,d',o1,o2,rfl,HV.out,hj',hr,hf',hb3,ho3⟩
def VW (IV:jw)(w:World)(B:Nat)(X:Nat→Prop)(v pd:Nat)(Q:Tg→Mt→Prop):Prop :=
 ∃t d m o1 o2,VP IV w o1 o2 v pd d m false∧(∀j,o1 j∨o2 j→B≤j∧¬ X j)∧((∀j,X j→j<w.heap.size)∧¬ X gN)∧qM 2 250 t m∧JJ 250 t d∧d.qi=0∧Q t m
def Left (Q:Tg→Mt→Prop)(r0 r:Int)(d':DD)(m':Mt)(l':Bool):Prop:=r=r0∧l'=false∧d'.qi=0∧∃t',JJ 250 t' d'∧qM 2 250 t' m'∧Q t' m'
section
variable {IV:jw} (H:ki IV) {w w':World} {B v pd:Nat} {X:Nat→Prop} {Q Q':Tg→Mt→Prop}
include H
theorem VW.below(h:VW IV w B X v pd Q)(hb:Below w.heap.size w w'):VW IV w' B X v pd Q:=by
 obtain⟨t,d,m,o1,o2,h1,h2,h3,h4⟩:=h;exact⟨t,d,m,o1,o2,h1.keep H (fun j hj=>hb.block j (h1.low H j hj)) hb.size,h2,⟨fun j hj=>Nat.lt_of_lt_of_le (h3.1 j hj) hb.size,h3.2⟩,h4⟩
theorem VW.more(h:VW IV w B X v pd Q)(hb:Below w.heap.size w w'){Y:Nat→Prop}(hY:∀j,Y j→X j∨(w.heap.size≤j∧j<w'.heap.size)):VW IV w' B Y v pd Q:=by
 obtain⟨t,d,m,o1,o2,h1,h2,h3,h4⟩:=h;refine⟨t,d,m,o1,o2,h1.keep H (fun j hj=>hb.block j (h1.low H j hj)) hb.size,fun j hj=>⟨(h2 j hj).1,fun hy=>?_⟩,⟨fun j hj=>?_,fun hy=>?_⟩,h4⟩
 ·rcases hY j hy with h|h
  ·exact(h2 j hj).2 h
  ·have:=h1.low H j (.inl hj);omega
 ·rcases hY j hj with h|h
  ·exact Nat.lt_of_lt_of_le (h3.1 j h) hb.size
  ·exact h.2
 ·rcases hY gN hy with h|h
  ·exact h3.2 h
  ·have:=h1.low H gN (.inr rfl);omega
theorem VW.turn(h:VW IV w B X v pd Q)(hb:qB X w w'):VW IV w' B X v pd Q:=by
 obtain⟨t,d,m,o1,o2,h1,h2,h3,h4⟩:=h;exact⟨t,d,m,o1,o2,h1.keep H (fun j hj=>hb.block j (h1.low H j hj) (hj.elim (fun hj=>(h2 j hj).2) (fun hj=>by rw[hj];exact h3.2))) hb.size,h2,⟨fun j hj=>Nat.lt_of_lt_of_le (h3.1 j hj) hb.size,h3.2⟩,h4⟩
omit H in
theorem kA (h:VW IV w B X v pd Q)(hB:B≤w.heap.size){f:Nat}{args:Array Value}{r0:Int}{P:Tg→Mt→dT}
    (hc:∀o1 o2 t d m,VP IV w o1 o2 v pd d m false→(∀j,o1 j∨o2 j→¬ X j)→qM 2 250 t m→JJ 250 t d→d.qi=0→Q t m→Calls prog f args w (kz IV o1 o2 v pd (xp 250 t d m (P t m)) w))
    (hs:∀t d m r d' m' l',qM 2 250 t m→JJ 250 t d→d.qi=0→Q t m→xp 250 t d m (P t m) r d' m' l'→Left Q' r0 r d' m' l') :
    Calls prog f args w fun e w'=>e=.returned (.int .i64 r0)∧VW IV w' B X v pd Q'∧Ke B X w w':=by
 obtain⟨t,d,m,o1,o2,h1,h2,h3,h4,h5,h6,h7⟩:=h;refine(hc o1 o2 t d m h1 (fun j hj=>(h2 j hj).2) h4 h5 h6 h7).mono ?_;rintro e w' ⟨r,d',m',l',wP,uL,rfl,hp,hb,hg,hq⟩;obtain⟨rfl,rfl,hf,t',g1,g2,g3⟩:=hs t d m r d' m' l' h4 h5 h6 h7 hq;refine⟨rfl,⟨t',d',m',wP,uL,hp,fun j hj=>?_,⟨fun j hj=>Nat.lt_of_lt_of_le (h3.1 j hj) hb.size,h3.2⟩,g2,g1,hf,g3⟩,hb.mono h2⟩;rcases hg j hj with h|h
 ·exact h2 j h
 ·exact⟨by omega,fun hx=>by have:=h3.1 j hx;omega⟩
end
section
variable {t:Tg} {d d':DD} {m m':Mt} {r:Int} {l':Bool}
theorem tS {P:dT}(hj:JJ 250 t d)(h:qM 2 250 t m)(hf:d.qi=0){Q:Tg→Mt→Prop}(hQ:Q t m)(hc:P.code≠0)(hq:xp 250 t d m P r d' m' l'):Left Q P.code r d' m' l':=by
 rcases hq with⟨_,rfl,rfl,rfl,rfl⟩|⟨h0,_⟩|⟨h0,_⟩
 ·exact⟨rfl,rfl,hf,t,hj,h,hQ⟩
 ·exact absurd h0 hc
 ·exact absurd h0 hc
theorem ud {P:dT}{c:ch.CH}(h:qM 2 250 t m)(hf:d.qi=0){Q:Tg→Mt→Prop}(hc:P.code=0)(hd:Does 2 250 t m P c)(hQ:∀t',zX t' P.m=c→Q t' P.m)(hq:xp 250 t d m P r d' m' l'):Left Q 0 r d' m' l':=by
 rcases hq with⟨h0,_⟩|⟨_,rfl,hj',rfl,rfl,hf',_⟩|⟨_,_,_,_,h0,_⟩
 ·exact absurd hc h0
 ·obtain⟨d1,d2,d3⟩:=hd;exact⟨rfl,rfl,hf' hf,_,hj',h.next d1 d2,hQ _ d3⟩
 ·exact absurd hf h0
theorem qf5(hs:m.qa.length≤2){x:List (Int × Bt)}(hx:x.length≤8):¬ ie 2 250 m x:=by
 unfold ie;omega
theorem qml(h:qM 2 250 t m)(hs:m.qa.length≤2)(k:Int)(s:Bt)(hc:((zX t m).write k s).2=0) :
    (zZ 250 m k s).code=0∧Does 2 250 t m (zZ 250 m k s) ((zX t m).write k s).1∧∃a,(zZ 250 m k s).m={ m with live:=m.live.set k.toNat a }:=by
 rcases mA h k s with⟨_,hf⟩|⟨h1,h2,_⟩
 ·exact absurd hf (qf5 hs (by simp))
 ·rw[hc]at h1;refine⟨h1,h2 h1,?_⟩;unfold zZ at h1 ⊢;split at h1
  ·cases h1
  ·rename_i hb;rw[if_neg hb];split at h1
   ·rename_i h0;rw[if_pos h0];rcases yM h.ok h.N1 [(k,s)] (by simp) (fun c hc=>by simp at hc;subst hc;exact Classical.byContradiction fun h=>hb (.inr (.inr h)))with⟨h7,_⟩|⟨_,hp⟩
    ·rw[h7]at h0;cases h0
    ·have hl:=hp.len;generalize (qw 250 m [(k,s)]).1.1=at_ at *
     match at_,hl with
     | [a],_=>exact⟨a,by rw[jf,jB]⟩
   ·rename_i h0;exact absurd h1 h0
theorem qzT(h:qM 2 250 t m)(hs:m.qa.length≤2)(f:Tf)(hg:xn f.target)(k:Int)(he:zF m.live.length m.qa.length (qH m) f [(k,zb)]=0)(hn:f.next≠f.all)(ou:zI m f=xO m) :
    (qT 250 m f [(k,zb)]).code=0∧Does 2 250 t m (qT 250 m f [(k,zb)]) (zX t m)∧(qT 250 m f [(k,zb)]).m={ m with tok:=⟨f.base,f.target,f.next,f.all,(xO m).set k.toNat 0⟩ }:=by
 rcases vU h f hg [(k,zb)]with⟨_,hf,_⟩|⟨h1,h2⟩
 ·exact absurd hf (qf5 hs (by simp))
 ·rw[he]at h1;refine⟨h1,((h2 h1).part hn).1,?_⟩;rcases yM h.ok h.N1 [(k,zb)] (by simp) (fun c hc=>by simp at hc;subst hc;rfl)with⟨_,hf⟩|⟨h0,hp⟩
  ·exact absurd hf (qf5 hs (by simp))
  ·unfold qT;rw[if_neg (by rw[he];simp),if_neg (by rw[h0];simp)];have qtO:(if m.tok.base=f.base∧m.tok.target=f.target∧m.tok.all=f.all then m.tok.qj else xO m)=xO m:=ou;rw[qtO];dsimp only;rw[if_neg hn];have hl:=hp.len;have hz:=hp.each 0 (by simp);generalize (qw 250 m [(k,zb)]).1.1=at_ at *
   match at_,hl with
   | [a],_ =>
    have h3:=hz (by simp);have ha:a=0:=by
     rcases h3 with h3|h3
     ·exact h3.2
     ·exact absurd rfl h3.1
    rw[ha,jf,jB]
theorem qzU(h:qM 2 250 t m)(hs:m.qa.length≤2)(f:Tf)(hg:xn f.target)(x:List (Int × Bt))(hx:x.length≤8)(he:zF m.live.length m.qa.length (qH m) f x=0)(hn:f.next=f.all) :
    (qT 250 m f x).code=0∧Does 2 250 t m (qT 250 m f x) ⟨uD (qy t (zI m f)) x,(zX t m).qa++[⟨f.target,uD (qy t (zI m f)) x,false⟩]⟩∧(qT 250 m f x).m.tok=zL:=by
 rcases vU h f hg x with⟨_,hf,_⟩|⟨h1,h2⟩
 ·exact absurd hf (qf5 hs hx)
 ·rw[he]at h1;exact⟨h1,((h2 h1).whole hn).1,((h2 h1).whole hn).2⟩
end
end Go.Proofs.YtdagdllomphidaaGreatDoor.vt
namespace Go.Proofs.YtdagdllomphidaaGreatDoor.vt
open _root_.Go.Proofs.Tryz Go Go.RowKit ib jr mt im sp
end Go.Proofs.YtdagdllomphidaaGreatDoor.vt
namespace Go.Proofs.YtdagdllomphidaaGreatDoor.ch
open _root_.Go.Proofs.Tryz Go Go.RowKit ib
end Go.Proofs.YtdagdllomphidaaGreatDoor.ch
namespace Go.Proofs.YtdagdllomphidaaGreatDoor.ch
open _root_.Go.Proofs.Tryz Go Go.RowKit Go.Sort ib
theorem qmm:prog.follows .mixedOrders=true:=by kernel_rfl
def lt (c:UInt8):UInt8:=if c=48 then 0 else c
def rp (s:List UInt8):List Bt:=s.map fun c=>eG (lt c)
def qzV (s:ByteArray)(ts:List Bt)(w:World)(i:Value)(wr:World):Prop:=∃k:Nat,k≤ts.length∧i=.int .i64 (k:Int)∧Below w.heap.size w wr
theorem j9 (A:Option Addr)(c:Nat)(ts:List Bt)(s:ByteArray)(w:World)(hT:TxL w A ts)(hl:ts.length≤1000)(he:rp (bl s)=ts) :
    Calls prog 36 #[.slice A ts.length c,.int .i64 0,.string s] w fun e w'=>e=.returned (.bool true)∧Below w.heap.size w w':=by
 have HT:=QH hT;have hlen:ts.length=s.size:=by rw[← he];simp[rp,zq]
 have hlb:((ts.length:Int) != (s.size:Int))=false:=by rw[hlen];simp
 have az:=QH hlen;have HE:=QH he;clear hT hlen he;go_enter func36,ntmps36;go_wp2_with fail;go_loopw [7] (fun i wr=>qzV s ts w i wr) (fun i _=>ts.length-(intOf i).toNat);case atStart=>exact⟨0,Nat.zero_le _,rfl,Below.refl _ _⟩
 case round =>
  obtain⟨k,hk,rfl,hb⟩:=hrel;have HB:=QH hb;clear hb;by_cases hlt:k<ts.length
  ·have oz:(k:Int)<(ts.length:Int):=by omega
   have hks:k<s.size:=by rw[← az.out];exact hlt
   have zbO:(k:Int)<(s.size:Int):=by omega
   obtain⟨b,o,rfl,hbl,hc⟩:=HT.out k hlt;have e0:wr.cell? ⟨b,o+k,none⟩=some (.string (str ts[k])):=by rw[HB.out.cell (p:=⟨b,o+k,none⟩) hbl];exact hc
   have l0:b<wr.heap.size:=Nat.lt_of_lt_of_le hbl HB.out.size;have hts:ts[k]=eG (lt s[k]):=by
    have h1:ts[k]?=some (eG (lt s[k])):=by
     rw[← HE.out];unfold rp;rw[List.getElem?_map,show(bl s)[k]?=some s[k]from by rw[List.getElem?_eq_getElem (by rw[zq];exact hks)];rfl];rfl
    rw[List.getElem?_eq_getElem hlt]at h1;exact Option.some.inj h1
   obtain⟨S,hS⟩:=QE (str ts[k]);rw[hS]at e0;rw[hts]at hS;have HS:=QH hS;clear hc hts hS;have hch:∃ch,s[k]=ch:=⟨_,rfl⟩;have hq:(S.toList != S.toList)=false:=by simp
   have cR:∀d os,(grow (redrawn wr d) os).cell? ⟨b,o+k,none⟩=some (.string S):=fun d os=>cell_regrown e0 d os;have cD:∀d os,Calls prog 18 #[.int .u8 ((lt s[k]).toNat:Int)] (grow (redrawn wr d) os) fun e w''=>e=.returned (.string S)∧∃p:Regrown,w''=grow (redrawn wr p.d) p.os :=
    fun d os=>Calls.regrown_of (by have:=dv (lt s[k]) (grow (redrawn wr d) os);rw[← HS.out];exact this)
   clear hch;by_cases hz:s[k]=48
   ·rw[hz]at cD;have cD:∀d os,Calls prog 18 #[.int .u8 0] (grow (redrawn wr d) os) fun e w''=>e=.returned (.string S)∧∃p:Regrown,w''=grow (redrawn wr p.d) p.os:=cD;have hzb:((s[k].toNat:Int) == 48)=true:=by rw[hz];rfl
    clear hz;go_wp2_with fail;refine wp_region_quiet_below qmm (by kernel_rfl) ?_;repeat (any_goals (first|go_big_quiet_step (exact cD _ _)|quiet_step (exact cD _ _)))
    refine wpQuiet_nil ?_;intro _ hw';obtain⟨⟨dq,osq⟩,hw''⟩:=hw';subst hw'';have qG:=QH (q9 HB.out (below_regrown wr dq osq));go_wp2_with fail;go_roundw;case rel=>exact⟨k+1,by omega,by go_num,qG.out⟩
    case measure=>simp[intOf];omega
   ·have hlt2:lt s[k]=s[k]:=by unfold lt;rw[if_neg hz]
    rw[hlt2]at cD;have hzb:((s[k].toNat:Int) == 48)=false:=by
     rw[beq_eq_false_iff_ne];intro e;exact hz (UInt8.toNat_inj.1 (by show s[k].toNat=48;omega))
    go_wp2_with fail;refine wp_region_quiet_below qmm (by kernel_rfl) ?_;repeat (any_goals (first|go_big_quiet_step (exact cD _ _)|quiet_step (exact cD _ _)))
    refine wpQuiet_nil ?_;intro _ hw';obtain⟨⟨dq,osq⟩,hw''⟩:=hw';subst hw'';have qG:=QH (q9 HB.out (below_regrown wr dq osq));go_wp2_with fail;go_roundw;case rel=>exact⟨k+1,by omega,by go_num,qG.out⟩
    case measure=>simp[intOf];omega
  ·have oz:¬ (k:Int)<(ts.length:Int):=by omega
   go_wp2_with fail;go_ret;exact⟨rfl,HB.out⟩
end Go.Proofs.YtdagdllomphidaaGreatDoor.ch
namespace Go.Proofs.YtdagdllomphidaaGreatDoor.vt
open _root_.Go.Proofs.Tryz Go Go.RowKit ib
@[go_sem] theorem qp1 (a b c d:Int) (w:World):(Op.equalIn 10000 55 (.agg #[.int .u64 a,.int .u64 b]) (.agg #[.int .u64 c,.int .u64 d])).run prog w=.ok (a == c&&b == d) w:=by
 have u3:=underlying35;have a3:=isAgg35;have z3:=sizeOf35;rw[show(10000:Nat)=9999+1 from rfl,run_equalIn_agg w 9999 55 _ _ (by kernel_rfl) (by kernel_rfl)];simp only[Program.fieldsOf,underlying55];go_simp;by_cases h1:a=c <;> by_cases h2:b=d <;> simp[h1,h2]
@[go_sem] theorem q5a (a c:Int) (b d:ByteArray) (w:World):(Op.equalIn 10000 62 (.agg #[.int .i64 a,.string b]) (.agg #[.int .i64 c,.string d])).run prog w=.ok (a == c&&b.toList == d.toList) w:=by
 have u3:=underlying3;have a3:=isAgg3;have z3:=sizeOf3;have u4:=underlying9;have a4:=isAgg9;have z4:=sizeOf9;rw[show(10000:Nat)=9999+1 from rfl,run_equalIn_agg w 9999 62 _ _ (by kernel_rfl) (by kernel_rfl)];simp only[Program.fieldsOf,underlying62];go_simp;by_cases h1:a=c <;> by_cases h2:b.toList=d.toList <;> simp[h1,h2]
end Go.Proofs.YtdagdllomphidaaGreatDoor.vt
namespace Go.Proofs.YtdagdllomphidaaGreatDoor.vt
open _root_.Go.Proofs.Tryz Go Go.RowKit Go.Sort ib jr mt im sp
end Go.Proofs.YtdagdllomphidaaGreatDoor.vt
namespace Go.Proofs.YtdagdllomphidaaGreatDoor.vt
open _root_.Go.Proofs.Tryz Go Go.RowKit ib jr mt im sp
section
variable {b N:Nat} {t:Tg} {m:Mt}
end
end Go.Proofs.YtdagdllomphidaaGreatDoor.vt
namespace Go.Proofs.YtdagdllomphidaaGreatDoor.vt
open _root_.Go.Proofs.Tryz Go Go.RowKit ib jr mt im sp
def VC (IV:jw)(IC:ch.IsT)(N:Nat)(w:World)(B v pd p:Nat)(c:ch.CH):Prop :=
 ∃t d m,V3 IV IC w B (fun _=>False) v pd p ⟨d,m,c,false⟩∧qM 8 N t m∧JJ N t d∧d.qi=0∧m.tok=zL∧zX t m=c
section
variable {IV:jw} {IC:ch.IsT} (H:ki IV) (HC:ch.Ops IC) {w w':World} {N B v pd p:Nat} {c:ch.CH}
include H HC
theorem VC.below(h:VC IV IC N w B v pd p c)(hb:Below w.heap.size w w'):VC IV IC N w' B v pd p c:=by
 obtain⟨t,d,m,h1,h2⟩:=h;exact⟨t,d,m,h1.below H HC hb,h2⟩
end
theorem qf6(t:Tg)(b:Nat):zX t (m0 b)=ch.wm b:=by
 unfold zX m0 ch.wm qy ch.gK;rw[List.map_replicate];rfl
end Go.Proofs.YtdagdllomphidaaGreatDoor.vt
namespace Go.Proofs.YtdagdllomphidaaGreatDoor.vt
open _root_.Go.Proofs.Tryz Go Go.RowKit ib jr mt im sp
def la:Bt:=eG 97
theorem qzW:eG 0=zb:=by kernel_rfl
def s11:ch.Sn:=⟨(1,1),[la,zz],false⟩
def s12:ch.Sn:=⟨(1,2),[zz,la],false⟩
def Q0 (_:Tg)(m:Mt):Prop:=m=m0 2
def Q1 (t:Tg)(m:Mt):Prop:=zX t m=⟨[la,zz],[]⟩∧∃a:Int,m=⟨[a,0],[],zL⟩
def Q2 (t:Tg)(m:Mt):Prop:=zX t m=⟨[la,zz],[s11]⟩∧∃a:Int,m=⟨[a,0],[⟨(1,1),[a,0],false⟩],zL⟩
def Q3 (t:Tg)(m:Mt):Prop:=zX t m=⟨[zz,zz],[s11]⟩∧∃a y:Int,m=⟨[y,0],[⟨(1,1),[a,0],false⟩],zL⟩
def Q4 (t:Tg)(m:Mt):Prop:=zX t m=⟨[zz,zz],[s11]⟩∧∃a y:Int,m=⟨[y,0],[⟨(1,1),[a,0],false⟩],⟨(1,1),(1,2),1,2,[0,0]⟩⟩
def Q5 (t:Tg)(m:Mt):Prop:=zX t m=⟨[zz,la],[s11,s12]⟩∧m.tok=zL
def Q7 (t:Tg)(m:Mt):Prop:=zX t m=⟨[la,zz],[s11]⟩
section
variable {t:Tg} {d d':DD} {m m':Mt} {r:Int} {l':Bool}
theorem q5b(h:qM 2 250 t m)(_:JJ 250 t d)(hf:d.qi=0)(hQ:Q0 t m)(hq:xp 250 t d m (zZ 250 m 0 la) r d' m' l'):Left Q1 0 r d' m' l':=by
 unfold Q0 at hQ;subst hQ;have e:(zX t (m0 2)).write 0 la=(⟨[la,zz],[]⟩,0):=by rw[qf6];kernel_rfl
 obtain⟨h1,h2,a,h3⟩:=qml h (by decide) 0 la (by rw[e]);rw[e]at h2;exact ud h hf h1 h2 (fun t' hs=>⟨hs,a,by rw[h3];rfl⟩) hq
theorem q5c(h:qM 2 250 t m)(_:JJ 250 t d)(hf:d.qi=0)(hQ:Q1 t m)(hq:xp 250 t d m (yv m (1,1)) r d' m' l'):Left Q2 0 r d' m' l':=by
 obtain⟨hs,a,rfl⟩:=hQ;obtain⟨h1,h2,_⟩:=fj h (1,1) ⟨by decide,by decide⟩;have e:(zX t ⟨[a,0],[],zL⟩).snap (1,1)=(⟨[la,zz],[s11]⟩,0):=by rw[hs];kernel_rfl
 rw[e]at h1 h2;exact ud h hf h1 (h2 h1) (fun t' hs=>⟨hs,a,rfl⟩) hq
theorem q5d(h:qM 2 250 t m)(_:JJ 250 t d)(hf:d.qi=0)(hQ:Q2 t m)(hq:xp 250 t d m (zZ 250 m 0 (eG 0)) r d' m' l'):Left Q3 0 r d' m' l':=by
 obtain⟨hs,a,rfl⟩:=hQ;have e:(zX t ⟨[a,0],[⟨(1,1),[a,0],false⟩],zL⟩).write 0 (eG 0)=(⟨[zz,zz],[s11]⟩,0):=by rw[hs];kernel_rfl
 obtain⟨h1,h2,y,h3⟩:=qml h (by simp) 0 (eG 0) (by rw[e]);rw[e]at h2;exact ud h hf h1 h2 (fun t' hs=>⟨hs,a,y,by rw[h3];rfl⟩) hq
theorem q5e(h:qM 2 250 t m)(_:JJ 250 t d)(hf:d.qi=0)(hQ:Q3 t m)(hq:xp 250 t d m (qT 250 m ⟨(1,1),(1,2),1,2⟩ [(0,eG 0)]) r d' m' l'):Left Q4 0 r d' m' l':=by
 obtain⟨hs,a,y,rfl⟩:=hQ;rw[qzW]at hq;obtain⟨h1,h2,h3⟩:=qzT h (by simp) ⟨(1,1),(1,2),1,2⟩ ⟨by decide,by decide⟩ 0 (by kernel_rfl) (by decide) rfl;rw[hs]at h2;exact ud h hf h1 h2 (fun t' hs=>⟨hs,a,y,by rw[h3];rfl⟩) hq
theorem q5f(h:qM 2 250 t m)(_:JJ 250 t d)(hf:d.qi=0)(hQ:Q4 t m)(hq:xp 250 t d m (qT 250 m ⟨(1,1),(1,2),2,2⟩ [(1,la)]) r d' m' l'):Left Q5 0 r d' m' l':=by
 obtain⟨hs,a,y,rfl⟩:=hQ;obtain⟨h1,h2,h3⟩:=qzU h (by simp) ⟨(1,1),(1,2),2,2⟩ ⟨by decide,by decide⟩ [(1,la)] (by decide) (by kernel_rfl) rfl;have e:uD (qy t (zI ⟨[y,0],[⟨(1,1),[a,0],false⟩],⟨(1,1),(1,2),1,2,[0,0]⟩⟩ ⟨(1,1),(1,2),2,2⟩)) [(1,la)]=[zz,la]:=rfl;rw[e,hs]at h2;exact ud h hf h1 h2 (fun t' hs=>⟨hs,h3⟩) hq
theorem q5g(h:qM 2 250 t m)(hj:JJ 250 t d)(hf:d.qi=0)(hQ:Q5 t m)(hq:xp 250 t d m (qT 250 m ⟨(1,1),(1,3),1,1⟩ []) r d' m' l'):Left Q5 2 r d' m' l':=by
 have hl:qH m=(1,2):=by rw[← qbf t,hQ.1];rfl
 have he:zF m.live.length m.qa.length (qH m) ⟨(1,1),(1,3),1,1⟩ []=2:=by
  rw[hl];unfold zF;rw[if_pos (.inl (by decide))]
 have hc:(qT 250 m ⟨(1,1),(1,3),1,1⟩ []).code=2:=by
  unfold qT;rw[if_pos (by rw[he];decide),he]
 have:=tS hj h hf hQ (by rw[hc];decide) hq;rw[hc]at this;exact this
theorem q5h(h:qM 2 250 t m)(_:JJ 250 t d)(hf:d.qi=0)(hQ:Q5 t m)(hq:xp 250 t d m (kg m 1) r d' m' l'):Left Q7 0 r d' m' l':=by
 obtain⟨h1,h2,_⟩:=pL h 1;have e:(zX t m).roll 1=(⟨[la,zz],[s11]⟩,0):=by rw[hQ.1];kernel_rfl
 rw[e]at h1 h2;exact ud h hf h1 (h2 h1) (fun t' hs=>hs) hq
end
end Go.Proofs.YtdagdllomphidaaGreatDoor.vt

/- VgSnp, VgRol, VgTb6, VgStp, VgStA, VgCgs, PgMay, PgPut, PgFind, PgApi, PgHide, PgSnap, PgRoll, PgAdd, PgEq, PgChg, PgRead, PgChgs, PgLst, ChProg, VtProg, CLaid, VtLaid. -/
import Derived.Test.YtdpbdkacngaemaaGreatDoorZK21
import Derived.Stop.BytesEq
import Derived.Test.YtdpbdkacngaemaaGreatDoorRows
import Derived.Deep.DeepHandedRow
import Derived.Lib.LaidTab
import Derived.Deep.DeepLaidRun
import Derived.Stop.LaidErr
import GoSem.PinnedTables
set_option linter.unusedVariables false
set_option linter.unusedSimpArgs false
set_option maxHeartbeats 30000000
set_option maxRecDepth 100000
namespace Go.Proofs.YtdpbdkacngaemaaGreatDoor.vt.pg
open _root_.Go.Proofs.Tryz Go Go.RowKit Go.Sort ib mt im sp
def qxx (m:Mt)(g:Gd)(l:List Int):Mt:={ m with qd:=m.qd++[⟨g,l,false⟩] }
def EfV (G:Nat→Prop)(v:Value)(w:World)(m m':Mt):Prop:=(∃k kU,v=.func (.func k) #[] kU)∧vr G w v m m'
theorem EfV.below{G:Nat→Prop}{v:Value}{w w':World}{m m':Mt}(h:EfV G v w m m')(hb:Below w.heap.size w w'):EfV G v w' m m':=⟨h.1,h.2.below hb⟩
theorem EfV.of{G:Nat→Prop}{v:Value}{w:World}{m m':Mt}(h:vr G w v m m'):EfV G v w m m':=⟨h.form,h⟩
section
variable {b n:Nat} {last:Gd} {f:Tf} {x:List (Int × Bt)}
theorem qlj(h:f.base≠last):zm b n last f x=2:=by unfold zm;rw[if_pos (.inl h)]
theorem qhx(h:above f.target last=false):zm b n last f x=2:=by unfold zm;rw[if_pos (.inr (.inl h))]
theorem qlk(h:f.next<0):zm b n last f x=2:=by unfold zm;rw[if_pos (.inr (.inr (.inr (.inr (.inl h)))))]
theorem qll(h:f.all<f.next):zm b n last f x=2:=by unfold zm;rw[if_pos (.inr (.inr (.inr (.inr (.inr (.inl h))))))]
theorem qoz(h:(b:Int)<f.all):zm b n last f x=2:=by unfold zm;rw[if_pos (.inr (.inr (.inr (.inl h))))]
theorem qlm(h:¬ (f.next=0↔f.all=0)):zm b n last f x=2:=by unfold zm;rw[if_pos (.inr (.inr (.inr (.inr (.inr (.inr h))))))]
theorem qo0(h:xw b (-1) x=false):zm b n last f x=2:=by unfold zm;rw[if_pos h];split <;> rfl
theorem qln(h1:f.base=last)(h2:above f.target last=true)(h3:¬ f.next<0)(h4:¬ f.all<f.next)(h5:¬ (b:Int)<f.all)(h6:f.next=0↔f.all=0)(h7:xw b (-1) x=true):zm b n last f x=if f.next=f.all then(if above f.target last=false then 2 else if 20≤n then 3 else 0)else 0:=by
 unfold zm;have h2':¬ above f.target last=false:=by rw[h2];simp
 rw[if_neg,if_neg (by rw[h7];simp),if_neg h2']
 ·by_cases e:f.next=f.all
  ·rw[if_pos e];by_cases e2:20≤n
   ·rw[if_pos ⟨e,e2⟩,if_pos e2]
   ·rw[if_neg (fun h=>e2 h.2),if_neg e2]
  ·rw[if_neg (fun h=>e h.1),if_neg e]
 ·rintro(h|h|h|h|h|h|h)
  ·exact h h1
  ·exact h2' h
  ·omega
  ·exact h5 h
  ·exact h3 h
  ·exact h4 h
  ·exact h h6
end
theorem tF {w:World}{A0 A1 A2:Option Addr}{c0 c1 c2:Nat}{m:Mt}(hS:ji w A1 m.qd)(hsz:mtS m)(f:Tf)(A:Option Addr)(n c:Nat)(B:Option Addr)(cx:Nat)(x:List (Int × Bt))(hx:ch.kX w B x)(fG:x.length≤1000) :
    Calls prog 155 #[.agg (zw A0 A1 A2 c0 c1 c2 m),.agg (ub f A n c),.slice B x.length cx] w (ai (zm m.live.length m.qd.length (qI m) f x) w):=by
 obtain⟨W1,hW1,zQ,hb1⟩:=xL w (zw A0 A1 A2 c0 c1 c2 m);have hb2:=(Below.refl _ W1).alloc (Nat.le_refl _) (.cells (ub f A n c) 82);have hr2:=qh.new W1 82 (ub f A n c);obtain⟨W,hW2⟩:=QE (W1.alloc (.cells (ub f A n c) 82));rw[hW2]at hb2 hr2;have qG:=QH (qc hb1 hb2);have hk2:=zQ.below hb2;have wj:=QH hk2;have uS:=QH hr2;have HS:=QH (hS.below qG.out);have HX:=QH (hx.below qG.out);have h20:=hsz.qd;have h8:=hsz.live;have q0:=hk2.cell 0;have q1:=hk2.cell 1;have q2:=hk2.cell 2;have q3:=hk2.cell 3;have q4:=hk2.cell 4;have q5:=hk2.cell 5;have q6:=hk2.cell 6;have q7:=hk2.cell 7;have q8:=hk2.cell 8;have qlt:=hk2.lt;simp only[zw,ub,QA,QB,QC]at q0 q1 q2 q3 q4 q5 q6 q7 q8;have r0:=hr2.cell 0;have r1:=hr2.cell 1;have r2:=hr2.cell 2;have r3:=hr2.cell 3;have r4:=hr2.cell 4;have r5:=hr2.cell 5;have r6:=hr2.cell 6;have rlt:=hr2.lt;simp only[zw,ub,QA,QB,QC]at r0 r1 r2 r3 r4 r5 r6;have e0:=fun d os=>cell_regrown q0 d os;have e1:=fun d os=>cell_regrown q1 d os;have e2:=fun d os=>cell_regrown q2 d os;have e3:=fun d os=>cell_regrown q3 d os;have e4:=fun d os=>cell_regrown q4 d os;have e5:=fun d os=>cell_regrown q5 d os;have e6:=fun d os=>cell_regrown q6 d os;have e7:=fun d os=>cell_regrown q7 d os;have e8:=fun d os=>cell_regrown q8 d os;have p0:=fun d os=>cell_regrown r0 d os;have p1:=fun d os=>cell_regrown r1 d os;have cL:∀b os,Calls prog 227 #[.agg (zw A0 A1 A2 c0 c1 c2 m)] (grow (redrawn W b) os) fun e w''=>e=.returned (gv (qI m))∧∃q:Regrown,w''=grow (redrawn W q.d) q.os :=
  fun b os=>Calls.regrown_of (pL (HS.out.below (below_regrown W b os)) h20)
 have EB:=QH (fun h=>qlj (b:=m.live.length) (n:=m.qd.length) (last:=qI m) (f:=f) (x:=x) h);have EA:=QH (fun h=>qhx (b:=m.live.length) (n:=m.qd.length) (last:=qI m) (f:=f) (x:=x) h);have EN:=QH (fun h=>qlk (b:=m.live.length) (n:=m.qd.length) (last:=qI m) (f:=f) (x:=x) h);have EO:=QH (fun h=>qll (b:=m.live.length) (n:=m.qd.length) (last:=qI m) (f:=f) (x:=x) h);have EL:=QH (fun h=>qoz (b:=m.live.length) (n:=m.qd.length) (last:=qI m) (f:=f) (x:=x) h);have EZ:=QH (fun h=>qlm (b:=m.live.length) (n:=m.qd.length) (last:=qI m) (f:=f) (x:=x) h);have EC:=QH (fun h=>qo0 (b:=m.live.length) (n:=m.qd.length) (last:=qI m) (f:=f) (x:=x) h);have EG:=QH (fun h1 h2 h3 h4 h5 h6 h7=>qln (b:=m.live.length) (n:=m.qd.length) (last:=qI m) (f:=f) (x:=x) h1 h2 h3 h4 h5 h6 h7);have HCA:Hid (∀W',Calls prog 228 #[gv f.target,gv f.base] W' (kE (above f.target f.base) W')):=fun W'=>mA f.target f.base W';have dX:Hid (∀W',ch.kX W' B x→Calls prog 61 #[.agg (zw A0 A1 A2 c0 c1 c2 m),.slice B x.length cx] W' (kE (xw m.live.length (-1) x) W')):=fun W' h=>qhp h8 h fG;have HCM:Hid (∀W',ji W' A1 m.qd→Calls prog 229 #[.agg (zw A0 A1 A2 c0 c1 c2 m),gv f.target] W' (ai (if above f.target (qI m)=false then 2 else if 20≤m.qd.length then 3 else 0) W')):=fun W' h=>qdU h h20 f.target;obtain⟨Z,hZ⟩:=QE (if above f.target (qI m)=false then(2:Int)else if 20≤m.qd.length then 3 else 0);rw[hZ]at HCM EG;clear hZ;obtain⟨R,hR⟩:=QE (zm m.live.length m.qd.length (qI m) f x);obtain⟨q,hq⟩:=QE (xw m.live.length (-1) x);rw[hR]at EB EA EN EO EL EZ EC EG ⊢;rw[hq]at dX EC EG;clear hR hq;obtain⟨⟨ba,bb⟩,⟨ta,tb⟩,nx,al⟩:=f;obtain⟨L,hL⟩:=QE (qI m);rw[hL]at cL EB EA EG;obtain⟨la,lb⟩:=L;clear hS zQ hb1 hb2 hr2 hk2 hL hx;dsimp only[ub,gv]at *;unfold zw at *;go_enter func155,ntmps155;go_upto_region 1 with fail;try rw[hW1]
 try rw[hW2]
 clear hW1 hW2;have qss:((ba:Int)=la∧(bb:Int)=lb∧(ba,bb)=(la,lb))∨((¬ (ba:Int)=la∨((ba:Int)=la∧¬ (bb:Int)=lb))∧R=2):=by
  by_cases e1:ba=la
  ·by_cases e2:bb=lb
   ·exact .inl ⟨by rw[e1],by rw[e2],by rw[e1,e2]⟩
   ·exact .inr ⟨.inr ⟨by rw[e1],by omega⟩,EB.out (fun h=>e2 (Prod.mk.inj h).2)⟩
  ·exact .inr ⟨.inl (by omega),EB.out (fun h=>e1 (Prod.mk.inj h).1)⟩
 have FIN:Hid (∀dq osq,Below w.heap.size w (grow (redrawn W dq) osq)):=fun dq osq=>qc qG.out (below_regrown W dq osq);rcases qss with⟨hba,hbb,hbe⟩|⟨hno,hr⟩
 case' inr =>
  have HR:=QH hr;clear hr;rcases hno with hn1|⟨hn1,hn2⟩;all_goals
   refine wp_region_quiet_below eV (by kernel_rfl) ?_;repeat (any_goals (first|go_big_quiet_step (first|exact cL _ _)|quiet_step (first|exact cL _ _)))
   refine wpQuiet_nil ?_;intro _ hw';obtain⟨⟨dq,osq⟩,hw''⟩:=hw';subst hw'';have zG:=QH (FIN.out dq osq);clear cL e0 e1 e2 e3 e4 e5 e6 e7 e8 p0 p1;go_wp2_with fail;go_ret;exact⟨by rw[HR.out];rfl,zG.out⟩
 have HBE:=QH hbe;clear hbe;refine wp_region_quiet_below eV (by kernel_rfl) ?_;repeat (any_goals (first|go_big_quiet_step (first|exact cL _ _)|quiet_step (first|exact cL _ _)))
 refine wpQuiet_nil ?_;intro _ hw';obtain⟨⟨dq,osq⟩,hw''⟩:=hw';subst hw'';have hbg:=below_regrown W dq osq;have zG:=QH (FIN.out dq osq);have og:=QH (wj.out.below hbg);have cV:=QH (uS.out.below hbg);have HS3:=QH (HS.out.below hbg);have HX3:=QH (HX.out.below hbg);clear hbg cL e0 e1 e2 e3 e4 e5 e6 e7 e8 p0 p1 qlt rlt q0 q1 q2 q3 q4 q5 q6 q7 q8 r0 r1 r2 r3 r4 r5 r6 hba hbb qG wj uS HS HX FIN;generalize grow (redrawn W dq) osq=W3 at *;have hr3:=cV.out;have r0:=hr3.cell 0;have r1:=hr3.cell 1;have r2:=hr3.cell 2;have r3:=hr3.cell 3;have r4:=hr3.cell 4;have r5:=hr3.cell 5;have r6:=hr3.cell 6;have rlt:=hr3.lt;simp only[Nat.zero_add,QA,QB,QC]at r0 r1 r2 r3 r4 r5 r6;clear hr3;go_wp2_with fail;refine(HCA.out _).mono ?_;rintro e W4 ⟨rfl,hb4⟩;have zY:=QH (qc zG.out hb4);have pj:=QH (og.out.below hb4);have tV:=QH (cV.out.below hb4);have nZ:=QH (HS3.out.below hb4);have HX4:=QH (HX3.out.below hb4);clear hb4 HCA zG og cV HS3 HX3 rlt r0 r1 r2 r3 r4 r5 r6;have hbe:=HBE.out;obtain⟨ab,hab⟩:=QE (above (ta,tb) (ba,bb));have HAB:Hid (above (ta,tb) (la,lb)=ab):=by unfold Hid;rw[← hbe];exact hab
 rw[hab];clear hab hbe;have hr4:=tV.out;have hk4:=pj.out;have r0:=hr4.cell 0;have r1:=hr4.cell 1;have r2:=hr4.cell 2;have r3:=hr4.cell 3;have r4:=hr4.cell 4;have r5:=hr4.cell 5;have r6:=hr4.cell 6;have rlt:=hr4.lt;simp only[Nat.zero_add,QA,QB,QC]at r0 r1 r2 r3 r4 r5 r6;have q0:=hk4.cell 0;have q1:=hk4.cell 1;have q2:=hk4.cell 2;have q3:=hk4.cell 3;have q4:=hk4.cell 4;have q5:=hk4.cell 5;have q6:=hk4.cell 6;have q7:=hk4.cell 7;have q8:=hk4.cell 8;have qlt:=hk4.lt;simp only[Nat.zero_add,QA,QB,QC]at q0 q1 q2 q3 q4 q5 q6 q7 q8;clear hr4 hk4;cases ab
 case' false =>
  have HR:=QH (EA.out HAB.out);go_wp2_with fail;go_ret;exact⟨by rw[HR.out];rfl,zY.out⟩
 by_cases h3:nx<0
 case' pos =>
  have HR:=QH (EN.out h3);go_wp2_with fail;go_ret;exact⟨by rw[HR.out];rfl,zY.out⟩
 by_cases h4:al<nx
 case' pos =>
  have HR:=QH (EO.out h4);go_wp2_with fail;go_ret;exact⟨by rw[HR.out];rfl,zY.out⟩
 by_cases h5:(m.live.length:Int)<al
 case' pos =>
  have HR:=QH (EL.out h5);go_wp2_with fail;go_ret;exact⟨by rw[HR.out];rfl,zY.out⟩
 obtain⟨z1,hz1⟩:=QE (nx == 0);obtain⟨z2,hz2⟩:=QE (al == 0);have HZ:Hid ((nx=0↔al=0)↔z1=z2):=by
  unfold Hid;rw[← hz1,← hz2,Bool.eq_iff_iff];simp
 have HZ0:Hid (¬ (z1=z2)→R=2):=fun h=>EZ.out (fun e=>h (HZ.out.1 e));have HG:Hid (z1=z2→q=true→R=if nx=al then Z else 0):=fun h h7=>EG.out HBE.out HAB.out (by omega) (by omega) (by omega) (HZ.out.2 h) h7;clear HZ;cases z1 <;> cases z2
 case' false.true =>
  have HR:=QH (HZ0.out (by decide));go_wp2_with fail;go_ret;exact⟨by rw[HR.out];rfl,zY.out⟩
 case' true.false =>
  have HR:=QH (HZ0.out (by decide));go_wp2_with fail;go_ret;exact⟨by rw[HR.out];rfl,zY.out⟩
 all_goals
  have HG2:=QH (HG.out rfl);clear HG HZ0;go_wp2_with fail;refine(dX.out _ HX4.out).mono ?_;rintro e W5 ⟨rfl,hb5⟩;have jU:=QH (qc zY.out hb5);have hr5:=tV.out.below hb5;have hk5:=pj.out.below hb5;have iz:=QH (nZ.out.below hb5);clear hb5 r0 r1 r2 r3 r4 r5 r6 rlt q0 q1 q2 q3 q4 q5 q6 q7 q8 qlt;have r0:=hr5.cell 0;have r1:=hr5.cell 1;have r2:=hr5.cell 2;have r3:=hr5.cell 3;have r4:=hr5.cell 4;have r5:=hr5.cell 5;have r6:=hr5.cell 6;have rlt:=hr5.lt;simp only[Nat.zero_add,QA,QB,QC]at r0 r1 r2 r3 r4 r5 r6;have q0:=hk5.cell 0;have q1:=hk5.cell 1;have q2:=hk5.cell 2;have q3:=hk5.cell 3;have q4:=hk5.cell 4;have q5:=hk5.cell 5;have q6:=hk5.cell 6;have q7:=hk5.cell 7;have q8:=hk5.cell 8;have qlt:=hk5.lt;simp only[Nat.zero_add,QA,QB,QC]at q0 q1 q2 q3 q4 q5 q6 q7 q8;clear hr5 hk5;cases q
  case' false =>
   have HR:=QH (EC.out rfl);go_wp2_with fail;go_ret;exact⟨by rw[HR.out];rfl,jU.out⟩
  have tR:=QH (HG2.out rfl);by_cases h6:nx=al
  case' neg =>
   have HR:Hid (R=0):=by unfold Hid;rw[tR.out,if_neg h6]
   go_wp2_with fail;all_goals go_ret
   all_goals exact⟨by rw[HR.out];rfl,jU.out⟩
  have HR:Hid (R=Z):=by unfold Hid;rw[tR.out,if_pos h6]
  have hnx:(nx == al)=true:=by rw[h6];simp
  go_wp2_with fail;refine(HCM.out _ iz.out).mono ?_;rintro e W6 ⟨rfl,wG⟩;have dJ:=QH (qc jU.out wG);clear wG r0 r1 r2 r3 r4 r5 r6 rlt q0 q1 q2 q3 q4 q5 q6 q7 q8 qlt;go_wp2_with fail;go_ret;exact⟨by rw[HR.out];rfl,dJ.out⟩
end Go.Proofs.YtdpbdkacngaemaaGreatDoor.vt.pg
namespace Go.Proofs.YtdpbdkacngaemaaGreatDoor.vt.pg
open _root_.Go.Proofs.Tryz Go Go.RowKit Go.Sort ib mt im sp
theorem qlo{b N:Nat}{m:Mt}{f:Tf}(h:jm b N m)(e2:mt.above f.target (qI m)=true):jk b N (zo m f):=by
 unfold zo;split
 ·rename_i hm;rcases h.tok with ht|ht
  ·exfalso;rw[ht]at hm;have:f.target=(0,0):=hm.2.1.symm;rw[this]at e2;unfold mt.above at e2;simp at e2
  ·exact ht.2.2.2.2.2
 ·exact qaZ h
def s1M (m:Mt)(f:Tf)(l:List Int):Mt:=qxx m f.target l
def s2M (m:Mt)(f:Tf)(l:List Int):Mt:={ s1M m f l with live:=l }
def s3M (m:Mt)(f:Tf)(l:List Int):Mt:={ s2M m f l with tok:=yg }
def qlp (f:Tf)(l:List Int):Tk:=⟨f.base,f.target,f.next,f.all,l⟩
theorem qbH{b N:Nat}{t:Tg}{m:Mt}(h:yz b N t m)(f:Tf)(x:List (Int × Bt)) :
    (zm m.live.length m.qd.length (qI m) f x≠0∧xA N m f x=⟨zm m.live.length m.qd.length (qI m) f x,m,[]⟩) ∨
    (zm m.live.length m.qd.length (qI m) f x=0∧xw m.live.length (-1) x=true∧x.length≤8∧jk b N (zo m f)∧f.next≤f.all ∧
     (((qL N m x).2≠0∧xA N m f x=⟨(qL N m x).2,m,[]⟩) ∨
      ((qL N m x).2=0∧((f.next=f.all∧xA N m f x=⟨0,s3M m f (zU (zo m f) x (qL N m x).1.1),(qL N m x).1.2⟩) ∨
       (f.next≠f.all∧xA N m f x=⟨0,{ m with tok:=qlp f (zU (zo m f) x (qL N m x).1.1) },(qL N m x).1.2⟩))))):=by
 by_cases he:zm m.live.length m.qd.length (qI m) f x=0
 ·right
  obtain⟨e1,e2,e3,e4,e5,e6,e7,e8⟩:=mq he;have hlen:=h.ok.len;have hb1:=h.ok.b1;have hb8:=h.ok.b8;refine⟨he,e7,?_,qlo h.ok e2,by omega,?_⟩
  ·have:=eE e7 (by omega) (by omega);omega
  ·unfold xA;rw[if_neg (by rw[he];simp)];by_cases h0:(qL N m x).2=0
   ·rw[if_neg (by rw[h0];simp)];refine .inr ⟨h0,?_⟩;by_cases hn:f.next=f.all
    ·rw[if_pos hn];exact .inl ⟨hn,rfl⟩
    ·rw[if_neg hn];exact .inr ⟨hn,rfl⟩
   ·rw[if_pos h0];exact .inl ⟨h0,rfl⟩
 ·left
  unfold xA;rw[if_pos he];exact⟨he,rfl⟩
theorem qlq{b N:Nat}{t:Tg}{m:Mt}(h:yz b N t m)(f:Tf)(hg:zV f.target)(x:List (Int × Bt))(h0:(xA N m f x).code=0):jm b N (xA N m f x).m∧sA N m (xA N m f x).ws:=by
 rcases mr h f hg x with⟨h7,_⟩|⟨_,hd⟩
 ·rw[h0]at h7;cases h7
 ·have hs:=hd h0;by_cases hn:f.next=f.all
  ·exact⟨(hs.whole hn).1.ok,(hs.whole hn).1.ws⟩
  ·exact⟨(hs.part hn).1.ok,(hs.part hn).1.ws⟩
theorem tr.new{w:World}{B:Nat}{v:Value}{l:List Pl}(h:tr w B v l):∀a n c,v=.slice a n c→∀b o s,a=some ⟨b,o,s⟩→B≤b:=by
 intro a n c hv b o s ha;rcases h.2 with⟨rfl,h0⟩|⟨g,cap,cur,rfl,hg,hh,hcc,hm,hcs,yb⟩
 ·cases hv;cases ha
 ·cases hv;cases ha;exact hg
theorem PlL.set{w:World}{A:Option Addr}{l:List Pl}(h:PlL w A l){g k:Nat}{u:Value}(hg:∀b o s,A=some ⟨b,o,s⟩→b≠g):PlL (w.setCell ⟨g,k,none⟩ u) A l:=by
 intro i hi;obtain⟨b,o,h1,h2,h3,h4,h5⟩:=h i hi;have hn:=hg b o none h1;have hb:(w.setCell ⟨g,k,none⟩ u).heap[b]?=w.heap[b]? :=qw _ _ _ _ _ hn;exact⟨b,o,h1,by simpa[World.setCell]using h2,(World.cell?_of_block (w:=w) (a:=⟨b,o+i*3,none⟩) hb).trans h3,(World.cell?_of_block (w:=w) (a:=⟨b,o+i*3+1,none⟩) hb).trans h4,(World.cell?_of_block (w:=w) (a:=⟨b,o+i*3+2,none⟩) hb).trans h5⟩
def qo1 (G:Nat→Prop)(p tb:Nat)(T F:Array Value)(src qp:List Int)(PV:Value):Nat→Value→World→Prop:=fun i v w=>match i with
 | 3=>v=.agg T
 | 4=>v=.agg F
 | 5=>∃A c,v=.slice A src.length c∧dN G w A src c
 | 6=>v=PV
 | 7=>∃A c,v=.slice A qp.length c∧dN G w A qp c
 | 8=>v=.pointer (some ⟨tb,6,none⟩)
 | _=>v=pt p
theorem qhy(G:Nat→Prop)(p tb:Nat)(T F:Array Value)(src qp:List Int)(PV:Value):∀i v w w',i<9→qo1 G p tb T F src qp PV i v w→Below w.heap.size w w'→qo1 G p tb T F src qp PV i v w':=by
 intro i v w w' hi h hb;rcases i with _|_|_|_|_|_|_|_|_|i;all_goals (first|omega|skip)
 all_goals unfold qo1 at h ⊢
 all_goals try dsimp only at h ⊢
 all_goals first
  | exact h
  | (obtain⟨A,c,h1,h2⟩:=h
     exact⟨A,c,h1,h2.stay (vq.of_below hb)⟩)
def qo2 (G:Nat→Prop)(p tb:Nat)(PV IV:Value)(m:Mt)(f:Tf)(qp:List Int):Nat→Value→World→Prop:=fun i v w=>match i with
 | 1=>v=PV
 | 2=>v=.pointer (some ⟨tb,2,none⟩)
 | 3=>v=.agg #[.int .u64 (f.target.1:Int),.int .u64 (f.target.2:Int)]
 | 4 | 7=>v=.pointer (some ⟨tb,6,none⟩)
 | 5 | 8=>v=IV
 | 6=>EfV G v w m (s1M m f qp)
 | 9=>EfV G v w (s1M m f qp) (s2M m f qp)
 | 10=>v=.agg (nd yg none 0 0)
 | 11=>EfV G v w (s2M m f qp) (s3M m f qp)
 | 12=>∃B f1 f2 f3,v=.slice (some ⟨B,0,none⟩) 3 3∧qh w B 129 #[f1,f2,f3]∧EfV G f1 w m (s1M m f qp)∧EfV G f2 w (s1M m f qp) (s2M m f qp)∧EfV G f3 w (s2M m f qp) (s3M m f qp)
 | _=>v=pt p
theorem qhz(G:Nat→Prop)(p tb:Nat)(PV IV:Value)(m:Mt)(f:Tf)(qp:List Int):∀i v w w',i<13→qo2 G p tb PV IV m f qp i v w→Below w.heap.size w w'→qo2 G p tb PV IV m f qp i v w':=by
 intro i v w w' hi h hb;rcases i with _|_|_|_|_|_|_|_|_|_|_|_|_|i;all_goals (first|omega|skip)
 all_goals unfold qo2 at h ⊢
 all_goals try dsimp only at h ⊢
 all_goals first
  | exact h
  | exact h.below hb
  | (obtain⟨B,f1,f2,f3,h1,h2,h3,h4,h5⟩:=h
     exact⟨B,f1,f2,f3,h1,h2.below hb,h3.below hb,h4.below hb,h5.below hb⟩)
theorem qh0{o1 o2:Nat→Prop}{w:World}{v pd N b:Nat}{d:DD}{m:Mt}{t:Tg}(f:Tf)(A:Option Addr)(c:Nat)(x:List (Int × Bt))(h:VP gI w o1 o2 v pd d m false)(hJ:jr.JJ N t d)(hf:0≤d.qz)(hR:yz b N t m)(hfb:TfB f)(hx:ch.kX w A x)(fG:x.length≤1000) :
    Calls prog 84 #[pt v,tkV f none 0 0,.slice A x.length c] w (sF gI o1 o2 v pd (qg1 N t d m (xA N m f x)) w):=by
 have HDO:=QH (qlq hR f hfb.target x);have HFB:=QH hfb;have fz:=QH h;have hb2:=(Below.refl _ w).alloc (Nat.le_refl _) (.cells (ub f none 0 0) 82);have hr2:=qh.new w 82 (ub f none 0 0);obtain⟨W,hW2⟩:=QE (w.alloc (.cells (ub f none 0 0) 82));rw[hW2]at hb2 hr2;have h2:=qT h hb2;obtain⟨A0,A1,A2,c0,c1,c2,hA⟩:=h2.is;have HA:=QH hA;have HJ:=QH hJ;have HR:=QH hR;have HFU:=QH hf;have qG:=QH hb2;have uS:=QH hr2;have HX2:=QH (hx.below hb2);have iG:=QH (qby h2 hJ.on);have po:=QH hA.sz;have HXL:=QH fG;obtain⟨pU,k0,k1,k2,k3,k4,k5,k6,k7,k8,k9,uO⟩:=hA.cells;have r0:=hr2.cell 0;have r1:=hr2.cell 1;have r2:=hr2.cell 2;have r3:=hr2.cell 3;have r4:=hr2.cell 4;have r5:=hr2.cell 5;have r6:=hr2.cell 6;have rlt:=hr2.lt;simp only[ub,Nat.zero_add,QA,QB,QC]at r0 r1 r2 r3 r4 r5 r6;have e0:=fun d os=>cell_regrown k0 d os;have e1:=fun d os=>cell_regrown k1 d os;have e2:=fun d os=>cell_regrown k2 d os;have e3:=fun d os=>cell_regrown k3 d os;have e4:=fun d os=>cell_regrown k4 d os;have e5:=fun d os=>cell_regrown k5 d os;have e6:=fun d os=>cell_regrown k6 d os;have e7:=fun d os=>cell_regrown k7 d os;have e8:=fun d os=>cell_regrown k8 d os;have p0:=fun d os=>cell_regrown r0 d os;have p1:=fun d os=>cell_regrown r1 d os;have p2:=fun d os=>cell_regrown r2 d os;have p3:=fun d os=>cell_regrown r3 d os;have p4:=fun d os=>cell_regrown r4 d os;have p5:=fun d os=>cell_regrown r5 d os;have p6:=fun d os=>cell_regrown r6 d os;have cF:∀b os,Calls prog 155 #[.agg (zw A0 A1 A2 c0 c1 c2 m),.agg (ub f none 0 0),.slice A x.length c] (grow (redrawn W b) os) fun e w''=>e=.returned (.int .i64 (zm m.live.length m.qd.length (qI m) f x))∧∃q:Regrown,w''=grow (redrawn W q.d) q.os :=
  fun b os=>Calls.regrown_of (tF (HA.out.below (below_regrown W b os)).tab.mt.qd po.out f none 0 0 A c x (HX2.out.below (below_regrown W b os)) HXL.out)
 have HFC:=QH (qbH hR f x);obtain⟨PN,hPN⟩:=QE (xA N m f x);obtain⟨F,hF⟩:=QE (zm m.live.length m.qd.length (qI m) f x);rw[hF,hPN]at HFC;rw[hPN]at HDO;rw[hF]at cF;rw[hPN];obtain⟨n,hn⟩:=QE x.length;rw[hn]at cF ⊢;have HN:=QH hn;clear h h2 hJ hR hA hb2 hr2 hPN hF hf hfb hx hn fG;unfold zw ub at cF;try dsimp only at cF
 unfold tkV;unfold ub at hW2;go_enter func84,ntmps84;go_upto_region 1 with fail;try rw[hW2]
 clear hW2;go_wp2_with fail;refine iG.out.mono ?_;rintro e W1 ⟨rfl,rfl⟩;clear iG;go_upto_region 4 with fail;refine wp_region_quiet_below eV (by kernel_rfl) ?_;repeat (any_goals (first|go_big_quiet_step (first|exact cF _ _)|quiet_step (first|exact cF _ _)))
 refine wpQuiet_nil ?_;intro _ hw';obtain⟨⟨dq,osq⟩,hw''⟩:=hw';subst hw'';have hb:=below_regrown W dq osq;have zG:=QH (qc qG.out hb);have fx:=QH (HA.out.below hb);have cV:=QH (uS.out.below hb);have HX3:=QH (HX2.out.below hb);clear hb e0 e1 e2 e3 e4 e5 e6 e7 e8 p0 p1 p2 p3 p4 p5 p6 cF HA qG uS HX2 pU k0 k1 k2 k3 k4 k5 k6 k7 k8 k9 uO r0 r1 r2 r3 r4 r5 r6 rlt;generalize grow (redrawn W dq) osq=W3 at *;rcases HFC.out with⟨hc,hpn⟩|⟨rfl,hck,hx8,hso,hle,qbI⟩
 ·have hcb:(F != 0)=true:=by simpa using hc
  have HPN:=QH hpn;have HC:=QH hc;clear hc hpn HFC;go_wp2_with fail;go_ret;rw[HPN.out];exact qb8 (qT fz.out zG.out) zG.out (qb9 HC.out)
 ·have qsv:=qdY (c:=c) (qT fz.out zG.out) HJ.out.rb.1 HR.out.ok HR.out.N1 HX3.out hx8 (fun y hy=>(gH hck y hy).1);rw[HN.out]at qsv;have qxy:=QH qsv;have HCK:=QH hck;have HX8:=QH hx8;have HSO:=QH hso;have HLE:=QH hle;have qfg:=QH qbI;have hce:((0:Int) != 0)=false:=rfl;clear HFC hck hx8 hso hle qbI qsv;go_wp2_with fail;refine qxy.out.mono ?_;rintro e W4 ⟨hb4,qk1⟩;have zY:=QH (qc zG.out hb4);have ix:=QH (fx.out.below hb4);have tV:=QH (cV.out.below hb4);have zbV:=QH hb4.size;clear hb4 qxy;rcases qk1 with⟨hne,rfl⟩|⟨h0,pv,rfl,hop⟩
  ·have hcb:((qL N m x).2 != 0)=true:=by simpa using hne
   have HPE:Hid (PN=⟨(qL N m x).2,m,[]⟩):=by
    unfold Hid;rcases qfg.out with⟨_,h⟩|⟨h,_⟩
    ·exact h
    ·exact absurd h hne
   have HNE:=QH hne;clear qfg hne;generalize (qL N m x).2=pc at *;go_wp2_with fail;go_ret;rw[HPE.out];exact qb8 (qT fz.out zY.out) zY.out (qb9 HNE.out)
  ·have hpw:=qdZ HR.out.ok HR.out.N1 h0;have hpl:mg N m x (qL N m x).1.1 (qL N m x).1.2:=by
    rcases jL HR.out.ok HR.out.N1 x HX8.out (fun c hc=>(gH HCK.out c hc).1)with⟨h7,_⟩|⟨_,hp⟩
    ·rw[h7]at h0;cases h0
    ·exact hp
   have qbI:(f.next=f.all∧PN=⟨0,s3M m f (zU (zo m f) x (qL N m x).1.1),(qL N m x).1.2⟩)∨(f.next≠f.all∧PN=⟨0,{ m with tok:=qlp f (zU (zo m f) x (qL N m x).1.1) },(qL N m x).1.2⟩):=by
    rcases qfg.out with⟨h,_⟩|⟨_,h⟩
    ·exact absurd h0 h
    ·exact h
   have qls:=qxj hpl HR.out.N1 HCK.out;have qsw:=qsn hpl.len;obtain⟨BA,bc,hpv,hPL⟩:=hop.view;have hnew:=hop.new _ _ _ hpv;have hsp:=qfb x (qL N m x).1.1 (zo m f);generalize (qL N m x).1.1=at_ at *;generalize (qL N m x).1.2=ws at *;have dG:(zo m f).length=b:=HSO.out.1;have hml:m.live.length=b:=HR.out.ok.len;have hil:(zU (zo m f) x at_).length=b:=by rw[mi];exact dG
   have HPW:=QH hpw;have HPL:=QH hPL;have qsx:=QH qsw;have qa1:=QH hnew;have oA:=QH qbI;have HSL:=QH dG;have qlu:Hid (∀W A c,dN (fun j=>(o1 j∧j≠v)∨w.heap.size<j) W A (zo m f) c→Below W4.heap.size W4 W→Calls prog 65 #[.slice A (zo m f).length c,.slice BA (PL x at_).length bc] W (qg9 (fun j=>(o1 j∧j≠v)∨w.heap.size<j) (zU (zo m f) x at_) W)):=fun W A c hs hb=>by
    have:=ug hs (by rw[dG];exact HR.out.ok.b1) (by rw[dG];have:=HR.out.ok.b8;omega) (hPL.below hb) (cb:=bc) (by rw[dG];rw[hml]at qls;exact qls) (by rw[qsw];have:=HX8.out;omega) (fun j hj=>.inr (by
     have h1:=tV.out.lt;have h2:=hb.size;omega))
    rw[hsp]at this;exact this
   obtain⟨pn,hpn⟩:=QE ((PL x at_).length);rw[hpn]at hpv qlu;have HPN:=QH hpn;subst hpv;obtain⟨qp,qg0⟩:=QE (zU (zo m f) x at_);rw[qg0]at qlu oA hil;have HIL:=QH hil;obtain⟨P,hP⟩:=QE (PL x at_);rw[hP]at HPW HPL qsx HPN;obtain⟨src,qba⟩:=QE (zo m f);have q1V:=QH qba;rw[qba]at qlu HSL;clear h0 hpw hpl qbI qls qsw hPL hsp dG hml hil hop hnew qfg hpn qg0 hP qba;go_wp2_with fail;refine zR (by kernel_rfl) 9 [35,36,37,38,39,40,41,42,43] (by kernel_rfl) (qo1 (fun j=>(o1 j∧j≠v)∨w.heap.size<j) v w.heap.size (zw A0 A1 A2 c0 c1 c2 m) (ub f none 0 0) src qp (.slice BA pn bc)) (qhy _ _ _ _ _ _ _ _) ?_ ?_
   ·intro i o vs ρ W hi hop hρ hfn hb hG;have t0:ρ (.tmp 0)=pt v:=hρ.out 0 rfl;have t4:ρ (.tmp 4)=pt w.heap.size:=hρ.out 4 rfl;have t9:ρ (.tmp 9)=.slice BA pn bc:=hρ.out 9 rfl;have s35:=hρ.at_ 35 0 rfl;have s36:=hρ.at_ 36 1 rfl;have s37:=hρ.at_ 37 2 rfl;have s38:=hρ.at_ 38 3 rfl;have s39:=hρ.at_ 39 4 rfl;have s40:=hρ.at_ 40 5 rfl;have s41:=hρ.at_ 41 6 rfl;have hAW:=ix.out.below hb;obtain⟨pU,k0,k1,k2,k3,k4,k5,k6,k7,k8,k9,uO⟩:=hAW.cells;have hr:=tV.out.below hb;have r0:=hr.cell 0;have r1:=hr.cell 1;have r2:=hr.cell 2;have r3:=hr.cell 3;have r4:=hr.cell 4;have r5:=hr.cell 5;have r6:=hr.cell 6;have rlt:=hr.lt;simp only[ub,QA,QB,QC]at r0 r1 r2 r3 r4 r5 r6;rcases i with _|_|_|_|_|_|_|_|_|i;all_goals (first|omega|skip)
    all_goals simp only[QA,QB,QC,Option.some.injEq]at hop
    all_goals subst hop
    ·exact qa (w':=W) (by unfold execOp;simp only[t0];go_simp) ⟨Below.refl _ _,rfl⟩
    ·have g0:vs 0=_:=hG 0 (by kernel_rfl);exact qa (w':=W) (by unfold execOp;simp only[s35,g0];go_simp) ⟨Below.refl _ _,rfl⟩
    ·have g1:vs 1=_:=hG 1 (by kernel_rfl);exact qa (w':=W) (by unfold execOp;simp only[s36,g1];go_simp) ⟨Below.refl _ _,rfl⟩
    ·have g2:vs 2=_:=hG 2 (by kernel_rfl);exact qa (w':=W) (by unfold zw execOp;simp only[s37,g2];go_simp) ⟨Below.refl _ _,rfl⟩
    ·exact qa (w':=W) (by unfold ub execOp;simp only[t4];go_simp) ⟨Below.refl _ _,rfl⟩
    ·have g3:vs 3=_:=hG 3 (by kernel_rfl);have g4:vs 4=_:=hG 4 (by kernel_rfl);refine qi (f:=156) (args:=#[.agg (zw A0 A1 A2 c0 c1 c2 m),.agg (ub f none 0 0)]) (w':=W) (by unfold execOp;simp only[hfn,s38,g3,s39,g4];go_simp) ((qdS (G:=fun j=>(o1 j∧j≠v)∨w.heap.size<j) (hAW.tab.mono (fun j hj=>.inl hj)) hAW.sz (fun j hj=>.inr (by omega)) f none 0 0).mono ?_);rintro e W' ⟨A,c,rfl,dG,hb5⟩;rw[q1V.out]at dG ⊢;exact⟨_,rfl,hb5,A,c,rfl,dG⟩
    ·exact qa (w':=W) (by unfold execOp;simp only[t9];go_simp) ⟨Below.refl _ _,rfl⟩
    ·obtain⟨A,c,g5,dG⟩:=hG 5 (by kernel_rfl);have g6:vs 6=_:=hG 6 (by kernel_rfl);have hp:=qlu.out W A c;refine qi (f:=65) (args:=#[.slice A src.length c,.slice BA pn bc]) (w':=W) (by unfold execOp;simp only[hfn,s40,g5,s41,g6];go_simp) ((hp dG hb).mono ?_);rintro e W' ⟨A,c,rfl,dG,hb5⟩;exact⟨_,rfl,hb5,A,c,rfl,dG⟩
    ·exact qa (w':=W) (by unfold execOp;simp only[t4];go_simp) ⟨Below.refl _ _,rfl⟩
   ·intro vs W hb hG;have g0:vs 0=_:=hG 0 (by decide);have g3:vs 3=_:=hG 3 (by decide);have g8:vs 8=_:=hG 8 (by decide);obtain⟨AL,cL,g7,dG⟩:=hG 7 (by decide);have hr:=tV.out.below hb;have f6:=hr.frozen 6;have r6:=hr.cell 6;have rlt:=hr.lt;simp only[ub,QA,QB,QC]at r6;have jU:Hid (Below w.heap.size w (W.setCell ⟨w.heap.size,6,none⟩ (.slice AL qp.length cL))):=(qc zY.out hb).setCell (p:=⟨w.heap.size,6,none⟩) (Nat.le_refl _) _;have lp:Hid (qh (W.setCell ⟨w.heap.size,6,none⟩ (.slice AL qp.length cL)) w.heap.size 82 (ub f AL qp.length cL)):=by
     have:=hr.qu 6 (.slice AL qp.length cL);simpa[Hid,ub]using this
    have iz:Hid (dN (fun j=>(o1 j∧j≠v)∨w.heap.size≤j) (W.setCell ⟨w.heap.size,6,none⟩ (.slice AL qp.length cL)) AL qp cL) :=
     (dG.stay (gJ (fun j hj=>by
      rcases hj with hj|hj
      ·have:=qld fz.out j (.inl hj.1);omega
      ·omega))).mono (fun j hj=>by
      rcases hj with hj|hj
      ·exact .inl hj
      ·exact .inr (by omega))
    have HP5:Hid (PlL (W.setCell ⟨w.heap.size,6,none⟩ (.slice AL qp.length cL)) BA P):=(HPL.out.below hb).set (fun b o s e=>by
     have h1:=qa1.out b o s e;have h2:=cV.out.lt;omega)
    obtain⟨W5,cG⟩:=QE (W.setCell ⟨w.heap.size,6,none⟩ (.slice AL qp.length cL));rw[cG]at jU lp iz HP5;simp only[qZ,qM,if_true];rw[g7,g8];generalize vs 0=z0;generalize vs 1=z1;generalize vs 2=z2;generalize vs 3=z3;generalize vs 4=z4;generalize vs 5=z5;generalize vs 6=z6;clear hG g0 g3 g7 g8 hb dG hr qlu HPL qa1;simp only[Act.put,List.setIfInBounds_toArray,List.set_cons_succ,List.set_cons_zero];refine qY (i:=9) (by kernel_rfl) rfl rfl ?_;go_simp;try rw[cG]
    clear f6 r6 rlt cG;refine⟨by kernel_rfl,?_⟩;have j0:=lp.out.cell 0;have j1:=lp.out.cell 1;have j2:=lp.out.cell 2;have j3:=lp.out.cell 3;have j4:=lp.out.cell 4;have j5:=lp.out.cell 5;have j6:=lp.out.cell 6;have jlt:=lp.out.lt;simp only[ub,QA,QB,QC]at j0 j1 j2 j3 j4 j5 j6;by_cases hn:f.next=f.all
    ·have hlt:¬ f.next<f.all:=by omega
     have HPC:Hid (PN.code=0∧PN.m=s3M m f qp∧PN.ws=ws):=by
      unfold Hid;rcases oA.out with⟨_,h⟩|⟨h,_⟩
      ·rw[h];exact⟨rfl,rfl,rfl⟩
      ·exact absurd hn h
     have HDK:=QH (HDO.out HPC.out.1);clear hn;go_wp2_with fail;refine zR (by kernel_rfl) 13 [55,56,57,58,59,60,61,62,63,64,65,66,67] (by kernel_rfl) (qo2 (fun j=>(o1 j∧j≠v)∨w.heap.size≤j) v w.heap.size (.slice BA pn bc) (.slice AL qp.length cL) m f qp) (qhz _ _ _ _ _ _ _ _) ?_ ?_
     ·intro i o vs ρ W hi hop hρ hfn hb hG;have t0:ρ (.tmp 0)=pt v:=hρ.out 0 rfl;have t4:ρ (.tmp 4)=pt w.heap.size:=hρ.out 4 rfl;have t9:ρ (.tmp 9)=.slice BA pn bc:=hρ.out 9 rfl;have s57:=hρ.at_ 57 2 rfl;have s58:=hρ.at_ 58 3 rfl;have s59:=hρ.at_ 59 4 rfl;have s60:=hρ.at_ 60 5 rfl;have s61:=hρ.at_ 61 6 rfl;have s62:=hρ.at_ 62 7 rfl;have s63:=hρ.at_ 63 8 rfl;have s64:=hρ.at_ 64 9 rfl;have s65:=hρ.at_ 65 10 rfl;have s66:=hρ.at_ 66 11 rfl;have hr:=lp.out.below hb;have q2:=hr.cell 2;have q3:=hr.cell 3;have q6:=hr.cell 6;have qlt:=hr.lt;simp only[ub,QA,QB,QC]at q2 q3 q6;have hsW:=iz.out.stay (vq.of_below hb);have hiW:qp.length≤1000:=by rw[HIL.out];have:=HR.out.ok.b8;omega
      have hsz:w.heap.size≤W.heap.size:=Nat.le_trans jU.out.size hb.size;clear j0 j1 j2 j3 j4 j5 j6 jlt;rcases i with _|_|_|_|_|_|_|_|_|_|_|_|_|i;all_goals (first|omega|skip)
      all_goals simp only[QA,QB,QC,Option.some.injEq]at hop
      all_goals subst hop
      ·exact qa (w':=W) (by unfold execOp;simp only[t0];go_simp) ⟨Below.refl _ _,rfl⟩
      ·exact qa (w':=W) (by unfold execOp;simp only[t9];go_simp) ⟨Below.refl _ _,rfl⟩
      ·exact qa (w':=W) (by unfold execOp;simp only[t4];go_simp) ⟨Below.refl _ _,rfl⟩
      ·have g2:vs 2=_:=hG 2 (by kernel_rfl);exact qa (w':=W) (by unfold execOp;simp only[s57,g2];go_simp) ⟨Below.refl _ _,rfl⟩
      ·exact qa (w':=W) (by unfold execOp;simp only[t4];go_simp) ⟨Below.refl _ _,rfl⟩
      ·have g4:vs 4=_:=hG 4 (by kernel_rfl);exact qa (w':=W) (by unfold execOp;simp only[s59,g4];go_simp) ⟨Below.refl _ _,rfl⟩
      ·have g3:vs 3=_:=hG 3 (by kernel_rfl);have g5:vs 5=_:=hG 5 (by kernel_rfl);refine qi (f:=157) (args:=#[gv f.target,.slice AL qp.length cL]) (w':=W) (by unfold execOp gv;simp only[hfn,s58,g3,s60,g5];go_simp) ((qjZ (G:=fun j=>(o1 j∧j≠v)∨w.heap.size≤j) hsW.at_ hiW HFB.out.target (fun j hj=>.inr (Nat.le_trans hsz hj))).mono ?_);rintro e W' ⟨fe,rfl,hef,hb5⟩;exact⟨fe,rfl,hb5,EfV.of (hef m (s1M m f qp) ⟨by have:=HR.out.ok.few;omega,rfl⟩)⟩
      ·exact qa (w':=W) (by unfold execOp;simp only[t4];go_simp) ⟨Below.refl _ _,rfl⟩
      ·have g7:vs 7=_:=hG 7 (by kernel_rfl);exact qa (w':=W) (by unfold execOp;simp only[s62,g7];go_simp) ⟨Below.refl _ _,rfl⟩
      ·have g8:vs 8=_:=hG 8 (by kernel_rfl);refine qi (f:=64) (args:=#[.slice AL qp.length cL]) (w':=W) (by unfold execOp;simp only[hfn,s63,g8];go_simp) ((qg7 (G:=fun j=>(o1 j∧j≠v)∨w.heap.size≤j) hsW hiW (fun j hj=>.inr (Nat.le_trans hsz hj))).mono ?_);rintro e W' ⟨fe,rfl,hef,hb5⟩;exact⟨fe,rfl,hb5,EfV.of (hef (s1M m f qp) _ rfl)⟩
      ·exact qa (w':=W) (by unfold nd yg execOp;go_simp) ⟨Below.refl _ _,rfl⟩
      ·have g10:vs 10=_:=hG 10 (by kernel_rfl);refine qi (f:=72) (args:=#[.agg (nd yg none 0 0)]) (w':=W) (by unfold execOp;simp only[hfn,s65,g10];go_simp) ((ng (G:=fun j=>(o1 j∧j≠v)∨w.heap.size≤j) (t:=yg) (yU.none W) (by decide) qlf (fun j hj=>.inr (Nat.le_trans hsz hj))).mono ?_);rintro e W' ⟨fe,rfl,hef,hb5⟩;exact⟨fe,rfl,hb5,EfV.of (hef (s2M m f qp) _ rfl)⟩
      ·have g6:=hG 6 (by kernel_rfl);have g9:=hG 9 (by kernel_rfl);have g11:=hG 11 (by kernel_rfl);obtain⟨⟨ka,ca,ea⟩,ga⟩:=g6;obtain⟨⟨kb,cb,eb⟩,gb⟩:=g9;obtain⟨⟨kc,cc,ec⟩,gc⟩:=g11;have hb1:=(Below.refl _ W).alloc (Nat.le_refl _) (.cells #[.func (.func ka) #[] ca,.func (.func kb) #[] cb,.func (.func kc) #[] cc] 129);rw[ea]at ga;rw[eb]at gb;rw[ec]at gc;exact qa (v:=.slice (some ⟨W.heap.size,0,none⟩) 3 3) (w':=W.alloc (.cells #[.func (.func ka) #[] ca,.func (.func kb) #[] cb,.func (.func kc) #[] cc] 129)) (by unfold execOp;simp only[s61,ea,s64,eb,s66,ec];go_simp) ⟨hb1,_,_,_,_,rfl,qh.new _ _ _,(EfV.of ga).below hb1,(EfV.of gb).below hb1,(EfV.of gc).below hb1⟩
     ·intro vs W hb hG;have g0:vs 0=_:=hG 0 (by decide);have g1:vs 1=_:=hG 1 (by decide);obtain⟨B,f1,f2,f3,g12,nN,he1,he2,he3⟩:=hG 12 (by decide);have HCH:=QH (qfe fz.out (qc jU.out hb) HJ.out HFU.out HR.out HPC.out.1 HDK.out (M:=fun i=>if i=0 then m else if i=1 then s1M m f qp else if i=2 then s2M m f qp else s3M m f qp) (n:=3) (c:=3) rfl (HPC.out.2.1.symm) (qea nN he1.2 he2.2 he3.2) (by omega) (cb:=bc) (HP5.out.below hb) (by rw[qsx.out];have:=HX8.out;omega) (HPW.out.trans HPC.out.2.2.symm));rw[HPN.out]at HCH;simp only[qZ,qM,if_true];rw[g0,g1,g12];generalize vs 2=z2;generalize vs 3=z3;generalize vs 4=z4;generalize vs 5=z5;generalize vs 6=z6;generalize vs 7=z7;generalize vs 8=z8;generalize vs 9=z9;generalize vs 10=z10;generalize vs 11=z11;clear hG g0 g1 g12 hb nN he1 he2 he3 j0 j1 j2 j3 j4 j5 j6 jlt;simp only[Act.put,List.setIfInBounds_toArray,List.set_cons_succ,List.set_cons_zero];refine qY (i:=13) (by kernel_rfl) rfl rfl ?_;go_simp;refine HCH.out.mono ?_;rintro e W7 ⟨r,d',m',lost,ov,eG,rfl,hh⟩;have HH:=QH hh;clear hh HCH;go_simp;refine qY (i:=14) (by kernel_rfl) rfl rfl ?_;go_simp;refine⟨by kernel_rfl,?_⟩;go_wp2_with fail;go_ret;exact⟨r,d',m',lost,ov,eG,rfl,HH.out⟩
    ·have hlt:f.next<f.all:=by have:=HLE.out;omega
     have HPC:Hid (PN.code=0∧PN.m={ m with tok:=qlp f qp }∧PN.ws=ws):=by
      unfold Hid;rcases oA.out with⟨h,_⟩|⟨_,h⟩
      ·exact absurd h hn
      ·rw[h];exact⟨rfl,rfl,rfl⟩
     have HDK:=QH (HDO.out HPC.out.1);have hst:=ng (G:=fun j=>(o1 j∧j≠v)∨w.heap.size≤j) (t:=qlp f qp) (A:=AL) (c:=cL) iz.out.at_ (by show qp.length≤1000;rw[HIL.out];have:=HR.out.ok.b8;omega) ⟨HFB.out.base,HFB.out.target,HFB.out.next,HFB.out.all⟩ (fun j hj=>.inr (Nat.le_trans jU.out.size hj));unfold nd qlp at hst;have HST:=QH hst;clear hn hst;go_wp2_with fail;refine HST.out.mono ?_;rintro e W6 ⟨fe,rfl,hef,wG⟩;have HEF:=QH (hef m PN.m HPC.out.2.1);obtain⟨kf,kU,rfl⟩:=HEF.out.form;have dJ:=QH (qc jU.out wG);have HP6:=QH (HP5.out.below wG);clear hef wG HST HP5 j0 j1 j2 j3 j4 j5 j6 jlt;have hb7:=(Below.refl _ W6).alloc (Nat.le_refl _) (.cells #[.func (.func kf) #[] kU] 129);have hk7:=qh.new W6 129 #[.func (.func kf) #[] kU];obtain⟨W7,hW7⟩:=QE (W6.alloc (.cells #[.func (.func kf) #[] kU] 129));rw[hW7]at hb7 hk7;have HCH:=QH (qfe fz.out (qc dJ.out hb7) HJ.out HFU.out HR.out HPC.out.1 HDK.out (c:=1) rfl rfl (qle hk7 (HEF.out.below hb7)) (by omega) (cb:=bc) (HP6.out.below hb7) (by rw[qsx.out];have:=HX8.out;omega) (HPW.out.trans HPC.out.2.2.symm));rw[HPN.out]at HCH;clear hb7 hk7 HEF HP6;go_wp2_with fail;try rw[hW7]
     refine HCH.out.mono ?_;rintro e W8 ⟨r,d',m',lost,ov,eG,rfl,hh⟩;have HH:=QH hh;clear hh HCH;go_wp2_with fail;go_ret;exact⟨r,d',m',lost,ov,eG,rfl,HH.out⟩
end Go.Proofs.YtdpbdkacngaemaaGreatDoor.vt.pg
namespace Go.Proofs.YtdpbdkacngaemaaGreatDoor.ch.pg
open _root_.Go.Proofs.Tryz Go Go.RowKit Go.Sort ib
theorem qeh(n:Nat)(h8:n≤8):xq n (dM n) (.slice none 0 0)=xq n [] (.slice none 0 0):=by
 unfold xq;rw[qof n h8]
theorem qbJ{ρ:Operand→Value}{o:Oper}{w:World}(x:Operand)(n:Nat)(ho:o.op=.build 172 #[(0,x)])(hx:ρ x=.int .i64 (n:Int)) :
    (execOp ρ o).run prog w=.ok (.value (.agg (xq n [] (.slice none 0 0)).toArray)) w:=by
 obtain⟨i0,hi,hz0,_,_⟩:=info_parts qoh;have hz:∀w,(zeroValue 172).run prog w=.ok (.agg (xq 0 [] (.slice none 0 0)).toArray) w:=fun w=>by simp[zeroValue,typeInfo,hi,hz0]
 have hb:(Instr.build 172 #[(0,.int .i64 (n:Int))]).run prog w=.ok (.agg (xq n [] (.slice none 0 0)).toArray) w:=by
  have e:(xq n [] (.slice none 0 0)).toArray=(xq 0 [] (.slice none 0 0)).toArray.set! 0 (.int .i64 (n:Int)):=rfl;rw[e];have hne:(xq 0 [] (.slice none 0 0)).toArray ≠ #[]:=by simp[xq]
  generalize (xq 0 [] (.slice none 0 0)).toArray=z0 at *;simp[Instr.build,hz,Result.andThen,go_sem,Value.cells];rw[if_neg hne];rfl
 simp[execOp,ho,hx,hb,Result.andThen]
theorem qei(n:Nat)(l:List Bt)(v:Value)(hv:v.oneCell'=true):∀u∈xq n l v,u.oneCell'=true:=by
 intro u hu;unfold xq at hu;simp only[List.mem_cons,List.mem_append,List.not_mem_nil,or_false]at hu;rcases hu with rfl|hu|rfl
 ·rfl
 ·exact qrS l u hu
 ·exact hv
def qx0 (n:Nat)(w:World)(e:Ending)(w':World):Prop:=∃p own,e=.returned (.pointer (some ⟨p,0,none⟩))∧Is0 own w' p (dV n)∧Below w.heap.size w w'∧∀j,own j→w.heap.size≤j
theorem lF (n:Nat)(w:World)(h1:1≤n)(h8:n≤8):Calls prog 91 #[.int .i64 (n:Int)] w (qx0 n w):=by
 have hi1:¬ (n:Int)<1:=by omega
 have hi8:¬ (8:Int)<(n:Int):=by omega
 have HC:=QH (qei n [] (.slice none 0 0) rfl);have HL:Hid ((xq n [] (.slice none 0 0)).length=258):=qdJ (n:=0) ⟨rfl,fun v hv=>by simp at hv⟩ (by omega);have HE:=QH (qeh n h8);obtain⟨C,hC⟩:=QE (xq n [] (.slice none 0 0));have HCC:=QH hC;rw[hC]at HC HL HE;clear hC;go_enter func91,ntmps91;go_wp2_with (first|(refine qx rfl (qbJ _ n rfl rfl) ?_;rw[HCC.out])|(refine qx rfl (qjV 172 (.tmp 10) C.toArray rfl rfl (by rw[qog,List.size_toArray,HL.out]) (qg3 HC.out)) ?_));go_ret;refine⟨w.heap.size,fun j=>j=w.heap.size,rfl,⟨?_,.slice none 0 0,?_,?_,rfl,(fun k hk=>by cases hk),fun k hk=>by rw[hk];simp⟩,(Below.refl w.heap.size w).alloc (Nat.le_refl _) _,fun j hj=>by omega⟩
 ·have hl:(dV n).live.length=n:=by simp[dV,dM]
  exact⟨by rw[hl];exact qnw n,by rw[hl];exact h1,by rw[hl];exact h8,fun s hs=>by simp[dV]at hs,by simp[dV],fun s hs=>by simp[dV]at hs⟩
 ·have hl:(dV n).live.length=n:=by simp[dV,dM]
  show qh _ _ _ (xq (dV n).live.length (dM n) (.slice none 0 0)).toArray;rw[hl,HE.out];exact qh.new _ _ _
 ·exact⟨none,0,rfl,Nat.le_refl _,by unfold maxLen;omega,.inl ⟨rfl,rfl,rfl⟩⟩
theorem pY:∀(l:List Sn) (i:Nat),i<l.length→(∀s∈l,(sc s).length=259)→(oC l).set (i*259+258) (.bool true)=oC (kQ l i)
 | x::l,0,_,h=>by
  have hx:=h x (by simp);have hv:(vc x.bs).length=256:=by
   unfold sc at hx;simpa using hx
  show(sc x++oC l).set (0*259+258) (.bool true)=sc { x with hid:=true }++oC l;rw[List.set_append_left _ _ (by omega)]
  congr 1
  unfold sc;rw[List.set_append_right _ _ (by omega),hv];rfl
 | x::l,i+1,hi,h=>by
  have ih:=pY l i (by simpa using hi) (fun s hs=>h s (by simp[hs]));have hx:=h x (by simp);have e:kQ (x::l) (i+1)=x::kQ l i:=by simp[kQ]
  rw[e];show(sc x++oC l).set ((i+1)*259+258) (.bool true)=sc x++oC (kQ l i);rw[List.set_append_right _ _ (by omega),hx,show(i+1)*259+258-259=i*259+258 by omega,ih]
theorem dO.qv1{w:World}{own:Nat→Prop}{p g c:Nat}{cur:Array Value}{d:CH}(h:dO w own p (.slice (some ⟨g,0,none⟩) d.qd.length c) d)(ho:d.ok)(hb:qh w g 174 cur)(ht:cur.toList.take (d.qd.length*259)=oC d.qd)(i:Nat)(hi:i<d.qd.length) :
    dO (w.setCell ⟨g,i*259+258,none⟩ (.bool true)) own p (.slice (some ⟨g,0,none⟩) d.qd.length c) ⟨d.live,kQ d.qd i⟩:=by
 have hgp:=h.vp g rfl;obtain⟨A',c',e,h1,h2,_⟩:=h.row;simp only[Value.slice.injEq,true_and]at e;obtain⟨rfl,rfl⟩:=e;have rS:(kQ d.qd i).length=d.qd.length:=by unfold kQ;rw[List.length_modify]
 refine⟨h.blk.of_block (qw _ _ _ _ _ hgp.symm),?_,h.op,h.om,fun j hj=>?_⟩
 ·refine⟨some ⟨g,0,none⟩,c,by rw[rS],by rw[rS];exact h1,h2,.inr ⟨g,_,rfl,hb.qu (i*259+258) (.bool true),?_⟩⟩;show(cur.setIfInBounds _ _).toList.take ((kQ d.qd i).length*259)=oC (kQ d.qd i);rw[rS,Array.toList_setIfInBounds,List.take_set,ht];exact pY d.qd i hi (fun s hs=>qrT (ho.qd s hs) ho.n8)
 ·have:=h.low j hj;simpa[World.setCell]using this
def AdG (p:Nat)(v0:Value)(S V N:List Value)(y1 y2:Int)(B:Nat):Nat→Value→World→Prop
 | 0,v,_=>v=.pointer (some ⟨p,0,none⟩)
 | 1,v,_=>v=.pointer (some ⟨p,0,none⟩)
 | 2,v,_=>v=.pointer (some ⟨p,257,none⟩)
 | 3,v,_=>v=v0
 | 4,v,_=>v=.agg S.toArray
 | 5,v,_=>v=.agg V.toArray
 | 6,v,_=>v=.agg #[.int .u64 y1,.int .u64 y2]
 | 7,v,_=>v=.agg N.toArray
 | 8,v,w=>∃g Z,v=.pointer (some ⟨g,0,none⟩)∧B≤g∧qh w g 174 Z∧Z.size=259
 | _,_,_=>True
theorem qbh(p:Nat)(v0:Value)(S V N:List Value)(y1 y2:Int)(B:Nat)(i:Nat)(v:Value)(w w':World)(hi:i<9)(h:AdG p v0 S V N y1 y2 B i v w)(hb:Below w.heap.size w w'):AdG p v0 S V N y1 y2 B i v w':=by
 match i,hi,h with
 | 0,_,h | 1,_,h | 2,_,h | 3,_,h | 4,_,h | 5,_,h | 6,_,h | 7,_,h=>exact h
 | 8,_,⟨g,Z,h1,h2,h3,h4⟩=>exact⟨g,Z,h1,h2,h3.below hb,h4⟩
end Go.Proofs.YtdpbdkacngaemaaGreatDoor.ch.pg
namespace Go.Proofs.YtdpbdkacngaemaaGreatDoor.ch.pg
open _root_.Go.Proofs.Tryz Go Go.RowKit ib
end Go.Proofs.YtdpbdkacngaemaaGreatDoor.ch.pg
namespace Go.Proofs.YtdpbdkacngaemaaGreatDoor.ch.pg
open _root_.Go.Proofs.Tryz Go Go.RowKit Go.Sort ib
def qx1 (A:Option Addr)(cc n:Nat):Prop:=n≤cc∧((A=none∧cc=0)∨∃b o,A=some ⟨b,o,none⟩)
theorem xy.ij{w:World}{B:Nat}{v:Value}{l:List (Int × Bt)}(h:xy w B v l)(hz:∀x∈l,zJ x.1):∃a c,v=.slice a l.length c∧kX w a l∧(∀b o,a=some ⟨b,o,none⟩→B≤b∧b<w.heap.size)∧qx1 a c l.length:=by
 obtain⟨a,c,rfl,h1,h2⟩:=h.qpK hz;rcases h.2 with⟨e1,e2⟩|⟨g,cap,cur,e1,e2,e3,e4,e5⟩
 ·simp only[Value.slice.injEq]at e1;obtain⟨rfl,e3,rfl⟩:=e1;exact⟨none,0,rfl,h1,h2,by omega,.inl ⟨rfl,rfl⟩⟩
 ·simp only[Value.slice.injEq]at e1;obtain⟨rfl,e3,rfl⟩:=e1;exact⟨_,_,rfl,h1,h2,e4,.inr ⟨g,0,rfl⟩⟩
def TxV (l:List Bt)(B:Nat)(v:Value)(w:World):Prop:=∃A cc,v=.slice A l.length cc∧TxL w A l∧∀b o,A=some ⟨b,o,none⟩→B≤b∧b<w.heap.size
theorem TxV.below{l:List Bt}{B:Nat}{v:Value}{w w':World}(h:TxV l B v w)(hb:Below w.heap.size w w'):TxV l B v w':=by
 obtain⟨A,cc,h1,h2,h3⟩:=h;exact⟨A,cc,h1,h2.below hb,fun b o e=>⟨(h3 b o e).1,Nat.lt_of_lt_of_le (h3 b o e).2 hb.size⟩⟩
def CgV (l:List (Int × Bt))(B:Nat)(v:Value)(w:World):Prop:=∃A cc,v=.slice A l.length cc∧kX w A l∧(∀b o,A=some ⟨b,o,none⟩→B≤b∧b<w.heap.size)∧qx1 A cc l.length
theorem CgV.below{l:List (Int × Bt)}{B:Nat}{v:Value}{w w':World}(h:CgV l B v w)(hb:Below w.heap.size w w'):CgV l B v w':=by
 obtain⟨A,cc,h1,h2,h3⟩:=h;exact⟨A,cc,h1,h2.below hb,fun b o e=>⟨(h3.1 b o e).1,Nat.lt_of_lt_of_le (h3.1 b o e).2 hb.size⟩,h3.2⟩
end Go.Proofs.YtdpbdkacngaemaaGreatDoor.ch.pg
namespace Go.Proofs.YtdpbdkacngaemaaGreatDoor.ch.pg
open _root_.Go.Proofs.Tryz Go Go.RowKit Go.Sort Go.Proofs.YtdpbdkacngaemaaGreatDoor.ib
end Go.Proofs.YtdpbdkacngaemaaGreatDoor.ch.pg
namespace Go.Proofs.YtdpbdkacngaemaaGreatDoor.ch
abbrev Is0:IsT:=pg.Is0
end Go.Proofs.YtdpbdkacngaemaaGreatDoor.ch
namespace Go.Proofs.YtdpbdkacngaemaaGreatDoor.vt
open _root_.Go.Proofs.Tryz Go Go.RowKit jr mt im sp
theorem qx2:ju pg.gI where
 tab:=fun h=>pg.qn0 h
 low:=fun h=>pg.sI h
 keep:=fun h hb hs=>pg.qjU h hb hs
 gds:=fun h=>pg.qn1 h
 pI:=fun b N room h cH hog h1 h8 hN fM hr=>pg.oF b N room h cH hog h1 h8 hN fM hr
 qeQ:=fun h cH hog hJ hf hR=>pg.qbD h cH hog hJ hf hR
 blocks:=fun h=>pg.qdV h
 list:=fun h=>pg.lf h
 token:=fun h=>pg.cU h
 read:=fun g h hJ hR _=>pg.qhr g h hJ hR
 stage:=fun f A c x h hJ hf hR hfb hx fG _=>pg.qh0 f A c x h hJ hf hR hfb hx fG
 qeR:=fun w=>pg.qb5 w
 qps:=fun w=>pg.qhq w
 qjT:=fun w=>pg.qec w
end Go.Proofs.YtdpbdkacngaemaaGreatDoor.vt
namespace Go.Proofs.YtdpbdkacngaemaaGreatDoor
open _root_.Go.Proofs.Tryz Go.RowKit
def cZs:List Int:=bA.map Int.ofNat
theorem qsz:(prog.globals[0]?).map (·.type)=some 310:=by kernel_rfl
theorem qo3:prog.cellsOf 310=16:=by kernel_rfl
theorem qs0:prog.cellsOf 244=1:=by kernel_rfl
theorem tG {W:World}{name:String}{rest:List (String × DataW Unit)}(h:laidMet prog ((name,Lib.tabData .u32 cZs)::rest) W)(cg:prog.globalNamed name=some 0):xK W:=by
 have hT:=Lib.tabIs_of_head cg qsz underlying310 underlying244 qs0 qo3 h;have hc:∀i,i<16→W.cell? ⟨0,i,none⟩=some (.int .u32 ((bA.getD i 0:Nat):Int)):=by
  intro i hi;have:=hT.cell cg i (by simpa[cZs,bA]using hi);rw[this];have:∀i:Nat,i<16→cZs.getD i 0=((bA.getD i 0:Nat):Int):=by decide
  rw[this i hi]
 exact⟨World.block_lt_of_cell? W _ (hc 0 (by omega)),hc⟩
noncomputable def r8 (os:Os):World :=
 { World.holding prog os ⟨#[],#[],[]⟩with heap:=(World.holding prog os ⟨#[],#[],[]⟩).heap.modify 0 fun
     | .cells _ t frozen=>.cells (cZs.map fun z=>Value.int .u32 z).toArray t frozen
     | o=>o }
def qx3:List Int:=[128,191,160,191,128,159,144,191,128,143]++List.replicate 22 0
noncomputable def vW (os:Os):World :=
 { r8 os with heap:=((r8 os).heap.modify 3 fun
     | .cells _ t frozen=>.cells (qx3.map fun z=>Value.int .u8 z).toArray t frozen
     | o=>o).modify 2 fun
     | .cells _ t frozen=>.cells (Go.Pinned.utf8FirstZ.map fun(z:Nat)=>Value.int .u8 (z:Int)).toArray t frozen
     | o=>o }
end Go.Proofs.YtdpbdkacngaemaaGreatDoor

/- VgTb6, VgStp, VgStA, VgCgs, PgMay, PgPut, PgFind, PgApi, PgHide, PgSnap, PgRoll, PgAdd, PgEq, PgChg, PgRead. -/
import Derived.Test.YtdpbdkacngaemaaGreatDoorZR9
import Derived.Stop.BytesEq
set_option linter.unusedVariables false
set_option linter.unusedSimpArgs false
set_option maxHeartbeats 30000000
set_option maxRecDepth 100000
namespace Go.Proofs.YtdpbdkacngaemaaGreatDoor.vt.pg
open _root_.Go.Proofs.Tryz Go Go.RowKit Go.Sort ib mt im sp
section
variable {b n:Nat} {last:Gd} {f:Tf} {x:List (Int × Bt)}
theorem qpf(h:f.base≠last):zO b n last f x=2:=by unfold zO;rw[if_pos (.inl h)]
theorem qkD(h:above f.target last=false):zO b n last f x=2:=by unfold zO;rw[if_pos (.inr (.inl h))]
theorem qpg(h:f.next<0):zO b n last f x=2:=by unfold zO;rw[if_pos (.inr (.inr (.inr (.inr (.inl h)))))]
theorem qph(h:f.all<f.next):zO b n last f x=2:=by unfold zO;rw[if_pos (.inr (.inr (.inr (.inr (.inr (.inl h))))))]
theorem qsK(h:(b:Int)<f.all):zO b n last f x=2:=by unfold zO;rw[if_pos (.inr (.inr (.inr (.inl h))))]
theorem qpi(h:¬ (f.next=0↔f.all=0)):zO b n last f x=2:=by unfold zO;rw[if_pos (.inr (.inr (.inr (.inr (.inr (.inr h))))))]
theorem qsL(h:xC b (-1) x=false):zO b n last f x=2:=by unfold zO;rw[if_pos h];split <;> rfl
theorem qpj(h1:f.base=last)(h2:above f.target last=true)(h3:¬ f.next<0)(h4:¬ f.all<f.next)(h5:¬ (b:Int)<f.all)(h6:f.next=0↔f.all=0)(h7:xC b (-1) x=true):zO b n last f x=if f.next=f.all then(if above f.target last=false then 2 else if 20≤n then 3 else 0)else 0:=by
 unfold zO;have h2':¬ above f.target last=false:=by rw[h2];simp
 rw[if_neg,if_neg (by rw[h7];simp),if_neg h2']
 ·by_cases e:f.next=f.all
  ·rw[if_pos e];by_cases e2:20≤n
   ·rw[if_pos ⟨e,e2⟩,if_pos e2]
   ·rw[if_neg (fun h=>e2 h.2),if_neg e2]
  ·rw[if_neg (fun h=>e h.1),if_neg e]
 ·rintro(h|h|h|h|h|h|h)
  ·exact h h1
  ·exact h2' h
  ·omega
  ·exact h5 h
  ·exact h3 h
  ·exact h4 h
  ·exact h h6
end
theorem qbK{w:World}{A0 A1 A2:Option Addr}{c0 c1 c2:Nat}{m:Mt}(hS:jN w A1 m.qc)(hsz:mtS m)(f:Tf)(A:Option Addr)(n c:Nat)(B:Option Addr)(cx:Nat)(x:List (Int × Bt))(hx:ch.kR w B x)(eH:x.length≤1000) :
    Calls prog 155 #[.agg (zJ A0 A1 A2 c0 c1 c2 m),.agg (vg f A n c),.slice B x.length cx] w (bT (zO m.live.length m.qc.length (qI m) f x) w):=by
 obtain⟨W1,hW1,zX,hb1⟩:=xZ w (zJ A0 A1 A2 c0 c1 c2 m);have hb2:=(Below.refl _ W1).alloc (Nat.le_refl _) (.cells (vg f A n c) 82);have hr2:=qd.new W1 82 (vg f A n c);obtain⟨W,hW2⟩:=QE (W1.alloc (.cells (vg f A n c) 82));rw[hW2]at hb2 hr2;have qC:=QH (qa hb1 hb2);have hk2:=zX.below hb2;have uR:=QH hk2;have jO:=QH hr2;have HS:=QH (hS.below qC.out);have HX:=QH (hx.below qC.out);have h20:=hsz.qc;have h8:=hsz.live;have q0:=hk2.cell 0;have q1:=hk2.cell 1;have q2:=hk2.cell 2;have q3:=hk2.cell 3;have q4:=hk2.cell 4;have q5:=hk2.cell 5;have q6:=hk2.cell 6;have q7:=hk2.cell 7;have q8:=hk2.cell 8;have qlt:=hk2.lt;simp only[zJ,vg,QA,QB,QC]at q0 q1 q2 q3 q4 q5 q6 q7 q8;have r0:=hr2.cell 0;have r1:=hr2.cell 1;have r2:=hr2.cell 2;have r3:=hr2.cell 3;have r4:=hr2.cell 4;have r5:=hr2.cell 5;have r6:=hr2.cell 6;have rlt:=hr2.lt;simp only[zJ,vg,QA,QB,QC]at r0 r1 r2 r3 r4 r5 r6;have e0:=fun d os=>cell_regrown q0 d os;have e1:=fun d os=>cell_regrown q1 d os;have e2:=fun d os=>cell_regrown q2 d os;have e3:=fun d os=>cell_regrown q3 d os;have e4:=fun d os=>cell_regrown q4 d os;have e5:=fun d os=>cell_regrown q5 d os;have e6:=fun d os=>cell_regrown q6 d os;have e7:=fun d os=>cell_regrown q7 d os;have e8:=fun d os=>cell_regrown q8 d os;have p0:=fun d os=>cell_regrown r0 d os;have p1:=fun d os=>cell_regrown r1 d os;have cL:∀b os,Calls prog 227 #[.agg (zJ A0 A1 A2 c0 c1 c2 m)] (grow (redrawn W b) os) fun e w''=>e=.returned (gv (qI m))∧∃q:Regrown,w''=grow (redrawn W q.d) q.os :=
  fun b os=>Calls.regrown_of (qaf (HS.out.below (below_regrown W b os)) h20)
 have EB:=QH (fun h=>qpf (b:=m.live.length) (n:=m.qc.length) (last:=qI m) (f:=f) (x:=x) h);have EA:=QH (fun h=>qkD (b:=m.live.length) (n:=m.qc.length) (last:=qI m) (f:=f) (x:=x) h);have EN:=QH (fun h=>qpg (b:=m.live.length) (n:=m.qc.length) (last:=qI m) (f:=f) (x:=x) h);have EO:=QH (fun h=>qph (b:=m.live.length) (n:=m.qc.length) (last:=qI m) (f:=f) (x:=x) h);have EL:=QH (fun h=>qsK (b:=m.live.length) (n:=m.qc.length) (last:=qI m) (f:=f) (x:=x) h);have EZ:=QH (fun h=>qpi (b:=m.live.length) (n:=m.qc.length) (last:=qI m) (f:=f) (x:=x) h);have EC:=QH (fun h=>qsL (b:=m.live.length) (n:=m.qc.length) (last:=qI m) (f:=f) (x:=x) h);have EG:=QH (fun h1 h2 h3 h4 h5 h6 h7=>qpj (b:=m.live.length) (n:=m.qc.length) (last:=qI m) (f:=f) (x:=x) h1 h2 h3 h4 h5 h6 h7);have HCA:Hid (∀W',Calls prog 228 #[gv f.target,gv f.base] W' (uE (above f.target f.base) W')):=fun W'=>p9 f.target f.base W';have dv:Hid (∀W',ch.kR W' B x→Calls prog 61 #[.agg (zJ A0 A1 A2 c0 c1 c2 m),.slice B x.length cx] W' (uE (xC m.live.length (-1) x) W')):=fun W' h=>l9 h8 h eH;have HCM:Hid (∀W',jN W' A1 m.qc→Calls prog 229 #[.agg (zJ A0 A1 A2 c0 c1 c2 m),gv f.target] W' (bT (if above f.target (qI m)=false then 2 else if 20≤m.qc.length then 3 else 0) W')):=fun W' h=>qgH h h20 f.target;obtain⟨Z,hZ⟩:=QE (if above f.target (qI m)=false then(2:Int)else if 20≤m.qc.length then 3 else 0);rw[hZ]at HCM EG;clear hZ;obtain⟨R,hR⟩:=QE (zO m.live.length m.qc.length (qI m) f x);obtain⟨q,hq⟩:=QE (xC m.live.length (-1) x);rw[hR]at EB EA EN EO EL EZ EC EG ⊢;rw[hq]at dv EC EG;clear hR hq;obtain⟨⟨ba,bb⟩,⟨ta,tb⟩,nx,al⟩:=f;obtain⟨L,hL⟩:=QE (qI m);rw[hL]at cL EB EA EG;obtain⟨la,lb⟩:=L;clear hS zX hb1 hb2 hr2 hk2 hL hx;dsimp only[vg,gv]at *;unfold zJ at *;go_enter func155,ntmps155;go_upto_region 1 with fail;try rw[hW1]
 try rw[hW2]
 clear hW1 hW2;have qxj:((ba:Int)=la∧(bb:Int)=lb∧(ba,bb)=(la,lb))∨((¬ (ba:Int)=la∨((ba:Int)=la∧¬ (bb:Int)=lb))∧R=2):=by
  by_cases e1:ba=la
  ·by_cases e2:bb=lb
   ·exact .inl ⟨by rw[e1],by rw[e2],by rw[e1,e2]⟩
   ·exact .inr ⟨.inr ⟨by rw[e1],by omega⟩,EB.out (fun h=>e2 (Prod.mk.inj h).2)⟩
  ·exact .inr ⟨.inl (by omega),EB.out (fun h=>e1 (Prod.mk.inj h).1)⟩
 have FIN:Hid (∀dq osq,Below w.heap.size w (grow (redrawn W dq) osq)):=fun dq osq=>qa qC.out (below_regrown W dq osq);rcases qxj with⟨hba,hbb,hbe⟩|⟨hno,hr⟩
 case' inr =>
  have HR:=QH hr;clear hr;rcases hno with hn1|⟨hn1,hn2⟩;all_goals
   refine wp_region_quiet_below vU (by kernel_rfl) ?_;repeat (any_goals (first|go_big_quiet_step (first|exact cL _ _)|quiet_step (first|exact cL _ _)))
   refine wpQuiet_nil ?_;intro _ hw';obtain⟨⟨dq,osq⟩,hw''⟩:=hw';subst hw'';have zB:=QH (FIN.out dq osq);clear cL e0 e1 e2 e3 e4 e5 e6 e7 e8 p0 p1;go_wp2_with fail;go_ret;exact⟨by rw[HR.out];rfl,zB.out⟩
 have bH:=QH hbe;clear hbe;refine wp_region_quiet_below vU (by kernel_rfl) ?_;repeat (any_goals (first|go_big_quiet_step (first|exact cL _ _)|quiet_step (first|exact cL _ _)))
 refine wpQuiet_nil ?_;intro _ hw';obtain⟨⟨dq,osq⟩,hw''⟩:=hw';subst hw'';have hbg:=below_regrown W dq osq;have zB:=QH (FIN.out dq osq);have su:=QH (uR.out.below hbg);have iD:=QH (jO.out.below hbg);have mO:=QH (HS.out.below hbg);have HX3:=QH (HX.out.below hbg);clear hbg cL e0 e1 e2 e3 e4 e5 e6 e7 e8 p0 p1 qlt rlt q0 q1 q2 q3 q4 q5 q6 q7 q8 r0 r1 r2 r3 r4 r5 r6 hba hbb qC uR jO HS HX FIN;generalize grow (redrawn W dq) osq=W3 at *;have hr3:=iD.out;have r0:=hr3.cell 0;have r1:=hr3.cell 1;have r2:=hr3.cell 2;have r3:=hr3.cell 3;have r4:=hr3.cell 4;have r5:=hr3.cell 5;have r6:=hr3.cell 6;have rlt:=hr3.lt;simp only[Nat.zero_add,QA,QB,QC]at r0 r1 r2 r3 r4 r5 r6;clear hr3;go_wp2_with fail;refine(HCA.out _).mono ?_;rintro e W4 ⟨rfl,hb4⟩;have zT:=QH (qa zB.out hb4);have tG:=QH (su.out.below hb4);have n4:=QH (iD.out.below hb4);have mQ:=QH (mO.out.below hb4);have HX4:=QH (HX3.out.below hb4);clear hb4 HCA zB su iD mO HX3 rlt r0 r1 r2 r3 r4 r5 r6;have hbe:=bH.out;obtain⟨ab,hab⟩:=QE (above (ta,tb) (ba,bb));have HAB:Hid (above (ta,tb) (la,lb)=ab):=by unfold Hid;rw[← hbe];exact hab
 rw[hab];clear hab hbe;have hr4:=n4.out;have hk4:=tG.out;have r0:=hr4.cell 0;have r1:=hr4.cell 1;have r2:=hr4.cell 2;have r3:=hr4.cell 3;have r4:=hr4.cell 4;have r5:=hr4.cell 5;have r6:=hr4.cell 6;have rlt:=hr4.lt;simp only[Nat.zero_add,QA,QB,QC]at r0 r1 r2 r3 r4 r5 r6;have q0:=hk4.cell 0;have q1:=hk4.cell 1;have q2:=hk4.cell 2;have q3:=hk4.cell 3;have q4:=hk4.cell 4;have q5:=hk4.cell 5;have q6:=hk4.cell 6;have q7:=hk4.cell 7;have q8:=hk4.cell 8;have qlt:=hk4.lt;simp only[Nat.zero_add,QA,QB,QC]at q0 q1 q2 q3 q4 q5 q6 q7 q8;clear hr4 hk4;cases ab
 case' false =>
  have HR:=QH (EA.out HAB.out);go_wp2_with fail;go_ret;exact⟨by rw[HR.out];rfl,zT.out⟩
 by_cases h3:nx<0
 case' pos =>
  have HR:=QH (EN.out h3);go_wp2_with fail;go_ret;exact⟨by rw[HR.out];rfl,zT.out⟩
 by_cases h4:al<nx
 case' pos =>
  have HR:=QH (EO.out h4);go_wp2_with fail;go_ret;exact⟨by rw[HR.out];rfl,zT.out⟩
 by_cases h5:(m.live.length:Int)<al
 case' pos =>
  have HR:=QH (EL.out h5);go_wp2_with fail;go_ret;exact⟨by rw[HR.out];rfl,zT.out⟩
 obtain⟨z1,hz1⟩:=QE (nx == 0);obtain⟨z2,hz2⟩:=QE (al == 0);have HZ:Hid ((nx=0↔al=0)↔z1=z2):=by
  unfold Hid;rw[← hz1,← hz2,Bool.eq_iff_iff];simp
 have HZ0:Hid (¬ (z1=z2)→R=2):=fun h=>EZ.out (fun e=>h (HZ.out.1 e));have HG:Hid (z1=z2→q=true→R=if nx=al then Z else 0):=fun h h7=>EG.out bH.out HAB.out (by omega) (by omega) (by omega) (HZ.out.2 h) h7;clear HZ;cases z1 <;> cases z2
 case' false.true =>
  have HR:=QH (HZ0.out (by decide));go_wp2_with fail;go_ret;exact⟨by rw[HR.out];rfl,zT.out⟩
 case' true.false =>
  have HR:=QH (HZ0.out (by decide));go_wp2_with fail;go_ret;exact⟨by rw[HR.out];rfl,zT.out⟩
 all_goals
  have HG2:=QH (HG.out rfl);clear HG HZ0;go_wp2_with fail;refine(dv.out _ HX4.out).mono ?_;rintro e W5 ⟨rfl,hb5⟩;have jJ:=QH (qa zT.out hb5);have aT:=n4.out.below hb5;have hk5:=tG.out.below hb5;have mA:=QH (mQ.out.below hb5);clear hb5 r0 r1 r2 r3 r4 r5 r6 rlt q0 q1 q2 q3 q4 q5 q6 q7 q8 qlt;have r0:=aT.cell 0;have r1:=aT.cell 1;have r2:=aT.cell 2;have r3:=aT.cell 3;have r4:=aT.cell 4;have r5:=aT.cell 5;have r6:=aT.cell 6;have rlt:=aT.lt;simp only[Nat.zero_add,QA,QB,QC]at r0 r1 r2 r3 r4 r5 r6;have q0:=hk5.cell 0;have q1:=hk5.cell 1;have q2:=hk5.cell 2;have q3:=hk5.cell 3;have q4:=hk5.cell 4;have q5:=hk5.cell 5;have q6:=hk5.cell 6;have q7:=hk5.cell 7;have q8:=hk5.cell 8;have qlt:=hk5.lt;simp only[Nat.zero_add,QA,QB,QC]at q0 q1 q2 q3 q4 q5 q6 q7 q8;clear aT hk5;cases q
  case' false =>
   have HR:=QH (EC.out rfl);go_wp2_with fail;go_ret;exact⟨by rw[HR.out];rfl,jJ.out⟩
  have HG3:=QH (HG2.out rfl);by_cases h6:nx=al
  case' neg =>
   have HR:Hid (R=0):=by unfold Hid;rw[HG3.out,if_neg h6]
   go_wp2_with fail;all_goals go_ret
   all_goals exact⟨by rw[HR.out];rfl,jJ.out⟩
  have HR:Hid (R=Z):=by unfold Hid;rw[HG3.out,if_pos h6]
  have hnx:(nx == al)=true:=by rw[h6];simp
  go_wp2_with fail;refine(HCM.out _ mA.out).mono ?_;rintro e W6 ⟨rfl,dz⟩;have dQ:=QH (qa jJ.out dz);clear dz r0 r1 r2 r3 r4 r5 r6 rlt q0 q1 q2 q3 q4 q5 q6 q7 q8 qlt;go_wp2_with fail;go_ret;exact⟨by rw[HR.out];rfl,dQ.out⟩
end Go.Proofs.YtdpbdkacngaemaaGreatDoor.vt.pg
namespace Go.Proofs.YtdpbdkacngaemaaGreatDoor.vt.pg
open _root_.Go.Proofs.Tryz Go Go.RowKit Go.Sort ib mt im sp
theorem qpk{b N:Nat}{m:Mt}{f:Tf}(h:jK b N m)(e2:mt.above f.target (qI m)=true):jT b N (zP m f):=by
 unfold zP;split
 ·rename_i hm;rcases h.tok with ht|ht
  ·exfalso;rw[ht]at hm;have:f.target=(0,0):=hm.2.1.symm;rw[this]at e2;unfold mt.above at e2;simp at e2
  ·exact ht.2.2.2.2.2
 ·exact qdg h
def s1M (m:Mt)(f:Tf)(l:List Int):Mt:=q2q m f.target l
def s2M (m:Mt)(f:Tf)(l:List Int):Mt:={ s1M m f l with live:=l }
def s3M (m:Mt)(f:Tf)(l:List Int):Mt:={ s2M m f l with tok:=yB }
def qpl (f:Tf)(l:List Int):Tk:=⟨f.base,f.target,f.next,f.all,l⟩
theorem qeb{b N:Nat}{t:Tg}{m:Mt}(h:xK b N t m)(f:Tf)(x:List (Int × Bt)) :
    (zO m.live.length m.qc.length (qI m) f x≠0∧xp N m f x=⟨zO m.live.length m.qc.length (qI m) f x,m,[]⟩) ∨
    (zO m.live.length m.qc.length (qI m) f x=0∧xC m.live.length (-1) x=true∧x.length≤8∧jT b N (zP m f)∧f.next≤f.all ∧
     (((qU N m x).2≠0∧xp N m f x=⟨(qU N m x).2,m,[]⟩) ∨
      ((qU N m x).2=0∧((f.next=f.all∧xp N m f x=⟨0,s3M m f (xm (zP m f) x (qU N m x).1.1),(qU N m x).1.2⟩) ∨
       (f.next≠f.all∧xp N m f x=⟨0,{ m with tok:=qpl f (xm (zP m f) x (qU N m x).1.1) },(qU N m x).1.2⟩))))):=by
 by_cases he:zO m.live.length m.qc.length (qI m) f x=0
 ·right
  obtain⟨e1,e2,e3,e4,e5,e6,e7,e8⟩:=oT he;have hlen:=h.ok.len;have hb1:=h.ok.b1;have hb8:=h.ok.b8;refine⟨he,e7,?_,qpk h.ok e2,by omega,?_⟩
  ·have:=iQ e7 (by omega) (by omega);omega
  ·unfold xp;rw[if_neg (by rw[he];simp)];by_cases h0:(qU N m x).2=0
   ·rw[if_neg (by rw[h0];simp)];refine .inr ⟨h0,?_⟩;by_cases hn:f.next=f.all
    ·rw[if_pos hn];exact .inl ⟨hn,rfl⟩
    ·rw[if_neg hn];exact .inr ⟨hn,rfl⟩
   ·rw[if_pos h0];exact .inl ⟨h0,rfl⟩
 ·left
  unfold xp;rw[if_pos he];exact⟨he,rfl⟩
theorem qpm{b N:Nat}{t:Tg}{m:Mt}(h:xK b N t m)(f:Tf)(hg:xF f.target)(x:List (Int × Bt))(h0:(xp N m f x).code=0):jK b N (xp N m f x).m∧tY N m (xp N m f x).ws:=by
 rcases cD h f hg x with⟨h7,_⟩|⟨_,hd⟩
 ·rw[h0]at h7;cases h7
 ·have hs:=hd h0;by_cases hn:f.next=f.all
  ·exact⟨(hs.whole hn).1.ok,(hs.whole hn).1.ws⟩
  ·exact⟨(hs.part hn).1.ok,(hs.part hn).1.ws⟩
theorem OPl.new{w:World}{B:Nat}{v:Value}{l:List Pl}(h:OPl w B v l):∀a n c,v=.slice a n c→∀b o s,a=some ⟨b,o,s⟩→B≤b:=by
 intro a n c hv b o s ha;rcases h.2 with⟨rfl,h0⟩|⟨g,cap,cur,rfl,hg,hh,hcc,hm,hcs,xg⟩
 ·cases hv;cases ha
 ·cases hv;cases ha;exact hg
theorem PlL.set{w:World}{A:Option Addr}{l:List Pl}(h:PlL w A l){g k:Nat}{u:Value}(hg:∀b o s,A=some ⟨b,o,s⟩→b≠g):PlL (w.setCell ⟨g,k,none⟩ u) A l:=by
 intro i hi;obtain⟨b,o,h1,h2,h3,h4,h5⟩:=h i hi;have hn:=hg b o none h1;have hb:(w.setCell ⟨g,k,none⟩ u).heap[b]?=w.heap[b]? :=qy _ _ _ _ _ hn;exact⟨b,o,h1,by simpa[World.setCell]using h2,(World.cell?_of_block (w:=w) (a:=⟨b,o+i*3,none⟩) hb).trans h3,(World.cell?_of_block (w:=w) (a:=⟨b,o+i*3+1,none⟩) hb).trans h4,(World.cell?_of_block (w:=w) (a:=⟨b,o+i*3+2,none⟩) hb).trans h5⟩
def qsM (G:Nat→Prop)(p tb:Nat)(T F:Array Value)(src qu:List Int)(PV:Value):Nat→Value→World→Prop:=fun i v w=>match i with
 | 3=>v=.agg T
 | 4=>v=.agg F
 | 5=>∃A c,v=.slice A src.length c∧bw G w A src c
 | 6=>v=PV
 | 7=>∃A c,v=.slice A qu.length c∧bw G w A qu c
 | 8=>v=.pointer (some ⟨tb,6,none⟩)
 | _=>v=pt p
theorem qkE(G:Nat→Prop)(p tb:Nat)(T F:Array Value)(src qu:List Int)(PV:Value):∀i v w w',i<9→qsM G p tb T F src qu PV i v w→Below w.heap.size w w'→qsM G p tb T F src qu PV i v w':=by
 intro i v w w' hi h hb;rcases i with _|_|_|_|_|_|_|_|_|i;all_goals (first|omega|skip)
 all_goals unfold qsM at h ⊢
 all_goals try dsimp only at h ⊢
 all_goals first
  | exact h
  | (obtain⟨A,c,h1,h2⟩:=h
     exact⟨A,c,h1,h2.stay (wI.of_below hb)⟩)
def qsN (G:Nat→Prop)(p tb:Nat)(PV IV:Value)(m:Mt)(f:Tf)(qu:List Int):Nat→Value→World→Prop:=fun i v w=>match i with
 | 1=>v=PV
 | 2=>v=.pointer (some ⟨tb,2,none⟩)
 | 3=>v=.agg #[.int .u64 (f.target.1:Int),.int .u64 (f.target.2:Int)]
 | 4 | 7=>v=.pointer (some ⟨tb,6,none⟩)
 | 5 | 8=>v=IV
 | 6=>EfV G v w m (s1M m f qu)
 | 9=>EfV G v w (s1M m f qu) (s2M m f qu)
 | 10=>v=.agg (r9 yB none 0 0)
 | 11=>EfV G v w (s2M m f qu) (s3M m f qu)
 | 12=>∃B f1 f2 f3,v=.slice (some ⟨B,0,none⟩) 3 3∧qd w B 129 #[f1,f2,f3]∧EfV G f1 w m (s1M m f qu)∧EfV G f2 w (s1M m f qu) (s2M m f qu)∧EfV G f3 w (s2M m f qu) (s3M m f qu)
 | _=>v=pt p
theorem qkF(G:Nat→Prop)(p tb:Nat)(PV IV:Value)(m:Mt)(f:Tf)(qu:List Int):∀i v w w',i<13→qsN G p tb PV IV m f qu i v w→Below w.heap.size w w'→qsN G p tb PV IV m f qu i v w':=by
 intro i v w w' hi h hb;rcases i with _|_|_|_|_|_|_|_|_|_|_|_|_|i;all_goals (first|omega|skip)
 all_goals unfold qsN at h ⊢
 all_goals try dsimp only at h ⊢
 all_goals first
  | exact h
  | exact h.below hb
  | (obtain⟨B,f1,f2,f3,h1,h2,h3,h4,h5⟩:=h
     exact⟨B,f1,f2,f3,h1,h2.below hb,h3.below hb,h4.below hb,h5.below hb⟩)
theorem qkG{o1 o2:Nat→Prop}{w:World}{v pd N b:Nat}{d:DD}{m:Mt}{t:Tg}(f:Tf)(A:Option Addr)(c:Nat)(x:List (Int × Bt))(h:VP ak w o1 o2 v pd d m false)(hJ:jr.JJ N t d)(hf:0≤d.qz)(hR:xK b N t m)(hfb:TfB f)(hx:ch.kR w A x)(eH:x.length≤1000) :
    Calls prog 84 #[pt v,tkV f none 0 0,.slice A x.length c] w (qbk ak o1 o2 v pd (qj9 N t d m (xp N m f x)) w):=by
 have HDO:=QH (qpm hR f hfb.target x);have HFB:=QH hfb;have nH:=QH h;have hb2:=(Below.refl _ w).alloc (Nat.le_refl _) (.cells (vg f none 0 0) 82);have hr2:=qd.new w 82 (vg f none 0 0);obtain⟨W,hW2⟩:=QE (w.alloc (.cells (vg f none 0 0) 82));rw[hW2]at hb2 hr2;have h2:=ze h hb2;obtain⟨A0,A1,A2,c0,c1,c2,hA⟩:=h2.is;have HA:=QH hA;have HJ:=QH hJ;have HR:=QH hR;have HFU:=QH hf;have qC:=QH hb2;have jO:=QH hr2;have HX2:=QH (hx.below hb2);have dy:=QH (qdA h2 hJ.on);have tK:=QH hA.sz;have HXL:=QH eH;obtain⟨klt,k0,k1,k2,k3,k4,k5,k6,k7,k8,k9,cT⟩:=hA.cells;have r0:=hr2.cell 0;have r1:=hr2.cell 1;have r2:=hr2.cell 2;have r3:=hr2.cell 3;have r4:=hr2.cell 4;have r5:=hr2.cell 5;have r6:=hr2.cell 6;have rlt:=hr2.lt;simp only[vg,Nat.zero_add,QA,QB,QC]at r0 r1 r2 r3 r4 r5 r6;have e0:=fun d os=>cell_regrown k0 d os;have e1:=fun d os=>cell_regrown k1 d os;have e2:=fun d os=>cell_regrown k2 d os;have e3:=fun d os=>cell_regrown k3 d os;have e4:=fun d os=>cell_regrown k4 d os;have e5:=fun d os=>cell_regrown k5 d os;have e6:=fun d os=>cell_regrown k6 d os;have e7:=fun d os=>cell_regrown k7 d os;have e8:=fun d os=>cell_regrown k8 d os;have p0:=fun d os=>cell_regrown r0 d os;have p1:=fun d os=>cell_regrown r1 d os;have p2:=fun d os=>cell_regrown r2 d os;have p3:=fun d os=>cell_regrown r3 d os;have p4:=fun d os=>cell_regrown r4 d os;have p5:=fun d os=>cell_regrown r5 d os;have p6:=fun d os=>cell_regrown r6 d os;have cF:∀b os,Calls prog 155 #[.agg (zJ A0 A1 A2 c0 c1 c2 m),.agg (vg f none 0 0),.slice A x.length c] (grow (redrawn W b) os) fun e w''=>e=.returned (.int .i64 (zO m.live.length m.qc.length (qI m) f x))∧∃q:Regrown,w''=grow (redrawn W q.d) q.os :=
  fun b os=>Calls.regrown_of (qbK (HA.out.below (below_regrown W b os)).tab.mt.qc tK.out f none 0 0 A c x (HX2.out.below (below_regrown W b os)) HXL.out)
 have HFC:=QH (qeb hR f x);obtain⟨PN,hPN⟩:=QE (xp N m f x);obtain⟨F,hF⟩:=QE (zO m.live.length m.qc.length (qI m) f x);rw[hF,hPN]at HFC;rw[hPN]at HDO;rw[hF]at cF;rw[hPN];obtain⟨n,hn⟩:=QE x.length;rw[hn]at cF ⊢;have HN:=QH hn;clear h h2 hJ hR hA hb2 hr2 hPN hF hf hfb hx hn eH;unfold zJ vg at cF;try dsimp only at cF
 unfold tkV;unfold vg at hW2;go_enter func84,ntmps84;go_upto_region 1 with fail;try rw[hW2]
 clear hW2;go_wp2_with fail;refine dy.out.mono ?_;rintro e W1 ⟨rfl,rfl⟩;clear dy;go_upto_region 4 with fail;refine wp_region_quiet_below vU (by kernel_rfl) ?_;repeat (any_goals (first|go_big_quiet_step (first|exact cF _ _)|quiet_step (first|exact cF _ _)))
 refine wpQuiet_nil ?_;intro _ hw';obtain⟨⟨dq,osq⟩,hw''⟩:=hw';subst hw'';have hb:=below_regrown W dq osq;have zB:=QH (qa qC.out hb);have lD:=QH (HA.out.below hb);have iD:=QH (jO.out.below hb);have HX3:=QH (HX2.out.below hb);clear hb e0 e1 e2 e3 e4 e5 e6 e7 e8 p0 p1 p2 p3 p4 p5 p6 cF HA qC jO HX2 klt k0 k1 k2 k3 k4 k5 k6 k7 k8 k9 cT r0 r1 r2 r3 r4 r5 r6 rlt;generalize grow (redrawn W dq) osq=W3 at *;rcases HFC.out with⟨hc,hpn⟩|⟨rfl,hck,hx8,hso,hle,fC⟩
 ·have hcb:(F != 0)=true:=by simpa using hc
  have HPN:=QH hpn;have HC:=QH hc;clear hc hpn HFC;go_wp2_with fail;go_ret;rw[HPN.out];exact qdR (ze nH.out zB.out) zB.out (qdS HC.out)
 ·have qxl:=qgL (c:=c) (ze nH.out zB.out) HJ.out.rb.1 HR.out.ok HR.out.N1 HX3.out hx8 (fun y hy=>(wG hck y hy).1);rw[HN.out]at qxl;have q2r:=QH qxl;have HCK:=QH hck;have HX8:=QH hx8;have HSO:=QH hso;have HLE:=QH hle;have qip:=QH fC;have hce:((0:Int) != 0)=false:=rfl;clear HFC hck hx8 hso hle fC qxl;go_wp2_with fail;refine q2r.out.mono ?_;rintro e W4 ⟨hb4,qoo⟩;have zT:=QH (qa zB.out hb4);have my:=QH (lD.out.below hb4);have n4:=QH (iD.out.below hb4);have zel:=QH hb4.size;clear hb4 q2r;rcases qoo with⟨hne,rfl⟩|⟨h0,pv,rfl,hop⟩
  ·have hcb:((qU N m x).2 != 0)=true:=by simpa using hne
   have HPE:Hid (PN=⟨(qU N m x).2,m,[]⟩):=by
    unfold Hid;rcases qip.out with⟨_,h⟩|⟨h,_⟩
    ·exact h
    ·exact absurd h hne
   have tH:=QH hne;clear qip hne;generalize (qU N m x).2=pc at *;go_wp2_with fail;go_ret;rw[HPE.out];exact qdR (ze nH.out zT.out) zT.out (qdS tH.out)
  ·have hpw:=qgM HR.out.ok HR.out.N1 h0;have hpl:oK N m x (qU N m x).1.1 (qU N m x).1.2:=by
    rcases kN HR.out.ok HR.out.N1 x HX8.out (fun c hc=>(wG HCK.out c hc).1)with⟨h7,_⟩|⟨_,hp⟩
    ·rw[h7]at h0;cases h0
    ·exact hp
   have fC:(f.next=f.all∧PN=⟨0,s3M m f (xm (zP m f) x (qU N m x).1.1),(qU N m x).1.2⟩)∨(f.next≠f.all∧PN=⟨0,{ m with tok:=qpl f (xm (zP m f) x (qU N m x).1.1) },(qU N m x).1.2⟩):=by
    rcases qip.out with⟨h,_⟩|⟨_,h⟩
    ·exact absurd h0 h
    ·exact h
   have qpn:=q2c hpl HR.out.N1 HCK.out;have qxm:=qxc hpl.len;obtain⟨BA,bc,hpv,hPL⟩:=hop.view;have hnew:=hop.new _ _ _ hpv;have hsp:=qij x (qU N m x).1.1 (zP m f);generalize (qU N m x).1.1=at_ at *;generalize (qU N m x).1.2=ws at *;have dx:(zP m f).length=b:=HSO.out.1;have hml:m.live.length=b:=HR.out.ok.len;have gP:(xm (zP m f) x at_).length=b:=by rw[oM];exact dx
   have HPW:=QH hpw;have HPL:=QH hPL;have qxn:=QH qxm;have qc4:=QH hnew;have na:=QH fC;have ig:=QH dx;have qpo:Hid (∀W A c,bw (fun j=>(o1 j∧j≠v)∨w.heap.size<j) W A (zP m f) c→Below W4.heap.size W4 W→Calls prog 65 #[.slice A (zP m f).length c,.slice BA (PL x at_).length bc] W (qjF (fun j=>(o1 j∧j≠v)∨w.heap.size<j) (xm (zP m f) x at_) W)):=fun W A c hs hb=>by
    have:=kA hs (by rw[dx];exact HR.out.ok.b1) (by rw[dx];have:=HR.out.ok.b8;omega) (hPL.below hb) (cb:=bc) (by rw[dx];rw[hml]at qpn;exact qpn) (by rw[qxm];have:=HX8.out;omega) (fun j hj=>.inr (by
     have h1:=n4.out.lt;have h2:=hb.size;omega))
    rw[hsp]at this;exact this
   obtain⟨pn,hpn⟩:=QE ((PL x at_).length);rw[hpn]at hpv qpo;have HPN:=QH hpn;subst hpv;obtain⟨qu,qj7⟩:=QE (xm (zP m f) x at_);rw[qj7]at qpo na gP;have HIL:=QH gP;obtain⟨P,hP⟩:=QE (PL x at_);rw[hP]at HPW HPL qxn HPN;obtain⟨src,oU⟩:=QE (zP m f);have q7b:=QH oU;rw[oU]at qpo ig;clear h0 hpw hpl fC qpn qxm hPL hsp dx hml gP hop hnew qip hpn qj7 hP oU;go_wp2_with fail;refine qV (by kernel_rfl) 9 [35,36,37,38,39,40,41,42,43] (by kernel_rfl) (qsM (fun j=>(o1 j∧j≠v)∨w.heap.size<j) v w.heap.size (zJ A0 A1 A2 c0 c1 c2 m) (vg f none 0 0) src qu (.slice BA pn bc)) (qkE _ _ _ _ _ _ _ _) ?_ ?_
   ·intro i o vs ρ W hi hop hρ hfn hb hG;have t0:ρ (.tmp 0)=pt v:=hρ.out 0 rfl;have t4:ρ (.tmp 4)=pt w.heap.size:=hρ.out 4 rfl;have t9:ρ (.tmp 9)=.slice BA pn bc:=hρ.out 9 rfl;have s35:=hρ.at_ 35 0 rfl;have s36:=hρ.at_ 36 1 rfl;have s37:=hρ.at_ 37 2 rfl;have s38:=hρ.at_ 38 3 rfl;have s39:=hρ.at_ 39 4 rfl;have s40:=hρ.at_ 40 5 rfl;have s41:=hρ.at_ 41 6 rfl;have hAW:=my.out.below hb;obtain⟨klt,k0,k1,k2,k3,k4,k5,k6,k7,k8,k9,cT⟩:=hAW.cells;have hr:=n4.out.below hb;have r0:=hr.cell 0;have r1:=hr.cell 1;have r2:=hr.cell 2;have r3:=hr.cell 3;have r4:=hr.cell 4;have r5:=hr.cell 5;have r6:=hr.cell 6;have rlt:=hr.lt;simp only[vg,QA,QB,QC]at r0 r1 r2 r3 r4 r5 r6;rcases i with _|_|_|_|_|_|_|_|_|i;all_goals (first|omega|skip)
    all_goals simp only[QA,QB,QC,Option.some.injEq]at hop
    all_goals subst hop
    ·exact q9 (w':=W) (by unfold execOp;simp only[t0];go_simp) ⟨Below.refl _ _,rfl⟩
    ·have g0:vs 0=_:=hG 0 (by kernel_rfl);exact q9 (w':=W) (by unfold execOp;simp only[s35,g0];go_simp) ⟨Below.refl _ _,rfl⟩
    ·have g1:vs 1=_:=hG 1 (by kernel_rfl);exact q9 (w':=W) (by unfold execOp;simp only[s36,g1];go_simp) ⟨Below.refl _ _,rfl⟩
    ·have g2:vs 2=_:=hG 2 (by kernel_rfl);exact q9 (w':=W) (by unfold zJ execOp;simp only[s37,g2];go_simp) ⟨Below.refl _ _,rfl⟩
    ·exact q9 (w':=W) (by unfold vg execOp;simp only[t4];go_simp) ⟨Below.refl _ _,rfl⟩
    ·have g3:vs 3=_:=hG 3 (by kernel_rfl);have g4:vs 4=_:=hG 4 (by kernel_rfl);refine qj (f:=156) (args:=#[.agg (zJ A0 A1 A2 c0 c1 c2 m),.agg (vg f none 0 0)]) (w':=W) (by unfold execOp;simp only[hfn,s38,g3,s39,g4];go_simp) ((qgF (G:=fun j=>(o1 j∧j≠v)∨w.heap.size<j) (hAW.tab.mono (fun j hj=>.inl hj)) hAW.sz (fun j hj=>.inr (by omega)) f none 0 0).mono ?_);rintro e W' ⟨A,c,rfl,dx,hb5⟩;rw[q7b.out]at dx ⊢;exact⟨_,rfl,hb5,A,c,rfl,dx⟩
    ·exact q9 (w':=W) (by unfold execOp;simp only[t9];go_simp) ⟨Below.refl _ _,rfl⟩
    ·obtain⟨A,c,g5,dx⟩:=hG 5 (by kernel_rfl);have g6:vs 6=_:=hG 6 (by kernel_rfl);have hp:=qpo.out W A c;refine qj (f:=65) (args:=#[.slice A src.length c,.slice BA pn bc]) (w':=W) (by unfold execOp;simp only[hfn,s40,g5,s41,g6];go_simp) ((hp dx hb).mono ?_);rintro e W' ⟨A,c,rfl,dx,hb5⟩;exact⟨_,rfl,hb5,A,c,rfl,dx⟩
    ·exact q9 (w':=W) (by unfold execOp;simp only[t4];go_simp) ⟨Below.refl _ _,rfl⟩
   ·intro vs W hb hG;have g0:vs 0=_:=hG 0 (by decide);have g3:vs 3=_:=hG 3 (by decide);have g8:vs 8=_:=hG 8 (by decide);obtain⟨AL,cL,g7,dx⟩:=hG 7 (by decide);have hr:=n4.out.below hb;have f6:=hr.frozen 6;have r6:=hr.cell 6;have rlt:=hr.lt;simp only[vg,QA,QB,QC]at r6;have jJ:Hid (Below w.heap.size w (W.setCell ⟨w.heap.size,6,none⟩ (.slice AL qu.length cL))):=(qa zT.out hb).setCell (p:=⟨w.heap.size,6,none⟩) (Nat.le_refl _) _;have nO:Hid (qd (W.setCell ⟨w.heap.size,6,none⟩ (.slice AL qu.length cL)) w.heap.size 82 (vg f AL qu.length cL)):=by
     have:=hr.qo 6 (.slice AL qu.length cL);simpa[Hid,vg]using this
    have mA:Hid (bw (fun j=>(o1 j∧j≠v)∨w.heap.size≤j) (W.setCell ⟨w.heap.size,6,none⟩ (.slice AL qu.length cL)) AL qu cL) :=
     (dx.stay (ar (fun j hj=>by
      rcases hj with hj|hj
      ·have:=qoY nH.out j (.inl hj.1);omega
      ·omega))).mono (fun j hj=>by
      rcases hj with hj|hj
      ·exact .inl hj
      ·exact .inr (by omega))
    have HP5:Hid (PlL (W.setCell ⟨w.heap.size,6,none⟩ (.slice AL qu.length cL)) BA P):=(HPL.out.below hb).set (fun b o s e=>by
     have h1:=qc4.out b o s e;have h2:=iD.out.lt;omega)
    obtain⟨W5,fZ⟩:=QE (W.setCell ⟨w.heap.size,6,none⟩ (.slice AL qu.length cL));rw[fZ]at jJ nO mA HP5;simp only[qX,qK,if_true];rw[g7,g8];generalize vs 0=z0;generalize vs 1=z1;generalize vs 2=z2;generalize vs 3=z3;generalize vs 4=z4;generalize vs 5=z5;generalize vs 6=z6;clear hG g0 g3 g7 g8 hb dx hr qpo HPL qc4;simp only[Act.put,List.setIfInBounds_toArray,List.set_cons_succ,List.set_cons_zero];refine qM (i:=9) (by kernel_rfl) rfl rfl ?_;go_simp;try rw[fZ]
    clear f6 r6 rlt fZ;refine⟨by kernel_rfl,?_⟩;have j0:=nO.out.cell 0;have j1:=nO.out.cell 1;have j2:=nO.out.cell 2;have j3:=nO.out.cell 3;have j4:=nO.out.cell 4;have j5:=nO.out.cell 5;have j6:=nO.out.cell 6;have jlt:=nO.out.lt;simp only[vg,QA,QB,QC]at j0 j1 j2 j3 j4 j5 j6;by_cases hn:f.next=f.all
    ·have hlt:¬ f.next<f.all:=by omega
     have HPC:Hid (PN.code=0∧PN.m=s3M m f qu∧PN.ws=ws):=by
      unfold Hid;rcases na.out with⟨_,h⟩|⟨h,_⟩
      ·rw[h];exact⟨rfl,rfl,rfl⟩
      ·exact absurd hn h
     have HDK:=QH (HDO.out HPC.out.1);clear hn;go_wp2_with fail;refine qV (by kernel_rfl) 13 [55,56,57,58,59,60,61,62,63,64,65,66,67] (by kernel_rfl) (qsN (fun j=>(o1 j∧j≠v)∨w.heap.size≤j) v w.heap.size (.slice BA pn bc) (.slice AL qu.length cL) m f qu) (qkF _ _ _ _ _ _ _ _) ?_ ?_
     ·intro i o vs ρ W hi hop hρ hfn hb hG;have t0:ρ (.tmp 0)=pt v:=hρ.out 0 rfl;have t4:ρ (.tmp 4)=pt w.heap.size:=hρ.out 4 rfl;have t9:ρ (.tmp 9)=.slice BA pn bc:=hρ.out 9 rfl;have s57:=hρ.at_ 57 2 rfl;have s58:=hρ.at_ 58 3 rfl;have s59:=hρ.at_ 59 4 rfl;have s60:=hρ.at_ 60 5 rfl;have s61:=hρ.at_ 61 6 rfl;have s62:=hρ.at_ 62 7 rfl;have s63:=hρ.at_ 63 8 rfl;have s64:=hρ.at_ 64 9 rfl;have s65:=hρ.at_ 65 10 rfl;have s66:=hρ.at_ 66 11 rfl;have hr:=nO.out.below hb;have q2:=hr.cell 2;have q3:=hr.cell 3;have q6:=hr.cell 6;have qlt:=hr.lt;simp only[vg,QA,QB,QC]at q2 q3 q6;have hsW:=mA.out.stay (wI.of_below hb);have hiW:qu.length≤1000:=by rw[HIL.out];have:=HR.out.ok.b8;omega
      have hsz:w.heap.size≤W.heap.size:=Nat.le_trans jJ.out.size hb.size;clear j0 j1 j2 j3 j4 j5 j6 jlt;rcases i with _|_|_|_|_|_|_|_|_|_|_|_|_|i;all_goals (first|omega|skip)
      all_goals simp only[QA,QB,QC,Option.some.injEq]at hop
      all_goals subst hop
      ·exact q9 (w':=W) (by unfold execOp;simp only[t0];go_simp) ⟨Below.refl _ _,rfl⟩
      ·exact q9 (w':=W) (by unfold execOp;simp only[t9];go_simp) ⟨Below.refl _ _,rfl⟩
      ·exact q9 (w':=W) (by unfold execOp;simp only[t4];go_simp) ⟨Below.refl _ _,rfl⟩
      ·have g2:vs 2=_:=hG 2 (by kernel_rfl);exact q9 (w':=W) (by unfold execOp;simp only[s57,g2];go_simp) ⟨Below.refl _ _,rfl⟩
      ·exact q9 (w':=W) (by unfold execOp;simp only[t4];go_simp) ⟨Below.refl _ _,rfl⟩
      ·have g4:vs 4=_:=hG 4 (by kernel_rfl);exact q9 (w':=W) (by unfold execOp;simp only[s59,g4];go_simp) ⟨Below.refl _ _,rfl⟩
      ·have g3:vs 3=_:=hG 3 (by kernel_rfl);have g5:vs 5=_:=hG 5 (by kernel_rfl);refine qj (f:=157) (args:=#[gv f.target,.slice AL qu.length cL]) (w':=W) (by unfold execOp gv;simp only[hfn,s58,g3,s60,g5];go_simp) ((qnD (G:=fun j=>(o1 j∧j≠v)∨w.heap.size≤j) hsW.at_ hiW HFB.out.target (fun j hj=>.inr (Nat.le_trans hsz hj))).mono ?_);rintro e W' ⟨fe,rfl,hef,hb5⟩;exact⟨fe,rfl,hb5,EfV.of (hef m (s1M m f qu) ⟨by have:=HR.out.ok.few;omega,rfl⟩)⟩
      ·exact q9 (w':=W) (by unfold execOp;simp only[t4];go_simp) ⟨Below.refl _ _,rfl⟩
      ·have g7:vs 7=_:=hG 7 (by kernel_rfl);exact q9 (w':=W) (by unfold execOp;simp only[s62,g7];go_simp) ⟨Below.refl _ _,rfl⟩
      ·have g8:vs 8=_:=hG 8 (by kernel_rfl);refine qj (f:=64) (args:=#[.slice AL qu.length cL]) (w':=W) (by unfold execOp;simp only[hfn,s63,g8];go_simp) ((qjD (G:=fun j=>(o1 j∧j≠v)∨w.heap.size≤j) hsW hiW (fun j hj=>.inr (Nat.le_trans hsz hj))).mono ?_);rintro e W' ⟨fe,rfl,hef,hb5⟩;exact⟨fe,rfl,hb5,EfV.of (hef (s1M m f qu) _ rfl)⟩
      ·exact q9 (w':=W) (by unfold r9 yB execOp;go_simp) ⟨Below.refl _ _,rfl⟩
      ·have g10:vs 10=_:=hG 10 (by kernel_rfl);refine qj (f:=72) (args:=#[.agg (r9 yB none 0 0)]) (w':=W) (by unfold execOp;simp only[hfn,s65,g10];go_simp) ((ra (G:=fun j=>(o1 j∧j≠v)∨w.heap.size≤j) (t:=yB) (jv.none W) (by decide) qpa (fun j hj=>.inr (Nat.le_trans hsz hj))).mono ?_);rintro e W' ⟨fe,rfl,hef,hb5⟩;exact⟨fe,rfl,hb5,EfV.of (hef (s2M m f qu) _ rfl)⟩
      ·have g6:=hG 6 (by kernel_rfl);have g9:=hG 9 (by kernel_rfl);have g11:=hG 11 (by kernel_rfl);obtain⟨⟨ka,ca,ea⟩,ga⟩:=g6;obtain⟨⟨kb,cb,eb⟩,gb⟩:=g9;obtain⟨⟨kc,cc,ec⟩,gc⟩:=g11;have hb1:=(Below.refl _ W).alloc (Nat.le_refl _) (.cells #[.func (.func ka) #[] ca,.func (.func kb) #[] cb,.func (.func kc) #[] cc] 129);rw[ea]at ga;rw[eb]at gb;rw[ec]at gc;exact q9 (v:=.slice (some ⟨W.heap.size,0,none⟩) 3 3) (w':=W.alloc (.cells #[.func (.func ka) #[] ca,.func (.func kb) #[] cb,.func (.func kc) #[] cc] 129)) (by unfold execOp;simp only[s61,ea,s64,eb,s66,ec];go_simp) ⟨hb1,_,_,_,_,rfl,qd.new _ _ _,(EfV.of ga).below hb1,(EfV.of gb).below hb1,(EfV.of gc).below hb1⟩
     ·intro vs W hb hG;have g0:vs 0=_:=hG 0 (by decide);have g1:vs 1=_:=hG 1 (by decide);obtain⟨B,f1,f2,f3,g12,rT,he1,he2,he3⟩:=hG 12 (by decide);have HCH:=QH (qim nH.out (qa jJ.out hb) HJ.out HFU.out HR.out HPC.out.1 HDK.out (M:=fun i=>if i=0 then m else if i=1 then s1M m f qu else if i=2 then s2M m f qu else s3M m f qu) (n:=3) (c:=3) rfl (HPC.out.2.1.symm) (qgN rT he1.2 he2.2 he3.2) (by omega) (cb:=bc) (HP5.out.below hb) (by rw[qxn.out];have:=HX8.out;omega) (HPW.out.trans HPC.out.2.2.symm));rw[HPN.out]at HCH;simp only[qX,qK,if_true];rw[g0,g1,g12];generalize vs 2=z2;generalize vs 3=z3;generalize vs 4=z4;generalize vs 5=z5;generalize vs 6=z6;generalize vs 7=z7;generalize vs 8=z8;generalize vs 9=z9;generalize vs 10=z10;generalize vs 11=z11;clear hG g0 g1 g12 hb rT he1 he2 he3 j0 j1 j2 j3 j4 j5 j6 jlt;simp only[Act.put,List.setIfInBounds_toArray,List.set_cons_succ,List.set_cons_zero];refine qM (i:=13) (by kernel_rfl) rfl rfl ?_;go_simp;refine HCH.out.mono ?_;rintro e W7 ⟨r,d',m',lost,sD,cS,rfl,hh⟩;have HH:=QH hh;clear hh HCH;go_simp;refine qM (i:=14) (by kernel_rfl) rfl rfl ?_;go_simp;refine⟨by kernel_rfl,?_⟩;go_wp2_with fail;go_ret;exact⟨r,d',m',lost,sD,cS,rfl,HH.out⟩
    ·have hlt:f.next<f.all:=by have:=HLE.out;omega
     have HPC:Hid (PN.code=0∧PN.m={ m with tok:=qpl f qu }∧PN.ws=ws):=by
      unfold Hid;rcases na.out with⟨h,_⟩|⟨_,h⟩
      ·exact absurd h hn
      ·rw[h];exact⟨rfl,rfl,rfl⟩
     have HDK:=QH (HDO.out HPC.out.1);have hst:=ra (G:=fun j=>(o1 j∧j≠v)∨w.heap.size≤j) (t:=qpl f qu) (A:=AL) (c:=cL) mA.out.at_ (by show qu.length≤1000;rw[HIL.out];have:=HR.out.ok.b8;omega) ⟨HFB.out.base,HFB.out.target,HFB.out.next,HFB.out.all⟩ (fun j hj=>.inr (Nat.le_trans jJ.out.size hj));unfold r9 qpl at hst;have HST:=QH hst;clear hn hst;go_wp2_with fail;refine HST.out.mono ?_;rintro e W6 ⟨fe,rfl,hef,dz⟩;have HEF:=QH (hef m PN.m HPC.out.2.1);obtain⟨kf,uS,rfl⟩:=HEF.out.form;have dQ:=QH (qa jJ.out dz);have HP6:=QH (HP5.out.below dz);clear hef dz HST HP5 j0 j1 j2 j3 j4 j5 j6 jlt;have hb7:=(Below.refl _ W6).alloc (Nat.le_refl _) (.cells #[.func (.func kf) #[] uS] 129);have hk7:=qd.new W6 129 #[.func (.func kf) #[] uS];obtain⟨W7,hW7⟩:=QE (W6.alloc (.cells #[.func (.func kf) #[] uS] 129));rw[hW7]at hb7 hk7;have HCH:=QH (qim nH.out (qa dQ.out hb7) HJ.out HFU.out HR.out HPC.out.1 HDK.out (c:=1) rfl rfl (qoZ hk7 (HEF.out.below hb7)) (by omega) (cb:=bc) (HP6.out.below hb7) (by rw[qxn.out];have:=HX8.out;omega) (HPW.out.trans HPC.out.2.2.symm));rw[HPN.out]at HCH;clear hb7 hk7 HEF HP6;go_wp2_with fail;try rw[hW7]
     refine HCH.out.mono ?_;rintro e W8 ⟨r,d',m',lost,sD,cS,rfl,hh⟩;have HH:=QH hh;clear hh HCH;go_wp2_with fail;go_ret;exact⟨r,d',m',lost,sD,cS,rfl,HH.out⟩
end Go.Proofs.YtdpbdkacngaemaaGreatDoor.vt.pg
namespace Go.Proofs.YtdpbdkacngaemaaGreatDoor.ch.pg
open _root_.Go.Proofs.Tryz Go Go.RowKit Go.Sort ib
theorem qpp{t:TypeId}{d:TypeDesc}(h:prog.underlying t=some d)(hd:(match d with | .struct _ | .array _ _=>true|_=>false)=true)(w:World):(isAgg t).run prog w=.ok true w:=by
 unfold isAgg;rw[Sem.run_bind,run_underlying h w];cases d <;> simp_all
theorem nd {t:TypeId}{n:Nat}(h:(prog.info? t).map (·.size)=some n)(w:World):(sizeOf t).run prog w=.ok n w:=by
 cases hq:prog.info? t with
 | none=>simp[hq]at h
 | some i =>
  simp[hq]at h;simp[sizeOf,typeInfo,hq,h]
theorem qed{t:TypeId}{d:TypeDesc}{n:Nat}(h:prog.underlying t=some d)(hd:(match d with | .struct _ | .array _ _=>true|_=>false)=true)(hn:(prog.info? t).map (·.size)=some n)
    (cs xs:List Value) (o:Nat) (hx:(cs.drop o).take n=xs) (w:World):(part t cs.toArray o).run prog w=.ok (.agg xs.toArray) w:=by
 have ha:=qpp h hd w;have hz:=nd hn w;have he:cs.toArray.extract o (o+n)=xs.toArray:=by
  apply Array.ext';rw[Array.toList_extract,List.extract_eq_take_drop,Nat.add_sub_cancel_left];exact hx
 simp only[part,Sem.run_bind,ha,Result.andThen_ok,if_true,hz,Sem.run_pure,he]
theorem qpq:(prog.info? 38).map (·.size)=some 2:=by kernel_rfl
theorem qkH{n:Nat}(s:Sn)(h:qY n s.bs)(h8:n≤8)(w:World):(Instr.field 174 (.agg (sc s).toArray) 0).run prog w=.ok (.agg (vc s.bs).toArray) w:=by
 have hp:=qed (t:=169) underlying169 rfl bm (sc s) (vc s.bs) 0 (by
  unfold sc;rw[List.drop_zero,List.take_left' (yb h h8)]) w
 simp[Instr.field,run_underlying underlying174,Result.andThen,asAgg,hp]
theorem qpr{n:Nat}(s:Sn)(h:qY n s.bs)(h8:n≤8)(w:World):(Instr.field 174 (.agg (sc s).toArray) 1).run prog w=.ok (gv s.g) w:=by
 have hp:=qed (t:=38) underlying38 rfl qpq (sc s) [.int .u64 (s.g.1:Int),.int .u64 (s.g.2:Int)] 256 (by
  unfold sc;rw[List.drop_left' (yb h h8)];rfl) w
 simp[Instr.field,run_underlying underlying174,Result.andThen,asAgg,hp,gv]
theorem qsO{own:Nat→Prop}{w:World}{p:Nat}{d:CH}(h:Is0 own w p d)(g:Gd):Calls prog 165 #[.pointer (some ⟨p,0,none⟩),gv g] w fun e w'=>e=.returned (.int .i64 (d.may g))∧Below w.heap.size w w':=by
 obtain⟨h0,v,hr⟩:=h;have hb0:=(Below.refl w.heap.size w).alloc (Nat.le_refl _) (.cells #[.int .u64 (g.1:Int),.int .u64 (g.2:Int)] 38);have hr1:=hr.below hb0;obtain⟨W,hW⟩:=QE (w.alloc (.cells #[.int .u64 (g.1:Int),.int .u64 (g.2:Int)] 38));have q0:W.cell? ⟨w.heap.size,0,none⟩=some (.int .u64 (g.1:Int)):=by rw[← hW];exact(qd.new w _ _).cell 0
 have q1:W.cell? ⟨w.heap.size,1,none⟩=some (.int .u64 (g.2:Int)):=by rw[← hW];exact(qd.new w _ _).cell 1
 rw[hW]at hr1 hb0;have q2:=hr1.c2 h0;have HB:=QH hb0;have HW:=QH hW;have HR:=QH hr1;have gU:=QH h0;have e0:∀d os,(grow (redrawn W d) os).cell? ⟨w.heap.size,0,none⟩=some (.int .u64 (g.1:Int)):=fun d os=>cell_regrown q0 d os;have e1:∀d os,(grow (redrawn W d) os).cell? ⟨w.heap.size,1,none⟩=some (.int .u64 (g.2:Int)):=fun d os=>cell_regrown q1 d os;have e2:∀d os,(grow (redrawn W d) os).cell? ⟨p,257,none⟩=some v:=fun d os=>cell_regrown q2 d os;have qgU:=h0.few;have cL:∀b os,Calls prog 168 #[v] (grow (redrawn W b) os) fun e w''=>e=.returned (.agg (sc (jt d.live.length d.qc)).toArray)∧∃q:Regrown,w''=grow (redrawn W q.d) q.os :=
  fun b os=>Calls.regrown_of (qdH (HR.out.row.below (below_regrown W b os)) gU.out.qc gU.out.n8 qgU)
 have cA:∀b os,Calls prog 241 #[gv g,gv d.last] (grow (redrawn W b) os) fun e w''=>e=.returned (.bool (above g d.last))∧∃q:Regrown,w''=grow (redrawn W q.d) q.os :=
  fun b os=>Calls.regrown_of (kr g d.last _)
 have hfi:=qpr (jt d.live.length d.qc) (pU h0.qc) h0.n8;rw[qs2]at hfi;obtain⟨L,hL⟩:=QE (gv d.last);obtain⟨S,hS⟩:=QE ((sc (jt d.live.length d.qc)).toArray);rw[hL]at cA hfi;rw[hS]at cL hfi;have HM:Hid (d.may g=if above g d.last then(if 20≤d.qc.length then 3 else 0)else 2):=rfl;obtain⟨m,hm⟩:=QE (d.may g);rw[hm]at HM ⊢;generalize above g d.last=q at *;obtain⟨A,c,rfl,hlc,_,_⟩:=ja hr1.row h0.qc h0.n8;clear q0 q1 q2 hW hb0 hL hm hr1 hr h0 hS;unfold gv at cA ⊢;go_enter func165,ntmps165;go_wp2_with fail;rw[HW.out];refine wp_region_quiet_below vU (by kernel_rfl) ?_;repeat (any_goals (first|go_big_quiet_step (first|exact cL _ _|exact cA _ _)|quiet_step (first|exact cL _ _|exact cA _ _)))
 refine wpQuiet_nil ?_;intro _ hw';obtain⟨⟨dq,osq⟩,hw''⟩:=hw';subst hw'';have c2:=e2 dq osq;have hb:=below_regrown W dq osq;have qC:=QH (HB.out.trans (hb.mono HB.out.size));clear hb e0 e1 e2 cL cA HR HB HW;generalize grow (redrawn W dq) osq=W2 at *;cases q with
 | false =>
  have HT:Hid (m=2):=by unfold Hid;rw[HM.out];rfl
  clear HM;go_wp2_with fail;go_ret;exact⟨by rw[HT.out];rfl,qC.out⟩
 | true =>
  by_cases hx:(20:Int)≤(d.qc.length:Int)
  ·have HT:Hid (m=3):=by unfold Hid;rw[HM.out,if_pos rfl,if_pos (by omega)]
   clear HM;go_wp2_with fail;go_ret;exact⟨by rw[HT.out];rfl,qC.out⟩
  ·have HT:Hid (m=0):=by unfold Hid;rw[HM.out,if_pos rfl,if_neg (by omega)]
   clear HM;go_wp2_with fail;go_ret;exact⟨by rw[HT.out];rfl,qC.out⟩
theorem qps{d:CH}(h:d.ok)(s:Sn)(hl:d.qc.length<20)(hs:qY d.live.length s.bs)(hg:xF s.g):CH.ok ⟨d.live,d.qc++[s]⟩:=by
 refine⟨h.live,h.n1,h.n8,fun x hx=>?_,?_,fun x hx=>?_⟩
 ·rcases List.mem_append.1 hx with hx|hx
  ·exact h.qc x hx
  ·obtain rfl:x=s:=by simpa using hx
   exact hs
 ·show(d.qc++[s]).length≤20;rw[List.length_append,List.length_singleton];omega
 ·rcases List.mem_append.1 hx with hx|hx
  ·exact h.sZ x hx
  ·obtain rfl:x=s:=by simpa using hx
   exact hg
theorem ve.q2s{w w1:World}{own:Nat→Prop}{p:Nat}{v v':Value}{d:CH}{l:List Sn}(h:ve w own p v d)(hb:Below w.heap.size w w1)(hr:vV w1 v' l)(ho:d.ok)(hn:∀k,v'.ownBlock=some k→own k∨w.heap.size≤k) :
    ve (w1.setCell ⟨p,257,none⟩ v') (fun j=>own j∨v'.ownBlock=some j) p v' ⟨d.live,l⟩:=by
 have hb1:=h.blk.of_block (hb.block p h.blk.lt);have hp:=hr.ne hb1 (by decide);refine⟨?_,hr.of_block (fun k hk=>qy _ _ _ _ _ (hp k hk)),.inl h.op,fun k hk=>.inr hk,fun j hj=>?_⟩
 ·have:=hb1.qo 257 v';rw[qdF ho.live ho.n8]at this;exact this
 ·have e:(w1.setCell ⟨p,257,none⟩ v').heap.size=w1.heap.size:=by simp[World.setCell]
  rw[e];rcases hj with hj|hj
  ·exact Nat.lt_of_lt_of_le (h.low j hj) hb.size
  ·exact hr.lt j hj
def PuG (p:Nat)(A:Option Addr)(n c B:Nat)(S:List Value):Nat→Value→World→Prop
 | 0,v,_=>v=.pointer (some ⟨p,0,none⟩)
 | 1,v,_=>v=.pointer (some ⟨p,0,none⟩)
 | 2,v,_=>v=.pointer (some ⟨p,0,none⟩)
 | 3,v,_=>v=.pointer (some ⟨p,257,none⟩)
 | 4,v,_=>v=.slice A n c
 | 5,v,_=>v=.int .i64 (n:Int)
 | 6,v,_=>v=.int .i64 (n:Int)
 | 7,v,_=>v=.slice A n n
 | 8,v,_=>v=.agg S.toArray
 | 9,v,w=>∃b,v=.slice (some ⟨b,0,none⟩) 1 1∧qd w b 174 S.toArray∧B≤b
 | _,_,_=>True
theorem qpt(p:Nat)(A:Option Addr)(n c B:Nat)(S:List Value)(i:Nat)(v:Value)(w w':World)(hi:i<10)(h:PuG p A n c B S i v w)(hb:Below w.heap.size w w'):PuG p A n c B S i v w':=by
 match i,hi,h with
 | 0,_,h | 1,_,h | 2,_,h | 3,_,h | 4,_,h | 5,_,h | 6,_,h | 7,_,h | 8,_,h=>exact h
 | 9,_,⟨b,h1,h2,h3⟩=>exact⟨b,h1,h2.below hb,h3⟩
theorem kA {own:Nat→Prop}{w:World}{p:Nat}{v:Value}{d:CH}(h:ve w own p v d)(ho:d.ok)(hl:d.qc.length<20)(s:Sn)(hs:qY d.live.length s.bs) :
    Calls prog 166 #[.pointer (some ⟨p,0,none⟩),.agg (sc s).toArray] w fun e w'=>e=.returned (.tuple #[])∧∃v' yK,ve w' yK p v' ⟨d.live,d.qc++[s]⟩∧qB (fun j=>j=p) w w'∧∀j,yK j→own j∨w.heap.size≤j:=by
 obtain⟨i0,hi,hz0,hz1,hz2⟩:=info_parts nb;have ig:Hid ((sc s).length=259):=kZ hs ho.n8;have dO:=QH (qbE s);have jC:=QH (qkt d.qc s);have HLEN:=QH (qoF ho.qc ho.n8);obtain⟨S,hS⟩:=QE (sc s);rw[hS]at ig dO jC ⊢;have hb0:=(Below.refl w.heap.size w).alloc (Nat.le_refl _) (.cells S.toArray 174);have hr1:=h.below hb0;have HBX:Hid (qd (w.alloc (.cells S.toArray 174)) w.heap.size 174 S.toArray):=qd.new _ _ _;have HB:=QH hb0;have HR:=QH hr1;have fX:=QH h;have HO:=QH ho;obtain⟨A,c,rfl,hlc,hA,_⟩:=ja h.row ho.qc ho.n8;have hcl:=hr1.row.cells;have HA:=QH hcl.2.1;have HCE:=QH hcl.2.2;have c2:=hr1.c2 ho;have hci:((d.qc.length:Nat):Int)≤(c:Int):=by omega
 have HL:=QH hl;clear h hb0 hr1 hcl hA hS ho hl hs;have qdY:=HR.out.blk.lt;go_enter func166,ntmps166;go_wp2_with (refine qh rfl (fu 174 (.tmp 1) S.toArray rfl rfl (by rw[kG,List.size_toArray,ig.out]) (ku dO.out)) ?_);have C2:=QH c2;obtain⟨n,hn⟩:=QE d.qc.length;have HN:=QH hn;rw[hn]at HA HL HLEN hlc hci C2 c2 ⊢;clear hn c2;obtain⟨W1,hW1⟩:=QE (w.alloc (.cells S.toArray 174));rw[hW1]at HBX HB HR HCE C2 qdY ⊢;clear hW1;refine vA (by kernel_rfl) 10 [10,11,12,13,14,15,16,17,18,19] (by kernel_rfl) (PuG p A n c W1.heap.size S) _ (.pointer (some ⟨p,0,none⟩)) rfl (by decide) (by kernel_rfl) (by kernel_rfl) (by kernel_rfl) (fun _ _ _ h=>h) (Or.inl ⟨by rfl,fun w=>by go_simp⟩) (fun _=>rfl) (qpt _ _ _ _ _ _) ?_ ?_
 ·intro i o vs ρ W zer hop hρ hfn hb hG;have t0:ρ (.tmp 0)=.pointer (some ⟨p,0,none⟩):=hρ.out 0 rfl;have t3:ρ (.tmp 3)=.pointer (some ⟨w.heap.size,0,none⟩):=hρ.out 3 rfl;have t4:ρ (.tmp 4)=.int .i64 (n:Int):=hρ.out 4 rfl;have s11:=hρ.at_ 11 1 rfl;have s12:=hρ.at_ 12 2 rfl;have tv:=hρ.at_ 13 3 rfl;have s14:=hρ.at_ 14 4 rfl;have s15:=hρ.at_ 15 5 rfl;have s16:=hρ.at_ 16 6 rfl;have s18:=hρ.at_ 18 8 rfl;have c2:W.cell? ⟨p,257,none⟩=some (.slice A n c):=(hb.cell (p:=⟨p,257,none⟩) qdY).trans C2.out;rcases i with _|_|_|_|_|_|_|_|_|_|i;all_goals (first|omega|skip)
  all_goals simp only[QA,QB,QC,Option.some.injEq]at hop
  all_goals subst hop
  ·exact q9 (w':=W) (by unfold execOp;simp only[t0];go_simp) ⟨Below.refl _ _,rfl⟩
  ·exact q9 (w':=W) (by unfold execOp;simp only[t0];go_simp) ⟨Below.refl _ _,rfl⟩
  ·have g1:vs 1=_:=hG 1 (by kernel_rfl);exact q9 (w':=W) (by unfold execOp;simp only[s11,g1];go_simp) ⟨Below.refl _ _,rfl⟩
  ·have g2:vs 2=_:=hG 2 (by kernel_rfl);exact q9 (w':=W) (by unfold execOp;simp only[s12,g2];go_simp) ⟨Below.refl _ _,rfl⟩
  ·have g3:vs 3=_:=hG 3 (by kernel_rfl);exact q9 (w':=W) (by unfold execOp;simp only[tv,g3];go_simp) ⟨Below.refl _ _,rfl⟩
  ·exact q9 (w':=W) (by unfold execOp;simp only[t4];go_simp) ⟨Below.refl _ _,rfl⟩
  ·exact q9 (w':=W) (by unfold execOp;simp only[t4];go_simp) ⟨Below.refl _ _,rfl⟩
  ·have g4:vs 4=_:=hG 4 (by kernel_rfl);have g5:vs 5=_:=hG 5 (by kernel_rfl);have g6:vs 6=_:=hG 6 (by kernel_rfl);exact q9 (w':=W) (by unfold execOp;simp only[s14,g4,s15,g5,s16,g6];go_simp) ⟨Below.refl _ _,rfl⟩
  ·exact q9 (w':=W) (qF 174 (.tmp 3) rfl w.heap.size 0 t3 _ _ S _ _ (HBX.out.below hb) underlying174 rfl (by rw[kG,ig.out]) (fun j u hu=>by rw[Nat.zero_add];simpa using hu)) ⟨Below.refl _ _,rfl⟩
  ·have g8:vs 8=_:=hG 8 (by kernel_rfl);exact q9 (qn7 170 174 (.tmp 18) S.toArray 259 rfl (s18.trans g8) underlying170 i0 _ hi hz0 hz1 (by decide) (by decide) (by rw[List.size_toArray,ig.out])) ⟨(Below.refl _ W).alloc (Nat.le_refl _) _,W.heap.size,rfl,qd.new _ _ _,hb.size⟩
 ·intro vs W hb hG;have g0:vs 0=_:=hG 0 (by decide);have g7:vs 7=_:=hG 7 (by decide);obtain⟨bb,g9,zy,hbB⟩:=hG 9 (by decide);have B2:=QH (HB.out.trans (hb.mono HB.out.size));have jO:=QH (HR.out.below hb);have q2t:Hid (∀b,A=some b→∀j u,(dw d.qc)[j]?=some u→W.cell? (b.add j)=some u):=(jO.out.row.cells).2.2;have au:Hid (∀j u,S[j]?=some u→W.cell? ((⟨bb,0,none⟩:Addr).add j)=some u):=fun j u hu=>by
   rw[addr_add,Nat.zero_add,zy.cell j];simpa using hu
  simp only[qX,qK,if_true];rw[g0,g7,g9];generalize vs 1=z1;generalize vs 2=z2;generalize vs 3=z3;generalize vs 4=z4;generalize vs 5=z5;generalize vs 6=z6;generalize vs 8=z8;clear hG g0 g7 g9 hb zy hbB;simp only[Act.put,List.setIfInBounds_toArray,List.set_cons_succ,List.set_cons_zero];refine qM (i:=10) (by kernel_rfl) rfl rfl ?_;refine aq (.tmp 17) (.tmp 19) 170 rfl 174 i0 _ 259 280 underlying170 hi hz0 hz1 hz2 A n (dw d.qc) rfl HLEN.out HA.out q2t.out ⟨bb,0,none⟩ 1 1 S rfl (by rw[ig.out]) au.out (by decide) (by have:=HL.out;unfold maxLen;omega) (by have:=HL.out;omega) ?_;intro cap cur w1 hb1 zX ht1 hc1 hc2 hsz;have HRW:Hid (vV w1 (.slice (some ⟨W.heap.size,0,none⟩) (n+1) cap) (d.qc++[s])):=by
   refine⟨some ⟨W.heap.size,0,none⟩,cap,?_,?_,hc2,.inr ⟨W.heap.size,cur,rfl,zX,?_⟩⟩
   ·rw[List.length_append,HN.out];rfl
   ·rw[List.length_append,HN.out];exact hc1
   ·rw[List.length_append,HN.out,jC.out];exact ht1
  have HP:=QH (ve.q2s jO.out hb1 HRW.out HO.out (fun k hk=>by
   simp[Value.ownBlock]at hk;exact .inr (by omega)))
  have HBU:=QH (((qB.of_below (S:=fun j=>j=p) B2.out).trans (S':=fun _=>False) (qB.of_below hb1) (fun _ h=>h.elim)).setCell ⟨p,257,none⟩ (.slice (some ⟨W.heap.size,0,none⟩) (n+1) cap) (.inl rfl));have HOW:Hid (∀j,(own j∨(Value.slice (some ⟨W.heap.size,0,none⟩) (n+1) cap).ownBlock=some j)→own j∨w.heap.size≤j):=fun j hj=>by
   rcases hj with hj|hj
   ·exact .inl hj
   ·simp[Value.ownBlock]at hj;have:=B2.out.size;exact .inr (by omega)
  have f1:w1.frozen? ⟨p,257,none⟩=false:=(jO.out.blk.of_block (hb1.block p jO.out.blk.lt)).frozen 257;obtain⟨b1,zes⟩:∃z,w1.cell? ⟨p,257,none⟩=some z:=⟨_,(hb1.cell (p:=⟨p,257,none⟩) jO.out.blk.lt).trans (jO.out.c2 HO.out)⟩;clear hb1 zX ht1 hc1 hc2 hsz HRW q2t au HCE;go_simp;refine qM (i:=11) (by kernel_rfl) rfl rfl ?_;go_simp;refine qM (i:=12) (by kernel_rfl) rfl rfl ?_;go_simp;refine qM (i:=13) (by kernel_rfl) rfl rfl ?_;go_simp;refine⟨by kernel_rfl,?_⟩;go_wp2_with fail
  go_end0
  exact⟨rfl,_,_,HP.out,HBU.out,HOW.out⟩
theorem qpu{w:World}{n gb:Nat}(s:Sn)(hs:qY n s.bs)(h8:n≤8)(g:Gd)(hgb:gb<w.heap.size)(q0:w.cell? ⟨gb,0,none⟩=some (.int .u64 (g.1:Int)))(q1:w.cell? ⟨gb,1,none⟩=some (.int .u64 (g.2:Int))) :
    Calls prog 243 #[.agg (sc s).toArray,.pointer (some ⟨gb,0,none⟩)] w fun e w'=>e=.returned (.bool (decide (s.g=g)))∧Below w.heap.size w w':=by
 have ig:Hid ((sc s).length=259):=kZ hs h8;have dO:=QH (qbE s);have h1:=qur hs h8;have h2:=qus hs h8;have hq:=qmn s.g g;obtain⟨S,hS⟩:=QE (sc s);rw[hS]at ig dO h1 h2 ⊢;have hb0:=(Below.refl w.heap.size w).alloc (Nat.le_refl _) (.cells S.toArray 174);have e0:(w.alloc (.cells S.toArray 174)).cell? ⟨w.heap.size,256,none⟩=some (.int .u64 (s.g.1:Int)):=by
  rw[(qd.new w 174 S.toArray).cell 256];simpa using h1
 have e1:(w.alloc (.cells S.toArray 174)).cell? ⟨w.heap.size,257,none⟩=some (.int .u64 (s.g.2:Int)):=by
  rw[(qd.new w 174 S.toArray).cell 257];simpa using h2
 have p0:=(hb0.cell (p:=⟨gb,0,none⟩) hgb).trans q0;have p1:=(hb0.cell (p:=⟨gb,1,none⟩) hgb).trans q1;have HB:=QH hb0;obtain⟨r,hr⟩:=QE (decide (s.g=g));rw[hr]at hq ⊢;generalize (s.g.1:Int)=x1 at *;generalize (s.g.2:Int)=x2 at *;generalize (g.1:Int)=y1 at *;generalize (g.2:Int)=y2 at *;obtain⟨b1,hb1⟩:=QE (x1 == y1);obtain⟨b2,hb2⟩:=QE (x2 == y2);rw[hb1,hb2]at hq;subst hq;clear hS h1 h2 hb0 hr hs;have E0:=QH e0;have E1:=QH e1;have P0:=QH p0;have P1:=QH p1;clear e0 e1 p0 p1 q0 q1;cases b1 <;> cases b2;all_goals
  go_enter func243,ntmps243;go_wp2_with (refine qh rfl (fu 174 (.tmp 0) S.toArray rfl rfl (by rw[kG,List.size_toArray,ig.out]) (ku dO.out)) ?_;have e0:=E0.out;have e1:=E1.out;have p0:=P0.out;have p1:=P1.out;generalize w.alloc (.cells S.toArray 174)=W at *);go_ret;exact⟨rfl,HB.out⟩
def sN (l:List Sn)(g:Gd):Int:=match l.findIdx? fun s=>decide (s.g=g)with
 | none=>-1
 | some i=>(i:Int)
theorem qpv{l:List Sn}{g:Gd}{k:Nat}(hk:k<l.length)(hg:l[k].g=g)(hb:∀j (h:j<l.length),j<k→l[j].g≠g):sN l g=(k:Int):=by
 unfold sN;have:(l.findIdx? fun s=>decide (s.g=g))=some k:=by
  rw[List.findIdx?_eq_some_iff_getElem];exact⟨hk,by simpa using hg,fun j hj=>by simpa using hb j (by omega) hj⟩
 rw[this]
theorem qpw{l:List Sn}{g:Gd}(hb:∀j (h:j<l.length),l[j].g≠g):sN l g = -1:=by
 unfold sN;have:(l.findIdx? fun s=>decide (s.g=g))=none:=by
  rw[List.findIdx?_eq_none_iff];intro s hs;obtain⟨j,hj,rfl⟩:=List.getElem_of_mem hs;simpa using hb j hj
 rw[this]
def q2u (l:List Sn)(g:Gd)(w:World)(i:Value)(wr:World):Prop :=
 ∃k:Nat,k≤l.length∧i=.int .i64 (k:Int)∧(∀j (h:j<l.length),j<k→l[j].g≠g)∧Below w.heap.size w wr
theorem qsP{w:World}{n gb:Nat}{v:Value}{l:List Sn}(h:vV w v l)(ho:∀s∈l,qY n s.bs)(h8:n≤8)(h20:l.length≤20)(g:Gd)(hgb:gb<w.heap.size)(q0:w.cell? ⟨gb,0,none⟩=some (.int .u64 (g.1:Int)))(q1:w.cell? ⟨gb,1,none⟩=some (.int .u64 (g.2:Int))) :
    Calls prog 242 #[v,.func (.func 243) #[] #[.pointer (some ⟨gb,0,none⟩)]] w fun e w'=>e=.returned (.int .i64 (sN l g))∧Below w.heap.size w w':=by
 obtain⟨A,c,rfl,hlc,hA,hx⟩:=ja h ho h8;have HX:=QH hx;have HQ0:=QH q0;have HQ1:=QH q1;have HO:=QH ho;have na:=QH (fun k hk hg hb=>qpv (l:=l) (g:=g) (k:=k) hk hg hb);have HRN:=QH (fun hb=>qpw (l:=l) (g:=g) hb);obtain⟨R,hR⟩:=QE (sN l g);rw[hR]at na HRN ⊢;clear hx q0 q1 h hR ho;go_enter func242,ntmps242;go_wp2_with fail;go_loopw [8] (fun i wr=>q2u l g w i wr) (fun i _=>l.length-(intOf i).toNat);case atStart=>exact⟨0,Nat.zero_le _,rfl,fun j _ h=>absurd h (by omega),Below.refl _ _⟩
 case round =>
  obtain⟨k,hk,rfl,hno,hB⟩:=hrel;have jZ:=QH hno;have HB:=QH hB;clear hno hB;by_cases hlt:k<l.length
  ·have yr:(k:Int)<(l.length:Int):=by omega
   obtain⟨gr,cur,rfl,hb,hc⟩:=HX.out k hlt;have hso:=HO.out _ (List.getElem_mem hlt);have ig:Hid ((sc l[k]).length=259):=kZ hso h8;have kX:=QH (hb.below HB.out);have HC:=QH hc;have kK:=QH (qpu l[k] hso h8 g (w:=wr) (Nat.lt_of_lt_of_le hgb HB.out.size) ((HB.out.cell (p:=⟨gb,0,none⟩) hgb).trans HQ0.out) ((HB.out.cell (p:=⟨gb,1,none⟩) hgb).trans HQ1.out));have HYE:=QH (fun(e:l[k].g=g)=>na.out k hlt e jZ.out);have ia:Hid (l[k].g≠g→∀j (h:j<l.length),j<k+1→l[j].g≠g):=fun hne j hj hjk=>by
    by_cases qom:j<k
    ·exact jZ.out j hj qom
    ·obtain rfl:j=k:=by omega
     exact hne
   clear hb hc hso;generalize sc l[k]=S at *;generalize l[k].g=gk at *;go_wp2_with (refine qh rfl (qF 174 (.tmp 14) rfl gr (k*259) rfl _ cur S _ _ kX.out underlying174 rfl (by rw[kG,ig.out]) HC.out) ?_);refine kK.out.mono ?_;rintro e W1 ⟨rfl,hb1⟩;have qT:=QH (HB.out.trans (hb1.mono HB.out.size));clear hb1;by_cases hg:gk=g
   ·rw[decide_eq_true hg];have HR:=QH (HYE.out hg);clear hg HYE ia kK;go_wp2_with fail;go_ret;rw[HR.out];exact⟨rfl,qT.out⟩
   ·rw[decide_eq_false hg];have HN:=QH (ia.out hg);clear hg HYE ia kK;go_wp2_with fail;go_roundw;case rel=>exact⟨k+1,by omega,by go_num,HN.out,qT.out⟩
    case measure=>simp[intOf];omega
  ·have yr:¬ (k:Int)<(l.length:Int):=by omega
   have HR:=QH (HRN.out (fun j hj=>jZ.out j hj (by omega)));go_wp2_with fail;go_ret;rw[HR.out];exact⟨rfl,HB.out⟩
def bP (d:CH)(g:Gd):Int × Int:=match d.find g with
 | none=>(0,5)
 | some i=>match d.qc[i]? with
  | none=>(0,5)
  | some s=>if s.hid then(0,14)else((i:Int),0)
theorem qkI(d:CH)(g:Gd):(sN d.qc g = -1∧bP d g=(0,5))∨∃i s,sN d.qc g=((i:Nat):Int)∧i<d.qc.length∧d.qc[i]?=some s∧bP d g=if s.hid then(0,14)else((i:Int),0):=by
 unfold sN bP CH.find;cases hf:d.qc.findIdx? fun s=>decide (s.g=g)with
 | none=>exact .inl ⟨rfl,rfl⟩
 | some i =>
  have hi:=(List.findIdx?_eq_some_iff_getElem.1 hf).1;refine .inr ⟨i,d.qc[i],rfl,hi,List.getElem?_eq_getElem hi,?_⟩;show(match d.qc[i]? with
   | none=>((0:Int),(5:Int))
   | some s=>if s.hid then(0,14)else((i:Int),0))=_
  rw[List.getElem?_eq_getElem hi]
theorem qee(d:CH)(g:Gd):(∃c,c≠0∧bP d g=(0,c)∧d.qnq g=(d,c)∧d.read g=([],c)) ∨
    ∃(i:Nat) (s:Sn),bP d g=((i:Int),0)∧i<d.qc.length∧d.qc[i]?=some s∧d.qnq g=(⟨d.live,kW d.qc i⟩,0)∧d.read g=(s.bs,0):=by
 unfold bP CH.qnq CH.read;cases hf:d.find g with
 | none=>exact .inl ⟨5,by decide,rfl,rfl,rfl⟩
 | some i =>
  dsimp only;have hi:=(List.findIdx?_eq_some_iff_getElem.1 hf).1;rw[List.getElem?_eq_getElem hi];dsimp only;cases hh:d.qc[i].hid with
  | true=>exact .inl ⟨14,by decide,by simp,by simp,by simp⟩
  | false=>exact .inr ⟨i,d.qc[i],by simp,hi,List.getElem?_eq_getElem hi,by simp,by simp⟩
theorem uW {own:Nat→Prop}{w:World}{p:Nat}{d:CH}(h:Is0 own w p d)(g:Gd):Calls prog 169 #[.pointer (some ⟨p,0,none⟩),gv g] w fun e w'=>e=.returned (.tuple #[.int .i64 (bP d g).1,.int .i64 (bP d g).2])∧Below w.heap.size w w':=by
 obtain⟨h0,v,hr⟩:=h;have hb0:=(Below.refl w.heap.size w).alloc (Nat.le_refl _) (.cells #[.int .u64 (g.1:Int),.int .u64 (g.2:Int)] 38);have hr1:=hr.below hb0;have q0:(w.alloc (.cells #[.int .u64 (g.1:Int),.int .u64 (g.2:Int)] 38)).cell? ⟨w.heap.size,0,none⟩=some (.int .u64 (g.1:Int)):=(qd.new w _ _).cell 0;have q1:(w.alloc (.cells #[.int .u64 (g.1:Int),.int .u64 (g.2:Int)] 38)).cell? ⟨w.heap.size,1,none⟩=some (.int .u64 (g.2:Int)):=(qd.new w _ _).cell 1;have HI:=QH (qsP hr1.row h0.qc h0.n8 h0.few g (by simp) q0 q1);have q2:=hr1.c2 h0;have HFI:=QH (qkI d g);have HB:=QH hb0;have HR:=QH hr1;have gU:=QH h0;obtain⟨R,hR⟩:=QE (bP d g);rw[hR]at HFI ⊢;obtain⟨X,hX⟩:=QE (sN d.qc g);rw[hX]at HFI HI;have qgU:=h0.few;have qdY:=HR.out.blk.lt;obtain⟨A,c,rfl,hlc,_,_⟩:=ja hr1.row h0.qc h0.n8;clear q0 q1 hb0 hr1 hr h0 hR hX;unfold gv;go_enter func169,ntmps169;go_wp2_with fail;refine HI.out.mono ?_;rintro e W1 ⟨rfl,hb1⟩;have qT:=QH (HB.out.trans (hb1.mono HB.out.size));have uu:=QH (HR.out.below hb1);clear hb1 HI q2 HB HR;rcases HFI.out with⟨rfl,hf⟩|⟨i,s,rfl,gP,hs,hf⟩
 ·have HF:=QH hf;clear hf HFI;go_wp2_with fail;go_ret2;rw[HF.out];exact⟨rfl,qT.out⟩
 ·have HF:=QH hf;obtain⟨A2,c3,e,_,_,hx⟩:=ja uu.out.row gU.out.qc gU.out.n8;simp only[Value.slice.injEq]at e;obtain⟨rfl,_,rfl⟩:=e;obtain⟨gr,cur,rfl,hb,hc⟩:=hx i gP;obtain rfl:d.qc[i]=s:=by
   rw[List.getElem?_eq_getElem gP]at hs;exact Option.some.inj hs
  have hso:=gU.out.qc _ (List.getElem_mem gP);have c3:W1.cell? ⟨gr,i*259+258,none⟩=some (.bool d.qc[i].hid):=by
   rw[hb.cell];exact hc 258 _ (qwI hso gU.out.n8)
  have q2:=uu.out.c2 gU.out;have hii:(i:Int)<(d.qc.length:Int):=by omega
  have hin:¬ (i:Int)<0:=by omega
  generalize d.qc[i].hid=hd at *;clear hf HFI hx hb hc hso hs;cases hd with
  | true =>
   have HF2:Hid (R=(0,14)):=by unfold Hid;simpa using HF.out
   go_wp2_with fail;go_ret2;rw[HF2.out];exact⟨rfl,qT.out⟩
  | false =>
   have HF2:Hid (R=((i:Int),0)):=by unfold Hid;simpa using HF.out
   go_wp2_with fail;go_ret2;rw[HF2.out];exact⟨rfl,qT.out⟩
theorem qef{own:Nat→Prop}{w w':World}{p:Nat}{d:CH}{r:Int}{e:Ending}(h:Is0 own w p d)(hb:Below w.heap.size w w')(he:e=.returned (.int .i64 r)):Aft Is0 own p (d,r) w e w'∧qB (fun j=>j=p) w w':=by
 obtain⟨h0,v,h1⟩:=h;exact⟨⟨he,own,⟨h0,v,h1.below hb⟩,qB.of_below hb,fun j hj=>.inl hj⟩,qB.of_below hb⟩
theorem qgV(n:Nat)(h8:n≤8):zm n (uO n) (.slice none 0 0)=zm n [] (.slice none 0 0):=by
 unfold zm;rw[qii n h8]
theorem qeg{ρ:Operand→Value}{o:Oper}{w:World}(x:Operand)(n:Nat)(ho:o.op=.build 172 #[(0,x)])(hx:ρ x=.int .i64 (n:Int)) :
    (execOp ρ o).run prog w=.ok (.value (.agg (zm n [] (.slice none 0 0)).toArray)) w:=by
 obtain⟨i0,hi,hz0,_,_⟩:=info_parts qsz;have hz:∀w,(zeroValue 172).run prog w=.ok (.agg (zm 0 [] (.slice none 0 0)).toArray) w:=fun w=>by simp[zeroValue,typeInfo,hi,hz0]
 have hb:(Instr.build 172 #[(0,.int .i64 (n:Int))]).run prog w=.ok (.agg (zm n [] (.slice none 0 0)).toArray) w:=by
  have e:(zm n [] (.slice none 0 0)).toArray=(zm 0 [] (.slice none 0 0)).toArray.set! 0 (.int .i64 (n:Int)):=rfl;rw[e];have hne:(zm 0 [] (.slice none 0 0)).toArray ≠ #[]:=by simp[zm]
  generalize (zm 0 [] (.slice none 0 0)).toArray=z0 at *;simp[Instr.build,hz,Result.andThen,go_sem,Value.cells];rw[if_neg hne];rfl
 simp[execOp,ho,hx,hb,Result.andThen]
theorem qgW(n:Nat)(l:List Bt)(v:Value)(hv:v.oneCell'=true):∀u∈zm n l v,u.oneCell'=true:=by
 intro u hu;unfold zm at hu;simp only[List.mem_cons,List.mem_append,List.not_mem_nil,or_false]at hu;rcases hu with rfl|hu|rfl
 ·rfl
 ·exact qg6 l u hu
 ·exact hv
def q2v (n:Nat)(w:World)(e:Ending)(w':World):Prop:=∃p own,e=.returned (.pointer (some ⟨p,0,none⟩))∧Is0 own w' p (bK n)∧Below w.heap.size w w'∧∀j,own j→w.heap.size≤j
theorem wq (n:Nat)(w:World)(h1:1≤n)(h8:n≤8):Calls prog 91 #[.int .i64 (n:Int)] w (q2v n w):=by
 have rY:¬ (n:Int)<1:=by omega
 have hi8:¬ (8:Int)<(n:Int):=by omega
 have HC:=QH (qgW n [] (.slice none 0 0) rfl);have HL:Hid ((zm n [] (.slice none 0 0)).length=258):=pT (n:=0) ⟨rfl,fun v hv=>by simp at hv⟩ (by omega);have HE:=QH (qgV n h8);obtain⟨C,hC⟩:=QE (zm n [] (.slice none 0 0));have HCC:=QH hC;rw[hC]at HC HL HE;clear hC;go_enter func91,ntmps91;go_wp2_with (first|(refine qh rfl (qeg _ n rfl rfl) ?_;rw[HCC.out])|(refine qh rfl (fu 172 (.tmp 10) C.toArray rfl rfl (by rw[qsy,List.size_toArray,HL.out]) (ku HC.out)) ?_));go_ret;refine⟨w.heap.size,fun j=>j=w.heap.size,rfl,⟨?_,.slice none 0 0,?_,?_,rfl,(fun k hk=>by cases hk),fun k hk=>by rw[hk];simp⟩,(Below.refl w.heap.size w).alloc (Nat.le_refl _) _,fun j hj=>by omega⟩
 ·have hl:(bK n).live.length=n:=by simp[bK,uO]
  exact⟨by rw[hl];exact qbg n,by rw[hl];exact h1,by rw[hl];exact h8,fun s hs=>by simp[bK]at hs,by simp[bK],fun s hs=>by simp[bK]at hs⟩
 ·have hl:(bK n).live.length=n:=by simp[bK,uO]
  show qd _ _ _ (zm (bK n).live.length (uO n) (.slice none 0 0)).toArray;rw[hl,HE.out];exact qd.new _ _ _
 ·exact⟨none,0,rfl,Nat.le_refl _,by unfold maxLen;omega,.inl ⟨rfl,rfl,rfl⟩⟩
theorem qgX{own:Nat→Prop}{w:World}{p:Nat}{d:CH}(k:Int)(s:Bt)(h:Is0 own w p d):Calls prog 164 #[.pointer (some ⟨p,0,none⟩),.int .i64 k,.string (str s)] w fun e w'=>Aft Is0 own p (d.write k s) w e w'∧qB (fun j=>j=p) w w':=by
 have HIS:=QH h;obtain⟨h0,v,hr⟩:=h;have HT:=QH (l9 hr.c0 k s);by_cases hg:0≤k∧k<(d.live.length:Int)∧s.length=32
 ·rw[decide_eq_true hg]at HT;obtain⟨m,rfl⟩:∃m:Nat,k=(m:Int):=⟨k.toNat,by omega⟩;have hm:m<d.live.length:=by omega
  have hw:d.write (m:Int) s=(⟨d.live.set m s,d.qc⟩,0):=by
   unfold CH.write;rw[if_neg (by omega)];rfl
  rw[hw];have HR:=QH hr;have gU:=QH h0;have HHM:=QH hm;have HS:=QH hg.2.2;have HN8:=QH h0.n8;clear hg hw hr h0 hm;go_enter func164,ntmps164;go_wp2_with fail;refine HT.out.mono ?_;rintro e W1 ⟨rfl,hb1⟩;have qT:=QH hb1;have uu:=QH (HR.out.below hb1);clear hb1 HT;go_wp2_with fail;refine(qs0 uu.out.blk (o:=1) (by rw[List.size_toArray,pT gU.out.live gU.out.n8];omega) m (by have:=HHM.out;have:=HN8.out;omega) s HS.out).mono ?_;rintro e W2 ⟨rfl,hW2⟩;have HW2:=QH hW2;clear hW2;go_wp2_with fail;go_ret;have mq:=qdG (m:=d.live.length) (v:=v) gU.out.live gU.out.n8 m s HHM.out;have hb:=uu.out.blk;have hbu:=p7 W1 p (zm d.live.length (d.live.set m s) v).toArray;have hk2:=oZ (c:=(zm d.live.length (d.live.set m s) v).toArray) hb;have e2:W2=W1.setRow p (zm d.live.length (d.live.set m s) v).toArray:=by
   rw[HW2.out,← mq]
  rw[← e2]at hbu hk2;have hl:(d.live.set m s).length=d.live.length:=List.length_set;have uK:qB (fun j=>j=p) w W2:=(qB.of_below (S:=fun j=>j=p) qT.out).trans hbu (fun _ h=>.inl h);refine⟨⟨rfl,own,⟨?_,v,?_,?_,uu.out.op,uu.out.om,fun j hj=>Nat.lt_of_lt_of_le (uu.out.low j hj) hbu.size⟩,uK.mono (fun j hj=>by rw[hj];exact HR.out.op),fun j hj=>.inl hj⟩,uK⟩
  ·have h0:=gU.out;have hvo:qY d.live.length (d.live.set m s):=qnr h0.live HS.out;exact⟨by rw[hl];exact hvo,by rw[hl];exact h0.n1,by rw[hl];exact h0.n8,by intro x hx;rw[hl];exact h0.qc x hx,h0.few,h0.sZ⟩
  ·show qd W2 p _ (zm (d.live.set m s).length (d.live.set m s) v).toArray;rw[hl];exact hk2
  ·exact uu.out.row.of_block (fun j hj=>hbu.block j (uu.out.row.lt j hj) (uu.out.vp j hj))
 ·rw[decide_eq_false hg]at HT;have hw:d.write k s=(d,2):=by
   unfold CH.write;rw[if_pos (by omega)]
  rw[hw];clear hg hw hr h0;go_enter func164,ntmps164;go_wp2_with fail;refine HT.out.mono ?_;rintro e W1 ⟨rfl,hb1⟩;have qT:=QH hb1;clear hb1 HT;go_wp2_with fail;go_ret;exact qef HIS.out qT.out rfl
theorem qau:∀(l:List Sn) (i:Nat),i<l.length→(∀s∈l,(sc s).length=259)→(dw l).set (i*259+258) (.bool true)=dw (kW l i)
 | x::l,0,_,h=>by
  have hx:=h x (by simp);have hv:(vc x.bs).length=256:=by
   unfold sc at hx;simpa using hx
  show(sc x++dw l).set (0*259+258) (.bool true)=sc { x with hid:=true }++dw l;rw[List.set_append_left _ _ (by omega)]
  congr 1
  unfold sc;rw[List.set_append_right _ _ (by omega),hv];rfl
 | x::l,i+1,hi,h=>by
  have ih:=qau l i (by simpa using hi) (fun s hs=>h s (by simp[hs]));have hx:=h x (by simp);have e:kW (x::l) (i+1)=x::kW l i:=by simp[kW]
  rw[e];show(sc x++dw l).set ((i+1)*259+258) (.bool true)=sc x++dw (kW l i);rw[List.set_append_right _ _ (by omega),hx,show(i+1)*259+258-259=i*259+258 by omega,ih]
theorem ve.qnq{w:World}{own:Nat→Prop}{p g c:Nat}{cur:Array Value}{d:CH}(h:ve w own p (.slice (some ⟨g,0,none⟩) d.qc.length c) d)(ho:d.ok)(hb:qd w g 174 cur)(ht:cur.toList.take (d.qc.length*259)=dw d.qc)(i:Nat)(hi:i<d.qc.length) :
    ve (w.setCell ⟨g,i*259+258,none⟩ (.bool true)) own p (.slice (some ⟨g,0,none⟩) d.qc.length c) ⟨d.live,kW d.qc i⟩:=by
 have hgp:=h.vp g rfl;obtain⟨A',c',e,h1,h2,_⟩:=h.row;simp only[Value.slice.injEq,true_and]at e;obtain⟨rfl,rfl⟩:=e;have rQ:(kW d.qc i).length=d.qc.length:=by unfold kW;rw[List.length_modify]
 refine⟨h.blk.of_block (qy _ _ _ _ _ hgp.symm),?_,h.op,h.om,fun j hj=>?_⟩
 ·refine⟨some ⟨g,0,none⟩,c,by rw[rQ],by rw[rQ];exact h1,h2,.inr ⟨g,_,rfl,hb.qo (i*259+258) (.bool true),?_⟩⟩;show(cur.setIfInBounds _ _).toList.take ((kW d.qc i).length*259)=dw (kW d.qc i);rw[rQ,Array.toList_setIfInBounds,List.take_set,ht];exact qau d.qc i hi (fun s hs=>kZ (ho.qc s hs) ho.n8)
 ·have:=h.low j hj;simpa[World.setCell]using this
theorem qgY{n:Nat}(l:List Bt)(g:Gd)(hl:qY n l)(h8:n≤8)(w:World) :
    (Instr.build 174 #[(0,.agg (vc l).toArray),(1,.agg #[.int .u64 (g.1:Int),.int .u64 (g.2:Int)])]).run prog w=.ok (.agg (sc ⟨g,l,false⟩).toArray) w:=by
 obtain⟨i0,hi,hz0,_,_⟩:=info_parts nb;have hz:(zeroValue 174).run prog w=.ok (.agg (sc z0).toArray) w:=by simp[zeroValue,typeInfo,hi,hz0]
 have hzl:(sc z0).length=259:=kZ (n:=0) ⟨rfl,fun v hv=>by simp[z0]at hv⟩ (by omega);have hzd:(sc z0).drop 256=[.int .u64 0,.int .u64 0,.bool false]:=by
  have h:=yb (n:=0) (l:=z0.bs) ⟨rfl,fun v hv=>by simp[z0]at hv⟩ (by omega);unfold sc;rw[List.drop_left' h];rfl
 have hvl:=yb hl h8;have s1:=nd (t:=169) bm w;have s2:=nd (t:=38) qpq w;have s3:=nd (t:=4) (n:=1) (by kernel_rfl) w;have hf:∀place:Nat→Option (Nat × Nat),place 0=some (0,256)→place 1=some (256,2)→Instr.fill place (sc z0).toArray [(0,.agg (vc l).toArray),(1,.agg #[.int .u64 (g.1:Int),.int .u64 (g.2:Int)])]=some (sc ⟨g,l,false⟩).toArray:=by
  intro place h0 h1;rw[iU _ _ 0 0 256 _ _ h0 (by simp[hvl]) (by simp[hzl])];have e1:((sc z0).toArray.toList.take 0++(vc l).toArray.toList++(sc z0).toArray.toList.drop (0+256))=vc l++[.int .u64 0,.int .u64 0,.bool false]:=by
   simp[hzd]
  rw[e1,iU _ _ 1 256 2 _ _ h1 rfl (by simp[hvl])];simp only[Instr.fill]
  congr 1
  apply Array.ext';show(vc l++[Value.int .u64 0,.int .u64 0,.bool false]).take 256++[Value.int .u64 (g.1:Int),.int .u64 (g.2:Int)]++(vc l++[Value.int .u64 0,.int .u64 0,.bool false]).drop 258=sc ⟨g,l,false⟩;rw[List.take_left' hvl,show 258=(vc l).length+2 by rw[hvl],List.drop_append];unfold sc;simp
 generalize (vc l).toArray=V at *;generalize (sc ⟨g,l,false⟩).toArray=R at *;generalize (sc z0).toArray=Z at *;clear hzd hzl hvl hi hz0;simp only[Instr.build,Sem.run_bind,hz,Result.andThen_ok,Value.cells,run_underlying underlying174]
 have hm:∀(K:Array (Nat × Nat)→World→Result Value),K #[(0,256),(256,2),(258,1)] w=.ok (.agg R) w→((Array.mapM
         (fun f:Field=>do
          let z ← sizeOf f.type
          pure (f.offset,z))
         #[{ name := "volume",type:=169,offset:=0,embedded:=true,tag := "",pkgPath := "stemma/chain",byteOffset:=0 },
          { name := "guid",type:=38,offset:=256,embedded:=false,tag := "",pkgPath := "stemma/chain",byteOffset:=256 },
          { name := "hidden",type:=4,offset:=258,embedded:=false,tag := "",pkgPath := "stemma/chain",byteOffset:=272 }]).run prog w).andThen K=.ok (.agg R) w:=by
  intro K hK;simp only[List.mapM_toArray,List.mapM_cons,List.mapM_nil,Sem.run_bind,s1,s2,s3,Result.andThen_ok,Sem.run_pure,Functor.map,Sem.run_map];exact hK
 refine hm _ ?_;rw[hf _ rfl rfl];rfl
theorem qeh{ρ:Operand→Value}{o:Oper}{w:World}{n:Nat}(x y:Operand)(l:List Bt)(g:Gd)(y1 y2:Int)(h1:(g.1:Int)=y1)(h2:(g.2:Int)=y2)(ho:o.op=.build 174 #[(0,x),(1,y)])(hx:ρ x=.agg (vc l).toArray)(hy:ρ y=.agg #[.int .u64 y1,.int .u64 y2])(hl:qY n l)(h8:n≤8) :
    (execOp ρ o).run prog w=.ok (.value (.agg (sc ⟨g,l,false⟩).toArray)) w:=by
 subst h1;subst h2;have hb:=qgY l g hl h8 w;simp[execOp,ho,hx,hy,hb,Result.andThen]
def SpG (p:Nat)(V S:List Value)(y1 y2:Int):Nat→Value→World→Prop
 | 0,v,_=>v=.pointer (some ⟨p,0,none⟩)
 | 1,v,_=>v=.pointer (some ⟨p,0,none⟩)
 | 2,v,_=>v=.pointer (some ⟨p,0,none⟩)
 | 3,v,_=>v=.pointer (some ⟨p,1,none⟩)
 | 4,v,_=>v=.agg V.toArray
 | 5,v,_=>v=.agg #[.int .u64 y1,.int .u64 y2]
 | 6,v,_=>v=.agg S.toArray
 | _,_,_=>True
theorem qpx(p:Nat)(V S:List Value)(y1 y2:Int)(i:Nat)(v:Value)(w w':World)(hi:i<7)(h:SpG p V S y1 y2 i v w)(_:Below w.heap.size w w'):SpG p V S y1 y2 i v w':=by
 match i,hi,h with
 | 0,_,h | 1,_,h | 2,_,h | 3,_,h | 4,_,h | 5,_,h | 6,_,h=>exact h
theorem qkJ{own:Nat→Prop}{w:World}{p:Nat}{d:CH}(h:Is0 own w p d)(g:Gd)(hg:xF g):Calls prog 93 #[.pointer (some ⟨p,0,none⟩),gv g] w fun e w'=>Aft Is0 own p (d.snap g) w e w'∧qB (fun j=>j=p) w w':=by
 have hb0:=(Below.refl w.heap.size w).alloc (Nat.le_refl _) (.cells #[.int .u64 (g.1:Int),.int .u64 (g.2:Int)] 38);have HIS:=QH h;obtain⟨h0,v,hr⟩:=h;have hr1:=hr.below hb0;have jw:=QH hb0;have fX:=QH hr1;have gU:=QH h0;have HG:=QH hg;have HM:=QH (qsO (⟨h0,v,hr1⟩:Is0 own _ p d) g);obtain⟨y1,hy1⟩:=QE (g.1:Int);obtain⟨y2,hy2⟩:=QE (g.2:Int);have HY1:=QH hy1;have HY2:=QH hy2;unfold gv at HM ⊢;rw[hy1,hy2]at HM jw fX ⊢;clear hb0 hg hy1 hy2 hr1 hr h0;have jC:Hid (d.snap g=if d.may g=0 then(⟨d.live,d.qc++[⟨g,d.live,false⟩]⟩,0)else(d,d.may g)):=rfl;have HMZ:=QH (fun h=>qns (c:=d) (g:=g) h);obtain⟨m,hm⟩:=QE (d.may g);rw[hm]at HM jC HMZ;clear hm;obtain⟨W0,hW0⟩:=QE (w.alloc (.cells #[.int .u64 y1,.int .u64 y2] 38));rw[hW0]at HM fX jw;have q0:W0.cell? ⟨w.heap.size,0,none⟩=some (.int .u64 y1):=by rw[← hW0];exact(qd.new w _ _).cell 0
 have q1:W0.cell? ⟨w.heap.size,1,none⟩=some (.int .u64 y2):=by rw[← hW0];exact(qd.new w _ _).cell 1
 have HS0:Hid (w.heap.size<W0.heap.size):=by unfold Hid;rw[← hW0];simp
 have Q0:=QH q0;have Q1:=QH q1;go_enter func93,ntmps93;go_wp2_with fail;clear hW0;refine HM.out.mono ?_;rintro e W1 ⟨rfl,hb1⟩;have qT:=QH (jw.out.trans (hb1.mono jw.out.size));have uu:=QH (fX.out.below hb1);have R0:Hid (W1.cell? ⟨w.heap.size,0,none⟩=some (.int .u64 y1)):=(hb1.cell (p:=⟨w.heap.size,0,none⟩) HS0.out).trans Q0.out;have R1:Hid (W1.cell? ⟨w.heap.size,1,none⟩=some (.int .u64 y2)):=(hb1.cell (p:=⟨w.heap.size,1,none⟩) HS0.out).trans Q1.out;have dO:Hid (w.heap.size<W1.heap.size):=Nat.lt_of_lt_of_le HS0.out hb1.size;clear hb1 HM fX jw q0 q1 Q0 Q1 HS0;by_cases hz:m=0
 ·subst hz;have hsn:=jC.out;rw[if_pos rfl]at hsn;have HSD:=QH hsn;obtain⟨_,qgU⟩:=HMZ.out rfl;have qsQ:=QH qgU;clear hsn jC HMZ qgU;have HVL:Hid ((vc d.live).length=256):=yb gU.out.live gU.out.n8;have HVC:Hid (∀j u,(vc d.live)[j]?=some u→(zm d.live.length d.live v).toArray[1+j]?=some u):=fun j u hu=>by simpa using qks (m:=d.live.length) (v:=v) j u hu
  go_wp2_with fail;refine qV (by kernel_rfl) 7 [12,13,14,15,16,17,18] (by kernel_rfl) (SpG p (vc d.live) (sc ⟨g,d.live,false⟩) y1 y2) (qpx _ _ _ _ _) ?_ ?_
  ·intro i o vs ρ W hi hop hρ hfn hb hG;have t0:ρ (.tmp 0)=.pointer (some ⟨p,0,none⟩):=hρ.out 0 rfl;have t3:ρ (.tmp 3)=.pointer (some ⟨w.heap.size,0,none⟩):=hρ.out 3 rfl;have tv:=hρ.at_ 13 1 rfl;have s14:=hρ.at_ 14 2 rfl;have s15:=hρ.at_ 15 3 rfl;have s16:=hρ.at_ 16 4 rfl;have s17:=hρ.at_ 17 5 rfl;have r0:W.cell? ⟨w.heap.size,0,none⟩=some (.int .u64 y1):=(hb.cell (p:=⟨w.heap.size,0,none⟩) dO.out).trans R0.out;have r1:W.cell? ⟨w.heap.size,1,none⟩=some (.int .u64 y2):=(hb.cell (p:=⟨w.heap.size,1,none⟩) dO.out).trans R1.out;rcases i with _|_|_|_|_|_|_|i;all_goals (first|omega|skip)
   all_goals simp only[QA,QB,QC,Option.some.injEq]at hop
   all_goals subst hop
   ·exact q9 (w':=W) (by unfold execOp;simp only[t0];go_simp) ⟨Below.refl _ _,rfl⟩
   ·exact q9 (w':=W) (by unfold execOp;simp only[t0];go_simp) ⟨Below.refl _ _,rfl⟩
   ·have g1:vs 1=_:=hG 1 (by kernel_rfl);exact q9 (w':=W) (by unfold execOp;simp only[tv,g1];go_simp) ⟨Below.refl _ _,rfl⟩
   ·have g2:vs 2=_:=hG 2 (by kernel_rfl);exact q9 (w':=W) (by unfold execOp;simp only[s14,g2];go_simp) ⟨Below.refl _ _,rfl⟩
   ·have g3:vs 3=_:=hG 3 (by kernel_rfl);exact q9 (w':=W) (qF 169 (.tmp 15) rfl p 1 (s15.trans g3) _ _ (vc d.live) _ _ (uu.out.below hb).blk underlying169 rfl (by rw[bm,HVL.out]) HVC.out) ⟨Below.refl _ _,rfl⟩
   ·exact q9 (w':=W) (by unfold execOp;simp only[t3];go_simp) ⟨Below.refl _ _,rfl⟩
   ·have g4:vs 4=_:=hG 4 (by kernel_rfl);have g5:vs 5=_:=hG 5 (by kernel_rfl);exact q9 (w':=W) (qeh (.tmp 16) (.tmp 17) d.live g y1 y2 HY1.out HY2.out rfl (s16.trans g4) (s17.trans g5) gU.out.live gU.out.n8) ⟨Below.refl _ _,rfl⟩
  ·intro vs W hb hG;have g0:vs 0=_:=hG 0 (by decide);have g6:vs 6=_:=hG 6 (by decide);simp only[qX,qK,if_true];rw[g0,g6];generalize vs 1=z1;generalize vs 2=z2;generalize vs 3=z3;generalize vs 4=z4;generalize vs 5=z5;have B2:=QH (qT.out.trans (hb.mono qT.out.size));have jO:=QH (uu.out.below hb);clear hG g0 g6 hb;simp only[Act.put,List.setIfInBounds_toArray,List.set_cons_succ,List.set_cons_zero];have HPU:=QH (kA jO.out gU.out qsQ.out ⟨g,d.live,false⟩ gU.out.live);obtain⟨S,hS⟩:=QE (sc ⟨g,d.live,false⟩);rw[hS]at HPU ⊢;clear hS;refine qM (i:=7) (by kernel_rfl) rfl rfl ?_;go_simp;refine HPU.out.mono ?_;rintro e W3 ⟨rfl,v',yK,hp3,q2x,hgr⟩;have HP3:=QH hp3;have HBU:=QH ((qB.of_below (S:=fun j=>j=p) B2.out).trans q2x (fun _ h=>.inl h));have HGR:Hid (∀j,yK j→own j∨w.heap.size≤j):=fun j hj=>by
    rcases hgr j hj with h|h
    ·exact .inl h
    ·have:=B2.out.size;exact .inr (by omega)
   clear hp3 q2x hgr HPU;go_simp;refine⟨by kernel_rfl,?_⟩;go_wp2_with fail;go_ret;rw[HSD.out];exact⟨⟨rfl,yK,⟨qps gU.out _ qsQ.out gU.out.live HG.out,v',HP3.out⟩,HBU.out.mono (fun j hj=>by rw[hj];exact uu.out.op),HGR.out⟩,HBU.out⟩
 ·have hc:(m == 0)=false:=beq_false_of_ne hz;have hcn:(m != 0)=true:=by simpa using hz
  have hsn:=jC.out;rw[if_neg hz]at hsn;have HSD:=QH hsn;clear hsn jC HMZ uu;go_wp2_with fail;go_ret;rw[HSD.out];exact qef HIS.out qT.out rfl
def AdG (p:Nat)(v0:Value)(S V N:List Value)(y1 y2:Int)(B:Nat):Nat→Value→World→Prop
 | 0,v,_=>v=.pointer (some ⟨p,0,none⟩)
 | 1,v,_=>v=.pointer (some ⟨p,0,none⟩)
 | 2,v,_=>v=.pointer (some ⟨p,257,none⟩)
 | 3,v,_=>v=v0
 | 4,v,_=>v=.agg S.toArray
 | 5,v,_=>v=.agg V.toArray
 | 6,v,_=>v=.agg #[.int .u64 y1,.int .u64 y2]
 | 7,v,_=>v=.agg N.toArray
 | 8,v,w=>∃g Z,v=.pointer (some ⟨g,0,none⟩)∧B≤g∧qd w g 174 Z∧Z.size=259
 | _,_,_=>True
theorem qdm(p:Nat)(v0:Value)(S V N:List Value)(y1 y2:Int)(B:Nat)(i:Nat)(v:Value)(w w':World)(hi:i<9)(h:AdG p v0 S V N y1 y2 B i v w)(hb:Below w.heap.size w w'):AdG p v0 S V N y1 y2 B i v w':=by
 match i,hi,h with
 | 0,_,h | 1,_,h | 2,_,h | 3,_,h | 4,_,h | 5,_,h | 6,_,h | 7,_,h=>exact h
 | 8,_,⟨g,Z,h1,h2,h3,h4⟩=>exact⟨g,Z,h1,h2,h3.below hb,h4⟩
end Go.Proofs.YtdpbdkacngaemaaGreatDoor.ch.pg
namespace Go.Proofs.YtdpbdkacngaemaaGreatDoor.ch.pg
open _root_.Go.Proofs.Tryz Go Go.RowKit ib
theorem qsR(w:World):(sizeOf 5).run prog w=.ok 1 w:=by
 obtain⟨i0,hi,hz0,hz1,hz2⟩:=info_parts Tryz.ny;simp[sizeOf,typeInfo,hi,hz1]
theorem qpy(d:Nat)(x y:Bt)(hx:x.length=32)(hy:y.length=32)(w:World) :
    (Op.equalIn (d+2) 145 (.agg (Lib.byteCells x).toArray) (.agg (Lib.byteCells y).toArray)).run prog w=.ok (decide (x=y)) w:=by
 have h:=run_equalIn_bytes (P:=prog) w d 145 5 32 underlying145 underlying5 qsR x y hx hy;have e:decide (x=y)=(x == y):=by rw[Bool.eq_iff_iff];simp
 rw[e];exact h
theorem qei(ps:List Bt)(h:∀v∈ps,(Lib.byteCells v).length=32)(k:Nat)(hk:k<ps.length)(w:World) :
    (part 145 (ps.flatMap Lib.byteCells).toArray (k*32)).run prog w=.ok (.agg (Lib.byteCells ps[k]).toArray) w:=by
 have ha:(isAgg 145).run prog w=.ok true w:=by
  unfold isAgg;rw[Sem.run_bind,run_underlying underlying145 w];rfl
 have hz:(sizeOf 145).run prog w=.ok 32 w:=by
  cases hq:prog.info? 145 with
  | none=>have:=vF;simp[hq]at this
  | some i =>
   have:=vF;simp[hq]at this;simp[sizeOf,typeInfo,hq,this]
 have he:((ps.flatMap Lib.byteCells).toArray.extract (k*32) (k*32+32))=(Lib.byteCells ps[k]).toArray:=by
  apply Array.ext';rw[Array.toList_extract];rw[List.extract_eq_take_drop,show k*32+32-k*32=32 by omega];rw[qbC ps k h,List.drop_eq_getElem_cons hk,List.flatMap_cons,List.take_left' (h _ (List.getElem_mem hk))]
 simp only[part,Sem.run_bind,ha,Result.andThen_ok,if_true,hz,Sem.run_pure,he]
theorem qav(d:Nat)(ps qs:List Bt)(hp:∀v∈ps,v.length=32)(hq:∀v∈qs,v.length=32)(w:World):∀is:List Nat,(∀i∈is,i<ps.length∧i<qs.length) →
    (Op.eqItems (d+2) 145 32 (ps.flatMap Lib.byteCells).toArray (qs.flatMap Lib.byteCells).toArray is).run prog w=.ok (is.all fun i=>decide (ps[i]?=qs[i]?)) w
 | [],_=>by simp[Op.eqItems]
 | i::is,h=>by
  obtain⟨h1,h2⟩:=h i (by simp);have ih:=qav d ps qs hp hq w is (fun j hj=>h j (by simp[hj]));have p1:=qei ps (fun v hv=>by rw[Lib.byteCells_length,hp v hv]) i h1 w;have p2:=qei qs (fun v hv=>by rw[Lib.byteCells_length,hq v hv]) i h2 w;have p3:=qpy d ps[i] qs[i] (hp _ (List.getElem_mem h1)) (hq _ (List.getElem_mem h2)) w;have e:decide (ps[i]?=qs[i]?)=decide (ps[i]=qs[i]):=by
   rw[List.getElem?_eq_getElem h1,List.getElem?_eq_getElem h2];simp
  rw[List.all_cons,e];obtain⟨b,hb⟩:=QE (decide (ps[i]=qs[i]));rw[hb]at p3 ⊢;generalize (is.all fun i=>decide (ps[i]?=qs[i]?))=r at *;generalize ps[i]=x at *;generalize qs[i]=y at *;generalize (ps.flatMap Lib.byteCells).toArray=P at *;generalize (qs.flatMap Lib.byteCells).toArray=Q at *;generalize Lib.byteCells x=X at *;generalize Lib.byteCells y=Y at *;have hu:Op.eqItems (d+2) 145 32 P Q (i::is)=(do
   let a ← part 145 P (i*32)
   let b ← part 145 Q (i*32)
   let r ← Op.equalIn (d+2) 145 a b
   if (!r)=true then pure false else Op.eqItems (d+2) 145 32 P Q is):=rfl
  rw[hu,Sem.run_bind,p1,Result.andThen_ok,Sem.run_bind,p2,Result.andThen_ok,Sem.run_bind,p3,Result.andThen_ok];cases b
  ·rfl
  ·exact ih
theorem qxp{n:Nat}(p q:List Bt)(hp:qY n p)(hq:qY n q)(h8:n≤8)(w:World) :
    (Op.equalIn 10000 169 (.agg (vc p).toArray) (.agg (vc q).toArray)).run prog w=.ok (decide (p=q)) w:=by
 cases hi:prog.info? 145 with
 | none=>have:=vF;simp[hi]at this
 | some i =>
  have hc:prog.cellsOf 145=32:=by
   have:=vF;simp[hi]at this;simp[Program.cellsOf,hi,this]
  rw[show(10000:Nat)=9999+1 from rfl,run_equalIn_array w 9999 _ _ underlying169 hi,hc];unfold vc;rw[show(9999:Nat)=9997+2 from rfl,qav 9997 (pad p) (pad q) (pS hp) (pS hq) w (List.range 8) (fun j hj=>by rw[vE hp h8,vE hq h8];have:=List.mem_range.1 hj;omega)]
  congr 1
  rw[Bool.eq_iff_iff];simp only[List.all_eq_true,List.mem_range,decide_eq_true_eq];constructor
  ·intro h;refine qsx (hp.1.trans hq.1.symm) (List.ext_getElem? fun j=>?_);by_cases hj:j<8
   ·exact h j hj
   ·rw[List.getElem?_eq_none (by rw[vE hp h8];omega),List.getElem?_eq_none (by rw[vE hq h8];omega)]
  ·rintro rfl j _;rfl
theorem qgZ{ρ:Operand→Value}{o:Oper}{w:World}{n:Nat}(x y:Operand)(p q:List Bt)(ho:o.op=.binOp .eql 169 x y 169)(hx:ρ x=.agg (vc p).toArray)(hy:ρ y=.agg (vc q).toArray)(hp:qY n p)(hq:qY n q)(h8:n≤8) :
    (execOp ρ o).run prog w=.ok (.value (.bool (decide (p=q)))) w:=by
 have he:=qxp p q hp hq h8 w;have hg:=run_eqGuard_agg (P:=prog) w .eql 169 x y (vc p).toArray (vc q).toArray Tryz.eqGuardType169;have hb:(binOp .eql 169 (.agg (vc p).toArray) (.agg (vc q).toArray)).run prog w=.ok (.bool (decide (p=q))) w:=by
  rw[run_eql_struct,he];rfl
 simp[execOp,ho,hx,hy,hg,hb,Result.andThen]
theorem qha{ρ:Operand→Value}{o:Oper}{w:World}(x y:Operand)(p q:Bt)(ho:o.op=.binOp .neq 145 x y 145)(hx:ρ x=.agg (Lib.byteCells p).toArray)(hy:ρ y=.agg (Lib.byteCells q).toArray)(hp:p.length=32)(hq:q.length=32) :
    (execOp ρ o).run prog w=.ok (.value (.bool (!decide (p=q)))) w:=by
 have he:=qpy 9998 p q hp hq w;have hg:=run_eqGuard_agg (P:=prog) w .neq 145 x y (Lib.byteCells p).toArray (Lib.byteCells q).toArray Tryz.eqGuardType145;have hb:(binOp .neq 145 (.agg (Lib.byteCells p).toArray) (.agg (Lib.byteCells q).toArray)).run prog w=.ok (.bool (!decide (p=q))) w:=by
  rw[run_neq_struct,he];rfl
 simp[execOp,ho,hx,hy,hg,hb,Result.andThen]
end Go.Proofs.YtdpbdkacngaemaaGreatDoor.ch.pg
namespace Go.Proofs.YtdpbdkacngaemaaGreatDoor.ch.pg
open _root_.Go.Proofs.Tryz Go Go.RowKit Go.Sort ib
theorem qxq:(prog.info? 145).map (fun i=>(i.zero,i.size,i.bytes))=some (some (.agg (Lib.byteCells zz).toArray),32,32):=by kernel_rfl
theorem qej(l:List Bt)(k:Nat)(h:k<l.length):(pad l).getD k []=l.getD k []:=by
 unfold pad;rw[List.getD_eq_getElem?_getD,List.getD_eq_getElem?_getD,List.getElem?_append_left h]
theorem mi {n:Nat}{l:List Bt}(h:qY n l)(k:Nat)(hk:n≤k)(h8:k<8):(pad l).getD k []=zz:=by
 have h2:=h.1;unfold pad;rw[List.getD_eq_getElem?_getD,List.getElem?_append_right (by omega),List.getElem?_replicate,if_pos (by omega)];simp
theorem rr {α β:Type}{f g:α→Option β}:∀ {l:List α},(∀x∈l,f x=g x)→l.filterMap f=l.filterMap g
 | [],_=>rfl
 | x::l,h=>by
  rw[List.filterMap_cons,List.filterMap_cons,h x (by simp),rr (l:=l) fun y hy=>h y (by simp[hy])]
theorem qhb{p q:List Bt}(k:Nat)(hp:k≤p.length)(hq:k≤q.length):sK (pad p) (pad q) k=sK p q k:=by
 unfold sK;refine rr fun i hi=>?_;have:=List.mem_range.1 hi;rw[qej p i (by omega),qej q i (by omega)]
theorem ru {n:Nat}{p q:List Bt}(hp:qY n p)(hq:qY n q):∀j,n+j≤8→sK (pad p) (pad q) (n+j)=sK p q n
 | 0,_=>qhb n (by rw[hp.1];omega) (by rw[hq.1];omega)
 | j+1,h=>by
  rw[← Nat.add_assoc,qdE _ _ _ (by rw[mi hp _ (by omega) (by omega),mi hq _ (by omega) (by omega)]),ru hp hq j (by omega)]
theorem qsS{n:Nat}{p q:List Bt}(hp:qY n p)(hq:qY n q)(h8:n≤8):sK (pad p) (pad q) 8=wE p q:=by
 have:=ru hp hq (8-n) (by omega);rw[show n+(8-n)=8 by omega]at this;rw[this];unfold wE sK;rw[hq.1]
theorem qhc(p:List Bt):wE p p=[]:=by
 unfold wE;simp
def GcG (b o k B:Nat)(X:Bt):Nat→Value→World→Prop
 | 0,v,_=>v=.int .i64 (k:Int)
 | 1,v,_=>v=.pointer (some ⟨b,o,none⟩)
 | 2,v,_=>v=.pointer (some ⟨b,o+k*32,none⟩)
 | 3,v,_=>v=.agg (Lib.byteCells X).toArray
 | 4,v,w=>∃g,v=.pointer (some ⟨g,0,none⟩)∧B≤g∧qd w g 145 (Lib.byteCells zz).toArray
 | 5,v,_=>v=.int .i64 (k:Int)
 | _,_,_=>True
theorem qpz(b o k B:Nat)(X:Bt)(i:Nat)(v:Value)(w w':World)(hi:i<6)(h:GcG b o k B X i v w)(hb:Below w.heap.size w w'):GcG b o k B X i v w':=by
 match i,hi,h with
 | 0,_,h | 1,_,h | 2,_,h | 3,_,h | 5,_,h=>exact h
 | 4,_,⟨g,h1,h2,h3⟩=>exact⟨g,h1,h2,h3.below hb⟩
def q2y (P Q:List Bt)(q:List Bt)(w:World)(v i:Value)(wr:World):Prop :=
 ∃k:Nat,k≤8∧i=.int .i64 (k:Int)∧xL wr w.heap.size v (sK P Q k)∧Below w.heap.size w wr∧qd wr w.heap.size 169 (vc q).toArray
def qsT (A:Option Addr)(cc n:Nat):Prop:=n≤cc∧((A=none∧cc=0)∨∃b o,A=some ⟨b,o,none⟩)
theorem xL.quC{w:World}{B:Nat}{v:Value}{l:List (Int × Bt)}(h:xL w B v l)(hz:∀x∈l,kC x.1):∃a c,v=.slice a l.length c∧kR w a l∧(∀b o,a=some ⟨b,o,none⟩→B≤b∧b<w.heap.size)∧qsT a c l.length:=by
 obtain⟨a,c,rfl,h1,h2⟩:=h.qo9 hz;rcases h.2 with⟨e1,e2⟩|⟨g,cap,cur,e1,e2,e3,e4,e5⟩
 ·simp only[Value.slice.injEq]at e1;obtain⟨rfl,e3,rfl⟩:=e1;exact⟨none,0,rfl,h1,h2,by omega,.inl ⟨rfl,rfl⟩⟩
 ·simp only[Value.slice.injEq]at e1;obtain⟨rfl,e3,rfl⟩:=e1;exact⟨_,_,rfl,h1,h2,e4,.inr ⟨g,0,rfl⟩⟩
def q2z (D:List (Int × Bt))(w:World)(e:Ending)(w':World):Prop:=∃A cc,e=.returned (.slice A D.length cc)∧kR w' A D∧(wb w w' A∧qsT A cc D.length)∧Below w.heap.size w w'
theorem qbL{w:World}{b o n:Nat}{t:TypeId}{cs:Array Value}{p q:List Bt}(h:qd w b t cs)(hc:∀j u,(vc p)[j]?=some u→cs[o+j]?=some u)(hp:qY n p)(hq:qY n q)(h8:n≤8) :
    Calls prog 167 #[.pointer (some ⟨b,o,none⟩),.agg (vc q).toArray] w (q2z (wE q p) w):=by
 obtain⟨i0,hi,hz0,hz1,hz2⟩:=info_parts jU;obtain⟨i2,mr,hy0,hy1,hy2⟩:=info_parts qxq;have HB:=QH h;have HC:=QH hc;have HP:=QH hp;have HQ:=QH hq;have dt:Hid (b<w.heap.size):=h.lt;have HVQ:Hid ((vc q).length=256):=yb hq h8;have HVP:Hid ((vc p).length=256):=yb hp h8;have HN:=QH (qd.new w 169 (vc q).toArray);have HI2:=QH mr;have HY0:=QH hy0;have qT:=QH (h.of_block (Below.heap_alloc w (.cells (vc q).toArray 169) _ h.lt));have HDP:Hid (sK (pad q) (pad p) 8=wE q p):=qsS hq hp h8;have HSM:Hid (p=q→wE q p=[]):=fun e=>by rw[e];exact qhc q
 obtain⟨D,hD⟩:=QE (wE q p);rw[hD]at HDP HSM ⊢;clear h hc hp hq mr hy0 hy1 hy2 hD;go_enter func167,ntmps167;go_wp2_with (refine qh rfl (fu 169 (.tmp 1) (vc q).toArray rfl rfl (by rw[bm,List.size_toArray,HVQ.out]) (ku (qg6 q))) ?_);refine xe 4 (by kernel_rfl) (by kernel_rfl) ?_;simp only[List.take_succ_cons,List.take_zero,List.drop_succ_cons,List.drop_zero]
 iterate 2 still_step
 refine yE rfl (qF _ _ rfl b o rfl _ cs (vc p) _ _ qT.out underlying169 rfl (by rw[bm,HVP.out]) HC.out) ?_;refine yE rfl (qF _ _ rfl w.heap.size 0 rfl _ _ (vc q) _ _ HN.out underlying169 rfl (by rw[bm,HVQ.out]) (fun j u hu=>by rw[Nat.zero_add];simpa using hu)) ?_;refine wpStill_nil ?_;refine qh rfl (qgZ _ _ p q rfl rfl rfl HP.out HQ.out h8) ?_;by_cases hpq:p=q
 ·obtain rfl:=HSM.out hpq;rw[decide_eq_true hpq];clear hpq HDP;go_wp2_with fail;go_ret;exact⟨none,0,rfl,kR.nil _ _,⟨wb.none _ _,Nat.le_refl _,.inl ⟨rfl,rfl⟩⟩,qig ((Below.refl w.heap.size w).alloc (Nat.le_refl _) _) 1⟩
 ·rw[decide_eq_false hpq];have yy:Hid (Below w.heap.size w (w.alloc (.cells (vc q).toArray 169)).drew):=qig ((Below.refl w.heap.size w).alloc (Nat.le_refl _) _) 1;have au:Hid (qd (w.alloc (.cells (vc q).toArray 169)).drew w.heap.size 169 (vc q).toArray):=HN.out;clear hpq HN qT HSM;generalize (w.alloc (.cells (vc q).toArray 169)).drew=W1 at *;go_wp2_with fail;go_loopw [5,15] (fun v i wr=>q2y (pad q) (pad p) q w v i wr) (fun _ i _=>8-(intOf i).toNat);case atStart=>exact⟨0,Nat.zero_le _,rfl,World.ownsRow_nil _ _ _ _,yy.out,au.out⟩
  case round =>
   obtain⟨k,hk,rfl,ho,hB,hV⟩:=hrel;have HO:=QH ho;have bH:=QH hB;have HV:=QH hV;clear ho hB hV yy au;by_cases hlt:k<8
   ·have yr:(k:Int)<8:=by omega
    have hp8:k<(pad p).length:=by rw[vE HP.out h8];exact hlt
    have hq8:k<(pad q).length:=by rw[vE HQ.out h8];exact hlt
    have HX:Hid ((pad p)[k].length=32):=pS HP.out _ (List.getElem_mem hp8);have HY:Hid ((pad q)[k].length=32):=pS HQ.out _ (List.getElem_mem hq8);have HXC:Hid (∀j u,(Lib.byteCells (pad p)[k])[j]?=some u→cs[o+k*32+j]?=some u):=fun j u hu=>by
     rw[Nat.add_assoc];exact HC.out _ _ (qg7 HP.out k hp8 j u hu)
    have HYC:Hid (∀j u,(Lib.byteCells (pad q)[k])[j]?=some u→(vc q).toArray[k*32+j]?=some u):=fun j u hu=>by
     simpa using qg7 HQ.out k hq8 j u hu
    have HXD:Hid ((pad p).getD k []=(pad p)[k]):=by unfold Hid;rw[List.getD_eq_getElem?_getD,List.getElem?_eq_getElem hp8];rfl
    have HYD:Hid ((pad q).getD k []=(pad q)[k]):=by unfold Hid;rw[List.getD_eq_getElem?_getD,List.getElem?_eq_getElem hq8];rfl
    have HDS:=QH (qdE (pad q) (pad p) k);have HDM:=QH (qoA (pad q) (pad p) k);have HDL:=QH (qsv (pad q) (pad p) k);have HDB:=QH (qif (pad q) (pad p) (k+1) (by omega));rw[HXD.out,HYD.out]at HDS HDM;clear HXD HYD;generalize (pad p)[k]=X at *;generalize (pad q)[k]=Y at *;clear hp8 hq8;have HBR:=QH (HB.out.of_block (bH.out.block b dt.out));go_wp2_with fail;refine qV (by kernel_rfl) 6 [17,18,19,20,7,6] (by kernel_rfl) (GcG b o k wr.heap.size X) (qpz _ _ _ _ _) ?_ ?_
    ·intro i op vs ρ W hi6 hop hρ hfn hb hG;have t13:ρ (.tmp 13)=.pointer (some ⟨b,o,none⟩):=hρ.out 13 rfl;have t15:ρ (.tmp 15)=.int .i64 (k:Int):=hρ.out 15 rfl;have s17:=hρ.at_ 17 0 rfl;have s18:=hρ.at_ 18 1 rfl;have s19:=hρ.at_ 19 2 rfl;rcases i with _|_|_|_|_|_|i;all_goals (first|omega|skip)
     all_goals simp only[QA,QB,QC,Option.some.injEq]at hop
     all_goals subst hop
     ·exact q9 (w':=W) (by unfold execOp;simp only[t15];go_simp) ⟨Below.refl _ _,rfl⟩
     ·exact q9 (w':=W) (by unfold execOp;simp only[t13];go_simp) ⟨Below.refl _ _,rfl⟩
     ·have g1:vs 1=.pointer (some ⟨b,o,none⟩):=hG 1 (by kernel_rfl);exact q9 (w':=W) (by unfold execOp;simp only[s18,g1,t15];go_simp) ⟨Below.refl _ _,rfl⟩
     ·have g2:vs 2=.pointer (some ⟨b,o+k*32,none⟩):=hG 2 (by kernel_rfl);exact q9 (w':=W) (qF 145 (.tmp 19) rfl b (o+k*32) (s19.trans g2) _ cs (Lib.byteCells X) _ _ (HBR.out.below hb) underlying145 rfl (by rw[vF,Lib.byteCells_length,HX.out]) HXC.out) ⟨Below.refl _ _,rfl⟩
     ·exact q9 (gu 145 i2 _ rfl HI2.out HY0.out) ⟨(Below.refl _ W).alloc (Nat.le_refl _) _,W.heap.size,rfl,hb.size,qd.new _ _ _⟩
     ·have g0:vs 0=.int .i64 (k:Int):=hG 0 (by kernel_rfl);exact q9 (w':=W) (by unfold execOp;simp only[s17,g0];go_simp) ⟨Below.refl _ _,rfl⟩
    ·intro vs W hb hG;have g0:vs 0=_:=hG 0 (by decide);have g1:vs 1=_:=hG 1 (by decide);have g2:vs 2=_:=hG 2 (by decide);have g3:vs 3=_:=hG 3 (by decide);obtain⟨gg,g4,hgB,zy⟩:=hG 4 (by decide);have g5:vs 5=_:=hG 5 (by decide);simp only[qX,qK,if_true];rw[g0,g1,g2,g3,g4,g5];have qxr:=QH hb;have kX:=QH zy;have HGB:=QH hgB;clear hG g0 g1 g2 g3 g4 g5 hb zy hgB;simp only[Act.put,List.setIfInBounds_toArray,List.set_cons_succ,List.set_cons_zero];refine qM (i:=6) (by kernel_rfl) rfl rfl ?_;refine wp_skip (mF W 145 (.tmp 7) (.tmp 20) rfl gg 0 rfl (Lib.byteCells X) rfl 145 _ kX.out (by rw[vF,Lib.byteCells_length,HX.out]) (by rw[List.size_toArray,Lib.byteCells_length,Lib.byteCells_length,HX.out,qJ];omega) (Lib.byteCells_one X)) ?_;have HBX:Hid (qd (W.setRow gg ((Lib.byteCells zz).toArray.toList.take 0++Lib.byteCells X++(Lib.byteCells zz).toArray.toList.drop (0+(Lib.byteCells X).length)).toArray) gg 145 (Lib.byteCells X).toArray):=by
      have h:=oZ (c:=((Lib.byteCells zz).toArray.toList.take 0++Lib.byteCells X++(Lib.byteCells zz).toArray.toList.drop (0+(Lib.byteCells X).length)).toArray) kX.out;have e:((Lib.byteCells zz).toArray.toList.take 0++Lib.byteCells X++(Lib.byteCells zz).toArray.toList.drop (0+(Lib.byteCells X).length))=Lib.byteCells X:=by
       rw[List.take_zero,List.nil_append,List.drop_of_length_le,List.append_nil];show(Lib.byteCells zz).length≤_;rw[Lib.byteCells_length,Lib.byteCells_length,HX.out,qJ];omega
      rw[e]at h ⊢;exact h
     have HBT:=QH (p7 W gg ((Lib.byteCells zz).toArray.toList.take 0++Lib.byteCells X++(Lib.byteCells zz).toArray.toList.drop (0+(Lib.byteCells X).length)).toArray);generalize W.setRow gg ((Lib.byteCells zz).toArray.toList.take 0++Lib.byteCells X++(Lib.byteCells zz).toArray.toList.drop (0+(Lib.byteCells X).length)).toArray=W2 at *;have qC:Hid (Below wr.heap.size wr W2):=qxr.out.trans (HBT.out.below (fun i hi=>by rw[hi];exact HGB.out) qxr.out.size);have HV2:=QH (HV.out.below qC.out);have ue:=QH (zf (w':=W2) (show World.ownsRow _ _ _ _ _ _ _ from HO.out) (fun j hj=>qC.out.block j (HO.out.lt j hj).2));have HE2:=QH (bH.out.trans (qC.out.mono bH.out.size));clear HBT qxr kX HV HO bH HBR qC HGB;refine⟨by kernel_rfl,?_⟩;go_wp2_with fail;refine xe 4 (by kernel_rfl) (by kernel_rfl) ?_;simp only[List.take_succ_cons,List.take_zero,List.drop_succ_cons,List.drop_zero];refine yE rfl (qF _ _ rfl gg 0 rfl _ _ (Lib.byteCells X) _ _ HBX.out underlying145 rfl (by rw[vF,Lib.byteCells_length,HX.out]) (fun j u hu=>by rw[Nat.zero_add];simpa using hu)) ?_
     iterate 2 still_step
     refine yE rfl (qF _ _ rfl w.heap.size (k*32) rfl _ _ (Lib.byteCells Y) _ _ HV2.out underlying145 rfl (by rw[vF,Lib.byteCells_length,HY.out]) HYC.out) ?_;refine wpStill_nil ?_;refine qh rfl (qha _ _ X Y rfl rfl rfl HX.out HY.out) ?_;by_cases hxy:X=Y
     ·rw[decide_eq_true hxy];have HSM:=QH (HDS.out hxy);clear hxy HDM HDS HDL HDB;go_wp2_with fail;go_roundw;case rel=>exact⟨k+1,by omega,by go_num,by rw[HSM.out];exact zf ue.out (fun _ _=>rfl),qig HE2.out 1,HV2.out⟩
      case measure=>simp[intOf];omega
     ·rw[decide_eq_false hxy];have HSM:=QH (HDM.out hxy);clear hxy HDM HDS;have HKX:=QH (HBX.out.lt);have tR:=wQ X gg 32 145 W2.drew HX.out HBX.out;obtain⟨S,hS⟩:=QE (str X);have HS:=QH hS;rw[hS]at tR;clear hS;have q7j:=QH (qwF W2.drew 122 (.int .i64 (k:Int)) (.string S));have zB:=QH ((qig HE2.out 1).alloc HE2.out.size (.cells #[.int .i64 (k:Int),.string S] 122));have HO3:=QH (World.ownsRow.alloc (w:=W2.drew) (zf (w':=W2.drew) ue.out (fun _ _=>rfl)) (.cells #[.int .i64 (k:Int),.string S] 122));have HV3:Hid (qd (W2.drew.alloc (.cells #[.int .i64 (k:Int),.string S] 122)) w.heap.size 169 (vc q).toArray):=HV2.out.of_block (Below.heap_alloc W2.drew _ _ HV2.out.lt);have qkK:∀u∈([Value.int .i64 (k:Int),.string S]:List Value),u.oneCell'=true:=by
       intro u hu;simp at hu;rcases hu with rfl|rfl <;> rfl
      have qwE:=QH qkK;clear qkK ue HE2 HV2;go_wp2_with (at_builtin;refine wpList_append_own _ rfl (.tmp 26) (.tmp 31) 39 rfl w.heap.size 122 i0 (.agg #[.int .i64 0,.string ByteArray.empty]) 2 24 underlying39 hi hz0 hz1 hz2 rfl (by decide) _ (sK (pad q) (pad p) k).length _ rfl HO3.out ⟨W2.heap.size,0,none⟩ 1 1 [.int .i64 (k:Int),.string S] rfl rfl q7j.out qwE.out ?_ ?_ zB.out.size ?_)
      ·have:=HDL.out;unfold maxLen;omega
      ·have:=HDL.out;omega
      ·intro v' w1 hown hgrow _;have zT:=QH (zB.out.grown hgrow zB.out.size (fun j hj=>(HO3.out.lt j hj).1));have HV4:=QH (HV3.out.of_block (hgrow.block _ HV3.out.lt (fun e=>ey HO3.out HV3.out (by decide) _ e.symm rfl)));have HOS:Hid (xL w1 w.heap.size v' (sK (pad q) (pad p) (k+1))):=by
        unfold Hid;rw[HSM.out];refine xL.snoc (x:=((k:Int),X)) ?_;dsimp only;rw[HS.out];exact hown
       obtain⟨A6,c6,hv6,_⟩:=HOS.out.qo9 HDB.out;clear hown hgrow;subst hv6;go_wp2_with fail;go_roundw;case rel=>exact⟨k+1,by omega,by go_num,HOS.out,zT.out,HV4.out⟩
       case measure=>simp[intOf];omega
   ·have yr:¬ (k:Int)<8:=by omega
    obtain rfl:k=8:=by omega
    have ho:=HO.out;rw[HDP.out]at ho;obtain⟨a,cc,rfl,hl,hb⟩:=xL.quC ho (by rw[← HDP.out];exact qif _ _ 8 (by omega));have HL:=QH hl;have HBB:=QH hb;clear ho hl hb HO;go_wp2_with fail;go_ret;exact⟨a,cc,rfl,HL.out,HBB.out,bH.out⟩
def TxV (l:List Bt)(B:Nat)(v:Value)(w:World):Prop:=∃A cc,v=.slice A l.length cc∧TxL w A l∧∀b o,A=some ⟨b,o,none⟩→B≤b∧b<w.heap.size
theorem TxV.below{l:List Bt}{B:Nat}{v:Value}{w w':World}(h:TxV l B v w)(hb:Below w.heap.size w w'):TxV l B v w':=by
 obtain⟨A,cc,h1,h2,h3⟩:=h;exact⟨A,cc,h1,h2.below hb,fun b o e=>⟨(h3 b o e).1,Nat.lt_of_lt_of_le (h3 b o e).2 hb.size⟩⟩
def RdG (p n i g c m:Nat)(l:List Bt)(B:Nat):Nat→Value→World→Prop
 | 0,v,_=>v=.pointer (some ⟨p,0,none⟩)
 | 1,v,_=>v=.pointer (some ⟨p,0,none⟩)
 | 2,v,_=>v=.pointer (some ⟨p,257,none⟩)
 | 3,v,_=>v=.slice (some ⟨g,0,none⟩) m c
 | 4,v,_=>v=.int .i64 (i:Int)
 | 5,v,_=>v=.pointer (some ⟨g,i*259,none⟩)
 | 6,v,_=>v=.pointer (some ⟨g,i*259,none⟩)
 | 7,v,_=>v=.pointer (some ⟨p,0,none⟩)
 | 8,v,_=>v=.pointer (some ⟨p,0,none⟩)
 | 9,v,_=>v=.pointer (some ⟨p,0,none⟩)
 | 10,v,_=>v=.int .i64 (n:Int)
 | 11,v,w=>TxV l B v w
 | 12,v,w=>TxV l B v w
 | 13,v,_=>v=.int .i64 0
 | _,_,_=>True
theorem qp0(p n i0 g c m:Nat)(l:List Bt)(B:Nat)(i:Nat)(v:Value)(w w':World)(hi:i<14)(h:RdG p n i0 g c m l B i v w)(hb:Below w.heap.size w w'):RdG p n i0 g c m l B i v w':=by
 match i,hi,h with
 | 0,_,h | 1,_,h | 2,_,h | 3,_,h | 4,_,h | 5,_,h | 6,_,h | 7,_,h | 8,_,h | 9,_,h | 10,_,h | 13,_,h=>exact h
 | 11,_,h | 12,_,h=>exact TxV.below h hb
theorem r8 {own:Nat→Prop}{w:World}{p:Nat}{d:CH}(h:Is0 own w p d)(g:Gd):Calls prog 95 #[.pointer (some ⟨p,0,none⟩),gv g] w (oV (d.read g) w):=by
 have hb0:=(Below.refl w.heap.size w).alloc (Nat.le_refl _) (.cells #[.int .u64 (g.1:Int),.int .u64 (g.2:Int)] 38);obtain⟨h0,v,hr⟩:=h;have hr1:=hr.below hb0;have HF:=QH (uW (⟨h0,v,hr1⟩:Is0 own _ p d) g);have q0:(w.alloc (.cells #[.int .u64 (g.1:Int),.int .u64 (g.2:Int)] 38)).cell? ⟨w.heap.size,0,none⟩=some (.int .u64 (g.1:Int)):=(qd.new w _ _).cell 0;have q1:(w.alloc (.cells #[.int .u64 (g.1:Int),.int .u64 (g.2:Int)] 38)).cell? ⟨w.heap.size,1,none⟩=some (.int .u64 (g.2:Int)):=(qd.new w _ _).cell 1;have jw:=QH hb0;have fX:=QH hr1;have gU:=QH h0;have HC:=QH (qee d g);obtain⟨R,hR⟩:=QE (bP d g);rw[hR]at HF HC;clear hb0 hr1 hr h0 hR;unfold gv at HF ⊢;go_enter func95,ntmps95;go_wp2_with fail;refine HF.out.mono ?_;rintro e W1 ⟨rfl,hb1⟩;have qT:=QH (jw.out.trans (hb1.mono jw.out.size));have uu:=QH (fX.out.below hb1);clear hb1 HF q0 q1 jw fX;rcases HC.out with⟨c,hc,rfl,_,bz⟩|⟨i,s,rfl,gP,hs,_,bz⟩
 ·have hcb:(c != 0)=true:=by simpa using hc
  have dy:=QH bz;clear hc bz HC uu gU;go_wp2_with fail;go_ret2;rw[dy.out];exact⟨none,0,rfl,fun i h=>absurd h (by simp),wb.none _ _,qT.out⟩
 ·obtain rfl:d.qc[i]=s:=by
     rw[List.getElem?_eq_getElem gP]at hs;exact Option.some.inj hs
  have dy:=QH bz;have HSO:=QH (gU.out.qc _ (List.getElem_mem gP));obtain⟨A,c,hv,hlc,_,hx⟩:=ja uu.out.row gU.out.qc gU.out.n8;subst hv;obtain⟨gr,cur,rfl,hb,hc⟩:=hx i gP;have kX:=QH hb;have HVC:Hid (∀j u,(vc d.qc[i].bs)[j]?=some u→cur[i*259+j]?=some u):=fun j u hu=>hc j u (qut _ j u hu);have hii:(i:Int)<(d.qc.length:Int):=by omega
  generalize d.qc[i].bs=bs at *;have HI:=QH hii;clear hb hc hx hs bz HC gP hii;go_wp2_with fail;refine qV (by kernel_rfl) 14 [17,18,19,20,21,22,23,24,25,26,27,28,4,5] (by kernel_rfl) (RdG p d.live.length i gr c d.qc.length bs W1.heap.size) (qp0 _ _ _ _ _ _ _ _) ?_ ?_
  ·intro j o vs ρ W hi9 hop hρ hfn hb hG;have t0:ρ (.tmp 0)=.pointer (some ⟨p,0,none⟩):=hρ.out 0 rfl;have t6:ρ (.tmp 6)=.int .i64 (i:Int):=hρ.out 6 rfl;have hc:=hρ.const;have s17:=hρ.at_ 17 0 rfl;have s18:=hρ.at_ 18 1 rfl;have s19:=hρ.at_ 19 2 rfl;have s20:=hρ.at_ 20 3 rfl;have s21:=hρ.at_ 21 4 rfl;have s22:=hρ.at_ 22 5 rfl;have s23:=hρ.at_ 23 6 rfl;have s24:=hρ.at_ 24 7 rfl;have s25:=hρ.at_ 25 8 rfl;have s26:=hρ.at_ 26 9 rfl;have s27:=hρ.at_ 27 10 rfl;have s28:=hρ.at_ 28 11 rfl;have jO:=QH (uu.out.below hb);have c0:=jO.out.c0;have c2:=jO.out.c2 gU.out;have hii:=HI.out;rcases j with _|_|_|_|_|_|_|_|_|_|_|_|_|_|j;all_goals (first|omega|skip)
   all_goals simp only[QA,QB,QC,Option.some.injEq]at hop
   all_goals subst hop
   ·exact q9 (w':=W) (by unfold execOp;simp only[t0];go_simp) ⟨Below.refl _ _,rfl⟩
   ·have g0:vs 0=_:=hG 0 (by kernel_rfl);exact q9 (w':=W) (by unfold execOp;simp only[s17,g0];go_simp) ⟨Below.refl _ _,rfl⟩
   ·have g1:vs 1=_:=hG 1 (by kernel_rfl);exact q9 (w':=W) (by unfold execOp;simp only[s18,g1];go_simp) ⟨Below.refl _ _,rfl⟩
   ·have g2:vs 2=_:=hG 2 (by kernel_rfl);exact q9 (w':=W) (by unfold execOp;simp only[s19,g2];go_simp) ⟨Below.refl _ _,rfl⟩
   ·exact q9 (w':=W) (by unfold execOp;simp only[t6];go_simp) ⟨Below.refl _ _,rfl⟩
   ·have g3:vs 3=_:=hG 3 (by kernel_rfl);have g4:vs 4=_:=hG 4 (by kernel_rfl);exact q9 (w':=W) (by unfold execOp;simp only[s20,g3,s21,g4];go_simp) ⟨Below.refl _ _,rfl⟩
   ·have g5:vs 5=_:=hG 5 (by kernel_rfl);exact q9 (w':=W) (by unfold execOp;simp only[s22,g5];go_simp) ⟨Below.refl _ _,rfl⟩
   ·exact q9 (w':=W) (by unfold execOp;simp only[t0];go_simp) ⟨Below.refl _ _,rfl⟩
   ·have g7:vs 7=_:=hG 7 (by kernel_rfl);exact q9 (w':=W) (by unfold execOp;simp only[s24,g7];go_simp) ⟨Below.refl _ _,rfl⟩
   ·have g8:vs 8=_:=hG 8 (by kernel_rfl);exact q9 (w':=W) (by unfold execOp;simp only[s25,g8];go_simp) ⟨Below.refl _ _,rfl⟩
   ·have g9:vs 9=_:=hG 9 (by kernel_rfl);exact q9 (w':=W) (by unfold execOp;simp only[s26,g9];go_simp) ⟨Below.refl _ _,rfl⟩
   ·have g6:vs 6=_:=hG 6 (by kernel_rfl);have g10:vs 10=_:=hG 10 (by kernel_rfl);refine qj (f:=170) (args:=#[.pointer (some ⟨gr,i*259,none⟩),.int .i64 (d.live.length:Int)]) (w':=W) (by unfold execOp;simp only[hc,hfn,s23,g6,s27,g10];go_simp) ((dL (kX.out.below hb) HVC.out HSO.out gU.out.n8).mono ?_);rintro e W' ⟨A,cc,rfl,h1,h2,h3⟩;exact⟨_,rfl,h3,A,cc,rfl,h1,fun b o e=>⟨Nat.le_trans hb.size (h2 b o e).1,(h2 b o e).2⟩⟩
   ·obtain⟨A,cc,g11,h1,h2⟩:=hG 11 (by kernel_rfl);exact q9 (w':=W) (by unfold execOp;simp only[s28,g11];go_simp) ⟨Below.refl _ _,A,cc,rfl,h1,h2⟩
   ·exact q9 (w':=W) (by unfold execOp;simp only[hc];go_simp) ⟨Below.refl _ _,rfl⟩
  ·intro vs W hb hG;obtain⟨A,cc,g12,h1,h2⟩:=hG 12 (by decide);have g13:vs 13=_:=hG 13 (by decide);simp only[qX,qK,if_true];rw[g12,g13];generalize vs 0=z0;generalize vs 1=z1;generalize vs 2=z2;generalize vs 3=z3;generalize vs 4=z4;generalize vs 5=z5;generalize vs 6=z6;generalize vs 7=z7;generalize vs 8=z8;generalize vs 9=z9;generalize vs 10=z10;generalize vs 11=z11;have HB:=QH (qT.out.trans (hb.mono qT.out.size));have H1:=QH h1;have H2:=QH (fun b o e=>And.intro (Nat.le_trans qT.out.size (h2 b o e).1) (h2 b o e).2);clear hG g12 g13 hb h1 h2;simp only[Act.put,List.setIfInBounds_toArray,List.set_cons_succ,List.set_cons_zero];refine⟨by kernel_rfl,?_⟩;go_wp2_with fail;go_ret2;rw[dy.out];exact⟨A,cc,rfl,H1.out,H2.out,HB.out⟩
end Go.Proofs.YtdpbdkacngaemaaGreatDoor.ch.pg

/- VtAs, VtAsV, VtVc, VtWkQ, VtWkC, VtWk, CLaid, VtLaid. -/
import Derived.Test.YtdagdllomphidaaGreatDoorZR12
import Derived.Test.YtdagdllomphidaaGreatDoorRows
import Derived.Deep.DeepHandedRow
import Derived.Lib.LaidTab
import Derived.Deep.DeepLaidRun
import Derived.Stop.LaidErr
import GoSem.PinnedTables
set_option linter.unusedVariables false
set_option linter.unusedSimpArgs false
set_option maxHeartbeats 30000000
set_option maxRecDepth 100000
namespace Go.Proofs.YtdagdllomphidaaGreatDoor.vt
open _root_.Go.Proofs.Tryz Go Go.RowKit Go.Sort ib jr mt im sp
def qu5 (n:Nat)(w:World)(i:Value)(wr:World):Prop:=∃k:Nat,k≤n∧i=.int .i64 (k:Int)∧Below w.heap.size w wr
def AsP (s c:ch.CH)(w:World)(e:Ending)(w':World):Prop:=∃b,e=.returned (.bool b)∧(s=c→b=true)∧Below w.heap.size w w'
theorem qeC(c:ch.CH)(k:Nat)(h:k<c.list.length):(c.changes (k:Int)).2=0:=by
 unfold ch.CH.list at h;rw[List.length_map]at h;unfold ch.CH.changes;rw[if_neg (by omega)]
theorem qsL{w:World}{v p:Nat}{s c:ch.CH}(hl:s.list.length≤1000)(vO:s.live.length≤1000)(hrl:∀g,(s.read g).1.length≤1000)(hcl:∀k,(s.changes k).1.length≤1000)
    (HLV:Hid (∀W,Below w.heap.size w W→Calls prog 16 #[.pointer (some ⟨v,0,none⟩)] W (ch.kg (s.live,0) W)))
    (HLC:Hid (∀W,Below w.heap.size w W→Calls prog 48 #[.pointer (some ⟨p,0,none⟩)] W (ch.qjH c.live W)))
    (HIV:Hid (∀W,Below w.heap.size w W→Calls prog 22 #[.pointer (some ⟨v,0,none⟩)] W (ch.lu s.list W)))
    (HIC:Hid (∀W,Below w.heap.size w W→Calls prog 49 #[.pointer (some ⟨p,0,none⟩)] W (ch.lu c.list W)))
    (HRV:Hid (∀W g,Below w.heap.size w W→ch.xn g→Calls prog 32 #[.pointer (some ⟨v,0,none⟩),ch.gv g] W (ch.kg (s.read g) W)))
    (HRC:Hid (∀W g,Below w.heap.size w W→ch.xn g→Calls prog 50 #[.pointer (some ⟨p,0,none⟩),ch.gv g] W (ch.kg (c.read g) W)))
    (HCV:Hid (∀W k,Below w.heap.size w W→ib.jd k→Calls prog 33 #[.pointer (some ⟨v,0,none⟩),.int .i64 k] W (ch.bQ (s.changes k) W)))
    (HCC:Hid (∀W k,Below w.heap.size w W→ib.jd k→Calls prog 51 #[.pointer (some ⟨p,0,none⟩),.int .i64 k] W (ch.bQ (c.changes k) W))) :
    Calls prog 13 #[.pointer (some ⟨v,0,none⟩),.pointer (some ⟨p,0,none⟩)] w (AsP s c w):=by
 have HRL:=QH hrl;have bI:=QH hcl;clear hrl hcl;go_enter func13,ntmps13;go_wp2_with fail;refine(HLV.out w (Below.refl _ _)).mono ?_;rintro e W1 ⟨A1,cc1,rfl,h1,_,hb1⟩;dsimp only at h1 ⊢;have qV:=QH hb1;have H1:=QH h1;clear h1 hb1;go_wp2_with fail;refine(HLC.out W1 qV.out).mono ?_;rintro e W2 ⟨A2,cc2,rfl,h2,_,hb2⟩;have qC:=QH (qc qV.out hb2);have H2:=QH h2;have H1b:=QH (H1.out.below hb2);clear h2 hb2 H1 qV;go_wp2_with fail;refine(ch.qaN A1 A2 cc1 cc2 s.live c.live W2 H1b.out H2.out (by omega)).mono ?_;rintro e W3 ⟨rfl,hb3⟩;have qZ:=QH (qc qC.out hb3);clear hb3 H1b H2 qC;by_cases mD:s.live=c.live
 ·rw[decide_eq_true mD];clear mD;go_wp2_with fail;refine(HIV.out W3 qZ.out).mono ?_;rintro e W4 ⟨A4,cc4,rfl,h4,_,hb4⟩;have x9:=QH (qc qZ.out hb4);have H4:=QH h4;clear h4 hb4 qZ;go_wp2_with fail;refine(HIC.out W4 x9.out).mono ?_;rintro e W5 ⟨A5,cc5,rfl,h5,_,hb5⟩;have jX:=QH (qc x9.out hb5);have H4b:=QH (H4.out.below hb5);have H5:=QH h5;clear h5 hb5 H4 x9;by_cases hlen:s.list.length=c.list.length
  ·have hlb:((s.list.length:Int) != (c.list.length:Int))=false:=by rw[hlen];simp
   go_wp2_with fail;clear hlb;go_loopw [9] (fun i wr=>qu5 s.list.length W5 i wr) (fun i _=>s.list.length-(intOf i).toNat);case atStart=>exact⟨0,Nat.zero_le _,rfl,Below.refl _ _⟩
   case round =>
    obtain⟨k,hk,rfl,hb⟩:=hrel;have HX0:=QH hb;have xz:=QH (qc jX.out hb);clear hb;by_cases hlt:k<s.list.length
    ·have hlq:k<c.list.length:=by omega
     have jW:(k:Int)<(s.list.length:Int):=by omega
     have hkq:(k:Int)<(c.list.length:Int):=by omega
     obtain⟨b,o,rfl,hbl,g0,g1,hgx⟩:=H4b.out k hlt;obtain⟨b',o',rfl,ma,g2,g3,hgy⟩:=H5.out k hlq;have HXY:Hid (s=c→s.list[k]=c.list[k]):=fun h=>by subst h;rfl
     have hz1:=qeC s k hlt;have hz2:=qeC c k hlq;generalize s.list[k]=x at *;generalize c.list[k]=y at *;obtain⟨r1,e1,hR1⟩:∃r e,s.read x=(r,e):=⟨_,_,rfl⟩;obtain⟨r2,e2,hR2⟩:∃r e,c.read y=(r,e):=⟨_,_,rfl⟩;obtain⟨q1,f1,hQ1⟩:∃r e,s.changes (k:Int)=(r,e):=⟨_,_,rfl⟩;obtain⟨q2,f2,hQ2⟩:∃r e,c.changes (k:Int)=(r,e):=⟨_,_,rfl⟩;rw[hQ1]at hz1;rw[hQ2]at hz2;dsimp only at hz1 hz2;subst hz1;subst hz2;have HSR:Hid (s=c→r1=r2∧e1=e2):=fun h=>by
      have h1:=HXY.out h;subst h;subst h1;rw[hR1]at hR2;exact⟨congrArg Prod.fst hR2,congrArg Prod.snd hR2⟩
     have HSQ:Hid (s=c→q1=q2):=fun h=>by
      subst h;rw[hQ1]at hQ2;exact congrArg Prod.fst hQ2
     have hrn:r1.length≤1000:=by have:=HRL.out x;rw[hR1]at this;exact this
     have hqn:q1.length≤1000:=by have:=bI.out k;rw[hQ1]at this;exact this
     have hkb:ib.jd (k:Int):=by unfold jd;omega
     have hc1:=HRV.out wr x xz.out hgx;rw[hR1]at hc1;have c0:wr.cell? ⟨b,o+k*2,none⟩=some (.int .u64 (x.1:Int)):=by rw[HX0.out.cell (p:=⟨b,o+k*2,none⟩) hbl];exact g0
     have c1:wr.cell? ⟨b,o+k*2+1,none⟩=some (.int .u64 (x.2:Int)):=by rw[HX0.out.cell (p:=⟨b,o+k*2+1,none⟩) hbl];exact g1
     have l0:b<wr.heap.size:=Nat.lt_of_lt_of_le hbl HX0.out.size;have jK:=QH hR2;have HQ1:=QH hQ1;have HQ2:=QH hQ2;clear hR1 hR2 hQ1 hQ2;go_wp2_with fail;refine hc1.mono ?_;clear hc1 c0 c1 l0;rintro e U1 ⟨A10,q23,rfl,t1,_,b1⟩;dsimp only at t1 ⊢;have HX1:=QH (qc HX0.out b1);have tJ:=QH (qc xz.out b1);have HT1:=QH t1;clear b1 t1 HX0 xz;have hc2:=HRC.out U1 y tJ.out hgy;rw[jK.out]at hc2;have c2:U1.cell? ⟨b',o'+k*2,none⟩=some (.int .u64 (y.1:Int)):=by rw[HX1.out.cell (p:=⟨b',o'+k*2,none⟩) ma];exact g2
     have c3:U1.cell? ⟨b',o'+k*2+1,none⟩=some (.int .u64 (y.2:Int)):=by rw[HX1.out.cell (p:=⟨b',o'+k*2+1,none⟩) ma];exact g3
     have l1:b'<U1.heap.size:=Nat.lt_of_lt_of_le ma HX1.out.size;go_wp2_with fail;refine hc2.mono ?_;clear hc2 c2 c3 l1;rintro e U2 ⟨A12,q24,rfl,t2,_,b2⟩;dsimp only at t2 ⊢;have iG:=QH (qc HX1.out b2);have qcq:=QH (qc tJ.out b2);have q25:=QH (HT1.out.below b2);have dW:=QH t2;clear b2 t2 HX1 tJ HT1;have hc3:=HCV.out U2 (k:Int) qcq.out hkb;rw[HQ1.out]at hc3;go_wp2_with fail;refine hc3.mono ?_;clear hc3;rintro e U3 ⟨A14,zfj,rfl,t3,_,b3⟩;dsimp only at t3 ⊢;have HX3:=QH (qc iG.out b3);have aP:=QH (qc qcq.out b3);have q26:=QH (q25.out.below b3);have q27:=QH (dW.out.below b3);have dF:=QH t3;clear b3 t3 iG qcq q25 dW;have hc4:=HCC.out U3 (k:Int) aP.out hkb;rw[HQ2.out]at hc4;go_wp2_with fail;refine hc4.mono ?_;clear hc4;rintro e U4 ⟨A16,zfl,rfl,t4,_,b4⟩;dsimp only at t4 ⊢;have HX4:=QH (qc HX3.out b4);have aQ:=QH (qc aP.out b4);have q28:=QH (q26.out.below b4);have q29:=QH (q27.out.below b4);have q2A:=QH (dF.out.below b4);have HT4:=QH t4;clear b4 t4 HX3 aP q26 q27 dF;have e0:U4.cell? ⟨b,o+k*2,none⟩=some (.int .u64 (x.1:Int)):=by rw[HX4.out.cell (p:=⟨b,o+k*2,none⟩) hbl];exact g0
     have e1':U4.cell? ⟨b,o+k*2+1,none⟩=some (.int .u64 (x.2:Int)):=by rw[HX4.out.cell (p:=⟨b,o+k*2+1,none⟩) hbl];exact g1
     have e2':U4.cell? ⟨b',o'+k*2,none⟩=some (.int .u64 (y.1:Int)):=by rw[HX4.out.cell (p:=⟨b',o'+k*2,none⟩) ma];exact g2
     have e3':U4.cell? ⟨b',o'+k*2+1,none⟩=some (.int .u64 (y.2:Int)):=by rw[HX4.out.cell (p:=⟨b',o'+k*2+1,none⟩) ma];exact g3
     have cT:∀d os,Calls prog 47 #[.slice A10 r1.length q23,.slice A12 r2.length q24] (grow (redrawn U4 d) os) fun e w''=>e=.returned (.bool (decide (r1=r2)))∧∃p:Regrown,w''=grow (redrawn U4 p.d) p.os :=
      fun d os=>Calls.regrown_of (ch.qaN A10 A12 q23 q24 r1 r2 (grow (redrawn U4 d) os) (q28.out.below (below_regrown U4 d os)) (q29.out.below (below_regrown U4 d os)) (by omega))
     have hx:=qoy x y;generalize (x.1:Int)=x1 at *;generalize (x.2:Int)=x2 at *;generalize (y.1:Int)=y1 at *;generalize (y.2:Int)=y2 at *;have k0:∀d os,(grow (redrawn U4 d) os).cell? ⟨b,o+k*2,none⟩=some (.int .u64 x1):=fun d os=>cell_regrown e0 d os;have k1:∀d os,(grow (redrawn U4 d) os).cell? ⟨b,o+k*2+1,none⟩=some (.int .u64 x2):=fun d os=>cell_regrown e1' d os;have k2:∀d os,(grow (redrawn U4 d) os).cell? ⟨b',o'+k*2,none⟩=some (.int .u64 y1):=fun d os=>cell_regrown e2' d os;have k3:∀d os,(grow (redrawn U4 d) os).cell? ⟨b',o'+k*2+1,none⟩=some (.int .u64 y2):=fun d os=>cell_regrown e3' d os;have dF:=QH q2A.out;clear q28 q29 q2A hgx hgy g0 g1 g2 g3 hbl ma hkb jK HQ1 HQ2;have HXE:=QH hx;obtain⟨p1,hp1⟩:=QE (x1 == y1);obtain⟨p2,hp2⟩:=QE (x2 == y2);have HD1:Hid ((p1&&p2)=false→¬ s=c):=fun h h2=>by
      have:=HXE.out;rw[hp1,hp2,h,HXY.out h2]at this;simp at this
     clear hx HXE;by_cases hqq:p1=true∧p2=true
     ·obtain⟨rfl,rfl⟩:=hqq;clear HD1;by_cases hee:e1=e2
      ·subst hee;have q2C:(e1 != e1)=false:=by simp
       by_cases hrr:r1=r2
       ·rw[decide_eq_true hrr]at cT;clear hrr;by_cases q2D:q1.length=q2.length
        ·have hl2:((q1.length:Int) != (q2.length:Int))=false:=by rw[q2D];simp
         go_wp2_with fail;refine wp_region_quiet_below ch.eA (by kernel_rfl) ?_;repeat (any_goals (first|go_big_quiet_step (exact cT _ _)|quiet_step (exact cT _ _)))
         refine wpQuiet_nil ?_;intro _ hw';obtain⟨⟨dq,osq⟩,hw''⟩:=hw';subst hw'';have HBq:=QH (qc aQ.out (below_regrown U4 dq osq));have HXq:=QH (qc HX4.out (below_regrown U4 dq osq));have q2E:=QH (dF.out.below (below_regrown U4 dq osq));have q2F:=QH (HT4.out.below (below_regrown U4 dq osq));clear dF HT4 e0 e1' e2' e3' k0 k1 k2 k3 cT q2C hl2 hp1 hp2;obtain⟨U5,hU5⟩:=QE (grow (redrawn U4 dq) osq);rw[hU5]at HBq HXq q2E q2F ⊢;clear hU5;go_wp2_with fail;go_loopw [18] (fun i wr=>qu5 q1.length U5 i wr) (fun i _=>q1.length-(intOf i).toNat);case atStart=>exact⟨0,Nat.zero_le _,rfl,Below.refl _ _⟩
         case round =>
          obtain⟨j,hj,rfl,hb⟩:=hrel;have HJ:=QH hb;clear hb;by_cases hjl:j<q1.length
          ·obtain⟨b,o,rfl,hbl,hc,hd,_⟩:=q2E.out j hjl;have hjq:j<q2.length:=by omega
           obtain⟨b',o',rfl,ma,hc',hd',_⟩:=q2F.out j hjq;have my:Hid (s=c→q1[j]=q2[j]):=fun h=>by
            have:=HSQ.out h;subst this;rfl
           have e0:wr.cell? ⟨b,o+j*2,none⟩=some (.int .i64 q1[j].1):=by rw[HJ.out.cell (p:=⟨b,o+j*2,none⟩) hbl];exact hc
           have e1:wr.cell? ⟨b',o'+j*2,none⟩=some (.int .i64 q2[j].1):=by rw[HJ.out.cell (p:=⟨b',o'+j*2,none⟩) ma];exact hc'
           have e2:wr.cell? ⟨b,o+j*2+1,none⟩=some (.string (str q1[j].2)):=by rw[HJ.out.cell (p:=⟨b,o+j*2+1,none⟩) hbl];exact hd
           have e3:wr.cell? ⟨b',o'+j*2+1,none⟩=some (.string (str q2[j].2)):=by rw[HJ.out.cell (p:=⟨b',o'+j*2+1,none⟩) ma];exact hd'
           have l0:b<wr.heap.size:=Nat.lt_of_lt_of_le hbl HJ.out.size;have l1:b'<wr.heap.size:=Nat.lt_of_lt_of_le ma HJ.out.size;have qnU:(j:Int)<(q1.length:Int):=by omega
           have zfn:(j:Int)<(q2.length:Int):=by omega
           clear hc hc' hd hd';generalize q1[j]=x at *;generalize q2[j]=y at *;have hx:=qxw x y;generalize x.1=x1 at *;generalize str x.2=x2 at *;generalize y.1=y1 at *;generalize str y.2=y2 at *;have HXE:=QH hx;obtain⟨p1,hp1⟩:=QE (x1 == y1);obtain⟨p2,hp2⟩:=QE (x2.toList == y2.toList);have HD1:Hid ((p1&&p2)=false→¬ s=c):=fun h h2=>by
            have:=HXE.out;rw[hp1,hp2,h,my.out h2]at this;simp at this
           clear hx HXE;by_cases hqq:p1=true∧p2=true
           ·obtain⟨rfl,rfl⟩:=hqq;clear HD1;go_wp2_with fail;go_quiet (fail);go_wp2_with fail;refine⟨⟨j+1,by omega,by go_num,⟨HJ.out.os,HJ.out.tape,HJ.out.output,HJ.out.size,HJ.out.block⟩⟩,?_⟩;simp[intOf];omega
           ·have hqb:(p1&&p2)=false:=by cases p1 <;> cases p2 <;> simp at hqq ⊢
            have HD:=QH (HD1.out hqb);have hqs:(p1=false)∨(p1=true∧p2=false):=by cases p1 <;> cases p2 <;> simp at hqq ⊢
            clear hqq hqb HD1;rcases hqs with rfl|⟨rfl,rfl⟩;all_goals
             go_wp2_with fail;go_quiet (fail);go_wp2_with fail;go_ret;refine⟨false,rfl,fun h=>absurd h HD.out,?_⟩;have HBJ:=qc HBq.out HJ.out;exact⟨HBJ.os,HBJ.tape,HBJ.output,HBJ.size,HBJ.block⟩
          ·have qnU:¬ (j:Int)<(q1.length:Int):=by omega
           have HXJ:=QH (qc HXq.out HJ.out);go_wp2_with fail;go_roundw;case rel=>exact⟨k+1,by omega,by go_num,HXJ.out⟩
           case measure=>simp[intOf];omega
        ·have hl2:((q1.length:Int) != (q2.length:Int))=true:=by simp;omega
         go_wp2_with fail;refine wp_region_quiet_below ch.eA (by kernel_rfl) ?_;repeat (any_goals (first|go_big_quiet_step (exact cT _ _)|quiet_step (exact cT _ _)))
         refine wpQuiet_nil ?_;intro _ hw';obtain⟨⟨dq,osq⟩,hw''⟩:=hw';subst hw'';have HBq:=QH (qc aQ.out (below_regrown U4 dq osq));go_wp2_with fail;go_ret;exact⟨false,rfl,fun h=>absurd (by rw[HSQ.out h]) q2D,HBq.out⟩
       ·rw[decide_eq_false hrr]at cT;go_wp2_with fail;refine wp_region_quiet_below ch.eA (by kernel_rfl) ?_;repeat (any_goals (first|go_big_quiet_step (exact cT _ _)|quiet_step (exact cT _ _)))
        refine wpQuiet_nil ?_;intro _ hw';obtain⟨⟨dq,osq⟩,hw''⟩:=hw';subst hw'';have HBq:=QH (qc aQ.out (below_regrown U4 dq osq));go_wp2_with fail;go_ret;exact⟨false,rfl,fun h=>absurd (HSR.out h).1 hrr,HBq.out⟩
      ·have q2C:(e1 != e2)=true:=by simpa using hee
       go_wp2_with fail;refine wp_region_quiet_below ch.eA (by kernel_rfl) ?_;repeat (any_goals (first|go_big_quiet_step (exact cT _ _)|quiet_step (exact cT _ _)))
       refine wpQuiet_nil ?_;intro _ hw';obtain⟨⟨dq,osq⟩,hw''⟩:=hw';subst hw'';have HBq:=QH (qc aQ.out (below_regrown U4 dq osq));go_wp2_with fail;go_ret;exact⟨false,rfl,fun h=>absurd (HSR.out h).2 hee,HBq.out⟩
     ·have hqb:(p1&&p2)=false:=by cases p1 <;> cases p2 <;> simp at hqq ⊢
      have HD:=QH (HD1.out hqb);have hqs:(p1=false)∨(p1=true∧p2=false):=by cases p1 <;> cases p2 <;> simp at hqq ⊢
      clear hqq hqb HD1;rcases hqs with rfl|⟨rfl,rfl⟩;all_goals
       go_wp2_with fail;refine wp_region_quiet_below ch.eA (by kernel_rfl) ?_;repeat (any_goals (first|go_big_quiet_step (exact cT _ _)|quiet_step (exact cT _ _)))
       refine wpQuiet_nil ?_;intro _ hw';obtain⟨⟨dq,osq⟩,hw''⟩:=hw';subst hw'';have HBq:=QH (qc aQ.out (below_regrown U4 dq osq));go_wp2_with fail;go_ret;exact⟨false,rfl,fun h=>absurd h HD.out,HBq.out⟩
    ·have jW:¬ (k:Int)<(s.list.length:Int):=by omega
     go_wp2_with fail;go_ret;exact⟨true,rfl,fun _=>rfl,xz.out⟩
  ·have hlb:((s.list.length:Int) != (c.list.length:Int))=true:=by simp;omega
   go_wp2_with fail;go_ret;exact⟨false,rfl,fun h=>absurd (by rw[h]) hlen,jX.out⟩
 ·rw[decide_eq_false mD];go_wp2_with fail;go_ret;exact⟨false,rfl,fun h=>absurd (by rw[h]) mD,qZ.out⟩
end Go.Proofs.YtdagdllomphidaaGreatDoor.vt
namespace Go.Proofs.YtdagdllomphidaaGreatDoor.vt
open _root_.Go.Proofs.Tryz Go Go.RowKit ib jr mt im sp
section
variable {b N:Nat} {t:Tg} {m:Mt}
theorem qeD(t:Tg)(m:Mt):(zD t m).list=m.qa.map (·.g):=by
 unfold ch.CH.list zD;rw[List.map_map];rfl
theorem qp7(h:yD b N m){s:ch.Sn}(hs:s∈(zD t m).qa):s.bs.length≤8:=by
 obtain⟨sp,h1,rfl⟩:=List.mem_map.1 hs;show(volume t sp.qo).length≤8;rw[yg,(h.uF sp h1).1];exact h.b8
theorem qcr(h:yD b N m)(g:Gd):((zD t m).read g).1.length≤8:=by
 unfold ch.CH.read;split
 ·simp
 ·split
  ·simp
  ·rename_i s hs;split
   ·simp
   ·exact qp7 h (List.mem_of_getElem? hs)
theorem qeE(h:yD b N m)(k:Nat):((zD t m).mH k).length≤8:=by
 unfold ch.CH.mH;split
 ·simp
 ·rename_i s hs;exact qp7 h (List.mem_of_getElem? hs)
theorem qeF(h:yD b N m)(k:Int):((zD t m).changes k).1.length≤8:=by
 unfold ch.CH.changes;split
 ·simp
 ·exact Nat.le_trans (Nat.le_trans (List.length_filterMap_le _ _) (by rw[List.length_range];exact Nat.le_refl _)) (qeE h _)
end
theorem qxx{IV:yx}{IC:ch.cS}(H:yz IV)(HC:ch.Ops IC){w:World}{o1 o2 o3:Nat→Prop}{v pd p N b:Nat}{d:DD}{m:Mt}{c:ch.CH}{t:Tg}
    (hv:VP IV w o1 o2 v pd d m false) (hJ:JJ N t d) (hr:qW b N t m) (hc:IC o3 w p c) :
    Calls prog 13 #[.pointer (some ⟨v,0,none⟩),.pointer (some ⟨p,0,none⟩)] w (AsP (zD t m) c w):=by
 have HV:∀W,Below w.heap.size w W→VP IV W o1 o2 v pd d m false:=fun W hb=>hv.keep H (fun j hj=>hb.block j (hv.low H j hj)) hb.size;have HK:∀W,Below w.heap.size w W→IC o3 W p c:=fun W hb=>HC.keep hc (fun j hj=>hb.block j (HC.low hc j hj)) hb.size;refine qsL ?_ ?_ (fun g=>Nat.le_trans (qcr hr.ok g) (by decide)) (fun k=>Nat.le_trans (qeF hr.ok k) (by decide)) (fun W hb=>H.live (HV W hb) hJ hr) (fun W hb=>HC.live (HK W hb)) (fun W hb=>?_) (fun W hb=>HC.list (HK W hb)) (fun W g hb hg=>H.read g (HV W hb) hJ hr hg) (fun W g hb hg=>HC.read g (HK W hb) hg) (fun W k hb hk=>H.changes k (HV W hb) hJ hr hk) (fun W k hb hk=>HC.changes k (HK W hb) hk)
 ·rw[qeD,List.length_map];exact Nat.le_trans hr.ok.few (by decide)
 ·show(volume t m.live).length≤1000;rw[yg,hr.ok.live.1];exact Nat.le_trans hr.ok.b8 (by decide)
 ·rw[qeD];exact H.list (HV W hb).is
theorem qp8{IV:yx}{IC:ch.cS}(H:yz IV)(HC:ch.Ops IC){w:World}{B v pd p N b:Nat}{X:Nat→Prop}{s:Tri}{t:Tg}
    (h:V3 IV IC w B X v pd p s) (hlo:s.lost=false) (hJ:JJ N t s.d) (hr:qW b N t s.m) :
    Calls prog 13 #[.pointer (some ⟨v,0,none⟩),.pointer (some ⟨p,0,none⟩)] w (AsP (zD t s.m) s.c w):=by
 obtain⟨o1,o2,o3,h1,h2,_⟩:=h;rw[hlo]at h1;exact qxx H HC h1 hJ hr h2
end Go.Proofs.YtdagdllomphidaaGreatDoor.vt
namespace Go.Proofs.YtdagdllomphidaaGreatDoor.vt
open _root_.Go.Proofs.Tryz Go Go.RowKit ib jr mt im sp
theorem qlg{N:Nat}{t:Tg}{d d':DD}{m m':Mt}{r:Int}{l':Bool}(h:qW 8 N t m)(hj:JJ N t d)(wx:m.tok=zR)(hf:d.qu=0)(x:tx)(next:Nat)(hn:next<18446744073709551616)(hq:yo N t d m (jH N m x next) r d' m' l') :
    (r=7∧N<377∧d'=d∧m'=m∧l'=false)∨(r=(zE (zD t m) x next).2∧l'=false∧d'.qu=0∧∃t',JJ N t' d'∧qW 8 N t' m'∧m'.tok=zR∧zD t' m'=(zE (zD t m) x next).1):=by
 rcases hq with⟨h0,rfl,rfl,rfl,rfl⟩|⟨h0,rfl,hj',rfl,rfl,hf',_⟩|⟨_,_,_,_,hf',_⟩
 ·rcases aO h wx x next hn with⟨h7,hN⟩|⟨h1,_,h3⟩
  ·exact .inl ⟨h7,hN,rfl,rfl,rfl⟩
  ·exact .inr ⟨h1,rfl,hf,t,hj,h,wx,(h3 h0).symm⟩
 ·rcases aO h wx x next hn with⟨h7,_⟩|⟨h1,h2,_⟩
  ·rw[h0]at h7;exact absurd h7 (by decide)
  ·obtain⟨⟨d1,d2,d3⟩,d4⟩:=h2 h0;exact .inr ⟨by rw[← h1,h0],rfl,hf' hf,_,hj',h.next d1 d2,d4,d3⟩
 ·exact absurd hf hf'
def VC (IV:yx)(IC:ch.cS)(N:Nat)(w:World)(B v pd p:Nat)(c:ch.CH):Prop :=
 ∃t d m,V3 IV IC w B (fun _=>False) v pd p ⟨d,m,c,false⟩∧qW 8 N t m∧JJ N t d∧d.qu=0∧m.tok=zR∧zD t m=c
section
variable {IV:yx} {IC:ch.cS} (H:yz IV) (HC:ch.Ops IC) {w w':World} {N B v pd p:Nat} {c:ch.CH}
theorem yq (h:Ke B (fun _=>False) w w')(hB:B≤w.heap.size):Below B w w':=h.below hB
include H HC
theorem VC.below(h:VC IV IC N w B v pd p c)(hb:Below w.heap.size w w'):VC IV IC N w' B v pd p c:=by
 obtain⟨t,d,m,h1,h2⟩:=h;exact⟨t,d,m,h1.below H HC hb,h2⟩
theorem qsO(h:VC IV IC N w B v pd p c)(hB:B≤w.heap.size)(hN:377≤N)(x:tx)(next:Nat)(hk:x.k<256)(hn:x.n<256)(hnx:next<18446744073709551616) :
    Calls prog 11 #[.pointer (some ⟨v,0,none⟩),.pointer (some ⟨p,0,none⟩),.agg (xX x),.int .u64 (next:Int)] w
     fun e w'=>e=.returned (.tuple #[.int .i64 (zE c x next).2,.int .i64 (zE c x next).2])∧VC IV IC N w' B v pd p (zE c x next).1∧Below B w w':=by
 obtain⟨t,d,m,h1,h2,h3,h4,h5,h6⟩:=h;refine(fX H HC h1 hB rfl h3 (by show 0≤d.qu;omega) h2 x next hk hn hnx).mono ?_;rintro e w' ⟨r,d',m',l',rfl,hv,hke,hq⟩;rcases qlg h2 h3 h5 h4 x next hnx hq with⟨_,hN',_⟩|⟨hr,rfl,hf,t',g1,g2,g3,g4⟩
 ·omega
 ·rw[h6]at hr g4;exact⟨by rw[hr],⟨t',d',m',hv,g2,g1,hf,g3,g4⟩,yq hke hB⟩
end
theorem qcs(t:Tg)(b:Nat):zD t (m0 b)=ch.ug b:=by
 unfold zD m0 ch.ug volume ch.wH;rw[List.map_replicate];rfl
theorem qxy{IV:yx}{IC:ch.cS}(H:yz IV)(HC:ch.Ops IC){w W1 W2:World}{v pd p N:Nat}{t:Tg}{d:DD}{o1 o2 o3:Nat→Prop}
    (hv:VP IV W1 o1 o2 v pd d (m0 8) false) (hj:JJ N t d) (hr:qW 8 N t (m0 8)) (hf:d.qu=0) (ho:∀j,o1 j∨o2 j→w.heap.size≤j)
    (hc:IC o3 W2 p (ch.ug 8)) (hb:Below W1.heap.size W1 W2) (hs:w.heap.size≤W1.heap.size) (hg:gN<w.heap.size) (ho3:∀j,o3 j→W1.heap.size≤j):VC IV IC N W2 w.heap.size v pd p (ch.ug 8):=by
 refine⟨t,d,m0 8,⟨o1,o2,o3,hv.keep H (fun j hj=>hb.block j (hv.low H j hj)) hb.size,hc,fun j hj=>⟨ho j hj,fun h=>?_,fun h=>h⟩,fun j hj=>⟨Nat.le_trans hs (ho3 j hj),fun h=>h⟩,fun j hj=>hj.elim,hg,fun h=>h⟩,hr,hj,hf,rfl,qcs t 8⟩;have h1:=hv.low H j (.inl hj);have h2:=ho3 j h;omega
end Go.Proofs.YtdagdllomphidaaGreatDoor.vt
namespace Go.Proofs.YtdagdllomphidaaGreatDoor.vt
open _root_.Go.Proofs.Tryz Go Go.RowKit ib jr mt im sp
def la:Bt:=wV 97
theorem q2I:wV 0=zb:=by kernel_rfl
def tU:ch.Sn:=⟨(1,1),[la,zz],false⟩
def s12:ch.Sn:=⟨(1,2),[zz,la],false⟩
def Q0 (_:Tg)(m:Mt):Prop:=m=m0 2
def Q1 (t:Tg)(m:Mt):Prop:=zD t m=⟨[la,zz],[]⟩∧∃a:Int,m=⟨[a,0],[],zR⟩
def Q2 (t:Tg)(m:Mt):Prop:=zD t m=⟨[la,zz],[tU]⟩∧∃a:Int,m=⟨[a,0],[⟨(1,1),[a,0],false⟩],zR⟩
def Q3 (t:Tg)(m:Mt):Prop:=zD t m=⟨[zz,zz],[tU]⟩∧∃a y:Int,m=⟨[y,0],[⟨(1,1),[a,0],false⟩],zR⟩
def Q4 (t:Tg)(m:Mt):Prop:=zD t m=⟨[zz,zz],[tU]⟩∧∃a y:Int,m=⟨[y,0],[⟨(1,1),[a,0],false⟩],⟨(1,1),(1,2),1,2,[0,0]⟩⟩
def Q5 (t:Tg)(m:Mt):Prop:=zD t m=⟨[zz,la],[tU,s12]⟩∧m.tok=zR
def Q7 (t:Tg)(m:Mt):Prop:=zD t m=⟨[la,zz],[tU]⟩
section
variable {t:Tg} {d d':DD} {m m':Mt} {r:Int} {l':Bool}
theorem q7K(h:qW 2 250 t m)(_:JJ 250 t d)(hf:d.qu=0)(hQ:Q0 t m)(hq:yo 250 t d m (zv 250 m 0 la) r d' m' l'):Left Q1 0 r d' m' l':=by
 unfold Q0 at hQ;subst hQ;have e:(zD t (m0 2)).write 0 la=(⟨[la,zz],[]⟩,0):=by rw[qcs];kernel_rfl
 obtain⟨h1,h2,a,h3⟩:=qp4 h (by decide) 0 la (by rw[e]);rw[e]at h2;exact lY h hf h1 h2 (fun t' hs=>⟨hs,a,by rw[h3];rfl⟩) hq
theorem q7L(h:qW 2 250 t m)(_:JJ 250 t d)(hf:d.qu=0)(hQ:Q1 t m)(hq:yo 250 t d m (ke m (1,1)) r d' m' l'):Left Q2 0 r d' m' l':=by
 obtain⟨hs,a,rfl⟩:=hQ;obtain⟨h1,h2,_⟩:=lq h (1,1) ⟨by decide,by decide⟩;have e:(zD t ⟨[a,0],[],zR⟩).snap (1,1)=(⟨[la,zz],[tU]⟩,0):=by rw[hs];kernel_rfl
 rw[e]at h1 h2;exact lY h hf h1 (h2 h1) (fun t' hs=>⟨hs,a,rfl⟩) hq
theorem q7M(h:qW 2 250 t m)(_:JJ 250 t d)(hf:d.qu=0)(hQ:Q2 t m)(hq:yo 250 t d m (zv 250 m 0 (wV 0)) r d' m' l'):Left Q3 0 r d' m' l':=by
 obtain⟨hs,a,rfl⟩:=hQ;have e:(zD t ⟨[a,0],[⟨(1,1),[a,0],false⟩],zR⟩).write 0 (wV 0)=(⟨[zz,zz],[tU]⟩,0):=by rw[hs];kernel_rfl
 obtain⟨h1,h2,y,h3⟩:=qp4 h (by simp) 0 (wV 0) (by rw[e]);rw[e]at h2;exact lY h hf h1 h2 (fun t' hs=>⟨hs,a,y,by rw[h3];rfl⟩) hq
theorem q7N(h:qW 2 250 t m)(_:JJ 250 t d)(hf:d.qu=0)(hQ:Q3 t m)(hq:yo 250 t d m (zi 250 m ⟨(1,1),(1,2),1,2⟩ [(0,wV 0)]) r d' m' l'):Left Q4 0 r d' m' l':=by
 obtain⟨hs,a,y,rfl⟩:=hQ;rw[q2I]at hq;obtain⟨h1,h2,h3⟩:=q2p h (by simp) ⟨(1,1),(1,2),1,2⟩ ⟨by decide,by decide⟩ 0 (by kernel_rfl) (by decide) rfl;rw[hs]at h2;exact lY h hf h1 h2 (fun t' hs=>⟨hs,a,y,by rw[h3];rfl⟩) hq
theorem q7O(h:qW 2 250 t m)(_:JJ 250 t d)(hf:d.qu=0)(hQ:Q4 t m)(hq:yo 250 t d m (zi 250 m ⟨(1,1),(1,2),2,2⟩ [(1,la)]) r d' m' l'):Left Q5 0 r d' m' l':=by
 obtain⟨hs,a,y,rfl⟩:=hQ;obtain⟨h1,h2,h3⟩:=q2q h (by simp) ⟨(1,1),(1,2),2,2⟩ ⟨by decide,by decide⟩ [(1,la)] (by decide) (by kernel_rfl) rfl;have e:kq (volume t (zJ ⟨[y,0],[⟨(1,1),[a,0],false⟩],⟨(1,1),(1,2),1,2,[0,0]⟩⟩ ⟨(1,1),(1,2),2,2⟩)) [(1,la)]=[zz,la]:=rfl;rw[e,hs]at h2;exact lY h hf h1 h2 (fun t' hs=>⟨hs,h3⟩) hq
theorem q7P(h:qW 2 250 t m)(hj:JJ 250 t d)(hf:d.qu=0)(hQ:Q5 t m)(hq:yo 250 t d m (zi 250 m ⟨(1,1),(1,3),1,1⟩ []) r d' m' l'):Left Q5 2 r d' m' l':=by
 have hl:qF m=(1,2):=by rw[← pC t,hQ.1];rfl
 have he:zU m.live.length m.qa.length (qF m) ⟨(1,1),(1,3),1,1⟩ []=2:=by
  rw[hl];unfold zU;rw[if_pos (.inl (by decide))]
 have hc:(zi 250 m ⟨(1,1),(1,3),1,1⟩ []).code=2:=by
  unfold zi;rw[if_pos (by rw[he];decide),he]
 have:=qxu hj h hf hQ (by rw[hc];decide) hq;rw[hc]at this;exact this
theorem q7Q(h:qW 2 250 t m)(_:JJ 250 t d)(hf:d.qu=0)(hQ:Q5 t m)(hq:yo 250 t d m (jF m 1) r d' m' l'):Left Q7 0 r d' m' l':=by
 obtain⟨h1,h2,_⟩:=lr h 1;have e:(zD t m).roll 1=(⟨[la,zz],[tU]⟩,0):=by rw[hQ.1];kernel_rfl
 rw[e]at h1 h2;exact lY h hf h1 (h2 h1) (fun t' hs=>hs) hq
end
end Go.Proofs.YtdagdllomphidaaGreatDoor.vt
namespace Go.Proofs.YtdagdllomphidaaGreatDoor.vt
open _root_.Go.Proofs.Tryz Go Go.RowKit ib jr mt im sp
theorem vb1:ch.qaO (bl ⟨#[48,48]⟩)=[zz,zz]∧ch.qaO (bl ⟨#[97,48]⟩)=[la,zz]∧ch.qaO (bl ⟨#[48,97]⟩)=[zz,la]:=by decide +kernel
section
variable {IV:yx} (H:yz IV) {w w':World} {B v pd:Nat} {X:Nat→Prop} {Q Q':Tg→Mt→Prop}
include H
theorem qct(h:VW IV w B X v pd Q){l:List Bt}(hQ:∀t m,Q t m→(zD t m).live=l):Calls prog 16 #[.pointer (some ⟨v,0,none⟩)] w (ch.kg (l,0) w):=by
 obtain⟨t,d,m,o1,o2,h1,h2,h3,h4,h5,h6,h7⟩:=h;have:=H.live h1 h5 h4;rw[show volume t m.live=l from hQ t m h7]at this;exact this
theorem qi6(h:VW IV w B X v pd Q)(g:Gd)(hg:xn g){r:List Bt × Int}(hQ:∀t m,Q t m→(zD t m).read g=r):Calls prog 32 #[.pointer (some ⟨v,0,none⟩),ch.gv g] w (ch.kg r w):=by
 obtain⟨t,d,m,o1,o2,h1,h2,h3,h4,h5,h6,h7⟩:=h;have:=H.read g h1 h5 h4 hg;rw[hQ t m h7]at this;exact this
theorem qi7(h:VW IV w B X v pd Q){l:List Gd}(hQ:∀t m,Q t m→(zD t m).list=l):Calls prog 22 #[.pointer (some ⟨v,0,none⟩)] w (ch.lu l w):=by
 obtain⟨t,d,m,o1,o2,h1,h2,h3,h4,h5,h6,h7⟩:=h;have:=H.list h1.is;have e:m.qa.map (·.g)=l:=by
  rw[← hQ t m h7];unfold ch.CH.list zD;rw[List.map_map];rfl
 rw[e]at this;exact this
theorem qeG(h:VW IV w B X v pd Q){k:Tk}(hQ:∀t m,Q t m→m.tok=k):Calls prog 25 #[.pointer (some ⟨v,0,none⟩)] w (eL k w):=by
 obtain⟨t,d,m,o1,o2,h1,h2,h3,h4,h5,h6,h7⟩:=h;have:=H.token h1.is;rw[hQ t m h7]at this;exact this
theorem qlh(h:VW IV w B X v pd Q)(hQ:∀t m,Q t m→m.live.length=2):Calls prog 35 #[.pointer (some ⟨v,0,none⟩)] w fun e w'=>e=.returned (.int .i64 2)∧Below w.heap.size w w':=by
 obtain⟨t,d,m,o1,o2,h1,h2,h3,h4,h5,h6,h7⟩:=h;have:=H.blocks h1.is;rw[hQ t m h7]at this;exact this
omit H in
theorem VW.fL(h:VW IV w B X v pd Q){Y:Nat→Prop}(hY:∀j,Y j→X j):VW IV w B Y v pd Q:=by
 obtain⟨t,d,m,o1,o2,h1,h2,h3,h4⟩:=h;exact⟨t,d,m,o1,o2,h1,fun j hj=>⟨(h2 j hj).1,fun hy=>(h2 j hj).2 (hY j hy)⟩,⟨fun j hj=>h3.1 j (hY j hj),fun hy=>h3.2 (hY _ hy)⟩,h4⟩
theorem qeH(h:VW IV w B X v pd Q)(hB:B≤w.heap.size)(k:Int)(s:Bt)(hk:jd k)(hs:∀t d m r d' m' l',qW 2 250 t m→JJ 250 t d→d.qu=0→Q t m→yo 250 t d m (zv 250 m k s) r d' m' l'→Left Q' 0 r d' m' l') :
    Calls prog 17 #[.pointer (some ⟨v,0,none⟩),.int .i64 k,.string (str s)] w fun e w'=>e=.returned (.int .i64 0)∧VW IV w' B X v pd Q'∧Ke B X w w' :=
 nU h hB (P:=fun _ m=>zv 250 m k s) (fun o1 o2 t d m h1 _ hr hj hf _=>H.write k s h1 hj (by omega) hr hk) hs
theorem qsP(h:VW IV w B X v pd Q)(hB:B≤w.heap.size)(g:Gd)(hg:xn g)(hs:∀t d m r d' m' l',qW 2 250 t m→JJ 250 t d→d.qu=0→Q t m→yo 250 t d m (ke m g) r d' m' l'→Left Q' 0 r d' m' l') :
    Calls prog 30 #[.pointer (some ⟨v,0,none⟩),ch.gv g] w fun e w'=>e=.returned (.int .i64 0)∧VW IV w' B X v pd Q'∧Ke B X w w' :=
 nU h hB (P:=fun _ m=>ke m g) (fun o1 o2 t d m h1 _ hr hj hf _=>H.snap g h1 hj (by omega) hr hg) hs
theorem qsQ(h:VW IV w B X v pd Q)(hB:B≤w.heap.size)(k:Int)(hk:jd k)(hs:∀t d m r d' m' l',qW 2 250 t m→JJ 250 t d→d.qu=0→Q t m→yo 250 t d m (jF m k) r d' m' l'→Left Q' 0 r d' m' l') :
    Calls prog 34 #[.pointer (some ⟨v,0,none⟩),.int .i64 k] w fun e w'=>e=.returned (.int .i64 0)∧VW IV w' B X v pd Q'∧Ke B X w w' :=
 nU h hB (P:=fun _ m=>jF m k) (fun o1 o2 t d m h1 _ hr hj hf _=>H.roll k h1 hj (by omega) hr hk) hs
theorem sD (h:VW IV w B X v pd Q)(hB:B≤w.heap.size)(f:Tf)(hF:TfB f)(A:Option Addr)(c:Nat)(x:List (Int × Bt))(hx:ch.bw w A x)(dG:x.length≤1000)(hA:∀b o,A=some ⟨b,o,none⟩→X b){r0:Int}(hs:∀t d m r d' m' l',qW 2 250 t m→JJ 250 t d→d.qu=0→Q t m→yo 250 t d m (zi 250 m f x) r d' m' l'→Left Q' r0 r d' m' l') :
    Calls prog 24 #[.pointer (some ⟨v,0,none⟩),tkV f none 0 0,.slice A x.length c] w fun e w'=>e=.returned (.int .i64 r0)∧VW IV w' B X v pd Q'∧Ke B X w w' :=
 nU h hB (P:=fun _ m=>zi 250 m f x) (fun o1 o2 t d m h1 hX hr hj hf _=>H.stage f A c x h1 hj (by omega) hr hF hx dG (fun b o e=>⟨fun ho=>hX b (.inl ho) (hA b o e),fun ho=>hX b (.inr ho) (hA b o e)⟩)) hs
end
end Go.Proofs.YtdagdllomphidaaGreatDoor.vt
namespace Go.Proofs.YtdagdllomphidaaGreatDoor.vt
open _root_.Go.Proofs.Tryz Go Go.RowKit Go.Sort ib jr mt im sp
theorem qp9{w w':World}{A:Option Addr}{T:Nat}(h:∀j o,A=some ⟨j,o,none⟩→j<w.heap.size∧j≠T)(hb:Below w.heap.size w w'):∀j o,A=some ⟨j,o,none⟩→j<w'.heap.size∧j≠T:=fun j o e=>⟨Nat.lt_of_lt_of_le (h j o e).1 hb.size,(h j o e).2⟩
theorem qli{B:Nat}{X:Nat→Prop}{w w':World}(h:Ke B X w w')(hB:B≤w.heap.size):Below B w w':=h.below hB
theorem sF {w w':World}{A:Option Addr}{l:List Int}(h:qro w A l)(hb:Below w.heap.size w w'):qro w' A l:=fun i hi=>by
 obtain⟨b,o,h1,h2,h3⟩:=h i hi;exact⟨b,o,h1,Nat.lt_of_lt_of_le h2 hb.size,by rw[hb.cell (p:=⟨b,o+i,none⟩) h2];exact h3⟩
def iK (vp TB:Nat)(A:Option Addr)(c:Nat):Nat→Value→World→Prop
 | 0,v,_=>v=.slice A 2 c
 | 1,v,_=>v=.int .i64 0
 | 2,v,_=>v=.bool true
 | 3,v,_=>v=.bool false
 | 4,v,_=>v=.bool false
 | 5,v,_=>v=.pointer (some ⟨TB,2,none⟩)
 | 6,v,_=>v=.agg #[.int .u64 0,.int .u64 0]
 | 7,v,_=>v=.agg #[.int .u64 0,.int .u64 0]
 | 8,v,_=>v=.bool false
 | 9,v,_=>v=.bool false
 | 10,v,_=>v=.bool false
 | 11,v,_=>v=.pointer (some ⟨vp,0,none⟩)
 | 12,v,_=>v=.agg #[.int .u64 1,.int .u64 1]
 | 13,v,_=>v=.agg #[.int .u64 1,.int .u64 3]
 | 14,v,_=>v=.agg #[.int .u64 1,.int .u64 1,.int .u64 1,.int .u64 3,.int .i64 1,.int .i64 1,.slice none 0 0]
 | 15,v,_=>v=.int .i64 2
 | 16,v,_=>v=.bool false
 | 17,v,_=>v=.bool false
 | 18,v,_=>v=.bool false
 | 19,v,_=>v=.pointer (some ⟨vp,0,none⟩)
 | 20,v,_=>v=.int .i64 0
 | 21,v,_=>v=.bool false
 | 22,v,_=>v=.bool false
 | _,_,_=>True
def WkS (IV:yx)(B:Nat)(X:Nat→Prop)(v pd:Nat)(w0:World)(_ b:Bool)(W:World):Prop:=Ke B X w0 W∧VW IV W B X v pd (if b=true then Q7 else Q5)
theorem wk1{IV:yx}(H:yz IV){B v pd:Nat}{X:Nat→Prop}{w0 W:World}(hS:WkS IV B X v pd w0 true false W∨WkS IV B X v pd w0 false false W)(hB:B≤W.heap.size) :
    Calls prog 24 #[.pointer (some ⟨v,0,none⟩),.agg #[.int .u64 1,.int .u64 1,.int .u64 1,.int .u64 3,.int .i64 1,.int .i64 1,.slice none 0 0],.slice none 0 0] W (fun x W'=>x=.returned (.int .i64 2)∧WkS IV B X v pd w0 true false W'):=by
 have h0:Ke B X w0 W∧VW IV W B X v pd Q5:=by
  rcases hS with h|h
  ·exact⟨h.1,h.2⟩
  ·exact⟨h.1,h.2⟩
 refine(sD H h0.2 hB ⟨(1,1),(1,3),1,1⟩ ⟨⟨by decide,by decide⟩,⟨by decide,by decide⟩,by unfold jd;dsimp only;omega,by unfold jd;dsimp only;omega⟩ none 0 [] (ch.bw.nil _ _) (by simp) (fun b o e=>by cases e) (Q':=Q5) (fun _ _ _ _ _ _ _=>q7P)).mono ?_;rintro e W' ⟨rfl,h1,h2⟩;exact⟨rfl,h0.1.trans h2,h1⟩
theorem wk2{IV:yx}(H:yz IV){B v pd:Nat}{X:Nat→Prop}{w0 W:World}(hS:WkS IV B X v pd w0 true false W)(hB:B≤W.heap.size) :
    Calls prog 34 #[.pointer (some ⟨v,0,none⟩),.int .i64 1] W (fun x W'=>x=.returned (.int .i64 0)∧WkS IV B X v pd w0 true true W'):=by
 have h0:Ke B X w0 W∧VW IV W B X v pd Q5:=⟨hS.1,hS.2⟩;refine(qsQ H h0.2 hB 1 (by unfold jd;omega) (Q':=Q7) (fun _ _ _ _ _ _ _=>q7Q)).mono ?_;rintro e W' ⟨rfl,h1,h2⟩;exact⟨rfl,h0.1.trans h2,h1⟩
theorem qlj{IV:yx}(H:yz IV)(w:World)(ht:xL w):Calls prog 8 #[] w (qff w):=by
 have dK:=QH ht;clear ht;have q7R:Hid (∀W,Calls prog 18 #[.int .u8 97] W (okS la W)):=fun W=>ch.wU 97 W;have HD0:Hid (∀W,Calls prog 18 #[.int .u8 0] W (okS (wV 0) W)):=fun W=>ch.wU 0 W;have qpA:Hid (∀W,Calls prog 23 #[.int .u64 1,.int .u64 1] W fun x w'=>x=.returned (.agg #[.int .u64 1,.int .u64 1])∧Below W.heap.size W w'):=fun W=>ch.xx 1 1 W;have qxz:Hid (∀W,Calls prog 23 #[.int .u64 1,.int .u64 2] W fun x w'=>x=.returned (.agg #[.int .u64 1,.int .u64 2])∧Below W.heap.size W w'):=fun W=>ch.xx 1 2 W;have q7S:Hid (∀W,Calls prog 23 #[.int .u64 1,.int .u64 3] W fun x w'=>x=.returned (.agg #[.int .u64 1,.int .u64 3])∧Below W.heap.size W w'):=fun W=>ch.xx 1 3 W;have q7T:Hid (∀W,Calls prog 23 #[.int .u64 0,.int .u64 0] W fun x w'=>x=.returned (.agg #[.int .u64 0,.int .u64 0])∧Below W.heap.size W w'):=fun W=>ch.xx 0 0 W;go_enter func8,ntmps8;go_wp2_with fail;refine(dk.uN 1000 250 250 (by decide) (by decide) (by decide) (by decide) w).mono ?_;rintro e W1 ⟨pd,o,rfl,hd,hb1,ho⟩;have HD1:=QH hd;have qV:=QH hb1;have HO1:=QH ho;clear hd hb1 ho;go_wp2_with fail;refine(H.qd4 250 250 HD1.out (xi dK.out qV.out (zP dK.out)) (by decide) (by decide)).mono ?_;rintro e W2 ⟨rfl,hb2⟩;have HD2:=QH (HD1.out.keep hb2.size (fun j hj=>hb2.block j (cU HD1.out j hj)));have qC:=QH (qc qV.out hb2);clear hb2 qV HD1;go_wp2_with fail;refine(H.lv 2 250 250 HD2.out (xi dK.out qC.out (zP dK.out)) (fun h=>by have h1:=HO1.out _ h;have h2:=zP dK.out;omega) (by decide) (by decide) (by decide) (by decide) (by decide)).mono ?_;rintro e W3 ⟨rfl,t,d,o',hd3,hj,hr,hf,xW,ho'⟩;have qZ:Hid (Below w.heap.size w W3):=qC.out.trans (xW.below (fun j hj=>HO1.out j hj) qC.out.size);have sM:Hid (∀j,o' j→w.heap.size≤j):=fun j hj=>by
  rcases ho' j hj with h|h
  ·exact HO1.out j h
  ·have:=qC.out.size;omega
 clear xW ho' HO1 qC HD2;go_wp2_with fail;refine(H.nN hd3 (xi dK.out qZ.out (zP dK.out)) (fun h=>by have h1:=sM.out _ h;have h2:=zP dK.out;omega) hj.toRJ hf hr).mono ?_;rintro e W4 ⟨v,d',o1,o2,rfl,hv,hj',hf',xW,h1',h2'⟩;have x9:Hid (Below w.heap.size w W4):=qZ.out.trans (xW.below (fun j hj=>sM.out j hj) qZ.out.size);have HV4:Hid (VW IV W4 w.heap.size (fun _=>False) v pd Q0):=⟨t,d',m0 2,o1,o2,hv,fun j hj=>⟨by
  have hs:=qZ.out.size;rcases hj with hj|hj
  ·have:=h1' j hj;omega
  ·rcases h2' j hj with h|h
   ·exact sM.out j h
   ·omega,fun h=>h⟩,⟨fun j hj=>hj.elim,fun h=>h⟩,hr,hj',hf',rfl⟩
 clear hv hd3 hj hj' hr hf hf' xW h1' h2' sM qZ;go_wp2_with fail;refine(qlh H HV4.out (by intro t m h;cases h;rfl)).mono ?_;rintro e W5 ⟨rfl,hb⟩;have HV5:=QH (HV4.out.below H hb);have jX:=QH (qc x9.out hb);clear hb HV4 x9;go_wp2_with fail;refine(qct H HV5.out (l:=[zz,zz]) (by intro t m h;cases h;rw[qcs];rfl)).mono ?_;rintro e W6 ⟨A6,c6,rfl,ht,_,hb⟩;have HV6:=QH (HV5.out.below H hb);have dH:=QH (qc jX.out hb);dsimp only at ht ⊢;have T1:=QH ht;clear ht;clear hb HV5 jX;go_wp2_with fail;refine(ch.jz _ _ [zz,zz] _ W6 T1.out (by decide) vb1.1).mono ?_;rintro e W7 ⟨rfl,hb⟩;have HV7:=QH (HV6.out.below H hb);have HB7:=QH (qc dH.out hb);have T1n:=QH (T1.out.below hb);clear T1;have T1:=QH T1n.out;clear T1n;clear hb HV6 dH;clear T1;go_wp2_with fail;refine(q7R.out W7).mono ?_;rintro e W8 ⟨rfl,hb⟩;have HV8:=QH (HV7.out.below H hb);have HB8:=QH (qc HB7.out hb);clear hb HV7 HB7;go_wp2_with fail;refine(qeH H HV8.out HB8.out.size 0 la (by unfold jd;omega) (fun _ _ _ _ _ _ _=>q7K)).mono ?_;rintro e W9 ⟨rfl,hv,hk⟩;have HV9:=QH hv;have HB9:=QH (HB8.out.trans (hk.below HB8.out.size));clear hv hk HV8 HB8;go_wp2_with fail;refine(qpA.out W9).mono ?_;rintro e W10 ⟨rfl,hb⟩;have q2K:=QH (HV9.out.below H hb);have qgT:=QH (qc HB9.out hb);clear hb HV9 HB9;go_wp2_with fail;refine(qsP H q2K.out qgT.out.size (1,1) ⟨by decide,by decide⟩ (fun _ _ _ _ _ _ _=>q7L)).mono ?_;rintro e W11 ⟨rfl,hv,hk⟩;have q2L:=QH hv;have qgU:=QH (qgT.out.trans (hk.below qgT.out.size));clear hv hk q2K qgT;go_wp2_with fail;refine(HD0.out W11).mono ?_;rintro e W12 ⟨rfl,hb⟩;have q2M:=QH (q2L.out.below H hb);have qsT:=QH (qc qgU.out hb);clear hb q2L qgU;go_wp2_with fail;refine(qeH H q2M.out qsT.out.size 0 (wV 0) (by unfold jd;omega) (fun _ _ _ _ _ _ _=>q7M)).mono ?_;rintro e W13 ⟨rfl,hv,hk⟩;have q2N:=QH hv;have q2O:=QH (qsT.out.trans (hk.below qsT.out.size));clear hv hk q2M qsT;go_wp2_with fail;refine(qpA.out W13).mono ?_;rintro e W14 ⟨rfl,hb⟩;have qx0:=QH (q2N.out.below H hb);have q2P:=QH (qc q2O.out hb);clear hb q2N q2O;go_wp2_with fail;refine(qi6 H qx0.out (1,1) ⟨by decide,by decide⟩ (r:=([la,zz],0)) (by intro t m h;rw[h.1];rfl)).mono ?_;rintro e W15 ⟨A15,c15,rfl,ht,_,hb⟩;have qx1:=QH (qx0.out.below H hb);have qoU:=QH (qc q2P.out hb);dsimp only at ht ⊢;have T1:=QH ht;clear ht;clear hb qx0 q2P;go_wp2_with fail;refine(qct H qx1.out (l:=[zz,zz]) (by intro t m h;rw[h.1])).mono ?_;rintro e W16 ⟨A16,c16,rfl,ht,_,hb⟩;have q2Q:=QH (qx1.out.below H hb);have q2R:=QH (qc qoU.out hb);have T1n:=QH (T1.out.below hb);clear T1;have T1:=QH T1n.out;clear T1n;dsimp only at ht ⊢;have T2:=QH ht;clear ht;clear hb qx1 qoU;go_wp2_with fail;refine(ch.jz _ _ [la,zz] _ W16 T1.out (by decide) vb1.2.1).mono ?_;rintro e W17 ⟨rfl,hb⟩;have q2S:=QH (q2Q.out.below H hb);have q2T:=QH (qc q2R.out hb);have T1n:=QH (T1.out.below hb);clear T1;have T1:=QH T1n.out;clear T1n;have T2n:=QH (T2.out.below hb);clear T2;have T2:=QH T2n.out;clear T2n;clear hb q2Q q2R;clear T1;go_wp2_with fail;refine(ch.jz _ _ [zz,zz] _ W17 T2.out (by decide) vb1.1).mono ?_;rintro e W18 ⟨rfl,hb⟩;have q2V:=QH (q2S.out.below H hb);have qkH:=QH (qc q2T.out hb);have T2n:=QH (T2.out.below hb);clear T2;have T2:=QH T2n.out;clear T2n;clear hb q2S q2T;clear T2;go_wp2_with fail;refine(qpA.out W18).mono ?_;rintro e W19 ⟨rfl,hb⟩;have q2W:=QH (q2V.out.below H hb);have q2X:=QH (qc qkH.out hb);clear hb q2V qkH;go_wp2_with fail;refine(qxz.out W19).mono ?_;rintro e W20 ⟨rfl,hb⟩;have q2Y:=QH (q2W.out.below H hb);have q2Z:=QH (qc q2X.out hb);clear hb q2W q2X;go_wp2_with fail;have HBP:=QH ((Below.refl W20.heap.size W20).alloc (Nat.le_refl _) (.cells #[.int .i64 0,.int .u8 0] 73));have HPT:Hid (ch.PtL (W20.alloc (.cells #[.int .i64 0,.int .u8 0] 73)) (some ⟨W20.heap.size,0,none⟩) [((0:Int),(0:UInt8))]):=ch.qcn W20 0 0 (by unfold jd;omega);have lM:=QH (ch.kS (some ⟨W20.heap.size,0,none⟩) 1 [((0:Int),(0:UInt8))] _ HPT.out (by simp));have HCO:ch.bJ [((0:Int),(0:UInt8))]=[((0:Int),wV 0)]:=rfl;rw[HCO]at lM;obtain⟨S21,qx3⟩:=QE (wV 0);rw[qx3]at lM;have q7U:=QH qx3;clear HCO qx3;refine lM.out.mono ?_;rintro e W21 ⟨v1,rfl,ho1,hb1⟩;obtain⟨A21,c21,hv1,hl1,aI⟩:=ho1.qea (by intro y hy;simp at hy;subst hy;unfold jd;dsimp only;omega);subst hv1;have q3a:Hid (ch.bw W21 A21 [((0:Int),S21)]):=hl1;have yP:=QH (qc HBP.out hb1);have q3b:Hid (VW IV W21 w.heap.size (fun j=>(fun _=>False) j∨∃o,A21=some ⟨j,o,none⟩) v pd _):=q2Y.out.more H yP.out (fun j hj=>by
  rcases hj with hj|⟨o,hj⟩
  ·exact .inl hj
  ·exact .inr ⟨Nat.le_trans HBP.out.size (aI j o hj).1,(aI j o hj).2⟩)
 have qsU:=QH (qc q2Z.out yP.out);clear ho1 hl1 aI hb1 yP HBP HPT lM q2Y q2Z;go_wp2_with fail;refine(sD H q3b.out qsU.out.size ⟨(1,1),(1,2),1,2⟩ ⟨⟨by decide,by decide⟩,⟨by decide,by decide⟩,by unfold jd;dsimp only;omega,by unfold jd;dsimp only;omega⟩ A21 c21 [((0:Int),S21)] q3a.out (by simp) (fun b o e=>.inr ⟨o,e⟩) (fun _ _ _ _ _ _ _=>by rw[← q7U.out];exact q7N)).mono ?_;rintro e W22 ⟨rfl,hv,hk⟩;have qlk:=QH hv;have q3c:=QH (qsU.out.trans (hk.below qsU.out.size));clear hv hk q3b qsU;have qu7:=QH (qlk.out.fL (Y:=(fun _=>False)) (fun j hj=>.inl hj));clear qlk q3a;have qlk:=QH qu7.out;clear qu7;go_wp2_with fail;refine(qeG H qlk.out (k:=⟨(1,1),(1,2),1,2,[0,0]⟩) (by rintro t m ⟨_,a,y,rfl⟩;rfl)).mono ?_;rintro e W23 ⟨A23,c23,rfl,hi,_,hb⟩;have q3d:=QH (qlk.out.below H hb);have qx5:=QH (qc q3c.out hb);have HI:=QH hi;clear hi;unfold tkV tf;dsimp only[List.length_cons,List.length_nil,Nat.reduceAdd,Nat.zero_add];clear hb qlk q3c;go_wp2_with fail;have kD:=QH (qg.new W23 59 #[.int .u64 1,.int .u64 1,.int .u64 1,.int .u64 2,.int .i64 1,.int .i64 2,.slice A23 2 c23]);have HBT:=QH ((Below.refl W23.heap.size W23).alloc (Nat.le_refl _) (.cells #[.int .u64 1,.int .u64 1,.int .u64 1,.int .u64 2,.int .i64 1,.int .i64 2,.slice A23 2 c23] 59));have qpC:Hid (VW IV (W23.alloc (.cells #[.int .u64 1,.int .u64 1,.int .u64 1,.int .u64 2,.int .i64 1,.int .i64 2,.slice A23 2 c23] 59)) w.heap.size (fun j=>j=W23.heap.size) v pd Q4):=q3d.out.more H HBT.out (fun j hj=>.inr ⟨by rw[hj];exact Nat.le_refl _,by rw[hj];simp⟩);have qx6:=QH (qc qx5.out HBT.out);have HIn:=QH (sF HI.out HBT.out);obtain⟨W24,q3e⟩:=QE (W23.alloc (.cells #[.int .u64 1,.int .u64 1,.int .u64 1,.int .u64 2,.int .i64 1,.int .i64 2,.slice A23 2 c23] 59));rw[q3e]at kD HBT qpC qx6 HIn ⊢;obtain⟨TB,hTB⟩:=QE W23.heap.size;rw[hTB]at kD qpC ⊢;have HTL:Hid (TB<W24.heap.size):=kD.out.lt;have HTG:Hid (w.heap.size≤TB):=by rw[← hTB];exact qx5.out.size
 clear q3e hTB HBT HI q3d qx5;have HI:=QH HIn.out;clear HIn;go_wp2_with fail;refine(qi7 H qpC.out (l:=[(1,1)]) (by rintro t m ⟨h,_⟩;rw[h];rfl)).mono ?_;rintro e W25 ⟨A25,c25,rfl,_,_,hb⟩;have q3f:=QH (qpC.out.below H hb);have q3g:=QH (qc qx6.out hb);have kT:=QH (kD.out.below hb);clear kD;have kD:=QH kT.out;clear kT;have HIn:=QH (sF HI.out hb);clear HI;have HI:=QH HIn.out;clear HIn;clear hb qpC qx6;obtain⟨bi,oi,hAi,li,i0⟩:=HI.out 0 (by decide);obtain⟨bi2,oi2,q7W,li2,i1⟩:=HI.out 1 (by decide);subst hAi;cases q7W;simp only[Nat.add_zero,List.getElem_cons_zero,List.getElem_cons_succ]at i0 i1;have qx7:=kD.out.lt;have cz2:=kD.out.cell 2;have cz3:=kD.out.cell 3;have cz4:=kD.out.cell 4;have cz5:=kD.out.cell 5;have cz6:=kD.out.cell 6;simp only[QA,QB,QC]at cz2 cz3 cz4 cz5 cz6;dsimp only[List.length_cons,List.length_nil,Nat.reduceAdd,Nat.zero_add];go_wp2_with fail;refine(qpA.out W25).mono ?_;rintro e W26 ⟨rfl,hb⟩;have q3m:=QH (q3f.out.below H hb);have q3n:=QH (qc q3g.out hb);have kT:=QH (kD.out.below hb);clear kD;have kD:=QH kT.out;clear kT;clear hb q3f q3g;clear i0 i1 li li2 cz2 cz3 cz4 cz5 cz6 qx7 HI;go_wp2_with fail;refine(qxz.out W26).mono ?_;rintro e W27 ⟨rfl,hb⟩;have q3o:=QH (q3m.out.below H hb);have q3p:=QH (qc q3n.out hb);have kT:=QH (kD.out.below hb);clear kD;have kD:=QH kT.out;clear kT;clear hb q3m q3n;go_wp2_with fail;have HBP:=QH ((Below.refl W27.heap.size W27).alloc (Nat.le_refl _) (.cells #[.int .i64 1,.int .u8 97] 73));have HPT:Hid (ch.PtL (W27.alloc (.cells #[.int .i64 1,.int .u8 97] 73)) (some ⟨W27.heap.size,0,none⟩) [((1:Int),(97:UInt8))]):=ch.qcn W27 1 97 (by unfold jd;omega);have lM:=QH (ch.kS (some ⟨W27.heap.size,0,none⟩) 1 [((1:Int),(97:UInt8))] _ HPT.out (by simp));have HCO:ch.bJ [((1:Int),(97:UInt8))]=[((1:Int),la)]:=rfl;rw[HCO]at lM;obtain⟨S28,qx8⟩:=QE la;rw[qx8]at lM;have q7X:=QH qx8;clear HCO qx8;refine lM.out.mono ?_;rintro e W28 ⟨v1,rfl,ho1,hb1⟩;obtain⟨A28,c28,hv1,hl1,aI⟩:=ho1.qea (by intro y hy;simp at hy;subst hy;unfold jd;dsimp only;omega);subst hv1;have q3q:Hid (ch.bw W28 A28 [((1:Int),S28)]):=hl1;have yP:=QH (qc HBP.out hb1);have q3r:Hid (VW IV W28 w.heap.size (fun j=>(fun j=>j=TB) j∨∃o,A28=some ⟨j,o,none⟩) v pd _):=q3o.out.more H yP.out (fun j hj=>by
  rcases hj with hj|⟨o,hj⟩
  ·exact .inl hj
  ·exact .inr ⟨Nat.le_trans HBP.out.size (aI j o hj).1,(aI j o hj).2⟩)
 have qsV:=QH (qc q3p.out yP.out);have kT:=QH (kD.out.below yP.out);clear kD;have kD:=QH kT.out;clear kT;clear ho1 hl1 aI hb1 yP HBP HPT lM q3o q3p;go_wp2_with fail;refine(sD H q3r.out qsV.out.size ⟨(1,1),(1,2),2,2⟩ ⟨⟨by decide,by decide⟩,⟨by decide,by decide⟩,by unfold jd;dsimp only;omega,by unfold jd;dsimp only;omega⟩ A28 c28 [((1:Int),S28)] q3q.out (by simp) (fun b o e=>.inr ⟨o,e⟩) (fun _ _ _ _ _ _ _=>by rw[← q7X.out];exact q7O)).mono ?_;rintro e W29 ⟨rfl,hv,hk⟩;have qll:=QH hv;have q3s:=QH (qsV.out.trans (hk.below qsV.out.size));have kT:=QH (kD.out.of_block (hk.block kD.out.lt (.inl (.inl rfl))));clear kD;have kD:=QH kT.out;clear kT;clear hv hk q3r qsV;have qu8:=QH (qll.out.fL (Y:=(fun j=>j=TB)) (fun j hj=>.inl hj));clear qll q3q;have qll:=QH qu8.out;clear qu8;go_wp2_with fail;refine(qi7 H qll.out (l:=[(1,1),(1,2)]) (by rintro t m ⟨h,_⟩;rw[h];rfl)).mono ?_;rintro e W30 ⟨A30,c30,rfl,_,_,hb⟩;have q3t:=QH (qll.out.below H hb);have q3u:=QH (qc q3s.out hb);have kT:=QH (kD.out.below hb);clear kD;have kD:=QH kT.out;clear kT;clear hb qll q3s;dsimp only[List.length_cons,List.length_nil,Nat.reduceAdd,Nat.zero_add];go_wp2_with fail;refine(qxz.out W30).mono ?_;rintro e W31 ⟨rfl,hb⟩;have qx9:=QH (q3t.out.below H hb);have q3v:=QH (qc q3u.out hb);have kT:=QH (kD.out.below hb);clear kD;have kD:=QH kT.out;clear kT;clear hb q3t q3u;have HTP:=QH kD.out.lt;go_wp2_with fail;refine(qi6 H qx9.out (1,2) ⟨by decide,by decide⟩ (r:=([zz,la],0)) (by rintro t m ⟨h,_⟩;rw[h];rfl)).mono ?_;rintro e W32 ⟨AX,cX,rfl,ht,hna,hb⟩;dsimp only at ht ⊢;have T1:=QH ht;have kT:=QH (kD.out.below hb);clear kD;have kD:=QH kT.out;clear kT;have qxA:Hid (VW IV W32 w.heap.size (fun j=>j=TB∨∃o,AX=some ⟨j,o,none⟩) v pd Q5):=qx9.out.more H hb (fun j hj=>by
  rcases hj with hj|⟨o,hj⟩
  ·exact .inl hj
  ·exact .inr (hna j o hj))
 have HNA:Hid (∀j o,AX=some ⟨j,o,none⟩→j<W32.heap.size∧j≠TB):=fun j o e=>⟨(hna j o e).2,fun h=>by
  have h1:=(hna j o e).1;have h2:=HTP.out;omega⟩
 have q3w:=QH (qc q3v.out hb);clear ht hna hb qx9 q3v;go_wp2_with fail;refine(qeG H qxA.out (k:=zR) (fun _ _ h=>h.2)).mono ?_;rintro e W33 ⟨AK,cK,rfl,_,_,hb⟩;have q3x:=QH (qxA.out.below H hb);have qxB:=QH (qc q3w.out hb);have kT:=QH (kD.out.below hb);clear kD;have kD:=QH kT.out;clear kT;have T1n:=QH (T1.out.below hb);clear T1;have T1:=QH T1n.out;clear T1n;have q3y:=QH (qp9 HNA.out hb);clear HNA;have HNA:=QH q3y.out;clear q3y;unfold tkV tf zR;dsimp only[List.length_cons,List.length_nil,Nat.reduceAdd,Nat.zero_add];clear hb qxA q3w;have qx7:=kD.out.lt;have fz0:=kD.out.frozen 0;have fz1:=kD.out.frozen 1;have fz2:=kD.out.frozen 2;have fz3:=kD.out.frozen 3;have fz4:=kD.out.frozen 4;have fz5:=kD.out.frozen 5;have fz6:=kD.out.frozen 6;have cz0:=kD.out.cell 0;have cz1:=kD.out.cell 1;have cz2:=kD.out.cell 2;have cz3:=kD.out.cell 3;have cz4:=kD.out.cell 4;have cz5:=kD.out.cell 5;have cz6:=kD.out.cell 6;simp only[QA,QB,QC]at cz0 cz1 cz2 cz3 cz4 cz5 cz6;have kh:=QH (((((((kD.out.ql 0 (.int .u64 0)).ql 1 (.int .u64 0)).ql 2 (.int .u64 0)).ql 3 (.int .u64 0)).ql 4 (.int .i64 0)).ql 5 (.int .i64 0)).ql 6 (.slice AK 0 cK));have HBu:Hid (qz (fun j=>j=TB) W33 (((((((W33.setCell ⟨TB,0,none⟩ (.int .u64 0)).setCell ⟨TB,1,none⟩ (.int .u64 0)).setCell ⟨TB,2,none⟩ (.int .u64 0)).setCell ⟨TB,3,none⟩ (.int .u64 0)).setCell ⟨TB,4,none⟩ (.int .i64 0)).setCell ⟨TB,5,none⟩ (.int .i64 0)).setCell ⟨TB,6,none⟩ (.slice AK 0 cK))):=((((((((((((((qz.refl (fun j=>j=TB) W33).setCell ⟨TB,0,none⟩ (.int .u64 0) (.inl rfl))).setCell ⟨TB,1,none⟩ (.int .u64 0) (.inl rfl))).setCell ⟨TB,2,none⟩ (.int .u64 0) (.inl rfl))).setCell ⟨TB,3,none⟩ (.int .u64 0) (.inl rfl))).setCell ⟨TB,4,none⟩ (.int .i64 0) (.inl rfl))).setCell ⟨TB,5,none⟩ (.int .i64 0) (.inl rfl))).setCell ⟨TB,6,none⟩ (.slice AK 0 cK) (.inl rfl));go_wp2_with fail;clear fz0 cz0 fz1 cz1 fz2 cz2 fz3 cz3 fz4 cz4 fz5 cz5 fz6 cz6 qx7;obtain⟨W34,q3z⟩:=QE ((((((((W33.setCell ⟨TB,0,none⟩ (.int .u64 0)).setCell ⟨TB,1,none⟩ (.int .u64 0)).setCell ⟨TB,2,none⟩ (.int .u64 0)).setCell ⟨TB,3,none⟩ (.int .u64 0)).setCell ⟨TB,4,none⟩ (.int .i64 0)).setCell ⟨TB,5,none⟩ (.int .i64 0)).setCell ⟨TB,6,none⟩ (.slice AK 0 cK)):World);rw[q3z]at kh HBu ⊢;have q30:=QH (q3x.out.turn H (HBu.out.mono fun j hj=>.inl hj));have qpD:Hid (Below w.heap.size w W34):=qxB.out.trans (HBu.out.below (fun j hj=>by rw[hj];exact HTG.out) qxB.out.size);have T2:Hid (TxL W34 AX [zz,la]):=T1.out.kept HBu.out.size (fun b o e=>HBu.out.block b (HNA.out b o e).1 (HNA.out b o e).2);have HNB:Hid (∀j o,AX=some ⟨j,o,none⟩→j<W34.heap.size):=fun j o e=>Nat.lt_of_lt_of_le (HNA.out j o e).1 HBu.out.size;have hlt2:=kh.out.lt;clear q3z kD T1 HNA q3x qxB HBu;have sH:Hid (WkS IV w.heap.size (fun j=>j=TB∨∃o,AX=some ⟨j,o,none⟩) v pd W34 false false W34.drew):=⟨Ke.of_below (dm (Below.refl _ _) 1),q30.out.below H (dm (Below.refl _ _) 1)⟩;refine jg (by kernel_rfl) [158,159,160,161,162,163,164,165,166,167,168,169,170,171,172,173,174,175,176,177,178,179,180] (by kernel_rfl) (fun L vs W=>WkS IV w.heap.size (fun j=>j=TB∨∃o,AX=some ⟨j,o,none⟩) v pd W34 (L 15) (L 20) W∧((L 20=true→L 15=true)∧(L 18=true→L 15=true))∧∀i,L i=true→i<23→iK v TB AX cX i (vs i) W) ⟨sH.out,⟨fun h=>(by cases h),fun h=>(by cases h)⟩,fun i hi=>by cases hi⟩ ?_ ?_ ?_
 ·intro i o L vs ρ W ho oy qK hρ hgd hI;obtain⟨hS,hC,bN⟩:=hI;have hG:∀j,L j=true→iK v TB AX cX j (vs j) W:=fun j hj=>by
   by_cases h16:j<23
   ·exact bN j hj h16
   ·match j,h16 with
    | j+23,_=>exact trivial
  have qsp:i<23:=(Array.getElem?_eq_some_iff.1 ho).1;have hc:=hρ.const;have hfn:=hρ.fn;have ni:∀vv W',iK v TB AX cX i vv W'→∀j,zu L i j=true→j<23→iK v TB AX cX j (xy vs i vv j) W':=fun vv W' h2 j hj h16=>by
   by_cases gp:j=i
   ·subst gp;simpa[xy]using h2
   ·simp only[zu,if_neg gp]at hj;have:=bN j hj h16;simp only[xy,if_neg gp]
    match j,h16,this with
    | 0,_,h=>exact h
    | 1,_,h=>exact h
    | 2,_,h=>exact h
    | 3,_,h=>exact h
    | 4,_,h=>exact h
    | 5,_,h=>exact h
    | 6,_,h=>exact h
    | 7,_,h=>exact h
    | 8,_,h=>exact h
    | 9,_,h=>exact h
    | 10,_,h=>exact h
    | 11,_,h=>exact h
    | 12,_,h=>exact h
    | 13,_,h=>exact h
    | 14,_,h=>exact h
    | 15,_,h=>exact h
    | 16,_,h=>exact h
    | 17,_,h=>exact h
    | 18,_,h=>exact h
    | 19,_,h=>exact h
    | 20,_,h=>exact h
    | 21,_,h=>exact h
    | 22,_,h=>exact h
    | j+23,h,_=>exact absurd h (by omega)
  have next:i≠15→i≠20→(i=18→L 15=true)→∀vv W',WkS IV w.heap.size (fun j=>j=TB∨∃o,AX=some ⟨j,o,none⟩) v pd W34 (L 15) (L 20) W'→iK v TB AX cX i vv W'→WkS IV w.heap.size (fun j=>j=TB∨∃o,AX=some ⟨j,o,none⟩) v pd W34 (zu L i 15) (zu L i 20) W'∧((zu L i 20=true→zu L i 15=true)∧(zu L i 18=true→zu L i 15=true))∧∀j,zu L i j=true→j<23→iK v TB AX cX j (xy vs i vv j) W':=fun n1 n2 n3 vv W' h1 h2=>by
   refine⟨?_,⟨?_,?_⟩,ni vv W' h2⟩
   ·simp only[zu,if_neg (Ne.symm n1),if_neg (Ne.symm n2)];exact h1
   ·simp only[zu,if_neg (Ne.symm n1),if_neg (Ne.symm n2)];exact hC.1
   ·intro hm;simp only[zu,if_neg (Ne.symm n1)];by_cases vP:18=i
    ·exact n3 vP.symm
    ·simp only[zu,if_neg vP]at hm;exact hC.2 hm
  have hke:=hS.1;have hkt:=kh.out.of_block (hke.block hlt2 (.inl (.inl rfl)));have z2:=hkt.cell 2;have z3:=hkt.cell 3;have zl:=hkt.lt;simp only[QA,QB,QC,Array.setIfInBounds,List.set_cons_zero,List.set_cons_succ]at z2 z3;rcases i with _|_|_|_|_|_|_|_|_|_|_|_|_|_|_|_|_|_|_|_|_|_|_|i;all_goals (first|omega|skip)
  all_goals simp only[QA,QB,QC,Option.some.injEq]at ho
  all_goals subst ho
  ·have o6:ρ (.tmp 6)=.slice AX 2 cX:=hρ.out 6 rfl;exact q9 (w':=W) (by unfold execOp;simp only[o6,hc];go_simp) (next (by decide) (by decide) (fun h=>absurd h (by decide)) _ _ hS rfl)
  ·have o7:ρ (.tmp 7)=.int .i64 0:=hρ.out 7 rfl;exact q9 (w':=W) (by unfold execOp;simp only[o7,hc];go_simp) (next (by decide) (by decide) (fun h=>absurd h (by decide)) _ _ hS rfl)
  ·have q8a:iK v TB AX cX 0 (vs 0) W:=hG 0 (qK 0 (by kernel_rfl));have q8b:ρ (.tmp 158)=.slice AX 2 cX:=(hρ.at_ 158 0 rfl).trans q8a;have q8c:iK v TB AX cX 1 (vs 1) W:=hG 1 (qK 1 (by kernel_rfl));have q8d:ρ (.tmp 159)=.int .i64 0:=(hρ.at_ 159 1 rfl).trans q8c;refine qj (f:=36) (args:=#[.slice AX 2 cX,.int .i64 0,.string ⟨#[48,97]⟩]) (w':=W) (by unfold execOp;simp only[hfn,q8b,q8d];go_simp) ((ch.jz AX cX [zz,la] _ W (T2.out.kept hS.1.size (fun b o e=>hS.1.block (HNB.out b o e) (.inl (.inr ⟨o,e⟩)))) (by decide) vb1.2.2).mono ?_);rintro x W' ⟨rfl,hb'⟩;exact⟨_,rfl,next (by decide) (by decide) (fun h=>absurd h (by decide)) _ _ (⟨hS.1.trans (Ke.of_below hb'),hS.2.below H hb'⟩) rfl⟩
  ·have q8e:iK v TB AX cX 2 (vs 2) W:=hG 2 (qK 2 (by kernel_rfl));have q8f:ρ (.tmp 160)=.bool true:=(hρ.at_ 160 2 rfl).trans q8e;exact q9 (w':=W) (by unfold execOp;simp only[q8f,hc];go_simp) (next (by decide) (by decide) (fun h=>absurd h (by decide)) _ _ hS rfl)
  ·have q8g:iK v TB AX cX 3 (vs 3) W:=hG 3 (qK 3 (by kernel_rfl));have q8h:ρ (.tmp 161)=.bool false:=(hρ.at_ 161 3 rfl).trans q8g;exact q9 (w':=W) (by unfold execOp;simp only[q8h,hc];go_simp) (next (by decide) (by decide) (fun h=>absurd h (by decide)) _ _ hS rfl)
  ·have o10:ρ (.tmp 10)=.pointer (some ⟨TB,0,none⟩):=hρ.out 10 rfl;exact q9 (w':=W) (by unfold execOp;simp only[o10,hc];go_simp) (next (by decide) (by decide) (fun h=>absurd h (by decide)) _ _ hS rfl)
  ·have q8i:iK v TB AX cX 5 (vs 5) W:=hG 5 (qK 5 (by kernel_rfl));have q8j:ρ (.tmp 163)=.pointer (some ⟨TB,2,none⟩):=(hρ.at_ 163 5 rfl).trans q8i;exact q9 (w':=W) (by unfold execOp;simp only[q8j,hc];go_simp) (next (by decide) (by decide) (fun h=>absurd h (by decide)) _ _ hS rfl)
  ·refine qj (f:=23) (args:=#[.int .u64 0,.int .u64 0]) (w':=W) (by unfold execOp;simp only[hfn,];go_simp) ((q7T.out W).mono ?_);rintro x W' ⟨rfl,hb'⟩;exact⟨_,rfl,next (by decide) (by decide) (fun h=>absurd h (by decide)) _ _ (⟨hS.1.trans (Ke.of_below hb'),hS.2.below H hb'⟩) rfl⟩
  ·have q8k:iK v TB AX cX 6 (vs 6) W:=hG 6 (qK 6 (by kernel_rfl));have q8l:ρ (.tmp 164)=.agg #[.int .u64 0,.int .u64 0]:=(hρ.at_ 164 6 rfl).trans q8k;have q8m:iK v TB AX cX 7 (vs 7) W:=hG 7 (qK 7 (by kernel_rfl));have q8n:ρ (.tmp 165)=.agg #[.int .u64 0,.int .u64 0]:=(hρ.at_ 165 7 rfl).trans q8m;exact q9 (w':=W) (by unfold execOp;simp only[q8l,q8n,hc];go_simp) (next (by decide) (by decide) (fun h=>absurd h (by decide)) _ _ hS rfl)
  ·have q8o:iK v TB AX cX 4 (vs 4) W:=hG 4 (qK 4 (by kernel_rfl));have q8p:ρ (.tmp 162)=.bool false:=(hρ.at_ 162 4 rfl).trans q8o;have q8q:iK v TB AX cX 8 (vs 8) W:=hG 8 (qK 8 (by kernel_rfl));have q8r:ρ (.tmp 166)=.bool false:=(hρ.at_ 166 8 rfl).trans q8q;exact q9 (w':=W) (by unfold execOp;simp only[q8p,q8r,hc];go_simp) (next (by decide) (by decide) (fun h=>absurd h (by decide)) _ _ hS rfl)
  ·have q8s:iK v TB AX cX 9 (vs 9) W:=hG 9 (qK 9 (by kernel_rfl));have q8t:ρ (.tmp 167)=.bool false:=(hρ.at_ 167 9 rfl).trans q8s;exact q9 (w':=W) (by unfold execOp;simp only[q8t,hc];go_simp) (next (by decide) (by decide) (fun h=>absurd h (by decide)) _ _ hS rfl)
  ·have o4:ρ (.tmp 4)=.pointer (some ⟨v,0,none⟩):=hρ.out 4 rfl;exact q9 (w':=W) (by unfold execOp;simp only[o4,hc];go_simp) (next (by decide) (by decide) (fun h=>absurd h (by decide)) _ _ hS rfl)
  ·refine qj (f:=23) (args:=#[.int .u64 1,.int .u64 1]) (w':=W) (by unfold execOp;simp only[hfn,];go_simp) ((qpA.out W).mono ?_);rintro x W' ⟨rfl,hb'⟩;exact⟨_,rfl,next (by decide) (by decide) (fun h=>absurd h (by decide)) _ _ (⟨hS.1.trans (Ke.of_below hb'),hS.2.below H hb'⟩) rfl⟩
  ·refine qj (f:=23) (args:=#[.int .u64 1,.int .u64 3]) (w':=W) (by unfold execOp;simp only[hfn,];go_simp) ((q7S.out W).mono ?_);rintro x W' ⟨rfl,hb'⟩;exact⟨_,rfl,next (by decide) (by decide) (fun h=>absurd h (by decide)) _ _ (⟨hS.1.trans (Ke.of_below hb'),hS.2.below H hb'⟩) rfl⟩
  ·have q8u:iK v TB AX cX 12 (vs 12) W:=hG 12 (qK 12 (by kernel_rfl));have q8v:ρ (.tmp 170)=.agg #[.int .u64 1,.int .u64 1]:=(hρ.at_ 170 12 rfl).trans q8u;have q8w:iK v TB AX cX 13 (vs 13) W:=hG 13 (qK 13 (by kernel_rfl));have q8x:ρ (.tmp 171)=.agg #[.int .u64 1,.int .u64 3]:=(hρ.at_ 171 13 rfl).trans q8w;exact q9 (w':=W) (by unfold execOp;simp only[q8v,q8x,hc];go_simp) (next (by decide) (by decide) (fun h=>absurd h (by decide)) _ _ hS rfl)
  ·have q8y:iK v TB AX cX 11 (vs 11) W:=hG 11 (qK 11 (by kernel_rfl));have q8z:ρ (.tmp 169)=.pointer (some ⟨v,0,none⟩):=(hρ.at_ 169 11 rfl).trans q8y;have q80:iK v TB AX cX 14 (vs 14) W:=hG 14 (qK 14 (by kernel_rfl));have q81:ρ (.tmp 172)=.agg #[.int .u64 1,.int .u64 1,.int .u64 1,.int .u64 3,.int .i64 1,.int .i64 1,.slice none 0 0]:=(hρ.at_ 172 14 rfl).trans q80;have n2:L 20=false:=by
    cases hx:L 20 with
    | false=>rfl
    | true=>exact absurd (hC.1 hx) (by rw[oy];decide)
   rw[oy,n2]at hS;refine qj (f:=24) (args:=#[.pointer (some ⟨v,0,none⟩),.agg #[.int .u64 1,.int .u64 1,.int .u64 1,.int .u64 3,.int .i64 1,.int .i64 1,.slice none 0 0],.slice none 0 0]) (w':=W) (by unfold execOp;simp only[hfn,q8z,q81];go_simp) ((wk1 H (.inr hS) (Nat.le_trans qpD.out.size hS.1.size)).mono ?_);rintro x W' ⟨rfl,h1⟩;refine⟨_,rfl,?_,⟨fun _=>by simp[zu],fun _=>by simp[zu]⟩,ni _ _ rfl⟩;simp only[zu,n2];exact h1
  ·have q82:iK v TB AX cX 15 (vs 15) W:=hG 15 (qK 15 (by kernel_rfl));have q83:ρ (.tmp 173)=.int .i64 2:=(hρ.at_ 173 15 rfl).trans q82;exact q9 (w':=W) (by unfold execOp;simp only[q83,hc];go_simp) (next (by decide) (by decide) (fun h=>absurd h (by decide)) _ _ hS rfl)
  ·have q84:iK v TB AX cX 10 (vs 10) W:=hG 10 (qK 10 (by kernel_rfl));have q85:ρ (.tmp 168)=.bool false:=(hρ.at_ 168 10 rfl).trans q84;have q86:iK v TB AX cX 16 (vs 16) W:=hG 16 (qK 16 (by kernel_rfl));have q87:ρ (.tmp 174)=.bool false:=(hρ.at_ 174 16 rfl).trans q86;exact q9 (w':=W) (by unfold execOp;simp only[q85,q87,hc];go_simp) (next (by decide) (by decide) (fun h=>absurd h (by decide)) _ _ hS rfl)
  ·have q88:iK v TB AX cX 17 (vs 17) W:=hG 17 (qK 17 (by kernel_rfl));have q89:ρ (.tmp 175)=.bool false:=(hρ.at_ 175 17 rfl).trans q88;exact q9 (w':=W) (by unfold execOp;simp only[q89,hc];go_simp) (next (by decide) (by decide) (fun _=>qK 15 (by kernel_rfl)) _ _ hS rfl)
  ·have o4:ρ (.tmp 4)=.pointer (some ⟨v,0,none⟩):=hρ.out 4 rfl;exact q9 (w':=W) (by unfold execOp;simp only[o4,hc];go_simp) (next (by decide) (by decide) (fun h=>absurd h (by decide)) _ _ hS rfl)
  ·have q8A:iK v TB AX cX 19 (vs 19) W:=hG 19 (qK 19 (by kernel_rfl));have q8B:ρ (.tmp 177)=.pointer (some ⟨v,0,none⟩):=(hρ.at_ 177 19 rfl).trans q8A;have yq1:L 15=true:=hC.2 (qK 18 (by kernel_rfl));rw[oy,yq1]at hS;refine qj (f:=34) (args:=#[.pointer (some ⟨v,0,none⟩),.int .i64 1]) (w':=W) (by unfold execOp;simp only[hfn,q8B];go_simp) ((wk2 H hS (Nat.le_trans qpD.out.size hS.1.size)).mono ?_);rintro x W' ⟨rfl,h1⟩;refine⟨_,rfl,?_,⟨fun _=>by simp[zu,yq1],fun _=>by simp[zu,yq1]⟩,ni _ _ rfl⟩;simp only[zu,yq1];exact h1
  ·have q8C:iK v TB AX cX 20 (vs 20) W:=hG 20 (qK 20 (by kernel_rfl));have q8D:ρ (.tmp 178)=.int .i64 0:=(hρ.at_ 178 20 rfl).trans q8C;exact q9 (w':=W) (by unfold execOp;simp only[q8D,hc];go_simp) (next (by decide) (by decide) (fun h=>absurd h (by decide)) _ _ hS rfl)
  ·have q8E:iK v TB AX cX 18 (vs 18) W:=hG 18 (qK 18 (by kernel_rfl));have q8F:ρ (.tmp 176)=.bool false:=(hρ.at_ 176 18 rfl).trans q8E;have q8G:iK v TB AX cX 21 (vs 21) W:=hG 21 (qK 21 (by kernel_rfl));have q8H:ρ (.tmp 179)=.bool false:=(hρ.at_ 179 21 rfl).trans q8G;exact q9 (w':=W) (by unfold execOp;simp only[q8F,q8H,hc];go_simp) (next (by decide) (by decide) (fun h=>absurd h (by decide)) _ _ hS rfl)
 ·intro i o L vs W j want ho oy qK hg hv hI;obtain⟨_,_,bN⟩:=hI;have qsp:i<23:=(Array.getElem?_eq_some_iff.1 ho).1;rcases i with _|_|_|_|_|_|_|_|_|_|_|_|_|_|_|_|_|_|_|_|_|_|_|i;all_goals (first|omega|skip)
  all_goals simp only[QA,QB,QC,Option.some.injEq]at ho
  all_goals subst ho
  all_goals simp only[Option.some.injEq,Prod.mk.injEq,reduceCtorEq]at hg
  ·obtain⟨rfl,rfl⟩:=hg;exact(hv (bN 4 (qK 4 (by kernel_rfl)) (by decide))).elim
  ·obtain⟨rfl,rfl⟩:=hg;exact(hv (bN 4 (qK 4 (by kernel_rfl)) (by decide))).elim
  ·obtain⟨rfl,rfl⟩:=hg;exact(hv (bN 4 (qK 4 (by kernel_rfl)) (by decide))).elim
  ·obtain⟨rfl,rfl⟩:=hg;exact(hv (bN 4 (qK 4 (by kernel_rfl)) (by decide))).elim
  ·obtain⟨rfl,rfl⟩:=hg;exact(hv (bN 10 (qK 10 (by kernel_rfl)) (by decide))).elim
  ·obtain⟨rfl,rfl⟩:=hg;exact(hv (bN 10 (qK 10 (by kernel_rfl)) (by decide))).elim
  ·obtain⟨rfl,rfl⟩:=hg;exact(hv (bN 10 (qK 10 (by kernel_rfl)) (by decide))).elim
  ·obtain⟨rfl,rfl⟩:=hg;exact(hv (bN 10 (qK 10 (by kernel_rfl)) (by decide))).elim
  ·obtain⟨rfl,rfl⟩:=hg;exact(hv (bN 10 (qK 10 (by kernel_rfl)) (by decide))).elim
  ·obtain⟨rfl,rfl⟩:=hg;exact(hv (bN 10 (qK 10 (by kernel_rfl)) (by decide))).elim
  ·obtain⟨rfl,rfl⟩:=hg;exact(hv (bN 18 (qK 18 (by kernel_rfl)) (by decide))).elim
  ·obtain⟨rfl,rfl⟩:=hg;exact(hv (bN 18 (qK 18 (by kernel_rfl)) (by decide))).elim
  ·obtain⟨rfl,rfl⟩:=hg;exact(hv (bN 18 (qK 18 (by kernel_rfl)) (by decide))).elim
 intro vs WE hI;obtain⟨hS,_,hG⟩:=hI;have HKE:Hid (Ke w.heap.size (fun j=>j=TB∨∃o,AX=some ⟨j,o,none⟩) W34 WE):=hS.1;have HVE:Hid (VW IV WE w.heap.size (fun j=>j=TB∨∃o,AX=some ⟨j,o,none⟩) v pd Q7):=hS.2;have df:Hid (Below w.heap.size w WE):=qpD.out.trans (qli HKE.out qpD.out.size);have g22:vs 22=.bool false:=hG 22 rfl (by decide);simp only[za,qN,if_true];rw[g22];clear hG hS q30 qpD HKE kh T2 HNB sH;generalize vs 0=y0;generalize vs 1=y1;generalize vs 2=y2;generalize vs 3=y3;generalize vs 4=y4;generalize vs 5=y5;generalize vs 6=y6;generalize vs 7=y7;generalize vs 8=y8;generalize vs 9=y9;generalize vs 10=y10;generalize vs 11=y11;generalize vs 12=y12;generalize vs 13=y13;generalize vs 14=y14;generalize vs 15=y15;generalize vs 16=y16;generalize vs 17=y17;generalize vs 18=y18;generalize vs 19=y19;generalize vs 20=y20;generalize vs 21=y21;clear g22;simp only[Act.put,List.setIfInBounds_toArray,List.set_cons_succ,List.set_cons_zero];have qsX:=QH HVE.out;have qxD:=QH df.out;clear HVE df;obtain⟨W35,q31⟩:=QE WE;rw[q31]at qsX qxD ⊢;clear q31;go_wp2_with fail;refine(qct H qsX.out (l:=[la,zz]) (by intro t m h;rw[h])).mono ?_;rintro e W36 ⟨A36,c36,rfl,ht,_,hb⟩;have q32:=QH (qsX.out.below H hb);have q33:=QH (qc qxD.out hb);dsimp only at ht ⊢;have T3:=QH ht;clear ht;clear hb qsX qxD;go_wp2_with fail;refine(ch.jz _ _ [la,zz] _ W36 T3.out (by decide) vb1.2.1).mono ?_;rintro e W37 ⟨rfl,hb⟩;have zfE:=QH (q32.out.below H hb);have q8I:=QH (qc q33.out hb);have T3n:=QH (T3.out.below hb);clear T3;have T3:=QH T3n.out;clear T3n;clear hb q32 q33;go_wp2_with fail;go_ret;exact⟨rfl,q8I.out⟩
end Go.Proofs.YtdagdllomphidaaGreatDoor.vt
namespace Go.Proofs.YtdagdllomphidaaGreatDoor
open _root_.Go.Proofs.Tryz Go.RowKit
def cZs:List Int:=fx.map Int.ofNat
theorem qxE:(prog.globals[0]?).map (·.type)=some 279:=by kernel_rfl
theorem qsY:prog.cellsOf 279=16:=by kernel_rfl
theorem qxF:prog.cellsOf 250=1:=by kernel_rfl
theorem qcu{W:World}{name:String}{rest:List (String × DataW Unit)}(h:laidMet prog ((name,Lib.tabData .u32 cZs)::rest) W)(cg:prog.globalNamed name=some 0):xL W:=by
 have hT:=Lib.tabIs_of_head cg qxE underlying279 underlying250 qxF qsY h;have hc:∀i,i<16→W.cell? ⟨0,i,none⟩=some (.int .u32 ((fx.getD i 0:Nat):Int)):=by
  intro i hi;have:=hT.cell cg i (by simpa[cZs,fx]using hi);rw[this];have:∀i:Nat,i<16→cZs.getD i 0=((fx.getD i 0:Nat):Int):=by decide
  rw[this i hi]
 exact⟨World.block_lt_of_cell? W _ (hc 0 (by omega)),hc⟩
noncomputable def qaP (os:Os):World :=
 { World.holding prog os ⟨#[],#[],[]⟩with heap:=(World.holding prog os ⟨#[],#[],[]⟩).heap.modify 0 fun
     | .cells _ t frozen=>.cells (cZs.map fun z=>Value.int .u32 z).toArray t frozen
     | o=>o }
def q34:List Int:=[128,191,160,191,128,159,144,191,128,143]++List.replicate 22 0
noncomputable def gW (os:Os):World :=
 { qaP os with heap:=((qaP os).heap.modify 3 fun
     | .cells _ t frozen=>.cells (q34.map fun z=>Value.int .u8 z).toArray t frozen
     | o=>o).modify 2 fun
     | .cells _ t frozen=>.cells (Go.Pinned.utf8FirstZ.map fun(z:Nat)=>Value.int .u8 (z:Int)).toArray t frozen
     | o=>o }
end Go.Proofs.YtdagdllomphidaaGreatDoor

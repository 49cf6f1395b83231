/- VgCgs, PgMay, PgPut, PgFind, PgApi, PgHide, PgSnap, PgRoll, PgAdd, PgEq, PgChg, PgRead. -/
import Derived.Test.YtdagdllomphidaaGreatDoorZR9
import Derived.Stop.BytesEq
set_option linter.unusedVariables false
set_option linter.unusedSimpArgs false
set_option maxHeartbeats 30000000
set_option maxRecDepth 100000
namespace Go.Proofs.YtdagdllomphidaaGreatDoor.vt.pg
open _root_.Go.Proofs.Tryz Go Go.RowKit Go.Sort ib mt im sp
theorem qhm{t:Tg}{m:Mt}{k:Int}(h:k<0∨(m.qa.length:Int)≤k):(zD t m).changes k=([],5):=by
 unfold ch.CH.changes;have:(zD t m).qa.length=m.qa.length:=by simp[zD]
 rw[this,if_pos h]
theorem qe1{t:Tg}{m:Mt}{k:Nat}(h:k<m.qa.length):(zD t m).changes (k:Int)=(ch.pg.lK (volume t (kO m k)) (volume t m.qa[k].qo) (volume t m.qa[k].qo).length,0):=by
 unfold ch.CH.changes;have hl:(zD t m).qa.length=m.qa.length:=by simp[zD]
 rw[hl,if_neg (by omega),Int.toNat_natCast];have hv:∀i (hi:i<m.qa.length),(zD t m).mH i=volume t m.qa[i].qo:=fun i hi=>by
  unfold ch.CH.mH;have e:(zD t m).qa[i]?=some (fH t m.qa[i]):=by simp[zD,hi]
  rw[e];rfl
 have hp:(zD t m).prev k=volume t (kO m k):=by
  unfold ch.CH.prev;cases k with
  | zero =>
   rw[if_pos rfl,pS];show ch.wH (volume t m.live).length=_;rw[yg];unfold ch.wH volume;rw[List.map_replicate];rfl
  | succ k =>
   rw[if_neg (by omega),Nat.add_sub_cancel,hv k (by omega),qax (by omega)]
 rw[hp,hv k h];rfl
theorem qpg{b N:Nat}{m:Mt}(h:yD b N m)(k:Nat):jw b N (kO m k) :=
 az (m:={ m with qa:=m.qa.take k,tok:=zR }) (h.take k m.live h.live)
def CgR (P Q:List Bt)(w:World)(v i:Value)(wr:World):Prop :=
 ∃k:Nat,k≤Q.length∧i=.int .i64 (k:Int)∧ch.wR wr w.heap.size v (ch.pg.lK P Q k)∧Below w.heap.size w wr
theorem qph{w:World}{B:Nat}{v:Value}{l:List (Int × Bt)}(h:ch.wR w B v l)(hz:∀x∈l,jd x.1):∃a c,v=.slice a l.length c∧ch.bw w a l∧∀b o,a=some ⟨b,o,none⟩→B≤b∧b<w.heap.size:=by
 obtain⟨a,c,hv,h1⟩:=h.view hz;refine⟨a,c,hv,h1,fun b o e=>?_⟩;subst hv;have:=h.lt b (by rw[e];rfl);exact this
theorem qcl{o1 o2:Nat→Prop}{w:World}{v pd N b:Nat}{d:DD}{m:Mt}{t:Tg}(k:Int)(h:VP jL w o1 o2 v pd d m false)(hJ:jr.JJ N t d)(hR:qW b N t m)(hk:ib.jd k):Calls prog 33 #[pt v,.int .i64 k] w (ch.bQ ((zD t m).changes k) w):=by
 obtain⟨i0,hi,hz0,hz1,hz2⟩:=info_parts ch.qgL;obtain⟨A0,A1,A2,c0,c1,c2,hA⟩:=h.is;have HA:=QH hA;have HV:=QH h;have HJ:=QH hJ;have HR:=QH hR;have xF:=QH (jS h hJ.on);have iX:=QH hA.sz;obtain⟨bE,k0,k1,k2,k3,k4,k5,k6,k7,k8,k9,cV⟩:=hA.cells;clear h hJ hR hA;by_cases hno:k<0∨(m.qa.length:Int)≤k
 ·have HC:=QH (qhm (t:=t) hno);go_enter func33,ntmps33;go_wp2_with fail;refine xF.out.mono ?_;rintro e W1 ⟨rfl,rfl⟩;clear xF;by_cases h0:k<0
  ·clear hno;go_wp2_with fail;go_ret2;rw[HC.out];exact⟨none,0,rfl,ch.bw.nil _ _,ib.uE.none _ _,Below.refl _ _⟩
  ·have h1:(m.qa.length:Int)≤k:=by omega
   clear hno;go_wp2_with fail;go_ret2;rw[HC.out];exact⟨none,0,rfl,ch.bw.nil _ _,ib.uE.none _ _,Below.refl _ _⟩
 ·obtain⟨n,rfl⟩:∃n:Nat,k=(n:Int):=⟨k.toNat,by omega⟩;have hn:n<m.qa.length:=by omega
  have hn0:¬ (n:Int)<0:=by omega
  have hn1:¬ (m.qa.length:Int)≤(n:Int):=by omega
  have hn2:(n:Int)<(m.qa.length:Int):=by omega
  have HC:=QH (qe1 (t:=t) hn);have q1S:=qpg HR.out.ok n;have HBO:=QH q1S;have HBS:=QH (pU (G:=fun _=>True) (A0:=A0) (A2:=A2) (c0:=c0) (c1:=c1) (c2:=c2) (HA.out.tab.mono (fun _ _=>trivial)).qa iX.out (fun _ _=>trivial) n (by omega));unfold zq at HBS;clear hno hk q1S;go_enter func33,ntmps33;go_wp2_with fail;refine xF.out.mono ?_;rintro e W1 ⟨rfl,rfl⟩;clear xF;go_wp2_with fail;refine HBS.out.mono ?_;rintro e W2 ⟨B0,d0,rfl,hs,hb2⟩;have hb8:(kO m n).length≤1000:=by have:=HBO.out.1;have:=HR.out.ok.b8;omega
  have q1T:=QH (wT (qX HV.out hb2) HJ.out hs.at_ hb8 (fun z hz=>HBO.out.2.1 z hz));have qC:=QH hb2;clear hs hb2 HBS hb8;go_wp2_with fail;refine q1T.out.mono ?_;rintro e W3 ⟨X1,e1,rfl,hx1,_,hb3⟩;have HX1:=QH hx1;have qZ:=QH (qc qC.out hb3);have hA3:=HA.out.below qZ.out;have cj:=QH hA3;obtain⟨b',o',B,cc,rfl,s1,s2,s3,s4,s5,s6,s7⟩:=hA3.tab.mt.qa n hn;have qsA:=QH (wT (qX HV.out qZ.out) HJ.out s6 (iX.out.uF _ (List.getElem_mem hn)) (fun z hz=>(HR.out.ok.uF _ (List.getElem_mem hn)).2.1 z hz));obtain⟨bE,k0,k1,k2,k3,k4,k5,k6,k7,k8,k9,cV⟩:=hA3.cells;have hbl:(volume t (kO m n)).length=b:=by rw[yg];exact HBO.out.1
  have bG:(volume t m.qa[n].qo).length=b:=by rw[yg];exact(HR.out.ok.uF _ (List.getElem_mem hn)).1
  have hb8:=HR.out.ok.b8;obtain⟨im,vP⟩:=QE (m.qa[n].qo);rw[vP]at HC qsA bG s4;obtain⟨P,hP⟩:=QE (volume t (kO m n));obtain⟨Q,hQ⟩:=QE (volume t im);rw[hP]at HC HX1 hbl ⊢;rw[hQ]at HC qsA bG;clear hx1 hb3 hA3 s2 s3 s5 s6 s7 q1T vP hP hQ;go_wp2_with fail;refine qsA.out.mono ?_;rintro e W4 ⟨X2,e2,rfl,hx2,_,hb4⟩;have iG:=QH hx2;have HX3:=QH (HX1.out.below hb4);have x9:=QH (qc qZ.out hb4);have HQL:=QH bG;have HPL:=QH hbl;clear hx2 hb4 qsA HX1 bE k0 k1 k2 k3 k4 k5 k6 k7 k8 k9 cV s1 s4 bG hbl;go_wp2_with fail;go_loopw [10,63] (fun v i wr=>CgR P Q W4 v i wr) (fun _ i _=>Q.length-(intOf i).toNat);case atStart=>exact⟨0,Nat.zero_le _,rfl,World.ownsRow_nil _ _ _ _,Below.refl _ _⟩
  case round =>
   obtain⟨j,hj,rfl,ho,hB⟩:=hrel;have HO:=QH ho;have HB:=QH hB;clear ho hB;by_cases hlt:j<Q.length
   ·have gp:(j:Int)<(Q.length:Int):=by omega
    have hj0:¬ (j:Int)<0:=by omega
    have hjP:j<P.length:=by have:=HQL.out;have:=HPL.out;omega
    have hjp:(j:Int)<(P.length:Int):=by omega
    have hjb:j<b:=by have:=HQL.out;omega
    have zep:(j:Int)<(b:Int):=by omega
    obtain⟨q1,q2,rfl,q3,q4⟩:=iG.out j hlt;obtain⟨p1,p2,rfl,p3,p4⟩:=HX3.out j hjP;have q5:=Nat.lt_of_lt_of_le q3 HB.out.size;have p5:=Nat.lt_of_lt_of_le p3 HB.out.size;have q6:=(HB.out.cell (p:=⟨q1,q2+j,none⟩) q3).trans q4;have p6:=(HB.out.cell (p:=⟨p1,p2+j,none⟩) p3).trans p4;have gQ:Q.getD j []=Q[j]:=by simp[List.getD,hlt]
    have gP:P.getD j []=P[j]:=by simp[List.getD,hjP]
    have HSA:=QH (ch.pg.rG P Q j);have HMO:=QH (ch.pg.qeb P Q j);rw[gQ,gP]at HSA HMO;have hq:((str Q[j]).toList == (str P[j]).toList)=decide (Q[j]=P[j]):=by
     have h:=iM (str Q[j]) P[j];rw[zh]at h;exact h
    obtain⟨y,hy⟩:=QE (Q[j]);obtain⟨z,hz⟩:=QE (P[j]);rw[hy]at q6 HSA HMO hq;rw[hz]at p6 HSA HMO hq;have hdl:=ch.pg.qis P Q j;clear hy hz q3 q4 p3 p4 gQ gP;by_cases he:y=z
    ·have q7n:=QH (HSA.out he);rw[decide_eq_true he]at hq;have hqn:((str y).toList != (str z).toList)=false:=by unfold bne;rw[hq];rfl
     obtain⟨S1,hS1⟩:=QE (str y);obtain⟨S2,hS2⟩:=QE (str z);rw[hS1]at q6 hq hqn;rw[hS2]at p6 hq hqn;clear he hS1 hS2 HSA HMO;go_wp2_with fail;go_roundw;case rel=>exact⟨j+1,by omega,by go_num,by rw[q7n.out];exact HO.out,HB.out⟩
     case measure=>simp[intOf];omega
    ·have q1V:=QH (HMO.out he);rw[decide_eq_false he]at hq;have hqn:((str y).toList != (str z).toList)=true:=by unfold bne;rw[hq];rfl
     obtain⟨S1,hS1⟩:=QE (str y);obtain⟨S2,hS2⟩:=QE (str z);have gZ:=QH hS1;rw[hS1]at q6 hq hqn;rw[hS2]at p6 hq hqn;have hby:=(Below.refl _ wr).alloc (Nat.le_refl _) (.cells #[.int .i64 (j:Int),.string S1] 62);have HO6:Hid (ch.wR (wr.alloc (.cells #[.int .i64 (j:Int),.string S1] 62)) W4.heap.size _ (ch.pg.lK P Q j)):=zX HO.out (fun j' hj'=>hby.block j' (HO.out.lt j' hj').2);have dH:=QH (qc HB.out hby);have bH:Hid (∀j' u,([.int .i64 (j:Int),.string S1]:List Value)[j']?=some u→(wr.alloc (.cells #[.int .i64 (j:Int),.string S1] 62)).cell? ((⟨wr.heap.size,0,none⟩:Addr).add j')=some u):=fun j' u hu=>by
      rw[addr_add,Nat.zero_add,(qg.new wr 62 #[.int .i64 (j:Int),.string S1]).cell j'];simpa using hu
     have e1':∀u∈([.int .i64 (j:Int),.string S1]:List Value),u.oneCell'=true:=by intro u hu;simp at hu;rcases hu with rfl|rfl <;> rfl
     have E1:=QH e1';have E2:Hid ((ch.pg.lK P Q j).length+1≤maxLen):=by have:=HQL.out;unfold Hid maxLen;omega
     have E3:Hid (((ch.pg.lK P Q j).length+1)*24≤140737488355328):=by have:=HQL.out;unfold Hid;omega
     obtain⟨Lw,hLw⟩:=QE (ch.pg.lK P Q j);rw[hLw]at HO6 q1V E2 E3;clear he hS1 hS2 HSA HMO hby e1' hLw HO hdl;go_wp2_with (at_builtin;refine xt rfl (.tmp 74) (.tmp 78) 60 rfl W4.heap.size 62 i0 (.agg #[.int .i64 0,.string ByteArray.empty]) 2 24 underlying60 hi hz0 hz1 hz2 rfl (by decide) _ _ _ rfl HO6.out ⟨wr.heap.size,0,none⟩ 1 1 [.int .i64 (j:Int),.string S1] rfl rfl bH.out E1.out E2.out E3.out dH.out.size ?_);intro v' w1 hown hgrow _;have HB7:Hid (Below W4.heap.size W4 w1):=dH.out.grown hgrow dH.out.size (fun j hj=>(HO6.out.lt j hj).1);have HO7:Hid (ch.wR w1 W4.heap.size v' (Lw++[((j:Int),y)])):=by
      refine ch.wR.snoc (x:=((j:Int),y)) ?_;show w1.ownsRow _ _ _ v' (Lw.length+1) (ch.ud Lw++[.int .i64 (j:Int),.string (str y)]);rw[gZ.out];exact hown
     clear hown hgrow;go_wp2_with fail;go_roundw;case rel=>exact⟨j+1,by omega,by go_num,by rw[q1V.out];exact HO7.out,HB7.out⟩
     case measure=>simp[intOf];omega
   ·obtain rfl:j=Q.length:=by omega
    have gp:¬ (Q.length:Int)<(Q.length:Int):=by omega
    obtain⟨a,c,hv,h1,h2⟩:=qph HO.out (ch.pg.qbT P Q Q.length (by have:=HQL.out;omega));have HV2:=QH hv;have H1:=QH h1;have H2:=QH h2;clear hv h1 h2;go_wp2_with fail;go_ret2;rw[HC.out];exact⟨a,c,by rw[HV2.out];rfl,H1.out,fun b o e=>⟨Nat.le_trans x9.out.size (H2.out b o e).1,(H2.out b o e).2⟩,qc x9.out HB.out⟩
theorem gU (k:Int)(w:World):Calls prog 33 #[.pointer none,.int .i64 k] w (ch.bQ ([],1) w):=by
 have xF:=QH (yh w);go_enter func33,ntmps33;go_wp2_with fail;refine xF.out.mono ?_;rintro e W1 ⟨rfl,rfl⟩;go_wp2_with fail;go_ret2;exact⟨none,0,rfl,ch.bw.nil _ _,ib.uE.none _ _,Below.refl _ _⟩
end Go.Proofs.YtdagdllomphidaaGreatDoor.vt.pg
namespace Go.Proofs.YtdagdllomphidaaGreatDoor.ch.pg
open _root_.Go.Proofs.Tryz Go Go.RowKit Go.Sort ib
theorem qpi{t:TypeId}{d:TypeDesc}(h:prog.underlying t=some d)(hd:(match d with | .struct _ | .array _ _=>true|_=>false)=true)(w:World):(isAgg t).run prog w=.ok true w:=by
 unfold isAgg;rw[Sem.run_bind,run_underlying h w];cases d <;> simp_all
theorem gJ {t:TypeId}{n:Nat}(h:(prog.info? t).map (·.size)=some n)(w:World):(sizeOf t).run prog w=.ok n w:=by
 cases hq:prog.info? t with
 | none=>simp[hq]at h
 | some i =>
  simp[hq]at h;simp[sizeOf,typeInfo,hq,h]
theorem qe2{t:TypeId}{d:TypeDesc}{n:Nat}(h:prog.underlying t=some d)(hd:(match d with | .struct _ | .array _ _=>true|_=>false)=true)(hn:(prog.info? t).map (·.size)=some n)
    (cs xs:List Value) (o:Nat) (hx:(cs.drop o).take n=xs) (w:World):(part t cs.toArray o).run prog w=.ok (.agg xs.toArray) w:=by
 have ha:=qpi h hd w;have hz:=gJ hn w;have he:cs.toArray.extract o (o+n)=xs.toArray:=by
  apply Array.ext';rw[Array.toList_extract,List.extract_eq_take_drop,Nat.add_sub_cancel_left];exact hx
 simp only[part,Sem.run_bind,ha,Result.andThen_ok,if_true,hz,Sem.run_pure,he]
theorem qpj:(prog.info? 55).map (·.size)=some 2:=by kernel_rfl
theorem lX {n:Nat}(s:Sn)(h:qR n s.bs)(h8:n≤8)(w:World):(Instr.field 131 (.agg (sc s).toArray) 0).run prog w=.ok (.agg (vc s.bs).toArray) w:=by
 have hp:=qe2 (t:=84) underlying84 rfl uq (sc s) (vc s.bs) 0 (by
  unfold sc;rw[List.drop_zero,List.take_left' (xj h h8)]) w
 simp[Instr.field,run_underlying underlying131,Result.andThen,asAgg,hp]
theorem qpk{n:Nat}(s:Sn)(h:qR n s.bs)(h8:n≤8)(w:World):(Instr.field 131 (.agg (sc s).toArray) 1).run prog w=.ok (gv s.g) w:=by
 have hp:=qe2 (t:=55) underlying55 rfl qpj (sc s) [.int .u64 (s.g.1:Int),.int .u64 (s.g.2:Int)] 256 (by
  unfold sc;rw[List.drop_left' (xj h h8)];rfl) w
 simp[Instr.field,run_underlying underlying131,Result.andThen,asAgg,hp,gv]
theorem qi3{own:Nat→Prop}{w:World}{p:Nat}{d:CH}(h:n4 own w p d)(g:Gd):Calls prog 68 #[.pointer (some ⟨p,0,none⟩),gv g] w fun e w'=>e=.returned (.int .i64 (d.may g))∧Below w.heap.size w w':=by
 obtain⟨h0,v,hr⟩:=h;have hb0:=(Below.refl w.heap.size w).alloc (Nat.le_refl _) (.cells #[.int .u64 (g.1:Int),.int .u64 (g.2:Int)] 55);have hr1:=hr.below hb0;obtain⟨W,hW⟩:=QE (w.alloc (.cells #[.int .u64 (g.1:Int),.int .u64 (g.2:Int)] 55));have q0:W.cell? ⟨w.heap.size,0,none⟩=some (.int .u64 (g.1:Int)):=by rw[← hW];exact(qg.new w _ _).cell 0
 have q1:W.cell? ⟨w.heap.size,1,none⟩=some (.int .u64 (g.2:Int)):=by rw[← hW];exact(qg.new w _ _).cell 1
 rw[hW]at hr1 hb0;have q2:=hr1.c2 h0;have HB:=QH hb0;have HW:=QH hW;have HR:=QH hr1;have yB:=QH h0;have e0:∀d os,(grow (redrawn W d) os).cell? ⟨w.heap.size,0,none⟩=some (.int .u64 (g.1:Int)):=fun d os=>cell_regrown q0 d os;have e1:∀d os,(grow (redrawn W d) os).cell? ⟨w.heap.size,1,none⟩=some (.int .u64 (g.2:Int)):=fun d os=>cell_regrown q1 d os;have e2:∀d os,(grow (redrawn W d) os).cell? ⟨p,257,none⟩=some v:=fun d os=>cell_regrown q2 d os;have qe3:=h0.few;have cL:∀b os,Calls prog 69 #[v] (grow (redrawn W b) os) fun e w''=>e=.returned (.agg (sc (xI d.live.length d.qa)).toArray)∧∃q:Regrown,w''=grow (redrawn W q.d) q.os :=
  fun b os=>Calls.regrown_of (ij (HR.out.row.below (below_regrown W b os)) yB.out.qa yB.out.n8 qe3)
 have cA:∀b os,Calls prog 115 #[gv g,gv d.last] (grow (redrawn W b) os) fun e w''=>e=.returned (.bool (above g d.last))∧∃q:Regrown,w''=grow (redrawn W q.d) q.os :=
  fun b os=>Calls.regrown_of (aY g d.last _)
 have sP:=qpk (xI d.live.length d.qa) (aK h0.qa) h0.n8;rw[qsh]at sP;obtain⟨L,hL⟩:=QE (gv d.last);obtain⟨S,hS⟩:=QE ((sc (xI d.live.length d.qa)).toArray);rw[hL]at cA sP;rw[hS]at cL sP;have HM:Hid (d.may g=if above g d.last then(if 20≤d.qa.length then 3 else 0)else 2):=rfl;obtain⟨m,hm⟩:=QE (d.may g);rw[hm]at HM ⊢;generalize above g d.last=q at *;obtain⟨A,c,rfl,hlc,_,_⟩:=xE hr1.row h0.qa h0.n8;clear q0 q1 q2 hW hb0 hL hm hr1 hr h0 hS;unfold gv at cA ⊢;go_enter func68,ntmps68;go_wp2_with fail;rw[HW.out];refine wp_region_quiet_below vY (by kernel_rfl) ?_;repeat (any_goals (first|go_big_quiet_step (first|exact cL _ _|exact cA _ _)|quiet_step (first|exact cL _ _|exact cA _ _)))
 refine wpQuiet_nil ?_;intro _ hw';obtain⟨⟨dq,osq⟩,hw''⟩:=hw';subst hw'';have c2:=e2 dq osq;have hb:=below_regrown W dq osq;have qC:=QH (HB.out.trans (hb.mono HB.out.size));clear hb e0 e1 e2 cL cA HR HB HW;generalize grow (redrawn W dq) osq=W2 at *;cases q with
 | false =>
  have HT:Hid (m=2):=by unfold Hid;rw[HM.out];rfl
  clear HM;go_wp2_with fail;go_ret;exact⟨by rw[HT.out];rfl,qC.out⟩
 | true =>
  by_cases hx:(20:Int)≤(d.qa.length:Int)
  ·have HT:Hid (m=3):=by unfold Hid;rw[HM.out,if_pos rfl,if_pos (by omega)]
   clear HM;go_wp2_with fail;go_ret;exact⟨by rw[HT.out];rfl,qC.out⟩
  ·have HT:Hid (m=0):=by unfold Hid;rw[HM.out,if_pos rfl,if_neg (by omega)]
   clear HM;go_wp2_with fail;go_ret;exact⟨by rw[HT.out];rfl,qC.out⟩
theorem qe4(g:Gd)(w:World):Calls prog 68 #[.pointer none,gv g] w (xU 1 w):=by
 have HB:=QH ((Below.refl w.heap.size w).alloc (Nat.le_refl _) (.cells #[.int .u64 (g.1:Int),.int .u64 (g.2:Int)] 55));unfold gv;go_enter func68,ntmps68;go_wp2_with fail;go_ret;exact⟨rfl,HB.out⟩
theorem qe5{d:CH}(h:d.ok)(s:Sn)(hl:d.qa.length<20)(hs:qR d.live.length s.bs)(hg:xn s.g):CH.ok ⟨d.live,d.qa++[s]⟩:=by
 refine⟨h.live,h.n1,h.n8,fun x hx=>?_,?_,fun x hx=>?_⟩
 ·rcases List.mem_append.1 hx with hx|hx
  ·exact h.qa x hx
  ·obtain rfl:x=s:=by simpa using hx
   exact hs
 ·show(d.qa++[s]).length≤20;rw[List.length_append,List.length_singleton];omega
 ·rcases List.mem_append.1 hx with hx|hx
  ·exact h.iC x hx
  ·obtain rfl:x=s:=by simpa using hx
   exact hg
theorem jJ.quz{w w1:World}{own:Nat→Prop}{p:Nat}{v v':Value}{d:CH}{l:List Sn}(h:jJ w own p v d)(hb:Below w.heap.size w w1)(hr:vh w1 v' l)(ho:d.ok)(hn:∀k,v'.ownBlock=some k→own k∨w.heap.size≤k) :
    jJ (w1.setCell ⟨p,257,none⟩ v') (fun j=>own j∨v'.ownBlock=some j) p v' ⟨d.live,l⟩:=by
 have hb1:=h.blk.of_block (hb.block p h.blk.lt);have hp:=hr.ne hb1 (by decide);refine⟨?_,hr.of_block (fun k hk=>qD _ _ _ _ _ (hp k hk)),.inl h.op,fun k hk=>.inr hk,fun j hj=>?_⟩
 ·have:=hb1.ql 257 v';rw[mY ho.live ho.n8]at this;exact this
 ·have e:(w1.setCell ⟨p,257,none⟩ v').heap.size=w1.heap.size:=by simp[World.setCell]
  rw[e];rcases hj with hj|hj
  ·exact Nat.lt_of_lt_of_le (h.low j hj) hb.size
  ·exact hr.lt j hj
def PuG (p:Nat)(A:Option Addr)(n c B:Nat)(S:List Value):Nat→Value→World→Prop
 | 0,v,_=>v=.pointer (some ⟨p,0,none⟩)
 | 1,v,_=>v=.pointer (some ⟨p,0,none⟩)
 | 2,v,_=>v=.pointer (some ⟨p,0,none⟩)
 | 3,v,_=>v=.pointer (some ⟨p,257,none⟩)
 | 4,v,_=>v=.slice A n c
 | 5,v,_=>v=.int .i64 (n:Int)
 | 6,v,_=>v=.int .i64 (n:Int)
 | 7,v,_=>v=.slice A n n
 | 8,v,_=>v=.agg S.toArray
 | 9,v,w=>∃b,v=.slice (some ⟨b,0,none⟩) 1 1∧qg w b 131 S.toArray∧B≤b
 | _,_,_=>True
theorem qpl(p:Nat)(A:Option Addr)(n c B:Nat)(S:List Value)(i:Nat)(v:Value)(w w':World)(hi:i<10)(h:PuG p A n c B S i v w)(hb:Below w.heap.size w w'):PuG p A n c B S i v w':=by
 match i,hi,h with
 | 0,_,h | 1,_,h | 2,_,h | 3,_,h | 4,_,h | 5,_,h | 6,_,h | 7,_,h | 8,_,h=>exact h
 | 9,_,⟨b,h1,h2,h3⟩=>exact⟨b,h1,h2.below hb,h3⟩
theorem jn {own:Nat→Prop}{w:World}{p:Nat}{v:Value}{d:CH}(h:jJ w own p v d)(ho:d.ok)(hl:d.qa.length<20)(s:Sn)(hs:qR d.live.length s.bs) :
    Calls prog 72 #[.pointer (some ⟨p,0,none⟩),.agg (sc s).toArray] w fun e w'=>e=.returned (.tuple #[])∧∃v' jY,jJ w' jY p v' ⟨d.live,d.qa++[s]⟩∧qz (fun j=>j=p) w w'∧∀j,jY j→own j∨w.heap.size≤j:=by
 obtain⟨i0,hi,hz0,hz1,hz2⟩:=info_parts bD;have cn:Hid ((sc s).length=259):=jc hs ho.n8;have gZ:=QH (lL s);have kX:=QH (qky d.qa s);have HLEN:=QH (rJ ho.qa ho.n8);obtain⟨S,hS⟩:=QE (sc s);rw[hS]at cn gZ kX ⊢;have hb0:=(Below.refl w.heap.size w).alloc (Nat.le_refl _) (.cells S.toArray 131);have hr1:=h.below hb0;have HBX:Hid (qg (w.alloc (.cells S.toArray 131)) w.heap.size 131 S.toArray):=qg.new _ _ _;have HB:=QH hb0;have HR:=QH hr1;have eD:=QH h;have HO:=QH ho;obtain⟨A,c,rfl,hlc,hA,_⟩:=xE h.row ho.qa ho.n8;have hcl:=hr1.row.cells;have HA:=QH hcl.2.1;have HCE:=QH hcl.2.2;have c2:=hr1.c2 ho;have hci:((d.qa.length:Nat):Int)≤(c:Int):=by omega
 have HL:=QH hl;clear h hb0 hr1 hcl hA hS ho hl hs;have qey:=HR.out.blk.lt;go_enter func72,ntmps72;go_wp2_with (refine qf rfl (fM 131 (.tmp 1) S.toArray rfl rfl (by rw[yX,List.size_toArray,cn.out]) (jI gZ.out)) ?_);have C2:=QH c2;obtain⟨n,hn⟩:=QE d.qa.length;have HN:=QH hn;rw[hn]at HA HL HLEN hlc hci C2 c2 ⊢;clear hn c2;obtain⟨W1,hW1⟩:=QE (w.alloc (.cells S.toArray 131));rw[hW1]at HBX HB HR HCE C2 qey ⊢;clear hW1;refine vJ (by kernel_rfl) 10 [10,11,12,13,14,15,16,17,18,19] (by kernel_rfl) (PuG p A n c W1.heap.size S) _ (.pointer (some ⟨p,0,none⟩)) rfl (by decide) (by kernel_rfl) (by kernel_rfl) (by kernel_rfl) (fun _ _ _ h=>h) (Or.inl ⟨by rfl,fun w=>by go_simp⟩) (fun _=>rfl) (qpl _ _ _ _ _ _) ?_ ?_
 ·intro i o vs ρ W zeq hop hρ hfn hb hG;have t0:ρ (.tmp 0)=.pointer (some ⟨p,0,none⟩):=hρ.out 0 rfl;have t3:ρ (.tmp 3)=.pointer (some ⟨w.heap.size,0,none⟩):=hρ.out 3 rfl;have t4:ρ (.tmp 4)=.int .i64 (n:Int):=hρ.out 4 rfl;have tU:=hρ.at_ 11 1 rfl;have s12:=hρ.at_ 12 2 rfl;have s13:=hρ.at_ 13 3 rfl;have s14:=hρ.at_ 14 4 rfl;have s15:=hρ.at_ 15 5 rfl;have s16:=hρ.at_ 16 6 rfl;have s18:=hρ.at_ 18 8 rfl;have c2:W.cell? ⟨p,257,none⟩=some (.slice A n c):=(hb.cell (p:=⟨p,257,none⟩) qey).trans C2.out;rcases i with _|_|_|_|_|_|_|_|_|_|i;all_goals (first|omega|skip)
  all_goals simp only[QA,QB,QC,Option.some.injEq]at hop
  all_goals subst hop
  ·exact q9 (w':=W) (by unfold execOp;simp only[t0];go_simp) ⟨Below.refl _ _,rfl⟩
  ·exact q9 (w':=W) (by unfold execOp;simp only[t0];go_simp) ⟨Below.refl _ _,rfl⟩
  ·have g1:vs 1=_:=hG 1 (by kernel_rfl);exact q9 (w':=W) (by unfold execOp;simp only[tU,g1];go_simp) ⟨Below.refl _ _,rfl⟩
  ·have g2:vs 2=_:=hG 2 (by kernel_rfl);exact q9 (w':=W) (by unfold execOp;simp only[s12,g2];go_simp) ⟨Below.refl _ _,rfl⟩
  ·have g3:vs 3=_:=hG 3 (by kernel_rfl);exact q9 (w':=W) (by unfold execOp;simp only[s13,g3];go_simp) ⟨Below.refl _ _,rfl⟩
  ·exact q9 (w':=W) (by unfold execOp;simp only[t4];go_simp) ⟨Below.refl _ _,rfl⟩
  ·exact q9 (w':=W) (by unfold execOp;simp only[t4];go_simp) ⟨Below.refl _ _,rfl⟩
  ·have g4:vs 4=_:=hG 4 (by kernel_rfl);have g5:vs 5=_:=hG 5 (by kernel_rfl);have g6:vs 6=_:=hG 6 (by kernel_rfl);exact q9 (w':=W) (by unfold execOp;simp only[s14,g4,s15,g5,s16,g6];go_simp) ⟨Below.refl _ _,rfl⟩
  ·exact q9 (w':=W) (qy 131 (.tmp 3) rfl w.heap.size 0 t3 _ _ S _ _ (HBX.out.below hb) underlying131 rfl (by rw[yX,cn.out]) (fun j u hu=>by rw[Nat.zero_add];simpa using hu)) ⟨Below.refl _ _,rfl⟩
  ·have g8:vs 8=_:=hG 8 (by kernel_rfl);exact q9 (qn2 85 131 (.tmp 18) S.toArray 259 rfl (s18.trans g8) underlying85 i0 _ hi hz0 hz1 (by decide) (by decide) (by rw[List.size_toArray,cn.out])) ⟨(Below.refl _ W).alloc (Nat.le_refl _) _,W.heap.size,rfl,qg.new _ _ _,hb.size⟩
 ·intro vs W hb hG;have g0:vs 0=_:=hG 0 (by decide);have g7:vs 7=_:=hG 7 (by decide);obtain⟨bb,g9,yE,hbB⟩:=hG 9 (by decide);have B2:=QH (HB.out.trans (hb.mono HB.out.size));have jK:=QH (HR.out.below hb);have q1X:Hid (∀b,A=some b→∀j u,(vz d.qa)[j]?=some u→W.cell? (b.add j)=some u):=(jK.out.row.cells).2.2;have bH:Hid (∀j u,S[j]?=some u→W.cell? ((⟨bb,0,none⟩:Addr).add j)=some u):=fun j u hu=>by
   rw[addr_add,Nat.zero_add,yE.cell j];simpa using hu
  simp only[za,qN,if_true];rw[g0,g7,g9];generalize vs 1=z1;generalize vs 2=z2;generalize vs 3=z3;generalize vs 4=z4;generalize vs 5=z5;generalize vs 6=z6;generalize vs 8=z8;clear hG g0 g7 g9 hb yE hbB;simp only[Act.put,List.setIfInBounds_toArray,List.set_cons_succ,List.set_cons_zero];refine qL (i:=10) (by kernel_rfl) rfl rfl ?_;refine uT (.tmp 17) (.tmp 19) 85 rfl 131 i0 _ 259 280 underlying85 hi hz0 hz1 hz2 A n (vz d.qa) rfl HLEN.out HA.out q1X.out ⟨bb,0,none⟩ 1 1 S rfl (by rw[cn.out]) bH.out (by decide) (by have:=HL.out;unfold maxLen;omega) (by have:=HL.out;omega) ?_;intro cap cur w1 hb1 zO ht1 hc1 hc2 hsz;have HRW:Hid (vh w1 (.slice (some ⟨W.heap.size,0,none⟩) (n+1) cap) (d.qa++[s])):=by
   refine⟨some ⟨W.heap.size,0,none⟩,cap,?_,?_,hc2,.inr ⟨W.heap.size,cur,rfl,zO,?_⟩⟩
   ·rw[List.length_append,HN.out];rfl
   ·rw[List.length_append,HN.out];exact hc1
   ·rw[List.length_append,HN.out,kX.out];exact ht1
  have HP:=QH (jJ.quz jK.out hb1 HRW.out HO.out (fun k hk=>by
   simp[Value.ownBlock]at hk;exact .inr (by omega)))
  have HBU:=QH (((qz.of_below (S:=fun j=>j=p) B2.out).trans (S':=fun _=>False) (qz.of_below hb1) (fun _ h=>h.elim)).setCell ⟨p,257,none⟩ (.slice (some ⟨W.heap.size,0,none⟩) (n+1) cap) (.inl rfl));have HOW:Hid (∀j,(own j∨(Value.slice (some ⟨W.heap.size,0,none⟩) (n+1) cap).ownBlock=some j)→own j∨w.heap.size≤j):=fun j hj=>by
   rcases hj with hj|hj
   ·exact .inl hj
   ·simp[Value.ownBlock]at hj;have:=B2.out.size;exact .inr (by omega)
  have f1:w1.frozen? ⟨p,257,none⟩=false:=(jK.out.blk.of_block (hb1.block p jK.out.blk.lt)).frozen 257;obtain⟨b1,q7p⟩:∃z,w1.cell? ⟨p,257,none⟩=some z:=⟨_,(hb1.cell (p:=⟨p,257,none⟩) jK.out.blk.lt).trans (jK.out.c2 HO.out)⟩;clear hb1 zO ht1 hc1 hc2 hsz HRW q1X bH HCE;go_simp;refine qL (i:=11) (by kernel_rfl) rfl rfl ?_;go_simp;refine qL (i:=12) (by kernel_rfl) rfl rfl ?_;go_simp;refine qL (i:=13) (by kernel_rfl) rfl rfl ?_;go_simp;refine⟨by kernel_rfl,?_⟩;go_wp2_with fail
  go_end0
  exact⟨rfl,_,_,HP.out,HBU.out,HOW.out⟩
theorem qpm{w:World}{n gb:Nat}(s:Sn)(hs:qR n s.bs)(h8:n≤8)(g:Gd)(hgb:gb<w.heap.size)(q0:w.cell? ⟨gb,0,none⟩=some (.int .u64 (g.1:Int)))(q1:w.cell? ⟨gb,1,none⟩=some (.int .u64 (g.2:Int))) :
    Calls prog 126 #[.agg (sc s).toArray,.pointer (some ⟨gb,0,none⟩)] w fun e w'=>e=.returned (.bool (decide (s.g=g)))∧Below w.heap.size w w':=by
 have cn:Hid ((sc s).length=259):=jc hs h8;have gZ:=QH (lL s);have h1:=quc hs h8;have h2:=qud hs h8;have hq:=qoy s.g g;obtain⟨S,hS⟩:=QE (sc s);rw[hS]at cn gZ h1 h2 ⊢;have hb0:=(Below.refl w.heap.size w).alloc (Nat.le_refl _) (.cells S.toArray 131);have e0:(w.alloc (.cells S.toArray 131)).cell? ⟨w.heap.size,256,none⟩=some (.int .u64 (s.g.1:Int)):=by
  rw[(qg.new w 131 S.toArray).cell 256];simpa using h1
 have e1:(w.alloc (.cells S.toArray 131)).cell? ⟨w.heap.size,257,none⟩=some (.int .u64 (s.g.2:Int)):=by
  rw[(qg.new w 131 S.toArray).cell 257];simpa using h2
 have p0:=(hb0.cell (p:=⟨gb,0,none⟩) hgb).trans q0;have p1:=(hb0.cell (p:=⟨gb,1,none⟩) hgb).trans q1;have HB:=QH hb0;obtain⟨r,hr⟩:=QE (decide (s.g=g));rw[hr]at hq ⊢;generalize (s.g.1:Int)=x1 at *;generalize (s.g.2:Int)=x2 at *;generalize (g.1:Int)=y1 at *;generalize (g.2:Int)=y2 at *;obtain⟨b1,hb1⟩:=QE (x1 == y1);obtain⟨b2,hb2⟩:=QE (x2 == y2);rw[hb1,hb2]at hq;subst hq;clear hS h1 h2 hb0 hr hs;have E0:=QH e0;have E1:=QH e1;have P0:=QH p0;have P1:=QH p1;clear e0 e1 p0 p1 q0 q1;cases b1 <;> cases b2;all_goals
  go_enter func126,ntmps126;go_wp2_with (refine qf rfl (fM 131 (.tmp 0) S.toArray rfl rfl (by rw[yX,List.size_toArray,cn.out]) (jI gZ.out)) ?_;have e0:=E0.out;have e1:=E1.out;have p0:=P0.out;have p1:=P1.out;generalize w.alloc (.cells S.toArray 131)=W at *);go_ret;exact⟨rfl,HB.out⟩
def tI (l:List Sn)(g:Gd):Int:=match l.findIdx? fun s=>decide (s.g=g)with
 | none=>-1
 | some i=>(i:Int)
theorem qpn{l:List Sn}{g:Gd}{k:Nat}(hk:k<l.length)(hg:l[k].g=g)(hb:∀j (h:j<l.length),j<k→l[j].g≠g):tI l g=(k:Int):=by
 unfold tI;have:(l.findIdx? fun s=>decide (s.g=g))=some k:=by
  rw[List.findIdx?_eq_some_iff_getElem];exact⟨hk,by simpa using hg,fun j hj=>by simpa using hb j (by omega) hj⟩
 rw[this]
theorem qpo{l:List Sn}{g:Gd}(hb:∀j (h:j<l.length),l[j].g≠g):tI l g = -1:=by
 unfold tI;have:(l.findIdx? fun s=>decide (s.g=g))=none:=by
  rw[List.findIdx?_eq_none_iff];intro s hs;obtain⟨j,hj,rfl⟩:=List.getElem_of_mem hs;simpa using hb j hj
 rw[this]
def q1Y (l:List Sn)(g:Gd)(w:World)(i:Value)(wr:World):Prop :=
 ∃k:Nat,k≤l.length∧i=.int .i64 (k:Int)∧(∀j (h:j<l.length),j<k→l[j].g≠g)∧Below w.heap.size w wr
theorem qsB{w:World}{n gb:Nat}{v:Value}{l:List Sn}(h:vh w v l)(ho:∀s∈l,qR n s.bs)(h8:n≤8)(bR:l.length≤20)(g:Gd)(hgb:gb<w.heap.size)(q0:w.cell? ⟨gb,0,none⟩=some (.int .u64 (g.1:Int)))(q1:w.cell? ⟨gb,1,none⟩=some (.int .u64 (g.2:Int))) :
    Calls prog 125 #[v,.func (.func 126) #[] #[.pointer (some ⟨gb,0,none⟩)]] w fun e w'=>e=.returned (.int .i64 (tI l g))∧Below w.heap.size w w':=by
 obtain⟨A,c,rfl,hlc,hA,hx⟩:=xE h ho h8;have HX:=QH hx;have HQ0:=QH q0;have HQ1:=QH q1;have HO:=QH ho;have nQ:=QH (fun k hk hg hb=>qpn (l:=l) (g:=g) (k:=k) hk hg hb);have HRN:=QH (fun hb=>qpo (l:=l) (g:=g) hb);obtain⟨R,hR⟩:=QE (tI l g);rw[hR]at nQ HRN ⊢;clear hx q0 q1 h hR ho;go_enter func125,ntmps125;go_wp2_with fail;go_loopw [8] (fun i wr=>q1Y l g w i wr) (fun i _=>l.length-(intOf i).toNat);case atStart=>exact⟨0,Nat.zero_le _,rfl,fun j _ h=>absurd h (by omega),Below.refl _ _⟩
 case round =>
  obtain⟨k,hk,rfl,hno,hB⟩:=hrel;have vr:=QH hno;have HB:=QH hB;clear hno hB;by_cases hlt:k<l.length
  ·have jW:(k:Int)<(l.length:Int):=by omega
   obtain⟨gr,cur,rfl,hb,hc⟩:=HX.out k hlt;have hso:=HO.out _ (List.getElem_mem hlt);have cn:Hid ((sc l[k]).length=259):=jc hso h8;have yP:=QH (hb.below HB.out);have HC:=QH hc;have bI:=QH (qpm l[k] hso h8 g (w:=wr) (Nat.lt_of_lt_of_le hgb HB.out.size) ((HB.out.cell (p:=⟨gb,0,none⟩) hgb).trans HQ0.out) ((HB.out.cell (p:=⟨gb,1,none⟩) hgb).trans HQ1.out));have HYE:=QH (fun(e:l[k].g=g)=>nQ.out k hlt e vr.out);have HNX:Hid (l[k].g≠g→∀j (h:j<l.length),j<k+1→l[j].g≠g):=fun hne j hj hjk=>by
    by_cases qoe:j<k
    ·exact vr.out j hj qoe
    ·obtain rfl:j=k:=by omega
     exact hne
   clear hb hc hso;generalize sc l[k]=S at *;generalize l[k].g=gk at *;go_wp2_with (refine qf rfl (qy 131 (.tmp 14) rfl gr (k*259) rfl _ cur S _ _ yP.out underlying131 rfl (by rw[yX,cn.out]) HC.out) ?_);refine bI.out.mono ?_;rintro e W1 ⟨rfl,hb1⟩;have qV:=QH (HB.out.trans (hb1.mono HB.out.size));clear hb1;by_cases hg:gk=g
   ·rw[decide_eq_true hg];have HR:=QH (HYE.out hg);clear hg HYE HNX bI;go_wp2_with fail;go_ret;rw[HR.out];exact⟨rfl,qV.out⟩
   ·rw[decide_eq_false hg];have HN:=QH (HNX.out hg);clear hg HYE HNX bI;go_wp2_with fail;go_roundw;case rel=>exact⟨k+1,by omega,by go_num,HN.out,qV.out⟩
    case measure=>simp[intOf];omega
  ·have jW:¬ (k:Int)<(l.length:Int):=by omega
   have HR:=QH (HRN.out (fun j hj=>vr.out j hj (by omega)));go_wp2_with fail;go_ret;rw[HR.out];exact⟨rfl,HB.out⟩
def aN (d:CH)(g:Gd):Int × Int:=match d.find g with
 | none=>(0,5)
 | some i=>match d.qa[i]? with
  | none=>(0,5)
  | some s=>if s.hid then(0,14)else((i:Int),0)
theorem qkR(d:CH)(g:Gd):(tI d.qa g = -1∧aN d g=(0,5))∨∃i s,tI d.qa g=((i:Nat):Int)∧i<d.qa.length∧d.qa[i]?=some s∧aN d g=if s.hid then(0,14)else((i:Int),0):=by
 unfold tI aN CH.find;cases hf:d.qa.findIdx? fun s=>decide (s.g=g)with
 | none=>exact .inl ⟨rfl,rfl⟩
 | some i =>
  have hi:=(List.findIdx?_eq_some_iff_getElem.1 hf).1;refine .inr ⟨i,d.qa[i],rfl,hi,List.getElem?_eq_getElem hi,?_⟩;show(match d.qa[i]? with
   | none=>((0:Int),(5:Int))
   | some s=>if s.hid then(0,14)else((i:Int),0))=_
  rw[List.getElem?_eq_getElem hi]
theorem nd (d:CH)(g:Gd):(∃c,c≠0∧aN d g=(0,c)∧d.kK g=(d,c)∧d.read g=([],c)) ∨
    ∃(i:Nat) (s:Sn),aN d g=((i:Int),0)∧i<d.qa.length∧d.qa[i]?=some s∧d.kK g=(⟨d.live,xK d.qa i⟩,0)∧d.read g=(s.bs,0):=by
 unfold aN CH.kK CH.read;cases hf:d.find g with
 | none=>exact .inl ⟨5,by decide,rfl,rfl,rfl⟩
 | some i =>
  dsimp only;have hi:=(List.findIdx?_eq_some_iff_getElem.1 hf).1;rw[List.getElem?_eq_getElem hi];dsimp only;cases hh:d.qa[i].hid with
  | true=>exact .inl ⟨14,by decide,by simp,by simp,by simp⟩
  | false=>exact .inr ⟨i,d.qa[i],by simp,hi,List.getElem?_eq_getElem hi,by simp,by simp⟩
theorem jT {own:Nat→Prop}{w:World}{p:Nat}{d:CH}(h:n4 own w p d)(g:Gd):Calls prog 81 #[.pointer (some ⟨p,0,none⟩),gv g] w fun e w'=>e=.returned (.tuple #[.int .i64 (aN d g).1,.int .i64 (aN d g).2])∧Below w.heap.size w w':=by
 obtain⟨h0,v,hr⟩:=h;have hb0:=(Below.refl w.heap.size w).alloc (Nat.le_refl _) (.cells #[.int .u64 (g.1:Int),.int .u64 (g.2:Int)] 55);have hr1:=hr.below hb0;have q0:(w.alloc (.cells #[.int .u64 (g.1:Int),.int .u64 (g.2:Int)] 55)).cell? ⟨w.heap.size,0,none⟩=some (.int .u64 (g.1:Int)):=(qg.new w _ _).cell 0;have q1:(w.alloc (.cells #[.int .u64 (g.1:Int),.int .u64 (g.2:Int)] 55)).cell? ⟨w.heap.size,1,none⟩=some (.int .u64 (g.2:Int)):=(qg.new w _ _).cell 1;have HI:=QH (qsB hr1.row h0.qa h0.n8 h0.few g (by simp) q0 q1);have q2:=hr1.c2 h0;have sL:=QH (qkR d g);have HB:=QH hb0;have HR:=QH hr1;have yB:=QH h0;obtain⟨R,hR⟩:=QE (aN d g);rw[hR]at sL ⊢;obtain⟨X,hX⟩:=QE (tI d.qa g);rw[hX]at sL HI;have qe3:=h0.few;have qey:=HR.out.blk.lt;obtain⟨A,c,rfl,hlc,_,_⟩:=xE hr1.row h0.qa h0.n8;clear q0 q1 hb0 hr1 hr h0 hR hX;unfold gv;go_enter func81,ntmps81;go_wp2_with fail;refine HI.out.mono ?_;rintro e W1 ⟨rfl,hb1⟩;have qV:=QH (HB.out.trans (hb1.mono HB.out.size));have jo:=QH (HR.out.below hb1);clear hb1 HI q2 HB HR;rcases sL.out with⟨rfl,hf⟩|⟨i,s,rfl,bG,hs,hf⟩
 ·have HF:=QH hf;clear hf sL;go_wp2_with fail;go_ret2;rw[HF.out];exact⟨rfl,qV.out⟩
 ·have HF:=QH hf;obtain⟨A2,c3,e,_,_,hx⟩:=xE jo.out.row yB.out.qa yB.out.n8;simp only[Value.slice.injEq]at e;obtain⟨rfl,_,rfl⟩:=e;obtain⟨gr,cur,rfl,hb,hc⟩:=hx i bG;obtain rfl:d.qa[i]=s:=by
   rw[List.getElem?_eq_getElem bG]at hs;exact Option.some.inj hs
  have hso:=yB.out.qa _ (List.getElem_mem bG);have c3:W1.cell? ⟨gr,i*259+258,none⟩=some (.bool d.qa[i].hid):=by
   rw[hb.cell];exact hc 258 _ (qwB hso yB.out.n8)
  have q2:=jo.out.c2 yB.out;have hii:(i:Int)<(d.qa.length:Int):=by omega
  have hin:¬ (i:Int)<0:=by omega
  generalize d.qa[i].hid=hd at *;clear hf sL hx hb hc hso hs;cases hd with
  | true =>
   have HF2:Hid (R=(0,14)):=by unfold Hid;simpa using HF.out
   go_wp2_with fail;go_ret2;rw[HF2.out];exact⟨rfl,qV.out⟩
  | false =>
   have HF2:Hid (R=((i:Int),0)):=by unfold Hid;simpa using HF.out
   go_wp2_with fail;go_ret2;rw[HF2.out];exact⟨rfl,qV.out⟩
theorem qaF(g:Gd)(w:World):Calls prog 81 #[.pointer none,gv g] w fun e w'=>e=.returned (.tuple #[.int .i64 0,.int .i64 1])∧Below w.heap.size w w':=by
 have HB:=QH ((Below.refl w.heap.size w).alloc (Nat.le_refl _) (.cells #[.int .u64 (g.1:Int),.int .u64 (g.2:Int)] 55));unfold gv;go_enter func81,ntmps81;go_wp2_with fail;go_ret2;exact⟨rfl,HB.out⟩
theorem vq {own:Nat→Prop}{w w':World}{p:Nat}{d:CH}{r:Int}{e:Ending}(h:n4 own w p d)(hb:Below w.heap.size w w')(he:e=.returned (.int .i64 r)):Aft n4 own p (d,r) w e w'∧qz (fun j=>j=p) w w':=by
 obtain⟨h0,v,h1⟩:=h;exact⟨⟨he,own,⟨h0,v,h1.below hb⟩,qz.of_below hb,fun j hj=>.inl hj⟩,qz.of_below hb⟩
theorem qhn(n:Nat)(h8:n≤8):qI n (wH n) (.slice none 0 0)=qI n [] (.slice none 0 0):=by
 unfold qI;rw[qiu n h8]
theorem qe6{ρ:Operand→Value}{o:Oper}{w:World}(x:Operand)(n:Nat)(ho:o.op=.build 87 #[(0,x)])(hx:ρ x=.int .i64 (n:Int)) :
    (execOp ρ o).run prog w=.ok (.value (.agg (qI n [] (.slice none 0 0)).toArray)) w:=by
 obtain⟨i0,hi,hz0,_,_⟩:=info_parts qiv;have hz:∀w,(zeroValue 87).run prog w=.ok (.agg (qI 0 [] (.slice none 0 0)).toArray) w:=fun w=>by simp[zeroValue,typeInfo,hi,hz0]
 have hb:(Instr.build 87 #[(0,.int .i64 (n:Int))]).run prog w=.ok (.agg (qI n [] (.slice none 0 0)).toArray) w:=by
  have e:(qI n [] (.slice none 0 0)).toArray=(qI 0 [] (.slice none 0 0)).toArray.set! 0 (.int .i64 (n:Int)):=rfl;rw[e];have hne:(qI 0 [] (.slice none 0 0)).toArray ≠ #[]:=by simp[qI]
  generalize (qI 0 [] (.slice none 0 0)).toArray=z0 at *;simp[Instr.build,hz,Result.andThen,go_sem,Value.cells];rw[if_neg hne];rfl
 simp[execOp,ho,hx,hb,Result.andThen]
theorem sj (n:Nat)(l:List Bt)(v:Value)(hv:v.oneCell'=true):∀u∈qI n l v,u.oneCell'=true:=by
 intro u hu;unfold qI at hu;simp only[List.mem_cons,List.mem_append,List.not_mem_nil,or_false]at hu;rcases hu with rfl|hu|rfl
 ·rfl
 ·exact rI l u hu
 ·exact hv
theorem pJ (b:Int)(w:World)(hb:jd b)(h:b<1∨8<b):Calls prog 10 #[.int .i64 b] w fun e w'=>e=.returned (.pointer none)∧Below w.heap.size w w':=by
 rcases h with h|h
 ·go_enter func10,ntmps10;go_wp2_with fail;go_ret;exact⟨rfl,Below.refl _ _⟩
 ·have h2:¬ b<1:=by omega
  go_enter func10,ntmps10;go_wp2_with fail;go_ret;exact⟨rfl,Below.refl _ _⟩
def q1Z (n:Nat)(w:World)(e:Ending)(w':World):Prop:=∃p own,e=.returned (.pointer (some ⟨p,0,none⟩))∧n4 own w' p (ug n)∧Below w.heap.size w w'∧∀j,own j→w.heap.size≤j
theorem uN (n:Nat)(w:World)(h1:1≤n)(h8:n≤8):Calls prog 10 #[.int .i64 (n:Int)] w (q1Z n w):=by
 have hi1:¬ (n:Int)<1:=by omega
 have hi8:¬ (8:Int)<(n:Int):=by omega
 have HC:=QH (sj n [] (.slice none 0 0) rfl);have HL:Hid ((qI n [] (.slice none 0 0)).length=258):=kA (n:=0) ⟨rfl,fun v hv=>by simp at hv⟩ (by omega);have HE:=QH (qhn n h8);obtain⟨C,hC⟩:=QE (qI n [] (.slice none 0 0));have HCC:=QH hC;rw[hC]at HC HL HE;clear hC;go_enter func10,ntmps10;go_wp2_with (first|(refine qf rfl (qe6 _ n rfl rfl) ?_;rw[HCC.out])|(refine qf rfl (fM 87 (.tmp 10) C.toArray rfl rfl (by rw[qbW,List.size_toArray,HL.out]) (jI HC.out)) ?_));go_ret;refine⟨w.heap.size,fun j=>j=w.heap.size,rfl,⟨?_,.slice none 0 0,?_,?_,rfl,(fun k hk=>by cases hk),fun k hk=>by rw[hk];simp⟩,(Below.refl w.heap.size w).alloc (Nat.le_refl _) _,fun j hj=>by omega⟩
 ·have hl:(ug n).live.length=n:=by simp[ug,wH]
  exact⟨by rw[hl];exact qbz n,by rw[hl];exact h1,by rw[hl];exact h8,fun s hs=>by simp[ug]at hs,by simp[ug],fun s hs=>by simp[ug]at hs⟩
 ·have hl:(ug n).live.length=n:=by simp[ug,wH]
  show qg _ _ _ (qI (ug n).live.length (wH n) (.slice none 0 0)).toArray;rw[hl,HE.out];exact qg.new _ _ _
 ·exact⟨none,0,rfl,Nat.le_refl _,by unfold maxLen;omega,.inl ⟨rfl,rfl,rfl⟩⟩
def qxj (own:Nat→Prop)(p:Nat)(d:CH)(w:World)(e:Ending)(w':World):Prop:=∃q jY,e=.returned (.pointer (some ⟨q,0,none⟩))∧n4 jY w' q d∧Below w.heap.size w w'∧∀j,jY j→(own j∧j≠p)∨w.heap.size≤j
theorem sf {own:Nat→Prop}{w:World}{p:Nat}{d:CH}(h:n4 own w p d):Calls prog 14 #[.pointer (some ⟨p,0,none⟩)] w (qxj own p d w):=by
 obtain⟨i0,hi,hz0,_,_⟩:=info_parts qiv;have HI:=QH hi;have HZ0:=QH hz0;have HIS:=QH h;obtain⟨h0,v,hr⟩:=h;have HV:=QH hr.vp;have HR:=QH hr;have yB:=QH h0;have HL:Hid ((qI d.live.length d.live v).length=258):=kA h0.live h0.n8;have hv1:v.oneCell'=true:=by
  obtain⟨A,c,rfl,_⟩:=hr.row;rfl
 have HC:=QH (sj d.live.length d.live v hv1);have HB:=QH hr.blk;have HCC:Hid (∃C,qI d.live.length d.live v=C):=⟨_,rfl⟩;obtain⟨C,hC⟩:=HCC.out;have HE:=QH hC;rw[hC]at HL HC HB;have HZL:Hid ((qI 0 [] (.slice none 0 0)).length=258):=kA (n:=0) ⟨rfl,fun v hv=>by simp at hv⟩ (by omega);obtain⟨Z,hZ⟩:=QE (qI 0 [] (.slice none 0 0));rw[hZ]at HZ0 HZL;clear hC HCC hr h0 hv1 hi hz0 hZ;go_enter func14,ntmps14;go_wp2_with (first|(refine qf rfl (qy 87 (.tmp 7) rfl p 0 rfl _ _ C _ _ HB.out underlying87 rfl (by rw[qbW,HL.out]) (fun j u hu=>by rw[Nat.zero_add];simpa using hu)) ?_)|(refine qf rfl (ku 87 i0 Z.toArray rfl HI.out HZ0.out) ?_)|(refine wpList_skip rfl (qU w 87 Z.toArray C.toArray (.tmp 3) (.tmp 8) rfl rfl rfl (by rw[qbW,List.size_toArray,HL.out]) (by rw[List.size_toArray,List.size_toArray,HL.out,HZL.out]) (jI HC.out)) ?_));go_ret;have hb:Below w.heap.size w (w.alloc (.cells C.toArray 87)):=(Below.refl w.heap.size w).alloc (Nat.le_refl _) _;refine⟨w.heap.size,fun j=>(own j∧j≠p)∨j=w.heap.size,rfl,⟨yB.out,v,?_,HR.out.row.below hb,.inr rfl,fun k hk=>.inl ⟨HR.out.om k hk,HV.out k hk⟩,fun k hk=>?_⟩,hb,fun j hj=>?_⟩
 ·rw[HE.out];exact qg.new _ _ _
 ·rcases hk with hk|hk
  ·exact Nat.lt_of_lt_of_le (HR.out.low k hk.1) hb.size
  ·rw[hk];simp
 ·rcases hj with hj|hj
  ·exact .inl hj
  ·exact .inr (by omega)
theorem sq {own:Nat→Prop}{w:World}{p:Nat}{d:CH}(k:Int)(s:Bt)(h:n4 own w p d):Calls prog 37 #[.pointer (some ⟨p,0,none⟩),.int .i64 k,.string (str s)] w fun e w'=>Aft n4 own p (d.write k s) w e w'∧qz (fun j=>j=p) w w':=by
 have HIS:=QH h;obtain⟨h0,v,hr⟩:=h;have HT:=QH (wS hr.c0 k s);by_cases hg:0≤k∧k<(d.live.length:Int)∧s.length=32
 ·rw[decide_eq_true hg]at HT;obtain⟨m,rfl⟩:∃m:Nat,k=(m:Int):=⟨k.toNat,by omega⟩;have hm:m<d.live.length:=by omega
  have hw:d.write (m:Int) s=(⟨d.live.set m s,d.qa⟩,0):=by
   unfold CH.write;rw[if_neg (by omega)];rfl
  rw[hw];have HR:=QH hr;have yB:=QH h0;have HHM:=QH hm;have HS:=QH hg.2.2;have HN8:=QH h0.n8;clear hg hw hr h0 hm;go_enter func37,ntmps37;go_wp2_with fail;refine HT.out.mono ?_;rintro e W1 ⟨rfl,hb1⟩;have qV:=QH hb1;have jo:=QH (HR.out.below hb1);clear hb1 HT;go_wp2_with fail;refine(qiw jo.out.blk (o:=1) (by rw[List.size_toArray,kA yB.out.live yB.out.n8];omega) m (by have:=HHM.out;have:=HN8.out;omega) s HS.out).mono ?_;rintro e W2 ⟨rfl,hW2⟩;have HW2:=QH hW2;clear hW2;go_wp2_with fail;go_ret;have cf:=qed (m:=d.live.length) (v:=v) yB.out.live yB.out.n8 m s HHM.out;have hb:=jo.out.blk;have hbu:=uW W1 p (qI d.live.length (d.live.set m s) v).toArray;have hk2:=uV (c:=(qI d.live.length (d.live.set m s) v).toArray) hb;have e2:W2=W1.setRow p (qI d.live.length (d.live.set m s) v).toArray:=by
   rw[HW2.out,← cf]
  rw[← e2]at hbu hk2;have hl:(d.live.set m s).length=d.live.length:=List.length_set;have mA:qz (fun j=>j=p) w W2:=(qz.of_below (S:=fun j=>j=p) qV.out).trans hbu (fun _ h=>.inl h);refine⟨⟨rfl,own,⟨?_,v,?_,?_,jo.out.op,jo.out.om,fun j hj=>Nat.lt_of_lt_of_le (jo.out.low j hj) hbu.size⟩,mA.mono (fun j hj=>by rw[hj];exact HR.out.op),fun j hj=>.inl hj⟩,mA⟩
  ·have h0:=yB.out;have hvo:qR d.live.length (d.live.set m s):=qni h0.live HS.out;exact⟨by rw[hl];exact hvo,by rw[hl];exact h0.n1,by rw[hl];exact h0.n8,by intro x hx;rw[hl];exact h0.qa x hx,h0.few,h0.iC⟩
  ·show qg W2 p _ (qI (d.live.set m s).length (d.live.set m s) v).toArray;rw[hl];exact hk2
  ·exact jo.out.row.of_block (fun j hj=>hbu.block j (jo.out.row.lt j hj) (jo.out.vp j hj))
 ·rw[decide_eq_false hg]at HT;have hw:d.write k s=(d,2):=by
   unfold CH.write;rw[if_pos (by omega)]
  rw[hw];clear hg hw hr h0;go_enter func37,ntmps37;go_wp2_with fail;refine HT.out.mono ?_;rintro e W1 ⟨rfl,hb1⟩;have qV:=QH hb1;clear hb1 HT;go_wp2_with fail;go_ret;exact vq HIS.out qV.out rfl
theorem qaG:∀(l:List Sn) (i:Nat),i<l.length→(∀s∈l,(sc s).length=259)→(vz l).set (i*259+258) (.bool true)=vz (xK l i)
 | x::l,0,_,h=>by
  have hx:=h x (by simp);have hv:(vc x.bs).length=256:=by
   unfold sc at hx;simpa using hx
  show(sc x++vz l).set (0*259+258) (.bool true)=sc { x with hid:=true }++vz l;rw[List.set_append_left _ _ (by omega)]
  congr 1
  unfold sc;rw[List.set_append_right _ _ (by omega),hv];rfl
 | x::l,i+1,hi,h=>by
  have ih:=qaG l i (by simpa using hi) (fun s hs=>h s (by simp[hs]));have hx:=h x (by simp);have e:xK (x::l) (i+1)=x::xK l i:=by simp[xK]
  rw[e];show(sc x++vz l).set ((i+1)*259+258) (.bool true)=sc x++vz (xK l i);rw[List.set_append_right _ _ (by omega),hx,show(i+1)*259+258-259=i*259+258 by omega,ih]
def qxk (l:List Sn)(w:World)(e:Ending)(w':World):Prop:=∃g c cur,e=.returned (.slice (some ⟨g,0,none⟩) l.length c)∧w.heap.size≤g∧qg w' g 131 cur∧cur.toList.take (l.length*259)=vz l∧l.length≤c∧c≤maxLen∧Below w.heap.size w w'
theorem qho{ρ:Operand→Value}{o:Oper}{w:World}(ho:o.op=.buildSlice 85 0 #[]) :
    (execOp ρ o).run prog w=.ok (.value (.slice (some ⟨w.heap.size,0,none⟩) 0 0)) (w.alloc (.cells #[] 131)):=by
 have hz:=gJ (t:=131) yX w;have hr:(Instr.buildSlice 85 0 #[]).run prog w=.ok (.slice (some ⟨w.heap.size,0,none⟩) 0 0) (w.alloc (.cells #[] 131)):=by
  simp[Instr.buildSlice,run_underlying underlying85,hz,Instr.fill,newRow,Result.andThen];rw[show Array.map (fun _:Nat=>(default:Value)) (Array.range 0) = #[]from Array.ext (by simp) (fun i _ h2=>by simp at h2)]
 simp[execOp,ho,hr,Result.andThen]
theorem qkS(d:Nat)(a:Addr)(n c:Nat)(w:World):(Op.equalIn (d+1) 85 (.slice (some a) n c) (.slice none 0 0)).run prog w=.ok false w:=by
 simp[Op.equalIn,run_underlying underlying85]
theorem nT (a:Addr)(n c:Nat)(w:World):(binOp .eql 85 (.slice (some a) n c) (.slice none 0 0)).run prog w=.ok (.bool false) w:=by
 have h:(Op.equalIn 10000 85 (.slice (some a) n c) (.slice none 0 0)).run prog w=.ok false w:=qkS 9999 a n c w;simp only[binOp];simp[Op.equal,Op.maxDepth,h,Result.andThen]
theorem lJ {w:World}{n:Nat}{v:Value}{l:List Sn}(h:vh w v l)(ho:∀s∈l,qR n s.bs)(h8:n≤8)(h1:0<l.length)(bR:l.length≤20):Calls prog 82 #[v] w (qxk l w):=by
 obtain⟨i0,hi,hz0,hz1,hz2⟩:=info_parts bD;have HLEN:=QH (rJ ho h8);have qrZ:Hid (∀u∈vz l,u.oneCell'=true):=fun u hu=>by
  obtain⟨s,_,h⟩:=List.mem_flatMap.1 hu;exact lL s u h
 have hb1:=(Below.refl w.heap.size w).alloc (Nat.le_refl _) (.cells #[] 131);have hr1:=h.below hb1;obtain⟨A,c,rfl,hlc,_,hx⟩:=xE h ho h8;obtain⟨g,cur,rfl,_,_⟩:=hx 0 h1;have HCE:=QH ((hr1.cells).2.2);have HB:=QH hb1;have HSI:Hid ((w.alloc (.cells #[] 131)).heap.size=w.heap.size+1):=by unfold Hid;simp
 have heq:(binOp .eql 85 (.slice (some ⟨g,0,none⟩) l.length c) (.slice none 0 0)).run prog w=.ok (.bool false) w:=nT _ _ _ w;clear hx hb1 hr1 h ho;go_enter func82,ntmps82;go_wp2_with (first|(refine qf rfl (qho rfl) ?_)|(at_builtin;refine uU rfl (.tmp 5) (.tmp 6) 85 rfl 131 i0 _ 259 280 underlying85 hi hz0 hz1 hz2 (some ⟨w.heap.size,0,none⟩) 0 [] rfl rfl (fun h=>by cases h) (fun b _ j u hu=>by simp at hu) ⟨g,0,none⟩ l.length c (vz l) rfl HLEN.out (HCE.out _ rfl) h1 (by unfold maxLen;omega) (by omega) ?_));intro cap qn5 w1 hb2 hk2 cu hc1 hc2 hsz;have qC:=QH (HB.out.trans (hb2.mono (by simp)));have kh:=QH hk2;have dW:Hid (qn5.toList.take (l.length*259)=vz l):=by
  unfold Hid;simpa using cu
 have HC1:Hid (l.length≤cap):=by unfold Hid;omega
 have HC2:=QH hc2;clear hb2 hk2 cu hc1 hc2 hsz HCE HB HLEN;go_wp2_with fail;go_ret;exact⟨w.heap.size+1,cap,qn5,rfl,Nat.le_succ _,kh.out,dW.out,HC1.out,HC2.out,qC.out⟩
theorem jJ.kK{w:World}{own:Nat→Prop}{p g c:Nat}{cur:Array Value}{d:CH}(h:jJ w own p (.slice (some ⟨g,0,none⟩) d.qa.length c) d)(ho:d.ok)(hb:qg w g 131 cur)(ht:cur.toList.take (d.qa.length*259)=vz d.qa)(i:Nat)(hi:i<d.qa.length) :
    jJ (w.setCell ⟨g,i*259+258,none⟩ (.bool true)) own p (.slice (some ⟨g,0,none⟩) d.qa.length c) ⟨d.live,xK d.qa i⟩:=by
 have hgp:=h.vp g rfl;obtain⟨A',c',e,h1,h2,_⟩:=h.row;simp only[Value.slice.injEq,true_and]at e;obtain⟨rfl,rfl⟩:=e;have mD:(xK d.qa i).length=d.qa.length:=by unfold xK;rw[List.length_modify]
 refine⟨h.blk.of_block (qD _ _ _ _ _ hgp.symm),?_,h.op,h.om,fun j hj=>?_⟩
 ·refine⟨some ⟨g,0,none⟩,c,by rw[mD],by rw[mD];exact h1,h2,.inr ⟨g,_,rfl,hb.ql (i*259+258) (.bool true),?_⟩⟩;show(cur.setIfInBounds _ _).toList.take ((xK d.qa i).length*259)=vz (xK d.qa i);rw[mD,Array.toList_setIfInBounds,List.take_set,ht];exact qaG d.qa i hi (fun s hs=>jc (ho.qa s hs) ho.n8)
 ·have:=h.low j hj;simpa[World.setCell]using this
theorem qaH{own:Nat→Prop}{w:World}{p:Nat}{d:CH}(h:n4 own w p d)(g:Gd):Calls prog 40 #[.pointer (some ⟨p,0,none⟩),gv g] w fun e w'=>Aft n4 own p (d.kK g) w e w'∧qz (fun j=>j=p) w w':=by
 have HIS:=QH h;have hb0:=(Below.refl w.heap.size w).alloc (Nat.le_refl _) (.cells #[.int .u64 (g.1:Int),.int .u64 (g.2:Int)] 55);obtain⟨h0,v,hr⟩:=h;have hr1:=hr.below hb0;have HF:=QH (jT (⟨h0,v,hr1⟩:n4 own _ p d) g);have q0:(w.alloc (.cells #[.int .u64 (g.1:Int),.int .u64 (g.2:Int)] 55)).cell? ⟨w.heap.size,0,none⟩=some (.int .u64 (g.1:Int)):=(qg.new w _ _).cell 0;have q1:(w.alloc (.cells #[.int .u64 (g.1:Int),.int .u64 (g.2:Int)] 55)).cell? ⟨w.heap.size,1,none⟩=some (.int .u64 (g.2:Int)):=(qg.new w _ _).cell 1;have xz:=QH hb0;have eD:=QH hr1;have yB:=QH h0;have HC:=QH (nd d g);obtain⟨R,hR⟩:=QE (aN d g);rw[hR]at HF HC;clear hb0 hr1 hr h0 hR;unfold gv at HF ⊢;go_enter func40,ntmps40;go_wp2_with fail;refine HF.out.mono ?_;rintro e W1 ⟨rfl,hb1⟩;have qV:=QH (xz.out.trans (hb1.mono xz.out.size));have jo:=QH (eD.out.below hb1);clear hb1 HF q0 q1 xz eD;rcases HC.out with⟨c,hc,rfl,wM,_⟩|⟨i,s,rfl,bG,hs,wM,_⟩
 ·have hcb:(c != 0)=true:=by simpa using hc
  have xF:=QH wM;clear hc wM HC jo yB;go_wp2_with fail;go_ret;rw[xF.out];exact vq HIS.out qV.out rfl
 ·have xF:=QH wM;have bR:=yB.out.few;have bI:=QH (lJ jo.out.row yB.out.qa yB.out.n8 (by omega) bR);have c2:=jo.out.c2 yB.out;have hii:(i:Int)<(d.qa.length:Int):=by omega
  have HIL:=QH bG;obtain⟨A,c,hv,_,_,_⟩:=xE jo.out.row yB.out.qa yB.out.n8;subst hv;clear hs wM HC bG;go_wp2_with fail;refine bI.out.mono ?_;rintro e W2 ⟨g2,c3,cur,rfl,hg2,hk2,cu,hlc,hcm,hb2⟩;have HRW:Hid (vh W2 (.slice (some ⟨g2,0,none⟩) d.qa.length c3) d.qa):=⟨_,c3,rfl,hlc,hcm,.inr ⟨g2,cur,rfl,hk2,cu⟩⟩;have HP3:=QH (jJ.quz jo.out hb2 HRW.out yB.out (fun k hk=>by
   simp[Value.ownBlock]at hk;exact .inr (by omega)))
  have hgp:g2≠p:=HRW.out.ne (jo.out.blk.of_block (hb2.block p jo.out.blk.lt)) (by decide) g2 rfl;have hk3:qg (W2.setCell ⟨p,257,none⟩ (.slice (some ⟨g2,0,none⟩) d.qa.length c3)) g2 131 cur:=hk2.of_block (qD _ _ _ _ _ hgp);have HP4:=QH (jJ.kK HP3.out yB.out hk3 cu i HIL.out);have qC:=QH (qV.out.trans (hb2.mono qV.out.size));have HBU:=QH (((qz.of_below (S:=fun j=>j=p) qC.out).setCell ⟨p,257,none⟩ (.slice (some ⟨g2,0,none⟩) d.qa.length c3) (.inl rfl)).setCell ⟨g2,i*259+258,none⟩ (.bool true) (.inr (by have:=qV.out.size;show w.heap.size≤g2;omega)));have HGE:Hid (w.heap.size≤g2):=by have:=qV.out.size;unfold Hid;omega
  have f1:=(jo.out.blk.of_block (hb2.block p jo.out.blk.lt)).frozen 257;obtain⟨b1,q7p⟩:∃z,W2.cell? ⟨p,257,none⟩=some z:=⟨_,(hb2.cell (p:=⟨p,257,none⟩) jo.out.blk.lt).trans (jo.out.c2 yB.out)⟩;have f2:=hk3.frozen (i*259+258);have c4:(W2.setCell ⟨p,257,none⟩ (.slice (some ⟨g2,0,none⟩) d.qa.length c3)).cell? ⟨p,257,none⟩=some (.slice (some ⟨g2,0,none⟩) d.qa.length c3):=HP3.out.c2 yB.out;obtain⟨b2,zes⟩:∃z,(W2.setCell ⟨p,257,none⟩ (.slice (some ⟨g2,0,none⟩) d.qa.length c3)).cell? ⟨g2,i*259+258,none⟩=some z:=by
   have hs:=rJ yB.out.qa yB.out.n8;rw[hk3.cell];have hlt:i*259+258<cur.size:=by
    have h1:=congrArg List.length cu;rw[List.length_take,hs]at h1;have h2:d.qa.length*259≤cur.toList.length:=by omega
    have h3:=HIL.out;have h4:cur.toList.length=cur.size:=by simp
    omega
   exact⟨cur[i*259+258],by simp[hlt]⟩
  clear hg2 hk2 cu hlc hcm hb2 hk3 HRW bI;go_wp2_with fail;go_ret;rw[xF.out];refine⟨⟨rfl,_,⟨qsd yB.out i,_,HP4.out⟩,HBU.out.mono (fun j hj=>by rw[hj];exact jo.out.op),fun j hj=>?_⟩,HBU.out⟩
  ·rcases hj with hj|hj
   ·exact .inl hj
   ·simp[Value.ownBlock]at hj;exact .inr (by rw[← hj];exact HGE.out)
theorem qhp{n:Nat}(l:List Bt)(g:Gd)(hl:qR n l)(h8:n≤8)(w:World) :
    (Instr.build 131 #[(0,.agg (vc l).toArray),(1,.agg #[.int .u64 (g.1:Int),.int .u64 (g.2:Int)])]).run prog w=.ok (.agg (sc ⟨g,l,false⟩).toArray) w:=by
 obtain⟨i0,hi,hz0,_,_⟩:=info_parts bD;have hz:(zeroValue 131).run prog w=.ok (.agg (sc z0).toArray) w:=by simp[zeroValue,typeInfo,hi,hz0]
 have hzl:(sc z0).length=259:=jc (n:=0) ⟨rfl,fun v hv=>by simp[z0]at hv⟩ (by omega);have hzd:(sc z0).drop 256=[.int .u64 0,.int .u64 0,.bool false]:=by
  have h:=xj (n:=0) (l:=z0.bs) ⟨rfl,fun v hv=>by simp[z0]at hv⟩ (by omega);unfold sc;rw[List.drop_left' h];rfl
 have hvl:=xj hl h8;have s1:=gJ (t:=84) uq w;have s2:=gJ (t:=55) qpj w;have s3:=gJ (t:=4) (n:=1) (by kernel_rfl) w;have hf:∀place:Nat→Option (Nat × Nat),place 0=some (0,256)→place 1=some (256,2)→Instr.fill place (sc z0).toArray [(0,.agg (vc l).toArray),(1,.agg #[.int .u64 (g.1:Int),.int .u64 (g.2:Int)])]=some (sc ⟨g,l,false⟩).toArray:=by
  intro place h0 h1;rw[lx _ _ 0 0 256 _ _ h0 (by simp[hvl]) (by simp[hzl])];have e1:((sc z0).toArray.toList.take 0++(vc l).toArray.toList++(sc z0).toArray.toList.drop (0+256))=vc l++[.int .u64 0,.int .u64 0,.bool false]:=by
   simp[hzd]
  rw[e1,lx _ _ 1 256 2 _ _ h1 rfl (by simp[hvl])];simp only[Instr.fill]
  congr 1
  apply Array.ext';show(vc l++[Value.int .u64 0,.int .u64 0,.bool false]).take 256++[Value.int .u64 (g.1:Int),.int .u64 (g.2:Int)]++(vc l++[Value.int .u64 0,.int .u64 0,.bool false]).drop 258=sc ⟨g,l,false⟩;rw[List.take_left' hvl,show 258=(vc l).length+2 by rw[hvl],List.drop_append];unfold sc;simp
 generalize (vc l).toArray=V at *;generalize (sc ⟨g,l,false⟩).toArray=R at *;generalize (sc z0).toArray=Z at *;clear hzd hzl hvl hi hz0;simp only[Instr.build,Sem.run_bind,hz,Result.andThen_ok,Value.cells,run_underlying underlying131]
 have hm:∀(K:Array (Nat × Nat)→World→Result Value),K #[(0,256),(256,2),(258,1)] w=.ok (.agg R) w→((Array.mapM
         (fun f:Field=>do
          let z ← sizeOf f.type
          pure (f.offset,z))
         #[{ name := "volume",type:=84,offset:=0,embedded:=true,tag := "",pkgPath := "stemma/chain",byteOffset:=0 },
          { name := "guid",type:=55,offset:=256,embedded:=false,tag := "",pkgPath := "stemma/chain",byteOffset:=256 },
          { name := "hidden",type:=4,offset:=258,embedded:=false,tag := "",pkgPath := "stemma/chain",byteOffset:=272 }]).run prog w).andThen K=.ok (.agg R) w:=by
  intro K hK;simp only[List.mapM_toArray,List.mapM_cons,List.mapM_nil,Sem.run_bind,s1,s2,s3,Result.andThen_ok,Sem.run_pure,Functor.map,Sem.run_map];exact hK
 refine hm _ ?_;rw[hf _ rfl rfl];rfl
theorem ng {ρ:Operand→Value}{o:Oper}{w:World}{n:Nat}(x y:Operand)(l:List Bt)(g:Gd)(y1 y2:Int)(h1:(g.1:Int)=y1)(h2:(g.2:Int)=y2)(ho:o.op=.build 131 #[(0,x),(1,y)])(hx:ρ x=.agg (vc l).toArray)(hy:ρ y=.agg #[.int .u64 y1,.int .u64 y2])(hl:qR n l)(h8:n≤8) :
    (execOp ρ o).run prog w=.ok (.value (.agg (sc ⟨g,l,false⟩).toArray)) w:=by
 subst h1;subst h2;have hb:=qhp l g hl h8 w;simp[execOp,ho,hx,hy,hb,Result.andThen]
def SpG (p:Nat)(V S:List Value)(y1 y2:Int):Nat→Value→World→Prop
 | 0,v,_=>v=.pointer (some ⟨p,0,none⟩)
 | 1,v,_=>v=.pointer (some ⟨p,0,none⟩)
 | 2,v,_=>v=.pointer (some ⟨p,0,none⟩)
 | 3,v,_=>v=.pointer (some ⟨p,1,none⟩)
 | 4,v,_=>v=.agg V.toArray
 | 5,v,_=>v=.agg #[.int .u64 y1,.int .u64 y2]
 | 6,v,_=>v=.agg S.toArray
 | _,_,_=>True
theorem qpp(p:Nat)(V S:List Value)(y1 y2:Int)(i:Nat)(v:Value)(w w':World)(hi:i<7)(h:SpG p V S y1 y2 i v w)(_:Below w.heap.size w w'):SpG p V S y1 y2 i v w':=by
 match i,hi,h with
 | 0,_,h | 1,_,h | 2,_,h | 3,_,h | 4,_,h | 5,_,h | 6,_,h=>exact h
theorem qaI{own:Nat→Prop}{w:World}{p:Nat}{d:CH}(h:n4 own w p d)(g:Gd)(hg:xn g):Calls prog 38 #[.pointer (some ⟨p,0,none⟩),gv g] w fun e w'=>Aft n4 own p (d.snap g) w e w'∧qz (fun j=>j=p) w w':=by
 have hb0:=(Below.refl w.heap.size w).alloc (Nat.le_refl _) (.cells #[.int .u64 (g.1:Int),.int .u64 (g.2:Int)] 55);have HIS:=QH h;obtain⟨h0,v,hr⟩:=h;have hr1:=hr.below hb0;have xz:=QH hb0;have eD:=QH hr1;have yB:=QH h0;have HG:=QH hg;have HM:=QH (qi3 (⟨h0,v,hr1⟩:n4 own _ p d) g);obtain⟨y1,hy1⟩:=QE (g.1:Int);obtain⟨y2,hy2⟩:=QE (g.2:Int);have HY1:=QH hy1;have HY2:=QH hy2;unfold gv at HM ⊢;rw[hy1,hy2]at HM xz eD ⊢;clear hb0 hg hy1 hy2 hr1 hr h0;have kX:Hid (d.snap g=if d.may g=0 then(⟨d.live,d.qa++[⟨g,d.live,false⟩]⟩,0)else(d,d.may g)):=rfl;have HMZ:=QH (fun h=>qdu (c:=d) (g:=g) h);obtain⟨m,hm⟩:=QE (d.may g);rw[hm]at HM kX HMZ;clear hm;obtain⟨W0,hW0⟩:=QE (w.alloc (.cells #[.int .u64 y1,.int .u64 y2] 55));rw[hW0]at HM eD xz;have q0:W0.cell? ⟨w.heap.size,0,none⟩=some (.int .u64 y1):=by rw[← hW0];exact(qg.new w _ _).cell 0
 have q1:W0.cell? ⟨w.heap.size,1,none⟩=some (.int .u64 y2):=by rw[← hW0];exact(qg.new w _ _).cell 1
 have sH:Hid (w.heap.size<W0.heap.size):=by unfold Hid;rw[← hW0];simp
 have Q0:=QH q0;have Q1:=QH q1;go_enter func38,ntmps38;go_wp2_with fail;clear hW0;refine HM.out.mono ?_;rintro e W1 ⟨rfl,hb1⟩;have qV:=QH (xz.out.trans (hb1.mono xz.out.size));have jo:=QH (eD.out.below hb1);have R0:Hid (W1.cell? ⟨w.heap.size,0,none⟩=some (.int .u64 y1)):=(hb1.cell (p:=⟨w.heap.size,0,none⟩) sH.out).trans Q0.out;have R1:Hid (W1.cell? ⟨w.heap.size,1,none⟩=some (.int .u64 y2)):=(hb1.cell (p:=⟨w.heap.size,1,none⟩) sH.out).trans Q1.out;have gZ:Hid (w.heap.size<W1.heap.size):=Nat.lt_of_lt_of_le sH.out hb1.size;clear hb1 HM eD xz q0 q1 Q0 Q1 sH;by_cases hz:m=0
 ·subst hz;have hsn:=kX.out;rw[if_pos rfl]at hsn;have HSD:=QH hsn;obtain⟨_,qe3⟩:=HMZ.out rfl;have qpq:=QH qe3;clear hsn kX HMZ qe3;have HVL:Hid ((vc d.live).length=256):=xj yB.out.live yB.out.n8;have HVC:Hid (∀j u,(vc d.live)[j]?=some u→(qI d.live.length d.live v).toArray[1+j]?=some u):=fun j u hu=>by simpa using qa7 (m:=d.live.length) (v:=v) j u hu
  go_wp2_with fail;refine qQ (by kernel_rfl) 7 [12,13,14,15,16,17,18] (by kernel_rfl) (SpG p (vc d.live) (sc ⟨g,d.live,false⟩) y1 y2) (qpp _ _ _ _ _) ?_ ?_
  ·intro i o vs ρ W hi hop hρ hfn hb hG;have t0:ρ (.tmp 0)=.pointer (some ⟨p,0,none⟩):=hρ.out 0 rfl;have t3:ρ (.tmp 3)=.pointer (some ⟨w.heap.size,0,none⟩):=hρ.out 3 rfl;have s13:=hρ.at_ 13 1 rfl;have s14:=hρ.at_ 14 2 rfl;have s15:=hρ.at_ 15 3 rfl;have s16:=hρ.at_ 16 4 rfl;have s17:=hρ.at_ 17 5 rfl;have r0:W.cell? ⟨w.heap.size,0,none⟩=some (.int .u64 y1):=(hb.cell (p:=⟨w.heap.size,0,none⟩) gZ.out).trans R0.out;have r1:W.cell? ⟨w.heap.size,1,none⟩=some (.int .u64 y2):=(hb.cell (p:=⟨w.heap.size,1,none⟩) gZ.out).trans R1.out;rcases i with _|_|_|_|_|_|_|i;all_goals (first|omega|skip)
   all_goals simp only[QA,QB,QC,Option.some.injEq]at hop
   all_goals subst hop
   ·exact q9 (w':=W) (by unfold execOp;simp only[t0];go_simp) ⟨Below.refl _ _,rfl⟩
   ·exact q9 (w':=W) (by unfold execOp;simp only[t0];go_simp) ⟨Below.refl _ _,rfl⟩
   ·have g1:vs 1=_:=hG 1 (by kernel_rfl);exact q9 (w':=W) (by unfold execOp;simp only[s13,g1];go_simp) ⟨Below.refl _ _,rfl⟩
   ·have g2:vs 2=_:=hG 2 (by kernel_rfl);exact q9 (w':=W) (by unfold execOp;simp only[s14,g2];go_simp) ⟨Below.refl _ _,rfl⟩
   ·have g3:vs 3=_:=hG 3 (by kernel_rfl);exact q9 (w':=W) (qy 84 (.tmp 15) rfl p 1 (s15.trans g3) _ _ (vc d.live) _ _ (jo.out.below hb).blk underlying84 rfl (by rw[uq,HVL.out]) HVC.out) ⟨Below.refl _ _,rfl⟩
   ·exact q9 (w':=W) (by unfold execOp;simp only[t3];go_simp) ⟨Below.refl _ _,rfl⟩
   ·have g4:vs 4=_:=hG 4 (by kernel_rfl);have g5:vs 5=_:=hG 5 (by kernel_rfl);exact q9 (w':=W) (ng (.tmp 16) (.tmp 17) d.live g y1 y2 HY1.out HY2.out rfl (s16.trans g4) (s17.trans g5) yB.out.live yB.out.n8) ⟨Below.refl _ _,rfl⟩
  ·intro vs W hb hG;have g0:vs 0=_:=hG 0 (by decide);have g6:vs 6=_:=hG 6 (by decide);simp only[za,qN,if_true];rw[g0,g6];generalize vs 1=z1;generalize vs 2=z2;generalize vs 3=z3;generalize vs 4=z4;generalize vs 5=z5;have B2:=QH (qV.out.trans (hb.mono qV.out.size));have jK:=QH (jo.out.below hb);clear hG g0 g6 hb;simp only[Act.put,List.setIfInBounds_toArray,List.set_cons_succ,List.set_cons_zero];have HPU:=QH (jn jK.out yB.out qpq.out ⟨g,d.live,false⟩ yB.out.live);obtain⟨S,hS⟩:=QE (sc ⟨g,d.live,false⟩);rw[hS]at HPU ⊢;clear hS;refine qL (i:=7) (by kernel_rfl) rfl rfl ?_;go_simp;refine HPU.out.mono ?_;rintro e W3 ⟨rfl,v',jY,hp3,q2a,hgr⟩;have HP3:=QH hp3;have HBU:=QH ((qz.of_below (S:=fun j=>j=p) B2.out).trans q2a (fun _ h=>.inl h));have HGR:Hid (∀j,jY j→own j∨w.heap.size≤j):=fun j hj=>by
    rcases hgr j hj with h|h
    ·exact .inl h
    ·have:=B2.out.size;exact .inr (by omega)
   clear hp3 q2a hgr HPU;go_simp;refine⟨by kernel_rfl,?_⟩;go_wp2_with fail;go_ret;rw[HSD.out];exact⟨⟨rfl,jY,⟨qe5 yB.out _ qpq.out yB.out.live HG.out,v',HP3.out⟩,HBU.out.mono (fun j hj=>by rw[hj];exact jo.out.op),HGR.out⟩,HBU.out⟩
 ·have hc:(m == 0)=false:=beq_false_of_ne hz;have hcn:(m != 0)=true:=by simpa using hz
  have hsn:=kX.out;rw[if_neg hz]at hsn;have HSD:=QH hsn;clear hsn kX HMZ jo;go_wp2_with fail;go_ret;rw[HSD.out];exact vq HIS.out qV.out rfl
theorem jJ.qpr{w w':World}{own:Nat→Prop}{p:Nat}{v:Value}{d:CH}{l:List Bt}(h:jJ w own p v d)(ho:d.ok)(hl:qR d.live.length l)
    (hw:w'=w.setRow p ((qI d.live.length d.live v).toArray.toList.take 1++vc l++(qI d.live.length d.live v).toArray.toList.drop (1+(vc l).length)).toArray):jJ w' own p v ⟨l,d.qa⟩∧qz (fun j=>j=p) w w':=by
 have hb:=h.blk;have e:((qI d.live.length d.live v).toArray.toList.take 1++vc l++(qI d.live.length d.live v).toArray.toList.drop (1+(vc l).length)).toArray=(qI d.live.length l v).toArray:=by
  have:=qec (m:=d.live.length) (v:=v) ho.live hl ho.n8;rw[← this]
 rw[e]at hw;have hbu:=uW w p (qI d.live.length l v).toArray;have hk2:=uV (c:=(qI d.live.length l v).toArray) hb;rw[← hw]at hbu hk2;refine⟨⟨?_,h.row.of_block (fun j hj=>hbu.block j (h.row.lt j hj) (h.vp j hj)),h.op,h.om,fun j hj=>Nat.lt_of_lt_of_le (h.low j hj) hbu.size⟩,hbu⟩;show qg w' p _ (qI l.length l v).toArray;rw[hl.1];exact hk2
theorem qhq(d:CH)(m:Nat):(xI d.live.length (d.qa.take m)).bs=(⟨d.live,d.qa.take m⟩:CH).base:=qee ⟨d.live,d.qa.take m⟩
theorem qaJ{own:Nat→Prop}{w:World}{p:Nat}{d:CH}(k:Int)(h:n4 own w p d):Calls prog 39 #[.pointer (some ⟨p,0,none⟩),.int .i64 k] w fun e w'=>Aft n4 own p (d.roll k) w e w'∧qz (fun j=>j=p) w w':=by
 have HIS:=QH h;obtain⟨h0,v,hr⟩:=h;have c2:=hr.c2 h0;have bR:=h0.few;obtain⟨A,c,hv,hlc,hA,_⟩:=xE hr.row h0.qa h0.n8;subst hv;by_cases uL:k<0∨(d.qa.length:Int)<k
 ·have HW:Hid (d.roll k=(d,2)):=by unfold Hid CH.roll;rw[if_pos uL]
  rw[HW.out];have hcs:k<0∨(¬ k<0∧(d.qa.length:Int)<k):=by omega
  clear uL HW hr h0;rcases hcs with hk|⟨hk,hk2⟩;all_goals
   go_enter func39,ntmps39;go_wp2_with fail;go_ret;exact vq HIS.out (Below.refl _ _) rfl
 ·have HW:Hid (d.roll k=(⟨(⟨d.live,d.qa.take k.toNat⟩:CH).base,d.qa.take k.toNat⟩,0)):=by unfold Hid CH.roll;rw[if_neg uL]
  rw[HW.out];obtain⟨m,rfl⟩:∃m:Nat,k=(m:Int):=⟨k.toNat,by omega⟩;rw[Int.toNat_natCast];have hm:m≤d.qa.length:=by omega
  have hk3:¬ (m:Int)<0:=by omega
  have hk4:¬ (d.qa.length:Int)<(m:Int):=by omega
  have hk5:(m:Int)≤(c:Int):=by omega
  have vn:m≤c:=by omega
  have HTR:=QH (qa8 hr.row h0.qa h0.n8 hm m (Nat.le_refl _) vn);have HOT:=QH (qsc h0 m);have f1:=hr.blk.frozen 257;have jo:Hid (jJ (w.setCell ⟨p,257,none⟩ (.slice A m m)) own p (.slice A m m) ⟨d.live,d.qa.take m⟩):=by
   have hob:∀j,(Value.slice A m m).ownBlock=some j→(Value.slice A d.qa.length c).ownBlock=some j:=fun j hj=>by
    cases A with
    | none=>cases hj
    | some a=>exact hj
   refine⟨?_,HTR.out.of_block (fun j hj=>qD _ _ _ _ _ (hr.vp j (hob j hj))),hr.op,fun j hj=>hr.om j (hob j hj),fun j hj=>?_⟩
   ·have:=hr.blk.ql 257 (.slice A m m);rw[mY h0.live h0.n8]at this;exact this
   ·have:=hr.low j hj;simpa[World.setCell]using this
  have tJ:Hid (qz (fun j=>j=p) w (w.setCell ⟨p,257,none⟩ (.slice A m m))):=(qz.refl _ w).setCell ⟨p,257,none⟩ (.slice A m m) (.inl rfl);have HTL:Hid ((d.qa.take m).length≤20):=by unfold Hid;rw[List.length_take];omega
  have HLA:=QH (ij jo.out.row HOT.out.qa HOT.out.n8 HTL.out);have hlo:=aK (n:=d.live.length) HOT.out.qa;have sP:=lX (xI d.live.length (d.qa.take m)) hlo h0.n8;rw[qhq d m]at sP hlo;obtain⟨S,hS⟩:=QE (sc (xI d.live.length (d.qa.take m)));rw[hS]at sP;have q7s:Hid (Calls prog 69 #[.slice A m m] (w.setCell ⟨p,257,none⟩ (.slice A m m)) fun e w'=>e=.returned (.agg S.toArray)∧Below (w.setCell ⟨p,257,none⟩ (.slice A m m)).heap.size (w.setCell ⟨p,257,none⟩ (.slice A m m)) w'):=by
   have:=HLA.out;rw[show sc (xI (⟨d.live,d.qa.take m⟩:CH).live.length (⟨d.live,d.qa.take m⟩:CH).qa)=S from hS]at this;exact this
  obtain⟨L,hL⟩:=QE ((⟨d.live,d.qa.take m⟩:CH).base);rw[hL]at sP hlo ⊢;have bV:Hid (qR d.live.length L):=hlo;have HVL:Hid ((vc L).length=256):=xj bV.out h0.n8;have yB:=QH h0;have HOP:=QH hr.op;clear uL HW hr h0 hlo hS hL HTR HLA HTL hA hm;go_enter func39,ntmps39;go_wp2_with fail;refine q7s.out.mono ?_;rintro e W1 ⟨rfl,hb1⟩;have qV:=QH hb1;have jK:=QH (jo.out.below hb1);clear hb1;have bI:Hid ((qI (⟨d.live,d.qa.take m⟩:CH).live.length (⟨d.live,d.qa.take m⟩:CH).live (.slice A m m)).length=258):=kA HOT.out.live HOT.out.n8;go_wp2_with (refine wpList_skip rfl (jq W1 84 (.tmp 38) (.tmp 36) rfl p 1 rfl (vc L) rfl _ _ jK.out.blk (by rw[uq,HVL.out]) (by rw[List.size_toArray,bI.out,HVL.out];decide) (rI L)) ?_);go_ret;obtain⟨hp2,q7t⟩:=jJ.qpr jK.out HOT.out bV.out rfl;have mA:=(tJ.out.trans (S':=fun _=>False) (qz.of_below qV.out) (fun _ h=>h.elim)).trans q7t (fun _ h=>.inl h);exact⟨⟨rfl,own,⟨qir HOT.out bV.out,_,hp2⟩,mA.mono (fun j hj=>by rw[hj];exact HOP.out),fun j hj=>.inl hj⟩,mA⟩
def AdG (p:Nat)(v0:Value)(S V N:List Value)(y1 y2:Int)(B:Nat):Nat→Value→World→Prop
 | 0,v,_=>v=.pointer (some ⟨p,0,none⟩)
 | 1,v,_=>v=.pointer (some ⟨p,0,none⟩)
 | 2,v,_=>v=.pointer (some ⟨p,257,none⟩)
 | 3,v,_=>v=v0
 | 4,v,_=>v=.agg S.toArray
 | 5,v,_=>v=.agg V.toArray
 | 6,v,_=>v=.agg #[.int .u64 y1,.int .u64 y2]
 | 7,v,_=>v=.agg N.toArray
 | 8,v,w=>∃g Z,v=.pointer (some ⟨g,0,none⟩)∧B≤g∧qg w g 131 Z∧Z.size=259
 | _,_,_=>True
theorem pQ (p:Nat)(v0:Value)(S V N:List Value)(y1 y2:Int)(B:Nat)(i:Nat)(v:Value)(w w':World)(hi:i<9)(h:AdG p v0 S V N y1 y2 B i v w)(hb:Below w.heap.size w w'):AdG p v0 S V N y1 y2 B i v w':=by
 match i,hi,h with
 | 0,_,h | 1,_,h | 2,_,h | 3,_,h | 4,_,h | 5,_,h | 6,_,h | 7,_,h=>exact h
 | 8,_,⟨g,Z,h1,h2,h3,h4⟩=>exact⟨g,Z,h1,h2,h3.below hb,h4⟩
def q2c (x:List (Int × Bt))(base:List Bt)(n:Nat)(g:Gd)(gg:Nat)(w:World)(v i:Value)(wr:World):Prop :=
 ∃(j:Nat) (p:Int) (l:List Bt),j≤x.length∧i=.int .i64 (j:Int)∧v=.int .i64 (p+1) ∧ -1≤p∧p<8∧qR n l∧vV base (-1) x=vV l p (x.drop j) ∧
  qg wr gg 131 (sc ⟨g,l,false⟩).toArray∧Below w.heap.size w wr
theorem qe7{own:Nat→Prop}{w:World}{p:Nat}{d:CH}(g:Gd)(A:Option Addr)(c:Nat)(x:List (Int × Bt))(h:n4 own w p d)(hg:xn g)(hx:bw w A x)(dG:x.length≤1000) :
    Calls prog 26 #[.pointer (some ⟨p,0,none⟩),gv g,.slice A x.length c] w fun e w'=>Aft n4 own p (d.add g x) w e w'∧qz (fun j=>j=p) w w':=by
 obtain⟨i0,hi,hz0,hz1,hz2⟩:=info_parts bD;have HI:=QH hi;have HZ0:=QH hz0;have HZL:Hid ((sc z0).toArray.size=259):=by unfold Hid;rw[List.size_toArray];exact jc (n:=0) ⟨rfl,fun v hv=>by simp[z0]at hv⟩ (by omega)
 obtain⟨Z,hZ⟩:=QE ((sc z0).toArray);rw[hZ]at HZ0 HZL;have hb0:=(Below.refl w.heap.size w).alloc (Nat.le_refl _) (.cells #[.int .u64 (g.1:Int),.int .u64 (g.2:Int)] 55);have HIS:=QH h;have HX:=QH hx;obtain⟨h0,v,hr⟩:=h;have hr1:=hr.below hb0;have xz:=QH hb0;have HRW:=QH hr;have eD:=QH hr1;have yB:=QH h0;have HG:=QH hg;have HM:=QH (qi3 (⟨h0,v,hr1⟩:n4 own _ p d) g);obtain⟨y1,hy1⟩:=QE (g.1:Int);obtain⟨y2,hy2⟩:=QE (g.2:Int);have HY1:=QH hy1;have HY2:=QH hy2;unfold gv at HM ⊢;rw[hy1,hy2]at HM xz eD ⊢;clear hb0 hg hy1 hy2 hr1 hr h0 hx hi hz0 hz1 hz2 hZ;have kX:Hid (d.add g x=if d.may g=0 then(match vV d.base (-1) x with
  | none=>(d,2)
  | some l=>(⟨l,d.qa++[⟨g,l,false⟩]⟩,0))else(d,d.may g)):=rfl
 have HMZ:=QH (fun h=>qdu (c:=d) (g:=g) h);obtain⟨m,hm⟩:=QE (d.may g);rw[hm]at HM kX HMZ;clear hm;obtain⟨W0,hW0⟩:=QE (w.alloc (.cells #[.int .u64 y1,.int .u64 y2] 55));rw[hW0]at HM eD xz;have q0:W0.cell? ⟨w.heap.size,0,none⟩=some (.int .u64 y1):=by rw[← hW0];exact(qg.new w _ _).cell 0
 have q1:W0.cell? ⟨w.heap.size,1,none⟩=some (.int .u64 y2):=by rw[← hW0];exact(qg.new w _ _).cell 1
 have sH:Hid (w.heap.size<W0.heap.size):=by unfold Hid;rw[← hW0];simp
 have Q0:=QH q0;have Q1:=QH q1;go_enter func26,ntmps26;go_wp2_with fail;clear hW0;refine HM.out.mono ?_;rintro e W1 ⟨rfl,hb1⟩;have qV:=QH (xz.out.trans (hb1.mono xz.out.size));have jo:=QH (eD.out.below hb1);have R0:Hid (W1.cell? ⟨w.heap.size,0,none⟩=some (.int .u64 y1)):=(hb1.cell (p:=⟨w.heap.size,0,none⟩) sH.out).trans Q0.out;have R1:Hid (W1.cell? ⟨w.heap.size,1,none⟩=some (.int .u64 y2)):=(hb1.cell (p:=⟨w.heap.size,1,none⟩) sH.out).trans Q1.out;have gZ:Hid (w.heap.size<W1.heap.size):=Nat.lt_of_lt_of_le sH.out hb1.size;clear hb1 HM eD xz q0 q1 Q0 Q1 sH;by_cases hz:m=0
 ·subst hz;have hsn:=kX.out;rw[if_pos rfl]at hsn;obtain⟨_,qe3⟩:=HMZ.out rfl;have qpq:=QH qe3;have hbo:=yB.out.qrk;have HBO:=QH hbo;have hlo:=aK (n:=d.live.length) yB.out.qa;have sP:=lX (xI d.live.length d.qa) hlo yB.out.n8;rw[qee d]at sP;have sL:=QH sP;have HLA:=QH (fun W (hb:Below W1.heap.size W1 W)=>ij ((jo.out.below hb).row) yB.out.qa yB.out.n8 yB.out.few);obtain⟨S,hS⟩:=QE (sc (xI d.live.length d.qa));rw[hS]at HLA sL;obtain⟨base,hbase⟩:=QE d.base;rw[hbase]at HBO sL hsn;have HSD:=QH hsn;clear hsn kX HMZ qe3 hbo hlo sP hS hbase;have HNL:Hid ((sc ⟨g,base,false⟩).length=259):=jc HBO.out yB.out.n8;have HN1:=QH (lL ⟨g,base,false⟩);have HNC:Hid (∃N,sc ⟨g,base,false⟩=N):=⟨_,rfl⟩;go_wp2_with fail;refine qQ (by kernel_rfl) 9 [18,19,20,21,22,23,24,25,8] (by kernel_rfl) (AdG p v S (vc base) (sc ⟨g,base,false⟩) y1 y2 W1.heap.size) (pQ _ _ _ _ _ _ _ _) ?_ ?_
  ·intro i o vs ρ W hi9 hop hρ hfn hb hG;have t0:ρ (.tmp 0)=.pointer (some ⟨p,0,none⟩):=hρ.out 0 rfl;have t4:ρ (.tmp 4)=.pointer (some ⟨w.heap.size,0,none⟩):=hρ.out 4 rfl;have hc:=hρ.const;have s18:=hρ.at_ 18 0 rfl;have s19:=hρ.at_ 19 1 rfl;have s20:=hρ.at_ 20 2 rfl;have s21:=hρ.at_ 21 3 rfl;have s22:=hρ.at_ 22 4 rfl;have s23:=hρ.at_ 23 5 rfl;have s24:=hρ.at_ 24 6 rfl;have c2:=(jo.out.below hb).c2 yB.out;have r0:W.cell? ⟨w.heap.size,0,none⟩=some (.int .u64 y1):=(hb.cell (p:=⟨w.heap.size,0,none⟩) gZ.out).trans R0.out;have r1:W.cell? ⟨w.heap.size,1,none⟩=some (.int .u64 y2):=(hb.cell (p:=⟨w.heap.size,1,none⟩) gZ.out).trans R1.out;rcases i with _|_|_|_|_|_|_|_|_|i;all_goals (first|omega|skip)
   all_goals simp only[QA,QB,QC,Option.some.injEq]at hop
   all_goals subst hop
   ·exact q9 (w':=W) (by unfold execOp;simp only[t0];go_simp) ⟨Below.refl _ _,rfl⟩
   ·have g0:vs 0=_:=hG 0 (by kernel_rfl);exact q9 (w':=W) (by unfold execOp;simp only[s18,g0];go_simp) ⟨Below.refl _ _,rfl⟩
   ·have g1:vs 1=_:=hG 1 (by kernel_rfl);exact q9 (w':=W) (by unfold execOp;simp only[s19,g1];go_simp) ⟨Below.refl _ _,rfl⟩
   ·have g2:vs 2=_:=hG 2 (by kernel_rfl);obtain⟨A4,c4,hv4,_⟩:=jo.out.row;rw[hv4]at c2 ⊢;exact q9 (w':=W) (by unfold execOp;simp only[s20,g2];go_simp) ⟨Below.refl _ _,rfl⟩
   ·have g3:vs 3=_:=hG 3 (by kernel_rfl);refine qj (f:=69) (args:=#[v]) (w':=W) (by unfold execOp;simp only[hc,hfn,s21,g3];go_simp) ((HLA.out W hb).mono ?_);rintro e W' ⟨rfl,h1⟩;exact⟨_,rfl,h1,rfl⟩
   ·have g4:vs 4=_:=hG 4 (by kernel_rfl);have sP:=sL.out;exact q9 (w':=W) (by unfold execOp;simp only[s22,g4];go_simp) ⟨Below.refl _ _,rfl⟩
   ·exact q9 (w':=W) (by unfold execOp;simp only[t4];go_simp) ⟨Below.refl _ _,rfl⟩
   ·have g5:vs 5=_:=hG 5 (by kernel_rfl);have g6:vs 6=_:=hG 6 (by kernel_rfl);exact q9 (w':=W) (ng (.tmp 23) (.tmp 24) base g y1 y2 HY1.out HY2.out rfl (s23.trans g5) (s24.trans g6) HBO.out yB.out.n8) ⟨Below.refl _ _,rfl⟩
   ·exact q9 (ku 131 i0 _ rfl HI.out HZ0.out) ⟨(Below.refl _ W).alloc (Nat.le_refl _) _,W.heap.size,_,rfl,hb.size,qg.new _ _ _,HZL.out⟩
  ·intro vs W hb hG;have g0:vs 0=_:=hG 0 (by decide);have g7:vs 7=_:=hG 7 (by decide);obtain⟨gg,Zc,g8,tR,sS,hgz⟩:=hG 8 (by decide);simp only[za,qN,if_true];rw[g7,g8];generalize vs 0=z0;generalize vs 1=z1;generalize vs 2=z2;generalize vs 3=z3;generalize vs 4=z4;generalize vs 5=z5;generalize vs 6=z6;clear hG g0 g7 g8;simp only[Act.put,List.setIfInBounds_toArray,List.set_cons_succ,List.set_cons_zero];refine qL (i:=9) (by kernel_rfl) rfl rfl ?_;refine wp_skip (jq W 131 (.tmp 8) (.tmp 25) rfl gg 0 rfl (sc ⟨g,base,false⟩) rfl 131 _ sS (by rw[yX,HNL.out]) (by rw[HNL.out,hgz];omega) HN1.out) ?_;have e1:(Zc.toList.take 0++sc ⟨g,base,false⟩++Zc.toList.drop (0+(sc ⟨g,base,false⟩).length))=sc ⟨g,base,false⟩:=by
    rw[List.take_zero,List.nil_append,List.drop_of_length_le,List.append_nil];rw[HNL.out,Array.length_toList,hgz];omega
   rw[e1];have HBX:=QH (uV (c:=(sc ⟨g,base,false⟩).toArray) sS);have sJ:=uW W gg (sc ⟨g,base,false⟩).toArray;have hb2:Below W1.heap.size W1 (W.setRow gg (sc ⟨g,base,false⟩).toArray):=hb.trans (sJ.below (fun i hi=>by rw[hi];exact tR) hb.size);have qC:=QH (qV.out.trans (hb2.mono qV.out.size));have jK:=QH (jo.out.below hb2);have HGB:Hid (w.heap.size≤gg):=Nat.le_trans qV.out.size tR;have iG:=QH (HX.out.below qC.out);clear hb sS hgz sJ hb2 e1 jo HNC HN1 HNL tR;generalize W.setRow gg (sc ⟨g,base,false⟩).toArray=W2 at *;refine⟨by kernel_rfl,?_⟩;go_wp2_with fail;go_loopw [9,28] (fun v i wr=>q2c x base d.live.length g gg w v i wr) (fun _ i _=>x.length-(intOf i).toNat);case atStart=>exact⟨0,-1,base,Nat.zero_le _,rfl,rfl,by omega,by omega,HBO.out,by rw[List.drop_zero],HBX.out,qC.out⟩
   case round =>
    obtain⟨j,pr,l,hj,rfl,rfl,hp1,hp8,hlo,hpa,yE,wa⟩:=hrel;have bV:=QH hlo;have HPA:=QH hpa;have yP:=QH yE;have df:=QH wa;have eG:=QH (HRW.out.below wa);have HLL:Hid (l.length=d.live.length):=hlo.1;clear hlo hpa yE wa;by_cases hlt:j<x.length
    ·have gp:(j:Int)<(x.length:Int):=by omega
     obtain⟨bx,ox,rfl,kF,e0,e1,q7v⟩:=HX.out j hlt;have e0:=(df.out.cell (p:=⟨bx,ox+j*2,none⟩) kF).trans e0;have e1:=(df.out.cell (p:=⟨bx,ox+j*2+1,none⟩) kF).trans e1;have qdP:x.drop j=x[j]::x.drop (j+1):=List.drop_eq_getElem_cons hlt;have hpa:=HPA.out;rw[qdP]at hpa;generalize x[j]=xe at *;obtain⟨kz,s⟩:=xe;dsimp only at e0 e1 q7v;have HPU:Hid (vV base (-1) x=if kz≤pr∨(l.length:Int)≤kz∨s.length≠32 then none else vV (l.set kz.toNat s) kz (x.drop (j+1))):=hpa;clear qdP hpa HPA;have HT:=QH (fun W (hb:Below wr.heap.size wr W)=>wS ((eG.out.below hb).c0) kz s);by_cases zO:kz<pr+1
     ·have hs2:=HSD.out;rw[HPU.out,if_pos (.inl (by omega))]at hs2;have uK:=QH hs2;clear hs2 HPU HSD HT;go_wp2_with fail;go_ret;rw[uK.out];exact vq HIS.out (df.out.alloc df.out.size _) rfl
     ·have HBA:=QH ((Below.refl wr.heap.size wr).alloc (Nat.le_refl _) (.cells #[.int .i64 kz,.string (str s)] 62));have HTA:=QH (HT.out _ HBA.out);have yw:Hid (qg (wr.alloc (.cells #[.int .i64 kz,.string (str s)] 62)) wr.heap.size 62 #[.int .i64 kz,.string (str s)]):=qg.new _ _ _;have hk2:¬ kz<pr+1:=zO;clear HT;have a0:=yw.out.cell 0;have a1:=yw.out.cell 1;simp only[QA,QB,QC]at a0 a1;by_cases hgd:0≤kz∧kz<(d.live.length:Int)∧s.length=32
      ·obtain⟨kn,rfl⟩:∃kn:Nat,kz=(kn:Int):=⟨kz.toNat,by omega⟩;rw[decide_eq_true hgd]at HTA;have hkl:kn<l.length:=by have:=HLL.out;omega
       have hkp:pr<(kn:Int):=by omega
       have HKL:=QH hkl;have q2d:=QH hgd.2.2;have h8:=yB.out.n8;have hk8:kn<8:=by omega
       have hpu:=HPU.out;rw[if_neg (by have:=HLL.out;omega),Int.toNat_natCast]at hpu;have HPN:=QH hpu;clear hpu HPU hgd hkl;go_wp2_with fail;refine HTA.out.mono ?_;rintro e W3 ⟨rfl,hb3⟩;have qZ:=QH (HBA.out.trans (hb3.mono HBA.out.size));have cj:=QH (yw.out.below hb3);have q7x:=QH yP.out.lt;have a0:=cj.out.cell 0;have a1:=cj.out.cell 1;simp only[QA,QB,QC]at a0 a1;have q2e:=QH (yP.out.below qZ.out);clear hb3 HTA yw HBA yP;go_wp2_with fail;refine(qiw q2e.out (o:=0) (by rw[List.size_toArray,jc bV.out h8];omega) kn hk8 s q2d.out).mono ?_;rintro e W4 ⟨rfl,sW⟩;have cf:=qsg (s:=⟨g,l,false⟩) bV.out h8 kn s HKL.out;have e2:W4=W3.setRow gg (sc ⟨g,l.set kn s,false⟩).toArray:=by
        rw[sW,← cf]
       have sJ:=uW W3 gg (sc ⟨g,l.set kn s,false⟩).toArray;have qxm:=uV (c:=(sc ⟨g,l.set kn s,false⟩).toArray) q2e.out;rw[← e2]at sJ qxm;have mv:=QH qxm;have iW:=QH (cj.out.of_block (sJ.block _ cj.out.lt (by have:=q7x.out;omega)));have a2:=iW.out.cell 0;simp only[List.getElem?_toArray,List.getElem?_cons_zero]at a2;have q7y:Hid (qz (fun i=>i=gg) wr W4):=(qz.of_below (S:=fun i=>i=gg) qZ.out).trans sJ (fun _ h=>.inl h);have hwr:IntKind.i64.wrap ((kn:Int)+1)=(kn:Int)+1:=IntWalk.i64_in _ (by omega);clear cf e2 sJ qxm sW a0 a1;go_wp2_with fail;go_roundw;case rel =>
        exact⟨j+1,kn,l.set kn s,by omega,by go_num,rfl,by omega,by omega,qni bV.out q2d.out,HPN.out,mv.out,df.out.trans (q7y.out.below (fun i hi=>by rw[hi];exact HGB.out) df.out.size)⟩
       case measure=>simp[intOf];omega
      ·rw[decide_eq_false hgd]at HTA;have hs2:=HSD.out;rw[HPU.out,if_pos (by have:=HLL.out;omega)]at hs2;have uK:=QH hs2;clear hs2 HPU HSD hgd;go_wp2_with fail;refine HTA.out.mono ?_;rintro e W3 ⟨rfl,hb3⟩;have qZ:=QH (df.out.trans ((HBA.out.trans (hb3.mono HBA.out.size)).mono df.out.size));clear hb3 HTA yw HBA yP a0 a1;go_wp2_with fail;go_ret;rw[uK.out];exact vq HIS.out qZ.out rfl
    ·have gp:¬ (j:Int)<(x.length:Int):=by omega
     have hpa:=HPA.out;rw[List.drop_of_length_le (by omega),qgb]at hpa;have hs2:=HSD.out;rw[hpa]at hs2;have uK:Hid (d.add g x=(⟨l,d.qa++[⟨g,l,false⟩]⟩,0)):=hs2;have HPU:=QH (jn eG.out yB.out qpq.out ⟨g,l,false⟩ bV.out);have HOK:=QH (qe5 yB.out ⟨g,l,false⟩ qpq.out bV.out HG.out);have cn:Hid ((sc ⟨g,l,false⟩).length=259):=jc bV.out yB.out.n8;have HVL:Hid ((vc l).length=256):=xj bV.out yB.out.n8;have HVC:Hid (∀j u,(vc l)[j]?=some u→(sc ⟨g,l,false⟩).toArray[0+j]?=some u):=fun j u hu=>by
      rw[Nat.zero_add];simpa using qo3 ⟨g,l,false⟩ j u hu
     obtain⟨N,hN⟩:=QE (sc ⟨g,l,false⟩);rw[hN]at HPU cn yP HVC;clear hpa hs2 HSD HPA hN;go_wp2_with (refine qf rfl (qy 131 (.tmp 8) rfl gg 0 rfl _ N.toArray N _ _ yP.out underlying131 rfl (by rw[yX,cn.out]) (fun j u hu=>by rw[Nat.zero_add];simpa using hu)) ?_);refine HPU.out.mono ?_;rintro e W5 ⟨rfl,v5,q2f,hp5,qxn,q2g⟩;have HP5:=QH hp5;have sr:=QH ((qz.of_below (S:=fun i=>i=p) df.out).trans qxn (fun _ h=>.inl h));have q7z:Hid (∀i,q2f i→own i∨w.heap.size≤i):=fun i hi=>by
      rcases q2g i hi with h|h
      ·exact .inl h
      ·have:=df.out.size;exact .inr (by omega)
     have q70:=QH (yP.out.of_block (qxn.block gg yP.out.lt (uG yP.out eG.out.blk (by decide))));have bI:Hid ((qI (⟨d.live,d.qa++[⟨g,l,false⟩]⟩:CH).live.length (⟨d.live,d.qa++[⟨g,l,false⟩]⟩:CH).live v5).length=258):=kA HOK.out.live HOK.out.n8;clear hp5 qxn q2g HPU;go_wp2_with (first|(refine qf rfl (qy 84 (.tmp 59) rfl gg 0 rfl _ N.toArray (vc l) _ _ q70.out underlying84 rfl (by rw[uq,HVL.out]) HVC.out) ?_)|(refine wpList_skip rfl (jq W5 84 (.tmp 62) (.tmp 60) rfl p 1 rfl (vc l) rfl _ _ HP5.out.blk (by rw[uq,HVL.out]) (by rw[List.size_toArray,bI.out,HVL.out];decide) (rI l)) ?_));go_ret;obtain⟨hp6,q71⟩:=jJ.qpr HP5.out HOK.out bV.out rfl;have mA:=sr.out.trans q71 (fun _ h=>.inl h);rw[uK.out];exact⟨⟨rfl,q2f,⟨qir HOK.out bV.out,_,hp6⟩,mA.mono (fun i hi=>by rw[hi];exact HRW.out.op),q7z.out⟩,mA⟩
 ·have hcn:(m != 0)=true:=by simpa using hz
  have hsn:=kX.out;rw[if_neg hz]at hsn;have HSD:=QH hsn;clear hsn kX HMZ jo;go_wp2_with fail;go_ret;rw[HSD.out];exact vq HIS.out qV.out rfl
end Go.Proofs.YtdagdllomphidaaGreatDoor.ch.pg
namespace Go.Proofs.YtdagdllomphidaaGreatDoor.ch.pg
open _root_.Go.Proofs.Tryz Go Go.RowKit ib
theorem qsD(w:World):(sizeOf 5).run prog w=.ok 1 w:=by
 obtain⟨i0,hi,hz0,hz1,hz2⟩:=info_parts Tryz.oa;simp[sizeOf,typeInfo,hi,hz1]
theorem qps(d:Nat)(x y:Bt)(hx:x.length=32)(hy:y.length=32)(w:World) :
    (Op.equalIn (d+2) 82 (.agg (Lib.byteCells x).toArray) (.agg (Lib.byteCells y).toArray)).run prog w=.ok (decide (x=y)) w:=by
 have h:=run_equalIn_bytes (P:=prog) w d 82 5 32 underlying82 underlying5 qsD x y hx hy;have e:decide (x=y)=(x == y):=by rw[Bool.eq_iff_iff];simp
 rw[e];exact h
theorem qe8(ps:List Bt)(h:∀v∈ps,(Lib.byteCells v).length=32)(k:Nat)(hk:k<ps.length)(w:World) :
    (part 82 (ps.flatMap Lib.byteCells).toArray (k*32)).run prog w=.ok (.agg (Lib.byteCells ps[k]).toArray) w:=by
 have ha:(isAgg 82).run prog w=.ok true w:=by
  unfold isAgg;rw[Sem.run_bind,run_underlying underlying82 w];rfl
 have hz:(sizeOf 82).run prog w=.ok 32 w:=by
  cases hq:prog.info? 82 with
  | none=>have:=vM;simp[hq]at this
  | some i =>
   have:=vM;simp[hq]at this;simp[sizeOf,typeInfo,hq,this]
 have he:((ps.flatMap Lib.byteCells).toArray.extract (k*32) (k*32+32))=(Lib.byteCells ps[k]).toArray:=by
  apply Array.ext';rw[Array.toList_extract];rw[List.extract_eq_take_drop,show k*32+32-k*32=32 by omega];rw[qbU ps k h,List.drop_eq_getElem_cons hk,List.flatMap_cons,List.take_left' (h _ (List.getElem_mem hk))]
 simp only[part,Sem.run_bind,ha,Result.andThen_ok,if_true,hz,Sem.run_pure,he]
theorem qaK(d:Nat)(ps qs:List Bt)(hp:∀v∈ps,v.length=32)(hq:∀v∈qs,v.length=32)(w:World):∀is:List Nat,(∀i∈is,i<ps.length∧i<qs.length) →
    (Op.eqItems (d+2) 82 32 (ps.flatMap Lib.byteCells).toArray (qs.flatMap Lib.byteCells).toArray is).run prog w=.ok (is.all fun i=>decide (ps[i]?=qs[i]?)) w
 | [],_=>by simp[Op.eqItems]
 | i::is,h=>by
  obtain⟨h1,h2⟩:=h i (by simp);have ih:=qaK d ps qs hp hq w is (fun j hj=>h j (by simp[hj]));have p1:=qe8 ps (fun v hv=>by rw[Lib.byteCells_length,hp v hv]) i h1 w;have p2:=qe8 qs (fun v hv=>by rw[Lib.byteCells_length,hq v hv]) i h2 w;have p3:=qps d ps[i] qs[i] (hp _ (List.getElem_mem h1)) (hq _ (List.getElem_mem h2)) w;have e:decide (ps[i]?=qs[i]?)=decide (ps[i]=qs[i]):=by
   rw[List.getElem?_eq_getElem h1,List.getElem?_eq_getElem h2];simp
  rw[List.all_cons,e];obtain⟨b,hb⟩:=QE (decide (ps[i]=qs[i]));rw[hb]at p3 ⊢;generalize (is.all fun i=>decide (ps[i]?=qs[i]?))=r at *;generalize ps[i]=x at *;generalize qs[i]=y at *;generalize (ps.flatMap Lib.byteCells).toArray=P at *;generalize (qs.flatMap Lib.byteCells).toArray=Q at *;generalize Lib.byteCells x=X at *;generalize Lib.byteCells y=Y at *;have hu:Op.eqItems (d+2) 82 32 P Q (i::is)=(do
   let a ← part 82 P (i*32)
   let b ← part 82 Q (i*32)
   let r ← Op.equalIn (d+2) 82 a b
   if (!r)=true then pure false else Op.eqItems (d+2) 82 32 P Q is):=rfl
  rw[hu,Sem.run_bind,p1,Result.andThen_ok,Sem.run_bind,p2,Result.andThen_ok,Sem.run_bind,p3,Result.andThen_ok];cases b
  ·rfl
  ·exact ih
theorem qxo{n:Nat}(p q:List Bt)(hp:qR n p)(hq:qR n q)(h8:n≤8)(w:World) :
    (Op.equalIn 10000 84 (.agg (vc p).toArray) (.agg (vc q).toArray)).run prog w=.ok (decide (p=q)) w:=by
 cases hi:prog.info? 82 with
 | none=>have:=vM;simp[hi]at this
 | some i =>
  have hc:prog.cellsOf 82=32:=by
   have:=vM;simp[hi]at this;simp[Program.cellsOf,hi,this]
  rw[show(10000:Nat)=9999+1 from rfl,run_equalIn_array w 9999 _ _ underlying84 hi,hc];unfold vc;rw[show(9999:Nat)=9997+2 from rfl,qaK 9997 (pad p) (pad q) (rH hp) (rH hq) w (List.range 8) (fun j hj=>by rw[vL hp h8,vL hq h8];have:=List.mem_range.1 hj;omega)]
  congr 1
  rw[Bool.eq_iff_iff];simp only[List.all_eq_true,List.mem_range,decide_eq_true_eq];constructor
  ·intro h;refine qsf (hp.1.trans hq.1.symm) (List.ext_getElem? fun j=>?_);by_cases hj:j<8
   ·exact h j hj
   ·rw[List.getElem?_eq_none (by rw[vL hp h8];omega),List.getElem?_eq_none (by rw[vL hq h8];omega)]
  ·rintro rfl j _;rfl
theorem qhr{ρ:Operand→Value}{o:Oper}{w:World}{n:Nat}(x y:Operand)(p q:List Bt)(ho:o.op=.binOp .eql 84 x y 84)(hx:ρ x=.agg (vc p).toArray)(hy:ρ y=.agg (vc q).toArray)(hp:qR n p)(hq:qR n q)(h8:n≤8) :
    (execOp ρ o).run prog w=.ok (.value (.bool (decide (p=q)))) w:=by
 have he:=qxo p q hp hq h8 w;have hg:=run_eqGuard_agg (P:=prog) w .eql 84 x y (vc p).toArray (vc q).toArray Tryz.eqGuardType84;have hb:(binOp .eql 84 (.agg (vc p).toArray) (.agg (vc q).toArray)).run prog w=.ok (.bool (decide (p=q))) w:=by
  rw[run_eql_struct,he];rfl
 simp[execOp,ho,hx,hy,hg,hb,Result.andThen]
theorem qhs{ρ:Operand→Value}{o:Oper}{w:World}(x y:Operand)(p q:Bt)(ho:o.op=.binOp .neq 82 x y 82)(hx:ρ x=.agg (Lib.byteCells p).toArray)(hy:ρ y=.agg (Lib.byteCells q).toArray)(hp:p.length=32)(hq:q.length=32) :
    (execOp ρ o).run prog w=.ok (.value (.bool (!decide (p=q)))) w:=by
 have he:=qps 9998 p q hp hq w;have hg:=run_eqGuard_agg (P:=prog) w .neq 82 x y (Lib.byteCells p).toArray (Lib.byteCells q).toArray Tryz.eqGuardType82;have hb:(binOp .neq 82 (.agg (Lib.byteCells p).toArray) (.agg (Lib.byteCells q).toArray)).run prog w=.ok (.bool (!decide (p=q))) w:=by
  rw[run_neq_struct,he];rfl
 simp[execOp,ho,hx,hy,hg,hb,Result.andThen]
end Go.Proofs.YtdagdllomphidaaGreatDoor.ch.pg
namespace Go.Proofs.YtdagdllomphidaaGreatDoor.ch.pg
open _root_.Go.Proofs.Tryz Go Go.RowKit Go.Sort ib
theorem qxp:(prog.info? 82).map (fun i=>(i.zero,i.size,i.bytes))=some (some (.agg (Lib.byteCells zz).toArray),32,32):=by kernel_rfl
theorem qe9(l:List Bt)(k:Nat)(h:k<l.length):(pad l).getD k []=l.getD k []:=by
 unfold pad;rw[List.getD_eq_getElem?_getD,List.getD_eq_getElem?_getD,List.getElem?_append_left h]
theorem nh {n:Nat}{l:List Bt}(h:qR n l)(k:Nat)(hk:n≤k)(h8:k<8):(pad l).getD k []=zz:=by
 have h2:=h.1;unfold pad;rw[List.getD_eq_getElem?_getD,List.getElem?_append_right (by omega),List.getElem?_replicate,if_pos (by omega)];simp
theorem su {α β:Type}{f g:α→Option β}:∀ {l:List α},(∀x∈l,f x=g x)→l.filterMap f=l.filterMap g
 | [],_=>rfl
 | x::l,h=>by
  rw[List.filterMap_cons,List.filterMap_cons,h x (by simp),su (l:=l) fun y hy=>h y (by simp[hy])]
theorem qht{p q:List Bt}(k:Nat)(hp:k≤p.length)(hq:k≤q.length):lK (pad p) (pad q) k=lK p q k:=by
 unfold lK;refine su fun i hi=>?_;have:=List.mem_range.1 hi;rw[qe9 p i (by omega),qe9 q i (by omega)]
theorem sw {n:Nat}{p q:List Bt}(hp:qR n p)(hq:qR n q):∀j,n+j≤8→lK (pad p) (pad q) (n+j)=lK p q n
 | 0,_=>qht n (by rw[hp.1];omega) (by rw[hq.1];omega)
 | j+1,h=>by
  rw[← Nat.add_assoc,rG _ _ _ (by rw[nh hp _ (by omega) (by omega),nh hq _ (by omega) (by omega)]),sw hp hq j (by omega)]
theorem qsE{n:Nat}{p q:List Bt}(hp:qR n p)(hq:qR n q)(h8:n≤8):lK (pad p) (pad q) 8=ar p q:=by
 have:=sw hp hq (8-n) (by omega);rw[show n+(8-n)=8 by omega]at this;rw[this];unfold ar lK;rw[hq.1]
theorem qhu(p:List Bt):ar p p=[]:=by
 unfold ar;simp
def GcG (b o k B:Nat)(X:Bt):Nat→Value→World→Prop
 | 0,v,_=>v=.int .i64 (k:Int)
 | 1,v,_=>v=.pointer (some ⟨b,o,none⟩)
 | 2,v,_=>v=.pointer (some ⟨b,o+k*32,none⟩)
 | 3,v,_=>v=.agg (Lib.byteCells X).toArray
 | 4,v,w=>∃g,v=.pointer (some ⟨g,0,none⟩)∧B≤g∧qg w g 82 (Lib.byteCells zz).toArray
 | 5,v,_=>v=.int .i64 (k:Int)
 | _,_,_=>True
theorem qpt(b o k B:Nat)(X:Bt)(i:Nat)(v:Value)(w w':World)(hi:i<6)(h:GcG b o k B X i v w)(hb:Below w.heap.size w w'):GcG b o k B X i v w':=by
 match i,hi,h with
 | 0,_,h | 1,_,h | 2,_,h | 3,_,h | 5,_,h=>exact h
 | 4,_,⟨g,h1,h2,h3⟩=>exact⟨g,h1,h2,h3.below hb⟩
def q2h (P Q:List Bt)(q:List Bt)(w:World)(v i:Value)(wr:World):Prop :=
 ∃k:Nat,k≤8∧i=.int .i64 (k:Int)∧wR wr w.heap.size v (lK P Q k)∧Below w.heap.size w wr∧qg wr w.heap.size 84 (vc q).toArray
def q2i (D:List (Int × Bt))(w:World)(e:Ending)(w':World):Prop:=∃A cc,e=.returned (.slice A D.length cc)∧bw w' A D∧uE w w' A∧Below w.heap.size w w'
theorem qcm{w:World}{b o n:Nat}{t:TypeId}{cs:Array Value}{p q:List Bt}(h:qg w b t cs)(hc:∀j u,(vc p)[j]?=some u→cs[o+j]?=some u)(hp:qR n p)(hq:qR n q)(h8:n≤8) :
    Calls prog 98 #[.pointer (some ⟨b,o,none⟩),.agg (vc q).toArray] w (q2i (ar q p) w):=by
 obtain⟨i0,hi,hz0,hz1,hz2⟩:=info_parts qgL;obtain⟨i2,ov,hy0,hy1,hy2⟩:=info_parts qxp;have HB:=QH h;have HC:=QH hc;have HP:=QH hp;have HQ:=QH hq;have HBL:Hid (b<w.heap.size):=h.lt;have HVQ:Hid ((vc q).length=256):=xj hq h8;have HVP:Hid ((vc p).length=256):=xj hp h8;have HN:=QH (qg.new w 84 (vc q).toArray);have HI2:=QH ov;have HY0:=QH hy0;have qV:=QH (h.of_block (Below.heap_alloc w (.cells (vc q).toArray 84) _ h.lt));have HDP:Hid (lK (pad q) (pad p) 8=ar q p):=qsE hq hp h8;have HSM:Hid (p=q→ar q p=[]):=fun e=>by rw[e];exact qhu q
 obtain⟨D,hD⟩:=QE (ar q p);rw[hD]at HDP HSM ⊢;clear h hc hp hq ov hy0 hy1 hy2 hD;go_enter func98,ntmps98;go_wp2_with (refine qf rfl (fM 84 (.tmp 1) (vc q).toArray rfl rfl (by rw[uq,List.size_toArray,HVQ.out]) (jI (rI q))) ?_);refine xc 4 (by kernel_rfl) (by kernel_rfl) ?_;simp only[List.take_succ_cons,List.take_zero,List.drop_succ_cons,List.drop_zero]
 iterate 2 still_step
 refine yI rfl (qy _ _ rfl b o rfl _ cs (vc p) _ _ qV.out underlying84 rfl (by rw[uq,HVP.out]) HC.out) ?_;refine yI rfl (qy _ _ rfl w.heap.size 0 rfl _ _ (vc q) _ _ HN.out underlying84 rfl (by rw[uq,HVQ.out]) (fun j u hu=>by rw[Nat.zero_add];simpa using hu)) ?_;refine wpStill_nil ?_;refine qf rfl (qhr _ _ p q rfl rfl rfl HP.out HQ.out h8) ?_;by_cases hpq:p=q
 ·obtain rfl:=HSM.out hpq;rw[decide_eq_true hpq];clear hpq HDP;go_wp2_with fail;go_ret;exact⟨none,0,rfl,bw.nil _ _,uE.none _ _,dm ((Below.refl w.heap.size w).alloc (Nat.le_refl _) _) 1⟩
 ·rw[decide_eq_false hpq];have kJ:Hid (Below w.heap.size w (w.alloc (.cells (vc q).toArray 84)).drew):=dm ((Below.refl w.heap.size w).alloc (Nat.le_refl _) _) 1;have bH:Hid (qg (w.alloc (.cells (vc q).toArray 84)).drew w.heap.size 84 (vc q).toArray):=HN.out;clear hpq HN qV HSM;generalize (w.alloc (.cells (vc q).toArray 84)).drew=W1 at *;go_wp2_with fail;go_loopw [5,15] (fun v i wr=>q2h (pad q) (pad p) q w v i wr) (fun _ i _=>8-(intOf i).toNat);case atStart=>exact⟨0,Nat.zero_le _,rfl,World.ownsRow_nil _ _ _ _,kJ.out,bH.out⟩
  case round =>
   obtain⟨k,hk,rfl,ho,hB,hV⟩:=hrel;have HO:=QH ho;have df:=QH hB;have HV:=QH hV;clear ho hB hV kJ bH;by_cases hlt:k<8
   ·have jW:(k:Int)<8:=by omega
    have hp8:k<(pad p).length:=by rw[vL HP.out h8];exact hlt
    have hq8:k<(pad q).length:=by rw[vL HQ.out h8];exact hlt
    have HX:Hid ((pad p)[k].length=32):=rH HP.out _ (List.getElem_mem hp8);have HY:Hid ((pad q)[k].length=32):=rH HQ.out _ (List.getElem_mem hq8);have HXC:Hid (∀j u,(Lib.byteCells (pad p)[k])[j]?=some u→cs[o+k*32+j]?=some u):=fun j u hu=>by
     rw[Nat.add_assoc];exact HC.out _ _ (qgN HP.out k hp8 j u hu)
    have HYC:Hid (∀j u,(Lib.byteCells (pad q)[k])[j]?=some u→(vc q).toArray[k*32+j]?=some u):=fun j u hu=>by
     simpa using qgN HQ.out k hq8 j u hu
    have HXD:Hid ((pad p).getD k []=(pad p)[k]):=by unfold Hid;rw[List.getD_eq_getElem?_getD,List.getElem?_eq_getElem hp8];rfl
    have HYD:Hid ((pad q).getD k []=(pad q)[k]):=by unfold Hid;rw[List.getD_eq_getElem?_getD,List.getElem?_eq_getElem hq8];rfl
    have HDS:=QH (rG (pad q) (pad p) k);have HDM:=QH (qeb (pad q) (pad p) k);have HDL:=QH (qis (pad q) (pad p) k);have HDB:=QH (qbT (pad q) (pad p) (k+1) (by omega));rw[HXD.out,HYD.out]at HDS HDM;clear HXD HYD;generalize (pad p)[k]=X at *;generalize (pad q)[k]=Y at *;clear hp8 hq8;have HBR:=QH (HB.out.of_block (df.out.block b HBL.out));go_wp2_with fail;refine qQ (by kernel_rfl) 6 [17,18,19,20,7,6] (by kernel_rfl) (GcG b o k wr.heap.size X) (qpt _ _ _ _ _) ?_ ?_
    ·intro i op vs ρ W hi6 hop hρ hfn hb hG;have t13:ρ (.tmp 13)=.pointer (some ⟨b,o,none⟩):=hρ.out 13 rfl;have t15:ρ (.tmp 15)=.int .i64 (k:Int):=hρ.out 15 rfl;have s17:=hρ.at_ 17 0 rfl;have s18:=hρ.at_ 18 1 rfl;have s19:=hρ.at_ 19 2 rfl;rcases i with _|_|_|_|_|_|i;all_goals (first|omega|skip)
     all_goals simp only[QA,QB,QC,Option.some.injEq]at hop
     all_goals subst hop
     ·exact q9 (w':=W) (by unfold execOp;simp only[t15];go_simp) ⟨Below.refl _ _,rfl⟩
     ·exact q9 (w':=W) (by unfold execOp;simp only[t13];go_simp) ⟨Below.refl _ _,rfl⟩
     ·have g1:vs 1=.pointer (some ⟨b,o,none⟩):=hG 1 (by kernel_rfl);exact q9 (w':=W) (by unfold execOp;simp only[s18,g1,t15];go_simp) ⟨Below.refl _ _,rfl⟩
     ·have g2:vs 2=.pointer (some ⟨b,o+k*32,none⟩):=hG 2 (by kernel_rfl);exact q9 (w':=W) (qy 82 (.tmp 19) rfl b (o+k*32) (s19.trans g2) _ cs (Lib.byteCells X) _ _ (HBR.out.below hb) underlying82 rfl (by rw[vM,Lib.byteCells_length,HX.out]) HXC.out) ⟨Below.refl _ _,rfl⟩
     ·exact q9 (ku 82 i2 _ rfl HI2.out HY0.out) ⟨(Below.refl _ W).alloc (Nat.le_refl _) _,W.heap.size,rfl,hb.size,qg.new _ _ _⟩
     ·have g0:vs 0=.int .i64 (k:Int):=hG 0 (by kernel_rfl);exact q9 (w':=W) (by unfold execOp;simp only[s17,g0];go_simp) ⟨Below.refl _ _,rfl⟩
    ·intro vs W hb hG;have g0:vs 0=_:=hG 0 (by decide);have g1:vs 1=_:=hG 1 (by decide);have g2:vs 2=_:=hG 2 (by decide);have g3:vs 3=_:=hG 3 (by decide);obtain⟨gg,g4,tR,yE⟩:=hG 4 (by decide);have g5:vs 5=_:=hG 5 (by decide);simp only[za,qN,if_true];rw[g0,g1,g2,g3,g4,g5];have qxq:=QH hb;have yP:=QH yE;have HGB:=QH tR;clear hG g0 g1 g2 g3 g4 g5 hb yE tR;simp only[Act.put,List.setIfInBounds_toArray,List.set_cons_succ,List.set_cons_zero];refine qL (i:=6) (by kernel_rfl) rfl rfl ?_;refine wp_skip (jq W 82 (.tmp 7) (.tmp 20) rfl gg 0 rfl (Lib.byteCells X) rfl 82 _ yP.out (by rw[vM,Lib.byteCells_length,HX.out]) (by rw[List.size_toArray,Lib.byteCells_length,Lib.byteCells_length,HX.out,qJ];omega) (Lib.byteCells_one X)) ?_;have HBX:Hid (qg (W.setRow gg ((Lib.byteCells zz).toArray.toList.take 0++Lib.byteCells X++(Lib.byteCells zz).toArray.toList.drop (0+(Lib.byteCells X).length)).toArray) gg 82 (Lib.byteCells X).toArray):=by
      have h:=uV (c:=((Lib.byteCells zz).toArray.toList.take 0++Lib.byteCells X++(Lib.byteCells zz).toArray.toList.drop (0+(Lib.byteCells X).length)).toArray) yP.out;have e:((Lib.byteCells zz).toArray.toList.take 0++Lib.byteCells X++(Lib.byteCells zz).toArray.toList.drop (0+(Lib.byteCells X).length))=Lib.byteCells X:=by
       rw[List.take_zero,List.nil_append,List.drop_of_length_le,List.append_nil];show(Lib.byteCells zz).length≤_;rw[Lib.byteCells_length,Lib.byteCells_length,HX.out,qJ];omega
      rw[e]at h ⊢;exact h
     have HBT:=QH (uW W gg ((Lib.byteCells zz).toArray.toList.take 0++Lib.byteCells X++(Lib.byteCells zz).toArray.toList.drop (0+(Lib.byteCells X).length)).toArray);generalize W.setRow gg ((Lib.byteCells zz).toArray.toList.take 0++Lib.byteCells X++(Lib.byteCells zz).toArray.toList.drop (0+(Lib.byteCells X).length)).toArray=W2 at *;have qC:Hid (Below wr.heap.size wr W2):=qxq.out.trans (HBT.out.below (fun i hi=>by rw[hi];exact HGB.out) qxq.out.size);have HV2:=QH (HV.out.below qC.out);have uX:=QH (zX (w':=W2) (show World.ownsRow _ _ _ _ _ _ _ from HO.out) (fun j hj=>qC.out.block j (HO.out.lt j hj).2));have HE2:=QH (df.out.trans (qC.out.mono df.out.size));clear HBT qxq yP HV HO df HBR qC HGB;refine⟨by kernel_rfl,?_⟩;go_wp2_with fail;refine xc 4 (by kernel_rfl) (by kernel_rfl) ?_;simp only[List.take_succ_cons,List.take_zero,List.drop_succ_cons,List.drop_zero];refine yI rfl (qy _ _ rfl gg 0 rfl _ _ (Lib.byteCells X) _ _ HBX.out underlying82 rfl (by rw[vM,Lib.byteCells_length,HX.out]) (fun j u hu=>by rw[Nat.zero_add];simpa using hu)) ?_
     iterate 2 still_step
     refine yI rfl (qy _ _ rfl w.heap.size (k*32) rfl _ _ (Lib.byteCells Y) _ _ HV2.out underlying82 rfl (by rw[vM,Lib.byteCells_length,HY.out]) HYC.out) ?_;refine wpStill_nil ?_;refine qf rfl (qhs _ _ X Y rfl rfl rfl HX.out HY.out) ?_;by_cases hxy:X=Y
     ·rw[decide_eq_true hxy];have HSM:=QH (HDS.out hxy);clear hxy HDM HDS HDL HDB;go_wp2_with fail;go_roundw;case rel=>exact⟨k+1,by omega,by go_num,by rw[HSM.out];exact zX uX.out (fun _ _=>rfl),dm HE2.out 1,HV2.out⟩
      case measure=>simp[intOf];omega
     ·rw[decide_eq_false hxy];have HSM:=QH (HDM.out hxy);clear hxy HDM HDS;have HKX:=QH (HBX.out.lt);have qam:=wZ X gg 32 82 W2.drew HX.out HBX.out;obtain⟨S,hS⟩:=QE (str X);have HS:=QH hS;rw[hS]at qam;clear hS;have q74:=QH (qw9 W2.drew 62 (.int .i64 (k:Int)) (.string S));have qZ:=QH ((dm HE2.out 1).alloc HE2.out.size (.cells #[.int .i64 (k:Int),.string S] 62));have sM:=QH (World.ownsRow.alloc (w:=W2.drew) (zX (w':=W2.drew) uX.out (fun _ _=>rfl)) (.cells #[.int .i64 (k:Int),.string S] 62));have HV3:Hid (qg (W2.drew.alloc (.cells #[.int .i64 (k:Int),.string S] 62)) w.heap.size 84 (vc q).toArray):=HV2.out.of_block (Below.heap_alloc W2.drew _ _ HV2.out.lt);have qkT:∀u∈([Value.int .i64 (k:Int),.string S]:List Value),u.oneCell'=true:=by
       intro u hu;simp at hu;rcases hu with rfl|rfl <;> rfl
      have qrZ:=QH qkT;clear qkT uX HE2 HV2;go_wp2_with (at_builtin;refine wpList_append_own _ rfl (.tmp 26) (.tmp 31) 60 rfl w.heap.size 62 i0 (.agg #[.int .i64 0,.string ByteArray.empty]) 2 24 underlying60 hi hz0 hz1 hz2 rfl (by decide) _ (lK (pad q) (pad p) k).length _ rfl sM.out ⟨W2.heap.size,0,none⟩ 1 1 [.int .i64 (k:Int),.string S] rfl rfl q74.out qrZ.out ?_ ?_ qZ.out.size ?_)
      ·have:=HDL.out;unfold maxLen;omega
      ·have:=HDL.out;omega
      ·intro v' w1 hown hgrow _;have x9:=QH (qZ.out.grown hgrow qZ.out.size (fun j hj=>(sM.out.lt j hj).1));have HV4:=QH (HV3.out.of_block (hgrow.block _ HV3.out.lt (fun e=>qmm sM.out HV3.out (by decide) _ e.symm rfl)));have HOS:Hid (wR w1 w.heap.size v' (lK (pad q) (pad p) (k+1))):=by
        unfold Hid;rw[HSM.out];refine wR.snoc (x:=((k:Int),X)) ?_;dsimp only;rw[HS.out];exact hown
       obtain⟨A6,c6,hv6,_⟩:=HOS.out.qea HDB.out;clear hown hgrow;subst hv6;go_wp2_with fail;go_roundw;case rel=>exact⟨k+1,by omega,by go_num,HOS.out,x9.out,HV4.out⟩
       case measure=>simp[intOf];omega
   ·have jW:¬ (k:Int)<8:=by omega
    obtain rfl:k=8:=by omega
    have ho:=HO.out;rw[HDP.out]at ho;obtain⟨a,cc,rfl,hl,hb⟩:=ho.qea (by rw[← HDP.out];exact qbT _ _ 8 (by omega));have HL:=QH hl;have HBB:=QH hb;clear ho hl hb HO;go_wp2_with fail;go_ret;exact⟨a,cc,rfl,HL.out,HBB.out,df.out⟩
def TxV (l:List Bt)(B:Nat)(v:Value)(w:World):Prop:=∃A cc,v=.slice A l.length cc∧TxL w A l∧∀b o,A=some ⟨b,o,none⟩→B≤b∧b<w.heap.size
theorem TxV.below{l:List Bt}{B:Nat}{v:Value}{w w':World}(h:TxV l B v w)(hb:Below w.heap.size w w'):TxV l B v w':=by
 obtain⟨A,cc,h1,h2,h3⟩:=h;exact⟨A,cc,h1,h2.below hb,fun b o e=>⟨(h3 b o e).1,Nat.lt_of_lt_of_le (h3 b o e).2 hb.size⟩⟩
def LvG (p n:Nat)(l:List Bt)(B:Nat):Nat→Value→World→Prop
 | 0,v,_=>v=.pointer (some ⟨p,0,none⟩)
 | 1,v,_=>v=.pointer (some ⟨p,0,none⟩)
 | 2,v,_=>v=.pointer (some ⟨p,1,none⟩)
 | 3,v,_=>v=.pointer (some ⟨p,0,none⟩)
 | 4,v,_=>v=.pointer (some ⟨p,0,none⟩)
 | 5,v,_=>v=.pointer (some ⟨p,0,none⟩)
 | 6,v,_=>v=.int .i64 (n:Int)
 | 7,v,w=>TxV l B v w
 | 8,v,w=>TxV l B v w
 | _,_,_=>True
theorem qpv(p n:Nat)(l:List Bt)(B:Nat)(i:Nat)(v:Value)(w w':World)(hi:i<9)(h:LvG p n l B i v w)(hb:Below w.heap.size w w'):LvG p n l B i v w':=by
 match i,hi,h with
 | 0,_,h | 1,_,h | 2,_,h | 3,_,h | 4,_,h | 5,_,h | 6,_,h=>exact h
 | 7,_,h | 8,_,h=>exact TxV.below h hb
theorem rQ {own:Nat→Prop}{w:World}{p:Nat}{d:CH}(h:n4 own w p d):Calls prog 48 #[.pointer (some ⟨p,0,none⟩)] w (qjH d.live w):=by
 obtain⟨h0,v,hr⟩:=h;have HR:=QH hr;have yB:=QH h0;clear h0 hr;go_enter func48,ntmps48;go_wp2_with fail;refine qQ (by kernel_rfl) 9 [5,6,7,8,9,10,11,12,2] (by kernel_rfl) (LvG p d.live.length d.live w.heap.size) (qpv _ _ _ _) ?_ ?_
 ·intro i o vs ρ W hi9 hop hρ hfn hb hG;have t0:ρ (.tmp 0)=.pointer (some ⟨p,0,none⟩):=hρ.out 0 rfl;have hc:=hρ.const;have s5:=hρ.at_ 5 0 rfl;have s6:=hρ.at_ 6 1 rfl;have s7:=hρ.at_ 7 2 rfl;have s8:=hρ.at_ 8 3 rfl;have s9:=hρ.at_ 9 4 rfl;have s10:=hρ.at_ 10 5 rfl;have tU:=hρ.at_ 11 6 rfl;have s12:=hρ.at_ 12 7 rfl;have jo:=QH (HR.out.below hb);have c0:=jo.out.c0;rcases i with _|_|_|_|_|_|_|_|_|i;all_goals (first|omega|skip)
  all_goals simp only[QA,QB,QC,Option.some.injEq]at hop
  all_goals subst hop
  ·exact q9 (w':=W) (by unfold execOp;simp only[t0];go_simp) ⟨Below.refl _ _,rfl⟩
  ·have g0:vs 0=_:=hG 0 (by kernel_rfl);exact q9 (w':=W) (by unfold execOp;simp only[s5,g0];go_simp) ⟨Below.refl _ _,rfl⟩
  ·have g1:vs 1=_:=hG 1 (by kernel_rfl);exact q9 (w':=W) (by unfold execOp;simp only[s6,g1];go_simp) ⟨Below.refl _ _,rfl⟩
  ·exact q9 (w':=W) (by unfold execOp;simp only[t0];go_simp) ⟨Below.refl _ _,rfl⟩
  ·have g3:vs 3=_:=hG 3 (by kernel_rfl);exact q9 (w':=W) (by unfold execOp;simp only[s8,g3];go_simp) ⟨Below.refl _ _,rfl⟩
  ·have g4:vs 4=_:=hG 4 (by kernel_rfl);exact q9 (w':=W) (by unfold execOp;simp only[s9,g4];go_simp) ⟨Below.refl _ _,rfl⟩
  ·have g5:vs 5=_:=hG 5 (by kernel_rfl);exact q9 (w':=W) (by unfold execOp;simp only[s10,g5];go_simp) ⟨Below.refl _ _,rfl⟩
  ·have g2:vs 2=_:=hG 2 (by kernel_rfl);have g6:vs 6=_:=hG 6 (by kernel_rfl);refine qj (f:=97) (args:=#[.pointer (some ⟨p,1,none⟩),.int .i64 (d.live.length:Int)]) (w':=W) (by unfold execOp;simp only[hc,hfn,s7,g2,tU,g6];go_simp) ((wm jo.out.blk (fun j u hu=>by simpa using qa7 (m:=d.live.length) (v:=v) j u hu) yB.out.live yB.out.n8).mono ?_);rintro e W' ⟨A,cc,rfl,h1,h2,h3⟩;exact⟨_,rfl,h3,A,cc,rfl,h1,fun b o e=>⟨Nat.le_trans hb.size (h2 b o e).1,(h2 b o e).2⟩⟩
  ·obtain⟨A,cc,g7,h1,h2⟩:=hG 7 (by kernel_rfl);exact q9 (w':=W) (by unfold execOp;simp only[s12,g7];go_simp) ⟨Below.refl _ _,A,cc,rfl,h1,h2⟩
 ·intro vs W hb hG;obtain⟨A,cc,g8,h1,h2⟩:=hG 8 (by decide);simp only[za,qN,if_true];rw[g8];generalize vs 0=z0;generalize vs 1=z1;generalize vs 2=z2;generalize vs 3=z3;generalize vs 4=z4;generalize vs 5=z5;generalize vs 6=z6;generalize vs 7=z7;have HB:=QH hb;have H1:=QH h1;have H2:=QH h2;clear hG g8 hb h1 h2;simp only[Act.put,List.setIfInBounds_toArray,List.set_cons_succ,List.set_cons_zero];refine⟨by kernel_rfl,?_⟩;go_wp2_with fail;go_ret;exact⟨A,cc,rfl,H1.out,H2.out,HB.out⟩
def RdG (p n i g c m:Nat)(l:List Bt)(B:Nat):Nat→Value→World→Prop
 | 0,v,_=>v=.pointer (some ⟨p,0,none⟩)
 | 1,v,_=>v=.pointer (some ⟨p,0,none⟩)
 | 2,v,_=>v=.pointer (some ⟨p,257,none⟩)
 | 3,v,_=>v=.slice (some ⟨g,0,none⟩) m c
 | 4,v,_=>v=.int .i64 (i:Int)
 | 5,v,_=>v=.pointer (some ⟨g,i*259,none⟩)
 | 6,v,_=>v=.pointer (some ⟨g,i*259,none⟩)
 | 7,v,_=>v=.pointer (some ⟨p,0,none⟩)
 | 8,v,_=>v=.pointer (some ⟨p,0,none⟩)
 | 9,v,_=>v=.pointer (some ⟨p,0,none⟩)
 | 10,v,_=>v=.int .i64 (n:Int)
 | 11,v,w=>TxV l B v w
 | 12,v,w=>TxV l B v w
 | 13,v,_=>v=.int .i64 0
 | _,_,_=>True
theorem qpw(p n i0 g c m:Nat)(l:List Bt)(B:Nat)(i:Nat)(v:Value)(w w':World)(hi:i<14)(h:RdG p n i0 g c m l B i v w)(hb:Below w.heap.size w w'):RdG p n i0 g c m l B i v w':=by
 match i,hi,h with
 | 0,_,h | 1,_,h | 2,_,h | 3,_,h | 4,_,h | 5,_,h | 6,_,h | 7,_,h | 8,_,h | 9,_,h | 10,_,h | 13,_,h=>exact h
 | 11,_,h | 12,_,h=>exact TxV.below h hb
theorem wT {own:Nat→Prop}{w:World}{p:Nat}{d:CH}(h:n4 own w p d)(g:Gd):Calls prog 50 #[.pointer (some ⟨p,0,none⟩),gv g] w (kg (d.read g) w):=by
 have hb0:=(Below.refl w.heap.size w).alloc (Nat.le_refl _) (.cells #[.int .u64 (g.1:Int),.int .u64 (g.2:Int)] 55);obtain⟨h0,v,hr⟩:=h;have hr1:=hr.below hb0;have HF:=QH (jT (⟨h0,v,hr1⟩:n4 own _ p d) g);have q0:(w.alloc (.cells #[.int .u64 (g.1:Int),.int .u64 (g.2:Int)] 55)).cell? ⟨w.heap.size,0,none⟩=some (.int .u64 (g.1:Int)):=(qg.new w _ _).cell 0;have q1:(w.alloc (.cells #[.int .u64 (g.1:Int),.int .u64 (g.2:Int)] 55)).cell? ⟨w.heap.size,1,none⟩=some (.int .u64 (g.2:Int)):=(qg.new w _ _).cell 1;have xz:=QH hb0;have eD:=QH hr1;have yB:=QH h0;have HC:=QH (nd d g);obtain⟨R,hR⟩:=QE (aN d g);rw[hR]at HF HC;clear hb0 hr1 hr h0 hR;unfold gv at HF ⊢;go_enter func50,ntmps50;go_wp2_with fail;refine HF.out.mono ?_;rintro e W1 ⟨rfl,hb1⟩;have qV:=QH (xz.out.trans (hb1.mono xz.out.size));have jo:=QH (eD.out.below hb1);clear hb1 HF q0 q1 xz eD;rcases HC.out with⟨c,hc,rfl,_,wM⟩|⟨i,s,rfl,bG,hs,_,wM⟩
 ·have hcb:(c != 0)=true:=by simpa using hc
  have xF:=QH wM;clear hc wM HC jo yB;go_wp2_with fail;go_ret2;rw[xF.out];exact⟨none,0,rfl,fun i h=>absurd h (by simp),uE.none _ _,qV.out⟩
 ·obtain rfl:d.qa[i]=s:=by
     rw[List.getElem?_eq_getElem bG]at hs;exact Option.some.inj hs
  have xF:=QH wM;have HSO:=QH (yB.out.qa _ (List.getElem_mem bG));obtain⟨A,c,hv,hlc,_,hx⟩:=xE jo.out.row yB.out.qa yB.out.n8;subst hv;obtain⟨gr,cur,rfl,hb,hc⟩:=hx i bG;have yP:=QH hb;have HVC:Hid (∀j u,(vc d.qa[i].bs)[j]?=some u→cur[i*259+j]?=some u):=fun j u hu=>hc j u (qo3 _ j u hu);have hii:(i:Int)<(d.qa.length:Int):=by omega
  generalize d.qa[i].bs=bs at *;have HI:=QH hii;clear hb hc hx hs wM HC bG hii;go_wp2_with fail;refine qQ (by kernel_rfl) 14 [17,18,19,20,21,22,23,24,25,26,27,28,4,5] (by kernel_rfl) (RdG p d.live.length i gr c d.qa.length bs W1.heap.size) (qpw _ _ _ _ _ _ _ _) ?_ ?_
  ·intro j o vs ρ W hi9 hop hρ hfn hb hG;have t0:ρ (.tmp 0)=.pointer (some ⟨p,0,none⟩):=hρ.out 0 rfl;have t6:ρ (.tmp 6)=.int .i64 (i:Int):=hρ.out 6 rfl;have hc:=hρ.const;have s17:=hρ.at_ 17 0 rfl;have s18:=hρ.at_ 18 1 rfl;have s19:=hρ.at_ 19 2 rfl;have s20:=hρ.at_ 20 3 rfl;have s21:=hρ.at_ 21 4 rfl;have s22:=hρ.at_ 22 5 rfl;have s23:=hρ.at_ 23 6 rfl;have s24:=hρ.at_ 24 7 rfl;have s25:=hρ.at_ 25 8 rfl;have s26:=hρ.at_ 26 9 rfl;have s27:=hρ.at_ 27 10 rfl;have s28:=hρ.at_ 28 11 rfl;have jK:=QH (jo.out.below hb);have c0:=jK.out.c0;have c2:=jK.out.c2 yB.out;have hii:=HI.out;rcases j with _|_|_|_|_|_|_|_|_|_|_|_|_|_|j;all_goals (first|omega|skip)
   all_goals simp only[QA,QB,QC,Option.some.injEq]at hop
   all_goals subst hop
   ·exact q9 (w':=W) (by unfold execOp;simp only[t0];go_simp) ⟨Below.refl _ _,rfl⟩
   ·have g0:vs 0=_:=hG 0 (by kernel_rfl);exact q9 (w':=W) (by unfold execOp;simp only[s17,g0];go_simp) ⟨Below.refl _ _,rfl⟩
   ·have g1:vs 1=_:=hG 1 (by kernel_rfl);exact q9 (w':=W) (by unfold execOp;simp only[s18,g1];go_simp) ⟨Below.refl _ _,rfl⟩
   ·have g2:vs 2=_:=hG 2 (by kernel_rfl);exact q9 (w':=W) (by unfold execOp;simp only[s19,g2];go_simp) ⟨Below.refl _ _,rfl⟩
   ·exact q9 (w':=W) (by unfold execOp;simp only[t6];go_simp) ⟨Below.refl _ _,rfl⟩
   ·have g3:vs 3=_:=hG 3 (by kernel_rfl);have g4:vs 4=_:=hG 4 (by kernel_rfl);exact q9 (w':=W) (by unfold execOp;simp only[s20,g3,s21,g4];go_simp) ⟨Below.refl _ _,rfl⟩
   ·have g5:vs 5=_:=hG 5 (by kernel_rfl);exact q9 (w':=W) (by unfold execOp;simp only[s22,g5];go_simp) ⟨Below.refl _ _,rfl⟩
   ·exact q9 (w':=W) (by unfold execOp;simp only[t0];go_simp) ⟨Below.refl _ _,rfl⟩
   ·have g7:vs 7=_:=hG 7 (by kernel_rfl);exact q9 (w':=W) (by unfold execOp;simp only[s24,g7];go_simp) ⟨Below.refl _ _,rfl⟩
   ·have g8:vs 8=_:=hG 8 (by kernel_rfl);exact q9 (w':=W) (by unfold execOp;simp only[s25,g8];go_simp) ⟨Below.refl _ _,rfl⟩
   ·have g9:vs 9=_:=hG 9 (by kernel_rfl);exact q9 (w':=W) (by unfold execOp;simp only[s26,g9];go_simp) ⟨Below.refl _ _,rfl⟩
   ·have g6:vs 6=_:=hG 6 (by kernel_rfl);have g10:vs 10=_:=hG 10 (by kernel_rfl);refine qj (f:=97) (args:=#[.pointer (some ⟨gr,i*259,none⟩),.int .i64 (d.live.length:Int)]) (w':=W) (by unfold execOp;simp only[hc,hfn,s23,g6,s27,g10];go_simp) ((wm (yP.out.below hb) HVC.out HSO.out yB.out.n8).mono ?_);rintro e W' ⟨A,cc,rfl,h1,h2,h3⟩;exact⟨_,rfl,h3,A,cc,rfl,h1,fun b o e=>⟨Nat.le_trans hb.size (h2 b o e).1,(h2 b o e).2⟩⟩
   ·obtain⟨A,cc,g11,h1,h2⟩:=hG 11 (by kernel_rfl);exact q9 (w':=W) (by unfold execOp;simp only[s28,g11];go_simp) ⟨Below.refl _ _,A,cc,rfl,h1,h2⟩
   ·exact q9 (w':=W) (by unfold execOp;simp only[hc];go_simp) ⟨Below.refl _ _,rfl⟩
  ·intro vs W hb hG;obtain⟨A,cc,g12,h1,h2⟩:=hG 12 (by decide);have g13:vs 13=_:=hG 13 (by decide);simp only[za,qN,if_true];rw[g12,g13];generalize vs 0=z0;generalize vs 1=z1;generalize vs 2=z2;generalize vs 3=z3;generalize vs 4=z4;generalize vs 5=z5;generalize vs 6=z6;generalize vs 7=z7;generalize vs 8=z8;generalize vs 9=z9;generalize vs 10=z10;generalize vs 11=z11;have HB:=QH (qV.out.trans (hb.mono qV.out.size));have H1:=QH h1;have H2:=QH (fun b o e=>And.intro (Nat.le_trans qV.out.size (h2 b o e).1) (h2 b o e).2);clear hG g12 g13 hb h1 h2;simp only[Act.put,List.setIfInBounds_toArray,List.set_cons_succ,List.set_cons_zero];refine⟨by kernel_rfl,?_⟩;go_wp2_with fail;go_ret2;rw[xF.out];exact⟨A,cc,rfl,H1.out,H2.out,HB.out⟩
end Go.Proofs.YtdagdllomphidaaGreatDoor.ch.pg

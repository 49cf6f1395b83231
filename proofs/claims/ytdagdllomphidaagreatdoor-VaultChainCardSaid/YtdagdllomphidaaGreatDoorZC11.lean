/- PgAdd, PgEq, PgChg, PgRead, PgChgs, PgLst, ChProg, VtProg, VtStep, VxData, VxMem, VxChanges, VxGuid, VtDo, VtMade, VtWkP. -/
import Derived.Test.YtdagdllomphidaaGreatDoorZC10
import Derived.Stop.BytesEq
set_option linter.unusedVariables false
set_option linter.unusedSimpArgs false
set_option maxHeartbeats 30000000
set_option maxRecDepth 100000
namespace Go.Proofs.YtdagdllomphidaaGreatDoor.ch.pg
open _root_.Go.Proofs.Tryz Go Go.RowKit Go.Sort ib
def AdG (p:Nat)(v0:Value)(S V N:List Value)(y1 y2:Int)(B:Nat):Nat→Value→World→Prop
 | 0,v,_=>v=.pointer (some ⟨p,0,none⟩)
 | 1,v,_=>v=.pointer (some ⟨p,0,none⟩)
 | 2,v,_=>v=.pointer (some ⟨p,257,none⟩)
 | 3,v,_=>v=v0
 | 4,v,_=>v=.agg S.toArray
 | 5,v,_=>v=.agg V.toArray
 | 6,v,_=>v=.agg #[.int .u64 y1,.int .u64 y2]
 | 7,v,_=>v=.agg N.toArray
 | 8,v,w=>∃g Z,v=.pointer (some ⟨g,0,none⟩)∧B≤g∧qf w g 131 Z∧Z.size=259
 | _,_,_=>True
theorem oL (p:Nat)(v0:Value)(S V N:List Value)(y1 y2:Int)(B:Nat)(i:Nat)(v:Value)(w w':World)(hi:i<9)(h:AdG p v0 S V N y1 y2 B i v w)(hb:Below w.heap.size w w'):AdG p v0 S V N y1 y2 B i v w':=by
 match i,hi,h with
 | 0,_,h | 1,_,h | 2,_,h | 3,_,h | 4,_,h | 5,_,h | 6,_,h | 7,_,h=>exact h
 | 8,_,⟨g,Z,h1,h2,h3,h4⟩=>exact⟨g,Z,h1,h2,h3.below hb,h4⟩
def q0j (x:List (Int × Bt))(base:List Bt)(n:Nat)(g:Gd)(gg:Nat)(w:World)(v i:Value)(wr:World):Prop :=
 ∃(j:Nat) (p:Int) (l:List Bt),j≤x.length∧i=.int .i64 (j:Int)∧v=.int .i64 (p+1) ∧ -1≤p∧p<8∧qN n l∧vB base (-1) x=vB l p (x.drop j) ∧
  qf wr gg 131 (sc ⟨g,l,false⟩).toArray∧Below w.heap.size w wr
theorem qd5{own:Nat→Prop}{w:World}{p:Nat}{d:CH}(g:Gd)(A:Option Addr)(c:Nat)(x:List (Int × Bt))(h:lX own w p d)(hg:zZ g)(hx:aD w A x)(aw:x.length≤1000) :
    Calls prog 26 #[.pointer (some ⟨p,0,none⟩),gv g,.slice A x.length c] w fun e w'=>Aft lX own p (d.add g x) w e w'∧qx (fun j=>j=p) w w':=by
 obtain⟨i0,hi,hz0,hz1,hz2⟩:=info_parts aK;have HI:=QH hi;have HZ0:=QH hz0;have HZL:Hid ((sc z0).toArray.size=259):=by unfold Hid;rw[List.size_toArray];exact yO (n:=0) ⟨rfl,fun v hv=>by simp[z0]at hv⟩ (by omega)
 obtain⟨Z,hZ⟩:=QE ((sc z0).toArray);rw[hZ]at HZ0 HZL;have hb0:=(Below.refl w.heap.size w).alloc (Nat.le_refl _) (.cells #[.int .u64 (g.1:Int),.int .u64 (g.2:Int)] 55);have HIS:=QH h;have HX:=QH hx;obtain⟨h0,v,hr⟩:=h;have hr1:=hr.below hb0;have xn:=QH hb0;have HRW:=QH hr;have cm:=QH hr1;have yr:=QH h0;have HG:=QH hg;have HM:=QH (qhq (⟨h0,v,hr1⟩:lX own _ p d) g);obtain⟨y1,hy1⟩:=QE (g.1:Int);obtain⟨y2,hy2⟩:=QE (g.2:Int);have HY1:=QH hy1;have HY2:=QH hy2;unfold gv at HM ⊢;rw[hy1,hy2]at HM xn cm ⊢;clear hb0 hg hy1 hy2 hr1 hr h0 hx hi hz0 hz1 hz2 hZ;have kI:Hid (d.add g x=if d.may g=0 then(match vB d.base (-1) x with
  | none=>(d,2)
  | some l=>(⟨l,d.qa++[⟨g,l,false⟩]⟩,0))else(d,d.may g)):=rfl
 have HMZ:=QH (fun h=>qcx (c:=d) (g:=g) h);obtain⟨m,hm⟩:=QE (d.may g);rw[hm]at HM kI HMZ;clear hm;obtain⟨W0,hW0⟩:=QE (w.alloc (.cells #[.int .u64 y1,.int .u64 y2] 55));rw[hW0]at HM cm xn;have q0:W0.cell? ⟨w.heap.size,0,none⟩=some (.int .u64 y1):=by rw[← hW0];exact(qf.new w _ _).cell 0
 have q1:W0.cell? ⟨w.heap.size,1,none⟩=some (.int .u64 y2):=by rw[← hW0];exact(qf.new w _ _).cell 1
 have rr:Hid (w.heap.size<W0.heap.size):=by unfold Hid;rw[← hW0];simp
 have Q0:=QH q0;have Q1:=QH q1;go_enter func26,ntmps26;go_wp2_with fail;clear hW0;refine HM.out.mono ?_;rintro e W1 ⟨rfl,hb1⟩;have qP:=QH (xn.out.trans (hb1.mono xn.out.size));have jz:=QH (cm.out.below hb1);have R0:Hid (W1.cell? ⟨w.heap.size,0,none⟩=some (.int .u64 y1)):=(hb1.cell (p:=⟨w.heap.size,0,none⟩) rr.out).trans Q0.out;have R1:Hid (W1.cell? ⟨w.heap.size,1,none⟩=some (.int .u64 y2)):=(hb1.cell (p:=⟨w.heap.size,1,none⟩) rr.out).trans Q1.out;have av:Hid (w.heap.size<W1.heap.size):=Nat.lt_of_lt_of_le rr.out hb1.size;clear hb1 HM cm xn q0 q1 Q0 Q1 rr;by_cases hz:m=0
 ·subst hz;have hsn:=kI.out;rw[if_pos rfl]at hsn;obtain⟨_,qd1⟩:=HMZ.out rfl;have qnT:=QH qd1;have hbo:=yr.out.qpJ;have HBO:=QH hbo;have hlo:=dW (n:=d.live.length) yr.out.qa;have rB:=l7 (xC d.live.length d.qa) hlo yr.out.n8;rw[qdb d]at rB;have ry:=QH rB;have HLA:=QH (fun W (hb:Below W1.heap.size W1 W)=>fh ((jz.out.below hb).row) yr.out.qa yr.out.n8 yr.out.few);obtain⟨S,hS⟩:=QE (sc (xC d.live.length d.qa));rw[hS]at HLA ry;obtain⟨base,hbase⟩:=QE d.base;rw[hbase]at HBO ry hsn;have HSD:=QH hsn;clear hsn kI HMZ qd1 hbo hlo rB hS hbase;have HNL:Hid ((sc ⟨g,base,false⟩).length=259):=yO HBO.out yr.out.n8;have HN1:=QH (iQ ⟨g,base,false⟩);have HNC:Hid (∃N,sc ⟨g,base,false⟩=N):=⟨_,rfl⟩;go_wp2_with fail;refine qM (by kernel_rfl) 9 [18,19,20,21,22,23,24,25,8] (by kernel_rfl) (AdG p v S (vc base) (sc ⟨g,base,false⟩) y1 y2 W1.heap.size) (oL _ _ _ _ _ _ _ _) ?_ ?_
  ·intro i o vs ρ W hi9 hop hρ hfn hb hG;have t0:ρ (.tmp 0)=.pointer (some ⟨p,0,none⟩):=hρ.out 0 rfl;have t4:ρ (.tmp 4)=.pointer (some ⟨w.heap.size,0,none⟩):=hρ.out 4 rfl;have hc:=hρ.const;have s18:=hρ.at_ 18 0 rfl;have s19:=hρ.at_ 19 1 rfl;have s20:=hρ.at_ 20 2 rfl;have s21:=hρ.at_ 21 3 rfl;have s22:=hρ.at_ 22 4 rfl;have s23:=hρ.at_ 23 5 rfl;have s24:=hρ.at_ 24 6 rfl;have c2:=(jz.out.below hb).c2 yr.out;have r0:W.cell? ⟨w.heap.size,0,none⟩=some (.int .u64 y1):=(hb.cell (p:=⟨w.heap.size,0,none⟩) av.out).trans R0.out;have r1:W.cell? ⟨w.heap.size,1,none⟩=some (.int .u64 y2):=(hb.cell (p:=⟨w.heap.size,1,none⟩) av.out).trans R1.out;rcases i with _|_|_|_|_|_|_|_|_|i;all_goals (first|omega|skip)
   all_goals simp only[QA,QB,QC,Option.some.injEq]at hop
   all_goals subst hop
   ·exact q9 (w':=W) (by unfold execOp;simp only[t0];go_simp) ⟨Below.refl _ _,rfl⟩
   ·have g0:vs 0=_:=hG 0 (by kernel_rfl);exact q9 (w':=W) (by unfold execOp;simp only[s18,g0];go_simp) ⟨Below.refl _ _,rfl⟩
   ·have g1:vs 1=_:=hG 1 (by kernel_rfl);exact q9 (w':=W) (by unfold execOp;simp only[s19,g1];go_simp) ⟨Below.refl _ _,rfl⟩
   ·have g2:vs 2=_:=hG 2 (by kernel_rfl);obtain⟨A4,c4,hv4,_⟩:=jz.out.row;rw[hv4]at c2 ⊢;exact q9 (w':=W) (by unfold execOp;simp only[s20,g2];go_simp) ⟨Below.refl _ _,rfl⟩
   ·have g3:vs 3=_:=hG 3 (by kernel_rfl);refine qi (f:=69) (args:=#[v]) (w':=W) (by unfold execOp;simp only[hc,hfn,s21,g3];go_simp) ((HLA.out W hb).mono ?_);rintro e W' ⟨rfl,h1⟩;exact⟨_,rfl,h1,rfl⟩
   ·have g4:vs 4=_:=hG 4 (by kernel_rfl);have rB:=ry.out;exact q9 (w':=W) (by unfold execOp;simp only[s22,g4];go_simp) ⟨Below.refl _ _,rfl⟩
   ·exact q9 (w':=W) (by unfold execOp;simp only[t4];go_simp) ⟨Below.refl _ _,rfl⟩
   ·have g5:vs 5=_:=hG 5 (by kernel_rfl);have g6:vs 6=_:=hG 6 (by kernel_rfl);exact q9 (w':=W) (mg (.tmp 23) (.tmp 24) base g y1 y2 HY1.out HY2.out rfl (s23.trans g5) (s24.trans g6) HBO.out yr.out.n8) ⟨Below.refl _ _,rfl⟩
   ·exact q9 (jY 131 i0 _ rfl HI.out HZ0.out) ⟨(Below.refl _ W).alloc (Nat.le_refl _) _,W.heap.size,_,rfl,hb.size,qf.new _ _ _,HZL.out⟩
  ·intro vs W hb hG;have g0:vs 0=_:=hG 0 (by decide);have g7:vs 7=_:=hG 7 (by decide);obtain⟨gg,Zc,g8,sq,rE,hgz⟩:=hG 8 (by decide);simp only[qW,qK,if_true];rw[g7,g8];generalize vs 0=z0;generalize vs 1=z1;generalize vs 2=z2;generalize vs 3=z3;generalize vs 4=z4;generalize vs 5=z5;generalize vs 6=z6;clear hG g0 g7 g8;simp only[Act.put,List.setIfInBounds_toArray,List.set_cons_succ,List.set_cons_zero];refine qI (i:=9) (by kernel_rfl) rfl rfl ?_;refine wp_skip (jd W 131 (.tmp 8) (.tmp 25) rfl gg 0 rfl (sc ⟨g,base,false⟩) rfl 131 _ rE (by rw[yK,HNL.out]) (by rw[HNL.out,hgz];omega) HN1.out) ?_;have e1:(Zc.toList.take 0++sc ⟨g,base,false⟩++Zc.toList.drop (0+(sc ⟨g,base,false⟩).length))=sc ⟨g,base,false⟩:=by
    rw[List.take_zero,List.nil_append,List.drop_of_length_le,List.append_nil];rw[HNL.out,Array.length_toList,hgz];omega
   rw[e1];have HBX:=QH (uG (c:=(sc ⟨g,base,false⟩).toArray) rE);have ru:=uH W gg (sc ⟨g,base,false⟩).toArray;have hb2:Below W1.heap.size W1 (W.setRow gg (sc ⟨g,base,false⟩).toArray):=hb.trans (ru.below (fun i hi=>by rw[hi];exact sq) hb.size);have qy:=QH (qP.out.trans (hb2.mono qP.out.size));have jA:=QH (jz.out.below hb2);have HGB:Hid (w.heap.size≤gg):=Nat.le_trans qP.out.size sq;have HX2:=QH (HX.out.below qy.out);clear hb rE hgz ru hb2 e1 jz HNC HN1 HNL sq;generalize W.setRow gg (sc ⟨g,base,false⟩).toArray=W2 at *;refine⟨by kernel_rfl,?_⟩;go_wp2_with fail;go_loopw [9,28] (fun v i wr=>q0j x base d.live.length g gg w v i wr) (fun _ i _=>x.length-(intOf i).toNat);case atStart=>exact⟨0,-1,base,Nat.zero_le _,rfl,rfl,by omega,by omega,HBO.out,by rw[List.drop_zero],HBX.out,qy.out⟩
   case round =>
    obtain⟨j,pr,l,hj,rfl,rfl,hp1,hp8,hlo,hpa,yu,vI⟩:=hrel;have bj:=QH hlo;have HPA:=QH hpa;have yD:=QH yu;have gp:=QH vI;have cq:=QH (HRW.out.below vI);have HLL:Hid (l.length=d.live.length):=hlo.1;clear hlo hpa yu vI;by_cases hlt:j<x.length
    ·have wZ:(j:Int)<(x.length:Int):=by omega
     obtain⟨bx,ox,rfl,ki,e0,e1,q5x⟩:=HX.out j hlt;have e0:=(gp.out.cell (p:=⟨bx,ox+j*2,none⟩) ki).trans e0;have e1:=(gp.out.cell (p:=⟨bx,ox+j*2+1,none⟩) ki).trans e1;have qcL:x.drop j=x[j]::x.drop (j+1):=List.drop_eq_getElem_cons hlt;have hpa:=HPA.out;rw[qcL]at hpa;generalize x[j]=xe at *;obtain⟨kz,s⟩:=xe;dsimp only at e0 e1 q5x;have HPU:Hid (vB base (-1) x=if kz≤pr∨(l.length:Int)≤kz∨s.length≠32 then none else vB (l.set kz.toNat s) kz (x.drop (j+1))):=hpa;clear qcL hpa HPA;have HT:=QH (fun W (hb:Below wr.heap.size wr W)=>wm ((cq.out.below hb).c0) kz s);by_cases zJ:kz<pr+1
     ·have hs2:=HSD.out;rw[HPU.out,if_pos (.inl (by omega))]at hs2;have ur:=QH hs2;clear hs2 HPU HSD HT;go_wp2_with fail;go_ret;rw[ur.out];exact uP HIS.out (gp.out.alloc gp.out.size _) rfl
     ·have HBA:=QH ((Below.refl wr.heap.size wr).alloc (Nat.le_refl _) (.cells #[.int .i64 kz,.string (str s)] 62));have HTA:=QH (HT.out _ HBA.out);have ym:Hid (qf (wr.alloc (.cells #[.int .i64 kz,.string (str s)] 62)) wr.heap.size 62 #[.int .i64 kz,.string (str s)]):=qf.new _ _ _;have hk2:¬ kz<pr+1:=zJ;clear HT;have a0:=ym.out.cell 0;have a1:=ym.out.cell 1;simp only[QA,QB,QC]at a0 a1;by_cases hgd:0≤kz∧kz<(d.live.length:Int)∧s.length=32
      ·obtain⟨kn,rfl⟩:∃kn:Nat,kz=(kn:Int):=⟨kz.toNat,by omega⟩;rw[decide_eq_true hgd]at HTA;have hkl:kn<l.length:=by have:=HLL.out;omega
       have hkp:pr<(kn:Int):=by omega
       have HKL:=QH hkl;have q0k:=QH hgd.2.2;have h8:=yr.out.n8;have hk8:kn<8:=by omega
       have hpu:=HPU.out;rw[if_neg (by have:=HLL.out;omega),Int.toNat_natCast]at hpu;have HPN:=QH hpu;clear hpu HPU hgd hkl;go_wp2_with fail;refine HTA.out.mono ?_;rintro e W3 ⟨rfl,hb3⟩;have qV:=QH (HBA.out.trans (hb3.mono HBA.out.size));have bw:=QH (ym.out.below hb3);have q5z:=QH yD.out.lt;have a0:=bw.out.cell 0;have a1:=bw.out.cell 1;simp only[QA,QB,QC]at a0 a1;have q0l:=QH (yD.out.below qV.out);clear hb3 HTA ym HBA yD;go_wp2_with fail;refine(qhj q0l.out (o:=0) (by rw[List.size_toArray,yO bj.out h8];omega) kn hk8 s q0k.out).mono ?_;rintro e W4 ⟨rfl,rI⟩;have bu:=qqB (s:=⟨g,l,false⟩) bj.out h8 kn s HKL.out;have e2:W4=W3.setRow gg (sc ⟨g,l.set kn s,false⟩).toArray:=by
        rw[rI,← bu]
       have ru:=uH W3 gg (sc ⟨g,l.set kn s,false⟩).toArray;have qv5:=uG (c:=(sc ⟨g,l.set kn s,false⟩).toArray) q0l.out;rw[← e2]at ru qv5;have lx:=QH qv5;have fT:=QH (bw.out.of_block (ru.block _ bw.out.lt (by have:=q5z.out;omega)));have a2:=fT.out.cell 0;simp only[List.getElem?_toArray,List.getElem?_cons_zero]at a2;have q50:Hid (qx (fun i=>i=gg) wr W4):=(qx.of_below (S:=fun i=>i=gg) qV.out).trans ru (fun _ h=>.inl h);have hwr:IntKind.i64.wrap ((kn:Int)+1)=(kn:Int)+1:=IntWalk.i64_in _ (by omega);clear bu e2 ru qv5 rI a0 a1;go_wp2_with fail;go_roundw;case rel =>
        exact⟨j+1,kn,l.set kn s,by omega,by go_num,rfl,by omega,by omega,qlV bj.out q0k.out,HPN.out,lx.out,gp.out.trans (q50.out.below (fun i hi=>by rw[hi];exact HGB.out) gp.out.size)⟩
       case measure=>simp[intOf];omega
      ·rw[decide_eq_false hgd]at HTA;have hs2:=HSD.out;rw[HPU.out,if_pos (by have:=HLL.out;omega)]at hs2;have ur:=QH hs2;clear hs2 HPU HSD hgd;go_wp2_with fail;refine HTA.out.mono ?_;rintro e W3 ⟨rfl,hb3⟩;have qV:=QH (gp.out.trans ((HBA.out.trans (hb3.mono HBA.out.size)).mono gp.out.size));clear hb3 HTA ym HBA yD a0 a1;go_wp2_with fail;go_ret;rw[ur.out];exact uP HIS.out qV.out rfl
    ·have wZ:¬ (j:Int)<(x.length:Int):=by omega
     have hpa:=HPA.out;rw[List.drop_of_length_le (by omega),qeY]at hpa;have hs2:=HSD.out;rw[hpa]at hs2;have ur:Hid (d.add g x=(⟨l,d.qa++[⟨g,l,false⟩]⟩,0)):=hs2;have HPU:=QH (jc cq.out yr.out qnT.out ⟨g,l,false⟩ bj.out);have HOK:=QH (qd3 yr.out ⟨g,l,false⟩ qnT.out bj.out HG.out);have fE:Hid ((sc ⟨g,l,false⟩).length=259):=yO bj.out yr.out.n8;have HVL:Hid ((vc l).length=256):=zX bj.out yr.out.n8;have HVC:Hid (∀j u,(vc l)[j]?=some u→(sc ⟨g,l,false⟩).toArray[0+j]?=some u):=fun j u hu=>by
      rw[Nat.zero_add];simpa using qnh ⟨g,l,false⟩ j u hu
     obtain⟨N,hN⟩:=QE (sc ⟨g,l,false⟩);rw[hN]at HPU fE yD HVC;clear hpa hs2 HSD HPA hN;go_wp2_with (refine qg rfl (qH 131 (.tmp 8) rfl gg 0 rfl _ N.toArray N _ _ yD.out underlying131 rfl (by rw[yK,fE.out]) (fun j u hu=>by rw[Nat.zero_add];simpa using hu)) ?_);refine HPU.out.mono ?_;rintro e W5 ⟨rfl,v5,q0m,hp5,qv6,q0n⟩;have HP5:=QH hp5;have q51:=QH ((qx.of_below (S:=fun i=>i=p) gp.out).trans qv6 (fun _ h=>.inl h));have q52:Hid (∀i,q0m i→own i∨w.heap.size≤i):=fun i hi=>by
      rcases q0n i hi with h|h
      ·exact .inl h
      ·have:=gp.out.size;exact .inr (by omega)
     have q53:=QH (yD.out.of_block (qv6.block gg yD.out.lt (uk yD.out cq.out.blk (by decide))));have aO:Hid ((qE (⟨d.live,d.qa++[⟨g,l,false⟩]⟩:CH).live.length (⟨d.live,d.qa++[⟨g,l,false⟩]⟩:CH).live v5).length=258):=kd HOK.out.live HOK.out.n8;clear hp5 qv6 q0n HPU;go_wp2_with (first|(refine qg rfl (qH 84 (.tmp 59) rfl gg 0 rfl _ N.toArray (vc l) _ _ q53.out underlying84 rfl (by rw[kW,HVL.out]) HVC.out) ?_)|(refine wpList_skip rfl (jd W5 84 (.tmp 62) (.tmp 60) rfl p 1 rfl (vc l) rfl _ _ HP5.out.blk (by rw[kW,HVL.out]) (by rw[List.size_toArray,aO.out,HVL.out];decide) (pH l)) ?_));go_ret;obtain⟨hp6,q54⟩:=jy.qnU HP5.out HOK.out bj.out rfl;have lA:=q51.out.trans q54 (fun _ h=>.inl h);rw[ur.out];exact⟨⟨rfl,q0m,⟨qhe HOK.out bj.out,_,hp6⟩,lA.mono (fun i hi=>by rw[hi];exact HRW.out.op),q52.out⟩,lA⟩
 ·have hcn:(m != 0)=true:=by simpa using hz
  have hsn:=kI.out;rw[if_neg hz]at hsn;have HSD:=QH hsn;clear hsn kI HMZ jz;go_wp2_with fail;go_ret;rw[HSD.out];exact uP HIS.out qP.out rfl
end Go.Proofs.YtdagdllomphidaaGreatDoor.ch.pg
namespace Go.Proofs.YtdagdllomphidaaGreatDoor.ch.pg
open _root_.Go.Proofs.Tryz Go Go.RowKit ib
theorem qrj(w:World):(sizeOf 5).run prog w=.ok 1 w:=by
 obtain⟨i0,hi,hz0,hz1,hz2⟩:=info_parts Tryz.ni;simp[sizeOf,typeInfo,hi,hz1]
theorem qnW(d:Nat)(x y:Bt)(hx:x.length=32)(hy:y.length=32)(w:World) :
    (Op.equalIn (d+2) 82 (.agg (Lib.byteCells x).toArray) (.agg (Lib.byteCells y).toArray)).run prog w=.ok (decide (x=y)) w:=by
 have h:=run_equalIn_bytes (P:=prog) w d 82 5 32 underlying82 underlying5 qrj x y hx hy;have e:decide (x=y)=(x == y):=by rw[Bool.eq_iff_iff];simp
 rw[e];exact h
theorem qd6(ps:List Bt)(h:∀v∈ps,(Lib.byteCells v).length=32)(k:Nat)(hk:k<ps.length)(w:World) :
    (part 82 (ps.flatMap Lib.byteCells).toArray (k*32)).run prog w=.ok (.agg (Lib.byteCells ps[k]).toArray) w:=by
 have ha:(isAgg 82).run prog w=.ok true w:=by
  unfold isAgg;rw[Sem.run_bind,run_underlying underlying82 w];rfl
 have hz:(sizeOf 82).run prog w=.ok 32 w:=by
  cases hq:prog.info? 82 with
  | none=>have:=vn;simp[hq]at this
  | some i =>
   have:=vn;simp[hq]at this;simp[sizeOf,typeInfo,hq,this]
 have he:((ps.flatMap Lib.byteCells).toArray.extract (k*32) (k*32+32))=(Lib.byteCells ps[k]).toArray:=by
  apply Array.ext';rw[Array.toList_extract];rw[List.extract_eq_take_drop,show k*32+32-k*32=32 by omega];rw[qaZ ps k h,List.drop_eq_getElem_cons hk,List.flatMap_cons,List.take_left' (h _ (List.getElem_mem hk))]
 simp only[part,Sem.run_bind,ha,Result.andThen_ok,if_true,hz,Sem.run_pure,he]
theorem tP (d:Nat)(ps qs:List Bt)(hp:∀v∈ps,v.length=32)(hq:∀v∈qs,v.length=32)(w:World):∀is:List Nat,(∀i∈is,i<ps.length∧i<qs.length) →
    (Op.eqItems (d+2) 82 32 (ps.flatMap Lib.byteCells).toArray (qs.flatMap Lib.byteCells).toArray is).run prog w=.ok (is.all fun i=>decide (ps[i]?=qs[i]?)) w
 | [],_=>by simp[Op.eqItems]
 | i::is,h=>by
  obtain⟨h1,h2⟩:=h i (by simp);have ih:=tP d ps qs hp hq w is (fun j hj=>h j (by simp[hj]));have p1:=qd6 ps (fun v hv=>by rw[Lib.byteCells_length,hp v hv]) i h1 w;have p2:=qd6 qs (fun v hv=>by rw[Lib.byteCells_length,hq v hv]) i h2 w;have p3:=qnW d ps[i] qs[i] (hp _ (List.getElem_mem h1)) (hq _ (List.getElem_mem h2)) w;have e:decide (ps[i]?=qs[i]?)=decide (ps[i]=qs[i]):=by
   rw[List.getElem?_eq_getElem h1,List.getElem?_eq_getElem h2];simp
  rw[List.all_cons,e];obtain⟨b,hb⟩:=QE (decide (ps[i]=qs[i]));rw[hb]at p3 ⊢;generalize (is.all fun i=>decide (ps[i]?=qs[i]?))=r at *;generalize ps[i]=x at *;generalize qs[i]=y at *;generalize (ps.flatMap Lib.byteCells).toArray=P at *;generalize (qs.flatMap Lib.byteCells).toArray=Q at *;generalize Lib.byteCells x=X at *;generalize Lib.byteCells y=Y at *;have hu:Op.eqItems (d+2) 82 32 P Q (i::is)=(do
   let a ← part 82 P (i*32)
   let b ← part 82 Q (i*32)
   let r ← Op.equalIn (d+2) 82 a b
   if (!r)=true then pure false else Op.eqItems (d+2) 82 32 P Q is):=rfl
  rw[hu,Sem.run_bind,p1,Result.andThen_ok,Sem.run_bind,p2,Result.andThen_ok,Sem.run_bind,p3,Result.andThen_ok];cases b
  ·rfl
  ·exact ih
theorem qv7{n:Nat}(p q:List Bt)(hp:qN n p)(hq:qN n q)(h8:n≤8)(w:World) :
    (Op.equalIn 10000 84 (.agg (vc p).toArray) (.agg (vc q).toArray)).run prog w=.ok (decide (p=q)) w:=by
 cases hi:prog.info? 82 with
 | none=>have:=vn;simp[hi]at this
 | some i =>
  have hc:prog.cellsOf 82=32:=by
   have:=vn;simp[hi]at this;simp[Program.cellsOf,hi,this]
  rw[show(10000:Nat)=9999+1 from rfl,run_equalIn_array w 9999 _ _ underlying84 hi,hc];unfold vc;rw[show(9999:Nat)=9997+2 from rfl,tP 9997 (pad p) (pad q) (pG hp) (pG hq) w (List.range 8) (fun j hj=>by rw[vk hp h8,vk hq h8];have:=List.mem_range.1 hj;omega)]
  congr 1
  rw[Bool.eq_iff_iff];simp only[List.all_eq_true,List.mem_range,decide_eq_true_eq];constructor
  ·intro h;refine qqA (hp.1.trans hq.1.symm) (List.ext_getElem? fun j=>?_);by_cases hj:j<8
   ·exact h j hj
   ·rw[List.getElem?_eq_none (by rw[vk hp h8];omega),List.getElem?_eq_none (by rw[vk hq h8];omega)]
  ·rintro rfl j _;rfl
theorem qgi{ρ:Operand→Value}{o:Oper}{w:World}{n:Nat}(x y:Operand)(p q:List Bt)(ho:o.op=.binOp .eql 84 x y 84)(hx:ρ x=.agg (vc p).toArray)(hy:ρ y=.agg (vc q).toArray)(hp:qN n p)(hq:qN n q)(h8:n≤8) :
    (execOp ρ o).run prog w=.ok (.value (.bool (decide (p=q)))) w:=by
 have he:=qv7 p q hp hq h8 w;have hg:=run_eqGuard_agg (P:=prog) w .eql 84 x y (vc p).toArray (vc q).toArray Tryz.eqGuardType84;have hb:(binOp .eql 84 (.agg (vc p).toArray) (.agg (vc q).toArray)).run prog w=.ok (.bool (decide (p=q))) w:=by
  rw[run_eql_struct,he];rfl
 simp[execOp,ho,hx,hy,hg,hb,Result.andThen]
theorem qgj{ρ:Operand→Value}{o:Oper}{w:World}(x y:Operand)(p q:Bt)(ho:o.op=.binOp .neq 82 x y 82)(hx:ρ x=.agg (Lib.byteCells p).toArray)(hy:ρ y=.agg (Lib.byteCells q).toArray)(hp:p.length=32)(hq:q.length=32) :
    (execOp ρ o).run prog w=.ok (.value (.bool (!decide (p=q)))) w:=by
 have he:=qnW 9998 p q hp hq w;have hg:=run_eqGuard_agg (P:=prog) w .neq 82 x y (Lib.byteCells p).toArray (Lib.byteCells q).toArray Tryz.eqGuardType82;have hb:(binOp .neq 82 (.agg (Lib.byteCells p).toArray) (.agg (Lib.byteCells q).toArray)).run prog w=.ok (.bool (!decide (p=q))) w:=by
  rw[run_neq_struct,he];rfl
 simp[execOp,ho,hx,hy,hg,hb,Result.andThen]
end Go.Proofs.YtdagdllomphidaaGreatDoor.ch.pg
namespace Go.Proofs.YtdagdllomphidaaGreatDoor.ch.pg
open _root_.Go.Proofs.Tryz Go Go.RowKit Go.Sort ib
theorem qv8:(prog.info? 82).map (fun i=>(i.zero,i.size,i.bytes))=some (some (.agg (Lib.byteCells zz).toArray),32,32):=by kernel_rfl
theorem qd7(l:List Bt)(k:Nat)(h:k<l.length):(pad l).getD k []=l.getD k []:=by
 unfold pad;rw[List.getD_eq_getElem?_getD,List.getD_eq_getElem?_getD,List.getElem?_append_left h]
theorem mh {n:Nat}{l:List Bt}(h:qN n l)(k:Nat)(hk:n≤k)(h8:k<8):(pad l).getD k []=zz:=by
 have h2:=h.1;unfold pad;rw[List.getD_eq_getElem?_getD,List.getElem?_append_right (by omega),List.getElem?_replicate,if_pos (by omega)];simp
theorem rh {α β:Type}{f g:α→Option β}:∀ {l:List α},(∀x∈l,f x=g x)→l.filterMap f=l.filterMap g
 | [],_=>rfl
 | x::l,h=>by
  rw[List.filterMap_cons,List.filterMap_cons,h x (by simp),rh (l:=l) fun y hy=>h y (by simp[hy])]
theorem qgk{p q:List Bt}(k:Nat)(hp:k≤p.length)(hq:k≤q.length):iP (pad p) (pad q) k=iP p q k:=by
 unfold iP;refine rh fun i hi=>?_;have:=List.mem_range.1 hi;rw[qd7 p i (by omega),qd7 q i (by omega)]
theorem ri {n:Nat}{p q:List Bt}(hp:qN n p)(hq:qN n q):∀j,n+j≤8→iP (pad p) (pad q) (n+j)=iP p q n
 | 0,_=>qgk n (by rw[hp.1];omega) (by rw[hq.1];omega)
 | j+1,h=>by
  rw[← Nat.add_assoc,pF _ _ _ (by rw[mh hp _ (by omega) (by omega),mh hq _ (by omega) (by omega)]),ri hp hq j (by omega)]
theorem qrk{n:Nat}{p q:List Bt}(hp:qN n p)(hq:qN n q)(h8:n≤8):iP (pad p) (pad q) 8=dJ p q:=by
 have:=ri hp hq (8-n) (by omega);rw[show n+(8-n)=8 by omega]at this;rw[this];unfold dJ iP;rw[hq.1]
theorem qgl(p:List Bt):dJ p p=[]:=by
 unfold dJ;simp
def GcG (b o k B:Nat)(X:Bt):Nat→Value→World→Prop
 | 0,v,_=>v=.int .i64 (k:Int)
 | 1,v,_=>v=.pointer (some ⟨b,o,none⟩)
 | 2,v,_=>v=.pointer (some ⟨b,o+k*32,none⟩)
 | 3,v,_=>v=.agg (Lib.byteCells X).toArray
 | 4,v,w=>∃g,v=.pointer (some ⟨g,0,none⟩)∧B≤g∧qf w g 82 (Lib.byteCells zz).toArray
 | 5,v,_=>v=.int .i64 (k:Int)
 | _,_,_=>True
theorem qnX(b o k B:Nat)(X:Bt)(i:Nat)(v:Value)(w w':World)(hi:i<6)(h:GcG b o k B X i v w)(hb:Below w.heap.size w w'):GcG b o k B X i v w':=by
 match i,hi,h with
 | 0,_,h | 1,_,h | 2,_,h | 3,_,h | 5,_,h=>exact h
 | 4,_,⟨g,h1,h2,h3⟩=>exact⟨g,h1,h2,h3.below hb⟩
def q0o (P Q:List Bt)(q:List Bt)(w:World)(v i:Value)(wr:World):Prop :=
 ∃k:Nat,k≤8∧i=.int .i64 (k:Int)∧wk wr w.heap.size v (iP P Q k)∧Below w.heap.size w wr∧qf wr w.heap.size 84 (vc q).toArray
def q0p (D:List (Int × Bt))(w:World)(e:Ending)(w':World):Prop:=∃A cc,e=.returned (.slice A D.length cc)∧aD w' A D∧ui w w' A∧Below w.heap.size w w'
theorem qbr{w:World}{b o n:Nat}{t:TypeId}{cs:Array Value}{p q:List Bt}(h:qf w b t cs)(hc:∀j u,(vc p)[j]?=some u→cs[o+j]?=some u)(hp:qN n p)(hq:qN n q)(h8:n≤8) :
    Calls prog 98 #[.pointer (some ⟨b,o,none⟩),.agg (vc q).toArray] w (q0p (dJ q p) w):=by
 obtain⟨i0,hi,hz0,hz1,hz2⟩:=info_parts qfD;obtain⟨i2,hi2,hy0,hy1,hy2⟩:=info_parts qv8;have HB:=QH h;have HC:=QH hc;have HP:=QH hp;have HQ:=QH hq;have HBL:Hid (b<w.heap.size):=h.lt;have HVQ:Hid ((vc q).length=256):=zX hq h8;have HVP:Hid ((vc p).length=256):=zX hp h8;have HN:=QH (qf.new w 84 (vc q).toArray);have HI2:=QH hi2;have HY0:=QH hy0;have qP:=QH (h.of_block (Below.heap_alloc w (.cells (vc q).toArray 84) _ h.lt));have HDP:Hid (iP (pad q) (pad p) 8=dJ q p):=qrk hq hp h8;have HSM:Hid (p=q→dJ q p=[]):=fun e=>by rw[e];exact qgl q
 obtain⟨D,hD⟩:=QE (dJ q p);rw[hD]at HDP HSM ⊢;clear h hc hp hq hi2 hy0 hy1 hy2 hD;go_enter func98,ntmps98;go_wp2_with (refine qg rfl (eK 84 (.tmp 1) (vc q).toArray rfl rfl (by rw[kW,List.size_toArray,HVQ.out]) (jw (pH q))) ?_);refine jE 4 (by kernel_rfl) (by kernel_rfl) ?_;simp only[List.take_succ_cons,List.take_zero,List.drop_succ_cons,List.drop_zero]
 iterate 2 still_step
 refine kq rfl (qH _ _ rfl b o rfl _ cs (vc p) _ _ qP.out underlying84 rfl (by rw[kW,HVP.out]) HC.out) ?_;refine kq rfl (qH _ _ rfl w.heap.size 0 rfl _ _ (vc q) _ _ HN.out underlying84 rfl (by rw[kW,HVQ.out]) (fun j u hu=>by rw[Nat.zero_add];simpa using hu)) ?_;refine wpStill_nil ?_;refine qg rfl (qgi _ _ p q rfl rfl rfl HP.out HQ.out h8) ?_;by_cases hpq:p=q
 ·obtain rfl:=HSM.out hpq;rw[decide_eq_true hpq];clear hpq HDP;go_wp2_with fail;go_ret;exact⟨none,0,rfl,aD.nil _ _,ui.none _ _,gu ((Below.refl w.heap.size w).alloc (Nat.le_refl _) _) 1⟩
 ·rw[decide_eq_false hpq];have kS:Hid (Below w.heap.size w (w.alloc (.cells (vc q).toArray 84)).drew):=gu ((Below.refl w.heap.size w).alloc (Nat.le_refl _) _) 1;have aN:Hid (qf (w.alloc (.cells (vc q).toArray 84)).drew w.heap.size 84 (vc q).toArray):=HN.out;clear hpq HN qP HSM;generalize (w.alloc (.cells (vc q).toArray 84)).drew=W1 at *;go_wp2_with fail;go_loopw [5,15] (fun v i wr=>q0o (pad q) (pad p) q w v i wr) (fun _ i _=>8-(intOf i).toNat);case atStart=>exact⟨0,Nat.zero_le _,rfl,World.ownsRow_nil _ _ _ _,kS.out,aN.out⟩
  case round =>
   obtain⟨k,hk,rfl,ho,hB,hV⟩:=hrel;have HO:=QH ho;have gp:=QH hB;have HV:=QH hV;clear ho hB hV kS aN;by_cases hlt:k<8
   ·have jD:(k:Int)<8:=by omega
    have hp8:k<(pad p).length:=by rw[vk HP.out h8];exact hlt
    have hq8:k<(pad q).length:=by rw[vk HQ.out h8];exact hlt
    have HX:Hid ((pad p)[k].length=32):=pG HP.out _ (List.getElem_mem hp8);have HY:Hid ((pad q)[k].length=32):=pG HQ.out _ (List.getElem_mem hq8);have HXC:Hid (∀j u,(Lib.byteCells (pad p)[k])[j]?=some u→cs[o+k*32+j]?=some u):=fun j u hu=>by
     rw[Nat.add_assoc];exact HC.out _ _ (qfF HP.out k hp8 j u hu)
    have HYC:Hid (∀j u,(Lib.byteCells (pad q)[k])[j]?=some u→(vc q).toArray[k*32+j]?=some u):=fun j u hu=>by
     simpa using qfF HQ.out k hq8 j u hu
    have HXD:Hid ((pad p).getD k []=(pad p)[k]):=by unfold Hid;rw[List.getD_eq_getElem?_getD,List.getElem?_eq_getElem hp8];rfl
    have HYD:Hid ((pad q).getD k []=(pad q)[k]):=by unfold Hid;rw[List.getD_eq_getElem?_getD,List.getElem?_eq_getElem hq8];rfl
    have HDS:=QH (pF (pad q) (pad p) k);have HDM:=QH (qcY (pad q) (pad p) k);have HDL:=QH (qhf (pad q) (pad p) k);have HDB:=QH (qaY (pad q) (pad p) (k+1) (by omega));rw[HXD.out,HYD.out]at HDS HDM;clear HXD HYD;generalize (pad p)[k]=X at *;generalize (pad q)[k]=Y at *;clear hp8 hq8;have HBR:=QH (HB.out.of_block (gp.out.block b HBL.out));go_wp2_with fail;refine qM (by kernel_rfl) 6 [17,18,19,20,7,6] (by kernel_rfl) (GcG b o k wr.heap.size X) (qnX _ _ _ _ _) ?_ ?_
    ·intro i op vs ρ W hi6 hop hρ hfn hb hG;have t13:ρ (.tmp 13)=.pointer (some ⟨b,o,none⟩):=hρ.out 13 rfl;have t15:ρ (.tmp 15)=.int .i64 (k:Int):=hρ.out 15 rfl;have s17:=hρ.at_ 17 0 rfl;have s18:=hρ.at_ 18 1 rfl;have s19:=hρ.at_ 19 2 rfl;rcases i with _|_|_|_|_|_|i;all_goals (first|omega|skip)
     all_goals simp only[QA,QB,QC,Option.some.injEq]at hop
     all_goals subst hop
     ·exact q9 (w':=W) (by unfold execOp;simp only[t15];go_simp) ⟨Below.refl _ _,rfl⟩
     ·exact q9 (w':=W) (by unfold execOp;simp only[t13];go_simp) ⟨Below.refl _ _,rfl⟩
     ·have g1:vs 1=.pointer (some ⟨b,o,none⟩):=hG 1 (by kernel_rfl);exact q9 (w':=W) (by unfold execOp;simp only[s18,g1,t15];go_simp) ⟨Below.refl _ _,rfl⟩
     ·have g2:vs 2=.pointer (some ⟨b,o+k*32,none⟩):=hG 2 (by kernel_rfl);exact q9 (w':=W) (qH 82 (.tmp 19) rfl b (o+k*32) (s19.trans g2) _ cs (Lib.byteCells X) _ _ (HBR.out.below hb) underlying82 rfl (by rw[vn,Lib.byteCells_length,HX.out]) HXC.out) ⟨Below.refl _ _,rfl⟩
     ·exact q9 (jY 82 i2 _ rfl HI2.out HY0.out) ⟨(Below.refl _ W).alloc (Nat.le_refl _) _,W.heap.size,rfl,hb.size,qf.new _ _ _⟩
     ·have g0:vs 0=.int .i64 (k:Int):=hG 0 (by kernel_rfl);exact q9 (w':=W) (by unfold execOp;simp only[s17,g0];go_simp) ⟨Below.refl _ _,rfl⟩
    ·intro vs W hb hG;have g0:vs 0=_:=hG 0 (by decide);have g1:vs 1=_:=hG 1 (by decide);have g2:vs 2=_:=hG 2 (by decide);have g3:vs 3=_:=hG 3 (by decide);obtain⟨gg,g4,sq,yu⟩:=hG 4 (by decide);have g5:vs 5=_:=hG 5 (by decide);simp only[qW,qK,if_true];rw[g0,g1,g2,g3,g4,g5];have qv9:=QH hb;have yD:=QH yu;have HGB:=QH sq;clear hG g0 g1 g2 g3 g4 g5 hb yu sq;simp only[Act.put,List.setIfInBounds_toArray,List.set_cons_succ,List.set_cons_zero];refine qI (i:=6) (by kernel_rfl) rfl rfl ?_;refine wp_skip (jd W 82 (.tmp 7) (.tmp 20) rfl gg 0 rfl (Lib.byteCells X) rfl 82 _ yD.out (by rw[vn,Lib.byteCells_length,HX.out]) (by rw[List.size_toArray,Lib.byteCells_length,Lib.byteCells_length,HX.out,qX];omega) (Lib.byteCells_one X)) ?_;have HBX:Hid (qf (W.setRow gg ((Lib.byteCells zz).toArray.toList.take 0++Lib.byteCells X++(Lib.byteCells zz).toArray.toList.drop (0+(Lib.byteCells X).length)).toArray) gg 82 (Lib.byteCells X).toArray):=by
      have h:=uG (c:=((Lib.byteCells zz).toArray.toList.take 0++Lib.byteCells X++(Lib.byteCells zz).toArray.toList.drop (0+(Lib.byteCells X).length)).toArray) yD.out;have e:((Lib.byteCells zz).toArray.toList.take 0++Lib.byteCells X++(Lib.byteCells zz).toArray.toList.drop (0+(Lib.byteCells X).length))=Lib.byteCells X:=by
       rw[List.take_zero,List.nil_append,List.drop_of_length_le,List.append_nil];show(Lib.byteCells zz).length≤_;rw[Lib.byteCells_length,Lib.byteCells_length,HX.out,qX];omega
      rw[e]at h ⊢;exact h
     have HBT:=QH (uH W gg ((Lib.byteCells zz).toArray.toList.take 0++Lib.byteCells X++(Lib.byteCells zz).toArray.toList.drop (0+(Lib.byteCells X).length)).toArray);generalize W.setRow gg ((Lib.byteCells zz).toArray.toList.take 0++Lib.byteCells X++(Lib.byteCells zz).toArray.toList.drop (0+(Lib.byteCells X).length)).toArray=W2 at *;have qy:Hid (Below wr.heap.size wr W2):=qv9.out.trans (HBT.out.below (fun i hi=>by rw[hi];exact HGB.out) qv9.out.size);have HV2:=QH (HV.out.below qy.out);have wR:=QH (zP (w':=W2) (show World.ownsRow _ _ _ _ _ _ _ from HO.out) (fun j hj=>qy.out.block j (HO.out.lt j hj).2));have HE2:=QH (gp.out.trans (qy.out.mono gp.out.size));clear HBT qv9 yD HV HO gp HBR qy HGB;refine⟨by kernel_rfl,?_⟩;go_wp2_with fail;refine jE 4 (by kernel_rfl) (by kernel_rfl) ?_;simp only[List.take_succ_cons,List.take_zero,List.drop_succ_cons,List.drop_zero];refine kq rfl (qH _ _ rfl gg 0 rfl _ _ (Lib.byteCells X) _ _ HBX.out underlying82 rfl (by rw[vn,Lib.byteCells_length,HX.out]) (fun j u hu=>by rw[Nat.zero_add];simpa using hu)) ?_
     iterate 2 still_step
     refine kq rfl (qH _ _ rfl w.heap.size (k*32) rfl _ _ (Lib.byteCells Y) _ _ HV2.out underlying82 rfl (by rw[vn,Lib.byteCells_length,HY.out]) HYC.out) ?_;refine wpStill_nil ?_;refine qg rfl (qgj _ _ X Y rfl rfl rfl HX.out HY.out) ?_;by_cases hxy:X=Y
     ·rw[decide_eq_true hxy];have HSM:=QH (HDS.out hxy);clear hxy HDM HDS HDL HDB;go_wp2_with fail;go_roundw;case rel=>exact⟨k+1,by omega,by go_num,by rw[HSM.out];exact zP wR.out (fun _ _=>rfl),gu HE2.out 1,HV2.out⟩
      case measure=>simp[intOf];omega
     ·rw[decide_eq_false hxy];have HSM:=QH (HDM.out hxy);clear hxy HDM HDS;have HKX:=QH (HBX.out.lt);have sR:=wA X gg 32 82 W2.drew HX.out HBX.out;obtain⟨S,hS⟩:=QE (str X);have HS:=QH hS;rw[hS]at sR;clear hS;have q57:=QH (quR W2.drew 62 (.int .i64 (k:Int)) (.string S));have qV:=QH ((gu HE2.out 1).alloc HE2.out.size (.cells #[.int .i64 (k:Int),.string S] 62));have rz:=QH (World.ownsRow.alloc (w:=W2.drew) (zP (w':=W2.drew) wR.out (fun _ _=>rfl)) (.cells #[.int .i64 (k:Int),.string S] 62));have HV3:Hid (qf (W2.drew.alloc (.cells #[.int .i64 (k:Int),.string S] 62)) w.heap.size 84 (vc q).toArray):=HV2.out.of_block (Below.heap_alloc W2.drew _ _ HV2.out.lt);have qjE:∀u∈([Value.int .i64 (k:Int),.string S]:List Value),u.oneCell'=true:=by
       intro u hu;simp at hu;rcases hu with rfl|rfl <;> rfl
      have qq4:=QH qjE;clear qjE wR HE2 HV2;go_wp2_with (at_builtin;refine wpList_append_own _ rfl (.tmp 26) (.tmp 31) 60 rfl w.heap.size 62 i0 (.agg #[.int .i64 0,.string ByteArray.empty]) 2 24 underlying60 hi hz0 hz1 hz2 rfl (by decide) _ (iP (pad q) (pad p) k).length _ rfl rz.out ⟨W2.heap.size,0,none⟩ 1 1 [.int .i64 (k:Int),.string S] rfl rfl q57.out qq4.out ?_ ?_ qV.out.size ?_)
      ·have:=HDL.out;unfold maxLen;omega
      ·have:=HDL.out;omega
      ·intro v' w1 hown hgrow _;have zO:=QH (qV.out.grown hgrow qV.out.size (fun j hj=>(rz.out.lt j hj).1));have HV4:=QH (HV3.out.of_block (hgrow.block _ HV3.out.lt (fun e=>qkV rz.out HV3.out (by decide) _ e.symm rfl)));have HOS:Hid (wk w1 w.heap.size v' (iP (pad q) (pad p) (k+1))):=by
        unfold Hid;rw[HSM.out];refine wk.snoc (x:=((k:Int),X)) ?_;dsimp only;rw[HS.out];exact hown
       obtain⟨A6,c6,hv6,_⟩:=HOS.out.qcX HDB.out;clear hown hgrow;subst hv6;go_wp2_with fail;go_roundw;case rel=>exact⟨k+1,by omega,by go_num,HOS.out,zO.out,HV4.out⟩
       case measure=>simp[intOf];omega
   ·have jD:¬ (k:Int)<8:=by omega
    obtain rfl:k=8:=by omega
    have ho:=HO.out;rw[HDP.out]at ho;obtain⟨a,cc,rfl,hl,hb⟩:=ho.qcX (by rw[← HDP.out];exact qaY _ _ 8 (by omega));have HL:=QH hl;have HBB:=QH hb;clear ho hl hb HO;go_wp2_with fail;go_ret;exact⟨a,cc,rfl,HL.out,HBB.out,gp.out⟩
def TxV (l:List Bt)(B:Nat)(v:Value)(w:World):Prop:=∃A cc,v=.slice A l.length cc∧TxL w A l∧∀b o,A=some ⟨b,o,none⟩→B≤b∧b<w.heap.size
theorem TxV.below{l:List Bt}{B:Nat}{v:Value}{w w':World}(h:TxV l B v w)(hb:Below w.heap.size w w'):TxV l B v w':=by
 obtain⟨A,cc,h1,h2,h3⟩:=h;exact⟨A,cc,h1,h2.below hb,fun b o e=>⟨(h3 b o e).1,Nat.lt_of_lt_of_le (h3 b o e).2 hb.size⟩⟩
def LvG (p n:Nat)(l:List Bt)(B:Nat):Nat→Value→World→Prop
 | 0,v,_=>v=.pointer (some ⟨p,0,none⟩)
 | 1,v,_=>v=.pointer (some ⟨p,0,none⟩)
 | 2,v,_=>v=.pointer (some ⟨p,1,none⟩)
 | 3,v,_=>v=.pointer (some ⟨p,0,none⟩)
 | 4,v,_=>v=.pointer (some ⟨p,0,none⟩)
 | 5,v,_=>v=.pointer (some ⟨p,0,none⟩)
 | 6,v,_=>v=.int .i64 (n:Int)
 | 7,v,w=>TxV l B v w
 | 8,v,w=>TxV l B v w
 | _,_,_=>True
theorem qnY(p n:Nat)(l:List Bt)(B:Nat)(i:Nat)(v:Value)(w w':World)(hi:i<9)(h:LvG p n l B i v w)(hb:Below w.heap.size w w'):LvG p n l B i v w':=by
 match i,hi,h with
 | 0,_,h | 1,_,h | 2,_,h | 3,_,h | 4,_,h | 5,_,h | 6,_,h=>exact h
 | 7,_,h | 8,_,h=>exact TxV.below h hb
theorem pP {own:Nat→Prop}{w:World}{p:Nat}{d:CH}(h:lX own w p d):Calls prog 48 #[.pointer (some ⟨p,0,none⟩)] w (qi3 d.live w):=by
 obtain⟨h0,v,hr⟩:=h;have HR:=QH hr;have yr:=QH h0;clear h0 hr;go_enter func48,ntmps48;go_wp2_with fail;refine qM (by kernel_rfl) 9 [5,6,7,8,9,10,11,12,2] (by kernel_rfl) (LvG p d.live.length d.live w.heap.size) (qnY _ _ _ _) ?_ ?_
 ·intro i o vs ρ W hi9 hop hρ hfn hb hG;have t0:ρ (.tmp 0)=.pointer (some ⟨p,0,none⟩):=hρ.out 0 rfl;have hc:=hρ.const;have s5:=hρ.at_ 5 0 rfl;have s6:=hρ.at_ 6 1 rfl;have s7:=hρ.at_ 7 2 rfl;have s8:=hρ.at_ 8 3 rfl;have s9:=hρ.at_ 9 4 rfl;have s10:=hρ.at_ 10 5 rfl;have sw:=hρ.at_ 11 6 rfl;have s12:=hρ.at_ 12 7 rfl;have jz:=QH (HR.out.below hb);have c0:=jz.out.c0;rcases i with _|_|_|_|_|_|_|_|_|i;all_goals (first|omega|skip)
  all_goals simp only[QA,QB,QC,Option.some.injEq]at hop
  all_goals subst hop
  ·exact q9 (w':=W) (by unfold execOp;simp only[t0];go_simp) ⟨Below.refl _ _,rfl⟩
  ·have g0:vs 0=_:=hG 0 (by kernel_rfl);exact q9 (w':=W) (by unfold execOp;simp only[s5,g0];go_simp) ⟨Below.refl _ _,rfl⟩
  ·have g1:vs 1=_:=hG 1 (by kernel_rfl);exact q9 (w':=W) (by unfold execOp;simp only[s6,g1];go_simp) ⟨Below.refl _ _,rfl⟩
  ·exact q9 (w':=W) (by unfold execOp;simp only[t0];go_simp) ⟨Below.refl _ _,rfl⟩
  ·have g3:vs 3=_:=hG 3 (by kernel_rfl);exact q9 (w':=W) (by unfold execOp;simp only[s8,g3];go_simp) ⟨Below.refl _ _,rfl⟩
  ·have g4:vs 4=_:=hG 4 (by kernel_rfl);exact q9 (w':=W) (by unfold execOp;simp only[s9,g4];go_simp) ⟨Below.refl _ _,rfl⟩
  ·have g5:vs 5=_:=hG 5 (by kernel_rfl);exact q9 (w':=W) (by unfold execOp;simp only[s10,g5];go_simp) ⟨Below.refl _ _,rfl⟩
  ·have g2:vs 2=_:=hG 2 (by kernel_rfl);have g6:vs 6=_:=hG 6 (by kernel_rfl);refine qi (f:=97) (args:=#[.pointer (some ⟨p,1,none⟩),.int .i64 (d.live.length:Int)]) (w':=W) (by unfold execOp;simp only[hc,hfn,s7,g2,sw,g6];go_simp) ((vM jz.out.blk (fun j u hu=>by simpa using tC (m:=d.live.length) (v:=v) j u hu) yr.out.live yr.out.n8).mono ?_);rintro e W' ⟨A,cc,rfl,h1,h2,h3⟩;exact⟨_,rfl,h3,A,cc,rfl,h1,fun b o e=>⟨Nat.le_trans hb.size (h2 b o e).1,(h2 b o e).2⟩⟩
  ·obtain⟨A,cc,g7,h1,h2⟩:=hG 7 (by kernel_rfl);exact q9 (w':=W) (by unfold execOp;simp only[s12,g7];go_simp) ⟨Below.refl _ _,A,cc,rfl,h1,h2⟩
 ·intro vs W hb hG;obtain⟨A,cc,g8,h1,h2⟩:=hG 8 (by decide);simp only[qW,qK,if_true];rw[g8];generalize vs 0=z0;generalize vs 1=z1;generalize vs 2=z2;generalize vs 3=z3;generalize vs 4=z4;generalize vs 5=z5;generalize vs 6=z6;generalize vs 7=z7;have HB:=QH hb;have H1:=QH h1;have H2:=QH h2;clear hG g8 hb h1 h2;simp only[Act.put,List.setIfInBounds_toArray,List.set_cons_succ,List.set_cons_zero];refine⟨by kernel_rfl,?_⟩;go_wp2_with fail;go_ret;exact⟨A,cc,rfl,H1.out,H2.out,HB.out⟩
def RdG (p n i g c m:Nat)(l:List Bt)(B:Nat):Nat→Value→World→Prop
 | 0,v,_=>v=.pointer (some ⟨p,0,none⟩)
 | 1,v,_=>v=.pointer (some ⟨p,0,none⟩)
 | 2,v,_=>v=.pointer (some ⟨p,257,none⟩)
 | 3,v,_=>v=.slice (some ⟨g,0,none⟩) m c
 | 4,v,_=>v=.int .i64 (i:Int)
 | 5,v,_=>v=.pointer (some ⟨g,i*259,none⟩)
 | 6,v,_=>v=.pointer (some ⟨g,i*259,none⟩)
 | 7,v,_=>v=.pointer (some ⟨p,0,none⟩)
 | 8,v,_=>v=.pointer (some ⟨p,0,none⟩)
 | 9,v,_=>v=.pointer (some ⟨p,0,none⟩)
 | 10,v,_=>v=.int .i64 (n:Int)
 | 11,v,w=>TxV l B v w
 | 12,v,w=>TxV l B v w
 | 13,v,_=>v=.int .i64 0
 | _,_,_=>True
theorem qnZ(p n i0 g c m:Nat)(l:List Bt)(B:Nat)(i:Nat)(v:Value)(w w':World)(hi:i<14)(h:RdG p n i0 g c m l B i v w)(hb:Below w.heap.size w w'):RdG p n i0 g c m l B i v w':=by
 match i,hi,h with
 | 0,_,h | 1,_,h | 2,_,h | 3,_,h | 4,_,h | 5,_,h | 6,_,h | 7,_,h | 8,_,h | 9,_,h | 10,_,h | 13,_,h=>exact h
 | 11,_,h | 12,_,h=>exact TxV.below h hb
theorem wq {own:Nat→Prop}{w:World}{p:Nat}{d:CH}(h:lX own w p d)(g:Gd):Calls prog 50 #[.pointer (some ⟨p,0,none⟩),gv g] w (jQ (d.read g) w):=by
 have hb0:=(Below.refl w.heap.size w).alloc (Nat.le_refl _) (.cells #[.int .u64 (g.1:Int),.int .u64 (g.2:Int)] 55);obtain⟨h0,v,hr⟩:=h;have hr1:=hr.below hb0;have HF:=QH (jJ (⟨h0,v,hr1⟩:lX own _ p d) g);have q0:(w.alloc (.cells #[.int .u64 (g.1:Int),.int .u64 (g.2:Int)] 55)).cell? ⟨w.heap.size,0,none⟩=some (.int .u64 (g.1:Int)):=(qf.new w _ _).cell 0;have q1:(w.alloc (.cells #[.int .u64 (g.1:Int),.int .u64 (g.2:Int)] 55)).cell? ⟨w.heap.size,1,none⟩=some (.int .u64 (g.2:Int)):=(qf.new w _ _).cell 1;have xn:=QH hb0;have cm:=QH hr1;have yr:=QH h0;have HC:=QH (mf d g);obtain⟨R,hR⟩:=QE (dZ d g);rw[hR]at HF HC;clear hb0 hr1 hr h0 hR;unfold gv at HF ⊢;go_enter func50,ntmps50;go_wp2_with fail;refine HF.out.mono ?_;rintro e W1 ⟨rfl,hb1⟩;have qP:=QH (xn.out.trans (hb1.mono xn.out.size));have jz:=QH (cm.out.below hb1);clear hb1 HF q0 q1 xn cm;rcases HC.out with⟨c,hc,rfl,_,wa⟩|⟨i,s,rfl,cy,hs,_,wa⟩
 ·have hcb:(c != 0)=true:=by simpa using hc
  have xz:=QH wa;clear hc wa HC jz yr;go_wp2_with fail;go_ret2;rw[xz.out];exact⟨none,0,rfl,fun i h=>absurd h (by simp),ui.none _ _,qP.out⟩
 ·obtain rfl:d.qa[i]=s:=by
     rw[List.getElem?_eq_getElem cy]at hs;exact Option.some.inj hs
  have xz:=QH wa;have HSO:=QH (yr.out.qa _ (List.getElem_mem cy));obtain⟨A,c,hv,hlc,_,hx⟩:=xy jz.out.row yr.out.qa yr.out.n8;subst hv;obtain⟨gr,cur,rfl,hb,hc⟩:=hx i cy;have yD:=QH hb;have HVC:Hid (∀j u,(vc d.qa[i].bs)[j]?=some u→cur[i*259+j]?=some u):=fun j u hu=>hc j u (qnh _ j u hu);have hii:(i:Int)<(d.qa.length:Int):=by omega
  generalize d.qa[i].bs=bs at *;have HI:=QH hii;clear hb hc hx hs wa HC cy hii;go_wp2_with fail;refine qM (by kernel_rfl) 14 [17,18,19,20,21,22,23,24,25,26,27,28,4,5] (by kernel_rfl) (RdG p d.live.length i gr c d.qa.length bs W1.heap.size) (qnZ _ _ _ _ _ _ _ _) ?_ ?_
  ·intro j o vs ρ W hi9 hop hρ hfn hb hG;have t0:ρ (.tmp 0)=.pointer (some ⟨p,0,none⟩):=hρ.out 0 rfl;have t6:ρ (.tmp 6)=.int .i64 (i:Int):=hρ.out 6 rfl;have hc:=hρ.const;have s17:=hρ.at_ 17 0 rfl;have s18:=hρ.at_ 18 1 rfl;have s19:=hρ.at_ 19 2 rfl;have s20:=hρ.at_ 20 3 rfl;have s21:=hρ.at_ 21 4 rfl;have s22:=hρ.at_ 22 5 rfl;have s23:=hρ.at_ 23 6 rfl;have s24:=hρ.at_ 24 7 rfl;have s25:=hρ.at_ 25 8 rfl;have s26:=hρ.at_ 26 9 rfl;have s27:=hρ.at_ 27 10 rfl;have s28:=hρ.at_ 28 11 rfl;have jA:=QH (jz.out.below hb);have c0:=jA.out.c0;have c2:=jA.out.c2 yr.out;have hii:=HI.out;rcases j with _|_|_|_|_|_|_|_|_|_|_|_|_|_|j;all_goals (first|omega|skip)
   all_goals simp only[QA,QB,QC,Option.some.injEq]at hop
   all_goals subst hop
   ·exact q9 (w':=W) (by unfold execOp;simp only[t0];go_simp) ⟨Below.refl _ _,rfl⟩
   ·have g0:vs 0=_:=hG 0 (by kernel_rfl);exact q9 (w':=W) (by unfold execOp;simp only[s17,g0];go_simp) ⟨Below.refl _ _,rfl⟩
   ·have g1:vs 1=_:=hG 1 (by kernel_rfl);exact q9 (w':=W) (by unfold execOp;simp only[s18,g1];go_simp) ⟨Below.refl _ _,rfl⟩
   ·have g2:vs 2=_:=hG 2 (by kernel_rfl);exact q9 (w':=W) (by unfold execOp;simp only[s19,g2];go_simp) ⟨Below.refl _ _,rfl⟩
   ·exact q9 (w':=W) (by unfold execOp;simp only[t6];go_simp) ⟨Below.refl _ _,rfl⟩
   ·have g3:vs 3=_:=hG 3 (by kernel_rfl);have g4:vs 4=_:=hG 4 (by kernel_rfl);exact q9 (w':=W) (by unfold execOp;simp only[s20,g3,s21,g4];go_simp) ⟨Below.refl _ _,rfl⟩
   ·have g5:vs 5=_:=hG 5 (by kernel_rfl);exact q9 (w':=W) (by unfold execOp;simp only[s22,g5];go_simp) ⟨Below.refl _ _,rfl⟩
   ·exact q9 (w':=W) (by unfold execOp;simp only[t0];go_simp) ⟨Below.refl _ _,rfl⟩
   ·have g7:vs 7=_:=hG 7 (by kernel_rfl);exact q9 (w':=W) (by unfold execOp;simp only[s24,g7];go_simp) ⟨Below.refl _ _,rfl⟩
   ·have g8:vs 8=_:=hG 8 (by kernel_rfl);exact q9 (w':=W) (by unfold execOp;simp only[s25,g8];go_simp) ⟨Below.refl _ _,rfl⟩
   ·have g9:vs 9=_:=hG 9 (by kernel_rfl);exact q9 (w':=W) (by unfold execOp;simp only[s26,g9];go_simp) ⟨Below.refl _ _,rfl⟩
   ·have g6:vs 6=_:=hG 6 (by kernel_rfl);have g10:vs 10=_:=hG 10 (by kernel_rfl);refine qi (f:=97) (args:=#[.pointer (some ⟨gr,i*259,none⟩),.int .i64 (d.live.length:Int)]) (w':=W) (by unfold execOp;simp only[hc,hfn,s23,g6,s27,g10];go_simp) ((vM (yD.out.below hb) HVC.out HSO.out yr.out.n8).mono ?_);rintro e W' ⟨A,cc,rfl,h1,h2,h3⟩;exact⟨_,rfl,h3,A,cc,rfl,h1,fun b o e=>⟨Nat.le_trans hb.size (h2 b o e).1,(h2 b o e).2⟩⟩
   ·obtain⟨A,cc,g11,h1,h2⟩:=hG 11 (by kernel_rfl);exact q9 (w':=W) (by unfold execOp;simp only[s28,g11];go_simp) ⟨Below.refl _ _,A,cc,rfl,h1,h2⟩
   ·exact q9 (w':=W) (by unfold execOp;simp only[hc];go_simp) ⟨Below.refl _ _,rfl⟩
  ·intro vs W hb hG;obtain⟨A,cc,g12,h1,h2⟩:=hG 12 (by decide);have g13:vs 13=_:=hG 13 (by decide);simp only[qW,qK,if_true];rw[g12,g13];generalize vs 0=z0;generalize vs 1=z1;generalize vs 2=z2;generalize vs 3=z3;generalize vs 4=z4;generalize vs 5=z5;generalize vs 6=z6;generalize vs 7=z7;generalize vs 8=z8;generalize vs 9=z9;generalize vs 10=z10;generalize vs 11=z11;have HB:=QH (qP.out.trans (hb.mono qP.out.size));have H1:=QH h1;have H2:=QH (fun b o e=>And.intro (Nat.le_trans qP.out.size (h2 b o e).1) (h2 b o e).2);clear hG g12 g13 hb h1 h2;simp only[Act.put,List.setIfInBounds_toArray,List.set_cons_succ,List.set_cons_zero];refine⟨by kernel_rfl,?_⟩;go_wp2_with fail;go_ret2;rw[xz.out];exact⟨A,cc,rfl,H1.out,H2.out,HB.out⟩
def CgV (l:List (Int × Bt))(B:Nat)(v:Value)(w:World):Prop:=∃A cc,v=.slice A l.length cc∧aD w A l∧∀b o,A=some ⟨b,o,none⟩→B≤b∧b<w.heap.size
theorem CgV.below{l:List (Int × Bt)}{B:Nat}{v:Value}{w w':World}(h:CgV l B v w)(hb:Below w.heap.size w w'):CgV l B v w':=by
 obtain⟨A,cc,h1,h2,h3⟩:=h;exact⟨A,cc,h1,h2.below hb,fun b o e=>⟨(h3 b o e).1,Nat.lt_of_lt_of_le (h3 b o e).2 hb.size⟩⟩
def CsG (p g c n m:Nat)(S V:List Value)(D:List (Int × Bt))(B:Nat):Nat→Value→World→Prop
 | 0,v,_=>v=.pointer (some ⟨p,0,none⟩)
 | 1,v,_=>v=.pointer (some ⟨p,0,none⟩)
 | 2,v,_=>v=.pointer (some ⟨p,257,none⟩)
 | 3,v,_=>v=.slice (some ⟨g,0,none⟩) n c
 | 4,v,_=>v=.int .i64 (m:Int)
 | 5,v,_=>v=.pointer (some ⟨g,m*259,none⟩)
 | 6,v,_=>v=.pointer (some ⟨g,m*259,none⟩)
 | 7,v,_=>v=.pointer (some ⟨p,0,none⟩)
 | 8,v,_=>v=.pointer (some ⟨p,0,none⟩)
 | 9,v,_=>v=.pointer (some ⟨p,257,none⟩)
 | 10,v,_=>v=.slice (some ⟨g,0,none⟩) n c
 | 11,v,_=>v=.int .i64 (m:Int)
 | 12,v,_=>v=.slice (some ⟨g,0,none⟩) m c
 | 13,v,_=>v=.agg S.toArray
 | 14,v,_=>v=.agg V.toArray
 | 15,v,w=>CgV D B v w
 | 16,v,w=>CgV D B v w
 | 17,v,_=>v=.int .i64 0
 | _,_,_=>True
theorem qoa(p g c n m:Nat)(S V:List Value)(D:List (Int × Bt))(B:Nat)(i:Nat)(v:Value)(w w':World)(hi:i<18)(h:CsG p g c n m S V D B i v w)(hb:Below w.heap.size w w'):CsG p g c n m S V D B i v w':=by
 match i,hi,h with
 | 0,_,h | 1,_,h | 2,_,h | 3,_,h | 4,_,h | 5,_,h | 6,_,h | 7,_,h | 8,_,h | 9,_,h | 10,_,h | 11,_,h | 12,_,h | 13,_,h | 14,_,h | 17,_,h=>exact h
 | 15,_,h | 16,_,h=>exact CgV.below h hb
 | n+18,h,_=>exact absurd h (by omega)
theorem tQ (d:CH)(m:Nat)(hm:m<d.qa.length):(xC d.live.length (d.qa.take m)).bs=d.prev m:=by
 unfold xC CH.prev;by_cases h:m=0
 ·subst h;rfl
 ·rw[if_neg h,List.getLast?_eq_getElem?,List.length_take,Nat.min_eq_left (by omega),List.getElem?_take,if_pos (by omega)];unfold CH.lH;rw[List.getElem?_eq_getElem (by omega)];rfl
theorem kD {own:Nat→Prop}{w:World}{p:Nat}{d:CH}(h:lX own w p d)(k:Int):Calls prog 51 #[.pointer (some ⟨p,0,none⟩),.int .i64 k] w (aX (d.changes k) w):=by
 obtain⟨h0,v,hr⟩:=h;have c2:=hr.c2 h0;have jz:=QH hr;have yr:=QH h0;have aY:=h0.few;obtain⟨A,c,hv,hlc,_,hx⟩:=xy hr.row h0.qa h0.n8;subst hv;by_cases uu:k<0∨(d.qa.length:Int)≤k
 ·have HW:Hid (d.changes k=([],5)):=by unfold Hid CH.changes;rw[if_pos uu]
  rw[HW.out];have hcs:k<0∨(¬ k<0∧(d.qa.length:Int)≤k):=by omega
  clear uu HW hx hr h0 jz yr;rcases hcs with hk|⟨hk,hk2⟩;all_goals
   go_enter func51,ntmps51;go_wp2_with fail;go_ret2;exact⟨none,0,rfl,aD.nil _ _,ui.none _ _,Below.refl _ _⟩
 ·obtain⟨m,rfl⟩:∃m:Nat,k=(m:Int):=⟨k.toNat,by omega⟩;have hm:m<d.qa.length:=by omega
  have HW:Hid (d.changes (m:Int)=(dJ (d.prev m) d.qa[m].bs,0)):=by
   unfold Hid CH.changes;rw[if_neg uu,Int.toNat_natCast];unfold CH.lH;rw[List.getElem?_eq_getElem hm]
  rw[HW.out];obtain⟨gr,cur,rfl,hb,hc⟩:=hx m hm;have hmi:(m:Int)<(d.qa.length:Int):=by omega
  have hmn:¬ (m:Int)<0:=by omega
  have hmx:¬ (d.qa.length:Int)≤(m:Int):=by omega
  have hmc:(m:Int)≤(c:Int):=by omega
  have zcw:m≤c:=by omega
  have HSO:=QH (h0.qa _ (List.getElem_mem hm));have HVC:Hid (∀j u,(vc d.qa[m].bs)[j]?=some u→cur[m*259+j]?=some u):=fun j u hu=>hc j u (qnh _ j u hu);have yD:=QH hb;have HTO:Hid (∀s∈d.qa.take m,qN d.live.length s.bs):=fun s hs=>h0.qa s (List.mem_of_mem_take hs);have sK:Hid ((d.qa.take m).length≤20):=by unfold Hid;rw[List.length_take];omega
  have HTR:Hid (∀W,Below w.heap.size w W→uM W (.slice (some ⟨gr,0,none⟩) m c) (d.qa.take m)):=fun W hb=>tD (hr.row.below hb) h0.qa h0.n8 (by omega) c (by omega) (Nat.le_refl _);have hlo:=dW (n:=d.live.length) HTO.out;have bj:Hid (qN d.live.length (d.prev m)):=by unfold Hid;rw[← tQ d m hm];exact hlo
  have rB:=l7 (xC d.live.length (d.qa.take m)) hlo h0.n8;rw[tQ d m hm]at rB;have HLA:=QH (fun W hb=>fh (HTR.out W hb) HTO.out h0.n8 sK.out);obtain⟨S,hS⟩:=QE (sc (xC d.live.length (d.qa.take m)));rw[hS]at HLA rB;generalize d.prev m=P at *;generalize d.qa[m].bs=bs at *;have bZ:=QH (fun W (hb:Below w.heap.size w W)=>qbr (yD.out.below hb) HVC.out HSO.out bj.out h0.n8);have ry:=QH rB;have HMI:=QH hmi;clear uu HW hx hr hb hc hlo rB hS hm HTR HTO sK HVC HSO bj;obtain⟨D,hD⟩:=QE (dJ P bs);rw[hD]at bZ ⊢;clear hD;go_enter func51,ntmps51;go_wp2_with fail;refine qM (by kernel_rfl) 18 [21,22,23,24,25,26,27,28,29,30,31,32,33,34,35,36,4,5] (by kernel_rfl) (CsG p gr c d.qa.length m S (vc P) D w.heap.size) (qoa _ _ _ _ _ _ _ _ _) ?_ ?_
  ·intro j o vs ρ W hi9 hop hρ hfn hb hG;have t0:ρ (.tmp 0)=.pointer (some ⟨p,0,none⟩):=hρ.out 0 rfl;have t1:ρ (.tmp 1)=.int .i64 (m:Int):=hρ.out 1 rfl;have hc:=hρ.const;have s21:=hρ.at_ 21 0 rfl;have s22:=hρ.at_ 22 1 rfl;have s23:=hρ.at_ 23 2 rfl;have s24:=hρ.at_ 24 3 rfl;have s25:=hρ.at_ 25 4 rfl;have s26:=hρ.at_ 26 5 rfl;have s27:=hρ.at_ 27 6 rfl;have s28:=hρ.at_ 28 7 rfl;have s29:=hρ.at_ 29 8 rfl;have s30:=hρ.at_ 30 9 rfl;have s31:=hρ.at_ 31 10 rfl;have s32:=hρ.at_ 32 11 rfl;have s33:=hρ.at_ 33 12 rfl;have s34:=hρ.at_ 34 13 rfl;have s35:=hρ.at_ 35 14 rfl;have s36:=hρ.at_ 36 15 rfl;have c2:=(jz.out.below hb).c2 yr.out;have hmi:=HMI.out;rcases j with _|_|_|_|_|_|_|_|_|_|_|_|_|_|_|_|_|_|j;all_goals (first|omega|skip)
   all_goals simp only[QA,QB,QC,Option.some.injEq]at hop
   all_goals subst hop
   ·exact q9 (w':=W) (by unfold execOp;simp only[t0];go_simp) ⟨Below.refl _ _,rfl⟩
   ·have g0:vs 0=_:=hG 0 (by kernel_rfl);exact q9 (w':=W) (by unfold execOp;simp only[s21,g0];go_simp) ⟨Below.refl _ _,rfl⟩
   ·have g1:vs 1=_:=hG 1 (by kernel_rfl);exact q9 (w':=W) (by unfold execOp;simp only[s22,g1];go_simp) ⟨Below.refl _ _,rfl⟩
   ·have g2:vs 2=_:=hG 2 (by kernel_rfl);exact q9 (w':=W) (by unfold execOp;simp only[s23,g2];go_simp) ⟨Below.refl _ _,rfl⟩
   ·exact q9 (w':=W) (by unfold execOp;simp only[t1];go_simp) ⟨Below.refl _ _,rfl⟩
   ·have g3:vs 3=_:=hG 3 (by kernel_rfl);have g4:vs 4=_:=hG 4 (by kernel_rfl);exact q9 (w':=W) (by unfold execOp;simp only[s24,g3,s25,g4];go_simp) ⟨Below.refl _ _,rfl⟩
   ·have g5:vs 5=_:=hG 5 (by kernel_rfl);exact q9 (w':=W) (by unfold execOp;simp only[s26,g5];go_simp) ⟨Below.refl _ _,rfl⟩
   ·exact q9 (w':=W) (by unfold execOp;simp only[t0];go_simp) ⟨Below.refl _ _,rfl⟩
   ·have g7:vs 7=_:=hG 7 (by kernel_rfl);exact q9 (w':=W) (by unfold execOp;simp only[s28,g7];go_simp) ⟨Below.refl _ _,rfl⟩
   ·have g8:vs 8=_:=hG 8 (by kernel_rfl);exact q9 (w':=W) (by unfold execOp;simp only[s29,g8];go_simp) ⟨Below.refl _ _,rfl⟩
   ·have g9:vs 9=_:=hG 9 (by kernel_rfl);exact q9 (w':=W) (by unfold execOp;simp only[s30,g9];go_simp) ⟨Below.refl _ _,rfl⟩
   ·exact q9 (w':=W) (by unfold execOp;simp only[t1];go_simp) ⟨Below.refl _ _,rfl⟩
   ·have g10:vs 10=_:=hG 10 (by kernel_rfl);have g11:vs 11=_:=hG 11 (by kernel_rfl);exact q9 (w':=W) (by unfold execOp;simp only[s31,g10,s32,g11];go_simp) ⟨Below.refl _ _,rfl⟩
   ·have g12:vs 12=_:=hG 12 (by kernel_rfl);refine qi (f:=69) (args:=#[.slice (some ⟨gr,0,none⟩) m c]) (w':=W) (by unfold execOp;simp only[hc,hfn,s33,g12];go_simp) ((HLA.out W hb).mono ?_);rintro e W' ⟨rfl,h1⟩;exact⟨_,rfl,h1,rfl⟩
   ·have g13:vs 13=_:=hG 13 (by kernel_rfl);have rB:=ry.out;exact q9 (w':=W) (by unfold execOp;simp only[s34,g13];go_simp) ⟨Below.refl _ _,rfl⟩
   ·have g6:vs 6=_:=hG 6 (by kernel_rfl);have g14:vs 14=_:=hG 14 (by kernel_rfl);refine qi (f:=98) (args:=#[.pointer (some ⟨gr,m*259,none⟩),.agg (vc P).toArray]) (w':=W) (by unfold execOp;simp only[hc,hfn,s27,g6,s35,g14];go_simp) ((bZ.out W hb).mono ?_);rintro e W' ⟨A,cc,rfl,h1,h2,h3⟩;exact⟨_,rfl,h3,A,cc,rfl,h1,fun b o e=>⟨Nat.le_trans hb.size (h2 b o e).1,(h2 b o e).2⟩⟩
   ·obtain⟨A,cc,g15,h1,h2⟩:=hG 15 (by kernel_rfl);exact q9 (w':=W) (by unfold execOp;simp only[s36,g15];go_simp) ⟨Below.refl _ _,A,cc,rfl,h1,h2⟩
   ·exact q9 (w':=W) (by unfold execOp;simp only[hc];go_simp) ⟨Below.refl _ _,rfl⟩
  ·intro vs W hb hG;obtain⟨A,cc,g16,h1,h2⟩:=hG 16 (by decide);have g17:vs 17=_:=hG 17 (by decide);simp only[qW,qK,if_true];rw[g16,g17];generalize vs 0=z0;generalize vs 1=z1;generalize vs 2=z2;generalize vs 3=z3;generalize vs 4=z4;generalize vs 5=z5;generalize vs 6=z6;generalize vs 7=z7;generalize vs 8=z8;generalize vs 9=z9;generalize vs 10=z10;generalize vs 11=z11;generalize vs 12=z12;generalize vs 13=z13;generalize vs 14=z14;generalize vs 15=z15;have HB:=QH hb;have H1:=QH h1;have H2:=QH h2;clear hG g16 g17 hb h1 h2;simp only[Act.put,List.setIfInBounds_toArray,List.set_cons_succ,List.set_cons_zero];refine⟨by kernel_rfl,?_⟩;go_wp2_with fail;go_ret2;exact⟨A,cc,rfl,H1.out,H2.out,HB.out⟩
def yc (l:List Gd):List Value:=l.flatMap fun g=>[.int .u64 (g.1:Int),.int .u64 (g.2:Int)]
theorem wX (l:List Gd):(yc l).length=l.length*2:=dV (fun _ _=>rfl)
theorem rj (l:List Gd)(k:Nat)(hk:k<l.length):(yc l)[k*2]?=some (.int .u64 (l[k].1:Int))∧(yc l)[k*2+1]?=some (.int .u64 (l[k].2:Int)) :=
 ⟨qba l k hk (m:=2) (fun _ _=>rfl) 0 _ rfl,qba l k hk (m:=2) (fun _ _=>rfl) 1 _ rfl⟩
theorem qgm(l:List Gd)(k:Nat)(hk:k<l.length)(g:Gd):((yc l).set (k*2) (.int .u64 (g.1:Int))).set (k*2+1) (.int .u64 (g.2:Int))=yc (l.set k g):=by
 have h:=qnd (f:=fun g:Gd=>[Value.int .u64 (g.1:Int),.int .u64 (g.2:Int)]) (m:=2) l k g hk (fun _ _=>rfl);unfold yc;rw[← h];have hl:=wX l;unfold yc at hl;generalize (l.flatMap fun g=>[Value.int .u64 (g.1:Int),.int .u64 (g.2:Int)])=z at *;apply List.ext_getElem?;intro i;by_cases h1:i<k*2
 ·rw[List.getElem?_set_ne (by omega),List.getElem?_set_ne (by omega),List.append_assoc,List.getElem?_append_left (by rw[List.length_take];omega),List.getElem?_take,if_pos h1]
 ·by_cases h2:i=k*2
  ·subst h2;rw[List.getElem?_set_ne (by omega),List.getElem?_set_self (by omega),List.append_assoc,List.getElem?_append_right (by rw[List.length_take];omega),List.length_take,Nat.min_eq_left (by omega),Nat.sub_self];rfl
  ·by_cases h3:i=k*2+1
   ·subst h3;rw[List.getElem?_set_self (by rw[List.length_set];omega),List.append_assoc,List.getElem?_append_right (by rw[List.length_take];omega),List.length_take,Nat.min_eq_left (by omega),show k*2+1-k*2=1 by omega];rfl
   ·rw[List.getElem?_set_ne (by omega),List.getElem?_set_ne (by omega),List.getElem?_append_right (by rw[List.length_append,List.length_take];simp;omega),List.getElem?_drop,List.length_append,List.length_take,Nat.min_eq_left (by omega)]
    congr 1
    simp;omega
theorem qgn(n:Nat):madeCells #[.int .u64 0,.int .u64 0] (n*2)=(yc (List.replicate n (0,0))).toArray:=by
 apply Array.ext
 ·simp[size_madeCells,wX]
 ·intro j h1 h2;have hl:(yc (List.replicate n (0,0))).length=n*2:=by rw[wX,List.length_replicate]
  have hj:j<n*2:=by simpa[hl]using h2
  have e:(yc (List.replicate n (0,0)))[j]?=some (.int .u64 0):=by
   have hq:j/2<(List.replicate n ((0,0):Gd)).length:=by rw[List.length_replicate];omega
   obtain⟨g0,g1⟩:=rj (List.replicate n (0,0)) (j/2) hq;rw[List.getElem_replicate]at g0 g1;rcases Nat.mod_two_eq_zero_or_one j with h|h
   ·rw[show j=j/2*2 by omega];exact g0
   ·rw[show j=j/2*2+1 by omega];exact g1
  have e2:(yc (List.replicate n (0,0))).toArray[j]?=some (.int .u64 0):=by simpa using e
  rw[Array.getElem?_eq_getElem h2]at e2;rw[Option.some.inj e2];rcases Nat.mod_two_eq_zero_or_one j with h|h <;> simp[madeCells,h]
theorem qgo(n:Nat)(h:n≤1000)(W:World):(Instr.makeSlice 52 (.int .i64 (n:Int)) (.int .i64 (n:Int))).run prog W=.ok (.slice (some ⟨W.heap.size,0,none⟩) n n) (W.alloc (.cells (yc (List.replicate n (0,0))).toArray 55)):=by
 obtain⟨i0,hi,hz0,hz1,hz2⟩:=info_parts qfE;have hmk:=run_make (P:=prog) W 52 55 i0 (.agg #[.int .u64 0,.int .u64 0]) underlying52 hi hz0 .i64 .i64 (n:Int) (n:Int) (by omega) (Int.le_refl _) (by rw[hz2];omega) (by omega);rw[hz1]at hmk;rw[← qgn];simpa[Value.cells]using hmk
theorem qgp{ρ:Operand→Value}{o:Oper}{w:World}(x y:Operand)(n:Nat)(ho:o.op=.makeSlice 52 x y)(hx:ρ x=.int .i64 (n:Int))(hy:ρ y=.int .i64 (n:Int))(h:n≤1000) :
    (execOp ρ o).run prog w=.ok (.value (.slice (some ⟨w.heap.size,0,none⟩) n n)) (w.alloc (.cells (yc (List.replicate n (0,0))).toArray 55)):=by
 simp[execOp,ho,hx,hy,qgo n h w,Result.andThen]
def q0q (l:List Gd)(w:World)(i:Value)(wr:World):Prop :=
 ∃k:Nat,k≤l.length∧i=.int .i64 (k:Int)∧qf wr w.heap.size 55 (yc (l.take k++List.replicate (l.length-k) (0,0))).toArray∧Below w.heap.size w wr
theorem qjF{l:List Gd}{k:Nat}(hk:k<l.length):(l.take k++List.replicate (l.length-k) (0,0)).set k l[k]=l.take (k+1)++List.replicate (l.length-(k+1)) (0,0):=by
 rw[List.set_append_right _ _ (by rw[List.length_take];omega),List.length_take,Nat.min_eq_left (by omega),Nat.sub_self,show l.length-k=(l.length-(k+1))+1 by omega,List.replicate_succ,List.set_cons_zero,List.take_succ_eq_append_getElem (by omega),List.append_assoc];rfl
theorem qjG{own:Nat→Prop}{w:World}{p:Nat}{d:CH}(h:lX own w p d):Calls prog 49 #[.pointer (some ⟨p,0,none⟩)] w (iC d.list w):=by
 obtain⟨i0,hi,hz0,hz1,hz2⟩:=info_parts aK;have HI:=QH hi;have HZ0:=QH hz0;obtain⟨h0,v,hr⟩:=h;have c2:=hr.c2 h0;have HR:=QH hr;have yr:=QH h0;have aY:=h0.few;have qdv:=hr.blk.lt;obtain⟨A,c,hv,hlc,_,hx⟩:=xy hr.row h0.qa h0.n8;subst hv;have HX:=QH hx;have HLI:Hid (d.list.length=d.qa.length):=by unfold Hid CH.list;rw[List.length_map]
 have HGB:Hid (∀x∈d.list,zZ x):=fun x hx=>by
  obtain⟨s,hs,rfl⟩:=List.mem_map.1 hx;exact h0.fA s hs
 have HLG:Hid (∀k (hk:k<d.qa.length) (hk2:k<d.list.length),d.list[k]=d.qa[k].g):=fun k hk hk2=>by simp[CH.list]
 have HZL:Hid ((sc z0).length=259):=by unfold Hid z0;exact yO (n:=0) ⟨rfl,fun v hv=>by simp at hv⟩ (by omega)
 obtain⟨Z,hZ⟩:=QE (sc z0);rw[hZ]at HZ0 HZL;obtain⟨n,hn⟩:=QE d.qa.length;have HN:=QH hn;have C2:=QH c2;rw[hn]at C2 c2 aY hlc HLI;clear hx hr h0 hi hz0 hz1 hz2 hZ hn;have HGI:Hid (yc (List.replicate n (0,0))=yc (d.list.take 0++List.replicate (d.list.length-0) (0,0))):=by unfold Hid;rw[HLI.out];rfl
 go_enter func49,ntmps49;have c2b:∀o,(w.alloc o).cell? ⟨p,257,none⟩=some (.slice A n c):=fun o=>(((Below.refl w.heap.size w).alloc (Nat.le_refl _) o).cell (p:=⟨p,257,none⟩) qdv).trans C2.out;go_wp2_with (at_make;refine qg rfl (qgp _ _ n rfl rfl rfl (by omega)) ?_);go_loopw [4,5,19] (fun _ _ i wr=>q0q d.list w i wr) (fun _ _ i _=>n-(intOf i).toNat);case atStart=>exact⟨0,Nat.zero_le _,rfl,by rw[← HGI.out];exact qf.new w 55 _,(Below.refl _ _).alloc (Nat.le_refl _) _⟩
 case round =>
  obtain⟨k,hk,rfl,yu,vI⟩:=hrel;have HK:=QH yu;have gp:=QH vI;have hkn:k≤n:=by have:=HLI.out;omega
  clear yu vI c2b c2;by_cases hlt:k<n
  ·have jD:(k:Int)<(n:Int):=by omega
   have hls:k<d.qa.length:=by rw[HN.out];exact hlt
   have hlg:k<d.list.length:=by rw[HLI.out];exact hlt
   obtain⟨gr,cur,rfl,hb,hc⟩:=HX.out k hls;have hso:=yr.out.qa _ (List.getElem_mem hls);have fE:Hid ((sc d.qa[k]).length=259):=yO hso yr.out.n8;have av:=QH (iQ d.qa[k]);have yD:=QH (hb.below gp.out);have HC:=QH hc;have hg1:=qsz hso yr.out.n8;have hg2:=qs0 hso yr.out.n8;have HSE:Hid (((yc (d.list.take k++List.replicate (d.list.length-k) (0,0))).set (k*2) (.int .u64 (d.qa[k].g.1:Int))).set (k*2+1) (.int .u64 (d.qa[k].g.2:Int))=yc (d.list.take (k+1)++List.replicate (d.list.length-(k+1)) (0,0))):=by
    unfold Hid;rw[qgm _ k (by rw[List.length_append,List.length_take,List.length_replicate];omega),← HLG.out k hls hlg,qjF hlg]
   generalize sc d.qa[k]=S at *;generalize (d.qa[k].g.1:Int)=x1 at *;generalize (d.qa[k].g.2:Int)=x2 at *;have e0:(wr.alloc (.cells S.toArray 131)).cell? ⟨wr.heap.size,256,none⟩=some (.int .u64 x1):=by
    rw[(qf.new wr 131 S.toArray).cell 256];simpa using hg1
   have e1:(wr.alloc (.cells S.toArray 131)).cell? ⟨wr.heap.size,257,none⟩=some (.int .u64 x2):=by
    rw[(qf.new wr 131 S.toArray).cell 257];simpa using hg2
   have qP:=QH (gp.out.alloc gp.out.size (.cells S.toArray 131));have cz:Hid (qf (wr.alloc (.cells S.toArray 131)) w.heap.size _ _):=HK.out.of_block (Below.heap_alloc wr _ _ HK.out.lt);obtain⟨cs,hcs⟩:=QE (yc (d.list.take k++List.replicate (d.list.length-k) (0,0)));have hcl:cs.length=n*2:=by
    rw[← hcs,wX,List.length_append,List.length_take,List.length_replicate,HLI.out];omega
   rw[hcs]at cz HSE;have f0:=cz.out.frozen (k*2);have f1:=cz.out.frozen (k*2+1);obtain⟨z0',hz0⟩:∃z,(wr.alloc (.cells S.toArray 131)).cell? ⟨w.heap.size,k*2,none⟩=some z:=by
    rw[cz.out.cell (k*2)];exact⟨cs[k*2],by simp[show k*2<cs.length by omega]⟩
   obtain⟨z1',hz1⟩:∃z,(wr.alloc (.cells S.toArray 131)).cell? ⟨w.heap.size,k*2+1,none⟩=some z:=by
    rw[cz.out.cell (k*2+1)];exact⟨cs[k*2+1],by simp[show k*2+1<cs.length by omega]⟩
   have jR:=QH ((cz.out.qo (k*2) (.int .u64 x1)).qo (k*2+1) (.int .u64 x2));have qy:=QH ((qP.out.setCell (p:=⟨w.heap.size,k*2,none⟩) (Nat.le_refl _) (.int .u64 x1)).setCell (p:=⟨w.heap.size,k*2+1,none⟩) (Nat.le_refl _) (.int .u64 x2));have E0:=QH e0;have E1:=QH e1;clear HK gp hb hc hso hg1 hg2 hcs hcl hls hlg e0 e1;have F0:=QH f0;have F1:=QH f1;have ZZ0:=QH hz0;have ZZ1:=QH hz1;clear f0 f1 hz0 hz1;go_wp2_with (first|(refine qg rfl (qH 131 (.tmp 22) rfl gr (k*259) rfl _ cur S _ _ yD.out underlying131 rfl (by rw[yK,fE.out]) HC.out) ?_)|(refine qg rfl (jY 131 i0 Z.toArray rfl HI.out HZ0.out) ?_)|(refine wpList_skip rfl (zr wr 131 Z.toArray S.toArray (.tmp 5) (.tmp 23) rfl rfl rfl (by rw[yK,List.size_toArray,fE.out]) (by rw[List.size_toArray,List.size_toArray,fE.out,HZL.out]) (jw av.out)) ?_;have e0:=E0.out;have e1:=E1.out;have f0:=F0.out;have f1:=F1.out;have z0:=ZZ0.out;have z1:=ZZ1.out));go_roundw;case rel=>exact⟨k+1,by have:=HLI.out;omega,by go_num,by
    have h:=jR.out;simp only[List.setIfInBounds_toArray]at h;rw[HSE.out]at h;exact h,qy.out⟩
   case measure=>simp[intOf];omega
  ·obtain rfl:k=n:=by omega
   have mq:Hid (d.list.take k++List.replicate (d.list.length-k) (0,0)=d.list):=by
    unfold Hid;rw[← HLI.out,Nat.sub_self,List.take_length];simp
   have yu:=HK.out;rw[mq.out]at yu;have HT:Hid (GdL wr (some ⟨w.heap.size,0,none⟩) d.list):=fun i hi=>by
    obtain⟨g0,g1⟩:=rj d.list i hi;exact⟨w.heap.size,0,rfl,yu.lt,by rw[Nat.zero_add,yu.cell];simpa using g0,by rw[Nat.zero_add,yu.cell];simpa using g1,HGB.out _ (List.getElem_mem hi)⟩
   have HLT:=QH yu.lt;clear yu HK mq;go_wp2_with fail;go_ret;refine⟨_,k,by rw[HLI.out];rfl,HT.out,fun b o e=>?_,gp.out⟩;simp only[Option.some.injEq,Addr.mk.injEq,and_true]at e;obtain⟨rfl,_⟩:=e;exact⟨Nat.le_refl _,HLT.out⟩
end Go.Proofs.YtdagdllomphidaaGreatDoor.ch.pg
namespace Go.Proofs.YtdagdllomphidaaGreatDoor.ch.pg
open _root_.Go.Proofs.Tryz Go Go.RowKit Go.Sort Go.Proofs.YtdagdllomphidaaGreatDoor.ib
theorem cd (k:Int)(s:Bt)(w:World):Calls prog 37 #[.pointer none,.int .i64 k,.string (str s)] w (xP 1 w):=by
 go_enter func37,ntmps37;go_wp2_with fail;go_ret;exact⟨rfl,Below.refl _ _⟩
theorem iY (k:Int)(w:World):Calls prog 39 #[.pointer none,.int .i64 k] w (xP 1 w):=by
 go_enter func39,ntmps39;go_wp2_with fail;go_ret;exact⟨rfl,Below.refl _ _⟩
theorem iU (w:World):Calls prog 48 #[.pointer none] w (qi3 [] w):=by
 go_enter func48,ntmps48;go_wp2_with fail;go_ret;exact⟨none,0,rfl,fun i h=>absurd h (by simp),ui.none _ _,Below.refl _ _⟩
theorem iT (w:World):Calls prog 49 #[.pointer none] w (iC [] w):=by
 go_enter func49,ntmps49;go_wp2_with fail;go_ret;exact⟨none,0,rfl,fun i h=>absurd h (by simp),ui.none _ _,Below.refl _ _⟩
theorem wW (k:Int)(w:World):Calls prog 51 #[.pointer none,.int .i64 k] w (aX ([],1) w):=by
 go_enter func51,ntmps51;go_wp2_with fail;go_ret2;exact⟨none,0,rfl,aD.nil _ _,ui.none _ _,Below.refl _ _⟩
theorem qjH(w:World):Calls prog 14 #[.pointer none] w fun e w'=>e=.returned (.pointer none)∧Below w.heap.size w w':=by
 go_enter func14,ntmps14;go_wp2_with fail;go_ret;exact⟨rfl,Below.refl _ _⟩
theorem iZ (g:Gd)(w:World):Calls prog 38 #[.pointer none,gv g] w (xP 1 w):=by
 have HB:=QH ((Below.refl w.heap.size w).alloc (Nat.le_refl _) (.cells #[.int .u64 (g.1:Int),.int .u64 (g.2:Int)] 55));have q0:(w.alloc (.cells #[.int .u64 (g.1:Int),.int .u64 (g.2:Int)] 55)).cell? ⟨w.heap.size,0,none⟩=some (.int .u64 (g.1:Int)):=(qf.new w _ _).cell 0;have q1:(w.alloc (.cells #[.int .u64 (g.1:Int),.int .u64 (g.2:Int)] 55)).cell? ⟨w.heap.size,1,none⟩=some (.int .u64 (g.2:Int)):=(qf.new w _ _).cell 1;have HM:=QH (qd2 g (w.alloc (.cells #[.int .u64 (g.1:Int),.int .u64 (g.2:Int)] 55)));unfold gv at HM ⊢;go_enter func38,ntmps38;go_wp2_with fail;refine HM.out.mono ?_;rintro e W ⟨rfl,hb⟩;have qy:=QH (HB.out.trans (hb.mono HB.out.size));clear hb HM q0 q1;go_wp2_with fail;go_ret;exact⟨rfl,qy.out⟩
theorem qob(g:Gd)(A:Option Addr)(c n:Nat)(w:World):Calls prog 26 #[.pointer none,gv g,.slice A n c] w (xP 1 w):=by
 have HB:=QH ((Below.refl w.heap.size w).alloc (Nat.le_refl _) (.cells #[.int .u64 (g.1:Int),.int .u64 (g.2:Int)] 55));have q0:(w.alloc (.cells #[.int .u64 (g.1:Int),.int .u64 (g.2:Int)] 55)).cell? ⟨w.heap.size,0,none⟩=some (.int .u64 (g.1:Int)):=(qf.new w _ _).cell 0;have q1:(w.alloc (.cells #[.int .u64 (g.1:Int),.int .u64 (g.2:Int)] 55)).cell? ⟨w.heap.size,1,none⟩=some (.int .u64 (g.2:Int)):=(qf.new w _ _).cell 1;have HM:=QH (qd2 g (w.alloc (.cells #[.int .u64 (g.1:Int),.int .u64 (g.2:Int)] 55)));unfold gv at HM ⊢;go_enter func26,ntmps26;go_wp2_with fail;refine HM.out.mono ?_;rintro e W ⟨rfl,hb⟩;have qy:=QH (HB.out.trans (hb.mono HB.out.size));clear hb HM q0 q1;go_wp2_with fail;go_ret;exact⟨rfl,qy.out⟩
theorem l5 (g:Gd)(w:World):Calls prog 40 #[.pointer none,gv g] w (xP 1 w):=by
 have HB:=QH ((Below.refl w.heap.size w).alloc (Nat.le_refl _) (.cells #[.int .u64 (g.1:Int),.int .u64 (g.2:Int)] 55));have q0:(w.alloc (.cells #[.int .u64 (g.1:Int),.int .u64 (g.2:Int)] 55)).cell? ⟨w.heap.size,0,none⟩=some (.int .u64 (g.1:Int)):=(qf.new w _ _).cell 0;have q1:(w.alloc (.cells #[.int .u64 (g.1:Int),.int .u64 (g.2:Int)] 55)).cell? ⟨w.heap.size,1,none⟩=some (.int .u64 (g.2:Int)):=(qf.new w _ _).cell 1;have HM:=QH (tK g (w.alloc (.cells #[.int .u64 (g.1:Int),.int .u64 (g.2:Int)] 55)));unfold gv at HM ⊢;go_enter func40,ntmps40;go_wp2_with fail;refine HM.out.mono ?_;rintro e W ⟨rfl,hb⟩;have qy:=QH (HB.out.trans (hb.mono HB.out.size));clear hb HM q0 q1;go_wp2_with fail;go_ret;exact⟨rfl,qy.out⟩
theorem iV (g:Gd)(w:World):Calls prog 50 #[.pointer none,gv g] w (jQ ([],1) w):=by
 have HB:=QH ((Below.refl w.heap.size w).alloc (Nat.le_refl _) (.cells #[.int .u64 (g.1:Int),.int .u64 (g.2:Int)] 55));have q0:(w.alloc (.cells #[.int .u64 (g.1:Int),.int .u64 (g.2:Int)] 55)).cell? ⟨w.heap.size,0,none⟩=some (.int .u64 (g.1:Int)):=(qf.new w _ _).cell 0;have q1:(w.alloc (.cells #[.int .u64 (g.1:Int),.int .u64 (g.2:Int)] 55)).cell? ⟨w.heap.size,1,none⟩=some (.int .u64 (g.2:Int)):=(qf.new w _ _).cell 1;have HM:=QH (tK g (w.alloc (.cells #[.int .u64 (g.1:Int),.int .u64 (g.2:Int)] 55)));unfold gv at HM ⊢;go_enter func50,ntmps50;go_wp2_with fail;refine HM.out.mono ?_;rintro e W ⟨rfl,hb⟩;have qy:=QH (HB.out.trans (hb.mono HB.out.size));clear hb HM q0 q1;go_wp2_with fail;go_ret2;exact⟨none,0,rfl,fun i h=>absurd h (by simp),ui.none _ _,qy.out⟩
theorem qhr:Impl lX where
 low:=fun⟨_,_,h⟩=>h.low
 ok:=fun⟨h,_⟩=>h
 keep:=fun⟨h0,v,h⟩ hb hs=>⟨h0,v,h.keep hs hb⟩
 oG:=fun b w hb h=>oG b w hb h
 ux:=fun n w h1 h8=>ux n w h1 h8
 write:=fun k s h _=>(rf k s h).mono fun _ _ ha=>ha.1
 snap:=fun g h hg=>(tN h g hg).mono fun _ _ ha=>ha.1
 add:=fun g A c x h hg hx hl _=>(qd5 g A c x h hg hx hl).mono fun _ _ ha=>ha.1
 roll:=fun k h _=>(tO k h).mono fun _ _ ha=>ha.1
 kV:=fun g h _=>(tM h g).mono fun _ _ ha=>ha.1
 live:=fun h=>pP h
 list:=fun h=>qjG h
 read:=fun g h _=>wq h g
 changes:=fun k h _=>kD h k
 copy:=fun h=>pZ h
 at_:=fun⟨_,_,h⟩=>h.op
 qua:=fun k s h _=>rf k s h
 qya:=fun k h _=>tO k h
 qyb:=fun g h hg=>tN h g hg
 q3E:=fun g A c x h hg hx hl=>qd5 g A c x h hg hx hl
 qyc:=fun g h _=>tM h g
 qfg:=fun k s w _=>cd k s w
 qmc:=fun g w _=>iZ g w
 q3F:=fun g A c x w _ _ _=>qob g A c x.length w
 qmd:=fun k w _=>iY k w
 qme:=fun g w _=>l5 g w
 qmf:=iU
 qmg:=iT
 qmh:=fun g w _=>iV g w
 oH:=fun k w _=>wW k w
 qyd:=qjH
end Go.Proofs.YtdagdllomphidaaGreatDoor.ch.pg
namespace Go.Proofs.YtdagdllomphidaaGreatDoor.ch
end Go.Proofs.YtdagdllomphidaaGreatDoor.ch
namespace Go.Proofs.YtdagdllomphidaaGreatDoor.vt
open _root_.Go.Proofs.Tryz Go Go.RowKit jr mt im sp
theorem qhr:j9 pg.jB where
 tab:=fun h=>pg.qpQ h
 low:=fun h=>pg.qaB h
 keep:=fun h hb hs=>pg.qmo h hb hs
 fA:=fun h=>pg.qpR h
 qfj:=fun b w _=>pg.r8 b w
 qfk:=fun b h _ _ hb=>pg.r9 b h hb
 iD:=fun b N room h fG hog h1 h8 hN lG hr=>pg.rV b N room h fG hog h1 h8 hN lG hr
 qml:=fun w=>pg.qbl w
 qc7:=fun N room h _ hN _=>pg.qbm N room h (by omega)
 mQ:=fun h fG hog hJ hf hR=>pg.qdt h fG hog hJ hf hR
 blocks:=fun h=>pg.jn h
 list:=fun h=>pg.vM h
 token:=fun h=>pg.fQ h
 live:=fun h hJ hR=>pg.pP h hJ hR
 read:=fun g h hJ hR _=>pg.qjy g h hJ hR
 changes:=fun k h hJ hR hk=>pg.qbq k h hJ hR hk
 write:=fun k s h hJ hf hR hk=>pg.iI k s h hJ hf hR hk
 snap:=fun g h hJ hf hR hg=>pg.nB g h hJ hf hR hg
 roll:=fun n h hJ hf hR hn=>pg.qnA n h hJ hf hR hn
 kV:=fun g h hJ hf hR _=>pg.qn4 g h hJ hf hR
 stage:=fun f A c x h hJ hf hR hfb hx aw _=>pg.qjB f A c x h hJ hf hR hfb hx aw
 forget:=fun h hJ hf hR=>pg.qfV h hJ hf hR
 qmm:=fun {o1 o2 w v pd d m l} h hl=>(pg.qdh h hl).mono fun e w' hx=>⟨hx.1,o1,hx.2.1,hx.2.2.mono (fun j hj=>by
  obtain⟨A0,A1,A2,c0,c1,c2,h1⟩:=h.is;rw[hj];exact h1.own),fun j hj=>.inl hj⟩
 ij:=fun k s h hl _=>pg.rU k s h hl
 qmn:=fun g h hl _=>pg.qbj g h hl
 qfl:=fun h hl=>pg.pV h hl
 qpO:=fun w=>pg.qdg w
 qmg:=fun w=>pg.iT w
 quc:=fun w=>pg.qfY w
 qmf:=fun w=>pg.iU w
 qmh:=fun g w _=>pg.iV g w
 oH:=fun k w _=>pg.wW k w
 qfg:=fun k s w _=>pg.cd k s w
 qmc:=fun g w _=>pg.iZ g w
 qmd:=fun n w _=>pg.iY n w
 qme:=fun g w _=>pg.l5 g w
 qud:=fun f w _=>pg.qfW f w
 qpP:=fun w=>pg.qdn w
end Go.Proofs.YtdagdllomphidaaGreatDoor.vt
namespace Go.Proofs.YtdagdllomphidaaGreatDoor.vt
open _root_.Go.Proofs.Tryz Go Go.RowKit ib jr mt im sp
theorem qvA(z:UInt8):(sB z).length=32:=by
 unfold sB;refine qeq ?_;have:z.toNat%200<200:=Nat.mod_lt _ (by decide);rw[UInt8.toNat_ofNat'];omega
section
variable {N:Nat} {t:Tg} {m:Mt}
theorem qjI(N:Nat)(m:Mt)(k:Int)(s:Bt):(zn N m k s).m.tok=m.tok:=by
 unfold zn;split
 ·rfl
 ·split <;> rfl
theorem qoc(m:Mt)(g:Gd)(h:m.tok=zI):(jP m g).m.tok=zI:=by
 unfold jP;split
 ·exact h
 ·split
  ·exact h
  ·rfl
theorem qod(m:Mt)(n:Int)(h:m.tok=zI):(ju m n).m.tok=zI:=by
 unfold ju;split
 ·exact h
 ·rfl
theorem qoe(m:Mt)(g:Gd):(uB m g).m.tok=m.tok:=by
 unfold uB;split
 ·rfl
 ·split
  ·rfl
  ·split <;> rfl
theorem qd8(h:qT 8 N t m)(aV:m.tok=zI)(x:DoP)(next:Nat)(hn:next<18446744073709551616) :
    ((jH N m x next).code=7∧N<377)∨((jH N m x next).code=(xp (zA t m) x next).2∧((jH N m x next).code=0→Does 8 N t m (jH N m x next) (xp (zA t m) x next).1∧(jH N m x next).m.tok=zI)∧((jH N m x next).code≠0→(xp (zA t m) x next).1=zA t m)):=by
 have hgd:zZ (1,next):=⟨by show 1<18446744073709551616;omega,hn⟩;unfold jH xp;by_cases h0:x.k%6=0∨x.k%6=1
 ·rw[if_pos h0,if_pos h0];rcases bO h ((x.n:Int)%9) (sB x.z)with⟨h7,hf⟩|⟨h1,h2,h3⟩
  ·exact .inl ⟨h7,hf.far h.ok (by simp)⟩
  ·exact .inr ⟨h1,fun hc=>⟨h2 hc,by rw[qjI];exact aV⟩,h3⟩
 rw[if_neg h0,if_neg h0];by_cases h1:x.k%6=2
 ·rw[if_pos h1,if_pos h1];obtain⟨g1,g2,g3⟩:=iA h (1,next) hgd;exact .inr ⟨g1,fun hc=>⟨g2 hc,qoc m _ aV⟩,g3⟩
 rw[if_neg h1,if_neg h1];by_cases h2:x.k%6=3
 ·rw[if_pos h2,if_pos h2];obtain⟨g1,g2,g3⟩:=iB h ((x.n:Int)%6);exact .inr ⟨g1,fun hc=>⟨g2 hc,qod m _ aV⟩,g3⟩
 rw[if_neg h2,if_neg h2];by_cases h3:x.k%6=4
 ·rw[if_pos h3,if_pos h3];obtain⟨g1,g2,g3⟩:=sY h (1,x.n%8);exact .inr ⟨g1,fun hc=>⟨g2 hc,by rw[qoe];exact aV⟩,g3⟩
 rw[if_neg h3,if_neg h3];have hl:(zA t m).live.length=8:=by
  show(volume t m.live).length=8;rw[xZ];exact h.ok.len
 have hx:zL 8 (-1) [(((x.n:Int)%8),sB x.z)]=true:=by
  unfold zL zL;have:x.n%8<8:=Nat.mod_lt _ (by decide);simp[qvA];omega
 have hbl:(zA t m).base.length=(zA t m).live.length:=by
  rw[oz,xZ,(dP h.ok).1,hl]
 have hm:(zA t m).may (1,next)=if mt.above (1,next) (qB m)=true then(if 20≤m.qa.length then 3 else 0)else 2:=by
  unfold ch.CH.may;rw[oy];have:(zA t m).qa.length=m.qa.length:=by simp[zA]
  rw[this];rfl
 have he:zM m.live.length m.qa.length (qB m) ⟨qB m,(1,next),1,1⟩ [(((x.n:Int)%8),sB x.z)]=(zA t m).may (1,next):=by
  rw[hm,h.ok.len];unfold zM;dsimp only;rw[hx];cases mt.above (1,next) (qB m) <;> simp
 have ha:=qi2 (zA t m) (1,next) [(((x.n:Int)%8),sB x.z)] (by rw[hl];exact hx) hbl;have mA:zC m ⟨qB m,(1,next),1,1⟩=xN m:=by
  unfold zC;rw[aV,if_neg];intro h;have h2:(0:Int)=1:=h.2.2;exact absurd h2 (by decide)
 rcases wO h ⟨qB m,(1,next),1,1⟩ hgd [(((x.n:Int)%8),sB x.z)]with⟨h7,hf,_⟩|⟨g1,g2⟩
 ·exact .inl ⟨h7,hf.far h.ok (by simp)⟩
 ·right
  rw[he]at g1;rw[g1,ha];by_cases hm0:(zA t m).may (1,next)=0
  ·rw[if_pos hm0];refine⟨hm0,fun _=>?_,fun hc=>absurd hm0 hc⟩;obtain⟨d1,d2⟩:=(g2 (by rw[g1];exact hm0)).whole rfl;rw[mA,← oz]at d1;exact⟨d1,d2⟩
  ·rw[if_neg hm0];exact⟨rfl,fun hc=>absurd hc hm0,fun _=>rfl⟩
end
end Go.Proofs.YtdagdllomphidaaGreatDoor.vt
namespace Go.Proofs.YtdagdllomphidaaGreatDoor.ch
open _root_.Go.Proofs.Tryz Go Go.RowKit ib
theorem aa (c:UInt8)(w:World):Calls prog 18 #[.int .u8 (c.toNat:Int)] w (okS (gG c) w):=by
 have hc0:(0:Int)≤(c.toNat:Int):=by omega
 have hc1:(c.toNat:Int)<256:=by have:=c.toNat_lt;omega
 go_enter func18,ntmps18;go_wp2_with (at_make;refine qg rfl (qbL _ _ 32 rfl rfl rfl (by decide)) ?_;rw[← qes c]);have hb0:qf (w.alloc (.cells (vK c 0) 5)) w.heap.size 5 (vK c 0):=qf.new _ _ _;have hB0:Below w.heap.size w (w.alloc (.cells (vK c 0) 5)):=(Below.refl _ w).alloc (Nat.le_refl _) _;have Hb0:=QH hb0;have xn:=QH hB0;clear hb0 hB0;generalize w.alloc (.cells (vK c 0) 5)=W0 at *;go_loopw [4] (fun i wr=>∃k:Nat,k≤32∧i=.int .i64 (k:Int)∧qf wr w.heap.size 5 (vK c k)∧Below w.heap.size w wr) (fun i _=>32-(intOf i).toNat);case atStart=>exact⟨0,by omega,rfl,Hb0.out,xn.out⟩
 case round =>
  obtain⟨k,hk,rfl,yu,hBk⟩:=hrel;have yD:=QH yu;have HB:=QH hBk;by_cases hlt:k<32
  ·have hcell:(wr.cell? ⟨w.heap.size,k,none⟩).isSome=true:=by
      rw[yu.cell k,Array.getElem?_eq_getElem (by rw[qet c k hk];exact hlt)];rfl
   obtain⟨u,hu⟩:=Option.isSome_iff_exists.1 hcell;have hf:=yu.frozen k;clear yu hBk hcell;go_wp2_with fail;go_roundw;case rel=>exact⟨k+1,by omega,by go_num,by rw[← qh4 c k hlt];exact yD.out.qo k _,HB.out.setCell (Nat.le_refl _) _⟩
   case measure=>simp[intOf];omega
  ·have q5C:k=32:=by omega
   clear yu hBk hk hlt;subst q5C;have hP:=yD.out;rw[qeu]at hP;have HP:=QH hP;clear hP;by_cases qro:c.toNat≤250
   ·have hcv:=wA (rep c 32) w.heap.size 32 5 wr (br _ _) HP.out;have hd:gG c=rep c 32:=by unfold gG;rw[if_pos qro]
    have HD:=QH hd;have q0r:¬ 250<(c.toNat:Int):=by omega
    clear hd qro;go_wp2_with fail;go_ret;exact⟨(by rw[HD.out];rfl),HB.out⟩
   ·have hd:gG c=rep c (c.toNat%31):=by unfold gG;rw[if_neg qro]
    have HD:=QH hd;have hm:c.toNat%31<31:=Nat.mod_lt _ (by decide);have hcv:=qh3 (rep c (c.toNat%31)) _ w.heap.size 32 5 wr HP.out (by
     intro j u hu;have hj:j<c.toNat%31:=by have:=(List.getElem?_eq_some_iff.1 hu).1;simpa[Lib.byteCells,rep]using this
     simp only[Lib.byteCells,rep,List.map_replicate,List.getElem?_toArray,List.getElem?_replicate]at hu ⊢;rw[if_pos hj]at hu;rw[if_pos (by omega)];exact hu)
    rw[br]at hcv;have q0r:250<(c.toNat:Int):=by omega
    have hmi:((c.toNat:Int)%31).toNat=c.toNat%31:=by omega
    have zc5:0≤(c.toNat:Int)%31:=by omega
    have zc6:(c.toNat:Int)%31≤32:=by omega
    clear hd qro;go_wp2_with fail;go_ret;exact⟨(by rw[HD.out];rfl),HB.out⟩
def PtL (w:World)(A:Option Addr)(zs:List (Int × UInt8)):Prop :=
 ∀i (h:i<zs.length),∃b o,A=some ⟨b,o,none⟩∧b<w.heap.size∧w.cell? ⟨b,o+i*2,none⟩=some (.int .i64 zs[i].1)∧w.cell? ⟨b,o+i*2+1,none⟩=some (.int .u8 (zs[i].2.toNat:Int))∧yS zs[i].1
theorem PtL.below{w w':World}{A:Option Addr}{x:List (Int × UInt8)}(h:PtL w A x)(hb:Below w.heap.size w w'):PtL w' A x:=by
 intro i hi;obtain⟨b,o,h1,h2,h3,h4,h5⟩:=h i hi;exact⟨b,o,h1,Nat.lt_of_lt_of_le h2 hb.size,by rw[hb.cell (p:=⟨b,o+i*2,none⟩) h2];exact h3,by rw[hb.cell (p:=⟨b,o+i*2+1,none⟩) h2];exact h4,h5⟩
def aP (zs:List (Int × UInt8)):List (Int × Bt):=(zs.take 10).map fun x=>(x.1,gG x.2)
theorem qbs(W:World)(j:Int)(a:UInt8)(hj:yS j):PtL (W.alloc (.cells #[.int .i64 j,.int .u8 (a.toNat:Int)] 73)) (some ⟨W.heap.size,0,none⟩) [(j,a)]:=by
 intro i hi;obtain rfl:i=0:=by simpa using hi
 exact⟨W.heap.size,0,rfl,by simp,(qf.new W _ _).cell 0,(qf.new W _ _).cell 1,hj⟩
def CG (vo:Value)(bb bo k n c:Nat)(x1:Int)(x2:Nat)(S:ByteArray):Nat→Value→World→Prop
 | 0,v,_=>v=vo
 | 1,v,_=>v=.slice (some ⟨bb,bo,none⟩) n c
 | 2,v,_=>v=.int .i64 (k:Int)
 | 3,v,_=>v=.pointer (some ⟨bb,bo+k*2,none⟩)
 | 4,v,_=>v=.pointer (some ⟨bb,bo+k*2,none⟩)
 | 5,v,_=>v=.int .i64 x1
 | 6,v,_=>v=.slice (some ⟨bb,bo,none⟩) n c
 | 7,v,_=>v=.int .i64 (k:Int)
 | 8,v,_=>v=.pointer (some ⟨bb,bo+k*2,none⟩)
 | 9,v,_=>v=.pointer (some ⟨bb,bo+k*2+1,none⟩)
 | 10,v,_=>v=.int .u8 (x2:Int)
 | 11,v,_=>v=.string S
 | 12,v,_=>v=.agg #[.int .i64 x1,.string S]
 | 13,v,w=>∃g,v=.slice (some ⟨g,0,none⟩) 1 1∧qf w g 62 #[.int .i64 x1,.string S]
 | _,_,_=>True
theorem qrp(vo:Value)(bb bo k n c:Nat)(x1:Int)(x2:Nat)(S:ByteArray)(i:Nat)(v:Value)(w w':World)(hi:i<14)(h:CG vo bb bo k n c x1 x2 S i v w)(hb:Below w.heap.size w w'):CG vo bb bo k n c x1 x2 S i v w':=by
 match i,hi,h with
 | 0,_,h | 1,_,h | 2,_,h | 3,_,h | 4,_,h | 5,_,h | 6,_,h | 7,_,h | 8,_,h | 9,_,h | 10,_,h | 11,_,h | 12,_,h=>exact h
 | 13,_,⟨g,h1,h2⟩=>exact⟨g,h1,h2.below hb⟩
def q0s (zs:List (Int × UInt8))(w:World)(v i:Value)(wr:World):Prop :=
 ∃k:Nat,k≤zs.length∧k≤10∧i=.int .i64 (k:Int)∧wk wr w.heap.size v (aP (zs.take k))∧Below w.heap.size w wr
theorem qjJ(zs:List (Int × UInt8))(k:Nat)(h:k<zs.length)(h10:k<10):aP (zs.take (k+1))=aP (zs.take k)++[(zs[k].1,gG zs[k].2)]:=by
 unfold aP;rw[List.take_take,List.take_take,Nat.min_eq_right (by omega),Nat.min_eq_right (by omega),List.take_succ_eq_append_getElem h,List.map_append];rfl
theorem qof(zs:List (Int × UInt8))(k:Nat)(h:k≤zs.length)(h10:k≤10):(aP (zs.take k)).length=k:=by
 unfold aP;rw[List.take_take,List.length_map,List.length_take];omega
theorem qjK(zs:List (Int × UInt8))(k:Nat)(h:k≤zs.length)(h10:k≤10)(he:¬ (k<zs.length∧k<10)):aP (zs.take k)=aP zs:=by
 unfold aP;rw[List.take_take]
 congr 1
 by_cases h:k=zs.length
 ·subst h;rw[← List.take_take,List.take_length]
 ·have:k=10:=by omega
  subst this;rw[Nat.min_self]
theorem qd9{zs:List (Int × UInt8)}(h:∀x∈zs,yS x.1):∀x∈aP zs,yS x.1:=by
 intro x hx;obtain⟨y,hy,rfl⟩:=List.mem_map.1 hx;exact h y (List.mem_of_mem_take hy)
theorem kD (A:Option Addr)(cp:Nat)(zs:List (Int × UInt8))(w:World)(hT:PtL w A zs)(hl:zs.length≤9223372036854775807) :
    Calls prog 29 #[.slice A zs.length cp] w (qyY (aP zs) w):=by
 obtain⟨i0,hi,hz0,hz1,hz2⟩:=info_parts qfD;have HT:=QH hT;have HZB:Hid (∀x∈zs,yS x.1):=fun x hx=>by
  obtain⟨i,hi,rfl⟩:=List.getElem_of_mem hx;obtain⟨_,_,_,_,_,_,h⟩:=hT i hi;exact h
 clear hT;go_enter func29,ntmps29;go_wp2_with fail;go_loopw [3,4] (fun v i wr=>q0s zs w v i wr) (fun _ i _=>11-(intOf i).toNat);case atStart=>exact⟨0,Nat.zero_le _,Nat.zero_le _,rfl,World.ownsRow_nil _ _ _ _,Below.refl _ _⟩
 case round =>
  obtain⟨k,hk,qjq,rfl,ho,hB⟩:=hrel;have HO:=QH ho;have HB:=QH hB;clear ho hB;by_cases hgo:k<zs.length∧k<10
  ·obtain⟨hlt,q0t⟩:=hgo;obtain⟨bb,bo,rfl,hbb,c0,c1,cb⟩:=HT.out k hlt;have kI:=QH (qjJ zs k hlt q0t);have aM:=QH (qof zs k hk qjq);obtain⟨A5,c5,hv5,_⟩:=HO.out.view (fun y hy=>qd9 (zs:=zs.take k) (fun z hz=>HZB.out z (List.mem_of_mem_take hz)) y hy);rw[aM.out]at hv5;subst hv5;have q0:wr.cell? ⟨bb,bo+k*2,none⟩=some (.int .i64 zs[k].1):=by rw[HB.out.cell (p:=⟨bb,bo+k*2,none⟩) hbb];exact c0
   have q1:wr.cell? ⟨bb,bo+k*2+1,none⟩=some (.int .u8 (zs[k].2.toNat:Int)):=by rw[HB.out.cell (p:=⟨bb,bo+k*2+1,none⟩) hbb];exact c1
   have lA:bb<wr.heap.size:=Nat.lt_of_lt_of_le hbb HB.out.size;have oX:(k:Int)<(zs.length:Int):=by omega
   have q8F:(k:Int)<10:=by omega
   clear c0 c1 cb;generalize zs[k]=x at *;have Q0:=QH q0;have Q1:=QH q1;clear q0 q1;have hcz:=x.2.toNat_lt;obtain⟨S,hS⟩:=QE (str (gG x.2));have HD:=QH (fun W=>aa x.2 W);have HS:=QH hS;clear hS;go_wp2_with fail;refine qM (by kernel_rfl) 14 [15,16,17,18,19,20,21,22,23,24,25,26,27,28] (by kernel_rfl) (CG (.slice A5 k c5) bb bo k zs.length cp x.1 x.2.toNat S) (qrp _ _ _ _ _ _ _ _ _) ?_ ?_
   ·intro i o vs ρ W hi ho hρ hfn hb hG;have t3:ρ (.tmp 3)=.slice A5 k c5:=hρ.out 3 rfl;have t0:ρ (.tmp 0)=.slice (some ⟨bb,bo,none⟩) zs.length cp:=hρ.out 0 rfl;have t4:ρ (.tmp 4)=.int .i64 (k:Int):=hρ.out 4 rfl;have s1:=hρ.at_ 16 1 rfl;have s2:=hρ.at_ 17 2 rfl;have s3:=hρ.at_ 18 3 rfl;have s4:=hρ.at_ 19 4 rfl;have s5:=hρ.at_ 20 5 rfl;have s6:=hρ.at_ 21 6 rfl;have s7:=hρ.at_ 22 7 rfl;have s8:=hρ.at_ 23 8 rfl;have s9:=hρ.at_ 24 9 rfl;have s10:=hρ.at_ 25 10 rfl;have sw:=hρ.at_ 26 11 rfl;have s12:=hρ.at_ 27 12 rfl;have hc:=hρ.const;have q0:W.cell? ⟨bb,bo+k*2,none⟩=some (.int .i64 x.1):=by rw[hb.cell (p:=⟨bb,bo+k*2,none⟩) lA];exact Q0.out
    have q1:W.cell? ⟨bb,bo+k*2+1,none⟩=some (.int .u8 (x.2.toNat:Int)):=by rw[hb.cell (p:=⟨bb,bo+k*2+1,none⟩) lA];exact Q1.out
    rcases i with _|_|_|_|_|_|_|_|_|_|_|_|_|_|i;all_goals (first|omega|skip)
    all_goals simp only[QA,QB,QC,Option.some.injEq]at ho
    all_goals subst ho
    ·exact q9 (w':=W) (by unfold execOp;simp only[t3];go_simp) ⟨Below.refl _ _,rfl⟩
    ·exact q9 (w':=W) (by unfold execOp;simp only[t0];go_simp) ⟨Below.refl _ _,rfl⟩
    ·exact q9 (w':=W) (by unfold execOp;simp only[t4];go_simp) ⟨Below.refl _ _,rfl⟩
    ·have g1:vs 1=_:=hG 1 (by kernel_rfl);have g2:vs 2=_:=hG 2 (by kernel_rfl);exact q9 (w':=W) (by unfold execOp;simp only[s1,g1,s2,g2];go_simp) ⟨Below.refl _ _,rfl⟩
    ·have g3:vs 3=_:=hG 3 (by kernel_rfl);exact q9 (w':=W) (by unfold execOp;simp only[s3,g3];go_simp) ⟨Below.refl _ _,rfl⟩
    ·have g4:vs 4=_:=hG 4 (by kernel_rfl);exact q9 (w':=W) (by unfold execOp;simp only[s4,g4];go_simp) ⟨Below.refl _ _,rfl⟩
    ·exact q9 (w':=W) (by unfold execOp;simp only[t0];go_simp) ⟨Below.refl _ _,rfl⟩
    ·exact q9 (w':=W) (by unfold execOp;simp only[t4];go_simp) ⟨Below.refl _ _,rfl⟩
    ·have g6:vs 6=_:=hG 6 (by kernel_rfl);have g7:vs 7=_:=hG 7 (by kernel_rfl);exact q9 (w':=W) (by unfold execOp;simp only[s6,g6,s7,g7];go_simp) ⟨Below.refl _ _,rfl⟩
    ·have g8:vs 8=_:=hG 8 (by kernel_rfl);exact q9 (w':=W) (by unfold execOp;simp only[s8,g8];go_simp) ⟨Below.refl _ _,rfl⟩
    ·have g9:vs 9=_:=hG 9 (by kernel_rfl);exact q9 (w':=W) (by unfold execOp;simp only[s9,g9];go_simp) ⟨Below.refl _ _,rfl⟩
    ·have g10:vs 10=_:=hG 10 (by kernel_rfl);refine qi (f:=18) (args:=#[.int .u8 (x.2.toNat:Int)]) (w':=W) (by unfold execOp;simp only[hc,hfn,s10,g10];go_simp) ((HD.out W).mono ?_);rintro e W' ⟨rfl,hb'⟩;exact⟨_,rfl,hb',by rw[HS.out];rfl⟩
    ·have g5:vs 5=_:=hG 5 (by kernel_rfl);have g11:vs 11=_:=hG 11 (by kernel_rfl);exact q9 (w':=W) (by unfold execOp;simp only[s5,g5,sw,g11];go_simp) ⟨Below.refl _ _,rfl⟩
    ·have g12:vs 12=_:=hG 12 (by kernel_rfl);refine q9 (w':=W.alloc (.cells #[.int .i64 x.1,.string S] 62)) (v:=.slice (some ⟨W.heap.size,0,none⟩) 1 1) (by unfold execOp;simp only[s12,g12];go_simp) ⟨(Below.refl _ W).alloc (Nat.le_refl _) _,W.heap.size,rfl,qf.new _ _ _⟩
   ·intro vs W hb hG;have g0:vs 0=_:=hG 0 (by decide);obtain⟨g,g13,yu⟩:=hG 13 (by decide);have B2:=QH (qc HB.out hb);have wR:Hid (W.ownsRow w.heap.size 62 2 (.slice A5 k c5) k (kM (aP (zs.take k)))):=by
     have ho:=HO.out;unfold wk at ho;rw[aM.out]at ho;refine⟨ho.1,?_⟩;rcases ho.2 with h2|⟨g',cap,cur,h1,h2,h3,h4⟩
     ·exact .inl h2
     ·exact .inr ⟨g',cap,cur,h1,h2,(hb.block g' (Array.getElem?_eq_some_iff.1 h3).1).trans h3,h4⟩
    have aN:Hid (∀(j:Nat) (u:Value),([.int .i64 x.1,.string S]:List Value)[j]?=some u→W.cell? ((⟨g,0,none⟩:Addr).add j)=some u):=by
     intro j u hj
     match j,hj with
     | 0,hj =>
      simp at hj;subst hj;rw[addr_add];exact yu.cell 0
     | 1,hj =>
      simp at hj;subst hj;rw[addr_add];exact yu.cell 1
    simp only[qW,qK,if_true];rw[g0,g13];generalize vs 1=y1;generalize vs 2=y2;generalize vs 3=y3;generalize vs 4=y4;generalize vs 5=y5;generalize vs 6=y6;generalize vs 7=y7;generalize vs 8=y8;generalize vs 9=y9;generalize vs 10=y10;generalize vs 11=y11;generalize vs 12=y12;clear hG g0 g13 yu;simp only[Act.put,List.setIfInBounds_toArray,List.set_cons_succ,List.set_cons_zero];refine qI (i:=14) (by kernel_rfl) rfl rfl ?_;have qjE:∀u∈([Value.int .i64 x.1,.string S]:List Value),u.oneCell'=true:=by
     rw[← HS.out];exact qaP (x.1,gG x.2)
    refine wp_append_own W (.tmp 15) (.tmp 28) 60 rfl w.heap.size 62 i0 (.agg #[.int .i64 0,.string ByteArray.empty]) 2 24 underlying60 hi hz0 hz1 hz2 rfl (by decide) _ k _ rfl wR.out ⟨g,0,none⟩ 1 1 [.int .i64 x.1,.string S] rfl rfl aN.out qjE (by unfold maxLen;omega) (by omega) B2.out.size ?_;intro v' w1 hown hgrow _;have qV:=QH (B2.out.grown hgrow B2.out.size (fun j hj=>(wR.out.lt j hj).1));have HOS:Hid (wk w1 w.heap.size v' (aP (zs.take (k+1)))):=by
     unfold Hid;rw[kI.out];refine wk.snoc (x:=(x.1,gG x.2)) ?_;rw[aM.out,HS.out];exact hown
    obtain⟨A6,c6,hv6,_⟩:=HOS.out.view (fun y hy=>qd9 (zs:=zs.take (k+1)) (fun z hz=>HZB.out z (List.mem_of_mem_take hz)) y hy);clear hown hgrow hb;subst hv6;go_simp;refine qI (i:=15) (by kernel_rfl) rfl rfl ?_;go_simp;refine⟨by kernel_rfl,?_⟩;go_wp2_with fail;go_roundw;case rel=>exact⟨k+1,by omega,by omega,by go_num,HOS.out,qV.out⟩
    case measure=>simp[intOf];omega
  ·have HE:=QH (qjK zs k hk qjq hgo);by_cases hkl:(k:Int)<(zs.length:Int)
   ·have zJ:¬ ((k:Int)<10):=by omega
    go_wp2_with fail;go_ret;exact⟨_,rfl,by rw[← HE.out];exact HO.out,HB.out⟩
   ·go_wp2_with fail;go_ret;exact⟨_,rfl,by rw[← HE.out];exact HO.out,HB.out⟩
theorem xj (e c:Nat)(w:World):Calls prog 23 #[.int .u64 (e:Int),.int .u64 (c:Int)] w fun x w'=>x=.returned (gv (e,c))∧Below w.heap.size w w':=by
 go_enter func23,ntmps23;go_wp2_with fail;have q0:(w.alloc (.cells #[.int .u64 (e:Int),.int .u64 (c:Int)] 55)).cell? ⟨w.heap.size,0,none⟩=some (.int .u64 (e:Int)):=(qf.new w _ _).cell 0;have q1:(w.alloc (.cells #[.int .u64 (e:Int),.int .u64 (c:Int)] 55)).cell? ⟨w.heap.size,1,none⟩=some (.int .u64 (c:Int)):=(qf.new w _ _).cell 1;refine bodyPost_ret (v:=gv (e,c)) (by simp[results,results23,go_sem,q0,q1,gv]) rfl ?_;exact⟨rfl,(Below.refl w.heap.size w).alloc (Nat.le_refl _) _⟩
end Go.Proofs.YtdagdllomphidaaGreatDoor.ch
namespace Go.Proofs.YtdagdllomphidaaGreatDoor.vt
open _root_.Go.Proofs.Tryz Go Go.RowKit ib jr mt im sp
theorem gu {w wr:World}(h:Below w.heap.size w wr)(n:Nat):Below w.heap.size w (wr.drewN n):=⟨h.os,h.tape,h.output,h.size,h.block⟩
def yP (x:DoP):Array Value:=#[.int .u8 (x.k:Int),.int .u8 (x.n:Int),.int .u8 (x.z.toNat:Int)]
def StP (IV:yZ)(IC:ch.lL)(B:Nat)(X:Nat→Prop)(v pd p N:Nat)(t:Tg)(s:Tri)(x:DoP)(next:Nat)(w:World)(e:Ending)(w':World):Prop :=
 ∃r d' m' l',e=.returned (.tuple #[.int .i64 r,.int .i64 (xp s.c x next).2])∧V3 IV IC w' B X v pd p ⟨d',m',(xp s.c x next).1,l'⟩∧Ke B X w w'∧yn N t s.d s.m (jH N s.m x next) r d' m' l'
theorem qjL(z:UInt8)(w:World):Calls prog 18 #[.int .u8 ((z.toNat:Int)%200)] w (okS (sB z) w):=by
 have h:=ch.aa (UInt8.ofNat (z.toNat%200)) w;have e:((UInt8.ofNat (z.toNat%200)).toNat:Int)=(z.toNat:Int)%200:=by
  rw[UInt8.toNat_ofNat'];omega
 rw[e]at h;exact h
def StS (IV:yZ)(IC:ch.lL)(B:Nat)(X:Nat→Prop)(v pd p:Nat)(w0:World)(s:Tri)(c':ch.CH)(Q:Int→DD→Mt→Bool→Prop)(x:Value)(a b:Bool)(W:World):Prop :=
 Ke B X w0 W∧if a=true then ∃r d' m' l',x=.int .i64 r∧Q r d' m' l'∧V3 IV IC W B X v pd p ⟨d',m',if b then c' else s.c,l'⟩else V3 IV IC W B X v pd p s
section
variable {IV:yZ} {IC:ch.lL} (H:j9 IV) (HC:ch.Ops IC) {B v pd p:Nat} {X:Nat→Prop} {w0 W W':World} {s:Tri} {c':ch.CH} {Q:Int→DD→Mt→Bool→Prop} {x:Value} {a b:Bool}
theorem qvC(h:StS IV IC B X v pd p w0 s c' Q x a b W):Ke B X w0 W:=h.1
include H HC
theorem tR (h:StS IV IC B X v pd p w0 s c' Q x a b W)(hb:Below W.heap.size W W'):StS IV IC B X v pd p w0 s c' Q x a b W':=by
 refine⟨h.1.trans (Ke.of_below hb),?_⟩;have h2:=h.2;cases a with
 | true =>
  rw[if_pos rfl]at h2 ⊢;obtain⟨r,d',m',l',h3,h4,h5⟩:=h2;exact⟨r,d',m',l',h3,h4,h5.below H HC hb⟩
 | false=>exact V3.below H HC h2 hb
theorem qjN(h:V3 IV IC w0 B X v pd p s):StS IV IC B X v pd p w0 s c' Q x false false w0.drew :=
 ⟨Ke.of_below (gu (Below.refl _ _) 1),h.below H HC (gu (Below.refl _ _) 1)⟩
omit H in
theorem q0u(h:StS IV IC B X v pd p w0 s c' Q x false false W)(hB:B≤w0.heap.size){f:Nat}{args:Array Value}(hc:∀o1 o2,VP IV W o1 o2 v pd s.d s.m s.lost→(∀j,o1 j∨o2 j→B≤j∧¬ X j)→Calls prog f args W (kK IV o1 o2 v pd Q W)) :
    Calls prog f args W fun e W'=>∃r,e=.returned r∧StS IV IC B X v pd p w0 s c' Q r true false W':=by
 refine(vZ HC h.2 (Nat.le_trans hB h.1.size) hc).mono ?_;rintro e W' ⟨r,d',m',l',he,hv,hk,hq⟩;exact⟨_,he,h.1.trans hk,by rw[if_pos rfl];exact⟨r,d',m',l',rfl,hq,hv⟩⟩
omit HC in
theorem q0v(h:StS IV IC B X v pd p w0 s c' Q x true false W)(hB:B≤w0.heap.size){f:Nat}{args:Array Value}{er:Int}(hc:∀o3,IC o3 W p s.c→(∀j,o3 j→B≤j∧¬ X j)→Calls prog f args W (ch.Aft IC o3 p (c',er) W)) :
    Calls prog f args W fun e W'=>e=.returned (.int .i64 er)∧StS IV IC B X v pd p w0 s c' Q x true true W':=by
 have h2:=h.2;rw[if_pos rfl]at h2;obtain⟨r,d',m',l',hx,hq,hv⟩:=h2;refine(w6 H hv (Nat.le_trans hB h.1.size) (r:=(c',er)) hc).mono ?_;rintro e W' ⟨he,hv',hk⟩;exact⟨he,h.1.trans hk,by rw[if_pos rfl];exact⟨r,d',m',l',hx,hq,hv'⟩⟩
omit H HC in
theorem qrq(h:StS IV IC B X v pd p w0 s c' Q x true true W):Ke B X w0 W∧∃r d' m' l',x=.int .i64 r∧Q r d' m' l'∧V3 IV IC W B X v pd p ⟨d',m',c',l'⟩:=by
 have h2:=h.2;rw[if_pos rfl]at h2;exact⟨h.1,h2⟩
theorem rk {w:World}(h:V3 IV IC w B X v pd p s)(cs:Array Value)(t:TypeId):V3 IV IC (w.alloc (.cells cs t)) B (fun j=>X j∨j=w.heap.size) v pd p s :=
 h.more H HC ((Below.refl _ w).alloc (Nat.le_refl _) _) fun j hj=>by rcases hj with h|rfl;exact .inl h;exact .inr ⟨Nat.le_refl _,by simp⟩
end
end Go.Proofs.YtdagdllomphidaaGreatDoor.vt
namespace Go.Proofs.YtdagdllomphidaaGreatDoor.vt
open _root_.Go.Proofs.Tryz Go Go.RowKit ib jr mt im sp
def MdP (IV:yZ)(b:Nat)(w:World)(e:Ending)(w':World):Prop :=
 ∃v pd t d o1 o2,e=.returned (.tuple #[.pointer (some ⟨pd,0,none⟩),.pointer (some ⟨v,0,none⟩)])∧VP IV w' o1 o2 v pd d (m0 b) false∧JJ 400 t d∧qT b 400 t (m0 b)∧d.qp=0∧Below w.heap.size w w'∧∀j,o1 j∨o2 j→w.heap.size≤j
theorem qog{IV:yZ}(H:j9 IV)(b:Nat)(h1:1≤b)(h8:b≤8)(w:World)(ht:xJ w):Calls prog 9 #[.int .i64 (b:Int)] w (MdP IV b w):=by
 go_enter func9,ntmps9;go_wp2_with fail;refine(dk.ux 1000 400 400 (by decide) (by decide) (by decide) (by decide) w).mono ?_;rintro e W1 ⟨pd,o,rfl,hd,hb1,ho⟩;go_wp2_with fail;refine(H.iD b 400 400 hd (xo ht hb1 (zK ht)) (fun h=>by have h1:=ho _ h;have h2:=zK ht;omega) h1 h8 (by decide) (by decide) (by decide)).mono ?_;rintro e W2 ⟨rfl,t,d,o',hd2,hj,hr,hf,ya,ho'⟩;have hs1:=hb1.size;have hb2:Below w.heap.size w W2:=hb1.trans (ya.below (fun j hj=>ho j hj) hs1);have ho2:∀j,o' j→w.heap.size≤j:=fun j hj=>by
  rcases ho' j hj with h|h
  ·exact ho j h
  ·omega
 have hs2:=hb2.size;have bB:xJ W2:=xo ht hb2 (zK ht);have hn2:¬ o' gN:=fun h=>by have h1:=ho2 _ h;have h2:=zK ht;omega
 clear hd hb1 ho ya ho' hs1;go_wp2_with fail;refine(H.mQ hd2 bB hn2 hj.toRJ hf hr).mono ?_;rintro e W3 ⟨v,d',o1,o2,rfl,hv,hj',hf',ya,h1',h2'⟩;have hb3:Below w.heap.size w W3:=hb2.trans (ya.below (fun j hj=>ho2 j hj) hs2);have ho3:∀j,o1 j∨o2 j→w.heap.size≤j:=fun j hj=>by
  rcases hj with hj|hj
  ·have:=h1' j hj;omega
  ·rcases h2' j hj with h|h
   ·exact ho2 j h
   ·omega
 have HV:=QH hv;clear hv hd2 hj ya h1' h2' hb2 ho2;go_wp2_with fail;go_ret2;exact⟨v,pd,t,d',o1,o2,rfl,HV.out,hj',hr,hf',hb3,ho3⟩
def VW (IV:yZ)(w:World)(B:Nat)(X:Nat→Prop)(v pd:Nat)(Q:Tg→Mt→Prop):Prop :=
 ∃t d m o1 o2,VP IV w o1 o2 v pd d m false∧(∀j,o1 j∨o2 j→B≤j∧¬ X j)∧((∀j,X j→j<w.heap.size)∧¬ X gN)∧qT 2 250 t m∧JJ 250 t d∧d.qp=0∧Q t m
def Left (Q:Tg→Mt→Prop)(r0 r:Int)(d':DD)(m':Mt)(l':Bool):Prop:=r=r0∧l'=false∧d'.qp=0∧∃t',JJ 250 t' d'∧qT 2 250 t' m'∧Q t' m'
section
variable {IV:yZ} (H:j9 IV) {w w':World} {B v pd:Nat} {X:Nat→Prop} {Q Q':Tg→Mt→Prop}
include H
theorem VW.below(h:VW IV w B X v pd Q)(hb:Below w.heap.size w w'):VW IV w' B X v pd Q:=by
 obtain⟨t,d,m,o1,o2,h1,h2,h3,h4⟩:=h;exact⟨t,d,m,o1,o2,h1.keep H (fun j hj=>hb.block j (h1.low H j hj)) hb.size,h2,⟨fun j hj=>Nat.lt_of_lt_of_le (h3.1 j hj) hb.size,h3.2⟩,h4⟩
theorem VW.more(h:VW IV w B X v pd Q)(hb:Below w.heap.size w w'){Y:Nat→Prop}(hY:∀j,Y j→X j∨(w.heap.size≤j∧j<w'.heap.size)):VW IV w' B Y v pd Q:=by
 obtain⟨t,d,m,o1,o2,h1,h2,h3,h4⟩:=h;refine⟨t,d,m,o1,o2,h1.keep H (fun j hj=>hb.block j (h1.low H j hj)) hb.size,fun j hj=>⟨(h2 j hj).1,fun hy=>?_⟩,⟨fun j hj=>?_,fun hy=>?_⟩,h4⟩
 ·rcases hY j hy with h|h
  ·exact(h2 j hj).2 h
  ·have:=h1.low H j (.inl hj);omega
 ·rcases hY j hj with h|h
  ·exact Nat.lt_of_lt_of_le (h3.1 j h) hb.size
  ·exact h.2
 ·rcases hY gN hy with h|h
  ·exact h3.2 h
  ·have:=h1.low H gN (.inr rfl);omega
theorem VW.turn(h:VW IV w B X v pd Q)(hb:qx X w w'):VW IV w' B X v pd Q:=by
 obtain⟨t,d,m,o1,o2,h1,h2,h3,h4⟩:=h;exact⟨t,d,m,o1,o2,h1.keep H (fun j hj=>hb.block j (h1.low H j hj) (hj.elim (fun hj=>(h2 j hj).2) (fun hj=>by rw[hj];exact h3.2))) hb.size,h2,⟨fun j hj=>Nat.lt_of_lt_of_le (h3.1 j hj) hb.size,h3.2⟩,h4⟩
omit H in
theorem n4 (h:VW IV w B X v pd Q)(hB:B≤w.heap.size){f:Nat}{args:Array Value}{r0:Int}{P:Tg→Mt→eF}
    (hc:∀o1 o2 t d m,VP IV w o1 o2 v pd d m false→(∀j,o1 j∨o2 j→¬ X j)→qT 2 250 t m→JJ 250 t d→d.qp=0→Q t m→Calls prog f args w (kK IV o1 o2 v pd (yn 250 t d m (P t m)) w))
    (hs:∀t d m r d' m' l',qT 2 250 t m→JJ 250 t d→d.qp=0→Q t m→yn 250 t d m (P t m) r d' m' l'→Left Q' r0 r d' m' l') :
    Calls prog f args w fun e w'=>e=.returned (.int .i64 r0)∧VW IV w' B X v pd Q'∧Ke B X w w':=by
 obtain⟨t,d,m,o1,o2,h1,h2,h3,h4,h5,h6,h7⟩:=h;refine(hc o1 o2 t d m h1 (fun j hj=>(h2 j hj).2) h4 h5 h6 h7).mono ?_;rintro e w' ⟨r,d',m',l',aF,gO,rfl,hp,hb,hg,hq⟩;obtain⟨rfl,rfl,hf,t',g1,g2,g3⟩:=hs t d m r d' m' l' h4 h5 h6 h7 hq;refine⟨rfl,⟨t',d',m',aF,gO,hp,fun j hj=>?_,⟨fun j hj=>Nat.lt_of_lt_of_le (h3.1 j hj) hb.size,h3.2⟩,g2,g1,hf,g3⟩,hb.mono h2⟩;rcases hg j hj with h|h
 ·exact h2 j h
 ·exact⟨by omega,fun hx=>by have:=h3.1 j hx;omega⟩
end
section
variable {t:Tg} {d d':DD} {m m':Mt} {r:Int} {l':Bool}
theorem qvD{P:eF}(hj:JJ 250 t d)(h:qT 2 250 t m)(hf:d.qp=0){Q:Tg→Mt→Prop}(hQ:Q t m)(hc:P.code≠0)(hq:yn 250 t d m P r d' m' l'):Left Q P.code r d' m' l':=by
 rcases hq with⟨_,rfl,rfl,rfl,rfl⟩|⟨h0,_⟩|⟨h0,_⟩
 ·exact⟨rfl,rfl,hf,t,hj,h,hQ⟩
 ·exact absurd h0 hc
 ·exact absurd h0 hc
theorem l8 {P:eF}{c:ch.CH}(h:qT 2 250 t m)(hf:d.qp=0){Q:Tg→Mt→Prop}(hc:P.code=0)(hd:Does 2 250 t m P c)(hQ:∀t',zA t' P.m=c→Q t' P.m)(hq:yn 250 t d m P r d' m' l'):Left Q 0 r d' m' l':=by
 rcases hq with⟨h0,_⟩|⟨_,rfl,hj',rfl,rfl,hf',_⟩|⟨_,_,_,_,h0,_⟩
 ·exact absurd hc h0
 ·obtain⟨d1,d2,d3⟩:=hd;exact⟨rfl,rfl,hf' hf,_,hj',h.next d1 d2,hQ _ d3⟩
 ·exact absurd hf h0
theorem qhs(hs:m.qa.length≤2){x:List (Int × Bt)}(hx:x.length≤8):¬ eI 2 250 m x:=by
 unfold eI;omega
theorem qoh(h:qT 2 250 t m)(hs:m.qa.length≤2)(k:Int)(s:Bt)(hc:((zA t m).write k s).2=0) :
    (zn 250 m k s).code=0∧Does 2 250 t m (zn 250 m k s) ((zA t m).write k s).1∧∃a,(zn 250 m k s).m={ m with live:=m.live.set k.toNat a }:=by
 rcases bO h k s with⟨_,hf⟩|⟨h1,h2,_⟩
 ·exact absurd hf (qhs hs (by simp))
 ·rw[hc]at h1;refine⟨h1,h2 h1,?_⟩;unfold zn at h1 ⊢;split at h1
  ·cases h1
  ·rename_i hb;rw[if_neg hb];split at h1
   ·rename_i h0;rw[if_pos h0];rcases yV h.ok h.N1 [(k,s)] (by simp) (fun c hc=>by simp at hc;subst hc;exact Classical.byContradiction fun h=>hb (.inr (.inr h)))with⟨h7,_⟩|⟨_,hp⟩
    ·rw[h7]at h0;cases h0
    ·have hl:=hp.len;generalize (qu 250 m [(k,s)]).1.1=at_ at *
     match at_,hl with
     | [a],_=>exact⟨a,by rw[jv,jX]⟩
   ·rename_i h0;exact absurd h1 h0
theorem q0x(h:qT 2 250 t m)(hs:m.qa.length≤2)(f:Tf)(hg:zZ f.target)(k:Int)(he:zM m.live.length m.qa.length (qB m) f [(k,zb)]=0)(hn:f.next≠f.all)(mA:zC m f=xN m) :
    (ze 250 m f [(k,zb)]).code=0∧Does 2 250 t m (ze 250 m f [(k,zb)]) (zA t m)∧(ze 250 m f [(k,zb)]).m={ m with tok:=⟨f.base,f.target,f.next,f.all,(xN m).set k.toNat 0⟩ }:=by
 rcases wO h f hg [(k,zb)]with⟨_,hf,_⟩|⟨h1,h2⟩
 ·exact absurd hf (qhs hs (by simp))
 ·rw[he]at h1;refine⟨h1,((h2 h1).part hn).1,?_⟩;rcases yV h.ok h.N1 [(k,zb)] (by simp) (fun c hc=>by simp at hc;subst hc;rfl)with⟨_,hf⟩|⟨h0,hp⟩
  ·exact absurd hf (qhs hs (by simp))
  ·unfold ze;rw[if_neg (by rw[he];simp),if_neg (by rw[h0];simp)];have qtZ:(if m.tok.base=f.base∧m.tok.target=f.target∧m.tok.all=f.all then m.tok.ql else xN m)=xN m:=mA;rw[qtZ];dsimp only;rw[if_neg hn];have hl:=hp.len;have hz:=hp.each 0 (by simp);generalize (qu 250 m [(k,zb)]).1.1=at_ at *
   match at_,hl with
   | [a],_ =>
    have h3:=hz (by simp);have ha:a=0:=by
     rcases h3 with h3|h3
     ·exact h3.2
     ·exact absurd rfl h3.1
    rw[ha,jv,jX]
theorem q0y(h:qT 2 250 t m)(hs:m.qa.length≤2)(f:Tf)(hg:zZ f.target)(x:List (Int × Bt))(hx:x.length≤8)(he:zM m.live.length m.qa.length (qB m) f x=0)(hn:f.next=f.all) :
    (ze 250 m f x).code=0∧Does 2 250 t m (ze 250 m f x) ⟨jW (volume t (zC m f)) x,(zA t m).qa++[⟨f.target,jW (volume t (zC m f)) x,false⟩]⟩∧(ze 250 m f x).m.tok=zI:=by
 rcases wO h f hg x with⟨_,hf,_⟩|⟨h1,h2⟩
 ·exact absurd hf (qhs hs hx)
 ·rw[he]at h1;exact⟨h1,((h2 h1).whole hn).1,((h2 h1).whole hn).2⟩
end
end Go.Proofs.YtdagdllomphidaaGreatDoor.vt

/- PgChgs, PgLst, ChProg, VtProg, CLaid, VtLaid. -/
import Derived.Test.YtdpbdkacngaemaaGreatDoorZR10
import Derived.Test.YtdpbdkacngaemaaGreatDoorRows
import Derived.Deep.DeepHandedRow
import Derived.Lib.LaidTab
import Derived.Deep.DeepLaidRun
import Derived.Stop.LaidErr
import GoSem.PinnedTables
set_option linter.unusedVariables false
set_option linter.unusedSimpArgs false
set_option maxHeartbeats 30000000
set_option maxRecDepth 100000
namespace Go.Proofs.YtdpbdkacngaemaaGreatDoor.ch.pg
open _root_.Go.Proofs.Tryz Go Go.RowKit Go.Sort ib
def CgV (l:List (Int × Bt))(B:Nat)(v:Value)(w:World):Prop:=∃A cc,v=.slice A l.length cc∧kR w A l∧(∀b o,A=some ⟨b,o,none⟩→B≤b∧b<w.heap.size)∧qsT A cc l.length
theorem CgV.below{l:List (Int × Bt)}{B:Nat}{v:Value}{w w':World}(h:CgV l B v w)(hb:Below w.heap.size w w'):CgV l B v w':=by
 obtain⟨A,cc,h1,h2,h3⟩:=h;exact⟨A,cc,h1,h2.below hb,fun b o e=>⟨(h3.1 b o e).1,Nat.lt_of_lt_of_le (h3.1 b o e).2 hb.size⟩,h3.2⟩
def CsG (p g c n m:Nat)(S V:List Value)(D:List (Int × Bt))(B:Nat):Nat→Value→World→Prop
 | 0,v,_=>v=.pointer (some ⟨p,0,none⟩)
 | 1,v,_=>v=.pointer (some ⟨p,0,none⟩)
 | 2,v,_=>v=.pointer (some ⟨p,257,none⟩)
 | 3,v,_=>v=.slice (some ⟨g,0,none⟩) n c
 | 4,v,_=>v=.int .i64 (m:Int)
 | 5,v,_=>v=.pointer (some ⟨g,m*259,none⟩)
 | 6,v,_=>v=.pointer (some ⟨g,m*259,none⟩)
 | 7,v,_=>v=.pointer (some ⟨p,0,none⟩)
 | 8,v,_=>v=.pointer (some ⟨p,0,none⟩)
 | 9,v,_=>v=.pointer (some ⟨p,257,none⟩)
 | 10,v,_=>v=.slice (some ⟨g,0,none⟩) n c
 | 11,v,_=>v=.int .i64 (m:Int)
 | 12,v,_=>v=.slice (some ⟨g,0,none⟩) m c
 | 13,v,_=>v=.agg S.toArray
 | 14,v,_=>v=.agg V.toArray
 | 15,v,w=>CgV D B v w
 | 16,v,w=>CgV D B v w
 | 17,v,_=>v=.int .i64 0
 | _,_,_=>True
theorem qp1(p g c n m:Nat)(S V:List Value)(D:List (Int × Bt))(B:Nat)(i:Nat)(v:Value)(w w':World)(hi:i<18)(h:CsG p g c n m S V D B i v w)(hb:Below w.heap.size w w'):CsG p g c n m S V D B i v w':=by
 match i,hi,h with
 | 0,_,h | 1,_,h | 2,_,h | 3,_,h | 4,_,h | 5,_,h | 6,_,h | 7,_,h | 8,_,h | 9,_,h | 10,_,h | 11,_,h | 12,_,h | 13,_,h | 14,_,h | 17,_,h=>exact h
 | 15,_,h | 16,_,h=>exact CgV.below h hb
 | n+18,h,_=>exact absurd h (by omega)
theorem qaw(d:CH)(m:Nat)(hm:m<d.qc.length):(jt d.live.length (d.qc.take m)).bs=d.prev m:=by
 unfold jt CH.prev;by_cases h:m=0
 ·subst h;rfl
 ·rw[if_neg h,List.getLast?_eq_getElem?,List.length_take,Nat.min_eq_left (by omega),List.getElem?_take,if_pos (by omega)];unfold CH.tW;rw[List.getElem?_eq_getElem (by omega)];rfl
def qhd (r:List (Int × Bt) × Int)(w:World)(e:Ending)(w':World):Prop:=∃A cc,e=.returned (.tuple #[.slice A r.1.length cc,.int .i64 r.2])∧kR w' A r.1∧(wb w w' A∧qsT A cc r.1.length)∧Below w.heap.size w w'
theorem qbM{own:Nat→Prop}{w:World}{p:Nat}{d:CH}(h:Is0 own w p d)(k:Int):Calls prog 94 #[.pointer (some ⟨p,0,none⟩),.int .i64 k] w (qhd (d.changes k) w):=by
 obtain⟨h0,v,hr⟩:=h;have c2:=hr.c2 h0;have uu:=QH hr;have gU:=QH h0;have h20:=h0.few;obtain⟨A,c,hv,hlc,_,hx⟩:=ja hr.row h0.qc h0.n8;subst hv;by_cases dm:k<0∨(d.qc.length:Int)≤k
 ·have HW:Hid (d.changes k=([],5)):=by unfold Hid CH.changes;rw[if_pos dm]
  rw[HW.out];have hcs:k<0∨(¬ k<0∧(d.qc.length:Int)≤k):=by omega
  clear dm HW hx hr h0 uu gU;rcases hcs with hk|⟨hk,hk2⟩;all_goals
   go_enter func94,ntmps94;go_wp2_with fail;go_ret2;exact⟨none,0,rfl,kR.nil _ _,⟨wb.none _ _,Nat.le_refl _,.inl ⟨rfl,rfl⟩⟩,Below.refl _ _⟩
 ·obtain⟨m,rfl⟩:∃m:Nat,k=(m:Int):=⟨k.toNat,by omega⟩;have hm:m<d.qc.length:=by omega
  have HW:Hid (d.changes (m:Int)=(wE (d.prev m) d.qc[m].bs,0)):=by
   unfold Hid CH.changes;rw[if_neg dm,Int.toNat_natCast];unfold CH.tW;rw[List.getElem?_eq_getElem hm]
  rw[HW.out];obtain⟨gr,cur,rfl,hb,hc⟩:=hx m hm;have hmi:(m:Int)<(d.qc.length:Int):=by omega
  have hmn:¬ (m:Int)<0:=by omega
  have hmx:¬ (d.qc.length:Int)≤(m:Int):=by omega
  have hmc:(m:Int)≤(c:Int):=by omega
  have ze0:m≤c:=by omega
  have HSO:=QH (h0.qc _ (List.getElem_mem hm));have HVC:Hid (∀j u,(vc d.qc[m].bs)[j]?=some u→cur[m*259+j]?=some u):=fun j u hu=>hc j u (qut _ j u hu);have kX:=QH hb;have HTO:Hid (∀s∈d.qc.take m,qY d.live.length s.bs):=fun s hs=>h0.qc s (List.mem_of_mem_take hs);have HTL:Hid ((d.qc.take m).length≤20):=by unfold Hid;rw[List.length_take];omega
  have HTR:Hid (∀W,Below w.heap.size w W→vV W (.slice (some ⟨gr,0,none⟩) m c) (d.qc.take m)):=fun W hb=>qku (hr.row.below hb) h0.qc h0.n8 (by omega) c (by omega) (Nat.le_refl _);have hlo:=pU (n:=d.live.length) HTO.out;have HLO:Hid (qY d.live.length (d.prev m)):=by unfold Hid;rw[← qaw d m hm];exact hlo
  have hfi:=qkH (jt d.live.length (d.qc.take m)) hlo h0.n8;rw[qaw d m hm]at hfi;have HLA:=QH (fun W hb=>qdH (HTR.out W hb) HTO.out h0.n8 HTL.out);obtain⟨S,hS⟩:=QE (sc (jt d.live.length (d.qc.take m)));rw[hS]at HLA hfi;generalize d.prev m=P at *;generalize d.qc[m].bs=bs at *;have HCH:=QH (fun W (hb:Below w.heap.size w W)=>qbL (kX.out.below hb) HVC.out HSO.out HLO.out h0.n8);have HFI:=QH hfi;have HMI:=QH hmi;clear dm HW hx hr hb hc hlo hfi hS hm HTR HTO HTL HVC HSO HLO;obtain⟨D,hD⟩:=QE (wE P bs);rw[hD]at HCH ⊢;clear hD;go_enter func94,ntmps94;go_wp2_with fail;refine qV (by kernel_rfl) 18 [21,22,23,24,25,26,27,28,29,30,31,32,33,34,35,36,4,5] (by kernel_rfl) (CsG p gr c d.qc.length m S (vc P) D w.heap.size) (qp1 _ _ _ _ _ _ _ _ _) ?_ ?_
  ·intro j o vs ρ W hi9 hop hρ hfn hb hG;have t0:ρ (.tmp 0)=.pointer (some ⟨p,0,none⟩):=hρ.out 0 rfl;have t1:ρ (.tmp 1)=.int .i64 (m:Int):=hρ.out 1 rfl;have hc:=hρ.const;have s21:=hρ.at_ 21 0 rfl;have s22:=hρ.at_ 22 1 rfl;have s23:=hρ.at_ 23 2 rfl;have s24:=hρ.at_ 24 3 rfl;have s25:=hρ.at_ 25 4 rfl;have s26:=hρ.at_ 26 5 rfl;have s27:=hρ.at_ 27 6 rfl;have s28:=hρ.at_ 28 7 rfl;have s29:=hρ.at_ 29 8 rfl;have s30:=hρ.at_ 30 9 rfl;have s31:=hρ.at_ 31 10 rfl;have s32:=hρ.at_ 32 11 rfl;have s33:=hρ.at_ 33 12 rfl;have s34:=hρ.at_ 34 13 rfl;have s35:=hρ.at_ 35 14 rfl;have s36:=hρ.at_ 36 15 rfl;have c2:=(uu.out.below hb).c2 gU.out;have hmi:=HMI.out;rcases j with _|_|_|_|_|_|_|_|_|_|_|_|_|_|_|_|_|_|j;all_goals (first|omega|skip)
   all_goals simp only[QA,QB,QC,Option.some.injEq]at hop
   all_goals subst hop
   ·exact q9 (w':=W) (by unfold execOp;simp only[t0];go_simp) ⟨Below.refl _ _,rfl⟩
   ·have g0:vs 0=_:=hG 0 (by kernel_rfl);exact q9 (w':=W) (by unfold execOp;simp only[s21,g0];go_simp) ⟨Below.refl _ _,rfl⟩
   ·have g1:vs 1=_:=hG 1 (by kernel_rfl);exact q9 (w':=W) (by unfold execOp;simp only[s22,g1];go_simp) ⟨Below.refl _ _,rfl⟩
   ·have g2:vs 2=_:=hG 2 (by kernel_rfl);exact q9 (w':=W) (by unfold execOp;simp only[s23,g2];go_simp) ⟨Below.refl _ _,rfl⟩
   ·exact q9 (w':=W) (by unfold execOp;simp only[t1];go_simp) ⟨Below.refl _ _,rfl⟩
   ·have g3:vs 3=_:=hG 3 (by kernel_rfl);have g4:vs 4=_:=hG 4 (by kernel_rfl);exact q9 (w':=W) (by unfold execOp;simp only[s24,g3,s25,g4];go_simp) ⟨Below.refl _ _,rfl⟩
   ·have g5:vs 5=_:=hG 5 (by kernel_rfl);exact q9 (w':=W) (by unfold execOp;simp only[s26,g5];go_simp) ⟨Below.refl _ _,rfl⟩
   ·exact q9 (w':=W) (by unfold execOp;simp only[t0];go_simp) ⟨Below.refl _ _,rfl⟩
   ·have g7:vs 7=_:=hG 7 (by kernel_rfl);exact q9 (w':=W) (by unfold execOp;simp only[s28,g7];go_simp) ⟨Below.refl _ _,rfl⟩
   ·have g8:vs 8=_:=hG 8 (by kernel_rfl);exact q9 (w':=W) (by unfold execOp;simp only[s29,g8];go_simp) ⟨Below.refl _ _,rfl⟩
   ·have g9:vs 9=_:=hG 9 (by kernel_rfl);exact q9 (w':=W) (by unfold execOp;simp only[s30,g9];go_simp) ⟨Below.refl _ _,rfl⟩
   ·exact q9 (w':=W) (by unfold execOp;simp only[t1];go_simp) ⟨Below.refl _ _,rfl⟩
   ·have g10:vs 10=_:=hG 10 (by kernel_rfl);have g11:vs 11=_:=hG 11 (by kernel_rfl);exact q9 (w':=W) (by unfold execOp;simp only[s31,g10,s32,g11];go_simp) ⟨Below.refl _ _,rfl⟩
   ·have g12:vs 12=_:=hG 12 (by kernel_rfl);refine qj (f:=168) (args:=#[.slice (some ⟨gr,0,none⟩) m c]) (w':=W) (by unfold execOp;simp only[hc,hfn,s33,g12];go_simp) ((HLA.out W hb).mono ?_);rintro e W' ⟨rfl,h1⟩;exact⟨_,rfl,h1,rfl⟩
   ·have g13:vs 13=_:=hG 13 (by kernel_rfl);have hfi:=HFI.out;exact q9 (w':=W) (by unfold execOp;simp only[s34,g13];go_simp) ⟨Below.refl _ _,rfl⟩
   ·have g6:vs 6=_:=hG 6 (by kernel_rfl);have g14:vs 14=_:=hG 14 (by kernel_rfl);refine qj (f:=167) (args:=#[.pointer (some ⟨gr,m*259,none⟩),.agg (vc P).toArray]) (w':=W) (by unfold execOp;simp only[hc,hfn,s27,g6,s35,g14];go_simp) ((HCH.out W hb).mono ?_);rintro e W' ⟨A,cc,rfl,h1,h2,h3⟩;exact⟨_,rfl,h3,A,cc,rfl,h1,fun b o e=>⟨Nat.le_trans hb.size (h2.1 b o e).1,(h2.1 b o e).2⟩,h2.2⟩
   ·obtain⟨A,cc,g15,h1,h2⟩:=hG 15 (by kernel_rfl);exact q9 (w':=W) (by unfold execOp;simp only[s36,g15];go_simp) ⟨Below.refl _ _,A,cc,rfl,h1,h2⟩
   ·exact q9 (w':=W) (by unfold execOp;simp only[hc];go_simp) ⟨Below.refl _ _,rfl⟩
  ·intro vs W hb hG;obtain⟨A,cc,g16,h1,h2⟩:=hG 16 (by decide);have g17:vs 17=_:=hG 17 (by decide);simp only[qX,qK,if_true];rw[g16,g17];generalize vs 0=z0;generalize vs 1=z1;generalize vs 2=z2;generalize vs 3=z3;generalize vs 4=z4;generalize vs 5=z5;generalize vs 6=z6;generalize vs 7=z7;generalize vs 8=z8;generalize vs 9=z9;generalize vs 10=z10;generalize vs 11=z11;generalize vs 12=z12;generalize vs 13=z13;generalize vs 14=z14;generalize vs 15=z15;have HB:=QH hb;have H1:=QH h1;have H2:=QH h2;clear hG g16 g17 hb h1 h2;simp only[Act.put,List.setIfInBounds_toArray,List.set_cons_succ,List.set_cons_zero];refine⟨by kernel_rfl,?_⟩;go_wp2_with fail;go_ret2;exact⟨A,cc,rfl,H1.out,H2.out,HB.out⟩
def ym (l:List Gd):List Value:=l.flatMap fun g=>[.int .u64 (g.1:Int),.int .u64 (g.2:Int)]
theorem gF (l:List Gd):(ym l).length=l.length*2:=aD (fun _ _=>rfl)
theorem ry (l:List Gd)(k:Nat)(hk:k<l.length):(ym l)[k*2]?=some (.int .u64 (l[k].1:Int))∧(ym l)[k*2+1]?=some (.int .u64 (l[k].2:Int)) :=
 ⟨qbD l k hk (m:=2) (fun _ _=>rfl) 0 _ rfl,qbD l k hk (m:=2) (fun _ _=>rfl) 1 _ rfl⟩
theorem qhe(l:List Gd)(k:Nat)(hk:k<l.length)(g:Gd):((ym l).set (k*2) (.int .u64 (g.1:Int))).set (k*2+1) (.int .u64 (g.2:Int))=ym (l.set k g):=by
 have h:=qoB (f:=fun g:Gd=>[Value.int .u64 (g.1:Int),.int .u64 (g.2:Int)]) (m:=2) l k g hk (fun _ _=>rfl);unfold ym;rw[← h];have hl:=gF l;unfold ym at hl;generalize (l.flatMap fun g=>[Value.int .u64 (g.1:Int),.int .u64 (g.2:Int)])=z at *;apply List.ext_getElem?;intro i;by_cases h1:i<k*2
 ·rw[List.getElem?_set_ne (by omega),List.getElem?_set_ne (by omega),List.append_assoc,List.getElem?_append_left (by rw[List.length_take];omega),List.getElem?_take,if_pos h1]
 ·by_cases h2:i=k*2
  ·subst h2;rw[List.getElem?_set_ne (by omega),List.getElem?_set_self (by omega),List.append_assoc,List.getElem?_append_right (by rw[List.length_take];omega),List.length_take,Nat.min_eq_left (by omega),Nat.sub_self];rfl
  ·by_cases h3:i=k*2+1
   ·subst h3;rw[List.getElem?_set_self (by rw[List.length_set];omega),List.append_assoc,List.getElem?_append_right (by rw[List.length_take];omega),List.length_take,Nat.min_eq_left (by omega),show k*2+1-k*2=1 by omega];rfl
   ·rw[List.getElem?_set_ne (by omega),List.getElem?_set_ne (by omega),List.getElem?_append_right (by rw[List.length_append,List.length_take];simp;omega),List.getElem?_drop,List.length_append,List.length_take,Nat.min_eq_left (by omega)]
    congr 1
    simp;omega
theorem qhf(n:Nat):madeCells #[.int .u64 0,.int .u64 0] (n*2)=(ym (List.replicate n (0,0))).toArray:=by
 apply Array.ext
 ·simp[size_madeCells,gF]
 ·intro j h1 h2;have hl:(ym (List.replicate n (0,0))).length=n*2:=by rw[gF,List.length_replicate]
  have hj:j<n*2:=by simpa[hl]using h2
  have e:(ym (List.replicate n (0,0)))[j]?=some (.int .u64 0):=by
   have hq:j/2<(List.replicate n ((0,0):Gd)).length:=by rw[List.length_replicate];omega
   obtain⟨g0,g1⟩:=ry (List.replicate n (0,0)) (j/2) hq;rw[List.getElem_replicate]at g0 g1;rcases Nat.mod_two_eq_zero_or_one j with h|h
   ·rw[show j=j/2*2 by omega];exact g0
   ·rw[show j=j/2*2+1 by omega];exact g1
  have e2:(ym (List.replicate n (0,0))).toArray[j]?=some (.int .u64 0):=by simpa using e
  rw[Array.getElem?_eq_getElem h2]at e2;rw[Option.some.inj e2];rcases Nat.mod_two_eq_zero_or_one j with h|h <;> simp[madeCells,h]
theorem qhg(n:Nat)(h:n≤1000)(W:World):(Instr.makeSlice 73 (.int .i64 (n:Int)) (.int .i64 (n:Int))).run prog W=.ok (.slice (some ⟨W.heap.size,0,none⟩) n n) (W.alloc (.cells (ym (List.replicate n (0,0))).toArray 38)):=by
 obtain⟨i0,hi,hz0,hz1,hz2⟩:=info_parts qg5;have hmk:=run_make (P:=prog) W 73 38 i0 (.agg #[.int .u64 0,.int .u64 0]) underlying73 hi hz0 .i64 .i64 (n:Int) (n:Int) (by omega) (Int.le_refl _) (by rw[hz2];omega) (by omega);rw[hz1]at hmk;rw[← qhf];simpa[Value.cells]using hmk
theorem qhh{ρ:Operand→Value}{o:Oper}{w:World}(x y:Operand)(n:Nat)(ho:o.op=.makeSlice 73 x y)(hx:ρ x=.int .i64 (n:Int))(hy:ρ y=.int .i64 (n:Int))(h:n≤1000) :
    (execOp ρ o).run prog w=.ok (.value (.slice (some ⟨w.heap.size,0,none⟩) n n)) (w.alloc (.cells (ym (List.replicate n (0,0))).toArray 38)):=by
 simp[execOp,ho,hx,hy,qhg n h w,Result.andThen]
def q22 (l:List Gd)(w:World)(i:Value)(wr:World):Prop :=
 ∃k:Nat,k≤l.length∧i=.int .i64 (k:Int)∧qd wr w.heap.size 38 (ym (l.take k++List.replicate (l.length-k) (0,0))).toArray∧Below w.heap.size w wr
theorem qkL{l:List Gd}{k:Nat}(hk:k<l.length):(l.take k++List.replicate (l.length-k) (0,0)).set k l[k]=l.take (k+1)++List.replicate (l.length-(k+1)) (0,0):=by
 rw[List.set_append_right _ _ (by rw[List.length_take];omega),List.length_take,Nat.min_eq_left (by omega),Nat.sub_self,show l.length-k=(l.length-(k+1))+1 by omega,List.replicate_succ,List.set_cons_zero,List.take_succ_eq_append_getElem (by omega),List.append_assoc];rfl
theorem qkM{own:Nat→Prop}{w:World}{p:Nat}{d:CH}(h:Is0 own w p d):Calls prog 38 #[.pointer (some ⟨p,0,none⟩)] w (oW d.list w):=by
 obtain⟨i0,hi,hz0,hz1,hz2⟩:=info_parts nb;have HI:=QH hi;have HZ0:=QH hz0;obtain⟨h0,v,hr⟩:=h;have c2:=hr.c2 h0;have HR:=QH hr;have gU:=QH h0;have h20:=h0.few;have qdY:=hr.blk.lt;obtain⟨A,c,hv,hlc,_,hx⟩:=ja hr.row h0.qc h0.n8;subst hv;have HX:=QH hx;have rN:Hid (d.list.length=d.qc.length):=by unfold Hid CH.list;rw[List.length_map]
 have HGB:Hid (∀x∈d.list,xF x):=fun x hx=>by
  obtain⟨s,hs,rfl⟩:=List.mem_map.1 hx;exact h0.sZ s hs
 have HLG:Hid (∀k (hk:k<d.qc.length) (hk2:k<d.list.length),d.list[k]=d.qc[k].g):=fun k hk hk2=>by simp[CH.list]
 have HZL:Hid ((sc z0).length=259):=by unfold Hid z0;exact kZ (n:=0) ⟨rfl,fun v hv=>by simp at hv⟩ (by omega)
 obtain⟨Z,hZ⟩:=QE (sc z0);rw[hZ]at HZ0 HZL;obtain⟨n,hn⟩:=QE d.qc.length;have HN:=QH hn;have C2:=QH c2;rw[hn]at C2 c2 h20 hlc rN;clear hx hr h0 hi hz0 hz1 hz2 hZ hn;have HGI:Hid (ym (List.replicate n (0,0))=ym (d.list.take 0++List.replicate (d.list.length-0) (0,0))):=by unfold Hid;rw[rN.out];rfl
 go_enter func38,ntmps38;have c2b:∀o,(w.alloc o).cell? ⟨p,257,none⟩=some (.slice A n c):=fun o=>(((Below.refl w.heap.size w).alloc (Nat.le_refl _) o).cell (p:=⟨p,257,none⟩) qdY).trans C2.out;go_wp2_with (at_make;refine qh rfl (qhh _ _ n rfl rfl rfl (by omega)) ?_);go_loopw [4,5,19] (fun _ _ i wr=>q22 d.list w i wr) (fun _ _ i _=>n-(intOf i).toNat);case atStart=>exact⟨0,Nat.zero_le _,rfl,by rw[← HGI.out];exact qd.new w 38 _,(Below.refl _ _).alloc (Nat.le_refl _) _⟩
 case round =>
  obtain⟨k,hk,rfl,zy,bq⟩:=hrel;have HK:=QH zy;have bH:=QH bq;have hkn:k≤n:=by have:=rN.out;omega
  clear zy bq c2b c2;by_cases hlt:k<n
  ·have yr:(k:Int)<(n:Int):=by omega
   have hls:k<d.qc.length:=by rw[HN.out];exact hlt
   have hlg:k<d.list.length:=by rw[rN.out];exact hlt
   obtain⟨gr,cur,rfl,hb,hc⟩:=HX.out k hls;have hso:=gU.out.qc _ (List.getElem_mem hls);have ig:Hid ((sc d.qc[k]).length=259):=kZ hso gU.out.n8;have dO:=QH (qbE d.qc[k]);have kX:=QH (hb.below bH.out);have HC:=QH hc;have hg1:=qur hso gU.out.n8;have hg2:=qus hso gU.out.n8;have HSE:Hid (((ym (d.list.take k++List.replicate (d.list.length-k) (0,0))).set (k*2) (.int .u64 (d.qc[k].g.1:Int))).set (k*2+1) (.int .u64 (d.qc[k].g.2:Int))=ym (d.list.take (k+1)++List.replicate (d.list.length-(k+1)) (0,0))):=by
    unfold Hid;rw[qhe _ k (by rw[List.length_append,List.length_take,List.length_replicate];omega),← HLG.out k hls hlg,qkL hlg]
   generalize sc d.qc[k]=S at *;generalize (d.qc[k].g.1:Int)=x1 at *;generalize (d.qc[k].g.2:Int)=x2 at *;have e0:(wr.alloc (.cells S.toArray 174)).cell? ⟨wr.heap.size,256,none⟩=some (.int .u64 x1):=by
    rw[(qd.new wr 174 S.toArray).cell 256];simpa using hg1
   have e1:(wr.alloc (.cells S.toArray 174)).cell? ⟨wr.heap.size,257,none⟩=some (.int .u64 x2):=by
    rw[(qd.new wr 174 S.toArray).cell 257];simpa using hg2
   have qT:=QH (bH.out.alloc bH.out.size (.cells S.toArray 174));have bA:Hid (qd (wr.alloc (.cells S.toArray 174)) w.heap.size _ _):=HK.out.of_block (Below.heap_alloc wr _ _ HK.out.lt);obtain⟨cs,hcs⟩:=QE (ym (d.list.take k++List.replicate (d.list.length-k) (0,0)));have hcl:cs.length=n*2:=by
    rw[← hcs,gF,List.length_append,List.length_take,List.length_replicate,rN.out];omega
   rw[hcs]at bA HSE;have f0:=bA.out.frozen (k*2);have f1:=bA.out.frozen (k*2+1);obtain⟨z0',hz0⟩:∃z,(wr.alloc (.cells S.toArray 174)).cell? ⟨w.heap.size,k*2,none⟩=some z:=by
    rw[bA.out.cell (k*2)];exact⟨cs[k*2],by simp[show k*2<cs.length by omega]⟩
   obtain⟨z1',hz1⟩:∃z,(wr.alloc (.cells S.toArray 174)).cell? ⟨w.heap.size,k*2+1,none⟩=some z:=by
    rw[bA.out.cell (k*2+1)];exact⟨cs[k*2+1],by simp[show k*2+1<cs.length by omega]⟩
   have uR:=QH ((bA.out.qo (k*2) (.int .u64 x1)).qo (k*2+1) (.int .u64 x2));have qC:=QH ((qT.out.setCell (p:=⟨w.heap.size,k*2,none⟩) (Nat.le_refl _) (.int .u64 x1)).setCell (p:=⟨w.heap.size,k*2+1,none⟩) (Nat.le_refl _) (.int .u64 x2));have E0:=QH e0;have E1:=QH e1;clear HK bH hb hc hso hg1 hg2 hcs hcl hls hlg e0 e1;have F0:=QH f0;have F1:=QH f1;have ZZ0:=QH hz0;have ZZ1:=QH hz1;clear f0 f1 hz0 hz1;go_wp2_with (first|(refine qh rfl (qF 174 (.tmp 22) rfl gr (k*259) rfl _ cur S _ _ kX.out underlying174 rfl (by rw[kG,ig.out]) HC.out) ?_)|(refine qh rfl (gu 174 i0 Z.toArray rfl HI.out HZ0.out) ?_)|(refine wpList_skip rfl (qZ wr 174 Z.toArray S.toArray (.tmp 5) (.tmp 23) rfl rfl rfl (by rw[kG,List.size_toArray,ig.out]) (by rw[List.size_toArray,List.size_toArray,ig.out,HZL.out]) (ku dO.out)) ?_;have e0:=E0.out;have e1:=E1.out;have f0:=F0.out;have f1:=F1.out;have z0:=ZZ0.out;have z1:=ZZ1.out));go_roundw;case rel=>exact⟨k+1,by have:=rN.out;omega,by go_num,by
    have h:=uR.out;simp only[List.setIfInBounds_toArray]at h;rw[HSE.out]at h;exact h,qC.out⟩
   case measure=>simp[intOf];omega
  ·obtain rfl:k=n:=by omega
   have ie:Hid (d.list.take k++List.replicate (d.list.length-k) (0,0)=d.list):=by
    unfold Hid;rw[← rN.out,Nat.sub_self,List.take_length];simp
   have zy:=HK.out;rw[ie.out]at zy;have HT:Hid (GdL wr (some ⟨w.heap.size,0,none⟩) d.list):=fun i hi=>by
    obtain⟨g0,g1⟩:=ry d.list i hi;exact⟨w.heap.size,0,rfl,zy.lt,by rw[Nat.zero_add,zy.cell];simpa using g0,by rw[Nat.zero_add,zy.cell];simpa using g1,HGB.out _ (List.getElem_mem hi)⟩
   have rM:=QH zy.lt;clear zy HK ie;go_wp2_with fail;go_ret;refine⟨_,k,by rw[rN.out];rfl,HT.out,fun b o e=>?_,bH.out⟩;simp only[Option.some.injEq,Addr.mk.injEq,and_true]at e;obtain⟨rfl,_⟩:=e;exact⟨Nat.le_refl _,rM.out⟩
end Go.Proofs.YtdpbdkacngaemaaGreatDoor.ch.pg
namespace Go.Proofs.YtdpbdkacngaemaaGreatDoor.ch.pg
open _root_.Go.Proofs.Tryz Go Go.RowKit Go.Sort Go.Proofs.YtdpbdkacngaemaaGreatDoor.ib
theorem qp2:Impl Is0 where
 low:=fun⟨_,_,h⟩=>h.low
 ok:=fun⟨h,_⟩=>h
 keep:=fun⟨h0,v,h⟩ hb hs=>⟨h0,v,h.keep hs hb⟩
 wq:=fun n w h1 h8=>wq n w h1 h8
 write:=fun k s h _=>(qgX k s h).mono fun _ _ ha=>ha.1
 snap:=fun g h hg=>(qkJ h g hg).mono fun _ _ ha=>ha.1
 list:=fun h=>qkM h
 read:=fun g h _=>r8 h g
end Go.Proofs.YtdpbdkacngaemaaGreatDoor.ch.pg
namespace Go.Proofs.YtdpbdkacngaemaaGreatDoor.ch
end Go.Proofs.YtdpbdkacngaemaaGreatDoor.ch
namespace Go.Proofs.YtdpbdkacngaemaaGreatDoor.vt
open _root_.Go.Proofs.Tryz Go Go.RowKit jr mt im sp
theorem qp2:js pg.ak where
 tab:=fun h=>pg.qrF h
 low:=fun h=>pg.qbn h
 keep:=fun h hb hs=>pg.qn6 h hb hs
 sZ:=fun h=>pg.qrG h
 qac:=fun b N room h ik hog h1 h8 hN lM hr=>pg.sM b N room h ik hog h1 h8 hN lM hr
 qbl:=fun h ik hog hJ hf hR=>pg.qdW h ik hog hJ hf hR
 blocks:=fun h=>pg.qgI h
 list:=fun h=>pg.dL h
 token:=fun h=>pg.iC h
 read:=fun g h hJ hR _=>pg.qk7 g h hJ hR
 stage:=fun f A c x h hJ hf hR hfb hx eH _=>pg.qkG f A c x h hJ hf hR hfb hx eH
 qrE:=fun w=>pg.qdO w
 q0q:=fun w=>pg.qk6 w
 qvQ:=fun w=>pg.qgP w
end Go.Proofs.YtdpbdkacngaemaaGreatDoor.vt
namespace Go.Proofs.YtdpbdkacngaemaaGreatDoor
open _root_.Go.Proofs.Tryz Go.RowKit
def cZs:List Int:=eP.map Int.ofNat
theorem qxs:(prog.globals[0]?).map (·.type)=some 310:=by kernel_rfl
theorem qsV:prog.cellsOf 310=16:=by kernel_rfl
theorem qxt:prog.cellsOf 244=1:=by kernel_rfl
theorem qbN{W:World}{name:String}{rest:List (String × DataW Unit)}(h:laidMet prog ((name,Lib.tabData .u32 cZs)::rest) W)(cg:prog.globalNamed name=some 0):xY W:=by
 have hT:=Lib.tabIs_of_head cg qxs underlying310 underlying244 qxt qsV h;have hc:∀i,i<16→W.cell? ⟨0,i,none⟩=some (.int .u32 ((eP.getD i 0:Nat):Int)):=by
  intro i hi;have:=hT.cell cg i (by simpa[cZs,eP]using hi);rw[this];have:∀i:Nat,i<16→cZs.getD i 0=((eP.getD i 0:Nat):Int):=by decide
  rw[this i hi]
 exact⟨World.block_lt_of_cell? W _ (hc 0 (by omega)),hc⟩
noncomputable def qax (os:Os):World :=
 { World.holding prog os ⟨#[],#[],[]⟩with heap:=(World.holding prog os ⟨#[],#[],[]⟩).heap.modify 0 fun
     | .cells _ t frozen=>.cells (cZs.map fun z=>Value.int .u32 z).toArray t frozen
     | o=>o }
def q24:List Int:=[128,191,160,191,128,159,144,191,128,143]++List.replicate 22 0
noncomputable def gG (os:Os):World :=
 { qax os with heap:=((qax os).heap.modify 3 fun
     | .cells _ t frozen=>.cells (q24.map fun z=>Value.int .u8 z).toArray t frozen
     | o=>o).modify 2 fun
     | .cells _ t frozen=>.cells (Go.Pinned.utf8FirstZ.map fun(z:Nat)=>Value.int .u8 (z:Int)).toArray t frozen
     | o=>o }
end Go.Proofs.YtdpbdkacngaemaaGreatDoor

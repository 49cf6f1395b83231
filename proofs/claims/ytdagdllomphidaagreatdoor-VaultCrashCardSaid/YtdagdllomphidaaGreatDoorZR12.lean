/- PgChgs, PgLst, ChProg, VtProg, VtStep, VxData, VxMem, VxChanges, VxGuid, VtDo, VtMade, VtWkP, VtDoW, VtDoS, VtDoT, VtAny, VxTexts, VxBlocks, VxEq. -/
import Derived.Test.YtdagdllomphidaaGreatDoorZR10
import Derived.Test.YtdagdllomphidaaGreatDoorZR11
set_option linter.unusedVariables false
set_option linter.unusedSimpArgs false
set_option maxHeartbeats 30000000
set_option maxRecDepth 100000
namespace Go.Proofs.YtdagdllomphidaaGreatDoor.ch.pg
open _root_.Go.Proofs.Tryz Go Go.RowKit Go.Sort ib
def CgV (l:List (Int × Bt))(B:Nat)(v:Value)(w:World):Prop:=∃A cc,v=.slice A l.length cc∧bw w A l∧∀b o,A=some ⟨b,o,none⟩→B≤b∧b<w.heap.size
theorem CgV.below{l:List (Int × Bt)}{B:Nat}{v:Value}{w w':World}(h:CgV l B v w)(hb:Below w.heap.size w w'):CgV l B v w':=by
 obtain⟨A,cc,h1,h2,h3⟩:=h;exact⟨A,cc,h1,h2.below hb,fun b o e=>⟨(h3 b o e).1,Nat.lt_of_lt_of_le (h3 b o e).2 hb.size⟩⟩
def CsG (p g c n m:Nat)(S V:List Value)(D:List (Int × Bt))(B:Nat):Nat→Value→World→Prop
 | 0,v,_=>v=.pointer (some ⟨p,0,none⟩)
 | 1,v,_=>v=.pointer (some ⟨p,0,none⟩)
 | 2,v,_=>v=.pointer (some ⟨p,257,none⟩)
 | 3,v,_=>v=.slice (some ⟨g,0,none⟩) n c
 | 4,v,_=>v=.int .i64 (m:Int)
 | 5,v,_=>v=.pointer (some ⟨g,m*259,none⟩)
 | 6,v,_=>v=.pointer (some ⟨g,m*259,none⟩)
 | 7,v,_=>v=.pointer (some ⟨p,0,none⟩)
 | 8,v,_=>v=.pointer (some ⟨p,0,none⟩)
 | 9,v,_=>v=.pointer (some ⟨p,257,none⟩)
 | 10,v,_=>v=.slice (some ⟨g,0,none⟩) n c
 | 11,v,_=>v=.int .i64 (m:Int)
 | 12,v,_=>v=.slice (some ⟨g,0,none⟩) m c
 | 13,v,_=>v=.agg S.toArray
 | 14,v,_=>v=.agg V.toArray
 | 15,v,w=>CgV D B v w
 | 16,v,w=>CgV D B v w
 | 17,v,_=>v=.int .i64 0
 | _,_,_=>True
theorem qpx(p g c n m:Nat)(S V:List Value)(D:List (Int × Bt))(B:Nat)(i:Nat)(v:Value)(w w':World)(hi:i<18)(h:CsG p g c n m S V D B i v w)(hb:Below w.heap.size w w'):CsG p g c n m S V D B i v w':=by
 match i,hi,h with
 | 0,_,h | 1,_,h | 2,_,h | 3,_,h | 4,_,h | 5,_,h | 6,_,h | 7,_,h | 8,_,h | 9,_,h | 10,_,h | 11,_,h | 12,_,h | 13,_,h | 14,_,h | 17,_,h=>exact h
 | 15,_,h | 16,_,h=>exact CgV.below h hb
 | n+18,h,_=>exact absurd h (by omega)
theorem qaL(d:CH)(m:Nat)(hm:m<d.qa.length):(xI d.live.length (d.qa.take m)).bs=d.prev m:=by
 unfold xI CH.prev;by_cases h:m=0
 ·subst h;rfl
 ·rw[if_neg h,List.getLast?_eq_getElem?,List.length_take,Nat.min_eq_left (by omega),List.getElem?_take,if_pos (by omega)];unfold CH.mH;rw[List.getElem?_eq_getElem (by omega)];rfl
theorem kS {own:Nat→Prop}{w:World}{p:Nat}{d:CH}(h:n4 own w p d)(k:Int):Calls prog 51 #[.pointer (some ⟨p,0,none⟩),.int .i64 k] w (bQ (d.changes k) w):=by
 obtain⟨h0,v,hr⟩:=h;have c2:=hr.c2 h0;have jo:=QH hr;have yB:=QH h0;have bR:=h0.few;obtain⟨A,c,hv,hlc,_,hx⟩:=xE hr.row h0.qa h0.n8;subst hv;by_cases uL:k<0∨(d.qa.length:Int)≤k
 ·have HW:Hid (d.changes k=([],5)):=by unfold Hid CH.changes;rw[if_pos uL]
  rw[HW.out];have hcs:k<0∨(¬ k<0∧(d.qa.length:Int)≤k):=by omega
  clear uL HW hx hr h0 jo yB;rcases hcs with hk|⟨hk,hk2⟩;all_goals
   go_enter func51,ntmps51;go_wp2_with fail;go_ret2;exact⟨none,0,rfl,bw.nil _ _,uE.none _ _,Below.refl _ _⟩
 ·obtain⟨m,rfl⟩:∃m:Nat,k=(m:Int):=⟨k.toNat,by omega⟩;have hm:m<d.qa.length:=by omega
  have HW:Hid (d.changes (m:Int)=(ar (d.prev m) d.qa[m].bs,0)):=by
   unfold Hid CH.changes;rw[if_neg uL,Int.toNat_natCast];unfold CH.mH;rw[List.getElem?_eq_getElem hm]
  rw[HW.out];obtain⟨gr,cur,rfl,hb,hc⟩:=hx m hm;have hmi:(m:Int)<(d.qa.length:Int):=by omega
  have hmn:¬ (m:Int)<0:=by omega
  have hmx:¬ (d.qa.length:Int)≤(m:Int):=by omega
  have hmc:(m:Int)≤(c:Int):=by omega
  have ze0:m≤c:=by omega
  have HSO:=QH (h0.qa _ (List.getElem_mem hm));have HVC:Hid (∀j u,(vc d.qa[m].bs)[j]?=some u→cur[m*259+j]?=some u):=fun j u hu=>hc j u (qo3 _ j u hu);have yP:=QH hb;have HTO:Hid (∀s∈d.qa.take m,qR d.live.length s.bs):=fun s hs=>h0.qa s (List.mem_of_mem_take hs);have HTL:Hid ((d.qa.take m).length≤20):=by unfold Hid;rw[List.length_take];omega
  have HTR:Hid (∀W,Below w.heap.size w W→vh W (.slice (some ⟨gr,0,none⟩) m c) (d.qa.take m)):=fun W hb=>qa8 (hr.row.below hb) h0.qa h0.n8 (by omega) c (by omega) (Nat.le_refl _);have hlo:=aK (n:=d.live.length) HTO.out;have bV:Hid (qR d.live.length (d.prev m)):=by unfold Hid;rw[← qaL d m hm];exact hlo
  have sP:=lX (xI d.live.length (d.qa.take m)) hlo h0.n8;rw[qaL d m hm]at sP;have HLA:=QH (fun W hb=>ij (HTR.out W hb) HTO.out h0.n8 HTL.out);obtain⟨S,hS⟩:=QE (sc (xI d.live.length (d.qa.take m)));rw[hS]at HLA sP;generalize d.prev m=P at *;generalize d.qa[m].bs=bs at *;have ew:=QH (fun W (hb:Below w.heap.size w W)=>qcm (yP.out.below hb) HVC.out HSO.out bV.out h0.n8);have sL:=QH sP;have HMI:=QH hmi;clear uL HW hx hr hb hc hlo sP hS hm HTR HTO HTL HVC HSO bV;obtain⟨D,hD⟩:=QE (ar P bs);rw[hD]at ew ⊢;clear hD;go_enter func51,ntmps51;go_wp2_with fail;refine qQ (by kernel_rfl) 18 [21,22,23,24,25,26,27,28,29,30,31,32,33,34,35,36,4,5] (by kernel_rfl) (CsG p gr c d.qa.length m S (vc P) D w.heap.size) (qpx _ _ _ _ _ _ _ _ _) ?_ ?_
  ·intro j o vs ρ W hi9 hop hρ hfn hb hG;have t0:ρ (.tmp 0)=.pointer (some ⟨p,0,none⟩):=hρ.out 0 rfl;have t1:ρ (.tmp 1)=.int .i64 (m:Int):=hρ.out 1 rfl;have hc:=hρ.const;have s21:=hρ.at_ 21 0 rfl;have s22:=hρ.at_ 22 1 rfl;have s23:=hρ.at_ 23 2 rfl;have s24:=hρ.at_ 24 3 rfl;have s25:=hρ.at_ 25 4 rfl;have s26:=hρ.at_ 26 5 rfl;have s27:=hρ.at_ 27 6 rfl;have s28:=hρ.at_ 28 7 rfl;have s29:=hρ.at_ 29 8 rfl;have s30:=hρ.at_ 30 9 rfl;have s31:=hρ.at_ 31 10 rfl;have s32:=hρ.at_ 32 11 rfl;have s33:=hρ.at_ 33 12 rfl;have s34:=hρ.at_ 34 13 rfl;have s35:=hρ.at_ 35 14 rfl;have s36:=hρ.at_ 36 15 rfl;have c2:=(jo.out.below hb).c2 yB.out;have hmi:=HMI.out;rcases j with _|_|_|_|_|_|_|_|_|_|_|_|_|_|_|_|_|_|j;all_goals (first|omega|skip)
   all_goals simp only[QA,QB,QC,Option.some.injEq]at hop
   all_goals subst hop
   ·exact q9 (w':=W) (by unfold execOp;simp only[t0];go_simp) ⟨Below.refl _ _,rfl⟩
   ·have g0:vs 0=_:=hG 0 (by kernel_rfl);exact q9 (w':=W) (by unfold execOp;simp only[s21,g0];go_simp) ⟨Below.refl _ _,rfl⟩
   ·have g1:vs 1=_:=hG 1 (by kernel_rfl);exact q9 (w':=W) (by unfold execOp;simp only[s22,g1];go_simp) ⟨Below.refl _ _,rfl⟩
   ·have g2:vs 2=_:=hG 2 (by kernel_rfl);exact q9 (w':=W) (by unfold execOp;simp only[s23,g2];go_simp) ⟨Below.refl _ _,rfl⟩
   ·exact q9 (w':=W) (by unfold execOp;simp only[t1];go_simp) ⟨Below.refl _ _,rfl⟩
   ·have g3:vs 3=_:=hG 3 (by kernel_rfl);have g4:vs 4=_:=hG 4 (by kernel_rfl);exact q9 (w':=W) (by unfold execOp;simp only[s24,g3,s25,g4];go_simp) ⟨Below.refl _ _,rfl⟩
   ·have g5:vs 5=_:=hG 5 (by kernel_rfl);exact q9 (w':=W) (by unfold execOp;simp only[s26,g5];go_simp) ⟨Below.refl _ _,rfl⟩
   ·exact q9 (w':=W) (by unfold execOp;simp only[t0];go_simp) ⟨Below.refl _ _,rfl⟩
   ·have g7:vs 7=_:=hG 7 (by kernel_rfl);exact q9 (w':=W) (by unfold execOp;simp only[s28,g7];go_simp) ⟨Below.refl _ _,rfl⟩
   ·have g8:vs 8=_:=hG 8 (by kernel_rfl);exact q9 (w':=W) (by unfold execOp;simp only[s29,g8];go_simp) ⟨Below.refl _ _,rfl⟩
   ·have g9:vs 9=_:=hG 9 (by kernel_rfl);exact q9 (w':=W) (by unfold execOp;simp only[s30,g9];go_simp) ⟨Below.refl _ _,rfl⟩
   ·exact q9 (w':=W) (by unfold execOp;simp only[t1];go_simp) ⟨Below.refl _ _,rfl⟩
   ·have g10:vs 10=_:=hG 10 (by kernel_rfl);have g11:vs 11=_:=hG 11 (by kernel_rfl);exact q9 (w':=W) (by unfold execOp;simp only[s31,g10,s32,g11];go_simp) ⟨Below.refl _ _,rfl⟩
   ·have g12:vs 12=_:=hG 12 (by kernel_rfl);refine qj (f:=69) (args:=#[.slice (some ⟨gr,0,none⟩) m c]) (w':=W) (by unfold execOp;simp only[hc,hfn,s33,g12];go_simp) ((HLA.out W hb).mono ?_);rintro e W' ⟨rfl,h1⟩;exact⟨_,rfl,h1,rfl⟩
   ·have g13:vs 13=_:=hG 13 (by kernel_rfl);have sP:=sL.out;exact q9 (w':=W) (by unfold execOp;simp only[s34,g13];go_simp) ⟨Below.refl _ _,rfl⟩
   ·have g6:vs 6=_:=hG 6 (by kernel_rfl);have g14:vs 14=_:=hG 14 (by kernel_rfl);refine qj (f:=98) (args:=#[.pointer (some ⟨gr,m*259,none⟩),.agg (vc P).toArray]) (w':=W) (by unfold execOp;simp only[hc,hfn,s27,g6,s35,g14];go_simp) ((ew.out W hb).mono ?_);rintro e W' ⟨A,cc,rfl,h1,h2,h3⟩;exact⟨_,rfl,h3,A,cc,rfl,h1,fun b o e=>⟨Nat.le_trans hb.size (h2 b o e).1,(h2 b o e).2⟩⟩
   ·obtain⟨A,cc,g15,h1,h2⟩:=hG 15 (by kernel_rfl);exact q9 (w':=W) (by unfold execOp;simp only[s36,g15];go_simp) ⟨Below.refl _ _,A,cc,rfl,h1,h2⟩
   ·exact q9 (w':=W) (by unfold execOp;simp only[hc];go_simp) ⟨Below.refl _ _,rfl⟩
  ·intro vs W hb hG;obtain⟨A,cc,g16,h1,h2⟩:=hG 16 (by decide);have g17:vs 17=_:=hG 17 (by decide);simp only[za,qN,if_true];rw[g16,g17];generalize vs 0=z0;generalize vs 1=z1;generalize vs 2=z2;generalize vs 3=z3;generalize vs 4=z4;generalize vs 5=z5;generalize vs 6=z6;generalize vs 7=z7;generalize vs 8=z8;generalize vs 9=z9;generalize vs 10=z10;generalize vs 11=z11;generalize vs 12=z12;generalize vs 13=z13;generalize vs 14=z14;generalize vs 15=z15;have HB:=QH hb;have H1:=QH h1;have H2:=QH h2;clear hG g16 g17 hb h1 h2;simp only[Act.put,List.setIfInBounds_toArray,List.set_cons_succ,List.set_cons_zero];refine⟨by kernel_rfl,?_⟩;go_wp2_with fail;go_ret2;exact⟨A,cc,rfl,H1.out,H2.out,HB.out⟩
def yi (l:List Gd):List Value:=l.flatMap fun g=>[.int .u64 (g.1:Int),.int .u64 (g.2:Int)]
theorem gV (l:List Gd):(yi l).length=l.length*2:=aJ (fun _ _=>rfl)
theorem sx (l:List Gd)(k:Nat)(hk:k<l.length):(yi l)[k*2]?=some (.int .u64 (l[k].1:Int))∧(yi l)[k*2+1]?=some (.int .u64 (l[k].2:Int)) :=
 ⟨qbV l k hk (m:=2) (fun _ _=>rfl) 0 _ rfl,qbV l k hk (m:=2) (fun _ _=>rfl) 1 _ rfl⟩
theorem qhv(l:List Gd)(k:Nat)(hk:k<l.length)(g:Gd):((yi l).set (k*2) (.int .u64 (g.1:Int))).set (k*2+1) (.int .u64 (g.2:Int))=yi (l.set k g):=by
 have h:=qoz (f:=fun g:Gd=>[Value.int .u64 (g.1:Int),.int .u64 (g.2:Int)]) (m:=2) l k g hk (fun _ _=>rfl);unfold yi;rw[← h];have hl:=gV l;unfold yi at hl;generalize (l.flatMap fun g=>[Value.int .u64 (g.1:Int),.int .u64 (g.2:Int)])=z at *;apply List.ext_getElem?;intro i;by_cases h1:i<k*2
 ·rw[List.getElem?_set_ne (by omega),List.getElem?_set_ne (by omega),List.append_assoc,List.getElem?_append_left (by rw[List.length_take];omega),List.getElem?_take,if_pos h1]
 ·by_cases h2:i=k*2
  ·subst h2;rw[List.getElem?_set_ne (by omega),List.getElem?_set_self (by omega),List.append_assoc,List.getElem?_append_right (by rw[List.length_take];omega),List.length_take,Nat.min_eq_left (by omega),Nat.sub_self];rfl
  ·by_cases h3:i=k*2+1
   ·subst h3;rw[List.getElem?_set_self (by rw[List.length_set];omega),List.append_assoc,List.getElem?_append_right (by rw[List.length_take];omega),List.length_take,Nat.min_eq_left (by omega),show k*2+1-k*2=1 by omega];rfl
   ·rw[List.getElem?_set_ne (by omega),List.getElem?_set_ne (by omega),List.getElem?_append_right (by rw[List.length_append,List.length_take];simp;omega),List.getElem?_drop,List.length_append,List.length_take,Nat.min_eq_left (by omega)]
    congr 1
    simp;omega
theorem qhw(n:Nat):madeCells #[.int .u64 0,.int .u64 0] (n*2)=(yi (List.replicate n (0,0))).toArray:=by
 apply Array.ext
 ·simp[size_madeCells,gV]
 ·intro j h1 h2;have hl:(yi (List.replicate n (0,0))).length=n*2:=by rw[gV,List.length_replicate]
  have hj:j<n*2:=by simpa[hl]using h2
  have e:(yi (List.replicate n (0,0)))[j]?=some (.int .u64 0):=by
   have hq:j/2<(List.replicate n ((0,0):Gd)).length:=by rw[List.length_replicate];omega
   obtain⟨g0,g1⟩:=sx (List.replicate n (0,0)) (j/2) hq;rw[List.getElem_replicate]at g0 g1;rcases Nat.mod_two_eq_zero_or_one j with h|h
   ·rw[show j=j/2*2 by omega];exact g0
   ·rw[show j=j/2*2+1 by omega];exact g1
  have e2:(yi (List.replicate n (0,0))).toArray[j]?=some (.int .u64 0):=by simpa using e
  rw[Array.getElem?_eq_getElem h2]at e2;rw[Option.some.inj e2];rcases Nat.mod_two_eq_zero_or_one j with h|h <;> simp[madeCells,h]
theorem qhx(n:Nat)(h:n≤1000)(W:World):(Instr.makeSlice 52 (.int .i64 (n:Int)) (.int .i64 (n:Int))).run prog W=.ok (.slice (some ⟨W.heap.size,0,none⟩) n n) (W.alloc (.cells (yi (List.replicate n (0,0))).toArray 55)):=by
 obtain⟨i0,hi,hz0,hz1,hz2⟩:=info_parts qgM;have hmk:=run_make (P:=prog) W 52 55 i0 (.agg #[.int .u64 0,.int .u64 0]) underlying52 hi hz0 .i64 .i64 (n:Int) (n:Int) (by omega) (Int.le_refl _) (by rw[hz2];omega) (by omega);rw[hz1]at hmk;rw[← qhw];simpa[Value.cells]using hmk
theorem qhy{ρ:Operand→Value}{o:Oper}{w:World}(x y:Operand)(n:Nat)(ho:o.op=.makeSlice 52 x y)(hx:ρ x=.int .i64 (n:Int))(hy:ρ y=.int .i64 (n:Int))(h:n≤1000) :
    (execOp ρ o).run prog w=.ok (.value (.slice (some ⟨w.heap.size,0,none⟩) n n)) (w.alloc (.cells (yi (List.replicate n (0,0))).toArray 55)):=by
 simp[execOp,ho,hx,hy,qhx n h w,Result.andThen]
def q2j (l:List Gd)(w:World)(i:Value)(wr:World):Prop :=
 ∃k:Nat,k≤l.length∧i=.int .i64 (k:Int)∧qg wr w.heap.size 55 (yi (l.take k++List.replicate (l.length-k) (0,0))).toArray∧Below w.heap.size w wr
theorem qkU{l:List Gd}{k:Nat}(hk:k<l.length):(l.take k++List.replicate (l.length-k) (0,0)).set k l[k]=l.take (k+1)++List.replicate (l.length-(k+1)) (0,0):=by
 rw[List.set_append_right _ _ (by rw[List.length_take];omega),List.length_take,Nat.min_eq_left (by omega),Nat.sub_self,show l.length-k=(l.length-(k+1))+1 by omega,List.replicate_succ,List.set_cons_zero,List.take_succ_eq_append_getElem (by omega),List.append_assoc];rfl
theorem qkV{own:Nat→Prop}{w:World}{p:Nat}{d:CH}(h:n4 own w p d):Calls prog 49 #[.pointer (some ⟨p,0,none⟩)] w (lu d.list w):=by
 obtain⟨i0,hi,hz0,hz1,hz2⟩:=info_parts bD;have HI:=QH hi;have HZ0:=QH hz0;obtain⟨h0,v,hr⟩:=h;have c2:=hr.c2 h0;have HR:=QH hr;have yB:=QH h0;have bR:=h0.few;have qey:=hr.blk.lt;obtain⟨A,c,hv,hlc,_,hx⟩:=xE hr.row h0.qa h0.n8;subst hv;have HX:=QH hx;have HLI:Hid (d.list.length=d.qa.length):=by unfold Hid CH.list;rw[List.length_map]
 have HGB:Hid (∀x∈d.list,xn x):=fun x hx=>by
  obtain⟨s,hs,rfl⟩:=List.mem_map.1 hx;exact h0.iC s hs
 have HLG:Hid (∀k (hk:k<d.qa.length) (hk2:k<d.list.length),d.list[k]=d.qa[k].g):=fun k hk hk2=>by simp[CH.list]
 have HZL:Hid ((sc z0).length=259):=by unfold Hid z0;exact jc (n:=0) ⟨rfl,fun v hv=>by simp at hv⟩ (by omega)
 obtain⟨Z,hZ⟩:=QE (sc z0);rw[hZ]at HZ0 HZL;obtain⟨n,hn⟩:=QE d.qa.length;have HN:=QH hn;have C2:=QH c2;rw[hn]at C2 c2 bR hlc HLI;clear hx hr h0 hi hz0 hz1 hz2 hZ hn;have HGI:Hid (yi (List.replicate n (0,0))=yi (d.list.take 0++List.replicate (d.list.length-0) (0,0))):=by unfold Hid;rw[HLI.out];rfl
 go_enter func49,ntmps49;have c2b:∀o,(w.alloc o).cell? ⟨p,257,none⟩=some (.slice A n c):=fun o=>(((Below.refl w.heap.size w).alloc (Nat.le_refl _) o).cell (p:=⟨p,257,none⟩) qey).trans C2.out;go_wp2_with (at_make;refine qf rfl (qhy _ _ n rfl rfl rfl (by omega)) ?_);go_loopw [4,5,19] (fun _ _ i wr=>q2j d.list w i wr) (fun _ _ i _=>n-(intOf i).toNat);case atStart=>exact⟨0,Nat.zero_le _,rfl,by rw[← HGI.out];exact qg.new w 55 _,(Below.refl _ _).alloc (Nat.le_refl _) _⟩
 case round =>
  obtain⟨k,hk,rfl,yE,wa⟩:=hrel;have HK:=QH yE;have df:=QH wa;have hkn:k≤n:=by have:=HLI.out;omega
  clear yE wa c2b c2;by_cases hlt:k<n
  ·have jW:(k:Int)<(n:Int):=by omega
   have hls:k<d.qa.length:=by rw[HN.out];exact hlt
   have hlg:k<d.list.length:=by rw[HLI.out];exact hlt
   obtain⟨gr,cur,rfl,hb,hc⟩:=HX.out k hls;have hso:=yB.out.qa _ (List.getElem_mem hls);have cn:Hid ((sc d.qa[k]).length=259):=jc hso yB.out.n8;have gZ:=QH (lL d.qa[k]);have yP:=QH (hb.below df.out);have HC:=QH hc;have hg1:=quc hso yB.out.n8;have hg2:=qud hso yB.out.n8;have HSE:Hid (((yi (d.list.take k++List.replicate (d.list.length-k) (0,0))).set (k*2) (.int .u64 (d.qa[k].g.1:Int))).set (k*2+1) (.int .u64 (d.qa[k].g.2:Int))=yi (d.list.take (k+1)++List.replicate (d.list.length-(k+1)) (0,0))):=by
    unfold Hid;rw[qhv _ k (by rw[List.length_append,List.length_take,List.length_replicate];omega),← HLG.out k hls hlg,qkU hlg]
   generalize sc d.qa[k]=S at *;generalize (d.qa[k].g.1:Int)=x1 at *;generalize (d.qa[k].g.2:Int)=x2 at *;have e0:(wr.alloc (.cells S.toArray 131)).cell? ⟨wr.heap.size,256,none⟩=some (.int .u64 x1):=by
    rw[(qg.new wr 131 S.toArray).cell 256];simpa using hg1
   have e1:(wr.alloc (.cells S.toArray 131)).cell? ⟨wr.heap.size,257,none⟩=some (.int .u64 x2):=by
    rw[(qg.new wr 131 S.toArray).cell 257];simpa using hg2
   have qV:=QH (df.out.alloc df.out.size (.cells S.toArray 131));have eI:Hid (qg (wr.alloc (.cells S.toArray 131)) w.heap.size _ _):=HK.out.of_block (Below.heap_alloc wr _ _ HK.out.lt);obtain⟨cs,hcs⟩:=QE (yi (d.list.take k++List.replicate (d.list.length-k) (0,0)));have hcl:cs.length=n*2:=by
    rw[← hcs,gV,List.length_append,List.length_take,List.length_replicate,HLI.out];omega
   rw[hcs]at eI HSE;have f0:=eI.out.frozen (k*2);have f1:=eI.out.frozen (k*2+1);obtain⟨z0',hz0⟩:∃z,(wr.alloc (.cells S.toArray 131)).cell? ⟨w.heap.size,k*2,none⟩=some z:=by
    rw[eI.out.cell (k*2)];exact⟨cs[k*2],by simp[show k*2<cs.length by omega]⟩
   obtain⟨z1',hz1⟩:∃z,(wr.alloc (.cells S.toArray 131)).cell? ⟨w.heap.size,k*2+1,none⟩=some z:=by
    rw[eI.out.cell (k*2+1)];exact⟨cs[k*2+1],by simp[show k*2+1<cs.length by omega]⟩
   have kh:=QH ((eI.out.ql (k*2) (.int .u64 x1)).ql (k*2+1) (.int .u64 x2));have qC:=QH ((qV.out.setCell (p:=⟨w.heap.size,k*2,none⟩) (Nat.le_refl _) (.int .u64 x1)).setCell (p:=⟨w.heap.size,k*2+1,none⟩) (Nat.le_refl _) (.int .u64 x2));have E0:=QH e0;have E1:=QH e1;clear HK df hb hc hso hg1 hg2 hcs hcl hls hlg e0 e1;have F0:=QH f0;have F1:=QH f1;have ZZ0:=QH hz0;have ZZ1:=QH hz1;clear f0 f1 hz0 hz1;go_wp2_with (first|(refine qf rfl (qy 131 (.tmp 22) rfl gr (k*259) rfl _ cur S _ _ yP.out underlying131 rfl (by rw[yX,cn.out]) HC.out) ?_)|(refine qf rfl (ku 131 i0 Z.toArray rfl HI.out HZ0.out) ?_)|(refine wpList_skip rfl (qU wr 131 Z.toArray S.toArray (.tmp 5) (.tmp 23) rfl rfl rfl (by rw[yX,List.size_toArray,cn.out]) (by rw[List.size_toArray,List.size_toArray,cn.out,HZL.out]) (jI gZ.out)) ?_;have e0:=E0.out;have e1:=E1.out;have f0:=F0.out;have f1:=F1.out;have z0:=ZZ0.out;have z1:=ZZ1.out));go_roundw;case rel=>exact⟨k+1,by have:=HLI.out;omega,by go_num,by
    have h:=kh.out;simp only[List.setIfInBounds_toArray]at h;rw[HSE.out]at h;exact h,qC.out⟩
   case measure=>simp[intOf];omega
  ·obtain rfl:k=n:=by omega
   have nt:Hid (d.list.take k++List.replicate (d.list.length-k) (0,0)=d.list):=by
    unfold Hid;rw[← HLI.out,Nat.sub_self,List.take_length];simp
   have yE:=HK.out;rw[nt.out]at yE;have HT:Hid (GdL wr (some ⟨w.heap.size,0,none⟩) d.list):=fun i hi=>by
    obtain⟨g0,g1⟩:=sx d.list i hi;exact⟨w.heap.size,0,rfl,yE.lt,by rw[Nat.zero_add,yE.cell];simpa using g0,by rw[Nat.zero_add,yE.cell];simpa using g1,HGB.out _ (List.getElem_mem hi)⟩
   have HLT:=QH yE.lt;clear yE HK nt;go_wp2_with fail;go_ret;refine⟨_,k,by rw[HLI.out];rfl,HT.out,fun b o e=>?_,df.out⟩;simp only[Option.some.injEq,Addr.mk.injEq,and_true]at e;obtain⟨rfl,_⟩:=e;exact⟨Nat.le_refl _,HLT.out⟩
end Go.Proofs.YtdagdllomphidaaGreatDoor.ch.pg
namespace Go.Proofs.YtdagdllomphidaaGreatDoor.ch.pg
open _root_.Go.Proofs.Tryz Go Go.RowKit Go.Sort Go.Proofs.YtdagdllomphidaaGreatDoor.ib
theorem ey (k:Int)(s:Bt)(w:World):Calls prog 37 #[.pointer none,.int .i64 k,.string (str s)] w (xU 1 w):=by
 go_enter func37,ntmps37;go_wp2_with fail;go_ret;exact⟨rfl,Below.refl _ _⟩
theorem lT (k:Int)(w:World):Calls prog 39 #[.pointer none,.int .i64 k] w (xU 1 w):=by
 go_enter func39,ntmps39;go_wp2_with fail;go_ret;exact⟨rfl,Below.refl _ _⟩
theorem lO (w:World):Calls prog 48 #[.pointer none] w (qjH [] w):=by
 go_enter func48,ntmps48;go_wp2_with fail;go_ret;exact⟨none,0,rfl,fun i h=>absurd h (by simp),uE.none _ _,Below.refl _ _⟩
theorem lN (w:World):Calls prog 49 #[.pointer none] w (lu [] w):=by
 go_enter func49,ntmps49;go_wp2_with fail;go_ret;exact⟨none,0,rfl,fun i h=>absurd h (by simp),uE.none _ _,Below.refl _ _⟩
theorem gU (k:Int)(w:World):Calls prog 51 #[.pointer none,.int .i64 k] w (bQ ([],1) w):=by
 go_enter func51,ntmps51;go_wp2_with fail;go_ret2;exact⟨none,0,rfl,bw.nil _ _,uE.none _ _,Below.refl _ _⟩
theorem qkW(w:World):Calls prog 14 #[.pointer none] w fun e w'=>e=.returned (.pointer none)∧Below w.heap.size w w':=by
 go_enter func14,ntmps14;go_wp2_with fail;go_ret;exact⟨rfl,Below.refl _ _⟩
theorem lU (g:Gd)(w:World):Calls prog 38 #[.pointer none,gv g] w (xU 1 w):=by
 have HB:=QH ((Below.refl w.heap.size w).alloc (Nat.le_refl _) (.cells #[.int .u64 (g.1:Int),.int .u64 (g.2:Int)] 55));have q0:(w.alloc (.cells #[.int .u64 (g.1:Int),.int .u64 (g.2:Int)] 55)).cell? ⟨w.heap.size,0,none⟩=some (.int .u64 (g.1:Int)):=(qg.new w _ _).cell 0;have q1:(w.alloc (.cells #[.int .u64 (g.1:Int),.int .u64 (g.2:Int)] 55)).cell? ⟨w.heap.size,1,none⟩=some (.int .u64 (g.2:Int)):=(qg.new w _ _).cell 1;have HM:=QH (qe4 g (w.alloc (.cells #[.int .u64 (g.1:Int),.int .u64 (g.2:Int)] 55)));unfold gv at HM ⊢;go_enter func38,ntmps38;go_wp2_with fail;refine HM.out.mono ?_;rintro e W ⟨rfl,hb⟩;have qC:=QH (HB.out.trans (hb.mono HB.out.size));clear hb HM q0 q1;go_wp2_with fail;go_ret;exact⟨rfl,qC.out⟩
theorem qpy(g:Gd)(A:Option Addr)(c n:Nat)(w:World):Calls prog 26 #[.pointer none,gv g,.slice A n c] w (xU 1 w):=by
 have HB:=QH ((Below.refl w.heap.size w).alloc (Nat.le_refl _) (.cells #[.int .u64 (g.1:Int),.int .u64 (g.2:Int)] 55));have q0:(w.alloc (.cells #[.int .u64 (g.1:Int),.int .u64 (g.2:Int)] 55)).cell? ⟨w.heap.size,0,none⟩=some (.int .u64 (g.1:Int)):=(qg.new w _ _).cell 0;have q1:(w.alloc (.cells #[.int .u64 (g.1:Int),.int .u64 (g.2:Int)] 55)).cell? ⟨w.heap.size,1,none⟩=some (.int .u64 (g.2:Int)):=(qg.new w _ _).cell 1;have HM:=QH (qe4 g (w.alloc (.cells #[.int .u64 (g.1:Int),.int .u64 (g.2:Int)] 55)));unfold gv at HM ⊢;go_enter func26,ntmps26;go_wp2_with fail;refine HM.out.mono ?_;rintro e W ⟨rfl,hb⟩;have qC:=QH (HB.out.trans (hb.mono HB.out.size));clear hb HM q0 q1;go_wp2_with fail;go_ret;exact⟨rfl,qC.out⟩
theorem lV (g:Gd)(w:World):Calls prog 40 #[.pointer none,gv g] w (xU 1 w):=by
 have HB:=QH ((Below.refl w.heap.size w).alloc (Nat.le_refl _) (.cells #[.int .u64 (g.1:Int),.int .u64 (g.2:Int)] 55));have q0:(w.alloc (.cells #[.int .u64 (g.1:Int),.int .u64 (g.2:Int)] 55)).cell? ⟨w.heap.size,0,none⟩=some (.int .u64 (g.1:Int)):=(qg.new w _ _).cell 0;have q1:(w.alloc (.cells #[.int .u64 (g.1:Int),.int .u64 (g.2:Int)] 55)).cell? ⟨w.heap.size,1,none⟩=some (.int .u64 (g.2:Int)):=(qg.new w _ _).cell 1;have HM:=QH (qaF g (w.alloc (.cells #[.int .u64 (g.1:Int),.int .u64 (g.2:Int)] 55)));unfold gv at HM ⊢;go_enter func40,ntmps40;go_wp2_with fail;refine HM.out.mono ?_;rintro e W ⟨rfl,hb⟩;have qC:=QH (HB.out.trans (hb.mono HB.out.size));clear hb HM q0 q1;go_wp2_with fail;go_ret;exact⟨rfl,qC.out⟩
theorem lQ (g:Gd)(w:World):Calls prog 50 #[.pointer none,gv g] w (kg ([],1) w):=by
 have HB:=QH ((Below.refl w.heap.size w).alloc (Nat.le_refl _) (.cells #[.int .u64 (g.1:Int),.int .u64 (g.2:Int)] 55));have q0:(w.alloc (.cells #[.int .u64 (g.1:Int),.int .u64 (g.2:Int)] 55)).cell? ⟨w.heap.size,0,none⟩=some (.int .u64 (g.1:Int)):=(qg.new w _ _).cell 0;have q1:(w.alloc (.cells #[.int .u64 (g.1:Int),.int .u64 (g.2:Int)] 55)).cell? ⟨w.heap.size,1,none⟩=some (.int .u64 (g.2:Int)):=(qg.new w _ _).cell 1;have HM:=QH (qaF g (w.alloc (.cells #[.int .u64 (g.1:Int),.int .u64 (g.2:Int)] 55)));unfold gv at HM ⊢;go_enter func50,ntmps50;go_wp2_with fail;refine HM.out.mono ?_;rintro e W ⟨rfl,hb⟩;have qC:=QH (HB.out.trans (hb.mono HB.out.size));clear hb HM q0 q1;go_wp2_with fail;go_ret2;exact⟨none,0,rfl,fun i h=>absurd h (by simp),uE.none _ _,qC.out⟩
theorem qi4:Impl n4 where
 low:=fun⟨_,_,h⟩=>h.low
 ok:=fun⟨h,_⟩=>h
 keep:=fun⟨h0,v,h⟩ hb hs=>⟨h0,v,h.keep hs hb⟩
 pJ:=fun b w hb h=>pJ b w hb h
 uN:=fun n w h1 h8=>uN n w h1 h8
 write:=fun k s h _=>(sq k s h).mono fun _ _ ha=>ha.1
 snap:=fun g h hg=>(qaI h g hg).mono fun _ _ ha=>ha.1
 add:=fun g A c x h hg hx hl _=>(qe7 g A c x h hg hx hl).mono fun _ _ ha=>ha.1
 roll:=fun k h _=>(qaJ k h).mono fun _ _ ha=>ha.1
 kK:=fun g h _=>(qaH h g).mono fun _ _ ha=>ha.1
 live:=fun h=>rQ h
 list:=fun h=>qkV h
 read:=fun g h _=>wT h g
 changes:=fun k h _=>kS h k
 copy:=fun h=>sf h
 at_:=fun⟨_,_,h⟩=>h.op
 qnp:=fun k s h _=>sq k s h
 qt7:=fun k h _=>qaJ k h
 qt8:=fun g h hg=>qaI h g hg
 qzN:=fun g A c x h hg hx hl=>qe7 g A c x h hg hx hl
 qt9:=fun g h _=>qaH h g
 qgk:=fun k s w _=>ey k s w
 qnq:=fun g w _=>lU g w
 q58:=fun g A c x w _ _ _=>qpy g A c x.length w
 qnr:=fun k w _=>lT k w
 qns:=fun g w _=>lV g w
 qnt:=lO
 qnu:=lN
 qnv:=fun g w _=>lQ g w
 pK:=fun k w _=>gU k w
 qzO:=qkW
end Go.Proofs.YtdagdllomphidaaGreatDoor.ch.pg
namespace Go.Proofs.YtdagdllomphidaaGreatDoor.ch
end Go.Proofs.YtdagdllomphidaaGreatDoor.ch
namespace Go.Proofs.YtdagdllomphidaaGreatDoor.vt
open _root_.Go.Proofs.Tryz Go Go.RowKit jr mt im sp
theorem qi4:yz pg.jL where
 tab:=fun h=>pg.qrr h
 low:=fun h=>pg.qb5 h
 keep:=fun h hb hs=>pg.qn1 h hb hs
 iC:=fun h=>pg.qrs h
 qgn:=fun b w _=>pg.sg b w
 qgo:=fun b h _ _ hb=>pg.si b h hb
 lv:=fun b N room h iJ hog h1 h8 hN mG hr=>pg.tH b N room h iJ hog h1 h8 hN mG hr
 qnz:=fun w=>pg.qcg w
 qd4:=fun N room h _ hN _=>pg.qch N room h (by omega)
 nN:=fun h iJ hog hJ hf hR=>pg.qew h iJ hog hJ hf hR
 blocks:=fun h=>pg.jz h
 list:=fun h=>pg.wm h
 token:=fun h=>pg.iT h
 live:=fun h hJ hR=>pg.rQ h hJ hR
 read:=fun g h hJ hR _=>pg.qkD g h hJ hR
 changes:=fun k h hJ hR hk=>pg.qcl k h hJ hR hk
 write:=fun k s h hJ hf hR hk=>pg.lC k s h hJ hf hR hk
 snap:=fun g h hJ hf hR hg=>pg.oC g h hJ hf hR hg
 roll:=fun n h hJ hf hR hn=>pg.qoX n h hJ hf hR hn
 kK:=fun g h hJ hf hR _=>pg.qoR g h hJ hf hR
 stage:=fun f A c x h hJ hf hR hfb hx dG _=>pg.qkQ f A c x h hJ hf hR hfb hx dG
 forget:=fun h hJ hf hR=>pg.qhe h hJ hf hR
 qd5:=fun {o1 o2 w v pd d m l} h hl=>(pg.qek h hl).mono fun e w' hx=>⟨hx.1,o1,hx.2.1,hx.2.2.mono (fun j hj=>by
  obtain⟨A0,A1,A2,c0,c1,c2,h1⟩:=h.is;rw[hj];exact h1.own),fun j hj=>.inl hj⟩
 bh:=fun k s h hl _=>pg.tG k s h hl
 qn0:=fun g h hl _=>pg.qce g h hl
 pM:=fun h hl=>pg.rW h hl
 qrp:=fun w=>pg.qej w
 qnu:=fun w=>pg.lN w
 qvG:=fun w=>pg.qhh w
 qnt:=fun w=>pg.lO w
 qnv:=fun g w _=>pg.lQ g w
 pK:=fun k w _=>pg.gU k w
 qgk:=fun k s w _=>pg.ey k s w
 qnq:=fun g w _=>pg.lU g w
 qnr:=fun n w _=>pg.lT n w
 qns:=fun g w _=>pg.lV g w
 qvH:=fun f w _=>pg.qhf f w
 qrq:=fun w=>pg.qeq w
end Go.Proofs.YtdagdllomphidaaGreatDoor.vt
namespace Go.Proofs.YtdagdllomphidaaGreatDoor.vt
open _root_.Go.Proofs.Tryz Go Go.RowKit ib jr mt im sp
theorem qxr(z:UInt8):(sB z).length=32:=by
 unfold sB;refine qft ?_;have:z.toNat%200<200:=Nat.mod_lt _ (by decide);rw[UInt8.toNat_ofNat'];omega
section
variable {N:Nat} {t:Tg} {m:Mt}
theorem qkX(N:Nat)(m:Mt)(k:Int)(s:Bt):(zv N m k s).m.tok=m.tok:=by
 unfold zv;split
 ·rfl
 ·split <;> rfl
theorem qpz(m:Mt)(g:Gd)(h:m.tok=zR):(ke m g).m.tok=zR:=by
 unfold ke;split
 ·exact h
 ·split
  ·exact h
  ·rfl
theorem qp0(m:Mt)(n:Int)(h:m.tok=zR):(jF m n).m.tok=zR:=by
 unfold jF;split
 ·exact h
 ·rfl
theorem qp1(m:Mt)(g:Gd):(uQ m g).m.tok=m.tok:=by
 unfold uQ;split
 ·rfl
 ·split
  ·rfl
  ·split <;> rfl
theorem aO (h:qW 8 N t m)(wx:m.tok=zR)(x:tx)(next:Nat)(hn:next<18446744073709551616) :
    ((jH N m x next).code=7∧N<377)∨((jH N m x next).code=(zE (zD t m) x next).2∧((jH N m x next).code=0→Does 8 N t m (jH N m x next) (zE (zD t m) x next).1∧(jH N m x next).m.tok=zR)∧((jH N m x next).code≠0→(zE (zD t m) x next).1=zD t m)):=by
 have hgd:xn (1,next):=⟨by show 1<18446744073709551616;omega,hn⟩;unfold jH zE;by_cases h0:x.k%6=0∨x.k%6=1
 ·rw[if_pos h0,if_pos h0];rcases cQ h ((x.n:Int)%9) (sB x.z)with⟨h7,hf⟩|⟨h1,h2,h3⟩
  ·exact .inl ⟨h7,hf.far h.ok (by simp)⟩
  ·exact .inr ⟨h1,fun hc=>⟨h2 hc,by rw[qkX];exact wx⟩,h3⟩
 rw[if_neg h0,if_neg h0];by_cases h1:x.k%6=2
 ·rw[if_pos h1,if_pos h1];obtain⟨g1,g2,g3⟩:=lq h (1,next) hgd;exact .inr ⟨g1,fun hc=>⟨g2 hc,qpz m _ wx⟩,g3⟩
 rw[if_neg h1,if_neg h1];by_cases h2:x.k%6=3
 ·rw[if_pos h2,if_pos h2];obtain⟨g1,g2,g3⟩:=lr h ((x.n:Int)%6);exact .inr ⟨g1,fun hc=>⟨g2 hc,qp0 m _ wx⟩,g3⟩
 rw[if_neg h2,if_neg h2];by_cases h3:x.k%6=4
 ·rw[if_pos h3,if_pos h3];obtain⟨g1,g2,g3⟩:=qau h (1,x.n%8);exact .inr ⟨g1,fun hc=>⟨g2 hc,by rw[qp1];exact wx⟩,g3⟩
 rw[if_neg h3,if_neg h3];have hl:(zD t m).live.length=8:=by
  show(volume t m.live).length=8;rw[yg];exact h.ok.len
 have hx:zT 8 (-1) [(((x.n:Int)%8),sB x.z)]=true:=by
  unfold zT zT;have:x.n%8<8:=Nat.mod_lt _ (by decide);simp[qxr];omega
 have hbl:(zD t m).base.length=(zD t m).live.length:=by
  rw[pD,yg,(az h.ok).1,hl]
 have hm:(zD t m).may (1,next)=if mt.above (1,next) (qF m)=true then(if 20≤m.qa.length then 3 else 0)else 2:=by
  unfold ch.CH.may;rw[pC];have:(zD t m).qa.length=m.qa.length:=by simp[zD]
  rw[this];rfl
 have he:zU m.live.length m.qa.length (qF m) ⟨qF m,(1,next),1,1⟩ [(((x.n:Int)%8),sB x.z)]=(zD t m).may (1,next):=by
  rw[hm,h.ok.len];unfold zU;dsimp only;rw[hx];cases mt.above (1,next) (qF m) <;> simp
 have ha:=qjG (zD t m) (1,next) [(((x.n:Int)%8),sB x.z)] (by rw[hl];exact hx) hbl;have ny:zJ m ⟨qF m,(1,next),1,1⟩=xS m:=by
  unfold zJ;rw[wx,if_neg];intro h;have h2:(0:Int)=1:=h.2.2;exact absurd h2 (by decide)
 rcases gH h ⟨qF m,(1,next),1,1⟩ hgd [(((x.n:Int)%8),sB x.z)]with⟨h7,hf,_⟩|⟨g1,g2⟩
 ·exact .inl ⟨h7,hf.far h.ok (by simp)⟩
 ·right
  rw[he]at g1;rw[g1,ha];by_cases hm0:(zD t m).may (1,next)=0
  ·rw[if_pos hm0];refine⟨hm0,fun _=>?_,fun hc=>absurd hm0 hc⟩;obtain⟨d1,d2⟩:=(g2 (by rw[g1];exact hm0)).whole rfl;rw[ny,← pD]at d1;exact⟨d1,d2⟩
  ·rw[if_neg hm0];exact⟨rfl,fun hc=>absurd hc hm0,fun _=>rfl⟩
end
end Go.Proofs.YtdagdllomphidaaGreatDoor.vt
namespace Go.Proofs.YtdagdllomphidaaGreatDoor.ch
open _root_.Go.Proofs.Tryz Go Go.RowKit ib
theorem wU (c:UInt8)(w:World):Calls prog 18 #[.int .u8 (c.toNat:Int)] w (okS (wV c) w):=by
 have hc0:(0:Int)≤(c.toNat:Int):=by omega
 have hc1:(c.toNat:Int)<256:=by have:=c.toNat_lt;omega
 go_enter func18,ntmps18;go_wp2_with (at_make;refine qf rfl (qcG _ _ 32 rfl rfl rfl (by decide)) ?_;rw[← qfv c]);have hb0:qg (w.alloc (.cells (wj c 0) 5)) w.heap.size 5 (wj c 0):=qg.new _ _ _;have hB0:Below w.heap.size w (w.alloc (.cells (wj c 0) 5)):=(Below.refl _ w).alloc (Nat.le_refl _) _;have Hb0:=QH hb0;have xz:=QH hB0;clear hb0 hB0;generalize w.alloc (.cells (wj c 0) 5)=W0 at *;go_loopw [4] (fun i wr=>∃k:Nat,k≤32∧i=.int .i64 (k:Int)∧qg wr w.heap.size 5 (wj c k)∧Below w.heap.size w wr) (fun i _=>32-(intOf i).toNat);case atStart=>exact⟨0,by omega,rfl,Hb0.out,xz.out⟩
 case round =>
  obtain⟨k,hk,rfl,yE,hBk⟩:=hrel;have yP:=QH yE;have HB:=QH hBk;by_cases hlt:k<32
  ·have hcell:(wr.cell? ⟨w.heap.size,k,none⟩).isSome=true:=by
      rw[yE.cell k,Array.getElem?_eq_getElem (by rw[qfw c k hk];exact hlt)];rfl
   obtain⟨u,hu⟩:=Option.isSome_iff_exists.1 hcell;have hf:=yE.frozen k;clear yE hBk hcell;go_wp2_with fail;go_roundw;case rel=>exact⟨k+1,by omega,by go_num,by rw[← qiK c k hlt];exact yP.out.ql k _,HB.out.setCell (Nat.le_refl _) _⟩
   case measure=>simp[intOf];omega
  ·have q79:k=32:=by omega
   clear yE hBk hk hlt;subst q79;have hP:=yP.out;rw[qfx]at hP;have HP:=QH hP;clear hP;by_cases qsH:c.toNat≤250
   ·have hcv:=wZ (rep c 32) w.heap.size 32 5 wr (cd _ _) HP.out;have hd:wV c=rep c 32:=by unfold wV;rw[if_pos qsH]
    have HD:=QH hd;have q2k:¬ 250<(c.toNat:Int):=by omega
    clear hd qsH;go_wp2_with fail;go_ret;exact⟨(by rw[HD.out];rfl),HB.out⟩
   ·have hd:wV c=rep c (c.toNat%31):=by unfold wV;rw[if_neg qsH]
    have HD:=QH hd;have hm:c.toNat%31<31:=Nat.mod_lt _ (by decide);have hcv:=qiJ (rep c (c.toNat%31)) _ w.heap.size 32 5 wr HP.out (by
     intro j u hu;have hj:j<c.toNat%31:=by have:=(List.getElem?_eq_some_iff.1 hu).1;simpa[Lib.byteCells,rep]using this
     simp only[Lib.byteCells,rep,List.map_replicate,List.getElem?_toArray,List.getElem?_replicate]at hu ⊢;rw[if_pos hj]at hu;rw[if_pos (by omega)];exact hu)
    rw[cd]at hcv;have q2k:250<(c.toNat:Int):=by omega
    have hmi:((c.toNat:Int)%31).toNat=c.toNat%31:=by omega
    have ze9:0≤(c.toNat:Int)%31:=by omega
    have zeA:(c.toNat:Int)%31≤32:=by omega
    clear hd qsH;go_wp2_with fail;go_ret;exact⟨(by rw[HD.out];rfl),HB.out⟩
def PtL (w:World)(A:Option Addr)(zs:List (Int × UInt8)):Prop :=
 ∀i (h:i<zs.length),∃b o,A=some ⟨b,o,none⟩∧b<w.heap.size∧w.cell? ⟨b,o+i*2,none⟩=some (.int .i64 zs[i].1)∧w.cell? ⟨b,o+i*2+1,none⟩=some (.int .u8 (zs[i].2.toNat:Int))∧jd zs[i].1
theorem PtL.below{w w':World}{A:Option Addr}{x:List (Int × UInt8)}(h:PtL w A x)(hb:Below w.heap.size w w'):PtL w' A x:=by
 intro i hi;obtain⟨b,o,h1,h2,h3,h4,h5⟩:=h i hi;exact⟨b,o,h1,Nat.lt_of_lt_of_le h2 hb.size,by rw[hb.cell (p:=⟨b,o+i*2,none⟩) h2];exact h3,by rw[hb.cell (p:=⟨b,o+i*2+1,none⟩) h2];exact h4,h5⟩
def bJ (zs:List (Int × UInt8)):List (Int × Bt):=(zs.take 10).map fun x=>(x.1,wV x.2)
theorem qcn(W:World)(j:Int)(a:UInt8)(hj:jd j):PtL (W.alloc (.cells #[.int .i64 j,.int .u8 (a.toNat:Int)] 73)) (some ⟨W.heap.size,0,none⟩) [(j,a)]:=by
 intro i hi;obtain rfl:i=0:=by simpa using hi
 exact⟨W.heap.size,0,rfl,by simp,(qg.new W _ _).cell 0,(qg.new W _ _).cell 1,hj⟩
def CG (vo:Value)(bb bo k n c:Nat)(x1:Int)(x2:Nat)(S:ByteArray):Nat→Value→World→Prop
 | 0,v,_=>v=vo
 | 1,v,_=>v=.slice (some ⟨bb,bo,none⟩) n c
 | 2,v,_=>v=.int .i64 (k:Int)
 | 3,v,_=>v=.pointer (some ⟨bb,bo+k*2,none⟩)
 | 4,v,_=>v=.pointer (some ⟨bb,bo+k*2,none⟩)
 | 5,v,_=>v=.int .i64 x1
 | 6,v,_=>v=.slice (some ⟨bb,bo,none⟩) n c
 | 7,v,_=>v=.int .i64 (k:Int)
 | 8,v,_=>v=.pointer (some ⟨bb,bo+k*2,none⟩)
 | 9,v,_=>v=.pointer (some ⟨bb,bo+k*2+1,none⟩)
 | 10,v,_=>v=.int .u8 (x2:Int)
 | 11,v,_=>v=.string S
 | 12,v,_=>v=.agg #[.int .i64 x1,.string S]
 | 13,v,w=>∃g,v=.slice (some ⟨g,0,none⟩) 1 1∧qg w g 62 #[.int .i64 x1,.string S]
 | _,_,_=>True
theorem qsI(vo:Value)(bb bo k n c:Nat)(x1:Int)(x2:Nat)(S:ByteArray)(i:Nat)(v:Value)(w w':World)(hi:i<14)(h:CG vo bb bo k n c x1 x2 S i v w)(hb:Below w.heap.size w w'):CG vo bb bo k n c x1 x2 S i v w':=by
 match i,hi,h with
 | 0,_,h | 1,_,h | 2,_,h | 3,_,h | 4,_,h | 5,_,h | 6,_,h | 7,_,h | 8,_,h | 9,_,h | 10,_,h | 11,_,h | 12,_,h=>exact h
 | 13,_,⟨g,h1,h2⟩=>exact⟨g,h1,h2.below hb⟩
def q2l (zs:List (Int × UInt8))(w:World)(v i:Value)(wr:World):Prop :=
 ∃k:Nat,k≤zs.length∧k≤10∧i=.int .i64 (k:Int)∧wR wr w.heap.size v (bJ (zs.take k))∧Below w.heap.size w wr
theorem qkY(zs:List (Int × UInt8))(k:Nat)(h:k<zs.length)(h10:k<10):bJ (zs.take (k+1))=bJ (zs.take k)++[(zs[k].1,wV zs[k].2)]:=by
 unfold bJ;rw[List.take_take,List.take_take,Nat.min_eq_right (by omega),Nat.min_eq_right (by omega),List.take_succ_eq_append_getElem h,List.map_append];rfl
theorem qp2(zs:List (Int × UInt8))(k:Nat)(h:k≤zs.length)(h10:k≤10):(bJ (zs.take k)).length=k:=by
 unfold bJ;rw[List.take_take,List.length_map,List.length_take];omega
theorem qkZ(zs:List (Int × UInt8))(k:Nat)(h:k≤zs.length)(h10:k≤10)(he:¬ (k<zs.length∧k<10)):bJ (zs.take k)=bJ zs:=by
 unfold bJ;rw[List.take_take]
 congr 1
 by_cases h:k=zs.length
 ·subst h;rw[← List.take_take,List.take_length]
 ·have:k=10:=by omega
  subst this;rw[Nat.min_self]
theorem qeA{zs:List (Int × UInt8)}(h:∀x∈zs,jd x.1):∀x∈bJ zs,jd x.1:=by
 intro x hx;obtain⟨y,hy,rfl⟩:=List.mem_map.1 hx;exact h y (List.mem_of_mem_take hy)
theorem kS (A:Option Addr)(cp:Nat)(zs:List (Int × UInt8))(w:World)(hT:PtL w A zs)(hl:zs.length≤9223372036854775807) :
    Calls prog 29 #[.slice A zs.length cp] w (q0R (bJ zs) w):=by
 obtain⟨i0,hi,hz0,hz1,hz2⟩:=info_parts qgL;have HT:=QH hT;have HZB:Hid (∀x∈zs,jd x.1):=fun x hx=>by
  obtain⟨i,hi,rfl⟩:=List.getElem_of_mem hx;obtain⟨_,_,_,_,_,_,h⟩:=hT i hi;exact h
 clear hT;go_enter func29,ntmps29;go_wp2_with fail;go_loopw [3,4] (fun v i wr=>q2l zs w v i wr) (fun _ i _=>11-(intOf i).toNat);case atStart=>exact⟨0,Nat.zero_le _,Nat.zero_le _,rfl,World.ownsRow_nil _ _ _ _,Below.refl _ _⟩
 case round =>
  obtain⟨k,hk,qk5,rfl,ho,hB⟩:=hrel;have HO:=QH ho;have HB:=QH hB;clear ho hB;by_cases hgo:k<zs.length∧k<10
  ·obtain⟨hlt,q2m⟩:=hgo;obtain⟨bb,bo,rfl,hbb,c0,c1,cb⟩:=HT.out k hlt;have kX:=QH (qkY zs k hlt q2m);have bF:=QH (qp2 zs k hk qk5);obtain⟨A5,c5,hv5,_⟩:=HO.out.view (fun y hy=>qeA (zs:=zs.take k) (fun z hz=>HZB.out z (List.mem_of_mem_take hz)) y hy);rw[bF.out]at hv5;subst hv5;have q0:wr.cell? ⟨bb,bo+k*2,none⟩=some (.int .i64 zs[k].1):=by rw[HB.out.cell (p:=⟨bb,bo+k*2,none⟩) hbb];exact c0
   have q1:wr.cell? ⟨bb,bo+k*2+1,none⟩=some (.int .u8 (zs[k].2.toNat:Int)):=by rw[HB.out.cell (p:=⟨bb,bo+k*2+1,none⟩) hbb];exact c1
   have mA:bb<wr.heap.size:=Nat.lt_of_lt_of_le hbb HB.out.size;have ra:(k:Int)<(zs.length:Int):=by omega
   have zaM:(k:Int)<10:=by omega
   clear c0 c1 cb;generalize zs[k]=x at *;have Q0:=QH q0;have Q1:=QH q1;clear q0 q1;have hcz:=x.2.toNat_lt;obtain⟨S,hS⟩:=QE (str (wV x.2));have HD:=QH (fun W=>wU x.2 W);have HS:=QH hS;clear hS;go_wp2_with fail;refine qQ (by kernel_rfl) 14 [15,16,17,18,19,20,21,22,23,24,25,26,27,28] (by kernel_rfl) (CG (.slice A5 k c5) bb bo k zs.length cp x.1 x.2.toNat S) (qsI _ _ _ _ _ _ _ _ _) ?_ ?_
   ·intro i o vs ρ W hi ho hρ hfn hb hG;have t3:ρ (.tmp 3)=.slice A5 k c5:=hρ.out 3 rfl;have t0:ρ (.tmp 0)=.slice (some ⟨bb,bo,none⟩) zs.length cp:=hρ.out 0 rfl;have t4:ρ (.tmp 4)=.int .i64 (k:Int):=hρ.out 4 rfl;have s1:=hρ.at_ 16 1 rfl;have s2:=hρ.at_ 17 2 rfl;have s3:=hρ.at_ 18 3 rfl;have s4:=hρ.at_ 19 4 rfl;have s5:=hρ.at_ 20 5 rfl;have s6:=hρ.at_ 21 6 rfl;have s7:=hρ.at_ 22 7 rfl;have s8:=hρ.at_ 23 8 rfl;have s9:=hρ.at_ 24 9 rfl;have s10:=hρ.at_ 25 10 rfl;have tU:=hρ.at_ 26 11 rfl;have s12:=hρ.at_ 27 12 rfl;have hc:=hρ.const;have q0:W.cell? ⟨bb,bo+k*2,none⟩=some (.int .i64 x.1):=by rw[hb.cell (p:=⟨bb,bo+k*2,none⟩) mA];exact Q0.out
    have q1:W.cell? ⟨bb,bo+k*2+1,none⟩=some (.int .u8 (x.2.toNat:Int)):=by rw[hb.cell (p:=⟨bb,bo+k*2+1,none⟩) mA];exact Q1.out
    rcases i with _|_|_|_|_|_|_|_|_|_|_|_|_|_|i;all_goals (first|omega|skip)
    all_goals simp only[QA,QB,QC,Option.some.injEq]at ho
    all_goals subst ho
    ·exact q9 (w':=W) (by unfold execOp;simp only[t3];go_simp) ⟨Below.refl _ _,rfl⟩
    ·exact q9 (w':=W) (by unfold execOp;simp only[t0];go_simp) ⟨Below.refl _ _,rfl⟩
    ·exact q9 (w':=W) (by unfold execOp;simp only[t4];go_simp) ⟨Below.refl _ _,rfl⟩
    ·have g1:vs 1=_:=hG 1 (by kernel_rfl);have g2:vs 2=_:=hG 2 (by kernel_rfl);exact q9 (w':=W) (by unfold execOp;simp only[s1,g1,s2,g2];go_simp) ⟨Below.refl _ _,rfl⟩
    ·have g3:vs 3=_:=hG 3 (by kernel_rfl);exact q9 (w':=W) (by unfold execOp;simp only[s3,g3];go_simp) ⟨Below.refl _ _,rfl⟩
    ·have g4:vs 4=_:=hG 4 (by kernel_rfl);exact q9 (w':=W) (by unfold execOp;simp only[s4,g4];go_simp) ⟨Below.refl _ _,rfl⟩
    ·exact q9 (w':=W) (by unfold execOp;simp only[t0];go_simp) ⟨Below.refl _ _,rfl⟩
    ·exact q9 (w':=W) (by unfold execOp;simp only[t4];go_simp) ⟨Below.refl _ _,rfl⟩
    ·have g6:vs 6=_:=hG 6 (by kernel_rfl);have g7:vs 7=_:=hG 7 (by kernel_rfl);exact q9 (w':=W) (by unfold execOp;simp only[s6,g6,s7,g7];go_simp) ⟨Below.refl _ _,rfl⟩
    ·have g8:vs 8=_:=hG 8 (by kernel_rfl);exact q9 (w':=W) (by unfold execOp;simp only[s8,g8];go_simp) ⟨Below.refl _ _,rfl⟩
    ·have g9:vs 9=_:=hG 9 (by kernel_rfl);exact q9 (w':=W) (by unfold execOp;simp only[s9,g9];go_simp) ⟨Below.refl _ _,rfl⟩
    ·have g10:vs 10=_:=hG 10 (by kernel_rfl);refine qj (f:=18) (args:=#[.int .u8 (x.2.toNat:Int)]) (w':=W) (by unfold execOp;simp only[hc,hfn,s10,g10];go_simp) ((HD.out W).mono ?_);rintro e W' ⟨rfl,hb'⟩;exact⟨_,rfl,hb',by rw[HS.out];rfl⟩
    ·have g5:vs 5=_:=hG 5 (by kernel_rfl);have g11:vs 11=_:=hG 11 (by kernel_rfl);exact q9 (w':=W) (by unfold execOp;simp only[s5,g5,tU,g11];go_simp) ⟨Below.refl _ _,rfl⟩
    ·have g12:vs 12=_:=hG 12 (by kernel_rfl);refine q9 (w':=W.alloc (.cells #[.int .i64 x.1,.string S] 62)) (v:=.slice (some ⟨W.heap.size,0,none⟩) 1 1) (by unfold execOp;simp only[s12,g12];go_simp) ⟨(Below.refl _ W).alloc (Nat.le_refl _) _,W.heap.size,rfl,qg.new _ _ _⟩
   ·intro vs W hb hG;have g0:vs 0=_:=hG 0 (by decide);obtain⟨g,g13,yE⟩:=hG 13 (by decide);have B2:=QH (qc HB.out hb);have uX:Hid (W.ownsRow w.heap.size 62 2 (.slice A5 k c5) k (ud (bJ (zs.take k)))):=by
     have ho:=HO.out;unfold wR at ho;rw[bF.out]at ho;refine⟨ho.1,?_⟩;rcases ho.2 with h2|⟨g',cap,cur,h1,h2,h3,h4⟩
     ·exact .inl h2
     ·exact .inr ⟨g',cap,cur,h1,h2,(hb.block g' (Array.getElem?_eq_some_iff.1 h3).1).trans h3,h4⟩
    have bH:Hid (∀(j:Nat) (u:Value),([.int .i64 x.1,.string S]:List Value)[j]?=some u→W.cell? ((⟨g,0,none⟩:Addr).add j)=some u):=by
     intro j u hj
     match j,hj with
     | 0,hj =>
      simp at hj;subst hj;rw[addr_add];exact yE.cell 0
     | 1,hj =>
      simp at hj;subst hj;rw[addr_add];exact yE.cell 1
    simp only[za,qN,if_true];rw[g0,g13];generalize vs 1=y1;generalize vs 2=y2;generalize vs 3=y3;generalize vs 4=y4;generalize vs 5=y5;generalize vs 6=y6;generalize vs 7=y7;generalize vs 8=y8;generalize vs 9=y9;generalize vs 10=y10;generalize vs 11=y11;generalize vs 12=y12;clear hG g0 g13 yE;simp only[Act.put,List.setIfInBounds_toArray,List.set_cons_succ,List.set_cons_zero];refine qL (i:=14) (by kernel_rfl) rfl rfl ?_;have qkT:∀u∈([Value.int .i64 x.1,.string S]:List Value),u.oneCell'=true:=by
     rw[← HS.out];exact qbK (x.1,wV x.2)
    refine wp_append_own W (.tmp 15) (.tmp 28) 60 rfl w.heap.size 62 i0 (.agg #[.int .i64 0,.string ByteArray.empty]) 2 24 underlying60 hi hz0 hz1 hz2 rfl (by decide) _ k _ rfl uX.out ⟨g,0,none⟩ 1 1 [.int .i64 x.1,.string S] rfl rfl bH.out qkT (by unfold maxLen;omega) (by omega) B2.out.size ?_;intro v' w1 hown hgrow _;have qZ:=QH (B2.out.grown hgrow B2.out.size (fun j hj=>(uX.out.lt j hj).1));have HOS:Hid (wR w1 w.heap.size v' (bJ (zs.take (k+1)))):=by
     unfold Hid;rw[kX.out];refine wR.snoc (x:=(x.1,wV x.2)) ?_;rw[bF.out,HS.out];exact hown
    obtain⟨A6,c6,hv6,_⟩:=HOS.out.view (fun y hy=>qeA (zs:=zs.take (k+1)) (fun z hz=>HZB.out z (List.mem_of_mem_take hz)) y hy);clear hown hgrow hb;subst hv6;go_simp;refine qL (i:=15) (by kernel_rfl) rfl rfl ?_;go_simp;refine⟨by kernel_rfl,?_⟩;go_wp2_with fail;go_roundw;case rel=>exact⟨k+1,by omega,by omega,by go_num,HOS.out,qZ.out⟩
    case measure=>simp[intOf];omega
  ·have HE:=QH (qkZ zs k hk qk5 hgo);by_cases hkl:(k:Int)<(zs.length:Int)
   ·have zO:¬ ((k:Int)<10):=by omega
    go_wp2_with fail;go_ret;exact⟨_,rfl,by rw[← HE.out];exact HO.out,HB.out⟩
   ·go_wp2_with fail;go_ret;exact⟨_,rfl,by rw[← HE.out];exact HO.out,HB.out⟩
theorem xx (e c:Nat)(w:World):Calls prog 23 #[.int .u64 (e:Int),.int .u64 (c:Int)] w fun x w'=>x=.returned (gv (e,c))∧Below w.heap.size w w':=by
 go_enter func23,ntmps23;go_wp2_with fail;have q0:(w.alloc (.cells #[.int .u64 (e:Int),.int .u64 (c:Int)] 55)).cell? ⟨w.heap.size,0,none⟩=some (.int .u64 (e:Int)):=(qg.new w _ _).cell 0;have q1:(w.alloc (.cells #[.int .u64 (e:Int),.int .u64 (c:Int)] 55)).cell? ⟨w.heap.size,1,none⟩=some (.int .u64 (c:Int)):=(qg.new w _ _).cell 1;refine bodyPost_ret (v:=gv (e,c)) (by simp[results,results23,go_sem,q0,q1,gv]) rfl ?_;exact⟨rfl,(Below.refl w.heap.size w).alloc (Nat.le_refl _) _⟩
end Go.Proofs.YtdagdllomphidaaGreatDoor.ch
namespace Go.Proofs.YtdagdllomphidaaGreatDoor.vt
open _root_.Go.Proofs.Tryz Go Go.RowKit ib jr mt im sp
theorem dm {w wr:World}(h:Below w.heap.size w wr)(n:Nat):Below w.heap.size w (wr.drewN n):=⟨h.os,h.tape,h.output,h.size,h.block⟩
def xX (x:tx):Array Value:=#[.int .u8 (x.k:Int),.int .u8 (x.n:Int),.int .u8 (x.z.toNat:Int)]
def StP (IV:yx)(IC:ch.cS)(B:Nat)(X:Nat→Prop)(v pd p N:Nat)(t:Tg)(s:Tri)(x:tx)(next:Nat)(w:World)(e:Ending)(w':World):Prop :=
 ∃r d' m' l',e=.returned (.tuple #[.int .i64 r,.int .i64 (zE s.c x next).2])∧V3 IV IC w' B X v pd p ⟨d',m',(zE s.c x next).1,l'⟩∧Ke B X w w'∧yo N t s.d s.m (jH N s.m x next) r d' m' l'
theorem qla(z:UInt8)(w:World):Calls prog 18 #[.int .u8 ((z.toNat:Int)%200)] w (okS (sB z) w):=by
 have h:=ch.wU (UInt8.ofNat (z.toNat%200)) w;have e:((UInt8.ofNat (z.toNat%200)).toNat:Int)=(z.toNat:Int)%200:=by
  rw[UInt8.toNat_ofNat'];omega
 rw[e]at h;exact h
def StS (IV:yx)(IC:ch.cS)(B:Nat)(X:Nat→Prop)(v pd p:Nat)(w0:World)(s:Tri)(c':ch.CH)(Q:Int→DD→Mt→Bool→Prop)(x:Value)(a b:Bool)(W:World):Prop :=
 Ke B X w0 W∧if a=true then ∃r d' m' l',x=.int .i64 r∧Q r d' m' l'∧V3 IV IC W B X v pd p ⟨d',m',if b then c' else s.c,l'⟩else V3 IV IC W B X v pd p s
section
variable {IV:yx} {IC:ch.cS} (H:yz IV) (HC:ch.Ops IC) {B v pd p:Nat} {X:Nat→Prop} {w0 W W':World} {s:Tri} {c':ch.CH} {Q:Int→DD→Mt→Bool→Prop} {x:Value} {a b:Bool}
theorem qxt(h:StS IV IC B X v pd p w0 s c' Q x a b W):Ke B X w0 W:=h.1
include H HC
theorem qaM(h:StS IV IC B X v pd p w0 s c' Q x a b W)(hb:Below W.heap.size W W'):StS IV IC B X v pd p w0 s c' Q x a b W':=by
 refine⟨h.1.trans (Ke.of_below hb),?_⟩;have h2:=h.2;cases a with
 | true =>
  rw[if_pos rfl]at h2 ⊢;obtain⟨r,d',m',l',h3,h4,h5⟩:=h2;exact⟨r,d',m',l',h3,h4,h5.below H HC hb⟩
 | false=>exact V3.below H HC h2 hb
theorem qlc(h:V3 IV IC w0 B X v pd p s):StS IV IC B X v pd p w0 s c' Q x false false w0.drew :=
 ⟨Ke.of_below (dm (Below.refl _ _) 1),h.below H HC (dm (Below.refl _ _) 1)⟩
omit H in
theorem q2n(h:StS IV IC B X v pd p w0 s c' Q x false false W)(hB:B≤w0.heap.size){f:Nat}{args:Array Value}(hc:∀o1 o2,VP IV W o1 o2 v pd s.d s.m s.lost→(∀j,o1 j∨o2 j→B≤j∧¬ X j)→Calls prog f args W (ua IV o1 o2 v pd Q W)) :
    Calls prog f args W fun e W'=>∃r,e=.returned r∧StS IV IC B X v pd p w0 s c' Q r true false W':=by
 refine(kM HC h.2 (Nat.le_trans hB h.1.size) hc).mono ?_;rintro e W' ⟨r,d',m',l',he,hv,hk,hq⟩;exact⟨_,he,h.1.trans hk,by rw[if_pos rfl];exact⟨r,d',m',l',rfl,hq,hv⟩⟩
omit HC in
theorem q2o(h:StS IV IC B X v pd p w0 s c' Q x true false W)(hB:B≤w0.heap.size){f:Nat}{args:Array Value}{er:Int}(hc:∀o3,IC o3 W p s.c→(∀j,o3 j→B≤j∧¬ X j)→Calls prog f args W (ch.Aft IC o3 p (c',er) W)) :
    Calls prog f args W fun e W'=>e=.returned (.int .i64 er)∧StS IV IC B X v pd p w0 s c' Q x true true W':=by
 have h2:=h.2;rw[if_pos rfl]at h2;obtain⟨r,d',m',l',hx,hq,hv⟩:=h2;refine(wL H hv (Nat.le_trans hB h.1.size) (r:=(c',er)) hc).mono ?_;rintro e W' ⟨he,hv',hk⟩;exact⟨he,h.1.trans hk,by rw[if_pos rfl];exact⟨r,d',m',l',hx,hq,hv'⟩⟩
omit H HC in
theorem qsJ(h:StS IV IC B X v pd p w0 s c' Q x true true W):Ke B X w0 W∧∃r d' m' l',x=.int .i64 r∧Q r d' m' l'∧V3 IV IC W B X v pd p ⟨d',m',c',l'⟩:=by
 have h2:=h.2;rw[if_pos rfl]at h2;exact⟨h.1,h2⟩
theorem sA {w:World}(h:V3 IV IC w B X v pd p s)(cs:Array Value)(t:TypeId):V3 IV IC (w.alloc (.cells cs t)) B (fun j=>X j∨j=w.heap.size) v pd p s :=
 h.more H HC ((Below.refl _ w).alloc (Nat.le_refl _) _) fun j hj=>by rcases hj with h|rfl;exact .inl h;exact .inr ⟨Nat.le_refl _,by simp⟩
end
end Go.Proofs.YtdagdllomphidaaGreatDoor.vt
namespace Go.Proofs.YtdagdllomphidaaGreatDoor.vt
open _root_.Go.Proofs.Tryz Go Go.RowKit ib jr mt im sp
def MdP (IV:yx)(b:Nat)(w:World)(e:Ending)(w':World):Prop :=
 ∃v pd t d o1 o2,e=.returned (.tuple #[.pointer (some ⟨pd,0,none⟩),.pointer (some ⟨v,0,none⟩)])∧VP IV w' o1 o2 v pd d (m0 b) false∧JJ 400 t d∧qW b 400 t (m0 b)∧d.qu=0∧Below w.heap.size w w'∧∀j,o1 j∨o2 j→w.heap.size≤j
theorem qp3{IV:yx}(H:yz IV)(b:Nat)(h1:1≤b)(h8:b≤8)(w:World)(ht:xL w):Calls prog 9 #[.int .i64 (b:Int)] w (MdP IV b w):=by
 go_enter func9,ntmps9;go_wp2_with fail;refine(dk.uN 1000 400 400 (by decide) (by decide) (by decide) (by decide) w).mono ?_;rintro e W1 ⟨pd,o,rfl,hd,hb1,ho⟩;go_wp2_with fail;refine(H.lv b 400 400 hd (xi ht hb1 (zP ht)) (fun h=>by have h1:=ho _ h;have h2:=zP ht;omega) h1 h8 (by decide) (by decide) (by decide)).mono ?_;rintro e W2 ⟨rfl,t,d,o',hd2,hj,hr,hf,xW,ho'⟩;have hs1:=hb1.size;have hb2:Below w.heap.size w W2:=hb1.trans (xW.below (fun j hj=>ho j hj) hs1);have ho2:∀j,o' j→w.heap.size≤j:=fun j hj=>by
  rcases ho' j hj with h|h
  ·exact ho j h
  ·omega
 have hs2:=hb2.size;have cu:xL W2:=xi ht hb2 (zP ht);have hn2:¬ o' gN:=fun h=>by have h1:=ho2 _ h;have h2:=zP ht;omega
 clear hd hb1 ho xW ho' hs1;go_wp2_with fail;refine(H.nN hd2 cu hn2 hj.toRJ hf hr).mono ?_;rintro e W3 ⟨v,d',o1,o2,rfl,hv,hj',hf',xW,h1',h2'⟩;have hb3:Below w.heap.size w W3:=hb2.trans (xW.below (fun j hj=>ho2 j hj) hs2);have ho3:∀j,o1 j∨o2 j→w.heap.size≤j:=fun j hj=>by
  rcases hj with hj|hj
  ·have:=h1' j hj;omega
  ·rcases h2' j hj with h|h
   ·exact ho2 j h
   ·omega
 have HV:=QH hv;clear hv hd2 hj xW h1' h2' hb2 ho2;go_wp2_with fail;go_ret2;exact⟨v,pd,t,d',o1,o2,rfl,HV.out,hj',hr,hf',hb3,ho3⟩
def VW (IV:yx)(w:World)(B:Nat)(X:Nat→Prop)(v pd:Nat)(Q:Tg→Mt→Prop):Prop :=
 ∃t d m o1 o2,VP IV w o1 o2 v pd d m false∧(∀j,o1 j∨o2 j→B≤j∧¬ X j)∧((∀j,X j→j<w.heap.size)∧¬ X gN)∧qW 2 250 t m∧JJ 250 t d∧d.qu=0∧Q t m
def Left (Q:Tg→Mt→Prop)(r0 r:Int)(d':DD)(m':Mt)(l':Bool):Prop:=r=r0∧l'=false∧d'.qu=0∧∃t',JJ 250 t' d'∧qW 2 250 t' m'∧Q t' m'
section
variable {IV:yx} (H:yz IV) {w w':World} {B v pd:Nat} {X:Nat→Prop} {Q Q':Tg→Mt→Prop}
include H
theorem VW.below(h:VW IV w B X v pd Q)(hb:Below w.heap.size w w'):VW IV w' B X v pd Q:=by
 obtain⟨t,d,m,o1,o2,h1,h2,h3,h4⟩:=h;exact⟨t,d,m,o1,o2,h1.keep H (fun j hj=>hb.block j (h1.low H j hj)) hb.size,h2,⟨fun j hj=>Nat.lt_of_lt_of_le (h3.1 j hj) hb.size,h3.2⟩,h4⟩
theorem VW.more(h:VW IV w B X v pd Q)(hb:Below w.heap.size w w'){Y:Nat→Prop}(hY:∀j,Y j→X j∨(w.heap.size≤j∧j<w'.heap.size)):VW IV w' B Y v pd Q:=by
 obtain⟨t,d,m,o1,o2,h1,h2,h3,h4⟩:=h;refine⟨t,d,m,o1,o2,h1.keep H (fun j hj=>hb.block j (h1.low H j hj)) hb.size,fun j hj=>⟨(h2 j hj).1,fun hy=>?_⟩,⟨fun j hj=>?_,fun hy=>?_⟩,h4⟩
 ·rcases hY j hy with h|h
  ·exact(h2 j hj).2 h
  ·have:=h1.low H j (.inl hj);omega
 ·rcases hY j hj with h|h
  ·exact Nat.lt_of_lt_of_le (h3.1 j h) hb.size
  ·exact h.2
 ·rcases hY gN hy with h|h
  ·exact h3.2 h
  ·have:=h1.low H gN (.inr rfl);omega
theorem VW.turn(h:VW IV w B X v pd Q)(hb:qz X w w'):VW IV w' B X v pd Q:=by
 obtain⟨t,d,m,o1,o2,h1,h2,h3,h4⟩:=h;exact⟨t,d,m,o1,o2,h1.keep H (fun j hj=>hb.block j (h1.low H j hj) (hj.elim (fun hj=>(h2 j hj).2) (fun hj=>by rw[hj];exact h3.2))) hb.size,h2,⟨fun j hj=>Nat.lt_of_lt_of_le (h3.1 j hj) hb.size,h3.2⟩,h4⟩
omit H in
theorem nU (h:VW IV w B X v pd Q)(hB:B≤w.heap.size){f:Nat}{args:Array Value}{r0:Int}{P:Tg→Mt→fG}
    (hc:∀o1 o2 t d m,VP IV w o1 o2 v pd d m false→(∀j,o1 j∨o2 j→¬ X j)→qW 2 250 t m→JJ 250 t d→d.qu=0→Q t m→Calls prog f args w (ua IV o1 o2 v pd (yo 250 t d m (P t m)) w))
    (hs:∀t d m r d' m' l',qW 2 250 t m→JJ 250 t d→d.qu=0→Q t m→yo 250 t d m (P t m) r d' m' l'→Left Q' r0 r d' m' l') :
    Calls prog f args w fun e w'=>e=.returned (.int .i64 r0)∧VW IV w' B X v pd Q'∧Ke B X w w':=by
 obtain⟨t,d,m,o1,o2,h1,h2,h3,h4,h5,h6,h7⟩:=h;refine(hc o1 o2 t d m h1 (fun j hj=>(h2 j hj).2) h4 h5 h6 h7).mono ?_;rintro e w' ⟨r,d',m',l',dJ,wW,rfl,hp,hb,hg,hq⟩;obtain⟨rfl,rfl,hf,t',g1,g2,g3⟩:=hs t d m r d' m' l' h4 h5 h6 h7 hq;refine⟨rfl,⟨t',d',m',dJ,wW,hp,fun j hj=>?_,⟨fun j hj=>Nat.lt_of_lt_of_le (h3.1 j hj) hb.size,h3.2⟩,g2,g1,hf,g3⟩,hb.mono h2⟩;rcases hg j hj with h|h
 ·exact h2 j h
 ·exact⟨by omega,fun hx=>by have:=h3.1 j hx;omega⟩
end
section
variable {t:Tg} {d d':DD} {m m':Mt} {r:Int} {l':Bool}
theorem qxu{P:fG}(hj:JJ 250 t d)(h:qW 2 250 t m)(hf:d.qu=0){Q:Tg→Mt→Prop}(hQ:Q t m)(hc:P.code≠0)(hq:yo 250 t d m P r d' m' l'):Left Q P.code r d' m' l':=by
 rcases hq with⟨_,rfl,rfl,rfl,rfl⟩|⟨h0,_⟩|⟨h0,_⟩
 ·exact⟨rfl,rfl,hf,t,hj,h,hQ⟩
 ·exact absurd h0 hc
 ·exact absurd h0 hc
theorem lY {P:fG}{c:ch.CH}(h:qW 2 250 t m)(hf:d.qu=0){Q:Tg→Mt→Prop}(hc:P.code=0)(hd:Does 2 250 t m P c)(hQ:∀t',zD t' P.m=c→Q t' P.m)(hq:yo 250 t d m P r d' m' l'):Left Q 0 r d' m' l':=by
 rcases hq with⟨h0,_⟩|⟨_,rfl,hj',rfl,rfl,hf',_⟩|⟨_,_,_,_,h0,_⟩
 ·exact absurd hc h0
 ·obtain⟨d1,d2,d3⟩:=hd;exact⟨rfl,rfl,hf' hf,_,hj',h.next d1 d2,hQ _ d3⟩
 ·exact absurd hf h0
theorem qi5(hs:m.qa.length≤2){x:List (Int × Bt)}(hx:x.length≤8):¬ fK 2 250 m x:=by
 unfold fK;omega
theorem qp4(h:qW 2 250 t m)(hs:m.qa.length≤2)(k:Int)(s:Bt)(hc:((zD t m).write k s).2=0) :
    (zv 250 m k s).code=0∧Does 2 250 t m (zv 250 m k s) ((zD t m).write k s).1∧∃a,(zv 250 m k s).m={ m with live:=m.live.set k.toNat a }:=by
 rcases cQ h k s with⟨_,hf⟩|⟨h1,h2,_⟩
 ·exact absurd hf (qi5 hs (by simp))
 ·rw[hc]at h1;refine⟨h1,h2 h1,?_⟩;unfold zv at h1 ⊢;split at h1
  ·cases h1
  ·rename_i hb;rw[if_neg hb];split at h1
   ·rename_i h0;rw[if_pos h0];rcases jh h.ok h.N1 [(k,s)] (by simp) (fun c hc=>by simp at hc;subst hc;exact Classical.byContradiction fun h=>hb (.inr (.inr h)))with⟨h7,_⟩|⟨_,hp⟩
    ·rw[h7]at h0;cases h0
    ·have hl:=hp.len;generalize (qw 250 m [(k,s)]).1.1=at_ at *
     match at_,hl with
     | [a],_=>exact⟨a,by rw[jG,kr]⟩
   ·rename_i h0;exact absurd h1 h0
theorem q2p(h:qW 2 250 t m)(hs:m.qa.length≤2)(f:Tf)(hg:xn f.target)(k:Int)(he:zU m.live.length m.qa.length (qF m) f [(k,zb)]=0)(hn:f.next≠f.all)(ny:zJ m f=xS m) :
    (zi 250 m f [(k,zb)]).code=0∧Does 2 250 t m (zi 250 m f [(k,zb)]) (zD t m)∧(zi 250 m f [(k,zb)]).m={ m with tok:=⟨f.base,f.target,f.next,f.all,(xS m).set k.toNat 0⟩ }:=by
 rcases gH h f hg [(k,zb)]with⟨_,hf,_⟩|⟨h1,h2⟩
 ·exact absurd hf (qi5 hs (by simp))
 ·rw[he]at h1;refine⟨h1,((h2 h1).part hn).1,?_⟩;rcases jh h.ok h.N1 [(k,zb)] (by simp) (fun c hc=>by simp at hc;subst hc;rfl)with⟨_,hf⟩|⟨h0,hp⟩
  ·exact absurd hf (qi5 hs (by simp))
  ·unfold zi;rw[if_neg (by rw[he];simp),if_neg (by rw[h0];simp)];have qvE:(if m.tok.base=f.base∧m.tok.target=f.target∧m.tok.all=f.all then m.tok.qo else xS m)=xS m:=ny;rw[qvE];dsimp only;rw[if_neg hn];have hl:=hp.len;have hz:=hp.each 0 (by simp);generalize (qw 250 m [(k,zb)]).1.1=at_ at *
   match at_,hl with
   | [a],_ =>
    have h3:=hz (by simp);have ha:a=0:=by
     rcases h3 with h3|h3
     ·exact h3.2
     ·exact absurd rfl h3.1
    rw[ha,jG,kr]
theorem q2q(h:qW 2 250 t m)(hs:m.qa.length≤2)(f:Tf)(hg:xn f.target)(x:List (Int × Bt))(hx:x.length≤8)(he:zU m.live.length m.qa.length (qF m) f x=0)(hn:f.next=f.all) :
    (zi 250 m f x).code=0∧Does 2 250 t m (zi 250 m f x) ⟨kq (volume t (zJ m f)) x,(zD t m).qa++[⟨f.target,kq (volume t (zJ m f)) x,false⟩]⟩∧(zi 250 m f x).m.tok=zR:=by
 rcases gH h f hg x with⟨_,hf,_⟩|⟨h1,h2⟩
 ·exact absurd hf (qi5 hs hx)
 ·rw[he]at h1;exact⟨h1,((h2 h1).whole hn).1,((h2 h1).whole hn).2⟩
end
end Go.Proofs.YtdagdllomphidaaGreatDoor.vt
namespace Go.Proofs.YtdagdllomphidaaGreatDoor.vt
open _root_.Go.Proofs.Tryz Go Go.RowKit ib jr mt im sp
def tK (vp p n g0:Nat)(n9 zt q:Int)(T:ByteArray)(er:Int):Nat→Value→World→Prop
 | 0,v,_=>v=.pointer (some ⟨vp,0,none⟩)
 | 1,v,_=>v=.int .i64 (n:Int)
 | 2,v,_=>v=.int .i64 n9
 | 3,v,_=>v=.pointer (some ⟨g0,2,none⟩)
 | 4,v,_=>v=.int .u8 zt
 | 5,v,_=>v=.int .u8 q
 | 6,v,_=>v=.string T
 | 7,_,_=>True
 | 8,v,_=>v=.pointer (some ⟨p,0,none⟩)
 | 9,v,_=>v=.int .i64 (n:Int)
 | 10,v,_=>v=.int .i64 n9
 | 11,v,_=>v=.pointer (some ⟨g0,2,none⟩)
 | 12,v,_=>v=.int .u8 zt
 | 13,v,_=>v=.int .u8 q
 | 14,v,_=>v=.string T
 | 15,v,_=>v=.int .i64 er
 | 16,_,_=>True
 | 17,v,_=>v=.int .i64 er
 | _,_,_=>True
theorem qhz{IV:yx}{IC:ch.cS}(H:yz IV)(HC:ch.Ops IC){B vp pd p N:Nat}{X:Nat→Prop}{w:World}{s:Tri}{t:Tg}(h:V3 IV IC w B X vp pd p s)(hB:B≤w.heap.size)(hlo:s.lost=false)(hJ:JJ N t s.d)(hf:0≤s.d.qu)(hr:qW 8 N t s.m)
    (x:tx) (next:Nat) (hk:x.k<256) (hn:x.n<256) (h6:x.k%6=0∨x.k%6=1) :
    Calls prog 11 #[.pointer (some ⟨vp,0,none⟩),.pointer (some ⟨p,0,none⟩),.agg (xX x),.int .u64 (next:Int)] w (StP IV IC B X vp pd p N t s x next w):=by
 have HSP:Hid (jH N s.m x next=zv N s.m ((x.n:Int)%9) (sB x.z)):=by unfold Hid jH;rw[if_pos h6]
 have nC:Hid (zE s.c x next=s.c.write ((x.n:Int)%9) (sB x.z)):=by unfold Hid zE;rw[if_pos h6]
 have xz:=QH ((Below.refl w.heap.size w).alloc (Nat.le_refl _) (.cells (xX x) 34));have HT0:=QH (sA H HC h (xX x) 34);have yw:=QH (qg.new w 34 (xX x));obtain⟨w0,hw0⟩:=QE (w.alloc (.cells (xX x) 34));rw[hw0]at xz HT0 yw;have HM:Hid (B≤w0.heap.size):=Nat.le_trans hB xz.out.size;have bV:=QH hlo;have HJ:=QH hJ;have HF:=QH hf;have HR:=QH hr;clear h hlo hJ hf hr;unfold xX at hw0 yw ⊢;obtain⟨D',er,hD⟩:∃D' er,s.c.write ((x.n:Int)%9) (sB x.z)=(D',er):=⟨_,_,rfl⟩;rw[hD]at nC;obtain⟨T,hS⟩:=QE (str (sB x.z));have HSS:=QH hS;obtain⟨q,hq⟩:=QE ((x.z.toNat:Int)%200);have HQZ:Hid ((x.z.toNat:Int).tmod 200=q):=by unfold Hid;rw[Int.tmod_eq_emod_of_nonneg (by omega)];exact hq
 have HDA:=QH (fun W=>qla x.z W);rw[hq]at HDA;obtain⟨n9,hn9⟩:=QE ((x.n:Int)%9);have q2r:Hid (0≤n9∧n9<9):=by unfold Hid;omega
 rw[hn9]at hD HSP;have HN9:Hid ((x.n:Int).tmod 9=n9):=by unfold Hid;rw[Int.tmod_eq_emod_of_nonneg (by omega)];exact hn9
 have HDC:Hid (s.c.write n9 (sB x.z)=(D',er)):=hD;clear hD hS hq hn9;have sH:Hid (StS IV IC B (fun j=>X j∨j=w.heap.size) vp pd p w0 s D' (yo N t s.d s.m (zv N s.m n9 (sB x.z))) undef false false w0.drew):=qlc H HC HT0.out;have hlt:=yw.out.lt;have c0:=yw.out.cell 0;have c1:=yw.out.cell 1;simp only[QA,QB,QC]at c0 c1;obtain⟨n,hn'⟩:=QE x.n;obtain⟨k,vB⟩:=QE x.k;obtain⟨zt,hz'⟩:=QE (x.z.toNat:Int);rw[hn']at hw0 hn HN9 yw c1 ⊢;rw[vB]at hw0 h6 hk yw c0 ⊢;rw[hz']at hw0 HQZ yw ⊢;clear hn' vB hz';rcases h6 with h6|h6;all_goals
  have hq6:(k:Int)%6=((k%6:Nat):Int):=by omega
  rw[h6]at hq6;clear h6;go_enter func11,ntmps11;go_wp2_with fail;try rw[hw0]
  clear hw0 c0 c1 hq6;refine jg (by kernel_rfl) [23,24,25,26,27,28,29,30,31,32,33,34,35,36,37,38,8,9] (by kernel_rfl) (fun L vs W=>StS IV IC B (fun j=>X j∨j=w.heap.size) vp pd p w0 s D' (yo N t s.d s.m (zv N s.m n9 (sB x.z))) (vs 7) (L 7) (L 15) W∧((L 15=true→L 7=true)∧(L 14=true→L 7=true)∧(L 16=true→L 7=true∧vs 16=vs 7))∧∀i,L i=true→i<18→tK vp p n w.heap.size n9 zt q T er i (vs i) W) ⟨sH.out,⟨fun h=>(by cases h),fun h=>(by cases h),fun h=>(by cases h)⟩,fun i hi=>by cases hi⟩ ?_ ?_ ?_
  ·intro i o L vs ρ W ho oy qK hρ hgd hI;obtain⟨hS,hC,bN⟩:=hI;have hG:∀j,L j=true→tK vp p n w.heap.size n9 zt q T er j (vs j) W:=fun j hj=>by
    by_cases h16:j<18
    ·exact bN j hj h16
    ·match j,h16 with
     | j+18,_=>exact trivial
   have qsp:i<18:=(Array.getElem?_eq_some_iff.1 ho).1;have hc:=hρ.const;have hfn:=hρ.fn;have ni:∀v W',tK vp p n w.heap.size n9 zt q T er i v W'→∀j,zu L i j=true→j<18→tK vp p n w.heap.size n9 zt q T er j (xy vs i v j) W':=fun v W' h2 j hj h16=>by
    by_cases gp:j=i
    ·subst gp;simpa[xy]using h2
    ·simp only[zu,if_neg gp]at hj;have:=bN j hj h16;simp only[xy,if_neg gp]
     match j,h16,this with
     | 0,_,h=>exact h
     | 1,_,h=>exact h
     | 2,_,h=>exact h
     | 3,_,h=>exact h
     | 4,_,h=>exact h
     | 5,_,h=>exact h
     | 6,_,h=>exact h
     | 7,_,h=>exact h
     | 8,_,h=>exact h
     | 9,_,h=>exact h
     | 10,_,h=>exact h
     | 11,_,h=>exact h
     | 12,_,h=>exact h
     | 13,_,h=>exact h
     | 14,_,h=>exact h
     | 15,_,h=>exact h
     | 16,_,h=>exact h
     | 17,_,h=>exact h
     | j+18,h,_=>exact absurd h (by omega)
   have next:i≠7→i≠15→i≠16→(i=14→L 7=true)→∀v W',StS IV IC B (fun j=>X j∨j=w.heap.size) vp pd p w0 s D' (yo N t s.d s.m (zv N s.m n9 (sB x.z))) (vs 7) (L 7) (L 15) W'→tK vp p n w.heap.size n9 zt q T er i v W'→StS IV IC B (fun j=>X j∨j=w.heap.size) vp pd p w0 s D' (yo N t s.d s.m (zv N s.m n9 (sB x.z))) (xy vs i v 7) (zu L i 7) (zu L i 15) W'∧((zu L i 15=true→zu L i 7=true)∧(zu L i 14=true→zu L i 7=true)∧(zu L i 16=true→zu L i 7=true∧xy vs i v 16=xy vs i v 7))∧∀j,zu L i j=true→j<18→tK vp p n w.heap.size n9 zt q T er j (xy vs i v j) W':=fun n1 n2 nl n3 v W' h1 h2=>by
    refine⟨?_,⟨?_,?_,?_⟩,ni v W' h2⟩
    ·simp only[zu,xy,if_neg (Ne.symm n1),if_neg (Ne.symm n2)];exact h1
    ·simp only[zu,if_neg (Ne.symm n1),if_neg (Ne.symm n2)];exact hC.1
    ·intro hm;simp only[zu,if_neg (Ne.symm n1)];by_cases vP:14=i
     ·exact n3 vP.symm
     ·simp only[zu,if_neg vP]at hm;exact hC.2.1 hm
    ·simp only[zu,xy,if_neg (Ne.symm n1),if_neg (Ne.symm nl)];exact hC.2.2
   have hKE:=qxt hS;have hA1:=yw.out.of_block (hKE.block hlt (.inl (.inr rfl)));have zeG:=hA1.lt;have l2:=hA1.cell 2;simp only[QA,QB,QC]at l2;have hq9:=HN9.out;have hqz:=HQZ.out;rcases i with _|_|_|_|_|_|_|_|_|_|_|_|_|_|_|_|_|_|i;all_goals (first|omega|skip)
   all_goals simp only[QA,QB,QC,Option.some.injEq]at ho
   all_goals subst ho
   ·have o0:ρ (.tmp 0)=.pointer (some ⟨vp,0,none⟩):=hρ.out 0 rfl;exact q9 (w':=W) (by unfold execOp;simp only[o0,hc];go_simp) (next (by decide) (by decide) (by decide) (fun h=>absurd h (by decide)) _ _ hS rfl)
   ·have o10:ρ (.tmp 10)=.int .i64 (n:Int):=hρ.out 10 rfl;exact q9 (w':=W) (by unfold execOp;simp only[o10,hc];go_simp) (next (by decide) (by decide) (by decide) (fun h=>absurd h (by decide)) _ _ hS rfl)
   ·have g24:tK vp p n w.heap.size n9 zt q T er 1 (vs 1) W:=hG 1 (qK 1 (by kernel_rfl));have s24:ρ (.tmp 24)=.int .i64 (n:Int):=(hρ.at_ 24 1 rfl).trans g24;exact q9 (w':=W) (by unfold execOp;simp only[s24,hc];go_simp) (next (by decide) (by decide) (by decide) (fun h=>absurd h (by decide)) _ _ hS rfl)
   ·have o6:ρ (.tmp 6)=.pointer (some ⟨w.heap.size,0,none⟩):=hρ.out 6 rfl;exact q9 (w':=W) (by unfold execOp;simp only[o6,hc];go_simp) (next (by decide) (by decide) (by decide) (fun h=>absurd h (by decide)) _ _ hS rfl)
   ·have g26:tK vp p n w.heap.size n9 zt q T er 3 (vs 3) W:=hG 3 (qK 3 (by kernel_rfl));have s26:ρ (.tmp 26)=.pointer (some ⟨w.heap.size,2,none⟩):=(hρ.at_ 26 3 rfl).trans g26;exact q9 (w':=W) (by unfold execOp;simp only[s26,hc];go_simp) (next (by decide) (by decide) (by decide) (fun h=>absurd h (by decide)) _ _ hS rfl)
   ·have g27:tK vp p n w.heap.size n9 zt q T er 4 (vs 4) W:=hG 4 (qK 4 (by kernel_rfl));have s27:ρ (.tmp 27)=.int .u8 zt:=(hρ.at_ 27 4 rfl).trans g27;exact q9 (w':=W) (by unfold execOp;simp only[s27,hc];go_simp) (next (by decide) (by decide) (by decide) (fun h=>absurd h (by decide)) _ _ hS rfl)
   ·have g28:tK vp p n w.heap.size n9 zt q T er 5 (vs 5) W:=hG 5 (qK 5 (by kernel_rfl));have s28:ρ (.tmp 28)=.int .u8 q:=(hρ.at_ 28 5 rfl).trans g28;refine qj (f:=18) (args:=#[.int .u8 q]) (w':=W) (by unfold execOp;simp only[hfn,s28];go_simp) ((HDA.out W).mono ?_);rintro x W' ⟨rfl,hb'⟩;exact⟨_,rfl,next (by decide) (by decide) (by decide) (fun h=>absurd h (by decide)) _ _ (qaM H HC hS hb') (congrArg Value.string HSS.out)⟩
   ·have g23:tK vp p n w.heap.size n9 zt q T er 0 (vs 0) W:=hG 0 (qK 0 (by kernel_rfl));have s23:ρ (.tmp 23)=.pointer (some ⟨vp,0,none⟩):=(hρ.at_ 23 0 rfl).trans g23;have g25:tK vp p n w.heap.size n9 zt q T er 2 (vs 2) W:=hG 2 (qK 2 (by kernel_rfl));have s25:ρ (.tmp 25)=.int .i64 n9:=(hρ.at_ 25 2 rfl).trans g25;have g29:tK vp p n w.heap.size n9 zt q T er 6 (vs 6) W:=hG 6 (qK 6 (by kernel_rfl));have s29:ρ (.tmp 29)=.string T:=(hρ.at_ 29 6 rfl).trans g29;have n2:L 15=false:=by
     cases hx:L 15 with
     | false=>rfl
     | true=>exact absurd (hC.1 hx) (by rw[oy];decide)
    rw[oy,n2]at hS;refine qj (f:=17) (args:=#[.pointer (some ⟨vp,0,none⟩),.int .i64 n9,.string T]) (w':=W) (by unfold execOp;simp only[hfn,s23,s25,s29];go_simp) ((q2n HC hS HM.out (fun o1 o2 ho _=>by have:=H.write n9 (sB x.z) (bV.out ▸ ho) HJ.out HF.out HR.out (by unfold jd;have:=q2r.out;omega);rw[HSS.out]at this;exact this)).mono ?_);have n3:L 16=false:=by
     cases hx:L 16 with
     | false=>rfl
     | true=>exact absurd (hC.2.2 hx).1 (by rw[oy];decide)
    rintro x W' ⟨r,rfl,h1⟩;refine⟨_,rfl,?_,⟨fun _=>by simp[zu],fun _=>by simp[zu],fun h=>by simp[zu,n3]at h⟩,ni _ _ trivial⟩;simp only[zu,xy,n2];exact h1
   ·have o1:ρ (.tmp 1)=.pointer (some ⟨p,0,none⟩):=hρ.out 1 rfl;exact q9 (w':=W) (by unfold execOp;simp only[o1,hc];go_simp) (next (by decide) (by decide) (by decide) (fun h=>absurd h (by decide)) _ _ hS rfl)
   ·have o10:ρ (.tmp 10)=.int .i64 (n:Int):=hρ.out 10 rfl;exact q9 (w':=W) (by unfold execOp;simp only[o10,hc];go_simp) (next (by decide) (by decide) (by decide) (fun h=>absurd h (by decide)) _ _ hS rfl)
   ·have g32:tK vp p n w.heap.size n9 zt q T er 9 (vs 9) W:=hG 9 (qK 9 (by kernel_rfl));have s32:ρ (.tmp 32)=.int .i64 (n:Int):=(hρ.at_ 32 9 rfl).trans g32;exact q9 (w':=W) (by unfold execOp;simp only[s32,hc];go_simp) (next (by decide) (by decide) (by decide) (fun h=>absurd h (by decide)) _ _ hS rfl)
   ·have o6:ρ (.tmp 6)=.pointer (some ⟨w.heap.size,0,none⟩):=hρ.out 6 rfl;exact q9 (w':=W) (by unfold execOp;simp only[o6,hc];go_simp) (next (by decide) (by decide) (by decide) (fun h=>absurd h (by decide)) _ _ hS rfl)
   ·have g34:tK vp p n w.heap.size n9 zt q T er 11 (vs 11) W:=hG 11 (qK 11 (by kernel_rfl));have s34:ρ (.tmp 34)=.pointer (some ⟨w.heap.size,2,none⟩):=(hρ.at_ 34 11 rfl).trans g34;exact q9 (w':=W) (by unfold execOp;simp only[s34,hc];go_simp) (next (by decide) (by decide) (by decide) (fun h=>absurd h (by decide)) _ _ hS rfl)
   ·have g35:tK vp p n w.heap.size n9 zt q T er 12 (vs 12) W:=hG 12 (qK 12 (by kernel_rfl));have s35:ρ (.tmp 35)=.int .u8 zt:=(hρ.at_ 35 12 rfl).trans g35;exact q9 (w':=W) (by unfold execOp;simp only[s35,hc];go_simp) (next (by decide) (by decide) (by decide) (fun h=>absurd h (by decide)) _ _ hS rfl)
   ·have g36:tK vp p n w.heap.size n9 zt q T er 13 (vs 13) W:=hG 13 (qK 13 (by kernel_rfl));have s36:ρ (.tmp 36)=.int .u8 q:=(hρ.at_ 36 13 rfl).trans g36;refine qj (f:=18) (args:=#[.int .u8 q]) (w':=W) (by unfold execOp;simp only[hfn,s36];go_simp) ((HDA.out W).mono ?_);rintro x W' ⟨rfl,hb'⟩;exact⟨_,rfl,next (by decide) (by decide) (by decide) (fun _=>qK 7 (by kernel_rfl)) _ _ (qaM H HC hS hb') (congrArg Value.string HSS.out)⟩
   ·have g31:tK vp p n w.heap.size n9 zt q T er 8 (vs 8) W:=hG 8 (qK 8 (by kernel_rfl));have s31:ρ (.tmp 31)=.pointer (some ⟨p,0,none⟩):=(hρ.at_ 31 8 rfl).trans g31;have g33:tK vp p n w.heap.size n9 zt q T er 10 (vs 10) W:=hG 10 (qK 10 (by kernel_rfl));have s33:ρ (.tmp 33)=.int .i64 n9:=(hρ.at_ 33 10 rfl).trans g33;have g37:tK vp p n w.heap.size n9 zt q T er 14 (vs 14) W:=hG 14 (qK 14 (by kernel_rfl));have s37:ρ (.tmp 37)=.string T:=(hρ.at_ 37 14 rfl).trans g37;have yq1:L 7=true:=hC.2.1 (qK 14 (by kernel_rfl));rw[oy,yq1]at hS;refine qj (f:=37) (args:=#[.pointer (some ⟨p,0,none⟩),.int .i64 n9,.string T]) (w':=W) (by unfold execOp;simp only[hfn,s31,s33,s37];go_simp) ((q2o H hS HM.out (fun o3 ho _=>by have:=HC.write n9 (sB x.z) ho (by unfold jd;have:=q2r.out;omega);rw[HDC.out,HSS.out]at this;exact this)).mono ?_);rintro x W' ⟨rfl,h1⟩;refine⟨_,rfl,?_,⟨fun _=>by simp[zu,yq1],fun _=>by simp[zu,yq1],fun h=>by simpa[zu,xy]using hC.2.2 (by simpa[zu]using h)⟩,ni _ _ rfl⟩;simp only[zu,xy,yq1];exact h1
   ·have s30:ρ (.tmp 30)=vs 7:=hρ.at_ 30 7 rfl;have yq1:L 7=true:=qK 7 (by kernel_rfl);refine q9 (w':=W) (v:=vs 7) (by unfold execOp;simp only[s30];go_simp) ⟨?_,⟨fun h=>?_,fun h=>?_,fun _=>?_⟩,ni _ _ trivial⟩
    ·simp only[zu,xy];exact hS
    ·simp only[zu]at h ⊢;exact hC.1 h
    ·simp only[zu]at h ⊢;exact hC.2.1 h
    ·simp[zu,xy,yq1]
   ·have g38:tK vp p n w.heap.size n9 zt q T er 15 (vs 15) W:=hG 15 (qK 15 (by kernel_rfl));have s38:ρ (.tmp 38)=.int .i64 er:=(hρ.at_ 38 15 rfl).trans g38;exact q9 (w':=W) (by unfold execOp;simp only[s38,hc];go_simp) (next (by decide) (by decide) (by decide) (fun h=>absurd h (by decide)) _ _ hS rfl)
  ·intro i o L vs W j want ho oy qK hg hv hI;have qsp:i<18:=(Array.getElem?_eq_some_iff.1 ho).1;rcases i with _|_|_|_|_|_|_|_|_|_|_|_|_|_|_|_|_|_|i;all_goals (first|omega|skip)
   all_goals simp only[QA,QB,QC,Option.some.injEq]at ho
   all_goals subst ho
   all_goals simp only[reduceCtorEq]at hg
  ·intro vs W hI;obtain⟨hS,hL,hG⟩:=hI;have gl:vs 17=.int .i64 er:=hG 17 (by decide) (by decide);have g16:=(hL.2.2 (by decide)).2;obtain⟨hke,r,d',m',l',hx,hq,hv⟩:=qsJ hS;rw[hx]at g16;have HKE:Hid (Ke B X w W):=(Ke.of_below xz.out).trans (hke.mono fun j hj=>.inl hj);have HV:Hid (V3 IV IC W B X vp pd p ⟨d',m',D',l'⟩):=hv.fL fun j hj=>.inl hj;have HQ:=QH hq;clear hS hL hG hke hq hv hx;simp only[za,qN,if_true];rw[gl,g16];clear gl g16;generalize vs 0=z0;generalize vs 1=z1;generalize vs 2=z2;generalize vs 3=z3;generalize vs 4=z4;generalize vs 5=z5;generalize vs 6=z6;generalize vs 8=z8;generalize vs 9=z9;generalize vs 10=z10;generalize vs 11=z11;generalize vs 12=z12;generalize vs 13=z13;generalize vs 14=z14;generalize vs 15=z15;generalize vs 7=z7;simp only[Act.put,List.setIfInBounds_toArray,List.set_cons_succ,List.set_cons_zero];go_wp2_with fail;go_ret2;refine⟨r,d',m',l',?_,?_,HKE.out,?_⟩
   ·rw[nC.out];rfl
   ·rw[nC.out];exact HV.out
   ·rw[HSP.out];exact HQ.out
theorem wrap_u64(n:Nat)(h:n<18446744073709551616):IntKind.u64.wrap (n:Int)=(n:Int):=by
 simp[IntKind.wrap,IntKind.bits,IntKind.signed];omega
theorem qld{IV:yx}{IC:ch.cS}(H:yz IV)(HC:ch.Ops IC){B vp pd p N:Nat}{X:Nat→Prop}{w:World}{s:Tri}{t:Tg}(h:V3 IV IC w B X vp pd p s)(hB:B≤w.heap.size)(hlo:s.lost=false)(hJ:JJ N t s.d)(hf:0≤s.d.qu)(hr:qW 8 N t s.m)
    (x:tx) (next:Nat) (hk:x.k<256) (hn:x.n<256) (hnx:next<18446744073709551616) (h6:x.k%6=2) :
    Calls prog 11 #[.pointer (some ⟨vp,0,none⟩),.pointer (some ⟨p,0,none⟩),.agg (xX x),.int .u64 (next:Int)] w (StP IV IC B X vp pd p N t s x next w):=by
 have HSP:Hid (jH N s.m x next=ke s.m (1,next)):=by
  unfold Hid jH;rw[if_neg (by rw[h6];decide),if_pos h6]
 have nC:Hid (zE s.c x next=s.c.snap (1,next)):=by
  unfold Hid zE;rw[if_neg (by rw[h6];decide),if_pos h6]
 have xz:=QH ((Below.refl w.heap.size w).alloc (Nat.le_refl _) (.cells (xX x) 34));have HT0:=QH (sA H HC h (xX x) 34);have yw:=QH (qg.new w 34 (xX x));obtain⟨w0,hw0⟩:=QE (w.alloc (.cells (xX x) 34));rw[hw0]at xz HT0 yw;have HM:Hid (B≤w0.heap.size):=Nat.le_trans hB xz.out.size;have bV:=QH hlo;have HJ:=QH hJ;have HF:=QH hf;have HR:=QH hr;clear h hlo hJ hf hr;unfold xX at hw0 yw ⊢;have hlt:=yw.out.lt;have c0:=yw.out.cell 0;have c1:=yw.out.cell 1;simp only[QA,QB,QC]at c0 c1;obtain⟨n,hn'⟩:=QE x.n;obtain⟨k,vB⟩:=QE x.k;obtain⟨zt,hz'⟩:=QE (x.z.toNat:Int);rw[hn']at hw0 hn yw c1 ⊢;try rw[hn']at HSP
 try rw[hn']at nC
 rw[vB]at hw0 h6 hk yw c0 ⊢;rw[hz']at hw0 yw ⊢;clear hn' vB hz';have hq6:(k:Int)%6=((k%6:Nat):Int):=by omega
 rw[h6]at hq6;clear h6;go_enter func11,ntmps11;go_wp2_with fail;try rw[hw0]
 clear hw0 c0 c1 hq6;have HK:=QH (Ke.refl B (fun j=>X j∨j=w.heap.size) w0);have HT:=QH HT0.out;clear HT0;refine(ch.xx 1 next _).mono ?_;rintro e W1 ⟨rfl,hb⟩;have HT1:=QH (HT.out.below H HC hb);have eI:=QH (HK.out.trans (Ke.of_below hb));clear hb HT HK;have HT:=QH HT1.out;have HK:=QH eI.out;clear HT1 eI;go_wp2_with fail;refine(kM HC HT.out (Nat.le_trans HM.out HK.out.size) (fun o1 o2 ho _=>H.snap (1,next) (bV.out ▸ ho) HJ.out HF.out HR.out ⟨by show 1<18446744073709551616;omega,hnx⟩)).mono ?_;rintro e W2 ⟨r,d',m',l',rfl,hv2,hk2,hq2⟩;have dW:=QH hv2;have kh:=QH (HK.out.trans hk2);have HQ:=QH hq2;clear hv2 hk2 hq2 HT HK;have HT:=QH dW.out;have HK:=QH kh.out;clear dW kh;go_wp2_with fail;refine(ch.xx 1 next _).mono ?_;rintro e W3 ⟨rfl,hb⟩;have dF:=QH (HT.out.below H HC hb);have l6:=QH (HK.out.trans (Ke.of_below hb));clear hb HT HK;have HT:=QH dF.out;have HK:=QH l6.out;clear dF l6;go_wp2_with fail;refine(wL H HT.out (Nat.le_trans HM.out HK.out.size) (r:=s.c.snap (1,next)) (fun o3 ho _=>HC.snap (1,next) ho ⟨by show 1<18446744073709551616;omega,hnx⟩)).mono ?_;rintro e W4 ⟨rfl,hv4,hk4⟩;have HV:Hid (V3 IV IC W4 B X vp pd p ⟨d',m',(s.c.snap (1,next)).1,l'⟩):=hv4.fL fun j hj=>.inl hj;have HKE:Hid (Ke B X w W4):=(Ke.of_below xz.out).trans ((HK.out.trans hk4).mono fun j hj=>.inl hj);clear hv4 hk4 HT HK;go_wp2_with fail;go_ret2;refine⟨r,d',m',l',?_,?_,HKE.out,?_⟩
 ·rw[nC.out];rfl
 ·rw[nC.out];exact HV.out
 ·rw[HSP.out];exact HQ.out
theorem qle{IV:yx}{IC:ch.cS}(H:yz IV)(HC:ch.Ops IC){B vp pd p N:Nat}{X:Nat→Prop}{w:World}{s:Tri}{t:Tg}(h:V3 IV IC w B X vp pd p s)(hB:B≤w.heap.size)(hlo:s.lost=false)(hJ:JJ N t s.d)(hf:0≤s.d.qu)(hr:qW 8 N t s.m)
    (x:tx) (next:Nat) (hk:x.k<256) (hn:x.n<256) (hnx:next<18446744073709551616) (h6:x.k%6=3) :
    Calls prog 11 #[.pointer (some ⟨vp,0,none⟩),.pointer (some ⟨p,0,none⟩),.agg (xX x),.int .u64 (next:Int)] w (StP IV IC B X vp pd p N t s x next w):=by
 have HSP:Hid (jH N s.m x next=jF s.m ((x.n:Int)%6)):=by
  unfold Hid jH;rw[if_neg (by rw[h6];decide),if_neg (by rw[h6];decide),if_pos h6]
 have nC:Hid (zE s.c x next=s.c.roll ((x.n:Int)%6)):=by
  unfold Hid zE;rw[if_neg (by rw[h6];decide),if_neg (by rw[h6];decide),if_pos h6]
 have xz:=QH ((Below.refl w.heap.size w).alloc (Nat.le_refl _) (.cells (xX x) 34));have HT0:=QH (sA H HC h (xX x) 34);have yw:=QH (qg.new w 34 (xX x));obtain⟨w0,hw0⟩:=QE (w.alloc (.cells (xX x) 34));rw[hw0]at xz HT0 yw;have HM:Hid (B≤w0.heap.size):=Nat.le_trans hB xz.out.size;have bV:=QH hlo;have HJ:=QH hJ;have HF:=QH hf;have HR:=QH hr;clear h hlo hJ hf hr;unfold xX at hw0 yw ⊢;have hlt:=yw.out.lt;have c0:=yw.out.cell 0;have c1:=yw.out.cell 1;simp only[QA,QB,QC]at c0 c1;obtain⟨n,hn'⟩:=QE x.n;obtain⟨k,vB⟩:=QE x.k;obtain⟨zt,hz'⟩:=QE (x.z.toNat:Int);rw[hn']at hw0 hn yw c1 ⊢;try rw[hn']at HSP
 try rw[hn']at nC
 rw[vB]at hw0 h6 hk yw c0 ⊢;rw[hz']at hw0 yw ⊢;clear hn' vB hz';obtain⟨n6,hn6⟩:=QE ((n:Int)%6);rw[hn6]at HSP nC;have zeU:0≤n6∧n6<6:=by omega
 have hm6:(n:Int).tmod 6=n6:=by rw[Int.tmod_eq_emod_of_nonneg (by omega)];exact hn6
 have hq6:(k:Int)%6=((k%6:Nat):Int):=by omega
 rw[h6]at hq6;clear h6;go_enter func11,ntmps11;go_wp2_with fail;try rw[hw0]
 clear hw0 c0 c1 hq6;have HK:=QH (Ke.refl B (fun j=>X j∨j=w.heap.size) w0);have HT:=QH HT0.out;clear HT0;refine(kM HC HT.out (Nat.le_trans HM.out HK.out.size) (fun o1 o2 ho _=>H.roll n6 (bV.out ▸ ho) HJ.out HF.out HR.out (by unfold jd;omega))).mono ?_;rintro e W2 ⟨r,d',m',l',rfl,hv2,hk2,hq2⟩;have dW:=QH hv2;have kh:=QH (HK.out.trans hk2);have HQ:=QH hq2;clear hv2 hk2 hq2 HT HK;have HT:=QH dW.out;have HK:=QH kh.out;clear dW kh;go_wp2_with fail;refine(wL H HT.out (Nat.le_trans HM.out HK.out.size) (r:=s.c.roll n6) (fun o3 ho _=>HC.roll n6 ho (by unfold jd;omega))).mono ?_;rintro e W4 ⟨rfl,hv4,hk4⟩;have HV:Hid (V3 IV IC W4 B X vp pd p ⟨d',m',(s.c.roll n6).1,l'⟩):=hv4.fL fun j hj=>.inl hj;have HKE:Hid (Ke B X w W4):=(Ke.of_below xz.out).trans ((HK.out.trans hk4).mono fun j hj=>.inl hj);clear hv4 hk4 HT HK;go_wp2_with fail;go_ret2;refine⟨r,d',m',l',?_,?_,HKE.out,?_⟩
 ·rw[nC.out];rfl
 ·rw[nC.out];exact HV.out
 ·rw[HSP.out];exact HQ.out
theorem qlf{IV:yx}{IC:ch.cS}(H:yz IV)(HC:ch.Ops IC){B vp pd p N:Nat}{X:Nat→Prop}{w:World}{s:Tri}{t:Tg}(h:V3 IV IC w B X vp pd p s)(hB:B≤w.heap.size)(hlo:s.lost=false)(hJ:JJ N t s.d)(hf:0≤s.d.qu)(hr:qW 8 N t s.m)
    (x:tx) (next:Nat) (hk:x.k<256) (hn:x.n<256) (hnx:next<18446744073709551616) (h6:x.k%6=4) :
    Calls prog 11 #[.pointer (some ⟨vp,0,none⟩),.pointer (some ⟨p,0,none⟩),.agg (xX x),.int .u64 (next:Int)] w (StP IV IC B X vp pd p N t s x next w):=by
 have HSP:Hid (jH N s.m x next=uQ s.m (1,x.n%8)):=by
  unfold Hid jH;rw[if_neg (by rw[h6];decide),if_neg (by rw[h6];decide),if_neg (by rw[h6];decide),if_pos h6]
 have nC:Hid (zE s.c x next=s.c.kK (1,x.n%8)):=by
  unfold Hid zE;rw[if_neg (by rw[h6];decide),if_neg (by rw[h6];decide),if_neg (by rw[h6];decide),if_pos h6]
 have xz:=QH ((Below.refl w.heap.size w).alloc (Nat.le_refl _) (.cells (xX x) 34));have HT0:=QH (sA H HC h (xX x) 34);have yw:=QH (qg.new w 34 (xX x));obtain⟨w0,hw0⟩:=QE (w.alloc (.cells (xX x) 34));rw[hw0]at xz HT0 yw;have HM:Hid (B≤w0.heap.size):=Nat.le_trans hB xz.out.size;have bV:=QH hlo;have HJ:=QH hJ;have HF:=QH hf;have HR:=QH hr;clear h hlo hJ hf hr;unfold xX at hw0 yw ⊢;have hlt:=yw.out.lt;have c0:=yw.out.cell 0;have c1:=yw.out.cell 1;simp only[QA,QB,QC]at c0 c1;obtain⟨n,hn'⟩:=QE x.n;obtain⟨k,vB⟩:=QE x.k;obtain⟨zt,hz'⟩:=QE (x.z.toNat:Int);rw[hn']at hw0 hn yw c1 ⊢;try rw[hn']at HSP
 try rw[hn']at nC
 rw[vB]at hw0 h6 hk yw c0 ⊢;rw[hz']at hw0 yw ⊢;clear hn' vB hz';obtain⟨n8,hn8⟩:=QE (n%8);rw[hn8]at HSP nC;have q7D:n8<8:=by omega
 have hm8:(n:Int).tmod 8=(n8:Int):=by rw[Int.tmod_eq_emod_of_nonneg (by omega)];omega
 have zeW:(n:Int)%8=(n8:Int):=by omega
 have hw8:=wrap_u64 n8 (by omega);have hg8:xn (1,n8):=⟨by show 1<18446744073709551616;omega,by show n8<18446744073709551616;omega⟩;have HG8:=QH hg8;clear hg8;have hq6:(k:Int)%6=((k%6:Nat):Int):=by omega
 rw[h6]at hq6;clear h6;go_enter func11,ntmps11;go_wp2_with fail;try rw[hw0]
 clear hw0 c0 c1 hq6;have HK:=QH (Ke.refl B (fun j=>X j∨j=w.heap.size) w0);have HT:=QH HT0.out;clear HT0;refine(ch.xx 1 n8 _).mono ?_;rintro e W1 ⟨rfl,hb⟩;have HT1:=QH (HT.out.below H HC hb);have eI:=QH (HK.out.trans (Ke.of_below hb));clear hb HT HK;have HT:=QH HT1.out;have HK:=QH eI.out;clear HT1 eI;go_wp2_with fail;refine(kM HC HT.out (Nat.le_trans HM.out HK.out.size) (fun o1 o2 ho _=>H.kK (1,n8) (bV.out ▸ ho) HJ.out HF.out HR.out HG8.out)).mono ?_;rintro e W2 ⟨r,d',m',l',rfl,hv2,hk2,hq2⟩;have dW:=QH hv2;have kh:=QH (HK.out.trans hk2);have HQ:=QH hq2;clear hv2 hk2 hq2 HT HK;have HT:=QH dW.out;have HK:=QH kh.out;clear dW kh;go_wp2_with fail;refine(ch.xx 1 n8 _).mono ?_;rintro e W3 ⟨rfl,hb⟩;have dF:=QH (HT.out.below H HC hb);have l6:=QH (HK.out.trans (Ke.of_below hb));clear hb HT HK;have HT:=QH dF.out;have HK:=QH l6.out;clear dF l6;go_wp2_with fail;refine(wL H HT.out (Nat.le_trans HM.out HK.out.size) (r:=s.c.kK (1,n8)) (fun o3 ho _=>HC.kK (1,n8) ho HG8.out)).mono ?_;rintro e W4 ⟨rfl,hv4,hk4⟩;have HV:Hid (V3 IV IC W4 B X vp pd p ⟨d',m',(s.c.kK (1,n8)).1,l'⟩):=hv4.fL fun j hj=>.inl hj;have HKE:Hid (Ke B X w W4):=(Ke.of_below xz.out).trans ((HK.out.trans hk4).mono fun j hj=>.inl hj);clear hv4 hk4 HT HK;go_wp2_with fail;go_ret2;refine⟨r,d',m',l',?_,?_,HKE.out,?_⟩
 ·rw[nC.out];rfl
 ·rw[nC.out];exact HV.out
 ·rw[HSP.out];exact HQ.out
theorem lA {m:Mt}(h:m.qa.length=0):qF m=(0,0):=by
 unfold qF;rw[List.length_eq_zero_iff.1 h];rfl
theorem qp6{m:Mt}(k:Nat)(h:k<(m.qa.map (·.g)).length)(hk:k+1=m.qa.length):qF m=(m.qa.map (·.g))[k]:=by
 unfold qF;rw[List.getLast?_eq_getElem?,show m.qa.length-1=k by omega,List.getElem?_eq_getElem (by omega)];simp
theorem lZ {w w':World}{A:Option Addr}{x:List (Int × Bt)}(h:ch.bw w A x)(hb:∀b o,A=some ⟨b,o,none⟩→w'.heap[b]?=w.heap[b]?)(hs:w.heap.size≤w'.heap.size):ch.bw w' A x:=by
 intro i hi;obtain⟨b,o,h1,h2,h3,h4,h5⟩:=h i hi;exact⟨b,o,h1,Nat.lt_of_lt_of_le h2 hs,by rw[World.cell?_of_block (a:=⟨b,o+i*2,none⟩) (hb b o h1)];exact h3,by rw[World.cell?_of_block (a:=⟨b,o+i*2+1,none⟩) (hb b o h1)];exact h4,h5⟩
theorem qsK{IV:yx}{IC:ch.cS}(H:yz IV){B v pd p:Nat}{X:Nat→Prop}{w:World}{s:Tri}(h:V3 IV IC w B X v pd p s):Calls prog 22 #[.pointer (some ⟨v,0,none⟩)] w (ch.lu (s.m.qa.map (·.g)) w):=by
 obtain⟨o1,o2,o3,h1,_⟩:=h;exact H.list h1.is
theorem qh0{IV:yx}{IC:ch.cS}(H:yz IV)(HC:ch.Ops IC){B vp pd p N:Nat}{X:Nat→Prop}{w:World}{s:Tri}{t:Tg}(h:V3 IV IC w B X vp pd p s)(hB:B≤w.heap.size)(hlo:s.lost=false)(hJ:JJ N t s.d)(hf:0≤s.d.qu)(hr:qW 8 N t s.m)
    (x:tx) (next:Nat) (hk:x.k<256) (hn:x.n<256) (hnx:next<18446744073709551616) (h6:x.k%6=5) :
    Calls prog 11 #[.pointer (some ⟨vp,0,none⟩),.pointer (some ⟨p,0,none⟩),.agg (xX x),.int .u64 (next:Int)] w (StP IV IC B X vp pd p N t s x next w):=by
 have HSP:Hid (jH N s.m x next=zi N s.m ⟨qF s.m,(1,next),1,1⟩ [((x.n:Int)%8,sB x.z)]):=by
  unfold Hid jH;rw[if_neg (by rw[h6];decide),if_neg (by rw[h6];decide),if_neg (by rw[h6];decide),if_neg (by rw[h6];decide)]
 have nC:Hid (zE s.c x next=s.c.add (1,next) [((x.n:Int)%8,sB x.z)]):=by
  unfold Hid zE;rw[if_neg (by rw[h6];decide),if_neg (by rw[h6];decide),if_neg (by rw[h6];decide),if_neg (by rw[h6];decide)]
 have xz:=QH ((Below.refl w.heap.size w).alloc (Nat.le_refl _) (.cells (xX x) 34));have HT0:=QH (sA H HC h (xX x) 34);have yw:=QH (qg.new w 34 (xX x));obtain⟨w0,hw0⟩:=QE (w.alloc (.cells (xX x) 34));rw[hw0]at xz HT0 yw;have HM:Hid (B≤w0.heap.size):=Nat.le_trans hB xz.out.size;have HXL:Hid (∀j,(X j∨j=w.heap.size)→j<w0.heap.size):=HT0.out.choose_spec.choose_spec.choose_spec.2.2.2.2.1;have bV:=QH hlo;have HJ:=QH hJ;have HF:=QH hf;have HR:=QH hr;have bR:=hr.ok.few;have HGL:=QH (qt6 hr.ok);have HL0:=QH (fun h=>lA (m:=s.m) h);have HLK:=QH (fun k h hk=>qp6 (m:=s.m) k h hk);clear h hlo hJ hf hr;unfold xX at hw0 yw ⊢;have hlt:=yw.out.lt;have c0:=yw.out.cell 0;have c1:=yw.out.cell 1;have c2:=yw.out.cell 2;simp only[QA,QB,QC]at c0 c1 c2;obtain⟨a,ha⟩:=QE (UInt8.ofNat (x.z.toNat%200):UInt8);have haq:(x.z.toNat:Int).tmod 200=(a.toNat:Int):=by
  rw[← ha,Int.tmod_eq_emod_of_nonneg (by omega),UInt8.toNat_ofNat'];omega
 have q7E:(x.z.toNat:Int)%200=(a.toNat:Int):=by rw[← Int.tmod_eq_emod_of_nonneg (by omega)];exact haq
 have HSB:Hid (sB x.z=wV a):=by unfold Hid sB;rw[ha]
 obtain⟨n,hn'⟩:=QE x.n;obtain⟨k,vB⟩:=QE x.k;obtain⟨zt,hz'⟩:=QE (x.z.toNat:Int);rw[hn']at hw0 hn HSP nC yw c1 ⊢;rw[vB]at hw0 h6 hk yw c0 ⊢;rw[hz']at hw0 haq q7E yw c2 ⊢;rw[HSB.out]at HSP nC;clear hn' vB hz' ha;obtain⟨n8,hn8⟩:=QE ((n:Int)%8);rw[hn8]at HSP nC;have q7D:0≤n8∧n8<8:=by omega
 have hm8:(n:Int).tmod 8=n8:=by rw[Int.tmod_eq_emod_of_nonneg (by omega)];exact hn8
 have hq6:(k:Int)%6=((k%6:Nat):Int):=by omega
 rw[h6]at hq6;clear h6;have sX:=QH ((Below.refl w0.heap.size w0).alloc (Nat.le_refl _) (.cells #[.int .i64 n8,.int .u8 (a.toNat:Int)] 73));have HPT:=QH (ch.qcn w0 n8 a (by unfold jd;omega));have lM:=QH (ch.kS (some ⟨w0.heap.size,0,none⟩) 1 [(n8,a)] _ HPT.out (by simp));have HCO:Hid (ch.bJ [(n8,a)]=[(n8,wV a)]):=rfl;rw[HCO.out]at lM;have HT1:=QH (HT0.out.below H HC sX.out);clear HT0 hn8;go_enter func11,ntmps11;go_wp2_with fail;refine lM.out.mono ?_;rintro e W1 ⟨v1,rfl,ho1,hb1⟩;obtain⟨A1,cc1,hv1,hl1,aI⟩:=ho1.qea (by intro y hy;simp at hy;subst hy;unfold jd;dsimp only;omega);subst hv1;have HL1:=QH hl1;have HAB:=QH aI;have eI:Hid (Ke B (fun j=>X j∨j=w.heap.size) w0 W1):=(Ke.of_below sX.out).trans (Ke.of_below hb1);have dW:Hid (V3 IV IC W1 B (fun j=>(X j∨j=w.heap.size)∨∃o,A1=some ⟨j,o,none⟩) vp pd p s):=HT1.out.more H HC hb1 fun j hj=>by
  rcases hj with hj|⟨o,hj⟩
  ·exact .inl hj
  ·exact .inr (HAB.out j o hj)
 have iR:Hid (qg W1 w.heap.size _ _):=(yw.out.below sX.out).below hb1;clear ho1 hl1 aI hb1 lM HT1 HPT c0 c1 c2 hw0 yw;go_wp2_with fail;refine(ch.xx 1 next _).mono ?_;rintro e W2 ⟨rfl,hb2⟩;have kh:=QH (eI.out.trans (Ke.of_below hb2));have dF:=QH (dW.out.below H HC hb2);have nt:=QH (HL1.out.below hb2);have HTS:Hid (w0.heap.size≤W2.heap.size):=kh.out.size;have HAT:Hid (∀b o,A1=some ⟨b,o,none⟩→b<W2.heap.size):=fun b o e=>dF.out.choose_spec.choose_spec.choose_spec.2.2.2.2.1 b (.inr ⟨o,e⟩);clear hb2 eI dW HL1;unfold ch.gv;go_wp2_with fail;have qZ:=QH ((Below.refl W2.heap.size W2).alloc (Nat.le_refl _) (.cells #[.int .u64 0,.int .u64 0,.int .u64 1,.int .u64 (next:Int),.int .i64 1,.int .i64 1,.slice none 0 0] 59));have HTB:=QH (qg.new W2 59 #[.int .u64 0,.int .u64 0,.int .u64 1,.int .u64 (next:Int),.int .i64 1,.int .i64 1,.slice none 0 0]);have HT4:Hid (V3 IV IC (W2.alloc (.cells #[.int .u64 0,.int .u64 0,.int .u64 1,.int .u64 (next:Int),.int .i64 1,.int .i64 1,.slice none 0 0] 59)) B (fun j=>((X j∨j=w.heap.size)∨∃o,A1=some ⟨j,o,none⟩)∨j=W2.heap.size) vp pd p s):=dF.out.more H HC qZ.out fun j hj=>by
  rcases hj with hj|rfl
  ·exact .inl hj
  ·exact .inr ⟨Nat.le_refl _,by simp⟩
 have mv:=QH (kh.out.trans (Ke.of_below qZ.out));have HL4:=QH (nt.out.below qZ.out);obtain⟨W3,hW3⟩:=QE (W2.alloc (.cells #[.int .u64 0,.int .u64 0,.int .u64 1,.int .u64 (next:Int),.int .i64 1,.int .i64 1,.slice none 0 0] 59));rw[hW3]at qZ HTB HT4 mv HL4 ⊢;clear hW3 dF kh nt;obtain⟨TB,hTB⟩:=QE W2.heap.size;rw[hTB]at HTB HT4 HTS HAT ⊢;clear hTB qZ;refine(qsK H HT4.out).mono ?_;rintro e W4 ⟨A2,cc2,rfl,hg4,hn4,hb4⟩;have eY:=QH (HT4.out.below H HC hb4);have nB:=QH (mv.out.trans (Ke.of_below hb4));have HL5:=QH (HL4.out.below hb4);have nD:=QH (HTB.out.below hb4);have HGD:=QH hg4;have HNA:=QH hn4;have HX5:Hid (∀b o,A1=some ⟨b,o,none⟩→b<W4.heap.size):=fun b o e=>eY.out.choose_spec.choose_spec.choose_spec.2.2.2.2.1 b (.inl (.inr ⟨o,e⟩));have HGN:Hid (xn (1,next)):=⟨by show 1<18446744073709551616;omega,hnx⟩;obtain⟨y1,hy1⟩:=QE ((qF s.m).1:Int);obtain⟨y2,hy2⟩:=QE ((qF s.m).2:Int);have HY1:=QH hy1;have HY2:=QH hy2;have mD:(s.m.qa.map (·.g)).length=s.m.qa.length:=List.length_map _;clear hg4 hn4 hb4 HT4 mv HL4 hy1 hy2;by_cases hz:s.m.qa.length=0
 ·have hlz:((s.m.qa.map (·.g)).length:Int)=0:=by omega
  have q2t:(s.m.qa.map (·.g)).length=0:=by omega
  have hl0:=HL0.out hz;have q0:W4.cell? ⟨TB,0,none⟩=some (.int .u64 y1):=by rw[nD.out.cell 0,← HY1.out,hl0];rfl
  have q1:W4.cell? ⟨TB,1,none⟩=some (.int .u64 y2):=by rw[nD.out.cell 1,← HY2.out,hl0];rfl
  have q2:W4.cell? ⟨TB,2,none⟩=some (.int .u64 1):=nD.out.cell 2;have q3:W4.cell? ⟨TB,3,none⟩=some (.int .u64 (next:Int)):=nD.out.cell 3;have q4:W4.cell? ⟨TB,4,none⟩=some (.int .i64 1):=nD.out.cell 4;have q5:W4.cell? ⟨TB,5,none⟩=some (.int .i64 1):=nD.out.cell 5;have q6:W4.cell? ⟨TB,6,none⟩=some (.slice none 0 0):=nD.out.cell 6;rw[q2t];clear hlz q2t hl0 mD hz;go_wp2_with fail;refine(kM HC eY.out (Nat.le_trans HM.out nB.out.size) (fun o1 o2 ho hx=>by
   have h5:=H.stage ⟨qF s.m,(1,next),1,1⟩ A1 cc1 [(n8,wV a)] (bV.out ▸ ho) HJ.out HF.out HR.out ⟨HGL.out,HGN.out,by unfold jd;dsimp only;omega,by unfold jd;dsimp only;omega⟩ HL5.out (by simp) (fun b o e=>⟨fun hh=>(hx b (.inl hh)).2 (.inl (.inr ⟨o,e⟩)),fun hh=>(hx b (.inr hh)).2 (.inl (.inr ⟨o,e⟩))⟩);unfold tkV at h5;dsimp only at h5;rw[HY1.out,HY2.out]at h5;exact h5)).mono ?_
  rintro e W6 ⟨r,d',m',l',rfl,hv6,vn,hq6⟩;have eH:=QH hv6;have HK6:=QH (nB.out.trans (vn.mono fun j hj=>.inl (.inl hj)));have HL6:=QH (lZ HL5.out (fun b o e=>vn.block (HX5.out b o e) (.inl (.inl (.inr ⟨o,e⟩)))) vn.size);have HQ:=QH hq6;clear hv6 vn hq6 eY nB HL5 q0 q1 q2 q3 q4 q5 q6;go_wp2_with fail;refine(ch.xx 1 next _).mono ?_;rintro e W7 ⟨rfl,iH⟩;have HT7:=QH (eH.out.below H HC iH);have HK7:=QH (HK6.out.trans (Ke.of_below iH));have HL7:=QH (HL6.out.below iH);clear iH eH HK6 HL6;go_wp2_with fail;refine(wL H HT7.out (Nat.le_trans HM.out HK7.out.size) (r:=s.c.add (1,next) [(n8,wV a)]) (fun o3 ho hx=>HC.add (1,next) A1 cc1 [(n8,wV a)] ho HGN.out HL7.out (by simp) (fun b o e hh=>(hx b hh).2 (.inl (.inr ⟨o,e⟩))))).mono ?_;rintro e W8 ⟨rfl,hv8,hk8⟩;have HV:Hid (V3 IV IC W8 B X vp pd p ⟨d',m',(s.c.add (1,next) [(n8,wV a)]).1,l'⟩):=hv8.fL fun j hj=>.inl (.inl (.inl hj));have HKE:Hid (Ke B X w W8):=(Ke.of_below xz.out).trans ((HK7.out.trans (hk8.mono fun j hj=>.inl (.inl hj))).mono fun j hj=>.inl hj);clear hv8 hk8 HT7 HK7;go_wp2_with fail;go_ret2;refine⟨r,d',m',l',?_,?_,HKE.out,?_⟩
  ·rw[nC.out];rfl
  ·rw[nC.out];exact HV.out
  ·rw[HSP.out];exact HQ.out
 ·obtain⟨kl,hkl⟩:=QE (s.m.qa.length-1);have zO:kl+1=s.m.qa.length:=by omega
  have hkg:kl<(s.m.qa.map (·.g)).length:=by omega
  have hlk:=HLK.out kl hkg zO;obtain⟨bl,ol,rfl,hbl,g0,g1,_⟩:=HGD.out kl hkg;rw[← hlk,HY1.out]at g0;rw[← hlk,HY2.out]at g1;have qw2:(0:Int)<((s.m.qa.map (·.g)).length:Int):=by omega
  have hwr:IntKind.i64.wrap (((s.m.qa.map (·.g)).length:Int)-1)=(kl:Int):=by rw[IntWalk.i64_in _ (by omega)];omega
  have jW:(kl:Int)<((s.m.qa.map (·.g)).length:Int):=by omega
  have f0:=nD.out.frozen 0;have f1:=nD.out.frozen 1;have p0:W4.cell? ⟨TB,0,none⟩=some (.int .u64 0):=nD.out.cell 0;have p1:W4.cell? ⟨TB,1,none⟩=some (.int .u64 0):=nD.out.cell 1;have qeB:=QH ((nD.out.ql 0 (.int .u64 y1)).ql 1 (.int .u64 y2));have HBU:Hid (qz (fun j=>j=TB) W4 ((W4.setCell ⟨TB,0,none⟩ (.int .u64 y1)).setCell ⟨TB,1,none⟩ (.int .u64 y2))):=((qz.refl (fun j=>j=TB) W4).setCell ⟨TB,0,none⟩ (.int .u64 y1) (.inl rfl)).setCell ⟨TB,1,none⟩ (.int .u64 y2) (.inl rfl);have q0:=qeB.out.cell 0;have q1:=qeB.out.cell 1;have q2:=qeB.out.cell 2;have q3:=qeB.out.cell 3;have q4:=qeB.out.cell 4;have q5:=qeB.out.cell 5;have q6:=qeB.out.cell 6;simp only[List.setIfInBounds_toArray,List.set_cons_zero,List.set_cons_succ,QA,QB,QC]at q0 q1 q2 q3 q4 q5 q6;have q2v:=QH (eY.out.turn H HC (HBU.out.mono fun j hj=>.inr hj));have q2w:Hid (Ke B (fun j=>X j∨j=w.heap.size) w0 ((W4.setCell ⟨TB,0,none⟩ (.int .u64 y1)).setCell ⟨TB,1,none⟩ (.int .u64 y2))):=nB.out.trans (HBU.out.mono fun j hj=>by
   have h1:j=TB:=hj;subst h1;exact⟨Nat.le_trans HM.out HTS.out,fun hx=>absurd (HXL.out j hx) (by have:=HTS.out;omega)⟩)
  have q2x:=QH (lZ HL5.out (fun b o e=>HBU.out.block b (HX5.out b o e) (fun hb=>by
   have h1:b=TB:=hb;have h2:=HAT.out b o e;omega)) HBU.out.size)
  have q2y:Hid (∀b o,A1=some ⟨b,o,none⟩→b<((W4.setCell ⟨TB,0,none⟩ (.int .u64 y1)).setCell ⟨TB,1,none⟩ (.int .u64 y2)).heap.size):=fun b o e=>Nat.lt_of_lt_of_le (HX5.out b o e) HBU.out.size;clear eY nB HL5 HX5 HBU qeB hlk;have eY:=QH q2v.out;have nB:=QH q2w.out;have HL5:=QH q2x.out;have HX5:=QH q2y.out;clear q2v q2w q2x q2y;go_wp2_with fail;refine(kM HC eY.out (Nat.le_trans HM.out nB.out.size) (fun o1 o2 ho hx=>by
   have h5:=H.stage ⟨qF s.m,(1,next),1,1⟩ A1 cc1 [(n8,wV a)] (bV.out ▸ ho) HJ.out HF.out HR.out ⟨HGL.out,HGN.out,by unfold jd;dsimp only;omega,by unfold jd;dsimp only;omega⟩ HL5.out (by simp) (fun b o e=>⟨fun hh=>(hx b (.inl hh)).2 (.inl (.inr ⟨o,e⟩)),fun hh=>(hx b (.inr hh)).2 (.inl (.inr ⟨o,e⟩))⟩);unfold tkV at h5;dsimp only at h5;rw[HY1.out,HY2.out]at h5;exact h5)).mono ?_
  rintro e W6 ⟨r,d',m',l',rfl,hv6,vn,hq6⟩;have eH:=QH hv6;have HK6:=QH (nB.out.trans (vn.mono fun j hj=>.inl (.inl hj)));have HL6:=QH (lZ HL5.out (fun b o e=>vn.block (HX5.out b o e) (.inl (.inl (.inr ⟨o,e⟩)))) vn.size);have HQ:=QH hq6;clear hv6 vn hq6 eY nB HL5 q0 q1 q2 q3 q4 q5 q6;go_wp2_with fail;refine(ch.xx 1 next _).mono ?_;rintro e W7 ⟨rfl,iH⟩;have HT7:=QH (eH.out.below H HC iH);have HK7:=QH (HK6.out.trans (Ke.of_below iH));have HL7:=QH (HL6.out.below iH);clear iH eH HK6 HL6;go_wp2_with fail;refine(wL H HT7.out (Nat.le_trans HM.out HK7.out.size) (r:=s.c.add (1,next) [(n8,wV a)]) (fun o3 ho hx=>HC.add (1,next) A1 cc1 [(n8,wV a)] ho HGN.out HL7.out (by simp) (fun b o e hh=>(hx b hh).2 (.inl (.inr ⟨o,e⟩))))).mono ?_;rintro e W8 ⟨rfl,hv8,hk8⟩;have HV:Hid (V3 IV IC W8 B X vp pd p ⟨d',m',(s.c.add (1,next) [(n8,wV a)]).1,l'⟩):=hv8.fL fun j hj=>.inl (.inl (.inl hj));have HKE:Hid (Ke B X w W8):=(Ke.of_below xz.out).trans ((HK7.out.trans (hk8.mono fun j hj=>.inl (.inl hj))).mono fun j hj=>.inl hj);clear hv8 hk8 HT7 HK7;go_wp2_with fail;go_ret2;refine⟨r,d',m',l',?_,?_,HKE.out,?_⟩
  ·rw[nC.out];rfl
  ·rw[nC.out];exact HV.out
  ·rw[HSP.out];exact HQ.out
theorem fX {IV:yx}{IC:ch.cS}(H:yz IV)(HC:ch.Ops IC){B vp pd p N:Nat}{X:Nat→Prop}{w:World}{s:Tri}{t:Tg}(h:V3 IV IC w B X vp pd p s)(hB:B≤w.heap.size)(hlo:s.lost=false)(hJ:JJ N t s.d)(hf:0≤s.d.qu)(hr:qW 8 N t s.m)
    (x:tx) (next:Nat) (hk:x.k<256) (hn:x.n<256) (hnx:next<18446744073709551616) :
    Calls prog 11 #[.pointer (some ⟨vp,0,none⟩),.pointer (some ⟨p,0,none⟩),.agg (xX x),.int .u64 (next:Int)] w (StP IV IC B X vp pd p N t s x next w):=by
 have h6:x.k%6<6:=Nat.mod_lt _ (by decide);by_cases h0:x.k%6=0∨x.k%6=1
 ·exact qhz H HC h hB hlo hJ hf hr x next hk hn h0
 by_cases h2:x.k%6=2
 ·exact qld H HC h hB hlo hJ hf hr x next hk hn hnx h2
 by_cases h3:x.k%6=3
 ·exact qle H HC h hB hlo hJ hf hr x next hk hn hnx h3
 by_cases h4:x.k%6=4
 ·exact qlf H HC h hB hlo hJ hf hr x next hk hn hnx h4
 exact qh0 H HC h hB hlo hJ hf hr x next hk hn hnx (by omega)
end Go.Proofs.YtdagdllomphidaaGreatDoor.vt
namespace Go.Proofs.YtdagdllomphidaaGreatDoor.ch
open _root_.Go.Proofs.Tryz Go Go.RowKit ib
theorem dm {w wr:World}(h:Below w.heap.size w wr)(n:Nat):Below w.heap.size w (wr.drewN n):=⟨h.os,h.tape,h.output,h.size,h.block⟩
def okB (r:Bool)(w:World)(e:Ending)(w':World):Prop:=e=.returned (.bool r)∧Below w.heap.size w w'
def q2z {α:Type}(ps qs:List α)(w:World)(i:Value)(wr:World):Prop:=∃k:Nat,k≤ps.length∧i=.int .i64 (k:Int)∧ps.take k=qs.take k∧Below w.heap.size w wr
theorem qaN(A A':Option Addr)(c c':Nat)(ps qs:List Bt)(w:World)(hp:TxL w A ps)(hq:TxL w A' qs)(hl:ps.length≤9223372036854775807) :
    Calls prog 47 #[.slice A ps.length c,.slice A' qs.length c'] w (okB (decide (ps=qs)) w):=by
 have HP:=QH hp;have HQ:=QH hq;clear hp hq;by_cases hne:ps.length=qs.length
 ·have sI:=QH hne;have hlb:((ps.length:Int) != (qs.length:Int))=false:=by rw[hne];simp
  clear hne;go_enter func47,ntmps47;go_wp2_with fail;go_loopw [5] (fun i wr=>q2z ps qs w i wr) (fun i _=>ps.length-(intOf i).toNat);case atStart=>exact⟨0,Nat.zero_le _,rfl,by simp,Below.refl _ _⟩
  case round =>
   obtain⟨k,hk,rfl,he,hb⟩:=hrel;have HE:=QH he;have HB:=QH hb;clear he hb;by_cases hlt:k<ps.length
   ·obtain⟨b,o,rfl,hbl,hc⟩:=HP.out k hlt;have hlq:k<qs.length:=by have:=sI.out;omega
    obtain⟨b',o',rfl,ma,hc'⟩:=HQ.out k hlq;have h1:ps.take (k+1)=ps.take k++[ps[k]]:=List.take_succ_eq_append_getElem hlt;have h2:qs.take (k+1)=qs.take k++[qs[k]]:=List.take_succ_eq_append_getElem hlq;have hps:ps=qs→ps[k]=qs[k]:=fun h=>by subst h;rfl
    have my:=QH hps;have H1:=QH h1;have H2:=QH h2;have e0:wr.cell? ⟨b,o+k,none⟩=some (.string (str ps[k])):=by rw[HB.out.cell (p:=⟨b,o+k,none⟩) hbl];exact hc
    have e1:wr.cell? ⟨b',o'+k,none⟩=some (.string (str qs[k])):=by rw[HB.out.cell (p:=⟨b',o'+k,none⟩) ma];exact hc'
    have l0:b<wr.heap.size:=Nat.lt_of_lt_of_le hbl HB.out.size;have l1:b'<wr.heap.size:=Nat.lt_of_lt_of_le ma HB.out.size;have ra:(k:Int)<(ps.length:Int):=by omega
    have zfa:(k:Int)<(qs.length:Int):=by omega
    clear hc hc' h1 h2 hps;generalize ps[k]=x at *;generalize qs[k]=y at *;by_cases hxy:x=y
    ·subst hxy;have hxq:((str x).toList == (str x).toList)=true:=by simp
     go_wp2_with fail;go_quiet (fail);go_wp2_with fail;go_roundw;case rel=>exact⟨k+1,by omega,by go_num,by rw[H1.out,H2.out,HE.out],by first|exact dm HB.out _|exact HB.out⟩
     case measure=>simp[intOf];omega
    ·have hd:decide (ps=qs)=false:=decide_eq_false fun h=>hxy (my.out h);have hxq:((str x).toList == (str y).toList)=false:=by rw[iM,zh];simp[hxy]
     have HD:=QH hd;clear hd;go_wp2_with fail;go_quiet (fail);go_wp2_with fail;go_ret;rw[HD.out];exact⟨rfl,by first|exact dm HB.out _|exact HB.out⟩
   ·have hke:k=ps.length:=by omega
    have hd:decide (ps=qs)=true:=by
     refine decide_eq_true ?_;have h:=HE.out;rw[hke,List.take_length,sI.out,List.take_length]at h;exact h
    have HD:=QH hd;clear hd;go_wp2_with fail;go_ret;rw[HD.out];exact⟨rfl,HB.out⟩
 ·have hlb:((ps.length:Int) != (qs.length:Int))=true:=by simp;omega
  have hd:decide (ps=qs)=false:=decide_eq_false fun h=>hne (by rw[h]);have HD:=QH hd;clear hd hne;go_enter func47,ntmps47;go_wp2_with fail;go_ret;rw[HD.out];exact⟨rfl,Below.refl _ _⟩
end Go.Proofs.YtdagdllomphidaaGreatDoor.ch
namespace Go.Proofs.YtdagdllomphidaaGreatDoor.ch
open _root_.Go.Proofs.Tryz Go Go.RowKit Go.Sort ib
theorem eA:prog.follows .mixedOrders=true:=by kernel_rfl
def lt (c:UInt8):UInt8:=if c=48 then 0 else c
def qaO (s:List UInt8):List Bt:=s.map fun c=>wV (lt c)
def q20 (s:ByteArray)(ts:List Bt)(w:World)(i:Value)(wr:World):Prop:=∃k:Nat,k≤ts.length∧i=.int .i64 (k:Int)∧Below w.heap.size w wr
theorem jz (A:Option Addr)(c:Nat)(ts:List Bt)(s:ByteArray)(w:World)(hT:TxL w A ts)(hl:ts.length≤1000)(he:qaO (bl s)=ts) :
    Calls prog 36 #[.slice A ts.length c,.int .i64 0,.string s] w fun e w'=>e=.returned (.bool true)∧Below w.heap.size w w':=by
 have HT:=QH hT;have hlen:ts.length=s.size:=by rw[← he];simp[qaO,zr]
 have hlb:((ts.length:Int) != (s.size:Int))=false:=by rw[hlen];simp
 have bF:=QH hlen;have HE:=QH he;clear hT hlen he;go_enter func36,ntmps36;go_wp2_with fail;go_loopw [7] (fun i wr=>q20 s ts w i wr) (fun i _=>ts.length-(intOf i).toNat);case atStart=>exact⟨0,Nat.zero_le _,rfl,Below.refl _ _⟩
 case round =>
  obtain⟨k,hk,rfl,hb⟩:=hrel;have HB:=QH hb;clear hb;by_cases hlt:k<ts.length
  ·have ra:(k:Int)<(ts.length:Int):=by omega
   have hks:k<s.size:=by rw[← bF.out];exact hlt
   have zfd:(k:Int)<(s.size:Int):=by omega
   obtain⟨b,o,rfl,hbl,hc⟩:=HT.out k hlt;have e0:wr.cell? ⟨b,o+k,none⟩=some (.string (str ts[k])):=by rw[HB.out.cell (p:=⟨b,o+k,none⟩) hbl];exact hc
   have l0:b<wr.heap.size:=Nat.lt_of_lt_of_le hbl HB.out.size;have hts:ts[k]=wV (lt s[k]):=by
    have h1:ts[k]?=some (wV (lt s[k])):=by
     rw[← HE.out];unfold qaO;rw[List.getElem?_map,show(bl s)[k]?=some s[k]from by rw[List.getElem?_eq_getElem (by rw[zr];exact hks)];rfl];rfl
    rw[List.getElem?_eq_getElem hlt]at h1;exact Option.some.inj h1
   obtain⟨S,hS⟩:=QE (str ts[k]);rw[hS]at e0;rw[hts]at hS;have HS:=QH hS;clear hc hts hS;have hch:∃ch,s[k]=ch:=⟨_,rfl⟩;have hq:(S.toList != S.toList)=false:=by simp
   have cR:∀d os,(grow (redrawn wr d) os).cell? ⟨b,o+k,none⟩=some (.string S):=fun d os=>cell_regrown e0 d os;have cD:∀d os,Calls prog 18 #[.int .u8 ((lt s[k]).toNat:Int)] (grow (redrawn wr d) os) fun e w''=>e=.returned (.string S)∧∃p:Regrown,w''=grow (redrawn wr p.d) p.os :=
    fun d os=>Calls.regrown_of (by have:=wU (lt s[k]) (grow (redrawn wr d) os);rw[← HS.out];exact this)
   clear hch;by_cases hz:s[k]=48
   ·rw[hz]at cD;have cD:∀d os,Calls prog 18 #[.int .u8 0] (grow (redrawn wr d) os) fun e w''=>e=.returned (.string S)∧∃p:Regrown,w''=grow (redrawn wr p.d) p.os:=cD;have hzb:((s[k].toNat:Int) == 48)=true:=by rw[hz];rfl
    clear hz;go_wp2_with fail;refine wp_region_quiet_below eA (by kernel_rfl) ?_;repeat (any_goals (first|go_big_quiet_step (exact cD _ _)|quiet_step (exact cD _ _)))
    refine wpQuiet_nil ?_;intro _ hw';obtain⟨⟨dq,osq⟩,hw''⟩:=hw';subst hw'';have qC:=QH (qc HB.out (below_regrown wr dq osq));go_wp2_with fail;go_roundw;case rel=>exact⟨k+1,by omega,by go_num,qC.out⟩
    case measure=>simp[intOf];omega
   ·have hlt2:lt s[k]=s[k]:=by unfold lt;rw[if_neg hz]
    rw[hlt2]at cD;have hzb:((s[k].toNat:Int) == 48)=false:=by
     rw[beq_eq_false_iff_ne];intro e;exact hz (UInt8.toNat_inj.1 (by show s[k].toNat=48;omega))
    go_wp2_with fail;refine wp_region_quiet_below eA (by kernel_rfl) ?_;repeat (any_goals (first|go_big_quiet_step (exact cD _ _)|quiet_step (exact cD _ _)))
    refine wpQuiet_nil ?_;intro _ hw';obtain⟨⟨dq,osq⟩,hw''⟩:=hw';subst hw'';have qC:=QH (qc HB.out (below_regrown wr dq osq));go_wp2_with fail;go_roundw;case rel=>exact⟨k+1,by omega,by go_num,qC.out⟩
    case measure=>simp[intOf];omega
  ·have ra:¬ (k:Int)<(ts.length:Int):=by omega
   go_wp2_with fail;go_ret;exact⟨rfl,HB.out⟩
end Go.Proofs.YtdagdllomphidaaGreatDoor.ch
namespace Go.Proofs.YtdagdllomphidaaGreatDoor.vt
open _root_.Go.Proofs.Tryz Go Go.RowKit ib
@[go_sem] theorem qtk (a b c d:Int) (w:World):(Op.equalIn 10000 55 (.agg #[.int .u64 a,.int .u64 b]) (.agg #[.int .u64 c,.int .u64 d])).run prog w=.ok (a == c&&b == d) w:=by
 have u3:=underlying35;have a3:=isAgg35;have z3:=sizeOf35;rw[show(10000:Nat)=9999+1 from rfl,run_equalIn_agg w 9999 55 _ _ (by kernel_rfl) (by kernel_rfl)];simp only[Program.fieldsOf,underlying55];go_simp;by_cases h1:a=c <;> by_cases h2:b=d <;> simp[h1,h2]
@[go_sem] theorem q7G (a c:Int) (b d:ByteArray) (w:World):(Op.equalIn 10000 62 (.agg #[.int .i64 a,.string b]) (.agg #[.int .i64 c,.string d])).run prog w=.ok (a == c&&b.toList == d.toList) w:=by
 have u3:=underlying3;have a3:=isAgg3;have z3:=sizeOf3;have u4:=underlying9;have a4:=isAgg9;have z4:=sizeOf9;rw[show(10000:Nat)=9999+1 from rfl,run_equalIn_agg w 9999 62 _ _ (by kernel_rfl) (by kernel_rfl)];simp only[Program.fieldsOf,underlying62];go_simp;by_cases h1:a=c <;> by_cases h2:b.toList=d.toList <;> simp[h1,h2]
theorem qoy(x y:Nat × Nat):((x.1:Int) == (y.1:Int)&&(x.2:Int) == (y.2:Int))=decide (x=y):=by
 obtain⟨a,b⟩:=x;obtain⟨c,d⟩:=y;rw[Bool.eq_iff_iff];simp;omega
theorem qxw(x y:Int × Bt):(x.1 == y.1&&(str x.2).toList == (str y.2).toList)=decide (x=y):=by
 obtain⟨a,b⟩:=x;obtain⟨c,d⟩:=y;rw[iM,zh,Bool.eq_iff_iff];simp
end Go.Proofs.YtdagdllomphidaaGreatDoor.vt

/- RvAsks, RvWkP, RvData, RvMem, RvChanges, RvGuid, StEq, StSame, CShelf, StOwn, StBox. -/
import Derived.Test.YtdpbdkacngaemaaGreatDoorZKRvLKnown1
import Derived.Shelf.LaysM
import Derived.Shelf.Strconv.Clone
set_option linter.unusedVariables false
set_option linter.unusedSimpArgs false
set_option maxHeartbeats 30000000
set_option maxRecDepth 100000
namespace Go.Proofs.YtdpbdkacngaemaaGreatDoor.rv
open _root_.Go.Proofs.Tryz Go Go.RowKit Go.Sort ib mt st
open ch (kX)
def eX (W:World)(g:Nat)(x:Gd):World:=(W.setCell ⟨g,0,none⟩ (.int .u64 (x.1:Int))).setCell ⟨g,1,none⟩ (.int .u64 (x.2:Int))
theorem gV (W:World)(g:Nat)(x:Gd)(k:Nat)(h:k≠g):(eX W g x).heap[k]?=W.heap[k]? :=by
 unfold eX;rw[qw _ _ _ _ _ h,qw _ _ _ _ _ h]
theorem xB {w W:World}{B g:Nat}(x:Gd)(h:Below B w W)(hg:B≤g):Below B w (eX W g x) :=
 (h.setCell (p:=⟨g,0,none⟩) hg _).setCell (p:=⟨g,1,none⟩) hg _
theorem qbT{W:World}{g:Nat}(x:Gd){y z:Value}(h:qh W g 38 #[y,z]):qh (eX W g x) g 38 (gC x):=by
 have:=(h.qu 0 (.int .u64 (x.1:Int))).qu 1 (.int .u64 (x.2:Int));simpa[eX,gC]using this
theorem qfn{W:World}{g:Nat}{x:Gd}(h:qh W g 38 (gC x)):(loadVar 38 ⟨g,0,none⟩).run prog W=.ok (gv x) W :=
 run_loadVar_row W g 38 38 _ (0,0) _ h underlying38 rfl (by kernel_rfl)
def stB (b:Bool)(g:Nat)(x:Gd)(W:World):World:=if b=true then eX W g x else W
def AsG (p:Value)(g6:Nat)(n:Nat)(L T:Gd)(nx:Int):Nat→Value→Prop
 | 0,v=>v=p
 | 1,v=>∃A c,v=.slice A n c
 | 2,v=>v=.int .i64 (n:Int)
 | 3,v=>v=p
 | 4,v=>v=gv L
 | 5,v=>v=.pointer (some ⟨g6,2,none⟩)
 | 6,v=>v=gv T
 | 7,v=>v=.pointer (some ⟨g6,4,none⟩)
 | 8,v=>v=.int .i64 nx
 | 9,v=>v=.int .i64 (n:Int)
 | 12,v=>v=.int .i64 nx
 | _,_=>True
structure AsI(V:World)(p:Value)(g3 g4 g6 n:Nat)(L T:Gd)(nx:Int)(Ls:Nat→Bool)(vs:Nat→Value)(W:World):Prop where
 g:∀i,Ls i=true→AsG p g6 n L T nx i (vs i)
 a:Ls 10=true→Ls 1=true∧Ls 4=true
 b:Ls 11=true→Ls 10=true
 w:∃W',Below V.heap.size V W'∧W=stB (Ls 11) g4 T (stB (Ls 10) g3 L W')
theorem yI {L:Nat→Bool}{i j:Nat}(h:j≠i):qN L i j=L j:=by simp only[qN];rw[if_neg h]
theorem iU (L:Nat→Bool)(i:Nat):qN L i i=true:=by simp[qN]
theorem AsI.words{V:World}{p:Value}{g3 g4 g6 n:Nat}{L T:Gd}{nx:Int}{Ls:Nat→Bool}{vs:Nat→Value}{W:World}(h:AsI V p g3 g4 g6 n L T nx Ls vs W){i:Nat}{v:Value}(hv:AsG p g6 n L T nx i v) :
    ∀k,qN Ls i k=true→AsG p g6 n L T nx k (zZ vs i v k):=fun k hk=>by
 by_cases ja:k=i
 ·subst ja;simpa[zZ]using hv
 ·rw[yI ja]at hk;simpa[zZ,ja]using h.g k hk
theorem AsI.val{V:World}{p:Value}{g3 g4 g6 n:Nat}{L T:Gd}{nx:Int}{Ls:Nat→Bool}{vs:Nat→Value}{W:World}(h:AsI V p g3 g4 g6 n L T nx Ls vs W){i:Nat}{v:Value}(h10:i≠10)(h11:i≠11)(hv:AsG p g6 n L T nx i v) :
    AsI V p g3 g4 g6 n L T nx (qN Ls i) (zZ vs i v) W:=by
 have e10:qN Ls i 10=Ls 10:=yI (Ne.symm h10);have e11:qN Ls i 11=Ls 11:=yI (Ne.symm h11);have up:∀k,Ls k=true→qN Ls i k=true:=fun k hk=>by
  by_cases ja:k=i
  ·subst ja;exact iU _ _
  ·rw[yI ja];exact hk
 refine⟨h.words hv,fun hk=>?_,fun hk=>?_,?_⟩
 ·rw[e10]at hk;exact⟨up 1 (h.a hk).1,up 4 (h.a hk).2⟩
 ·rw[e11]at hk;rw[e10];exact h.b hk
 ·rw[e10,e11];exact h.w
theorem AsI.call{V:World}{p:Value}{g3 g4 g6 n:Nat}{L T:Gd}{nx:Int}{Ls:Nat→Bool}{vs:Nat→Value}{W W':World}(h:AsI V p g3 g4 g6 n L T nx Ls vs W){i:Nat}{v:Value}(hi:i=1∨i=4)(cE:Ls i=false)(hb:Below W.heap.size W W')(hv:AsG p g6 n L T nx i v) :
    AsI V p g3 g4 g6 n L T nx (qN Ls i) (zZ vs i v) W':=by
 have f10:Ls 10=false:=by
  cases hx:Ls 10 with
  | false=>rfl
  | true =>
   have:=h.a hx;rcases hi with rfl|rfl
   ·rw[cE]at this;cases this.1
   ·rw[cE]at this;cases this.2
 have f11:Ls 11=false:=by
  cases hx:Ls 11 with
  | false=>rfl
  | true=>have:=h.b hx;rw[f10]at this;cases this
 have e10:qN Ls i 10=false:=by rw[yI (by omega)];exact f10
 have e11:qN Ls i 11=false:=by rw[yI (by omega)];exact f11
 obtain⟨W0,h1,h2⟩:=h.w;rw[f10,f11]at h2;have h3:W=W0:=h2;subst h3;refine⟨h.words hv,fun hk=>?_,fun hk=>?_,W',qc h1 hb,?_⟩
 ·rw[e10]at hk;cases hk
 ·rw[e11]at hk;cases hk
 ·rw[e10,e11];rfl
theorem ae {P:Program}{o:Oper}{ρ:Operand→Value}{w w':World}{f:FuncId}{args:Array Value}{K:Value→World→Prop}(h:(execOp ρ o).run P w=.ok (.enter f args) w')(hk:Calls P f args w' fun e w''=>∃v,e=.returned v∧K v w''):uz P K ((execOp ρ o).run P w):=by
 rw[h];exact hk
def nE (n:Nat)(L T:Gd)(nx:Int):Value:=.tuple #[.int .i64 (n:Int),gv L,gv T,.int .i64 nx]
theorem tL {fn:Func}{p q r s:Tmp}{t u:TypeId}(h:fn.results = #[.tmp p,.cell q t,.cell r u,.tmp s])(tmps:Array Value)(P:Program)(w:World)(a b:Addr)(v1 v2 v3 v4:Value)
    (hp:tmps.getD p undef=v1) (hq:tmps.getD q undef=.pointer (some a)) (hr:tmps.getD r undef=.pointer (some b)) (hs:tmps.getD s undef=v4) (h1:(loadVar t a).run P w=.ok v2 w) (h2:(loadVar u b).run P w=.ok v3 w):(results fn tmps).run P w=.ok (.tuple #[v1,v2,v3,v4]) w:=by
 simp only[results,h];simp only[Array.getD_eq_getD_getElem?]at hp hq hr hs;simp[Sem.run_bind,Result.andThen,asAddr,hp,hq,hr,hs,h1,h2]
theorem qbU{gs:List Gd}{t:Tk}{p:Value}{w:World}(hl:gs.length≤1000)(hL:∀W,Below w.heap.size w W→Calls prog 37 #[p] W (ch.qbd gs W))(hT:∀W,Below w.heap.size w W→Calls prog 41 #[p] W (vt.aP t W)) :
    Calls prog 27 #[p] w fun e w'=>e=.returned (nE gs.length (kd gs) t.target t.next)∧Below w.heap.size w w':=by
 have hb1:=(Below.refl _ w).alloc (Nat.le_refl _) (.cells #[.int .u64 0,.int .u64 0] 38);have hr1:=qh.new w 38 #[.int .u64 0,.int .u64 0];obtain⟨W1,hW1⟩:=QE (w.alloc (.cells #[.int .u64 0,.int .u64 0] 38));rw[hW1]at hb1 hr1;have hb2:=(Below.refl _ W1).alloc (Nat.le_refl _) (.cells #[.int .u64 0,.int .u64 0] 38);have hr2:=qh.new W1 38 #[.int .u64 0,.int .u64 0];obtain⟨W2,hW2⟩:=QE (W1.alloc (.cells #[.int .u64 0,.int .u64 0] 38));rw[hW2]at hb2 hr2;have qG:=QH (qc hb1 hb2);have cV:=QH (hr1.below hb2);have oa:Hid (w.heap.size<W1.heap.size):=hr1.lt;obtain⟨g3,hg3⟩:=QE w.heap.size;have qbp:W1.heap.size=g3+1:=by rw[← hW1,← hg3];simp
 obtain⟨g4,hg4⟩:=QE (g3+1);have dm:Hid (w.heap.size≤g3∧w.heap.size≤g4∧g3≠g4):=⟨by omega,by have:=oa.out;omega,by have:=oa.out;omega⟩;rw[qbp,hg4]at hr2;have tV:=QH hr2;have qxD:Hid (qh W2 g3 38 #[.int .u64 0,.int .u64 0]):=by rw[← hg3];exact cV.out
 have tR:=QH hg3;have HG4:=QH hg4;have HW1:=QH hW1;have HW2:=QH hW2;have HL:=QH hL;have xY:=QH (hT W2 qG.out);clear hb1 hr1 hb2 hr2 hW1 hW2 cV oa hg3 hg4 qbp hL hT;go_enter func27,ntmps27;go_upto_region 1 with fail;try rw[HW1.out]
 try rw[tR.out]
 try rw[HG4.out]
 try rw[HW2.out]
 clear HW1 HW2 tR HG4;go_wp2_with fail;refine xY.out.mono ?_;rintro e W3 ⟨B,c,rfl,-,-,hb⟩;have zG:=QH (qc qG.out hb);have HE3:=QH (qxD.out.below hb);have HE4:=QH (tV.out.below hb);have qxE:Hid (g3<W3.heap.size∧g4<W3.heap.size):=⟨HE3.out.lt,HE4.out.lt⟩;clear hb xY qG qxD tV;rw[show vt.tkV (vt.tf t) B t.qp.length c=.agg (vt.pg.ub (vt.tf t) B t.qp.length c)from rfl];obtain⟨n,hn⟩:=QE t.qp.length;rw[hn];clear hn;have cb:=(Below.refl W3.heap.size W3).alloc (Nat.le_refl _) (.cells (vt.pg.ub (vt.tf t) B n c) 82);have kb:=qh.new W3 82 (vt.pg.ub (vt.tf t) B n c);unfold vt.pg.ub vt.tf at *;dsimp only at *;obtain⟨W4,hWn⟩:=QE (W3.alloc (.cells #[.int .u64 (t.base.1:Int),.int .u64 (t.base.2:Int),.int .u64 (t.target.1:Int),.int .u64 (t.target.2:Int),.int .i64 t.next,.int .i64 t.all,.slice B n c] 82));rw[hWn]at cb kb;obtain⟨g6,hg⟩:=QE W3.heap.size;have HNE:Hid (g6≠g3∧g6≠g4):=by have:=qxE.out;exact⟨by omega,by omega⟩
 rw[hg]at kb;have zY:=QH (qc zG.out cb);have HF3:=QH (HE3.out.below cb);have HF4:=QH (HE4.out.below cb);have HK:=QH kb;have HWn:=QH hWn;have HGn:=QH hg;clear cb kb hWn hg zG HE3 HE4 qxE;go_upto_region 2 with fail;try rw[HWn.out]
 try rw[HGn.out]
 clear HWn HGn;generalize ht:t.target=T at *;generalize hnx:t.next=nx at *;refine nD (by kernel_rfl) [9,10,11,12,13,14,15,16,17,2,18,19,5] (by kernel_rfl) (fun Ls vs W=>AsI W4 p g3 g4 g6 gs.length (kd gs) T nx Ls vs W) ⟨fun i hi=>(by cases hi),fun h=>(by cases h),fun h=>(by cases h),W4.drew,(Below.refl _ _).drew,rfl⟩ ?_ ?_ ?_
 ·intro i o Ls vs ρ W ho cE qf hρ hgd hI;have qvC:i<13:=(Array.getElem?_eq_some_iff.1 ho).1;have hc:=hρ.const;have hfn:=hρ.fn;have t0:ρ (.tmp 0)=p:=hρ.out 0 rfl;have t3:ρ (.tmp 3)=pt g3:=hρ.out 3 rfl;have t4:ρ (.tmp 4)=pt g4:=hρ.out 4 rfl;have t6:ρ (.tmp 6)=pt g6:=hρ.out 6 rfl;obtain⟨W',iy,hWW⟩:=hI.w;have qxF:W.heap[g6]?=W'.heap[g6]? :=by
   rw[hWW];unfold stB;split <;> split <;> simp only[gV _ _ _ _ HNE.out.1,gV _ _ _ _ HNE.out.2]
  have nN:=(HK.out.below iy).of_block qxF;have HWW:=QH hWW;clear hWW;have q2:=nN.cell 2;have q3:=nN.cell 3;have q4:=nN.cell 4;have ql:=nN.lt;simp only[QA,QB,QC]at q2 q3 q4;rcases i with _|_|_|_|_|_|_|_|_|_|_|_|_|i;all_goals (first|omega|skip)
  all_goals simp only[QA,QB,QC,Option.some.injEq]at ho
  all_goals subst ho
  ·exact zM (w':=W) (by unfold execOp;simp only[t0];go_simp) (hI.val (by decide) (by decide) rfl)
  ·have s9:ρ (.tmp 9)=p:=(hρ.at_ 9 0 rfl).trans (hI.g 0 (qf 0 (by kernel_rfl)));have hbW:Below w.heap.size w W:=by
    rw[HWW.out];unfold stB;have hq:=qc zY.out iy;split <;> split
    ·exact xB _ (xB _ hq dm.out.1) dm.out.2.1
    ·exact xB _ hq dm.out.2.1
    ·exact xB _ hq dm.out.1
    ·exact hq
   refine ae (f:=37) (args:=#[p]) (w':=W) (by unfold execOp;simp only[hfn,s9];go_simp) ((HL.out W hbW).mono ?_);rintro e W'' ⟨A1,c1,rfl,_,_,hb5⟩;exact⟨_,rfl,hI.call (.inl rfl) cE hb5 ⟨A1,c1,rfl⟩⟩
  ·obtain⟨A1,c1,g1⟩:=hI.g 1 (qf 1 (by kernel_rfl));have s10:ρ (.tmp 10)=.slice A1 gs.length c1:=(hρ.at_ 10 1 rfl).trans g1;exact zM (w':=W) (by unfold execOp;simp only[s10,hc];go_simp) (hI.val (by decide) (by decide) rfl)
  ·exact zM (w':=W) (by unfold execOp;simp only[t0];go_simp) (hI.val (by decide) (by decide) rfl)
  ·have s12:ρ (.tmp 12)=p:=(hρ.at_ 12 3 rfl).trans (hI.g 3 (qf 3 (by kernel_rfl)));have hbW:Below w.heap.size w W:=by
    rw[HWW.out];unfold stB;have hq:=qc zY.out iy;split <;> split
    ·exact xB _ (xB _ hq dm.out.1) dm.out.2.1
    ·exact xB _ hq dm.out.2.1
    ·exact xB _ hq dm.out.1
    ·exact hq
   refine ae (f:=81) (args:=#[p]) (w':=W) (by unfold execOp;simp only[hfn,s12];go_simp) ((nz hl (fun W'' q2t=>HL.out W'' (qc hbW q2t))).mono ?_);rintro e W'' ⟨rfl,hb5⟩;exact⟨_,rfl,hI.call (.inr rfl) cE hb5 rfl⟩
  ·exact zM (w':=W) (by unfold execOp;simp only[t6];go_simp) (hI.val (by decide) (by decide) rfl)
  ·have s14:ρ (.tmp 14)=.pointer (some ⟨g6,2,none⟩):=(hρ.at_ 14 5 rfl).trans (hI.g 5 (qf 5 (by kernel_rfl)));exact zM (w':=W) (by unfold execOp gv;simp only[s14];go_simp) (hI.val (by decide) (by decide) rfl)
  ·exact zM (w':=W) (by unfold execOp;simp only[t6];go_simp) (hI.val (by decide) (by decide) rfl)
  ·have s16:ρ (.tmp 16)=.pointer (some ⟨g6,4,none⟩):=(hρ.at_ 16 7 rfl).trans (hI.g 7 (qf 7 (by kernel_rfl)));exact zM (w':=W) (by unfold execOp;simp only[s16];go_simp) (hI.val (by decide) (by decide) rfl)
  ·have s11:ρ (.tmp 11)=.int .i64 (gs.length:Int):=(hρ.at_ 11 2 rfl).trans (hI.g 2 (qf 2 (by kernel_rfl)));exact zM (w':=W) (by unfold execOp;simp only[s11];go_simp) (hI.val (by decide) (by decide) rfl)
  ·have f11:Ls 11=false:=by
      cases hx:Ls 11 with
      | false=>rfl
      | true=>have:=hI.b hx;rw[cE]at this;cases this
   have hWW:=HWW.out;rw[cE,f11]at hWW;have q2u:W=W':=hWW;clear hWW HWW;subst q2u;have s13:ρ (.tmp 13)=gv (kd gs):=(hρ.at_ 13 4 rfl).trans (hI.g 4 (qf 4 (by kernel_rfl)));have hk3:=HF3.out.below iy;have r0:=hk3.cell 0;have r1:=hk3.cell 1;have f0:=hk3.frozen 0;have f1:=hk3.frozen 1;have rl:=hk3.lt;simp only[QA,QB,QC]at r0 r1;unfold gv at s13;have y4:=qf 4 (by kernel_rfl);have y1:=qf 1 (by kernel_rfl);refine ck (w':=eX W g3 (kd gs)) (by unfold execOp eX;simp only[t3,s13];go_simp) ⟨hI.words trivial,fun _=>?_,fun _=>iU _ _,W,iy,?_⟩
   ·rw[yI (by decide),yI (by decide)];exact⟨y1,y4⟩
   ·rw[iU,yI (by decide),f11];rfl
  ·have y10:Ls 10=true:=qf 10 (by kernel_rfl);have hWW:=HWW.out;rw[cE,y10]at hWW;have HWX:Hid (W=eX W' g3 (kd gs)):=hWW;clear hWW HWW;have s15:ρ (.tmp 15)=gv T:=(hρ.at_ 15 6 rfl).trans (hI.g 6 (qf 6 (by kernel_rfl)));have hk4:qh W g4 38 #[.int .u64 0,.int .u64 0]:=(HF4.out.below iy).of_block (by rw[HWX.out,gV _ _ _ _ (Ne.symm dm.out.2.2)]);have r0:=hk4.cell 0;have r1:=hk4.cell 1;have f0:=hk4.frozen 0;have f1:=hk4.frozen 1;have rl:=hk4.lt;simp only[QA,QB,QC]at r0 r1;unfold gv at s15;have hya:=hI.a y10;refine ck (w':=eX W g4 T) (by unfold execOp eX;simp only[t4,s15];go_simp) ⟨hI.words trivial,fun _=>?_,fun _=>?_,W',iy,?_⟩
   ·rw[yI (by decide),yI (by decide)];exact hya
   ·rw[yI (by decide)];exact y10
   ·rw[iU,yI (by decide),y10,HWX.out];rfl
  ·have s17:ρ (.tmp 17)=.int .i64 nx:=(hρ.at_ 17 8 rfl).trans (hI.g 8 (qf 8 (by kernel_rfl)));exact zM (w':=W) (by unfold execOp;simp only[s17];go_simp) (hI.val (by decide) (by decide) rfl)
 ·intro i o L1 vs W j want ho cE qf hgd;exfalso;have qvC:i<13:=(Array.getElem?_eq_some_iff.1 ho).1;rcases i with _|_|_|_|_|_|_|_|_|_|_|_|_|i;all_goals (first|omega|skip)
  all_goals simp only[QA,QB,QC,Option.some.injEq]at ho
  all_goals subst ho
  all_goals simp only[reduceCtorEq]at hgd
 intro vs WE hI;obtain⟨W5,hb,hWE⟩:=hI.w;have qoB:WE=eX (eX W5 g3 (kd gs)) g4 T:=hWE;have v2:vs 9=.int .i64 (gs.length:Int):=hI.g 9 (by kernel_rfl);have v5:vs 12=.int .i64 nx:=hI.g 12 (by kernel_rfl);have hk3:qh WE g3 38 (gC (kd gs)):=(qbT (kd gs) (HF3.out.below hb)).of_block (by rw[qoB,gV _ _ _ _ dm.out.2.2]);have hk4:qh WE g4 38 (gC T):=by
  rw[qoB];exact qbT T ((HF4.out.below hb).of_block (gV _ _ _ _ (Ne.symm dm.out.2.2)))
 have HBE:Hid (Below w.heap.size w WE):=by
  unfold Hid;rw[qoB];exact xB _ (xB _ (qc zY.out hb) dm.out.1) dm.out.2.1
 have HL3:=QH (qfn hk3);have HL4:=QH (qfn hk4);clear hI hWE qoB hk3 hk4 hb;simp only[qZ,qM,if_true];rw[v2,v5];generalize vs 0=y0;generalize vs 1=y1;generalize vs 2=y2;generalize vs 3=y3;generalize vs 4=y4;generalize vs 5=y5;generalize vs 6=y6;generalize vs 7=y7;generalize vs 8=y8;generalize vs 10=y10;generalize vs 11=y11;clear v2 v5;simp only[Act.put,List.setIfInBounds_toArray,List.set_cons_succ,List.set_cons_zero,List.set_nil];go_wp2_with fail;exact bodyPost_ret (v:=nE gs.length (kd gs) T nx) (tL rfl _ _ _ ⟨g3,0,none⟩ ⟨g4,0,none⟩ _ _ _ _ rfl rfl rfl rfl HL3.out HL4.out) rfl ⟨by rw[ht,hnx],HBE.out⟩
end Go.Proofs.YtdpbdkacngaemaaGreatDoor.rv
namespace Go.Proofs.YtdpbdkacngaemaaGreatDoor.rv
open _root_.Go.Proofs.Tryz Go Go.RowKit ib mt st
open vt (jq ju VP DD Ke gN)
def kF (b:Nat)(g:Gd)(t:vt.Tf)(p:Pa):Nat→Int
 | 0=>xU p
 | 1=>if p.base=g then 0 else 9
 | 2=>if within b p then 0 else 2
 | _=>if p.fr=uM t p then 0 else 10
def km (b:Nat)(g:Gd)(t:vt.Tf)(p:Pa):Int:=j9 (kF b g t p) 4
theorem qqg(m:Mt)(p:Pa):nB m p=km m.live.length (vt.qI m) (vt.tf m.tok) p:=rfl
def wm:vt.Tf:=⟨(0,0),(0,0),0,0⟩
structure WkF(m:Mt)(g:Gd)(n:Nat)(f:vt.Tf):Prop where
 len:m.live.length=4
 last:vt.qI m=g
 n:m.qd.length=n
 tok:vt.tf m.tok=f
section
variable {N:Nat} {t:vt.Tg} {d d':DD} {m m':Mt} {r:Int} {l':Bool} {g:Gd} {n:Nat} {f:vt.Tf} {p:Pa}
theorem qqh(h:WkF m g n f){c:Int}(ha:km 4 g f p=c)(hc:c≠0)(hq:qhA N t d m p r d' m' l'):r=c∧d'=d∧m'=m∧l'=false:=by
 have hk:nB m p=c:=by rw[qqg,h.len,h.last,h.tok];exact ha
 rcases hq with⟨_,h1,h2,h3,h4⟩|⟨h0,_⟩
 ·exact⟨by rw[h1,hk],h2,h3,h4⟩
 ·rw[hk]at h0;exact absurd h0 hc
def WkN (t t':vt.Tg)(m m':Mt)(g:Gd)(n:Nat)(p:Pa):Prop :=
 if (yO p).next=(yO p).all then WkF m' p.target (n+1) wm∧vt.jM t' m'=⟨vt.jD (vt.qD t (vt.zo m (yO p))) p.zF,(vt.jM t m).qd++[⟨p.target,vt.jD (vt.qD t (vt.zo m (yO p))) p.zF,false⟩]⟩
 else WkF m' g n (yO p)∧vt.jM t' m'=vt.jM t m∧vt.qD t' m'.tok.qp=vt.jD (vt.qD t (vt.zo m (yO p))) p.zF
theorem qqi(h:WkF m g n f)(hR:vt.yz 4 N t m)(hN:377≤N)(hj:jr.JJ N t d)(hf:d.qz=0)(ha:km 4 g f p=0)(he:vt.zm 4 n g (yO p) p.zF=0)(hg:zV p.target)(hx:p.zF.length≤8)(hq:qhA N t d m p r d' m' l') :
    r=0∧l'=false∧d'.qz=0∧∃t',jr.JJ N t' d'∧vt.yz 4 N t' m'∧WkN t t' m m' g n p:=by
 have hk:nB m p=0:=by rw[qqg,h.len,h.last,h.tok];exact ha
 have he':vt.zm m.live.length m.qd.length (vt.qI m) (yO p) p.zF=0:=by rw[h.len,h.n,h.last];exact he
 rcases hq with⟨h0,_⟩|⟨_,hq⟩
 ·exact absurd hk h0
 ·rcases vt.mr hR (yO p) hg p.zF with⟨_,hvf,_⟩|⟨h1,h2⟩
  ·have:=hvf.far hR.ok hx;omega
  ·rw[he']at h1;have hd:=h2 h1;generalize vt.xA N m (yO p) p.zF=P at *;rcases hq with⟨h0,_⟩|⟨_,rfl,hj',rfl,rfl,hf',_⟩|⟨_,_,_,_,hf',_⟩
   ·exact absurd h1 h0
   ·refine⟨rfl,rfl,hf' hf,_,hj',?_⟩;unfold WkN;by_cases hw:(yO p).next=(yO p).all
    ·rw[if_pos hw];obtain⟨⟨d1,d2,d3⟩,qsH⟩:=hd.whole hw;refine⟨hR.next d1 d2,⟨d1.len,?_,?_,by rw[qsH];rfl⟩,d3⟩
     ·rw[← vt.bL (jr.over t (vt.qK t P.m P.ws)),d3,ch.qgu];rfl
     ·have e:(vt.jM (jr.over t (vt.qK t P.m P.ws)) P.m).qd.length=P.m.qd.length:=by simp[vt.jM]
      have e2:(vt.jM t m).qd.length=m.qd.length:=by simp[vt.jM]
      rw[← e,d3,List.length_append,e2,h.n];rfl
    ·rw[if_neg hw];obtain⟨⟨d1,d2,d3⟩,qsH,q2v⟩:=hd.part hw;refine⟨hR.next d1 d2,⟨d1.len,?_,?_,qsH⟩,d3,q2v⟩
     ·rw[← vt.bL (jr.over t (vt.qK t P.m P.ws)),d3,vt.bL,h.last]
     ·have e:(vt.jM (jr.over t (vt.qK t P.m P.ws)) P.m).qd.length=P.m.qd.length:=by simp[vt.jM]
      have e2:(vt.jM t m).qd.length=m.qd.length:=by simp[vt.jM]
      rw[← e,d3,e2,h.n]
   ·exact absurd hf hf'
end
def l3:List Ch:=[(0,rep 97 32),(1,rep 98 32),(3,rep 99 32)]
def pW:Pa:=qx9 (0,0) (1,1) l3 0
def qW:Pa:=qx9 (0,0) (1,1) l3 2
def f1:vt.Tf:=⟨(0,0),(1,1),2,3⟩
theorem qsI:qbK (0,0) (1,1) l3 0=(pW,0):=by decide +kernel
theorem qsJ:qbK (0,0) (1,1) l3 2=(qW,0):=by decide +kernel
theorem q2w:km 4 (0,0) wm qW=10:=by decide +kernel
theorem q2x:km 4 (0,0) wm pW=0:=by decide +kernel
theorem q2y:km 4 (0,0) f1 pW=10:=by decide +kernel
theorem q2z:km 4 (0,0) f1 qW=0:=by decide +kernel
theorem q20:km 4 (1,1) wm qW=9:=by decide +kernel
theorem q21:vt.zm 4 0 (0,0) (yO pW) pW.zF=0:=by decide +kernel
theorem q22:vt.zm 4 0 (0,0) (yO qW) qW.zF=0:=by decide +kernel
def Wk (IV:jq)(w:World)(B:Nat)(X:Nat→Prop)(v pd:Nat)(g:Gd)(n:Nat)(f:vt.Tf):Prop :=
 ∃t d m,V2 IV w B X v pd d m false∧vt.yz 4 500 t m∧jr.JJ 500 t d∧d.qz=0∧WkF m g n f
section
variable {IV:jq} (H:ju IV) {w w':World} {B v pd n:Nat} {X Y:Nat→Prop} {g:Gd} {f:vt.Tf}
include H
theorem Wk.below(h:Wk IV w B X v pd g n f)(hb:Below w.heap.size w w'):Wk IV w' B X v pd g n f:=by
 obtain⟨t,d,m,h1,h2⟩:=h;exact⟨t,d,m,h1.below H hb,h2⟩
theorem Wk.more(h:Wk IV w B X v pd g n f)(hb:Below w.heap.size w w')(hY:∀j,Y j→X j∨(w.heap.size≤j∧j<w'.heap.size)):Wk IV w' B Y v pd g n f:=by
 obtain⟨t,d,m,h1,h2⟩:=h;exact⟨t,d,m,h1.more H hb hY,h2⟩
theorem Wk.turn{S:Nat→Prop}(h:Wk IV w B X v pd g n f)(hb:qB S w w')(hS:∀j,S j→X j∨w.heap.size≤j)(hY:∀j,Y j→X j∨(w.heap.size≤j∧j<w'.heap.size)):Wk IV w' B Y v pd g n f:=by
 obtain⟨t,d,m,h1,h2⟩:=h;exact⟨t,d,m,h1.turn H hb hS hY,h2⟩
theorem aN (h:Wk IV w B X v pd g n f)(hB:B≤w.heap.size)(A:Option Addr)(cp:Nat)(p:Pa)(hp:iR w A cp p)(hs:p.zF.length≤1000)(hA:∀b o,A=some ⟨b,o,none⟩→X b){c:Int}(ha:km 4 g f p=c)(hc:c≠0) :
    Calls prog 25 #[pt v,.agg (jg p A cp)] w fun e w'=>e=.returned (.int .i64 c)∧Wk IV w' B X v pd g n f∧Ke B X w w':=by
 obtain⟨t,d,m,h1,h2,h3,h4,h5⟩:=h;refine(iT H h1 hB A cp p h3 (by omega) h2 hp hs hA).mono ?_;rintro e w' ⟨r,d',m',l',rfl,hv,hk,hq⟩;obtain⟨rfl,rfl,rfl,rfl⟩:=qqh h5 ha hc hq;exact⟨rfl,⟨t,_,_,hv,h2,h3,h4,h5⟩,hk⟩
theorem nG (h:Wk IV w B X v pd g n f)(hB:B≤w.heap.size)(A:Option Addr)(cp:Nat)(p:Pa)(hp:iR w A cp p)(hx:p.zF.length≤8)(hA:∀b o,A=some ⟨b,o,none⟩→X b)(ha:km 4 g f p=0)(he:vt.zm 4 n g (yO p) p.zF=0){g':Gd}{n':Nat}{f':vt.Tf}(hn:if (yO p).next=(yO p).all then p.target=g'∧n+1=n'∧wm=f' else g=g'∧n=n'∧yO p=f') :
    Calls prog 25 #[pt v,.agg (jg p A cp)] w fun e w'=>e=.returned (.int .i64 0)∧Wk IV w' B X v pd g' n' f'∧Ke B X w w':=by
 obtain⟨t,d,m,h1,h2,h3,h4,h5⟩:=h;refine(iT H h1 hB A cp p h3 (by omega) h2 hp (by omega) hA).mono ?_;rintro e w' ⟨r,d',m',l',rfl,hv,hk,hq⟩;obtain⟨rfl,rfl,hf',t',hj',hr',hw⟩:=qqi h5 h2 (by decide) h3 h4 ha he hp.target hx hq;refine⟨rfl,⟨t',d',m',hv,hr',hj',hf',?_⟩,hk⟩;unfold WkN at hw;split at hw
 ·rename_i hif;rw[if_pos hif]at hn;obtain⟨rfl,rfl,rfl⟩:=hn;exact hw.1
 ·rename_i hif;rw[if_neg hif]at hn;obtain⟨rfl,rfl,rfl⟩:=hn;exact hw.1
theorem qfo(h:Wk IV w B X v pd g n f)(hn:n≤1000):Calls prog 27 #[pt v] w fun e w'=>e=.returned (nE n g f.target f.next)∧Below w.heap.size w w':=by
 obtain⟨t,d,m,⟨o1,o2,hv,_⟩,h2,h3,h4,h5⟩:=h;have hg:(m.qd.map (·.g)).length=n:=by rw[List.length_map,h5.n]
 have h:=qbU (gs:=m.qd.map (·.g)) (t:=m.tok) (p:=pt v) (w:=w) (by omega) (fun W hb=>H.list (qT H hv hb).is) (fun W hb=>H.token (qT H hv hb).is);have e1:m.tok.target=f.target:=by rw[← h5.tok];rfl
 have e2:m.tok.next=f.next:=by rw[← h5.tok];rfl
 rw[hg,il,h5.last,e1,e2]at h;exact h
end
end Go.Proofs.YtdpbdkacngaemaaGreatDoor.rv
namespace Go.Proofs.YtdpbdkacngaemaaGreatDoor.rv
open _root_.Go.Proofs.Tryz Go Go.RowKit ib ch
theorem gW (c:UInt8)(w:World):Calls prog 14 #[.int .u8 (c.toNat:Int)] w (okS (rep c 32) w):=by
 have hc0:(0:Int)≤(c.toNat:Int):=by omega
 have hc1:(c.toNat:Int)<256:=by have:=c.toNat_lt;omega
 go_enter func14,ntmps14;go_wp2_with (at_make;refine qx rfl (qan _ _ 32 rfl rfl rfl (by decide)) ?_;rw[← qcy c]);have hb0:qh (w.alloc (.cells (uQ c 0) 5)) w.heap.size 5 (uQ c 0):=qh.new _ _ _;have hB0:Below w.heap.size w (w.alloc (.cells (uQ c 0) 5)):=(Below.refl _ w).alloc (Nat.le_refl _) _;have Hb0:=QH hb0;have jT:=QH hB0;clear hb0 hB0;generalize w.alloc (.cells (uQ c 0) 5)=W0 at *;go_loopw [4] (fun i wr=>∃k:Nat,k≤32∧i=.int .i64 (k:Int)∧qh wr w.heap.size 5 (uQ c k)∧Below w.heap.size w wr) (fun i _=>32-(intOf i).toNat);case atStart=>exact⟨0,by omega,rfl,Hb0.out,jT.out⟩
 case round =>
  obtain⟨k,hk,rfl,jH,hBk⟩:=hrel;have vU:=QH jH;have HB:=QH hBk;by_cases hlt:k<32
  ·have hcell:(wr.cell? ⟨w.heap.size,k,none⟩).isSome=true:=by
      rw[jH.cell k,Array.getElem?_eq_getElem (by rw[qcz c k hk];exact hlt)];rfl
   obtain⟨u,hu⟩:=Option.isSome_iff_exists.1 hcell;have hf:=jH.frozen k;clear jH hBk hcell;go_wp2_with fail;go_roundw;case rel=>exact⟨k+1,by omega,by go_num,by rw[← qf5 c k hlt];exact vU.out.qu k _,HB.out.setCell (Nat.le_refl _) _⟩
   case measure=>simp[intOf];omega
  ·have q24:k=32:=by omega
   clear jH hBk hk hlt;subst q24;have hP:=vU.out;rw[qc1]at hP;have HP:=QH hP;clear hP;have hcv:=aj (rep c 32) w.heap.size 32 5 wr (qc0 _ _) HP.out;go_wp2_with fail;go_ret;exact⟨rfl,HB.out⟩
def PtL (w:World)(A:Option Addr)(zs:List (Int × UInt8)):Prop :=
 ∀i (h:i<zs.length),∃b o,A=some ⟨b,o,none⟩∧b<w.heap.size∧w.cell? ⟨b,o+i*2,none⟩=some (.int .i64 zs[i].1)∧w.cell? ⟨b,o+i*2+1,none⟩=some (.int .u8 (zs[i].2.toNat:Int))∧zJ zs[i].1
theorem PtL.below{w w':World}{A:Option Addr}{x:List (Int × UInt8)}(h:PtL w A x)(hb:Below w.heap.size w w'):PtL w' A x:=by
 intro i hi;obtain⟨b,o,h1,h2,h3,h4,h5⟩:=h i hi;exact⟨b,o,h1,Nat.lt_of_lt_of_le h2 hb.size,by rw[hb.cell (p:=⟨b,o+i*2,none⟩) h2];exact h3,by rw[hb.cell (p:=⟨b,o+i*2+1,none⟩) h2];exact h4,h5⟩
def ud (zs:List (Int × UInt8)):List (Int × Bt):=(zs.take 5).map fun x=>(x.1,rep x.2 32)
def CG (vo:Value)(bb bo k n c:Nat)(x1:Int)(x2:Nat)(S:ByteArray):Nat→Value→World→Prop
 | 0,v,_=>v=vo
 | 1,v,_=>v=.slice (some ⟨bb,bo,none⟩) n c
 | 2,v,_=>v=.int .i64 (k:Int)
 | 3,v,_=>v=.pointer (some ⟨bb,bo+k*2,none⟩)
 | 4,v,_=>v=.pointer (some ⟨bb,bo+k*2,none⟩)
 | 5,v,_=>v=.int .i64 x1
 | 6,v,_=>v=.slice (some ⟨bb,bo,none⟩) n c
 | 7,v,_=>v=.int .i64 (k:Int)
 | 8,v,_=>v=.pointer (some ⟨bb,bo+k*2,none⟩)
 | 9,v,_=>v=.pointer (some ⟨bb,bo+k*2+1,none⟩)
 | 10,v,_=>v=.int .u8 (x2:Int)
 | 11,v,_=>v=.string S
 | 12,v,_=>v=.agg #[.int .i64 x1,.string S]
 | 13,v,w=>∃g,v=.slice (some ⟨g,0,none⟩) 1 1∧qh w g 122 #[.int .i64 x1,.string S]
 | _,_,_=>True
theorem qoC(vo:Value)(bb bo k n c:Nat)(x1:Int)(x2:Nat)(S:ByteArray)(i:Nat)(v:Value)(w w':World)(hi:i<14)(h:CG vo bb bo k n c x1 x2 S i v w)(hb:Below w.heap.size w w'):CG vo bb bo k n c x1 x2 S i v w':=by
 match i,hi,h with
 | 0,_,h | 1,_,h | 2,_,h | 3,_,h | 4,_,h | 5,_,h | 6,_,h | 7,_,h | 8,_,h | 9,_,h | 10,_,h | 11,_,h | 12,_,h=>exact h
 | 13,_,⟨g,h1,h2⟩=>exact⟨g,h1,h2.below hb⟩
def qxG (zs:List (Int × UInt8))(w:World)(v i:Value)(wr:World):Prop :=
 ∃k:Nat,k≤zs.length∧k≤5∧i=.int .i64 (k:Int)∧xy wr w.heap.size v (ud (zs.take k))∧Below w.heap.size w wr
theorem qhG(zs:List (Int × UInt8))(k:Nat)(h:k<zs.length)(h5:k<5):ud (zs.take (k+1))=ud (zs.take k)++[(zs[k].1,rep zs[k].2 32)]:=by
 unfold ud;rw[List.take_take,List.take_take,Nat.min_eq_right (by omega),Nat.min_eq_right (by omega),List.take_succ_eq_append_getElem h,List.map_append];rfl
theorem ql5(zs:List (Int × UInt8))(k:Nat)(h:k≤zs.length)(h5:k≤5):(ud (zs.take k)).length=k:=by
 unfold ud;rw[List.take_take,List.length_map,List.length_take];omega
theorem qhH(zs:List (Int × UInt8))(k:Nat)(h:k≤zs.length)(h5:k≤5)(he:¬ (k<zs.length∧k<5)):ud (zs.take k)=ud zs:=by
 unfold ud;rw[List.take_take]
 congr 1
 by_cases h:k=zs.length
 ·subst h;rw[← List.take_take,List.take_length]
 ·have:k=5:=by omega
  subst this;rw[Nat.min_self]
theorem qbV{zs:List (Int × UInt8)}(h:∀x∈zs,zJ x.1):∀x∈ud zs,zJ x.1:=by
 intro x hx;obtain⟨y,hy,rfl⟩:=List.mem_map.1 hx;exact h y (List.mem_of_mem_take hy)
theorem xQ (A:Option Addr)(cp:Nat)(zs:List (Int × UInt8))(w:World)(hT:PtL w A zs)(hl:zs.length≤9223372036854775807) :
    Calls prog 24 #[.slice A zs.length cp] w (qw3 (ud zs) w):=by
 obtain⟨i0,hi,hz0,hz1,hz2⟩:=info_parts jY;have HT:=QH hT;have HZB:Hid (∀x∈zs,zJ x.1):=fun x hx=>by
  obtain⟨i,hi,rfl⟩:=List.getElem_of_mem hx;obtain⟨_,_,_,_,_,_,h⟩:=hT i hi;exact h
 clear hT;go_enter func24,ntmps24;go_wp2_with fail;go_loopw [3,4] (fun v i wr=>qxG zs w v i wr) (fun _ i _=>6-(intOf i).toNat);case atStart=>exact⟨0,Nat.zero_le _,Nat.zero_le _,rfl,World.ownsRow_nil _ _ _ _,Below.refl _ _⟩
 case round =>
  obtain⟨k,hk,hk5,rfl,ho,hB⟩:=hrel;have HO:=QH ho;have HB:=QH hB;clear ho hB;by_cases hgo:k<zs.length∧k<5
  ·obtain⟨hlt,q25⟩:=hgo;obtain⟨bb,bo,rfl,hbb,c0,c1,cb⟩:=HT.out k hlt;have uh:=QH (qhG zs k hlt q25);have dH:=QH (ql5 zs k hk hk5);obtain⟨A5,c5,hv5,_⟩:=HO.out.view (fun y hy=>qbV (zs:=zs.take k) (fun z hz=>HZB.out z (List.mem_of_mem_take hz)) y hy);rw[dH.out]at hv5;subst hv5;have q0:wr.cell? ⟨bb,bo+k*2,none⟩=some (.int .i64 zs[k].1):=by rw[HB.out.cell (p:=⟨bb,bo+k*2,none⟩) hbb];exact c0
   have q1:wr.cell? ⟨bb,bo+k*2+1,none⟩=some (.int .u8 (zs[k].2.toNat:Int)):=by rw[HB.out.cell (p:=⟨bb,bo+k*2+1,none⟩) hbb];exact c1
   have iy:bb<wr.heap.size:=Nat.lt_of_lt_of_le hbb HB.out.size;have qbn:(k:Int)<(zs.length:Int):=by omega
   have zco:(k:Int)<5:=by omega
   clear c0 c1 cb;generalize zs[k]=x at *;have Q0:=QH q0;have Q1:=QH q1;clear q0 q1;have hcz:=x.2.toNat_lt;obtain⟨S,hS⟩:=QE (str (rep x.2 32));have HD:=QH (fun W=>gW x.2 W);have HS:=QH hS;clear hS;go_wp2_with fail;refine zR (by kernel_rfl) 14 [15,16,17,18,19,20,21,22,23,24,25,26,27,28] (by kernel_rfl) (CG (.slice A5 k c5) bb bo k zs.length cp x.1 x.2.toNat S) (qoC _ _ _ _ _ _ _ _ _) ?_ ?_
   ·intro i o vs ρ W hi ho hρ hfn hb hG;have t3:ρ (.tmp 3)=.slice A5 k c5:=hρ.out 3 rfl;have t0:ρ (.tmp 0)=.slice (some ⟨bb,bo,none⟩) zs.length cp:=hρ.out 0 rfl;have t4:ρ (.tmp 4)=.int .i64 (k:Int):=hρ.out 4 rfl;have s1:=hρ.at_ 16 1 rfl;have s2:=hρ.at_ 17 2 rfl;have s3:=hρ.at_ 18 3 rfl;have s4:=hρ.at_ 19 4 rfl;have s5:=hρ.at_ 20 5 rfl;have s6:=hρ.at_ 21 6 rfl;have s7:=hρ.at_ 22 7 rfl;have s8:=hρ.at_ 23 8 rfl;have s9:=hρ.at_ 24 9 rfl;have s10:=hρ.at_ 25 10 rfl;have s11:=hρ.at_ 26 11 rfl;have s12:=hρ.at_ 27 12 rfl;have hc:=hρ.const;have q0:W.cell? ⟨bb,bo+k*2,none⟩=some (.int .i64 x.1):=by rw[hb.cell (p:=⟨bb,bo+k*2,none⟩) iy];exact Q0.out
    have q1:W.cell? ⟨bb,bo+k*2+1,none⟩=some (.int .u8 (x.2.toNat:Int)):=by rw[hb.cell (p:=⟨bb,bo+k*2+1,none⟩) iy];exact Q1.out
    rcases i with _|_|_|_|_|_|_|_|_|_|_|_|_|_|i;all_goals (first|omega|skip)
    all_goals simp only[QA,QB,QC,Option.some.injEq]at ho
    all_goals subst ho
    ·exact qa (w':=W) (by unfold execOp;simp only[t3];go_simp) ⟨Below.refl _ _,rfl⟩
    ·exact qa (w':=W) (by unfold execOp;simp only[t0];go_simp) ⟨Below.refl _ _,rfl⟩
    ·exact qa (w':=W) (by unfold execOp;simp only[t4];go_simp) ⟨Below.refl _ _,rfl⟩
    ·have g1:vs 1=_:=hG 1 (by kernel_rfl);have g2:vs 2=_:=hG 2 (by kernel_rfl);exact qa (w':=W) (by unfold execOp;simp only[s1,g1,s2,g2];go_simp) ⟨Below.refl _ _,rfl⟩
    ·have g3:vs 3=_:=hG 3 (by kernel_rfl);exact qa (w':=W) (by unfold execOp;simp only[s3,g3];go_simp) ⟨Below.refl _ _,rfl⟩
    ·have g4:vs 4=_:=hG 4 (by kernel_rfl);exact qa (w':=W) (by unfold execOp;simp only[s4,g4];go_simp) ⟨Below.refl _ _,rfl⟩
    ·exact qa (w':=W) (by unfold execOp;simp only[t0];go_simp) ⟨Below.refl _ _,rfl⟩
    ·exact qa (w':=W) (by unfold execOp;simp only[t4];go_simp) ⟨Below.refl _ _,rfl⟩
    ·have g6:vs 6=_:=hG 6 (by kernel_rfl);have g7:vs 7=_:=hG 7 (by kernel_rfl);exact qa (w':=W) (by unfold execOp;simp only[s6,g6,s7,g7];go_simp) ⟨Below.refl _ _,rfl⟩
    ·have g8:vs 8=_:=hG 8 (by kernel_rfl);exact qa (w':=W) (by unfold execOp;simp only[s8,g8];go_simp) ⟨Below.refl _ _,rfl⟩
    ·have g9:vs 9=_:=hG 9 (by kernel_rfl);exact qa (w':=W) (by unfold execOp;simp only[s9,g9];go_simp) ⟨Below.refl _ _,rfl⟩
    ·have g10:vs 10=_:=hG 10 (by kernel_rfl);refine qi (f:=14) (args:=#[.int .u8 (x.2.toNat:Int)]) (w':=W) (by unfold execOp;simp only[hc,hfn,s10,g10];go_simp) ((HD.out W).mono ?_);rintro e W' ⟨rfl,hb'⟩;exact⟨_,rfl,hb',by rw[HS.out];rfl⟩
    ·have g5:vs 5=_:=hG 5 (by kernel_rfl);have g11:vs 11=_:=hG 11 (by kernel_rfl);exact qa (w':=W) (by unfold execOp;simp only[s5,g5,s11,g11];go_simp) ⟨Below.refl _ _,rfl⟩
    ·have g12:vs 12=_:=hG 12 (by kernel_rfl);refine qa (w':=W.alloc (.cells #[.int .i64 x.1,.string S] 122)) (v:=.slice (some ⟨W.heap.size,0,none⟩) 1 1) (by unfold execOp;simp only[s12,g12];go_simp) ⟨(Below.refl _ W).alloc (Nat.le_refl _) _,W.heap.size,rfl,qh.new _ _ _⟩
   ·intro vs W hb hG;have g0:vs 0=_:=hG 0 (by decide);obtain⟨g,g13,jH⟩:=hG 13 (by decide);have B2:=QH (qc HB.out hb);have wk:Hid (W.ownsRow w.heap.size 122 2 (.slice A5 k c5) k (xj (ud (zs.take k)))):=by
     have ho:=HO.out;unfold xy at ho;rw[dH.out]at ho;refine⟨ho.1,?_⟩;rcases ho.2 with h2|⟨g',cap,cur,h1,h2,h3,h4⟩
     ·exact .inl h2
     ·exact .inr ⟨g',cap,cur,h1,h2,(hb.block g' (Array.getElem?_eq_some_iff.1 h3).1).trans h3,h4⟩
    have eJ:Hid (∀(j:Nat) (u:Value),([.int .i64 x.1,.string S]:List Value)[j]?=some u→W.cell? ((⟨g,0,none⟩:Addr).add j)=some u):=by
     intro j u hj
     match j,hj with
     | 0,hj =>
      simp at hj;subst hj;rw[addr_add];exact jH.cell 0
     | 1,hj =>
      simp at hj;subst hj;rw[addr_add];exact jH.cell 1
    simp only[qZ,qM,if_true];rw[g0,g13];generalize vs 1=y1;generalize vs 2=y2;generalize vs 3=y3;generalize vs 4=y4;generalize vs 5=y5;generalize vs 6=y6;generalize vs 7=y7;generalize vs 8=y8;generalize vs 9=y9;generalize vs 10=y10;generalize vs 11=y11;generalize vs 12=y12;clear hG g0 g13 jH;simp only[Act.put,List.setIfInBounds_toArray,List.set_cons_succ,List.set_cons_zero];refine qY (i:=14) (by kernel_rfl) rfl rfl ?_;have q27:∀u∈([Value.int .i64 x.1,.string S]:List Value),u.oneCell'=true:=by
     rw[← HS.out];exact sW (x.1,rep x.2 32)
    refine wp_append_own W (.tmp 15) (.tmp 28) 39 rfl w.heap.size 122 i0 (.agg #[.int .i64 0,.string ByteArray.empty]) 2 24 underlying39 hi hz0 hz1 hz2 rfl (by decide) _ k _ rfl wk.out ⟨g,0,none⟩ 1 1 [.int .i64 x.1,.string S] rfl rfl eJ.out q27 (by unfold maxLen;omega) (by omega) B2.out.size ?_;intro v' w1 hown hgrow _;have zG:=QH (B2.out.grown hgrow B2.out.size (fun j hj=>(wk.out.lt j hj).1));have HOS:Hid (xy w1 w.heap.size v' (ud (zs.take (k+1)))):=by
     unfold Hid;rw[uh.out];refine xy.snoc (x:=(x.1,rep x.2 32)) ?_;rw[dH.out,HS.out];exact hown
    obtain⟨A6,c6,hv6,_⟩:=HOS.out.view (fun y hy=>qbV (zs:=zs.take (k+1)) (fun z hz=>HZB.out z (List.mem_of_mem_take hz)) y hy);clear hown hgrow hb;subst hv6;go_simp;refine qY (i:=15) (by kernel_rfl) rfl rfl ?_;go_simp;refine⟨by kernel_rfl,?_⟩;go_wp2_with fail;go_roundw;case rel=>exact⟨k+1,by omega,by omega,by go_num,HOS.out,zG.out⟩
    case measure=>simp[intOf];omega
  ·have HE:=QH (qhH zs k hk hk5 hgo);by_cases nM:(k:Int)<(zs.length:Int)
   ·have zQ:¬ ((k:Int)<5):=by omega
    go_wp2_with fail;go_ret;exact⟨_,rfl,by rw[← HE.out];exact HO.out,HB.out⟩
   ·go_wp2_with fail;go_ret;exact⟨_,rfl,by rw[← HE.out];exact HO.out,HB.out⟩
theorem qF (e c:Nat)(w:World):Calls prog 40 #[.int .u64 (e:Int),.int .u64 (c:Int)] w fun x w'=>x=.returned (gv (e,c))∧Below w.heap.size w w':=by
 go_enter func40,ntmps40;go_wp2_with fail;have q0:(w.alloc (.cells #[.int .u64 (e:Int),.int .u64 (c:Int)] 38)).cell? ⟨w.heap.size,0,none⟩=some (.int .u64 (e:Int)):=(qh.new w _ _).cell 0;have q1:(w.alloc (.cells #[.int .u64 (e:Int),.int .u64 (c:Int)] 38)).cell? ⟨w.heap.size,1,none⟩=some (.int .u64 (c:Int)):=(qh.new w _ _).cell 1;refine bodyPost_ret (v:=gv (e,c)) (by simp[results,results40,go_sem,q0,q1,gv]) rfl ?_;exact⟨rfl,(Below.refl w.heap.size w).alloc (Nat.le_refl _) _⟩
end Go.Proofs.YtdpbdkacngaemaaGreatDoor.rv
namespace Go.Proofs.YtdpbdkacngaemaaGreatDoor.st
open _root_.Go.Proofs.Tryz Go Go.RowKit Go.Sort ib wi mt
open ch (kX xy xj jY)
end Go.Proofs.YtdpbdkacngaemaaGreatDoor.st
namespace Go.Proofs
open _root_.Go.Proofs.Tryz Go.Shelf
def Tryz.tM:Go.Shelf.Ren:=⟨fun | 316=>275|n=>n,fun | 9=>9 | 3=>3 | 4=>4 | 37=>64 | 0=>0 | 127=>330 | 5=>5|n=>n,fun|n=>n⟩
theorem Tryz.ql6:Go.Proofs.LaysM.n316 prog Tryz.tM:={
 mixed:=by kernel_rfl
 f316:=func275.trans (congrArg some (by kernel_rfl))
 t0:=underlying0
 a0:=isAgg0
 z0:=sizeOf0
 v0:=zeroValue0
 t3:=underlying3
 a3:=isAgg3
 z3:=sizeOf3
 v3:=zeroValue3
 t4:=underlying4
 a4:=isAgg4
 z4:=sizeOf4
 v4:=zeroValue4
 t9:=underlying9
 a9:=isAgg9
 z9:=sizeOf9
 v9:=zeroValue9
 t37:=underlying64
 a37:=isAgg64
 z37:=sizeOf64
 v37:=zeroValue64
 t127:=underlying330
 a127:=isAgg330
 z127:=sizeOf330
 v127:=zeroValue330
 t5:=underlying5
 a5:=isAgg5
 z5:=sizeOf5
 v5:=zeroValue5
 i0:=by kernel_rfl
 i3:=by kernel_rfl
 i4:=by kernel_rfl
 i5:=by kernel_rfl
 i9:=by kernel_rfl
 i37:=by kernel_rfl
 i127:=by kernel_rfl }
open Go.RowKit in
theorem Tryz.stringslite_Clone(s:ByteArray)(w:World)(q28:s.size≤281474976710656) :
    Calls prog 275 #[.string s] w fun e w'=>e=.returned (.string s)∧Below w.heap.size w w':=Any.stringslite_Clone Tryz.ql6 s w q28
end Go.Proofs
namespace Go.Proofs.YtdpbdkacngaemaaGreatDoor.st
open _root_.Go.Proofs.Tryz Go Go.RowKit Go.Sort ib wi mt
open ch (kX xy xj jY)
theorem q29(z:Int)(S:ByteArray):∀u∈([Value.int .i64 z,.string S]:List Value),u.oneCell'=true:=by
 intro u hu;simp only[List.mem_cons,List.not_mem_nil,or_false]at hu;rcases hu with rfl|rfl <;> rfl
theorem ql7{W:World}{g:Nat}{t:TypeId}{u v:Value}(h:qh W g t #[u,v]):∀(j:Nat) (x:Value),([u,v]:List Value)[j]?=some x→W.cell? ((⟨g,0,none⟩:Addr).add j)=some x:=by
 intro j x hj
 match j,hj with
 | 0,hj =>
  simp only[List.getElem?_cons_zero,Option.some.injEq]at hj;subst hj;rw[addr_add];exact h.cell 0
 | 1,hj =>
  simp only[List.getElem?_cons_succ,List.getElem?_cons_zero,Option.some.injEq]at hj;subst hj;rw[addr_add];exact h.cell 1
theorem qhI{w1:World}{B:Nat}{v':Value}{l:List Ch}{x:Ch}(h:w1.ownsRow B 122 2 v' (l.length+1) (xj l++[.int .i64 x.1,.string (str x.2)])):xy w1 B v' (l++[x]):=Go.Proofs.YtdpbdkacngaemaaGreatDoor.ch.xy.snoc h
theorem eR (S:ByteArray)(w:World)(h:S.size≤1000000):Calls prog 238 #[.string S] w (oI S w):=by
 have HC:=QH (Tryz.stringslite_Clone S w (by omega));go_enter func238,ntmps238;go_wp2_with fail;refine HC.out.mono ?_;rintro e W1 ⟨rfl,hb⟩;have HB:=QH hb;clear hb;go_wp2_with fail;go_ret;exact⟨rfl,HB.out⟩
def OwG (A5:Option Addr)(k c5 gx:Nat)(x1:Int)(S:ByteArray):Nat→Value→World→Prop
 | 0,v,_=>v=.slice A5 k c5
 | 1,v,_=>v=.pointer (some ⟨gx,0,none⟩)
 | 2,v,_=>v=.int .i64 x1
 | 3,v,_=>v=.pointer (some ⟨gx,1,none⟩)
 | 4,v,_=>v=.string S
 | 5,v,_=>v=.string S
 | 6,v,_=>v=.agg #[.int .i64 x1,.string S]
 | 7,v,W=>∃g,v=.slice (some ⟨g,0,none⟩) 1 1∧qh W g 122 #[.int .i64 x1,.string S]
 | _,_,_=>True
theorem ql8(A5:Option Addr)(k c5 gx:Nat)(x1:Int)(S:ByteArray)(i:Nat)(v:Value)(w w':World)(hi:i<8)(h:OwG A5 k c5 gx x1 S i v w)(hb:Below w.heap.size w w'):OwG A5 k c5 gx x1 S i v w':=by
 match i,hi,h with
 | 0,_,h | 1,_,h | 2,_,h | 3,_,h | 4,_,h | 5,_,h | 6,_,h=>exact h
 | 7,_,⟨g,h1,h2⟩=>exact⟨g,h1,h2.below hb⟩
 | j+8,hi,_=>exact absurd hi (by omega)
def qxH (l:List Ch)(w:World)(v i:Value)(wr:World):Prop :=
 ∃k:Nat,k≤l.length∧i=.int .i64 (k:Int)∧xy wr w.heap.size v (l.take k)∧Below w.heap.size w wr
def qsL (l:List Ch)(w:World)(e:Ending)(w':World):Prop:=∃v,e=.returned v∧xy w' w.heap.size v l∧Below w.heap.size w w'
theorem qoD(A:Option Addr)(cp:Nat)(l:List Ch)(w:World)(h:kX w A l)(hl:l.length≤1000)(ht:∀c∈l,c.2.length≤1000000) :
    Calls prog 163 #[.slice A l.length cp] w (qsL l w):=by
 obtain⟨i0,hi,hz0,hz1,hz2⟩:=info_parts jY;have HC:=QH h;have HT:=QH ht;clear h ht;obtain⟨len,hlen⟩:=QE l.length;have tW:=QH hlen;rw[hlen]at hl ⊢;clear hlen;go_enter func163,ntmps163;go_wp2_with fail;go_loopw [3,5,8] (fun v _ i wr=>qxH l w v i wr) (fun _ _ i _=>len-(intOf i).toNat);case atStart=>exact⟨0,Nat.zero_le _,rfl,World.ownsRow_nil _ _ _ _,Below.refl _ _⟩
 case round =>
  obtain⟨k,hk,rfl,ho,hB⟩:=hrel;have HO:=QH ho;have HB:=QH hB;rw[tW.out]at hk;clear ho hB;obtain⟨A5,c5,rfl⟩:=yq HO.out;have dH:Hid ((l.take k).length=k):=by unfold Hid;rw[List.length_take,tW.out];omega
  rw[dH.out]at HO ⊢;by_cases hlt:k<len
  ·have ja:(k:Int)<(len:Int):=by omega
   have nM:k<l.length:=by rw[tW.out];exact hlt
   obtain⟨bb,bo,rfl,hbb,c0,c1,cb⟩:=HC.out k nM;have uh:Hid (l.take (k+1)=l.take k++[l[k]]):=List.take_succ_eq_append_getElem nM;have hth:=HT.out _ (List.getElem_mem nM);obtain⟨x,hx⟩:=QE (l[k]);rw[hx]at c0 c1 cb uh hth;have e0:wr.cell? ⟨bb,bo+k*2,none⟩=some (.int .i64 x.1):=by rw[HB.out.cell (p:=⟨bb,bo+k*2,none⟩) hbb];exact c0
   have e1:wr.cell? ⟨bb,bo+k*2+1,none⟩=some (.string (str x.2)):=by rw[HB.out.cell (p:=⟨bb,bo+k*2+1,none⟩) hbb];exact c1
   have lb:bb<wr.heap.size:=Nat.lt_of_lt_of_le hbb HB.out.size;have yK:Hid (∀W,Calls prog 238 #[.string (str x.2)] W (oI (str x.2) W)):=fun W=>eR _ W (by rw[qO];exact hth);obtain⟨x1,hx1⟩:=QE x.1;obtain⟨S,hS⟩:=QE (str x.2);rw[hx1]at e0;rw[hS]at e1 yK;have HX1:=QH hx1;have HS:=QH hS;clear hx c0 c1 cb hth hx1 hS;obtain⟨W1,hW1⟩:=QE (wr.alloc (.cells #[.int .i64 x1,.string S] 122));have hb1:Below wr.heap.size wr W1:=by rw[← hW1];exact(Below.refl _ wr).alloc (Nat.le_refl _) _
   have HX:Hid (qh W1 wr.heap.size 122 #[.int .i64 x1,.string S]):=by rw[← hW1];exact qh.new _ _ _
   have qU:=QH (qc HB.out hb1);have HO1:Hid (xy W1 w.heap.size (.slice A5 k c5) (l.take k)):=zK HO.out (fun j hj=>hb1.block j (HO.out.lt j hj).2);clear hb1 HO;go_upto_region 5 with fail;try rw[hW1]
   clear hW1 e0 e1;obtain⟨gx,hgx⟩:=QE wr.heap.size;rw[hgx]at HX;try rw[hgx]
   clear hgx;refine zR (by kernel_rfl) 8 [12,13,14,15,16,17,18,19] (by kernel_rfl) (OwG A5 k c5 gx x1 S) (ql8 _ _ _ _ _ _ ) ?_ ?_
   ·intro i o vs ρ W hi ho hρ hfn hb hG;have hc:=hρ.const;have hx:=HX.out.below hb;have x0:=hx.cell 0;have x1':=hx.cell 1;have fG:=hx.lt;simp only[QA,QB,QC]at x0 x1';rcases i with _|_|_|_|_|_|_|_|i;all_goals (first|omega|skip)
    all_goals simp only[QA,QB,QC,Option.some.injEq]at ho
    all_goals subst ho
    ·have o3:ρ (.tmp 3)=.slice A5 k c5:=hρ.out 3 rfl;exact qa (w':=W) (by unfold execOp;simp only[o3,hc];go_simp) ⟨Below.refl _ _,rfl⟩
    ·have o5:ρ (.tmp 5)=.pointer (some ⟨gx,0,none⟩):=hρ.out 5 rfl;exact qa (w':=W) (by unfold execOp;simp only[o5,hc];go_simp) ⟨Below.refl _ _,rfl⟩
    ·have g13:vs 1=.pointer (some ⟨gx,0,none⟩):=hG 1 (by kernel_rfl);have s13:=(hρ.at_ 13 1 rfl).trans g13;exact qa (w':=W) (by unfold execOp;simp only[s13,hc];go_simp) ⟨Below.refl _ _,rfl⟩
    ·have o5:ρ (.tmp 5)=.pointer (some ⟨gx,0,none⟩):=hρ.out 5 rfl;exact qa (w':=W) (by unfold execOp;simp only[o5,hc];go_simp) ⟨Below.refl _ _,rfl⟩
    ·have g15:vs 3=.pointer (some ⟨gx,1,none⟩):=hG 3 (by kernel_rfl);have s15:=(hρ.at_ 15 3 rfl).trans g15;exact qa (w':=W) (by unfold execOp;simp only[s15,hc];go_simp) ⟨Below.refl _ _,rfl⟩
    ·have g16:vs 4=.string S:=hG 4 (by kernel_rfl);have s16:=(hρ.at_ 16 4 rfl).trans g16;refine qi (f:=238) (args:=#[.string S]) (w':=W) (by unfold execOp;simp only[hfn,s16];go_simp) ((yK.out W).mono ?_);rintro e W' ⟨rfl,hb'⟩;exact⟨_,rfl,hb',rfl⟩
    ·have g14:vs 2=.int .i64 x1:=hG 2 (by kernel_rfl);have s14:=(hρ.at_ 14 2 rfl).trans g14;have g17:vs 5=.string S:=hG 5 (by kernel_rfl);have s17:=(hρ.at_ 17 5 rfl).trans g17;exact qa (w':=W) (by unfold execOp;simp only[s14,s17,hc];go_simp) ⟨Below.refl _ _,rfl⟩
    ·have g18:vs 6=.agg #[.int .i64 x1,.string S]:=hG 6 (by kernel_rfl);have s18:=(hρ.at_ 18 6 rfl).trans g18;exact qa (w':=W.alloc (.cells #[.int .i64 x1,.string S] 122)) (v:=.slice (some ⟨W.heap.size,0,none⟩) 1 1) (by unfold execOp;simp only[s18];go_simp) ⟨(Below.refl _ W).alloc (Nat.le_refl _) _,W.heap.size,rfl,qh.new _ _ _⟩
   ·intro vs W hb hG;have g0:vs 0=.slice A5 k c5:=hG 0 (by decide);obtain⟨g,g7,jH⟩:=hG 7 (by decide);have B2:=QH (qc qU.out hb);have wk:Hid (W.ownsRow w.heap.size 122 2 (.slice A5 k c5) k (xj (l.take k))):=by
     have ho:=HO1.out;unfold xy at ho;rw[dH.out]at ho;exact zK ho (fun j hj=>hb.block j (ho.lt j hj).2)
    have eJ:=QH (ql7 jH);simp only[qZ,qM,if_true];rw[g0,g7];generalize vs 1=y1;generalize vs 2=y2;generalize vs 3=y3;generalize vs 4=y4;generalize vs 5=y5;generalize vs 6=y6;clear hG g0 g7 jH;simp only[Act.put,List.setIfInBounds_toArray,List.set_cons_succ,List.set_cons_zero];refine qY (i:=8) (by kernel_rfl) rfl rfl ?_;refine wp_append_own W (.tmp 12) (.tmp 19) 39 rfl w.heap.size 122 i0 (.agg #[.int .i64 0,.string ByteArray.empty]) 2 24 underlying39 hi hz0 hz1 hz2 rfl (by decide) _ k _ rfl wk.out ⟨g,0,none⟩ 1 1 [.int .i64 x1,.string S] rfl rfl eJ.out (q29 _ _) (by unfold maxLen;omega) (by omega) B2.out.size ?_;intro v' w1 hown hgrow _;have zG:=QH (B2.out.grown hgrow B2.out.size (fun j hj=>(wk.out.lt j hj).1));have HOS:Hid (xy w1 w.heap.size v' (l.take (k+1))):=by
     unfold Hid;rw[uh.out];refine qhI ?_;rw[dH.out,HX1.out,HS.out];exact hown
    clear hown hgrow hb;go_simp;refine qY (i:=9) (by kernel_rfl) rfl rfl ?_;go_simp;refine⟨by kernel_rfl,?_⟩;go_wp2_with fail;go_roundw;case rel=>exact⟨k+1,by rw[tW.out];omega,by go_num,HOS.out,zG.out⟩
    case measure=>simp[intOf];omega
  ·have ja:¬ (k:Int)<(len:Int):=by omega
   have HE:Hid (l.take k=l):=List.take_of_length_le (by rw[tW.out];omega);go_wp2_with fail;go_ret;exact⟨_,rfl,by rw[← HE.out];exact HO.out,HB.out⟩
def pC (g t:Gd)(fr all:Int)(v:Value):Array Value:=#[.int .u64 (g.1:Int),.int .u64 (g.2:Int),.int .u64 (t.1:Int),.int .u64 (t.2:Int),.int .i64 fr,.int .i64 all,v]
def pZ:Array Value:=#[.int .u64 0,.int .u64 0,.int .u64 0,.int .u64 0,.int .i64 0,.int .i64 0,.slice none 0 0]
def aq:Value:=.slice none 0 0
theorem af:pZ=pC (0,0) (0,0) 0 0 aq:=rfl
def wq (W:World)(b:Nat)(g t:Gd)(fr all:Int)(v:Value):World :=
 ((((((W.setCell ⟨b,0,none⟩ (.int .u64 (g.1:Int))).setCell ⟨b,1,none⟩ (.int .u64 (g.2:Int))).setCell ⟨b,2,none⟩ (.int .u64 (t.1:Int))).setCell ⟨b,3,none⟩ (.int .u64 (t.2:Int))).setCell ⟨b,4,none⟩ (.int .i64 fr)).setCell ⟨b,5,none⟩ (.int .i64 all)).setCell ⟨b,6,none⟩ v
theorem vA {W:World}{b:Nat}{g t g' t':Gd}{fr all pV q2C:Int}{v v':Value}(h:qh W b 41 (pC g' t' pV q2C v')):qh (wq W b g t fr all v) b 41 (pC g t fr all v):=by
 have h9:=((((((h.qu 0 (.int .u64 (g.1:Int))).qu 1 (.int .u64 (g.2:Int))).qu 2 (.int .u64 (t.1:Int))).qu 3 (.int .u64 (t.2:Int))).qu 4 (.int .i64 fr)).qu 5 (.int .i64 all)).qu 6 v;simp only[pC,List.setIfInBounds_toArray,List.set_cons_succ,List.set_cons_zero]at h9;exact h9
theorem jO {w W:World}{B b:Nat}{g t:Gd}{fr all:Int}{v:Value}(h:Below B w W)(hg:B≤b):Below B w (wq W b g t fr all v) :=
 ((((((h.setCell (p:=⟨b,0,none⟩) hg _).setCell (p:=⟨b,1,none⟩) hg _).setCell (p:=⟨b,2,none⟩) hg _).setCell (p:=⟨b,3,none⟩) hg _).setCell (p:=⟨b,4,none⟩) hg _).setCell (p:=⟨b,5,none⟩) hg _).setCell (p:=⟨b,6,none⟩) hg v
theorem rh (W:World)(b:Nat)(g t:Gd)(fr all:Int)(v:Value)(k:Nat)(h:k≠b):(wq W b g t fr all v).heap[k]?=W.heap[k]? :=by
 unfold wq;rw[qw _ _ _ _ _ h,qw _ _ _ _ _ h,qw _ _ _ _ _ h,qw _ _ _ _ _ h,qw _ _ _ _ _ h,qw _ _ _ _ _ h,qw _ _ _ _ _ h]
theorem nH (W:World)(b:Nat)(g t:Gd)(fr all:Int)(v:Value):(wq W b g t fr all v).heap.size=W.heap.size:=by
 unfold wq;simp only[World.size_setCell]
theorem qoE{W:World}{b:Nat}{g t:Gd}{fr all:Int}{v:Value}(h:qh W b 41 (pC g t fr all v)):(loadVar 41 ⟨b,0,none⟩).run prog W=.ok (.agg (pC g t fr all v)) W :=
 run_loadVar_row W b 41 41 _ (0,0) _ h underlying41 rfl (by kernel_rfl)
theorem jB {fn:Func}{p q:Tmp}{ty:TypeId}(h:fn.results = #[.cell p ty,.tmp q])(tmps:Array Value)(P:Program)(w:World)(a:Addr)(v1 v2:Value)
    (hp:tmps.getD p undef=.pointer (some a)) (hq:tmps.getD q undef=v2) (h1:(loadVar ty a).run P w=.ok v1 w):(results fn tmps).run P w=.ok (.tuple #[v1,v2]) w:=by
 simp only[results,h];simp only[Array.getD_eq_getD_getElem?]at hp hq;simp[Sem.run_bind,Result.andThen,asAddr,hp,hq,h1]
end Go.Proofs.YtdpbdkacngaemaaGreatDoor.st

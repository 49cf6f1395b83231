/- PgApi, PgHide, PgSnap, PgRoll, PgAdd, PgEq, PgChg, PgRead, PgChgs, PgLst, ChProg, VtProg, CLaid, VtLaid. -/
import Derived.Test.YtdpbdkacngaemaaGreatDoorZF9
import Derived.Stop.BytesEq
import Derived.Test.YtdpbdkacngaemaaGreatDoorRows
import Derived.Deep.DeepHandedRow
import Derived.Lib.LaidTab
import Derived.Deep.DeepLaidRun
import Derived.Stop.LaidErr
import GoSem.PinnedTables
set_option linter.unusedVariables false
set_option linter.unusedSimpArgs false
set_option maxHeartbeats 30000000
set_option maxRecDepth 100000
namespace Go.Proofs.YtdpbdkacngaemaaGreatDoor.ch.pg
open _root_.Go.Proofs.Tryz Go Go.RowKit Go.Sort ib
theorem qdZ{own:Nat→Prop}{w w':World}{p:Nat}{d:CH}{r:Int}{e:Ending}(h:Is0 own w p d)(hb:Below w.heap.size w w')(he:e=.returned (.int .i64 r)):Aft Is0 own p (d,r) w e w'∧qz (fun j=>j=p) w w':=by
 obtain⟨h0,v,h1⟩:=h;exact⟨⟨he,own,⟨h0,v,h1.below hb⟩,qz.of_below hb,fun j hj=>.inl hj⟩,qz.of_below hb⟩
theorem qgT(n:Nat)(h8:n≤8):zi n (uM n) (.slice none 0 0)=zi n [] (.slice none 0 0):=by
 unfold zi;rw[qic n h8]
theorem qea{ρ:Operand→Value}{o:Oper}{w:World}(x:Operand)(n:Nat)(ho:o.op=.build 172 #[(0,x)])(hx:ρ x=.int .i64 (n:Int)) :
    (execOp ρ o).run prog w=.ok (.value (.agg (zi n [] (.slice none 0 0)).toArray)) w:=by
 obtain⟨i0,hi,hz0,_,_⟩:=info_parts qsk;have hz:∀w,(zeroValue 172).run prog w=.ok (.agg (zi 0 [] (.slice none 0 0)).toArray) w:=fun w=>by simp[zeroValue,typeInfo,hi,hz0]
 have hb:(Instr.build 172 #[(0,.int .i64 (n:Int))]).run prog w=.ok (.agg (zi n [] (.slice none 0 0)).toArray) w:=by
  have e:(zi n [] (.slice none 0 0)).toArray=(zi 0 [] (.slice none 0 0)).toArray.set! 0 (.int .i64 (n:Int)):=rfl;rw[e];have hne:(zi 0 [] (.slice none 0 0)).toArray ≠ #[]:=by simp[zi]
  generalize (zi 0 [] (.slice none 0 0)).toArray=z0 at *;simp[Instr.build,hz,Result.andThen,go_sem,Value.cells];rw[if_neg hne];rfl
 simp[execOp,ho,hx,hb,Result.andThen]
theorem qgU(n:Nat)(l:List Bt)(v:Value)(hv:v.oneCell'=true):∀u∈zi n l v,u.oneCell'=true:=by
 intro u hu;unfold zi at hu;simp only[List.mem_cons,List.mem_append,List.not_mem_nil,or_false]at hu;rcases hu with rfl|hu|rfl
 ·rfl
 ·exact qg4 l u hu
 ·exact hv
def q1D (n:Nat)(w:World)(e:Ending)(w':World):Prop:=∃p own,e=.returned (.pointer (some ⟨p,0,none⟩))∧Is0 own w' p (bJ n)∧Below w.heap.size w w'∧∀j,own j→w.heap.size≤j
theorem wk (n:Nat)(w:World)(h1:1≤n)(h8:n≤8):Calls prog 91 #[.int .i64 (n:Int)] w (q1D n w):=by
 have hi1:¬ (n:Int)<1:=by omega
 have hi8:¬ (8:Int)<(n:Int):=by omega
 have HC:=QH (qgU n [] (.slice none 0 0) rfl);have HL:Hid ((zi n [] (.slice none 0 0)).length=258):=pX (n:=0) ⟨rfl,fun v hv=>by simp at hv⟩ (by omega);have HE:=QH (qgT n h8);obtain⟨C,hC⟩:=QE (zi n [] (.slice none 0 0));have HCC:=QH hC;rw[hC]at HC HL HE;clear hC;go_enter func91,ntmps91;go_wp2_with (first|(refine qi rfl (qea _ n rfl rfl) ?_;rw[HCC.out])|(refine qi rfl (fA 172 (.tmp 10) C.toArray rfl rfl (by rw[qsj,List.size_toArray,HL.out]) (kr HC.out)) ?_));go_ret;refine⟨w.heap.size,fun j=>j=w.heap.size,rfl,⟨?_,.slice none 0 0,?_,?_,rfl,(fun k hk=>by cases hk),fun k hk=>by rw[hk];simp⟩,(Below.refl w.heap.size w).alloc (Nat.le_refl _) _,fun j hj=>by omega⟩
 ·have hl:(bJ n).live.length=n:=by simp[bJ,uM]
  exact⟨by rw[hl];exact qbh n,by rw[hl];exact h1,by rw[hl];exact h8,fun s hs=>by simp[bJ]at hs,by simp[bJ],fun s hs=>by simp[bJ]at hs⟩
 ·have hl:(bJ n).live.length=n:=by simp[bJ,uM]
  show qf _ _ _ (zi (bJ n).live.length (uM n) (.slice none 0 0)).toArray;rw[hl,HE.out];exact qf.new _ _ _
 ·exact⟨none,0,rfl,Nat.le_refl _,by unfold maxLen;omega,.inl ⟨rfl,rfl,rfl⟩⟩
theorem qgV{own:Nat→Prop}{w:World}{p:Nat}{d:CH}(k:Int)(s:Bt)(h:Is0 own w p d):Calls prog 164 #[.pointer (some ⟨p,0,none⟩),.int .i64 k,.string (str s)] w fun e w'=>Aft Is0 own p (d.write k s) w e w'∧qz (fun j=>j=p) w w':=by
 have HIS:=QH h;obtain⟨h0,v,hr⟩:=h;have HT:=QH (lh hr.c0 k s);by_cases hg:0≤k∧k<(d.live.length:Int)∧s.length=32
 ·rw[decide_eq_true hg]at HT;obtain⟨m,rfl⟩:∃m:Nat,k=(m:Int):=⟨k.toNat,by omega⟩;have hm:m<d.live.length:=by omega
  have hw:d.write (m:Int) s=(⟨d.live.set m s,d.qc⟩,0):=by
   unfold CH.write;rw[if_neg (by omega)];rfl
  rw[hw];have HR:=QH hr;have gP:=QH h0;have HHM:=QH hm;have HS:=QH hg.2.2;have HN8:=QH h0.n8;clear hg hw hr h0 hm;go_enter func164,ntmps164;go_wp2_with fail;refine HT.out.mono ?_;rintro e W1 ⟨rfl,hb1⟩;have qO:=QH hb1;have uq:=QH (HR.out.below hb1);clear hb1 HT;go_wp2_with fail;refine(qsl uq.out.blk (o:=1) (by rw[List.size_toArray,pX gP.out.live gP.out.n8];omega) m (by have:=HHM.out;have:=HN8.out;omega) s HS.out).mono ?_;rintro e W2 ⟨rfl,hW2⟩;have HW2:=QH hW2;clear hW2;go_wp2_with fail;go_ret;have mF:=qdA (m:=d.live.length) (v:=v) gP.out.live gP.out.n8 m s HHM.out;have hb:=uq.out.blk;have hbu:=po W1 p (zi d.live.length (d.live.set m s) v).toArray;have hk2:=pk (c:=(zi d.live.length (d.live.set m s) v).toArray) hb;have e2:W2=W1.setRow p (zi d.live.length (d.live.set m s) v).toArray:=by
   rw[HW2.out,← mF]
  rw[← e2]at hbu hk2;have hl:(d.live.set m s).length=d.live.length:=List.length_set;have j9:qz (fun j=>j=p) w W2:=(qz.of_below (S:=fun j=>j=p) qO.out).trans hbu (fun _ h=>.inl h);refine⟨⟨rfl,own,⟨?_,v,?_,?_,uq.out.op,uq.out.om,fun j hj=>Nat.lt_of_lt_of_le (uq.out.low j hj) hbu.size⟩,j9.mono (fun j hj=>by rw[hj];exact HR.out.op),fun j hj=>.inl hj⟩,j9⟩
  ·have h0:=gP.out;have hvo:qT d.live.length (d.live.set m s):=qnp h0.live HS.out;exact⟨by rw[hl];exact hvo,by rw[hl];exact h0.n1,by rw[hl];exact h0.n8,by intro x hx;rw[hl];exact h0.qc x hx,h0.few,h0.tx⟩
  ·show qf W2 p _ (zi (d.live.set m s).length (d.live.set m s) v).toArray;rw[hl];exact hk2
  ·exact uq.out.row.of_block (fun j hj=>hbu.block j (uq.out.row.lt j hj) (uq.out.vp j hj))
 ·rw[decide_eq_false hg]at HT;have hw:d.write k s=(d,2):=by
   unfold CH.write;rw[if_pos (by omega)]
  rw[hw];clear hg hw hr h0;go_enter func164,ntmps164;go_wp2_with fail;refine HT.out.mono ?_;rintro e W1 ⟨rfl,hb1⟩;have qO:=QH hb1;clear hb1 HT;go_wp2_with fail;go_ret;exact qdZ HIS.out qO.out rfl
theorem qat:∀(l:List Sn) (i:Nat),i<l.length→(∀s∈l,(sc s).length=259)→(dt l).set (i*259+258) (.bool true)=dt (kW l i)
 | x::l,0,_,h=>by
  have hx:=h x (by simp);have hv:(vc x.bs).length=256:=by
   unfold sc at hx;simpa using hx
  show(sc x++dt l).set (0*259+258) (.bool true)=sc { x with hid:=true }++dt l;rw[List.set_append_left _ _ (by omega)]
  congr 1
  unfold sc;rw[List.set_append_right _ _ (by omega),hv];rfl
 | x::l,i+1,hi,h=>by
  have ih:=qat l i (by simpa using hi) (fun s hs=>h s (by simp[hs]));have hx:=h x (by simp);have e:kW (x::l) (i+1)=x::kW l i:=by simp[kW]
  rw[e];show(sc x++dt l).set ((i+1)*259+258) (.bool true)=sc x++dt (kW l i);rw[List.set_append_right _ _ (by omega),hx,show(i+1)*259+258-259=i*259+258 by omega,ih]
theorem uW.qno{w:World}{own:Nat→Prop}{p g c:Nat}{cur:Array Value}{d:CH}(h:uW w own p (.slice (some ⟨g,0,none⟩) d.qc.length c) d)(ho:d.ok)(hb:qf w g 174 cur)(ht:cur.toList.take (d.qc.length*259)=dt d.qc)(i:Nat)(hi:i<d.qc.length) :
    uW (w.setCell ⟨g,i*259+258,none⟩ (.bool true)) own p (.slice (some ⟨g,0,none⟩) d.qc.length c) ⟨d.live,kW d.qc i⟩:=by
 have hgp:=h.vp g rfl;obtain⟨A',c',e,h1,h2,_⟩:=h.row;simp only[Value.slice.injEq,true_and]at e;obtain⟨rfl,rfl⟩:=e;have rU:(kW d.qc i).length=d.qc.length:=by unfold kW;rw[List.length_modify]
 refine⟨h.blk.of_block (qw _ _ _ _ _ hgp.symm),?_,h.op,h.om,fun j hj=>?_⟩
 ·refine⟨some ⟨g,0,none⟩,c,by rw[rU],by rw[rU];exact h1,h2,.inr ⟨g,_,rfl,hb.qg (i*259+258) (.bool true),?_⟩⟩;show(cur.setIfInBounds _ _).toList.take ((kW d.qc i).length*259)=dt (kW d.qc i);rw[rU,Array.toList_setIfInBounds,List.take_set,ht];exact qat d.qc i hi (fun s hs=>kZ (ho.qc s hs) ho.n8)
 ·have:=h.low j hj;simpa[World.setCell]using this
theorem qgW{n:Nat}(l:List Bt)(g:Gd)(hl:qT n l)(h8:n≤8)(w:World) :
    (Instr.build 174 #[(0,.agg (vc l).toArray),(1,.agg #[.int .u64 (g.1:Int),.int .u64 (g.2:Int)])]).run prog w=.ok (.agg (sc ⟨g,l,false⟩).toArray) w:=by
 obtain⟨i0,hi,hz0,_,_⟩:=info_parts nu;have hz:(zeroValue 174).run prog w=.ok (.agg (sc z0).toArray) w:=by simp[zeroValue,typeInfo,hi,hz0]
 have hzl:(sc z0).length=259:=kZ (n:=0) ⟨rfl,fun v hv=>by simp[z0]at hv⟩ (by omega);have hzd:(sc z0).drop 256=[.int .u64 0,.int .u64 0,.bool false]:=by
  have h:=ya (n:=0) (l:=z0.bs) ⟨rfl,fun v hv=>by simp[z0]at hv⟩ (by omega);unfold sc;rw[List.drop_left' h];rfl
 have hvl:=ya hl h8;have s1:=ny (t:=169) aX w;have s2:=ny (t:=38) qpe w;have s3:=ny (t:=4) (n:=1) (by kernel_rfl) w;have hf:∀place:Nat→Option (Nat × Nat),place 0=some (0,256)→place 1=some (256,2)→Instr.fill place (sc z0).toArray [(0,.agg (vc l).toArray),(1,.agg #[.int .u64 (g.1:Int),.int .u64 (g.2:Int)])]=some (sc ⟨g,l,false⟩).toArray:=by
  intro place h0 h1;rw[iX _ _ 0 0 256 _ _ h0 (by simp[hvl]) (by simp[hzl])];have e1:((sc z0).toArray.toList.take 0++(vc l).toArray.toList++(sc z0).toArray.toList.drop (0+256))=vc l++[.int .u64 0,.int .u64 0,.bool false]:=by
   simp[hzd]
  rw[e1,iX _ _ 1 256 2 _ _ h1 rfl (by simp[hvl])];simp only[Instr.fill]
  congr 1
  apply Array.ext';show(vc l++[Value.int .u64 0,.int .u64 0,.bool false]).take 256++[Value.int .u64 (g.1:Int),.int .u64 (g.2:Int)]++(vc l++[Value.int .u64 0,.int .u64 0,.bool false]).drop 258=sc ⟨g,l,false⟩;rw[List.take_left' hvl,show 258=(vc l).length+2 by rw[hvl],List.drop_append];unfold sc;simp
 generalize (vc l).toArray=V at *;generalize (sc ⟨g,l,false⟩).toArray=R at *;generalize (sc z0).toArray=Z at *;clear hzd hzl hvl hi hz0;simp only[Instr.build,Sem.run_bind,hz,Result.andThen_ok,Value.cells,run_underlying underlying174]
 have hm:∀(K:Array (Nat × Nat)→World→Result Value),K #[(0,256),(256,2),(258,1)] w=.ok (.agg R) w→((Array.mapM
         (fun f:Field=>do
          let z ← sizeOf f.type
          pure (f.offset,z))
         #[{ name := "volume",type:=169,offset:=0,embedded:=true,tag := "",pkgPath := "stemma/chain",byteOffset:=0 },
          { name := "guid",type:=38,offset:=256,embedded:=false,tag := "",pkgPath := "stemma/chain",byteOffset:=256 },
          { name := "hidden",type:=4,offset:=258,embedded:=false,tag := "",pkgPath := "stemma/chain",byteOffset:=272 }]).run prog w).andThen K=.ok (.agg R) w:=by
  intro K hK;simp only[List.mapM_toArray,List.mapM_cons,List.mapM_nil,Sem.run_bind,s1,s2,s3,Result.andThen_ok,Sem.run_pure,Functor.map,Sem.run_map];exact hK
 refine hm _ ?_;rw[hf _ rfl rfl];rfl
theorem qeb{ρ:Operand→Value}{o:Oper}{w:World}{n:Nat}(x y:Operand)(l:List Bt)(g:Gd)(y1 y2:Int)(h1:(g.1:Int)=y1)(h2:(g.2:Int)=y2)(ho:o.op=.build 174 #[(0,x),(1,y)])(hx:ρ x=.agg (vc l).toArray)(hy:ρ y=.agg #[.int .u64 y1,.int .u64 y2])(hl:qT n l)(h8:n≤8) :
    (execOp ρ o).run prog w=.ok (.value (.agg (sc ⟨g,l,false⟩).toArray)) w:=by
 subst h1;subst h2;have hb:=qgW l g hl h8 w;simp[execOp,ho,hx,hy,hb,Result.andThen]
def SpG (p:Nat)(V S:List Value)(y1 y2:Int):Nat→Value→World→Prop
 | 0,v,_=>v=.pointer (some ⟨p,0,none⟩)
 | 1,v,_=>v=.pointer (some ⟨p,0,none⟩)
 | 2,v,_=>v=.pointer (some ⟨p,0,none⟩)
 | 3,v,_=>v=.pointer (some ⟨p,1,none⟩)
 | 4,v,_=>v=.agg V.toArray
 | 5,v,_=>v=.agg #[.int .u64 y1,.int .u64 y2]
 | 6,v,_=>v=.agg S.toArray
 | _,_,_=>True
theorem qpl(p:Nat)(V S:List Value)(y1 y2:Int)(i:Nat)(v:Value)(w w':World)(hi:i<7)(h:SpG p V S y1 y2 i v w)(_:Below w.heap.size w w'):SpG p V S y1 y2 i v w':=by
 match i,hi,h with
 | 0,_,h | 1,_,h | 2,_,h | 3,_,h | 4,_,h | 5,_,h | 6,_,h=>exact h
theorem qkB{own:Nat→Prop}{w:World}{p:Nat}{d:CH}(h:Is0 own w p d)(g:Gd)(hg:xB g):Calls prog 93 #[.pointer (some ⟨p,0,none⟩),gv g] w fun e w'=>Aft Is0 own p (d.snap g) w e w'∧qz (fun j=>j=p) w w':=by
 have hb0:=(Below.refl w.heap.size w).alloc (Nat.le_refl _) (.cells #[.int .u64 (g.1:Int),.int .u64 (g.2:Int)] 38);have HIS:=QH h;obtain⟨h0,v,hr⟩:=h;have hr1:=hr.below hb0;have jt:=QH hb0;have fZ:=QH hr1;have gP:=QH h0;have HG:=QH hg;have HM:=QH (qs8 (⟨h0,v,hr1⟩:Is0 own _ p d) g);obtain⟨y1,hy1⟩:=QE (g.1:Int);obtain⟨y2,hy2⟩:=QE (g.2:Int);have HY1:=QH hy1;have HY2:=QH hy2;unfold gv at HM ⊢;rw[hy1,hy2]at HM jt fZ ⊢;clear hb0 hg hy1 hy2 hr1 hr h0;have xP:Hid (d.snap g=if d.may g=0 then(⟨d.live,d.qc++[⟨g,d.live,false⟩]⟩,0)else(d,d.may g)):=rfl;have HMZ:=QH (fun h=>qnq (c:=d) (g:=g) h);obtain⟨m,hm⟩:=QE (d.may g);rw[hm]at HM xP HMZ;clear hm;obtain⟨W0,hW0⟩:=QE (w.alloc (.cells #[.int .u64 y1,.int .u64 y2] 38));rw[hW0]at HM fZ jt;have q0:W0.cell? ⟨w.heap.size,0,none⟩=some (.int .u64 y1):=by rw[← hW0];exact(qf.new w _ _).cell 0
 have q1:W0.cell? ⟨w.heap.size,1,none⟩=some (.int .u64 y2):=by rw[← hW0];exact(qf.new w _ _).cell 1
 have HS0:Hid (w.heap.size<W0.heap.size):=by unfold Hid;rw[← hW0];simp
 have Q0:=QH q0;have Q1:=QH q1;go_enter func93,ntmps93;go_wp2_with fail;clear hW0;refine HM.out.mono ?_;rintro e W1 ⟨rfl,hb1⟩;have qO:=QH (jt.out.trans (hb1.mono jt.out.size));have uq:=QH (fZ.out.below hb1);have R0:Hid (W1.cell? ⟨w.heap.size,0,none⟩=some (.int .u64 y1)):=(hb1.cell (p:=⟨w.heap.size,0,none⟩) HS0.out).trans Q0.out;have R1:Hid (W1.cell? ⟨w.heap.size,1,none⟩=some (.int .u64 y2)):=(hb1.cell (p:=⟨w.heap.size,1,none⟩) HS0.out).trans Q1.out;have bY:Hid (w.heap.size<W1.heap.size):=Nat.lt_of_lt_of_le HS0.out hb1.size;clear hb1 HM fZ jt q0 q1 Q0 Q1 HS0;by_cases hz:m=0
 ·subst hz;have hsn:=xP.out;rw[if_pos rfl]at hsn;have HSD:=QH hsn;obtain⟨_,qgS⟩:=HMZ.out rfl;have qsA:=QH qgS;clear hsn xP HMZ qgS;have HVL:Hid ((vc d.live).length=256):=ya gP.out.live gP.out.n8;have HVC:Hid (∀j u,(vc d.live)[j]?=some u→(zi d.live.length d.live v).toArray[1+j]?=some u):=fun j u hu=>by simpa using qkk (m:=d.live.length) (v:=v) j u hu
  go_wp2_with fail;refine qQ (by kernel_rfl) 7 [12,13,14,15,16,17,18] (by kernel_rfl) (SpG p (vc d.live) (sc ⟨g,d.live,false⟩) y1 y2) (qpl _ _ _ _ _) ?_ ?_
  ·intro i o vs ρ W hi hop hρ hfn hb hG;have t0:ρ (.tmp 0)=.pointer (some ⟨p,0,none⟩):=hρ.out 0 rfl;have t3:ρ (.tmp 3)=.pointer (some ⟨w.heap.size,0,none⟩):=hρ.out 3 rfl;have tD:=hρ.at_ 13 1 rfl;have s14:=hρ.at_ 14 2 rfl;have s15:=hρ.at_ 15 3 rfl;have s16:=hρ.at_ 16 4 rfl;have s17:=hρ.at_ 17 5 rfl;have r0:W.cell? ⟨w.heap.size,0,none⟩=some (.int .u64 y1):=(hb.cell (p:=⟨w.heap.size,0,none⟩) bY.out).trans R0.out;have r1:W.cell? ⟨w.heap.size,1,none⟩=some (.int .u64 y2):=(hb.cell (p:=⟨w.heap.size,1,none⟩) bY.out).trans R1.out;rcases i with _|_|_|_|_|_|_|i;all_goals (first|omega|skip)
   all_goals simp only[QA,QB,QC,Option.some.injEq]at hop
   all_goals subst hop
   ·exact q9 (w':=W) (by unfold execOp;simp only[t0];go_simp) ⟨Below.refl _ _,rfl⟩
   ·exact q9 (w':=W) (by unfold execOp;simp only[t0];go_simp) ⟨Below.refl _ _,rfl⟩
   ·have g1:vs 1=_:=hG 1 (by kernel_rfl);exact q9 (w':=W) (by unfold execOp;simp only[tD,g1];go_simp) ⟨Below.refl _ _,rfl⟩
   ·have g2:vs 2=_:=hG 2 (by kernel_rfl);exact q9 (w':=W) (by unfold execOp;simp only[s14,g2];go_simp) ⟨Below.refl _ _,rfl⟩
   ·have g3:vs 3=_:=hG 3 (by kernel_rfl);exact q9 (w':=W) (qU 169 (.tmp 15) rfl p 1 (s15.trans g3) _ _ (vc d.live) _ _ (uq.out.below hb).blk underlying169 rfl (by rw[aX,HVL.out]) HVC.out) ⟨Below.refl _ _,rfl⟩
   ·exact q9 (w':=W) (by unfold execOp;simp only[t3];go_simp) ⟨Below.refl _ _,rfl⟩
   ·have g4:vs 4=_:=hG 4 (by kernel_rfl);have g5:vs 5=_:=hG 5 (by kernel_rfl);exact q9 (w':=W) (qeb (.tmp 16) (.tmp 17) d.live g y1 y2 HY1.out HY2.out rfl (s16.trans g4) (s17.trans g5) gP.out.live gP.out.n8) ⟨Below.refl _ _,rfl⟩
  ·intro vs W hb hG;have g0:vs 0=_:=hG 0 (by decide);have g6:vs 6=_:=hG 6 (by decide);simp only[qR,qG,if_true];rw[g0,g6];generalize vs 1=z1;generalize vs 2=z2;generalize vs 3=z3;generalize vs 4=z4;generalize vs 5=z5;have B2:=QH (qO.out.trans (hb.mono qO.out.size));have jM:=QH (uq.out.below hb);clear hG g0 g6 hb;simp only[Act.put,List.setIfInBounds_toArray,List.set_cons_succ,List.set_cons_zero];have bq:=QH (kz jM.out gP.out qsA.out ⟨g,d.live,false⟩ gP.out.live);obtain⟨S,hS⟩:=QE (sc ⟨g,d.live,false⟩);rw[hS]at bq ⊢;clear hS;refine qJ (i:=7) (by kernel_rfl) rfl rfl ?_;go_simp;refine bq.out.mono ?_;rintro e W3 ⟨rfl,v',yI,hp3,q1F,hgr⟩;have HP3:=QH hp3;have cM:=QH ((qz.of_below (S:=fun j=>j=p) B2.out).trans q1F (fun _ h=>.inl h));have HGR:Hid (∀j,yI j→own j∨w.heap.size≤j):=fun j hj=>by
    rcases hgr j hj with h|h
    ·exact .inl h
    ·have:=B2.out.size;exact .inr (by omega)
   clear hp3 q1F hgr bq;go_simp;refine⟨by kernel_rfl,?_⟩;go_wp2_with fail;go_ret;rw[HSD.out];exact⟨⟨rfl,yI,⟨qpg gP.out _ qsA.out gP.out.live HG.out,v',HP3.out⟩,cM.out.mono (fun j hj=>by rw[hj];exact uq.out.op),HGR.out⟩,cM.out⟩
 ·have hc:(m == 0)=false:=beq_false_of_ne hz;have hcn:(m != 0)=true:=by simpa using hz
  have hsn:=xP.out;rw[if_neg hz]at hsn;have HSD:=QH hsn;clear hsn xP HMZ uq;go_wp2_with fail;go_ret;rw[HSD.out];exact qdZ HIS.out qO.out rfl
def AdG (p:Nat)(v0:Value)(S V N:List Value)(y1 y2:Int)(B:Nat):Nat→Value→World→Prop
 | 0,v,_=>v=.pointer (some ⟨p,0,none⟩)
 | 1,v,_=>v=.pointer (some ⟨p,0,none⟩)
 | 2,v,_=>v=.pointer (some ⟨p,257,none⟩)
 | 3,v,_=>v=v0
 | 4,v,_=>v=.agg S.toArray
 | 5,v,_=>v=.agg V.toArray
 | 6,v,_=>v=.agg #[.int .u64 y1,.int .u64 y2]
 | 7,v,_=>v=.agg N.toArray
 | 8,v,w=>∃g Z,v=.pointer (some ⟨g,0,none⟩)∧B≤g∧qf w g 174 Z∧Z.size=259
 | _,_,_=>True
theorem qdm(p:Nat)(v0:Value)(S V N:List Value)(y1 y2:Int)(B:Nat)(i:Nat)(v:Value)(w w':World)(hi:i<9)(h:AdG p v0 S V N y1 y2 B i v w)(hb:Below w.heap.size w w'):AdG p v0 S V N y1 y2 B i v w':=by
 match i,hi,h with
 | 0,_,h | 1,_,h | 2,_,h | 3,_,h | 4,_,h | 5,_,h | 6,_,h | 7,_,h=>exact h
 | 8,_,⟨g,Z,h1,h2,h3,h4⟩=>exact⟨g,Z,h1,h2,h3.below hb,h4⟩
end Go.Proofs.YtdpbdkacngaemaaGreatDoor.ch.pg
namespace Go.Proofs.YtdpbdkacngaemaaGreatDoor.ch.pg
open _root_.Go.Proofs.Tryz Go Go.RowKit ib
theorem qsB(w:World):(sizeOf 5).run prog w=.ok 1 w:=by
 obtain⟨i0,hi,hz0,hz1,hz2⟩:=info_parts Tryz.nI;simp[sizeOf,typeInfo,hi,hz1]
theorem qpm(d:Nat)(x y:Bt)(hx:x.length=32)(hy:y.length=32)(w:World) :
    (Op.equalIn (d+2) 145 (.agg (Lib.byteCells x).toArray) (.agg (Lib.byteCells y).toArray)).run prog w=.ok (decide (x=y)) w:=by
 have h:=run_equalIn_bytes (P:=prog) w d 145 5 32 underlying145 underlying5 qsB x y hx hy;have e:decide (x=y)=(x == y):=by rw[Bool.eq_iff_iff];simp
 rw[e];exact h
theorem qec(ps:List Bt)(h:∀v∈ps,(Lib.byteCells v).length=32)(k:Nat)(hk:k<ps.length)(w:World) :
    (part 145 (ps.flatMap Lib.byteCells).toArray (k*32)).run prog w=.ok (.agg (Lib.byteCells ps[k]).toArray) w:=by
 have ha:(isAgg 145).run prog w=.ok true w:=by
  unfold isAgg;rw[Sem.run_bind,run_underlying underlying145 w];rfl
 have hz:(sizeOf 145).run prog w=.ok 32 w:=by
  cases hq:prog.info? 145 with
  | none=>have:=vB;simp[hq]at this
  | some i =>
   have:=vB;simp[hq]at this;simp[sizeOf,typeInfo,hq,this]
 have he:((ps.flatMap Lib.byteCells).toArray.extract (k*32) (k*32+32))=(Lib.byteCells ps[k]).toArray:=by
  apply Array.ext';rw[Array.toList_extract];rw[List.extract_eq_take_drop,show k*32+32-k*32=32 by omega];rw[qbF ps k h,List.drop_eq_getElem_cons hk,List.flatMap_cons,List.take_left' (h _ (List.getElem_mem hk))]
 simp only[part,Sem.run_bind,ha,Result.andThen_ok,if_true,hz,Sem.run_pure,he]
theorem qau(d:Nat)(ps qs:List Bt)(hp:∀v∈ps,v.length=32)(hq:∀v∈qs,v.length=32)(w:World):∀is:List Nat,(∀i∈is,i<ps.length∧i<qs.length) →
    (Op.eqItems (d+2) 145 32 (ps.flatMap Lib.byteCells).toArray (qs.flatMap Lib.byteCells).toArray is).run prog w=.ok (is.all fun i=>decide (ps[i]?=qs[i]?)) w
 | [],_=>by simp[Op.eqItems]
 | i::is,h=>by
  obtain⟨h1,h2⟩:=h i (by simp);have ih:=qau d ps qs hp hq w is (fun j hj=>h j (by simp[hj]));have p1:=qec ps (fun v hv=>by rw[Lib.byteCells_length,hp v hv]) i h1 w;have p2:=qec qs (fun v hv=>by rw[Lib.byteCells_length,hq v hv]) i h2 w;have p3:=qpm d ps[i] qs[i] (hp _ (List.getElem_mem h1)) (hq _ (List.getElem_mem h2)) w;have e:decide (ps[i]?=qs[i]?)=decide (ps[i]=qs[i]):=by
   rw[List.getElem?_eq_getElem h1,List.getElem?_eq_getElem h2];simp
  rw[List.all_cons,e];obtain⟨b,hb⟩:=QE (decide (ps[i]=qs[i]));rw[hb]at p3 ⊢;generalize (is.all fun i=>decide (ps[i]?=qs[i]?))=r at *;generalize ps[i]=x at *;generalize qs[i]=y at *;generalize (ps.flatMap Lib.byteCells).toArray=P at *;generalize (qs.flatMap Lib.byteCells).toArray=Q at *;generalize Lib.byteCells x=X at *;generalize Lib.byteCells y=Y at *;have hu:Op.eqItems (d+2) 145 32 P Q (i::is)=(do
   let a ← part 145 P (i*32)
   let b ← part 145 Q (i*32)
   let r ← Op.equalIn (d+2) 145 a b
   if (!r)=true then pure false else Op.eqItems (d+2) 145 32 P Q is):=rfl
  rw[hu,Sem.run_bind,p1,Result.andThen_ok,Sem.run_bind,p2,Result.andThen_ok,Sem.run_bind,p3,Result.andThen_ok];cases b
  ·rfl
  ·exact ih
theorem qwG{n:Nat}(p q:List Bt)(hp:qT n p)(hq:qT n q)(h8:n≤8)(w:World) :
    (Op.equalIn 10000 169 (.agg (vc p).toArray) (.agg (vc q).toArray)).run prog w=.ok (decide (p=q)) w:=by
 cases hi:prog.info? 145 with
 | none=>have:=vB;simp[hi]at this
 | some i =>
  have hc:prog.cellsOf 145=32:=by
   have:=vB;simp[hi]at this;simp[Program.cellsOf,hi,this]
  rw[show(10000:Nat)=9999+1 from rfl,run_equalIn_array w 9999 _ _ underlying169 hi,hc];unfold vc;rw[show(9999:Nat)=9997+2 from rfl,qau 9997 (pad p) (pad q) (pV hp) (pV hq) w (List.range 8) (fun j hj=>by rw[vA hp h8,vA hq h8];have:=List.mem_range.1 hj;omega)]
  congr 1
  rw[Bool.eq_iff_iff];simp only[List.all_eq_true,List.mem_range,decide_eq_true_eq];constructor
  ·intro h;refine qsi (hp.1.trans hq.1.symm) (List.ext_getElem? fun j=>?_);by_cases hj:j<8
   ·exact h j hj
   ·rw[List.getElem?_eq_none (by rw[vA hp h8];omega),List.getElem?_eq_none (by rw[vA hq h8];omega)]
  ·rintro rfl j _;rfl
theorem qgX{ρ:Operand→Value}{o:Oper}{w:World}{n:Nat}(x y:Operand)(p q:List Bt)(ho:o.op=.binOp .eql 169 x y 169)(hx:ρ x=.agg (vc p).toArray)(hy:ρ y=.agg (vc q).toArray)(hp:qT n p)(hq:qT n q)(h8:n≤8) :
    (execOp ρ o).run prog w=.ok (.value (.bool (decide (p=q)))) w:=by
 have he:=qwG p q hp hq h8 w;have hg:=run_eqGuard_agg (P:=prog) w .eql 169 x y (vc p).toArray (vc q).toArray Tryz.eqGuardType169;have hb:(binOp .eql 169 (.agg (vc p).toArray) (.agg (vc q).toArray)).run prog w=.ok (.bool (decide (p=q))) w:=by
  rw[run_eql_struct,he];rfl
 simp[execOp,ho,hx,hy,hg,hb,Result.andThen]
theorem qgY{ρ:Operand→Value}{o:Oper}{w:World}(x y:Operand)(p q:Bt)(ho:o.op=.binOp .neq 145 x y 145)(hx:ρ x=.agg (Lib.byteCells p).toArray)(hy:ρ y=.agg (Lib.byteCells q).toArray)(hp:p.length=32)(hq:q.length=32) :
    (execOp ρ o).run prog w=.ok (.value (.bool (!decide (p=q)))) w:=by
 have he:=qpm 9998 p q hp hq w;have hg:=run_eqGuard_agg (P:=prog) w .neq 145 x y (Lib.byteCells p).toArray (Lib.byteCells q).toArray Tryz.eqGuardType145;have hb:(binOp .neq 145 (.agg (Lib.byteCells p).toArray) (.agg (Lib.byteCells q).toArray)).run prog w=.ok (.bool (!decide (p=q))) w:=by
  rw[run_neq_struct,he];rfl
 simp[execOp,ho,hx,hy,hg,hb,Result.andThen]
end Go.Proofs.YtdpbdkacngaemaaGreatDoor.ch.pg
namespace Go.Proofs.YtdpbdkacngaemaaGreatDoor.ch.pg
open _root_.Go.Proofs.Tryz Go Go.RowKit Go.Sort ib
theorem qwH:(prog.info? 145).map (fun i=>(i.zero,i.size,i.bytes))=some (some (.agg (Lib.byteCells zz).toArray),32,32):=by kernel_rfl
theorem qed(l:List Bt)(k:Nat)(h:k<l.length):(pad l).getD k []=l.getD k []:=by
 unfold pad;rw[List.getD_eq_getElem?_getD,List.getD_eq_getElem?_getD,List.getElem?_append_left h]
theorem mv {n:Nat}{l:List Bt}(h:qT n l)(k:Nat)(hk:n≤k)(h8:k<8):(pad l).getD k []=zz:=by
 have h2:=h.1;unfold pad;rw[List.getD_eq_getElem?_getD,List.getElem?_append_right (by omega),List.getElem?_replicate,if_pos (by omega)];simp
theorem rA {α β:Type}{f g:α→Option β}:∀ {l:List α},(∀x∈l,f x=g x)→l.filterMap f=l.filterMap g
 | [],_=>rfl
 | x::l,h=>by
  rw[List.filterMap_cons,List.filterMap_cons,h x (by simp),rA (l:=l) fun y hy=>h y (by simp[hy])]
theorem qgZ{p q:List Bt}(k:Nat)(hp:k≤p.length)(hq:k≤q.length):sP (pad p) (pad q) k=sP p q k:=by
 unfold sP;refine rA fun i hi=>?_;have:=List.mem_range.1 hi;rw[qed p i (by omega),qed q i (by omega)]
theorem rB {n:Nat}{p q:List Bt}(hp:qT n p)(hq:qT n q):∀j,n+j≤8→sP (pad p) (pad q) (n+j)=sP p q n
 | 0,_=>qgZ n (by rw[hp.1];omega) (by rw[hq.1];omega)
 | j+1,h=>by
  rw[← Nat.add_assoc,qd8 _ _ _ (by rw[mv hp _ (by omega) (by omega),mv hq _ (by omega) (by omega)]),rB hp hq j (by omega)]
theorem qsC{n:Nat}{p q:List Bt}(hp:qT n p)(hq:qT n q)(h8:n≤8):sP (pad p) (pad q) 8=wC p q:=by
 have:=rB hp hq (8-n) (by omega);rw[show n+(8-n)=8 by omega]at this;rw[this];unfold wC sP;rw[hq.1]
theorem qha(p:List Bt):wC p p=[]:=by
 unfold wC;simp
def GcG (b o k B:Nat)(X:Bt):Nat→Value→World→Prop
 | 0,v,_=>v=.int .i64 (k:Int)
 | 1,v,_=>v=.pointer (some ⟨b,o,none⟩)
 | 2,v,_=>v=.pointer (some ⟨b,o+k*32,none⟩)
 | 3,v,_=>v=.agg (Lib.byteCells X).toArray
 | 4,v,w=>∃g,v=.pointer (some ⟨g,0,none⟩)∧B≤g∧qf w g 145 (Lib.byteCells zz).toArray
 | 5,v,_=>v=.int .i64 (k:Int)
 | _,_,_=>True
theorem qpn(b o k B:Nat)(X:Bt)(i:Nat)(v:Value)(w w':World)(hi:i<6)(h:GcG b o k B X i v w)(hb:Below w.heap.size w w'):GcG b o k B X i v w':=by
 match i,hi,h with
 | 0,_,h | 1,_,h | 2,_,h | 3,_,h | 5,_,h=>exact h
 | 4,_,⟨g,h1,h2,h3⟩=>exact⟨g,h1,h2,h3.below hb⟩
def q1G (P Q:List Bt)(q:List Bt)(w:World)(v i:Value)(wr:World):Prop :=
 ∃k:Nat,k≤8∧i=.int .i64 (k:Int)∧xK wr w.heap.size v (sP P Q k)∧Below w.heap.size w wr∧qf wr w.heap.size 169 (vc q).toArray
def qsD (A:Option Addr)(cc n:Nat):Prop:=n≤cc∧((A=none∧cc=0)∨∃b o,A=some ⟨b,o,none⟩)
theorem xK.qul{w:World}{B:Nat}{v:Value}{l:List (Int × Bt)}(h:xK w B v l)(hz:∀x∈l,kA x.1):∃a c,v=.slice a l.length c∧kR w a l∧(∀b o,a=some ⟨b,o,none⟩→B≤b∧b<w.heap.size)∧qsD a c l.length:=by
 obtain⟨a,c,rfl,h1,h2⟩:=h.qox hz;rcases h.2 with⟨e1,e2⟩|⟨g,cap,cur,e1,e2,e3,e4,e5⟩
 ·simp only[Value.slice.injEq]at e1;obtain⟨rfl,e3,rfl⟩:=e1;exact⟨none,0,rfl,h1,h2,by omega,.inl ⟨rfl,rfl⟩⟩
 ·simp only[Value.slice.injEq]at e1;obtain⟨rfl,e3,rfl⟩:=e1;exact⟨_,_,rfl,h1,h2,e4,.inr ⟨g,0,rfl⟩⟩
def q1H (D:List (Int × Bt))(w:World)(e:Ending)(w':World):Prop:=∃A cc,e=.returned (.slice A D.length cc)∧kR w' A D∧(wa w w' A∧qsD A cc D.length)∧Below w.heap.size w w'
theorem qbO{w:World}{b o n:Nat}{t:TypeId}{cs:Array Value}{p q:List Bt}(h:qf w b t cs)(hc:∀j u,(vc p)[j]?=some u→cs[o+j]?=some u)(hp:qT n p)(hq:qT n q)(h8:n≤8) :
    Calls prog 167 #[.pointer (some ⟨b,o,none⟩),.agg (vc q).toArray] w (q1H (wC q p) w):=by
 obtain⟨i0,hi,hz0,hz1,hz2⟩:=info_parts jQ;obtain⟨i2,hi2,hy0,hy1,hy2⟩:=info_parts qwH;have HB:=QH h;have HC:=QH hc;have HP:=QH hp;have HQ:=QH hq;have bK:Hid (b<w.heap.size):=h.lt;have HVQ:Hid ((vc q).length=256):=ya hq h8;have HVP:Hid ((vc p).length=256):=ya hp h8;have HN:=QH (qf.new w 169 (vc q).toArray);have HI2:=QH hi2;have HY0:=QH hy0;have qO:=QH (h.of_block (Below.heap_alloc w (.cells (vc q).toArray 169) _ h.lt));have HDP:Hid (sP (pad q) (pad p) 8=wC q p):=qsC hq hp h8;have HSM:Hid (p=q→wC q p=[]):=fun e=>by rw[e];exact qha q
 obtain⟨D,hD⟩:=QE (wC q p);rw[hD]at HDP HSM ⊢;clear h hc hp hq hi2 hy0 hy1 hy2 hD;go_enter func167,ntmps167;go_wp2_with (refine qi rfl (fA 169 (.tmp 1) (vc q).toArray rfl rfl (by rw[aX,List.size_toArray,HVQ.out]) (kr (qg4 q))) ?_);refine jK 4 (by kernel_rfl) (by kernel_rfl) ?_;simp only[List.take_succ_cons,List.take_zero,List.drop_succ_cons,List.drop_zero]
 iterate 2 still_step
 refine kI rfl (qU _ _ rfl b o rfl _ cs (vc p) _ _ qO.out underlying169 rfl (by rw[aX,HVP.out]) HC.out) ?_;refine kI rfl (qU _ _ rfl w.heap.size 0 rfl _ _ (vc q) _ _ HN.out underlying169 rfl (by rw[aX,HVQ.out]) (fun j u hu=>by rw[Nat.zero_add];simpa using hu)) ?_;refine wpStill_nil ?_;refine qi rfl (qgX _ _ p q rfl rfl rfl HP.out HQ.out h8) ?_;by_cases hpq:p=q
 ·obtain rfl:=HSM.out hpq;rw[decide_eq_true hpq];clear hpq HDP;go_wp2_with fail;go_ret;exact⟨none,0,rfl,kR.nil _ _,⟨wa.none _ _,Nat.le_refl _,.inl ⟨rfl,rfl⟩⟩,qia ((Below.refl w.heap.size w).alloc (Nat.le_refl _) _) 1⟩
 ·rw[decide_eq_false hpq];have ja:Hid (Below w.heap.size w (w.alloc (.cells (vc q).toArray 169)).drew):=qia ((Below.refl w.heap.size w).alloc (Nat.le_refl _) _) 1;have wI:Hid (qf (w.alloc (.cells (vc q).toArray 169)).drew w.heap.size 169 (vc q).toArray):=HN.out;clear hpq HN qO HSM;generalize (w.alloc (.cells (vc q).toArray 169)).drew=W1 at *;go_wp2_with fail;go_loopw [5,15] (fun v i wr=>q1G (pad q) (pad p) q w v i wr) (fun _ i _=>8-(intOf i).toNat);case atStart=>exact⟨0,Nat.zero_le _,rfl,World.ownsRow_nil _ _ _ _,ja.out,wI.out⟩
  case round =>
   obtain⟨k,hk,rfl,ho,hB,hV⟩:=hrel;have HO:=QH ho;have bG:=QH hB;have HV:=QH hV;clear ho hB hV ja wI;by_cases hlt:k<8
   ·have yt:(k:Int)<8:=by omega
    have hp8:k<(pad p).length:=by rw[vA HP.out h8];exact hlt
    have hq8:k<(pad q).length:=by rw[vA HQ.out h8];exact hlt
    have HX:Hid ((pad p)[k].length=32):=pV HP.out _ (List.getElem_mem hp8);have HY:Hid ((pad q)[k].length=32):=pV HQ.out _ (List.getElem_mem hq8);have HXC:Hid (∀j u,(Lib.byteCells (pad p)[k])[j]?=some u→cs[o+k*32+j]?=some u):=fun j u hu=>by
     rw[Nat.add_assoc];exact HC.out _ _ (qg5 HP.out k hp8 j u hu)
    have HYC:Hid (∀j u,(Lib.byteCells (pad q)[k])[j]?=some u→(vc q).toArray[k*32+j]?=some u):=fun j u hu=>by
     simpa using qg5 HQ.out k hq8 j u hu
    have HXD:Hid ((pad p).getD k []=(pad p)[k]):=by unfold Hid;rw[List.getD_eq_getElem?_getD,List.getElem?_eq_getElem hp8];rfl
    have HYD:Hid ((pad q).getD k []=(pad q)[k]):=by unfold Hid;rw[List.getD_eq_getElem?_getD,List.getElem?_eq_getElem hq8];rfl
    have HDS:=QH (qd8 (pad q) (pad p) k);have HDM:=QH (qoy (pad q) (pad p) k);have HDL:=QH (qsg (pad q) (pad p) k);have HDB:=QH (qhZ (pad q) (pad p) (k+1) (by omega));rw[HXD.out,HYD.out]at HDS HDM;clear HXD HYD;generalize (pad p)[k]=X at *;generalize (pad q)[k]=Y at *;clear hp8 hq8;have HBR:=QH (HB.out.of_block (bG.out.block b bK.out));go_wp2_with fail;refine qQ (by kernel_rfl) 6 [17,18,19,20,7,6] (by kernel_rfl) (GcG b o k wr.heap.size X) (qpn _ _ _ _ _) ?_ ?_
    ·intro i op vs ρ W hi6 hop hρ hfn hb hG;have t13:ρ (.tmp 13)=.pointer (some ⟨b,o,none⟩):=hρ.out 13 rfl;have t15:ρ (.tmp 15)=.int .i64 (k:Int):=hρ.out 15 rfl;have s17:=hρ.at_ 17 0 rfl;have s18:=hρ.at_ 18 1 rfl;have s19:=hρ.at_ 19 2 rfl;rcases i with _|_|_|_|_|_|i;all_goals (first|omega|skip)
     all_goals simp only[QA,QB,QC,Option.some.injEq]at hop
     all_goals subst hop
     ·exact q9 (w':=W) (by unfold execOp;simp only[t15];go_simp) ⟨Below.refl _ _,rfl⟩
     ·exact q9 (w':=W) (by unfold execOp;simp only[t13];go_simp) ⟨Below.refl _ _,rfl⟩
     ·have g1:vs 1=.pointer (some ⟨b,o,none⟩):=hG 1 (by kernel_rfl);exact q9 (w':=W) (by unfold execOp;simp only[s18,g1,t15];go_simp) ⟨Below.refl _ _,rfl⟩
     ·have g2:vs 2=.pointer (some ⟨b,o+k*32,none⟩):=hG 2 (by kernel_rfl);exact q9 (w':=W) (qU 145 (.tmp 19) rfl b (o+k*32) (s19.trans g2) _ cs (Lib.byteCells X) _ _ (HBR.out.below hb) underlying145 rfl (by rw[vB,Lib.byteCells_length,HX.out]) HXC.out) ⟨Below.refl _ _,rfl⟩
     ·exact q9 (gq 145 i2 _ rfl HI2.out HY0.out) ⟨(Below.refl _ W).alloc (Nat.le_refl _) _,W.heap.size,rfl,hb.size,qf.new _ _ _⟩
     ·have g0:vs 0=.int .i64 (k:Int):=hG 0 (by kernel_rfl);exact q9 (w':=W) (by unfold execOp;simp only[s17,g0];go_simp) ⟨Below.refl _ _,rfl⟩
    ·intro vs W hb hG;have g0:vs 0=_:=hG 0 (by decide);have g1:vs 1=_:=hG 1 (by decide);have g2:vs 2=_:=hG 2 (by decide);have g3:vs 3=_:=hG 3 (by decide);obtain⟨gg,g4,bW,zy⟩:=hG 4 (by decide);have g5:vs 5=_:=hG 5 (by decide);simp only[qR,qG,if_true];rw[g0,g1,g2,g3,g4,g5];have qwJ:=QH hb;have kX:=QH zy;have HGB:=QH bW;clear hG g0 g1 g2 g3 g4 g5 hb zy bW;simp only[Act.put,List.setIfInBounds_toArray,List.set_cons_succ,List.set_cons_zero];refine qJ (i:=6) (by kernel_rfl) rfl rfl ?_;refine wp_skip (mN W 145 (.tmp 7) (.tmp 20) rfl gg 0 rfl (Lib.byteCells X) rfl 145 _ kX.out (by rw[vB,Lib.byteCells_length,HX.out]) (by rw[List.size_toArray,Lib.byteCells_length,Lib.byteCells_length,HX.out,ze];omega) (Lib.byteCells_one X)) ?_;have HBX:Hid (qf (W.setRow gg ((Lib.byteCells zz).toArray.toList.take 0++Lib.byteCells X++(Lib.byteCells zz).toArray.toList.drop (0+(Lib.byteCells X).length)).toArray) gg 145 (Lib.byteCells X).toArray):=by
      have h:=pk (c:=((Lib.byteCells zz).toArray.toList.take 0++Lib.byteCells X++(Lib.byteCells zz).toArray.toList.drop (0+(Lib.byteCells X).length)).toArray) kX.out;have e:((Lib.byteCells zz).toArray.toList.take 0++Lib.byteCells X++(Lib.byteCells zz).toArray.toList.drop (0+(Lib.byteCells X).length))=Lib.byteCells X:=by
       rw[List.take_zero,List.nil_append,List.drop_of_length_le,List.append_nil];show(Lib.byteCells zz).length≤_;rw[Lib.byteCells_length,Lib.byteCells_length,HX.out,ze];omega
      rw[e]at h ⊢;exact h
     have HBT:=QH (po W gg ((Lib.byteCells zz).toArray.toList.take 0++Lib.byteCells X++(Lib.byteCells zz).toArray.toList.drop (0+(Lib.byteCells X).length)).toArray);generalize W.setRow gg ((Lib.byteCells zz).toArray.toList.take 0++Lib.byteCells X++(Lib.byteCells zz).toArray.toList.drop (0+(Lib.byteCells X).length)).toArray=W2 at *;have qA:Hid (Below wr.heap.size wr W2):=qwJ.out.trans (HBT.out.below (fun i hi=>by rw[hi];exact HGB.out) qwJ.out.size);have HV2:=QH (HV.out.below qA.out);have vX:=QH (qC (w':=W2) (show World.ownsRow _ _ _ _ _ _ _ from HO.out) (fun j hj=>qA.out.block j (HO.out.lt j hj).2));have HE2:=QH (bG.out.trans (qA.out.mono bG.out.size));clear HBT qwJ kX HV HO bG HBR qA HGB;refine⟨by kernel_rfl,?_⟩;go_wp2_with fail;refine jK 4 (by kernel_rfl) (by kernel_rfl) ?_;simp only[List.take_succ_cons,List.take_zero,List.drop_succ_cons,List.drop_zero];refine kI rfl (qU _ _ rfl gg 0 rfl _ _ (Lib.byteCells X) _ _ HBX.out underlying145 rfl (by rw[vB,Lib.byteCells_length,HX.out]) (fun j u hu=>by rw[Nat.zero_add];simpa using hu)) ?_
     iterate 2 still_step
     refine kI rfl (qU _ _ rfl w.heap.size (k*32) rfl _ _ (Lib.byteCells Y) _ _ HV2.out underlying145 rfl (by rw[vB,Lib.byteCells_length,HY.out]) HYC.out) ?_;refine wpStill_nil ?_;refine qi rfl (qgY _ _ X Y rfl rfl rfl HX.out HY.out) ?_;by_cases hxy:X=Y
     ·rw[decide_eq_true hxy];have HSM:=QH (HDS.out hxy);clear hxy HDM HDS HDL HDB;go_wp2_with fail;go_roundw;case rel=>exact⟨k+1,by omega,by go_num,by rw[HSM.out];exact qC vX.out (fun _ _=>rfl),qia HE2.out 1,HV2.out⟩
      case measure=>simp[intOf];omega
     ·rw[decide_eq_false hxy];have HSM:=QH (HDM.out hxy);clear hxy HDM HDS;have HKX:=QH (HBX.out.lt);have tT:=wO X gg 32 145 W2.drew HX.out HBX.out;obtain⟨S,hS⟩:=QE (str X);have HS:=QH hS;rw[hS]at tT;clear hS;have q6m:=QH (qwg W2.drew 122 (.int .i64 (k:Int)) (.string S));have zv:=QH ((qia HE2.out 1).alloc HE2.out.size (.cells #[.int .i64 (k:Int),.string S] 122));have HO3:=QH (World.ownsRow.alloc (w:=W2.drew) (qC (w':=W2.drew) vX.out (fun _ _=>rfl)) (.cells #[.int .i64 (k:Int),.string S] 122));have HV3:Hid (qf (W2.drew.alloc (.cells #[.int .i64 (k:Int),.string S] 122)) w.heap.size 169 (vc q).toArray):=HV2.out.of_block (Below.heap_alloc W2.drew _ _ HV2.out.lt);have qkC:∀u∈([Value.int .i64 (k:Int),.string S]:List Value),u.oneCell'=true:=by
       intro u hu;simp at hu;rcases hu with rfl|rfl <;> rfl
      have qkj:=QH qkC;clear qkC vX HE2 HV2;go_wp2_with (at_builtin;refine wpList_append_own _ rfl (.tmp 26) (.tmp 31) 39 rfl w.heap.size 122 i0 (.agg #[.int .i64 0,.string ByteArray.empty]) 2 24 underlying39 hi hz0 hz1 hz2 rfl (by decide) _ (sP (pad q) (pad p) k).length _ rfl HO3.out ⟨W2.heap.size,0,none⟩ 1 1 [.int .i64 (k:Int),.string S] rfl rfl q6m.out qkj.out ?_ ?_ zv.out.size ?_)
      ·have:=HDL.out;unfold maxLen;omega
      ·have:=HDL.out;omega
      ·intro v' w1 hown hgrow _;have zx:=QH (zv.out.grown hgrow zv.out.size (fun j hj=>(HO3.out.lt j hj).1));have HV4:=QH (HV3.out.of_block (hgrow.block _ HV3.out.lt (fun e=>eG HO3.out HV3.out (by decide) _ e.symm rfl)));have HOS:Hid (xK w1 w.heap.size v' (sP (pad q) (pad p) (k+1))):=by
        unfold Hid;rw[HSM.out];refine xK.snoc (x:=((k:Int),X)) ?_;dsimp only;rw[HS.out];exact hown
       obtain⟨A6,c6,hv6,_⟩:=HOS.out.qox HDB.out;clear hown hgrow;subst hv6;go_wp2_with fail;go_roundw;case rel=>exact⟨k+1,by omega,by go_num,HOS.out,zx.out,HV4.out⟩
       case measure=>simp[intOf];omega
   ·have yt:¬ (k:Int)<8:=by omega
    obtain rfl:k=8:=by omega
    have ho:=HO.out;rw[HDP.out]at ho;obtain⟨a,cc,rfl,hl,hb⟩:=xK.qul ho (by rw[← HDP.out];exact qhZ _ _ 8 (by omega));have HL:=QH hl;have bH:=QH hb;clear ho hl hb HO;go_wp2_with fail;go_ret;exact⟨a,cc,rfl,HL.out,bH.out,bG.out⟩
def TxV (l:List Bt)(B:Nat)(v:Value)(w:World):Prop:=∃A cc,v=.slice A l.length cc∧TxL w A l∧∀b o,A=some ⟨b,o,none⟩→B≤b∧b<w.heap.size
theorem TxV.below{l:List Bt}{B:Nat}{v:Value}{w w':World}(h:TxV l B v w)(hb:Below w.heap.size w w'):TxV l B v w':=by
 obtain⟨A,cc,h1,h2,h3⟩:=h;exact⟨A,cc,h1,h2.below hb,fun b o e=>⟨(h3 b o e).1,Nat.lt_of_lt_of_le (h3 b o e).2 hb.size⟩⟩
def RdG (p n i g c m:Nat)(l:List Bt)(B:Nat):Nat→Value→World→Prop
 | 0,v,_=>v=.pointer (some ⟨p,0,none⟩)
 | 1,v,_=>v=.pointer (some ⟨p,0,none⟩)
 | 2,v,_=>v=.pointer (some ⟨p,257,none⟩)
 | 3,v,_=>v=.slice (some ⟨g,0,none⟩) m c
 | 4,v,_=>v=.int .i64 (i:Int)
 | 5,v,_=>v=.pointer (some ⟨g,i*259,none⟩)
 | 6,v,_=>v=.pointer (some ⟨g,i*259,none⟩)
 | 7,v,_=>v=.pointer (some ⟨p,0,none⟩)
 | 8,v,_=>v=.pointer (some ⟨p,0,none⟩)
 | 9,v,_=>v=.pointer (some ⟨p,0,none⟩)
 | 10,v,_=>v=.int .i64 (n:Int)
 | 11,v,w=>TxV l B v w
 | 12,v,w=>TxV l B v w
 | 13,v,_=>v=.int .i64 0
 | _,_,_=>True
theorem qpo(p n i0 g c m:Nat)(l:List Bt)(B:Nat)(i:Nat)(v:Value)(w w':World)(hi:i<14)(h:RdG p n i0 g c m l B i v w)(hb:Below w.heap.size w w'):RdG p n i0 g c m l B i v w':=by
 match i,hi,h with
 | 0,_,h | 1,_,h | 2,_,h | 3,_,h | 4,_,h | 5,_,h | 6,_,h | 7,_,h | 8,_,h | 9,_,h | 10,_,h | 13,_,h=>exact h
 | 11,_,h | 12,_,h=>exact TxV.below h hb
theorem rf {own:Nat→Prop}{w:World}{p:Nat}{d:CH}(h:Is0 own w p d)(g:Gd):Calls prog 95 #[.pointer (some ⟨p,0,none⟩),gv g] w (p8 (d.read g) w):=by
 have hb0:=(Below.refl w.heap.size w).alloc (Nat.le_refl _) (.cells #[.int .u64 (g.1:Int),.int .u64 (g.2:Int)] 38);obtain⟨h0,v,hr⟩:=h;have hr1:=hr.below hb0;have HF:=QH (uS (⟨h0,v,hr1⟩:Is0 own _ p d) g);have q0:(w.alloc (.cells #[.int .u64 (g.1:Int),.int .u64 (g.2:Int)] 38)).cell? ⟨w.heap.size,0,none⟩=some (.int .u64 (g.1:Int)):=(qf.new w _ _).cell 0;have q1:(w.alloc (.cells #[.int .u64 (g.1:Int),.int .u64 (g.2:Int)] 38)).cell? ⟨w.heap.size,1,none⟩=some (.int .u64 (g.2:Int)):=(qf.new w _ _).cell 1;have jt:=QH hb0;have fZ:=QH hr1;have gP:=QH h0;have HC:=QH (qdY d g);obtain⟨R,hR⟩:=QE (bP d g);rw[hR]at HF HC;clear hb0 hr1 hr h0 hR;unfold gv at HF ⊢;go_enter func95,ntmps95;go_wp2_with fail;refine HF.out.mono ?_;rintro e W1 ⟨rfl,hb1⟩;have qO:=QH (jt.out.trans (hb1.mono jt.out.size));have uq:=QH (fZ.out.below hb1);clear hb1 HF q0 q1 jt fZ;rcases HC.out with⟨c,hc,rfl,_,bw⟩|⟨i,s,rfl,dP,hs,_,bw⟩
 ·have hcb:(c != 0)=true:=by simpa using hc
  have dv:=QH bw;clear hc bw HC uq gP;go_wp2_with fail;go_ret2;rw[dv.out];exact⟨none,0,rfl,fun i h=>absurd h (by simp),wa.none _ _,qO.out⟩
 ·obtain rfl:d.qc[i]=s:=by
     rw[List.getElem?_eq_getElem dP]at hs;exact Option.some.inj hs
  have dv:=QH bw;have HSO:=QH (gP.out.qc _ (List.getElem_mem dP));obtain⟨A,c,hv,hlc,_,hx⟩:=yZ uq.out.row gP.out.qc gP.out.n8;subst hv;obtain⟨gr,cur,rfl,hb,hc⟩:=hx i dP;have kX:=QH hb;have HVC:Hid (∀j u,(vc d.qc[i].bs)[j]?=some u→cur[i*259+j]?=some u):=fun j u hu=>hc j u (qtT _ j u hu);have hii:(i:Int)<(d.qc.length:Int):=by omega
  generalize d.qc[i].bs=bs at *;have HI:=QH hii;clear hb hc hx hs bw HC dP hii;go_wp2_with fail;refine qQ (by kernel_rfl) 14 [17,18,19,20,21,22,23,24,25,26,27,28,4,5] (by kernel_rfl) (RdG p d.live.length i gr c d.qc.length bs W1.heap.size) (qpo _ _ _ _ _ _ _ _) ?_ ?_
  ·intro j o vs ρ W hi9 hop hρ hfn hb hG;have t0:ρ (.tmp 0)=.pointer (some ⟨p,0,none⟩):=hρ.out 0 rfl;have t6:ρ (.tmp 6)=.int .i64 (i:Int):=hρ.out 6 rfl;have hc:=hρ.const;have s17:=hρ.at_ 17 0 rfl;have s18:=hρ.at_ 18 1 rfl;have s19:=hρ.at_ 19 2 rfl;have s20:=hρ.at_ 20 3 rfl;have s21:=hρ.at_ 21 4 rfl;have s22:=hρ.at_ 22 5 rfl;have s23:=hρ.at_ 23 6 rfl;have s24:=hρ.at_ 24 7 rfl;have s25:=hρ.at_ 25 8 rfl;have s26:=hρ.at_ 26 9 rfl;have s27:=hρ.at_ 27 10 rfl;have s28:=hρ.at_ 28 11 rfl;have jM:=QH (uq.out.below hb);have c0:=jM.out.c0;have c2:=jM.out.c2 gP.out;have hii:=HI.out;rcases j with _|_|_|_|_|_|_|_|_|_|_|_|_|_|j;all_goals (first|omega|skip)
   all_goals simp only[QA,QB,QC,Option.some.injEq]at hop
   all_goals subst hop
   ·exact q9 (w':=W) (by unfold execOp;simp only[t0];go_simp) ⟨Below.refl _ _,rfl⟩
   ·have g0:vs 0=_:=hG 0 (by kernel_rfl);exact q9 (w':=W) (by unfold execOp;simp only[s17,g0];go_simp) ⟨Below.refl _ _,rfl⟩
   ·have g1:vs 1=_:=hG 1 (by kernel_rfl);exact q9 (w':=W) (by unfold execOp;simp only[s18,g1];go_simp) ⟨Below.refl _ _,rfl⟩
   ·have g2:vs 2=_:=hG 2 (by kernel_rfl);exact q9 (w':=W) (by unfold execOp;simp only[s19,g2];go_simp) ⟨Below.refl _ _,rfl⟩
   ·exact q9 (w':=W) (by unfold execOp;simp only[t6];go_simp) ⟨Below.refl _ _,rfl⟩
   ·have g3:vs 3=_:=hG 3 (by kernel_rfl);have g4:vs 4=_:=hG 4 (by kernel_rfl);exact q9 (w':=W) (by unfold execOp;simp only[s20,g3,s21,g4];go_simp) ⟨Below.refl _ _,rfl⟩
   ·have g5:vs 5=_:=hG 5 (by kernel_rfl);exact q9 (w':=W) (by unfold execOp;simp only[s22,g5];go_simp) ⟨Below.refl _ _,rfl⟩
   ·exact q9 (w':=W) (by unfold execOp;simp only[t0];go_simp) ⟨Below.refl _ _,rfl⟩
   ·have g7:vs 7=_:=hG 7 (by kernel_rfl);exact q9 (w':=W) (by unfold execOp;simp only[s24,g7];go_simp) ⟨Below.refl _ _,rfl⟩
   ·have g8:vs 8=_:=hG 8 (by kernel_rfl);exact q9 (w':=W) (by unfold execOp;simp only[s25,g8];go_simp) ⟨Below.refl _ _,rfl⟩
   ·have g9:vs 9=_:=hG 9 (by kernel_rfl);exact q9 (w':=W) (by unfold execOp;simp only[s26,g9];go_simp) ⟨Below.refl _ _,rfl⟩
   ·have g6:vs 6=_:=hG 6 (by kernel_rfl);have g10:vs 10=_:=hG 10 (by kernel_rfl);refine qj (f:=170) (args:=#[.pointer (some ⟨gr,i*259,none⟩),.int .i64 (d.live.length:Int)]) (w':=W) (by unfold execOp;simp only[hc,hfn,s23,g6,s27,g10];go_simp) ((dH (kX.out.below hb) HVC.out HSO.out gP.out.n8).mono ?_);rintro e W' ⟨A,cc,rfl,h1,h2,h3⟩;exact⟨_,rfl,h3,A,cc,rfl,h1,fun b o e=>⟨Nat.le_trans hb.size (h2 b o e).1,(h2 b o e).2⟩⟩
   ·obtain⟨A,cc,g11,h1,h2⟩:=hG 11 (by kernel_rfl);exact q9 (w':=W) (by unfold execOp;simp only[s28,g11];go_simp) ⟨Below.refl _ _,A,cc,rfl,h1,h2⟩
   ·exact q9 (w':=W) (by unfold execOp;simp only[hc];go_simp) ⟨Below.refl _ _,rfl⟩
  ·intro vs W hb hG;obtain⟨A,cc,g12,h1,h2⟩:=hG 12 (by decide);have g13:vs 13=_:=hG 13 (by decide);simp only[qR,qG,if_true];rw[g12,g13];generalize vs 0=z0;generalize vs 1=z1;generalize vs 2=z2;generalize vs 3=z3;generalize vs 4=z4;generalize vs 5=z5;generalize vs 6=z6;generalize vs 7=z7;generalize vs 8=z8;generalize vs 9=z9;generalize vs 10=z10;generalize vs 11=z11;have HB:=QH (qO.out.trans (hb.mono qO.out.size));have H1:=QH h1;have H2:=QH (fun b o e=>And.intro (Nat.le_trans qO.out.size (h2 b o e).1) (h2 b o e).2);clear hG g12 g13 hb h1 h2;simp only[Act.put,List.setIfInBounds_toArray,List.set_cons_succ,List.set_cons_zero];refine⟨by kernel_rfl,?_⟩;go_wp2_with fail;go_ret2;rw[dv.out];exact⟨A,cc,rfl,H1.out,H2.out,HB.out⟩
def CgV (l:List (Int × Bt))(B:Nat)(v:Value)(w:World):Prop:=∃A cc,v=.slice A l.length cc∧kR w A l∧(∀b o,A=some ⟨b,o,none⟩→B≤b∧b<w.heap.size)∧qsD A cc l.length
theorem CgV.below{l:List (Int × Bt)}{B:Nat}{v:Value}{w w':World}(h:CgV l B v w)(hb:Below w.heap.size w w'):CgV l B v w':=by
 obtain⟨A,cc,h1,h2,h3⟩:=h;exact⟨A,cc,h1,h2.below hb,fun b o e=>⟨(h3.1 b o e).1,Nat.lt_of_lt_of_le (h3.1 b o e).2 hb.size⟩,h3.2⟩
def CsG (p g c n m:Nat)(S V:List Value)(D:List (Int × Bt))(B:Nat):Nat→Value→World→Prop
 | 0,v,_=>v=.pointer (some ⟨p,0,none⟩)
 | 1,v,_=>v=.pointer (some ⟨p,0,none⟩)
 | 2,v,_=>v=.pointer (some ⟨p,257,none⟩)
 | 3,v,_=>v=.slice (some ⟨g,0,none⟩) n c
 | 4,v,_=>v=.int .i64 (m:Int)
 | 5,v,_=>v=.pointer (some ⟨g,m*259,none⟩)
 | 6,v,_=>v=.pointer (some ⟨g,m*259,none⟩)
 | 7,v,_=>v=.pointer (some ⟨p,0,none⟩)
 | 8,v,_=>v=.pointer (some ⟨p,0,none⟩)
 | 9,v,_=>v=.pointer (some ⟨p,257,none⟩)
 | 10,v,_=>v=.slice (some ⟨g,0,none⟩) n c
 | 11,v,_=>v=.int .i64 (m:Int)
 | 12,v,_=>v=.slice (some ⟨g,0,none⟩) m c
 | 13,v,_=>v=.agg S.toArray
 | 14,v,_=>v=.agg V.toArray
 | 15,v,w=>CgV D B v w
 | 16,v,w=>CgV D B v w
 | 17,v,_=>v=.int .i64 0
 | _,_,_=>True
theorem qpp(p g c n m:Nat)(S V:List Value)(D:List (Int × Bt))(B:Nat)(i:Nat)(v:Value)(w w':World)(hi:i<18)(h:CsG p g c n m S V D B i v w)(hb:Below w.heap.size w w'):CsG p g c n m S V D B i v w':=by
 match i,hi,h with
 | 0,_,h | 1,_,h | 2,_,h | 3,_,h | 4,_,h | 5,_,h | 6,_,h | 7,_,h | 8,_,h | 9,_,h | 10,_,h | 11,_,h | 12,_,h | 13,_,h | 14,_,h | 17,_,h=>exact h
 | 15,_,h | 16,_,h=>exact CgV.below h hb
 | n+18,h,_=>exact absurd h (by omega)
theorem qav(d:CH)(m:Nat)(hm:m<d.qc.length):(jq d.live.length (d.qc.take m)).bs=d.prev m:=by
 unfold jq CH.prev;by_cases h:m=0
 ·subst h;rfl
 ·rw[if_neg h,List.getLast?_eq_getElem?,List.length_take,Nat.min_eq_left (by omega),List.getElem?_take,if_pos (by omega)];unfold CH.tX;rw[List.getElem?_eq_getElem (by omega)];rfl
def qhb (r:List (Int × Bt) × Int)(w:World)(e:Ending)(w':World):Prop:=∃A cc,e=.returned (.tuple #[.slice A r.1.length cc,.int .i64 r.2])∧kR w' A r.1∧(wa w w' A∧qsD A cc r.1.length)∧Below w.heap.size w w'
theorem qbP{own:Nat→Prop}{w:World}{p:Nat}{d:CH}(h:Is0 own w p d)(k:Int):Calls prog 94 #[.pointer (some ⟨p,0,none⟩),.int .i64 k] w (qhb (d.changes k) w):=by
 obtain⟨h0,v,hr⟩:=h;have c2:=hr.c2 h0;have uq:=QH hr;have gP:=QH h0;have h20:=h0.few;obtain⟨A,c,hv,hlc,_,hx⟩:=yZ hr.row h0.qc h0.n8;subst hv;by_cases dh:k<0∨(d.qc.length:Int)≤k
 ·have HW:Hid (d.changes k=([],5)):=by unfold Hid CH.changes;rw[if_pos dh]
  rw[HW.out];have hcs:k<0∨(¬ k<0∧(d.qc.length:Int)≤k):=by omega
  clear dh HW hx hr h0 uq gP;rcases hcs with hk|⟨hk,hk2⟩;all_goals
   go_enter func94,ntmps94;go_wp2_with fail;go_ret2;exact⟨none,0,rfl,kR.nil _ _,⟨wa.none _ _,Nat.le_refl _,.inl ⟨rfl,rfl⟩⟩,Below.refl _ _⟩
 ·obtain⟨m,rfl⟩:∃m:Nat,k=(m:Int):=⟨k.toNat,by omega⟩;have hm:m<d.qc.length:=by omega
  have HW:Hid (d.changes (m:Int)=(wC (d.prev m) d.qc[m].bs,0)):=by
   unfold Hid CH.changes;rw[if_neg dh,Int.toNat_natCast];unfold CH.tX;rw[List.getElem?_eq_getElem hm]
  rw[HW.out];obtain⟨gr,cur,rfl,hb,hc⟩:=hx m hm;have hmi:(m:Int)<(d.qc.length:Int):=by omega
  have hmn:¬ (m:Int)<0:=by omega
  have hmx:¬ (d.qc.length:Int)≤(m:Int):=by omega
  have hmc:(m:Int)≤(c:Int):=by omega
  have zde:m≤c:=by omega
  have HSO:=QH (h0.qc _ (List.getElem_mem hm));have HVC:Hid (∀j u,(vc d.qc[m].bs)[j]?=some u→cur[m*259+j]?=some u):=fun j u hu=>hc j u (qtT _ j u hu);have kX:=QH hb;have HTO:Hid (∀s∈d.qc.take m,qT d.live.length s.bs):=fun s hs=>h0.qc s (List.mem_of_mem_take hs);have HTL:Hid ((d.qc.take m).length≤20):=by unfold Hid;rw[List.length_take];omega
  have HTR:Hid (∀W,Below w.heap.size w W→vT W (.slice (some ⟨gr,0,none⟩) m c) (d.qc.take m)):=fun W hb=>qkm (hr.row.below hb) h0.qc h0.n8 (by omega) c (by omega) (Nat.le_refl _);have hlo:=pY (n:=d.live.length) HTO.out;have rj:Hid (qT d.live.length (d.prev m)):=by unfold Hid;rw[← qav d m hm];exact hlo
  have hfi:=qk9 (jq d.live.length (d.qc.take m)) hlo h0.n8;rw[qav d m hm]at hfi;have HLA:=QH (fun W hb=>qdB (HTR.out W hb) HTO.out h0.n8 HTL.out);obtain⟨S,hS⟩:=QE (sc (jq d.live.length (d.qc.take m)));rw[hS]at HLA hfi;generalize d.prev m=P at *;generalize d.qc[m].bs=bs at *;have HCH:=QH (fun W (hb:Below w.heap.size w W)=>qbO (kX.out.below hb) HVC.out HSO.out rj.out h0.n8);have HFI:=QH hfi;have HMI:=QH hmi;clear dh HW hx hr hb hc hlo hfi hS hm HTR HTO HTL HVC HSO rj;obtain⟨D,hD⟩:=QE (wC P bs);rw[hD]at HCH ⊢;clear hD;go_enter func94,ntmps94;go_wp2_with fail;refine qQ (by kernel_rfl) 18 [21,22,23,24,25,26,27,28,29,30,31,32,33,34,35,36,4,5] (by kernel_rfl) (CsG p gr c d.qc.length m S (vc P) D w.heap.size) (qpp _ _ _ _ _ _ _ _ _) ?_ ?_
  ·intro j o vs ρ W hi9 hop hρ hfn hb hG;have t0:ρ (.tmp 0)=.pointer (some ⟨p,0,none⟩):=hρ.out 0 rfl;have t1:ρ (.tmp 1)=.int .i64 (m:Int):=hρ.out 1 rfl;have hc:=hρ.const;have s21:=hρ.at_ 21 0 rfl;have s22:=hρ.at_ 22 1 rfl;have s23:=hρ.at_ 23 2 rfl;have s24:=hρ.at_ 24 3 rfl;have s25:=hρ.at_ 25 4 rfl;have s26:=hρ.at_ 26 5 rfl;have s27:=hρ.at_ 27 6 rfl;have s28:=hρ.at_ 28 7 rfl;have s29:=hρ.at_ 29 8 rfl;have s30:=hρ.at_ 30 9 rfl;have s31:=hρ.at_ 31 10 rfl;have s32:=hρ.at_ 32 11 rfl;have s33:=hρ.at_ 33 12 rfl;have s34:=hρ.at_ 34 13 rfl;have s35:=hρ.at_ 35 14 rfl;have s36:=hρ.at_ 36 15 rfl;have c2:=(uq.out.below hb).c2 gP.out;have hmi:=HMI.out;rcases j with _|_|_|_|_|_|_|_|_|_|_|_|_|_|_|_|_|_|j;all_goals (first|omega|skip)
   all_goals simp only[QA,QB,QC,Option.some.injEq]at hop
   all_goals subst hop
   ·exact q9 (w':=W) (by unfold execOp;simp only[t0];go_simp) ⟨Below.refl _ _,rfl⟩
   ·have g0:vs 0=_:=hG 0 (by kernel_rfl);exact q9 (w':=W) (by unfold execOp;simp only[s21,g0];go_simp) ⟨Below.refl _ _,rfl⟩
   ·have g1:vs 1=_:=hG 1 (by kernel_rfl);exact q9 (w':=W) (by unfold execOp;simp only[s22,g1];go_simp) ⟨Below.refl _ _,rfl⟩
   ·have g2:vs 2=_:=hG 2 (by kernel_rfl);exact q9 (w':=W) (by unfold execOp;simp only[s23,g2];go_simp) ⟨Below.refl _ _,rfl⟩
   ·exact q9 (w':=W) (by unfold execOp;simp only[t1];go_simp) ⟨Below.refl _ _,rfl⟩
   ·have g3:vs 3=_:=hG 3 (by kernel_rfl);have g4:vs 4=_:=hG 4 (by kernel_rfl);exact q9 (w':=W) (by unfold execOp;simp only[s24,g3,s25,g4];go_simp) ⟨Below.refl _ _,rfl⟩
   ·have g5:vs 5=_:=hG 5 (by kernel_rfl);exact q9 (w':=W) (by unfold execOp;simp only[s26,g5];go_simp) ⟨Below.refl _ _,rfl⟩
   ·exact q9 (w':=W) (by unfold execOp;simp only[t0];go_simp) ⟨Below.refl _ _,rfl⟩
   ·have g7:vs 7=_:=hG 7 (by kernel_rfl);exact q9 (w':=W) (by unfold execOp;simp only[s28,g7];go_simp) ⟨Below.refl _ _,rfl⟩
   ·have g8:vs 8=_:=hG 8 (by kernel_rfl);exact q9 (w':=W) (by unfold execOp;simp only[s29,g8];go_simp) ⟨Below.refl _ _,rfl⟩
   ·have g9:vs 9=_:=hG 9 (by kernel_rfl);exact q9 (w':=W) (by unfold execOp;simp only[s30,g9];go_simp) ⟨Below.refl _ _,rfl⟩
   ·exact q9 (w':=W) (by unfold execOp;simp only[t1];go_simp) ⟨Below.refl _ _,rfl⟩
   ·have g10:vs 10=_:=hG 10 (by kernel_rfl);have g11:vs 11=_:=hG 11 (by kernel_rfl);exact q9 (w':=W) (by unfold execOp;simp only[s31,g10,s32,g11];go_simp) ⟨Below.refl _ _,rfl⟩
   ·have g12:vs 12=_:=hG 12 (by kernel_rfl);refine qj (f:=168) (args:=#[.slice (some ⟨gr,0,none⟩) m c]) (w':=W) (by unfold execOp;simp only[hc,hfn,s33,g12];go_simp) ((HLA.out W hb).mono ?_);rintro e W' ⟨rfl,h1⟩;exact⟨_,rfl,h1,rfl⟩
   ·have g13:vs 13=_:=hG 13 (by kernel_rfl);have hfi:=HFI.out;exact q9 (w':=W) (by unfold execOp;simp only[s34,g13];go_simp) ⟨Below.refl _ _,rfl⟩
   ·have g6:vs 6=_:=hG 6 (by kernel_rfl);have g14:vs 14=_:=hG 14 (by kernel_rfl);refine qj (f:=167) (args:=#[.pointer (some ⟨gr,m*259,none⟩),.agg (vc P).toArray]) (w':=W) (by unfold execOp;simp only[hc,hfn,s27,g6,s35,g14];go_simp) ((HCH.out W hb).mono ?_);rintro e W' ⟨A,cc,rfl,h1,h2,h3⟩;exact⟨_,rfl,h3,A,cc,rfl,h1,fun b o e=>⟨Nat.le_trans hb.size (h2.1 b o e).1,(h2.1 b o e).2⟩,h2.2⟩
   ·obtain⟨A,cc,g15,h1,h2⟩:=hG 15 (by kernel_rfl);exact q9 (w':=W) (by unfold execOp;simp only[s36,g15];go_simp) ⟨Below.refl _ _,A,cc,rfl,h1,h2⟩
   ·exact q9 (w':=W) (by unfold execOp;simp only[hc];go_simp) ⟨Below.refl _ _,rfl⟩
  ·intro vs W hb hG;obtain⟨A,cc,g16,h1,h2⟩:=hG 16 (by decide);have g17:vs 17=_:=hG 17 (by decide);simp only[qR,qG,if_true];rw[g16,g17];generalize vs 0=z0;generalize vs 1=z1;generalize vs 2=z2;generalize vs 3=z3;generalize vs 4=z4;generalize vs 5=z5;generalize vs 6=z6;generalize vs 7=z7;generalize vs 8=z8;generalize vs 9=z9;generalize vs 10=z10;generalize vs 11=z11;generalize vs 12=z12;generalize vs 13=z13;generalize vs 14=z14;generalize vs 15=z15;have HB:=QH hb;have H1:=QH h1;have H2:=QH h2;clear hG g16 g17 hb h1 h2;simp only[Act.put,List.setIfInBounds_toArray,List.set_cons_succ,List.set_cons_zero];refine⟨by kernel_rfl,?_⟩;go_wp2_with fail;go_ret2;exact⟨A,cc,rfl,H1.out,H2.out,HB.out⟩
def yn (l:List Gd):List Value:=l.flatMap fun g=>[.int .u64 (g.1:Int),.int .u64 (g.2:Int)]
theorem gB (l:List Gd):(yn l).length=l.length*2:=aw (fun _ _=>rfl)
theorem rC (l:List Gd)(k:Nat)(hk:k<l.length):(yn l)[k*2]?=some (.int .u64 (l[k].1:Int))∧(yn l)[k*2+1]?=some (.int .u64 (l[k].2:Int)) :=
 ⟨qbG l k hk (m:=2) (fun _ _=>rfl) 0 _ rfl,qbG l k hk (m:=2) (fun _ _=>rfl) 1 _ rfl⟩
theorem qhc(l:List Gd)(k:Nat)(hk:k<l.length)(g:Gd):((yn l).set (k*2) (.int .u64 (g.1:Int))).set (k*2+1) (.int .u64 (g.2:Int))=yn (l.set k g):=by
 have h:=qoz (f:=fun g:Gd=>[Value.int .u64 (g.1:Int),.int .u64 (g.2:Int)]) (m:=2) l k g hk (fun _ _=>rfl);unfold yn;rw[← h];have hl:=gB l;unfold yn at hl;generalize (l.flatMap fun g=>[Value.int .u64 (g.1:Int),.int .u64 (g.2:Int)])=z at *;apply List.ext_getElem?;intro i;by_cases h1:i<k*2
 ·rw[List.getElem?_set_ne (by omega),List.getElem?_set_ne (by omega),List.append_assoc,List.getElem?_append_left (by rw[List.length_take];omega),List.getElem?_take,if_pos h1]
 ·by_cases h2:i=k*2
  ·subst h2;rw[List.getElem?_set_ne (by omega),List.getElem?_set_self (by omega),List.append_assoc,List.getElem?_append_right (by rw[List.length_take];omega),List.length_take,Nat.min_eq_left (by omega),Nat.sub_self];rfl
  ·by_cases h3:i=k*2+1
   ·subst h3;rw[List.getElem?_set_self (by rw[List.length_set];omega),List.append_assoc,List.getElem?_append_right (by rw[List.length_take];omega),List.length_take,Nat.min_eq_left (by omega),show k*2+1-k*2=1 by omega];rfl
   ·rw[List.getElem?_set_ne (by omega),List.getElem?_set_ne (by omega),List.getElem?_append_right (by rw[List.length_append,List.length_take];simp;omega),List.getElem?_drop,List.length_append,List.length_take,Nat.min_eq_left (by omega)]
    congr 1
    simp;omega
theorem qhd(n:Nat):madeCells #[.int .u64 0,.int .u64 0] (n*2)=(yn (List.replicate n (0,0))).toArray:=by
 apply Array.ext
 ·simp[size_madeCells,gB]
 ·intro j h1 h2;have hl:(yn (List.replicate n (0,0))).length=n*2:=by rw[gB,List.length_replicate]
  have hj:j<n*2:=by simpa[hl]using h2
  have e:(yn (List.replicate n (0,0)))[j]?=some (.int .u64 0):=by
   have hq:j/2<(List.replicate n ((0,0):Gd)).length:=by rw[List.length_replicate];omega
   obtain⟨g0,g1⟩:=rC (List.replicate n (0,0)) (j/2) hq;rw[List.getElem_replicate]at g0 g1;rcases Nat.mod_two_eq_zero_or_one j with h|h
   ·rw[show j=j/2*2 by omega];exact g0
   ·rw[show j=j/2*2+1 by omega];exact g1
  have e2:(yn (List.replicate n (0,0))).toArray[j]?=some (.int .u64 0):=by simpa using e
  rw[Array.getElem?_eq_getElem h2]at e2;rw[Option.some.inj e2];rcases Nat.mod_two_eq_zero_or_one j with h|h <;> simp[madeCells,h]
theorem qhe(n:Nat)(h:n≤1000)(W:World):(Instr.makeSlice 73 (.int .i64 (n:Int)) (.int .i64 (n:Int))).run prog W=.ok (.slice (some ⟨W.heap.size,0,none⟩) n n) (W.alloc (.cells (yn (List.replicate n (0,0))).toArray 38)):=by
 obtain⟨i0,hi,hz0,hz1,hz2⟩:=info_parts qg3;have hmk:=run_make (P:=prog) W 73 38 i0 (.agg #[.int .u64 0,.int .u64 0]) underlying73 hi hz0 .i64 .i64 (n:Int) (n:Int) (by omega) (Int.le_refl _) (by rw[hz2];omega) (by omega);rw[hz1]at hmk;rw[← qhd];simpa[Value.cells]using hmk
theorem qhf{ρ:Operand→Value}{o:Oper}{w:World}(x y:Operand)(n:Nat)(ho:o.op=.makeSlice 73 x y)(hx:ρ x=.int .i64 (n:Int))(hy:ρ y=.int .i64 (n:Int))(h:n≤1000) :
    (execOp ρ o).run prog w=.ok (.value (.slice (some ⟨w.heap.size,0,none⟩) n n)) (w.alloc (.cells (yn (List.replicate n (0,0))).toArray 38)):=by
 simp[execOp,ho,hx,hy,qhe n h w,Result.andThen]
def q1K (l:List Gd)(w:World)(i:Value)(wr:World):Prop :=
 ∃k:Nat,k≤l.length∧i=.int .i64 (k:Int)∧qf wr w.heap.size 38 (yn (l.take k++List.replicate (l.length-k) (0,0))).toArray∧Below w.heap.size w wr
theorem qkD{l:List Gd}{k:Nat}(hk:k<l.length):(l.take k++List.replicate (l.length-k) (0,0)).set k l[k]=l.take (k+1)++List.replicate (l.length-(k+1)) (0,0):=by
 rw[List.set_append_right _ _ (by rw[List.length_take];omega),List.length_take,Nat.min_eq_left (by omega),Nat.sub_self,show l.length-k=(l.length-(k+1))+1 by omega,List.replicate_succ,List.set_cons_zero,List.take_succ_eq_append_getElem (by omega),List.append_assoc];rfl
theorem qkE{own:Nat→Prop}{w:World}{p:Nat}{d:CH}(h:Is0 own w p d):Calls prog 38 #[.pointer (some ⟨p,0,none⟩)] w (p9 d.list w):=by
 obtain⟨i0,hi,hz0,hz1,hz2⟩:=info_parts nu;have HI:=QH hi;have HZ0:=QH hz0;obtain⟨h0,v,hr⟩:=h;have c2:=hr.c2 h0;have HR:=QH hr;have gP:=QH h0;have h20:=h0.few;have qdS:=hr.blk.lt;obtain⟨A,c,hv,hlc,_,hx⟩:=yZ hr.row h0.qc h0.n8;subst hv;have HX:=QH hx;have rS:Hid (d.list.length=d.qc.length):=by unfold Hid CH.list;rw[List.length_map]
 have HGB:Hid (∀x∈d.list,xB x):=fun x hx=>by
  obtain⟨s,hs,rfl⟩:=List.mem_map.1 hx;exact h0.tx s hs
 have HLG:Hid (∀k (hk:k<d.qc.length) (hk2:k<d.list.length),d.list[k]=d.qc[k].g):=fun k hk hk2=>by simp[CH.list]
 have HZL:Hid ((sc z0).length=259):=by unfold Hid z0;exact kZ (n:=0) ⟨rfl,fun v hv=>by simp at hv⟩ (by omega)
 obtain⟨Z,hZ⟩:=QE (sc z0);rw[hZ]at HZ0 HZL;obtain⟨n,hn⟩:=QE d.qc.length;have HN:=QH hn;have C2:=QH c2;rw[hn]at C2 c2 h20 hlc rS;clear hx hr h0 hi hz0 hz1 hz2 hZ hn;have HGI:Hid (yn (List.replicate n (0,0))=yn (d.list.take 0++List.replicate (d.list.length-0) (0,0))):=by unfold Hid;rw[rS.out];rfl
 go_enter func38,ntmps38;have c2b:∀o,(w.alloc o).cell? ⟨p,257,none⟩=some (.slice A n c):=fun o=>(((Below.refl w.heap.size w).alloc (Nat.le_refl _) o).cell (p:=⟨p,257,none⟩) qdS).trans C2.out;go_wp2_with (at_make;refine qi rfl (qhf _ _ n rfl rfl rfl (by omega)) ?_);go_loopw [4,5,19] (fun _ _ i wr=>q1K d.list w i wr) (fun _ _ i _=>n-(intOf i).toNat);case atStart=>exact⟨0,Nat.zero_le _,rfl,by rw[← HGI.out];exact qf.new w 38 _,(Below.refl _ _).alloc (Nat.le_refl _) _⟩
 case round =>
  obtain⟨k,hk,rfl,zy,bj⟩:=hrel;have HK:=QH zy;have bG:=QH bj;have hkn:k≤n:=by have:=rS.out;omega
  clear zy bj c2b c2;by_cases hlt:k<n
  ·have yt:(k:Int)<(n:Int):=by omega
   have hls:k<d.qc.length:=by rw[HN.out];exact hlt
   have hlg:k<d.list.length:=by rw[rS.out];exact hlt
   obtain⟨gr,cur,rfl,hb,hc⟩:=HX.out k hls;have hso:=gP.out.qc _ (List.getElem_mem hls);have mJ:Hid ((sc d.qc[k]).length=259):=kZ hso gP.out.n8;have bY:=QH (qbH d.qc[k]);have kX:=QH (hb.below bG.out);have HC:=QH hc;have hg1:=qtR hso gP.out.n8;have hg2:=qtS hso gP.out.n8;have HSE:Hid (((yn (d.list.take k++List.replicate (d.list.length-k) (0,0))).set (k*2) (.int .u64 (d.qc[k].g.1:Int))).set (k*2+1) (.int .u64 (d.qc[k].g.2:Int))=yn (d.list.take (k+1)++List.replicate (d.list.length-(k+1)) (0,0))):=by
    unfold Hid;rw[qhc _ k (by rw[List.length_append,List.length_take,List.length_replicate];omega),← HLG.out k hls hlg,qkD hlg]
   generalize sc d.qc[k]=S at *;generalize (d.qc[k].g.1:Int)=x1 at *;generalize (d.qc[k].g.2:Int)=x2 at *;have e0:(wr.alloc (.cells S.toArray 174)).cell? ⟨wr.heap.size,256,none⟩=some (.int .u64 x1):=by
    rw[(qf.new wr 174 S.toArray).cell 256];simpa using hg1
   have e1:(wr.alloc (.cells S.toArray 174)).cell? ⟨wr.heap.size,257,none⟩=some (.int .u64 x2):=by
    rw[(qf.new wr 174 S.toArray).cell 257];simpa using hg2
   have qO:=QH (bG.out.alloc bG.out.size (.cells S.toArray 174));have bz:Hid (qf (wr.alloc (.cells S.toArray 174)) w.heap.size _ _):=HK.out.of_block (Below.heap_alloc wr _ _ HK.out.lt);obtain⟨cs,hcs⟩:=QE (yn (d.list.take k++List.replicate (d.list.length-k) (0,0)));have hcl:cs.length=n*2:=by
    rw[← hcs,gB,List.length_append,List.length_take,List.length_replicate,rS.out];omega
   rw[hcs]at bz HSE;have f0:=bz.out.frozen (k*2);have f1:=bz.out.frozen (k*2+1);obtain⟨z0',hz0⟩:∃z,(wr.alloc (.cells S.toArray 174)).cell? ⟨w.heap.size,k*2,none⟩=some z:=by
    rw[bz.out.cell (k*2)];exact⟨cs[k*2],by simp[show k*2<cs.length by omega]⟩
   obtain⟨z1',hz1⟩:∃z,(wr.alloc (.cells S.toArray 174)).cell? ⟨w.heap.size,k*2+1,none⟩=some z:=by
    rw[bz.out.cell (k*2+1)];exact⟨cs[k*2+1],by simp[show k*2+1<cs.length by omega]⟩
   have jV:=QH ((bz.out.qg (k*2) (.int .u64 x1)).qg (k*2+1) (.int .u64 x2));have qA:=QH ((qO.out.setCell (p:=⟨w.heap.size,k*2,none⟩) (Nat.le_refl _) (.int .u64 x1)).setCell (p:=⟨w.heap.size,k*2+1,none⟩) (Nat.le_refl _) (.int .u64 x2));have E0:=QH e0;have E1:=QH e1;clear HK bG hb hc hso hg1 hg2 hcs hcl hls hlg e0 e1;have F0:=QH f0;have F1:=QH f1;have ZZ0:=QH hz0;have ZZ1:=QH hz1;clear f0 f1 hz0 hz1;go_wp2_with (first|(refine qi rfl (qU 174 (.tmp 22) rfl gr (k*259) rfl _ cur S _ _ kX.out underlying174 rfl (by rw[kD,mJ.out]) HC.out) ?_)|(refine qi rfl (gq 174 i0 Z.toArray rfl HI.out HZ0.out) ?_)|(refine wpList_skip rfl (zJ wr 174 Z.toArray S.toArray (.tmp 5) (.tmp 23) rfl rfl rfl (by rw[kD,List.size_toArray,mJ.out]) (by rw[List.size_toArray,List.size_toArray,mJ.out,HZL.out]) (kr bY.out)) ?_;have e0:=E0.out;have e1:=E1.out;have f0:=F0.out;have f1:=F1.out;have z0:=ZZ0.out;have z1:=ZZ1.out));go_roundw;case rel=>exact⟨k+1,by have:=rS.out;omega,by go_num,by
    have h:=jV.out;simp only[List.setIfInBounds_toArray]at h;rw[HSE.out]at h;exact h,qA.out⟩
   case measure=>simp[intOf];omega
  ·obtain rfl:k=n:=by omega
   have ig:Hid (d.list.take k++List.replicate (d.list.length-k) (0,0)=d.list):=by
    unfold Hid;rw[← rS.out,Nat.sub_self,List.take_length];simp
   have zy:=HK.out;rw[ig.out]at zy;have HT:Hid (GdL wr (some ⟨w.heap.size,0,none⟩) d.list):=fun i hi=>by
    obtain⟨g0,g1⟩:=rC d.list i hi;exact⟨w.heap.size,0,rfl,zy.lt,by rw[Nat.zero_add,zy.cell];simpa using g0,by rw[Nat.zero_add,zy.cell];simpa using g1,HGB.out _ (List.getElem_mem hi)⟩
   have mH:=QH zy.lt;clear zy HK ig;go_wp2_with fail;go_ret;refine⟨_,k,by rw[rS.out];rfl,HT.out,fun b o e=>?_,bG.out⟩;simp only[Option.some.injEq,Addr.mk.injEq,and_true]at e;obtain⟨rfl,_⟩:=e;exact⟨Nat.le_refl _,mH.out⟩
end Go.Proofs.YtdpbdkacngaemaaGreatDoor.ch.pg
namespace Go.Proofs.YtdpbdkacngaemaaGreatDoor.ch.pg
open _root_.Go.Proofs.Tryz Go Go.RowKit Go.Sort Go.Proofs.YtdpbdkacngaemaaGreatDoor.ib
theorem qpq:Impl Is0 where
 low:=fun⟨_,_,h⟩=>h.low
 ok:=fun⟨h,_⟩=>h
 keep:=fun⟨h0,v,h⟩ hb hs=>⟨h0,v,h.keep hs hb⟩
 wk:=fun n w h1 h8=>wk n w h1 h8
 write:=fun k s h _=>(qgV k s h).mono fun _ _ ha=>ha.1
 snap:=fun g h hg=>(qkB h g hg).mono fun _ _ ha=>ha.1
 list:=fun h=>qkE h
 read:=fun g h _=>rf h g
end Go.Proofs.YtdpbdkacngaemaaGreatDoor.ch.pg
namespace Go.Proofs.YtdpbdkacngaemaaGreatDoor.ch
end Go.Proofs.YtdpbdkacngaemaaGreatDoor.ch
namespace Go.Proofs.YtdpbdkacngaemaaGreatDoor.vt
open _root_.Go.Proofs.Tryz Go Go.RowKit jr mt im sp
theorem qpq:jP pg.ag where
 tab:=fun h=>pg.qr2 h
 low:=fun h=>pg.qbp h
 keep:=fun h hb hs=>pg.qn4 h hb hs
 tx:=fun h=>pg.qr3 h
 qad:=fun b N room h ij hog h1 h8 hN lV hr=>pg.sR b N room h ij hog h1 h8 hN lV hr
 qbm:=fun h ij hog hJ hf hR=>pg.qdQ h ij hog hJ hf hR
 blocks:=fun h=>pg.qgG h
 list:=fun h=>pg.dH h
 token:=fun h=>pg.iB h
 read:=fun g h hJ hR _=>pg.qkz g h hJ hR
 stage:=fun f A c x h hJ hf hR hfb hx cZ _=>pg.qk8 f A c x h hJ hf hR hfb hx cZ
 qr1:=fun w=>pg.qdI w
 qzD:=fun w=>pg.qky w
 qvw:=fun w=>pg.qgN w
end Go.Proofs.YtdpbdkacngaemaaGreatDoor.vt
namespace Go.Proofs.YtdpbdkacngaemaaGreatDoor
open _root_.Go.Proofs.Tryz Go.RowKit
def cZs:List Int:=eV.map Int.ofNat
theorem qwK:(prog.globals[0]?).map (·.type)=some 310:=by kernel_rfl
theorem qsE:prog.cellsOf 310=16:=by kernel_rfl
theorem qwL:prog.cellsOf 244=1:=by kernel_rfl
theorem qbQ{W:World}{name:String}{rest:List (String × DataW Unit)}(h:laidMet prog ((name,Lib.tabData .u32 cZs)::rest) W)(cg:prog.globalNamed name=some 0):xY W:=by
 have hT:=Lib.tabIs_of_head cg qwK underlying310 underlying244 qwL qsE h;have hc:∀i,i<16→W.cell? ⟨0,i,none⟩=some (.int .u32 ((eV.getD i 0:Nat):Int)):=by
  intro i hi;have:=hT.cell cg i (by simpa[cZs,eV]using hi);rw[this];have:∀i:Nat,i<16→cZs.getD i 0=((eV.getD i 0:Nat):Int):=by decide
  rw[this i hi]
 exact⟨World.block_lt_of_cell? W _ (hc 0 (by omega)),hc⟩
noncomputable def qaw (os:Os):World :=
 { World.holding prog os ⟨#[],#[],[]⟩with heap:=(World.holding prog os ⟨#[],#[],[]⟩).heap.modify 0 fun
     | .cells _ t frozen=>.cells (cZs.map fun z=>Value.int .u32 z).toArray t frozen
     | o=>o }
def q1M:List Int:=[128,191,160,191,128,159,144,191,128,143]++List.replicate 22 0
noncomputable def gD (os:Os):World :=
 { qaw os with heap:=((qaw os).heap.modify 3 fun
     | .cells _ t frozen=>.cells (q1M.map fun z=>Value.int .u8 z).toArray t frozen
     | o=>o).modify 2 fun
     | .cells _ t frozen=>.cells (Go.Pinned.utf8FirstZ.map fun(z:Nat)=>Value.int .u8 (z:Int)).toArray t frozen
     | o=>o }
end Go.Proofs.YtdpbdkacngaemaaGreatDoor

/- ChLst, PgBase, PgMem, PgOne, PgLast, PgList, VgPut, VgStg, VgHid, JCommit, JHead, VgChg, VgGds, VgTb3, VgTb2, VgTb4. -/
import Derived.Test.YtdagdllomphidaaGreatDoorZK7
set_option linter.unusedVariables false
set_option linter.unusedSimpArgs false
set_option maxHeartbeats 30000000
set_option maxRecDepth 100000
namespace Go.Proofs.YtdagdllomphidaaGreatDoor.ch
open _root_.Go.Proofs.Tryz Go Go.RowKit ib
theorem ql2:(prog.info? 62).map (fun i=>(i.zero,i.size,i.bytes))=some (some (.agg #[.int .i64 0,.string ByteArray.empty]),2,24):=by kernel_rfl
def jX:List (Int × Bt)→List Value
 | []=>[]
 | x::r=>.int .i64 x.1 :: .string (str x.2)::jX r
def dm (w:World)(B:Nat)(v:Value)(l:List (Int × Bt)):Prop:=w.ownsRow B 62 2 v l.length (jX l)
theorem aj:∀(l r:List (Int × Bt)),jX (l++r)=jX l++jX r
 | [],_=>rfl
 | x::l,r=>by simp[jX,aj l r]
theorem nu:∀(l:List (Int × Bt)) (i:Nat) (h:i<l.length),(jX l)[i*2]?=some (.int .i64 l[i].1)∧(jX l)[i*2+1]?=some (.string (str l[i].2))
 | x::l,0,_=>⟨rfl,rfl⟩
 | x::l,i+1,h=>by
  have:=nu l i (by simpa using h);rw[show(i+1)*2=i*2+1+1 from by omega];exact this
theorem dm.view{w:World}{B:Nat}{v:Value}{l:List (Int × Bt)}(h:dm w B v l)(hz:∀x∈l,yf x.1):∃a c,v=.slice a l.length c∧dU w a l:=by
 rcases h.2 with⟨rfl,h0⟩|⟨g,cap,cur,rfl,hg,hh,hcc,hm,hcs,xt⟩
 ·obtain rfl:l=[]:=List.length_eq_zero_iff.1 h0;exact⟨none,0,rfl,fun i h=>by simp at h⟩
 ·refine⟨some ⟨g,0,none⟩,cap,rfl,fun i hi=>?_⟩;have key:∀(j:Nat) (u:Value),(jX l)[j]?=some u→w.cell? ⟨g,j,none⟩=some u:=by
   intro j u hu;rw[cell_of_row w g j cur 62 (0,0) hh];rw[← xt,List.getElem?_take]at hu;split at hu
   ·simpa using hu
   ·cases hu
  obtain⟨g0,g1⟩:=nu l i hi;exact⟨g,0,rfl,(Array.getElem?_eq_some_iff.1 hh).1,by rw[Nat.zero_add];exact key _ _ g0,by rw[Nat.zero_add];exact key _ _ g1,hz _ (List.getElem_mem hi)⟩
theorem sY (x:Int × Bt):∀u∈([Value.int .i64 x.1,.string (str x.2)]:List Value),u.oneCell'=true:=by
 intro u hu;simp at hu;rcases hu with rfl|rfl <;> rfl
theorem dm.snoc{w1:World}{B:Nat}{v':Value}{l:List (Int × Bt)}{x:Int × Bt}(h:w1.ownsRow B 62 2 v' (l.length+1) (jX l++[.int .i64 x.1,.string (str x.2)])):dm w1 B v' (l++[x]):=by
 unfold dm;rw[List.length_append,aj];exact h
def qyL (l:List (Int × Bt))(w:World)(e:Ending)(w':World):Prop:=∃v,e=.returned v∧dm w' w.heap.size v l∧Below w.heap.size w w'
theorem dm.qfz{w:World}{B:Nat}{v:Value}{l:List (Int × Bt)}(h:dm w B v l)(hz:∀x∈l,yf x.1):∃a c,v=.slice a l.length c∧dU w a l∧∀b o,a=some ⟨b,o,none⟩→B≤b∧b<w.heap.size:=by
 obtain⟨a,c,hv,hl⟩:=h.view hz;refine⟨a,c,hv,hl,fun b o e=>?_⟩;rcases h.2 with⟨rfl,_⟩|⟨g,cap,cur,rfl,hg,hh,_⟩
 ·simp only[Value.slice.injEq]at hv;rw[e]at hv;cases hv.1
 ·simp only[Value.slice.injEq]at hv;rw[e]at hv;obtain⟨h1,_⟩:=hv;simp only[Option.some.injEq,Addr.mk.injEq,and_true]at h1;obtain⟨rfl,_⟩:=h1;exact⟨hg,(Array.getElem?_eq_some_iff.1 hh).1⟩
end Go.Proofs.YtdagdllomphidaaGreatDoor.ch
namespace Go.Proofs.YtdagdllomphidaaGreatDoor.ch.pg
open _root_.Go.Proofs.Tryz Go Go.RowKit ib
@[go_sem] theorem qp1 (a b c d:Int) (w:World):(Op.equalIn 10000 55 (.agg #[.int .u64 a,.int .u64 b]) (.agg #[.int .u64 c,.int .u64 d])).run prog w=.ok (a == c&&b == d) w:=by
 have u3:=underlying35;have a3:=isAgg35;have z3:=sizeOf35;rw[show(10000:Nat)=9999+1 from rfl,run_equalIn_agg w 9999 55 _ _ (by kernel_rfl) (by kernel_rfl)];simp only[Program.fieldsOf,underlying55];go_simp;by_cases h1:a=c <;> by_cases h2:b=d <;> simp[h1,h2]
def dTo (p q:List Bt)(k:Nat):List (Int × Bt):=(List.range k).filterMap fun i=>if q.getD i []=p.getD i []then none else some ((i:Int),q.getD i [])
theorem ql3(p q:List Bt)(k:Nat)(h:q.getD k []=p.getD k []):dTo p q (k+1)=dTo p q k:=by
 unfold dTo;rw[List.range_succ,List.filterMap_append,List.filterMap_cons,if_pos h];simp
theorem ql4(p q:List Bt)(k:Nat)(h:¬ q.getD k []=p.getD k []):dTo p q (k+1)=dTo p q k++[((k:Int),q.getD k [])]:=by
 unfold dTo;rw[List.range_succ,List.filterMap_append,List.filterMap_cons,if_neg h];rfl
theorem qoG(p q:List Bt)(k:Nat)(hk:k≤1000):∀x∈dTo p q k,yf x.1:=by
 intro x hx;unfold dTo at hx;obtain⟨i,hi,h⟩:=List.mem_filterMap.1 hx;have:=List.mem_range.1 hi;split at h
 ·cases h
 ·injection h with h
  subst h;unfold yf;dsimp only;omega
theorem qoH(p q:List Bt)(k:Nat):(dTo p q k).length≤k:=by
 unfold dTo;have:=List.length_filterMap_le (fun i=>if q.getD i []=p.getD i []then none else some ((i:Int),q.getD i [])) (List.range k);simpa using this
section
variable {α β:Type} {f:α→List β} {m:Nat}
theorem ql5:∀ {l:List α},(∀x∈l,(f x).length=m)→(l.flatMap f).length=l.length*m
 | [],_=>by simp
 | x::l,h=>by
  rw[List.flatMap_cons,List.length_append,ql5 (l:=l) (fun y hy=>h y (by simp[hy])),h x (by simp),List.length_cons,Nat.succ_mul];omega
end
def pad (l:List Bt):List Bt:=l++List.replicate (8-l.length) zz
def vc (l:List Bt):List Value:=(pad l).flatMap Lib.byteCells
theorem qoI{n:Nat}{l:List Bt}(h:ag n l)(h8:n≤8):(pad l).length=8:=by
 unfold pad;rw[List.length_append,List.length_replicate,h.1];omega
theorem quB{n:Nat}{l:List Bt}(h:ag n l):∀v∈pad l,v.length=32:=by
 intro v hv;rcases List.mem_append.1 hv with h1|h1
 ·exact h.2 v h1
 ·rw[List.eq_of_mem_replicate h1];exact qI
theorem qyM{n:Nat}{l:List Bt}(h:ag n l):∀v∈pad l,(Lib.byteCells v).length=32:=fun v hv=>by rw[Lib.byteCells_length,quB h v hv]
theorem tB {n:Nat}{l:List Bt}(h:ag n l)(h8:n≤8):(vc l).length=256:=by
 unfold vc;rw[ql5 (qyM h),qoI h h8]
theorem quC(l:List Bt):∀u∈vc l,u.oneCell'=true:=by
 intro u hu;obtain⟨s,_,h⟩:=List.mem_flatMap.1 hu;exact Lib.byteCells_one _ u h
theorem ql6(n:Nat)(h8:n≤8):pad (gK n)=List.replicate 8 zz:=by
 unfold pad gK;rw[List.length_replicate,List.replicate_append_replicate]
 congr 1
 omega
theorem qoJ(n:Nat)(h8:n≤8):vc (gK n)=vc []:=by
 unfold vc;rw[ql6 n h8];rfl
def sc (s:Sn):List Value:=vc s.bs++[.int .u64 (s.g.1:Int),.int .u64 (s.g.2:Int),.bool s.hid]
def oF (l:List Sn):List Value:=l.flatMap sc
theorem quD{n:Nat}{s:Sn}(h:ag n s.bs)(h8:n≤8):(sc s).length=259:=by
 unfold sc;rw[List.length_append,tB h h8];rfl
def z0:Sn:=⟨(0,0),[],false⟩
theorem qoK:(prog.info? 87).map (·.size)=some 258:=by kernel_rfl
def xq (n:Nat)(l:List Bt)(v:Value):List Value:=.int .i64 (n:Int)::(vc l++[v])
theorem qoL:(prog.info? 87).map (fun i=>(i.zero,i.size,i.bytes))=some (some (.agg (xq 0 [] (.slice none 0 0)).toArray),258,288):=by kernel_rfl
theorem qdX{n m:Nat}{l:List Bt}{v:Value}(h:ag n l)(h8:n≤8):(xq m l v).length=258:=by
 unfold xq;rw[List.length_cons,List.length_append,tB h h8];rfl
theorem ql7{n m:Nat}{l:List Bt}{v:Value}(h:ag n l)(h8:n≤8):(xq m l v)[257]?=some v:=by
 unfold xq;rw[show 257=256+1 from rfl,List.getElem?_cons_succ,List.getElem?_append_right (by rw[tB h h8];omega),tB h h8];rfl
def fE (w:World)(v:Value)(l:List Sn):Prop:=∃A c,v=.slice A l.length c∧l.length≤c∧c≤maxLen ∧
 ((A=none∧l.length=0∧c=0)∨∃g cur,A=some ⟨g,0,none⟩∧qg w g 131 cur∧cur.toList.take (l.length*259)=oF l)
theorem fE.of_block{w w':World}{v:Value}{l:List Sn}(h:fE w v l)(hb:∀k,v.ownBlock=some k→w'.heap[k]?=w.heap[k]?):fE w' v l:=by
 obtain⟨A,c,rfl,h1,h2,h3⟩:=h;refine⟨A,c,rfl,h1,h2,?_⟩;rcases h3 with h3|⟨g,cur,rfl,h4,h5⟩
 ·exact .inl h3
 ·exact .inr ⟨g,cur,rfl,h4.of_block (hb g rfl),h5⟩
theorem fE.lt{w:World}{v:Value}{l:List Sn}(h:fE w v l):∀k,v.ownBlock=some k→k<w.heap.size:=by
 obtain⟨A,c,rfl,h1,h2,h3⟩:=h;intro k hk;rcases h3 with⟨rfl,_⟩|⟨g,cur,rfl,h4,h5⟩
 ·cases hk
 ·simp[Value.ownBlock]at hk;subst hk;exact h4.lt
theorem fE.ne{w:World}{v:Value}{l:List Sn}{a:Nat}{t:TypeId}{x:Array Value}(h:fE w v l)(k:qg w a t x)(hn:t≠131):∀j,v.ownBlock=some j→j≠a:=by
 obtain⟨A,c,rfl,h1,h2,h3⟩:=h;intro j hj;rcases h3 with⟨rfl,_⟩|⟨g,cur,rfl,h4,h5⟩
 ·cases hj
 ·simp[Value.ownBlock]at hj;subst hj;exact(wW k h4 hn).symm
theorem fE.cells{w:World}{A:Option Addr}{n c:Nat}{l:List Sn}(h:fE w (.slice A n c) l):n=l.length∧(A=none→n=0)∧∀b,A=some b→∀j u,(oF l)[j]?=some u→w.cell? (b.add j)=some u:=by
 obtain⟨A',c',e,h1,h2,h3⟩:=h;simp only[Value.slice.injEq]at e;obtain⟨rfl,rfl,rfl⟩:=e;rcases h3 with⟨rfl,h0,rfl⟩|⟨g,cur,rfl,hb,xt⟩
 ·exact⟨rfl,(fun _=>h0),fun b hb=>by cases hb⟩
 ·refine⟨rfl,(fun h=>by cases h),fun b e j u hu=>?_⟩;simp only[Option.some.injEq]at e;subst e;rw[addr_add,Nat.zero_add,hb.cell j];rw[← xt,List.getElem?_take]at hu;split at hu
  ·simpa using hu
  ·cases hu
structure dV(w:World)(own:Nat→Prop)(p:Nat)(v:Value)(d:CH):Prop where
 blk:qg w p 87 (xq d.live.length d.live v).toArray
 row:fE w v d.qa
 op:own p
 om:∀k,v.ownBlock=some k→own k
 low:∀k,own k→k<w.heap.size
def Is0:IsT:=fun own w p d=>d.ok∧∃v,dV w own p v d
section
variable {w w':World} {own:Nat→Prop} {p:Nat} {v:Value} {d:CH}
theorem dV.vp(h:dV w own p v d):∀j,v.ownBlock=some j→j≠p:=h.row.ne h.blk (by decide)
theorem dV.keep(h:dV w own p v d)(hs:w.heap.size≤w'.heap.size)(hb:∀k,own k→w'.heap[k]?=w.heap[k]?):dV w' own p v d :=
 ⟨h.blk.of_block (hb _ h.op),h.row.of_block (fun k hk=>hb k (h.om k hk)),h.op,h.om,fun k hk=>Nat.lt_of_lt_of_le (h.low k hk) hs⟩
theorem dV.below(h:dV w own p v d)(hb:Below w.heap.size w w'):dV w' own p v d:=h.keep hb.size (fun k hk=>hb.block k (h.low k hk))
theorem dV.c0(h:dV w own p v d):w.cell? ⟨p,0,none⟩=some (.int .i64 (d.live.length:Int)):=by
 rw[h.blk.cell 0];rfl
theorem dV.c2(h:dV w own p v d)(ho:d.ok):w.cell? ⟨p,257,none⟩=some v:=by
 rw[h.blk.cell 257];simpa using ql7 (m:=d.live.length) (v:=v) ho.live ho.n8
theorem fE.below{l:List Sn}(h:fE w v l)(hb:Below w.heap.size w w'):fE w' v l:=h.of_block (fun k hk=>hb.block k (h.lt k hk))
end
end Go.Proofs.YtdagdllomphidaaGreatDoor.ch.pg
namespace Go.Proofs.YtdagdllomphidaaGreatDoor.ch.pg
open _root_.Go.Proofs.Tryz Go Go.RowKit Go.Sort ib
def yw (l:List Bt):Array Value:=(l.map fun s=>Value.string (str s)).toArray
theorem vB (l:List Bt)(i:Nat)(h:i<l.length):(yw l)[i]?=some (.string (str l[i])):=by simp[yw,h]
theorem qdY(l:List Bt)(i:Nat)(v:Bt):(yw l).setIfInBounds i (.string (str v))=yw (l.set i v):=by
 unfold yw;rw[List.setIfInBounds_toArray,List.map_set]
theorem qdZ(n:Nat):madeCells #[.string ByteArray.empty] n=yw (List.replicate n []):=by
 apply Array.ext
 ·simp[size_madeCells,yw]
 ·intro j h1 h2;have e:(yw (List.replicate n []))[j]?=some (.string (str [])):=by
   have hj:j<n:=by simpa[yw]using h2
   rw[vB _ _ (by simpa using hj),List.getElem_replicate]
  rw[Array.getElem?_eq_getElem h2]at e;rw[Option.some.inj e];simp[madeCells,Nat.mod_one];rfl
theorem qea(n:Nat)(h:n≤1000)(W:World):(Instr.makeSlice 43 (.int .i64 (n:Int)) (.int .i64 (n:Int))).run prog W=.ok (.slice (some ⟨W.heap.size,0,none⟩) n n) (W.alloc (.cells (yw (List.replicate n [])) 9)):=by
 obtain⟨i0,hi,hz0,hz1,hz2⟩:=info_parts Tryz.qja;have hmk:=run_make (P:=prog) W 43 9 i0 (.string ByteArray.empty) underlying43 hi hz0 .i64 .i64 (n:Int) (n:Int) (by omega) (Int.le_refl _) (by rw[hz2];omega) (by omega);rw[hz1]at hmk;rw[← qdZ];simpa[Value.cells]using hmk
theorem qeb{ρ:Operand→Value}{o:Oper}{w:World}(x y:Operand)(n:Nat)(ho:o.op=.makeSlice 43 x y)(hx:ρ x=.int .i64 (n:Int))(hy:ρ y=.int .i64 (n:Int))(h:n≤1000) :
    (execOp ρ o).run prog w=.ok (.value (.slice (some ⟨w.heap.size,0,none⟩) n n)) (w.alloc (.cells (yw (List.replicate n [])) 9)):=by
 simp[execOp,ho,hx,hy,qea n h w,Result.andThen]
theorem take_set{l:List Bt}{n k:Nat}(hl:l.length=n)(hk:k<n):(l.take k++List.replicate (n-k) []).set k (l[k]'(by omega))=l.take (k+1)++List.replicate (n-(k+1)) []:=by
 rw[List.set_append_right _ _ (by rw[List.length_take];omega),List.length_take,Nat.min_eq_left (by omega),Nat.sub_self,show n-k=(n-(k+1))+1 by omega,List.replicate_succ,List.set_cons_zero,List.take_succ_eq_append_getElem (by omega),List.append_assoc];rfl
end Go.Proofs.YtdagdllomphidaaGreatDoor.ch.pg
namespace Go.Proofs.YtdagdllomphidaaGreatDoor.vt.pg
open _root_.Go.Proofs.Tryz Go Go.RowKit Go.Sort ib mt im sp
def aY:List Int→List Pl→List Int
 | l,[]=>l
 | l,p::r=>aY (l.set p.1.toNat p.2.1) r
theorem r8:∀(P:List Pl) (l:List Int) (p:Pl),aY l (P++[p])=(aY l P).set p.1.toNat p.2.1
 | [],_,_=>rfl
 | q::P,l,p=>r8 P (l.set q.1.toNat q.2.1) p
theorem nv:∀(P:List Pl) (l:List Int),(aY l P).length=l.length
 | [],_=>rfl
 | q::P,l=>by
  show(aY (l.set q.1.toNat q.2.1) P).length=_;rw[nv P,List.length_set]
theorem tC:∀(x:List (Int × Bt)) (at_:List Int) (l:List Int),aY l (PL x at_)=zt l x at_
 | [],_,_=>by rw[jB];rfl
 | _::_,[],_=>by rw[aN];rfl
 | (k,s)::r,a::at_,l=>by
  rw[jf];exact tC r at_ (l.set k.toNat a)
def PuR (G:Nat→Prop)(l:List Int)(P:List Pl)(w:World)(s i:Value)(wr:World):Prop :=
 ∃(k:Nat) (A:Option Addr) (c:Nat),k≤P.length∧i=.int .i64 (k:Int)∧s=.slice A l.length c∧gV G wr A (aY l (P.take k)) c∧Below w.heap.size w wr
theorem km {G:Nat→Prop}{w:World}{A:Option Addr}{c:Nat}{l:List Int}(hl:gV G w A l c)(h1:0<l.length)(qqs:l.length≤1000){B:Option Addr}{cb:Nat}{P:List Pl}(hP:PlL w B P)(hp:∀p∈P,0≤p.1∧p.1<(l.length:Int)∧0≤p.2.1∧qD p.2.1)(hpl:P.length≤1000)(hG:∀j,w.heap.size≤j→G j) :
    Calls prog 58 #[.slice A l.length c,.slice B P.length cb] w (qhk G (aY l P) w):=by
 have HL:=QH hl;have HP:=QH hP;have HPP:=QH hp;have HG:=QH hG;clear hl hP hp hG;go_enter func58,ntmps58;go_wp2_with fail;go_loopw [0,9] (fun s i wr=>PuR G l P w s i wr) (fun _ i _=>P.length-(intOf i).toNat);case atStart=>exact⟨0,A,c,Nat.zero_le _,rfl,rfl,HL.out,Below.refl _ _⟩
 case round =>
  obtain⟨k,A1,c1,hk,rfl,rfl,hs,hB⟩:=hrel;have HS:=QH hs;have HB:=QH hB;clear hs hB;by_cases hlt:k<P.length
  ·have jY:(k:Int)<(P.length:Int):=by omega
   have hk0:¬ (k:Int)<0:=by omega
   obtain⟨b,o,rfl,s1,s2,s3,s4⟩:=(HP.out.below HB.out) k hlt;obtain⟨p0,p1,p2,p3⟩:=HPP.out _ (List.getElem_mem hlt);have wM:Hid (aY l (P.take (k+1))=(aY l (P.take k)).set P[k].1.toNat P[k].2.1):=by unfold Hid;rw[List.take_succ_eq_append_getElem hlt,r8]
   obtain⟨x,hx⟩:=QE (P[k]);rw[hx]at s2 s3 s4 p0 p1 p2 p3 wM;clear hx;obtain⟨bk,at_,s⟩:=x;dsimp only at s2 s3 s4 p0 p1 p2 p3 wM;obtain⟨S,hS⟩:=QE (str s);rw[hS]at s4;clear hS;have rV:=nv (P.take k) l;have hw:qag (aY l (P.take k)) bk at_=((aY l (P.take k)).set bk.toNat at_,0):=by
    unfold qag;rw[if_neg (by omega)]
   have jT:=(Below.refl _ wr).alloc (Nat.le_refl _) (.cells #[.int .i64 bk,.int .i64 at_,.string S] 171);have iW:=qg.new wr 171 #[.int .i64 bk,.int .i64 at_,.string S];obtain⟨W2,hW2⟩:=QE (wr.alloc (.cells #[.int .i64 bk,.int .i64 at_,.string S] 171));rw[hW2]at jT iW;have v0:=iW.cell 0;have v1:=iW.cell 1;have hvl:=iW.lt;simp only[QA,QB,QC]at v0 v1;have hwc:=qyK A1 c1 (aY l (P.take k)) bk at_ W2 (HS.out.at_.below jT) (by omega) (by unfold qD;omega) p3;rw[hw,rV]at hwc;have HWC:=QH hwc;have qG:=QH (q9 HB.out jT);have HL1:Hid (((aY l (P.take k)).set bk.toNat at_).length=l.length):=by unfold Hid;rw[List.length_set,rV]
   clear hw hwc jT iW rV p0 p1 p2 p3;go_upto_region 4 with fail;try rw[hW2]
   clear hW2 s1 s2 s3 s4;go_wp2_with fail;refine HWC.out.mono ?_;rintro e W3 ⟨A3,c3,rfl,hn,hb3⟩;have zf:=QH (q9 qG.out hb3);have HN:Hid (gV G W3 A3 ((aY l (P.take k)).set bk.toNat at_) c3):=gV.qtQ (w0:=w) hn (fun j h1 h2=>HG.out j (Nat.le_trans qG.out.size h1)) (fun b o s e=>by
    obtain⟨b',o',e',_⟩:=hn.ints 0 (by have:=HL1.out;dsimp only;omega);rw[e]at e';injection e' with e'
    injection e')
   have hlen:=HL1.out;dsimp only;rw[hlen];clear hn hb3 HWC hlen;go_wp2_with fail;go_roundw;case rel=>exact⟨k+1,A3,c3,by omega,by go_num,rfl,by rw[wM.out];exact HN.out,zf.out⟩
   case measure=>simp[intOf];omega
  ·obtain rfl:k=P.length:=by omega
   have jY:¬ (P.length:Int)<(P.length:Int):=by omega
   have hs:=HS.out;rw[List.take_length]at hs;have HSS:=QH hs;have HLL:=QH (nv P l);clear hs;go_wp2_with fail;go_ret;exact⟨A1,c1,by rw[HLL.out];rfl,HSS.out,HB.out⟩
def RdR (t:Tg)(l:List Int)(g:Nat)(w:World)(i:Value)(wr:World):Prop :=
 ∃k:Nat,k≤l.length∧i=.int .i64 (k:Int)∧qg wr g 9 (ch.pg.yw ((qy t l).take k++List.replicate (l.length-k) []))∧ib.qB (fun j=>j=g) w wr
theorem cS {o1 o2:Nat→Prop}{w:World}{v pd N:Nat}{d:DD}{m:Mt}{lo:Bool}{t:Tg}(h:VP jg w o1 o2 v pd d m lo)(hJ:jr.JJ N t d){A:Option Addr}{c:Nat}{l:List Int}(hl:yx w A l c)(qqs:l.length≤1000)(hz:∀z∈l,z=0∨(193≤z∧z<(N:Int))) :
    Calls prog 53 #[pt v,.slice A l.length c] w (ch.vk (qy t l,0) w):=by
 have HV:=QH h;have HL:=QH hl;have HZ:=QH hz;have HJ:=QH hJ;have hb1:=(Below.refl _ w).alloc (Nat.le_refl _) (.cells (ch.pg.yw (List.replicate l.length [])) 9);have zN:=qg.new w 9 (ch.pg.yw (List.replicate l.length []));obtain⟨W1,hW1⟩:=QE (w.alloc (.cells (ch.pg.yw (List.replicate l.length [])) 9));rw[hW1]at hb1 zN;have zk:=QH hb1;have HK1:=QH zN;have HVL:Hid ((qy t l).length=l.length):=by unfold Hid qy;rw[List.length_map]
 have qoM:Hid (∀W,Calls prog 100 #[.string ⟨#[0]⟩,.int .i64 32] W fun e w'=>e=.returned (.string (str zb))∧Below W.heap.size W w'):=fun W=>by
  have h:=Tryz.strings_Repeat ⟨#[0]⟩ 32 W (by omega) (by decide);have e:(⟨(Lib.repeatL (⟨#[0]⟩:ByteArray).data.toList 32).toArray⟩:ByteArray)=str zb:=by rfl
  rw[e]at h;exact h
 clear h hl hz hJ hb1 zN;go_enter func53,ntmps53;go_wp2_with (at_make;refine ql rfl (ch.pg.qeb _ _ l.length rfl rfl rfl (by omega)) ?_);try rw[hW1]
 clear hW1;go_loopw [16] (fun i wr=>RdR t l w.heap.size W1 i wr) (fun i _=>l.length-(intOf i).toNat);case atStart=>exact⟨0,Nat.zero_le _,rfl,by simpa using HK1.out,ib.qB.refl _ _⟩
 case round =>
  obtain⟨k,hk,rfl,jV,hU⟩:=hrel;have js:=QH jV;have HU:=QH hU;have HB:Hid (Below w.heap.size w wr):=zk.out.trans (hU.below (fun i e=>by rw[e];exact Nat.le_refl _) zk.out.size);clear jV hU;by_cases hlt:k<l.length
  ·have jY:(k:Int)<(l.length:Int):=by omega
   have hk0:¬ (k:Int)<0:=by omega
   obtain⟨b,o,rfl,s1,s2,s3⟩:=HL.out.ints k hlt;have q1:=Nat.lt_of_lt_of_le s1 HB.out.size;have q2:=(HB.out.cell (p:=⟨b,o+k,none⟩) s1).trans s2;have hzz:=HZ.out _ (List.getElem_mem hlt);have hvl:k<(qy t l).length:=by rw[HVL.out];exact hlt
   have HVK:Hid ((qy t l)[k]=bj t l[k]):=by unfold Hid;simp[qy]
   have HTS:=QH (ch.pg.take_set (l:=qy t l) (n:=l.length) HVL.out hlt);obtain⟨z,hz⟩:=QE (l[k]);rw[hz]at q2 hzz HVK;have f1:=js.out.frozen k;have wD:=js.out.lt;obtain⟨u,hu⟩:∃u,wr.cell? ⟨w.heap.size,k,none⟩=some u:=by
    rw[js.out.cell k,ch.pg.vB _ _ (by rw[List.length_append,List.length_take,List.length_replicate,HVL.out];omega)];exact⟨_,rfl⟩
   have HST:Hid (∀W (s:Bt),qg W w.heap.size 9 (ch.pg.yw ((qy t l).take k++List.replicate (l.length-k) []))→ib.qB (fun j=>j=w.heap.size) W1 W→bj t z=s→qg (W.setCell ⟨w.heap.size,k,none⟩ (.string (str s))) w.heap.size 9 (ch.pg.yw ((qy t l).take (k+1)++List.replicate (l.length-(k+1)) []))∧ib.qB (fun j=>j=w.heap.size) W1 (W.setCell ⟨w.heap.size,k,none⟩ (.string (str s)))):=fun W s h1 h2 h3=>by
    refine⟨?_,h2.setCell _ _ (.inl rfl)⟩;have h:=h1.qo k (.string (str s));have e:s=(qy t l)[k]:=by rw[HVK.out];exact h3.symm
    have e2:((qy t l).take k++List.replicate (l.length-k) []).set k s=(qy t l).take (k+1)++List.replicate (l.length-(k+1)) []:=by rw[e];exact HTS.out
    rw[ch.pg.qdY,e2]at h;exact h
   clear s1 s2 s3 hz hvl HVK HTS;by_cases h0:z=0
   ·subst h0;have hvz:bj t 0=zb:=by unfold bj;rw[if_pos rfl]
    have HVZ:=QH hvz;clear hvz hzz;go_wp2_with fail;refine(qoM.out wr).mono ?_;rintro e W2 ⟨rfl,hb2⟩;have wJ:=QH (js.out.below hb2);have HU2:Hid (ib.qB (fun j=>j=w.heap.size) W1 W2):=HU.out.trans (S':=fun _=>False) (ib.qB.of_below hb2) (fun _ h=>h.elim);obtain⟨hk3,hu3⟩:=HST.out W2 zb wJ.out HU2.out HVZ.out;have og:=QH hk3;have HU3:=QH hu3;have f1:=wJ.out.frozen k;have wD:=wJ.out.lt;obtain⟨u,hu⟩:∃u,W2.cell? ⟨w.heap.size,k,none⟩=some u:=by
     rw[wJ.out.cell k,ch.pg.vB _ _ (by rw[List.length_append,List.length_take,List.length_replicate,HVL.out];omega)];exact⟨_,rfl⟩
    obtain⟨S,hS⟩:=QE (str zb);rw[hS]at og HU3 ⊢;clear hb2 hk3 hu3 HST HVZ hS qoM;go_wp2_with fail;go_roundw;case rel=>exact⟨k+1,by omega,by go_num,og.out,HU3.out⟩
    case measure=>simp[intOf];omega
   ·have hzr:193≤z∧z<(N:Int):=by
       rcases hzz with h|h
       ·exact absurd h h0
       ·exact h
    have hvz:bj t z=t z:=by unfold bj;rw[if_neg h0]
    have HVZ:=QH hvz;have hV2:=qN HV.out HB.out;obtain⟨p1,p2,p3⟩:=qfv hV2;have ck:=fA hV2.dk z;rw[tq HJ.out z (by omega) hzr.2]at ck;unfold dk.uW at ck;have xJ:=QH ck;dsimp only at xJ;have hz0:(z == 0)=false:=beq_false_of_ne h0;clear hvz hzz hV2 ck hzr h0;go_wp2_with fail;refine xJ.out.mono ?_;rintro e W2 ⟨rfl,hb2⟩;have wJ:=QH (js.out.below hb2);have HU2:Hid (ib.qB (fun j=>j=w.heap.size) W1 W2):=HU.out.trans (S':=fun _=>False) (ib.qB.of_below hb2) (fun _ h=>h.elim);obtain⟨hk3,hu3⟩:=HST.out W2 (t z) wJ.out HU2.out HVZ.out;have og:=QH hk3;have HU3:=QH hu3;have f1:=wJ.out.frozen k;have wD:=wJ.out.lt;obtain⟨u,hu⟩:∃u,W2.cell? ⟨w.heap.size,k,none⟩=some u:=by
     rw[wJ.out.cell k,ch.pg.vB _ _ (by rw[List.length_append,List.length_take,List.length_replicate,HVL.out];omega)];exact⟨_,rfl⟩
    obtain⟨S,hS⟩:=QE (str (t z));rw[hS]at og HU3 ⊢;clear hb2 hk3 hu3 HST HVZ hS qoM xJ;go_wp2_with fail;go_roundw;case rel=>exact⟨k+1,by omega,by go_num,og.out,HU3.out⟩
    case measure=>simp[intOf];omega
  ·obtain rfl:k=l.length:=by omega
   have jY:¬ (l.length:Int)<(l.length:Int):=by omega
   have HT:Hid (TxL wr (some ⟨w.heap.size,0,none⟩) (qy t l)):=fun i hi=>⟨w.heap.size,0,rfl,js.out.lt,by
    have hvl:=HVL.out;rw[Nat.zero_add,js.out.cell i,ch.pg.vB _ _ (by rw[List.length_append,List.length_take];omega)];rw[List.getElem_append_left (by rw[List.length_take];omega),List.getElem_take]⟩
   have HLT:=QH js.out.lt;clear js qoM;go_wp2_with fail;go_ret2;refine⟨_,l.length,by dsimp only;rw[HVL.out];rfl,HT.out,fun b o e=>?_,HB.out⟩;simp only[Option.some.injEq,Addr.mk.injEq,and_true]at e;obtain⟨rfl,_⟩:=e;exact⟨Nat.le_refl _,HLT.out⟩
end Go.Proofs.YtdagdllomphidaaGreatDoor.vt.pg
namespace Go.Proofs.YtdagdllomphidaaGreatDoor.vt.pg
open _root_.Go.Proofs.Tryz Go Go.RowKit ib mt im sp
def bm (f:Tk)(A:Option Addr)(n c:Nat):Array Value:=#[.int .u64 (f.base.1:Int),.int .u64 (f.base.2:Int),.int .u64 (f.target.1:Int),.int .u64 (f.target.2:Int),.int .i64 f.next,.int .i64 f.all,.slice A n c]
theorem aB {W:World}{g:Nat}{A0 A1 A2 A:Option Addr}{c0 c1 c2 c:Nat}{m:Mt}(t:Tk)(h:qg W g 98 (zi A0 A1 A2 c0 c1 c2 m)):qg (xS W g (.slice A t.qj.length c) t) g 98 (zi A0 A1 A c0 c1 c { m with tok:=t }):=by
 have h9:=((((((h.qo 2 (.int .u64 (t.base.1:Int))).qo 3 (.int .u64 (t.base.2:Int))).qo 4 (.int .u64 (t.target.1:Int))).qo 5 (.int .u64 (t.target.2:Int))).qo 6 (.int .i64 t.next)).qo 7 (.int .i64 t.all)).qo 8 (.slice A t.qj.length c);simp only[zi,List.setIfInBounds_toArray,List.set_cons_succ,List.set_cons_zero]at h9;exact h9
theorem qbE{G:Nat→Prop}{W:World}{g:Nat}{v:Value}{t:Tk}(hg:∀j,G j→j≠g):kV G W (xS W g v t):=by
 refine⟨by simp[xS,World.setCell],fun j hj _=>?_⟩;have hn:=hg j hj;unfold xS;rw[qE _ _ _ _ _ hn,qE _ _ _ _ _ hn,qE _ _ _ _ _ hn,qE _ _ _ _ _ hn,qE _ _ _ _ _ hn,qE _ _ _ _ _ hn,qE _ _ _ _ _ hn]
theorem qec(w W:World)(g:Nat)(v:Value)(t:Tk)(h:ib.qB (fun j=>j=g) w W):ib.qB (fun j=>j=g) w (xS W g v t) :=
 ((((((h.setCell ⟨g,2,none⟩ _ (.inl rfl)).setCell ⟨g,3,none⟩ _ (.inl rfl)).setCell ⟨g,4,none⟩ _ (.inl rfl)).setCell ⟨g,5,none⟩ _ (.inl rfl)).setCell ⟨g,6,none⟩ _ (.inl rfl)).setCell ⟨g,7,none⟩ _ (.inl rfl)).setCell ⟨g,8,none⟩ _ (.inl rfl)
theorem tD {W0 W:World}{g:Nat}{v:Value}{t:Tk}(h:Below W0.heap.size W0 W)(hg:W0.heap.size≤g):Below W0.heap.size W0 (xS W g v t) :=
 ((((((h.setCell (p:=⟨g,2,none⟩) hg _).setCell (p:=⟨g,3,none⟩) hg _).setCell (p:=⟨g,4,none⟩) hg _).setCell (p:=⟨g,5,none⟩) hg _).setCell (p:=⟨g,6,none⟩) hg _).setCell (p:=⟨g,7,none⟩) hg _).setCell (p:=⟨g,8,none⟩) hg _
structure TkB(t:Tk):Prop where
 base:xn t.base
 target:xn t.target
 next:qD t.next
 all:qD t.all
theorem qbF{G:Nat→Prop}{W0 w:World}{g pb:Nat}{m:Mt}{t:Tk}{A:Option Addr}{c:Nat}(hb:Below W0.heap.size W0 w)(hg:W0.heap.size≤g)(hN:Nx G w g m)(hp:qg W0 pb 59 (bm t A t.qj.length c))(hl:yx W0 A t.qj c)(h1:t.qj.length≤1000)(hB:TkB t)(hG:∀j,W0.heap.size≤j→G j) :
    Calls prog 110 #[pt g,pt pb] w (qhh G g { m with tok:=t } w):=by
 obtain⟨A0,A1,A2,c0,c1,c2,hk,ht⟩:=hN.ex;have hpw:=hp.below hb;have hb2:=tD (v:=.slice A t.qj.length c) (t:=t) hb hg;have nR:=QH (hp.below hb2);have HC:=QH (vV A c t.qj _ (hl.below hb2) h1);have hk2:=aB (A:=A) (c:=c) t hk;have lM:jK (fun j=>G j∧j≠g) (xS w g (.slice A t.qj.length c) t) A0 A1 A2 c0 c1 c2 m:=ht.stay (qbE fun j hj=>hj.2);have wJ:=QH hk2;have tW:=QH lM;have qG:=QH (qec w w g (.slice A t.qj.length c) t (ib.qB.refl _ w));have HLE:Hid (W0.heap.size≤w.heap.size∧g<w.heap.size∧w.heap.size≤(xS w g (.slice A t.qj.length c) t).heap.size):=⟨hb.size,hk.lt,qG.out.size⟩;have HG:=QH hG;have HZ:=QH (hl.ints.mem);have HTB:=QH hB;have p0:=hpw.cell 0;have p1:=hpw.cell 1;have p2:=hpw.cell 2;have p3:=hpw.cell 3;have p4:=hpw.cell 4;have p5:=hpw.cell 5;have p6:=hpw.cell 6;have k2:=hk.cell 2;have k3:=hk.cell 3;have k4:=hk.cell 4;have k5:=hk.cell 5;have k6:=hk.cell 6;have k7:=hk.cell 7;have k8:=hk.cell 8;have f2:=hk.frozen 2;have f3:=hk.frozen 3;have f4:=hk.frozen 4;have f5:=hk.frozen 5;have f6:=hk.frozen 6;have f7:=hk.frozen 7;have f8:=hk.frozen 8;have wD:=hk.lt;have hpl:=hpw.lt;simp only[zi,bm,QA,QB,QC]at k2 k3 k4 k5 k6 k7 k8 p0 p1 p2 p3 p4 p5 p6;clear hb hg hN hp hl hG hB hk ht hpw hb2 hk2 lM h1;go_enter func110,ntmps110;go_upto_region 1 with fail;show Code.wp _ _ _ _ (xS w g (.slice A t.qj.length c) t);obtain⟨W1,hW1⟩:=QE (xS w g (.slice A t.qj.length c) t);rw[hW1]at nR HC wJ tW qG HLE ⊢;clear hW1 p0 p1 p2 p3 p4 p5 p6 k2 k3 k4 k5 k6 k7 k8 f2 f3 f4 f5 f6 f7 f8 wD hpl;have q6:=nR.out.cell 6;have ig:=nR.out.lt;simp only[bm,QA,QB,QC]at q6;go_wp2_with fail;refine HC.out.mono ?_;rintro e W2 nT;obtain rfl:=nT.1;have hb3:=nT.2.2;have hk3:=wJ.out.below hb3;have hle:=HLE.out;have hs:=nT.sl HZ.out (fun j=>G j∧j≠g) ⟨HG.out _ (by omega),by omega⟩;have ht3:=tW.out.below hb3;have hbb:=HTB.out;have HN2:Hid (Nx G (W2.setCell ⟨g,8,none⟩ (.slice (some ⟨W1.heap.size,0,none⟩) t.qj.length t.qj.length)) g { m with tok:=t }) :=
  ⟨A0,A1,_,c0,c1,_,by have:=hk3.qo 8 (.slice (some ⟨W1.heap.size,0,none⟩) t.qj.length t.qj.length);simpa[zi]using this,(jK.mk (m:={ m with tok:=t }) ht3.live ht3.qa ht3.room hs hbb.base hbb.target hbb.next hbb.all).stay (vr fun j hj=>hj.2)⟩
 have zf:Hid (ib.qB (fun j=>j=g) w (W2.setCell ⟨g,8,none⟩ (.slice (some ⟨W1.heap.size,0,none⟩) t.qj.length t.qj.length))):=(qG.out.trans (ib.qB.of_below (S:=fun _=>False) hb3) (fun _ h=>h.elim)).setCell _ _ (.inl rfl);have k8:=hk3.cell 8;have f8:=hk3.frozen 8;have wD:=hk3.lt;simp only[zi,QA,QB,QC]at k8;clear nT hb3 hk3 hs ht3 HC wJ tW nR qG hle hbb q6 ig;go_wp2_with fail
 go_end0
 exact⟨rfl,HN2.out,zf.out⟩
theorem ub {G:Nat→Prop}{w:World}{t:Tk}{A:Option Addr}{c:Nat}(hl:yx w A t.qj c)(h1:t.qj.length≤1000)(hB:TkB t)(hG:∀j,w.heap.size≤j→G j) :
    Calls prog 60 #[.agg (bm t A t.qj.length c)] w (MkP G (fun m m'=>m'={ m with tok:=t }) w):=by
 have HB:=QH ((Below.refl w.heap.size w).alloc (Nat.le_refl _) (.cells (bm t A t.qj.length c) 59));have HK:=QH (qg.new w 59 (bm t A t.qj.length c));have HL:=QH hl;have HG:=QH hG;have HTB:=QH hB;obtain⟨W1,hW1⟩:=QE (w.alloc (.cells (bm t A t.qj.length c) 59));rw[hW1]at HB HK;unfold bm at hW1;clear hl hG hB;unfold bm;go_enter func60,ntmps60;go_wp2_with fail;try rw[hW1]
 go_ret;refine⟨_,rfl,fun m m' hR=>?_,HB.out⟩;subst hR;exact⟨_,_,rfl,fun a W=>by go_simp,fun W g hb hg hN=>qbF hb hg hN HK.out (HL.out.below HB.out) h1 HTB.out (fun j hj=>HG.out j (Nat.le_trans HB.out.size hj))⟩
theorem ny:∀(l:List bg) (i:Nat) (h:i<l.length),(qW l).set (i*4+3) (.bool true)=qW (l.set i ({ l[i].1 with hid:=true },l[i].2))
 | x::l,0,_=>rfl
 | x::l,i+1,h=>by
  have ih:=ny l i (by simpa using h);show(bh x++qW l).set ((i+1)*4+3) (.bool true)=bh x++_;rw[show(i+1)*4+3=(i*4+3)+4 by omega];show bh x++(qW l).set (i*4+3) (.bool true)=_;rw[ih];rfl
theorem ql8(xs:List bg)(i:Nat)(h:i<xs.length):(xs.set i ({ xs[i].1 with hid:=true },xs[i].2)).map (·.1)=xA (xs.map (·.1)) i:=by
 apply List.ext_getElem
 ·simp[xA]
 ·intro j h1 h2;simp only[xA,List.getElem_map,List.getElem_modify,List.getElem_set];by_cases e:i=j
  ·subst e;simp
  ·simp[e]
theorem qed{G:Nat→Prop}{w:World}{g pb n:Nat}{m:Mt}(hN:Nx G w g m)(hp:w.cell? ⟨pb,0,none⟩=some (.int .i64 (n:Int)))(hpb:pb<w.heap.size)(hpg:pb≠g)(hn:n<m.qa.length)(nS:m.qa.length≤100)(hG:∀j,w.heap.size≤j→G j) :
    Calls prog 122 #[pt g,pt pb] w (qhh G g { m with qa:=xA m.qa n } w):=by
 obtain⟨A0,A1,A2,c0,c1,c2,hk,ht⟩:=hN.ex;have HC:=QH (aU (c:=c1) ht.qa (by omega) nS);have HK:=QH hk;have HT:=QH ht;have HG:=QH hG;have HP:=QH hp;have tr:=QH hpb;have HPG:=QH hpg;have k1:=hk.cell 1;have wD:=hk.lt;simp only[zi,QA,QB,QC]at k1;clear hN hk ht hG hp hpb hpg;go_enter func122,ntmps122;go_wp2_with fail;refine HC.out.mono ?_;rintro e W1 ⟨g2,c,xs,cur,rfl,hg2,hk2,lM,hm,hx,hcc,hb⟩;have zN:=HK.out.below hb;have wD:=HK.out.lt;have hne:g2≠g:=by omega
 have wN:xs.length=m.qa.length:=by rw[← hm,List.length_map]
 have hnx:n<xs.length:=by omega
 have hlen:(xA m.qa n).length=m.qa.length:=by unfold xA;rw[List.length_modify]
 have cT:=(zN.qo 1 (.slice (some ⟨g2,0,none⟩) m.qa.length c)).of_block (qE _ g2 (n*4+3) (.bool true) g hne.symm);have qhK:qg (W1.setCell ⟨g,1,none⟩ (.slice (some ⟨g2,0,none⟩) m.qa.length c)) g2 145 cur:=hk2.of_block (qE _ _ _ _ _ hne);have quH:=qhK.qo (n*4+3) (.bool true);have hpw:(W1.setCell ⟨g,1,none⟩ (.slice (some ⟨g2,0,none⟩) m.qa.length c)).cell? ⟨pb,0,none⟩=some (.int .i64 (n:Int)):=by
  rw[World.cell?_of_block (a:=⟨pb,0,none⟩) (qE _ _ _ _ _ HPG.out)];exact(hb.cell (p:=⟨pb,0,none⟩) tr.out).trans HP.out
 have xZ:ib.qB (fun j=>j=g) w ((W1.setCell ⟨g,1,none⟩ (.slice (some ⟨g2,0,none⟩) m.qa.length c)).setCell ⟨g2,n*4+3,none⟩ (.bool true)) :=
  ((ib.qB.of_below (S:=fun j=>j=g) hb).setCell ⟨g,1,none⟩ _ (.inl rfl)).setCell ⟨g2,n*4+3,none⟩ _ (.inr hg2)
 have hst:kV (fun j=>G j∧j≠g) w ((W1.setCell ⟨g,1,none⟩ (.slice (some ⟨g2,0,none⟩) m.qa.length c)).setCell ⟨g2,n*4+3,none⟩ (.bool true)):=kV.lu xZ (fun j hj=>hj.2);have qyR:(cur.setIfInBounds (n*4+3) (.bool true)).toList.take (m.qa.length*4)=qW (xs.set n ({ xs[n].1 with hid:=true },xs[n].2)):=by
  rw[Array.toList_setIfInBounds,List.take_set,lM];exact ny xs n hnx
 have hsn:=eu.qd3 (G:=fun j=>G j∧j≠g) ⟨HG.out g2 hg2,hne⟩ quH.lt (yQ quH qyR) (fun x hx'=>by
  rcases List.mem_or_eq_of_mem_set hx' with h|h
  ·exact(hx x h).stay hst
  ·obtain⟨B,c',h1,h2,h3⟩:=(hx _ (List.getElem_mem hnx)).stay hst;rw[h];exact⟨B,c',h1,h2,h3⟩)
 rw[ql8 xs n hnx,hm]at hsn;have ht3:=HT.out.stay hst;have HN2:Hid (Nx G ((W1.setCell ⟨g,1,none⟩ (.slice (some ⟨g2,0,none⟩) m.qa.length c)).setCell ⟨g2,n*4+3,none⟩ (.bool true)) g { m with qa:=xA m.qa n }) :=
  ⟨A0,some ⟨g2,0,none⟩,A2,c0,c,c2,by simpa[zi,hlen]using cT,jK.mk (m:={ m with qa:=xA m.qa n }) ht3.live hsn ⟨by rw[hlen];exact hcc,fun e=>by cases e⟩ ht3.qj ht3.base ht3.target ht3.next ht3.all⟩
 have qu7:=QH xZ;have f1:=zN.frozen 1;have k1:=zN.cell 1;simp only[zi,QA,QB,QC]at k1;have q1:(W1.setCell ⟨g,1,none⟩ (.slice (some ⟨g2,0,none⟩) m.qa.length c)).cell? ⟨g,1,none⟩=some (.slice (some ⟨g2,0,none⟩) m.qa.length c):=by
  rw[(zN.qo 1 (.slice (some ⟨g2,0,none⟩) m.qa.length c)).cell 1];simp[zi]
 have f2:=qhK.frozen (n*4+3);have f22:=qhK.frozen (n*4+2+1);obtain⟨z,hz⟩:∃z,(W1.setCell ⟨g,1,none⟩ (.slice (some ⟨g2,0,none⟩) m.qa.length c)).cell? ⟨g2,n*4+3,none⟩=some z :=
  ⟨_,yQ qhK lM (n*4+3) _ (xr xs n hnx 3 (by omega))⟩
 have hni:(n:Int)<(m.qa.length:Int):=by omega
 have hn0:¬ (n:Int)<0:=by omega
 have q3d:=zN.lt;have zal:=qhK.lt;have hpl:pb<(W1.setCell ⟨g,1,none⟩ (.slice (some ⟨g2,0,none⟩) m.qa.length c)).heap.size:=by
  have:=tr.out;have:=hb.size;have e:(W1.setCell ⟨g,1,none⟩ (.slice (some ⟨g2,0,none⟩) m.qa.length c)).heap.size=W1.heap.size:=by simp[World.setCell]
  omega
 clear hg2 hk2 lM hm hx hcc hb cT qhK quH xZ hst qyR hsn ht3 HC HK HT hlen wN hnx zN HG HP tr HPG;go_wp2_with fail;go_region;go_wp2_with fail
 go_end0
 exact⟨rfl,HN2.out.drew,qu7.out.drew⟩
theorem qhL{G:Nat→Prop}{w:World}(n:Nat)(hG:∀j,w.heap.size≤j→G j):Calls prog 78 #[.int .i64 (n:Int)] w (MkP G (fun m m'=>n<m.qa.length∧m.qa.length≤100∧m'={ m with qa:=xA m.qa n }) w):=by
 have HB:=QH ((Below.refl w.heap.size w).alloc (Nat.le_refl _) (.cells #[.int .i64 (n:Int)] 3));have HG:=QH hG;clear hG;go_enter func78,ntmps78;go_wp2_with fail;go_ret;refine⟨_,rfl,fun m m' hR=>?_,HB.out⟩;obtain⟨hn,nS,rfl⟩:=hR;refine⟨_,_,rfl,fun a W=>by go_simp,fun W g hb hg hN=>?_⟩;have hbb:=q9 HB.out hb;have hlt:w.heap.size<(w.alloc (.cells #[.int .i64 (n:Int)] 3)).heap.size:=by simp
 exact qed hN ((hb.cell (p:=⟨w.heap.size,0,none⟩) hlt).trans (qd6 _ _)) (Nat.lt_of_lt_of_le hlt hb.size) (by omega) hn nS (fun j hj=>HG.out j (Nat.le_trans hbb.size hj))
end Go.Proofs.YtdagdllomphidaaGreatDoor.vt.pg
namespace Go.Proofs.YtdagdllomphidaaGreatDoor.jr
open _root_.Go.Proofs.Tryz Go Go.RowKit dk wi
theorem w6 {w w':World}{a:Option Addr}{bs:List (List Wr)}(h:qb1 w a bs)(hb:Below w.heap.size w w'):qb1 w' a bs:=fun i hi=>by
 obtain⟨b,o,A,c,h1,h2,h3,h4⟩:=h i hi;exact⟨b,o,A,c,h1,Nat.lt_of_lt_of_le h2 hb.size,by rw[hb.cell (p:=⟨b,o+i,none⟩) h2];exact h3,h4.below hb (Nat.le_refl _)⟩
theorem qee{W:World}{A2 A5 A:Option Addr}{r c2 c5 cl n:Nat}{ly l1 l:List Wr}(h1:ly.length=r)(h2:l1.length=n)(k1:kY W A2 ly)(k2:kY W A5 l1)(k3:kY W A l) :
    qb1 (W.alloc (.cells #[.slice A2 r c2,.slice A5 n c5,.slice A l.length cl] 136)) (some ⟨W.heap.size,0,none⟩) [ly,l1,l]:=by
 subst h1 h2;have hB:=qg.new W 136 #[.slice A2 ly.length c2,.slice A5 l1.length c5,.slice A l.length cl];have hb:=(Below.refl W.heap.size W).alloc (Nat.le_refl _) (.cells #[.slice A2 ly.length c2,.slice A5 l1.length c5,.slice A l.length cl] 136);intro i hi
 match i,hi with
 | 0,_=>exact⟨W.heap.size,0,A2,c2,rfl,by simp,hB.cell 0,k1.below hb (Nat.le_refl _)⟩
 | 1,_=>exact⟨W.heap.size,0,A5,c5,rfl,by simp,hB.cell 1,k2.below hb (Nat.le_refl _)⟩
 | 2,_=>exact⟨W.heap.size,0,A,cl,rfl,by simp,hB.cell 2,k3.below hb (Nat.le_refl _)⟩
 | i+3,h=>exact absurd h (by simp only[List.length_cons,List.length_nil];omega)
def aZ (a r:Nat)(A8:Option Addr)(c8:Nat)(S:ByteArray)(A:Option Addr)(cl:Nat)(l:List Wr)(ly:List Wr)(hd:Bt):Nat→Value→World→Prop
 | 0,v,_=>v=.agg #[.int .i64 ((1-a:Nat):Int),.int .i64 (r:Int)]
 | 1,v,_=>v=.slice A8 r c8
 | 2,v,W=>∃A2 c2,v=.slice A2 r c2∧kY W A2 ly
 | 3,v,_=>v=.agg #[.int .i64 ((1-a:Nat):Int),.int .i64 (r:Int)]
 | 4,v,_=>v=.agg #[.int .i64 0,.string S]
 | 5,v,W=>∃A2 c2,v=.slice A2 1 c2∧kY W A2 [(0,hd)]
 | 6,v,_=>v=.slice A l.length cl
 | 7,v,W=>∃b,v=.slice (some ⟨b,0,none⟩) 3 3∧qb1 W (some ⟨b,0,none⟩) [ly,[(0,hd)],l]
 | 8,v,W=>∃b,v=.slice (some ⟨b,0,none⟩) 3 3∧qb1 W (some ⟨b,0,none⟩) [ly,[(0,hd)],l]
 | _,_,_=>True
theorem qhM{a r:Nat}{A8:Option Addr}{c8:Nat}{S:ByteArray}{A:Option Addr}{cl:Nat}{l ly:List Wr}{hd:Bt}(i:Nat)(v:Value)(w w':World)(hi:i<9)(h:aZ a r A8 c8 S A cl l ly hd i v w)(hb:Below w.heap.size w w'):aZ a r A8 c8 S A cl l ly hd i v w':=by
 match i,hi,h with
 | 0,_,h | 1,_,h | 3,_,h | 4,_,h | 6,_,h=>exact h
 | 2,_,⟨A2,c2,h1,h2⟩=>exact⟨A2,c2,h1,h2.below hb (Nat.le_refl _)⟩
 | 5,_,⟨A2,c2,h1,h2⟩=>exact⟨A2,c2,h1,h2.below hb (Nat.le_refl _)⟩
 | 7,_,⟨b,h1,h2⟩=>exact⟨b,h1,w6 h2 hb⟩
 | 8,_,⟨b,h1,h2⟩=>exact⟨b,h1,w6 h2 hb⟩
 | j+9,hi,_=>exact absurd hi (by omega)
theorem tE (x y z:List Wr):(qF [x,y,z]).length=x.length+y.length+z.length+3:=by simp[qF,jv];omega
section
variable {most:Nat} {w:World} {own:Nat→Prop} {p:Nat} {d:DD}
theorem cU (HW:qlo)(HR:qlp)(h:zj most w own p d)(hn:145<d.n)(A:Option Addr)(cl:Nat)(l:List Wr)(hwl:kY w A l)(rV:l.length≤1000000)(ht:xC w)(hm:d.more.length+150≤most)(yF:most≤100000) :
    Calls prog 107 #[.pointer (some ⟨p,0,none⟩),.slice A l.length cl] w (xd most own p (zW d l).2 (.int .i64 (zW d l).1) w):=by
 have HD:=QH h;have HP:=QH (dP h);have nQ:=QH (qb8 h A cl l hwl rV);have hpl:p<w.heap.size:=by obtain⟨_,_,_,hd⟩:=h;exact hd.1.lt
 have q3X:d.n≤1024:=h.1.n1;have HT:=QH ht;have hg:=ht.1;have HH:=QH HR;have HHW:=QH HW;have qyS:=QH hwl;clear ht HR HW h hwl;obtain⟨R,hR⟩:=QE (zW d l);rw[hR];unfold zW at hR;cases zK:d.on with
 | false =>
  rw[zK]at HP;rw[if_pos zK]at hR;subst hR;go_enter func107,ntmps107;go_wp2_with (go_at_call 83;refine HP.out.mono ?_;rintro e w' ⟨rfl,rfl⟩);go_ret;exact xm HD.out (Below.refl _ _)
 | true =>
 rw[zK]at HP;rw[if_neg (by rw[zK];simp)]at hR;by_cases hl0:l.length=0
 ·rw[if_pos hl0]at hR;subst hR;have hl0':((l.length:Int) == 0)=true:=by simp[hl0]
  go_enter func107,ntmps107;go_wp2_with (go_at_call 83;refine HP.out.mono ?_;rintro e w' ⟨rfl,rfl⟩);go_ret;exact xm HD.out (Below.refl _ _)
 rw[if_neg hl0]at hR;have hl0':((l.length:Int) == 0)=false:=by simp only[beq_eq_false_iff_ne,ne_eq];omega
 by_cases qu3:60<l.length
 ·rw[if_pos qu3]at hR;subst hR;have qyT:(60:Int)<(l.length:Int):=by omega
  go_enter func107,ntmps107;go_wp2_with (go_at_call 83;refine HP.out.mono ?_;rintro e w' ⟨rfl,rfl⟩);go_ret;exact xm HD.out (Below.refl _ _)
 rw[if_neg qu3]at hR;have qyT:¬ (60:Int)<(l.length:Int):=by omega
 cases hps:uC d.n l with
 | false =>
  rw[hps]at nQ;rw[if_pos hps]at hR;subst hR;go_enter func107,ntmps107;go_wp2_with (go_at_call 83;refine HP.out.mono ?_;rintro e w' ⟨rfl,rfl⟩);refine nQ.out.mono ?_;rintro e W1 ⟨rfl,b1⟩;go_wp2_with fail;go_ret;exact xm HD.out b1
 | true =>
 rw[hps]at nQ;rw[if_neg (by rw[hps];simp)]at hR;have hall:=gJ hps;have hsm:∀x∈l,x.1<65536∧x.2.length=32:=fun x hx=>by have:=hall x hx;exact⟨by omega,this.2.2⟩
 obtain⟨s1,s72⟩:=aH l (by omega) hsm;have qx4:=vT l (by omega) hsm;have eo:=QH hR;have HON:=QH zK;have qyU:=QH hall;clear hR zK hps hall hsm;go_enter func107,ntmps107;go_wp2_with (go_at_call 83;refine HP.out.mono ?_;rintro e w' ⟨rfl,rfl⟩);refine nQ.out.mono ?_;rintro e W1 ⟨rfl,b1⟩;have zk:=QH b1;clear b1 nQ;go_wp2_with fail;refine(HH.out most W1 own p d (HD.out.below zk.out) HON.out (by omega)).mono ?_;intro e W2 xP;obtain⟨b2,⟨a,c,hq,rfl⟩|⟨hq,x,y,rfl⟩⟩:=ua xP;rotate_left
 ·have ug:=eo.out;rw[hq]at ug;dsimp only at ug;subst ug;have qG:=QH (q9 zk.out b2);clear xP b2 hq eo;go_wp2_with fail;go_ret;exact xm HD.out (zv qG.out _)
 have ug:=eo.out;rw[hq]at ug;dsimp only at ug;obtain⟨ha,hc,_⟩:=kE hq;rw[if_neg (by omega)]at ug;have qG:=QH (q9 zk.out b2);clear b2 xP hq eo;have eo:=QH ug;clear ug;have dn:qg (W2.alloc (.cells #[.int .i64 (a:Int),.int .i64 (c:Int)] 149)) W2.heap.size _ _:=qg.new W2 _ _;have HK6:=QH dn;have zf:=QH (zv qG.out (.cells #[.int .i64 (a:Int),.int .i64 (c:Int)] 149));clear dn;go_wp2_with fail;refine(km A cl l _ (qyS.out.below zf.out (Nat.le_refl _)) (by omega) (fun x hx=>by have:=qyU.out x hx;exact⟨by omega,this.2.2⟩)).mono ?_;rintro e W4 ⟨rfl,b4⟩;have zU:=QH (q9 zf.out b4);have quI:Hid (qg W4 W2.heap.size _ _):=HK6.out.of_block (b4.block _ HK6.out.lt);clear b4 HK6;go_wp2_with fail;refine(cz (str (qZ l)) W4 (by rw[qO];omega) (HT.out.below zU.out hg)).mono ?_;rintro e W5 ⟨v8,rfl,hos,b5⟩;rw[zo]at hos;obtain⟨A8,c8,rfl,_,_,hsa,_,_⟩:=hos.view;have HSA:=QH hsa;have jt:=QH (q9 zU.out b5);have dn:qg W5 W2.heap.size _ _:=quI.out.of_block (b5.block _ quI.out.lt);clear hos hsa b5 quI;have qyV:=QH (qY (qL (qZ l)) (1+(1-a)*72));have hb8:yz a l=[lay (1-a) (qL (qZ l)),[(0,jR (1-a) (qL (qZ l)).length)],l]:=rfl;rw[hb8]at eo;clear hb8;have qqt:=QH (fun(W:World) (hsw:yI W A8 (qL (qZ l)))=>kr (1-a) (qL (qZ l)).length (by omega) A8 c8 (qL (qZ l)) W hsw (by omega));have hly:(lay (1-a) (qL (qZ l))).length=(qL (qZ l)).length:=qyV.out;have qyW:∀x∈lay (1-a) (qL (qZ l)),qD x.1:=fun x hx=>by
  obtain⟨i,g1,g2,_⟩:=je _ _ _ hx;unfold qD;have:(1-a)*72≤72:=by omega
  omega
 have qyX:=QH qyW;have quJ:=QH (fun(W:World)=>HHW.out (1-a) (qL (qZ l)).length W (by omega) s72);clear qyW qyV HHW;have HHL:=QH (kS (show 1-a<2 by omega) s72).1;generalize lay (1-a) (qL (qZ l))=ly at *;generalize jR (1-a) (qL (qZ l)).length=hd at *;generalize hrr:(qL (qZ l)).length=r at *;have HLY:=QH hly;have q60:=dn.cell 0;have lt6:=dn.lt;have qaY:(1:Int)-(a:Int)=((1-a:Nat):Int):=by omega
 have zao:(r:Int)≤72:=by omega
 have hrw:¬ (72:Int)<(r:Int):=by omega
 have q3Y:=QH qaY;clear hly dn qaY;go_wp2_with fail;have hhl:hd.length=32:=HHL.out;obtain⟨w0,hw0⟩:=QE (W5.alloc (.cells #[.int .i64 (1-(a:Int)),.int .i64 (r:Int)] 149));have qhN:qg w0 W5.heap.size 149 #[.int .i64 (1-(a:Int)),.int .i64 (r:Int)]:=by rw[← hw0];exact qg.new W5 _ _
 rw[q3Y.out]at qhN;have quL:Below W5.heap.size W5 w0:=by rw[← hw0];exact(Below.refl W5.heap.size W5).alloc (Nat.le_refl _) _
 rw[hw0];have uj:=QH (q9 jt.out quL);have qyY:=QH qhN;obtain⟨S,hS⟩:=QE (str hd);rw[hS]at quJ;have HSS:=QH hS;have HWR:=quJ;have qnQ:∀W,Below w0.heap.size w0 W→Calls prog 166 #[.agg #[.int .i64 ((1-a:Nat):Int),.int .i64 (r:Int)],.slice A8 r c8] W fun e W'=>∃A2 c2,e=.returned (.slice A2 r c2)∧kY W' A2 ly∧Below W.heap.size W W':=fun W hb=>by
  refine(qqt.out W ((HSA.out.below quL (Nat.le_refl _)).below hb (Nat.le_refl _))).mono ?_;rintro e W' ⟨v,rfl,ho,hb'⟩;obtain⟨A2,c2,rfl,hw2⟩:=ho.view qyX.out;exact⟨A2,c2,by rw[HLY.out],hw2,hb'⟩
 have ql9:=QH qnQ;have qyZ:∀W,Below w0.heap.size w0 W→kY W A l:=fun W hb=>qyS.out.below (q9 uj.out hb) (Nat.le_refl _);have HWL:=QH qyZ;clear hw0 qhN quL hS quJ qqt qnQ qyZ q60 lt6 hhl;generalize q3Z:W5.heap.size=g10 at *;clear q3Z;refine jD (by kernel_rfl) [55,56,57,58,59,60,61,62,11] (by kernel_rfl) (fun L vs W=>Below w0.heap.size w0 W∧∀i,L i=true→i<9→aZ a r A8 c8 S A cl l ly hd i (vs i) W) ⟨(Below.refl w0.heap.size w0).drew,fun i hi=>by cases hi⟩ ?_ ?_ ?_
 ·intro i o L vs ρ W ho hli qQ hρ hgd hI;obtain⟨hb,bD⟩:=hI;have hG:∀j,L j=true→aZ a r A8 c8 S A cl l ly hd j (vs j) W:=fun j hj=>by
   by_cases h9:j<9
   ·exact bD j hj h9
   ·match j,h9 with
    | j+9,_=>exact trivial
  have hi9:i<9:=(Array.getElem?_eq_some_iff.1 ho).1;have hc:=hρ.const;have hfn:=hρ.fn;have next:∀v W',Below W.heap.size W W'→aZ a r A8 c8 S A cl l ly hd i v W'→Below w0.heap.size w0 W'∧∀j,xW L i j=true→j<9→aZ a r A8 c8 S A cl l ly hd j (yG vs i v j) W':=fun v W' h1 h2=>by
   refine⟨q9 hb h1,fun j hj h9=>?_⟩;by_cases dY:j=i
   ·subst dY;simpa[yG]using h2
   ·simp only[xW,if_neg dY]at hj;simpa[yG,dY]using qhM j _ W W' h9 (bD j hj h9) h1
  have hK:qg W g10 _ _:=qyY.out.of_block (hb.block _ qyY.out.lt);have q0:=hK.cell 0;have q1:=hK.cell 1;have zas:=hK.lt;clear hK;rcases i with _|_|_|_|_|_|_|_|_|i;all_goals (first|omega|skip)
  all_goals simp only[QA,QB,QC,Option.some.injEq]at ho
  all_goals subst ho
  ·have o10:ρ (.tmp 10)=.pointer (some ⟨g10,0,none⟩):=hρ.out 10 rfl;exact qc (w':=W) (by unfold execOp;simp only[o10];go_simp) (next _ _ (Below.refl _ _) rfl)
  ·have o8:ρ (.tmp 8)=.slice A8 r c8:=hρ.out 8 rfl;exact qc (w':=W) (by unfold execOp;simp only[o8];go_simp) (next _ _ (Below.refl _ _) rfl)
  ·have g55:aZ a r A8 c8 S A cl l ly hd 0 (vs 0) W:=hG 0 (qQ 0 (by kernel_rfl));have s55:ρ (.tmp 55)=.agg #[.int .i64 ((1-a:Nat):Int),.int .i64 (r:Int)]:=(hρ.at_ 55 0 rfl).trans g55;have g56:aZ a r A8 c8 S A cl l ly hd 1 (vs 1) W:=hG 1 (qQ 1 (by kernel_rfl));have s56:ρ (.tmp 56)=.slice A8 r c8:=(hρ.at_ 56 1 rfl).trans g56;refine qu (f:=166) (args:=#[.agg #[.int .i64 ((1-a:Nat):Int),.int .i64 (r:Int)],.slice A8 r c8]) (w':=W) (by unfold execOp;simp only[hfn,s55,s56];go_simp) ((ql9.out W hb).mono ?_);rintro x W' ⟨A2,c2,rfl,hw2,hb'⟩;exact⟨_,rfl,next _ _ hb' ⟨A2,c2,rfl,hw2⟩⟩
  ·have o10:ρ (.tmp 10)=.pointer (some ⟨g10,0,none⟩):=hρ.out 10 rfl;exact qc (w':=W) (by unfold execOp;simp only[o10];go_simp) (next _ _ (Below.refl _ _) rfl)
  ·have g58:aZ a r A8 c8 S A cl l ly hd 3 (vs 3) W:=hG 3 (qQ 3 (by kernel_rfl));have s58:ρ (.tmp 58)=.agg #[.int .i64 ((1-a:Nat):Int),.int .i64 (r:Int)]:=(hρ.at_ 58 3 rfl).trans g58;refine qu (f:=128) (args:=#[.agg #[.int .i64 ((1-a:Nat):Int),.int .i64 (r:Int)]]) (w':=W) (by unfold execOp;simp only[hfn,s58];go_simp) ((HWR.out W).mono ?_);rintro x W' ⟨rfl,hb'⟩;exact⟨_,rfl,next _ _ hb' rfl⟩
  ·have g59:aZ a r A8 c8 S A cl l ly hd 4 (vs 4) W:=hG 4 (qQ 4 (by kernel_rfl));have s59:ρ (.tmp 59)=.agg #[.int .i64 0,.string S]:=(hρ.at_ 59 4 rfl).trans g59;exact qc (v:=.slice (some ⟨W.heap.size,0,none⟩) 1 1) (w':=W.alloc (.cells #[.int .i64 0,.string S] 182)) (by unfold execOp;simp only[s59];go_simp) (next _ _ ((Below.refl _ _).alloc (Nat.le_refl _) _) ⟨_,1,rfl,by rw[← HSS.out];exact qbA 0 hd (by unfold qD;omega)⟩)
  ·have o1:ρ (.tmp 1)=.slice A l.length cl:=hρ.out 1 rfl;exact qc (w':=W) (by unfold execOp;simp only[o1];go_simp) (next _ _ (Below.refl _ _) rfl)
  ·obtain⟨A2,c2,g57,hw2⟩:aZ a r A8 c8 S A cl l ly hd 2 (vs 2) W:=hG 2 (qQ 2 (by kernel_rfl));have s57:ρ (.tmp 57)=.slice A2 r c2:=(hρ.at_ 57 2 rfl).trans g57;obtain⟨A5,c5,g60,hw5⟩:aZ a r A8 c8 S A cl l ly hd 5 (vs 5) W:=hG 5 (qQ 5 (by kernel_rfl));have s60:ρ (.tmp 60)=.slice A5 1 c5:=(hρ.at_ 60 5 rfl).trans g60;have g61:aZ a r A8 c8 S A cl l ly hd 6 (vs 6) W:=hG 6 (qQ 6 (by kernel_rfl));have s61:ρ (.tmp 61)=.slice A l.length cl:=(hρ.at_ 61 6 rfl).trans g61;exact qc (v:=.slice (some ⟨W.heap.size,0,none⟩) 3 3) (w':=W.alloc (.cells #[.slice A2 r c2,.slice A5 1 c5,.slice A l.length cl] 136)) (by unfold execOp;simp only[s57,s60,s61];go_simp) (next _ _ ((Below.refl _ _).alloc (Nat.le_refl _) _) ⟨_,rfl,qee HLY.out rfl hw2 hw5 (HWL.out W hb)⟩)
  ·obtain⟨b,g62,q4f⟩:aZ a r A8 c8 S A cl l ly hd 7 (vs 7) W:=hG 7 (qQ 7 (by kernel_rfl));have s62:ρ (.tmp 62)=.slice (some ⟨b,0,none⟩) 3 3:=(hρ.at_ 62 7 rfl).trans g62;exact qc (w':=W) (by unfold execOp;simp only[s62];go_simp) (next _ _ (Below.refl _ _) ⟨b,rfl,q4f⟩)
 ·intro i o L vs W j want ho hli qQ hg hv hI;have hi9:i<9:=(Array.getElem?_eq_some_iff.1 ho).1;rcases i with _|_|_|_|_|_|_|_|_|i;all_goals (first|omega|skip)
  all_goals simp only[QA,QB,QC,Option.some.injEq]at ho
  all_goals subst ho
  all_goals simp only[reduceCtorEq]at hg
 intro vs W9 hI;obtain⟨b9,hG⟩:=hI;obtain⟨b,g8,hbs⟩:aZ a r A8 c8 S A cl l ly hd 8 (vs 8) W9:=hG 8 (by decide) (by decide);have HB9:=QH (uj.out.trans (b9.mono uj.out.size));have HBS:=QH hbs;simp only[zJ,qP,if_true];rw[g8];generalize vs 0=x0 at *;generalize vs 1=x1 at *;generalize vs 2=x2 at *;generalize vs 3=x3 at *;generalize vs 4=x4 at *;generalize vs 5=x5 at *;generalize vs 6=x6 at *;generalize vs 7=x7 at *;clear hG g8 b9 hbs;go_wp2_with fail;have hbl:∀m∈[ly,[(0,hd)],l],m.length≤1000:=fun m hm2=>by
  simp only[List.mem_cons,List.not_mem_nil,or_false]at hm2;rcases hm2 with rfl|rfl|rfl
  ·rw[HLY.out];omega
  ·simp
  ·omega
 have HBL:=QH hbl;clear hbl;refine(kM (some ⟨b,0,none⟩) 3 [ly,[(0,hd)],l] W9 HBS.out (by simp) HBL.out).mono ?_;rintro e W10 ⟨v10,rfl,qzb,b10⟩;obtain⟨A10,c10,rfl,hints⟩:=qzb.view (fun z hz=>by
  simp only[placesOf,List.flatten_cons,List.flatten_nil,List.map_append,List.mem_append,List.mem_map,List.map_nil,List.not_mem_nil,or_false]at hz;rcases hz with⟨x,hx,rfl⟩|⟨x,hx,rfl⟩|⟨x,hx,rfl⟩
  ·exact qyX.out x hx
  ·obtain rfl:x=_:=by simpa using hx
   unfold qD;dsimp only;omega
  ·have:=qyU.out x hx;unfold qD;omega)
 have HI:=QH hints;have qef:=QH (q9 HB9.out b10);have qqv:=QH (w6 HBS.out b10);have hzl:=vY [ly,[(0,hd)],l] HBL.out;simp only[List.length_cons,List.length_nil]at hzl;clear qzb hints b10 HBS;go_wp2_with fail;refine(bP (HD.out.below qef.out) A10 c10 _ HI.out (by omega)).mono ?_;rintro e W11 ⟨rfl,b11⟩;have qeg:=QH (q9 qef.out b11);have qzc:=QH (w6 qqv.out b11);clear b11 qqv;cases qkl:d.fits (placesOf [ly,[(0,hd)],l])with
 | false =>
  have ug:=eo.out;rw[if_pos qkl]at ug;subst ug;go_wp2_with fail;go_ret;exact xm HD.out qeg.out
 | true =>
  have ug:=eo.out;rw[if_neg (by rw[qkl];simp)]at ug;have q4j:=QH ug;clear ug eo;go_wp2_with fail;refine(df p _ 3 [ly,[(0,hd)],l] _ (Nat.lt_of_lt_of_le hpl qeg.out.size) qzc.out (by simp) HBL.out).mono ?_;rintro e W12 ⟨v,rfl,hgg⟩;have HG:=QH hgg;clear hgg;go_wp2_with fail;refine(fz (HD.out.below qeg.out) HG.out (by rw[tE,HLY.out];simp;omega) yF).mono ?_;rintro e W13 xP;have HPO:=QH (xd.from xP qeg.out HD.out.low);obtain⟨rfl,_⟩:=xP;rw[q4j.out]at HPO ⊢;go_wp2_with fail;go_ret;exact HPO.out
end
end Go.Proofs.YtdagdllomphidaaGreatDoor.jr
namespace Go.Proofs.YtdagdllomphidaaGreatDoor.jr
open _root_.Go.Proofs.Tryz Go Go.RowKit dk wi
theorem qlA(a b:List UInt8):str a++str b=str (a++b):=by
 apply ByteArray.ext;apply Array.ext';simp[str]
theorem qlB(l:List UInt8)(n:Nat)(h:l=[0]):Lib.repeatL l n=List.replicate n 0:=by
 subst h
 induction n with
 | zero=>rfl
 | succ n ih=>rw[List.replicate_succ,← ih];rfl
theorem qf0:qlo:=by
 intro a c w ha hc;have e1:(a:Int)+1=((a+1:Nat):Int):=by omega
 have E1:=QH e1;have ha1:(a:Int)≤1:=by omega
 have hc1:(c:Int)≤72:=by omega
 clear e1;go_enter func128,ntmps128;go_wp2_with fail;rw[E1.out];have hA:qg ((w.alloc (.cells #[.int .i64 (a:Int),.int .i64 (c:Int)] 149)).alloc (.cells #[.int .i64 0,.string ⟨#[]⟩] 182)) w.heap.size 149 #[.int .i64 (a:Int),.int .i64 (c:Int)]:=by
  have k:=qg.new w 149 #[.int .i64 (a:Int),.int .i64 (c:Int)];exact k.of_block (((Below.refl _ (w.alloc (.cells #[.int .i64 (a:Int),.int .i64 (c:Int)] 149))).alloc (Nat.le_refl _) _).block _ k.lt)
 have hA2:qg ((w.alloc (.cells #[.int .i64 (a:Int),.int .i64 (c:Int)] 149)).alloc (.cells #[.int .i64 0,.string ⟨#[]⟩] 182)) (w.heap.size+1) 182 #[.int .i64 0,.string ⟨#[]⟩]:=by
  have:=qg.new (w.alloc (.cells #[.int .i64 (a:Int),.int .i64 (c:Int)] 149)) 182 #[.int .i64 0,.string ⟨#[]⟩];simpa using this
 have hB0:Below w.heap.size w ((w.alloc (.cells #[.int .i64 (a:Int),.int .i64 (c:Int)] 149)).alloc (.cells #[.int .i64 0,.string ⟨#[]⟩] 182)):=((Below.refl w.heap.size w).alloc (Nat.le_refl _) _).alloc (by simp) _;refine(jz ⟨#[]⟩ (a+1) _ (by omega) (by decide)).mono ?_;rintro e W1 ⟨rfl,b1⟩;have HA:=QH (hA.of_block (b1.block _ hA.lt));have dC:=QH (hA2.of_block (b1.block _ hA2.lt));have HB:=QH (q9 hB0 b1);have q1:=HA.out.cell 1;have lt1:=HA.out.lt;obtain⟨S1,hS1⟩:=QE (str (bl ⟨#[]⟩++zn (a+1)));have hl1:=qz (a+1);have za6:S1.size≤9:=by
  rw[← hS1,qO,List.length_append];have:(bl ⟨#[]⟩).length=0:=rfl;omega
 rw[hS1];have eJ:=QH hS1;clear hA hA2 hB0 b1 hS1;go_wp2_with fail;refine(jz S1 c _ (by omega) (by omega)).mono ?_;rintro e W2 ⟨rfl,b2⟩;have HC:=QH (dC.out.of_block (b2.block _ dC.out.lt));have qG:=QH (q9 HB.out b2);have lt2:=HC.out.lt;have q2:=HC.out.frozen 0;obtain⟨S2,sH⟩:=QE (str (bl S1++zn c));have hl2:=qz c;have q3z:S2.size≤18:=by rw[← sH,qO,List.length_append,zq];omega
 have za7:(S2.size:Int)≤18:=by omega
 rw[sH];have uk:=QH sH;clear sH b2 q1 lt1;go_wp2_with fail;have en:(32:Int)-(S2.size:Int)=((32-S2.size:Nat):Int):=by omega
 rw[en];refine(Tryz.strings_Repeat ⟨#[0]⟩ (32-S2.size) _ (by omega) (by have:(⟨#[0]⟩:ByteArray).size=1:=rfl;rw[this];omega)).mono ?_;rintro e W3 ⟨rfl,b3⟩;obtain⟨R,hR⟩:=QE ((⟨(Lib.repeatL (⟨#[0]⟩:ByteArray).data.toList (32-S2.size)).toArray⟩:ByteArray):ByteArray);rw[hR];have hRs:R.size=32-S2.size:=by
  rw[← hR,qlB _ _ rfl];show(List.replicate (32-S2.size) (0:UInt8)).toArray.size=_;rw[List.size_toArray,List.length_replicate]
 have HR:=QH hR;have HD:=QH (HC.out.of_block (b3.block _ lt2));have zf:=QH (q9 qG.out b3);have lt3:=HD.out.lt;have q3:=HD.out.frozen 0;have q4:=HD.out.frozen 1;have q5:=HD.out.cell 0;have q6:=HD.out.cell 1;clear b3 hR q2 lt2;go_wp2_with fail;have hE:=(HD.out.qo 0 (.int .i64 0)).qo 1 (.string (S2++R));have q7:=hE.cell 0;have q8:=hE.cell 1;have hout:str (jR a c)=S2++R:=by
  have hz:S2.size=(zn (a+1)).length+(zn c).length:=by
   rw[← uk.out,qO,List.length_append,zq,← eJ.out,qO,List.length_append];have:(bl ⟨#[]⟩).length=0:=rfl;omega
  have h2:S2=str (zn (a+1)++zn c):=by rw[← uk.out,← eJ.out,zo];rfl
  have h3:R=str (List.replicate (32-(zn (a+1)).length-(zn c).length) 0):=by
   rw[← HR.out,qlB _ _ rfl,hz,Nat.sub_add_eq];rfl
  rw[h2,h3,qlA];rfl
 have HO:=QH hout;clear hout hE
 (try simp only[Exit.inBlock,Exit.then])
 refine bodyPost_ret (v:=.agg #[.int .i64 0,.string (S2++R)]) (by simp[results,results128,go_sem,q7,q8]) rfl ⟨by rw[HO.out],(zf.out.setCell (p:=⟨w.heap.size+1,0,none⟩) (Nat.le_succ _) _).setCell (p:=⟨w.heap.size+1,1,none⟩) (Nat.le_succ _) _⟩
def m1 (s:Bt):Nat:=match rdNum s with|none=>0|some (m,_)=>m
def c1 (s:Bt):Nat:=match rdNum s with|none=>0|some (_,r)=>match rdNum r with|none=>0|some (c,_)=>c
theorem r9 {a c:Nat}(ha:a<2)(hc:c≤72):m1 (jR a c)=a+1∧c1 (jR a c)=c:=by
 unfold m1 c1 jR;rw[List.append_assoc,kC (a+1) (by omega)];dsimp only;rw[kC c (by omega)];exact⟨rfl,rfl⟩
theorem qoN(s:Bt):wI s=if m1 s<1∨2<m1 s∨72<c1 s then none else if jR (m1 s-1) (c1 s)=s then some (m1 s-1,c1 s)else none:=by
 by_cases h:m1 s<1∨2<m1 s∨72<c1 s
 ·rw[if_pos h];cases hx:wI s with
  | none=>rfl
  | some p =>
   obtain⟨a,c⟩:=p;obtain⟨ha,hc,rfl⟩:=kE hx;have:=r9 ha hc;omega
 ·rw[if_neg h];by_cases he:jR (m1 s-1) (c1 s)=s
  ·rw[if_pos he];have:=(kS (a:=m1 s-1) (c:=c1 s) (by omega) (by omega)).2.1;rw[he]at this;exact this
  ·rw[if_neg he];cases hx:wI s with
   | none=>rfl
   | some p =>
    obtain⟨a,c⟩:=p;obtain⟨ha,hc,rfl⟩:=kE hx;have:=r9 ha hc;rw[this.1,this.2]at he;exact absurd rfl he
def qzd (rb:Nat)(s:Bt)(w:World)(e:Ending)(w':World):Prop :=
 e=.returned (.int .u64 (m1 s:Int))∧m1 s<18446744073709551616∧w.grownBy w' (some rb)∧((∃m r,rdNum s=some (m,r)∧zh rb r false w')∨(rdNum s=none∧∃m,zh rb m true w'))
def qze (rb:Nat)(s:Bt)(w:World)(e:Ending)(w':World):Prop :=
 e=.returned (.int .u64 (c1 s:Int))∧c1 s<18446744073709551616∧w.grownBy w' (some rb)
theorem qzf{rb:Nat}{s:Bt}{w:World}(h:zh rb s false w):Calls prog 127 #[.pointer (some ⟨rb,0,none⟩)] w (qzd rb s w):=by
 refine(uN rb s w h).mono ?_;rintro e w' ⟨hg,⟨z,r1,hn,rfl,hr⟩|⟨hn,rfl,hm⟩⟩
 ·have e1:m1 s=z:=by unfold m1;rw[hn]
  exact⟨by rw[e1],by rw[e1];exact(wR _ _ _ hn).2,hg,.inl ⟨z,r1,hn,hr⟩⟩
 ·have e1:m1 s=0:=by unfold m1;rw[hn]
  exact⟨by rw[e1];rfl,by rw[e1];decide,hg,.inr ⟨hn,hm⟩⟩
theorem qzg{rb:Nat}{s:Bt}{w:World}(h:(∃m r,rdNum s=some (m,r)∧zh rb r false w)∨(rdNum s=none∧∃m,zh rb m true w)):Calls prog 127 #[.pointer (some ⟨rb,0,none⟩)] w (qze rb s w):=by
 rcases h with⟨m,r,hs,h⟩|⟨hs,m,h⟩
 ·refine(uN rb r w h).mono ?_;rintro e w' ⟨hg,⟨z,r1,hn,rfl,hr⟩|⟨hn,rfl,hm⟩⟩
  ·have e1:c1 s=z:=by unfold c1;rw[hs];dsimp only;rw[hn]
   exact⟨by rw[e1],by rw[e1];exact(wR _ _ _ hn).2,hg⟩
  ·have e1:c1 s=0:=by unfold c1;rw[hs];dsimp only;rw[hn]
   exact⟨by rw[e1];rfl,by rw[e1];decide,hg⟩
 ·refine(lp rb m w h).mono ?_;rintro e w' ⟨rfl,rfl⟩;have e1:c1 s=0:=by unfold c1;rw[hs]
  exact⟨by rw[e1];rfl,by rw[e1];decide,vF _ _⟩
theorem qf1:qlp:=by
 intro most w own p d h zK hn;have ck:d.read 0=(rd d.now 0,0):=by
  unfold DD.read;have:d.has 0=true:=by
   simp only[DD.has,Bool.and_eq_true,decide_eq_true_eq];omega
  rw[if_neg (by rw[zK];simp),if_neg (by rw[this];simp)];rfl
 have h32:(rd d.now 0).length=32:=by
  unfold rd;cases hx:dk.look d.now 0 with
  | none=>exact qI
  | some u=>exact h.1.pA hx
 generalize rd d.now 0=x at *;obtain⟨res,hres⟩:=QE (wI x);rw[hres];rw[qoN]at hres;have xB:=QH hres;have HD:=QH h;have xJ:=QH ck;have H32:=QH h32;have hb0:Below w.heap.size w (w.alloc (.cells #[.int .i64 0,.int .i64 0] 149)):=(Below.refl w.heap.size w).alloc (Nat.le_refl _) _;have hk0:qg (w.alloc (.cells #[.int .i64 0,.int .i64 0] 149)) w.heap.size _ _:=qg.new w _ _;have uj:=QH hb0;have HK0:=QH hk0;clear h ck h32 hres hb0 hk0;go_enter func84,ntmps84;go_wp2_with fail;refine(qfr (B:=0) ⟨own,HD.out.below uj.out,fun _ _=>Nat.zero_le _⟩ 0 x (str x) rfl 0 xJ.out).mono ?_;rintro e W1 ⟨rfl,_,b1⟩;have HK1:=QH (HK0.out.of_block (b1.block _ HK0.out.lt));have zk:=QH (q9 uj.out b1);obtain⟨X,hX⟩:=QE (str x);rw[hX];have HX:=QH hX;clear b1 hX;go_wp2_with fail;refine(rJ X W1 (by rw[← HX.out,qO,H32.out];decide)).mono ?_;rintro e W2 ⟨rb,rfl,hrb,hR,b2⟩;have uQ:=QH hR;have wJ:=QH (HK1.out.of_block (b2.block _ HK1.out.lt));have qG:=QH (q9 zk.out b2);have hne:rb≠w.heap.size:=by have:=HK1.out.lt;omega
 clear b2 hR;go_wp2_with fail;have hRx:zh rb x false W2:=by
  have:=uQ.out;rw[← HX.out,zo]at this;exact this
 refine(qzf hRx).mono ?_;rintro e W3 ⟨rfl,q4k,g3,hst⟩;have HST:=QH hst;have og:=QH (wJ.out.of_block (g3.block _ wJ.out.lt (by simpa using Ne.symm hne)));have zf:=QH (qG.out.grown g3 qG.out.size (fun j hj=>by simp at hj;have:=zk.out.size;omega));clear hRx hst g3;go_wp2_with fail;refine(qzg HST.out).mono ?_;rintro e W4 ⟨rfl,q4l,g4⟩;have pw:=QH (og.out.of_block (g4.block _ og.out.lt (by simpa using Ne.symm hne)));have zU:=QH (zf.out.grown g4 zf.out.size (fun j hj=>by simp at hj;have:=zk.out.size;omega));clear g4;obtain⟨m,hm⟩:=QE (m1 x);obtain⟨c,hc⟩:=QE (c1 x);have hres:=xB.out;rw[hm,hc]at hres;rw[hm]at q4k;rw[hc]at q4l;rw[hm,hc];clear xB hm hc HK1 wJ og zk qG zf HST;have lt4:=pw.out.lt;have f0:=pw.out.frozen 0;have f1:=pw.out.frozen 1;have q0:=pw.out.cell 0;have q1:=pw.out.cell 1;have hno:∀W,Below w.heap.size w W→res=none→na res w (.returned (.tuple #[.agg #[.int .i64 0,.int .i64 0],.bool false])) W:=by
  intro W hb hr;subst hr;exact⟨hb,0,0,rfl⟩
 have uK:=QH hno;clear hno;by_cases hlo:m<1
 ·have c1:((m:Int)<1):=by omega
  rw[if_pos (.inl hlo)]at hres;have oC:=QH hres;clear hres;go_wp2_with fail;have hE:=(pw.out.qo 0 (.int .i64 0)).qo 1 (.int .i64 0);have q7:=hE.cell 0;have q8:=hE.cell 1
  (try simp only[Exit.inBlock,Exit.then])
  refine bodyPost_ret (v:=.tuple #[.agg #[.int .i64 0,.int .i64 0],.bool false]) (by simp[results,results84,go_sem,q7,q8]) rfl (uK.out _ ((zU.out.setCell (p:=⟨w.heap.size,0,none⟩) (Nat.le_refl _) _).setCell (p:=⟨w.heap.size,1,none⟩) (Nat.le_refl _) _) oC.out.symm)
 ·by_cases hhi:2<m
  ·have c1:¬ ((m:Int)<1):=by omega
   have c2:(2:Int)<(m:Int):=by omega
   rw[if_pos (.inr (.inl hhi))]at hres;have oC:=QH hres;clear hres;go_wp2_with fail;have hE:=(pw.out.qo 0 (.int .i64 0)).qo 1 (.int .i64 0);have q7:=hE.cell 0;have q8:=hE.cell 1
   (try simp only[Exit.inBlock,Exit.then])
   refine bodyPost_ret (v:=.tuple #[.agg #[.int .i64 0,.int .i64 0],.bool false]) (by simp[results,results84,go_sem,q7,q8]) rfl (uK.out _ ((zU.out.setCell (p:=⟨w.heap.size,0,none⟩) (Nat.le_refl _) _).setCell (p:=⟨w.heap.size,1,none⟩) (Nat.le_refl _) _) oC.out.symm)
  ·by_cases h72:72<c
   ·have c1:¬ ((m:Int)<1):=by omega
    have c2:¬ (2:Int)<(m:Int):=by omega
    have c3:(72:Int)<(c:Int):=by omega
    rw[if_pos (.inr (.inr h72))]at hres;have oC:=QH hres;clear hres;go_wp2_with fail;have hE:=(pw.out.qo 0 (.int .i64 0)).qo 1 (.int .i64 0);have q7:=hE.cell 0;have q8:=hE.cell 1
    (try simp only[Exit.inBlock,Exit.then])
    refine bodyPost_ret (v:=.tuple #[.agg #[.int .i64 0,.int .i64 0],.bool false]) (by simp[results,results84,go_sem,q7,q8]) rfl (uK.out _ ((zU.out.setCell (p:=⟨w.heap.size,0,none⟩) (Nat.le_refl _) _).setCell (p:=⟨w.heap.size,1,none⟩) (Nat.le_refl _) _) oC.out.symm)
   ·have c1:¬ ((m:Int)<1):=by omega
    have c2:¬ (2:Int)<(m:Int):=by omega
    have c3:¬ (72:Int)<(c:Int):=by omega
    rw[if_neg (by omega)]at hres;obtain⟨k,rfl⟩:∃k,m=k+1:=⟨m-1,by omega⟩;have e1:((k+1:Nat):Int)-1=(k:Int):=by omega
    rw[Nat.add_sub_cancel]at hres;have oC:=QH hres;have E1:=QH e1;have hk2:k<2:=by omega
    have q4m:c≤72:=by omega
    clear hres e1;go_wp2_with fail;have kb5:qg (W4.alloc (.cells #[.int .i64 (k:Int),.int .i64 (c:Int)] 149)) W4.heap.size _ _:=qg.new W4 _ _;have hb5:Below w.heap.size w (W4.alloc (.cells #[.int .i64 (k:Int),.int .i64 (c:Int)] 149)):=zU.out.alloc zU.out.size _;have hk5:qg (W4.alloc (.cells #[.int .i64 (k:Int),.int .i64 (c:Int)] 149)) w.heap.size 149 #[.int .i64 0,.int .i64 0]:=pw.out.of_block (((Below.refl W4.heap.size W4).alloc (Nat.le_refl _) _).block _ lt4);have KB5:=QH kb5;have jt:=QH hb5;have HK5:=QH hk5;clear kb5 hb5 hk5 q0 q1 f0 f1 lt4;refine(qf0 k c _ hk2 q4m).mono ?_;rintro e W6 ⟨rfl,b6⟩;have kb6:qg W6 W4.heap.size _ _:=KB5.out.of_block (b6.block _ KB5.out.lt);have dn:qg W6 w.heap.size 149 #[.int .i64 0,.int .i64 0]:=HK5.out.of_block (b6.block _ HK5.out.lt);have vL:=QH (q9 jt.out b6);have HK6:=QH dn;have r0:=kb6.cell 0;have r1:=kb6.cell 1;have lt6:=dn.lt;have za8:=kb6.lt;have q0:=dn.cell 0;have q1:=dn.cell 1;have f0:=dn.frozen 0;have f1:=dn.frozen 1;clear kb6 dn b6 KB5 jt HK5 zU pw;have wC:∀(Z:ByteArray) (W:World),(Instr.field 182 (.agg #[.int .i64 0,.string Z]) 1).run prog W=.ok (.string Z) W:=fun Z W=>by simp[Instr.field,go_sem,asAgg]
    obtain⟨Y,hY⟩:=QE (str (jR k c));rw[hY];have HY:=QH hY;clear hY;by_cases heq:jR k c=x
    ·have hsome:res=some (k,c):=by rw[← oC.out,if_pos heq]
     have hYX:Y=X:=by rw[← HY.out,← HX.out,heq]
     have hq:(Y.toList == X.toList)=true:=by rw[hYX];simp
     have HS:=QH hsome;clear hsome hYX oC heq;go_wp2_with fail;have hE:=(HK6.out.qo 0 (.int .i64 (k:Int))).qo 1 (.int .i64 (c:Int));have q7:=hE.cell 0;have q8:=hE.cell 1
     (try simp only[Exit.inBlock,Exit.then])
     refine bodyPost_ret (v:=.tuple #[.agg #[.int .i64 (k:Int),.int .i64 (c:Int)],.bool true]) (by simp[results,results84,go_sem,q7,q8]) rfl ?_;rw[HS.out];exact⟨(vL.out.setCell (p:=⟨w.heap.size,0,none⟩) (Nat.le_refl _) _).setCell (p:=⟨w.heap.size,1,none⟩) (Nat.le_refl _) _,rfl⟩
    ·have hnone:res=none:=by rw[← oC.out,if_neg heq]
     have hYX:Y≠X:=by
      intro h;rw[← HY.out,← HX.out]at h;exact heq (str_inj h)
     have hq:(Y.toList == X.toList)=false:=by
      rw[beq_eq_false_iff_ne];intro h;apply hYX;rw[← eB Y,← eB X];exact congrArg str (by simpa[bl,ByteArray.toList_eq]using h)
     have HS:=QH hnone;clear hnone hYX oC heq;go_wp2_with fail;have hE:=(HK6.out.qo 0 (.int .i64 0)).qo 1 (.int .i64 0);have q7:=hE.cell 0;have q8:=hE.cell 1
     (try simp only[Exit.inBlock,Exit.then])
     refine bodyPost_ret (v:=.tuple #[.agg #[.int .i64 0,.int .i64 0],.bool false]) (by simp[results,results84,go_sem,q7,q8]) rfl ?_;exact uK.out _ ((vL.out.setCell (p:=⟨w.heap.size,0,none⟩) (Nat.le_refl _) _).setCell (p:=⟨w.heap.size,1,none⟩) (Nat.le_refl _) _) HS.out
end Go.Proofs.YtdagdllomphidaaGreatDoor.jr
namespace Go.Proofs.YtdagdllomphidaaGreatDoor.vt.pg
open _root_.Go.Proofs.Tryz Go Go.RowKit Go.Sort ib mt im sp
theorem cV (t:Tg):∀(ss:List Bt) (o:Nat),ah (fun x=>decide (t x.1=x.2)) (jr.za o ss)=zP t o ss
 | [],_=>rfl
 | s::r,o=>by
  have ih:=cV t r (o+1);unfold ah at ih ⊢;unfold jr.za zP;rw[List.filter_cons,ih];by_cases h:t (o:Int)=s <;> simp[h]
theorem iy {ss:List Bt}{o:Nat}{x:Wr}(h:x∈jr.za o ss):(o:Int)≤x.1∧x.1<((o+ss.length:Nat):Int):=by
 obtain⟨i,hi,h1,_⟩:=jr.je ss o x h;omega
def qbG (G:Nat→Prop)(w:World)(A:Option Addr)(n:Nat)(M:Nat→Mt):Prop:=∀i,i<n→∃b o f,A=some ⟨b,o,none⟩∧b<w.heap.size∧w.cell? ⟨b,o+i,none⟩=some f∧kW G w f (M i) (M (i+1))
theorem qbG.below{G:Nat→Prop}{w w':World}{A:Option Addr}{n:Nat}{M:Nat→Mt}(h:qbG G w A n M)(hb:Below w.heap.size w w'):qbG G w' A n M:=fun i hi=>by
 obtain⟨b,o,f,h1,h2,h3,h4⟩:=h i hi;exact⟨b,o,f,h1,Nat.lt_of_lt_of_le h2 hb.size,(hb.cell (p:=⟨b,o+i,none⟩) h2).trans h3,h4.below hb⟩
def EfR (G:Nat→Prop)(g:Nat)(n:Nat)(M:Nat→Mt)(w:World)(i:Value)(wr:World):Prop :=
 ∃k:Nat,k≤n∧i=.int .i64 (k:Int)∧Nx G wr g (M k)∧Below w.heap.size w wr
def BlR (B:Nat)(l:List Wr)(P:List Pl)(w:World)(v i:Value)(wr:World):Prop :=
 ∃k:Nat,k≤P.length∧i=.int .i64 (k:Int)∧jr.ir wr B v (l++nt (P.take k))∧Below w.heap.size w wr
theorem qlC{P:List Pl}{k:Nat}(h:k<P.length):nt (P.take (k+1))=nt (P.take k)++(if P[k].2.1=0 then[]else[(P[k].2.1,P[k].2.2)]):=by
 unfold nt;rw[List.take_succ_eq_append_getElem h,List.filterMap_append]
 congr 1
 by_cases e:P[k].2.1=0 <;> simp[e]
theorem iY {b N:Nat}{m:Mt}(h:yD b N m):mtS m:=by
 refine⟨?_,?_,fun s hs=>?_,?_⟩
 ·have:=h.len;have:=h.b8;omega
 ·have:=h.few;omega
 ·have:=(h.uf s hs).1;have:=h.b8;omega
 ·rcases h.tok with ht|ht
  ·rw[ht];simp[zL]
  ·have:=ht.2.2.2.2.2.1;have:=h.b8;omega
def qzi (S:Nat)(o1 o2:Nat→Prop)(v pd:Nat)(Q:Int→DD→Mt→Bool→Prop)(w:World)(e:Ending)(w':World):Prop :=
 ∃r d' m' lost wP uL,e=.returned (.int .i64 r)∧VP jg w' wP uL v pd d' m' lost∧ib.qB (fun j=>o1 j∨o2 j) w w'∧(∀j,wP j∨uL j→(o1 j∨o2 j)∨S≤j)∧Q r d' m' lost
theorem qeh{o1 o2:Nat→Prop}{w:World}{v pd N S b n:Nat}{d:DD}{m m':Mt}{t:Tg}{ws:List Wr}{M:Nat→Mt}(h:VP jg w o1 o2 v pd d m false)(hJ:jr.JJ N t d)(hf:0≤d.qi)(hR:qM b N t m)(hS:S≤w.heap.size)(xE:∀j,o1 j∨o2 j∨j=gN→j<S)
    (hM0:M 0=m) (hMn:M n=m') (jq:yD b N m') (ov:wO N m ws) {A:Option Addr} {c:Nat} (hE:qbG (fun j=>(o1 j∧j≠v)∨S≤j) w A n M) (hn:n≤10) {B:Option Addr} {cb:Nat} {P:List Pl} (hP:PlL w B P) (hpl:P.length≤100) (hPW:nt P=ws) :
    Calls prog 56 #[pt v,.slice B P.length cb,.slice A n c] w (qzi S o1 o2 v pd (xp N t d m ⟨0,m',ws⟩) w):=by
 obtain⟨iw,wi1,wi2,wi3,wi4⟩:=info_parts sZ;obtain⟨A0,A1,A2,c0,c1,c2,hA⟩:=h.is;have HV:=QH h;have HA:=QH hA;have HJ:=QH hJ;have HR:=QH hR;have HE:=QH hE;have HP:=QH hP;have HOK:=QH jq;have HWS:=QH ov;have HPW:=QH hPW;have HS:=QH hS;have qzk:=QH xE;have HMN:=QH hMn;have HFU:=QH hf;obtain⟨dS,k0,k1,k2,k3,k4,k5,k6,k7,k8,k9,aR⟩:=hA.cells;have jT:=(Below.refl _ w).alloc (Nat.le_refl _) (.cells (zi A0 A1 A2 c0 c1 c2 m) 98);have iW:=qg.new w 98 (zi A0 A1 A2 c0 c1 c2 m);obtain⟨W1,hW1⟩:=QE (w.alloc (.cells (zi A0 A1 A2 c0 c1 c2 m) 98));rw[hW1]at jT iW;obtain⟨g,hg⟩:=QE w.heap.size;have HG:=QH hg;have zk:=QH jT;have HN1:Hid (Nx (fun j=>(o1 j∧j≠v)∨S≤j) W1 g (M 0)):=by
  refine⟨A0,A1,A2,c0,c1,c2,by rw[hM0,← hg];exact iW,?_⟩;rw[hM0];exact(hA.tab.mono (fun j hj=>⟨.inl hj,by have:=hA.low j hj.1;omega⟩)).below jT
 clear h hA hJ hR hE hP jq ov hPW hS xE hMn hM0 jT iW hf;unfold zi at hW1;go_enter func56,ntmps56;go_upto_region 2 with fail;try rw[hW1]
 try rw[hg]
 clear hW1 hg k0 k1 k2 k3 k4 k5 k6 k7 k8 k9 aR dS;go_wp2_with fail;go_loopw [20] (fun i wr=>EfR (fun j=>(o1 j∧j≠v)∨S≤j) g n M w i wr) (fun i _=>n-(intOf i).toNat);case atStart=>exact⟨0,Nat.zero_le _,rfl,HN1.out,zk.out⟩
 case round =>
  obtain⟨k,hk,rfl,hnx,hB⟩:=hrel;have HNX:=QH hnx;have HB:=QH hB;clear hnx hB;by_cases hlt:k<n
  ·have jY:(k:Int)<(n:Int):=by omega
   have hk0:¬ (k:Int)<0:=by omega
   obtain⟨b',o',f,rfl,s1,s2,kf,jC,rfl,hcf,qb2⟩:=HE.out k hlt;have q1:=Nat.lt_of_lt_of_le s1 HB.out.size;have q2:=(HB.out.cell (p:=⟨b',o'+k,none⟩) s1).trans s2;have pX:=QH (qb2 wr g HB.out (by rw[HG.out];exact Nat.le_refl _) HNX.out);clear s1 s2 qb2;go_wp2_with fail;refine pX.out.mono ?_;rintro e W2 ⟨rfl,qzm,hbu⟩;have q4o:=QH qzm;have qG:Hid (Below w.heap.size w W2):=HB.out.trans (hbu.below (fun i e=>by rw[e,← HG.out];exact Nat.le_refl _) HB.out.size);clear qzm hbu pX q1 q2;go_wp2_with fail;go_roundw;case rel=>exact⟨k+1,by omega,by go_num,q4o.out,qG.out⟩
   case measure=>simp[intOf];omega
  ·obtain rfl:k=n:=by omega
   obtain⟨wo,hwo⟩:∃x,x=wr:=⟨_,rfl⟩;subst hwo;have jY:¬ (k:Int)<(k:Int):=by omega
   obtain⟨X0,X1,X2,d0,d1,d2,pP,hxt⟩:=HNX.out.ex;rw[HMN.out]at pP hxt;have HXK:=QH pP;have HXT:=QH hxt;have hsz:mtS m':=iY HOK.out;have eM:=QH hsz;have ew:xC wo:=HA.out.ct.below HB.out HA.out.ct.1;have wK:=QH ew;have hwr:=mX hxt.mt hsz (HOK.out.enc HR.out.N1) (HOK.out.size HR.out.N1) ew;have HWR:=QH hwr;have j0:=pP.cell 0;have j1:=pP.cell 1;have j2:=pP.cell 2;have j3:=pP.cell 3;have j4:=pP.cell 4;have j5:=pP.cell 5;have j6:=pP.cell 6;have j7:=pP.cell 7;have j8:=pP.cell 8;have jlt:=pP.lt;simp only[zi,QA,QB,QC]at j0 j1 j2 j3 j4 j5 j6 j7 j8;unfold zi at HWR;clear pP hxt hsz ew hwr HNX;go_wp2_with fail;refine HWR.out.mono ?_;rintro e W2 ⟨vl,rfl,hol,hb2⟩;have HOL:=QH hol;have qG:=QH hb2;have hts:=xH HOK.out HR.out.N1;have HTS:=QH hts;have HLL:Hid ((jr.za 145 (xw m')).length=(xw m').length):=by unfold Hid;rw[jr.qY]
   have HTC:Hid (qli wo 106 (pt v) (fun x=>decide (t x.1=x.2)) (jr.za 145 (xw m'))):=fun W hW x hx=>by
    have hr:=iy hx;have h2:=HTS.out.2;have h3:=HR.out.N0;exact qhA (qN HV.out (q9 HB.out hW)) HJ.out x hr.1 (by omega)
   have hdel:=qoy (b:=pt v) hol (by rw[HLL.out];omega) (by rw[HLL.out];omega) hb2 HTC.out;rw[show qlk (jr.za 145 (xw m')) (fun x=>decide (t x.1=x.2)) wo=qlk (jr.za 145 (xw m')) (fun x=>decide (t x.1=x.2)) wo from rfl]at hdel;have qzo:=QH hdel;clear hol hb2 hts hdel HWR j0 j1 j2 j3 j4 j5 j6 j7 j8 jlt;go_wp2_with fail;refine qzo.out.mono ?_;rintro e W3 ⟨v3,rfl,ho3,hb3⟩;rw[cV]at ho3;have HO3:=QH ho3;have zf:=QH hb3;have HLD:=QH (dM (t:=t) (xw m') 145);obtain⟨td,htd⟩:=QE (zP t 145 (xw m'));have HTD:=QH htd;rw[htd]at HO3 HLD;clear ho3 hb3 htd qzo HTC HOL;go_wp2_with fail;go_loopw [10,41] (fun v i wz=>BlR wo.heap.size td P wo v i wz) (fun _ i _=>P.length-(intOf i).toNat);case atStart=>exact⟨0,Nat.zero_le _,rfl,by simpa[nt]using HO3.out,zf.out⟩
   case round =>
    obtain⟨k,hk,rfl,ho,hB4⟩:=hrel;have HO:=QH ho;have zU:=QH hB4;have jZ:=QH (q9 HB.out hB4);clear ho hB4;by_cases hlt:k<P.length
    ·have quO:(k:Int)<(P.length:Int):=by omega
     have hk0:¬ (k:Int)<0:=by omega
     obtain⟨b',o',rfl,s1,s2,s3,s4⟩:=(HP.out.below jZ.out) k hlt;have HPT:=QH (qlC hlt);have hlen:(nt (P.take k)).length≤100:=by
      have h1:(nt (P.take k)).length≤(P.take k).length:=List.length_filterMap_le _ _;rw[List.length_take]at h1;omega
     obtain⟨x,hx⟩:=QE (P[k]);rw[hx]at HPT s2 s3 s4;clear hx;obtain⟨bk,at_,s⟩:=x;dsimp only at HPT s2 s3 s4;obtain⟨SS,hSS⟩:=QE (str s);have HSS:=QH hSS;rw[hSS]at s4;have jT:=(Below.refl _ wr).alloc (Nat.le_refl _) (.cells #[.int .i64 bk,.int .i64 at_,.string SS] 171);have iW:=qg.new wr 171 #[.int .i64 bk,.int .i64 at_,.string SS];obtain⟨W5,et⟩:=QE (wr.alloc (.cells #[.int .i64 bk,.int .i64 at_,.string SS] 171));rw[et]at jT iW;have v1:=iW.cell 1;have v2:=iW.cell 2;have hvl:=iW.lt;simp only[QA,QB,QC]at v1 v2;have jt:=QH (q9 zU.out jT);have HO5:Hid (jr.ir W5 wo.heap.size _ (td++nt (P.take k))):=xQ HO.out (fun j hj=>jT.block j (HO.out.lt j hj).2);by_cases h0:at_=0
     ·have hz0:(at_ == 0)=true:=by rw[h0];rfl
      have HP0:Hid (td++nt (P.take (k+1))=td++nt (P.take k)):=by unfold Hid;rw[HPT.out,if_pos h0,List.append_nil]
      clear jT iW h0 HPT hSS;go_upto_region 14 with fail;try rw[et]
      clear et s1 s2 s3 s4;go_wp2_with fail;go_roundw;case rel=>exact⟨k+1,by omega,by go_num,by rw[HP0.out];exact HO5.out,jt.out⟩
      case measure=>simp[intOf];omega
     ·have hz0:(at_ == 0)=false:=beq_false_of_ne h0;have HP1:Hid (td++nt (P.take (k+1))=(td++nt (P.take k))++[(at_,s)]):=by unfold Hid;rw[HPT.out,if_neg h0,List.append_assoc]
      have hby:=(Below.refl _ W5).alloc (Nat.le_refl _) (.cells #[.int .i64 at_,.string SS] 182);have HO6:Hid (jr.ir (W5.alloc (.cells #[.int .i64 at_,.string SS] 182)) wo.heap.size _ (td++nt (P.take k))):=xQ HO5.out (fun j hj=>hby.block j (HO5.out.lt j hj).2);have vL:=QH (q9 jt.out hby);have fu:Hid (∀j u,([.int .i64 at_,.string SS]:List Value)[j]?=some u→(W5.alloc (.cells #[.int .i64 at_,.string SS] 182)).cell? ((⟨W5.heap.size,0,none⟩:Addr).add j)=some u):=fun j u hu=>by
       rw[addr_add,Nat.zero_add,(qg.new W5 182 #[.int .i64 at_,.string SS]).cell j];simpa using hu
      have e1:∀u∈([.int .i64 at_,.string SS]:List Value),u.oneCell'=true:=by intro u hu;simp at hu;rcases hu with rfl|rfl <;> rfl
      have E1:=QH e1;have qzq:Hid (td.length≤48):=by have h1:=HLD.out;have h2:=HTS.out.2;unfold Hid;omega
      have E2:Hid ((td++nt (P.take k)).length+1≤maxLen):=by have h1:=qzq.out;unfold Hid;rw[List.length_append];unfold maxLen;omega
      have E3:Hid (((td++nt (P.take k)).length+1)*24≤140737488355328):=by have h1:=qzq.out;unfold Hid;rw[List.length_append];omega
      obtain⟨Lw,hLw⟩:=QE (td++nt (P.take k));rw[hLw]at HO6 HP1 E2 E3;clear jT iW h0 HPT e1 hby hLw HO5 HO hSS hlen;go_upto_region 14 with fail;try rw[et]
      clear et s1 s2 s3 s4;go_wp2_with (at_builtin;refine xh rfl (.tmp 48) (.tmp 54) 136 rfl wo.heap.size 182 iw (.agg #[.int .i64 0,.string ByteArray.empty]) 2 24 underlying136 wi1 wi2 wi3 wi4 rfl (by decide) _ _ _ rfl HO6.out ⟨W5.heap.size,0,none⟩ 1 1 [.int .i64 at_,.string SS] rfl rfl fu.out E1.out E2.out E3.out vL.out.size ?_);intro v' w1 hown hgrow _;have HB7:Hid (Below wo.heap.size wo w1):=vL.out.grown hgrow vL.out.size (fun j hj=>(HO6.out.lt j hj).1);have HO7:Hid (jr.ir w1 wo.heap.size v' (Lw++[(at_,s)])):=by
       refine jr.ir.snoc ?_;show w1.ownsRow _ _ _ v' (Lw.length+1) (jr.zM Lw++[.int .i64 at_,.string (str s)]);rw[HSS.out];exact hown
      clear hown hgrow;go_wp2_with fail;go_roundw;case rel=>exact⟨k+1,by omega,by go_num,by rw[HP1.out];exact HO7.out,HB7.out⟩
      case measure=>simp[intOf];omega
    ·obtain rfl:k=P.length:=by omega
     have quO:¬ (P.length:Int)<(P.length:Int):=by omega
     have ho:=HO.out;rw[List.take_length,HPW.out,← HTD.out]at ho;have HOC:Hid (jr.ir wr wo.heap.size _ (qC t m' ws)):=ho;have qzr:=gO HR.out HOK.out HWS.out;obtain⟨AW,cw,hvw,ov⟩:=HOC.out.view (fun x hx=>by have:=qzr x hx;have:=HR.out.N1;unfold jr.qD;omega);have hlw:(qC t m' ws).length≤60:=by
      have h1:=dM (t:=t) (xw m') 145;have h2:=HTS.out.2;have h3:=HWS.out.few;unfold qC qaZ;rw[List.length_append];omega
     have hv2:=qN HV.out jZ.out;have hN:=hv2.dk.1;have hdn:d.n=N:=HJ.out.rb.1;have qqw:d.more=[]:=HJ.out.more;have qzs:=jr.cU jr.qf0 jr.qf1 hv2.dk (by rw[hdn];have:=HR.out.N0;omega) AW cw (qC t m' ws) ov (by omega) (HA.out.ct.below jZ.out HA.out.ct.1) (by rw[qqw];decide) (by decide);have qoO:=QH qzs;have dW:=QH (jr.mg (N:=N) (tgt:=t) (l:=qC t m' ws) (d:=d) (by have:=HR.out.N0;omega) HR.out.N1 HJ.out HFU.out (qds HR.out HOK.out HWS.out));have HV2:=QH hv2;obtain⟨dS,k0,k1,k2,k3,k4,k5,k6,k7,k8,k9,aR⟩:=(HA.out.below jZ.out).cells;obtain⟨nw,hnw⟩:=QE ((qC t m' ws).length);rw[hnw]at hvw qoO;have HVW:=QH hvw;rw[hvw];obtain⟨RC,hRC⟩:=QE (jr.zW d (qC t m' ws));rw[hRC]at qoO dW;clear qzr ov hlw hv2 hN hdn qqw qzs hnw hvw hRC ho k0 k1 k2 k3 k4 k5 k6 k7 k8 aR;go_wp2_with fail;refine qoO.out.mono ?_;rintro e W6 ⟨rfl,uL,hd6,jQ,hg6⟩;obtain⟨r6,d6⟩:=RC;dsimp only at hd6 dW ⊢;have HD6:=QH hd6;have vL:Hid (ib.qB o2 wr W6):=mH jQ;have HG6:Hid (∀j,uL j→o2 j∨wr.heap.size≤j):=hg6;have HDJ:=QH HV.out.dj;have hS:=HS.out;have hgS:S≤g:=by rw[← HG.out];exact hS
     have quP:Hid (∀j,o2 j→j<S):=fun j hj=>qzk.out j (.inr (.inl hj));have iz:=(HA.out.below jZ.out).stay (w':=W6) (fun j hj=>vL.out.block j (by
      rcases hj with hj|rfl
      ·exact Nat.lt_of_lt_of_le (HA.out.low j hj) jZ.out.size
      ·exact Nat.lt_of_lt_of_le HA.out.ct.1 jZ.out.size) (HDJ.out j hj)) vL.out.size
     have HAW:=QH iz;have hgk:qg W6 g 98 (zi X0 X1 X2 d0 d1 d2 m'):=(HXK.out.below zU.out).of_block (vL.out.block g (HXK.out.below zU.out).lt (fun e=>by have:=quP.out g e;omega));have j0:=hgk.cell 0;have j1:=hgk.cell 1;have j2:=hgk.cell 2;have j3:=hgk.cell 3;have j4:=hgk.cell 4;have j5:=hgk.cell 5;have j6:=hgk.cell 6;have j7:=hgk.cell 7;have j8:=hgk.cell 8;have jlt:=hgk.lt;simp only[zi,QA,QB,QC]at j0 j1 j2 j3 j4 j5 j6 j7 j8;obtain⟨dS,k0,k1,k2,k3,k4,k5,k6,k7,k8,k9,aR⟩:=iz.cells;have f0:=iz.blk.frozen 0;have f1:=iz.blk.frozen 1;have f2:=iz.blk.frozen 2;have f3:=iz.blk.frozen 3;have f4:=iz.blk.frozen 4;have f5:=iz.blk.frozen 5;have f6:=iz.blk.frozen 6;have f7:=iz.blk.frozen 7;have f8:=iz.blk.frozen 8;have f10:=iz.blk.frozen 10;have qzu:Hid (ib.qB (fun j=>o1 j∨o2 j) w W6):=(ib.qB.of_below (S:=fun j=>o1 j∨o2 j) jZ.out).trans vL.out (fun j hj=>.inl (.inr hj));have hov:=HA.out.own;have HOV:=QH hov;clear hd6 jQ hg6 iz hgk hov qoO;rcases dW.out with⟨rfl,hjj,hfz,hf0⟩|⟨rfl,qqy,hfn,hfz⟩
     ·have HJJ:=QH hjj;have HFZ:=QH hfz;have HF0:=QH hf0;clear hjj hfz hf0 dW;go_wp2_with fail;show bodyPost _ _ _ _ _ (xz W6 v (.slice X0 m'.live.length d0) (.slice X1 m'.qa.length d1) (.slice X2 m'.tok.qj.length d2) m'.tok);obtain⟨WE,hWE⟩:=QE (xz W6 v (.slice X0 m'.live.length d0) (.slice X1 m'.qa.length d1) (.slice X2 m'.tok.qj.length d2) m'.tok);have oy:ib.qB (fun j=>j=v) W6 WE:=by
       rw[← hWE];have go:∀(k:Nat) (u:Value) {W':World},ib.qB (fun j=>j=v) W6 W'→ib.qB (fun j=>j=v) W6 (W'.setCell ⟨v,k,none⟩ u):=fun k u W' h1=>h1.setCell _ _ (.inl rfl);exact go 8 _ (go 7 _ (go 6 _ (go 5 _ (go 4 _ (go 3 _ (go 2 _ (go 1 _ (go 0 _ (ib.qB.refl _ _)))))))))
      have hvk:qg WE v 101 (vC X0 X1 X2 d0 d1 d2 m' pd false):=by
       rw[← hWE];have h9:=((((((((HAW.out.blk.qo 0 (.slice X0 m'.live.length d0)).qo 1 (.slice X1 m'.qa.length d1)).qo 2 (.int .u64 (m'.tok.base.1:Int))).qo 3 (.int .u64 (m'.tok.base.2:Int))).qo 4 (.int .u64 (m'.tok.target.1:Int))).qo 5 (.int .u64 (m'.tok.target.2:Int))).qo 6 (.int .i64 m'.tok.next)).qo 7 (.int .i64 m'.tok.all)).qo 8 (.slice X2 m'.tok.qj.length d2);simp only[vC,List.setIfInBounds_toArray,List.set_cons_succ,List.set_cons_zero]at h9;exact h9
      have hvS:v<S:=qzk.out v (.inl HOV.out);have hwo:wo.heap.size≤wr.heap.size:=zU.out.size;have hst:kV (fun j=>(((o1 j∧j≠v)∨S≤j)∧j≠g)∧j<wo.heap.size) wo WE:=by
       refine⟨Nat.le_trans hwo (Nat.le_trans vL.out.size oy.size),fun j hj hlt=>?_⟩;have hj2:¬ o2 j:=fun e=>by
        rcases hj.1.1 with h|h
        ·exact HDJ.out j (.inl h.1) e
        ·have:=quP.out j e;omega
       have hjv:¬ j=v:=by
        rcases hj.1.1 with h|h
        ·exact h.2
        ·omega
       rw[oy.block j (Nat.lt_of_lt_of_le (Nat.lt_of_lt_of_le hlt hwo) vL.out.size) hjv,vL.out.block j (Nat.lt_of_lt_of_le hlt hwo) hj2,zU.out.block j hlt]
      have qzw:xC WE:=vq HAW.out.ct oy.size (oy.block gN HAW.out.ct.1 HAW.out.gv);have hvp:VP jg WE (fun j=>o1 j∨(S≤j∧j<wr.heap.size)) uL v pd d6 m' false:=by
       refine⟨⟨X0,X1,X2,d0,d1,d2,hvk,(HXT.out.bound.stay hst).mono (fun j hj=>?_),eM.out,qzw,.inl HOV.out,fun j hj=>?_,HAW.out.gv,?_⟩,HD6.out.keep oy.size (fun j hj=>oy.block j (uE HD6.out j hj) (fun e=>?_)),fun j hj e=>?_⟩
       ·rcases hj.1.1 with h|h
        ·exact⟨.inl h.1,h.2⟩
        ·exact⟨.inr ⟨h,by have:=hj.2;omega⟩,by omega⟩
       ·rcases hj with h|h
        ·exact Nat.lt_of_lt_of_le (HAW.out.low j h) oy.size
        ·have:=vL.out.size;have:=oy.size;omega
       ·intro htg;rcases HOK.out.tok with h|h
        ·exact h
        ·exfalso;have:=h.2.1;rw[htg]at this;unfold above at this;simp at this
       ·rw[e]at hj;rcases HG6.out v hj with h|h
        ·exact HDJ.out v (.inl HOV.out) h
        ·have:=jZ.out.size;omega
       ·rcases HG6.out j e with h|h
        ·rcases hj with(hj|hj)|hj
         ·exact HDJ.out j (.inl hj) h
         ·have:=quP.out j h;omega
         ·exact HDJ.out j (.inr hj) h
        ·rcases hj with(hj|hj)|hj
         ·have:=HA.out.low j hj;have:=jZ.out.size;omega
         ·omega
         ·have:=HA.out.ct.1;have:=jZ.out.size;unfold gN at hj;rw[hj]at h;omega
      have hbu:ib.qB (fun j=>o1 j∨o2 j) w WE:=qzu.out.trans oy (fun j hj=>.inl (.inl (by rw[hj];exact HOV.out)));have HVP:=QH hvp;have HBU:=QH hbu;rw[hWE];clear oy hvk hst qzw hvp hbu hWE;refine bodyPost_ret (v:=.int .i64 0) (by simp[results,results56,go_sem]) rfl ⟨0,d6,m',false,_,uL,rfl,HVP.out,HBU.out,fun j hj=>?_,.inr (.inl ⟨rfl,rfl,HJJ.out,rfl,rfl,HFZ.out,HF0.out⟩)⟩;rcases hj with(hj|hj)|hj
      ·exact .inl (.inl hj)
      ·exact .inr hj.1
      ·rcases HG6.out j hj with h|h
       ·exact .inl (.inr h)
       ·have:=jZ.out.size;exact .inr (by omega)
     ·have HGO:=QH qqy;have HFN:=QH hfn;have HFZ:=QH hfz;have qzx:VP jg W6 o1 uL v pd d6 m false:=⟨⟨A0,A1,A2,c0,c1,c2,HAW.out⟩,HD6.out,fun j hj e=>by
       rcases HG6.out j e with h|h
       ·exact HDJ.out j hj h
       ·rcases hj with hj|hj
        ·have:=HA.out.low j hj;have:=jZ.out.size;omega
        ·have:=HA.out.ct.1;have:=jZ.out.size;unfold gN at hj;rw[hj]at h;omega⟩
      have HLO:=QH (qy2 qzx);clear qqy hfn hfz dW qzx;go_wp2_with fail;go_ret;refine⟨6,d6,m,true,o1,uL,rfl,HLO.out.1,qzu.out.trans HLO.out.2 (fun j hj=>.inl (.inl (by rw[hj];exact HOV.out))),fun j hj=>?_,.inr (.inr ⟨rfl,rfl,HGO.out,rfl,HFN.out,HFZ.out⟩)⟩;rcases hj with hj|hj
      ·exact .inl (.inl hj)
      ·rcases HG6.out j hj with h|h
       ·exact .inl (.inr h)
       ·have:=jZ.out.size;exact .inr (by omega)
end Go.Proofs.YtdagdllomphidaaGreatDoor.vt.pg
namespace Go.Proofs.YtdagdllomphidaaGreatDoor.vt.pg
open _root_.Go.Proofs.Tryz Go Go.RowKit ib mt im sp
theorem quQ:(prog.info? 55).map (fun i=>(i.zero,i.size,i.bytes))=some (some (.agg #[.int .u64 0,.int .u64 0]),2,16):=by kernel_rfl
def uI:List Gd→List Value
 | []=>[]
 | x::r=>.int .u64 (x.1:Int) :: .int .u64 (x.2:Int)::uI r
theorem ak:∀(l r:List Gd),uI (l++r)=uI l++uI r
 | [],_=>rfl
 | x::l,r=>by simp[uI,ak l r]
theorem nz:∀(l:List Gd) (i:Nat) (h:i<l.length),(uI l)[i*2]?=some (.int .u64 (l[i].1:Int))∧(uI l)[i*2+1]?=some (.int .u64 (l[i].2:Int))
 | x::l,0,_=>⟨rfl,rfl⟩
 | x::l,i+1,h=>by
  have:=nz l i (by simpa using h);rw[show(i+1)*2=i*2+1+1 from by omega];exact this
def qlE (w:World)(B:Nat)(v:Value)(l:List Gd):Prop:=w.ownsRow B 55 2 v l.length (uI l)
theorem qlE.view{w:World}{B:Nat}{v:Value}{l:List Gd}(h:qlE w B v l)(hz:∀x∈l,xn x):∃a c,v=.slice a l.length c∧ch.GdL w a l∧∀b o,a=some ⟨b,o,none⟩→B≤b∧b<w.heap.size:=by
 rcases h.2 with⟨rfl,h0⟩|⟨g,cap,cur,rfl,hg,hh,hcc,hm,hcs,xt⟩
 ·obtain rfl:l=[]:=List.length_eq_zero_iff.1 h0;exact⟨none,0,rfl,(fun i h=>by simp at h),fun _ _ e=>by cases e⟩
 ·refine⟨some ⟨g,0,none⟩,cap,rfl,fun i hi=>?_,fun b o e=>?_⟩
  ·have key:∀(j:Nat) (u:Value),(uI l)[j]?=some u→w.cell? ⟨g,j,none⟩=some u:=by
      intro j u hu;rw[cell_of_row w g j cur 55 (0,0) hh];rw[← xt,List.getElem?_take]at hu;split at hu
      ·simpa using hu
      ·cases hu
   obtain⟨g0,g1⟩:=nz l i hi;exact⟨g,0,rfl,(Array.getElem?_eq_some_iff.1 hh).1,by rw[Nat.zero_add];exact key _ _ g0,by rw[Nat.zero_add];exact key _ _ g1,hz _ (List.getElem_mem hi)⟩
  ·simp only[Option.some.injEq,Addr.mk.injEq,and_true]at e;obtain⟨rfl,_⟩:=e;exact⟨hg,(Array.getElem?_eq_some_iff.1 hh).1⟩
def GuR (m:Mt)(w:World)(v i:Value)(wr:World):Prop :=
 ∃k:Nat,k≤m.qa.length∧i=.int .i64 (k:Int)∧qlE wr w.heap.size v ((m.qa.take k).map (·.g))∧Below w.heap.size w wr
theorem qhO{w:World}{A0 A1 A2:Option Addr}{c0 c1 c2:Nat}{m:Mt}(hS:ji w A1 m.qa)(nS:m.qa.length≤1000) :
    Calls prog 63 #[.agg (zi A0 A1 A2 c0 c1 c2 m)] w (ch.sG (m.qa.map (·.g)) w):=by
 obtain⟨i0,hi,hz0,hz1,hz2⟩:=info_parts quQ;obtain⟨W1,hW1,zN,hb1⟩:=xI w (zi A0 A1 A2 c0 c1 c2 m);have HS:=QH hS;have zk:=QH hb1;have q1:=zN.cell 1;have ig:=zN.lt;simp only[zi,QA,QB,QC]at q1;clear hS zN hb1;unfold zi at hW1 ⊢;go_enter func63,ntmps63;go_upto_region 1 with fail;try rw[hW1]
 clear hW1;go_wp2_with fail;go_loopw [3,9] (fun v i wr=>GuR m w v i wr) (fun _ i _=>m.qa.length-(intOf i).toNat);case atStart=>exact⟨0,Nat.zero_le _,rfl,World.ownsRow_nil _ _ _ _,zk.out⟩
 case round =>
  obtain⟨k,hk,rfl,ho,hB⟩:=hrel;have HO:=QH ho;have HB:=QH hB;clear ho hB;by_cases hlt:k<m.qa.length
  ·have jY:(k:Int)<(m.qa.length:Int):=by omega
   have hk0:¬ (k:Int)<0:=by omega
   obtain⟨b,o,B,c,hA,s1,s2,s3,s4,s5,s6,_⟩:=(HS.out.below HB.out) k hlt;have eH:Hid ((m.qa.take (k+1)).map (·.g)=(m.qa.take k).map (·.g)++[m.qa[k].g]):=by unfold Hid;rw[List.take_succ_eq_append_getElem hlt,List.map_append];rfl
   have HLK:Hid (((m.qa.take k).map (·.g)).length=k):=by unfold Hid;rw[List.length_map,List.length_take];omega
   subst hA;obtain⟨n,hn⟩:=QE (m.qa[k].qj.length);obtain⟨gd,hgd⟩:=QE (m.qa[k].g);obtain⟨hd,hhd⟩:=QE (m.qa[k].hid);rw[hn]at s4;rw[hgd]at eH s2 s3;rw[hhd]at s5;clear hn hgd hhd s6;obtain⟨ga,gb⟩:=gd;dsimp only at s2 s3;have jT:=(Below.refl _ wr).alloc (Nat.le_refl _) (.cells #[.int .u64 (ga:Int),.int .u64 (gb:Int),.slice B n c,.bool hd] 145);obtain⟨W3,hW3⟩:=QE (wr.alloc (.cells #[.int .u64 (ga:Int),.int .u64 (gb:Int),.slice B n c,.bool hd] 145));have jV:=qg.new wr 145 #[.int .u64 (ga:Int),.int .u64 (gb:Int),.slice B n c,.bool hd];rw[hW3]at jT jV;have r0:=jV.cell 0;have r1:=jV.cell 1;have hrl:=jV.lt;simp only[QA,QB,QC]at r0 r1;have hby:=(Below.refl _ W3).alloc (Nat.le_refl _) (.cells #[.int .u64 (ga:Int),.int .u64 (gb:Int)] 55);have hbz:=q9 jT hby;have sK:Hid ((W3.alloc (.cells #[.int .u64 (ga:Int),.int .u64 (gb:Int)] 55)).ownsRow w.heap.size 55 2 _ ((m.qa.take k).map (·.g)).length (uI ((m.qa.take k).map (·.g)))):=xQ HO.out (fun j hj=>hbz.block j (HO.out.lt j hj).2);have zU:=QH (q9 HB.out hbz);have fu:Hid (∀j u,([.int .u64 (ga:Int),.int .u64 (gb:Int)]:List Value)[j]?=some u→(W3.alloc (.cells #[.int .u64 (ga:Int),.int .u64 (gb:Int)] 55)).cell? ((⟨W3.heap.size,0,none⟩:Addr).add j)=some u):=fun j u hu=>by
    rw[addr_add,Nat.zero_add,(qg.new W3 55 #[.int .u64 (ga:Int),.int .u64 (gb:Int)]).cell j];simpa using hu
   clear jT jV hby hbz;have q4t:k≤1000:=by omega
   have e1:∀u∈([.int .u64 (ga:Int),.int .u64 (gb:Int)]:List Value),u.oneCell'=true:=by intro u hu;simp at hu;rcases hu with rfl|rfl <;> rfl
   have E1:=QH e1;have E2:Hid (((m.qa.take k).map (·.g)).length+1≤maxLen):=by unfold Hid;rw[HLK.out];unfold maxLen;omega
   have E3:Hid ((((m.qa.take k).map (·.g)).length+1)*16≤140737488355328):=by unfold Hid;rw[HLK.out];omega
   clear e1;go_wp2_with (at_builtin;refine xh rfl (.tmp 13) (.tmp 16) 52 rfl w.heap.size 55 i0 (.agg #[.int .u64 0,.int .u64 0]) 2 16 underlying52 hi hz0 hz1 hz2 rfl (by decide) _ _ _ rfl sK.out ⟨W3.heap.size,0,none⟩ 1 1 [.int .u64 (ga:Int),.int .u64 (gb:Int)] rfl rfl fu.out E1.out E2.out E3.out zU.out.size ?_);intro v' w1 hown hgrow _;have jt:Hid (Below w.heap.size w w1):=zU.out.grown hgrow zU.out.size (fun j hj=>(sK.out.lt j hj).1);have HO5:Hid (qlE w1 w.heap.size v' ((m.qa.take (k+1)).map (·.g))):=by
    unfold Hid qlE;rw[eH.out,ak,List.length_append,HLK.out,List.map_take];exact hown
   clear hown hgrow;go_wp2_with fail;go_roundw;case rel=>exact⟨k+1,by omega,by go_num,HO5.out,jt.out⟩
   case measure=>simp[intOf];omega
  ·obtain rfl:k=m.qa.length:=by omega
   have jY:¬ (m.qa.length:Int)<(m.qa.length:Int):=by omega
   have ho:=HO.out;rw[List.take_length]at ho;obtain⟨A,c,hv,hx,hn⟩:=ho.view (fun g hg=>by
    obtain⟨s,hs,rfl⟩:=List.mem_map.1 hg;exact HS.out.nP s hs)
   have HX:=QH hx;have HV:=QH hv;have HN:=QH hn;clear ho hx hv hn;go_wp2_with fail;go_ret;exact⟨A,c,by rw[HV.out];rfl,HX.out,HN.out,HB.out⟩
theorem oZ {x y:Gd}(h:x≠y):(¬ x.1=y.1)∨(x.1=y.1∧¬ x.2=y.2):=by
 by_cases e1:x.1=y.1
 ·exact .inr ⟨e1,fun e2=>h (Prod.ext e1 e2)⟩
 ·exact .inl e1
def bf (f:Tf)(A:Option Addr)(n c:Nat):Array Value:=#[.int .u64 (f.base.1:Int),.int .u64 (f.base.2:Int),.int .u64 (f.target.1:Int),.int .u64 (f.target.2:Int),.int .i64 f.next,.int .i64 f.all,.slice A n c]
theorem qei{G:Nat→Prop}{w:World}{A0 A1 A2:Option Addr}{c0 c1 c2:Nat}{m:Mt}(ht:jK G w A0 A1 A2 c0 c1 c2 m)(hsz:mtS m)(hG:∀j,w.heap.size≤j→G j)(f:Tf)(A:Option Addr)(n c:Nat) :
    Calls prog 65 #[.agg (zi A0 A1 A2 c0 c1 c2 m),.agg (bf f A n c)] w (qhk G (zI m f) w):=by
 obtain⟨W1,hW1,zN,hb1⟩:=xI w (zi A0 A1 A2 c0 c1 c2 m);have hb2:=(Below.refl _ W1).alloc (Nat.le_refl _) (.cells (bf f A n c) 59);have hr2:=qg.new W1 59 (bf f A n c);obtain⟨W2,hW2⟩:=QE (W1.alloc (.cells (bf f A n c) 59));rw[hW2]at hb2 hr2;have qG:=QH (q9 hb1 hb2);have hk2:=zN.below hb2;have lM:=ht.below qG.out;have HI2:=QH lM.qj;have HBS:=QH (mM (A0:=A0) (A2:=A2) (c0:=c0) (c1:=c1) (c2:=c2) lM.qa hsz (fun j hj=>hG j (Nat.le_trans qG.out.size hj)) m.qa.length (Nat.le_refl _));rw[qhl]at HBS;have q0:=hk2.cell 0;have q1:=hk2.cell 1;have q2:=hk2.cell 2;have q3:=hk2.cell 3;have q4:=hk2.cell 4;have q5:=hk2.cell 5;have q6:=hk2.cell 6;have q7:=hk2.cell 7;have q8:=hk2.cell 8;have r0:=hr2.cell 0;have r1:=hr2.cell 1;have r2:=hr2.cell 2;have r3:=hr2.cell 3;have r5:=hr2.cell 5;have ig:=hk2.lt;have hrl:=hr2.lt;simp only[zi,bf,QA,QB,QC]at q0 q1 q2 q3 q4 q5 q6 q7 q8 r0 r1 r2 r3 r5;have HY:Hid ((m.tok.base=f.base∧m.tok.target=f.target∧m.tok.all=f.all)→zI m f=m.tok.qj):=fun h=>by unfold zI;rw[if_pos h]
 have uK:Hid (¬ (m.tok.base=f.base∧m.tok.target=f.target∧m.tok.all=f.all)→zI m f=xO m):=fun h=>by unfold zI;rw[if_neg h]
 obtain⟨R,hR⟩:=QE (zI m f);rw[hR]at HY uK ⊢;clear ht hG zN hb1 hb2 hr2 hk2 lM hR;unfold zi bf at *;go_enter func65,ntmps65;go_upto_region 1 with fail;try rw[hW1]
 try rw[hW2]
 clear hW1 hW2;have FIN:Hid (∀(e:Ending) (W3:World),qhk G (xO m) W2 e W3→R=xO m→qhk G R w e W3):=fun e W3 h hr=>by
  obtain⟨A',c',h1,h2,h3⟩:=h;rw[hr];exact⟨A',c',h1,h2,q9 qG.out h3⟩
 have E1:Hid (m.tok.base=f.base→m.tok.base.1=f.base.1∧m.tok.base.2=f.base.2):=fun h=>⟨by rw[h],by rw[h]⟩;have E2:Hid (m.tok.target=f.target→m.tok.target.1=f.target.1∧m.tok.target.2=f.target.2):=fun h=>⟨by rw[h],by rw[h]⟩;by_cases h1:m.tok.base=f.base
 case' neg =>
  have HR:=QH (uK.out (fun h=>h1 h.1));have hgn:=oZ h1;clear h1 HY uK E1 E2;rcases hgn with hg|⟨hg,hg2⟩;all_goals
   go_upto_region 3 with fail;first|clear hg2|skip
   clear hg;first|clear e1 e2|skip
   go_wp2_with fail;refine HBS.out.mono ?_;rintro e W3 ⟨A',c',rfl,hs,hb3⟩;have HF:=QH (FIN.out _ _ ⟨A',c',rfl,hs,hb3⟩ HR.out);clear hs hb3;go_wp2_with fail;go_ret;exact HF.out
 obtain⟨e1,e2⟩:=E1.out h1;by_cases h2:m.tok.target=f.target
 case' neg =>
  have HR:=QH (uK.out (fun h=>h2 h.2.1));have hgn:=oZ h2;clear h1 h2 HY uK E1 E2;rcases hgn with hg|⟨hg,hg2⟩;all_goals
   go_upto_region 3 with fail;first|clear hg2|skip
   clear hg;first|clear e1 e2|skip
   go_wp2_with fail;refine HBS.out.mono ?_;rintro e W3 ⟨A',c',rfl,hs,hb3⟩;have HF:=QH (FIN.out _ _ ⟨A',c',rfl,hs,hb3⟩ HR.out);clear hs hb3;go_wp2_with fail;go_ret;exact HF.out
 obtain⟨e3,e4⟩:=E2.out h2;by_cases h3:m.tok.all=f.all
 case' neg =>
  have HR:=QH (uK.out (fun h=>h3 h.2.2));clear h1 h2 HY uK E1 E2;go_upto_region 3 with fail;clear h3 e1 e2 e3 e4;go_wp2_with fail;refine HBS.out.mono ?_;rintro e W3 ⟨A',c',rfl,hs,hb3⟩;have HF:=QH (FIN.out _ _ ⟨A',c',rfl,hs,hb3⟩ HR.out);clear hs hb3;go_wp2_with fail;go_ret;exact HF.out
 have HR:=QH (HY.out ⟨h1,h2,h3⟩);clear h1 h2 HY uK E1 E2;go_wp2_with fail;go_ret;rw[HR.out];exact⟨_,_,rfl,HI2.out,qG.out⟩
theorem qhP{w:World}{gb:Nat}(a b:Nat)(B:Option Addr)(n c:Nat)(hd:Bool)(g:Gd)(hgb:gb<w.heap.size)(q0:w.cell? ⟨gb,0,none⟩=some (.int .u64 (g.1:Int)))(q1:w.cell? ⟨gb,1,none⟩=some (.int .u64 (g.2:Int))) :
    Calls prog 121 #[.agg #[.int .u64 (a:Int),.int .u64 (b:Int),.slice B n c,.bool hd],pt gb] w fun e w'=>e=.returned (.bool (decide ((a,b)=g)))∧Below w.heap.size w w':=by
 obtain⟨g1,g2⟩:=g;have hb0:=(Below.refl w.heap.size w).alloc (Nat.le_refl _) (.cells #[.int .u64 (a:Int),.int .u64 (b:Int),.slice B n c,.bool hd] 145);have p0:=(hb0.cell (p:=⟨gb,0,none⟩) hgb).trans q0;have p1:=(hb0.cell (p:=⟨gb,1,none⟩) hgb).trans q1;have HB:=QH hb0;have hq:decide ((a,b)=(g1,g2))=(((a:Int) == (g1:Int))&&((b:Int) == (g2:Int))):=by
  rw[Bool.eq_iff_iff];simp only[decide_eq_true_eq,Bool.and_eq_true,beq_iff_eq,Prod.mk.injEq];omega
 obtain⟨r,hr⟩:=QE (decide ((a,b)=(g1,g2)));rw[hr]at hq ⊢;dsimp only at p0 p1 q0 q1;generalize (a:Int)=x1 at *;generalize (b:Int)=x2 at *;generalize (g1:Int)=y1 at *;generalize (g2:Int)=y2 at *;obtain⟨b1,hb1⟩:=QE (x1 == y1);obtain⟨b2,hb2⟩:=QE (x2 == y2);rw[hb1,hb2]at hq;subst hq;clear hb0 hr;cases b1 <;> cases b2;all_goals
  go_enter func121,ntmps121;go_wp2_with fail;go_ret;exact⟨rfl,HB.out⟩
def oG (l:List Sp)(g:Gd):Int:=match l.findIdx? fun s=>decide (s.g=g)with
 | none=>-1
 | some i=>(i:Int)
theorem qhQ{l:List Sp}{g:Gd}{k:Nat}(hk:k<l.length)(hg:l[k].g=g)(hb:∀j (h:j<l.length),j<k→l[j].g≠g):oG l g=(k:Int):=by
 unfold oG;have:(l.findIdx? fun s=>decide (s.g=g))=some k:=by
  rw[List.findIdx?_eq_some_iff_getElem];exact⟨hk,by simpa using hg,fun j hj=>by simpa using hb j (by omega) hj⟩
 rw[this]
theorem qhR{l:List Sp}{g:Gd}(hb:∀j (h:j<l.length),l[j].g≠g):oG l g = -1:=by
 unfold oG;have:(l.findIdx? fun s=>decide (s.g=g))=none:=by
  rw[List.findIdx?_eq_none_iff];intro s hs;obtain⟨j,hj,rfl⟩:=List.getElem_of_mem hs;simpa using hb j hj
 rw[this]
def IxS (l:List Sp)(g:Gd)(w:World)(i:Value)(wr:World):Prop :=
 ∃k:Nat,k≤l.length∧i=.int .i64 (k:Int)∧(∀j (h:j<l.length),j<k→l[j].g≠g)∧Below w.heap.size w wr
theorem qlF{w:World}{gb:Nat}{A:Option Addr}{c:Nat}{l:List Sp}(hS:ji w A l)(nS:l.length≤1000)(g:Gd)(hgb:gb<w.heap.size)(q0:w.cell? ⟨gb,0,none⟩=some (.int .u64 (g.1:Int)))(q1:w.cell? ⟨gb,1,none⟩=some (.int .u64 (g.2:Int))) :
    Calls prog 120 #[.slice A l.length c,.func (.func 121) #[] #[pt gb]] w fun e w'=>e=.returned (.int .i64 (oG l g))∧Below w.heap.size w w':=by
 have HS:=QH hS;have HQ0:=QH q0;have HQ1:=QH q1;have oC:=QH (fun k hk hg hb=>qhQ (l:=l) (g:=g) (k:=k) hk hg hb);have HRN:=QH (fun hb=>qhR (l:=l) (g:=g) hb);obtain⟨R,hR⟩:=QE (oG l g);rw[hR]at oC HRN ⊢;clear hS q0 q1 hR;go_enter func120,ntmps120;go_wp2_with fail;go_loopw [8] (fun i wr=>IxS l g w i wr) (fun i _=>l.length-(intOf i).toNat);case atStart=>exact⟨0,Nat.zero_le _,rfl,fun j _ h=>absurd h (by omega),Below.refl _ _⟩
 case round =>
  obtain⟨k,hk,rfl,hno,hB⟩:=hrel;have uK:=QH hno;have HB:=QH hB;clear hno hB;by_cases hlt:k<l.length
  ·have jY:(k:Int)<(l.length:Int):=by omega
   obtain⟨b,o,B,cc,rfl,s1,s2,s3,s4,s5,_⟩:=(HS.out.below HB.out) k hlt;have HYE:=QH (fun(e:l[k].g=g)=>oC.out k hlt e uK.out);have HNX:Hid (l[k].g≠g→∀j (h:j<l.length),j<k+1→l[j].g≠g):=fun hne j hj hjk=>by
    by_cases qux:j<k
    ·exact uK.out j hj qux
    ·obtain rfl:j=k:=by omega
     exact hne
   obtain⟨ga,gb',hd,n,hgd,hn,hh⟩:∃a b' hd n,l[k].g=(a,b')∧l[k].qj.length=n∧l[k].hid=hd:=⟨_,_,_,_,rfl,rfl,rfl⟩;have pX:=QH (qhP ga gb' B n cc hd g (w:=wr) (Nat.lt_of_lt_of_le hgb HB.out.size) ((HB.out.cell (p:=⟨gb,0,none⟩) hgb).trans HQ0.out) ((HB.out.cell (p:=⟨gb,1,none⟩) hgb).trans HQ1.out));rw[hgd]at s2 s3 HYE HNX;rw[hn]at s4;rw[hh]at s5;dsimp only at s2 s3;have hk0:¬ (k:Int)<0:=by omega
   clear hgd hn hh;go_wp2_with fail;refine pX.out.mono ?_;rintro e W1 ⟨rfl,hb1⟩;have zk:=QH (HB.out.trans (hb1.mono HB.out.size));clear hb1;by_cases hg:(ga,gb')=g
   ·rw[decide_eq_true hg];have HR:=QH (HYE.out hg);clear hg HYE HNX pX;go_wp2_with fail;go_ret;rw[HR.out];exact⟨rfl,zk.out⟩
   ·rw[decide_eq_false hg];have HN:=QH (HNX.out hg);clear hg HYE HNX pX;go_wp2_with fail;go_roundw;case rel=>exact⟨k+1,by omega,by go_num,HN.out,zk.out⟩
    case measure=>simp[intOf];omega
  ·have jY:¬ (k:Int)<(l.length:Int):=by omega
   have HR:=QH (HRN.out (fun j hj=>uK.out j hj (by omega)));go_wp2_with fail;go_ret;rw[HR.out];exact⟨rfl,HB.out⟩
def jN (m:Mt)(g:Gd):Int × Int:=match bZ m g with
 | none=>(0,5)
 | some i=>match m.qa[i]? with
  | none=>(0,5)
  | some s=>if s.hid then(0,14)else((i:Int),0)
theorem qhS(m:Mt)(g:Gd):(oG m.qa g = -1∧jN m g=(0,5))∨∃i,∃h:i<m.qa.length,oG m.qa g=((i:Nat):Int)∧jN m g=if m.qa[i].hid then(0,14)else((i:Int),0):=by
 unfold oG jN bZ;cases hf:m.qa.findIdx? fun s=>decide (s.g=g)with
 | none=>exact .inl ⟨rfl,rfl⟩
 | some i =>
  have hi:=(List.findIdx?_eq_some_iff_getElem.1 hf).1;refine .inr ⟨i,hi,rfl,?_⟩;show(match m.qa[i]? with
   | none=>((0:Int),(5:Int))
   | some s=>if s.hid then(0,14)else((i:Int),0))=_
  rw[List.getElem?_eq_getElem hi]
theorem vz {w:World}{A0 A1 A2:Option Addr}{c0 c1 c2:Nat}{m:Mt}(hS:ji w A1 m.qa)(nS:m.qa.length≤1000)(g:Gd) :
    Calls prog 77 #[.agg (zi A0 A1 A2 c0 c1 c2 m),gv g] w fun e w'=>e=.returned (.tuple #[.int .i64 (jN m g).1,.int .i64 (jN m g).2])∧Below w.heap.size w w':=by
 obtain⟨g1,g2⟩:=g;obtain⟨W1,hW1,zN,hb1⟩:=xI w (zi A0 A1 A2 c0 c1 c2 m);have hb2:=(Below.refl _ W1).alloc (Nat.le_refl _) (.cells #[.int .u64 (g1:Int),.int .u64 (g2:Int)] 55);have hr2:=qg.new W1 55 #[.int .u64 (g1:Int),.int .u64 (g2:Int)];obtain⟨W2,hW2⟩:=QE (W1.alloc (.cells #[.int .u64 (g1:Int),.int .u64 (g2:Int)] 55));rw[hW2]at hb2 hr2;have qG:=QH (q9 hb1 hb2);have hk2:=zN.below hb2;have wJ:=QH hk2;have q1:=hk2.cell 1;have ig:=hk2.lt;simp only[zi,QA,QB,QC]at q1;have HS:=QH (hS.below qG.out);have HI:=QH (qlF (c:=c1) HS.out nS (g1,g2) hr2.lt (hr2.cell 0) (hr2.cell 1));have HFI:=QH (qhS m (g1,g2));obtain⟨R,hR⟩:=QE (jN m (g1,g2));rw[hR]at HFI ⊢;obtain⟨X,hX⟩:=QE (oG m.qa (g1,g2));rw[hX]at HFI HI;clear hS zN hb1 hb2 hr2 hk2 hR hX;show Calls _ _ #[.agg (zi A0 A1 A2 c0 c1 c2 m),.agg #[.int .u64 (g1:Int),.int .u64 (g2:Int)]] _ _;unfold zi at hW1 ⊢;go_enter func77,ntmps77;go_upto_region 1 with fail;try rw[hW1]
 try rw[hW2]
 clear hW1 hW2;go_wp2_with fail;refine HI.out.mono ?_;rintro e W3 ⟨rfl,hb3⟩;have zf:=QH (q9 qG.out hb3);have rR:=QH (HS.out.below hb3);have hk3:=wJ.out.below hb3;have q1:=hk3.cell 1;have ig:=hk3.lt;simp only[zi,QA,QB,QC]at q1;clear hb3 hk3 HI wJ HS;rcases HFI.out with⟨rfl,hf⟩|⟨i,hil,rfl,hf⟩
 ·have HF:=QH hf;clear hf HFI;go_wp2_with fail;go_ret2;rw[HF.out];exact⟨rfl,zf.out⟩
 ·have HF:=QH hf;obtain⟨b,o,B,cc,rfl,s1,s2,s3,s4,s5,_⟩:=rR.out i hil;have hii:(i:Int)<(m.qa.length:Int):=by omega
  have hin:¬ (i:Int)<0:=by omega
  generalize m.qa[i].hid=hd at *;clear hf HFI s2 s3 s4;cases hd with
  | true =>
   have HF2:Hid (R=(0,14)):=by unfold Hid;simpa using HF.out
   go_wp2_with fail;go_ret2;rw[HF2.out];exact⟨rfl,zf.out⟩
  | false =>
   have HF2:Hid (R=((i:Int),0)):=by unfold Hid;simpa using HF.out
   go_wp2_with fail;go_ret2;rw[HF2.out];exact⟨rfl,zf.out⟩
end Go.Proofs.YtdagdllomphidaaGreatDoor.vt.pg
namespace Go.Proofs.YtdagdllomphidaaGreatDoor.vt.pg
open _root_.Go.Proofs.Tryz Go Go.RowKit Go.Sort ib mt im sp
theorem dp:prog.follows .mixedOrders=true:=by kernel_rfl
def TkR (b:Nat)(x:List (Int × Bt))(w:World)(l i:Value)(wr:World):Prop :=
 ∃(k:Nat) (p:Int),k≤x.length∧i=.int .i64 (k:Int)∧l=.int .i64 (p+1) ∧ -1≤p∧p≤1000∧xx b (-1) x=xx b p (x.drop k)∧Below w.heap.size w wr
theorem qej{b:Nat}{p:Int}{x:List (Int × Bt)}{k:Nat}(h:k<x.length):xx b p (x.drop k)=(decide (p<x[k].1)&&decide (x[k].1<(b:Int))&&decide (x[k].2.length=32)&&xx b x[k].1 (x.drop (k+1))):=by
 rw[List.drop_eq_getElem_cons h];rfl
theorem qlG{b:Nat}{p k:Int}{s:Bt}{r:Bool}(h:k<p+1∨(b:Int)≤k∨s.length≠32):(decide (p<k)&&decide (k<(b:Int))&&decide (s.length=32)&&r)=false:=by
 rcases h with h|h|h
 ·rw[decide_eq_false (by omega:¬ p<k)];rfl
 ·rw[decide_eq_false (by omega:¬ k<(b:Int))];simp
 ·rw[decide_eq_false h];simp
theorem qhT{b:Nat}{p k:Int}{s:Bt}{r:Bool}(h1:¬ k<p+1)(h2:¬ (b:Int)≤k)(h3:s.length=32):(decide (p<k)&&decide (k<(b:Int))&&decide (s.length=32)&&r)=r:=by
 rw[decide_eq_true (by omega:p<k),decide_eq_true (by omega:k<(b:Int)),decide_eq_true h3];simp
theorem ra {w:World}{A0 A1 A2:Option Addr}{c0 c1 c2:Nat}{m:Mt}(hb8:m.live.length≤1000){A:Option Addr}{c:Nat}{x:List (Int × Bt)}(hx:ch.dU w A x)(wN:x.length≤1000) :
    Calls prog 54 #[.agg (zi A0 A1 A2 c0 c1 c2 m),.slice A x.length c] w (wU (xx m.live.length (-1) x) w):=by
 obtain⟨W1,hW1,zN,hb1⟩:=xI w (zi A0 A1 A2 c0 c1 c2 m);have HK1:=QH zN;have zk:=QH hb1;have HX:=QH (hx.below hb1);obtain⟨R,hR⟩:=QE (xx m.live.length (-1) x);have HR0:=QH hR;rw[hR];clear hx zN hb1 hR;unfold zi at hW1 ⊢;go_enter func54,ntmps54;go_upto_region 1 with fail;try rw[hW1]
 clear hW1;go_wp2_with fail;go_loopw [5,10] (fun l i wr=>TkR m.live.length x W1 l i wr) (fun _ i _=>x.length-(intOf i).toNat);case atStart=>exact⟨0,-1,Nat.zero_le _,rfl,rfl,by omega,by omega,rfl,Below.refl _ _⟩
 case round =>
  obtain⟨k,p,hk,rfl,rfl,hp1,hp2,hch,hB⟩:=hrel;have HB:=QH hB;have ey:=QH hch;have HP1:=QH hp1;clear hB hch;by_cases hlt:k<x.length
  ·have jY:(k:Int)<(x.length:Int):=by omega
   have hk0:¬ (k:Int)<0:=by omega
   obtain⟨b,o,rfl,s1,s2,s3,s4⟩:=(HX.out.below HB.out) k hlt;have HST:=QH (qej (b:=m.live.length) (p:=p) hlt);obtain⟨xk,pP⟩:=QE (x[k].1);obtain⟨sk,hsk⟩:=QE (x[k].2);rw[pP,hsk]at HST;rw[pP]at s2 s4;rw[hsk]at s3;obtain⟨S,hS⟩:=QE (str sk);have hSl:S.size=sk.length:=by rw[← hS,qO]
   rw[hS]at s3;have HSL:=QH hSl;obtain⟨L,hL⟩:=QE (p+1);have HLL:=QH hL;rw[hL];have jT:=(Below.refl _ wr).alloc (Nat.le_refl _) (.cells #[.int .i64 xk,.string S] 62);have HBX:=QH (q9 HB.out jT);have hq:=HK1.out.below HBX.out;have q0:=hq.cell 0;have ig:=hq.lt;simp only[zi,List.getElem?_toArray,List.getElem?_cons_zero]at q0;have pj:=QH s4;clear pP hsk hS hSl hL hq jT s4 hp1 hp2;have no:xk<p+1∨(m.live.length:Int)≤xk∨sk.length≠32→R=false:=fun h=>by rw[← HR0.out,ey.out,HST.out,qlG h]
   have uK:=QH no;clear no;by_cases h1:xk<L
   ·have HF:=QH (uK.out (.inl (by rw[HLL.out];exact h1)));go_wp2_with fail;go_ret;exact⟨by rw[HF.out];rfl,q9 zk.out HBX.out⟩
   ·by_cases h2:(m.live.length:Int)≤xk
    ·have HF:=QH (uK.out (.inr (.inl h2)));go_wp2_with fail;go_ret;exact⟨by rw[HF.out];rfl,q9 zk.out HBX.out⟩
    ·by_cases h3:(S.size:Int)=32
     ·have h3b:((S.size:Int) != 32)=false:=by rw[h3];rfl
      have h3n:sk.length=32:=by have:=HSL.out;omega
      have HYE:Hid (xx m.live.length (-1) x=xx m.live.length xk (x.drop (k+1))):=by unfold Hid;rw[ey.out,HST.out,qhT (by rw[HLL.out];exact h1) h2 h3n]
      have hx1:¬ xk<p+1:=by rw[HLL.out];exact h1
      have hxr : -9223372036854775808≤xk∧xk≤9223372036854775807:=pj.out;have hw:IntKind.i64.wrap (xk+1)=xk+1:=by rw[IntWalk.i64_in _ (by omega)]
      have HPR:Hid (-1≤xk∧xk≤1000):=by have:=HP1.out;unfold Hid;omega
      clear h3 h3n HST ey uK hx1 hxr HLL;go_wp2_with fail;go_roundw;case rel=>exact⟨k+1,xk,by omega,by go_num,rfl,HPR.out.1,HPR.out.2,HYE.out,HBX.out⟩
      case measure=>simp[intOf];omega
     ·have h3b:((S.size:Int) != 32)=true:=by simpa using h3
      have HF:=QH (uK.out (.inr (.inr (by have:=HSL.out;omega))));clear h3;go_wp2_with fail;go_ret;exact⟨by rw[HF.out];rfl,q9 zk.out HBX.out⟩
  ·have jY:¬ (k:Int)<(x.length:Int):=by omega
   have HF:Hid (R=true):=by unfold Hid;rw[← HR0.out,ey.out,List.drop_eq_nil_of_le (by omega)];rfl
   go_wp2_with fail;go_ret;exact⟨by rw[HF.out];rfl,q9 zk.out HB.out⟩
theorem nA {w:World}{A0 A1 A2:Option Addr}{c0 c1 c2:Nat}{m:Mt}(hS:ji w A1 m.qa)(nS:m.qa.length≤1000)(g:Gd) :
    Calls prog 76 #[.agg (zi A0 A1 A2 c0 c1 c2 m),gv g] w (qga (if above g (qH m)=false then 2 else if 20≤m.qa.length then 3 else 0) w):=by
 obtain⟨g1,g2⟩:=g;obtain⟨W1,hW1,zN,hb1⟩:=xI w (zi A0 A1 A2 c0 c1 c2 m);have hb2:=(Below.refl _ W1).alloc (Nat.le_refl _) (.cells #[.int .u64 (g1:Int),.int .u64 (g2:Int)] 55);have hr2:=qg.new W1 55 #[.int .u64 (g1:Int),.int .u64 (g2:Int)];obtain⟨W,hW2⟩:=QE (W1.alloc (.cells #[.int .u64 (g1:Int),.int .u64 (g2:Int)] 55));rw[hW2]at hb2 hr2;have qG:=QH (q9 hb1 hb2);have hk2:=zN.below hb2;have HS:=QH (hS.below qG.out);have q0:=hk2.cell 0;have q1:=hk2.cell 1;have q2:=hk2.cell 2;have q3:=hk2.cell 3;have q4:=hk2.cell 4;have q5:=hk2.cell 5;have q6:=hk2.cell 6;have q7:=hk2.cell 7;have q8:=hk2.cell 8;have r0:=hr2.cell 0;have r1:=hr2.cell 1;simp only[zi,QA,QB,QC]at q0 q1 q2 q3 q4 q5 q6 q7 q8 r0 r1;have e0:=fun d os=>cell_regrown q0 d os;have e1:=fun d os=>cell_regrown q1 d os;have e2:=fun d os=>cell_regrown q2 d os;have e3:=fun d os=>cell_regrown q3 d os;have e4:=fun d os=>cell_regrown q4 d os;have e5:=fun d os=>cell_regrown q5 d os;have e6:=fun d os=>cell_regrown q6 d os;have e7:=fun d os=>cell_regrown q7 d os;have e8:=fun d os=>cell_regrown q8 d os;have p0:=fun d os=>cell_regrown r0 d os;have p1:=fun d os=>cell_regrown r1 d os;have cL:∀b os,Calls prog 112 #[.agg (zi A0 A1 A2 c0 c1 c2 m)] (grow (redrawn W b) os) fun e w''=>e=.returned (gv (qH m))∧∃q:Regrown,w''=grow (redrawn W q.d) q.os :=
  fun b os=>Calls.regrown_of (pR (HS.out.below (below_regrown W b os)) nS)
 have cA:∀b os,Calls prog 113 #[gv (g1,g2),gv (qH m)] (grow (redrawn W b) os) fun e w''=>e=.returned (.bool (above (g1,g2) (qH m)))∧∃q:Regrown,w''=grow (redrawn W q.d) q.os :=
  fun b os=>Calls.regrown_of (mJ (g1,g2) (qH m) _)
 obtain⟨L,hL⟩:=QE (gv (qH m));rw[hL]at cA cL;generalize above (g1,g2) (qH m)=q at *;have HQ1:=QH q1;clear hS zN hb1 hb2 hr2 hk2 q0 q1 q2 q3 q4 q5 q6 q7 q8 r0 r1 hL;show Calls _ _ #[.agg (zi A0 A1 A2 c0 c1 c2 m),.agg #[.int .u64 (g1:Int),.int .u64 (g2:Int)]] _ _;unfold gv at cA;unfold zi at hW1 cL ⊢;dsimp only at cA;go_enter func76,ntmps76;go_upto_region 1 with fail;try rw[hW1]
 try rw[hW2]
 clear hW1 hW2;refine wp_region_quiet_below dp (by kernel_rfl) ?_;repeat (any_goals (first|go_big_quiet_step (first|exact cL _ _|exact cA _ _)|quiet_step (first|exact cL _ _|exact cA _ _)))
 refine wpQuiet_nil ?_;intro _ hw';obtain⟨⟨dq,osq⟩,hw''⟩:=hw';subst hw'';have q1:=e1 dq osq;have hb:=below_regrown W dq osq;have zf:=QH (q9 qG.out hb);clear hb e0 e1 e2 e3 e4 e5 e6 e7 e8 p0 p1 cL cA qG HS HQ1;generalize grow (redrawn W dq) osq=W3 at *;cases q with
 | false =>
  go_wp2_with fail;go_ret;exact⟨rfl,zf.out⟩
 | true =>
  by_cases hx:(20:Int)≤(m.qa.length:Int)
  ·go_wp2_with fail;go_ret;exact⟨rfl,zf.out⟩
  ·go_wp2_with fail;go_ret;exact⟨rfl,zf.out⟩
end Go.Proofs.YtdagdllomphidaaGreatDoor.vt.pg

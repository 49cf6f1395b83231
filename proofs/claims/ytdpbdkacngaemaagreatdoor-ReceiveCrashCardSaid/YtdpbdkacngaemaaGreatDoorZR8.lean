/- ChLst, PgBase, PgMem, PgOne, PgLast, PgList, VgPut, VgStg, VgHid, JCommit, JHead, VgChg, VgGds, VgTb3. -/
import Derived.Test.YtdpbdkacngaemaaGreatDoorZR7
set_option linter.unusedVariables false
set_option linter.unusedSimpArgs false
set_option maxHeartbeats 30000000
set_option maxRecDepth 100000
namespace Go.Proofs.YtdpbdkacngaemaaGreatDoor.ch
open _root_.Go.Proofs.Tryz Go Go.RowKit ib
theorem jU:(prog.info? 122).map (fun i=>(i.zero,i.size,i.bytes))=some (some (.agg #[.int .i64 0,.string ByteArray.empty]),2,24):=by kernel_rfl
def xq:List (Int × Bt)→List Value
 | []=>[]
 | x::r=>.int .i64 x.1 :: .string (str x.2)::xq r
def xL (w:World)(B:Nat)(v:Value)(l:List (Int × Bt)):Prop:=w.ownsRow B 122 2 v l.length (xq l)
theorem bN:∀(l r:List (Int × Bt)),xq (l++r)=xq l++xq r
 | [],_=>rfl
 | x::l,r=>by simp[xq,bN l r]
theorem pR:∀(l:List (Int × Bt)) (i:Nat) (h:i<l.length),(xq l)[i*2]?=some (.int .i64 l[i].1)∧(xq l)[i*2+1]?=some (.string (str l[i].2))
 | x::l,0,_=>⟨rfl,rfl⟩
 | x::l,i+1,h=>by
  have:=pR l i (by simpa using h);rw[show(i+1)*2=i*2+1+1 from by omega];exact this
theorem xL.view{w:World}{B:Nat}{v:Value}{l:List (Int × Bt)}(h:xL w B v l)(hz:∀x∈l,kC x.1):∃a c,v=.slice a l.length c∧kR w a l:=by
 rcases h.2 with⟨rfl,h0⟩|⟨g,cap,cur,rfl,hg,hh,hcc,hm,hcs,xg⟩
 ·obtain rfl:l=[]:=List.length_eq_zero_iff.1 h0;exact⟨none,0,rfl,fun i h=>by simp at h⟩
 ·refine⟨some ⟨g,0,none⟩,cap,rfl,fun i hi=>?_⟩;have key:∀(j:Nat) (u:Value),(xq l)[j]?=some u→w.cell? ⟨g,j,none⟩=some u:=by
   intro j u hu;rw[cell_of_row w g j cur 122 (0,0) hh];rw[← xg,List.getElem?_take]at hu;split at hu
   ·simpa using hu
   ·cases hu
  obtain⟨g0,g1⟩:=pR l i hi;exact⟨g,0,rfl,(Array.getElem?_eq_some_iff.1 hh).1,by rw[Nat.zero_add];exact key _ _ g0,by rw[Nat.zero_add];exact key _ _ g1,hz _ (List.getElem_mem hi)⟩
theorem qb4(x:Int × Bt):∀u∈([Value.int .i64 x.1,.string (str x.2)]:List Value),u.oneCell'=true:=by
 intro u hu;simp at hu;rcases hu with rfl|rfl <;> rfl
theorem xL.snoc{w1:World}{B:Nat}{v':Value}{l:List (Int × Bt)}{x:Int × Bt}(h:w1.ownsRow B 122 2 v' (l.length+1) (xq l++[.int .i64 x.1,.string (str x.2)])):xL w1 B v' (l++[x]):=by
 unfold xL;rw[List.length_append,bN];exact h
def q1r (l:List (Int × Bt))(w:World)(e:Ending)(w':World):Prop:=∃v,e=.returned v∧xL w' w.heap.size v l∧Below w.heap.size w w'
theorem xL.qo9{w:World}{B:Nat}{v:Value}{l:List (Int × Bt)}(h:xL w B v l)(hz:∀x∈l,kC x.1):∃a c,v=.slice a l.length c∧kR w a l∧∀b o,a=some ⟨b,o,none⟩→B≤b∧b<w.heap.size:=by
 obtain⟨a,c,hv,hl⟩:=h.view hz;refine⟨a,c,hv,hl,fun b o e=>?_⟩;rcases h.2 with⟨rfl,_⟩|⟨g,cap,cur,rfl,hg,hh,_⟩
 ·simp only[Value.slice.injEq]at hv;rw[e]at hv;cases hv.1
 ·simp only[Value.slice.injEq]at hv;rw[e]at hv;obtain⟨h1,_⟩:=hv;simp only[Option.some.injEq,Addr.mk.injEq,and_true]at h1;obtain⟨rfl,_⟩:=h1;exact⟨hg,(Array.getElem?_eq_some_iff.1 hh).1⟩
end Go.Proofs.YtdpbdkacngaemaaGreatDoor.ch
namespace Go.Proofs.YtdpbdkacngaemaaGreatDoor.ch.pg
open _root_.Go.Proofs.Tryz Go Go.RowKit ib
theorem vU:prog.follows .mixedOrders=true:=by kernel_rfl
@[go_sem] theorem qze (a b c d:Int) (w:World):(Op.equalIn 10000 38 (.agg #[.int .u64 a,.int .u64 b]) (.agg #[.int .u64 c,.int .u64 d])).run prog w=.ok (a == c&&b == d) w:=by
 have u3:=underlying36;have a3:=isAgg36;have z3:=sizeOf36;rw[show(10000:Nat)=9999+1 from rfl,run_equalIn_agg w 9999 38 _ _ (by kernel_rfl) (by kernel_rfl)];simp only[Program.fieldsOf,underlying38];go_simp;by_cases h1:a=c <;> by_cases h2:b=d <;> simp[h1,h2]
theorem qmn(x y:Gd):((x.1:Int) == (y.1:Int)&&(x.2:Int) == (y.2:Int))=decide (x=y):=by
 obtain⟨a,b⟩:=x;obtain⟨c,d⟩:=y;rw[Bool.eq_iff_iff];simp;omega
def sK (p q:List Bt)(k:Nat):List (Int × Bt):=(List.range k).filterMap fun i=>if q.getD i []=p.getD i []then none else some ((i:Int),q.getD i [])
theorem qdE(p q:List Bt)(k:Nat)(h:q.getD k []=p.getD k []):sK p q (k+1)=sK p q k:=by
 unfold sK;rw[List.range_succ,List.filterMap_append,List.filterMap_cons,if_pos h];simp
theorem qoA(p q:List Bt)(k:Nat)(h:¬ q.getD k []=p.getD k []):sK p q (k+1)=sK p q k++[((k:Int),q.getD k [])]:=by
 unfold sK;rw[List.range_succ,List.filterMap_append,List.filterMap_cons,if_neg h];rfl
theorem qif(p q:List Bt)(k:Nat)(hk:k≤1000):∀x∈sK p q k,kC x.1:=by
 intro x hx;unfold sK at hx;obtain⟨i,hi,h⟩:=List.mem_filterMap.1 hx;have:=List.mem_range.1 hi;split at h
 ·cases h
 ·injection h with h
  subst h;unfold kC;dsimp only;omega
theorem qsv(p q:List Bt)(k:Nat):(sK p q k).length≤k:=by
 unfold sK;have:=List.length_filterMap_le (fun i=>if q.getD i []=p.getD i []then none else some ((i:Int),q.getD i [])) (List.range k);simpa using this
theorem qig{w wr:World}(h:Below w.heap.size w wr)(n:Nat):Below w.heap.size w (wr.drewN n):=⟨h.os,h.tape,h.output,h.size,h.block⟩
theorem qg5:(prog.info? 38).map (fun i=>(i.zero,i.size,i.bytes))=some (some (.agg #[.int .u64 0,.int .u64 0]),2,16):=by kernel_rfl
theorem qwF(w:World)(t:TypeId)(v u:Value):∀(j:Nat) (x:Value),([v,u]:List Value)[j]?=some x→(w.alloc (.cells #[v,u] t)).cell? ((⟨w.heap.size,0,none⟩:Addr).add j)=some x:=by
 intro j x hj
 match j,hj with
 | 0,hj =>
  simp at hj;subst hj;rw[addr_add];exact(qd.new w t #[v,u]).cell 0
 | 1,hj =>
  simp at hj;subst hj;rw[addr_add];exact(qd.new w t #[v,u]).cell 1
section
variable {α β:Type} {f:α→List β} {m:Nat}
theorem aD:∀ {l:List α},(∀x∈l,(f x).length=m)→(l.flatMap f).length=l.length*m
 | [],_=>by simp
 | x::l,h=>by
  rw[List.flatMap_cons,List.length_append,aD (l:=l) (fun y hy=>h y (by simp[hy])),h x (by simp),List.length_cons,Nat.succ_mul];omega
theorem qih(l:List α)(k:Nat)(h:∀x∈l,(f x).length=m):(l.flatMap f).take (k*m)=(l.take k).flatMap f:=by
 by_cases hk:k≤l.length
 ·have e:l.flatMap f=(l.take k).flatMap f++(l.drop k).flatMap f:=by rw[← List.flatMap_append,List.take_append_drop]
  rw[e,List.take_left'];rw[aD (fun x hx=>h x (List.mem_of_mem_take hx)),List.length_take,Nat.min_eq_left hk]
 ·rw[List.take_of_length_le (i:=k) (by omega),List.take_of_length_le];rw[aD h];exact Nat.mul_le_mul_right m (by omega)
theorem qbC(l:List α)(k:Nat)(h:∀x∈l,(f x).length=m):(l.flatMap f).drop (k*m)=(l.drop k).flatMap f:=by
 by_cases hk:k≤l.length
 ·have e:l.flatMap f=(l.take k).flatMap f++(l.drop k).flatMap f:=by rw[← List.flatMap_append,List.take_append_drop]
  rw[e,List.drop_left'];rw[aD (fun x hx=>h x (List.mem_of_mem_take hx)),List.length_take,Nat.min_eq_left hk]
 ·rw[List.drop_of_length_le (i:=k) (by omega),List.drop_of_length_le]
  ·rfl
  ·rw[aD h];exact Nat.mul_le_mul_right m (by omega)
theorem qbD(l:List α)(k:Nat)(hk:k<l.length)(h:∀x∈l,(f x).length=m)(j:Nat)(u:β)(hu:(f l[k])[j]?=some u):(l.flatMap f)[k*m+j]?=some u:=by
 have e:=qbC l k h;rw[List.drop_eq_getElem_cons hk,List.flatMap_cons]at e;have:((l.flatMap f).drop (k*m))[j]?=some u:=by
  rw[e,List.getElem?_append_left (List.getElem?_eq_some_iff.1 hu).1];exact hu
 rwa [List.getElem?_drop]at this
theorem qoB(l:List α)(k:Nat)(s:α)(hk:k<l.length)(h:∀x∈l,(f x).length=m):(l.flatMap f).take (k*m)++f s++(l.flatMap f).drop (k*m+m)=(l.set k s).flatMap f:=by
 rw[show k*m+m=(k+1)*m by rw[Nat.succ_mul],qih l k h,qbC l (k+1) h,List.set_eq_take_append_cons_drop,if_pos hk,List.flatMap_append,List.flatMap_cons,List.append_assoc]
end
def pad (l:List Bt):List Bt:=l++List.replicate (8-l.length) zz
def vc (l:List Bt):List Value:=(pad l).flatMap Lib.byteCells
theorem vE {n:Nat}{l:List Bt}(h:qY n l)(h8:n≤8):(pad l).length=8:=by
 unfold pad;rw[List.length_append,List.length_replicate,h.1];omega
theorem pS {n:Nat}{l:List Bt}(h:qY n l):∀v∈pad l,v.length=32:=by
 intro v hv;rcases List.mem_append.1 hv with h1|h1
 ·exact h.2 v h1
 ·rw[List.eq_of_mem_replicate h1];exact qJ
theorem qoC{n:Nat}{l:List Bt}(h:qY n l):∀v∈pad l,(Lib.byteCells v).length=32:=fun v hv=>by rw[Lib.byteCells_length,pS h v hv]
theorem yb {n:Nat}{l:List Bt}(h:qY n l)(h8:n≤8):(vc l).length=256:=by
 unfold vc;rw[aD (qoC h),vE h h8]
theorem qg6(l:List Bt):∀u∈vc l,u.oneCell'=true:=by
 intro u hu;obtain⟨s,_,h⟩:=List.mem_flatMap.1 hu;exact Lib.byteCells_one _ u h
theorem qsw(l:List Bt)(k:Nat)(s:Bt)(hk:k<l.length):pad (l.set k s)=(pad l).set k s:=by
 unfold pad;rw[List.set_append_left _ _ hk,List.length_set]
theorem qwG{n:Nat}{l:List Bt}(h:qY n l)(k:Nat)(s:Bt)(hk:k<l.length):(vc l).take (k*32)++Lib.byteCells s++(vc l).drop (k*32+32)=vc (l.set k s):=by
 unfold vc;rw[qsw l k s hk];exact qoB (pad l) k s (by unfold pad;rw[List.length_append];omega) (qoC h)
theorem qg7{n:Nat}{l:List Bt}(h:qY n l)(k:Nat)(hk:k<(pad l).length)(j:Nat)(u:Value)(hu:(Lib.byteCells (pad l)[k])[j]?=some u):(vc l)[k*32+j]?=some u:=qbD (pad l) k hk (qoC h) j u hu
theorem qwH(l:List Bt)(k:Nat)(hk:k<l.length)(hp:k<(pad l).length):(pad l)[k]=l[k]:=List.getElem_append_left hk
theorem qsx{l q:List Bt}(h:l.length=q.length)(e:pad l=pad q):l=q:=List.append_inj_left e h
theorem qoD(n:Nat)(h8:n≤8):pad (uO n)=List.replicate 8 zz:=by
 unfold pad uO;rw[List.length_replicate,List.replicate_append_replicate]
 congr 1
 omega
theorem qii(n:Nat)(h8:n≤8):vc (uO n)=vc []:=by
 unfold vc;rw[qoD n h8];rfl
def sc (s:Sn):List Value:=vc s.bs++[.int .u64 (s.g.1:Int),.int .u64 (s.g.2:Int),.bool s.hid]
def dw (l:List Sn):List Value:=l.flatMap sc
theorem kZ {n:Nat}{s:Sn}(h:qY n s.bs)(h8:n≤8):(sc s).length=259:=by
 unfold sc;rw[List.length_append,yb h h8];rfl
theorem qbE(s:Sn):∀u∈sc s,u.oneCell'=true:=by
 intro u hu;rcases List.mem_append.1 hu with h|h
 ·exact qg6 _ u h
 ·simp at h;rcases h with rfl|rfl|rfl <;> rfl
theorem qur{n:Nat}{s:Sn}(h:qY n s.bs)(h8:n≤8):(sc s)[256]?=some (.int .u64 (s.g.1:Int)):=by
 unfold sc;rw[List.getElem?_append_right (by rw[yb h h8];omega),yb h h8];rfl
theorem qus{n:Nat}{s:Sn}(h:qY n s.bs)(h8:n≤8):(sc s)[257]?=some (.int .u64 (s.g.2:Int)):=by
 unfold sc;rw[List.getElem?_append_right (by rw[yb h h8];omega),yb h h8];rfl
theorem qwI{n:Nat}{s:Sn}(h:qY n s.bs)(h8:n≤8):(sc s)[258]?=some (.bool s.hid):=by
 unfold sc;rw[List.getElem?_append_right (by rw[yb h h8];omega),yb h h8];rfl
theorem qut(s:Sn)(j:Nat)(u:Value)(h:(vc s.bs)[j]?=some u):(sc s)[j]?=some u:=by
 unfold sc;rw[List.getElem?_append_left (List.getElem?_eq_some_iff.1 h).1];exact h
def z0:Sn:=⟨(0,0),[],false⟩
theorem nb:(prog.info? 174).map (fun i=>(i.zero,i.size,i.bytes))=some (some (.agg (sc z0).toArray),259,280):=by kernel_rfl
theorem kG:(prog.info? 174).map (·.size)=some 259:=by kernel_rfl
theorem bm:(prog.info? 169).map (·.size)=some 256:=by kernel_rfl
theorem qsy:(prog.info? 172).map (·.size)=some 258:=by kernel_rfl
theorem vF:(prog.info? 145).map (·.size)=some 32:=by kernel_rfl
def zm (n:Nat)(l:List Bt)(v:Value):List Value:=.int .i64 (n:Int)::(vc l++[v])
theorem qsz:(prog.info? 172).map (fun i=>(i.zero,i.size,i.bytes))=some (some (.agg (zm 0 [] (.slice none 0 0)).toArray),258,288):=by kernel_rfl
theorem pT {n m:Nat}{l:List Bt}{v:Value}(h:qY n l)(h8:n≤8):(zm m l v).length=258:=by
 unfold zm;rw[List.length_cons,List.length_append,yb h h8];rfl
theorem qoE{n m:Nat}{l:List Bt}{v:Value}(h:qY n l)(h8:n≤8):(zm m l v)[257]?=some v:=by
 unfold zm;rw[show 257=256+1 from rfl,List.getElem?_cons_succ,List.getElem?_append_right (by rw[yb h h8];omega),yb h h8];rfl
theorem qks{m:Nat}{l:List Bt}{v:Value}(j:Nat)(u:Value)(h:(vc l)[j]?=some u):(zm m l v)[1+j]?=some u:=by
 unfold zm;rw[Nat.add_comm,List.getElem?_cons_succ,List.getElem?_append_left (List.getElem?_eq_some_iff.1 h).1];exact h
theorem qdF{n m:Nat}{l:List Bt}{v u:Value}(h:qY n l)(h8:n≤8):(zm m l v).toArray.setIfInBounds 257 u=(zm m l u).toArray:=by
 unfold zm;rw[List.setIfInBounds_toArray,show 257=256+1 from rfl,List.set_cons_succ,List.set_append_right _ _ (by rw[yb h h8];omega),yb h h8];rfl
theorem qdG{n m:Nat}{l:List Bt}{v:Value}(h:qY n l)(h8:n≤8)(k:Nat)(s:Bt)(hk:k<l.length):(zm m l v).take (1+k*32)++Lib.byteCells s++(zm m l v).drop (1+k*32+32)=zm m (l.set k s) v:=by
 have hl:=yb h h8;have hn:=h.1;unfold zm;rw[show 1+k*32+32=(k*32+32)+1 by omega,Nat.add_comm 1,List.take_succ_cons,List.drop_succ_cons,List.take_append_of_le_length (by omega),List.drop_append_of_le_length (by omega),← qwG h k s hk];simp
theorem qoF{n:Nat}{l:List Sn}(h:∀s∈l,qY n s.bs)(h8:n≤8):(dw l).length=l.length*259:=aD (fun s hs=>kZ (h s hs) h8)
theorem qoG{n:Nat}{l:List Sn}(h:∀s∈l,qY n s.bs)(h8:n≤8)(k:Nat)(hk:k<l.length)(j:Nat)(u:Value)(hu:(sc l[k])[j]?=some u):(dw l)[k*259+j]?=some u:=qbD l k hk (fun s hs=>kZ (h s hs) h8) j u hu
theorem qkt(l:List Sn)(s:Sn):dw (l++[s])=dw l++sc s:=by simp[dw]
def vV (w:World)(v:Value)(l:List Sn):Prop:=∃A c,v=.slice A l.length c∧l.length≤c∧c≤maxLen ∧
 ((A=none∧l.length=0∧c=0)∨∃g cur,A=some ⟨g,0,none⟩∧qd w g 174 cur∧cur.toList.take (l.length*259)=dw l)
theorem qku{w:World}{n k m c:Nat}{A:Option Addr}{l:List Sn}(h:vV w (.slice A m c) l)(ho:∀s∈l,qY n s.bs)(h8:n≤8)(hk:k≤l.length)(c2:Nat)(hc2:k≤c2)(hc:c2≤c):vV w (.slice A k c2) (l.take k):=by
 have hlk:(l.take k).length=k:=by rw[List.length_take];omega
 obtain⟨A',c',e,h1,h2,h3⟩:=h;simp only[Value.slice.injEq]at e;obtain⟨rfl,rfl,rfl⟩:=e;refine⟨A,c2,by rw[hlk],by omega,by omega,?_⟩;rcases h3 with⟨rfl,h0,rfl⟩|⟨g,cur,rfl,hb,xg⟩
 ·exact .inl ⟨rfl,by omega,by omega⟩
 ·refine .inr ⟨g,cur,rfl,hb,?_⟩;have e2:=qih (f:=sc) l k (fun s hs=>kZ (ho s hs) h8);rw[hlk];unfold dw at xg ⊢;rw[← e2,← xg,List.take_take,Nat.min_eq_left (Nat.mul_le_mul_right 259 hk)]
theorem ja {w:World}{n:Nat}{v:Value}{l:List Sn}(h:vV w v l)(ho:∀s∈l,qY n s.bs)(h8:n≤8) :
    ∃A c,v=.slice A l.length c∧l.length≤c∧(A=none→l.length=0∧c=0)∧∀i (hi:i<l.length),∃g cur,A=some ⟨g,0,none⟩∧qd w g 174 cur∧∀j u,(sc l[i])[j]?=some u→cur[i*259+j]?=some u:=by
 obtain⟨A,c,rfl,h1,h2,h3⟩:=h;rcases h3 with⟨rfl,h0,rfl⟩|⟨g,cur,rfl,hb,xg⟩
 ·exact⟨none,0,rfl,h1,fun _=>⟨h0,rfl⟩,fun i hi=>by omega⟩
 ·refine⟨some ⟨g,0,none⟩,c,rfl,h1,(fun h=>by cases h),fun i hi=>⟨g,cur,rfl,hb,fun j u hu=>?_⟩⟩;have hr:=qoG ho h8 i hi j u hu;rw[← xg,List.getElem?_take]at hr;split at hr
  ·simpa using hr
  ·cases hr
theorem vV.of_block{w w':World}{v:Value}{l:List Sn}(h:vV w v l)(hb:∀k,v.ownBlock=some k→w'.heap[k]?=w.heap[k]?):vV w' v l:=by
 obtain⟨A,c,rfl,h1,h2,h3⟩:=h;refine⟨A,c,rfl,h1,h2,?_⟩;rcases h3 with h3|⟨g,cur,rfl,h4,h5⟩
 ·exact .inl h3
 ·exact .inr ⟨g,cur,rfl,h4.of_block (hb g rfl),h5⟩
theorem vV.lt{w:World}{v:Value}{l:List Sn}(h:vV w v l):∀k,v.ownBlock=some k→k<w.heap.size:=by
 obtain⟨A,c,rfl,h1,h2,h3⟩:=h;intro k hk;rcases h3 with⟨rfl,_⟩|⟨g,cur,rfl,h4,h5⟩
 ·cases hk
 ·simp[Value.ownBlock]at hk;subst hk;exact h4.lt
theorem vV.ne{w:World}{v:Value}{l:List Sn}{a:Nat}{t:TypeId}{x:Array Value}(h:vV w v l)(k:qd w a t x)(hn:t≠174):∀j,v.ownBlock=some j→j≠a:=by
 obtain⟨A,c,rfl,h1,h2,h3⟩:=h;intro j hj;rcases h3 with⟨rfl,_⟩|⟨g,cur,rfl,h4,h5⟩
 ·cases hj
 ·simp[Value.ownBlock]at hj;subst hj;exact(uG k h4 hn).symm
theorem vV.cells{w:World}{A:Option Addr}{n c:Nat}{l:List Sn}(h:vV w (.slice A n c) l):n=l.length∧(A=none→n=0)∧∀b,A=some b→∀j u,(dw l)[j]?=some u→w.cell? (b.add j)=some u:=by
 obtain⟨A',c',e,h1,h2,h3⟩:=h;simp only[Value.slice.injEq]at e;obtain⟨rfl,rfl,rfl⟩:=e;rcases h3 with⟨rfl,h0,rfl⟩|⟨g,cur,rfl,hb,xg⟩
 ·exact⟨rfl,(fun _=>h0),fun b hb=>by cases hb⟩
 ·refine⟨rfl,(fun h=>by cases h),fun b e j u hu=>?_⟩;simp only[Option.some.injEq]at e;subst e;rw[addr_add,Nat.zero_add,hb.cell j];rw[← xg,List.getElem?_take]at hu;split at hu
  ·simpa using hu
  ·cases hu
structure ve(w:World)(own:Nat→Prop)(p:Nat)(v:Value)(d:CH):Prop where
 blk:qd w p 172 (zm d.live.length d.live v).toArray
 row:vV w v d.qc
 op:own p
 om:∀k,v.ownBlock=some k→own k
 low:∀k,own k→k<w.heap.size
def Is0:rS:=fun own w p d=>d.ok∧∃v,ve w own p v d
section
variable {w w':World} {own:Nat→Prop} {p:Nat} {v:Value} {d:CH}
theorem ve.vp(h:ve w own p v d):∀j,v.ownBlock=some j→j≠p:=h.row.ne h.blk (by decide)
theorem ve.keep(h:ve w own p v d)(hs:w.heap.size≤w'.heap.size)(hb:∀k,own k→w'.heap[k]?=w.heap[k]?):ve w' own p v d :=
 ⟨h.blk.of_block (hb _ h.op),h.row.of_block (fun k hk=>hb k (h.om k hk)),h.op,h.om,fun k hk=>Nat.lt_of_lt_of_le (h.low k hk) hs⟩
theorem ve.below(h:ve w own p v d)(hb:Below w.heap.size w w'):ve w' own p v d:=h.keep hb.size (fun k hk=>hb.block k (h.low k hk))
theorem ve.c0(h:ve w own p v d):w.cell? ⟨p,0,none⟩=some (.int .i64 (d.live.length:Int)):=by
 rw[h.blk.cell 0];rfl
theorem ve.c2(h:ve w own p v d)(ho:d.ok):w.cell? ⟨p,257,none⟩=some v:=by
 rw[h.blk.cell 257];simpa using qoE (m:=d.live.length) (v:=v) ho.live ho.n8
theorem vV.below{l:List Sn}(h:vV w v l)(hb:Below w.heap.size w w'):vV w' v l:=h.of_block (fun k hk=>hb.block k (h.lt k hk))
end
end Go.Proofs.YtdpbdkacngaemaaGreatDoor.ch.pg
namespace Go.Proofs.YtdpbdkacngaemaaGreatDoor.ch.pg
open _root_.Go.Proofs.Tryz Go Go.RowKit Go.Sort ib
theorem kr (a b:Gd)(w:World):Calls prog 241 #[gv a,gv b] w fun e w'=>e=.returned (.bool (above a b))∧Below w.heap.size w w':=by
 obtain⟨a1,a2⟩:=a;obtain⟨b1,b2⟩:=b;have HR:Hid (above (a1,a2) (b1,b2)=(decide ((b1:Int)<(a1:Int)) || (decide ((a1:Int)=(b1:Int))&&decide ((b2:Int)<(a2:Int))))):=by
  unfold Hid above;simp[Int.ofNat_inj]
 show Calls prog 241 #[.agg #[.int .u64 (a1:Int),.int .u64 (a2:Int)],.agg #[.int .u64 (b1:Int),.int .u64 (b2:Int)]] w _;obtain⟨r,hr⟩:=QE (above (a1,a2) (b1,b2));rw[hr]at HR ⊢;generalize (a1:Int)=x1 at *;generalize (a2:Int)=x2 at *;generalize (b1:Int)=y1 at *;generalize (b2:Int)=y2 at *;clear hr;have hB1:=(Below.refl w.heap.size w).alloc (Nat.le_refl _) (.cells #[.int .u64 x1,.int .u64 x2] 38);have HB:=QH (hB1.alloc hB1.size (.cells #[.int .u64 y1,.int .u64 y2] 38));clear hB1;by_cases h2:x1=y1
 ·subst h2;have HT:Hid (r=decide (y2<x2)):=by unfold Hid;rw[HR.out];simp
  clear HR;go_enter func241,ntmps241;go_wp2_with fail;go_ret;rw[HT.out];exact⟨rfl,HB.out⟩
 ·have HT:Hid (r=decide (y1<x1)):=by unfold Hid;rw[HR.out];simp[h2]
  have hq:(x1 == y1)=false:=by simpa using h2
  clear HR;go_enter func241,ntmps241;go_wp2_with fail;go_ret;rw[HT.out];exact⟨rfl,HB.out⟩
theorem l9 {w:World}{p n:Nat}(c0:w.cell? ⟨p,0,none⟩=some (.int .i64 (n:Int)))(k:Int)(s:Bt):Calls prog 239 #[.pointer (some ⟨p,0,none⟩),.int .i64 k,.string (str s)] w fun e w'=>e=.returned (.bool (decide (0≤k∧k<(n:Int)∧s.length=32)))∧Below w.heap.size w w':=by
 have HS:Hid ((str s).size=s.length):=qQ s;obtain⟨t,ht⟩:=QE (str s);rw[ht]at HS ⊢;clear ht;by_cases h0:(0:Int)≤k
 ·by_cases h1:k<(n:Int)
  ·have HR:Hid (decide (0≤k∧k<(n:Int)∧s.length=32)=((t.size:Int) == 32)):=by
      unfold Hid;rw[Bool.eq_iff_iff];simp only[decide_eq_true_eq,beq_iff_eq];rw[HS.out];omega
   rw[HR.out];clear HR;go_enter func239,ntmps239;go_wp2_with fail;go_ret;exact⟨rfl,Below.refl _ _⟩
  ·have HR:Hid (decide (0≤k∧k<(n:Int)∧s.length=32)=false):=decide_eq_false (fun h=>h1 h.2.1);rw[HR.out];clear HR;go_enter func239,ntmps239;go_wp2_with fail;go_ret;exact⟨rfl,Below.refl _ _⟩
 ·have HR:Hid (decide (0≤k∧k<(n:Int)∧s.length=32)=false):=decide_eq_false (fun h=>h0 h.1);rw[HR.out];clear HR;go_enter func239,ntmps239;go_wp2_with fail;go_ret;exact⟨rfl,Below.refl _ _⟩
theorem qs0{w:World}{b o:Nat}{t:TypeId}{cs:Array Value}(h:qd w b t cs)(hl:o+256≤cs.size)(k:Nat)(hk:k<8)(s:Bt)(hs:s.length=32) :
    Calls prog 240 #[.pointer (some ⟨b,o,none⟩),.int .i64 (k:Int),.string (str s)] w fun e w'=>e=.returned (.tuple #[])∧w'=w.setRow b (cs.toList.take (o+k*32)++Lib.byteCells s++cs.toList.drop (o+k*32+32)).toArray:=by
 have HB:=QH h;have HL:Hid (o+k*32+32≤cs.size):=by unfold Hid;omega
 have HS:Hid ((str s).size=32):=(qQ s).trans hs;have hk8:(k:Int)<8:=by omega
 have dt:Hid (bl (str s)=s):=zC s;obtain⟨t2,ht⟩:=QE (str s);rw[ht]at HS dt ⊢;clear ht hl hs h;obtain⟨iu,hi,hz0,hz1,hz2⟩:=info_parts Tryz.ny;go_enter func240,ntmps240;go_wp2_with (refine qh rfl (oY w (.tmp 10) (.tmp 11) 64 9 5 t2 b (o+k*32) 32 _ t cs iu rfl rfl rfl HS.out HB.out HL.out underlying64 hi hz1) ?_)
 go_end0
 rw[dt.out];exact⟨rfl,rfl⟩
def jt (n:Nat)(l:List Sn):Sn:=(l.getLast?).getD ⟨(0,0),uO n,false⟩
theorem pU {n:Nat}{l:List Sn}(h:∀s∈l,qY n s.bs):qY n (jt n l).bs:=by
 unfold jt;cases hl:l.getLast? with
 | none=>exact qbg n
 | some s=>exact h s (List.mem_of_getLast? hl)
theorem qs2(d:CH):(jt d.live.length d.qc).g=d.last:=by
 unfold jt CH.last;cases d.qc.getLast? <;> rfl
theorem qkv(n:Nat):jt n []=⟨(0,0),uO n,false⟩:=rfl
theorem qkw(n:Nat)(l:List Sn)(k:Nat)(hk:k<l.length)(hl:k+1=l.length):jt n l=l[k]:=by
 unfold jt;rw[List.getLast?_eq_getElem?,show l.length-1=k by omega,List.getElem?_eq_getElem hk];rfl
theorem qs3(n:Nat)(h8:n≤8):sc ⟨(0,0),uO n,false⟩=sc z0:=by
 unfold sc z0;dsimp only;rw[qii n h8]
theorem qkx{ρ:Operand→Value}{o:Oper}{w:World}{i:TypeInfo}{z:Array Value}(ho:o.op=.build 174 #[])(hi:prog.info? 174=some i)(hz:i.zero=some (.agg z)) :
    (execOp ρ o).run prog w=.ok (.value (.agg z)) w:=by
 have hz:∀w,(zeroValue 174).run prog w=.ok (.agg z) w:=fun w=>by simp[zeroValue,typeInfo,hi,hz]
 simp[execOp,ho,Instr.build,hz,Result.andThen,go_sem,Value.cells]
theorem qdH{w:World}{n:Nat}{v:Value}{l:List Sn}(h:vV w v l)(ho:∀s∈l,qY n s.bs)(h8:n≤8)(h20:l.length≤20) :
    Calls prog 168 #[v] w fun e w'=>e=.returned (.agg (sc (jt n l)).toArray)∧Below w.heap.size w w':=by
 obtain⟨i0,hi,hz0,hz1,hz2⟩:=info_parts nb;obtain⟨A,c,rfl,hlc,hA,hx⟩:=ja h ho h8;have HX:=QH hx;have HI:=QH hi;have HZ:=QH hz0;have HB:=QH ((Below.refl w.heap.size w).alloc (Nat.le_refl _) (.cells (sc (jt n l)).toArray 174));have HN:Hid (qd (w.alloc (.cells (sc (jt n l)).toArray 174)) w.heap.size 174 (sc (jt n l)).toArray):=qd.new _ _ _;have HLEN:Hid ((sc (jt n l)).length=259):=kZ (pU ho) h8;have HZL:Hid ((sc z0).length=259):=by unfold Hid z0;exact kZ (n:=0) ⟨rfl,fun v hv=>by simp at hv⟩ (by omega)
 have HZZ:=QH (fun(e:l.length=0)=>show sc (jt n l)=sc z0 by rw[List.length_eq_zero_iff.1 e,qkv,qs3 n h8]);have HP:=QH (fun k hk hl=>qkw n l k hk hl);obtain⟨S,hS⟩:=QE (sc (jt n l));have HS:=QH hS;rw[hS]at HB HN HLEN HZZ ⊢;have H1:Hid (∀u∈S,u.oneCell'=true):=by unfold Hid;rw[← hS];exact qbE _
 clear h hi hz0 hz1 hz2 hx hS;have xu:Hid (∀W,qd W w.heap.size 174 S.toArray→(loadVar 174 ⟨w.heap.size,0,none⟩).run prog W=.ok (.agg S.toArray) W):=fun W hW =>
  yV W w.heap.size 0 174 174 S.toArray S (0,0) _ hW underlying174 rfl (by rw[kG,HLEN.out]) (fun j u hu=>by rw[Nat.zero_add];simpa using hu)
 by_cases hz:l.length=0
 ·obtain⟨Z,hZ⟩:=QE (sc z0);have hzz:=HZZ.out hz;rw[hZ]at HZ HZL hzz;subst hzz;rw[hz];clear HZZ HP hZ HS HX;go_enter func168,ntmps168;go_wp2_with (first|(refine qh rfl (gu 174 i0 S.toArray rfl HI.out HZ.out) ?_)|(refine qh rfl (qkx rfl HI.out HZ.out) ?_)|(refine wpList_skip rfl (qZ w 174 S.toArray S.toArray (.tmp 2) (.tmp 6) rfl rfl rfl (by rw[kG,List.size_toArray,HLEN.out]) rfl (ku H1.out)) ?_));refine bodyPost_ret (v:=.agg S.toArray) ?_ rfl ?_
  ·exact zh rfl _ _ _ ⟨w.heap.size,0,none⟩ _ rfl (xu.out _ HN.out)
  exact⟨rfl,HB.out⟩
 ·obtain⟨k,hk⟩:=QE (l.length-1);have iV:k<l.length:=by omega
  have hSk:=HP.out k iV (by omega);obtain⟨g,cur,rfl,hb,hc⟩:=HX.out k iV;rw[← hSk,HS.out]at hc;have HC:=QH hc;have HBG:Hid (qd (w.alloc (.cells (sc z0).toArray 174)) g 174 cur):=hb.of_block (Below.heap_alloc w _ _ hb.lt);have hw:IntKind.i64.wrap ((l.length:Int)-1)=(k:Int):=by rw[IntWalk.i64_in _ (by omega)];omega
  have yr:(k:Int)<(l.length:Int):=by omega
  have hnz:((l.length:Int) == 0)=false:=beq_false_of_ne (by omega);obtain⟨Z,hZ⟩:=QE (sc z0);rw[hZ]at HZ HZL HBG;clear HZZ HP hZ HS HX hb hc hSk hk hz;go_enter func168,ntmps168;go_wp2_with (first|(refine qh rfl (gu 174 i0 Z.toArray rfl HI.out HZ.out) ?_)|(refine qh rfl (qF 174 (.tmp 11) rfl g (k*259) rfl _ cur S _ _ HBG.out underlying174 rfl (by rw[kG,HLEN.out]) HC.out) ?_)|(refine wpList_skip rfl (qZ w 174 Z.toArray S.toArray (.tmp 2) (.tmp 12) rfl rfl rfl (by rw[kG,List.size_toArray,HLEN.out]) (by rw[List.size_toArray,List.size_toArray,HLEN.out,HZL.out]) (ku H1.out)) ?_));refine bodyPost_ret (v:=.agg S.toArray) ?_ rfl ?_
  ·exact zh rfl _ _ _ ⟨w.heap.size,0,none⟩ _ rfl (xu.out _ HN.out)
  exact⟨rfl,HB.out⟩
def xM (l:List Bt):Array Value:=(l.map fun s=>Value.string (str s)).toArray
theorem ky (l:List Bt)(i:Nat)(h:i<l.length):(xM l)[i]?=some (.string (str l[i])):=by simp[xM,h]
theorem pV (l:List Bt)(i:Nat)(v:Bt):(xM l).setIfInBounds i (.string (str v))=xM (l.set i v):=by
 unfold xM;rw[List.setIfInBounds_toArray,List.map_set]
theorem qg9(n:Nat):madeCells #[.string ByteArray.empty] n=xM (List.replicate n []):=by
 apply Array.ext
 ·simp[size_madeCells,xM]
 ·intro j h1 h2;have e:(xM (List.replicate n []))[j]?=some (.string (str [])):=by
   have hj:j<n:=by simpa[xM]using h2
   rw[ky _ _ (by simpa using hj),List.getElem_replicate]
  rw[Array.getElem?_eq_getElem h2]at e;rw[Option.some.inj e];simp[madeCells,Nat.mod_one];rfl
theorem qgA(n:Nat)(h:n≤1000)(W:World):(Instr.makeSlice 57 (.int .i64 (n:Int)) (.int .i64 (n:Int))).run prog W=.ok (.slice (some ⟨W.heap.size,0,none⟩) n n) (W.alloc (.cells (xM (List.replicate n [])) 9)):=by
 obtain⟨i0,hi,hz0,hz1,hz2⟩:=info_parts Tryz.qlY;have hmk:=run_make (P:=prog) W 57 9 i0 (.string ByteArray.empty) underlying57 hi hz0 .i64 .i64 (n:Int) (n:Int) (by omega) (Int.le_refl _) (by rw[hz2];omega) (by omega);rw[hz1]at hmk;rw[← qg9];simpa[Value.cells]using hmk
theorem pX {ρ:Operand→Value}{o:Oper}{w:World}(x y:Operand)(n:Nat)(ho:o.op=.makeSlice 57 x y)(hx:ρ x=.int .i64 (n:Int))(hy:ρ y=.int .i64 (n:Int))(h:n≤1000) :
    (execOp ρ o).run prog w=.ok (.value (.slice (some ⟨w.heap.size,0,none⟩) n n)) (w.alloc (.cells (xM (List.replicate n [])) 9)):=by
 simp[execOp,ho,hx,hy,qgA n h w,Result.andThen]
theorem qs4(P:Bt)(cs:Array Value)(b o:Nat)(t:TypeId)(w:World)(hp:P.length=32)(h:qd w b t cs)(hc:∀(j:Nat) (u:Value),(Lib.byteCells P)[j]?=some u→cs[o+j]?=some u) :
    (convert 64 9 (.slice (some ⟨b,o,none⟩) 32 32)).run prog w=.ok (.string (str P)) w:=by
 have:=run_convert_bytes_back (P:=prog) w 64 9 5 ⟨b,o,none⟩ 32 P underlying64 underlying5 underlying9 ?_
 ·rw[hp]at this;exact this
 ·intro j hj;rw[addr_add,h.cell];exact hc j _ (by simp[Lib.byteCells,hj])
def qwJ (l:List Bt)(n:Nat)(w:World)(i:Value)(wr:World):Prop :=
 ∃k:Nat,k≤n∧i=.int .i64 (k:Int)∧qd wr w.heap.size 9 (xM (l.take k++List.replicate (n-k) []))∧Below w.heap.size w wr
theorem take_set{l:List Bt}{n k:Nat}(hl:l.length=n)(hk:k<n):(l.take k++List.replicate (n-k) []).set k (l[k]'(by omega))=l.take (k+1)++List.replicate (n-(k+1)) []:=by
 rw[List.set_append_right _ _ (by rw[List.length_take];omega),List.length_take,Nat.min_eq_left (by omega),Nat.sub_self,show n-k=(n-(k+1))+1 by omega,List.replicate_succ,List.set_cons_zero,List.take_succ_eq_append_getElem (by omega),List.append_assoc];rfl
theorem dL {w:World}{b o n:Nat}{t:TypeId}{cs:Array Value}{l:List Bt}(h:qd w b t cs)(hc:∀j u,(vc l)[j]?=some u→cs[o+j]?=some u)(ho:qY n l)(h8:n≤8) :
    Calls prog 170 #[.pointer (some ⟨b,o,none⟩),.int .i64 (n:Int)] w (q5s l w):=by
 have HB:=QH h;have HC:=QH hc;have HO:=QH ho;have dt:Hid (b<w.heap.size):=h.lt;clear h hc ho;go_enter func170,ntmps170;go_wp2_with (at_make;refine qh rfl (pX _ _ n rfl rfl rfl (by omega)) ?_);go_loopw [6,11] (fun _ i wr=>qwJ l n w i wr) (fun _ i _=>n-(intOf i).toNat);case atStart=>exact⟨0,Nat.zero_le _,rfl,by simpa using qd.new w 9 (xM (List.replicate n [])),(Below.refl _ _).alloc (Nat.le_refl _) _⟩
 case round =>
  obtain⟨k,hk,rfl,zy,bq⟩:=hrel;have HK:=QH zy;have bH:=QH bq;clear zy bq;by_cases hlt:k<n
  ·have yr:(k:Int)<(n:Int):=by omega
   have hk8:(k:Int)<8:=by omega
   have bE:k<l.length:=by rw[HO.out.1];exact hlt
   have hp:k<(pad l).length:=by rw[vE HO.out h8];omega
   have tR:=qs4 l[k] cs b (o+k*32) t wr (HO.out.2 _ (List.getElem_mem bE)) (HB.out.of_block (bH.out.block b dt.out)) (fun j u hu=>by
    rw[Nat.add_assoc];refine HC.out _ _ (qg7 HO.out k hp j u ?_);rw[qwH l k bE hp];exact hu)
   have f1:=HK.out.frozen k;have HS:Hid ((xM (l.take k++List.replicate (n-k) [])).setIfInBounds k (.string (str l[k]))=xM (l.take (k+1)++List.replicate (n-(k+1)) [])):=by
    unfold Hid;rw[pV,take_set HO.out.1 hlt]
   obtain⟨z,hz⟩:∃z,wr.cell? ⟨w.heap.size,k,none⟩=some z:=by
    rw[HK.out.cell k,ky _ _ (by rw[List.length_append,List.length_take,List.length_replicate];omega)];exact⟨_,rfl⟩
   have uR:=QH (HK.out.qo k (.string (str l[k])));have qC:=QH (bH.out.setCell (p:=⟨w.heap.size,k,none⟩) (Nat.le_refl _) (.string (str l[k])));clear HK bH hp;go_wp2_with fail;go_roundw;case rel=>exact⟨k+1,by omega,by go_num,by rw[← HS.out];exact uR.out,qC.out⟩
   case measure=>simp[intOf];omega
  ·obtain rfl:k=n:=by omega
   have yr:¬ (k:Int)<(k:Int):=by omega
   have hl:=HO.out.1;have HT:Hid (TxL wr (some ⟨w.heap.size,0,none⟩) l):=fun i hi=>⟨w.heap.size,0,rfl,HK.out.lt,by
    rw[Nat.zero_add,HK.out.cell i,ky _ _ (by rw[List.length_append,List.length_take];omega)];rw[List.getElem_append_left (by rw[List.length_take];omega),List.getElem_take]⟩
   have rM:=QH HK.out.lt;have gK:=QH hl;clear hl HK;go_wp2_with fail;go_ret;refine⟨_,k,by rw[gK.out];rfl,HT.out,fun b o e=>?_,bH.out⟩;simp only[Option.some.injEq,Addr.mk.injEq,and_true]at e;obtain⟨rfl,_⟩:=e;exact⟨Nat.le_refl _,rM.out⟩
end Go.Proofs.YtdpbdkacngaemaaGreatDoor.ch.pg
namespace Go.Proofs.YtdpbdkacngaemaaGreatDoor.vt.pg
open _root_.Go.Proofs.Tryz Go Go.RowKit Go.Sort ib mt im sp
def cK:List Int→List Pl→List Int
 | l,[]=>l
 | l,p::r=>cK (l.set p.1.toNat p.2.1) r
theorem qap:∀(P:List Pl) (l:List Int) (p:Pl),cK l (P++[p])=(cK l P).set p.1.toNat p.2.1
 | [],_,_=>rfl
 | q::P,l,p=>qap P (l.set q.1.toNat q.2.1) p
theorem pY:∀(P:List Pl) (l:List Int),(cK l P).length=l.length
 | [],_=>rfl
 | q::P,l=>by
  show(cK (l.set q.1.toNat q.2.1) P).length=_;rw[pY P,List.length_set]
theorem qij:∀(x:List (Int × Bt)) (at_:List Int) (l:List Int),cK l (PL x at_)=xm l x at_
 | [],_,_=>by rw[gq];rfl
 | _::_,[],_=>by rw[cB];rfl
 | (k,s)::r,a::at_,l=>by
  rw[vz];exact qij r at_ (l.set k.toNat a)
def PuR (G:Nat→Prop)(l:List Int)(P:List Pl)(w:World)(s i:Value)(wr:World):Prop :=
 ∃(k:Nat) (A:Option Addr) (c:Nat),k≤P.length∧i=.int .i64 (k:Int)∧s=.slice A l.length c∧bw G wr A (cK l (P.take k)) c∧Below w.heap.size w wr
theorem kA {G:Nat→Prop}{w:World}{A:Option Addr}{c:Nat}{l:List Int}(hl:bw G w A l c)(h1:0<l.length)(quu:l.length≤1000){B:Option Addr}{cb:Nat}{P:List Pl}(hP:PlL w B P)(hp:∀p∈P,0≤p.1∧p.1<(l.length:Int)∧0≤p.2.1∧qG p.2.1)(hpl:P.length≤1000)(hG:∀j,w.heap.size≤j→G j) :
    Calls prog 65 #[.slice A l.length c,.slice B P.length cb] w (qjF G (cK l P) w):=by
 have HL:=QH hl;have HP:=QH hP;have HPP:=QH hp;have HG:=QH hG;clear hl hP hp hG;go_enter func65,ntmps65;go_wp2_with fail;go_loopw [0,9] (fun s i wr=>PuR G l P w s i wr) (fun _ i _=>P.length-(intOf i).toNat);case atStart=>exact⟨0,A,c,Nat.zero_le _,rfl,rfl,HL.out,Below.refl _ _⟩
 case round =>
  obtain⟨k,A1,c1,hk,rfl,rfl,hs,hB⟩:=hrel;have HS:=QH hs;have HB:=QH hB;clear hs hB;by_cases hlt:k<P.length
  ·have yr:(k:Int)<(P.length:Int):=by omega
   have hk0:¬ (k:Int)<0:=by omega
   obtain⟨b,o,rfl,s1,s2,s3,s4⟩:=(HP.out.below HB.out) k hlt;obtain⟨p0,p1,p2,p3⟩:=HPP.out _ (List.getElem_mem hlt);have jC:Hid (cK l (P.take (k+1))=(cK l (P.take k)).set P[k].1.toNat P[k].2.1):=by unfold Hid;rw[List.take_succ_eq_append_getElem hlt,qap]
   obtain⟨x,hx⟩:=QE (P[k]);rw[hx]at s2 s3 s4 p0 p1 p2 p3 jC;clear hx;obtain⟨bk,at_,s⟩:=x;dsimp only at s2 s3 s4 p0 p1 p2 p3 jC;obtain⟨S,hS⟩:=QE (str s);rw[hS]at s4;clear hS;have rQ:=pY (P.take k) l;have hw:qch (cK l (P.take k)) bk at_=((cK l (P.take k)).set bk.toNat at_,0):=by
    unfold qch;rw[if_neg (by omega)]
   have vq:=(Below.refl _ wr).alloc (Nat.le_refl _) (.cells #[.int .i64 bk,.int .i64 at_,.string S] 214);have mY:=qd.new wr 214 #[.int .i64 bk,.int .i64 at_,.string S];obtain⟨W2,hW2⟩:=QE (wr.alloc (.cells #[.int .i64 bk,.int .i64 at_,.string S] 214));rw[hW2]at vq mY;have v0:=mY.cell 0;have v1:=mY.cell 1;have hvl:=mY.lt;simp only[QA,QB,QC]at v0 v1;have hwc:=q1q A1 c1 (cK l (P.take k)) bk at_ W2 (HS.out.at_.below vq) (by omega) (by unfold qG;omega) p3;rw[hw,rQ]at hwc;have HWC:=QH hwc;have qC:=QH (qa HB.out vq);have HL1:Hid (((cK l (P.take k)).set bk.toNat at_).length=l.length):=by unfold Hid;rw[List.length_set,rQ]
   clear hw hwc vq mY rQ p0 p1 p2 p3;go_upto_region 4 with fail;try rw[hW2]
   clear hW2 s1 s2 s3 s4;go_wp2_with fail;refine HWC.out.mono ?_;rintro e W3 ⟨A3,c3,rfl,hn,hb3⟩;have zB:=QH (qa qC.out hb3);have HN:Hid (bw G W3 A3 ((cK l (P.take k)).set bk.toNat at_) c3):=bw.qvR (w0:=w) hn (fun j h1 h2=>HG.out j (Nat.le_trans qC.out.size h1)) (fun b o s e=>by
    obtain⟨b',o',e',_⟩:=hn.ints 0 (by have:=HL1.out;dsimp only;omega);rw[e]at e';injection e' with e'
    injection e')
   have hlen:=HL1.out;dsimp only;rw[hlen];clear hn hb3 HWC hlen;go_wp2_with fail;go_roundw;case rel=>exact⟨k+1,A3,c3,by omega,by go_num,rfl,by rw[jC.out];exact HN.out,zB.out⟩
   case measure=>simp[intOf];omega
  ·obtain rfl:k=P.length:=by omega
   have yr:¬ (P.length:Int)<(P.length:Int):=by omega
   have hs:=HS.out;rw[List.take_length]at hs;have HSS:=QH hs;have lT:=QH (pY P l);clear hs;go_wp2_with fail;go_ret;exact⟨A1,c1,by rw[lT.out];rfl,HSS.out,HB.out⟩
def RdR (t:Tg)(l:List Int)(g:Nat)(w:World)(i:Value)(wr:World):Prop :=
 ∃k:Nat,k≤l.length∧i=.int .i64 (k:Int)∧qd wr g 9 (ch.pg.xM ((volume t l).take k++List.replicate (l.length-k) []))∧ib.qB (fun j=>j=g) w wr
theorem r8 {o1 o2:Nat→Prop}{w:World}{v pd N:Nat}{d:DD}{m:Mt}{lo:Bool}{t:Tg}(h:VP ak w o1 o2 v pd d m lo)(hJ:jr.JJ N t d){A:Option Addr}{c:Nat}{l:List Int}(hl:jv w A l c)(quu:l.length≤1000)(hz:∀z∈l,z=0∨(193≤z∧z<(N:Int))) :
    Calls prog 88 #[pt v,.slice A l.length c] w (ch.oV (volume t l,0) w):=by
 have HV:=QH h;have HL:=QH hl;have HZ:=QH hz;have HJ:=QH hJ;have hb1:=(Below.refl _ w).alloc (Nat.le_refl _) (.cells (ch.pg.xM (List.replicate l.length [])) 9);have zX:=qd.new w 9 (ch.pg.xM (List.replicate l.length []));obtain⟨W1,hW1⟩:=QE (w.alloc (.cells (ch.pg.xM (List.replicate l.length [])) 9));rw[hW1]at hb1 zX;have qT:=QH hb1;have bA:=QH zX;have HVL:Hid ((volume t l).length=l.length):=by unfold Hid volume;rw[List.length_map]
 have qs6:Hid (∀W,Calls prog 162 #[.string ⟨#[0]⟩,.int .i64 32] W fun e w'=>e=.returned (.string (str zb))∧Below W.heap.size W w'):=fun W=>by
  have h:=Tryz.strings_Repeat ⟨#[0]⟩ 32 W (by omega) (by decide);have e:(⟨(Lib.repeatL (⟨#[0]⟩:ByteArray).data.toList 32).toArray⟩:ByteArray)=str zb:=by rfl
  rw[e]at h;exact h
 clear h hl hz hJ hb1 zX;go_enter func88,ntmps88;go_wp2_with (at_make;refine qh rfl (ch.pg.pX _ _ l.length rfl rfl rfl (by omega)) ?_);try rw[hW1]
 clear hW1;go_loopw [16] (fun i wr=>RdR t l w.heap.size W1 i wr) (fun i _=>l.length-(intOf i).toNat);case atStart=>exact⟨0,Nat.zero_le _,rfl,by simpa using bA.out,ib.qB.refl _ _⟩
 case round =>
  obtain⟨k,hk,rfl,zy,hU⟩:=hrel;have kX:=QH zy;have HU:=QH hU;have HB:Hid (Below w.heap.size w wr):=qT.out.trans (hU.below (fun i e=>by rw[e];exact Nat.le_refl _) qT.out.size);clear zy hU;by_cases hlt:k<l.length
  ·have yr:(k:Int)<(l.length:Int):=by omega
   have hk0:¬ (k:Int)<0:=by omega
   obtain⟨b,o,rfl,s1,s2,s3⟩:=HL.out.ints k hlt;have q1:=Nat.lt_of_lt_of_le s1 HB.out.size;have q2:=(HB.out.cell (p:=⟨b,o+k,none⟩) s1).trans s2;have hzz:=HZ.out _ (List.getElem_mem hlt);have hvl:k<(volume t l).length:=by rw[HVL.out];exact hlt
   have HVK:Hid ((volume t l)[k]=eE t l[k]):=by unfold Hid;simp[volume]
   have HTS:=QH (ch.pg.take_set (l:=volume t l) (n:=l.length) HVL.out hlt);obtain⟨z,hz⟩:=QE (l[k]);rw[hz]at q2 hzz HVK;have f1:=kX.out.frozen k;have jX:=kX.out.lt;obtain⟨u,hu⟩:∃u,wr.cell? ⟨w.heap.size,k,none⟩=some u:=by
    rw[kX.out.cell k,ch.pg.ky _ _ (by rw[List.length_append,List.length_take,List.length_replicate,HVL.out];omega)];exact⟨_,rfl⟩
   have HST:Hid (∀W (s:Bt),qd W w.heap.size 9 (ch.pg.xM ((volume t l).take k++List.replicate (l.length-k) []))→ib.qB (fun j=>j=w.heap.size) W1 W→eE t z=s→qd (W.setCell ⟨w.heap.size,k,none⟩ (.string (str s))) w.heap.size 9 (ch.pg.xM ((volume t l).take (k+1)++List.replicate (l.length-(k+1)) []))∧ib.qB (fun j=>j=w.heap.size) W1 (W.setCell ⟨w.heap.size,k,none⟩ (.string (str s)))):=fun W s h1 h2 h3=>by
    refine⟨?_,h2.setCell _ _ (.inl rfl)⟩;have h:=h1.qo k (.string (str s));have e:s=(volume t l)[k]:=by rw[HVK.out];exact h3.symm
    have e2:((volume t l).take k++List.replicate (l.length-k) []).set k s=(volume t l).take (k+1)++List.replicate (l.length-(k+1)) []:=by rw[e];exact HTS.out
    rw[ch.pg.pV,e2]at h;exact h
   clear s1 s2 s3 hz hvl HVK HTS;by_cases h0:z=0
   ·subst h0;have hvz:eE t 0=zb:=by unfold eE;rw[if_pos rfl]
    have HVZ:=QH hvz;clear hvz hzz;go_wp2_with fail;refine(qs6.out wr).mono ?_;rintro e W2 ⟨rfl,hb2⟩;have uR:=QH (kX.out.below hb2);have HU2:Hid (ib.qB (fun j=>j=w.heap.size) W1 W2):=HU.out.trans (S':=fun _=>False) (ib.qB.of_below hb2) (fun _ h=>h.elim);obtain⟨hk3,hu3⟩:=HST.out W2 zb uR.out HU2.out HVZ.out;have su:=QH hk3;have HU3:=QH hu3;have f1:=uR.out.frozen k;have jX:=uR.out.lt;obtain⟨u,hu⟩:∃u,W2.cell? ⟨w.heap.size,k,none⟩=some u:=by
     rw[uR.out.cell k,ch.pg.ky _ _ (by rw[List.length_append,List.length_take,List.length_replicate,HVL.out];omega)];exact⟨_,rfl⟩
    obtain⟨S,hS⟩:=QE (str zb);rw[hS]at su HU3 ⊢;clear hb2 hk3 hu3 HST HVZ hS qs6;go_wp2_with fail;go_roundw;case rel=>exact⟨k+1,by omega,by go_num,su.out,HU3.out⟩
    case measure=>simp[intOf];omega
   ·have hzr:193≤z∧z<(N:Int):=by
       rcases hzz with h|h
       ·exact absurd h h0
       ·exact h
    have hvz:eE t z=t z:=by unfold eE;rw[if_neg h0]
    have HVZ:=QH hvz;have hV2:=ze HV.out HB.out;obtain⟨p1,p2,p3⟩:=qou hV2;have bz:=iZ hV2.dk z;rw[qb7 HJ.out z (by omega) hzr.2]at bz;unfold dk.wu at bz;have dy:=QH bz;dsimp only at dy;have hz0:(z == 0)=false:=beq_false_of_ne h0;clear hvz hzz hV2 bz hzr h0;go_wp2_with fail;refine dy.out.mono ?_;rintro e W2 ⟨rfl,hb2⟩;have uR:=QH (kX.out.below hb2);have HU2:Hid (ib.qB (fun j=>j=w.heap.size) W1 W2):=HU.out.trans (S':=fun _=>False) (ib.qB.of_below hb2) (fun _ h=>h.elim);obtain⟨hk3,hu3⟩:=HST.out W2 (t z) uR.out HU2.out HVZ.out;have su:=QH hk3;have HU3:=QH hu3;have f1:=uR.out.frozen k;have jX:=uR.out.lt;obtain⟨u,hu⟩:∃u,W2.cell? ⟨w.heap.size,k,none⟩=some u:=by
     rw[uR.out.cell k,ch.pg.ky _ _ (by rw[List.length_append,List.length_take,List.length_replicate,HVL.out];omega)];exact⟨_,rfl⟩
    obtain⟨S,hS⟩:=QE (str (t z));rw[hS]at su HU3 ⊢;clear hb2 hk3 hu3 HST HVZ hS qs6 dy;go_wp2_with fail;go_roundw;case rel=>exact⟨k+1,by omega,by go_num,su.out,HU3.out⟩
    case measure=>simp[intOf];omega
  ·obtain rfl:k=l.length:=by omega
   have yr:¬ (l.length:Int)<(l.length:Int):=by omega
   have HT:Hid (TxL wr (some ⟨w.heap.size,0,none⟩) (volume t l)):=fun i hi=>⟨w.heap.size,0,rfl,kX.out.lt,by
    have hvl:=HVL.out;rw[Nat.zero_add,kX.out.cell i,ch.pg.ky _ _ (by rw[List.length_append,List.length_take];omega)];rw[List.getElem_append_left (by rw[List.length_take];omega),List.getElem_take]⟩
   have rM:=QH kX.out.lt;clear kX qs6;go_wp2_with fail;go_ret2;refine⟨_,l.length,by dsimp only;rw[HVL.out];rfl,HT.out,fun b o e=>?_,HB.out⟩;simp only[Option.some.injEq,Addr.mk.injEq,and_true]at e;obtain⟨rfl,_⟩:=e;exact⟨Nat.le_refl _,rM.out⟩
end Go.Proofs.YtdpbdkacngaemaaGreatDoor.vt.pg
namespace Go.Proofs.YtdpbdkacngaemaaGreatDoor.vt.pg
open _root_.Go.Proofs.Tryz Go Go.RowKit ib mt im sp
def r9 (f:Tk)(A:Option Addr)(n c:Nat):Array Value:=#[.int .u64 (f.base.1:Int),.int .u64 (f.base.2:Int),.int .u64 (f.target.1:Int),.int .u64 (f.target.2:Int),.int .i64 f.next,.int .i64 f.all,.slice A n c]
theorem bW {W:World}{g:Nat}{A0 A1 A2 A:Option Addr}{c0 c1 c2 c:Nat}{m:Mt}(t:Tk)(h:qd W g 96 (zJ A0 A1 A2 c0 c1 c2 m)):qd (xS W g (.slice A t.qu.length c) t) g 96 (zJ A0 A1 A c0 c1 c { m with tok:=t }):=by
 have h9:=((((((h.qo 2 (.int .u64 (t.base.1:Int))).qo 3 (.int .u64 (t.base.2:Int))).qo 4 (.int .u64 (t.target.1:Int))).qo 5 (.int .u64 (t.target.2:Int))).qo 6 (.int .i64 t.next)).qo 7 (.int .i64 t.all)).qo 8 (.slice A t.qu.length c);simp only[zJ,List.setIfInBounds_toArray,List.set_cons_succ,List.set_cons_zero]at h9;exact h9
theorem qdI{G:Nat→Prop}{W:World}{g:Nat}{v:Value}{t:Tk}(hg:∀j,G j→j≠g):wI G W (xS W g v t):=by
 refine⟨by simp[xS,World.setCell],fun j hj _=>?_⟩;have hn:=hg j hj;unfold xS;rw[qy _ _ _ _ _ hn,qy _ _ _ _ _ hn,qy _ _ _ _ _ hn,qy _ _ _ _ _ hn,qy _ _ _ _ _ hn,qy _ _ _ _ _ hn,qy _ _ _ _ _ hn]
theorem qgB(w W:World)(g:Nat)(v:Value)(t:Tk)(h:ib.qB (fun j=>j=g) w W):ib.qB (fun j=>j=g) w (xS W g v t) :=
 ((((((h.setCell ⟨g,2,none⟩ _ (.inl rfl)).setCell ⟨g,3,none⟩ _ (.inl rfl)).setCell ⟨g,4,none⟩ _ (.inl rfl)).setCell ⟨g,5,none⟩ _ (.inl rfl)).setCell ⟨g,6,none⟩ _ (.inl rfl)).setCell ⟨g,7,none⟩ _ (.inl rfl)).setCell ⟨g,8,none⟩ _ (.inl rfl)
theorem qbF{W0 W:World}{g:Nat}{v:Value}{t:Tk}(h:Below W0.heap.size W0 W)(hg:W0.heap.size≤g):Below W0.heap.size W0 (xS W g v t) :=
 ((((((h.setCell (p:=⟨g,2,none⟩) hg _).setCell (p:=⟨g,3,none⟩) hg _).setCell (p:=⟨g,4,none⟩) hg _).setCell (p:=⟨g,5,none⟩) hg _).setCell (p:=⟨g,6,none⟩) hg _).setCell (p:=⟨g,7,none⟩) hg _).setCell (p:=⟨g,8,none⟩) hg _
structure TkB(t:Tk):Prop where
 base:xF t.base
 target:xF t.target
 next:qG t.next
 all:qG t.all
theorem qdJ{G:Nat→Prop}{W0 w:World}{g pb:Nat}{m:Mt}{t:Tk}{A:Option Addr}{c:Nat}(hb:Below W0.heap.size W0 w)(hg:W0.heap.size≤g)(hN:Nx G w g m)(hp:qd W0 pb 82 (r9 t A t.qu.length c))(hl:jv W0 A t.qu c)(h1:t.qu.length≤1000)(hB:TkB t)(hG:∀j,W0.heap.size≤j→G j) :
    Calls prog 148 #[pt g,pt pb] w (qrJ G g { m with tok:=t } w):=by
 obtain⟨A0,A1,A2,c0,c1,c2,hk,ht⟩:=hN.ex;have hpw:=hp.below hb;have hb2:=qbF (v:=.slice A t.qu.length c) (t:=t) hb hg;have ij:=QH (hp.below hb2);have HC:=QH (gy A c t.qu _ (hl.below hb2) h1);have hk2:=bW (A:=A) (c:=c) t hk;have ht2:um (fun j=>G j∧j≠g) (xS w g (.slice A t.qu.length c) t) A0 A1 A2 c0 c1 c2 m:=ht.stay (qdI fun j hj=>hj.2);have uR:=QH hk2;have HT2:=QH ht2;have qC:=QH (qgB w w g (.slice A t.qu.length c) t (ib.qB.refl _ w));have HLE:Hid (W0.heap.size≤w.heap.size∧g<w.heap.size∧w.heap.size≤(xS w g (.slice A t.qu.length c) t).heap.size):=⟨hb.size,hk.lt,qC.out.size⟩;have HG:=QH hG;have HZ:=QH (hl.ints.mem);have HTB:=QH hB;have p0:=hpw.cell 0;have p1:=hpw.cell 1;have p2:=hpw.cell 2;have p3:=hpw.cell 3;have p4:=hpw.cell 4;have p5:=hpw.cell 5;have p6:=hpw.cell 6;have k2:=hk.cell 2;have k3:=hk.cell 3;have k4:=hk.cell 4;have k5:=hk.cell 5;have k6:=hk.cell 6;have k7:=hk.cell 7;have k8:=hk.cell 8;have f2:=hk.frozen 2;have f3:=hk.frozen 3;have f4:=hk.frozen 4;have f5:=hk.frozen 5;have f6:=hk.frozen 6;have f7:=hk.frozen 7;have f8:=hk.frozen 8;have jX:=hk.lt;have hpl:=hpw.lt;simp only[zJ,r9,QA,QB,QC]at k2 k3 k4 k5 k6 k7 k8 p0 p1 p2 p3 p4 p5 p6;clear hb hg hN hp hl hG hB hk ht hpw hb2 hk2 ht2 h1;go_enter func148,ntmps148;go_upto_region 1 with fail;show Code.wp _ _ _ _ (xS w g (.slice A t.qu.length c) t);obtain⟨W1,hW1⟩:=QE (xS w g (.slice A t.qu.length c) t);rw[hW1]at ij HC uR HT2 qC HLE ⊢;clear hW1 p0 p1 p2 p3 p4 p5 p6 k2 k3 k4 k5 k6 k7 k8 f2 f3 f4 f5 f6 f7 f8 jX hpl;have q6:=ij.out.cell 6;have lS:=ij.out.lt;simp only[r9,QA,QB,QC]at q6;go_wp2_with fail;refine HC.out.mono ?_;rintro e W2 cU;obtain rfl:=cU.1;have hb3:=cU.2.2;have hk3:=uR.out.below hb3;have hle:=HLE.out;have hs:=cU.sl HZ.out (fun j=>G j∧j≠g) ⟨HG.out _ (by omega),by omega⟩;have ht3:=HT2.out.below hb3;have hbb:=HTB.out;have HN2:Hid (Nx G (W2.setCell ⟨g,8,none⟩ (.slice (some ⟨W1.heap.size,0,none⟩) t.qu.length t.qu.length)) g { m with tok:=t }) :=
  ⟨A0,A1,_,c0,c1,_,by have:=hk3.qo 8 (.slice (some ⟨W1.heap.size,0,none⟩) t.qu.length t.qu.length);simpa[zJ]using this,(um.mk (m:={ m with tok:=t }) ht3.live ht3.qc ht3.room hs hbb.base hbb.target hbb.next hbb.all).stay (ar fun j hj=>hj.2)⟩
 have zB:Hid (ib.qB (fun j=>j=g) w (W2.setCell ⟨g,8,none⟩ (.slice (some ⟨W1.heap.size,0,none⟩) t.qu.length t.qu.length))):=(qC.out.trans (ib.qB.of_below (S:=fun _=>False) hb3) (fun _ h=>h.elim)).setCell _ _ (.inl rfl);have k8:=hk3.cell 8;have f8:=hk3.frozen 8;have jX:=hk3.lt;simp only[zJ,QA,QB,QC]at k8;clear cU hb3 hk3 hs ht3 HC uR HT2 ij qC hle hbb q6 lS;go_wp2_with fail
 go_end0
 exact⟨rfl,HN2.out,zB.out⟩
theorem ra {G:Nat→Prop}{w:World}{t:Tk}{A:Option Addr}{c:Nat}(hl:jv w A t.qu c)(h1:t.qu.length≤1000)(hB:TkB t)(hG:∀j,w.heap.size≤j→G j) :
    Calls prog 72 #[.agg (r9 t A t.qu.length c)] w (MkP G (fun m m'=>m'={ m with tok:=t }) w):=by
 have HB:=QH ((Below.refl w.heap.size w).alloc (Nat.le_refl _) (.cells (r9 t A t.qu.length c) 82));have HK:=QH (qd.new w 82 (r9 t A t.qu.length c));have HL:=QH hl;have HG:=QH hG;have HTB:=QH hB;obtain⟨W1,hW1⟩:=QE (w.alloc (.cells (r9 t A t.qu.length c) 82));rw[hW1]at HB HK;unfold r9 at hW1;clear hl hG hB;unfold r9;go_enter func72,ntmps72;go_wp2_with fail;try rw[hW1]
 go_ret;refine⟨_,rfl,fun m m' hR=>?_,HB.out⟩;subst hR;exact⟨_,_,rfl,fun a W=>by go_simp,fun W g hb hg hN=>qdJ hb hg hN HK.out (HL.out.below HB.out) h1 HTB.out (fun j hj=>HG.out j (Nat.le_trans HB.out.size hj))⟩
end Go.Proofs.YtdpbdkacngaemaaGreatDoor.vt.pg
namespace Go.Proofs.YtdpbdkacngaemaaGreatDoor.jr
open _root_.Go.Proofs.Tryz Go Go.RowKit dk wi
theorem gD {w w':World}{a:Option Addr}{bs:List (List Wr)}(h:qdz w a bs)(hb:Below w.heap.size w w'):qdz w' a bs:=fun i hi=>by
 obtain⟨b,o,A,c,h1,h2,h3,h4⟩:=h i hi;exact⟨b,o,A,c,h1,Nat.lt_of_lt_of_le h2 hb.size,by rw[hb.cell (p:=⟨b,o+i,none⟩) h2];exact h3,h4.below hb (Nat.le_refl _)⟩
theorem qgC{W:World}{A2 A5 A:Option Addr}{r c2 c5 cl n:Nat}{ly l1 l:List Wr}(h1:ly.length=r)(h2:l1.length=n)(k1:uU W A2 ly)(k2:uU W A5 l1)(k3:uU W A l) :
    qdz (W.alloc (.cells #[.slice A2 r c2,.slice A5 n c5,.slice A l.length cl] 89)) (some ⟨W.heap.size,0,none⟩) [ly,l1,l]:=by
 subst h1 h2;have hB:=qd.new W 89 #[.slice A2 ly.length c2,.slice A5 l1.length c5,.slice A l.length cl];have hb:=(Below.refl W.heap.size W).alloc (Nat.le_refl _) (.cells #[.slice A2 ly.length c2,.slice A5 l1.length c5,.slice A l.length cl] 89);intro i hi
 match i,hi with
 | 0,_=>exact⟨W.heap.size,0,A2,c2,rfl,by simp,hB.cell 0,k1.below hb (Nat.le_refl _)⟩
 | 1,_=>exact⟨W.heap.size,0,A5,c5,rfl,by simp,hB.cell 1,k2.below hb (Nat.le_refl _)⟩
 | 2,_=>exact⟨W.heap.size,0,A,cl,rfl,by simp,hB.cell 2,k3.below hb (Nat.le_refl _)⟩
 | i+3,h=>exact absurd h (by simp only[List.length_cons,List.length_nil];omega)
def cM (a r:Nat)(A8:Option Addr)(c8:Nat)(S:ByteArray)(A:Option Addr)(cl:Nat)(l:List Wr)(ly:List Wr)(hd:Bt):Nat→Value→World→Prop
 | 0,v,_=>v=.agg #[.int .i64 ((1-a:Nat):Int),.int .i64 (r:Int)]
 | 1,v,_=>v=.slice A8 r c8
 | 2,v,W=>∃A2 c2,v=.slice A2 r c2∧uU W A2 ly
 | 3,v,_=>v=.agg #[.int .i64 ((1-a:Nat):Int),.int .i64 (r:Int)]
 | 4,v,_=>v=.agg #[.int .i64 0,.string S]
 | 5,v,W=>∃A2 c2,v=.slice A2 1 c2∧uU W A2 [(0,hd)]
 | 6,v,_=>v=.slice A l.length cl
 | 7,v,W=>∃b,v=.slice (some ⟨b,0,none⟩) 3 3∧qdz W (some ⟨b,0,none⟩) [ly,[(0,hd)],l]
 | 8,v,W=>∃b,v=.slice (some ⟨b,0,none⟩) 3 3∧qdz W (some ⟨b,0,none⟩) [ly,[(0,hd)],l]
 | _,_,_=>True
theorem qky{a r:Nat}{A8:Option Addr}{c8:Nat}{S:ByteArray}{A:Option Addr}{cl:Nat}{l ly:List Wr}{hd:Bt}(i:Nat)(v:Value)(w w':World)(hi:i<9)(h:cM a r A8 c8 S A cl l ly hd i v w)(hb:Below w.heap.size w w'):cM a r A8 c8 S A cl l ly hd i v w':=by
 match i,hi,h with
 | 0,_,h | 1,_,h | 3,_,h | 4,_,h | 6,_,h=>exact h
 | 2,_,⟨A2,c2,h1,h2⟩=>exact⟨A2,c2,h1,h2.below hb (Nat.le_refl _)⟩
 | 5,_,⟨A2,c2,h1,h2⟩=>exact⟨A2,c2,h1,h2.below hb (Nat.le_refl _)⟩
 | 7,_,⟨b,h1,h2⟩=>exact⟨b,h1,gD h2 hb⟩
 | 8,_,⟨b,h1,h2⟩=>exact⟨b,h1,gD h2 hb⟩
 | j+9,hi,_=>exact absurd hi (by omega)
theorem qbG(x y z:List Wr):(qH [x,y,z]).length=x.length+y.length+z.length+3:=by simp[qH,kd];omega
section
variable {most:Nat} {w:World} {own:Nat→Prop} {p:Nat} {d:DD}
theorem fN (HW:qor)(HR:qot)(h:zK most w own p d)(hn:145<d.n)(A:Option Addr)(cl:Nat)(l:List Wr)(hwl:uU w A l)(rQ:l.length≤1000000)(ht:xY w)(hm:d.more.length+150≤most)(jc:most≤100000) :
    Calls prog 103 #[.pointer (some ⟨p,0,none⟩),.slice A l.length cl] w (xj most own p (xf d l).2 (.int .i64 (xf d l).1) w):=by
 have HD:=QH h;have HP:=QH (iX h);have rO:=QH (qd7 h A cl l hwl rQ);have hpl:p<w.heap.size:=by obtain⟨_,_,_,hd⟩:=h;exact hd.1.lt
 have q6p:d.n≤1024:=h.1.n1;have HT:=QH ht;have hg:=ht.1;have HH:=QH HR;have HHW:=QH HW;have q1x:=QH hwl;clear ht HR HW h hwl;obtain⟨R,hR⟩:=QE (xf d l);rw[hR];unfold xf at hR;cases xc:d.on with
 | false =>
  rw[xc]at HP;rw[if_pos xc]at hR;subst hR;go_enter func103,ntmps103;go_wp2_with (go_at_call 116;refine HP.out.mono ?_;rintro e w' ⟨rfl,rfl⟩);go_ret;exact xA HD.out (Below.refl _ _)
 | true =>
 rw[xc]at HP;rw[if_neg (by rw[xc];simp)]at hR;by_cases hl0:l.length=0
 ·rw[if_pos hl0]at hR;subst hR;have hl0':((l.length:Int) == 0)=true:=by simp[hl0]
  go_enter func103,ntmps103;go_wp2_with (go_at_call 116;refine HP.out.mono ?_;rintro e w' ⟨rfl,rfl⟩);go_ret;exact xA HD.out (Below.refl _ _)
 rw[if_neg hl0]at hR;have hl0':((l.length:Int) == 0)=false:=by simp only[beq_eq_false_iff_ne,ne_eq];omega
 by_cases qw3:60<l.length
 ·rw[if_pos qw3]at hR;subst hR;have q1y:(60:Int)<(l.length:Int):=by omega
  go_enter func103,ntmps103;go_wp2_with (go_at_call 116;refine HP.out.mono ?_;rintro e w' ⟨rfl,rfl⟩);go_ret;exact xA HD.out (Below.refl _ _)
 rw[if_neg qw3]at hR;have q1y:¬ (60:Int)<(l.length:Int):=by omega
 cases hps:vQ d.n l with
 | false =>
  rw[hps]at rO;rw[if_pos hps]at hR;subst hR;go_enter func103,ntmps103;go_wp2_with (go_at_call 116;refine HP.out.mono ?_;rintro e w' ⟨rfl,rfl⟩);refine rO.out.mono ?_;rintro e W1 ⟨rfl,b1⟩;go_wp2_with fail;go_ret;exact xA HD.out b1
 | true =>
 rw[hps]at rO;rw[if_neg (by rw[hps];simp)]at hR;have hall:=af hps;have hsm:∀x∈l,x.1<65536∧x.2.length=32:=fun x hx=>by have:=hall x hx;exact⟨by omega,this.2.2⟩
 obtain⟨s1,s72⟩:=cf l (by omega) hsm;have q0f:=gj l (by omega) hsm;have cQ:=QH hR;have HON:=QH xc;have q1z:=QH hall;clear hR xc hps hall hsm;go_enter func103,ntmps103;go_wp2_with (go_at_call 116;refine HP.out.mono ?_;rintro e w' ⟨rfl,rfl⟩);refine rO.out.mono ?_;rintro e W1 ⟨rfl,b1⟩;have qT:=QH b1;clear b1 rO;go_wp2_with fail;refine(HH.out most W1 own p d (HD.out.below qT.out) HON.out (by omega)).mono ?_;intro e W2 yQ;obtain⟨b2,⟨a,c,hq,rfl⟩|⟨hq,x,y,rfl⟩⟩:=aC yQ;rotate_left
 ·have vd:=cQ.out;rw[hq]at vd;dsimp only at vd;subst vd;have qC:=QH (qa qT.out b2);clear yQ b2 hq cQ;go_wp2_with fail;go_ret;exact xA HD.out (zR qC.out _)
 have vd:=cQ.out;rw[hq]at vd;dsimp only at vd;obtain⟨ha,hc,_⟩:=uw hq;rw[if_neg (by omega)]at vd;have qC:=QH (qa qT.out b2);clear b2 yQ hq cQ;have cQ:=QH vd;clear vd;have rT:qd (W2.alloc (.cells #[.int .i64 (a:Int),.int .i64 (c:Int)] 188)) W2.heap.size _ _:=qd.new W2 _ _;have HK6:=QH rT;have zB:=QH (zR qC.out (.cells #[.int .i64 (a:Int),.int .i64 (c:Int)] 188));clear rT;go_wp2_with fail;refine(kA A cl l _ (q1x.out.below zB.out (Nat.le_refl _)) (by omega) (fun x hx=>by have:=q1z.out x hx;exact⟨by omega,this.2.2⟩)).mono ?_;rintro e W4 ⟨rfl,b4⟩;have zT:=QH (qa zB.out b4);have qwL:Hid (qd W4 W2.heap.size _ _):=HK6.out.of_block (b4.block _ HK6.out.lt);clear b4 HK6;go_wp2_with fail;refine(fB (str (zq l)) W4 (by rw[qQ];omega) (HT.out.below zT.out hg)).mono ?_;rintro e W5 ⟨v8,rfl,hos,b5⟩;rw[zC]at hos;obtain⟨A8,c8,rfl,_,_,hsa,_,_⟩:=hos.view;have HSA:=QH hsa;have jJ:=QH (qa zT.out b5);have rT:qd W5 W2.heap.size _ _:=qwL.out.of_block (b5.block _ qwL.out.lt);clear hos hsa b5 qwL;have q10:=QH (zk (qN (zq l)) (1+(1-a)*72));have hb8:yY a l=[lay (1-a) (qN (zq l)),[(0,kQ (1-a) (qN (zq l)).length)],l]:=rfl;rw[hb8]at cQ;clear hb8;have quv:=QH (fun(W:World) (hsw:jf W A8 (qN (zq l)))=>ui (1-a) (qN (zq l)).length (by omega) A8 c8 (qN (zq l)) W hsw (by omega));have hly:(lay (1-a) (qN (zq l))).length=(qN (zq l)).length:=q10.out;have q11:∀x∈lay (1-a) (qN (zq l)),qG x.1:=fun x hx=>by
  obtain⟨i,g1,g2,_⟩:=jH _ _ _ hx;unfold qG;have:(1-a)*72≤72:=by omega
  omega
 have q12:=QH q11;have qwM:=QH (fun(W:World)=>HHW.out (1-a) (qN (zq l)).length W (by omega) s72);clear q11 q10 HHW;have HHL:=QH (uN (show 1-a<2 by omega) s72).1;generalize lay (1-a) (qN (zq l))=ly at *;generalize kQ (1-a) (qN (zq l)).length=hd at *;generalize hrr:(qN (zq l)).length=r at *;have HLY:=QH hly;have q60:=rT.cell 0;have lt6:=rT.lt;have qdb:(1:Int)-(a:Int)=((1-a:Nat):Int):=by omega
 have zdi:(r:Int)≤72:=by omega
 have hrw:¬ (72:Int)<(r:Int):=by omega
 have q6q:=QH qdb;clear hly rT qdb;go_wp2_with fail;have hhl:hd.length=32:=HHL.out;obtain⟨w0,hw0⟩:=QE (W5.alloc (.cells #[.int .i64 (1-(a:Int)),.int .i64 (r:Int)] 188));have qwO:qd w0 W5.heap.size 188 #[.int .i64 (1-(a:Int)),.int .i64 (r:Int)]:=by rw[← hw0];exact qd.new W5 _ _
 rw[q6q.out]at qwO;have qwP:Below W5.heap.size W5 w0:=by rw[← hw0];exact(Below.refl W5.heap.size W5).alloc (Nat.le_refl _) _
 rw[hw0];have jw:=QH (qa jJ.out qwP);have q13:=QH qwO;obtain⟨S,hS⟩:=QE (str hd);rw[hS]at qwM;have HSS:=QH hS;have HWR:=qwM;have qrA:∀W,Below w0.heap.size w0 W→Calls prog 181 #[.agg #[.int .i64 ((1-a:Nat):Int),.int .i64 (r:Int)],.slice A8 r c8] W fun e W'=>∃A2 c2,e=.returned (.slice A2 r c2)∧uU W' A2 ly∧Below W.heap.size W W':=fun W hb=>by
  refine(quv.out W ((HSA.out.below qwP (Nat.le_refl _)).below hb (Nat.le_refl _))).mono ?_;rintro e W' ⟨v,rfl,ho,hb'⟩;obtain⟨A2,c2,rfl,hw2⟩:=ho.view q12.out;exact⟨A2,c2,by rw[HLY.out],hw2,hb'⟩
 have qoH:=QH qrA;have q14:∀W,Below w0.heap.size w0 W→uU W A l:=fun W hb=>q1x.out.below (qa jw.out hb) (Nat.le_refl _);have HWL:=QH q14;clear hw0 qwO qwP hS qwM quv qrA q14 q60 lt6 hhl;generalize qoI:W5.heap.size=g10 at *;clear qoI;refine jm (by kernel_rfl) [55,56,57,58,59,60,61,62,11] (by kernel_rfl) (fun L vs W=>Below w0.heap.size w0 W∧∀i,L i=true→i<9→cM a r A8 c8 S A cl l ly hd i (vs i) W) ⟨(Below.refl w0.heap.size w0).drew,fun i hi=>by cases hi⟩ ?_ ?_ ?_
 ·intro i o L vs ρ W ho dc qw hρ hgd hI;obtain⟨hb,rK⟩:=hI;have hG:∀j,L j=true→cM a r A8 c8 S A cl l ly hd j (vs j) W:=fun j hj=>by
   by_cases h9:j<9
   ·exact rK j hj h9
   ·match j,h9 with
    | j+9,_=>exact trivial
  have hi9:i<9:=(Array.getElem?_eq_some_iff.1 ho).1;have hc:=hρ.const;have hfn:=hρ.fn;have next:∀v W',Below W.heap.size W W'→cM a r A8 c8 S A cl l ly hd i v W'→Below w0.heap.size w0 W'∧∀j,qP L i j=true→j<9→cM a r A8 c8 S A cl l ly hd j (zE vs i v j) W':=fun v W' h1 h2=>by
   refine⟨qa hb h1,fun j hj h9=>?_⟩;by_cases gZ:j=i
   ·subst gZ;simpa[zE]using h2
   ·simp only[qP,if_neg gZ]at hj;simpa[zE,gZ]using qky j _ W W' h9 (rK j hj h9) h1
  have hK:qd W g10 _ _:=q13.out.of_block (hb.block _ q13.out.lt);have q0:=hK.cell 0;have q1:=hK.cell 1;have zdl:=hK.lt;clear hK;rcases i with _|_|_|_|_|_|_|_|_|i;all_goals (first|omega|skip)
  all_goals simp only[QA,QB,QC,Option.some.injEq]at ho
  all_goals subst ho
  ·have o10:ρ (.tmp 10)=.pointer (some ⟨g10,0,none⟩):=hρ.out 10 rfl;exact q9 (w':=W) (by unfold execOp;simp only[o10];go_simp) (next _ _ (Below.refl _ _) rfl)
  ·have o8:ρ (.tmp 8)=.slice A8 r c8:=hρ.out 8 rfl;exact q9 (w':=W) (by unfold execOp;simp only[o8];go_simp) (next _ _ (Below.refl _ _) rfl)
  ·have g55:cM a r A8 c8 S A cl l ly hd 0 (vs 0) W:=hG 0 (qw 0 (by kernel_rfl));have s55:ρ (.tmp 55)=.agg #[.int .i64 ((1-a:Nat):Int),.int .i64 (r:Int)]:=(hρ.at_ 55 0 rfl).trans g55;have g56:cM a r A8 c8 S A cl l ly hd 1 (vs 1) W:=hG 1 (qw 1 (by kernel_rfl));have s56:ρ (.tmp 56)=.slice A8 r c8:=(hρ.at_ 56 1 rfl).trans g56;refine qj (f:=181) (args:=#[.agg #[.int .i64 ((1-a:Nat):Int),.int .i64 (r:Int)],.slice A8 r c8]) (w':=W) (by unfold execOp;simp only[hfn,s55,s56];go_simp) ((qoH.out W hb).mono ?_);rintro x W' ⟨A2,c2,rfl,hw2,hb'⟩;exact⟨_,rfl,next _ _ hb' ⟨A2,c2,rfl,hw2⟩⟩
  ·have o10:ρ (.tmp 10)=.pointer (some ⟨g10,0,none⟩):=hρ.out 10 rfl;exact q9 (w':=W) (by unfold execOp;simp only[o10];go_simp) (next _ _ (Below.refl _ _) rfl)
  ·have g58:cM a r A8 c8 S A cl l ly hd 3 (vs 3) W:=hG 3 (qw 3 (by kernel_rfl));have s58:ρ (.tmp 58)=.agg #[.int .i64 ((1-a:Nat):Int),.int .i64 (r:Int)]:=(hρ.at_ 58 3 rfl).trans g58;refine qj (f:=179) (args:=#[.agg #[.int .i64 ((1-a:Nat):Int),.int .i64 (r:Int)]]) (w':=W) (by unfold execOp;simp only[hfn,s58];go_simp) ((HWR.out W).mono ?_);rintro x W' ⟨rfl,hb'⟩;exact⟨_,rfl,next _ _ hb' rfl⟩
  ·have g59:cM a r A8 c8 S A cl l ly hd 4 (vs 4) W:=hG 4 (qw 4 (by kernel_rfl));have s59:ρ (.tmp 59)=.agg #[.int .i64 0,.string S]:=(hρ.at_ 59 4 rfl).trans g59;exact q9 (v:=.slice (some ⟨W.heap.size,0,none⟩) 1 1) (w':=W.alloc (.cells #[.int .i64 0,.string S] 105)) (by unfold execOp;simp only[s59];go_simp) (next _ _ ((Below.refl _ _).alloc (Nat.le_refl _) _) ⟨_,1,rfl,by rw[← HSS.out];exact qd9 0 hd (by unfold qG;omega)⟩)
  ·have o1:ρ (.tmp 1)=.slice A l.length cl:=hρ.out 1 rfl;exact q9 (w':=W) (by unfold execOp;simp only[o1];go_simp) (next _ _ (Below.refl _ _) rfl)
  ·obtain⟨A2,c2,g57,hw2⟩:cM a r A8 c8 S A cl l ly hd 2 (vs 2) W:=hG 2 (qw 2 (by kernel_rfl));have s57:ρ (.tmp 57)=.slice A2 r c2:=(hρ.at_ 57 2 rfl).trans g57;obtain⟨A5,c5,g60,hw5⟩:cM a r A8 c8 S A cl l ly hd 5 (vs 5) W:=hG 5 (qw 5 (by kernel_rfl));have s60:ρ (.tmp 60)=.slice A5 1 c5:=(hρ.at_ 60 5 rfl).trans g60;have g61:cM a r A8 c8 S A cl l ly hd 6 (vs 6) W:=hG 6 (qw 6 (by kernel_rfl));have s61:ρ (.tmp 61)=.slice A l.length cl:=(hρ.at_ 61 6 rfl).trans g61;exact q9 (v:=.slice (some ⟨W.heap.size,0,none⟩) 3 3) (w':=W.alloc (.cells #[.slice A2 r c2,.slice A5 1 c5,.slice A l.length cl] 89)) (by unfold execOp;simp only[s57,s60,s61];go_simp) (next _ _ ((Below.refl _ _).alloc (Nat.le_refl _) _) ⟨_,rfl,qgC HLY.out rfl hw2 hw5 (HWL.out W hb)⟩)
  ·obtain⟨b,g62,q6v⟩:cM a r A8 c8 S A cl l ly hd 7 (vs 7) W:=hG 7 (qw 7 (by kernel_rfl));have s62:ρ (.tmp 62)=.slice (some ⟨b,0,none⟩) 3 3:=(hρ.at_ 62 7 rfl).trans g62;exact q9 (w':=W) (by unfold execOp;simp only[s62];go_simp) (next _ _ (Below.refl _ _) ⟨b,rfl,q6v⟩)
 ·intro i o L vs W j want ho dc qw hg hv hI;have hi9:i<9:=(Array.getElem?_eq_some_iff.1 ho).1;rcases i with _|_|_|_|_|_|_|_|_|i;all_goals (first|omega|skip)
  all_goals simp only[QA,QB,QC,Option.some.injEq]at ho
  all_goals subst ho
  all_goals simp only[reduceCtorEq]at hg
 intro vs W9 hI;obtain⟨b9,hG⟩:=hI;obtain⟨b,g8,hbs⟩:cM a r A8 c8 S A cl l ly hd 8 (vs 8) W9:=hG 8 (by decide) (by decide);have HB9:=QH (jw.out.trans (b9.mono jw.out.size));have HBS:=QH hbs;simp only[qX,qK,if_true];rw[g8];generalize vs 0=x0 at *;generalize vs 1=x1 at *;generalize vs 2=x2 at *;generalize vs 3=x3 at *;generalize vs 4=x4 at *;generalize vs 5=x5 at *;generalize vs 6=x6 at *;generalize vs 7=x7 at *;clear hG g8 b9 hbs;go_wp2_with fail;have hbl:∀m∈[ly,[(0,hd)],l],m.length≤1000:=fun m tr=>by
  simp only[List.mem_cons,List.not_mem_nil,or_false]at tr;rcases tr with rfl|rfl|rfl
  ·rw[HLY.out];omega
  ·simp
  ·omega
 have dt:=QH hbl;clear hbl;refine(uI (some ⟨b,0,none⟩) 3 [ly,[(0,hd)],l] W9 HBS.out (by simp) dt.out).mono ?_;rintro e W10 ⟨v10,rfl,q18,b10⟩;obtain⟨A10,c10,rfl,hints⟩:=q18.view (fun z hz=>by
  simp only[placesOf,List.flatten_cons,List.flatten_nil,List.map_append,List.mem_append,List.mem_map,List.map_nil,List.not_mem_nil,or_false]at hz;rcases hz with⟨x,hx,rfl⟩|⟨x,hx,rfl⟩|⟨x,hx,rfl⟩
  ·exact q12.out x hx
  ·obtain rfl:x=_:=by simpa using hx
   unfold qG;dsimp only;omega
  ·have:=q1z.out x hx;unfold qG;omega)
 have HI:=QH hints;have q19:=QH (qa HB9.out b10);have qux:=QH (gD HBS.out b10);have hzl:=gB [ly,[(0,hd)],l] dt.out;simp only[List.length_cons,List.length_nil]at hzl;clear q18 hints b10 HBS;go_wp2_with fail;refine(wy (HD.out.below q19.out) A10 c10 _ HI.out (by omega)).mono ?_;rintro e W11 ⟨rfl,b11⟩;have qs7:=QH (qa q19.out b11);have q1A:=QH (gD qux.out b11);clear b11 qux;cases qnp:d.fits (placesOf [ly,[(0,hd)],l])with
 | false =>
  have vd:=cQ.out;rw[if_pos qnp]at vd;subst vd;go_wp2_with fail;go_ret;exact xA HD.out qs7.out
 | true =>
  have vd:=cQ.out;rw[if_neg (by rw[qnp];simp)]at vd;have q6z:=QH vd;clear vd cQ;go_wp2_with fail;refine(aA p _ 3 [ly,[(0,hd)],l] _ (Nat.lt_of_lt_of_le hpl qs7.out.size) q1A.out (by simp) dt.out).mono ?_;rintro e W12 ⟨v,rfl,hgg⟩;have HG:=QH hgg;clear hgg;go_wp2_with fail;refine(iY (HD.out.below qs7.out) HG.out (by rw[qbG,HLY.out];simp;omega) jc).mono ?_;rintro e W13 yQ;have HPO:=QH (xj.from yQ qs7.out HD.out.low);obtain⟨rfl,_⟩:=yQ;rw[q6z.out]at HPO ⊢;go_wp2_with fail;go_ret;exact HPO.out
end
end Go.Proofs.YtdpbdkacngaemaaGreatDoor.jr
namespace Go.Proofs.YtdpbdkacngaemaaGreatDoor.jr
open _root_.Go.Proofs.Tryz Go Go.RowKit dk wi
theorem qoJ(a b:List UInt8):str a++str b=str (a++b):=by
 apply ByteArray.ext;apply Array.ext';simp[str]
theorem qoK(l:List UInt8)(n:Nat)(h:l=[0]):Lib.repeatL l n=List.replicate n 0:=by
 subst h
 induction n with
 | zero=>rfl
 | succ n ih=>rw[List.replicate_succ,← ih];rfl
theorem qik:qor:=by
 intro a c w ha hc;have e1:(a:Int)+1=((a+1:Nat):Int):=by omega
 have E1:=QH e1;have ha1:(a:Int)≤1:=by omega
 have hc1:(c:Int)≤72:=by omega
 clear e1;go_enter func179,ntmps179;go_wp2_with fail;rw[E1.out];have hA:qd ((w.alloc (.cells #[.int .i64 (a:Int),.int .i64 (c:Int)] 188)).alloc (.cells #[.int .i64 0,.string ⟨#[]⟩] 105)) w.heap.size 188 #[.int .i64 (a:Int),.int .i64 (c:Int)]:=by
  have k:=qd.new w 188 #[.int .i64 (a:Int),.int .i64 (c:Int)];exact k.of_block (((Below.refl _ (w.alloc (.cells #[.int .i64 (a:Int),.int .i64 (c:Int)] 188))).alloc (Nat.le_refl _) _).block _ k.lt)
 have hA2:qd ((w.alloc (.cells #[.int .i64 (a:Int),.int .i64 (c:Int)] 188)).alloc (.cells #[.int .i64 0,.string ⟨#[]⟩] 105)) (w.heap.size+1) 105 #[.int .i64 0,.string ⟨#[]⟩]:=by
  have:=qd.new (w.alloc (.cells #[.int .i64 (a:Int),.int .i64 (c:Int)] 188)) 105 #[.int .i64 0,.string ⟨#[]⟩];simpa using this
 have hB0:Below w.heap.size w ((w.alloc (.cells #[.int .i64 (a:Int),.int .i64 (c:Int)] 188)).alloc (.cells #[.int .i64 0,.string ⟨#[]⟩] 105)):=((Below.refl w.heap.size w).alloc (Nat.le_refl _) _).alloc (by simp) _;refine(kh ⟨#[]⟩ (a+1) _ (by omega) (by decide)).mono ?_;rintro e W1 ⟨rfl,b1⟩;have HA:=QH (hA.of_block (b1.block _ hA.lt));have wh:=QH (hA2.of_block (b1.block _ hA2.lt));have HB:=QH (qa hB0 b1);have q1:=HA.out.cell 1;have lt1:=HA.out.lt;obtain⟨S1,hS1⟩:=QE (str (bl ⟨#[]⟩++zx (a+1)));have hl1:=qA (a+1);have zdw:S1.size≤9:=by
  rw[← hS1,qQ,List.length_append];have:(bl ⟨#[]⟩).length=0:=rfl;omega
 rw[hS1];have dO:=QH hS1;clear hA hA2 hB0 b1 hS1;go_wp2_with fail;refine(kh S1 c _ (by omega) (by omega)).mono ?_;rintro e W2 ⟨rfl,b2⟩;have HC:=QH (wh.out.of_block (b2.block _ wh.out.lt));have qC:=QH (qa HB.out b2);have lt2:=HC.out.lt;have q2:=HC.out.frozen 0;obtain⟨S2,hS2⟩:=QE (str (bl S1++zx c));have hl2:=qA c;have q5J:S2.size≤18:=by rw[← hS2,qQ,List.length_append,zn];omega
 have zdx:(S2.size:Int)≤18:=by omega
 rw[hS2];have kT:=QH hS2;clear hS2 b2 q1 lt1;go_wp2_with fail;have en:(32:Int)-(S2.size:Int)=((32-S2.size:Nat):Int):=by omega
 rw[en];refine(Tryz.strings_Repeat ⟨#[0]⟩ (32-S2.size) _ (by omega) (by have:(⟨#[0]⟩:ByteArray).size=1:=rfl;rw[this];omega)).mono ?_;rintro e W3 ⟨rfl,b3⟩;obtain⟨R,hR⟩:=QE ((⟨(Lib.repeatL (⟨#[0]⟩:ByteArray).data.toList (32-S2.size)).toArray⟩:ByteArray):ByteArray);rw[hR];have hRs:R.size=32-S2.size:=by
  rw[← hR,qoK _ _ rfl];show(List.replicate (32-S2.size) (0:UInt8)).toArray.size=_;rw[List.size_toArray,List.length_replicate]
 have HR:=QH hR;have HD:=QH (HC.out.of_block (b3.block _ lt2));have zB:=QH (qa qC.out b3);have lt3:=HD.out.lt;have q3:=HD.out.frozen 0;have q4:=HD.out.frozen 1;have q5:=HD.out.cell 0;have q6:=HD.out.cell 1;clear b3 hR q2 lt2;go_wp2_with fail;have hE:=(HD.out.qo 0 (.int .i64 0)).qo 1 (.string (S2++R));have q7:=hE.cell 0;have q8:=hE.cell 1;have hout:str (kQ a c)=S2++R:=by
  have hz:S2.size=(zx (a+1)).length+(zx c).length:=by
   rw[← kT.out,qQ,List.length_append,zn,← dO.out,qQ,List.length_append];have:(bl ⟨#[]⟩).length=0:=rfl;omega
  have h2:S2=str (zx (a+1)++zx c):=by rw[← kT.out,← dO.out,zC];rfl
  have h3:R=str (List.replicate (32-(zx (a+1)).length-(zx c).length) 0):=by
   rw[← HR.out,qoK _ _ rfl,hz,Nat.sub_add_eq];rfl
  rw[h2,h3,qoJ];rfl
 have HO:=QH hout;clear hout hE
 (try simp only[Exit.inBlock,Exit.then])
 refine bodyPost_ret (v:=.agg #[.int .i64 0,.string (S2++R)]) (by simp[results,results179,go_sem,q7,q8]) rfl ⟨by rw[HO.out],(zB.out.setCell (p:=⟨w.heap.size+1,0,none⟩) (Nat.le_succ _) _).setCell (p:=⟨w.heap.size+1,1,none⟩) (Nat.le_succ _) _⟩
def m1 (s:Bt):Nat:=match rdNum s with|none=>0|some (m,_)=>m
def c1 (s:Bt):Nat:=match rdNum s with|none=>0|some (_,r)=>match rdNum r with|none=>0|some (c,_)=>c
theorem qaq{a c:Nat}(ha:a<2)(hc:c≤72):m1 (kQ a c)=a+1∧c1 (kQ a c)=c:=by
 unfold m1 c1 kQ;rw[List.append_assoc,uq (a+1) (by omega)];dsimp only;rw[uq c (by omega)];exact⟨rfl,rfl⟩
theorem qs8(s:Bt):bu s=if m1 s<1∨2<m1 s∨72<c1 s then none else if kQ (m1 s-1) (c1 s)=s then some (m1 s-1,c1 s)else none:=by
 by_cases h:m1 s<1∨2<m1 s∨72<c1 s
 ·rw[if_pos h];cases hx:bu s with
  | none=>rfl
  | some p =>
   obtain⟨a,c⟩:=p;obtain⟨ha,hc,rfl⟩:=uw hx;have:=qaq ha hc;omega
 ·rw[if_neg h];by_cases he:kQ (m1 s-1) (c1 s)=s
  ·rw[if_pos he];have:=(uN (a:=m1 s-1) (c:=c1 s) (by omega) (by omega)).2.1;rw[he]at this;exact this
  ·rw[if_neg he];cases hx:bu s with
   | none=>rfl
   | some p =>
    obtain⟨a,c⟩:=p;obtain⟨ha,hc,rfl⟩:=uw hx;have:=qaq ha hc;rw[this.1,this.2]at he;exact absurd rfl he
def q1B (rb:Nat)(s:Bt)(w:World)(e:Ending)(w':World):Prop :=
 e=.returned (.int .u64 (m1 s:Int))∧m1 s<18446744073709551616∧w.grownBy w' (some rb)∧((∃m r,rdNum s=some (m,r)∧zw rb r false w')∨(rdNum s=none∧∃m,zw rb m true w'))
def q1C (rb:Nat)(s:Bt)(w:World)(e:Ending)(w':World):Prop :=
 e=.returned (.int .u64 (c1 s:Int))∧c1 s<18446744073709551616∧w.grownBy w' (some rb)
theorem q1D{rb:Nat}{s:Bt}{w:World}(h:zw rb s false w):Calls prog 191 #[.pointer (some ⟨rb,0,none⟩)] w (q1B rb s w):=by
 refine(w6 rb s w h).mono ?_;rintro e w' ⟨hg,⟨z,r1,hn,rfl,hr⟩|⟨hn,rfl,hm⟩⟩
 ·have e1:m1 s=z:=by unfold m1;rw[hn]
  exact⟨by rw[e1],by rw[e1];exact(dB _ _ _ hn).2,hg,.inl ⟨z,r1,hn,hr⟩⟩
 ·have e1:m1 s=0:=by unfold m1;rw[hn]
  exact⟨by rw[e1];rfl,by rw[e1];decide,hg,.inr ⟨hn,hm⟩⟩
theorem q1E{rb:Nat}{s:Bt}{w:World}(h:(∃m r,rdNum s=some (m,r)∧zw rb r false w)∨(rdNum s=none∧∃m,zw rb m true w)):Calls prog 191 #[.pointer (some ⟨rb,0,none⟩)] w (q1C rb s w):=by
 rcases h with⟨m,r,hs,h⟩|⟨hs,m,h⟩
 ·refine(w6 rb r w h).mono ?_;rintro e w' ⟨hg,⟨z,r1,hn,rfl,hr⟩|⟨hn,rfl,hm⟩⟩
  ·have e1:c1 s=z:=by unfold c1;rw[hs];dsimp only;rw[hn]
   exact⟨by rw[e1],by rw[e1];exact(dB _ _ _ hn).2,hg⟩
  ·have e1:c1 s=0:=by unfold c1;rw[hs];dsimp only;rw[hn]
   exact⟨by rw[e1];rfl,by rw[e1];decide,hg⟩
 ·refine(nB rb m w h).mono ?_;rintro e w' ⟨rfl,rfl⟩;have e1:c1 s=0:=by unfold c1;rw[hs]
  exact⟨by rw[e1];rfl,by rw[e1];decide,ki _ _⟩
theorem qoL:qot:=by
 intro most w own p d h xc hn;have bz:d.read 0=(rd d.now 0,0):=by
  unfold DD.read;have:d.has 0=true:=by
   simp only[DD.has,Bool.and_eq_true,decide_eq_true_eq];omega
  rw[if_neg (by rw[xc];simp),if_neg (by rw[this];simp)];rfl
 have h32:(rd d.now 0).length=32:=by
  unfold rd;cases hx:dk.look d.now 0 with
  | none=>exact qJ
  | some u=>exact h.1.tM hx
 generalize rd d.now 0=x at *;obtain⟨res,hres⟩:=QE (bu x);rw[hres];rw[qs8]at hres;have xu:=QH hres;have HD:=QH h;have dy:=QH bz;have H32:=QH h32;have hb0:Below w.heap.size w (w.alloc (.cells #[.int .i64 0,.int .i64 0] 188)):=(Below.refl w.heap.size w).alloc (Nat.le_refl _) _;have hk0:qd (w.alloc (.cells #[.int .i64 0,.int .i64 0] 188)) w.heap.size _ _:=qd.new w _ _;have jw:=QH hb0;have HK0:=QH hk0;clear h bz h32 hres hb0 hk0;go_enter func117,ntmps117;go_wp2_with fail;refine(qia (B:=0) ⟨own,HD.out.below jw.out,fun _ _=>Nat.zero_le _⟩ 0 x (str x) rfl 0 dy.out).mono ?_;rintro e W1 ⟨rfl,_,b1⟩;have bA:=QH (HK0.out.of_block (b1.block _ HK0.out.lt));have qT:=QH (qa jw.out b1);obtain⟨X,hX⟩:=QE (str x);rw[hX];have HX:=QH hX;clear b1 hX;go_wp2_with fail;refine(qaG X W1 (by rw[← HX.out,qQ,H32.out];decide)).mono ?_;rintro e W2 ⟨rb,rfl,hrb,hR,b2⟩;have jO:=QH hR;have uR:=QH (bA.out.of_block (b2.block _ bA.out.lt));have qC:=QH (qa qT.out b2);have hne:rb≠w.heap.size:=by have:=bA.out.lt;omega
 clear b2 hR;go_wp2_with fail;have hRx:zw rb x false W2:=by
  have:=jO.out;rw[← HX.out,zC]at this;exact this
 refine(q1D hRx).mono ?_;rintro e W3 ⟨rfl,q62,g3,hst⟩;have HST:=QH hst;have su:=QH (uR.out.of_block (g3.block _ uR.out.lt (by simpa using Ne.symm hne)));have zB:=QH (qC.out.grown g3 qC.out.size (fun j hj=>by simp at hj;have:=qT.out.size;omega));clear hRx hst g3;go_wp2_with fail;refine(q1E HST.out).mono ?_;rintro e W4 ⟨rfl,q63,g4⟩;have tG:=QH (su.out.of_block (g4.block _ su.out.lt (by simpa using Ne.symm hne)));have zT:=QH (zB.out.grown g4 zB.out.size (fun j hj=>by simp at hj;have:=qT.out.size;omega));clear g4;obtain⟨m,hm⟩:=QE (m1 x);obtain⟨c,hc⟩:=QE (c1 x);have hres:=xu.out;rw[hm,hc]at hres;rw[hm]at q62;rw[hc]at q63;rw[hm,hc];clear xu hm hc bA uR su qT qC zB HST;have lt4:=tG.out.lt;have f0:=tG.out.frozen 0;have f1:=tG.out.frozen 1;have q0:=tG.out.cell 0;have q1:=tG.out.cell 1;have hno:∀W,Below w.heap.size w W→res=none→pE res w (.returned (.tuple #[.agg #[.int .i64 0,.int .i64 0],.bool false])) W:=by
  intro W hb hr;subst hr;exact⟨hb,0,0,rfl⟩
 have jZ:=QH hno;clear hno;by_cases hlo:m<1
 ·have c1:((m:Int)<1):=by omega
  rw[if_pos (.inl hlo)]at hres;have na:=QH hres;clear hres;go_wp2_with fail;have hE:=(tG.out.qo 0 (.int .i64 0)).qo 1 (.int .i64 0);have q7:=hE.cell 0;have q8:=hE.cell 1
  (try simp only[Exit.inBlock,Exit.then])
  refine bodyPost_ret (v:=.tuple #[.agg #[.int .i64 0,.int .i64 0],.bool false]) (by simp[results,results117,go_sem,q7,q8]) rfl (jZ.out _ ((zT.out.setCell (p:=⟨w.heap.size,0,none⟩) (Nat.le_refl _) _).setCell (p:=⟨w.heap.size,1,none⟩) (Nat.le_refl _) _) na.out.symm)
 ·by_cases hhi:2<m
  ·have c1:¬ ((m:Int)<1):=by omega
   have c2:(2:Int)<(m:Int):=by omega
   rw[if_pos (.inr (.inl hhi))]at hres;have na:=QH hres;clear hres;go_wp2_with fail;have hE:=(tG.out.qo 0 (.int .i64 0)).qo 1 (.int .i64 0);have q7:=hE.cell 0;have q8:=hE.cell 1
   (try simp only[Exit.inBlock,Exit.then])
   refine bodyPost_ret (v:=.tuple #[.agg #[.int .i64 0,.int .i64 0],.bool false]) (by simp[results,results117,go_sem,q7,q8]) rfl (jZ.out _ ((zT.out.setCell (p:=⟨w.heap.size,0,none⟩) (Nat.le_refl _) _).setCell (p:=⟨w.heap.size,1,none⟩) (Nat.le_refl _) _) na.out.symm)
  ·by_cases h72:72<c
   ·have c1:¬ ((m:Int)<1):=by omega
    have c2:¬ (2:Int)<(m:Int):=by omega
    have c3:(72:Int)<(c:Int):=by omega
    rw[if_pos (.inr (.inr h72))]at hres;have na:=QH hres;clear hres;go_wp2_with fail;have hE:=(tG.out.qo 0 (.int .i64 0)).qo 1 (.int .i64 0);have q7:=hE.cell 0;have q8:=hE.cell 1
    (try simp only[Exit.inBlock,Exit.then])
    refine bodyPost_ret (v:=.tuple #[.agg #[.int .i64 0,.int .i64 0],.bool false]) (by simp[results,results117,go_sem,q7,q8]) rfl (jZ.out _ ((zT.out.setCell (p:=⟨w.heap.size,0,none⟩) (Nat.le_refl _) _).setCell (p:=⟨w.heap.size,1,none⟩) (Nat.le_refl _) _) na.out.symm)
   ·have c1:¬ ((m:Int)<1):=by omega
    have c2:¬ (2:Int)<(m:Int):=by omega
    have c3:¬ (72:Int)<(c:Int):=by omega
    rw[if_neg (by omega)]at hres;obtain⟨k,rfl⟩:∃k,m=k+1:=⟨m-1,by omega⟩;have e1:((k+1:Nat):Int)-1=(k:Int):=by omega
    rw[Nat.add_sub_cancel]at hres;have na:=QH hres;have E1:=QH e1;have hk2:k<2:=by omega
    have q64:c≤72:=by omega
    clear hres e1;go_wp2_with fail;have kb5:qd (W4.alloc (.cells #[.int .i64 (k:Int),.int .i64 (c:Int)] 188)) W4.heap.size _ _:=qd.new W4 _ _;have hb5:Below w.heap.size w (W4.alloc (.cells #[.int .i64 (k:Int),.int .i64 (c:Int)] 188)):=zT.out.alloc zT.out.size _;have hk5:qd (W4.alloc (.cells #[.int .i64 (k:Int),.int .i64 (c:Int)] 188)) w.heap.size 188 #[.int .i64 0,.int .i64 0]:=tG.out.of_block (((Below.refl W4.heap.size W4).alloc (Nat.le_refl _) _).block _ lt4);have KB5:=QH kb5;have jJ:=QH hb5;have HK5:=QH hk5;clear kb5 hb5 hk5 q0 q1 f0 f1 lt4;refine(qik k c _ hk2 q64).mono ?_;rintro e W6 ⟨rfl,b6⟩;have kb6:qd W6 W4.heap.size _ _:=KB5.out.of_block (b6.block _ KB5.out.lt);have rT:qd W6 w.heap.size 188 #[.int .i64 0,.int .i64 0]:=HK5.out.of_block (b6.block _ HK5.out.lt);have dQ:=QH (qa jJ.out b6);have HK6:=QH rT;have r0:=kb6.cell 0;have r1:=kb6.cell 1;have lt6:=rT.lt;have zdy:=kb6.lt;have q0:=rT.cell 0;have q1:=rT.cell 1;have f0:=rT.frozen 0;have f1:=rT.frozen 1;clear kb6 rT b6 KB5 jJ HK5 zT tG;have gY:∀(Z:ByteArray) (W:World),(Instr.field 105 (.agg #[.int .i64 0,.string Z]) 1).run prog W=.ok (.string Z) W:=fun Z W=>by simp[Instr.field,go_sem,asAgg]
    obtain⟨Y,hY⟩:=QE (str (kQ k c));rw[hY];have HY:=QH hY;clear hY;by_cases heq:kQ k c=x
    ·have hsome:res=some (k,c):=by rw[← na.out,if_pos heq]
     have hYX:Y=X:=by rw[← HY.out,← HX.out,heq]
     have hq:(Y.toList == X.toList)=true:=by rw[hYX];simp
     have HS:=QH hsome;clear hsome hYX na heq;go_wp2_with fail;have hE:=(HK6.out.qo 0 (.int .i64 (k:Int))).qo 1 (.int .i64 (c:Int));have q7:=hE.cell 0;have q8:=hE.cell 1
     (try simp only[Exit.inBlock,Exit.then])
     refine bodyPost_ret (v:=.tuple #[.agg #[.int .i64 (k:Int),.int .i64 (c:Int)],.bool true]) (by simp[results,results117,go_sem,q7,q8]) rfl ?_;rw[HS.out];exact⟨(dQ.out.setCell (p:=⟨w.heap.size,0,none⟩) (Nat.le_refl _) _).setCell (p:=⟨w.heap.size,1,none⟩) (Nat.le_refl _) _,rfl⟩
    ·have hnone:res=none:=by rw[← na.out,if_neg heq]
     have hYX:Y≠X:=by
      intro h;rw[← HY.out,← HX.out]at h;exact heq (str_inj h)
     have hq:(Y.toList == X.toList)=false:=by
      rw[beq_eq_false_iff_ne];intro h;apply hYX;rw[← iq Y,← iq X];exact congrArg str (by simpa[bl,ByteArray.toList_eq]using h)
     have HS:=QH hnone;clear hnone hYX na heq;go_wp2_with fail;have hE:=(HK6.out.qo 0 (.int .i64 0)).qo 1 (.int .i64 0);have q7:=hE.cell 0;have q8:=hE.cell 1
     (try simp only[Exit.inBlock,Exit.then])
     refine bodyPost_ret (v:=.tuple #[.agg #[.int .i64 0,.int .i64 0],.bool false]) (by simp[results,results117,go_sem,q7,q8]) rfl ?_;exact jZ.out _ ((dQ.out.setCell (p:=⟨w.heap.size,0,none⟩) (Nat.le_refl _) _).setCell (p:=⟨w.heap.size,1,none⟩) (Nat.le_refl _) _) HS.out
end Go.Proofs.YtdpbdkacngaemaaGreatDoor.jr
namespace Go.Proofs.YtdpbdkacngaemaaGreatDoor.vt.pg
open _root_.Go.Proofs.Tryz Go Go.RowKit Go.Sort ib mt im sp
theorem fO (t:Tg):∀(ss:List Bt) (o:Nat),bL (fun x=>decide (t x.1=x.2)) (jr.zr o ss)=xo t o ss
 | [],_=>rfl
 | s::r,o=>by
  have ih:=fO t r (o+1);unfold bL at ih ⊢;unfold jr.zr xo;rw[List.filter_cons,ih];by_cases h:t (o:Int)=s <;> simp[h]
theorem mh {ss:List Bt}{o:Nat}{x:Wr}(h:x∈jr.zr o ss):(o:Int)≤x.1∧x.1<((o+ss.length:Nat):Int):=by
 obtain⟨i,hi,h1,_⟩:=jr.jH ss o x h;omega
def qgD (G:Nat→Prop)(w:World)(A:Option Addr)(n:Nat)(M:Nat→Mt):Prop:=∀i,i<n→∃b o f,A=some ⟨b,o,none⟩∧b<w.heap.size∧w.cell? ⟨b,o+i,none⟩=some f∧wJ G w f (M i) (M (i+1))
theorem qgD.below{G:Nat→Prop}{w w':World}{A:Option Addr}{n:Nat}{M:Nat→Mt}(h:qgD G w A n M)(hb:Below w.heap.size w w'):qgD G w' A n M:=fun i hi=>by
 obtain⟨b,o,f,h1,h2,h3,h4⟩:=h i hi;exact⟨b,o,f,h1,Nat.lt_of_lt_of_le h2 hb.size,(hb.cell (p:=⟨b,o+i,none⟩) h2).trans h3,h4.below hb⟩
def EfR (G:Nat→Prop)(g:Nat)(n:Nat)(M:Nat→Mt)(w:World)(i:Value)(wr:World):Prop :=
 ∃k:Nat,k≤n∧i=.int .i64 (k:Int)∧Nx G wr g (M k)∧Below w.heap.size w wr
def BlR (B:Nat)(l:List Wr)(P:List Pl)(w:World)(v i:Value)(wr:World):Prop :=
 ∃k:Nat,k≤P.length∧i=.int .i64 (k:Int)∧jr.lY wr B v (l++pQ (P.take k))∧Below w.heap.size w wr
theorem qoM{P:List Pl}{k:Nat}(h:k<P.length):pQ (P.take (k+1))=pQ (P.take k)++(if P[k].2.1=0 then[]else[(P[k].2.1,P[k].2.2)]):=by
 unfold pQ;rw[List.take_succ_eq_append_getElem h,List.filterMap_append]
 congr 1
 by_cases e:P[k].2.1=0 <;> simp[e]
theorem nc {b N:Nat}{m:Mt}(h:jK b N m):mtS m:=by
 refine⟨?_,?_,fun s hs=>?_,?_⟩
 ·have:=h.len;have:=h.b8;omega
 ·have:=h.few;omega
 ·have:=(h.dG s hs).1;have:=h.b8;omega
 ·rcases h.tok with ht|ht
  ·rw[ht];simp[yB]
  ·have:=ht.2.2.2.2.2.1;have:=h.b8;omega
def q1G (S:Nat)(o1 o2:Nat→Prop)(v pd:Nat)(Q:Int→DD→Mt→Bool→Prop)(w:World)(e:Ending)(w':World):Prop :=
 ∃r d' m' lost sD cS,e=.returned (.int .i64 r)∧VP ak w' sD cS v pd d' m' lost∧ib.qB (fun j=>o1 j∨o2 j) w w'∧(∀j,sD j∨cS j→(o1 j∨o2 j)∨S≤j)∧Q r d' m' lost
theorem qgE{o1 o2:Nat→Prop}{w:World}{v pd N S b n:Nat}{d:DD}{m m':Mt}{t:Tg}{ws:List Wr}{M:Nat→Mt}(h:VP ak w o1 o2 v pd d m false)(hJ:jr.JJ N t d)(hf:0≤d.qz)(hR:xK b N t m)(hS:S≤w.heap.size)(xB:∀j,o1 j∨o2 j∨j=gN→j<S)
    (hM0:M 0=m) (hMn:M n=m') (hok:jK b N m') (sB:tY N m ws) {A:Option Addr} {c:Nat} (hE:qgD (fun j=>(o1 j∧j≠v)∨S≤j) w A n M) (hn:n≤10) {B:Option Addr} {cb:Nat} {P:List Pl} (hP:PlL w B P) (hpl:P.length≤100) (hPW:pQ P=ws) :
    Calls prog 63 #[pt v,.slice B P.length cb,.slice A n c] w (q1G S o1 o2 v pd (qj9 N t d m ⟨0,m',ws⟩) w):=by
 obtain⟨iw,wi1,wi2,wi3,wi4⟩:=info_parts qb5;obtain⟨A0,A1,A2,c0,c1,c2,hA⟩:=h.is;have HV:=QH h;have HA:=QH hA;have HJ:=QH hJ;have HR:=QH hR;have HE:=QH hE;have HP:=QH hP;have lJ:=QH hok;have HWS:=QH sB;have HPW:=QH hPW;have HS:=QH hS;have q1I:=QH xB;have HMN:=QH hMn;have HFU:=QH hf;obtain⟨klt,k0,k1,k2,k3,k4,k5,k6,k7,k8,k9,cT⟩:=hA.cells;have vq:=(Below.refl _ w).alloc (Nat.le_refl _) (.cells (zJ A0 A1 A2 c0 c1 c2 m) 96);have mY:=qd.new w 96 (zJ A0 A1 A2 c0 c1 c2 m);obtain⟨W1,hW1⟩:=QE (w.alloc (.cells (zJ A0 A1 A2 c0 c1 c2 m) 96));rw[hW1]at vq mY;obtain⟨g,hg⟩:=QE w.heap.size;have HG:=QH hg;have qT:=QH vq;have HN1:Hid (Nx (fun j=>(o1 j∧j≠v)∨S≤j) W1 g (M 0)):=by
  refine⟨A0,A1,A2,c0,c1,c2,by rw[hM0,← hg];exact mY,?_⟩;rw[hM0];exact(hA.tab.mono (fun j hj=>⟨.inl hj,by have:=hA.low j hj.1;omega⟩)).below vq
 clear h hA hJ hR hE hP hok sB hPW hS xB hMn hM0 vq mY hf;unfold zJ at hW1;go_enter func63,ntmps63;go_upto_region 2 with fail;try rw[hW1]
 try rw[hg]
 clear hW1 hg k0 k1 k2 k3 k4 k5 k6 k7 k8 k9 cT klt;go_wp2_with fail;go_loopw [20] (fun i wr=>EfR (fun j=>(o1 j∧j≠v)∨S≤j) g n M w i wr) (fun i _=>n-(intOf i).toNat);case atStart=>exact⟨0,Nat.zero_le _,rfl,HN1.out,qT.out⟩
 case round =>
  obtain⟨k,hk,rfl,hnx,hB⟩:=hrel;have ia:=QH hnx;have HB:=QH hB;clear hnx hB;by_cases hlt:k<n
  ·have yr:(k:Int)<(n:Int):=by omega
   have hk0:¬ (k:Int)<0:=by omega
   obtain⟨b',o',f,rfl,s1,s2,kf,uS,rfl,hcf,qd2⟩:=HE.out k hlt;have q1:=Nat.lt_of_lt_of_le s1 HB.out.size;have q2:=(HB.out.cell (p:=⟨b',o'+k,none⟩) s1).trans s2;have kK:=QH (qd2 wr g HB.out (by rw[HG.out];exact Nat.le_refl _) ia.out);clear s1 s2 qd2;go_wp2_with fail;refine kK.out.mono ?_;rintro e W2 ⟨rfl,q1L,hbu⟩;have q66:=QH q1L;have qC:Hid (Below w.heap.size w W2):=HB.out.trans (hbu.below (fun i e=>by rw[e,← HG.out];exact Nat.le_refl _) HB.out.size);clear q1L hbu kK q1 q2;go_wp2_with fail;go_roundw;case rel=>exact⟨k+1,by omega,by go_num,q66.out,qC.out⟩
   case measure=>simp[intOf];omega
  ·obtain rfl:k=n:=by omega
   obtain⟨wo,hwo⟩:∃x,x=wr:=⟨_,rfl⟩;subst hwo;have yr:¬ (k:Int)<(k:Int):=by omega
   obtain⟨X0,X1,X2,d0,d1,d2,hxk,hxt⟩:=ia.out.ex;rw[HMN.out]at hxk hxt;have HXK:=QH hxk;have HXT:=QH hxt;have hsz:mtS m':=nc lJ.out;have tK:=QH hsz;have ik:xY wo:=HA.out.ct.below HB.out HA.out.ct.1;have dv:=QH ik;have hwr:=pz hxt.mt hsz (lJ.out.enc HR.out.N1) (lJ.out.size HR.out.N1) ik;have HWR:=QH hwr;have j0:=hxk.cell 0;have j1:=hxk.cell 1;have j2:=hxk.cell 2;have j3:=hxk.cell 3;have j4:=hxk.cell 4;have j5:=hxk.cell 5;have j6:=hxk.cell 6;have j7:=hxk.cell 7;have j8:=hxk.cell 8;have jlt:=hxk.lt;simp only[zJ,QA,QB,QC]at j0 j1 j2 j3 j4 j5 j6 j7 j8;unfold zJ at HWR;clear hxk hxt hsz ik hwr ia;go_wp2_with fail;refine HWR.out.mono ?_;rintro e W2 ⟨vl,rfl,hol,hb2⟩;have HOL:=QH hol;have qC:=QH hb2;have hts:=xW lJ.out HR.out.N1;have HTS:=QH hts;have lT:Hid ((jr.zr 145 (xP m')).length=(xP m').length):=by unfold Hid;rw[jr.zk]
   have HTC:Hid (qok wo 141 (pt v) (fun x=>decide (t x.1=x.2)) (jr.zr 145 (xP m'))):=fun W hW x hx=>by
    have hr:=mh hx;have h2:=HTS.out.2;have h3:=HR.out.N0;exact qki (ze HV.out (qa HB.out hW)) HJ.out x hr.1 (by omega)
   have hdel:=qsc (b:=pt v) hol (by rw[lT.out];omega) (by rw[lT.out];omega) hb2 HTC.out;rw[show qon (jr.zr 145 (xP m')) (fun x=>decide (t x.1=x.2)) wo=qon (jr.zr 145 (xP m')) (fun x=>decide (t x.1=x.2)) wo from rfl]at hdel;have q1M:=QH hdel;clear hol hb2 hts hdel HWR j0 j1 j2 j3 j4 j5 j6 j7 j8 jlt;go_wp2_with fail;refine q1M.out.mono ?_;rintro e W3 ⟨v3,rfl,ho3,hb3⟩;rw[fO]at ho3;have HO3:=QH ho3;have zB:=QH hb3;have HLD:=QH (bf (t:=t) (xP m') 145);obtain⟨td,htd⟩:=QE (xo t 145 (xP m'));have HTD:=QH htd;rw[htd]at HO3 HLD;clear ho3 hb3 htd q1M HTC HOL;go_wp2_with fail;go_loopw [10,41] (fun v i wz=>BlR wo.heap.size td P wo v i wz) (fun _ i _=>P.length-(intOf i).toNat);case atStart=>exact⟨0,Nat.zero_le _,rfl,by simpa[pQ]using HO3.out,zB.out⟩
   case round =>
    obtain⟨k,hk,rfl,ho,hB4⟩:=hrel;have HO:=QH ho;have zT:=QH hB4;have yy:=QH (qa HB.out hB4);clear ho hB4;by_cases hlt:k<P.length
    ·have q68:(k:Int)<(P.length:Int):=by omega
     have hk0:¬ (k:Int)<0:=by omega
     obtain⟨b',o',rfl,s1,s2,s3,s4⟩:=(HP.out.below yy.out) k hlt;have HPT:=QH (qoM hlt);have hlen:(pQ (P.take k)).length≤100:=by
      have h1:(pQ (P.take k)).length≤(P.take k).length:=List.length_filterMap_le _ _;rw[List.length_take]at h1;omega
     obtain⟨x,hx⟩:=QE (P[k]);rw[hx]at HPT s2 s3 s4;clear hx;obtain⟨bk,at_,s⟩:=x;dsimp only at HPT s2 s3 s4;obtain⟨SS,hSS⟩:=QE (str s);have HSS:=QH hSS;rw[hSS]at s4;have vq:=(Below.refl _ wr).alloc (Nat.le_refl _) (.cells #[.int .i64 bk,.int .i64 at_,.string SS] 214);have mY:=qd.new wr 214 #[.int .i64 bk,.int .i64 at_,.string SS];obtain⟨W5,fZ⟩:=QE (wr.alloc (.cells #[.int .i64 bk,.int .i64 at_,.string SS] 214));rw[fZ]at vq mY;have v1:=mY.cell 1;have v2:=mY.cell 2;have hvl:=mY.lt;simp only[QA,QB,QC]at v1 v2;have jJ:=QH (qa zT.out vq);have HO5:Hid (jr.lY W5 wo.heap.size _ (td++pQ (P.take k))):=zf HO.out (fun j hj=>vq.block j (HO.out.lt j hj).2);by_cases h0:at_=0
     ·have hz0:(at_ == 0)=true:=by rw[h0];rfl
      have HP0:Hid (td++pQ (P.take (k+1))=td++pQ (P.take k)):=by unfold Hid;rw[HPT.out,if_pos h0,List.append_nil]
      clear vq mY h0 HPT hSS;go_upto_region 14 with fail;try rw[fZ]
      clear fZ s1 s2 s3 s4;go_wp2_with fail;go_roundw;case rel=>exact⟨k+1,by omega,by go_num,by rw[HP0.out];exact HO5.out,jJ.out⟩
      case measure=>simp[intOf];omega
     ·have hz0:(at_ == 0)=false:=beq_false_of_ne h0;have nS:Hid (td++pQ (P.take (k+1))=(td++pQ (P.take k))++[(at_,s)]):=by unfold Hid;rw[HPT.out,if_neg h0,List.append_assoc]
      have hby:=(Below.refl _ W5).alloc (Nat.le_refl _) (.cells #[.int .i64 at_,.string SS] 105);have HO6:Hid (jr.lY (W5.alloc (.cells #[.int .i64 at_,.string SS] 105)) wo.heap.size _ (td++pQ (P.take k))):=zf HO5.out (fun j hj=>hby.block j (HO5.out.lt j hj).2);have dQ:=QH (qa jJ.out hby);have au:Hid (∀j u,([.int .i64 at_,.string SS]:List Value)[j]?=some u→(W5.alloc (.cells #[.int .i64 at_,.string SS] 105)).cell? ((⟨W5.heap.size,0,none⟩:Addr).add j)=some u):=fun j u hu=>by
       rw[addr_add,Nat.zero_add,(qd.new W5 105 #[.int .i64 at_,.string SS]).cell j];simpa using hu
      have e1:∀u∈([.int .i64 at_,.string SS]:List Value),u.oneCell'=true:=by intro u hu;simp at hu;rcases hu with rfl|rfl <;> rfl
      have E1:=QH e1;have q1N:Hid (td.length≤48):=by have h1:=HLD.out;have h2:=HTS.out.2;unfold Hid;omega
      have E2:Hid ((td++pQ (P.take k)).length+1≤maxLen):=by have h1:=q1N.out;unfold Hid;rw[List.length_append];unfold maxLen;omega
      have E3:Hid (((td++pQ (P.take k)).length+1)*24≤140737488355328):=by have h1:=q1N.out;unfold Hid;rw[List.length_append];omega
      obtain⟨Lw,hLw⟩:=QE (td++pQ (P.take k));rw[hLw]at HO6 nS E2 E3;clear vq mY h0 HPT e1 hby hLw HO5 HO hSS hlen;go_upto_region 14 with fail;try rw[fZ]
      clear fZ s1 s2 s3 s4;go_wp2_with (at_builtin;refine ya rfl (.tmp 48) (.tmp 54) 89 rfl wo.heap.size 105 iw (.agg #[.int .i64 0,.string ByteArray.empty]) 2 24 underlying89 wi1 wi2 wi3 wi4 rfl (by decide) _ _ _ rfl HO6.out ⟨W5.heap.size,0,none⟩ 1 1 [.int .i64 at_,.string SS] rfl rfl au.out E1.out E2.out E3.out dQ.out.size ?_);intro v' w1 hown hgrow _;have HB7:Hid (Below wo.heap.size wo w1):=dQ.out.grown hgrow dQ.out.size (fun j hj=>(HO6.out.lt j hj).1);have HO7:Hid (jr.lY w1 wo.heap.size v' (Lw++[(at_,s)])):=by
       refine jr.lY.snoc ?_;show w1.ownsRow _ _ _ v' (Lw.length+1) (jr.zW Lw++[.int .i64 at_,.string (str s)]);rw[HSS.out];exact hown
      clear hown hgrow;go_wp2_with fail;go_roundw;case rel=>exact⟨k+1,by omega,by go_num,by rw[nS.out];exact HO7.out,HB7.out⟩
      case measure=>simp[intOf];omega
    ·obtain rfl:k=P.length:=by omega
     have q68:¬ (P.length:Int)<(P.length:Int):=by omega
     have ho:=HO.out;rw[List.take_length,HPW.out,← HTD.out]at ho;have HOC:Hid (jr.lY wr wo.heap.size _ (qO t m' ws)):=ho;have q1O:=ai HR.out lJ.out HWS.out;obtain⟨AW,cw,hvw,sB⟩:=HOC.out.view (fun x hx=>by have:=q1O x hx;have:=HR.out.N1;unfold jr.qG;omega);have hlw:(qO t m' ws).length≤60:=by
      have h1:=bf (t:=t) (xP m') 145;have h2:=HTS.out.2;have h3:=HWS.out.few;unfold qO qhP;rw[List.length_append];omega
     have hv2:=ze HV.out yy.out;have hN:=hv2.dk.1;have hdn:d.n=N:=HJ.out.rb.1;have qu0:d.more=[]:=HJ.out.more;have q1P:=jr.fN jr.qik jr.qoL hv2.dk (by rw[hdn];have:=HR.out.N0;omega) AW cw (qO t m' ws) sB (by omega) (HA.out.ct.below yy.out HA.out.ct.1) (by rw[qu0];decide) (by decide);have qs9:=QH q1P;have HCA:=QH (jr.oB (N:=N) (tgt:=t) (l:=qO t m' ws) (d:=d) (by have:=HR.out.N0;omega) HR.out.N1 HJ.out HFU.out (qfQ HR.out lJ.out HWS.out));have HV2:=QH hv2;obtain⟨klt,k0,k1,k2,k3,k4,k5,k6,k7,k8,k9,cT⟩:=(HA.out.below yy.out).cells;obtain⟨nw,hnw⟩:=QE ((qO t m' ws).length);rw[hnw]at hvw qs9;have HVW:=QH hvw;rw[hvw];obtain⟨RC,hRC⟩:=QE (jr.xf d (qO t m' ws));rw[hRC]at qs9 HCA;clear q1O sB hlw hv2 hN hdn qu0 q1P hnw hvw hRC ho k0 k1 k2 k3 k4 k5 k6 k7 k8 cT;go_wp2_with fail;refine qs9.out.mono ?_;rintro e W6 ⟨rfl,cS,hd6,dz,hg6⟩;obtain⟨r6,d6⟩:=RC;dsimp only at hd6 HCA ⊢;have HD6:=QH hd6;have dQ:Hid (ib.qB o2 wr W6):=oX dz;have HG6:Hid (∀j,cS j→o2 j∨wr.heap.size≤j):=hg6;have HDJ:=QH HV.out.dj;have hS:=HS.out;have hgS:S≤g:=by rw[← HG.out];exact hS
     have qwT:Hid (∀j,o2 j→j<S):=fun j hj=>q1I.out j (.inr (.inl hj));have hAW:=(HA.out.below yy.out).stay (w':=W6) (fun j hj=>dQ.out.block j (by
      rcases hj with hj|rfl
      ·exact Nat.lt_of_lt_of_le (HA.out.low j hj) yy.out.size
      ·exact Nat.lt_of_lt_of_le HA.out.ct.1 yy.out.size) (HDJ.out j hj)) dQ.out.size
     have HAW:=QH hAW;have hgk:qd W6 g 96 (zJ X0 X1 X2 d0 d1 d2 m'):=(HXK.out.below zT.out).of_block (dQ.out.block g (HXK.out.below zT.out).lt (fun e=>by have:=qwT.out g e;omega));have j0:=hgk.cell 0;have j1:=hgk.cell 1;have j2:=hgk.cell 2;have j3:=hgk.cell 3;have j4:=hgk.cell 4;have j5:=hgk.cell 5;have j6:=hgk.cell 6;have j7:=hgk.cell 7;have j8:=hgk.cell 8;have jlt:=hgk.lt;simp only[zJ,QA,QB,QC]at j0 j1 j2 j3 j4 j5 j6 j7 j8;obtain⟨klt,k0,k1,k2,k3,k4,k5,k6,k7,k8,k9,cT⟩:=hAW.cells;have f0:=hAW.blk.frozen 0;have f1:=hAW.blk.frozen 1;have f2:=hAW.blk.frozen 2;have f3:=hAW.blk.frozen 3;have f4:=hAW.blk.frozen 4;have f5:=hAW.blk.frozen 5;have f6:=hAW.blk.frozen 6;have f7:=hAW.blk.frozen 7;have f8:=hAW.blk.frozen 8;have f10:=hAW.blk.frozen 10;have q1Q:Hid (ib.qB (fun j=>o1 j∨o2 j) w W6):=(ib.qB.of_below (S:=fun j=>o1 j∨o2 j) yy.out).trans dQ.out (fun j hj=>.inl (.inr hj));have hov:=HA.out.own;have HOV:=QH hov;clear hd6 dz hg6 hAW hgk hov qs9;rcases HCA.out with⟨rfl,hjj,hfz,hf0⟩|⟨rfl,qu4,hfn,hfz⟩
     ·have HJJ:=QH hjj;have HFZ:=QH hfz;have HF0:=QH hf0;clear hjj hfz hf0 HCA;go_wp2_with fail;show bodyPost _ _ _ _ _ (xO W6 v (.slice X0 m'.live.length d0) (.slice X1 m'.qc.length d1) (.slice X2 m'.tok.qu.length d2) m'.tok);obtain⟨WE,mR⟩:=QE (xO W6 v (.slice X0 m'.live.length d0) (.slice X1 m'.qc.length d1) (.slice X2 m'.tok.qu.length d2) m'.tok);have sG:ib.qB (fun j=>j=v) W6 WE:=by
       rw[← mR];have go:∀(k:Nat) (u:Value) {W':World},ib.qB (fun j=>j=v) W6 W'→ib.qB (fun j=>j=v) W6 (W'.setCell ⟨v,k,none⟩ u):=fun k u W' h1=>h1.setCell _ _ (.inl rfl);exact go 8 _ (go 7 _ (go 6 _ (go 5 _ (go 4 _ (go 3 _ (go 2 _ (go 1 _ (go 0 _ (ib.qB.refl _ _)))))))))
      have hvk:qd WE v 115 (vC X0 X1 X2 d0 d1 d2 m' pd false):=by
       rw[← mR];have h9:=((((((((HAW.out.blk.qo 0 (.slice X0 m'.live.length d0)).qo 1 (.slice X1 m'.qc.length d1)).qo 2 (.int .u64 (m'.tok.base.1:Int))).qo 3 (.int .u64 (m'.tok.base.2:Int))).qo 4 (.int .u64 (m'.tok.target.1:Int))).qo 5 (.int .u64 (m'.tok.target.2:Int))).qo 6 (.int .i64 m'.tok.next)).qo 7 (.int .i64 m'.tok.all)).qo 8 (.slice X2 m'.tok.qu.length d2);simp only[vC,List.setIfInBounds_toArray,List.set_cons_succ,List.set_cons_zero]at h9;exact h9
      have hvS:v<S:=q1I.out v (.inl HOV.out);have hwo:wo.heap.size≤wr.heap.size:=zT.out.size;have hst:wI (fun j=>(((o1 j∧j≠v)∨S≤j)∧j≠g)∧j<wo.heap.size) wo WE:=by
       refine⟨Nat.le_trans hwo (Nat.le_trans dQ.out.size sG.size),fun j hj hlt=>?_⟩;have hj2:¬ o2 j:=fun e=>by
        rcases hj.1.1 with h|h
        ·exact HDJ.out j (.inl h.1) e
        ·have:=qwT.out j e;omega
       have hjv:¬ j=v:=by
        rcases hj.1.1 with h|h
        ·exact h.2
        ·omega
       rw[sG.block j (Nat.lt_of_lt_of_le (Nat.lt_of_lt_of_le hlt hwo) dQ.out.size) hjv,dQ.out.block j (Nat.lt_of_lt_of_le hlt hwo) hj2,zT.out.block j hlt]
      have q1S:xY WE:=wH HAW.out.ct sG.size (sG.block gN HAW.out.ct.1 HAW.out.gv);have hvp:VP ak WE (fun j=>o1 j∨(S≤j∧j<wr.heap.size)) cS v pd d6 m' false:=by
       refine⟨⟨X0,X1,X2,d0,d1,d2,hvk,(HXT.out.bound.stay hst).mono (fun j hj=>?_),tK.out,q1S,.inl HOV.out,fun j hj=>?_,HAW.out.gv,?_⟩,HD6.out.keep sG.size (fun j hj=>sG.block j (iT HD6.out j hj) (fun e=>?_)),fun j hj e=>?_⟩
       ·rcases hj.1.1 with h|h
        ·exact⟨.inl h.1,h.2⟩
        ·exact⟨.inr ⟨h,by have:=hj.2;omega⟩,by omega⟩
       ·rcases hj with h|h
        ·exact Nat.lt_of_lt_of_le (HAW.out.low j h) sG.size
        ·have:=dQ.out.size;have:=sG.size;omega
       ·intro htg;rcases lJ.out.tok with h|h
        ·exact h
        ·exfalso;have:=h.2.1;rw[htg]at this;unfold above at this;simp at this
       ·rw[e]at hj;rcases HG6.out v hj with h|h
        ·exact HDJ.out v (.inl HOV.out) h
        ·have:=yy.out.size;omega
       ·rcases HG6.out j e with h|h
        ·rcases hj with(hj|hj)|hj
         ·exact HDJ.out j (.inl hj) h
         ·have:=qwT.out j h;omega
         ·exact HDJ.out j (.inr hj) h
        ·rcases hj with(hj|hj)|hj
         ·have:=HA.out.low j hj;have:=yy.out.size;omega
         ·omega
         ·have:=HA.out.ct.1;have:=yy.out.size;unfold gN at hj;rw[hj]at h;omega
      have hbu:ib.qB (fun j=>o1 j∨o2 j) w WE:=q1Q.out.trans sG (fun j hj=>.inl (.inl (by rw[hj];exact HOV.out)));have HVP:=QH hvp;have HBU:=QH hbu;rw[mR];clear sG hvk hst q1S hvp hbu mR;refine bodyPost_ret (v:=.int .i64 0) (by simp[results,results63,go_sem]) rfl ⟨0,d6,m',false,_,cS,rfl,HVP.out,HBU.out,fun j hj=>?_,.inr (.inl ⟨rfl,rfl,HJJ.out,rfl,rfl,HFZ.out,HF0.out⟩)⟩;rcases hj with(hj|hj)|hj
      ·exact .inl (.inl hj)
      ·exact .inr hj.1
      ·rcases HG6.out j hj with h|h
       ·exact .inl (.inr h)
       ·have:=yy.out.size;exact .inr (by omega)
     ·have HGO:=QH qu4;have HFN:=QH hfn;have HFZ:=QH hfz;have q1T:VP ak W6 o1 cS v pd d6 m false:=⟨⟨A0,A1,A2,c0,c1,c2,HAW.out⟩,HD6.out,fun j hj e=>by
       rcases HG6.out j e with h|h
       ·exact HDJ.out j hj h
       ·rcases hj with hj|hj
        ·have:=HA.out.low j hj;have:=yy.out.size;omega
        ·have:=HA.out.ct.1;have:=yy.out.size;unfold gN at hj;rw[hj]at h;omega⟩
      have HLO:=QH (q6e q1T);clear qu4 hfn hfz HCA q1T;go_wp2_with fail;go_ret;refine⟨6,d6,m,true,o1,cS,rfl,HLO.out.1,q1Q.out.trans HLO.out.2 (fun j hj=>.inl (.inl (by rw[hj];exact HOV.out))),fun j hj=>?_,.inr (.inr ⟨rfl,rfl,HGO.out,rfl,HFN.out,HFZ.out⟩)⟩;rcases hj with hj|hj
      ·exact .inl (.inl hj)
      ·rcases HG6.out j hj with h|h
       ·exact .inl (.inr h)
       ·have:=yy.out.size;exact .inr (by omega)
end Go.Proofs.YtdpbdkacngaemaaGreatDoor.vt.pg
namespace Go.Proofs.YtdpbdkacngaemaaGreatDoor.vt.pg
open _root_.Go.Proofs.Tryz Go Go.RowKit ib mt im sp
theorem qg5:(prog.info? 38).map (fun i=>(i.zero,i.size,i.bytes))=some (some (.agg #[.int .u64 0,.int .u64 0]),2,16):=by kernel_rfl
def vW:List Gd→List Value
 | []=>[]
 | x::r=>.int .u64 (x.1:Int) :: .int .u64 (x.2:Int)::vW r
theorem bO:∀(l r:List Gd),vW (l++r)=vW l++vW r
 | [],_=>rfl
 | x::l,r=>by simp[vW,bO l r]
theorem rf:∀(l:List Gd) (i:Nat) (h:i<l.length),(vW l)[i*2]?=some (.int .u64 (l[i].1:Int))∧(vW l)[i*2+1]?=some (.int .u64 (l[i].2:Int))
 | x::l,0,_=>⟨rfl,rfl⟩
 | x::l,i+1,h=>by
  have:=rf l i (by simpa using h);rw[show(i+1)*2=i*2+1+1 from by omega];exact this
def qoO (w:World)(B:Nat)(v:Value)(l:List Gd):Prop:=w.ownsRow B 38 2 v l.length (vW l)
theorem qoO.view{w:World}{B:Nat}{v:Value}{l:List Gd}(h:qoO w B v l)(hz:∀x∈l,xF x):∃a c,v=.slice a l.length c∧ch.GdL w a l∧∀b o,a=some ⟨b,o,none⟩→B≤b∧b<w.heap.size:=by
 rcases h.2 with⟨rfl,h0⟩|⟨g,cap,cur,rfl,hg,hh,hcc,hm,hcs,xg⟩
 ·obtain rfl:l=[]:=List.length_eq_zero_iff.1 h0;exact⟨none,0,rfl,(fun i h=>by simp at h),fun _ _ e=>by cases e⟩
 ·refine⟨some ⟨g,0,none⟩,cap,rfl,fun i hi=>?_,fun b o e=>?_⟩
  ·have key:∀(j:Nat) (u:Value),(vW l)[j]?=some u→w.cell? ⟨g,j,none⟩=some u:=by
      intro j u hu;rw[cell_of_row w g j cur 38 (0,0) hh];rw[← xg,List.getElem?_take]at hu;split at hu
      ·simpa using hu
      ·cases hu
   obtain⟨g0,g1⟩:=rf l i hi;exact⟨g,0,rfl,(Array.getElem?_eq_some_iff.1 hh).1,by rw[Nat.zero_add];exact key _ _ g0,by rw[Nat.zero_add];exact key _ _ g1,hz _ (List.getElem_mem hi)⟩
  ·simp only[Option.some.injEq,Addr.mk.injEq,and_true]at e;obtain⟨rfl,_⟩:=e;exact⟨hg,(Array.getElem?_eq_some_iff.1 hh).1⟩
def GuR (m:Mt)(w:World)(v i:Value)(wr:World):Prop :=
 ∃k:Nat,k≤m.qc.length∧i=.int .i64 (k:Int)∧qoO wr w.heap.size v ((m.qc.take k).map (·.g))∧Below w.heap.size w wr
theorem qk0{w:World}{A0 A1 A2:Option Addr}{c0 c1 c2:Nat}{m:Mt}(hS:jN w A1 m.qc)(h20:m.qc.length≤1000) :
    Calls prog 96 #[.agg (zJ A0 A1 A2 c0 c1 c2 m)] w (ch.oW (m.qc.map (·.g)) w):=by
 obtain⟨i0,hi,hz0,hz1,hz2⟩:=info_parts qg5;obtain⟨W1,hW1,zX,hb1⟩:=xZ w (zJ A0 A1 A2 c0 c1 c2 m);have HS:=QH hS;have qT:=QH hb1;have q1:=zX.cell 1;have lS:=zX.lt;simp only[zJ,QA,QB,QC]at q1;clear hS zX hb1;unfold zJ at hW1 ⊢;go_enter func96,ntmps96;go_upto_region 1 with fail;try rw[hW1]
 clear hW1;go_wp2_with fail;go_loopw [3,9] (fun v i wr=>GuR m w v i wr) (fun _ i _=>m.qc.length-(intOf i).toNat);case atStart=>exact⟨0,Nat.zero_le _,rfl,World.ownsRow_nil _ _ _ _,qT.out⟩
 case round =>
  obtain⟨k,hk,rfl,ho,hB⟩:=hrel;have HO:=QH ho;have HB:=QH hB;clear ho hB;by_cases hlt:k<m.qc.length
  ·have yr:(k:Int)<(m.qc.length:Int):=by omega
   have hk0:¬ (k:Int)<0:=by omega
   obtain⟨b,o,B,c,hA,s1,s2,s3,s4,s5,s6,_⟩:=(HS.out.below HB.out) k hlt;have ua:Hid ((m.qc.take (k+1)).map (·.g)=(m.qc.take k).map (·.g)++[m.qc[k].g]):=by unfold Hid;rw[List.take_succ_eq_append_getElem hlt,List.map_append];rfl
   have HLK:Hid (((m.qc.take k).map (·.g)).length=k):=by unfold Hid;rw[List.length_map,List.length_take];omega
   subst hA;obtain⟨n,hn⟩:=QE (m.qc[k].qu.length);obtain⟨gd,hgd⟩:=QE (m.qc[k].g);obtain⟨hd,hhd⟩:=QE (m.qc[k].hid);rw[hn]at s4;rw[hgd]at ua s2 s3;rw[hhd]at s5;clear hn hgd hhd s6;obtain⟨ga,gb⟩:=gd;dsimp only at s2 s3;have vq:=(Below.refl _ wr).alloc (Nat.le_refl _) (.cells #[.int .u64 (ga:Int),.int .u64 (gb:Int),.slice B n c,.bool hd] 141);obtain⟨W3,hW3⟩:=QE (wr.alloc (.cells #[.int .u64 (ga:Int),.int .u64 (gb:Int),.slice B n c,.bool hd] 141));have zy:=qd.new wr 141 #[.int .u64 (ga:Int),.int .u64 (gb:Int),.slice B n c,.bool hd];rw[hW3]at vq zy;have r0:=zy.cell 0;have r1:=zy.cell 1;have hrl:=zy.lt;simp only[QA,QB,QC]at r0 r1;have hby:=(Below.refl _ W3).alloc (Nat.le_refl _) (.cells #[.int .u64 (ga:Int),.int .u64 (gb:Int)] 38);have hbz:=qa vq hby;have HO4:Hid ((W3.alloc (.cells #[.int .u64 (ga:Int),.int .u64 (gb:Int)] 38)).ownsRow w.heap.size 38 2 _ ((m.qc.take k).map (·.g)).length (vW ((m.qc.take k).map (·.g)))):=zf HO.out (fun j hj=>hbz.block j (HO.out.lt j hj).2);have zT:=QH (qa HB.out hbz);have au:Hid (∀j u,([.int .u64 (ga:Int),.int .u64 (gb:Int)]:List Value)[j]?=some u→(W3.alloc (.cells #[.int .u64 (ga:Int),.int .u64 (gb:Int)] 38)).cell? ((⟨W3.heap.size,0,none⟩:Addr).add j)=some u):=fun j u hu=>by
    rw[addr_add,Nat.zero_add,(qd.new W3 38 #[.int .u64 (ga:Int),.int .u64 (gb:Int)]).cell j];simpa using hu
   clear vq zy hby hbz;have q6C:k≤1000:=by omega
   have e1:∀u∈([.int .u64 (ga:Int),.int .u64 (gb:Int)]:List Value),u.oneCell'=true:=by intro u hu;simp at hu;rcases hu with rfl|rfl <;> rfl
   have E1:=QH e1;have E2:Hid (((m.qc.take k).map (·.g)).length+1≤maxLen):=by unfold Hid;rw[HLK.out];unfold maxLen;omega
   have E3:Hid ((((m.qc.take k).map (·.g)).length+1)*16≤140737488355328):=by unfold Hid;rw[HLK.out];omega
   clear e1;go_wp2_with (at_builtin;refine ya rfl (.tmp 13) (.tmp 16) 73 rfl w.heap.size 38 i0 (.agg #[.int .u64 0,.int .u64 0]) 2 16 underlying73 hi hz0 hz1 hz2 rfl (by decide) _ _ _ rfl HO4.out ⟨W3.heap.size,0,none⟩ 1 1 [.int .u64 (ga:Int),.int .u64 (gb:Int)] rfl rfl au.out E1.out E2.out E3.out zT.out.size ?_);intro v' w1 hown hgrow _;have jJ:Hid (Below w.heap.size w w1):=zT.out.grown hgrow zT.out.size (fun j hj=>(HO4.out.lt j hj).1);have HO5:Hid (qoO w1 w.heap.size v' ((m.qc.take (k+1)).map (·.g))):=by
    unfold Hid qoO;rw[ua.out,bO,List.length_append,HLK.out,List.map_take];exact hown
   clear hown hgrow;go_wp2_with fail;go_roundw;case rel=>exact⟨k+1,by omega,by go_num,HO5.out,jJ.out⟩
   case measure=>simp[intOf];omega
  ·obtain rfl:k=m.qc.length:=by omega
   have yr:¬ (m.qc.length:Int)<(m.qc.length:Int):=by omega
   have ho:=HO.out;rw[List.take_length]at ho;obtain⟨A,c,hv,hx,hn⟩:=ho.view (fun g hg=>by
    obtain⟨s,hs,rfl⟩:=List.mem_map.1 hg;exact HS.out.sZ s hs)
   have HX:=QH hx;have HV:=QH hv;have HN:=QH hn;clear ho hx hv hn;go_wp2_with fail;go_ret;exact⟨A,c,by rw[HV.out];rfl,HX.out,HN.out,HB.out⟩
theorem lH {x y:Gd}(h:x≠y):(¬ x.1=y.1)∨(x.1=y.1∧¬ x.2=y.2):=by
 by_cases e1:x.1=y.1
 ·exact .inr ⟨e1,fun e2=>h (Prod.ext e1 e2)⟩
 ·exact .inl e1
def vg (f:Tf)(A:Option Addr)(n c:Nat):Array Value:=#[.int .u64 (f.base.1:Int),.int .u64 (f.base.2:Int),.int .u64 (f.target.1:Int),.int .u64 (f.target.2:Int),.int .i64 f.next,.int .i64 f.all,.slice A n c]
theorem qgF{G:Nat→Prop}{w:World}{A0 A1 A2:Option Addr}{c0 c1 c2:Nat}{m:Mt}(ht:um G w A0 A1 A2 c0 c1 c2 m)(hsz:mtS m)(hG:∀j,w.heap.size≤j→G j)(f:Tf)(A:Option Addr)(n c:Nat) :
    Calls prog 156 #[.agg (zJ A0 A1 A2 c0 c1 c2 m),.agg (vg f A n c)] w (qjF G (zP m f) w):=by
 obtain⟨W1,hW1,zX,hb1⟩:=xZ w (zJ A0 A1 A2 c0 c1 c2 m);have hb2:=(Below.refl _ W1).alloc (Nat.le_refl _) (.cells (vg f A n c) 82);have hr2:=qd.new W1 82 (vg f A n c);obtain⟨W2,hW2⟩:=QE (W1.alloc (.cells (vg f A n c) 82));rw[hW2]at hb2 hr2;have qC:=QH (qa hb1 hb2);have hk2:=zX.below hb2;have ht2:=ht.below qC.out;have HI2:=QH ht2.qu;have HBS:=QH (qnE (A0:=A0) (A2:=A2) (c0:=c0) (c1:=c1) (c2:=c2) ht2.qc hsz (fun j hj=>hG j (Nat.le_trans qC.out.size hj)) m.qc.length (Nat.le_refl _));rw[qjH]at HBS;have q0:=hk2.cell 0;have q1:=hk2.cell 1;have q2:=hk2.cell 2;have q3:=hk2.cell 3;have q4:=hk2.cell 4;have q5:=hk2.cell 5;have q6:=hk2.cell 6;have q7:=hk2.cell 7;have q8:=hk2.cell 8;have r0:=hr2.cell 0;have r1:=hr2.cell 1;have r2:=hr2.cell 2;have r3:=hr2.cell 3;have r5:=hr2.cell 5;have lS:=hk2.lt;have hrl:=hr2.lt;simp only[zJ,vg,QA,QB,QC]at q0 q1 q2 q3 q4 q5 q6 q7 q8 r0 r1 r2 r3 r5;have HY:Hid ((m.tok.base=f.base∧m.tok.target=f.target∧m.tok.all=f.all)→zP m f=m.tok.qu):=fun h=>by unfold zP;rw[if_pos h]
 have jZ:Hid (¬ (m.tok.base=f.base∧m.tok.target=f.target∧m.tok.all=f.all)→zP m f=uP m):=fun h=>by unfold zP;rw[if_neg h]
 obtain⟨R,hR⟩:=QE (zP m f);rw[hR]at HY jZ ⊢;clear ht hG zX hb1 hb2 hr2 hk2 ht2 hR;unfold zJ vg at *;go_enter func156,ntmps156;go_upto_region 1 with fail;try rw[hW1]
 try rw[hW2]
 clear hW1 hW2;have FIN:Hid (∀(e:Ending) (W3:World),qjF G (uP m) W2 e W3→R=uP m→qjF G R w e W3):=fun e W3 h hr=>by
  obtain⟨A',c',h1,h2,h3⟩:=h;rw[hr];exact⟨A',c',h1,h2,qa qC.out h3⟩
 have E1:Hid (m.tok.base=f.base→m.tok.base.1=f.base.1∧m.tok.base.2=f.base.2):=fun h=>⟨by rw[h],by rw[h]⟩;have E2:Hid (m.tok.target=f.target→m.tok.target.1=f.target.1∧m.tok.target.2=f.target.2):=fun h=>⟨by rw[h],by rw[h]⟩;by_cases h1:m.tok.base=f.base
 case' neg =>
  have HR:=QH (jZ.out (fun h=>h1 h.1));have hgn:=lH h1;clear h1 HY jZ E1 E2;rcases hgn with hg|⟨hg,hg2⟩;all_goals
   go_upto_region 3 with fail;first|clear hg2|skip
   clear hg;first|clear e1 e2|skip
   go_wp2_with fail;refine HBS.out.mono ?_;rintro e W3 ⟨A',c',rfl,hs,hb3⟩;have HF:=QH (FIN.out _ _ ⟨A',c',rfl,hs,hb3⟩ HR.out);clear hs hb3;go_wp2_with fail;go_ret;exact HF.out
 obtain⟨e1,e2⟩:=E1.out h1;by_cases h2:m.tok.target=f.target
 case' neg =>
  have HR:=QH (jZ.out (fun h=>h2 h.2.1));have hgn:=lH h2;clear h1 h2 HY jZ E1 E2;rcases hgn with hg|⟨hg,hg2⟩;all_goals
   go_upto_region 3 with fail;first|clear hg2|skip
   clear hg;first|clear e1 e2|skip
   go_wp2_with fail;refine HBS.out.mono ?_;rintro e W3 ⟨A',c',rfl,hs,hb3⟩;have HF:=QH (FIN.out _ _ ⟨A',c',rfl,hs,hb3⟩ HR.out);clear hs hb3;go_wp2_with fail;go_ret;exact HF.out
 obtain⟨e3,e4⟩:=E2.out h2;by_cases h3:m.tok.all=f.all
 case' neg =>
  have HR:=QH (jZ.out (fun h=>h3 h.2.2));clear h1 h2 HY jZ E1 E2;go_upto_region 3 with fail;clear h3 e1 e2 e3 e4;go_wp2_with fail;refine HBS.out.mono ?_;rintro e W3 ⟨A',c',rfl,hs,hb3⟩;have HF:=QH (FIN.out _ _ ⟨A',c',rfl,hs,hb3⟩ HR.out);clear hs hb3;go_wp2_with fail;go_ret;exact HF.out
 have HR:=QH (HY.out ⟨h1,h2,h3⟩);clear h1 h2 HY jZ E1 E2;go_wp2_with fail;go_ret;rw[HR.out];exact⟨_,_,rfl,HI2.out,qC.out⟩
end Go.Proofs.YtdpbdkacngaemaaGreatDoor.vt.pg

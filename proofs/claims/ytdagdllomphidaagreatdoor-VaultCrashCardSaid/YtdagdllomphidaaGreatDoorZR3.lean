/- DkLose, DkRow, DkApp, DkFit2, DkFit3, DkWrite, DkMore, CPure, FPure, JPure, JRun, JSafe, JSafe2, SpPure, SpMath, ChPure, VtPure, VtTab, VtMath. -/
import Derived.Test.YtdagdllomphidaaGreatDoorZR2
import Derived.Laws.CopyRow
import Derived.Deep.RegionLaw
import Derived.Great.BuildSlice
set_option linter.unusedVariables false
set_option linter.unusedSimpArgs false
set_option maxHeartbeats 30000000
set_option maxRecDepth 100000
namespace Go.Proofs.YtdagdllomphidaaGreatDoor.dk
open _root_.Go.Proofs.Tryz Go Go.RowKit
structure qtz(cs:Array Value)(x:Nat × Bt × Bt × Bool):Prop where
 size:cs.size=66
 at_:cs[0]?=some (.int .i64 (x.1:Int))
 data:∀j u,(Lib.byteCells x.2.1)[j]?=some u→cs[1+j]?=some u
 before:∀j u,(Lib.byteCells x.2.2.1)[j]?=some u→cs[33+j]?=some u
 written:cs[65]?=some (.bool x.2.2.2)
theorem rowOf(x:Nat × Bt × Bt × Bool)(h1:x.2.1.length=32)(h2:x.2.2.1.length=32):qtz (qh x).toArray x:=by
 have e1:(Lib.byteCells x.2.1).length=32:=by rw[Lib.byteCells_length,h1]
 have e2:(Lib.byteCells x.2.2.1).length=32:=by rw[Lib.byteCells_length,h2]
 refine⟨by simp[qh,e1,e2],rfl,?_,?_,?_⟩
 ·intro j u hu;have hj:j<32:=by rw[← e1];exact(List.getElem?_eq_some_iff.1 hu).1
  simp only[List.getElem?_toArray,qh,Nat.add_comm 1 j,List.getElem?_cons_succ];rw[List.getElem?_append_left (by omega)];exact hu
 ·intro j u hu;have hj:j<32:=by rw[← e2];exact(List.getElem?_eq_some_iff.1 hu).1
  simp only[List.getElem?_toArray,qh,show 33+j=(32+j)+1 by omega,List.getElem?_cons_succ];rw[List.getElem?_append_right (by omega),e1,List.getElem?_append_left (by omega),show 32+j-32=j by omega];exact hu
 ·simp only[List.getElem?_toArray,qh,show 65=64+1 from rfl,List.getElem?_cons_succ];rw[List.getElem?_append_right (by omega),e1,List.getElem?_append_right (by omega),e2];rfl
section
variable {w:World} {p m:Nat}
theorem qmS(hp:p<w.heap.size)(hc:w.cell? ⟨p,2,none⟩=some (.map (some m))){s:qB}(hm:zI w m s)(x:Nat × Bt × Bt × Bool)(cs:Array Value)(hr:qtz cs x)(hx:x.1<s.length)(hs:s.length≤1024)(hl:x.2.2.1.length=32) :
    Calls prog 62 #[.pointer (some ⟨p,0,none⟩),.agg cs] w fun e w'=>e=.returned (.tuple #[])∧zI w' m (sY s x)∧qz (fun k=>k=m) w w':=by
 obtain⟨k,wV,bef,wr⟩:=x;obtain⟨h66,hat,qz8,qv4,hwr⟩:=hr;simp only at hat qz8 qv4 hwr hx hl;have HR:=QH qv4;have HM:=QH hm;have HS:=QH hs;have HL:=QH hl;have H66:=QH h66;clear qv4 qz8 hm hs hl h66;cases wr with
 | true =>
  go_enter func62,ntmps62;go_wp2;refine xc 8 (by kernel_rfl) (by kernel_rfl) ?_;simp only[List.take_succ_cons,List.take_zero,List.drop_succ_cons,List.drop_zero]
  iterate 7 still_step
  refine yI rfl (qy _ _ rfl w.heap.size 33 rfl _ cs (Lib.byteCells bef) _ _ (heap_alloc_new w _) underlying123 rfl (by rw[cq,Lib.byteCells_length,HL.out]) HR.out) ?_;refine wpStill_nil ?_;refine kY rfl _ _ _ rfl rfl (HM.out.of_block (Below.heap_alloc w _ _ HM.out.lt)) k rfl bef rfl hx HS.out ?_;intro w' hm' ht;go_wp2
  go_end0
  exact⟨rfl,hm',((qz.refl _ w).alloc _).drew.trans (yL ht) (fun _ h=>.inl h)⟩
 | false =>
  go_enter func62,ntmps62;go_wp2;refine xc 6 (by kernel_rfl) (by kernel_rfl) ?_;simp only[List.take_succ_cons,List.take_zero,List.drop_succ_cons,List.drop_zero]
  iterate 6 still_step
  refine wpStill_nil ?_;refine oL rfl _ _ rfl rfl (HM.out.of_block (Below.heap_alloc w _ _ HM.out.lt)) k rfl hx HS.out ?_;intro w' hm' ht;go_wp2
  go_end0
  exact⟨rfl,hm',((qz.refl _ w).alloc _).drew.trans (yL ht) (fun _ h=>.inl h)⟩
end
end Go.Proofs.YtdagdllomphidaaGreatDoor.dk
namespace Go.Proofs.YtdagdllomphidaaGreatDoor.dk
open _root_.Go.Proofs.Tryz Go Go.RowKit
theorem qhS:(prog.info? 125).map (fun i=>(i.zero,i.size))=some (some (.agg (qh (0,zz,zz,false)).toArray),66):=by kernel_rfl
theorem qfO:(prog.info? 125).map (fun i=>(i.zero,i.size,i.bytes))=some (some (.agg (qh (0,zz,zz,false)).toArray),66,80):=by kernel_rfl
theorem vS:(prog.info? 125).map (·.size)=some 66:=by kernel_rfl
theorem zf (x:Nat × Bt × Bt × Bool)(h1:x.2.1.length=32)(h2:x.2.2.1.length=32):(qh x).length=66:=by
 simp[qh,Lib.byteCells,h1,h2]
theorem dY (x:Nat × Bt × Bt × Bool):∀u∈qh x,u.oneCell'=true:=by
 intro u hu;simp only[qh,List.mem_cons,List.mem_append,List.not_mem_nil,or_false]at hu;rcases hu with rfl|hu|hu|rfl
 ·rfl
 ·exact Lib.byteCells_one _ u hu
 ·exact Lib.byteCells_one _ u hu
 ·rfl
theorem oN (x:Nat × Bt × Bt × Bool):(qh x).toArray.all (·.oneCell')=true:=by
 rw[Array.all_eq_true'];intro u hu;exact dY x u (by simpa using hu)
theorem jQ {ρ:Operand→Value}{o:Oper}{w:World}(ho:o.op=.alloc 125) :
    (execOp ρ o).run prog w=.ok (.value (.pointer (some ⟨w.heap.size,0,none⟩))) (w.alloc (.cells (qh (0,zz,zz,false)).toArray 125)):=by
 obtain⟨hz,_⟩:=zero_of_info qhS;simp[execOp,ho,Instr.alloc,hz,Result.andThen,go_sem,Value.cells]
theorem qbq{ρ:Operand→Value}{o:Oper}{w:World}(x:Operand)(k:Nat)(ho:o.op=.build 125 #[(0,x)])(hx:ρ x=.int .i64 (k:Int)) :
    (execOp ρ o).run prog w=.ok (.value (.agg (qh (k,zz,zz,false)).toArray)) w:=by
 obtain⟨hz,_⟩:=zero_of_info qhS;have hb:(Instr.build 125 #[(0,.int .i64 (k:Int))]).run prog w=.ok (.agg (qh (k,zz,zz,false)).toArray) w:=by
  have e:(qh (k,zz,zz,false)).toArray=(qh (0,zz,zz,false)).toArray.set! 0 (.int .i64 (k:Int)):=rfl;rw[e];have hne:(qh (0,zz,zz,false)).toArray ≠ #[]:=by simp[qh]
  generalize (qh (0,zz,zz,false)).toArray=z0 at *;simp[Instr.build,hz,Result.andThen,go_sem,Value.cells];rw[if_neg hne];rfl
 simp[execOp,ho,hx,hb,Result.andThen]
theorem jR {P:Program}(w:World)(g o:Nat)(t ty:TypeId)(cur:Array Value)(xs:List Value)(hg:w.heap[g]?=some (.cells cur t (0,0)))(hi:(P.info? ty).map (·.size)=some xs.length)(hl:o+xs.length≤cur.size)(h1:∀v∈xs,v.oneCell'=true) :
    (storeVar ty ⟨g,o,none⟩ (.agg xs.toArray)).run P w=.ok () (w.setRow g (cur.toList.take o++xs++cur.toList.drop (o+xs.length)).toArray):=by
 have:=run_storeCells_at P g o t xs 0 cur w hg (by simpa using hl) h1;cases hq:P.info? ty with
 | none=>simp[hq]at hi
 | some i =>
  have hs:i.size=xs.length:=by simpa[hq]using hi
  simp only[Nat.add_zero]at this;simp[storeVar,sizeOf,typeInfo,hq,Value.cells,hs,this]
theorem qmT(k:Nat)(v b:Bt)(f:Bool)(u:Bt)(h:u.length=32)(hv:v.length=32) :
    (qh (k,u,b,f)).take 1++Lib.byteCells v++(qh (k,u,b,f)).drop (1+32)=qh (k,v,b,f):=by
 have e1:(Lib.byteCells u).length=32:=by rw[Lib.byteCells_length,h]
 have e2:(Lib.byteCells v).length=32:=by rw[Lib.byteCells_length,hv]
 simp only[qh,List.take_succ_cons,List.take_zero,show 1+32=32+1 from rfl,List.drop_succ_cons];rw[List.drop_left' e1];simp
theorem qfP(k:Nat)(v b:Bt)(f:Bool)(u:Bt)(hv:v.length=32)(h:u.length=32)(hb:b.length=32) :
    (qh (k,v,u,f)).take 33++Lib.byteCells b++(qh (k,v,u,f)).drop (33+32)=qh (k,v,b,f):=by
 have e1:(Lib.byteCells u).length=32:=by rw[Lib.byteCells_length,h]
 have e2:(Lib.byteCells v).length=32:=by rw[Lib.byteCells_length,hv]
 simp only[qh,show 33=32+1 from rfl,List.take_succ_cons,show 32+1+32=(32+32)+1 from rfl,List.drop_succ_cons];rw[List.take_left' e2,List.drop_append,e2,List.drop_eq_nil_of_le (by omega),show 32+32-32=32 from rfl,List.drop_left' e1];simp
theorem qdg(k:Nat)(v b:Bt)(f g:Bool)(hv:v.length=32)(hb:b.length=32):(qh (k,v,b,f)).toArray.setIfInBounds 65 (.bool g)=(qh (k,v,b,g)).toArray:=by
 have e1:(Lib.byteCells v).length=32:=by rw[Lib.byteCells_length,hv]
 have e2:(Lib.byteCells b).length=32:=by rw[Lib.byteCells_length,hb]
 simp only[List.setIfInBounds_toArray,qh,show 65=64+1 from rfl,List.set_cons_succ];rw[List.set_append_right _ _ (by omega),e1,List.set_append_right _ _ (by omega),e2];rfl
theorem qdh{ρ:Operand→Value}{o:Oper}(w:World)(x y:Operand)(k:Nat)(s:ByteArray)(ho:o.op=.call { callee:=.builtin .copy,args:=#[x,y],argTypes:=#[118,9] })
    (hx:ρ x=.slice (some ⟨w.heap.size,1,none⟩) 32 32) (hy:ρ y=.string s) (hs:s.size=32) :
    (execOp ρ o).run prog (w.alloc (.cells (qh (k,zz,zz,false)).toArray 125))=.ok (.value (.int .i64 32)) (w.alloc (.cells (qh (k,bl s,zz,false)).toArray 125)):=by
 obtain⟨i0,hi,hz0,hz1,hz2⟩:=info_parts Tryz.oa;have hl:(bl s).length=32:=by rw[zr,hs]
 have hst:=run_storeCells_at prog w.heap.size 1 125 (Lib.byteCells (bl s)) 0 (qh (k,zz,zz,false)).toArray (w.alloc (.cells (qh (k,zz,zz,false)).toArray 125)) (heap_alloc_new w _) (by simp[zf,Lib.byteCells_length,hl,qJ]) (Lib.byteCells_one _);rw[World.setRow_alloc_new,Lib.byteCells_length,hl]at hst;simp only[Nat.add_zero]at hst;rw[qmT k (bl s) zz false zz qJ hl]at hst;have wx:List.take 32 (List.map (fun b:UInt8=>Value.int IntKind.u8 (b.toNat:Int)) s.data.toList)=Lib.byteCells (bl s):=by
  rw[List.take_of_length_le]
  ·rfl
  ·simp only[List.length_map];have:s.data.toList.length=32:=hl;omega
 have hc:(Builtin.copy_ #[118,9] o.type #[.slice (some ⟨w.heap.size,1,none⟩) 32 32,.string s]).run prog (w.alloc (.cells (qh (k,zz,zz,false)).toArray 125))=.ok (.int .i64 32) (w.alloc (.cells (qh (k,bl s,zz,false)).toArray 125)):=by
  simp[Builtin.copy_,run_underlying underlying118,Builtin.lenOf,Builtin.firstCells,sizeOf,typeInfo,hi,hs];rw[wx,hst];simp[Result.andThen];rfl
 simp[execOp,ho,resolve,invoke,builtin,hx,hy,hc,Result.andThen]
theorem fp {ρ:Operand→Value}{o:Oper}(w:World)(x y:Operand)(k:Nat)(v b:Bt)(f:Bool)(ho:o.op=.store 123 x y)(hx:ρ x=.pointer (some ⟨w.heap.size,33,none⟩))(hy:ρ y=fj b)(hv:v.length=32)(hb:b.length=32) :
    (execOp ρ o).run prog (w.alloc (.cells (qh (k,v,zz,f)).toArray 125))=.ok .skip (w.alloc (.cells (qh (k,v,b,f)).toArray 125)):=by
 have e2:(Lib.byteCells b).length=32:=by rw[Lib.byteCells_length,hb]
 have hr:=jR (P:=prog) (w.alloc (.cells (qh (k,v,zz,f)).toArray 125)) w.heap.size 33 125 123 (qh (k,v,zz,f)).toArray (Lib.byteCells b) (heap_alloc_new w _) (by rw[cq,e2]) (by simp[zf,hv,qJ,e2]) (Lib.byteCells_one _);rw[World.setRow_alloc_new,e2]at hr;simp only at hr;rw[qfP k v b f zz hv qJ hb]at hr;have h2:(Instr.storeAt 123 (.pointer (some ⟨w.heap.size,33,none⟩)) (fj b)).run prog (w.alloc (.cells (qh (k,v,zz,f)).toArray 125))=.ok () (w.alloc (.cells (qh (k,v,b,f)).toArray 125)):=by
  simp only[Instr.storeAt,Instr.sureAddr,Sem.run_bind,Sem.run_pure,Result.andThen];exact hr
 simp[execOp,ho,hx,hy,h2,Result.andThen]
theorem cy {ρ:Operand→Value}{o:Oper}(w:World)(x y:Operand)(k:Nat)(v b:Bt)(f:Bool)(ho:o.op=.store 4 x y)(hx:ρ x=.pointer (some ⟨w.heap.size,65,none⟩))(hy:ρ y=.bool f)(hv:v.length=32)(hb:b.length=32) :
    (execOp ρ o).run prog (w.alloc (.cells (qh (k,v,b,false)).toArray 125))=.ok .skip (w.alloc (.cells (qh (k,v,b,f)).toArray 125)):=by
 have hB:qg (w.alloc (.cells (qh (k,v,b,false)).toArray 125)) w.heap.size 125 (qh (k,v,b,false)).toArray:=qg.new _ _ _;have hc:(w.alloc (.cells (qh (k,v,b,false)).toArray 125)).cell? ⟨w.heap.size,65,none⟩=some (.bool false):=by
  rw[hB.cell 65];exact(rowOf (k,v,b,false) hv hb).written
 have hf:=hB.frozen 65;have hW:(w.alloc (.cells (qh (k,v,b,false)).toArray 125)).setCell ⟨w.heap.size,65,none⟩ (.bool f)=w.alloc (.cells (qh (k,v,b,f)).toArray 125):=by
  rw[setCell_eq_setRow _ _ _ _ _ _ _ (heap_alloc_new w _),World.setRow_alloc_new,qdg k v b false f hv hb]
 unfold execOp;rw[ho];simp only[hx,hy];rw[← hW];generalize w.alloc (.cells (qh (k,v,b,false)).toArray 125)=W at *;go_simp
theorem qbr{P:Program}{o:Oper}{a:Act}{w:World}{K:Act→World→Prop}{Q:Exit→Act→World→Prop}(s x:Operand)(t:TypeId)
    (ho:o.op=.call { callee:=.builtin .append,args:=#[s,x],argTypes:=#[t,t] })
    (base:Nat) (e:TypeId) (i:TypeInfo) (z:Value) (size bytes:Nat) (ht:P.underlying t=some (.slice e)) (hi:P.info? e=some i) (hz:i.zero=some z)
    (hsize:i.size=size) (hby:i.bytes=bytes) (hzs:z.cells.size=size) (hsz:0<size)
    (v:Value) (n:Nat) (xs:List Value) (hs:a.eval s=v) (hown:w.ownsRow base e size v n xs)
    (ad:Addr) (m c:Nat) (news:List Value) (hx:a.eval x=.slice (some ad) m c) (hl:news.length=m*size) (hnews:∀j u,news[j]?=some u→w.cell? (ad.add j)=some u) (h1:∀u∈news,u.oneCell'=true)
    (h63:n+m≤maxLen) (hbytes:(n+m)*bytes≤140737488355328) (hbase:base≤w.heap.size)
    (h:∀v' w',w'.ownsRow base e size v' (n+m) (xs++news)→w.grownBy w' v.ownBlock→(v'.ownBlock=v.ownBlock∨v'.ownBlock=some w.heap.size)→K (a.put o.dst v') w'):o.wp P a w K Q:=by
 obtain⟨v',w',hrun,h2,h3,_,h5⟩:=run_append_own_at (P:=P) w base t o.type e i z size bytes ht hi hz hsize hby hzs hsz v n xs hown ad m c news hl hnews h1 h63 hbytes hbase;unfold Oper.wp;simp[execOp,ho,resolve,invoke,builtin,hs,hx,hrun,Result.andThen];exact h v' w' h2 h3 h5
theorem yl {w:World}{base e size n:Nat}{v:Value}{xs:List Value}(h:w.ownsRow base e size v n xs):∃A c,v=.slice A n c:=by
 rcases h.2 with⟨rfl,rfl⟩|⟨g,cap,cur,rfl,_⟩
 ·exact⟨none,0,rfl⟩
 ·exact⟨_,cap,rfl⟩
theorem qfQ(l:List (Nat × Bt × Bt × Bool))(x:Nat × Bt × Bt × Bool):yY (l++[x])=yY l++qh x:=by simp[yY]
theorem qdi:∀(l:List Value) (k:Nat) (acc:Array Value),k+l.length≤acc.size →
    (l.zipIdx k).foldl (fun a x=>a.setIfInBounds (0+x.2) x.1) acc=(acc.toList.take k++l++acc.toList.drop (k+l.length)).toArray
 | [],k,acc,_=>by simp
 | x::l,k,acc,h=>by
  have hk:k<acc.size:=by simp at h;omega
  have vB:k<acc.toList.length:=by simpa using hk
  rw[List.zipIdx_cons,List.foldl_cons,qdi l (k+1) _ (by simp at h ⊢;omega)]
  congr 1
  simp only[Nat.zero_add,Array.toList_setIfInBounds,List.length_cons];rw[List.drop_set_of_lt (by omega),show k+1+l.length=k+(l.length+1)by omega];have e:(acc.toList.set k x).take (k+1)=acc.toList.take k++[x]:=by
   rw[List.take_succ_eq_append_getElem (by simpa using hk)];simp only[List.getElem_set_self,List.take_set];rw[List.set_eq_of_length_le (by simp;omega)]
  rw[e];simp
theorem oO (size:Nat)(cs acc:Array Value)(h1:cs.size=size)(h2:acc.size=size):Instr.fill (fun i=>some (i*size,size)) acc [(0,.agg cs)]=some cs:=by
 simp only[Instr.fill,Nat.zero_mul,Value.cells];rw[if_neg (by simp[h1,h2])]
 congr 1
 rw[← Array.foldl_toList,Array.toList_zipIdx,qdi cs.toList 0 acc (by simp;omega)];simp;rw[List.drop_eq_nil_of_le (by simp;omega)];simp
theorem oP {ρ:Operand→Value}{o:Oper}{w:World}(x:Operand)(cs:Array Value)(ho:o.op=.buildSlice 105 1 #[(0,x)])(hx:ρ x=.agg cs)(hs:cs.size=66) :
    (execOp ρ o).run prog w=.ok (.value (.slice (some ⟨w.heap.size,0,none⟩) 1 1)) (w.alloc (.cells cs 125)):=by
 obtain⟨i0,hi,hz0,hz1,hz2⟩:=info_parts qfO;have hr:=run_buildSlice (P:=prog) w 105 125 1 #[(0,.agg cs)] cs i0 _ underlying105 hi hz0 (by rw[hz1];decide) (by rw[hz1];decide) (by
  rw[hz1];exact oO 66 cs _ hs (by simp))
 simp[execOp,ho,hx,hr,Result.andThen]
theorem dZ {ρ:Operand→Value}{o:Oper}{w:World}(x:Operand)(ho:o.op=.load 125 x)(g:Nat)(hx:ρ x=.pointer (some ⟨g,0,none⟩))(cs:Array Value)(hg:qg w g 125 cs)(hs:cs.size=66) :
    (execOp ρ o).run prog w=.ok (.value (.agg cs)) w:=by
 have:=qy (P:=prog) (w:=w) 125 x ho g 0 hx 125 cs cs.toList (0,0) _ hg underlying125 rfl (by rw[vS];simp[hs]) (fun j u hu=>by rw[Nat.zero_add];simpa using hu);simpa using this
theorem aa {ρ:Operand→Value}{o:Oper}{w:World}(x:Operand)(ho:o.op=.load 105 x)(b i:Nat)(hx:ρ x=.pointer (some ⟨b,i,none⟩))(A:Option Addr)(n c:Nat)(hc:w.cell? ⟨b,i,none⟩=some (.slice A n c)) :
    (execOp ρ o).run prog w=.ok (.value (.slice A n c)) w:=by
 unfold execOp;simp only[ho,hx];go_simp
theorem tj {P:Program}{md:Region.Mode}{ops:Array Oper}{Q:Exit→Act→World→Prop}{i j l:Nat}{oi oj ol:Oper}{di dj dl:Tmp}{vi vj vl:Value}{fuel:Nat}{listed:Array Bool}{a:Act}{w w2:World}
    (hr:Region.ready md ops listed=[i,j]) (hri:Region.ready md ops (listed.setIfInBounds i true)=[j]) (q55:Region.ready md ops ((listed.setIfInBounds i true).setIfInBounds j true)=[l])
    (hrj:Region.ready md ops (listed.setIfInBounds j true)=[i,l]) (q56:Region.ready md ops ((listed.setIfInBounds j true).setIfInBounds l true)=[i])
    (hij:i≠j) (bG:i≠l) (hoi:ops[i]?=some oi) (hoj:ops[j]?=some oj) (hol:ops[l]?=some ol) (hgi:oi.guard=none) (hgj:oj.guard=none) (dx:ol.guard=none)
    (hdi:oi.dst=some di) (hdj:oj.dst=some dj) (hdl:ol.dst=some dl) (d1:di≠dj) (d2:di≠dl)
    (hi0:(execOp a.eval oi).run P w=.ok (.value vi) w) (hi1:(execOp (a.put (some dj) vj).eval oi).run P w=.ok (.value vi) w) (ov:(execOp ((a.put (some dj) vj).put (some dl) vl).eval oi).run P w2=.ok (.value vi) w2)
    (hj0:(execOp a.eval oj).run P w=.ok (.value vj) w) (hj1:(execOp (a.put (some di) vi).eval oj).run P w=.ok (.value vj) w)
    (hl1:(execOp ((a.put (some di) vi).put (some dj) vj).eval ol).run P w=.ok (.value vl) w2) (hl2:(execOp (a.put (some dj) vj).eval ol).run P w=.ok (.value vl) w2)
    (h:wpAny P md ops Q fuel (((listed.setIfInBounds i true).setIfInBounds j true).setIfInBounds l true) (((a.put (some di) vi).put (some dj) vj).put (some dl) vl) w2):wpAny P md ops Q (fuel+3) listed a w:=by
 have tail:∀(b:Act) (ls:Array Bool),b=(a.put (some di) vi).put (some dj) vj→ls=(listed.setIfInBounds i true).setIfInBounds j true→wpAny P md ops Q (fuel+1) ls b w:=by
  rintro b ls rfl rfl;refine qL q55 hol dx (yJ hl1 ?_);rw[hdl];exact h
 have hwi:∀b:Act,Region.wanted oi (yielded ops b.tmps)=true:=fun b=>by simp[Region.wanted,hgi]
 have hwj:∀b:Act,Region.wanted oj (yielded ops b.tmps)=true:=fun b=>by simp[Region.wanted,hgj]
 have hwl:∀b:Act,Region.wanted ol (yielded ops b.tmps)=true:=fun b=>by simp[Region.wanted,dx]
 refine wpAny_all hr (by simp) fun k hk=>?_;rcases(show k=i∨k=j by simpa using hk)with rfl|rfl
 ·unfold wpOp;simp only[hoi,hwi,if_true]
  left
  refine yJ hi0 ?_;rw[hdi];refine qL hri hoj hgj (yJ hj1 ?_);rw[hdj];exact tail _ _ rfl rfl
 ·unfold wpOp;simp only[hoj,hwj,if_true]
  left
  refine yJ hj0 ?_;rw[hdj];refine wpAny_all hrj (by simp) fun n hn=>?_;rcases(show n=i∨n=l by simpa using hn)with rfl|rfl
  ·unfold wpOp;simp only[hoi,hwi,if_true]
   left
   refine yJ hi1 ?_;rw[hdi];exact tail _ _ (aX a dj di vj vi (Ne.symm d1)) (Array.setIfInBounds_comm _ _ (Ne.symm hij))
  ·unfold wpOp;simp only[hol,hwl,if_true]
   left
   refine yJ hl2 ?_;rw[hdl];refine qL q56 hoi hgi (yJ ov ?_);rw[hdi,aX _ dl di vl vi (Ne.symm d2),aX a dj di vj vi (Ne.symm d1),Array.setIfInBounds_comm _ _ (Ne.symm bG),Array.setIfInBounds_comm (xs:=listed) _ _ (Ne.symm hij)];exact h
def FG (p m:Nat)(room used:Int)(B:Nat):Nat→Value→World→Prop
 | 0,v,_=>v=.pointer (some ⟨p,0,none⟩)
 | 1,v,_=>v=.pointer (some ⟨p,0,none⟩)
 | 2,v,_=>v=.pointer (some ⟨p,1,none⟩)
 | 3,v,_=>v=.int .i64 room
 | 4,v,_=>v=.pointer (some ⟨p,0,none⟩)
 | 5,v,_=>v=.pointer (some ⟨p,0,none⟩)
 | 6,v,_=>v=.pointer (some ⟨p,2,none⟩)
 | 7,v,_=>v=.map (some m)
 | 8,v,_=>v=.int .i64 used
 | 9,v,_=>v=.int .i64 (room-used)
 | 10,v,w=>∃b,v=.pointer (some ⟨b,0,none⟩)∧B≤b∧qg w b 3 #[.int .i64 0]
 | _,_,_=>True
theorem qrc(p m:Nat)(room used:Int)(B:Nat)(i:Nat)(v:Value)(w w':World)(hi:i<11)(h:FG p m room used B i v w)(hb:Below w.heap.size w w'):FG p m room used B i v w':=by
 match i,hi,h with
 | 0,_,h | 1,_,h | 2,_,h | 3,_,h | 4,_,h | 5,_,h | 6,_,h | 7,_,h | 8,_,h | 9,_,h=>exact h
 | 10,_,⟨b,h1,h2,h3⟩=>exact⟨b,h1,h2,h3.of_block (hb.block b h3.lt)⟩
def qmU (p:Nat)(free:Int)(w:World)(e:Ending)(w':World):Prop :=
 ∃B4 B3 a,e=.returned (.func (.func 218) #[] #[.pointer (some ⟨w.heap.size,0,none⟩),.pointer (some ⟨B4,0,none⟩),.pointer (some ⟨B3,0,none⟩)]) ∧
  Env w' p w.heap.size B4 B3 a free []∧Below w.heap.size w w'∧w.heap.size≤a
section
variable {w:World} {p m:Nat} {v:Value} {d:DD} {own:Nat→Prop}
theorem qfR{most:Nat}(h0:d.ok most)(h:uM w own p m v d) :
    Calls prog 202 #[.pointer (some ⟨p,0,none⟩)] w (qmU p (d.room-(d.used:Int)) w):=by
 have hmm:=@run_makeMap prog;have HM:=QH h.2.1;have hp:=h.1.lt;have hml:=h.2.1.lt;obtain⟨c0,c1,c2,c3,c4,c5⟩:=jP h.1;have r0:=h0.qz2;have r1:=h0.qz3;have hu:d.used≤1024:=by
  have:=qbn d.now;rw[d.yK]at this;have:=h0.n1;unfold DD.used;omega
 have HU:Hid (cnt d.now=d.used):=rfl;clear h h0 c0 c3 c4 c5;generalize hroom:d.room=room at *;generalize qz9:d.used=used at *;clear hroom qz9;go_enter func202,ntmps202;go_wp2_with fail;have kF:(w.alloc (.cells #[.pointer (some ⟨p,0,none⟩)] 24)).heap[w.heap.size]?=some (.cells #[.pointer (some ⟨p,0,none⟩)] 24 (0,0)):=heap_alloc_new w _;have hold:∀k,k<w.heap.size→(w.alloc (.cells #[.pointer (some ⟨p,0,none⟩)] 24)).heap[k]?=w.heap[k]? :=fun k hk=>Below.heap_alloc w _ k hk;have hsz:(w.alloc (.cells #[.pointer (some ⟨p,0,none⟩)] 24)).heap.size=w.heap.size+1:=by simp
 have hB0:Below w.heap.size w (w.alloc (.cells #[.pointer (some ⟨p,0,none⟩)] 24)):=(Below.refl _ w).alloc (Nat.le_refl _) _;generalize w.alloc (.cells #[.pointer (some ⟨p,0,none⟩)] 24)=w1 at *;refine eU (by kernel_rfl) 11 [5,6,7,8,9,10,11,12,13,14,3] (by kernel_rfl) (FG p m room (used:Int) w1.heap.size) (qrc _ _ _ _ _) ?_ ?_
 ·intro i o vs ρ W hi ho hρ hb hG;have t5:=hρ.at_ 5 0 rfl;have t6:=hρ.at_ 6 1 rfl;have t7:=hρ.at_ 7 2 rfl;have t8:=hρ.at_ 8 3 rfl;have t9:=hρ.at_ 9 4 rfl;have t10:=hρ.at_ 10 5 rfl;have t11:=hρ.at_ 11 6 rfl;have t12:=hρ.at_ 12 7 rfl;have t13:=hρ.at_ 13 8 rfl;have t1:ρ (.tmp 1)=.pointer (some ⟨w.heap.size,0,none⟩):=hρ.out 1 rfl;have hc:=hρ.const;have k1:W.cell? ⟨w.heap.size,0,none⟩=some (.pointer (some ⟨p,0,none⟩)):=by rw[hb.cell (p:=⟨w.heap.size,0,none⟩) (by simp[hsz]),cell_of_row _ _ _ _ _ _ kF];rfl
  have q1:W.cell? ⟨p,1,none⟩=some (.int .i64 room):=by rw[hb.cell (p:=⟨p,1,none⟩) (by simp[hsz];omega),World.cell?_of_block (a:=⟨p,1,none⟩) (hold p hp)];exact c1
  have q2:W.cell? ⟨p,2,none⟩=some (.map (some m)):=by rw[hb.cell (p:=⟨p,2,none⟩) (by simp[hsz];omega),World.cell?_of_block (a:=⟨p,2,none⟩) (hold p hp)];exact c2
  have hmW:zI W m d.now:=HM.out.of_block ((hb.block m (by omega)).trans (hold m hml));rcases i with _|_|_|_|_|_|_|_|_|_|_|i;all_goals (first|omega|skip)
  all_goals simp only[QA,QB,QC,Option.some.injEq]at ho
  all_goals subst ho
  ·exact q9 (w':=W) (by unfold execOp;simp only[t1];go_simp) ⟨Below.refl _ _,rfl⟩
  ·have g:vs 0=_:=hG 0 (by kernel_rfl);exact q9 (w':=W) (by unfold execOp;simp only[t5,g];go_simp) ⟨Below.refl _ _,rfl⟩
  ·have g:vs 1=_:=hG 1 (by kernel_rfl);exact q9 (w':=W) (by unfold execOp;simp only[t6,g];go_simp) ⟨Below.refl _ _,rfl⟩
  ·have g:vs 2=_:=hG 2 (by kernel_rfl);exact q9 (w':=W) (by unfold execOp;simp only[t7,g];go_simp) ⟨Below.refl _ _,rfl⟩
  ·exact q9 (w':=W) (by unfold execOp;simp only[t1];go_simp) ⟨Below.refl _ _,rfl⟩
  ·have g:vs 4=_:=hG 4 (by kernel_rfl);exact q9 (w':=W) (by unfold execOp;simp only[t9,g];go_simp) ⟨Below.refl _ _,rfl⟩
  ·have g:vs 5=_:=hG 5 (by kernel_rfl);exact q9 (w':=W) (by unfold execOp;simp only[t10,g];go_simp) ⟨Below.refl _ _,rfl⟩
  ·have g:vs 6=_:=hG 6 (by kernel_rfl);exact q9 (w':=W) (by unfold execOp;simp only[t11,g];go_simp) ⟨Below.refl _ _,rfl⟩
  ·have g:vs 7=_:=hG 7 (by kernel_rfl);exact q9 (w':=W) (qmQ (.tmp 12) rfl (t12.trans g) hmW) ⟨Below.refl _ _,by rw[HU.out];rfl⟩
  ·have g3:vs 3=_:=hG 3 (by kernel_rfl);have g8:vs 8=_:=hG 8 (by kernel_rfl);exact q9 (w':=W) (by unfold execOp;simp only[t8,g3,t13,g8];go_simp;exact IntWalk.i64_in _ (by omega)) ⟨Below.refl _ _,rfl⟩
  ·exact q9 (v:=.pointer (some ⟨W.heap.size,0,none⟩)) (w':=W.alloc (.cells #[.int .i64 0] 3)) (by unfold execOp;go_simp) ⟨(Below.refl _ _).alloc (Nat.le_refl _) _,W.heap.size,rfl,hb.size,qg.new _ _ _⟩
 ·intro vs W hb hG;have g9:vs 9=_:=hG 9 (by decide);obtain⟨b3,g10,hb3,hk3⟩:∃b,vs 10=.pointer (some ⟨b,0,none⟩)∧w1.heap.size≤b∧qg W b 3 #[.int .i64 0]:=hG 10 (by decide);simp only[za,qN,if_true];rw[g9,g10];generalize vs 0=x0;generalize vs 1=x1;generalize vs 2=x2;generalize vs 3=x3;generalize vs 4=x4;generalize vs 5=x5;generalize vs 6=x6;generalize vs 7=x7;generalize vs 8=x8;clear hG g9 g10;have k3:W.cell? ⟨b3,0,none⟩=some (.int .i64 0):=hk3.cell 0;have f3:=hk3.frozen 0;have l6:=QH hk3;have hbW:=hb.size;have HB:=QH (hB0.trans (hb.mono (by omega)));have HX:=QH ((hb.block w.heap.size (by omega)).trans kF);have zbT:=hk3.lt;clear hk3 hb hB0 hold kF c1 c2;go_simp;refine qL (i:=11) (by kernel_rfl) rfl rfl ?_;go_simp;refine⟨by kernel_rfl,?_⟩;go_wp2;go_ret;generalize hW2:W.setCell ⟨b3,0,none⟩ (.int .i64 (room-(used:Int)))=W2;have hs2:W2.heap.size=W.heap.size:=by rw[← hW2,size_set]
  have hk2:qg W2 b3 3 #[.int .i64 (room-(used:Int))]:=by rw[← hW2];exact l6.out.ql 0 _
  have hx2:qg W2 w.heap.size 24 #[.pointer (some ⟨p,0,none⟩)]:=by
   unfold qg;rw[← hW2,zV _ _ _ _ _ (by omega)];exact HX.out
  have hB2:Below w.heap.size w W2:=by rw[← hW2];exact HB.out.setCell (by simp;omega) _
  refine⟨W.heap.size+1,b3,W.heap.size,rfl,⟨?_,?_,?_,?_⟩,?_,?_⟩
  ·refine(hx2.of_block (Below.heap_alloc _ _ _ (by omega))).of_block (Below.heap_alloc _ _ _ (by simp;omega))
  ·rw[← hs2];exact heap_alloc2_new _ _ _
  ·refine(hk2.of_block (Below.heap_alloc _ _ _ (by omega))).of_block (Below.heap_alloc _ _ _ (by simp;omega))
  ·rw[← hs2];exact(yy.made W2).of_block (Below.heap_alloc _ _ _ (by simp))
  ·exact(hB2.alloc (by omega) _).alloc (by simp;omega) _
  ·omega
end
end Go.Proofs.YtdagdllomphidaaGreatDoor.dk
namespace Go.Proofs.YtdagdllomphidaaGreatDoor.dk
open _root_.Go.Proofs.Tryz Go Go.RowKit
def tell (d:DD):List Int→List Int→Bool
 | _,[]=>true
 | acc,x::r=>if (ask d acc x).1 then tell d (ask d acc x).2 r else false
theorem l7 (s:qB):∀(l acc:List Int),acc.length≤(fresh s acc l).length
 | [],_=>Nat.le_refl _
 | x::r,acc=>by
  unfold fresh;split
  ·exact l7 s r acc
  ·exact Nat.le_trans (by simp) (l7 s r (acc++[x]))
theorem qbs(d:DD):∀(l acc:List Int),(acc.length=0∨(acc.length:Int)≤d.room-(d.used:Int)) →
    tell d acc l=(l.all d.has&&(decide ((fresh d.now acc l).length=0) || decide (((fresh d.now acc l).length:Int)≤d.room-(d.used:Int))))
 | [],acc,h=>by
  show true=_;simp only[List.all_nil,fresh,Bool.true_and];rcases h with h|h <;> simp[h]
 | x::r,acc,h=>by
  unfold tell;by_cases hh:d.has x=true
  ·by_cases hs:(look d.now x).isSome=true
   ·have e:ask d acc x=(true,acc):=by unfold ask;rw[if_neg (by rw[hh];simp),if_pos hs]
    rw[e];simp only[if_true,List.all_cons,hh,Bool.true_and];rw[qbs d r acc h]
    conv=>rhs;unfold fresh
    rw[hs];rfl
   ·have e:ask d acc x=(decide (((ya acc x).length:Int)≤d.room-(d.used:Int)),ya acc x):=by unfold ask;rw[if_neg (by rw[hh];simp),if_neg hs]
    have hf:fresh d.now acc (x::r)=fresh d.now (ya acc x) r:=by
     conv=>lhs;unfold fresh
     unfold ya;rw[show(look d.now x).isSome=false from by simpa using hs,Bool.false_or];split <;> rfl
    rw[e,hf];simp only[List.all_cons,hh,Bool.true_and];by_cases hle:((ya acc x).length:Int)≤d.room-(d.used:Int)
    ·rw[decide_eq_true hle,if_pos rfl];exact qbs d r _ (.inr hle)
    ·rw[decide_eq_false hle,if_neg (by simp)];have h1:=l7 d.now r (ya acc x);have h2:0<(ya acc x).length:=by
      unfold ya;split
      ·rename_i hc;cases acc with
       | nil=>simp at hc
       | cons=>simp
      ·simp
     rw[decide_eq_false (by omega),decide_eq_false (by omega)];simp
  ·have e:ask d acc x=(false,acc):=by unfold ask;rw[if_pos (by simpa using hh)]
   rw[e];simp[hh]
theorem qjs(d:DD)(l:List Int):tell d [] l=d.fits l:=qbs d l [] (.inl rfl)
def qM (w:World)(a:Option Addr)(zs:List Int):Prop :=
 ∀i (h:i<zs.length),∃b o,a=some ⟨b,o,none⟩∧b<w.heap.size∧w.cell? ⟨b,o+i,none⟩=some (.int .i64 zs[i]) ∧ -9223372036854775808≤zs[i]∧zs[i]≤9223372036854775807
def okB (r:Bool)(w:World)(e:Ending)(w':World):Prop:=e=.returned (.bool r)∧Below w.heap.size w w'
section
variable {w:World} {p m:Nat} {v:Value} {d:DD} {own:Nat→Prop} {B1 B4 B3 a:Nat} {acc:List Int}
theorem qrd{most:Nat}(h0:d.ok most)(h:uM w own p m v d)(he:Env w p B1 B4 B3 a (d.room-(d.used:Int)) acc)(x:Int)(hl:acc.length<maxLen) :
    Calls prog 218 #[.int .i64 x,.pointer (some ⟨B1,0,none⟩),.pointer (some ⟨B4,0,none⟩),.pointer (some ⟨B3,0,none⟩)] w (nK (ask d acc x) a w):=by
 unfold ask;by_cases hh:d.has x=true
 ·by_cases hs:(look d.now x).isSome=true
  ·rw[if_neg (by rw[hh];simp),if_pos hs];exact qqZ h0 h he x hh hs
  ·rw[if_neg (by rw[hh];simp),if_neg hs];exact qra h0 h he x hh (by simpa using hs) hl
 ·rw[if_pos (by simpa using hh)];exact qqY h he x (by simpa using hh)
theorem Env.step{w':World}{free:Int}{qzA:List Int}(h:Env w p B1 B4 B3 a free acc)(hs:yy w' a qzA)(hb:qz (fun k=>k=a) w w'):Env w' p B1 B4 B3 a free qzA:=by
 have hne:∀ {B t cs},qg w B t cs→B≠a:=by
  rintro B t cs hB rfl;obtain⟨D,⟨es,clock,q,_⟩,_⟩:=h.ql;unfold qg at hB;rw[q]at hB;cases hB
 exact⟨h.b1.of_block (hb.block _ h.b1.lt (hne h.b1)),h.b4.of_block (hb.block _ h.b4.lt (hne h.b4)),h.b3.of_block (hb.block _ h.b3.lt (hne h.b3)),hs⟩
theorem qre(d:DD)(acc:List Int)(x:Int):(ask d acc x).2.length≤acc.length+1:=by
 unfold ask;split
 ·simp
 ·split
  ·simp
  ·unfold ya;split <;> simp
def qv5 (d:DD)(zs:List Int)(w:World)(p B1 B4 B3 a:Nat)(i:Value)(wr:World):Prop :=
 ∃k:Nat,k≤zs.length∧i=.int .i64 (k:Int)∧Below w.heap.size w wr∧∃acc,Env wr p B1 B4 B3 a (d.room-(d.used:Int)) acc∧acc.length≤k∧tell d acc (zs.drop k)=d.fits zs
theorem fu {most:Nat}(h:zA most w own p d)(A:Option Addr)(c:Nat)(zs:List Int)(hz:qM w A zs)(hzl:zs.length≤1000000) :
    Calls prog 167 #[.pointer (some ⟨p,0,none⟩),.slice A zs.length c] w (okB (d.fits zs) w):=by
 obtain⟨h0,m,v,h1⟩:=h;have H0:=QH h0;have H1:=QH h1;have HZ:=QH hz;have HF:=QH (qfR h0 h1);have xP:=h1.2.2.2.2.2.2;have HL:=QH xP;clear h0 h1 hz xP;go_enter func167,ntmps167;go_wp2_with (go_at_call 202;refine HF.out.mono ?_);rintro e W1 ⟨B4,B3,a,rfl,hE,hb,ha⟩;have HE:=QH hE;have HB:=QH hb;have HA:=QH ha;clear hE hb ha;go_wp2_with fail;go_loopw [14] (fun i wr=>qv5 d zs w p w.heap.size B4 B3 a i wr) (fun i _=>zs.length-(intOf i).toNat);case atStart=>exact⟨0,Nat.zero_le _,rfl,HB.out,[],HE.out,Nat.le_refl _,qjs d zs⟩
 case round =>
  obtain⟨k,hk,rfl,hB,acc,hEn,hac,htl⟩:=hrel;have HBr:=QH hB;have HEr:=QH hEn;have HT:=QH htl;have HAc:=QH hac;by_cases hlt:k<zs.length
  ·obtain⟨b,o,rfl,mA,oQ,hx0,hx1⟩:=HZ.out k hlt;have hcell:wr.cell? ⟨b,o+k,none⟩=some (.int .i64 zs[k]):=by rw[hB.cell (p:=⟨b,o+k,none⟩) mA];exact oQ
   have hkr:uM wr own p m v d:=H1.out.keep hB.size (fun j hj=>hB.block j (HL.out j hj));have qzC:=qrd H0.out hkr hEn zs[k] (by unfold maxLen;omega);have hbs:b<wr.heap.size:=Nat.lt_of_lt_of_le mA hB.size;have qzD:d.fits zs=if (ask d acc zs[k]).1 then tell d (ask d acc zs[k]).2 (zs.drop (k+1))else false:=by
    rw[← htl,List.drop_eq_getElem_cons hlt];rfl
   have hal:=qre d acc zs[k];generalize zs[k]=x at *;have dW:=QH qzD;have HAL:=QH hal;have qzE:=QH qzC;clear qzD hal qzC hB hEn htl hac oQ mA hkr;cases hq:(ask d acc x).1 with
   | true =>
    have HQ:=QH hq;rw[hq,if_pos rfl]at dW;clear hq;go_wp2_with (go_at_call 218;refine qzE.out.mono ?_);rintro e w2 ⟨rfl,hs2,hb2⟩;rw[HQ.out];have uK:=QH hs2;have qC:=QH hb2;clear hs2 hb2;go_wp2_with fail;go_roundw;case rel=>exact⟨k+1,by omega,by go_num,HBr.out.trans (qC.out.below (fun i e=>by subst e;exact HA.out) HBr.out.size),_,HEr.out.step uK.out qC.out,(by have:=HAc.out;have:=HAL.out;omega),dW.out.symm⟩
    case measure=>simp[intOf];omega
   | false =>
    have HQ:=QH hq;rw[hq,if_neg (by simp)]at dW;clear hq;go_wp2_with (go_at_call 218;refine qzE.out.mono ?_);rintro e w2 ⟨rfl,hs2,hb2⟩;rw[HQ.out];have qC:=QH hb2;clear hs2 hb2;go_wp2_with fail;go_ret;exact⟨(by rw[dW.out];rfl),HBr.out.trans (qC.out.below (fun i e=>by subst e;exact HA.out) HBr.out.size)⟩
  ·have hkn:k=zs.length:=by omega
   subst hkn;clear hB hEn htl hac;go_wp2_with fail;go_ret;have:=HT.out;rw[List.drop_length]at this;exact⟨by rw[← this];rfl,HBr.out⟩
end
end Go.Proofs.YtdagdllomphidaaGreatDoor.dk
namespace Go.Proofs.YtdagdllomphidaaGreatDoor.dk
open _root_.Go.Proofs.Tryz Go Go.RowKit
section
variable {w:World} {p m:Nat} {v:Value} {d:DD} {own:Nat→Prop}
theorem xQ (d:DD):d.oper.base=d.base∧d.oper.more=d.more∧d.oper.room=d.room:=by
 unfold DD.oper DD.off;split
 ·exact⟨rfl,rfl,rfl⟩
 ·split <;> exact⟨rfl,rfl,rfl⟩
theorem ae (d:DD):d.oper.now=d.now:=by unfold DD.now;rw[(xQ d).1,(xQ d).2.1]
theorem qmV(d:DD):d.oper.n=d.n:=by unfold DD.n;rw[(xQ d).1]
theorem qmW(d:DD)(k:Int)(hh:d.has k=true):d.fits [k]=((look d.now k).isSome || decide ((d.used:Int)<d.room)):=by
 unfold DD.fits;simp only[List.all_cons,List.all_nil,hh,Bool.and_self,Bool.true_and,fresh];by_cases hx:(look d.now k).isSome=true
 ·simp[hx]
 ·simp[hx];omega
theorem oT (w:World)(k:Int)(h0 : -9223372036854775808≤k)(h1:k≤9223372036854775807):qM (w.alloc (.cells #[.int .i64 k] 3)) (some ⟨w.heap.size,0,none⟩) [k]:=by
 intro i h;have hi:i=0:=by simpa using h
 subst hi;refine⟨w.heap.size,0,rfl,by simp,?_,h0,h1⟩;rw[cell_of_row _ _ _ _ _ _ (heap_alloc_new w _)];rfl
theorem bh {most:Nat}(h:zA most w own p d)(zS:d.on=false)(k:Int)(s:ByteArray) :
    Calls prog 131 #[.pointer (some ⟨p,0,none⟩),.int .i64 k,.string s] w (xh most own p d (.int .i64 6) w):=by
 have H:=QH h;obtain⟨h0,m,v,h1⟩:=h;obtain⟨c0,c1,c2,c3,c4,c5⟩:=jP h1.1;rw[zS]at c4;clear h0 h1 c0 c1 c2 c3 c5 zS;go_enter func131,ntmps131;go_wp2_with fail;go_ret;exact⟨rfl,own,H.out,qz.refl _ _,ue.refl _ _⟩
theorem qjt{most:Nat}(h:zA most w own p d)(zS:d.on=true)(k:Int)(hh:d.has k=false)(s:ByteArray) :
    Calls prog 131 #[.pointer (some ⟨p,0,none⟩),.int .i64 k,.string s] w (xh most own p d (.int .i64 2) w):=by
 have H:=QH h;obtain⟨h0,m,v,h1⟩:=h;have hhas:=kE h1 k;rw[hh]at hhas;have HH:=QH hhas;obtain⟨c0,c1,c2,c3,c4,c5⟩:=jP h1.1;rw[zS]at c4;clear h0 h1 c0 c1 c2 c3 c5 zS hhas hh;go_enter func131,ntmps131;go_wp2_with (go_at_call 134;refine HH.out.mono ?_;rintro e w' ⟨rfl,rfl⟩);go_ret;exact⟨rfl,own,H.out,qz.refl _ _,ue.refl _ _⟩
theorem qju{most:Nat}(h:zA most w own p d)(zS:d.on=true)(k:Int)(hh:d.has k=true)(s:ByteArray)(hs:s.size≠32) :
    Calls prog 131 #[.pointer (some ⟨p,0,none⟩),.int .i64 k,.string s] w (xh most own p d (.int .i64 2) w):=by
 have H:=QH h;obtain⟨h0,m,v,h1⟩:=h;have hhas:=kE h1 k;rw[hh]at hhas;have HH:=QH hhas;obtain⟨c0,c1,c2,c3,c4,c5⟩:=jP h1.1;rw[zS]at c4;have hsz:((s.size:Int) == 32)=false:=by rw[beq_eq_false_iff_ne];omega
 clear h0 h1 c0 c1 c2 c3 c5 zS hhas hh hs;go_enter func131,ntmps131;go_wp2_with (go_at_call 134;refine HH.out.mono ?_;rintro e w' ⟨rfl,rfl⟩);go_ret;exact⟨rfl,own,H.out,qz.refl _ _,ue.refl _ _⟩
theorem qfS{most:Nat}(h:zA most w own p d)(zS:d.on=true)(k:Int)(hh:d.has k=true)(s:ByteArray)(hs:s.size=32)(hf:d.fits [k]=false) :
    Calls prog 131 #[.pointer (some ⟨p,0,none⟩),.int .i64 k,.string s] w (xh most own p d (.int .i64 7) w):=by
 have hk0:0≤k∧k<(d.n:Int):=by simpa[DD.has]using hh
 have hn:=h.1.n1;have h2:zA most (w.alloc (.cells #[.int .i64 k] 3)) own p d:=h.keep (by simp) (fun j hj=>Below.heap_alloc _ _ _ (h.2.choose_spec.choose_spec.2.2.2.2.2.2 j hj));have HF:=QH (fu h2 _ 1 [k] (oT w k (by omega) (by omega)) (by simp));rw[hf]at HF;have H:=QH h;have H2:=QH h2;have xP:∀j,own j→j<w.heap.size:=fun j hj=>h.2.choose_spec.choose_spec.2.2.2.2.2.2 j hj;have HL:=QH xP;obtain⟨h0,m,v,h1⟩:=h;have hhas:=kE h1 k;rw[hh]at hhas;have HH:=QH hhas;obtain⟨c0,c1,c2,c3,c4,c5⟩:=jP h1.1;rw[zS]at c4;have hsz:((s.size:Int) == 32)=true:=by rw[beq_iff_eq];omega
 clear h0 h1 c0 c1 c2 c3 c5 zS hhas hh hs hf h2 xP hk0 hn;go_enter func131,ntmps131;go_wp2_with (first|(go_at_call 134;refine HH.out.mono ?_;rintro e w' ⟨rfl,rfl⟩)|(go_at_call 167;refine HF.out.mono ?_;rintro e w2 ⟨rfl,hb2⟩;have qC:=QH hb2;clear hb2));go_ret;have hB:Below w.heap.size w w2:=((Below.refl _ w).alloc (Nat.le_refl _) _).trans (qC.out.mono (by simp));exact⟨rfl,own,H.out.keep hB.size (fun j hj=>hB.block j (HL.out j hj)),qz.of_below hB,ue.refl _ _⟩
end
end Go.Proofs.YtdagdllomphidaaGreatDoor.dk
namespace Go.Proofs.YtdagdllomphidaaGreatDoor.dk
open _root_.Go.Proofs.Tryz Go Go.RowKit
theorem qfT(d:DD)(k:Int)(v:Bt):(d.write k v).2.more.length≤d.more.length+1:=by
 have ho:=(xQ d).2.1;unfold DD.write;split
 ·simp
 ·split
  ·simp
  ·split
   ·simp
   ·split
    ·simp[ho]
    ·simp
end Go.Proofs.YtdagdllomphidaaGreatDoor.dk
namespace Go.Proofs.YtdagdllomphidaaGreatDoor
open _root_.Go.Proofs.Tryz Go
def uf (n:Nat):Nat:=if n%2=1 then n/2^^^3988292384 else n/2
def xR:Nat→Nat→Nat
 | 0,n=>n
 | k+1,n=>xR k (uf n)
def wE (n:Nat)(b:UInt8):Nat:=xR 8 (n^^^b.toNat)
def tq (n:Nat)(l:List UInt8):Nat:=l.foldl wE n
def gA (l:List UInt8):Nat:=tq 4294967295 l^^^4294967295
theorem oU (n:Nat):uf n=n/2^^^(if n%2=1 then 3988292384 else 0):=by
 unfold uf;split <;> simp
theorem qmX(a b:Nat):(a^^^b)%2=(a%2)^^^(b%2):=Nat.xor_mod_two_pow (n:=1)
theorem qjv(a b:Nat):uf (a^^^b)=uf a^^^uf b:=by
 rw[oU,oU a,oU b,Nat.xor_div_two,qmX];have ha:a%2=0∨a%2=1:=by omega
 have hb:b%2=0∨b%2=1:=by omega
 have h2:∀x y p:Nat,x^^^(y^^^p)=x^^^y^^^p:=fun x y p=>(Nat.xor_assoc x y p).symm;have h3:∀x p:Nat,x^^^p^^^p=x:=fun x p=>by
  rw[Nat.xor_assoc,Nat.xor_self,Nat.xor_zero]
 have h4:∀x y p:Nat,x^^^p^^^y=x^^^y^^^p:=fun x y p=>by
  rw[Nat.xor_assoc,Nat.xor_comm p y,← Nat.xor_assoc]
 rcases ha with ha|ha <;> rcases hb with hb|hb <;> simp[ha,hb,h2,h3,h4]
theorem cz:∀(k a b:Nat),xR k (a^^^b)=xR k a^^^xR k b
 | 0,_,_=>rfl
 | k+1,a,b=>by simp only[xR,qjv,cz k]
theorem qmY(n:Nat)(h:n<4294967296):uf n<4294967296:=by
 unfold uf;split
 ·exact Nat.xor_lt_two_pow (n:=32) (by omega) (by omega)
 ·omega
theorem qao:∀(k n:Nat),n<4294967296→xR k n<4294967296
 | 0,_,h=>h
 | k+1,n,h=>qao k _ (qmY n h)
theorem qt1(b:UInt8):b.toNat<256:=b.toNat_lt
theorem qdj(n:Nat)(b:UInt8)(h:n<4294967296):n^^^b.toNat<4294967296:=by
 have:=qt1 b;exact Nat.xor_lt_two_pow (n:=32) (by omega) (by omega)
theorem qdk(n:Nat)(b:UInt8)(h:n<4294967296):wE n b<4294967296 :=
 qao 8 _ (qdj n b h)
theorem qbt:∀(l:List UInt8) (n:Nat),n<4294967296→tq n l<4294967296
 | [],_,h=>h
 | b::l,n,h=>qbt l _ (qdk n b h)
theorem qjw(l:List UInt8):gA l<4294967296 :=
 Nat.xor_lt_two_pow (n:=32) (qbt l _ (by omega)) (by omega)
theorem qjx(n:Nat)(l:List UInt8)(b:UInt8):tq n (l++[b])=wE (tq n l) b:=by
 simp[tq]
def fx:List Nat:=[0,498536548,997073096,651767980,1994146192,1802195444,1303535960,1342533948,3988292384,4027552580,3604390888,3412177804,2607071920,2262029012,2685067896,3183342108]
def ym (n f:Nat):Nat:=n/16^^^fx.getD ((n%256^^^f)%16) 0
theorem qhU(n:Nat):n=n/16*16^^^n%16:=by
 have hd:(n/16*16^^^n%16)/2 ^ 4=n/16:=by
  rw[Nat.xor_div_two_pow];have h1:n/16*16/2 ^ 4=n/16:=by omega
  have h2:n%16/2 ^ 4=0:=by omega
  rw[h1,h2,Nat.xor_zero]
 have hm:(n/16*16^^^n%16)%2 ^ 4=n%16:=by
  rw[Nat.xor_mod_two_pow];have h1:n/16*16%2 ^ 4=0:=by omega
  have h2:n%16%2 ^ 4=n%16:=by omega
  rw[h1,h2,Nat.zero_xor]
 omega
theorem fy (m:Nat):xR 4 (m*16)=m:=by
 have h1:uf (m*16)=m*8:=by unfold uf;rw[if_neg (by omega)];omega
 have h2:uf (m*8)=m*4:=by unfold uf;rw[if_neg (by omega)];omega
 have h3:uf (m*4)=m*2:=by unfold uf;rw[if_neg (by omega)];omega
 have h4:uf (m*2)=m:=by unfold uf;rw[if_neg (by omega)];omega
 simp only[xR,h1,h2,h3,h4]
theorem qdl:∀r:Nat,r<16→xR 4 r=fx.getD r 0:=by decide +kernel
theorem qrf(n:Nat):xR 4 n=n/16^^^fx.getD (n%16) 0:=by
 have h:=qhU n;have e:xR 4 (n/16*16^^^n%16)=n/16^^^fx.getD (n%16) 0:=by
  rw[cz,fy,qdl _ (by omega)]
 rw[← h]at e;exact e
theorem oV (j:Nat):∀(k n:Nat),xR (k+j) n=xR j (xR k n)
 | 0,n=>by simp[xR]
 | k+1,n=>by
  rw[show k+1+j=(k+j)+1 from by omega];simp only[xR];exact oV j k _
theorem bm (a b:Nat):(a^^^b)%16=(a%16)^^^(b%16):=Nat.xor_mod_two_pow (n:=4)
theorem qjy(a b:Nat):(a^^^b)/16=(a/16)^^^(b/16):=Nat.xor_div_two_pow (n:=4)
theorem mE (n f:Nat)(hf:f/16=0):ym n f=xR 4 (n^^^f):=by
 rw[qrf,qjy,hf,Nat.xor_zero,bm];unfold ym;rw[bm,show n%256%16=n%16 from by omega]
theorem qbu(n f:Nat):ym n f=ym n (f%16):=by
 unfold ym;rw[bm,bm _ (f%16),show f%16%16=f%16 from by omega]
theorem halves(n:Nat)(b:UInt8):ym (ym n b.toNat) (b.toNat/16)=wE n b:=by
 have hb:=qt1 b;unfold wE;rw[qbu n,mE _ _ (by omega),mE _ _ (by omega),oV 4 4]
 congr 1
 have h:=qhU b.toNat;have e:xR 4 (n^^^b.toNat)=xR 4 (n^^^b.toNat%16)^^^b.toNat/16:=by
  have:n^^^b.toNat=(n^^^b.toNat%16)^^^b.toNat/16*16:=by
   rw[Nat.xor_assoc,Nat.xor_comm (b.toNat%16),← h]
  rw[this,cz,fy]
 exact e.symm
theorem qdm(n f:Nat)(h:n<4294967296):ym n f<4294967296:=by
 have hi:(n%256^^^f)%16<16:=Nat.mod_lt _ (by omega);have ht:∀i:Nat,i<16→fx.getD i 0<4294967296:=by decide
 exact Nat.xor_lt_two_pow (n:=32) (by omega) (ht _ hi)
def be4 (n:Nat):List UInt8:=[UInt8.ofNat (n/16777216%256),UInt8.ofNat (n/65536%256),UInt8.ofNat (n/256%256),UInt8.ofNat (n%256)]
theorem ofNat_inj(a b:Nat)(ha:a<256)(hb:b<256)(h:UInt8.ofNat a=UInt8.ofNat b):a=b:=by
 have:=congrArg UInt8.toNat h;simp[UInt8.toNat_ofNat']at this;omega
def nsec (n:Nat):Nat:=(n+37)/32
def pad (l:List UInt8):List UInt8:=l++List.replicate (32-l.length) 0
def nu (n:Nat):List UInt8:=[UInt8.ofNat (n/256%256),UInt8.ofNat (n%256)]
def headB (t:List UInt8):List UInt8:=nu t.length++be4 (gA t)
def nv (t:List UInt8):List UInt8:=headB t++t
def yM (t:List UInt8):List UInt8:=nv t++List.replicate (nsec t.length*32-6-t.length) 0
def uO (f:List UInt8)(i:Nat):List UInt8:=(f.drop (32*i)).take 32
def chunks (k:Nat)(f:List UInt8):List (List UInt8):=(List.range k).map (uO f)
def wF (k:Nat)(f:List UInt8):List (List UInt8):=(List.range k).map fun i=>pad (uO f i)
def qP (t:List UInt8):List (List UInt8):=wF (nsec t.length) (nv t)
def vT (ps:List (List UInt8))(t:List UInt8):Prop:=t.length≤8192∧ps=qP t
theorem qbv(t:List UInt8):(headB t).length=6:=rfl
theorem af (t:List UInt8):(nv t).length=t.length+6:=by simp[nv,qbv];omega
theorem qbw(n:Nat):n+6≤nsec n*32:=by unfold nsec;omega
theorem fz (n:Nat):0<nsec n:=by unfold nsec;omega
theorem jk (t:List UInt8):(yM t).length=32*nsec t.length:=by
 have:=qbw t.length;simp[yM,af];omega
theorem yb (t:List UInt8):(qP t).length=nsec t.length:=by simp[qP,wF]
theorem qbx(k:Nat)(f:List UInt8):(wF k f).length=k:=by simp[wF]
theorem qfU(k:Nat)(f:List UInt8):wF (k+1) f=wF k f++[pad (uO f k)]:=by simp[wF,List.range_succ]
theorem qdn(k:Nat)(f:List UInt8):chunks (k+1) f=chunks k f++[uO f k]:=by simp[chunks,List.range_succ]
theorem dh (f:List UInt8)(i:Nat):(uO f i).length≤32:=by simp[uO];omega
theorem oW (l:List UInt8)(h:l.length≤32):(pad l).length=32:=by simp[pad];omega
theorem qjz(t:List UInt8)(i:Nat)(h:i<nsec t.length):pad (uO (nv t) i)=uO (yM t) i:=by
 have hl:=af t;have hn:=qbw t.length;have hi:32*i≤(nv t).length:=by unfold nsec at h;omega
 have ht:32*(i+1)≤nsec t.length*32:=by omega
 unfold pad uO yM;rw[List.drop_append_of_le_length hi,List.take_append,List.take_replicate,List.length_take,List.length_drop]
 congr 1
 congr 1
 omega
theorem qdo(t:List UInt8):qP t=chunks (nsec t.length) (yM t):=by
 unfold qP wF chunks;apply List.map_congr_left;intro i hi;exact qjz t i (by simpa using hi)
theorem ag (f:List UInt8):∀k,(chunks k f).flatten=f.take (32*k)
 | 0=>by simp[chunks]
 | k+1=>by
  rw[qdn,List.flatten_append,ag f k];simp only[List.flatten_cons,List.flatten_nil,List.append_nil,uO];rw[show 32*(k+1)=32*k+32 from by omega,List.take_add]
theorem yS (t:List UInt8):(qP t).flatten=yM t:=by
 rw[qdo,ag,List.take_of_length_le];rw[jk];exact Nat.le_refl _
theorem bn (t:List UInt8)(i:Nat)(h:i<(qP t).length):(qP t)[i].length=32:=by
 simp only[qP,wF,List.getElem_map];exact oW _ (dh _ _)
theorem qdp(k:Nat)(f:List UInt8):chunks (k+1) f=f.take 32::chunks k (f.drop 32):=by
 simp only[chunks,List.range_succ_eq_map,List.map_cons,List.map_map,uO]
 congr 1
 apply List.map_congr_left;intro i _;simp only[Function.comp,uO,List.drop_drop];rw[show 32*(i+1)=32+32*i from by omega]
theorem chunks_flatten:∀ps:List (List UInt8),(∀i (h:i<ps.length),ps[i].length=32)→chunks ps.length ps.flatten=ps
 | [],_=>rfl
 | p::ps,h=>by
  have h0:p.length=32:=h 0 (by simp);have ih:=chunks_flatten ps fun i hi=>h (i+1) (Nat.succ_lt_succ hi);rw[List.length_cons,qdp,List.flatten_cons,List.take_left' h0,List.drop_left' h0,ih]
theorem wG:∀ps:List (List UInt8),(∀i (h:i<ps.length),ps[i].length=32)→ps.flatten.length=32*ps.length
 | [],_=>rfl
 | p::ps,h=>by
  have h0:p.length=32:=h 0 (by simp);have ih:=wG ps fun i hi=>h (i+1) (Nat.succ_lt_succ hi);rw[List.flatten_cons,List.length_append,ih,h0,List.length_cons];omega
theorem um (t:List UInt8):(yM t).take 2=nu t.length:=rfl
theorem qby(t:List UInt8):(yM t).drop 6=t++List.replicate (nsec t.length*32-6-t.length) 0:=rfl
theorem ah (t:List UInt8):((yM t).drop 6).take t.length=t:=by rw[qby];simp
theorem qdq(n m:Nat)(hn:n<65536)(hm:m<65536)(h:nu n=nu m):n=m:=by
 simp only[nu,List.cons.injEq,and_true]at h;have:=ofNat_inj _ _ (by omega) (by omega) h.1;have:=ofNat_inj _ _ (by omega) (by omega) h.2;omega
theorem qmZ(n:Nat)(h:n<65536):256*(UInt8.ofNat (n/256%256)).toNat+(UInt8.ofNat (n%256)).toNat=n:=by
 simp[UInt8.toNat_ofNat'];omega
theorem qfV(t u:List UInt8)(ht:t.length<65536)(hu:u.length<65536)(h:yM t=yM u):t=u:=by
 have hl:=qdq _ _ ht hu (by rw[← um,← um,h]);rw[← ah t,← ah u,h,hl]
theorem qna(t u:List UInt8)(ht:t.length<65536)(hu:u.length<65536)(h:qP t=qP u):t=u :=
 qfV t u ht hu (by rw[← yS,← yS,h])
theorem oX (ps:List (List UInt8))(t u:List UInt8)(ht:vT ps t)(hu:vT ps u):t=u :=
 qna t u (by have:=ht.1;omega) (by have:=hu.1;omega) (by rw[← ht.2,← hu.2])
def tr (f:List UInt8):Option (List UInt8) :=
 match f with
 | a::b::_::_::_::_::r=>if r.length<256*a.toNat+b.toNat then none else some (r.take (256*a.toNat+b.toNat))
 | _=>none
theorem qfW(f:List UInt8)(h:f.length<6):tr f=none:=by
 unfold tr;split
 ·simp at h;omega
 ·rfl
theorem qhV(f:List UInt8)(h:6≤f.length):tr f=if f.length-6<256*f[0].toNat+f[1].toNat then none else some ((f.drop 6).take (256*f[0].toNat+f[1].toNat)):=by
 match f,h with
 | a::b::_::_::_::_::r,_=>simp[tr]
theorem qfX(t:List UInt8)(ht:t.length<65536):tr (yM t)=some t:=by
 have hl:=qbw t.length;have hw:=jk t;have h0:(yM t)[0]'(by omega)=UInt8.ofNat (t.length/256%256):=rfl;have h1:(yM t)[1]'(by omega)=UInt8.ofNat (t.length%256):=rfl;rw[qhV _ (by omega),h0,h1,qmZ _ ht,if_neg (by omega),ah]
end Go.Proofs.YtdagdllomphidaaGreatDoor
namespace Go.Proofs.YtdagdllomphidaaGreatDoor.jr
open _root_.Go.Proofs.Tryz dk wi
abbrev Wr:=Int × Bt
inductive Step where
 | w (k:Int) (v:Bt)
 | f
def kd (d:DD):Step→Int × DD
 | .w k v=>d.write k v
 | .f=>d.flush
def ai:List Step→DD→Int × DD
 | [],d=>(0,d)
 | s::r,d=>if (kd d s).1=0 then ai r (kd d s).2 else kd d s
def jZ (l:List Wr):List Step:=l.map fun x=>.w x.1 x.2
def qH:List (List Wr)→List Step
 | []=>[]
 | l::r=>jZ l ++ .f::qH r
def rd (s:qB)(k:Int):Bt:=(dk.look s k).getD zz
def kW (a c:Nat):Bt:=zx (a+1)++zx c++List.replicate (32-(zx (a+1)).length-(zx c).length) 0
def pairs:List (Nat × Nat):=(List.range 2).flatMap fun a=>(List.range 73).map fun c=>(a,c)
def dD (s:Bt):Option (Nat × Nat):=pairs.find? fun p=>kW p.1 p.2 == s
def wB (x:Wr):Bt:=zx x.1.toNat++mf x.2
def zj (l:List Wr):Bt:=zx l.length++(l.map wB).flatten
def l8:Nat→Bt→Option (List Wr × Bt)
 | 0,t=>some ([],t)
 | n+1,t=>match rdNum t with
  | none=>none
  | some (a,t1)=>match js t1 with
   | none=>none
   | some (v,t2)=>match l8 n t2 with
    | none=>none
    | some (l,r)=>some ((((min a 1024:Nat):Int),v)::l,r)
def bP (t:Bt):Option (List Wr):=match rdNum t with
 | none=>none
 | some (n,r)=>if n<1∨60<n then none else match l8 n r with
  | some (l,[])=>some l
  | _=>none
open Classical in
noncomputable def unB (ps:List Bt):Option Bt:=if h:∃t,vT ps t then some h.choose else none
def zY (s:qB)(a c:Nat):List Bt:=(List.range c).map fun i=>rd s ((1+a*72+i:Nat):Int)
noncomputable def aj (s:qB)(a c:Nat):Option (List Wr):=(unB (zY s a c)).bind bP
def okW (n:Nat)(x:Wr):Bool:=decide (145≤x.1)&&decide (x.1<(n:Int))&&decide (x.2.length=32)
def found (acc:List Int)(l:List Wr):List Int:=l.foldl (fun acc x=>ya acc x.1) acc
def vU (n:Nat)(l:List Wr):Bool:=l.all (okW n)&&decide ((found [] l).length=l.length)
def zk:Nat→List Bt→List Wr
 | _,[]=>[]
 | o,s::r=>((o:Int),s)::zk (o+1) r
def lay (a:Nat)(ss:List Bt):List Wr:=zk (1+a*72) ss
def yT (a:Nat)(l:List Wr):List (List Wr):=[lay (1-a) (qP (zj l)),[(0,kW (1-a) (qP (zj l)).length)],l]
def placesOf(bs:List (List Wr)):List Int:=bs.flatten.map (·.1)
def uo (d:DD):Int × DD:=if d.on=false then(6,d)else if d.n≤145 then(2,d)else ai (qH [[(0,kW 0 0)]]) d
def xf (d:DD)(l:List Wr):Int × DD :=
 if d.on=false then(6,d)
 else if l.length=0 then(0,d)
 else if 60<l.length then(3,d)
 else if vU d.n l=false then(2,d)
 else match dD (rd d.now 0)with
  | none=>(8,d)
  | some (a,_) =>
   if 8192<(zj l).length∨72<(qP (zj l)).length then(3,d)
   else if d.fits (placesOf (yT a l))=false then(7,d)
   else ai (qH (yT a l)) d
noncomputable def xm (d:DD):Int × DD :=
 if d.on=false then(6,d)
 else match dD (rd d.now 0)with
  | none=>(8,d)
  | some (a,c) =>
   if c=0 then(0,d)
   else match aj d.now a c with
    | none=>(8,d)
    | some l=>if vU d.n l=false then(8,d)else ai (qH [l]) d
theorem qv8:pairs.all (fun p=>decide ((kW p.1 p.2).length=32)&&decide (dD (kW p.1 p.2)=some p)&&decide (kW p.1 p.2≠zz))=true:=by decide +kernel
theorem qj0{a c:Nat}(ha:a<2)(hc:c≤72):(a,c)∈pairs:=by
 unfold pairs;rw[List.mem_flatMap];exact⟨a,by simpa using ha,List.mem_map.2 ⟨c,by simp;omega,rfl⟩⟩
theorem qnb{p:Nat × Nat}(h:p∈pairs):p.1<2∧p.2≤72:=by
 unfold pairs at h;rw[List.mem_flatMap]at h;obtain⟨a,ha,h⟩:=h;obtain⟨c,hc,rfl⟩:=List.mem_map.1 h;simp at ha hc;exact⟨ha,by omega⟩
theorem uP {a c:Nat}(ha:a<2)(hc:c≤72):(kW a c).length=32∧dD (kW a c)=some (a,c)∧kW a c≠zz:=by
 have:=List.all_eq_true.1 qv8 (a,c) (qj0 ha hc);simp only[Bool.and_eq_true,decide_eq_true_eq]at this;exact⟨this.1.1,this.1.2,this.2⟩
theorem uv {s:Bt}{a c:Nat}(h:dD s=some (a,c)):a<2∧c≤72∧s=kW a c:=by
 have h1:=List.find?_some h;have h2:=qnb (List.mem_of_find?_eq_some h);exact⟨h2.1,h2.2,(by simpa using h1:kW a c=s).symm⟩
theorem qhW:∀(l:List Wr) (r:Bt),(∀x∈l,0≤x.1∧x.1≤1024∧x.2.length=32)→l8 l.length ((l.map wB).flatten++r)=some (l,r)
 | [],r,_=>rfl
 | x::l,r,h=>by
  obtain⟨h0,h1,h2⟩:=h x (by simp);have ih:=qhW l r (fun y hy=>h y (by simp[hy]));simp only[List.length_cons,List.map_cons,List.flatten_cons,l8,wB,List.append_assoc];rw[ur _ (by omega)];dsimp only;rw[qfi _ (by omega)];dsimp only;rw[ih];have e:((min x.1.toNat 1024:Nat):Int)=x.1:=by omega
  simp only[e]
theorem qj1(l:List Wr)(h0:1≤l.length)(h1:l.length≤60)(h:∀x∈l,0≤x.1∧x.1≤1024∧x.2.length=32):bP (zj l)=some l:=by
 unfold bP zj;rw[ur _ (by omega)];dsimp only;rw[if_neg (by omega)];have:=qhW l [] h;rw[List.append_nil]at this;rw[this]
theorem qnc(t:Bt)(h:t.length≤8192):unB (qP t)=some t:=by
 unfold unB;have hx:∃u,vT (qP t) u:=⟨t,h,rfl⟩;rw[dif_pos hx];exact congrArg some (oX _ _ _ hx.choose_spec ⟨h,rfl⟩)
theorem qA (n:Nat):(zx n).length≤9:=by
 have:=jM n;simp[zx];omega
theorem qv9(x:Wr)(h:x.2.length=32):(wB x).length≤50:=by
 have h1:=qA x.1.toNat;have h2:=qA x.2.length;simp only[wB,mf,List.length_append];omega
theorem qnd(l:List Wr)(h:∀x∈l,x.2.length=32):((l.map wB).flatten).length≤50*l.length:=by
 induction l with
 | nil=>simp
 | cons x l ih =>
  have:=qv9 x (h x (by simp));have:=ih (fun y hy=>h y (by simp[hy]));simp only[List.map_cons,List.flatten_cons,List.length_append,List.length_cons];omega
theorem qj2(l:List Wr):∀acc:List Int,(found acc l).length≤acc.length+l.length:=by
 induction l with
 | nil=>intro acc;simp[found]
 | cons x l ih =>
  intro acc;have h1:=ih (ya acc x.1);have h2:(ya acc x.1).length≤acc.length+1:=by
   unfold ya;split <;> simp
  simp only[found,List.foldl_cons,List.length_cons]at h1 ⊢;omega
def nat (l:List Wr):List (Nat × Bt):=l.map fun x=>(x.1.toNat,x.2)
theorem xr:∀(l:List (Nat × Bt)) (s:qB) (k:Int),(∀x∈l,(x.1:Int)≠k)→dk.look (qO s l) k=dk.look s k
 | [],_,_,_=>rfl
 | x::l,s,k,h=>by
  rw[bg,xr l _ k (fun y hy=>h y (by simp[hy]))];exact xa s x.1 k _ (Ne.symm (h x (by simp)))
theorem fA:∀(l:List (Nat × Bt)) (s s':qB) (k:Nat),k<s.length→k<s'.length→(∃x∈l,x.1=k)→dk.look (qO s l) (k:Int)=dk.look (qO s' l) (k:Int)
 | [],_,_,_,_,_,⟨x,hx,_⟩=>absurd hx (by simp)
 | x::l,s,s',k,hs,hs',h=>by
  rw[bg,bg];by_cases hl:∃y∈l,y.1=k
  ·exact fA l _ _ k (by simpa[dk.put]using hs) (by simpa[dk.put]using hs') hl
  ·have hx:x.1=k:=by
      obtain⟨y,hy,e⟩:=h;rcases List.mem_cons.1 hy with rfl|hy
      ·exact e
      ·exact absurd ⟨y,hy,e⟩ hl
   have hn:∀y∈l,(y.1:Int)≠(k:Int):=fun y hy e=>hl ⟨y,hy,by omega⟩;rw[xr l _ _ hn,xr l _ _ hn,hx];unfold dk.put;rw[zL _ _ _ hs,zL _ _ _ hs']
theorem qj3(l y:List (Nat × Bt))(s:qB)(k:Int)(hy:∀x∈y,x∈l)(hl:∀x∈l,x.1<s.length):dk.look (qO (qO s y) l) k=dk.look (qO s l) k:=by
 by_cases hk:∃x∈l,(x.1:Int)=k
 ·obtain⟨x,hx,rfl⟩:=hk;exact fA l _ _ x.1 (by rw[zw];exact hl x hx) (hl x hx) ⟨x,hx,rfl⟩
 ·have hn:∀x∈l,(x.1:Int)≠k:=fun x hx e=>hk ⟨x,hx,e⟩;rw[xr l _ _ hn,xr l _ _ hn,xr y _ _ (fun x hx=>hn x (hy x hx))]
end Go.Proofs.YtdagdllomphidaaGreatDoor.jr
namespace Go.Proofs.YtdagdllomphidaaGreatDoor.jr
open _root_.Go.Proofs.Tryz dk wi
abbrev BM:=qB × List (Nat × Bt)
def ap (x:BM):Step→BM
 | .w k v=>(x.1,x.2++[(k.toNat,v)])
 | .f=>(qO x.1 x.2,[])
def apL (ss:List Step)(x:BM):BM:=ss.foldl ap x
def mF (n:Nat):Step→Prop
 | .w k v=>0≤k∧k<(n:Int)∧v.length=32
 | .f=>True
def mk (d:DD)(x:BM)(on:Bool)(qu:Int):DD:={ room:=d.room,base:=x.1,more:=x.2,on:=on,qu:=qu }
def less (f:Int)(n:Nat):Int:=if f=0 then 0 else f-n
theorem qvA(s:qB)(k:Nat)(h:k<s.length)(hl:(dk.look s (k:Int)).isSome=false):cnt s<s.length:=by
 have h1:=gy s k [] h;rw[hl]at h1;have h2:=qbn (s.set k (some []));rw[h1,List.length_set]at h2;simp at h2;omega
theorem qzF(x:BM)(s:Step):(ap x s).1.length=x.1.length:=by cases s <;> simp[ap,zw]
theorem step_mk(d:DD)(zS:d.on=true)(hf:0≤d.qu)(hr:(d.n:Int)≤d.room)(s:Step)(hs:mF d.n s) :
    kd d s=if d.qu=1 then(6,mk d (d.base,d.more) false 0)else(0,mk d (ap (d.base,d.more) s) true (less d.qu 1)):=by
 have hop:d.oper=if d.qu=1 then mk d (d.base,d.more) false 0 else mk d (d.base,d.more) true (less d.qu 1):=by
  unfold DD.oper less;by_cases h1:d.qu=1
  ·rw[if_pos h1,if_pos h1];rfl
  ·rw[if_neg h1,if_neg h1];by_cases h2:1<d.qu
   ·rw[if_pos h2,if_neg (by omega)];unfold mk;rw[← zS];rfl
   ·have h0:d.qu=0:=by omega
    rw[if_neg h2,if_pos h0];obtain⟨r,b,m,o,f⟩:=d;simp only at zS h0;subst zS h0;rfl
 cases s with
 | w k v =>
  obtain⟨h0,h1,h2⟩:=hs;unfold kd DD.write;dsimp only;have hh:d.has k=true:=by simp[DD.has,h0,h1]
  rw[if_neg (by rw[zS];simp),if_neg (by rw[hh];simp[h2])];have hfull:¬ ((dk.look d.now k).isSome=false∧d.room≤(d.used:Int)):=by
   rintro⟨g1,g2⟩;obtain⟨j,rfl⟩:=Int.eq_ofNat_of_zero_le h0;have:=qvA d.now j (by rw[d.yK];omega) g1;rw[d.yK]at this;unfold DD.used at g2;omega
  rw[if_neg hfull,hop];by_cases h1:d.qu=1
  ·rw[if_pos h1,if_pos h1,if_pos (by rfl)]
  ·rw[if_neg h1,if_neg h1,if_neg (by simp[mk])];rfl
 | f =>
  unfold kd DD.flush;dsimp only;rw[if_neg (by rw[zS];simp),hop];by_cases h1:d.qu=1
  ·rw[if_pos h1,if_pos h1,if_pos (by rfl)]
  ·rw[if_neg h1,if_neg h1,if_neg (by simp[mk])];rfl
theorem fB:∀(ss:List Step) (d:DD),d.on=true→0≤d.qu→(d.n:Int)≤d.room→(∀s∈ss,mF d.n s)→(d.qu=0∨(ss.length:Int)<d.qu) →
    ai ss d=(0,mk d (apL ss (d.base,d.more)) true (less d.qu ss.length))
 | [],d,zS,hf,hr,hs,h=>by
  have e:less d.qu 0=d.qu:=by unfold less;split <;> omega
  have e2:mk d (d.base,d.more) true d.qu=d:=by
   obtain⟨r,b,m,o,f⟩:=d;simp only at zS;subst zS;rfl
  show(0,d)=_;rw[List.length_nil,e];exact congrArg (Prod.mk 0) e2.symm
 | s::r,d,zS,hf,hr,hs,h=>by
  have h1:¬ d.qu=1:=by simp only[List.length_cons]at h;omega
  have hst:=step_mk d zS hf hr s (hs s (by simp));rw[if_neg h1]at hst;unfold ai;rw[hst];dsimp only;rw[if_pos rfl];have hf':0≤less d.qu 1:=by unfold less;split <;> omega
  have hfe:less d.qu 1=0∨(r.length:Int)<less d.qu 1:=by
   simp only[List.length_cons]at h;unfold less;split <;> omega
  have hn:(mk d (ap (d.base,d.more) s) true (less d.qu 1)).n=d.n:=qzF _ _;rw[fB r (mk d (ap (d.base,d.more) s) true (less d.qu 1)) rfl hf' (by rw[hn];exact hr) (fun x hx=>by rw[hn];exact hs x (by simp[hx])) hfe];have e:less (less d.qu 1) r.length=less d.qu (s::r).length:=by
   simp only[List.length_cons]at h ⊢;unfold less;split
   ·simp
   ·split <;> omega
  show(0,mk d (apL r (ap (d.base,d.more) s)) true (less (less d.qu 1) r.length))=_;rw[e];rfl
theorem oY:∀(ss:List Step) (d:DD),d.on=true→(d.n:Int)≤d.room→(∀s∈ss,mF d.n s)→1≤d.qu→d.qu≤(ss.length:Int) →
    ai ss d=(6,mk d (apL (ss.take (d.qu-1).toNat) (d.base,d.more)) false 0)
 | [],d,zS,hr,hs,h1,h=>by simp at h;omega
 | s::r,d,zS,hr,hs,h1,h=>by
  have hst:=step_mk d zS (by omega) hr s (hs s (by simp));unfold ai;rw[hst];by_cases hf:d.qu=1
  ·rw[if_pos hf];dsimp only;rw[if_neg (by decide),hf];rfl
  ·rw[if_neg hf];dsimp only;rw[if_pos rfl];have e:less d.qu 1=d.qu-1:=by unfold less;rw[if_neg (by omega)];rfl
   have hn:(mk d (ap (d.base,d.more) s) true (less d.qu 1)).n=d.n:=qzF _ _;simp only[List.length_cons]at h;have hmf:(mk d (ap (d.base,d.more) s) true (less d.qu 1)).qu=d.qu-1:=e;rw[oY r (mk d (ap (d.base,d.more) s) true (less d.qu 1)) rfl (by rw[hn];exact hr) (fun x hx=>by rw[hn];exact hs x (by simp[hx])) (by omega) (by omega)];rw[hmf];have e2:(d.qu-1).toNat=(d.qu-1-1).toNat+1:=by omega
   rw[e2,List.take_succ_cons];rfl
theorem cB (a b:List Step)(x:BM):apL (a++b) x=apL b (apL a x):=List.foldl_append
theorem qfY:∀(l:List Wr) (x:BM),apL (jZ l) x=(x.1,x.2++nat l)
 | [],x=>by simp[jZ,nat,apL]
 | w::l,x=>by
  have ih:=qfY l (ap x (.w w.1 w.2));show apL (jZ l) (ap x (.w w.1 w.2))=_;rw[ih];simp[ap,nat]
theorem qj5(l:List Wr)(m:Nat):(jZ l).take m=jZ (l.take m):=by simp[jZ,List.map_take]
theorem ak (l:List Wr):(jZ l).length=l.length:=by simp[jZ]
theorem qap(l:List Wr)(b:qB):apL (jZ l++[.f]) (b,[])=(qO b (nat l),[]):=by
 rw[cB,qfY];rfl
theorem bp:∀(bs:List (List Wr)) (b:qB),apL (qH bs) (b,[])=(qO b (nat bs.flatten),[])
 | [],b=>rfl
 | l::r,b=>by
  have h:qH (l::r)=(jZ l++[.f])++qH r:=by simp[qH]
  rw[h,cB,qap,bp r];rw[List.flatten_cons,show nat (l++r.flatten)=nat l++nat r.flatten from List.map_append,jB]
theorem oZ:∀(bs:List (List Wr)) (m:Nat) (b:qB),m≤(qH bs).length →
    ∃(pre:List (List Wr)) (l post:_) (j:Nat),bs=pre++l++post∧(l=[]∨∃y,l=[y])∧apL ((qH bs).take m) (b,[])=(qO b (nat pre.flatten),nat (l.flatten.take j))
 | [],m,b,h=>⟨[],[],[],0,rfl,.inl rfl,by simp[qH,apL,nat,qO]⟩
 | x::r,m,b,h=>by
  have hs:qH (x::r)=(jZ x++[.f])++qH r:=by simp[qH]
  by_cases hm:m≤x.length
  ·refine⟨[],[x],r,m,by simp,.inr ⟨x,rfl⟩,?_⟩;rw[hs,List.take_append_of_le_length (by simp[ak];omega),List.take_append_of_le_length (by rw[ak];exact hm),qj5,qfY];simp[nat,qO]
  ·have hl:(jZ x++[Step.f]).length=x.length+1:=by simp[ak]
   have e:(qH (x::r)).take m=(jZ x++[.f])++(qH r).take (m-(x.length+1)):=by
    rw[hs,List.take_append,hl,List.take_of_length_le (by rw[hl];omega)]
   rw[hs,List.length_append,hl]at h;obtain⟨pre,l,post,j,h1,h2,h3⟩:=oZ r (m-(x.length+1)) (qO b (nat x)) (by omega);refine⟨x::pre,l,post,j,by simp[h1],h2,?_⟩;rw[e,cB,qap,h3];rw[List.flatten_cons,show nat (x++pre.flatten)=nat x++nat pre.flatten from List.map_append,jB]
def vG (N:Nat)(b:qB)(a c:Nat)(l:List Wr):Prop:=(c=0∧l=[])∨(c≠0∧aj b a c=some l∧vU N l=true)
def RB (N:Nat)(tgt:Int→Bt)(b:qB):Prop :=
 b.length=N∧(∀v,some v∈b→v.length=32)∧∃a c l,dD (rd b 0)=some (a,c)∧vG N b a c l∧∀k,145≤k→rd (qO b (nat l)) k=tgt k
def JB (N:Nat)(tgt:Int→Bt)(b:qB):Prop:=RB N tgt b∧∀k,145≤k→rd b k=tgt k
structure RJ(N:Nat)(tgt:Int→Bt)(d:DD):Prop where
 on:d.on=true
 more:d.more=[]
 room:(N:Int)≤d.room
 rb:RB N tgt d.base
structure JJ(N:Nat)(tgt:Int→Bt)(d:DD):Prop extends RJ N tgt d where
 is:∀k,145≤k→rd d.base k=tgt k
theorem aq {N:Nat}{l:List Wr}(h:vU N l=true):∀x∈l,145≤x.1∧x.1<(N:Int)∧x.2.length=32:=by
 intro x hx;unfold vU at h;simp only[Bool.and_eq_true]at h;have:=List.all_eq_true.1 h.1 x hx;simpa[okW,and_assoc]using this
theorem jD (l:List (Nat × Bt))(s:qB)(k:Int)(h:∀x∈l,(x.1:Int)≠k):rd (qO s l) k=rd s k:=by
 unfold rd;rw[xr l s k h]
theorem gB {l:List Wr}{x:Nat × Bt}(h:x∈nat l):∃y∈l,x=(y.1.toNat,y.2):=by
 obtain⟨y,hy,rfl⟩:=List.mem_map.1 h;exact⟨y,hy,rfl⟩
theorem qne{N:Nat}{l:List Wr}(h:∀x∈l,145≤x.1∧x.1<(N:Int)∧x.2.length=32):∀x∈nat l,145≤x.1∧x.1<N∧x.2.length=32:=by
 intro x hx;obtain⟨y,hy,rfl⟩:=gB hx;have:=h y hy;exact⟨by dsimp only;omega,by dsimp only;omega,this.2.2⟩
theorem tu {s s':qB}{a c:Nat}(h:∀i,i<c→rd s ((1+a*72+i:Nat):Int)=rd s' ((1+a*72+i:Nat):Int)):zY s a c=zY s' a c :=
 List.map_congr_left fun i hi=>h i (List.mem_range.1 hi)
theorem qdr{s s':qB}{a c:Nat}(h:∀i,i<c→rd s ((1+a*72+i:Nat):Int)=rd s' ((1+a*72+i:Nat):Int)):aj s a c=aj s' a c:=by
 unfold aj;rw[tu h]
theorem fC {N:Nat}{b:qB}{a c:Nat}{l:List Wr}(h:vG N b a c l):∀x∈l,145≤x.1∧x.1<(N:Int)∧x.2.length=32:=by
 rcases h with⟨_,rfl⟩|⟨_,_,h⟩
 ·intro x hx;cases hx
 ·exact aq h
theorem fD {N:Nat}{b:qB}{a c:Nat}{l:List Wr}(h:vG N b a c l)(y:List (Nat × Bt))(hy:∀x∈y,∀i,i<c→x.1≠1+a*72+i):vG N (qO b y) a c l:=by
 rcases h with h|⟨h1,h2,h3⟩
 ·exact .inl h
 ·refine .inr ⟨h1,?_,h3⟩;rw[← h2];exact qdr fun i hi=>jD _ _ _ fun x hx=>by have:=hy x hx i hi;omega
theorem RB.part{N:Nat}{tgt:Int→Bt}{b:qB}(h1:b.length=N)(h2:∀v,some v∈b→v.length=32){a c:Nat}{l:List Wr}(hh:dD (rd b 0)=some (a,c))(hg:vG N b a c l)(ht:∀k,145≤k→rd (qO b (nat l)) k=tgt k)
    (y:List (Nat × Bt)) (hy:∀x∈y,x∈nat l):RB N tgt (qO b y):=by
 have hp:=qne (fC hg);obtain⟨ha,hc,_⟩:=uv hh;refine⟨by rw[zw];exact h1,wA h2 (fun x hx=>(hp x (hy x hx)).2.2),a,c,l,?_,fD hg y (fun x hx i hi=>?_),fun k hk=>?_⟩
 ·rw[jD _ _ _ (fun x hx=>?_)]
  ·exact hh
  ·have:=hp x (hy x hx);omega
 ·have:=hp x (hy x hx);have:a*72≤72:=by omega
  omega
 ·rw[← ht k hk];unfold rd;rw[qj3 (nat l) y b k hy (fun x hx=>by have:=hp x hx;omega)]
theorem RB.whole{N:Nat}{tgt:Int→Bt}{b:qB}(h1:b.length=N)(h2:∀v,some v∈b→v.length=32){a c:Nat}{l:List Wr}(hh:dD (rd b 0)=some (a,c))(hg:vG N b a c l)(ht:∀k,145≤k→rd (qO b (nat l)) k=tgt k):JB N tgt (qO b (nat l)) :=
 ⟨RB.part h1 h2 hh hg ht (nat l) (fun _ h=>h),ht⟩
theorem qrh{N:Nat}{l:List Wr}(h:∀x∈l,0≤x.1∧x.1<(N:Int)∧x.2.length=32):∀s∈jZ l,mF N s:=by
 intro s hs;obtain⟨x,hx,rfl⟩:=List.mem_map.1 hs;exact h x hx
theorem gC {N:Nat}:∀ {bs:List (List Wr)},(∀l∈bs,∀x∈l,0≤x.1∧x.1<(N:Int)∧x.2.length=32)→∀s∈qH bs,mF N s
 | [],_,s,hs=>by cases hs
 | l::r,h,s,hs=>by
  have e:qH (l::r)=jZ l++(.f::qH r):=rfl;rw[e,List.mem_append,List.mem_cons]at hs;rcases hs with hs|rfl|hs
  ·exact qrh (h l (by simp)) s hs
  ·trivial
  ·exact gC (fun l hl=>h l (by simp[hl])) s hs
theorem qhX(d:DD)(x:BM)(f:Int)(keep:List Bool):(mk d x false f).sZ keep=mk d (qO x.1 (stay x.2 keep),[]) true f:=rfl
def qvB (P:DD→Prop)(d:DD):Prop:=d.on=false∧∀keep,P (d.sZ keep)
theorem qds{N:Nat}{tgt:Int→Bt}{d:DD}(h:RJ N tgt d)(hf:0≤d.qu) :
    ((xm d).1=0∧JJ N tgt (xm d).2∧(d.qu=0→(xm d).2.qu=0)∧0≤(xm d).2.qu)∨((xm d).1=6∧qvB (RJ N tgt) (xm d).2∧d.qu≠0∧(xm d).2.qu=0):=by
 obtain⟨zS,hmo,hro,h1,h2,a,c,l,hh,hg,ht⟩:=h;have qnf:d.now=d.base:=by unfold DD.now;rw[hmo];rfl
 have hn:d.n=N:=h1;unfold xm;rw[if_neg (by rw[zS];simp),qnf,hh];dsimp only;by_cases hc:c=0
 ·rw[if_pos hc]
  left
  refine⟨rfl,⟨⟨zS,hmo,hro,h1,h2,a,c,l,hh,hg,ht⟩,fun k hk=>?_⟩,fun h=>h,hf⟩;rcases hg with⟨_,rfl⟩|⟨h',_⟩
  ·exact ht k hk
  ·exact absurd hc h'
 ·rw[if_neg hc];rcases hg with⟨h',_⟩|⟨_,hr,hp⟩
  ·exact absurd h' hc
  have hg':vG N d.base a c l:=.inr ⟨hc,hr,hp⟩;rw[hr];dsimp only;rw[hn,if_neg (by rw[hp];simp)];have hgs:∀s∈qH [l],mF d.n s:=by
   rw[hn];refine gC fun m hm x hx=>?_;obtain rfl:m=l:=by simpa using hm
   have:=aq hp x hx;exact⟨by omega,this.2⟩
  by_cases hfu:d.qu=0∨((qH [l]).length:Int)<d.qu
  ·left
   rw[fB _ d zS hf (by rw[hn];exact hro) hgs hfu,hmo,bp];have hw:=RB.whole h1 h2 hh hg' ht;refine⟨rfl,⟨⟨rfl,rfl,hro,?_⟩,?_⟩,fun h0=>?_,?_⟩
   ·show RB N tgt (qO d.base (nat [l].flatten));simpa using hw.1
   ·show ∀k,145≤k→rd (qO d.base (nat [l].flatten)) k=tgt k;simpa using hw.2
   ·show less d.qu _=0;unfold less;rw[if_pos h0]
   ·show 0≤less d.qu _;unfold less;split <;> omega
  ·right
   have h0:d.qu≠0:=fun h=>hfu (.inl h);rw[oY _ d zS (by rw[hn];exact hro) hgs (by omega) (by omega),hmo];obtain⟨pre,q,post,j,e1,e2,e3⟩:=oZ [l] (d.qu-1).toNat d.base (by omega);rw[e3];refine⟨rfl,⟨rfl,fun keep=>?_⟩,h0,rfl⟩;rw[qhX];have key:∃y,(∀x∈y,x∈nat l)∧qO (qO d.base (nat pre.flatten)) (stay (nat (q.flatten.take j)) keep)=qO d.base y:=by
    refine⟨nat pre.flatten++stay (nat (q.flatten.take j)) keep,fun x hx=>?_,by rw[jB]⟩;have qdt:∀z∈pre.flatten++q.flatten,z∈l:=by
     intro z hz;have:z∈[l].flatten:=by rw[e1,List.flatten_append,List.flatten_append];exact List.mem_append_left _ hz
     simpa using this
    rcases List.mem_append.1 hx with hx|hx
    ·obtain⟨z,hz,rfl⟩:=gB hx;exact List.mem_map.2 ⟨z,qdt z (List.mem_append_left _ hz),rfl⟩
    ·obtain⟨z,hz,rfl⟩:=gB (fh _ _ _ hx);exact List.mem_map.2 ⟨z,qdt z (List.mem_append_right _ (List.mem_of_mem_take hz)),rfl⟩
   obtain⟨y,hy,e4⟩:=key;refine⟨rfl,rfl,hro,?_⟩;show RB N tgt (qO (qO d.base (nat pre.flatten)) (stay (nat (q.flatten.take j)) keep));rw[e4];exact RB.part h1 h2 hh hg' ht y hy
def over:(Int→Bt)→List Wr→Int→Bt
 | t,[]=>t
 | t,x::r=>over (fun k=>if k=x.1 then x.2 else t k) r
theorem gD:∀(l:List Wr) (t u:Int→Bt),(∀k,145≤k→t k=u k)→∀k,145≤k→over t l k=over u l k
 | [],_,_,h=>h
 | x::l,t,u,h=>gD l _ _ fun k hk=>by
  split
  ·rfl
  ·exact h k hk
theorem nL:∀(l:List Wr) (b:qB),(∀x∈l,0≤x.1∧x.1<(b.length:Int))→∀k,rd (qO b (nat l)) k=over (rd b) l k
 | [],_,_,_=>rfl
 | x::l,b,h,k=>by
  obtain⟨h0,h1⟩:=h x (by simp);have ih:=nL l (dk.put b x.1.toNat x.2) (fun y hy=>by rw[dk.put,List.length_set];exact h y (by simp[hy])) k;have e:qO b (nat (x::l))=qO (dk.put b x.1.toNat x.2) (nat l):=rfl;rw[e,ih];have e2:rd (dk.put b x.1.toNat x.2)=fun k=>if k=x.1 then x.2 else rd b k:=by
   funext j
   obtain⟨n,hn⟩:=Int.eq_ofNat_of_zero_le h0;unfold rd dk.put;by_cases hj:j=x.1
   ·rw[if_pos hj,hj,hn,Int.toNat_natCast,zL _ _ _ (by omega)];rfl
   ·rw[if_neg hj,xa _ _ _ _ (by omega)]
  rw[e2];rfl
theorem yN (n:Nat)(h:n<65536):(zx n).length≤3:=by
 have e:zK n=xu 2 n:=by
  unfold zK;rw[yG 7 n (by omega),yG 6 n (by omega),yG 5 n (by omega),yG 4 n (by omega),yG 3 n (by omega),yG 2 n (by omega)]
 have:=iO 2 n;simp[zx,e];omega
theorem qng(x:Wr)(h:x.2.length=32)(h0:x.1<65536):(wB x).length≤37:=by
 have h1:=yN x.1.toNat (by omega);have h2:(zx 32).length=2:=by decide
 simp only[wB,mf,List.length_append,h,h2];omega
theorem gF (l:List Wr)(h60:l.length≤60)(h:∀x∈l,x.1<65536∧x.2.length=32):(zj l).length≤2223:=by
 have key:∀l:List Wr,(∀x∈l,x.1<65536∧x.2.length=32)→((l.map wB).flatten).length≤37*l.length:=by
  intro l
  induction l with
  | nil=>intro _;simp
  | cons x l ih =>
   intro h;have:=qng x (h x (by simp)).2 (h x (by simp)).1;have:=ih (fun y hy=>h y (by simp[hy]));simp only[List.map_cons,List.flatten_cons,List.length_append,List.length_cons];omega
 have h1:=key l h;have h2:=yN l.length (by omega);simp only[zj,List.length_append];omega
theorem cE (l:List Wr)(h60:l.length≤60)(h:∀x∈l,x.1<65536∧x.2.length=32):1≤(qP (zj l)).length∧(qP (zj l)).length≤72:=by
 have:=gF l h60 h;have:=fz (zj l).length;rw[yb];refine⟨this,?_⟩;unfold nsec;omega
theorem jE:∀(ss:List Bt) (o:Nat) (x:Wr),x∈zk o ss→∃i,i<ss.length∧x.1=((o+i:Nat):Int)∧ss[i]?=some x.2
 | [],_,_,h=>by cases h
 | s::r,o,x,h=>by
  rcases List.mem_cons.1 h with rfl|h
  ·exact⟨0,by simp,by simp,rfl⟩
  ·obtain⟨i,h1,h2,h3⟩:=jE r (o+1) x h;exact⟨i+1,by simpa using h1,by rw[h2];omega,by simpa using h3⟩
theorem p7:∀(ss:List Bt) (o:Nat) (b:qB),o+ss.length≤b.length→∀i (h:i<ss.length),dk.look (qO b (nat (zk o ss))) ((o+i:Nat):Int)=some ss[i]
 | [],_,_,_,i,h=>absurd h (by simp)
 | s::r,o,b,hb,i,h=>by
  simp only[List.length_cons]at hb h;have e:qO b (nat (zk o (s::r)))=qO (dk.put b o s) (nat (zk (o+1) r)):=by
   show qO (dk.put b (o:Int).toNat s) _=_;rw[Int.toNat_natCast];rfl
  rw[e];cases i with
  | zero =>
   rw[xr _ _ _ (fun x hx=>?_)]
   ·unfold dk.put;rw[Nat.add_zero,zL _ _ _ (by omega)];rfl
   ·obtain⟨y,hy,rfl⟩:=gB hx;obtain⟨i,_,h2,_⟩:=jE r (o+1) y hy;dsimp only;omega
  | succ i =>
   have:=p7 r (o+1) (dk.put b o s) (by rw[dk.put,List.length_set];omega) i (by omega);rw[show o+(i+1)=o+1+i from by omega,this];rfl
theorem zg:∀(ss:List Bt) (o:Nat),(zk o ss).length=ss.length
 | [],_=>rfl
 | s::r,o=>by simp[zk,zg r]
theorem cG:∀(ss:List Bt) (o:Nat) (s:Bt),zk o (ss++[s])=zk o ss++[(((o+ss.length:Nat):Int),s)]
 | [],o,s=>by simp[zk]
 | t::r,o,s=>by
  have:=cG r (o+1) s;simp only[List.cons_append,zk,this,List.length_cons];rw[show o+1+r.length=o+(r.length+1)from by omega]
theorem p8 (s:qB):∀(l acc:List Int),acc.Nodup→(∀x∈acc,0≤x∧x<(s.length:Int)∧(dk.look s x).isSome=false)→(∀x∈l,0≤x∧x<(s.length:Int)) →
    (fresh s acc l).Nodup∧∀x∈fresh s acc l,0≤x∧x<(s.length:Int)∧(dk.look s x).isSome=false
 | [],acc,h1,h2,_=>⟨h1,h2⟩
 | x::r,acc,h1,h2,h3=>by
  unfold fresh;split
  ·exact p8 s r acc h1 h2 (fun y hy=>h3 y (by simp[hy]))
  ·rename_i hn;simp only[Bool.or_eq_true,not_or,List.contains_iff_mem]at hn;refine p8 s r (acc++[x]) ?_ (fun y hy=>?_) (fun y hy=>h3 y (by simp[hy]))
   ·rw[List.nodup_append];refine⟨h1,by simp,fun a ha b hb=>?_⟩;obtain rfl:b=x:=by simpa using hb
    rintro rfl;exact hn.2 ha
   ·rcases List.mem_append.1 hy with hy|hy
    ·exact h2 y hy
    ·obtain rfl:y=x:=by simpa using hy
     have:=h3 y (by simp);exact⟨this.1,this.2,by simpa using hn.1⟩
theorem qaq:∀(acc:List Int) (s:qB),acc.Nodup→(∀x∈acc,0≤x∧x<(s.length:Int)∧(dk.look s x).isSome=false)→cnt s+acc.length≤s.length
 | [],s,_,_=>qbn s
 | x::r,s,h1,h2=>by
  obtain⟨g0,g1,g2⟩:=h2 x (by simp);obtain⟨n,rfl⟩:=Int.eq_ofNat_of_zero_le g0;rw[List.nodup_cons]at h1;have hc:=gy s n [] (by omega);rw[g2]at hc;simp only[Bool.false_eq_true,if_false]at hc;have ih:=qaq r (s.set n (some [])) h1.2 (fun y hy=>by
   obtain⟨k0,k1,k2⟩:=h2 y (by simp[hy]);refine⟨k0,by rw[List.length_set];exact k1,?_⟩;rw[xa _ _ _ _ (fun e=>h1.1 (by rw[← e];exact hy))];exact k2)
  rw[List.length_set,hc]at ih;simp only[List.length_cons];omega
theorem qj7(d:DD)(l:List Int)(hr:(d.n:Int)≤d.room)(hl:∀x∈l,0≤x∧x<(d.n:Int)):d.fits l=true:=by
 have hn:=d.yK;obtain⟨h1,h2⟩:=p8 d.now l [] List.nodup_nil (by simp) (fun x hx=>by rw[hn];exact hl x hx);have h3:=qaq _ _ h1 h2;unfold DD.fits DD.used;rw[Bool.and_eq_true,Bool.or_eq_true];refine⟨List.all_eq_true.2 fun x hx=>?_,.inr ?_⟩
 ·have:=hl x hx;simp[DD.has,this.1,this.2]
 ·rw[decide_eq_true_eq];rw[hn]at h3;omega
def p9 (N:Nat)(l:List Wr):Int:=if l.length=0 then 0 else if 60<l.length then 3 else if vU N l=false then 2 else 0
theorem qj8{N:Nat}{l:List Wr}(h:p9 N l=0)(h0:l.length≠0):l.length≤60∧vU N l=true:=by
 unfold p9 at h;rw[if_neg h0]at h;by_cases h1:60<l.length
 ·rw[if_pos h1]at h;cases h
 ·rw[if_neg h1]at h;by_cases h2:vU N l=false
  ·rw[if_pos h2]at h;cases h
  ·exact⟨by omega,by simpa using h2⟩
theorem qfZ{d:DD}{l:List Wr}(zS:d.on=true)(h:p9 d.n l≠0∨l.length=0):xf d l=(p9 d.n l,d):=by
 unfold xf;rw[if_neg (by rw[zS];simp)];by_cases h0:l.length=0
 ·rw[if_pos h0];unfold p9;rw[if_pos h0]
 ·rw[if_neg h0];rcases h with h|h
  ·unfold p9 at h ⊢;rw[if_neg h0]at h ⊢;by_cases h1:60<l.length
   ·rw[if_pos h1,if_pos h1]
   ·rw[if_neg h1]at h;rw[if_neg h1,if_neg h1];by_cases h2:vU d.n l=false
    ·rw[if_pos h2,if_pos h2]
    ·rw[if_neg h2]at h;exact absurd rfl h
  ·exact absurd h h0
section
variable {N:Nat} {tgt:Int→Bt} {b:qB} {l:List Wr}
theorem qri(hN:145<N)(mG:N≤1024)(h1:b.length=N)(h2:∀v,some v∈b→v.length=32)(a:Nat)(ha:a<2)(h60:l.length≤60)(h0:1≤l.length)(hp:vU N l=true) :
    ∃b2,b2=qO b (nat (lay (1-a) (qP (zj l))++[(0,kW (1-a) (qP (zj l)).length)]))∧b2.length=N∧(∀v,some v∈b2→v.length=32) ∧
     dD (rd b2 0)=some (1-a,(qP (zj l)).length)∧vG N b2 (1-a) (qP (zj l)).length l∧∀k,145≤k→rd (qO b2 (nat l)) k=over (rd b) l k:=by
 have hall:=aq hp;have hsm:∀x∈l,x.1<65536∧x.2.length=32:=fun x hx=>by have:=hall x hx;exact⟨by omega,this.2.2⟩
 obtain⟨s1,s72⟩:=cE l h60 hsm;have qzH:=gF l h60 hsm;obtain⟨f1,f2,_⟩:=uP (show 1-a<2 by omega) s72;have qrj:∀x∈nat (lay (1-a) (qP (zj l))),∃i,i<(qP (zj l)).length∧x.1=1+(1-a)*72+i∧x.2.length=32:=by
  intro x hx;obtain⟨y,hy,rfl⟩:=gB hx;obtain⟨i,g1,g2,g3⟩:=jE _ _ _ hy;refine⟨i,g1,by dsimp only;omega,?_⟩;have:=bn (zj l) i g1;rw[List.getElem?_eq_getElem g1]at g3;injection g3 with g3
  rw[← g3];exact this
 have e:nat (lay (1-a) (qP (zj l))++[(0,kW (1-a) (qP (zj l)).length)])=nat (lay (1-a) (qP (zj l)))++[(0,kW (1-a) (qP (zj l)).length)]:=by simp[nat]
 have xP:∀x∈nat (lay (1-a) (qP (zj l))++[(0,kW (1-a) (qP (zj l)).length)]),x.1<145∧x.2.length=32:=by
  rw[e];intro x hx;rcases List.mem_append.1 hx with hx|hx
  ·obtain⟨i,g1,g2,g3⟩:=qrj x hx;have:(1-a)*72≤72:=by omega
   exact⟨by omega,g3⟩
  ·obtain rfl:x=_:=by simpa using hx
   exact⟨by dsimp only;omega,f1⟩
 have hlen:(qO b (nat (lay (1-a) (qP (zj l))))).length=N:=by rw[zw];exact h1
 have hb2:(qO b (nat (lay (1-a) (qP (zj l))++[(0,kW (1-a) (qP (zj l)).length)]))).length=N:=by rw[zw];exact h1
 refine⟨_,rfl,hb2,wA h2 (fun x hx=>(xP x hx).2),?_,.inr ⟨by omega,?_,hp⟩,fun k hk=>?_⟩
 ·rw[e,wy];unfold rd dk.put;rw[show((0:Int))=((0:Nat):Int)from rfl,zL _ _ _ (by omega)];exact f2
 ·have hs:zY (qO b (nat (lay (1-a) (qP (zj l))++[(0,kW (1-a) (qP (zj l)).length)]))) (1-a) (qP (zj l)).length=qP (zj l):=by
     refine List.ext_getElem (by simp[zY]) fun i g1 g2=>?_;simp only[zY,List.getElem_map,List.getElem_range];rw[e,wy];unfold rd dk.put;rw[xa _ _ _ _ (by omega)]
     have:=p7 (qP (zj l)) (1+(1-a)*72) b (by have:(1-a)*72≤72:=by omega
                                             omega) i g2
     unfold lay;rw[this];rfl
  unfold aj;rw[hs,qnc _ (by omega)];exact qj1 l h0 h60 (fun x hx=>by have:=hall x hx;exact⟨by omega,by omega,this.2.2⟩)
 ·rw[nL l _ (fun x hx=>by have:=hall x hx;rw[hb2];exact⟨by omega,this.2.1⟩)];exact gD l _ _ (fun j hj=>jD _ _ _ fun x hx=>by have:=(xP x hx).1;omega) k hk
theorem pj {d:DD}(hN:145<N)(mG:N≤1024)(h:JJ N tgt d)(hf:0≤d.qu)(qzI:p9 N l=0) :
    ((xf d l).1=0∧JJ N (over tgt l) (xf d l).2∧(d.qu=0→(xf d l).2.qu=0)∧0≤(xf d l).2.qu) ∨
    ((xf d l).1=6∧qvB (fun e=>RJ N tgt e∨RJ N (over tgt l) e) (xf d l).2∧d.qu≠0∧(xf d l).2.qu=0):=by
 have hJ:=h;obtain⟨⟨zS,hmo,hro,h1,h2,a,c,l0,hh,hg,ht⟩,his⟩:=h;have qnf:d.now=d.base:=by unfold DD.now;rw[hmo];rfl
 have hn:d.n=N:=h1;by_cases h0:l.length=0
 ·left
  have e:=qfZ (l:=l) zS (.inr h0);rw[hn,qzI]at e;rw[e];obtain rfl:l=[]:=List.length_eq_zero_iff.1 h0;exact⟨rfl,hJ,fun h=>h,hf⟩
 obtain⟨h60,hp⟩:=qj8 qzI h0;have hall:=aq hp;have hsm:∀x∈l,x.1<65536∧x.2.length=32:=fun x hx=>by have:=hall x hx;exact⟨by omega,this.2.2⟩
 obtain⟨s1,s72⟩:=cE l h60 hsm;have qzH:=gF l h60 hsm;obtain⟨ha,hc,_⟩:=uv hh;obtain⟨f1,_,_⟩:=uP (show 1-a<2 by omega) s72;obtain⟨b2,e2,q1,q2,q3,q4,q5⟩:=qri hN mG h1 h2 a ha h60 (by omega) hp;have hov:∀k,145≤k→over (rd d.base) l k=over tgt l k:=gD l _ _ his;have hgw:∀m∈yT a l,∀x∈m,0≤x.1∧x.1<(N:Int)∧x.2.length=32:=by
  intro m hm x hx;unfold yT at hm;simp only[List.mem_cons,List.not_mem_nil,or_false]at hm;rcases hm with rfl|rfl|rfl
  ·obtain⟨i,g1,g2,g3⟩:=jE _ _ _ hx;have:=bn (zj l) i g1;rw[List.getElem?_eq_getElem g1]at g3;injection g3 with g3
   have:(1-a)*72≤72:=by omega
   exact⟨by omega,by omega,by rw[← g3];assumption⟩
  ·obtain rfl:x=_:=by simpa using hx
   exact⟨by dsimp only;omega,by dsimp only;omega,f1⟩
  ·have:=hall x hx;exact⟨by omega,this.2⟩
 have qnh:d.fits (placesOf (yT a l))=true:=by
  refine qj7 d _ (by rw[hn];exact hro) fun x hx=>?_;obtain⟨y,hy,rfl⟩:=List.mem_map.1 hx;obtain⟨m,hm,hy⟩:=List.mem_flatten.1 hy;have:=hgw m hm y hy;rw[hn];exact⟨this.1,this.2.1⟩
 have e:xf d l=ai (qH (yT a l)) d:=by
  unfold xf;rw[if_neg (by rw[zS];simp),if_neg h0,if_neg (by omega),hn,if_neg (by rw[hp];simp),qnf,hh];dsimp only;rw[if_neg (by omega),if_neg (by rw[qnh];simp)]
 rw[e];have hgs:∀s∈qH (yT a l),mF d.n s:=by rw[hn];exact gC hgw
 have qzL:nat (yT a l).flatten=nat (lay (1-a) (qP (zj l))++[(0,kW (1-a) (qP (zj l)).length)])++nat l:=by
  simp[yT,nat]
 by_cases hfu:d.qu=0∨((qH (yT a l)).length:Int)<d.qu
 ·left
  rw[fB _ d zS hf (by rw[hn];exact hro) hgs hfu,hmo,bp,qzL,jB,← e2];have hw:=RB.whole (tgt:=over tgt l) q1 q2 q3 q4 (fun k hk=>by rw[q5 k hk];exact hov k hk);refine⟨rfl,⟨⟨rfl,rfl,hro,hw.1⟩,hw.2⟩,fun h0=>?_,?_⟩
  ·show less d.qu _=0;unfold less;rw[if_pos h0]
  ·show 0≤less d.qu _;unfold less;split <;> omega
 ·right
  have hf0:d.qu≠0:=fun h=>hfu (.inl h);rw[oY _ d zS (by rw[hn];exact hro) hgs (by omega) (by omega),hmo];obtain⟨pre,q,post,j,e1,hq,e3⟩:=oZ (yT a l) (d.qu-1).toNat d.base (by omega);rw[e3];refine⟨rfl,⟨rfl,fun keep=>?_⟩,hf0,rfl⟩;rw[qhX];have old:∀y:List (Nat × Bt),(∀x∈y,x∈nat (lay (1-a) (qP (zj l))))→RJ N tgt (mk d (qO d.base y,[]) true 0):=by
   intro y hy;have hk:∀x∈y,∃i,i<(qP (zj l)).length∧x.1=1+(1-a)*72+i∧x.2.length=32:=by
    intro x hx;obtain⟨z,hz,rfl⟩:=gB (hy x hx);obtain⟨i,g1,g2,g3⟩:=jE _ _ _ hz;have:=bn (zj l) i g1;rw[List.getElem?_eq_getElem g1]at g3;injection g3 with g3
    exact⟨i,g1,by dsimp only;omega,by rw[← g3];assumption⟩
   refine⟨rfl,rfl,hro,by rw[← h1];exact zw _ _,wA h2 (fun x hx=>(hk x hx).choose_spec.2.2),a,c,l0,?_,fD hg y (fun x hx i hi=>?_),fun k vB=>?_⟩
   ·show dD (rd (qO d.base y) 0)=_;rw[jD _ _ _ (fun x hx=>?_)]
    ·exact hh
    ·obtain⟨i,_,g2,_⟩:=hk x hx;omega
   ·obtain⟨i',g1,g2,_⟩:=hk x hx;have:a=0∨a=1:=by omega
    rcases this with rfl|rfl <;> omega
   ·rw[← ht k vB];show rd (qO (qO d.base y) (nat l0)) k=_;have hin:∀x∈l0,0≤x.1∧x.1<(d.base.length:Int):=fun x hx=>by have:=fC hg x hx;rw[h1];exact⟨by omega,this.2.1⟩
    rw[nL l0 _ (fun x hx=>by rw[zw];exact hin x hx),nL l0 _ hin];refine gD l0 _ _ (fun m hm=>jD _ _ _ fun x hx=>?_) k vB;obtain⟨i,g1,g2,_⟩:=hk x hx;have:(1-a)*72≤72:=by omega
    omega
  have new:∀y:List (Nat × Bt),(∀x∈y,x∈nat l)→RJ N (over tgt l) (mk d (qO b2 y,[]) true 0):=fun y hy =>
   ⟨rfl,rfl,hro,RB.part (tgt:=over tgt l) q1 q2 q3 q4 (fun k hk=>by rw[q5 k hk];exact hov k hk) y hy⟩
  have qdt:∀(m:List Wr) (x:Nat × Bt),x∈stay (nat (m.take j)) keep→x∈nat m:=fun m x hx=>by
   obtain⟨z,hz,rfl⟩:=gB (fh _ _ _ hx);exact List.mem_map.2 ⟨z,List.mem_of_mem_take hz,rfl⟩
  have hnil:∀q:List (List Wr),q=[]→stay (nat (q.flatten.take j)) keep=[]:=fun q hq=>by subst hq;simp[nat,stay]
  show RJ N tgt (mk d (qO (qO d.base (nat pre.flatten)) (stay (nat (q.flatten.take j)) keep),[]) true 0)∨RJ N (over tgt l) (mk d (qO (qO d.base (nat pre.flatten)) (stay (nat (q.flatten.take j)) keep),[]) true 0);unfold yT at e1
  match pre,e1 with
  | [],e1 =>
   left
   have hq':q=[]∨q=[lay (1-a) (qP (zj l))]:=by
    rcases hq with hq|⟨y,rfl⟩
    ·exact .inl hq
    ·simp at e1;exact .inr (by rw[e1.1])
   refine old _ fun x hx=>?_;rcases hq' with rfl|rfl
   ·rw[hnil [] rfl]at hx;cases hx
   ·have:=qdt _ x hx;simpa using this
  | [p1],e1 =>
   have hp1:p1=lay (1-a) (qP (zj l)):=by simp at e1;exact e1.1.symm
   subst hp1;have hq':q=[]∨q=[[(0,kW (1-a) (qP (zj l)).length)]]:=by
    rcases hq with hq|⟨y,rfl⟩
    ·exact .inl hq
    ·simp at e1;exact .inr (by rw[e1.1])
   have hst:stay (nat (q.flatten.take j)) keep=[]∨stay (nat (q.flatten.take j)) keep=nat [(0,kW (1-a) (qP (zj l)).length)]:=by
    rcases hq' with rfl|rfl
    ·exact .inl (hnil [] rfl)
    ·match j with
     | 0=>exact .inl (by simp[nat,stay])
     | j+1 =>
      match keep with
      | []=>exact .inl (qdb _)
      | true::_=>exact .inr (by simp[nat,stay])
      | false::_=>exact .inl (by simp[nat,stay])
   rcases hst with hst|hst
   ·left
    rw[hst];have:=old (nat (lay (1-a) (qP (zj l)))) (fun x hx=>hx);simpa[qO]using this
   ·right
    rw[hst];have:=new [] (fun x hx=>by cases hx);rw[e2,show nat (lay (1-a) (qP (zj l))++[(0,kW (1-a) (qP (zj l)).length)])=nat (lay (1-a) (qP (zj l)))++nat [(0,kW (1-a) (qP (zj l)).length)]from List.map_append,jB]at this;simpa[qO]using this
  | [p1,p2],e1 =>
   right
   have hp1:p1=lay (1-a) (qP (zj l))∧p2=[(0,kW (1-a) (qP (zj l)).length)]:=by simp at e1;exact⟨e1.1.symm,e1.2.1.symm⟩
   obtain⟨rfl,rfl⟩:=hp1;have hq':q=[]∨q=[l]:=by
    rcases hq with hq|⟨y,rfl⟩
    ·exact .inl hq
    ·simp at e1;exact .inr (by rw[e1.1])
   have e5:qO d.base (nat [lay (1-a) (qP (zj l)),[(0,kW (1-a) (qP (zj l)).length)]].flatten)=b2:=by rw[e2];simp
   rw[e5];refine new _ fun x hx=>?_;rcases hq' with rfl|rfl
   ·rw[hnil [] rfl]at hx;cases hx
   ·have:=qdt _ x hx;simpa using this
  | [p1,p2,p3],e1 =>
   right
   have hp1:p1=lay (1-a) (qP (zj l))∧p2=[(0,kW (1-a) (qP (zj l)).length)]∧p3=l∧q=[]:=by
    simp at e1;exact⟨e1.1.symm,e1.2.1.symm,e1.2.2.1.symm,e1.2.2.2.1⟩
   obtain⟨rfl,rfl,rfl,rfl⟩:=hp1;rw[hnil [] rfl];have e5:qO d.base (nat [lay (1-a) (qP (zj p3)),[(0,kW (1-a) (qP (zj p3)).length)],p3].flatten)=qO b2 (nat p3):=by rw[e2,← jB];simp[nat]
   rw[e5];have:=new (nat p3) (fun x hx=>hx);simpa[qO]using this
  | p1::p2::p3::p4::r,e1=>simp at e1
end
end Go.Proofs.YtdagdllomphidaaGreatDoor.jr
namespace Go.Proofs.YtdagdllomphidaaGreatDoor.sp
open _root_.Go.Proofs.Tryz Go Go.RowKit
def bump (cs:List Int)(k:Nat):List Int:=cs.set k (wrap64 (cs.getD k 0+1))
def kZ (n:Int):List Int→List Int→Option (List Int)
 | cs,[]=>some cs
 | cs,k::r=>if k=0 then kZ n cs r else if k<193∨n≤k then none else kZ n (bump cs k.toNat) r
def yU (vu:List (List Int))(n:Int):List Int × Int :=
 if n<0∨1024<n then([],2)else match kZ n (List.replicate n.toNat 0) vu.flatten with
  | none=>([],2)
  | some cs=>(cs,0)
def qY (cs:List Int)(i:Nat):List Int:=((List.range i).filter fun j=>decide (193≤j)&&decide (cs.getD j 0=0)).map fun(j:Nat)=>(j:Int)
def yn (cs:List Int):Nat:=(qY cs cs.length).length
def jl (cs:List Int)(n:Int):List Int × Int :=
 if n<0 then([],2)else if (yn cs:Int)<n then([],7)else((qY cs cs.length).take n.toNat,0)
theorem fE (cs:List Int)(k:Nat):(bump cs k).length=cs.length:=by simp[bump]
theorem fF {n:Int}:∀ {l cs cs':List Int},kZ n cs l=some cs'→cs'.length=cs.length
 | [],cs,cs',h=>by simp only[kZ,Option.some.injEq]at h;rw[h]
 | k::r,cs,cs',h=>by
  unfold kZ at h;split at h
  ·exact fF h
  ·split at h
   ·cases h
   ·rw[fF h,fE]
theorem bq (n:Int)(cs:List Int)(k:Int)(r:List Int):kZ n cs (k::r)=if k=0 then kZ n cs r else if k<193∨n≤k then none else kZ n (bump cs k.toNat) r:=rfl
theorem vH {n:Int}:∀(a b cs:List Int),kZ n cs (a++b)=(kZ n cs a).bind fun c=>kZ n c b
 | [],b,cs=>rfl
 | k::r,b,cs=>by
  show kZ n cs (k::(r++b))=_;rw[bq,bq];split
  ·exact vH r b cs
  ·split
   ·rfl
   ·exact vH r b _
theorem qj9{n:Int}{a cs c:List Int}(h:kZ n cs a=some c)(k:Int):kZ n cs (a++[k])=if k=0 then some c else if k<193∨n≤k then none else some (bump c k.toNat):=by
 rw[vH,h];rfl
theorem qjA{n:Int}{a cs:List Int}(h:kZ n cs a=none)(b:List Int):kZ n cs (a++b)=none:=by
 rw[vH,h];rfl
theorem qga(cs:List Int):qY cs 0=[]:=rfl
theorem yV (cs:List Int)(i:Nat)(h:i≤193):qY cs i=[]:=by
 unfold qY;rw[List.map_eq_nil_iff,List.filter_eq_nil_iff];intro j hj;rw[List.mem_range]at hj;simp;omega
theorem cH (cs:List Int)(i:Nat):qY cs (i+1)=qY cs i++(if 193≤i∧cs.getD i 0=0 then[(i:Int)]else[]):=by
 unfold qY;rw[List.range_succ,List.filter_append,List.map_append]
 congr 1
 by_cases h1:193≤i
 ·by_cases h2:cs.getD i 0=0
  ·rw[if_pos ⟨h1,h2⟩,List.filter_cons_of_pos (by rw[decide_eq_true h1,decide_eq_true h2];rfl)];rfl
  ·rw[if_neg (fun h=>h2 h.2),List.filter_cons_of_neg (by rw[decide_eq_false h2,Bool.and_false];decide)];rfl
 ·rw[if_neg (fun h=>h1 h.1),List.filter_cons_of_neg (by rw[decide_eq_false h1,Bool.false_and];decide)];rfl
theorem qjB(cs:List Int)(i:Nat):(qY cs i).length≤i:=by
 unfold qY;rw[List.length_map];exact Nat.le_trans (List.length_filter_le _ _) (by simp)
theorem l9 (cs:List Int):∀(i j:Nat),i≤j→∃r,qY cs j=qY cs i++r
 | i,0,h=>by
  obtain rfl:i=0:=by omega
  exact⟨[],by simp⟩
 | i,j+1,h=>by
  by_cases e:i=j+1
  ·subst e;exact⟨[],by simp⟩
  ·obtain⟨r,hr⟩:=l9 cs i j (by omega);exact⟨r++_,by rw[cH,hr,List.append_assoc]⟩
theorem lf {cs:List Int}{i:Nat}{z:Int}:z∈qY cs i ↔ ∃j:Nat,z=(j:Int)∧j<i∧193≤j∧cs.getD j 0=0:=by
 unfold qY;simp only[List.mem_map,List.mem_filter,List.mem_range,Bool.and_eq_true,decide_eq_true_eq];constructor
 ·rintro⟨j,⟨h1,h2,h3⟩,rfl⟩;exact⟨j,rfl,h1,h2,h3⟩
 ·rintro⟨j,rfl,h1,h2,h3⟩;exact⟨j,⟨h1,h2,h3⟩,rfl⟩
theorem pk (cs:List Int)(i:Nat):(qY cs i).Pairwise (· < ·):=by
 unfold qY;rw[List.pairwise_map];refine List.Pairwise.imp (R:=fun(a b:Nat)=>a<b) (fun h=>by omega) ?_;exact(List.pairwise_lt_range).filter _
theorem qjC(cs:List Int)(k:Nat)(h:k<cs.length)(h0:cs.getD k 0=0):(bump cs k).getD k 0=1:=by
 unfold bump;rw[h0];simp[List.getD,h];first
  | rfl
  | (unfold wrap64;omega)
theorem cI (cs:List Int)(k j:Nat)(h:j≠k):(bump cs k).getD j 0=cs.getD j 0:=by
 unfold bump;simp[List.getD,List.getElem?_set_ne (Ne.symm h)]
theorem yO (cs:List Int)(i:Nat):(qY cs (i+1)).length=(qY cs i).length+if 193≤i∧cs.getD i 0=0 then 1 else 0:=by
 rw[cH,List.length_append];split <;> rfl
theorem po (cs:List Int)(k:Nat)(h:k<cs.length)(h1:193≤k)(h0:cs.getD k 0=0):∀i,(qY (bump cs k) i).length+(if k<i then 1 else 0)=(qY cs i).length
 | 0=>by simp[qga]
 | i+1=>by
  have ih:=po cs k h h1 h0 i;rw[yO,yO];by_cases e:i=k
  ·subst e;rw[qjC cs i h h0,h0];split at ih <;> split <;> split <;> split <;> omega
  ·rw[cI cs k i e];split at ih <;> split <;> split <;> omega
def bnd (M:Nat)(cs:List Int):Prop:=∀z∈cs,0≤z∧z≤(M:Int)
end Go.Proofs.YtdagdllomphidaaGreatDoor.sp
namespace Go.Proofs.YtdagdllomphidaaGreatDoor.ch
open _root_.Go.Proofs.Tryz Go Go.RowKit ib
abbrev Gd:=Nat × Nat
structure Sn where
 g:Gd
 bs:List Bt
 hid:Bool
structure CH where
 live:List Bt
 qa:List Sn
def above (a b:Gd):Bool:=decide (b.1<a.1) || (decide (a.1=b.1)&&decide (b.2<a.2))
def CH.last(c:CH):Gd:=match c.qa.getLast? with
 | none=>(0,0)
 | some s=>s.g
def wH (n:Nat):List Bt:=List.replicate n zz
def CH.base(c:CH):List Bt:=match c.qa.getLast? with
 | none=>wH c.live.length
 | some s=>s.bs
def ug (n:Nat):CH:=⟨wH n,[]⟩
def CH.may (c:CH)(g:Gd):Int:=if above g c.last then(if 20≤c.qa.length then 3 else 0)else 2
def CH.write(c:CH)(k:Int)(s:Bt):CH × Int:=if k<0∨(c.live.length:Int)≤k∨s.length≠32 then(c,2)else(⟨c.live.set k.toNat s,c.qa⟩,0)
def CH.snap(c:CH)(g:Gd):CH × Int:=if c.may g=0 then(⟨c.live,c.qa++[⟨g,c.live,false⟩]⟩,0)else(c,c.may g)
def vV:List Bt→Int→List (Int × Bt)→Option (List Bt)
 | l,_,[]=>some l
 | l,p,(k,s)::r=>if k≤p∨(l.length:Int)≤k∨s.length≠32 then none else vV (l.set k.toNat s) k r
def CH.add (c:CH)(g:Gd)(x:List (Int × Bt)):CH × Int :=
 if c.may g=0 then(match vV c.base (-1) x with
  | none=>(c,2)
  | some l=>(⟨l,c.qa++[⟨g,l,false⟩]⟩,0))else(c,c.may g)
def CH.roll(c:CH)(k:Int):CH × Int:=if k<0∨(c.qa.length:Int)<k then(c,2)else
 (⟨(⟨c.live,c.qa.take k.toNat⟩:CH).base,c.qa.take k.toNat⟩,0)
def CH.find(c:CH)(g:Gd):Option Nat:=c.qa.findIdx? fun s=>decide (s.g=g)
def xK (l:List Sn)(i:Nat):List Sn:=l.modify i fun s=>{ s with hid:=true }
def CH.kK (c:CH)(g:Gd):CH × Int:=match c.find g with
 | none=>(c,5)
 | some i=>match c.qa[i]? with
  | none=>(c,5)
  | some s=>if s.hid then(c,14)else(⟨c.live,xK c.qa i⟩,0)
def CH.list(c:CH):List Gd:=c.qa.map (·.g)
def CH.read(c:CH)(g:Gd):List Bt × Int:=match c.find g with
 | none=>([],5)
 | some i=>match c.qa[i]? with
  | none=>([],5)
  | some s=>if s.hid then([],14)else(s.bs,0)
def ar (p q:List Bt):List (Int × Bt):=(List.range q.length).filterMap fun i=>if q.getD i []=p.getD i []then none else some ((i:Int),q.getD i [])
def CH.mH (c:CH)(k:Nat):List Bt:=match c.qa[k]? with
 | none=>[]
 | some s=>s.bs
def CH.prev(c:CH)(k:Nat):List Bt:=if k=0 then wH c.live.length else c.mH (k-1)
def CH.changes(c:CH)(k:Int):List (Int × Bt) × Int:=if k<0∨(c.qa.length:Int)≤k then([],5)else(ar (c.prev k.toNat) (c.mH k.toNat),0)
def qR (n:Nat)(l:List Bt):Prop:=l.length=n∧∀v∈l,v.length=32
structure CH.ok(c:CH):Prop where
 live:qR c.live.length c.live
 n1:1≤c.live.length
 n8:c.live.length≤8
 qa:∀s∈c.qa,qR c.live.length s.bs
 few:c.qa.length≤20
 iC:∀s∈c.qa,s.g.1<18446744073709551616∧s.g.2<18446744073709551616
theorem qbz(n:Nat):qR n (wH n):=⟨by simp[wH],fun v hv=>by rw[List.eq_of_mem_replicate hv];exact qJ⟩
theorem qni{n k:Nat}{l:List Bt}{s:Bt}(h:qR n l)(hs:s.length=32):qR n (l.set k s):=by
 refine⟨by rw[List.length_set];exact h.1,fun v hv=>?_⟩;rcases List.mem_or_eq_of_mem_set hv with h1|h1
 ·exact h.2 v h1
 ·rw[h1];exact hs
theorem CH.ok.qrk{c:CH}(h:c.ok):qR c.live.length c.base:=by
 unfold CH.base;split
 ·exact qbz _
 ·rename_i s hs;exact h.qa s (List.mem_of_getLast? hs)
theorem qdu{c:CH}{g:Gd}(h:c.may g=0):above g c.last=true∧c.qa.length<20:=by
 unfold CH.may at h;split at h
 ·split at h
  ·cases h
  ·exact⟨by assumption,by omega⟩
 ·cases h
theorem qgb(l:List Bt)(p:Int):vV l p []=some l:=rfl
end Go.Proofs.YtdagdllomphidaaGreatDoor.ch
namespace Go.Proofs.YtdagdllomphidaaGreatDoor.vt
open _root_.Go.Proofs.Tryz Go Go.RowKit jr mt im sp
abbrev Bt:=List UInt8
abbrev Tg:=Int→Bt
def zb:Bt:=List.replicate 32 0
def eE (t:Tg)(k:Int):Bt:=if k=0 then zb else t k
def volume (t:Tg)(qo:List Int):List Bt:=qo.map (eE t)
def xq (m:Mt):List (List Int):=m.live::m.tok.qo::m.qa.map (·.qo)
def held (m:Mt)(z:Int):Prop:=∃l∈xq m,z∈l
def qd:List Int→List (Int × Bt)→List Int × List Wr
 | _,[]=>([],[])
 | fr,(_,s)::r=>if s=zb then(0::(qd fr r).1,(qd fr r).2)else match fr with
  | []=>(0::(qd [] r).1,(qd [] r).2)
  | f::fr=>(f::(qd fr r).1,(f,s)::(qd fr r).2)
def full (x:List (Int × Bt)):Nat:=(x.filter fun c=>decide (c.2≠zb)).length
def qw (N:Nat)(m:Mt)(x:List (Int × Bt)):(List Int × List Wr) × Int :=
 if (jl (yU (xq m) N).1 (full x)).2=0 then(qd (jl (yU (xq m) N).1 (full x)).1 x,0)else(([],[]),(jl (yU (xq m) N).1 (full x)).2)
def xH (m:Mt):List Bt:=qP (zG m)
def zZ (t:Tg):Nat→List Bt→List Wr
 | _,[]=>[]
 | o,s::r=>(if t (o:Int)=s then[]else[((o:Int),s)])++zZ t (o+1) r
def qdv (t:Tg)(m:Mt):List Wr:=zZ t 145 (xH m)
def qE (t:Tg)(m:Mt)(ws:List Wr):List Wr:=qdv t m++ws
structure fG where
 code:Int
 m:Mt
 ws:List Wr
def qF (m:Mt):Gd:=match m.qa.getLast? with
 | none=>(0,0)
 | some s=>s.g
def xS (m:Mt):List Int:=match m.qa.getLast? with
 | none=>List.replicate m.live.length 0
 | some s=>s.qo
def zB:List Int→List (Int × Bt)→List Int→List Int
 | l,[],_=>l
 | l,_::_,[]=>l
 | l,(k,_)::r,a::at_=>zB (l.set k.toNat a) r at_
def zv (N:Nat)(m:Mt)(k:Int)(s:Bt):fG :=
 if k<0∨(m.live.length:Int)≤k∨s.length≠32 then⟨2,m,[]⟩
 else if (qw N m [(k,s)]).2=0 then⟨0,{ m with live:=zB m.live [(k,s)] (qw N m [(k,s)]).1.1 },(qw N m [(k,s)]).1.2⟩
 else⟨(qw N m [(k,s)]).2,m,[]⟩
def ke (m:Mt)(g:Gd):fG :=
 if mt.above g (qF m)=false then⟨2,m,[]⟩else if 20≤m.qa.length then⟨3,m,[]⟩
 else⟨0,{ m with qa:=m.qa++[⟨g,m.live,false⟩],tok:=zR },[]⟩
def jF (m:Mt)(n:Int):fG :=
 if n<0∨(m.qa.length:Int)<n then⟨2,m,[]⟩
 else⟨0,⟨xS { m with qa:=m.qa.take n.toNat },m.qa.take n.toNat,zR⟩,[]⟩
def pq (m:Mt)(g:Gd):Option Nat:=m.qa.findIdx? fun s=>decide (s.g=g)
def xO (l:List Sp)(i:Nat):List Sp:=l.modify i fun s=>{ s with hid:=true }
def uQ (m:Mt)(g:Gd):fG:=match pq m g with
 | none=>⟨5,m,[]⟩
 | some i=>match m.qa[i]? with
  | none=>⟨5,m,[]⟩
  | some s=>if s.hid then⟨14,m,[]⟩else⟨0,{ m with qa:=xO m.qa i },[]⟩
def zT (b:Nat):Int→List (Int × Bt)→Bool
 | _,[]=>true
 | p,(k,s)::r=>decide (p<k)&&decide (k<(b:Int))&&decide (s.length=32)&&zT b k r
structure Tf where
 base:Gd
 target:Gd
 next:Int
 all:Int
def tf (t:Tk):Tf:=⟨t.base,t.target,t.next,t.all⟩
def zU (b:Nat)(n:Nat)(last:Gd)(t:Tf)(x:List (Int × Bt)):Int :=
 if t.base≠last∨mt.above t.target last=false∨t.all<0∨(b:Int)<t.all∨t.next<0∨t.all<t.next∨¬ (t.next=0↔t.all=0)then 2
 else if zT b (-1) x=false then 2
 else if t.next=t.all∧20≤n then 3 else 0
def zi (N:Nat)(m:Mt)(t:Tf)(x:List (Int × Bt)):fG :=
 if zU m.live.length m.qa.length (qF m) t x≠0 then⟨zU m.live.length m.qa.length (qF m) t x,m,[]⟩
 else if (qw N m x).2≠0 then⟨(qw N m x).2,m,[]⟩
 else
  let qo:=zB (if m.tok.base=t.base∧m.tok.target=t.target∧m.tok.all=t.all then m.tok.qo else xS m) x (qw N m x).1.1
  if t.next=t.all then⟨0,⟨qo,m.qa++[⟨t.target,qo,false⟩],zR⟩,(qw N m x).1.2⟩
  else⟨0,{ m with tok:=⟨t.base,t.target,t.next,t.all,qo⟩ },(qw N m x).1.2⟩
def gG (m:Mt):fG:=⟨0,{ m with tok:=zR },[]⟩
def fH (t:Tg)(s:Sp):ch.Sn:=⟨s.g,volume t s.qo,s.hid⟩
def zD (t:Tg)(m:Mt):ch.CH:=⟨volume t m.live,m.qa.map (fH t)⟩
def jw (b N:Nat)(l:List Int):Prop:=l.length=b∧(∀z∈l,z=0∨(193≤z∧z<(N:Int)))∧∀i j,i<j→j<l.length→pl l i=pl l j→pl l i=0
def uR:Gd→List Gd→Prop
 | _,[]=>True
 | p,g::r=>mt.above g p=true∧uR g r
structure yD(b N:Nat)(m:Mt):Prop where
 b1:1≤b
 b8:b≤8
 live:jw b N m.live
 few:m.qa.length≤20
 uF:∀s∈m.qa,jw b N s.qo
 qdw:uR (0,0) (m.qa.map (·.g))
 tok:m.tok=zR∨(m.tok.base=qF m∧mt.above m.tok.target m.tok.base=true∧1≤m.tok.next∧m.tok.next<m.tok.all∧m.tok.all≤(b:Int)∧jw b N m.tok.qo)
 iC:mB m
theorem qnj{l:List Int}(h:∀i j,i<j→j<l.length→pl l i=pl l j→pl l i=0):yF l l.length=false:=by
 cases hd:yF l l.length with
 | false=>rfl
 | true =>
  exfalso;unfold yF at hd;obtain⟨i,hi,h2⟩:=List.any_eq_true.1 hd;have hi:=List.mem_range.1 hi;simp only[Bool.and_eq_true,decide_eq_true_eq]at h2;obtain⟨h0,h3⟩:=h2;unfold dL at h3;obtain⟨j,hj,h4⟩:=List.any_eq_true.1 h3;have hj:=List.mem_range.1 hj;simp only[decide_eq_true_eq]at h4;have:=h j i hj hi h4.symm;exact h0 (h4.trans this)
theorem jw.check{b N:Nat}{l:List Int}(h:jw b N l)(h1:1≤b)(h8:b≤8):zM l (b:Int) (N:Int)=0:=by
 obtain⟨hl,hz,hd⟩:=h;unfold zM;rw[if_neg (by omega),if_neg,if_neg (by rw[qnj hd];decide)];rw[Bool.not_eq_true,List.any_eq_false];intro z hzm;unfold dr;rcases hz z hzm with rfl|⟨ha,hb⟩
 ·simp
 ·simp;omega
theorem jw.mono{b N M:Nat}{l:List Int}(h:jw b N l)(hNM:N≤M):jw b M l:=⟨h.1,fun z hz=>by rcases h.2.1 z hz with h|h;exact .inl h;exact .inr (by omega),h.2.2⟩
theorem yD.mono{b N M:Nat}{m:Mt}(h:yD b N m)(hNM:N≤M):yD b M m :=
 ⟨h.b1,h.b8,h.live.mono hNM,h.few,fun s hs=>(h.uF s hs).mono hNM,h.qdw,by
  rcases h.tok with h|⟨h1,h2,h3,h4,h5,h6⟩
  ·exact .inl h
  ·exact .inr ⟨h1,h2,h3,h4,h5,h6.mono hNM⟩,h.iC⟩
theorem pw {b N:Nat}(h1:1≤b)(h8:b≤8):∀(l:List Sp) (p:Gd),(∀s∈l,jw b N s.qo)→uR p (l.map (·.g))→xY (b:Int) (N:Int) p l=(0,match l.getLast? with
    | none=>p
    | some s=>s.g)
 | [],p,_,_=>rfl
 | s::r,p,hi,hr=>by
  obtain⟨ha,hr2⟩:=hr;have ih:=pw h1 h8 r s.g (fun x hx=>hi x (by simp[hx])) hr2;unfold xY;rw[if_pos ha,if_pos ((hi s (by simp)).check h1 h8),ih];cases r with
  | nil=>rfl
  | cons y r=>rw[List.getLast?_cons_cons];rfl
theorem yD.check{b N:Nat}{m:Mt}(h:yD b N m):xw m (b:Int) (N:Int)=0:=by
 have hs:=pw h.b1 h.b8 m.qa (0,0) h.uF h.qdw;have h4:=h.few;unfold xw;rw[h.live.check h.b1 h.b8,if_neg (by simp),if_neg (by omega),hs];dsimp only;rw[if_neg (by simp)];have e:(match m.qa.getLast? with
  | none=>((0,0):Gd)
  | some s=>s.g)=qF m:=rfl
 rw[e];rcases h.tok with ht|⟨t1,t2,t3,t4,t5,t6⟩
 ·rw[ht];rfl
 ·unfold ux;have hne:m.tok.target≠(0,0):=by
   intro e0;rw[e0]at t2;unfold mt.above at t2;simp at t2
  rw[if_neg hne];have hb:dN m.tok (qF m) (b:Int)=false:=by
   unfold dN;rw[← t1,t2];simp;omega
  rw[hb];simp only[Bool.false_eq_true,if_false];exact t6.check h.b1 h.b8
theorem yD.len{b N:Nat}{m:Mt}(h:yD b N m):m.live.length=b:=h.live.1
theorem cJ {z:Int}(h:z<65536):(yj z).length≤3:=yN _ (by omega)
theorem mI:∀ {l:List Int},(∀z∈l,z<65536)→(zn l).length≤3*l.length
 | [],_=>by simp[zn]
 | z::l,h=>by
  have ih:=mI (l:=l) (fun y hy=>h y (by simp[hy]));have h1:=cJ (h z (by simp));show(yj z++zn l).length≤_;rw[List.length_append,List.length_cons];omega
theorem jw.small{b N:Nat}{l:List Int}(h:jw b N l)(hN:N≤1024)(h8:b≤8):(zn l).length≤24:=by
 have:=mI (l:=l) (fun z hz=>by rcases h.2.1 z hz with h|h <;> omega);have:=h.1;omega
theorem px {b N:Nat}(hN:N≤1024)(h8:b≤8):∀ {l:List Sp},(∀s∈l,jw b N s.qo)→(je l).length≤45*l.length
 | [],_=>by simp[je]
 | s::l,h=>by
  have ih:=px hN h8 (l:=l) (fun y hy=>h y (by simp[hy]));have h1:=(h s (by simp)).small hN h8;have g1:=jr.qA s.g.1;have g2:=jr.qA s.g.2;have g3:=yN (if s.hid then 1 else 0) (by split <;> omega);show(spB s++je l).length≤_;rw[List.length_append,List.length_cons];unfold spB kG;simp only[List.length_append];omega
theorem yD.size{b N:Nat}{m:Mt}(h:yD b N m)(hN:N≤1024):(zG m).length≤999:=by
 have h1:=h.live.small hN h.b8;have h2:=px hN h.b8 h.uF;have h3:=yN m.live.length (by have:=h.len;have:=h.b8;omega);have h4:=yN m.qa.length (by have:=h.few;omega);have h5:(tkB m.tok).length≤69:=by
  rcases h.tok with ht|⟨t1,t2,t3,t4,t5,t6⟩
  ·rw[ht];decide
  ·unfold tkB;split
   ·have:=yN 0 (by omega);omega
   ·have g1:=jr.qA m.tok.base.1;have g2:=jr.qA m.tok.base.2;have g3:=jr.qA m.tok.target.1;have g4:=jr.qA m.tok.target.2;have g5:=yN 1 (by omega);have hb:=h.b8;have g6:=cJ (z:=m.tok.next) (by omega);have g7:=cJ (z:=m.tok.all) (by omega);have g8:=t6.small hN h.b8;unfold kG;simp only[List.length_append];omega
 have h6:=h.few;unfold zG;simp only[List.length_append];omega
theorem yD.enc{b N:Nat}{m:Mt}(h:yD b N m)(hN:N≤1024):dt m=(zG m,0):=by
 have hs:=h.size hN;have hc:xw m (b:Int) (1024:Int)=0:=(h.mono hN).check;have hl:=h.len;unfold dt;rw[hl,hc,if_neg (by simp),if_neg];show ¬ 48<nsec (zG m).length;unfold nsec;omega
theorem yD.back{b N:Nat}{m:Mt}(h:yD b N m)(hN:N≤1024):nW (zG m)=(m,0):=qc6 h.iC (h.enc hN)
theorem xT {b N:Nat}{m:Mt}(h:yD b N m)(hN:N≤1024):1≤(xH m).length∧(xH m).length≤48:=by
 have hs:=h.size hN;unfold xH;rw[yb];unfold nsec;omega
theorem qdx(m:Mt):∀s∈xH m,s.length=32:=by
 intro s hs;obtain⟨i,hi,rfl⟩:=List.getElem_of_mem hs;exact bn _ i hi
theorem mJ:∀(a b:List Wr) (t:Tg),over t (a++b)=over (over t a) b
 | [],_,_=>rfl
 | x::a,b,t=>mJ a b _
theorem au:∀(l:List Wr) (t:Tg) (k:Int),(∀x∈l,x.1≠k)→over t l k=t k
 | [],_,_,_=>rfl
 | x::l,t,k,h=>by
  show over (fun j=>if j=x.1 then x.2 else t j) l k=t k;rw[au l _ k (fun y hy=>h y (by simp[hy]))];exact if_neg (Ne.symm (h x (by simp)))
theorem nM:∀(l:List Wr) (t:Tg) (x:Wr),x∈l→(l.map (·.1)).Nodup→over t l x.1=x.2
 | y::l,t,x,h,hn=>by
  rw[List.map_cons,List.nodup_cons]at hn;show over (fun j=>if j=y.1 then y.2 else t j) l x.1=x.2;rcases List.mem_cons.1 h with rfl|h
  ·rw[au l _ _ (fun z hz e=>hn.1 (by rw[← e];exact List.mem_map_of_mem hz))];exact if_pos rfl
  ·exact nM l _ x h hn.2
theorem uw {t:Tg}:∀ {ss:List Bt} {o:Nat} {x:Wr},x∈zZ t o ss→∃i,∃h:i<ss.length,x.1=((o+i:Nat):Int)∧x.2=ss[i]
 | [],o,x,h=>by simp[zZ]at h
 | s::r,o,x,h=>by
  unfold zZ at h;rcases List.mem_append.1 h with h|h
  ·split at h
   ·simp at h
   ·obtain rfl:x=((o:Int),s):=by simpa using h
    exact⟨0,by simp,rfl,rfl⟩
  ·obtain⟨i,hi,h1,h2⟩:=uw h;exact⟨i+1,by simpa using hi,by rw[h1];congr 1;omega,by simpa using h2⟩
theorem av {t:Tg}:∀(ss:List Bt) (o:Nat),((zZ t o ss).map (·.1)).Nodup
 | [],o=>by simp[zZ]
 | s::r,o=>by
  unfold zZ;rw[List.map_append,List.nodup_append];refine⟨by split <;> simp,av r (o+1),fun a ha b hb=>?_⟩;split at ha
  ·simp at ha
  ·obtain rfl:a=(o:Int):=by simpa using ha
   obtain⟨x,hx,rfl⟩:=List.mem_map.1 hb;obtain⟨i,_,h1,_⟩:=uw hx;omega
theorem br {t:Tg}:∀(ss:List Bt) (o:Nat),(zZ t o ss).length≤ss.length
 | [],o=>by simp[zZ]
 | s::r,o=>by
  have ih:=br (t:=t) r (o+1);unfold zZ;rw[List.length_append,List.length_cons];split <;> simp <;> omega
theorem qgc{t:Tg}(ss:List Bt)(o:Nat)(i:Nat)(h:i<ss.length):over t (zZ t o ss) ((o+i:Nat):Int)=ss[i]:=by
 by_cases hm:∃x∈zZ t o ss,x.1=((o+i:Nat):Int)
 ·obtain⟨x,hx,he⟩:=hm;obtain⟨j,hj,h1,h2⟩:=uw hx;have:=nM _ t x hx (av ss o);rw[he]at this;rw[this,h2];have:j=i:=by omega
  subst this;rfl
 ·rw[au _ _ _ (fun x hx e=>hm ⟨x,hx,e⟩)];have key:∀(ss:List Bt) (o i:Nat) (h:i<ss.length),(¬ ∃x∈zZ t o ss,x.1=((o+i:Nat):Int))→t ((o+i:Nat):Int)=ss[i]:=by
   intro ss
   induction ss with
   | nil=>intro o i h;simp at h
   | cons s r ih =>
    intro o i h hn;cases i with
    | zero =>
     apply Classical.byContradiction;intro hne;refine hn ⟨((o:Int),s),?_,by simp⟩;unfold zZ;rw[if_neg (by simpa using hne)];simp
    | succ i =>
     have:=ih (o+1) i (by simpa using h) (fun⟨x,hx,e⟩=>hn ⟨x,by unfold zZ;exact List.mem_append_right _ hx,by rw[e];congr 1;omega⟩);rw[show o+(i+1)=o+1+i by omega,this];rfl
  exact key ss o i h hm
structure qW(b N:Nat)(t:Tg)(m:Mt):Prop where
 ok:yD b N m
 N0:193≤N
 N1:N≤1024
 home:∀i (h:i<(xH m).length),t ((145+i:Nat):Int)=(xH m)[i]
 len:∀k,145≤k→(t k).length=32
structure dI(N:Nat)(m:Mt)(ws:List Wr):Prop where
 few:ws.length≤8
 nodup:(ws.map (·.1)).Nodup
 range:∀x∈ws,193≤x.1∧x.1<(N:Int)
 free:∀x∈ws,¬ held m x.1
 len:∀x∈ws,x.2.length=32
section
variable {b N:Nat} {t:Tg} {m m':Mt} {ws:List Wr}
theorem fJ (h:qW b N t m)(ho:yD b N m')(hw:dI N m ws):((qE t m' ws).map (·.1)).Nodup:=by
 have h48:=(xT ho h.N1).2;unfold qE qdv;rw[List.map_append,List.nodup_append];refine⟨av _ _,hw.nodup,fun a ha c hc=>?_⟩;obtain⟨x,hx,rfl⟩:=List.mem_map.1 ha;obtain⟨y,hy,rfl⟩:=List.mem_map.1 hc;obtain⟨i,hi,h1,_⟩:=uw hx;have:=(hw.range y hy).1;omega
theorem aw (h:qW b N t m)(ho:yD b N m')(hw:dI N m ws):∀x∈qE t m' ws,145≤x.1∧x.1<(N:Int)∧x.2.length=32:=by
 intro x hx;have h48:=(xT ho h.N1).2;have hN:=h.N0;rcases List.mem_append.1 hx with hx|hx
 ·obtain⟨i,hi,h1,h2⟩:=uw hx;refine⟨by omega,by omega,?_⟩;rw[h2];exact qdx m' _ (List.getElem_mem hi)
 ·have:=hw.range x hx;exact⟨by omega,this.2,hw.len x hx⟩
theorem ax:∀(l:List Wr) (acc:List Int),(acc++l.map (·.1)).Nodup→found acc l=acc++l.map (·.1)
 | [],acc,_=>by simp[found]
 | x::l,acc,h=>by
  have hx:acc.contains x.1=false:=by
   rw[List.map_cons,List.nodup_append]at h;rw[Bool.eq_false_iff];intro hc;rw[List.contains_iff_mem]at hc;exact h.2.2 x.1 hc x.1 (by simp) rfl
  have e:Go.Proofs.YtdagdllomphidaaGreatDoor.dk.ya acc x.1=acc++[x.1]:=by
   unfold Go.Proofs.YtdagdllomphidaaGreatDoor.dk.ya;rw[hx];rfl
  have ih:=ax l (acc++[x.1]) (by simpa using h);show found (Go.Proofs.YtdagdllomphidaaGreatDoor.dk.ya acc x.1) l=_;rw[e,ih];simp
theorem qgd(h:qW b N t m)(ho:yD b N m')(hw:dI N m ws):p9 N (qE t m' ws)=0:=by
 have h48:=(xT ho h.N1).2;have hl:(qE t m' ws).length≤60:=by
  have:=br (t:=t) (xH m') 145;have:=hw.few;unfold qE qdv;rw[List.length_append];omega
 have hp:vU N (qE t m' ws)=true:=by
  unfold vU;have hf:=ax (qE t m' ws) [] (by simpa using fJ h ho hw);rw[hf];simp only[List.nil_append,List.length_map,decide_true,Bool.and_true,List.all_eq_true];intro x hx;obtain⟨h1,h2,h3⟩:=aw h ho hw x hx;unfold okW;simp;exact⟨⟨h1,h2⟩,h3⟩
 unfold p9;split
 ·rfl
 ·rw[if_neg (by omega),hp];simp
theorem qdy(h:qW b N t m)(ho:yD b N m')(hw:dI N m ws)(i:Nat)(hi:i<(xH m').length):over t (qE t m' ws) ((145+i:Nat):Int)=(xH m')[i]:=by
 have h48:=(xT ho h.N1).2;unfold qE;rw[mJ,au ws _ _ (fun x hx e=>by have:=(hw.range x hx).1;omega)];exact qgc (xH m') 145 i hi
theorem ay (h:qW b N t m)(ho:yD b N m')(hw:dI N m ws)(z:Int)(hz:held m z)(qzM:193≤z):over t (qE t m' ws) z=t z:=by
 have h48:=(xT ho h.N1).2;refine au _ _ _ fun x hx e=>?_;rcases List.mem_append.1 hx with hx|hx
 ·obtain⟨i,hi,h1,_⟩:=uw hx;omega
 ·exact hw.free x hx (e ▸ hz)
theorem qge(h:qW b N t m)(ho:yD b N m')(hw:dI N m ws)(x:Wr)(hx:x∈ws):over t (qE t m' ws) x.1=x.2 :=
 nM _ t x (List.mem_append_right _ hx) (fJ h ho hw)
theorem py:∀(l:List Wr) (t:Tg),(∀k,145≤k→(t k).length=32)→(∀x∈l,x.2.length=32)→∀k,145≤k→(over t l k).length=32
 | [],_,h,_=>h
 | x::l,t,h,hl=>py l _ (fun k hk=>by
  show(if k=x.1 then x.2 else t k).length=32;split
  ·exact hl x (by simp)
  ·exact h k hk) (fun y hy=>hl y (by simp[hy]))
theorem qW.next(h:qW b N t m)(ho:yD b N m')(hw:dI N m ws):qW b N (over t (qE t m' ws)) m' :=
 ⟨ho,h.N0,h.N1,qdy h ho hw,py _ _ h.len fun x hx=>(aw h ho hw x hx).2.2⟩
theorem pz (h:qW b N t m)(ho:yD b N m')(hw:dI N m ws){l:List Int}(hl:l∈xq m)(hk:jw b N l):volume (over t (qE t m' ws)) l=volume t l:=by
 unfold volume;apply List.map_congr_left;intro z hz;unfold eE;split
 ·rfl
 ·rename_i h0;rcases hk.2.1 z hz with h1|h1
  ·exact absurd h1 h0
  ·exact ay h ho hw z ⟨l,hl,hz⟩ h1.1
theorem qb0(m:Mt):m.live∈xq m:=by simp[xq]
theorem qvC(m:Mt):m.tok.qo∈xq m:=by simp[xq]
theorem qhY{m:Mt}{s:Sp}(h:s∈m.qa):s.qo∈xq m:=by
 unfold xq;exact List.mem_cons_of_mem _ (List.mem_cons_of_mem _ (List.mem_map_of_mem h))
theorem qnk(h:qW b N t m)(ho:yD b N m')(hw:dI N m ws):zD (over t (qE t m' ws)) m=zD t m:=by
 unfold zD;rw[pz h ho hw (qb0 m) h.ok.live]
 congr 1
 apply List.map_congr_left;intro s hs;unfold fH;rw[pz h ho hw (qhY hs) (h.ok.uF s hs)]
end
end Go.Proofs.YtdagdllomphidaaGreatDoor.vt

/- DkLose, DkRow, DkApp, DkFit2, DkFit3, DkWrite, DkMore, CPure, FPure, JPure, JRun, JSafe, JSafe2, SpPure, SpMath, ChPure, VtPure, VtTab, VtMath. -/
import Derived.Test.YtdagdllomphidaaGreatDoorZK2
import Derived.Laws.CopyRow
import Derived.Deep.RegionLaw
import Derived.Great.BuildSlice
set_option linter.unusedVariables false
set_option linter.unusedSimpArgs false
set_option maxHeartbeats 30000000
set_option maxRecDepth 100000
namespace Go.Proofs.YtdagdllomphidaaGreatDoor.dk
open _root_.Go.Proofs.Tryz Go Go.RowKit
structure qpK(cs:Array Value)(x:Nat × Bt × Bt × Bool):Prop where
 size:cs.size=66
 at_:cs[0]?=some (.int .i64 (x.1:Int))
 data:∀j u,(Lib.byteCells x.2.1)[j]?=some u→cs[1+j]?=some u
 before:∀j u,(Lib.byteCells x.2.2.1)[j]?=some u→cs[33+j]?=some u
 written:cs[65]?=some (.bool x.2.2.2)
theorem rowOf(x:Nat × Bt × Bt × Bool)(h1:x.2.1.length=32)(h2:x.2.2.1.length=32):qpK (qf x).toArray x:=by
 have e1:(Lib.byteCells x.2.1).length=32:=by rw[Lib.byteCells_length,h1]
 have e2:(Lib.byteCells x.2.2.1).length=32:=by rw[Lib.byteCells_length,h2]
 refine⟨by simp[qf,e1,e2],rfl,?_,?_,?_⟩
 ·intro j u hu;have hj:j<32:=by rw[← e1];exact(List.getElem?_eq_some_iff.1 hu).1
  simp only[List.getElem?_toArray,qf,Nat.add_comm 1 j,List.getElem?_cons_succ];rw[List.getElem?_append_left (by omega)];exact hu
 ·intro j u hu;have hj:j<32:=by rw[← e2];exact(List.getElem?_eq_some_iff.1 hu).1
  simp only[List.getElem?_toArray,qf,show 33+j=(32+j)+1 by omega,List.getElem?_cons_succ];rw[List.getElem?_append_right (by omega),e1,List.getElem?_append_left (by omega),show 32+j-32=j by omega];exact hu
 ·simp only[List.getElem?_toArray,qf,show 65=64+1 from rfl,List.getElem?_cons_succ];rw[List.getElem?_append_right (by omega),e1,List.getElem?_append_right (by omega),e2];rfl
section
variable {w:World} {p m:Nat}
theorem qjW(hp:p<w.heap.size)(hc:w.cell? ⟨p,2,none⟩=some (.map (some m))){s:qA}(hm:zA w m s)(x:Nat × Bt × Bt × Bool)(cs:Array Value)(hr:qpK cs x)(hx:x.1<s.length)(hs:s.length≤1024)(hl:x.2.2.1.length=32) :
    Calls prog 62 #[.pointer (some ⟨p,0,none⟩),.agg cs] w fun e w'=>e=.returned (.tuple #[])∧zA w' m (oa s x)∧qB (fun k=>k=m) w w':=by
 obtain⟨k,eG,bef,wr⟩:=x;obtain⟨h66,hat,qxv,qtE,hwr⟩:=hr;simp only at hat qxv qtE hwr hx hl;have HR:=QH qtE;have HM:=QH hm;have HS:=QH hs;have HL:=QH hl;have H66:=QH h66;clear qtE qxv hm hs hl h66;cases wr with
 | true =>
  go_enter func62,ntmps62;go_wp2;refine yg 8 (by kernel_rfl) (by kernel_rfl) ?_;simp only[List.take_succ_cons,List.take_zero,List.drop_succ_cons,List.drop_zero]
  iterate 7 still_step
  refine wV rfl (zR _ _ rfl w.heap.size 33 rfl _ cs (Lib.byteCells bef) _ _ (heap_alloc_new w _) underlying123 rfl (by rw[aC,Lib.byteCells_length,HL.out]) HR.out) ?_;refine wpStill_nil ?_;refine jS rfl _ _ _ rfl rfl (HM.out.of_block (Below.heap_alloc w _ _ HM.out.lt)) k rfl bef rfl hx HS.out ?_;intro w' hm' ht;go_wp2
  go_end0
  exact⟨rfl,hm',((qB.refl _ w).alloc _).drew.trans (yq ht) (fun _ h=>.inl h)⟩
 | false =>
  go_enter func62,ntmps62;go_wp2;refine yg 6 (by kernel_rfl) (by kernel_rfl) ?_;simp only[List.take_succ_cons,List.take_zero,List.drop_succ_cons,List.drop_zero]
  iterate 6 still_step
  refine wpStill_nil ?_;refine lK rfl _ _ rfl rfl (HM.out.of_block (Below.heap_alloc w _ _ HM.out.lt)) k rfl hx HS.out ?_;intro w' hm' ht;go_wp2
  go_end0
  exact⟨rfl,hm',((qB.refl _ w).alloc _).drew.trans (yq ht) (fun _ h=>.inl h)⟩
end
end Go.Proofs.YtdagdllomphidaaGreatDoor.dk
namespace Go.Proofs.YtdagdllomphidaaGreatDoor.dk
open _root_.Go.Proofs.Tryz Go Go.RowKit
theorem qeV:(prog.info? 125).map (fun i=>(i.zero,i.size))=some (some (.agg (qf (0,zz,zz,false)).toArray),66):=by kernel_rfl
theorem qdd:(prog.info? 125).map (fun i=>(i.zero,i.size,i.bytes))=some (some (.agg (qf (0,zz,zz,false)).toArray),66,80):=by kernel_rfl
theorem uA:(prog.info? 125).map (·.size)=some 66:=by kernel_rfl
theorem qX (x:Nat × Bt × Bt × Bool)(h1:x.2.1.length=32)(h2:x.2.2.1.length=32):(qf x).length=66:=by
 simp[qf,Lib.byteCells,h1,h2]
theorem gy (x:Nat × Bt × Bt × Bool):∀u∈qf x,u.oneCell'=true:=by
 intro u hu;simp only[qf,List.mem_cons,List.mem_append,List.not_mem_nil,or_false]at hu;rcases hu with rfl|hu|hu|rfl
 ·rfl
 ·exact Lib.byteCells_one _ u hu
 ·exact Lib.byteCells_one _ u hu
 ·rfl
theorem lN (x:Nat × Bt × Bt × Bool):(qf x).toArray.all (·.oneCell')=true:=by
 rw[Array.all_eq_true'];intro u hu;exact gy x u (by simpa using hu)
theorem jl {ρ:Operand→Value}{o:Oper}{w:World}(ho:o.op=.alloc 125) :
    (execOp ρ o).run prog w=.ok (.value (.pointer (some ⟨w.heap.size,0,none⟩))) (w.alloc (.cells (qf (0,zz,zz,false)).toArray 125)):=by
 obtain⟨hz,_⟩:=zero_of_info qeV;simp[execOp,ho,Instr.alloc,hz,Result.andThen,go_sem,Value.cells]
theorem sg {ρ:Operand→Value}{o:Oper}{w:World}(x:Operand)(k:Nat)(ho:o.op=.build 125 #[(0,x)])(hx:ρ x=.int .i64 (k:Int)) :
    (execOp ρ o).run prog w=.ok (.value (.agg (qf (k,zz,zz,false)).toArray)) w:=by
 obtain⟨hz,_⟩:=zero_of_info qeV;have hb:(Instr.build 125 #[(0,.int .i64 (k:Int))]).run prog w=.ok (.agg (qf (k,zz,zz,false)).toArray) w:=by
  have e:(qf (k,zz,zz,false)).toArray=(qf (0,zz,zz,false)).toArray.set! 0 (.int .i64 (k:Int)):=rfl;rw[e];have hne:(qf (0,zz,zz,false)).toArray ≠ #[]:=by simp[qf]
  generalize (qf (0,zz,zz,false)).toArray=z0 at *;simp[Instr.build,hz,Result.andThen,go_sem,Value.cells];rw[if_neg hne];rfl
 simp[execOp,ho,hx,hb,Result.andThen]
theorem bN {P:Program}(w:World)(g o:Nat)(t ty:TypeId)(cur:Array Value)(xs:List Value)(hg:w.heap[g]?=some (.cells cur t (0,0)))(hi:(P.info? ty).map (·.size)=some xs.length)(hl:o+xs.length≤cur.size)(h1:∀v∈xs,v.oneCell'=true) :
    (storeVar ty ⟨g,o,none⟩ (.agg xs.toArray)).run P w=.ok () (w.setRow g (cur.toList.take o++xs++cur.toList.drop (o+xs.length)).toArray):=by
 have:=run_storeCells_at P g o t xs 0 cur w hg (by simpa using hl) h1;cases hq:P.info? ty with
 | none=>simp[hq]at hi
 | some i =>
  have hs:i.size=xs.length:=by simpa[hq]using hi
  simp only[Nat.add_zero]at this;simp[storeVar,sizeOf,typeInfo,hq,Value.cells,hs,this]
theorem qjX(k:Nat)(v b:Bt)(f:Bool)(u:Bt)(h:u.length=32)(hv:v.length=32) :
    (qf (k,u,b,f)).take 1++Lib.byteCells v++(qf (k,u,b,f)).drop (1+32)=qf (k,v,b,f):=by
 have e1:(Lib.byteCells u).length=32:=by rw[Lib.byteCells_length,h]
 have e2:(Lib.byteCells v).length=32:=by rw[Lib.byteCells_length,hv]
 simp only[qf,List.take_succ_cons,List.take_zero,show 1+32=32+1 from rfl,List.drop_succ_cons];rw[List.drop_left' e1];simp
theorem qde(k:Nat)(v b:Bt)(f:Bool)(u:Bt)(hv:v.length=32)(h:u.length=32)(hb:b.length=32) :
    (qf (k,v,u,f)).take 33++Lib.byteCells b++(qf (k,v,u,f)).drop (33+32)=qf (k,v,b,f):=by
 have e1:(Lib.byteCells u).length=32:=by rw[Lib.byteCells_length,h]
 have e2:(Lib.byteCells v).length=32:=by rw[Lib.byteCells_length,hv]
 simp only[qf,show 33=32+1 from rfl,List.take_succ_cons,show 32+1+32=(32+32)+1 from rfl,List.drop_succ_cons];rw[List.take_left' e2,List.drop_append,e2,List.drop_eq_nil_of_le (by omega),show 32+32-32=32 from rfl,List.drop_left' e1];simp
theorem qaL(k:Nat)(v b:Bt)(f g:Bool)(hv:v.length=32)(hb:b.length=32):(qf (k,v,b,f)).toArray.setIfInBounds 65 (.bool g)=(qf (k,v,b,g)).toArray:=by
 have e1:(Lib.byteCells v).length=32:=by rw[Lib.byteCells_length,hv]
 have e2:(Lib.byteCells b).length=32:=by rw[Lib.byteCells_length,hb]
 simp only[List.setIfInBounds_toArray,qf,show 65=64+1 from rfl,List.set_cons_succ];rw[List.set_append_right _ _ (by omega),e1,List.set_append_right _ _ (by omega),e2];rfl
theorem qaM{ρ:Operand→Value}{o:Oper}(w:World)(x y:Operand)(k:Nat)(s:ByteArray)(ho:o.op=.call { callee:=.builtin .copy,args:=#[x,y],argTypes:=#[118,9] })
    (hx:ρ x=.slice (some ⟨w.heap.size,1,none⟩) 32 32) (hy:ρ y=.string s) (hs:s.size=32) :
    (execOp ρ o).run prog (w.alloc (.cells (qf (k,zz,zz,false)).toArray 125))=.ok (.value (.int .i64 32)) (w.alloc (.cells (qf (k,bl s,zz,false)).toArray 125)):=by
 obtain⟨i0,hi,hz0,hz1,hz2⟩:=info_parts Tryz.qan;have hl:(bl s).length=32:=by rw[zq,hs]
 have hst:=run_storeCells_at prog w.heap.size 1 125 (Lib.byteCells (bl s)) 0 (qf (k,zz,zz,false)).toArray (w.alloc (.cells (qf (k,zz,zz,false)).toArray 125)) (heap_alloc_new w _) (by simp[qX,Lib.byteCells_length,hl,qI]) (Lib.byteCells_one _);rw[World.setRow_alloc_new,Lib.byteCells_length,hl]at hst;simp only[Nat.add_zero]at hst;rw[qjX k (bl s) zz false zz qI hl]at hst;have iG:List.take 32 (List.map (fun b:UInt8=>Value.int IntKind.u8 (b.toNat:Int)) s.data.toList)=Lib.byteCells (bl s):=by
  rw[List.take_of_length_le]
  ·rfl
  ·simp only[List.length_map];have:s.data.toList.length=32:=hl;omega
 have hc:(Builtin.copy_ #[118,9] o.type #[.slice (some ⟨w.heap.size,1,none⟩) 32 32,.string s]).run prog (w.alloc (.cells (qf (k,zz,zz,false)).toArray 125))=.ok (.int .i64 32) (w.alloc (.cells (qf (k,bl s,zz,false)).toArray 125)):=by
  simp[Builtin.copy_,run_underlying underlying118,Builtin.lenOf,Builtin.firstCells,sizeOf,typeInfo,hi,hs];rw[iG,hst];simp[Result.andThen];rfl
 simp[execOp,ho,resolve,invoke,builtin,hx,hy,hc,Result.andThen]
theorem bO {ρ:Operand→Value}{o:Oper}(w:World)(x y:Operand)(k:Nat)(v b:Bt)(f:Bool)(ho:o.op=.store 123 x y)(hx:ρ x=.pointer (some ⟨w.heap.size,33,none⟩))(hy:ρ y=bL b)(hv:v.length=32)(hb:b.length=32) :
    (execOp ρ o).run prog (w.alloc (.cells (qf (k,v,zz,f)).toArray 125))=.ok .skip (w.alloc (.cells (qf (k,v,b,f)).toArray 125)):=by
 have e2:(Lib.byteCells b).length=32:=by rw[Lib.byteCells_length,hb]
 have hr:=bN (P:=prog) (w.alloc (.cells (qf (k,v,zz,f)).toArray 125)) w.heap.size 33 125 123 (qf (k,v,zz,f)).toArray (Lib.byteCells b) (heap_alloc_new w _) (by rw[aC,e2]) (by simp[qX,hv,qI,e2]) (Lib.byteCells_one _);rw[World.setRow_alloc_new,e2]at hr;simp only at hr;rw[qde k v b f zz hv qI hb]at hr;have h2:(Instr.storeAt 123 (.pointer (some ⟨w.heap.size,33,none⟩)) (bL b)).run prog (w.alloc (.cells (qf (k,v,zz,f)).toArray 125))=.ok () (w.alloc (.cells (qf (k,v,b,f)).toArray 125)):=by
  simp only[Instr.storeAt,Instr.sureAddr,Sem.run_bind,Sem.run_pure,Result.andThen];exact hr
 simp[execOp,ho,hx,hy,h2,Result.andThen]
theorem aD {ρ:Operand→Value}{o:Oper}(w:World)(x y:Operand)(k:Nat)(v b:Bt)(f:Bool)(ho:o.op=.store 4 x y)(hx:ρ x=.pointer (some ⟨w.heap.size,65,none⟩))(hy:ρ y=.bool f)(hv:v.length=32)(hb:b.length=32) :
    (execOp ρ o).run prog (w.alloc (.cells (qf (k,v,b,false)).toArray 125))=.ok .skip (w.alloc (.cells (qf (k,v,b,f)).toArray 125)):=by
 have hB:qg (w.alloc (.cells (qf (k,v,b,false)).toArray 125)) w.heap.size 125 (qf (k,v,b,false)).toArray:=qg.new _ _ _;have hc:(w.alloc (.cells (qf (k,v,b,false)).toArray 125)).cell? ⟨w.heap.size,65,none⟩=some (.bool false):=by
  rw[hB.cell 65];exact(rowOf (k,v,b,false) hv hb).written
 have hf:=hB.frozen 65;have hW:(w.alloc (.cells (qf (k,v,b,false)).toArray 125)).setCell ⟨w.heap.size,65,none⟩ (.bool f)=w.alloc (.cells (qf (k,v,b,f)).toArray 125):=by
  rw[setCell_eq_setRow _ _ _ _ _ _ _ (heap_alloc_new w _),World.setRow_alloc_new,qaL k v b false f hv hb]
 unfold execOp;rw[ho];simp only[hx,hy];rw[← hW];generalize w.alloc (.cells (qf (k,v,b,false)).toArray 125)=W at *;go_simp
theorem si {P:Program}{o:Oper}{a:Act}{w:World}{K:Act→World→Prop}{Q:Exit→Act→World→Prop}(s x:Operand)(t:TypeId)
    (ho:o.op=.call { callee:=.builtin .append,args:=#[s,x],argTypes:=#[t,t] })
    (base:Nat) (e:TypeId) (i:TypeInfo) (z:Value) (size bytes:Nat) (ht:P.underlying t=some (.slice e)) (hi:P.info? e=some i) (hz:i.zero=some z)
    (hsize:i.size=size) (hby:i.bytes=bytes) (hzs:z.cells.size=size) (hsz:0<size)
    (v:Value) (n:Nat) (xs:List Value) (hs:a.eval s=v) (hown:w.ownsRow base e size v n xs)
    (ad:Addr) (m c:Nat) (news:List Value) (hx:a.eval x=.slice (some ad) m c) (hl:news.length=m*size) (hnews:∀j u,news[j]?=some u→w.cell? (ad.add j)=some u) (h1:∀u∈news,u.oneCell'=true)
    (h63:n+m≤maxLen) (hbytes:(n+m)*bytes≤140737488355328) (hbase:base≤w.heap.size)
    (h:∀v' w',w'.ownsRow base e size v' (n+m) (xs++news)→w.grownBy w' v.ownBlock→(v'.ownBlock=v.ownBlock∨v'.ownBlock=some w.heap.size)→K (a.put o.dst v') w'):o.wp P a w K Q:=by
 obtain⟨v',w',hrun,h2,h3,_,h5⟩:=run_append_own_at (P:=P) w base t o.type e i z size bytes ht hi hz hsize hby hzs hsz v n xs hown ad m c news hl hnews h1 h63 hbytes hbase;unfold Oper.wp;simp[execOp,ho,resolve,invoke,builtin,hs,hx,hrun,Result.andThen];exact h v' w' h2 h3 h5
theorem xV {w:World}{base e size n:Nat}{v:Value}{xs:List Value}(h:w.ownsRow base e size v n xs):∃A c,v=.slice A n c:=by
 rcases h.2 with⟨rfl,rfl⟩|⟨g,cap,cur,rfl,_⟩
 ·exact⟨none,0,rfl⟩
 ·exact⟨_,cap,rfl⟩
theorem qdf(l:List (Nat × Bt × Bt × Bool))(x:Nat × Bt × Bt × Bool):yC (l++[x])=yC l++qf x:=by simp[yC]
theorem qaN:∀(l:List Value) (k:Nat) (acc:Array Value),k+l.length≤acc.size →
    (l.zipIdx k).foldl (fun a x=>a.setIfInBounds (0+x.2) x.1) acc=(acc.toList.take k++l++acc.toList.drop (k+l.length)).toArray
 | [],k,acc,_=>by simp
 | x::l,k,acc,h=>by
  have hk:k<acc.size:=by simp at h;omega
  have ee:k<acc.toList.length:=by simpa using hk
  rw[List.zipIdx_cons,List.foldl_cons,qaN l (k+1) _ (by simp at h ⊢;omega)]
  congr 1
  simp only[Nat.zero_add,Array.toList_setIfInBounds,List.length_cons];rw[List.drop_set_of_lt (by omega),show k+1+l.length=k+(l.length+1)by omega];have e:(acc.toList.set k x).take (k+1)=acc.toList.take k++[x]:=by
   rw[List.take_succ_eq_append_getElem (by simpa using hk)];simp only[List.getElem_set_self,List.take_set];rw[List.set_eq_of_length_le (by simp;omega)]
  rw[e];simp
theorem lO (size:Nat)(cs acc:Array Value)(h1:cs.size=size)(h2:acc.size=size):Instr.fill (fun i=>some (i*size,size)) acc [(0,.agg cs)]=some cs:=by
 simp only[Instr.fill,Nat.zero_mul,Value.cells];rw[if_neg (by simp[h1,h2])]
 congr 1
 rw[← Array.foldl_toList,Array.toList_zipIdx,qaN cs.toList 0 acc (by simp;omega)];simp;rw[List.drop_eq_nil_of_le (by simp;omega)];simp
theorem lQ {ρ:Operand→Value}{o:Oper}{w:World}(x:Operand)(cs:Array Value)(ho:o.op=.buildSlice 105 1 #[(0,x)])(hx:ρ x=.agg cs)(hs:cs.size=66) :
    (execOp ρ o).run prog w=.ok (.value (.slice (some ⟨w.heap.size,0,none⟩) 1 1)) (w.alloc (.cells cs 125)):=by
 obtain⟨i0,hi,hz0,hz1,hz2⟩:=info_parts qdd;have hr:=run_buildSlice (P:=prog) w 105 125 1 #[(0,.agg cs)] cs i0 _ underlying105 hi hz0 (by rw[hz1];decide) (by rw[hz1];decide) (by
  rw[hz1];exact lO 66 cs _ hs (by simp))
 simp[execOp,ho,hx,hr,Result.andThen]
theorem gz {ρ:Operand→Value}{o:Oper}{w:World}(x:Operand)(ho:o.op=.load 125 x)(g:Nat)(hx:ρ x=.pointer (some ⟨g,0,none⟩))(cs:Array Value)(hg:qg w g 125 cs)(hs:cs.size=66) :
    (execOp ρ o).run prog w=.ok (.value (.agg cs)) w:=by
 have:=zR (P:=prog) (w:=w) 125 x ho g 0 hx 125 cs cs.toList (0,0) _ hg underlying125 rfl (by rw[uA];simp[hs]) (fun j u hu=>by rw[Nat.zero_add];simpa using hu);simpa using this
theorem gA {ρ:Operand→Value}{o:Oper}{w:World}(x:Operand)(ho:o.op=.load 105 x)(b i:Nat)(hx:ρ x=.pointer (some ⟨b,i,none⟩))(A:Option Addr)(n c:Nat)(hc:w.cell? ⟨b,i,none⟩=some (.slice A n c)) :
    (execOp ρ o).run prog w=.ok (.value (.slice A n c)) w:=by
 unfold execOp;simp only[ho,hx];go_simp
theorem od {P:Program}{md:Region.Mode}{ops:Array Oper}{Q:Exit→Act→World→Prop}{i j l:Nat}{oi oj ol:Oper}{di dj dl:Tmp}{vi vj vl:Value}{fuel:Nat}{listed:Array Bool}{a:Act}{w w2:World}
    (hr:Region.ready md ops listed=[i,j]) (hri:Region.ready md ops (listed.setIfInBounds i true)=[j]) (q2U:Region.ready md ops ((listed.setIfInBounds i true).setIfInBounds j true)=[l])
    (hrj:Region.ready md ops (listed.setIfInBounds j true)=[i,l]) (q2V:Region.ready md ops ((listed.setIfInBounds j true).setIfInBounds l true)=[i])
    (hij:i≠j) (hil:i≠l) (hoi:ops[i]?=some oi) (hoj:ops[j]?=some oj) (hol:ops[l]?=some ol) (hgi:oi.guard=none) (hgj:oj.guard=none) (wD:ol.guard=none)
    (hdi:oi.dst=some di) (hdj:oj.dst=some dj) (hdl:ol.dst=some dl) (d1:di≠dj) (d2:di≠dl)
    (hi0:(execOp a.eval oi).run P w=.ok (.value vi) w) (hi1:(execOp (a.put (some dj) vj).eval oi).run P w=.ok (.value vi) w) (oQ:(execOp ((a.put (some dj) vj).put (some dl) vl).eval oi).run P w2=.ok (.value vi) w2)
    (hj0:(execOp a.eval oj).run P w=.ok (.value vj) w) (hj1:(execOp (a.put (some di) vi).eval oj).run P w=.ok (.value vj) w)
    (hl1:(execOp ((a.put (some di) vi).put (some dj) vj).eval ol).run P w=.ok (.value vl) w2) (hl2:(execOp (a.put (some dj) vj).eval ol).run P w=.ok (.value vl) w2)
    (h:wpAny P md ops Q fuel (((listed.setIfInBounds i true).setIfInBounds j true).setIfInBounds l true) (((a.put (some di) vi).put (some dj) vj).put (some dl) vl) w2):wpAny P md ops Q (fuel+3) listed a w:=by
 have tail:∀(b:Act) (ls:Array Bool),b=(a.put (some di) vi).put (some dj) vj→ls=(listed.setIfInBounds i true).setIfInBounds j true→wpAny P md ops Q (fuel+1) ls b w:=by
  rintro b ls rfl rfl;refine qV q2U hol wD (yn hl1 ?_);rw[hdl];exact h
 have hwi:∀b:Act,Region.wanted oi (yielded ops b.tmps)=true:=fun b=>by simp[Region.wanted,hgi]
 have hwj:∀b:Act,Region.wanted oj (yielded ops b.tmps)=true:=fun b=>by simp[Region.wanted,hgj]
 have hwl:∀b:Act,Region.wanted ol (yielded ops b.tmps)=true:=fun b=>by simp[Region.wanted,wD]
 refine wpAny_all hr (by simp) fun k hk=>?_;rcases(show k=i∨k=j by simpa using hk)with rfl|rfl
 ·unfold wpOp;simp only[hoi,hwi,if_true]
  left
  refine yn hi0 ?_;rw[hdi];refine qV hri hoj hgj (yn hj1 ?_);rw[hdj];exact tail _ _ rfl rfl
 ·unfold wpOp;simp only[hoj,hwj,if_true]
  left
  refine yn hj0 ?_;rw[hdj];refine wpAny_all hrj (by simp) fun n hn=>?_;rcases(show n=i∨n=l by simpa using hn)with rfl|rfl
  ·unfold wpOp;simp only[hoi,hwi,if_true]
   left
   refine yn hi1 ?_;rw[hdi];exact tail _ _ (dE a dj di vj vi (Ne.symm d1)) (Array.setIfInBounds_comm _ _ (Ne.symm hij))
  ·unfold wpOp;simp only[hol,hwl,if_true]
   left
   refine yn hl2 ?_;rw[hdl];refine qV q2V hoi hgi (yn oQ ?_);rw[hdi,dE _ dl di vl vi (Ne.symm d2),dE a dj di vj vi (Ne.symm d1),Array.setIfInBounds_comm _ _ (Ne.symm hil),Array.setIfInBounds_comm (xs:=listed) _ _ (Ne.symm hij)];exact h
def FG (p m:Nat)(room used:Int)(B:Nat):Nat→Value→World→Prop
 | 0,v,_=>v=.pointer (some ⟨p,0,none⟩)
 | 1,v,_=>v=.pointer (some ⟨p,0,none⟩)
 | 2,v,_=>v=.pointer (some ⟨p,1,none⟩)
 | 3,v,_=>v=.int .i64 room
 | 4,v,_=>v=.pointer (some ⟨p,0,none⟩)
 | 5,v,_=>v=.pointer (some ⟨p,0,none⟩)
 | 6,v,_=>v=.pointer (some ⟨p,2,none⟩)
 | 7,v,_=>v=.map (some m)
 | 8,v,_=>v=.int .i64 used
 | 9,v,_=>v=.int .i64 (room-used)
 | 10,v,w=>∃b,v=.pointer (some ⟨b,0,none⟩)∧B≤b∧qg w b 3 #[.int .i64 0]
 | _,_,_=>True
theorem qnJ(p m:Nat)(room used:Int)(B:Nat)(i:Nat)(v:Value)(w w':World)(hi:i<11)(h:FG p m room used B i v w)(hb:Below w.heap.size w w'):FG p m room used B i v w':=by
 match i,hi,h with
 | 0,_,h | 1,_,h | 2,_,h | 3,_,h | 4,_,h | 5,_,h | 6,_,h | 7,_,h | 8,_,h | 9,_,h=>exact h
 | 10,_,⟨b,h1,h2,h3⟩=>exact⟨b,h1,h2,h3.of_block (hb.block b h3.lt)⟩
def qjY (p:Nat)(free:Int)(w:World)(e:Ending)(w':World):Prop :=
 ∃B4 B3 a,e=.returned (.func (.func 218) #[] #[.pointer (some ⟨w.heap.size,0,none⟩),.pointer (some ⟨B4,0,none⟩),.pointer (some ⟨B3,0,none⟩)]) ∧
  Env w' p w.heap.size B4 B3 a free []∧Below w.heap.size w w'∧w.heap.size≤a
section
variable {w:World} {p m:Nat} {v:Value} {d:DD} {own:Nat→Prop}
theorem qdh{most:Nat}(h0:d.ok most)(h:kP w own p m v d) :
    Calls prog 202 #[.pointer (some ⟨p,0,none⟩)] w (qjY p (d.room-(d.used:Int)) w):=by
 have hmm:=@run_makeMap prog;have HM:=QH h.2.1;have hp:=h.1.lt;have hml:=h.2.1.lt;obtain⟨c0,c1,c2,c3,c4,c5⟩:=ju h.1;have r0:=h0.qxq;have r1:=h0.qjP;have hu:d.used≤1024:=by
  have:=rZ d.now;rw[d.yo]at this;have:=h0.n1;unfold DD.used;omega
 have HU:Hid (cnt d.now=d.used):=rfl;clear h h0 c0 c3 c4 c5;generalize hroom:d.room=room at *;generalize qxw:d.used=used at *;clear hroom qxw;go_enter func202,ntmps202;go_wp2_with fail;have jT:(w.alloc (.cells #[.pointer (some ⟨p,0,none⟩)] 24)).heap[w.heap.size]?=some (.cells #[.pointer (some ⟨p,0,none⟩)] 24 (0,0)):=heap_alloc_new w _;have hold:∀k,k<w.heap.size→(w.alloc (.cells #[.pointer (some ⟨p,0,none⟩)] 24)).heap[k]?=w.heap[k]? :=fun k hk=>Below.heap_alloc w _ k hk;have hsz:(w.alloc (.cells #[.pointer (some ⟨p,0,none⟩)] 24)).heap.size=w.heap.size+1:=by simp
 have hB0:Below w.heap.size w (w.alloc (.cells #[.pointer (some ⟨p,0,none⟩)] 24)):=(Below.refl _ w).alloc (Nat.le_refl _) _;generalize w.alloc (.cells #[.pointer (some ⟨p,0,none⟩)] 24)=w1 at *;refine bB (by kernel_rfl) 11 [5,6,7,8,9,10,11,12,13,14,3] (by kernel_rfl) (FG p m room (used:Int) w1.heap.size) (qnJ _ _ _ _ _) ?_ ?_
 ·intro i o vs ρ W hi ho hρ hb hG;have t5:=hρ.at_ 5 0 rfl;have t6:=hρ.at_ 6 1 rfl;have t7:=hρ.at_ 7 2 rfl;have t8:=hρ.at_ 8 3 rfl;have t9:=hρ.at_ 9 4 rfl;have t10:=hρ.at_ 10 5 rfl;have t11:=hρ.at_ 11 6 rfl;have t12:=hρ.at_ 12 7 rfl;have t13:=hρ.at_ 13 8 rfl;have t1:ρ (.tmp 1)=.pointer (some ⟨w.heap.size,0,none⟩):=hρ.out 1 rfl;have hc:=hρ.const;have k1:W.cell? ⟨w.heap.size,0,none⟩=some (.pointer (some ⟨p,0,none⟩)):=by rw[hb.cell (p:=⟨w.heap.size,0,none⟩) (by simp[hsz]),cell_of_row _ _ _ _ _ _ jT];rfl
  have q1:W.cell? ⟨p,1,none⟩=some (.int .i64 room):=by rw[hb.cell (p:=⟨p,1,none⟩) (by simp[hsz];omega),World.cell?_of_block (a:=⟨p,1,none⟩) (hold p hp)];exact c1
  have q2:W.cell? ⟨p,2,none⟩=some (.map (some m)):=by rw[hb.cell (p:=⟨p,2,none⟩) (by simp[hsz];omega),World.cell?_of_block (a:=⟨p,2,none⟩) (hold p hp)];exact c2
  have hmW:zA W m d.now:=HM.out.of_block ((hb.block m (by omega)).trans (hold m hml));rcases i with _|_|_|_|_|_|_|_|_|_|_|i;all_goals (first|omega|skip)
  all_goals simp only[QA,QB,QC,Option.some.injEq]at ho
  all_goals subst ho
  ·exact qc (w':=W) (by unfold execOp;simp only[t1];go_simp) ⟨Below.refl _ _,rfl⟩
  ·have g:vs 0=_:=hG 0 (by kernel_rfl);exact qc (w':=W) (by unfold execOp;simp only[t5,g];go_simp) ⟨Below.refl _ _,rfl⟩
  ·have g:vs 1=_:=hG 1 (by kernel_rfl);exact qc (w':=W) (by unfold execOp;simp only[t6,g];go_simp) ⟨Below.refl _ _,rfl⟩
  ·have g:vs 2=_:=hG 2 (by kernel_rfl);exact qc (w':=W) (by unfold execOp;simp only[t7,g];go_simp) ⟨Below.refl _ _,rfl⟩
  ·exact qc (w':=W) (by unfold execOp;simp only[t1];go_simp) ⟨Below.refl _ _,rfl⟩
  ·have g:vs 4=_:=hG 4 (by kernel_rfl);exact qc (w':=W) (by unfold execOp;simp only[t9,g];go_simp) ⟨Below.refl _ _,rfl⟩
  ·have g:vs 5=_:=hG 5 (by kernel_rfl);exact qc (w':=W) (by unfold execOp;simp only[t10,g];go_simp) ⟨Below.refl _ _,rfl⟩
  ·have g:vs 6=_:=hG 6 (by kernel_rfl);exact qc (w':=W) (by unfold execOp;simp only[t11,g];go_simp) ⟨Below.refl _ _,rfl⟩
  ·have g:vs 7=_:=hG 7 (by kernel_rfl);exact qc (w':=W) (qjS (.tmp 12) rfl (t12.trans g) hmW) ⟨Below.refl _ _,by rw[HU.out];rfl⟩
  ·have g3:vs 3=_:=hG 3 (by kernel_rfl);have g8:vs 8=_:=hG 8 (by kernel_rfl);exact qc (w':=W) (by unfold execOp;simp only[t8,g3,t13,g8];go_simp;exact IntWalk.i64_in _ (by omega)) ⟨Below.refl _ _,rfl⟩
  ·exact qc (v:=.pointer (some ⟨W.heap.size,0,none⟩)) (w':=W.alloc (.cells #[.int .i64 0] 3)) (by unfold execOp;go_simp) ⟨(Below.refl _ _).alloc (Nat.le_refl _) _,W.heap.size,rfl,hb.size,qg.new _ _ _⟩
 ·intro vs W hb hG;have g9:vs 9=_:=hG 9 (by decide);obtain⟨b3,g10,hb3,hk3⟩:∃b,vs 10=.pointer (some ⟨b,0,none⟩)∧w1.heap.size≤b∧qg W b 3 #[.int .i64 0]:=hG 10 (by decide);simp only[zJ,qP,if_true];rw[g9,g10];generalize vs 0=x0;generalize vs 1=x1;generalize vs 2=x2;generalize vs 3=x3;generalize vs 4=x4;generalize vs 5=x5;generalize vs 6=x6;generalize vs 7=x7;generalize vs 8=x8;clear hG g9 g10;have k3:W.cell? ⟨b3,0,none⟩=some (.int .i64 0):=hk3.cell 0;have f3:=hk3.frozen 0;have og:=QH hk3;have hbW:=hb.size;have HB:=QH (hB0.trans (hb.mono (by omega)));have HX:=QH ((hb.block w.heap.size (by omega)).trans jT);have q8R:=hk3.lt;clear hk3 hb hB0 hold jT c1 c2;go_simp;refine qV (i:=11) (by kernel_rfl) rfl rfl ?_;go_simp;refine⟨by kernel_rfl,?_⟩;go_wp2;go_ret;generalize hW2:W.setCell ⟨b3,0,none⟩ (.int .i64 (room-(used:Int)))=W2;have hs2:W2.heap.size=W.heap.size:=by rw[← hW2,size_set]
  have hk2:qg W2 b3 3 #[.int .i64 (room-(used:Int))]:=by rw[← hW2];exact og.out.qo 0 _
  have hx2:qg W2 w.heap.size 24 #[.pointer (some ⟨p,0,none⟩)]:=by
   unfold qg;rw[← hW2,zV _ _ _ _ _ (by omega)];exact HX.out
  have hB2:Below w.heap.size w W2:=by rw[← hW2];exact HB.out.setCell (by simp;omega) _
  refine⟨W.heap.size+1,b3,W.heap.size,rfl,⟨?_,?_,?_,?_⟩,?_,?_⟩
  ·refine(hx2.of_block (Below.heap_alloc _ _ _ (by omega))).of_block (Below.heap_alloc _ _ _ (by simp;omega))
  ·rw[← hs2];exact heap_alloc2_new _ _ _
  ·refine(hk2.of_block (Below.heap_alloc _ _ _ (by omega))).of_block (Below.heap_alloc _ _ _ (by simp;omega))
  ·rw[← hs2];exact(yh.made W2).of_block (Below.heap_alloc _ _ _ (by simp))
  ·exact(hB2.alloc (by omega) _).alloc (by simp;omega) _
  ·omega
end
end Go.Proofs.YtdagdllomphidaaGreatDoor.dk
namespace Go.Proofs.YtdagdllomphidaaGreatDoor.dk
open _root_.Go.Proofs.Tryz Go Go.RowKit
def tell (d:DD):List Int→List Int→Bool
 | _,[]=>true
 | acc,x::r=>if (ask d acc x).1 then tell d (ask d acc x).2 r else false
theorem eQ (s:qA):∀(l acc:List Int),acc.length≤(fresh s acc l).length
 | [],_=>Nat.le_refl _
 | x::r,acc=>by
  unfold fresh;split
  ·exact eQ s r acc
  ·exact Nat.le_trans (by simp) (eQ s r (acc++[x]))
theorem sj (d:DD):∀(l acc:List Int),(acc.length=0∨(acc.length:Int)≤d.room-(d.used:Int)) →
    tell d acc l=(l.all d.has&&(decide ((fresh d.now acc l).length=0) || decide (((fresh d.now acc l).length:Int)≤d.room-(d.used:Int))))
 | [],acc,h=>by
  show true=_;simp only[List.all_nil,fresh,Bool.true_and];rcases h with h|h <;> simp[h]
 | x::r,acc,h=>by
  unfold tell;by_cases hh:d.has x=true
  ·by_cases hs:(look d.now x).isSome=true
   ·have e:ask d acc x=(true,acc):=by unfold ask;rw[if_neg (by rw[hh];simp),if_pos hs]
    rw[e];simp only[if_true,List.all_cons,hh,Bool.true_and];rw[sj d r acc h]
    conv=>rhs;unfold fresh
    rw[hs];rfl
   ·have e:ask d acc x=(decide (((xM acc x).length:Int)≤d.room-(d.used:Int)),xM acc x):=by unfold ask;rw[if_neg (by rw[hh];simp),if_neg hs]
    have hf:fresh d.now acc (x::r)=fresh d.now (xM acc x) r:=by
     conv=>lhs;unfold fresh
     unfold xM;rw[show(look d.now x).isSome=false from by simpa using hs,Bool.false_or];split <;> rfl
    rw[e,hf];simp only[List.all_cons,hh,Bool.true_and];by_cases hle:((xM acc x).length:Int)≤d.room-(d.used:Int)
    ·rw[decide_eq_true hle,if_pos rfl];exact sj d r _ (.inr hle)
    ·rw[decide_eq_false hle,if_neg (by simp)];have h1:=eQ d.now r (xM acc x);have h2:0<(xM acc x).length:=by
      unfold xM;split
      ·rename_i hc;cases acc with
       | nil=>simp at hc
       | cons=>simp
      ·simp
     rw[decide_eq_false (by omega),decide_eq_false (by omega)];simp
  ·have e:ask d acc x=(false,acc):=by unfold ask;rw[if_pos (by simpa using hh)]
   rw[e];simp[hh]
theorem qgD(d:DD)(l:List Int):tell d [] l=d.fits l:=sj d l [] (.inl rfl)
def qJ (w:World)(a:Option Addr)(zs:List Int):Prop :=
 ∀i (h:i<zs.length),∃b o,a=some ⟨b,o,none⟩∧b<w.heap.size∧w.cell? ⟨b,o+i,none⟩=some (.int .i64 zs[i]) ∧ -9223372036854775808≤zs[i]∧zs[i]≤9223372036854775807
def okB (r:Bool)(w:World)(e:Ending)(w':World):Prop:=e=.returned (.bool r)∧Below w.heap.size w w'
section
variable {w:World} {p m:Nat} {v:Value} {d:DD} {own:Nat→Prop} {B1 B4 B3 a:Nat} {acc:List Int}
theorem qnK{most:Nat}(h0:d.ok most)(h:kP w own p m v d)(he:Env w p B1 B4 B3 a (d.room-(d.used:Int)) acc)(x:Int)(hl:acc.length<maxLen) :
    Calls prog 218 #[.int .i64 x,.pointer (some ⟨B1,0,none⟩),.pointer (some ⟨B4,0,none⟩),.pointer (some ⟨B3,0,none⟩)] w (iR (ask d acc x) a w):=by
 unfold ask;by_cases hh:d.has x=true
 ·by_cases hs:(look d.now x).isSome=true
  ·rw[if_neg (by rw[hh];simp),if_pos hs];exact qnG h0 h he x hh hs
  ·rw[if_neg (by rw[hh];simp),if_neg hs];exact qnH h0 h he x hh (by simpa using hs) hl
 ·rw[if_pos (by simpa using hh)];exact qnF h he x (by simpa using hh)
theorem Env.step{w':World}{free:Int}{qxx:List Int}(h:Env w p B1 B4 B3 a free acc)(hs:yh w' a qxx)(hb:qB (fun k=>k=a) w w'):Env w' p B1 B4 B3 a free qxx:=by
 have hne:∀ {B t cs},qg w B t cs→B≠a:=by
  rintro B t cs hB rfl;obtain⟨D,⟨es,clock,q,_⟩,_⟩:=h.qo;unfold qg at hB;rw[q]at hB;cases hB
 exact⟨h.b1.of_block (hb.block _ h.b1.lt (hne h.b1)),h.b4.of_block (hb.block _ h.b4.lt (hne h.b4)),h.b3.of_block (hb.block _ h.b3.lt (hne h.b3)),hs⟩
theorem qnL(d:DD)(acc:List Int)(x:Int):(ask d acc x).2.length≤acc.length+1:=by
 unfold ask;split
 ·simp
 ·split
  ·simp
  ·unfold xM;split <;> simp
def qtF (d:DD)(zs:List Int)(w:World)(p B1 B4 B3 a:Nat)(i:Value)(wr:World):Prop :=
 ∃k:Nat,k≤zs.length∧i=.int .i64 (k:Int)∧Below w.heap.size w wr∧∃acc,Env wr p B1 B4 B3 a (d.room-(d.used:Int)) acc∧acc.length≤k∧tell d acc (zs.drop k)=d.fits zs
theorem bP {most:Nat}(h:zj most w own p d)(A:Option Addr)(c:Nat)(zs:List Int)(hz:qJ w A zs)(hzl:zs.length≤1000000) :
    Calls prog 167 #[.pointer (some ⟨p,0,none⟩),.slice A zs.length c] w (okB (d.fits zs) w):=by
 obtain⟨h0,m,v,h1⟩:=h;have H0:=QH h0;have H1:=QH h1;have HZ:=QH hz;have HF:=QH (qdh h0 h1);have xE:=h1.2.2.2.2.2.2;have HL:=QH xE;clear h0 h1 hz xE;go_enter func167,ntmps167;go_wp2_with (go_at_call 202;refine HF.out.mono ?_);rintro e W1 ⟨B4,B3,a,rfl,hE,hb,ha⟩;have HE:=QH hE;have HB:=QH hb;have HA:=QH ha;clear hE hb ha;go_wp2_with fail;go_loopw [14] (fun i wr=>qtF d zs w p w.heap.size B4 B3 a i wr) (fun i _=>zs.length-(intOf i).toNat);case atStart=>exact⟨0,Nat.zero_le _,rfl,HB.out,[],HE.out,Nat.le_refl _,qgD d zs⟩
 case round =>
  obtain⟨k,hk,rfl,hB,acc,hEn,hac,htl⟩:=hrel;have HBr:=QH hB;have HEr:=QH hEn;have HT:=QH htl;have HAc:=QH hac;by_cases hlt:k<zs.length
  ·obtain⟨b,o,rfl,hbw,lR,hx0,hx1⟩:=HZ.out k hlt;have hcell:wr.cell? ⟨b,o+k,none⟩=some (.int .i64 zs[k]):=by rw[hB.cell (p:=⟨b,o+k,none⟩) hbw];exact lR
   have hkr:kP wr own p m v d:=H1.out.keep hB.size (fun j hj=>hB.block j (HL.out j hj));have qxz:=qnK H0.out hkr hEn zs[k] (by unfold maxLen;omega);have hbs:b<wr.heap.size:=Nat.lt_of_lt_of_le hbw hB.size;have qx0:d.fits zs=if (ask d acc zs[k]).1 then tell d (ask d acc zs[k]).2 (zs.drop (k+1))else false:=by
    rw[← htl,List.drop_eq_getElem_cons hlt];rfl
   have hal:=qnL d acc zs[k];generalize zs[k]=x at *;have tW:=QH qx0;have HAL:=QH hal;have qx1:=QH qxz;clear qx0 hal qxz hB hEn htl hac lR hbw hkr;cases hq:(ask d acc x).1 with
   | true =>
    have HQ:=QH hq;rw[hq,if_pos rfl]at tW;clear hq;go_wp2_with (go_at_call 218;refine qx1.out.mono ?_);rintro e w2 ⟨rfl,hs2,hb2⟩;rw[HQ.out];have uk:=QH hs2;have qG:=QH hb2;clear hs2 hb2;go_wp2_with fail;go_roundw;case rel=>exact⟨k+1,by omega,by go_num,HBr.out.trans (qG.out.below (fun i e=>by subst e;exact HA.out) HBr.out.size),_,HEr.out.step uk.out qG.out,(by have:=HAc.out;have:=HAL.out;omega),tW.out.symm⟩
    case measure=>simp[intOf];omega
   | false =>
    have HQ:=QH hq;rw[hq,if_neg (by simp)]at tW;clear hq;go_wp2_with (go_at_call 218;refine qx1.out.mono ?_);rintro e w2 ⟨rfl,hs2,hb2⟩;rw[HQ.out];have qG:=QH hb2;clear hs2 hb2;go_wp2_with fail;go_ret;exact⟨(by rw[tW.out];rfl),HBr.out.trans (qG.out.below (fun i e=>by subst e;exact HA.out) HBr.out.size)⟩
  ·have hkn:k=zs.length:=by omega
   subst hkn;clear hB hEn htl hac;go_wp2_with fail;go_ret;have:=HT.out;rw[List.drop_length]at this;exact⟨by rw[← this];rfl,HBr.out⟩
end
end Go.Proofs.YtdagdllomphidaaGreatDoor.dk
namespace Go.Proofs.YtdagdllomphidaaGreatDoor.dk
open _root_.Go.Proofs.Tryz Go Go.RowKit
section
variable {w:World} {p m:Nat} {v:Value} {d:DD} {own:Nat→Prop}
theorem xF (d:DD):d.oper.base=d.base∧d.oper.more=d.more∧d.oper.room=d.room:=by
 unfold DD.oper DD.off;split
 ·exact⟨rfl,rfl,rfl⟩
 ·split <;> exact⟨rfl,rfl,rfl⟩
theorem gB (d:DD):d.oper.now=d.now:=by unfold DD.now;rw[(xF d).1,(xF d).2.1]
theorem qjZ(d:DD):d.oper.n=d.n:=by unfold DD.n;rw[(xF d).1]
theorem qka(d:DD)(k:Int)(hh:d.has k=true):d.fits [k]=((look d.now k).isSome || decide ((d.used:Int)<d.room)):=by
 unfold DD.fits;simp only[List.all_cons,List.all_nil,hh,Bool.and_self,Bool.true_and,fresh];by_cases hx:(look d.now k).isSome=true
 ·simp[hx]
 ·simp[hx];omega
theorem lS (w:World)(k:Int)(h0 : -9223372036854775808≤k)(h1:k≤9223372036854775807):qJ (w.alloc (.cells #[.int .i64 k] 3)) (some ⟨w.heap.size,0,none⟩) [k]:=by
 intro i h;have hi:i=0:=by simpa using h
 subst hi;refine⟨w.heap.size,0,rfl,by simp,?_,h0,h1⟩;rw[cell_of_row _ _ _ _ _ _ (heap_alloc_new w _)];rfl
theorem eR {most:Nat}(h:zj most w own p d)(zK:d.on=false)(k:Int)(s:ByteArray) :
    Calls prog 131 #[.pointer (some ⟨p,0,none⟩),.int .i64 k,.string s] w (xd most own p d (.int .i64 6) w):=by
 have H:=QH h;obtain⟨h0,m,v,h1⟩:=h;obtain⟨c0,c1,c2,c3,c4,c5⟩:=ju h1.1;rw[zK]at c4;clear h0 h1 c0 c1 c2 c3 c5 zK;go_enter func131,ntmps131;go_wp2_with fail;go_ret;exact⟨rfl,own,H.out,qB.refl _ _,kQ.refl _ _⟩
theorem qgE{most:Nat}(h:zj most w own p d)(zK:d.on=true)(k:Int)(hh:d.has k=false)(s:ByteArray) :
    Calls prog 131 #[.pointer (some ⟨p,0,none⟩),.int .i64 k,.string s] w (xd most own p d (.int .i64 2) w):=by
 have H:=QH h;obtain⟨h0,m,v,h1⟩:=h;have hhas:=jE h1 k;rw[hh]at hhas;have HH:=QH hhas;obtain⟨c0,c1,c2,c3,c4,c5⟩:=ju h1.1;rw[zK]at c4;clear h0 h1 c0 c1 c2 c3 c5 zK hhas hh;go_enter func131,ntmps131;go_wp2_with (go_at_call 134;refine HH.out.mono ?_;rintro e w' ⟨rfl,rfl⟩);go_ret;exact⟨rfl,own,H.out,qB.refl _ _,kQ.refl _ _⟩
theorem qgF{most:Nat}(h:zj most w own p d)(zK:d.on=true)(k:Int)(hh:d.has k=true)(s:ByteArray)(hs:s.size≠32) :
    Calls prog 131 #[.pointer (some ⟨p,0,none⟩),.int .i64 k,.string s] w (xd most own p d (.int .i64 2) w):=by
 have H:=QH h;obtain⟨h0,m,v,h1⟩:=h;have hhas:=jE h1 k;rw[hh]at hhas;have HH:=QH hhas;obtain⟨c0,c1,c2,c3,c4,c5⟩:=ju h1.1;rw[zK]at c4;have hsz:((s.size:Int) == 32)=false:=by rw[beq_eq_false_iff_ne];omega
 clear h0 h1 c0 c1 c2 c3 c5 zK hhas hh hs;go_enter func131,ntmps131;go_wp2_with (go_at_call 134;refine HH.out.mono ?_;rintro e w' ⟨rfl,rfl⟩);go_ret;exact⟨rfl,own,H.out,qB.refl _ _,kQ.refl _ _⟩
theorem qdi{most:Nat}(h:zj most w own p d)(zK:d.on=true)(k:Int)(hh:d.has k=true)(s:ByteArray)(hs:s.size=32)(hf:d.fits [k]=false) :
    Calls prog 131 #[.pointer (some ⟨p,0,none⟩),.int .i64 k,.string s] w (xd most own p d (.int .i64 7) w):=by
 have hk0:0≤k∧k<(d.n:Int):=by simpa[DD.has]using hh
 have hn:=h.1.n1;have h2:zj most (w.alloc (.cells #[.int .i64 k] 3)) own p d:=h.keep (by simp) (fun j hj=>Below.heap_alloc _ _ _ (h.2.choose_spec.choose_spec.2.2.2.2.2.2 j hj));have HF:=QH (bP h2 _ 1 [k] (lS w k (by omega) (by omega)) (by simp));rw[hf]at HF;have H:=QH h;have H2:=QH h2;have xE:∀j,own j→j<w.heap.size:=fun j hj=>h.2.choose_spec.choose_spec.2.2.2.2.2.2 j hj;have HL:=QH xE;obtain⟨h0,m,v,h1⟩:=h;have hhas:=jE h1 k;rw[hh]at hhas;have HH:=QH hhas;obtain⟨c0,c1,c2,c3,c4,c5⟩:=ju h1.1;rw[zK]at c4;have hsz:((s.size:Int) == 32)=true:=by rw[beq_iff_eq];omega
 clear h0 h1 c0 c1 c2 c3 c5 zK hhas hh hs hf h2 xE hk0 hn;go_enter func131,ntmps131;go_wp2_with (first|(go_at_call 134;refine HH.out.mono ?_;rintro e w' ⟨rfl,rfl⟩)|(go_at_call 167;refine HF.out.mono ?_;rintro e w2 ⟨rfl,hb2⟩;have qG:=QH hb2;clear hb2));go_ret;have hB:Below w.heap.size w w2:=((Below.refl _ w).alloc (Nat.le_refl _) _).trans (qG.out.mono (by simp));exact⟨rfl,own,H.out.keep hB.size (fun j hj=>hB.block j (HL.out j hj)),qB.of_below hB,kQ.refl _ _⟩
end
end Go.Proofs.YtdagdllomphidaaGreatDoor.dk
namespace Go.Proofs.YtdagdllomphidaaGreatDoor.dk
open _root_.Go.Proofs.Tryz Go Go.RowKit
theorem qdj(d:DD)(k:Int)(v:Bt):(d.write k v).2.more.length≤d.more.length+1:=by
 have ho:=(xF d).2.1;unfold DD.write;split
 ·simp
 ·split
  ·simp
  ·split
   ·simp
   ·split
    ·simp[ho]
    ·simp
end Go.Proofs.YtdagdllomphidaaGreatDoor.dk
namespace Go.Proofs.YtdagdllomphidaaGreatDoor
open _root_.Go.Proofs.Tryz Go
def kd (n:Nat):Nat:=if n%2=1 then n/2^^^3988292384 else n/2
def xG:Nat→Nat→Nat
 | 0,n=>n
 | k+1,n=>xG k (kd n)
def uY (n:Nat)(b:UInt8):Nat:=xG 8 (n^^^b.toNat)
def oh (n:Nat)(l:List UInt8):Nat:=l.foldl uY n
def vP (l:List UInt8):Nat:=oh 4294967295 l^^^4294967295
theorem lT (n:Nat):kd n=n/2^^^(if n%2=1 then 3988292384 else 0):=by
 unfold kd;split <;> simp
theorem qkb(a b:Nat):(a^^^b)%2=(a%2)^^^(b%2):=Nat.xor_mod_two_pow (n:=1)
theorem qgG(a b:Nat):kd (a^^^b)=kd a^^^kd b:=by
 rw[lT,lT a,lT b,Nat.xor_div_two,qkb];have ha:a%2=0∨a%2=1:=by omega
 have hb:b%2=0∨b%2=1:=by omega
 have h2:∀x y p:Nat,x^^^(y^^^p)=x^^^y^^^p:=fun x y p=>(Nat.xor_assoc x y p).symm;have h3:∀x p:Nat,x^^^p^^^p=x:=fun x p=>by
  rw[Nat.xor_assoc,Nat.xor_self,Nat.xor_zero]
 have h4:∀x y p:Nat,x^^^p^^^y=x^^^y^^^p:=fun x y p=>by
  rw[Nat.xor_assoc,Nat.xor_comm p y,← Nat.xor_assoc]
 rcases ha with ha|ha <;> rcases hb with hb|hb <;> simp[ha,hb,h2,h3,h4]
theorem aF:∀(k a b:Nat),xG k (a^^^b)=xG k a^^^xG k b
 | 0,_,_=>rfl
 | k+1,a,b=>by simp only[xG,qgG,aF k]
theorem qkc(n:Nat)(h:n<4294967296):kd n<4294967296:=by
 unfold kd;split
 ·exact Nat.xor_lt_two_pow (n:=32) (by omega) (by omega)
 ·omega
theorem pG:∀(k n:Nat),n<4294967296→xG k n<4294967296
 | 0,_,h=>h
 | k+1,n,h=>pG k _ (qkc n h)
theorem qpM(b:UInt8):b.toNat<256:=b.toNat_lt
theorem qaO(n:Nat)(b:UInt8)(h:n<4294967296):n^^^b.toNat<4294967296:=by
 have:=qpM b;exact Nat.xor_lt_two_pow (n:=32) (by omega) (by omega)
theorem qaP(n:Nat)(b:UInt8)(h:n<4294967296):uY n b<4294967296 :=
 pG 8 _ (qaO n b h)
theorem sq:∀(l:List UInt8) (n:Nat),n<4294967296→oh n l<4294967296
 | [],_,h=>h
 | b::l,n,h=>sq l _ (qaP n b h)
theorem qgH(l:List UInt8):vP l<4294967296 :=
 Nat.xor_lt_two_pow (n:=32) (sq l _ (by omega)) (by omega)
theorem qgI(n:Nat)(l:List UInt8)(b:UInt8):oh n (l++[b])=uY (oh n l) b:=by
 simp[oh]
def bQ:List Nat:=[0,498536548,997073096,651767980,1994146192,1802195444,1303535960,1342533948,3988292384,4027552580,3604390888,3412177804,2607071920,2262029012,2685067896,3183342108]
def xX (n f:Nat):Nat:=n/16^^^bQ.getD ((n%256^^^f)%16) 0
theorem qeX(n:Nat):n=n/16*16^^^n%16:=by
 have hd:(n/16*16^^^n%16)/2 ^ 4=n/16:=by
  rw[Nat.xor_div_two_pow];have h1:n/16*16/2 ^ 4=n/16:=by omega
  have h2:n%16/2 ^ 4=0:=by omega
  rw[h1,h2,Nat.xor_zero]
 have hm:(n/16*16^^^n%16)%2 ^ 4=n%16:=by
  rw[Nat.xor_mod_two_pow];have h1:n/16*16%2 ^ 4=0:=by omega
  have h2:n%16%2 ^ 4=n%16:=by omega
  rw[h1,h2,Nat.zero_xor]
 omega
theorem bR (m:Nat):xG 4 (m*16)=m:=by
 have h1:kd (m*16)=m*8:=by unfold kd;rw[if_neg (by omega)];omega
 have h2:kd (m*8)=m*4:=by unfold kd;rw[if_neg (by omega)];omega
 have h3:kd (m*4)=m*2:=by unfold kd;rw[if_neg (by omega)];omega
 have h4:kd (m*2)=m:=by unfold kd;rw[if_neg (by omega)];omega
 simp only[xG,h1,h2,h3,h4]
theorem qaQ:∀r:Nat,r<16→xG 4 r=bQ.getD r 0:=by decide +kernel
theorem qnM(n:Nat):xG 4 n=n/16^^^bQ.getD (n%16) 0:=by
 have h:=qeX n;have e:xG 4 (n/16*16^^^n%16)=n/16^^^bQ.getD (n%16) 0:=by
  rw[aF,bR,qaQ _ (by omega)]
 rw[← h]at e;exact e
theorem lU (j:Nat):∀(k n:Nat),xG (k+j) n=xG j (xG k n)
 | 0,n=>by simp[xG]
 | k+1,n=>by
  rw[show k+1+j=(k+j)+1 from by omega];simp only[xG];exact lU j k _
theorem dI (a b:Nat):(a^^^b)%16=(a%16)^^^(b%16):=Nat.xor_mod_two_pow (n:=4)
theorem qgJ(a b:Nat):(a^^^b)/16=(a/16)^^^(b/16):=Nat.xor_div_two_pow (n:=4)
theorem fX (n f:Nat)(hf:f/16=0):xX n f=xG 4 (n^^^f):=by
 rw[qnM,qgJ,hf,Nat.xor_zero,dI];unfold xX;rw[dI,show n%256%16=n%16 from by omega]
theorem sr (n f:Nat):xX n f=xX n (f%16):=by
 unfold xX;rw[dI,dI _ (f%16),show f%16%16=f%16 from by omega]
theorem halves(n:Nat)(b:UInt8):xX (xX n b.toNat) (b.toNat/16)=uY n b:=by
 have hb:=qpM b;unfold uY;rw[sr n,fX _ _ (by omega),fX _ _ (by omega),lU 4 4]
 congr 1
 have h:=qeX b.toNat;have e:xG 4 (n^^^b.toNat)=xG 4 (n^^^b.toNat%16)^^^b.toNat/16:=by
  have:n^^^b.toNat=(n^^^b.toNat%16)^^^b.toNat/16*16:=by
   rw[Nat.xor_assoc,Nat.xor_comm (b.toNat%16),← h]
  rw[this,aF,bR]
 exact e.symm
theorem qaR(n f:Nat)(h:n<4294967296):xX n f<4294967296:=by
 have hi:(n%256^^^f)%16<16:=Nat.mod_lt _ (by omega);have ht:∀i:Nat,i<16→bQ.getD i 0<4294967296:=by decide
 exact Nat.xor_lt_two_pow (n:=32) (by omega) (ht _ hi)
def be4 (n:Nat):List UInt8:=[UInt8.ofNat (n/16777216%256),UInt8.ofNat (n/65536%256),UInt8.ofNat (n/256%256),UInt8.ofNat (n%256)]
theorem ofNat_inj(a b:Nat)(ha:a<256)(hb:b<256)(h:UInt8.ofNat a=UInt8.ofNat b):a=b:=by
 have:=congrArg UInt8.toNat h;simp[UInt8.toNat_ofNat']at this;omega
def nsec (n:Nat):Nat:=(n+37)/32
def pad (l:List UInt8):List UInt8:=l++List.replicate (32-l.length) 0
def iH (n:Nat):List UInt8:=[UInt8.ofNat (n/256%256),UInt8.ofNat (n%256)]
def headB (t:List UInt8):List UInt8:=iH t.length++be4 (vP t)
def iI (t:List UInt8):List UInt8:=headB t++t
def yr (t:List UInt8):List UInt8:=iI t++List.replicate (nsec t.length*32-6-t.length) 0
def kR (f:List UInt8)(i:Nat):List UInt8:=(f.drop (32*i)).take 32
def chunks (k:Nat)(f:List UInt8):List (List UInt8):=(List.range k).map (kR f)
def uZ (k:Nat)(f:List UInt8):List (List UInt8):=(List.range k).map fun i=>pad (kR f i)
def qL (t:List UInt8):List (List UInt8):=uZ (nsec t.length) (iI t)
def uB (ps:List (List UInt8))(t:List UInt8):Prop:=t.length≤8192∧ps=qL t
theorem su (t:List UInt8):(headB t).length=6:=rfl
theorem gC (t:List UInt8):(iI t).length=t.length+6:=by simp[iI,su];omega
theorem sw (n:Nat):n+6≤nsec n*32:=by unfold nsec;omega
theorem bS (n:Nat):0<nsec n:=by unfold nsec;omega
theorem yO (t:List UInt8):(yr t).length=32*nsec t.length:=by
 have:=sw t.length;simp[yr,gC];omega
theorem xN (t:List UInt8):(qL t).length=nsec t.length:=by simp[qL,uZ]
theorem sx (k:Nat)(f:List UInt8):(uZ k f).length=k:=by simp[uZ]
theorem qdk(k:Nat)(f:List UInt8):uZ (k+1) f=uZ k f++[pad (kR f k)]:=by simp[uZ,List.range_succ]
theorem qaS(k:Nat)(f:List UInt8):chunks (k+1) f=chunks k f++[kR f k]:=by simp[chunks,List.range_succ]
theorem wk (f:List UInt8)(i:Nat):(kR f i).length≤32:=by simp[kR];omega
theorem lV (l:List UInt8)(h:l.length≤32):(pad l).length=32:=by simp[pad];omega
theorem qgK(t:List UInt8)(i:Nat)(h:i<nsec t.length):pad (kR (iI t) i)=kR (yr t) i:=by
 have hl:=gC t;have hn:=sw t.length;have hi:32*i≤(iI t).length:=by unfold nsec at h;omega
 have ht:32*(i+1)≤nsec t.length*32:=by omega
 unfold pad kR yr;rw[List.drop_append_of_le_length hi,List.take_append,List.take_replicate,List.length_take,List.length_drop]
 congr 1
 congr 1
 omega
theorem qaT(t:List UInt8):qL t=chunks (nsec t.length) (yr t):=by
 unfold qL uZ chunks;apply List.map_congr_left;intro i hi;exact qgK t i (by simpa using hi)
theorem gD (f:List UInt8):∀k,(chunks k f).flatten=f.take (32*k)
 | 0=>by simp[chunks]
 | k+1=>by
  rw[qaS,List.flatten_append,gD f k];simp only[List.flatten_cons,List.flatten_nil,List.append_nil,kR];rw[show 32*(k+1)=32*k+32 from by omega,List.take_add]
theorem yy (t:List UInt8):(qL t).flatten=yr t:=by
 rw[qaT,gD,List.take_of_length_le];rw[yO];exact Nat.le_refl _
theorem dJ (t:List UInt8)(i:Nat)(h:i<(qL t).length):(qL t)[i].length=32:=by
 simp only[qL,uZ,List.getElem_map];exact lV _ (wk _ _)
theorem qaU(k:Nat)(f:List UInt8):chunks (k+1) f=f.take 32::chunks k (f.drop 32):=by
 simp only[chunks,List.range_succ_eq_map,List.map_cons,List.map_map,kR]
 congr 1
 apply List.map_congr_left;intro i _;simp only[Function.comp,kR,List.drop_drop];rw[show 32*(i+1)=32+32*i from by omega]
theorem chunks_flatten:∀ps:List (List UInt8),(∀i (h:i<ps.length),ps[i].length=32)→chunks ps.length ps.flatten=ps
 | [],_=>rfl
 | p::ps,h=>by
  have h0:p.length=32:=h 0 (by simp);have ih:=chunks_flatten ps fun i hi=>h (i+1) (Nat.succ_lt_succ hi);rw[List.length_cons,qaU,List.flatten_cons,List.take_left' h0,List.drop_left' h0,ih]
theorem ve:∀ps:List (List UInt8),(∀i (h:i<ps.length),ps[i].length=32)→ps.flatten.length=32*ps.length
 | [],_=>rfl
 | p::ps,h=>by
  have h0:p.length=32:=h 0 (by simp);have ih:=ve ps fun i hi=>h (i+1) (Nat.succ_lt_succ hi);rw[List.flatten_cons,List.length_append,ih,h0,List.length_cons];omega
theorem ku (t:List UInt8):(yr t).take 2=iH t.length:=rfl
theorem sA (t:List UInt8):(yr t).drop 6=t++List.replicate (nsec t.length*32-6-t.length) 0:=rfl
theorem gF (t:List UInt8):((yr t).drop 6).take t.length=t:=by rw[sA];simp
theorem qaV(n m:Nat)(hn:n<65536)(hm:m<65536)(h:iH n=iH m):n=m:=by
 simp only[iH,List.cons.injEq,and_true]at h;have:=ofNat_inj _ _ (by omega) (by omega) h.1;have:=ofNat_inj _ _ (by omega) (by omega) h.2;omega
theorem qkd(n:Nat)(h:n<65536):256*(UInt8.ofNat (n/256%256)).toNat+(UInt8.ofNat (n%256)).toNat=n:=by
 simp[UInt8.toNat_ofNat'];omega
theorem qdl(t u:List UInt8)(ht:t.length<65536)(hu:u.length<65536)(h:yr t=yr u):t=u:=by
 have hl:=qaV _ _ ht hu (by rw[← ku,← ku,h]);rw[← gF t,← gF u,h,hl]
theorem qke(t u:List UInt8)(ht:t.length<65536)(hu:u.length<65536)(h:qL t=qL u):t=u :=
 qdl t u ht hu (by rw[← yy,← yy,h])
theorem lW (ps:List (List UInt8))(t u:List UInt8)(ht:uB ps t)(hu:uB ps u):t=u :=
 qke t u (by have:=ht.1;omega) (by have:=hu.1;omega) (by rw[← ht.2,← hu.2])
def oq (f:List UInt8):Option (List UInt8) :=
 match f with
 | a::b::_::_::_::_::r=>if r.length<256*a.toNat+b.toNat then none else some (r.take (256*a.toNat+b.toNat))
 | _=>none
theorem qdm(f:List UInt8)(h:f.length<6):oq f=none:=by
 unfold oq;split
 ·simp at h;omega
 ·rfl
theorem qeY(f:List UInt8)(h:6≤f.length):oq f=if f.length-6<256*f[0].toNat+f[1].toNat then none else some ((f.drop 6).take (256*f[0].toNat+f[1].toNat)):=by
 match f,h with
 | a::b::_::_::_::_::r,_=>simp[oq]
theorem qdn(t:List UInt8)(ht:t.length<65536):oq (yr t)=some t:=by
 have hl:=sw t.length;have hw:=yO t;have h0:(yr t)[0]'(by omega)=UInt8.ofNat (t.length/256%256):=rfl;have h1:(yr t)[1]'(by omega)=UInt8.ofNat (t.length%256):=rfl;rw[qeY _ (by omega),h0,h1,qkd _ ht,if_neg (by omega),gF]
end Go.Proofs.YtdagdllomphidaaGreatDoor
namespace Go.Proofs.YtdagdllomphidaaGreatDoor.jr
open _root_.Go.Proofs.Tryz dk wi
abbrev Wr:=Int × Bt
inductive Step where
 | w (k:Int) (v:Bt)
 | f
def jx (d:DD):Step→Int × DD
 | .w k v=>d.write k v
 | .f=>d.flush
def gG:List Step→DD→Int × DD
 | [],d=>(0,d)
 | s::r,d=>if (jx d s).1=0 then gG r (jx d s).2 else jx d s
def jv (l:List Wr):List Step:=l.map fun x=>.w x.1 x.2
def qF:List (List Wr)→List Step
 | []=>[]
 | l::r=>jv l ++ .f::qF r
def rd (s:qA)(k:Int):Bt:=(dk.look s k).getD zz
def jR (a c:Nat):Bt:=zn (a+1)++zn c++List.replicate (32-(zn (a+1)).length-(zn c).length) 0
def pairs:List (Nat × Nat):=(List.range 2).flatMap fun a=>(List.range 73).map fun c=>(a,c)
def wI (s:Bt):Option (Nat × Nat):=pairs.find? fun p=>jR p.1 p.2 == s
def wB (x:Wr):Bt:=zn x.1.toNat++fJ x.2
def qZ (l:List Wr):Bt:=zn l.length++(l.map wB).flatten
def eT:Nat→Bt→Option (List Wr × Bt)
 | 0,t=>some ([],t)
 | n+1,t=>match rdNum t with
  | none=>none
  | some (a,t1)=>match yR t1 with
   | none=>none
   | some (v,t2)=>match eT n t2 with
    | none=>none
    | some (l,r)=>some ((((min a 1024:Nat):Int),v)::l,r)
def af (t:Bt):Option (List Wr):=match rdNum t with
 | none=>none
 | some (n,r)=>if n<1∨60<n then none else match eT n r with
  | some (l,[])=>some l
  | _=>none
open Classical in
noncomputable def unB (ps:List Bt):Option Bt:=if h:∃t,uB ps t then some h.choose else none
def zO (s:qA)(a c:Nat):List Bt:=(List.range c).map fun i=>rd s ((1+a*72+i:Nat):Int)
noncomputable def gH (s:qA)(a c:Nat):Option (List Wr):=(unB (zO s a c)).bind af
def okW (n:Nat)(x:Wr):Bool:=decide (145≤x.1)&&decide (x.1<(n:Int))&&decide (x.2.length=32)
def found (acc:List Int)(l:List Wr):List Int:=l.foldl (fun acc x=>xM acc x.1) acc
def uC (n:Nat)(l:List Wr):Bool:=l.all (okW n)&&decide ((found [] l).length=l.length)
def za:Nat→List Bt→List Wr
 | _,[]=>[]
 | o,s::r=>((o:Int),s)::za (o+1) r
def lay (a:Nat)(ss:List Bt):List Wr:=za (1+a*72) ss
def yz (a:Nat)(l:List Wr):List (List Wr):=[lay (1-a) (qL (qZ l)),[(0,jR (1-a) (qL (qZ l)).length)],l]
def placesOf(bs:List (List Wr)):List Int:=bs.flatten.map (·.1)
def ky (d:DD):Int × DD:=if d.on=false then(6,d)else if d.n≤145 then(2,d)else gG (qF [[(0,jR 0 0)]]) d
def zW (d:DD)(l:List Wr):Int × DD :=
 if d.on=false then(6,d)
 else if l.length=0 then(0,d)
 else if 60<l.length then(3,d)
 else if uC d.n l=false then(2,d)
 else match wI (rd d.now 0)with
  | none=>(8,d)
  | some (a,_) =>
   if 8192<(qZ l).length∨72<(qL (qZ l)).length then(3,d)
   else if d.fits (placesOf (yz a l))=false then(7,d)
   else gG (qF (yz a l)) d
noncomputable def xa (d:DD):Int × DD :=
 if d.on=false then(6,d)
 else match wI (rd d.now 0)with
  | none=>(8,d)
  | some (a,c) =>
   if c=0 then(0,d)
   else match gH d.now a c with
    | none=>(8,d)
    | some l=>if uC d.n l=false then(8,d)else gG (qF [l]) d
theorem qtI:pairs.all (fun p=>decide ((jR p.1 p.2).length=32)&&decide (wI (jR p.1 p.2)=some p)&&decide (jR p.1 p.2≠zz))=true:=by decide +kernel
theorem qgL{a c:Nat}(ha:a<2)(hc:c≤72):(a,c)∈pairs:=by
 unfold pairs;rw[List.mem_flatMap];exact⟨a,by simpa using ha,List.mem_map.2 ⟨c,by simp;omega,rfl⟩⟩
theorem qkf{p:Nat × Nat}(h:p∈pairs):p.1<2∧p.2≤72:=by
 unfold pairs at h;rw[List.mem_flatMap]at h;obtain⟨a,ha,h⟩:=h;obtain⟨c,hc,rfl⟩:=List.mem_map.1 h;simp at ha hc;exact⟨ha,by omega⟩
theorem kS {a c:Nat}(ha:a<2)(hc:c≤72):(jR a c).length=32∧wI (jR a c)=some (a,c)∧jR a c≠zz:=by
 have:=List.all_eq_true.1 qtI (a,c) (qgL ha hc);simp only[Bool.and_eq_true,decide_eq_true_eq]at this;exact⟨this.1.1,this.1.2,this.2⟩
theorem kE {s:Bt}{a c:Nat}(h:wI s=some (a,c)):a<2∧c≤72∧s=jR a c:=by
 have h1:=List.find?_some h;have h2:=qkf (List.mem_of_find?_eq_some h);exact⟨h2.1,h2.2,(by simpa using h1:jR a c=s).symm⟩
theorem qeZ:∀(l:List Wr) (r:Bt),(∀x∈l,0≤x.1∧x.1≤1024∧x.2.length=32)→eT l.length ((l.map wB).flatten++r)=some (l,r)
 | [],r,_=>rfl
 | x::l,r,h=>by
  obtain⟨h0,h1,h2⟩:=h x (by simp);have ih:=qeZ l r (fun y hy=>h y (by simp[hy]));simp only[List.length_cons,List.map_cons,List.flatten_cons,eT,wB,List.append_assoc];rw[kC _ (by omega)];dsimp only;rw[qcx _ (by omega)];dsimp only;rw[ih];have e:((min x.1.toNat 1024:Nat):Int)=x.1:=by omega
  simp only[e]
theorem qgM(l:List Wr)(h0:1≤l.length)(h1:l.length≤60)(h:∀x∈l,0≤x.1∧x.1≤1024∧x.2.length=32):af (qZ l)=some l:=by
 unfold af qZ;rw[kC _ (by omega)];dsimp only;rw[if_neg (by omega)];have:=qeZ l [] h;rw[List.append_nil]at this;rw[this]
theorem qkg(t:Bt)(h:t.length≤8192):unB (qL t)=some t:=by
 unfold unB;have hx:∃u,uB (qL t) u:=⟨t,h,rfl⟩;rw[dif_pos hx];exact congrArg some (lW _ _ _ hx.choose_spec ⟨h,rfl⟩)
theorem qz (n:Nat):(zn n).length≤9:=by
 have:=jh n;simp[zn];omega
theorem qtJ(x:Wr)(h:x.2.length=32):(wB x).length≤50:=by
 have h1:=qz x.1.toNat;have h2:=qz x.2.length;simp only[wB,fJ,List.length_append];omega
theorem qkh(l:List Wr)(h:∀x∈l,x.2.length=32):((l.map wB).flatten).length≤50*l.length:=by
 induction l with
 | nil=>simp
 | cons x l ih =>
  have:=qtJ x (h x (by simp));have:=ih (fun y hy=>h y (by simp[hy]));simp only[List.map_cons,List.flatten_cons,List.length_append,List.length_cons];omega
theorem qgN(l:List Wr):∀acc:List Int,(found acc l).length≤acc.length+l.length:=by
 induction l with
 | nil=>intro acc;simp[found]
 | cons x l ih =>
  intro acc;have h1:=ih (xM acc x.1);have h2:(xM acc x.1).length≤acc.length+1:=by
   unfold xM;split <;> simp
  simp only[found,List.foldl_cons,List.length_cons]at h1 ⊢;omega
def nat (l:List Wr):List (Nat × Bt):=l.map fun x=>(x.1.toNat,x.2)
theorem xg:∀(l:List (Nat × Bt)) (s:qA) (k:Int),(∀x∈l,(x.1:Int)≠k)→dk.look (qK s l) k=dk.look s k
 | [],_,_,_=>rfl
 | x::l,s,k,h=>by
  rw[dH,xg l _ k (fun y hy=>h y (by simp[hy]))];exact zQ s x.1 k _ (Ne.symm (h x (by simp)))
theorem bT:∀(l:List (Nat × Bt)) (s s':qA) (k:Nat),k<s.length→k<s'.length→(∃x∈l,x.1=k)→dk.look (qK s l) (k:Int)=dk.look (qK s' l) (k:Int)
 | [],_,_,_,_,_,⟨x,hx,_⟩=>absurd hx (by simp)
 | x::l,s,s',k,hs,hs',h=>by
  rw[dH,dH];by_cases hl:∃y∈l,y.1=k
  ·exact bT l _ _ k (by simpa[dk.put]using hs) (by simpa[dk.put]using hs') hl
  ·have hx:x.1=k:=by
      obtain⟨y,hy,e⟩:=h;rcases List.mem_cons.1 hy with rfl|hy
      ·exact e
      ·exact absurd ⟨y,hy,e⟩ hl
   have hn:∀y∈l,(y.1:Int)≠(k:Int):=fun y hy e=>hl ⟨y,hy,by omega⟩;rw[xg l _ _ hn,xg l _ _ hn,hx];unfold dk.put;rw[zC _ _ _ hs,zC _ _ _ hs']
theorem qgO(l y:List (Nat × Bt))(s:qA)(k:Int)(hy:∀x∈y,x∈l)(hl:∀x∈l,x.1<s.length):dk.look (qK (qK s y) l) k=dk.look (qK s l) k:=by
 by_cases hk:∃x∈l,(x.1:Int)=k
 ·obtain⟨x,hx,rfl⟩:=hk;exact bT l _ _ x.1 (by rw[zm];exact hl x hx) (hl x hx) ⟨x,hx,rfl⟩
 ·have hn:∀x∈l,(x.1:Int)≠k:=fun x hx e=>hk ⟨x,hx,e⟩;rw[xg l _ _ hn,xg l _ _ hn,xg y _ _ (fun x hx=>hn x (hy x hx))]
end Go.Proofs.YtdagdllomphidaaGreatDoor.jr
namespace Go.Proofs.YtdagdllomphidaaGreatDoor.jr
open _root_.Go.Proofs.Tryz dk wi
abbrev BM:=qA × List (Nat × Bt)
def ap (x:BM):Step→BM
 | .w k v=>(x.1,x.2++[(k.toNat,v)])
 | .f=>(qK x.1 x.2,[])
def apL (ss:List Step)(x:BM):BM:=ss.foldl ap x
def fY (n:Nat):Step→Prop
 | .w k v=>0≤k∧k<(n:Int)∧v.length=32
 | .f=>True
def mk (d:DD)(x:BM)(on:Bool)(qi:Int):DD:={ room:=d.room,base:=x.1,more:=x.2,on:=on,qi:=qi }
def less (f:Int)(n:Nat):Int:=if f=0 then 0 else f-n
theorem qtK(s:qA)(k:Nat)(h:k<s.length)(hl:(dk.look s (k:Int)).isSome=false):cnt s<s.length:=by
 have h1:=vM s k [] h;rw[hl]at h1;have h2:=rZ (s.set k (some []));rw[h1,List.length_set]at h2;simp at h2;omega
theorem qx2(x:BM)(s:Step):(ap x s).1.length=x.1.length:=by cases s <;> simp[ap,zm]
theorem step_mk(d:DD)(zK:d.on=true)(hf:0≤d.qi)(hr:(d.n:Int)≤d.room)(s:Step)(hs:fY d.n s) :
    jx d s=if d.qi=1 then(6,mk d (d.base,d.more) false 0)else(0,mk d (ap (d.base,d.more) s) true (less d.qi 1)):=by
 have hop:d.oper=if d.qi=1 then mk d (d.base,d.more) false 0 else mk d (d.base,d.more) true (less d.qi 1):=by
  unfold DD.oper less;by_cases h1:d.qi=1
  ·rw[if_pos h1,if_pos h1];rfl
  ·rw[if_neg h1,if_neg h1];by_cases h2:1<d.qi
   ·rw[if_pos h2,if_neg (by omega)];unfold mk;rw[← zK];rfl
   ·have h0:d.qi=0:=by omega
    rw[if_neg h2,if_pos h0];obtain⟨r,b,m,o,f⟩:=d;simp only at zK h0;subst zK h0;rfl
 cases s with
 | w k v =>
  obtain⟨h0,h1,h2⟩:=hs;unfold jx DD.write;dsimp only;have hh:d.has k=true:=by simp[DD.has,h0,h1]
  rw[if_neg (by rw[zK];simp),if_neg (by rw[hh];simp[h2])];have hfull:¬ ((dk.look d.now k).isSome=false∧d.room≤(d.used:Int)):=by
   rintro⟨g1,g2⟩;obtain⟨j,rfl⟩:=Int.eq_ofNat_of_zero_le h0;have:=qtK d.now j (by rw[d.yo];omega) g1;rw[d.yo]at this;unfold DD.used at g2;omega
  rw[if_neg hfull,hop];by_cases h1:d.qi=1
  ·rw[if_pos h1,if_pos h1,if_pos (by rfl)]
  ·rw[if_neg h1,if_neg h1,if_neg (by simp[mk])];rfl
 | f =>
  unfold jx DD.flush;dsimp only;rw[if_neg (by rw[zK];simp),hop];by_cases h1:d.qi=1
  ·rw[if_pos h1,if_pos h1,if_pos (by rfl)]
  ·rw[if_neg h1,if_neg h1,if_neg (by simp[mk])];rfl
theorem bU:∀(ss:List Step) (d:DD),d.on=true→0≤d.qi→(d.n:Int)≤d.room→(∀s∈ss,fY d.n s)→(d.qi=0∨(ss.length:Int)<d.qi) →
    gG ss d=(0,mk d (apL ss (d.base,d.more)) true (less d.qi ss.length))
 | [],d,zK,hf,hr,hs,h=>by
  have e:less d.qi 0=d.qi:=by unfold less;split <;> omega
  have e2:mk d (d.base,d.more) true d.qi=d:=by
   obtain⟨r,b,m,o,f⟩:=d;simp only at zK;subst zK;rfl
  show(0,d)=_;rw[List.length_nil,e];exact congrArg (Prod.mk 0) e2.symm
 | s::r,d,zK,hf,hr,hs,h=>by
  have h1:¬ d.qi=1:=by simp only[List.length_cons]at h;omega
  have hst:=step_mk d zK hf hr s (hs s (by simp));rw[if_neg h1]at hst;unfold gG;rw[hst];dsimp only;rw[if_pos rfl];have hf':0≤less d.qi 1:=by unfold less;split <;> omega
  have hfe:less d.qi 1=0∨(r.length:Int)<less d.qi 1:=by
   simp only[List.length_cons]at h;unfold less;split <;> omega
  have hn:(mk d (ap (d.base,d.more) s) true (less d.qi 1)).n=d.n:=qx2 _ _;rw[bU r (mk d (ap (d.base,d.more) s) true (less d.qi 1)) rfl hf' (by rw[hn];exact hr) (fun x hx=>by rw[hn];exact hs x (by simp[hx])) hfe];have e:less (less d.qi 1) r.length=less d.qi (s::r).length:=by
   simp only[List.length_cons]at h ⊢;unfold less;split
   ·simp
   ·split <;> omega
  show(0,mk d (apL r (ap (d.base,d.more) s)) true (less (less d.qi 1) r.length))=_;rw[e];rfl
theorem lX:∀(ss:List Step) (d:DD),d.on=true→(d.n:Int)≤d.room→(∀s∈ss,fY d.n s)→1≤d.qi→d.qi≤(ss.length:Int) →
    gG ss d=(6,mk d (apL (ss.take (d.qi-1).toNat) (d.base,d.more)) false 0)
 | [],d,zK,hr,hs,h1,h=>by simp at h;omega
 | s::r,d,zK,hr,hs,h1,h=>by
  have hst:=step_mk d zK (by omega) hr s (hs s (by simp));unfold gG;rw[hst];by_cases hf:d.qi=1
  ·rw[if_pos hf];dsimp only;rw[if_neg (by decide),hf];rfl
  ·rw[if_neg hf];dsimp only;rw[if_pos rfl];have e:less d.qi 1=d.qi-1:=by unfold less;rw[if_neg (by omega)];rfl
   have hn:(mk d (ap (d.base,d.more) s) true (less d.qi 1)).n=d.n:=qx2 _ _;simp only[List.length_cons]at h;have hmf:(mk d (ap (d.base,d.more) s) true (less d.qi 1)).qi=d.qi-1:=e;rw[lX r (mk d (ap (d.base,d.more) s) true (less d.qi 1)) rfl (by rw[hn];exact hr) (fun x hx=>by rw[hn];exact hs x (by simp[hx])) (by omega) (by omega)];rw[hmf];have e2:(d.qi-1).toNat=(d.qi-1-1).toNat+1:=by omega
   rw[e2,List.take_succ_cons];rfl
theorem aG (a b:List Step)(x:BM):apL (a++b) x=apL b (apL a x):=List.foldl_append
theorem qdo:∀(l:List Wr) (x:BM),apL (jv l) x=(x.1,x.2++nat l)
 | [],x=>by simp[jv,nat,apL]
 | w::l,x=>by
  have ih:=qdo l (ap x (.w w.1 w.2));show apL (jv l) (ap x (.w w.1 w.2))=_;rw[ih];simp[ap,nat]
theorem qgQ(l:List Wr)(m:Nat):(jv l).take m=jv (l.take m):=by simp[jv,List.map_take]
theorem gI (l:List Wr):(jv l).length=l.length:=by simp[jv]
theorem pH (l:List Wr)(b:qA):apL (jv l++[.f]) (b,[])=(qK b (nat l),[]):=by
 rw[aG,qdo];rfl
theorem dK:∀(bs:List (List Wr)) (b:qA),apL (qF bs) (b,[])=(qK b (nat bs.flatten),[])
 | [],b=>rfl
 | l::r,b=>by
  have h:qF (l::r)=(jv l++[.f])++qF r:=by simp[qF]
  rw[h,aG,pH,dK r];rw[List.flatten_cons,show nat (l++r.flatten)=nat l++nat r.flatten from List.map_append,jb]
theorem lY:∀(bs:List (List Wr)) (m:Nat) (b:qA),m≤(qF bs).length →
    ∃(pre:List (List Wr)) (l post:_) (j:Nat),bs=pre++l++post∧(l=[]∨∃y,l=[y])∧apL ((qF bs).take m) (b,[])=(qK b (nat pre.flatten),nat (l.flatten.take j))
 | [],m,b,h=>⟨[],[],[],0,rfl,.inl rfl,by simp[qF,apL,nat,qK]⟩
 | x::r,m,b,h=>by
  have hs:qF (x::r)=(jv x++[.f])++qF r:=by simp[qF]
  by_cases hm:m≤x.length
  ·refine⟨[],[x],r,m,by simp,.inr ⟨x,rfl⟩,?_⟩;rw[hs,List.take_append_of_le_length (by simp[gI];omega),List.take_append_of_le_length (by rw[gI];exact hm),qgQ,qdo];simp[nat,qK]
  ·have hl:(jv x++[Step.f]).length=x.length+1:=by simp[gI]
   have e:(qF (x::r)).take m=(jv x++[.f])++(qF r).take (m-(x.length+1)):=by
    rw[hs,List.take_append,hl,List.take_of_length_le (by rw[hl];omega)]
   rw[hs,List.length_append,hl]at h;obtain⟨pre,l,post,j,h1,h2,h3⟩:=lY r (m-(x.length+1)) (qK b (nat x)) (by omega);refine⟨x::pre,l,post,j,by simp[h1],h2,?_⟩;rw[e,aG,pH,h3];rw[List.flatten_cons,show nat (x++pre.flatten)=nat x++nat pre.flatten from List.map_append,jb]
def uo (N:Nat)(b:qA)(a c:Nat)(l:List Wr):Prop:=(c=0∧l=[])∨(c≠0∧gH b a c=some l∧uC N l=true)
def RB (N:Nat)(tgt:Int→Bt)(b:qA):Prop :=
 b.length=N∧(∀v,some v∈b→v.length=32)∧∃a c l,wI (rd b 0)=some (a,c)∧uo N b a c l∧∀k,145≤k→rd (qK b (nat l)) k=tgt k
def JB (N:Nat)(tgt:Int→Bt)(b:qA):Prop:=RB N tgt b∧∀k,145≤k→rd b k=tgt k
structure RJ(N:Nat)(tgt:Int→Bt)(d:DD):Prop where
 on:d.on=true
 more:d.more=[]
 room:(N:Int)≤d.room
 rb:RB N tgt d.base
structure JJ(N:Nat)(tgt:Int→Bt)(d:DD):Prop extends RJ N tgt d where
 is:∀k,145≤k→rd d.base k=tgt k
theorem gJ {N:Nat}{l:List Wr}(h:uC N l=true):∀x∈l,145≤x.1∧x.1<(N:Int)∧x.2.length=32:=by
 intro x hx;unfold uC at h;simp only[Bool.and_eq_true]at h;have:=List.all_eq_true.1 h.1 x hx;simpa[okW,and_assoc]using this
theorem jd (l:List (Nat × Bt))(s:qA)(k:Int)(h:∀x∈l,(x.1:Int)≠k):rd (qK s l) k=rd s k:=by
 unfold rd;rw[xg l s k h]
theorem vQ {l:List Wr}{x:Nat × Bt}(h:x∈nat l):∃y∈l,x=(y.1.toNat,y.2):=by
 obtain⟨y,hy,rfl⟩:=List.mem_map.1 h;exact⟨y,hy,rfl⟩
theorem qki{N:Nat}{l:List Wr}(h:∀x∈l,145≤x.1∧x.1<(N:Int)∧x.2.length=32):∀x∈nat l,145≤x.1∧x.1<N∧x.2.length=32:=by
 intro x hx;obtain⟨y,hy,rfl⟩:=vQ hx;have:=h y hy;exact⟨by dsimp only;omega,by dsimp only;omega,this.2.2⟩
theorem ot {s s':qA}{a c:Nat}(h:∀i,i<c→rd s ((1+a*72+i:Nat):Int)=rd s' ((1+a*72+i:Nat):Int)):zO s a c=zO s' a c :=
 List.map_congr_left fun i hi=>h i (List.mem_range.1 hi)
theorem qaW{s s':qA}{a c:Nat}(h:∀i,i<c→rd s ((1+a*72+i:Nat):Int)=rd s' ((1+a*72+i:Nat):Int)):gH s a c=gH s' a c:=by
 unfold gH;rw[ot h]
theorem bV {N:Nat}{b:qA}{a c:Nat}{l:List Wr}(h:uo N b a c l):∀x∈l,145≤x.1∧x.1<(N:Int)∧x.2.length=32:=by
 rcases h with⟨_,rfl⟩|⟨_,_,h⟩
 ·intro x hx;cases hx
 ·exact gJ h
theorem bW {N:Nat}{b:qA}{a c:Nat}{l:List Wr}(h:uo N b a c l)(y:List (Nat × Bt))(hy:∀x∈y,∀i,i<c→x.1≠1+a*72+i):uo N (qK b y) a c l:=by
 rcases h with h|⟨h1,h2,h3⟩
 ·exact .inl h
 ·refine .inr ⟨h1,?_,h3⟩;rw[← h2];exact qaW fun i hi=>jd _ _ _ fun x hx=>by have:=hy x hx i hi;omega
theorem RB.part{N:Nat}{tgt:Int→Bt}{b:qA}(h1:b.length=N)(h2:∀v,some v∈b→v.length=32){a c:Nat}{l:List Wr}(hh:wI (rd b 0)=some (a,c))(hg:uo N b a c l)(ht:∀k,145≤k→rd (qK b (nat l)) k=tgt k)
    (y:List (Nat × Bt)) (hy:∀x∈y,x∈nat l):RB N tgt (qK b y):=by
 have hp:=qki (bV hg);obtain⟨ha,hc,_⟩:=kE hh;refine⟨by rw[zm];exact h1,uU h2 (fun x hx=>(hp x (hy x hx)).2.2),a,c,l,?_,bW hg y (fun x hx i hi=>?_),fun k hk=>?_⟩
 ·rw[jd _ _ _ (fun x hx=>?_)]
  ·exact hh
  ·have:=hp x (hy x hx);omega
 ·have:=hp x (hy x hx);have:a*72≤72:=by omega
  omega
 ·rw[← ht k hk];unfold rd;rw[qgO (nat l) y b k hy (fun x hx=>by have:=hp x hx;omega)]
theorem RB.whole{N:Nat}{tgt:Int→Bt}{b:qA}(h1:b.length=N)(h2:∀v,some v∈b→v.length=32){a c:Nat}{l:List Wr}(hh:wI (rd b 0)=some (a,c))(hg:uo N b a c l)(ht:∀k,145≤k→rd (qK b (nat l)) k=tgt k):JB N tgt (qK b (nat l)) :=
 ⟨RB.part h1 h2 hh hg ht (nat l) (fun _ h=>h),ht⟩
theorem qnO{N:Nat}{l:List Wr}(h:∀x∈l,0≤x.1∧x.1<(N:Int)∧x.2.length=32):∀s∈jv l,fY N s:=by
 intro s hs;obtain⟨x,hx,rfl⟩:=List.mem_map.1 hs;exact h x hx
theorem vR {N:Nat}:∀ {bs:List (List Wr)},(∀l∈bs,∀x∈l,0≤x.1∧x.1<(N:Int)∧x.2.length=32)→∀s∈qF bs,fY N s
 | [],_,s,hs=>by cases hs
 | l::r,h,s,hs=>by
  have e:qF (l::r)=jv l++(.f::qF r):=rfl;rw[e,List.mem_append,List.mem_cons]at hs;rcases hs with hs|rfl|hs
  ·exact qnO (h l (by simp)) s hs
  ·trivial
  ·exact vR (fun l hl=>h l (by simp[hl])) s hs
theorem qfa(d:DD)(x:BM)(f:Int)(keep:List Bool):(mk d x false f).bK keep=mk d (qK x.1 (stay x.2 keep),[]) true f:=rfl
def qtL (P:DD→Prop)(d:DD):Prop:=d.on=false∧∀keep,P (d.bK keep)
theorem qaX{N:Nat}{tgt:Int→Bt}{d:DD}(h:RJ N tgt d)(hf:0≤d.qi) :
    ((xa d).1=0∧JJ N tgt (xa d).2∧(d.qi=0→(xa d).2.qi=0)∧0≤(xa d).2.qi)∨((xa d).1=6∧qtL (RJ N tgt) (xa d).2∧d.qi≠0∧(xa d).2.qi=0):=by
 obtain⟨zK,hmo,hro,h1,h2,a,c,l,hh,hg,ht⟩:=h;have qkj:d.now=d.base:=by unfold DD.now;rw[hmo];rfl
 have hn:d.n=N:=h1;unfold xa;rw[if_neg (by rw[zK];simp),qkj,hh];dsimp only;by_cases hc:c=0
 ·rw[if_pos hc]
  left
  refine⟨rfl,⟨⟨zK,hmo,hro,h1,h2,a,c,l,hh,hg,ht⟩,fun k hk=>?_⟩,fun h=>h,hf⟩;rcases hg with⟨_,rfl⟩|⟨h',_⟩
  ·exact ht k hk
  ·exact absurd hc h'
 ·rw[if_neg hc];rcases hg with⟨h',_⟩|⟨_,hr,hp⟩
  ·exact absurd h' hc
  have rI:uo N d.base a c l:=.inr ⟨hc,hr,hp⟩;rw[hr];dsimp only;rw[hn,if_neg (by rw[hp];simp)];have hgs:∀s∈qF [l],fY d.n s:=by
   rw[hn];refine vR fun m hm x hx=>?_;obtain rfl:m=l:=by simpa using hm
   have:=gJ hp x hx;exact⟨by omega,this.2⟩
  by_cases hfu:d.qi=0∨((qF [l]).length:Int)<d.qi
  ·left
   rw[bU _ d zK hf (by rw[hn];exact hro) hgs hfu,hmo,dK];have hw:=RB.whole h1 h2 hh rI ht;refine⟨rfl,⟨⟨rfl,rfl,hro,?_⟩,?_⟩,fun h0=>?_,?_⟩
   ·show RB N tgt (qK d.base (nat [l].flatten));simpa using hw.1
   ·show ∀k,145≤k→rd (qK d.base (nat [l].flatten)) k=tgt k;simpa using hw.2
   ·show less d.qi _=0;unfold less;rw[if_pos h0]
   ·show 0≤less d.qi _;unfold less;split <;> omega
  ·right
   have h0:d.qi≠0:=fun h=>hfu (.inl h);rw[lX _ d zK (by rw[hn];exact hro) hgs (by omega) (by omega),hmo];obtain⟨pre,q,post,j,e1,e2,e3⟩:=lY [l] (d.qi-1).toNat d.base (by omega);rw[e3];refine⟨rfl,⟨rfl,fun keep=>?_⟩,h0,rfl⟩;rw[qfa];have key:∃y,(∀x∈y,x∈nat l)∧qK (qK d.base (nat pre.flatten)) (stay (nat (q.flatten.take j)) keep)=qK d.base y:=by
    refine⟨nat pre.flatten++stay (nat (q.flatten.take j)) keep,fun x hx=>?_,by rw[jb]⟩;have qaY:∀z∈pre.flatten++q.flatten,z∈l:=by
     intro z hz;have:z∈[l].flatten:=by rw[e1,List.flatten_append,List.flatten_append];exact List.mem_append_left _ hz
     simpa using this
    rcases List.mem_append.1 hx with hx|hx
    ·obtain⟨z,hz,rfl⟩:=vQ hx;exact List.mem_map.2 ⟨z,qaY z (List.mem_append_left _ hz),rfl⟩
    ·obtain⟨z,hz,rfl⟩:=vQ (bJ _ _ _ hx);exact List.mem_map.2 ⟨z,qaY z (List.mem_append_right _ (List.mem_of_mem_take hz)),rfl⟩
   obtain⟨y,hy,e4⟩:=key;refine⟨rfl,rfl,hro,?_⟩;show RB N tgt (qK (qK d.base (nat pre.flatten)) (stay (nat (q.flatten.take j)) keep));rw[e4];exact RB.part h1 h2 hh rI ht y hy
def over:(Int→Bt)→List Wr→Int→Bt
 | t,[]=>t
 | t,x::r=>over (fun k=>if k=x.1 then x.2 else t k) r
theorem vS:∀(l:List Wr) (t u:Int→Bt),(∀k,145≤k→t k=u k)→∀k,145≤k→over t l k=over u l k
 | [],_,_,h=>h
 | x::l,t,u,h=>vS l _ _ fun k hk=>by
  split
  ·rfl
  ·exact h k hk
theorem iT:∀(l:List Wr) (b:qA),(∀x∈l,0≤x.1∧x.1<(b.length:Int))→∀k,rd (qK b (nat l)) k=over (rd b) l k
 | [],_,_,_=>rfl
 | x::l,b,h,k=>by
  obtain⟨h0,h1⟩:=h x (by simp);have ih:=iT l (dk.put b x.1.toNat x.2) (fun y hy=>by rw[dk.put,List.length_set];exact h y (by simp[hy])) k;have e:qK b (nat (x::l))=qK (dk.put b x.1.toNat x.2) (nat l):=rfl;rw[e,ih];have e2:rd (dk.put b x.1.toNat x.2)=fun k=>if k=x.1 then x.2 else rd b k:=by
   funext j
   obtain⟨n,hn⟩:=Int.eq_ofNat_of_zero_le h0;unfold rd dk.put;by_cases hj:j=x.1
   ·rw[if_pos hj,hj,hn,Int.toNat_natCast,zC _ _ _ (by omega)];rfl
   ·rw[if_neg hj,zQ _ _ _ _ (by omega)]
  rw[e2];rfl
theorem yt (n:Nat)(h:n<65536):(zn n).length≤3:=by
 have e:zB n=xi 2 n:=by
  unfold zB;rw[yl 7 n (by omega),yl 6 n (by omega),yl 5 n (by omega),yl 4 n (by omega),yl 3 n (by omega),yl 2 n (by omega)]
 have:=eD 2 n;simp[zn,e];omega
theorem qkk(x:Wr)(h:x.2.length=32)(h0:x.1<65536):(wB x).length≤37:=by
 have h1:=yt x.1.toNat (by omega);have h2:(zn 32).length=2:=by decide
 simp only[wB,fJ,List.length_append,h,h2];omega
theorem vT (l:List Wr)(h60:l.length≤60)(h:∀x∈l,x.1<65536∧x.2.length=32):(qZ l).length≤2223:=by
 have key:∀l:List Wr,(∀x∈l,x.1<65536∧x.2.length=32)→((l.map wB).flatten).length≤37*l.length:=by
  intro l
  induction l with
  | nil=>intro _;simp
  | cons x l ih =>
   intro h;have:=qkk x (h x (by simp)).2 (h x (by simp)).1;have:=ih (fun y hy=>h y (by simp[hy]));simp only[List.map_cons,List.flatten_cons,List.length_append,List.length_cons];omega
 have h1:=key l h;have h2:=yt l.length (by omega);simp only[qZ,List.length_append];omega
theorem aH (l:List Wr)(h60:l.length≤60)(h:∀x∈l,x.1<65536∧x.2.length=32):1≤(qL (qZ l)).length∧(qL (qZ l)).length≤72:=by
 have:=vT l h60 h;have:=bS (qZ l).length;rw[xN];refine⟨this,?_⟩;unfold nsec;omega
theorem je:∀(ss:List Bt) (o:Nat) (x:Wr),x∈za o ss→∃i,i<ss.length∧x.1=((o+i:Nat):Int)∧ss[i]?=some x.2
 | [],_,_,h=>by cases h
 | s::r,o,x,h=>by
  rcases List.mem_cons.1 h with rfl|h
  ·exact⟨0,by simp,by simp,rfl⟩
  ·obtain⟨i,h1,h2,h3⟩:=je r (o+1) x h;exact⟨i+1,by simpa using h1,by rw[h2];omega,by simpa using h3⟩
theorem lZ:∀(ss:List Bt) (o:Nat) (b:qA),o+ss.length≤b.length→∀i (h:i<ss.length),dk.look (qK b (nat (za o ss))) ((o+i:Nat):Int)=some ss[i]
 | [],_,_,_,i,h=>absurd h (by simp)
 | s::r,o,b,hb,i,h=>by
  simp only[List.length_cons]at hb h;have e:qK b (nat (za o (s::r)))=qK (dk.put b o s) (nat (za (o+1) r)):=by
   show qK (dk.put b (o:Int).toNat s) _=_;rw[Int.toNat_natCast];rfl
  rw[e];cases i with
  | zero =>
   rw[xg _ _ _ (fun x hx=>?_)]
   ·unfold dk.put;rw[Nat.add_zero,zC _ _ _ (by omega)];rfl
   ·obtain⟨y,hy,rfl⟩:=vQ hx;obtain⟨i,_,h2,_⟩:=je r (o+1) y hy;dsimp only;omega
  | succ i =>
   have:=lZ r (o+1) (dk.put b o s) (by rw[dk.put,List.length_set];omega) i (by omega);rw[show o+(i+1)=o+1+i from by omega,this];rfl
theorem qY:∀(ss:List Bt) (o:Nat),(za o ss).length=ss.length
 | [],_=>rfl
 | s::r,o=>by simp[za,qY r]
theorem aI:∀(ss:List Bt) (o:Nat) (s:Bt),za o (ss++[s])=za o ss++[(((o+ss.length:Nat):Int),s)]
 | [],o,s=>by simp[za]
 | t::r,o,s=>by
  have:=aI r (o+1) s;simp only[List.cons_append,za,this,List.length_cons];rw[show o+1+r.length=o+(r.length+1)from by omega]
theorem ma (s:qA):∀(l acc:List Int),acc.Nodup→(∀x∈acc,0≤x∧x<(s.length:Int)∧(dk.look s x).isSome=false)→(∀x∈l,0≤x∧x<(s.length:Int)) →
    (fresh s acc l).Nodup∧∀x∈fresh s acc l,0≤x∧x<(s.length:Int)∧(dk.look s x).isSome=false
 | [],acc,h1,h2,_=>⟨h1,h2⟩
 | x::r,acc,h1,h2,h3=>by
  unfold fresh;split
  ·exact ma s r acc h1 h2 (fun y hy=>h3 y (by simp[hy]))
  ·rename_i hn;simp only[Bool.or_eq_true,not_or,List.contains_iff_mem]at hn;refine ma s r (acc++[x]) ?_ (fun y hy=>?_) (fun y hy=>h3 y (by simp[hy]))
   ·rw[List.nodup_append];refine⟨h1,by simp,fun a ha b hb=>?_⟩;obtain rfl:b=x:=by simpa using hb
    rintro rfl;exact hn.2 ha
   ·rcases List.mem_append.1 hy with hy|hy
    ·exact h2 y hy
    ·obtain rfl:y=x:=by simpa using hy
     have:=h3 y (by simp);exact⟨this.1,this.2,by simpa using hn.1⟩
theorem pI:∀(acc:List Int) (s:qA),acc.Nodup→(∀x∈acc,0≤x∧x<(s.length:Int)∧(dk.look s x).isSome=false)→cnt s+acc.length≤s.length
 | [],s,_,_=>rZ s
 | x::r,s,h1,h2=>by
  obtain⟨g0,g1,g2⟩:=h2 x (by simp);obtain⟨n,rfl⟩:=Int.eq_ofNat_of_zero_le g0;rw[List.nodup_cons]at h1;have hc:=vM s n [] (by omega);rw[g2]at hc;simp only[Bool.false_eq_true,if_false]at hc;have ih:=pI r (s.set n (some [])) h1.2 (fun y hy=>by
   obtain⟨k0,k1,k2⟩:=h2 y (by simp[hy]);refine⟨k0,by rw[List.length_set];exact k1,?_⟩;rw[zQ _ _ _ _ (fun e=>h1.1 (by rw[← e];exact hy))];exact k2)
  rw[List.length_set,hc]at ih;simp only[List.length_cons];omega
theorem qgS(d:DD)(l:List Int)(hr:(d.n:Int)≤d.room)(hl:∀x∈l,0≤x∧x<(d.n:Int)):d.fits l=true:=by
 have hn:=d.yo;obtain⟨h1,h2⟩:=ma d.now l [] List.nodup_nil (by simp) (fun x hx=>by rw[hn];exact hl x hx);have h3:=pI _ _ h1 h2;unfold DD.fits DD.used;rw[Bool.and_eq_true,Bool.or_eq_true];refine⟨List.all_eq_true.2 fun x hx=>?_,.inr ?_⟩
 ·have:=hl x hx;simp[DD.has,this.1,this.2]
 ·rw[decide_eq_true_eq];rw[hn]at h3;omega
def mf (N:Nat)(l:List Wr):Int:=if l.length=0 then 0 else if 60<l.length then 3 else if uC N l=false then 2 else 0
theorem qgT{N:Nat}{l:List Wr}(h:mf N l=0)(h0:l.length≠0):l.length≤60∧uC N l=true:=by
 unfold mf at h;rw[if_neg h0]at h;by_cases h1:60<l.length
 ·rw[if_pos h1]at h;cases h
 ·rw[if_neg h1]at h;by_cases h2:uC N l=false
  ·rw[if_pos h2]at h;cases h
  ·exact⟨by omega,by simpa using h2⟩
theorem qdp{d:DD}{l:List Wr}(zK:d.on=true)(h:mf d.n l≠0∨l.length=0):zW d l=(mf d.n l,d):=by
 unfold zW;rw[if_neg (by rw[zK];simp)];by_cases h0:l.length=0
 ·rw[if_pos h0];unfold mf;rw[if_pos h0]
 ·rw[if_neg h0];rcases h with h|h
  ·unfold mf at h ⊢;rw[if_neg h0]at h ⊢;by_cases h1:60<l.length
   ·rw[if_pos h1,if_pos h1]
   ·rw[if_neg h1]at h;rw[if_neg h1,if_neg h1];by_cases h2:uC d.n l=false
    ·rw[if_pos h2,if_pos h2]
    ·rw[if_neg h2]at h;exact absurd rfl h
  ·exact absurd h h0
section
variable {N:Nat} {tgt:Int→Bt} {b:qA} {l:List Wr}
theorem qnP(hN:145<N)(fZ:N≤1024)(h1:b.length=N)(h2:∀v,some v∈b→v.length=32)(a:Nat)(ha:a<2)(h60:l.length≤60)(h0:1≤l.length)(hp:uC N l=true) :
    ∃b2,b2=qK b (nat (lay (1-a) (qL (qZ l))++[(0,jR (1-a) (qL (qZ l)).length)]))∧b2.length=N∧(∀v,some v∈b2→v.length=32) ∧
     wI (rd b2 0)=some (1-a,(qL (qZ l)).length)∧uo N b2 (1-a) (qL (qZ l)).length l∧∀k,145≤k→rd (qK b2 (nat l)) k=over (rd b) l k:=by
 have hall:=gJ hp;have hsm:∀x∈l,x.1<65536∧x.2.length=32:=fun x hx=>by have:=hall x hx;exact⟨by omega,this.2.2⟩
 obtain⟨s1,s72⟩:=aH l h60 hsm;have qx4:=vT l h60 hsm;obtain⟨f1,f2,_⟩:=kS (show 1-a<2 by omega) s72;have qnQ:∀x∈nat (lay (1-a) (qL (qZ l))),∃i,i<(qL (qZ l)).length∧x.1=1+(1-a)*72+i∧x.2.length=32:=by
  intro x hx;obtain⟨y,hy,rfl⟩:=vQ hx;obtain⟨i,g1,g2,g3⟩:=je _ _ _ hy;refine⟨i,g1,by dsimp only;omega,?_⟩;have:=dJ (qZ l) i g1;rw[List.getElem?_eq_getElem g1]at g3;injection g3 with g3
  rw[← g3];exact this
 have e:nat (lay (1-a) (qL (qZ l))++[(0,jR (1-a) (qL (qZ l)).length)])=nat (lay (1-a) (qL (qZ l)))++[(0,jR (1-a) (qL (qZ l)).length)]:=by simp[nat]
 have xE:∀x∈nat (lay (1-a) (qL (qZ l))++[(0,jR (1-a) (qL (qZ l)).length)]),x.1<145∧x.2.length=32:=by
  rw[e];intro x hx;rcases List.mem_append.1 hx with hx|hx
  ·obtain⟨i,g1,g2,g3⟩:=qnQ x hx;have:(1-a)*72≤72:=by omega
   exact⟨by omega,g3⟩
  ·obtain rfl:x=_:=by simpa using hx
   exact⟨by dsimp only;omega,f1⟩
 have hlen:(qK b (nat (lay (1-a) (qL (qZ l))))).length=N:=by rw[zm];exact h1
 have hb2:(qK b (nat (lay (1-a) (qL (qZ l))++[(0,jR (1-a) (qL (qZ l)).length)]))).length=N:=by rw[zm];exact h1
 refine⟨_,rfl,hb2,uU h2 (fun x hx=>(xE x hx).2),?_,.inr ⟨by omega,?_,hp⟩,fun k hk=>?_⟩
 ·rw[e,uT];unfold rd dk.put;rw[show((0:Int))=((0:Nat):Int)from rfl,zC _ _ _ (by omega)];exact f2
 ·have hs:zO (qK b (nat (lay (1-a) (qL (qZ l))++[(0,jR (1-a) (qL (qZ l)).length)]))) (1-a) (qL (qZ l)).length=qL (qZ l):=by
     refine List.ext_getElem (by simp[zO]) fun i g1 g2=>?_;simp only[zO,List.getElem_map,List.getElem_range];rw[e,uT];unfold rd dk.put;rw[zQ _ _ _ _ (by omega)]
     have:=lZ (qL (qZ l)) (1+(1-a)*72) b (by have:(1-a)*72≤72:=by omega
                                             omega) i g2
     unfold lay;rw[this];rfl
  unfold gH;rw[hs,qkg _ (by omega)];exact qgM l h0 h60 (fun x hx=>by have:=hall x hx;exact⟨by omega,by omega,this.2.2⟩)
 ·rw[iT l _ (fun x hx=>by have:=hall x hx;rw[hb2];exact⟨by omega,this.2.1⟩)];exact vS l _ _ (fun j hj=>jd _ _ _ fun x hx=>by have:=(xE x hx).1;omega) k hk
theorem mg {d:DD}(hN:145<N)(fZ:N≤1024)(h:JJ N tgt d)(hf:0≤d.qi)(qx5:mf N l=0) :
    ((zW d l).1=0∧JJ N (over tgt l) (zW d l).2∧(d.qi=0→(zW d l).2.qi=0)∧0≤(zW d l).2.qi) ∨
    ((zW d l).1=6∧qtL (fun e=>RJ N tgt e∨RJ N (over tgt l) e) (zW d l).2∧d.qi≠0∧(zW d l).2.qi=0):=by
 have hJ:=h;obtain⟨⟨zK,hmo,hro,h1,h2,a,c,l0,hh,hg,ht⟩,his⟩:=h;have qkj:d.now=d.base:=by unfold DD.now;rw[hmo];rfl
 have hn:d.n=N:=h1;by_cases h0:l.length=0
 ·left
  have e:=qdp (l:=l) zK (.inr h0);rw[hn,qx5]at e;rw[e];obtain rfl:l=[]:=List.length_eq_zero_iff.1 h0;exact⟨rfl,hJ,fun h=>h,hf⟩
 obtain⟨h60,hp⟩:=qgT qx5 h0;have hall:=gJ hp;have hsm:∀x∈l,x.1<65536∧x.2.length=32:=fun x hx=>by have:=hall x hx;exact⟨by omega,this.2.2⟩
 obtain⟨s1,s72⟩:=aH l h60 hsm;have qx4:=vT l h60 hsm;obtain⟨ha,hc,_⟩:=kE hh;obtain⟨f1,_,_⟩:=kS (show 1-a<2 by omega) s72;obtain⟨b2,e2,q1,q2,q3,q4,q5⟩:=qnP hN fZ h1 h2 a ha h60 (by omega) hp;have hov:∀k,145≤k→over (rd d.base) l k=over tgt l k:=vS l _ _ his;have hgw:∀m∈yz a l,∀x∈m,0≤x.1∧x.1<(N:Int)∧x.2.length=32:=by
  intro m hm x hx;unfold yz at hm;simp only[List.mem_cons,List.not_mem_nil,or_false]at hm;rcases hm with rfl|rfl|rfl
  ·obtain⟨i,g1,g2,g3⟩:=je _ _ _ hx;have:=dJ (qZ l) i g1;rw[List.getElem?_eq_getElem g1]at g3;injection g3 with g3
   have:(1-a)*72≤72:=by omega
   exact⟨by omega,by omega,by rw[← g3];assumption⟩
  ·obtain rfl:x=_:=by simpa using hx
   exact⟨by dsimp only;omega,by dsimp only;omega,f1⟩
  ·have:=hall x hx;exact⟨by omega,this.2⟩
 have qkl:d.fits (placesOf (yz a l))=true:=by
  refine qgS d _ (by rw[hn];exact hro) fun x hx=>?_;obtain⟨y,hy,rfl⟩:=List.mem_map.1 hx;obtain⟨m,hm,hy⟩:=List.mem_flatten.1 hy;have:=hgw m hm y hy;rw[hn];exact⟨this.1,this.2.1⟩
 have e:zW d l=gG (qF (yz a l)) d:=by
  unfold zW;rw[if_neg (by rw[zK];simp),if_neg h0,if_neg (by omega),hn,if_neg (by rw[hp];simp),qkj,hh];dsimp only;rw[if_neg (by omega),if_neg (by rw[qkl];simp)]
 rw[e];have hgs:∀s∈qF (yz a l),fY d.n s:=by rw[hn];exact vR hgw
 have qx8:nat (yz a l).flatten=nat (lay (1-a) (qL (qZ l))++[(0,jR (1-a) (qL (qZ l)).length)])++nat l:=by
  simp[yz,nat]
 by_cases hfu:d.qi=0∨((qF (yz a l)).length:Int)<d.qi
 ·left
  rw[bU _ d zK hf (by rw[hn];exact hro) hgs hfu,hmo,dK,qx8,jb,← e2];have hw:=RB.whole (tgt:=over tgt l) q1 q2 q3 q4 (fun k hk=>by rw[q5 k hk];exact hov k hk);refine⟨rfl,⟨⟨rfl,rfl,hro,hw.1⟩,hw.2⟩,fun h0=>?_,?_⟩
  ·show less d.qi _=0;unfold less;rw[if_pos h0]
  ·show 0≤less d.qi _;unfold less;split <;> omega
 ·right
  have hf0:d.qi≠0:=fun h=>hfu (.inl h);rw[lX _ d zK (by rw[hn];exact hro) hgs (by omega) (by omega),hmo];obtain⟨pre,q,post,j,e1,hq,e3⟩:=lY (yz a l) (d.qi-1).toNat d.base (by omega);rw[e3];refine⟨rfl,⟨rfl,fun keep=>?_⟩,hf0,rfl⟩;rw[qfa];have old:∀y:List (Nat × Bt),(∀x∈y,x∈nat (lay (1-a) (qL (qZ l))))→RJ N tgt (mk d (qK d.base y,[]) true 0):=by
   intro y hy;have hk:∀x∈y,∃i,i<(qL (qZ l)).length∧x.1=1+(1-a)*72+i∧x.2.length=32:=by
    intro x hx;obtain⟨z,hz,rfl⟩:=vQ (hy x hx);obtain⟨i,g1,g2,g3⟩:=je _ _ _ hz;have:=dJ (qZ l) i g1;rw[List.getElem?_eq_getElem g1]at g3;injection g3 with g3
    exact⟨i,g1,by dsimp only;omega,by rw[← g3];assumption⟩
   refine⟨rfl,rfl,hro,by rw[← h1];exact zm _ _,uU h2 (fun x hx=>(hk x hx).choose_spec.2.2),a,c,l0,?_,bW hg y (fun x hx i hi=>?_),fun k ee=>?_⟩
   ·show wI (rd (qK d.base y) 0)=_;rw[jd _ _ _ (fun x hx=>?_)]
    ·exact hh
    ·obtain⟨i,_,g2,_⟩:=hk x hx;omega
   ·obtain⟨i',g1,g2,_⟩:=hk x hx;have:a=0∨a=1:=by omega
    rcases this with rfl|rfl <;> omega
   ·rw[← ht k ee];show rd (qK (qK d.base y) (nat l0)) k=_;have hin:∀x∈l0,0≤x.1∧x.1<(d.base.length:Int):=fun x hx=>by have:=bV hg x hx;rw[h1];exact⟨by omega,this.2.1⟩
    rw[iT l0 _ (fun x hx=>by rw[zm];exact hin x hx),iT l0 _ hin];refine vS l0 _ _ (fun m hm=>jd _ _ _ fun x hx=>?_) k ee;obtain⟨i,g1,g2,_⟩:=hk x hx;have:(1-a)*72≤72:=by omega
    omega
  have new:∀y:List (Nat × Bt),(∀x∈y,x∈nat l)→RJ N (over tgt l) (mk d (qK b2 y,[]) true 0):=fun y hy =>
   ⟨rfl,rfl,hro,RB.part (tgt:=over tgt l) q1 q2 q3 q4 (fun k hk=>by rw[q5 k hk];exact hov k hk) y hy⟩
  have qaY:∀(m:List Wr) (x:Nat × Bt),x∈stay (nat (m.take j)) keep→x∈nat m:=fun m x hx=>by
   obtain⟨z,hz,rfl⟩:=vQ (bJ _ _ _ hx);exact List.mem_map.2 ⟨z,List.mem_of_mem_take hz,rfl⟩
  have hnil:∀q:List (List Wr),q=[]→stay (nat (q.flatten.take j)) keep=[]:=fun q hq=>by subst hq;simp[nat,stay]
  show RJ N tgt (mk d (qK (qK d.base (nat pre.flatten)) (stay (nat (q.flatten.take j)) keep),[]) true 0)∨RJ N (over tgt l) (mk d (qK (qK d.base (nat pre.flatten)) (stay (nat (q.flatten.take j)) keep),[]) true 0);unfold yz at e1
  match pre,e1 with
  | [],e1 =>
   left
   have hq':q=[]∨q=[lay (1-a) (qL (qZ l))]:=by
    rcases hq with hq|⟨y,rfl⟩
    ·exact .inl hq
    ·simp at e1;exact .inr (by rw[e1.1])
   refine old _ fun x hx=>?_;rcases hq' with rfl|rfl
   ·rw[hnil [] rfl]at hx;cases hx
   ·have:=qaY _ x hx;simpa using this
  | [p1],e1 =>
   have hp1:p1=lay (1-a) (qL (qZ l)):=by simp at e1;exact e1.1.symm
   subst hp1;have hq':q=[]∨q=[[(0,jR (1-a) (qL (qZ l)).length)]]:=by
    rcases hq with hq|⟨y,rfl⟩
    ·exact .inl hq
    ·simp at e1;exact .inr (by rw[e1.1])
   have hst:stay (nat (q.flatten.take j)) keep=[]∨stay (nat (q.flatten.take j)) keep=nat [(0,jR (1-a) (qL (qZ l)).length)]:=by
    rcases hq' with rfl|rfl
    ·exact .inl (hnil [] rfl)
    ·match j with
     | 0=>exact .inl (by simp[nat,stay])
     | j+1 =>
      match keep with
      | []=>exact .inl (qaF _)
      | true::_=>exact .inr (by simp[nat,stay])
      | false::_=>exact .inl (by simp[nat,stay])
   rcases hst with hst|hst
   ·left
    rw[hst];have:=old (nat (lay (1-a) (qL (qZ l)))) (fun x hx=>hx);simpa[qK]using this
   ·right
    rw[hst];have:=new [] (fun x hx=>by cases hx);rw[e2,show nat (lay (1-a) (qL (qZ l))++[(0,jR (1-a) (qL (qZ l)).length)])=nat (lay (1-a) (qL (qZ l)))++nat [(0,jR (1-a) (qL (qZ l)).length)]from List.map_append,jb]at this;simpa[qK]using this
  | [p1,p2],e1 =>
   right
   have hp1:p1=lay (1-a) (qL (qZ l))∧p2=[(0,jR (1-a) (qL (qZ l)).length)]:=by simp at e1;exact⟨e1.1.symm,e1.2.1.symm⟩
   obtain⟨rfl,rfl⟩:=hp1;have hq':q=[]∨q=[l]:=by
    rcases hq with hq|⟨y,rfl⟩
    ·exact .inl hq
    ·simp at e1;exact .inr (by rw[e1.1])
   have e5:qK d.base (nat [lay (1-a) (qL (qZ l)),[(0,jR (1-a) (qL (qZ l)).length)]].flatten)=b2:=by rw[e2];simp
   rw[e5];refine new _ fun x hx=>?_;rcases hq' with rfl|rfl
   ·rw[hnil [] rfl]at hx;cases hx
   ·have:=qaY _ x hx;simpa using this
  | [p1,p2,p3],e1 =>
   right
   have hp1:p1=lay (1-a) (qL (qZ l))∧p2=[(0,jR (1-a) (qL (qZ l)).length)]∧p3=l∧q=[]:=by
    simp at e1;exact⟨e1.1.symm,e1.2.1.symm,e1.2.2.1.symm,e1.2.2.2.1⟩
   obtain⟨rfl,rfl,rfl,rfl⟩:=hp1;rw[hnil [] rfl];have e5:qK d.base (nat [lay (1-a) (qL (qZ p3)),[(0,jR (1-a) (qL (qZ p3)).length)],p3].flatten)=qK b2 (nat p3):=by rw[e2,← jb];simp[nat]
   rw[e5];have:=new (nat p3) (fun x hx=>hx);simpa[qK]using this
  | p1::p2::p3::p4::r,e1=>simp at e1
end
end Go.Proofs.YtdagdllomphidaaGreatDoor.jr
namespace Go.Proofs.YtdagdllomphidaaGreatDoor.sp
open _root_.Go.Proofs.Tryz Go Go.RowKit
def bump (cs:List Int)(k:Nat):List Int:=cs.set k (wrap64 (cs.getD k 0+1))
def jU (n:Int):List Int→List Int→Option (List Int)
 | cs,[]=>some cs
 | cs,k::r=>if k=0 then jU n cs r else if k<193∨n≤k then none else jU n (bump cs k.toNat) r
def yA (ue:List (List Int))(n:Int):List Int × Int :=
 if n<0∨1024<n then([],2)else match jU n (List.replicate n.toNat 0) ue.flatten with
  | none=>([],2)
  | some cs=>(cs,0)
def qR (cs:List Int)(i:Nat):List Int:=((List.range i).filter fun j=>decide (193≤j)&&decide (cs.getD j 0=0)).map fun(j:Nat)=>(j:Int)
def xY (cs:List Int):Nat:=(qR cs cs.length).length
def yP (cs:List Int)(n:Int):List Int × Int :=
 if n<0 then([],2)else if (xY cs:Int)<n then([],7)else((qR cs cs.length).take n.toNat,0)
theorem bX (cs:List Int)(k:Nat):(bump cs k).length=cs.length:=by simp[bump]
theorem bY {n:Int}:∀ {l cs cs':List Int},jU n cs l=some cs'→cs'.length=cs.length
 | [],cs,cs',h=>by simp only[jU,Option.some.injEq]at h;rw[h]
 | k::r,cs,cs',h=>by
  unfold jU at h;split at h
  ·exact bY h
  ·split at h
   ·cases h
   ·rw[bY h,bX]
theorem dL (n:Int)(cs:List Int)(k:Int)(r:List Int):jU n cs (k::r)=if k=0 then jU n cs r else if k<193∨n≤k then none else jU n (bump cs k.toNat) r:=rfl
theorem uq {n:Int}:∀(a b cs:List Int),jU n cs (a++b)=(jU n cs a).bind fun c=>jU n c b
 | [],b,cs=>rfl
 | k::r,b,cs=>by
  show jU n cs (k::(r++b))=_;rw[dL,dL];split
  ·exact uq r b cs
  ·split
   ·rfl
   ·exact uq r b _
theorem qgU{n:Int}{a cs c:List Int}(h:jU n cs a=some c)(k:Int):jU n cs (a++[k])=if k=0 then some c else if k<193∨n≤k then none else some (bump c k.toNat):=by
 rw[uq,h];rfl
theorem qgV{n:Int}{a cs:List Int}(h:jU n cs a=none)(b:List Int):jU n cs (a++b)=none:=by
 rw[uq,h];rfl
theorem qdq(cs:List Int):qR cs 0=[]:=rfl
theorem yB (cs:List Int)(i:Nat)(h:i≤193):qR cs i=[]:=by
 unfold qR;rw[List.map_eq_nil_iff,List.filter_eq_nil_iff];intro j hj;rw[List.mem_range]at hj;simp;omega
theorem aJ (cs:List Int)(i:Nat):qR cs (i+1)=qR cs i++(if 193≤i∧cs.getD i 0=0 then[(i:Int)]else[]):=by
 unfold qR;rw[List.range_succ,List.filter_append,List.map_append]
 congr 1
 by_cases h1:193≤i
 ·by_cases h2:cs.getD i 0=0
  ·rw[if_pos ⟨h1,h2⟩,List.filter_cons_of_pos (by rw[decide_eq_true h1,decide_eq_true h2];rfl)];rfl
  ·rw[if_neg (fun h=>h2 h.2),List.filter_cons_of_neg (by rw[decide_eq_false h2,Bool.and_false];decide)];rfl
 ·rw[if_neg (fun h=>h1 h.1),List.filter_cons_of_neg (by rw[decide_eq_false h1,Bool.false_and];decide)];rfl
theorem qgW(cs:List Int)(i:Nat):(qR cs i).length≤i:=by
 unfold qR;rw[List.length_map];exact Nat.le_trans (List.length_filter_le _ _) (by simp)
theorem eU (cs:List Int):∀(i j:Nat),i≤j→∃r,qR cs j=qR cs i++r
 | i,0,h=>by
  obtain rfl:i=0:=by omega
  exact⟨[],by simp⟩
 | i,j+1,h=>by
  by_cases e:i=j+1
  ·subst e;exact⟨[],by simp⟩
  ·obtain⟨r,hr⟩:=eU cs i j (by omega);exact⟨r++_,by rw[aJ,hr,List.append_assoc]⟩
theorem eV {cs:List Int}{i:Nat}{z:Int}:z∈qR cs i ↔ ∃j:Nat,z=(j:Int)∧j<i∧193≤j∧cs.getD j 0=0:=by
 unfold qR;simp only[List.mem_map,List.mem_filter,List.mem_range,Bool.and_eq_true,decide_eq_true_eq];constructor
 ·rintro⟨j,⟨h1,h2,h3⟩,rfl⟩;exact⟨j,rfl,h1,h2,h3⟩
 ·rintro⟨j,rfl,h1,h2,h3⟩;exact⟨j,⟨h1,h2,h3⟩,rfl⟩
theorem mh (cs:List Int)(i:Nat):(qR cs i).Pairwise (· < ·):=by
 unfold qR;rw[List.pairwise_map];refine List.Pairwise.imp (R:=fun(a b:Nat)=>a<b) (fun h=>by omega) ?_;exact(List.pairwise_lt_range).filter _
theorem qgX(cs:List Int)(k:Nat)(h:k<cs.length)(h0:cs.getD k 0=0):(bump cs k).getD k 0=1:=by
 unfold bump;rw[h0];simp[List.getD,h];first
  | rfl
  | (unfold wrap64;omega)
theorem aK (cs:List Int)(k j:Nat)(h:j≠k):(bump cs k).getD j 0=cs.getD j 0:=by
 unfold bump;simp[List.getD,List.getElem?_set_ne (Ne.symm h)]
theorem yu (cs:List Int)(i:Nat):(qR cs (i+1)).length=(qR cs i).length+if 193≤i∧cs.getD i 0=0 then 1 else 0:=by
 rw[aJ,List.length_append];split <;> rfl
theorem mi (cs:List Int)(k:Nat)(h:k<cs.length)(h1:193≤k)(h0:cs.getD k 0=0):∀i,(qR (bump cs k) i).length+(if k<i then 1 else 0)=(qR cs i).length
 | 0=>by simp[qdq]
 | i+1=>by
  have ih:=mi cs k h h1 h0 i;rw[yu,yu];by_cases e:i=k
  ·subst e;rw[qgX cs i h h0,h0];split at ih <;> split <;> split <;> split <;> omega
  ·rw[aK cs k i e];split at ih <;> split <;> split <;> omega
def bnd (M:Nat)(cs:List Int):Prop:=∀z∈cs,0≤z∧z≤(M:Int)
end Go.Proofs.YtdagdllomphidaaGreatDoor.sp
namespace Go.Proofs.YtdagdllomphidaaGreatDoor.ch
open _root_.Go.Proofs.Tryz Go Go.RowKit ib
abbrev Gd:=Nat × Nat
structure Sn where
 g:Gd
 bs:List Bt
 hid:Bool
structure CH where
 live:List Bt
 qa:List Sn
def above (a b:Gd):Bool:=decide (b.1<a.1) || (decide (a.1=b.1)&&decide (b.2<a.2))
def CH.last(c:CH):Gd:=match c.qa.getLast? with
 | none=>(0,0)
 | some s=>s.g
def gK (n:Nat):List Bt:=List.replicate n zz
def CH.base(c:CH):List Bt:=match c.qa.getLast? with
 | none=>gK c.live.length
 | some s=>s.bs
def wm (n:Nat):CH:=⟨gK n,[]⟩
def CH.may (c:CH)(g:Gd):Int:=if above g c.last then(if 20≤c.qa.length then 3 else 0)else 2
def CH.write(c:CH)(k:Int)(s:Bt):CH × Int:=if k<0∨(c.live.length:Int)≤k∨s.length≠32 then(c,2)else(⟨c.live.set k.toNat s,c.qa⟩,0)
def CH.snap(c:CH)(g:Gd):CH × Int:=if c.may g=0 then(⟨c.live,c.qa++[⟨g,c.live,false⟩]⟩,0)else(c,c.may g)
def qkm:List Bt→Int→List (Int × Bt)→Option (List Bt)
 | l,_,[]=>some l
 | l,p,(k,s)::r=>if k≤p∨(l.length:Int)≤k∨s.length≠32 then none else qkm (l.set k.toNat s) k r
def CH.add (c:CH)(g:Gd)(x:List (Int × Bt)):CH × Int :=
 if c.may g=0 then(match qkm c.base (-1) x with
  | none=>(c,2)
  | some l=>(⟨l,c.qa++[⟨g,l,false⟩]⟩,0))else(c,c.may g)
def CH.roll(c:CH)(k:Int):CH × Int:=if k<0∨(c.qa.length:Int)<k then(c,2)else
 (⟨(⟨c.live,c.qa.take k.toNat⟩:CH).base,c.qa.take k.toNat⟩,0)
def CH.find(c:CH)(g:Gd):Option Nat:=c.qa.findIdx? fun s=>decide (s.g=g)
def yV (l:List Sn)(i:Nat):List Sn:=l.modify i fun s=>{ s with hid:=true }
def CH.eW (c:CH)(g:Gd):CH × Int:=match c.find g with
 | none=>(c,5)
 | some i=>match c.qa[i]? with
  | none=>(c,5)
  | some s=>if s.hid then(c,14)else(⟨c.live,yV c.qa i⟩,0)
def CH.list(c:CH):List Gd:=c.qa.map (·.g)
def CH.read(c:CH)(g:Gd):List Bt × Int:=match c.find g with
 | none=>([],5)
 | some i=>match c.qa[i]? with
  | none=>([],5)
  | some s=>if s.hid then([],14)else(s.bs,0)
def qx9 (p q:List Bt):List (Int × Bt):=(List.range q.length).filterMap fun i=>if q.getD i []=p.getD i []then none else some ((i:Int),q.getD i [])
def CH.qfb (c:CH)(k:Nat):List Bt:=match c.qa[k]? with
 | none=>[]
 | some s=>s.bs
def CH.prev(c:CH)(k:Nat):List Bt:=if k=0 then gK c.live.length else c.qfb (k-1)
def CH.changes(c:CH)(k:Int):List (Int × Bt) × Int:=if k<0∨(c.qa.length:Int)≤k then([],5)else(qx9 (c.prev k.toNat) (c.qfb k.toNat),0)
def ag (n:Nat)(l:List Bt):Prop:=l.length=n∧∀v∈l,v.length=32
structure CH.ok(c:CH):Prop where
 live:ag c.live.length c.live
 n1:1≤c.live.length
 n8:c.live.length≤8
 qa:∀s∈c.qa,ag c.live.length s.bs
 few:c.qa.length≤20
 nP:∀s∈c.qa,s.g.1<18446744073709551616∧s.g.2<18446744073709551616
theorem qnR(n:Nat):ag n (gK n):=⟨by simp[gK],fun v hv=>by rw[List.eq_of_mem_replicate hv];exact qI⟩
end Go.Proofs.YtdagdllomphidaaGreatDoor.ch
namespace Go.Proofs.YtdagdllomphidaaGreatDoor.vt
open _root_.Go.Proofs.Tryz Go Go.RowKit jr mt im sp
abbrev Bt:=List UInt8
abbrev Tg:=Int→Bt
def zb:Bt:=List.replicate 32 0
def bj (t:Tg)(k:Int):Bt:=if k=0 then zb else t k
def qy (t:Tg)(qj:List Int):List Bt:=qj.map (bj t)
def xe (m:Mt):List (List Int):=m.live::m.tok.qj::m.qa.map (·.qj)
def held (m:Mt)(z:Int):Prop:=∃l∈xe m,z∈l
def qd:List Int→List (Int × Bt)→List Int × List Wr
 | _,[]=>([],[])
 | fr,(_,s)::r=>if s=zb then(0::(qd fr r).1,(qd fr r).2)else match fr with
  | []=>(0::(qd [] r).1,(qd [] r).2)
  | f::fr=>(f::(qd fr r).1,(f,s)::(qd fr r).2)
def full (x:List (Int × Bt)):Nat:=(x.filter fun c=>decide (c.2≠zb)).length
def qw (N:Nat)(m:Mt)(x:List (Int × Bt)):(List Int × List Wr) × Int :=
 if (yP (yA (xe m) N).1 (full x)).2=0 then(qd (yP (yA (xe m) N).1 (full x)).1 x,0)else(([],[]),(yP (yA (xe m) N).1 (full x)).2)
def xw (m:Mt):List Bt:=qL (zx m)
def zP (t:Tg):Nat→List Bt→List Wr
 | _,[]=>[]
 | o,s::r=>(if t (o:Int)=s then[]else[((o:Int),s)])++zP t (o+1) r
def qaZ (t:Tg)(m:Mt):List Wr:=zP t 145 (xw m)
def qC (t:Tg)(m:Mt)(ws:List Wr):List Wr:=qaZ t m++ws
structure dT where
 code:Int
 m:Mt
 ws:List Wr
def qH (m:Mt):Gd:=match m.qa.getLast? with
 | none=>(0,0)
 | some s=>s.g
def xO (m:Mt):List Int:=match m.qa.getLast? with
 | none=>List.replicate m.live.length 0
 | some s=>s.qj
def zt:List Int→List (Int × Bt)→List Int→List Int
 | l,[],_=>l
 | l,_::_,[]=>l
 | l,(k,_)::r,a::at_=>zt (l.set k.toNat a) r at_
def zZ (N:Nat)(m:Mt)(k:Int)(s:Bt):dT :=
 if k<0∨(m.live.length:Int)≤k∨s.length≠32 then⟨2,m,[]⟩
 else if (qw N m [(k,s)]).2=0 then⟨0,{ m with live:=zt m.live [(k,s)] (qw N m [(k,s)]).1.1 },(qw N m [(k,s)]).1.2⟩
 else⟨(qw N m [(k,s)]).2,m,[]⟩
def yv (m:Mt)(g:Gd):dT :=
 if mt.above g (qH m)=false then⟨2,m,[]⟩else if 20≤m.qa.length then⟨3,m,[]⟩
 else⟨0,{ m with qa:=m.qa++[⟨g,m.live,false⟩],tok:=zL },[]⟩
def kg (m:Mt)(n:Int):dT :=
 if n<0∨(m.qa.length:Int)<n then⟨2,m,[]⟩
 else⟨0,⟨xO { m with qa:=m.qa.take n.toNat },m.qa.take n.toNat,zL⟩,[]⟩
def bZ (m:Mt)(g:Gd):Option Nat:=m.qa.findIdx? fun s=>decide (s.g=g)
def xA (l:List Sp)(i:Nat):List Sp:=l.modify i fun s=>{ s with hid:=true }
def kh (m:Mt)(g:Gd):dT:=match bZ m g with
 | none=>⟨5,m,[]⟩
 | some i=>match m.qa[i]? with
  | none=>⟨5,m,[]⟩
  | some s=>if s.hid then⟨14,m,[]⟩else⟨0,{ m with qa:=xA m.qa i },[]⟩
def xx (b:Nat):Int→List (Int × Bt)→Bool
 | _,[]=>true
 | p,(k,s)::r=>decide (p<k)&&decide (k<(b:Int))&&decide (s.length=32)&&xx b k r
structure Tf where
 base:Gd
 target:Gd
 next:Int
 all:Int
def tf (t:Tk):Tf:=⟨t.base,t.target,t.next,t.all⟩
def zF (b:Nat)(n:Nat)(last:Gd)(t:Tf)(x:List (Int × Bt)):Int :=
 if t.base≠last∨mt.above t.target last=false∨t.all<0∨(b:Int)<t.all∨t.next<0∨t.all<t.next∨¬ (t.next=0↔t.all=0)then 2
 else if xx b (-1) x=false then 2
 else if t.next=t.all∧20≤n then 3 else 0
def qT (N:Nat)(m:Mt)(t:Tf)(x:List (Int × Bt)):dT :=
 if zF m.live.length m.qa.length (qH m) t x≠0 then⟨zF m.live.length m.qa.length (qH m) t x,m,[]⟩
 else if (qw N m x).2≠0 then⟨(qw N m x).2,m,[]⟩
 else
  let qj:=zt (if m.tok.base=t.base∧m.tok.target=t.target∧m.tok.all=t.all then m.tok.qj else xO m) x (qw N m x).1.1
  if t.next=t.all then⟨0,⟨qj,m.qa++[⟨t.target,qj,false⟩],zL⟩,(qw N m x).1.2⟩
  else⟨0,{ m with tok:=⟨t.base,t.target,t.next,t.all,qj⟩ },(qw N m x).1.2⟩
def jF (m:Mt):dT:=⟨0,{ m with tok:=zL },[]⟩
def cd (t:Tg)(s:Sp):ch.Sn:=⟨s.g,qy t s.qj,s.hid⟩
def zX (t:Tg)(m:Mt):ch.CH:=⟨qy t m.live,m.qa.map (cd t)⟩
def yX (b N:Nat)(l:List Int):Prop:=l.length=b∧(∀z∈l,z=0∨(193≤z∧z<(N:Int)))∧∀i j,i<j→j<l.length→pl l i=pl l j→pl l i=0
def kT:Gd→List Gd→Prop
 | _,[]=>True
 | p,g::r=>mt.above g p=true∧kT g r
structure yD(b N:Nat)(m:Mt):Prop where
 b1:1≤b
 b8:b≤8
 live:yX b N m.live
 few:m.qa.length≤20
 uf:∀s∈m.qa,yX b N s.qj
 qba:kT (0,0) (m.qa.map (·.g))
 tok:m.tok=zL∨(m.tok.base=qH m∧mt.above m.tok.target m.tok.base=true∧1≤m.tok.next∧m.tok.next<m.tok.all∧m.tok.all≤(b:Int)∧yX b N m.tok.qj)
 nP:mB m
theorem qkn{l:List Int}(h:∀i j,i<j→j<l.length→pl l i=pl l j→pl l i=0):yj l l.length=false:=by
 cases hd:yj l l.length with
 | false=>rfl
 | true =>
  exfalso;unfold yj at hd;obtain⟨i,hi,h2⟩:=List.any_eq_true.1 hd;have hi:=List.mem_range.1 hi;simp only[Bool.and_eq_true,decide_eq_true_eq]at h2;obtain⟨h0,h3⟩:=h2;unfold wQ at h3;obtain⟨j,hj,h4⟩:=List.any_eq_true.1 h3;have hj:=List.mem_range.1 hj;simp only[decide_eq_true_eq]at h4;have:=h j i hj hi h4.symm;exact h0 (h4.trans this)
theorem yX.check{b N:Nat}{l:List Int}(h:yX b N l)(h1:1≤b)(h8:b≤8):zD l (b:Int) (N:Int)=0:=by
 obtain⟨hl,hz,hd⟩:=h;unfold zD;rw[if_neg (by omega),if_neg,if_neg (by rw[qkn hd];decide)];rw[Bool.not_eq_true,List.any_eq_false];intro z hzm;unfold wx;rcases hz z hzm with rfl|⟨ha,hb⟩
 ·simp
 ·simp;omega
theorem yX.mono{b N M:Nat}{l:List Int}(h:yX b N l)(hNM:N≤M):yX b M l:=⟨h.1,fun z hz=>by rcases h.2.1 z hz with h|h;exact .inl h;exact .inr (by omega),h.2.2⟩
theorem yD.mono{b N M:Nat}{m:Mt}(h:yD b N m)(hNM:N≤M):yD b M m :=
 ⟨h.b1,h.b8,h.live.mono hNM,h.few,fun s hs=>(h.uf s hs).mono hNM,h.qba,by
  rcases h.tok with h|⟨h1,h2,h3,h4,h5,h6⟩
  ·exact .inl h
  ·exact .inr ⟨h1,h2,h3,h4,h5,h6.mono hNM⟩,h.nP⟩
theorem mj {b N:Nat}(h1:1≤b)(h8:b≤8):∀(l:List Sp) (p:Gd),(∀s∈l,yX b N s.qj)→kT p (l.map (·.g))→xK (b:Int) (N:Int) p l=(0,match l.getLast? with
    | none=>p
    | some s=>s.g)
 | [],p,_,_=>rfl
 | s::r,p,hi,hr=>by
  obtain⟨ha,hr2⟩:=hr;have ih:=mj h1 h8 r s.g (fun x hx=>hi x (by simp[hx])) hr2;unfold xK;rw[if_pos ha,if_pos ((hi s (by simp)).check h1 h8),ih];cases r with
  | nil=>rfl
  | cons y r=>rw[List.getLast?_cons_cons];rfl
theorem yD.check{b N:Nat}{m:Mt}(h:yD b N m):xj m (b:Int) (N:Int)=0:=by
 have hs:=mj h.b1 h.b8 m.qa (0,0) h.uf h.qba;have h4:=h.few;unfold xj;rw[h.live.check h.b1 h.b8,if_neg (by simp),if_neg (by omega),hs];dsimp only;rw[if_neg (by simp)];have e:(match m.qa.getLast? with
  | none=>((0,0):Gd)
  | some s=>s.g)=qH m:=rfl
 rw[e];rcases h.tok with ht|⟨t1,t2,t3,t4,t5,t6⟩
 ·rw[ht];rfl
 ·unfold kG;have hne:m.tok.target≠(0,0):=by
   intro e0;rw[e0]at t2;unfold mt.above at t2;simp at t2
  rw[if_neg hne];have hb:wS m.tok (qH m) (b:Int)=false:=by
   unfold wS;rw[← t1,t2];simp;omega
  rw[hb];simp only[Bool.false_eq_true,if_false];exact t6.check h.b1 h.b8
theorem yD.len{b N:Nat}{m:Mt}(h:yD b N m):m.live.length=b:=h.live.1
theorem aL {z:Int}(h:z<65536):(xU z).length≤3:=yt _ (by omega)
theorem ia:∀ {l:List Int},(∀z∈l,z<65536)→(zg l).length≤3*l.length
 | [],_=>by simp[zg]
 | z::l,h=>by
  have ih:=ia (l:=l) (fun y hy=>h y (by simp[hy]));have h1:=aL (h z (by simp));show(xU z++zg l).length≤_;rw[List.length_append,List.length_cons];omega
theorem yX.small{b N:Nat}{l:List Int}(h:yX b N l)(hN:N≤1024)(h8:b≤8):(zg l).length≤24:=by
 have:=ia (l:=l) (fun z hz=>by rcases h.2.1 z hz with h|h <;> omega);have:=h.1;omega
theorem ml {b N:Nat}(hN:N≤1024)(h8:b≤8):∀ {l:List Sp},(∀s∈l,yX b N s.qj)→(yK l).length≤45*l.length
 | [],_=>by simp[yK]
 | s::l,h=>by
  have ih:=ml hN h8 (l:=l) (fun y hy=>h y (by simp[hy]));have h1:=(h s (by simp)).small hN h8;have g1:=jr.qz s.g.1;have g2:=jr.qz s.g.2;have g3:=yt (if s.hid then 1 else 0) (by split <;> omega);show(spB s++yK l).length≤_;rw[List.length_append,List.length_cons];unfold spB jG;simp only[List.length_append];omega
theorem yD.size{b N:Nat}{m:Mt}(h:yD b N m)(hN:N≤1024):(zx m).length≤999:=by
 have h1:=h.live.small hN h.b8;have h2:=ml hN h.b8 h.uf;have h3:=yt m.live.length (by have:=h.len;have:=h.b8;omega);have h4:=yt m.qa.length (by have:=h.few;omega);have h5:(tkB m.tok).length≤69:=by
  rcases h.tok with ht|⟨t1,t2,t3,t4,t5,t6⟩
  ·rw[ht];decide
  ·unfold tkB;split
   ·have:=yt 0 (by omega);omega
   ·have g1:=jr.qz m.tok.base.1;have g2:=jr.qz m.tok.base.2;have g3:=jr.qz m.tok.target.1;have g4:=jr.qz m.tok.target.2;have g5:=yt 1 (by omega);have hb:=h.b8;have g6:=aL (z:=m.tok.next) (by omega);have g7:=aL (z:=m.tok.all) (by omega);have g8:=t6.small hN h.b8;unfold jG;simp only[List.length_append];omega
 have h6:=h.few;unfold zx;simp only[List.length_append];omega
theorem yD.enc{b N:Nat}{m:Mt}(h:yD b N m)(hN:N≤1024):wy m=(zx m,0):=by
 have hs:=h.size hN;have hc:xj m (b:Int) (1024:Int)=0:=(h.mono hN).check;have hl:=h.len;unfold wy;rw[hl,hc,if_neg (by simp),if_neg];show ¬ 48<nsec (zx m).length;unfold nsec;omega
theorem yD.back{b N:Nat}{m:Mt}(h:yD b N m)(hN:N≤1024):l9 (zx m)=(m,0):=qai h.nP (h.enc hN)
theorem xH {b N:Nat}{m:Mt}(h:yD b N m)(hN:N≤1024):1≤(xw m).length∧(xw m).length≤48:=by
 have hs:=h.size hN;unfold xw;rw[xN];unfold nsec;omega
theorem qbb(m:Mt):∀s∈xw m,s.length=32:=by
 intro s hs;obtain⟨i,hi,rfl⟩:=List.getElem_of_mem hs;exact dJ _ i hi
theorem ic:∀(a b:List Wr) (t:Tg),over t (a++b)=over (over t a) b
 | [],_,_=>rfl
 | x::a,b,t=>ic a b _
theorem gL:∀(l:List Wr) (t:Tg) (k:Int),(∀x∈l,x.1≠k)→over t l k=t k
 | [],_,_,_=>rfl
 | x::l,t,k,h=>by
  show over (fun j=>if j=x.1 then x.2 else t j) l k=t k;rw[gL l _ k (fun y hy=>h y (by simp[hy]))];exact if_neg (Ne.symm (h x (by simp)))
theorem iU:∀(l:List Wr) (t:Tg) (x:Wr),x∈l→(l.map (·.1)).Nodup→over t l x.1=x.2
 | y::l,t,x,h,hn=>by
  rw[List.map_cons,List.nodup_cons]at hn;show over (fun j=>if j=y.1 then y.2 else t j) l x.1=x.2;rcases List.mem_cons.1 h with rfl|h
  ·rw[gL l _ _ (fun z hz e=>hn.1 (by rw[← e];exact List.mem_map_of_mem hz))];exact if_pos rfl
  ·exact iU l _ x h hn.2
theorem kF {t:Tg}:∀ {ss:List Bt} {o:Nat} {x:Wr},x∈zP t o ss→∃i,∃h:i<ss.length,x.1=((o+i:Nat):Int)∧x.2=ss[i]
 | [],o,x,h=>by simp[zP]at h
 | s::r,o,x,h=>by
  unfold zP at h;rcases List.mem_append.1 h with h|h
  ·split at h
   ·simp at h
   ·obtain rfl:x=((o:Int),s):=by simpa using h
    exact⟨0,by simp,rfl,rfl⟩
  ·obtain⟨i,hi,h1,h2⟩:=kF h;exact⟨i+1,by simpa using hi,by rw[h1];congr 1;omega,by simpa using h2⟩
theorem gM {t:Tg}:∀(ss:List Bt) (o:Nat),((zP t o ss).map (·.1)).Nodup
 | [],o=>by simp[zP]
 | s::r,o=>by
  unfold zP;rw[List.map_append,List.nodup_append];refine⟨by split <;> simp,gM r (o+1),fun a ha b hb=>?_⟩;split at ha
  ·simp at ha
  ·obtain rfl:a=(o:Int):=by simpa using ha
   obtain⟨x,hx,rfl⟩:=List.mem_map.1 hb;obtain⟨i,_,h1,_⟩:=kF hx;omega
theorem dM {t:Tg}:∀(ss:List Bt) (o:Nat),(zP t o ss).length≤ss.length
 | [],o=>by simp[zP]
 | s::r,o=>by
  have ih:=dM (t:=t) r (o+1);unfold zP;rw[List.length_append,List.length_cons];split <;> simp <;> omega
theorem qdr{t:Tg}(ss:List Bt)(o:Nat)(i:Nat)(h:i<ss.length):over t (zP t o ss) ((o+i:Nat):Int)=ss[i]:=by
 by_cases hm:∃x∈zP t o ss,x.1=((o+i:Nat):Int)
 ·obtain⟨x,hx,he⟩:=hm;obtain⟨j,hj,h1,h2⟩:=kF hx;have:=iU _ t x hx (gM ss o);rw[he]at this;rw[this,h2];have:j=i:=by omega
  subst this;rfl
 ·rw[gL _ _ _ (fun x hx e=>hm ⟨x,hx,e⟩)];have key:∀(ss:List Bt) (o i:Nat) (h:i<ss.length),(¬ ∃x∈zP t o ss,x.1=((o+i:Nat):Int))→t ((o+i:Nat):Int)=ss[i]:=by
   intro ss
   induction ss with
   | nil=>intro o i h;simp at h
   | cons s r ih =>
    intro o i h hn;cases i with
    | zero =>
     apply Classical.byContradiction;intro hne;refine hn ⟨((o:Int),s),?_,by simp⟩;unfold zP;rw[if_neg (by simpa using hne)];simp
    | succ i =>
     have:=ih (o+1) i (by simpa using h) (fun⟨x,hx,e⟩=>hn ⟨x,by unfold zP;exact List.mem_append_right _ hx,by rw[e];congr 1;omega⟩);rw[show o+(i+1)=o+1+i by omega,this];rfl
  exact key ss o i h hm
structure qM(b N:Nat)(t:Tg)(m:Mt):Prop where
 ok:yD b N m
 N0:193≤N
 N1:N≤1024
 home:∀i (h:i<(xw m).length),t ((145+i:Nat):Int)=(xw m)[i]
 len:∀k,145≤k→(t k).length=32
structure wO(N:Nat)(m:Mt)(ws:List Wr):Prop where
 few:ws.length≤8
 nodup:(ws.map (·.1)).Nodup
 range:∀x∈ws,193≤x.1∧x.1<(N:Int)
 free:∀x∈ws,¬ held m x.1
 len:∀x∈ws,x.2.length=32
section
variable {b N:Nat} {t:Tg} {m m':Mt} {ws:List Wr}
theorem cf (h:qM b N t m)(ho:yD b N m')(hw:wO N m ws):((qC t m' ws).map (·.1)).Nodup:=by
 have h48:=(xH ho h.N1).2;unfold qC qaZ;rw[List.map_append,List.nodup_append];refine⟨gM _ _,hw.nodup,fun a ha c hc=>?_⟩;obtain⟨x,hx,rfl⟩:=List.mem_map.1 ha;obtain⟨y,hy,rfl⟩:=List.mem_map.1 hc;obtain⟨i,hi,h1,_⟩:=kF hx;have:=(hw.range y hy).1;omega
theorem gO (h:qM b N t m)(ho:yD b N m')(hw:wO N m ws):∀x∈qC t m' ws,145≤x.1∧x.1<(N:Int)∧x.2.length=32:=by
 intro x hx;have h48:=(xH ho h.N1).2;have hN:=h.N0;rcases List.mem_append.1 hx with hx|hx
 ·obtain⟨i,hi,h1,h2⟩:=kF hx;refine⟨by omega,by omega,?_⟩;rw[h2];exact qbb m' _ (List.getElem_mem hi)
 ·have:=hw.range x hx;exact⟨by omega,this.2,hw.len x hx⟩
theorem gS:∀(l:List Wr) (acc:List Int),(acc++l.map (·.1)).Nodup→found acc l=acc++l.map (·.1)
 | [],acc,_=>by simp[found]
 | x::l,acc,h=>by
  have hx:acc.contains x.1=false:=by
   rw[List.map_cons,List.nodup_append]at h;rw[Bool.eq_false_iff];intro hc;rw[List.contains_iff_mem]at hc;exact h.2.2 x.1 hc x.1 (by simp) rfl
  have e:Go.Proofs.YtdagdllomphidaaGreatDoor.dk.xM acc x.1=acc++[x.1]:=by
   unfold Go.Proofs.YtdagdllomphidaaGreatDoor.dk.xM;rw[hx];rfl
  have ih:=gS l (acc++[x.1]) (by simpa using h);show found (Go.Proofs.YtdagdllomphidaaGreatDoor.dk.xM acc x.1) l=_;rw[e,ih];simp
theorem qds(h:qM b N t m)(ho:yD b N m')(hw:wO N m ws):mf N (qC t m' ws)=0:=by
 have h48:=(xH ho h.N1).2;have hl:(qC t m' ws).length≤60:=by
  have:=dM (t:=t) (xw m') 145;have:=hw.few;unfold qC qaZ;rw[List.length_append];omega
 have hp:uC N (qC t m' ws)=true:=by
  unfold uC;have hf:=gS (qC t m' ws) [] (by simpa using cf h ho hw);rw[hf];simp only[List.nil_append,List.length_map,decide_true,Bool.and_true,List.all_eq_true];intro x hx;obtain⟨h1,h2,h3⟩:=gO h ho hw x hx;unfold okW;simp;exact⟨⟨h1,h2⟩,h3⟩
 unfold mf;split
 ·rfl
 ·rw[if_neg (by omega),hp];simp
theorem qbc(h:qM b N t m)(ho:yD b N m')(hw:wO N m ws)(i:Nat)(hi:i<(xw m').length):over t (qC t m' ws) ((145+i:Nat):Int)=(xw m')[i]:=by
 have h48:=(xH ho h.N1).2;unfold qC;rw[ic,gL ws _ _ (fun x hx e=>by have:=(hw.range x hx).1;omega)];exact qdr (xw m') 145 i hi
theorem gT (h:qM b N t m)(ho:yD b N m')(hw:wO N m ws)(z:Int)(hz:held m z)(qxA:193≤z):over t (qC t m' ws) z=t z:=by
 have h48:=(xH ho h.N1).2;refine gL _ _ _ fun x hx e=>?_;rcases List.mem_append.1 hx with hx|hx
 ·obtain⟨i,hi,h1,_⟩:=kF hx;omega
 ·exact hw.free x hx (e ▸ hz)
theorem qdt(h:qM b N t m)(ho:yD b N m')(hw:wO N m ws)(x:Wr)(hx:x∈ws):over t (qC t m' ws) x.1=x.2 :=
 iU _ t x (List.mem_append_right _ hx) (cf h ho hw)
theorem mn:∀(l:List Wr) (t:Tg),(∀k,145≤k→(t k).length=32)→(∀x∈l,x.2.length=32)→∀k,145≤k→(over t l k).length=32
 | [],_,h,_=>h
 | x::l,t,h,hl=>mn l _ (fun k hk=>by
  show(if k=x.1 then x.2 else t k).length=32;split
  ·exact hl x (by simp)
  ·exact h k hk) (fun y hy=>hl y (by simp[hy]))
theorem qM.next(h:qM b N t m)(ho:yD b N m')(hw:wO N m ws):qM b N (over t (qC t m' ws)) m' :=
 ⟨ho,h.N0,h.N1,qbc h ho hw,mn _ _ h.len fun x hx=>(gO h ho hw x hx).2.2⟩
theorem mo (h:qM b N t m)(ho:yD b N m')(hw:wO N m ws){l:List Int}(hl:l∈xe m)(hk:yX b N l):qy (over t (qC t m' ws)) l=qy t l:=by
 unfold qy;apply List.map_congr_left;intro z hz;unfold bj;split
 ·rfl
 ·rename_i h0;rcases hk.2.1 z hz with h1|h1
  ·exact absurd h1 h0
  ·exact gT h ho hw z ⟨l,hl,hz⟩ h1.1
theorem sB (m:Mt):m.live∈xe m:=by simp[xe]
theorem qtM(m:Mt):m.tok.qj∈xe m:=by simp[xe]
theorem qfc{m:Mt}{s:Sp}(h:s∈m.qa):s.qj∈xe m:=by
 unfold xe;exact List.mem_cons_of_mem _ (List.mem_cons_of_mem _ (List.mem_map_of_mem h))
theorem qko(h:qM b N t m)(ho:yD b N m')(hw:wO N m ws):zX (over t (qC t m' ws)) m=zX t m:=by
 unfold zX;rw[mo h ho hw (sB m) h.ok.live]
 congr 1
 apply List.map_congr_left;intro s hs;unfold cd;rw[mo h ho hw (qfc hs) (h.ok.uf s hs)]
end
end Go.Proofs.YtdagdllomphidaaGreatDoor.vt

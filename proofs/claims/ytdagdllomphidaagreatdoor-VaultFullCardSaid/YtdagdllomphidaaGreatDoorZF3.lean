/- DkRow, DkApp, DkFit2, DkFit3, DkWrite, DkMore, CPure, FPure, JPure, JRun, JSafe, JSafe2, SpPure, SpMath, ChPure, VtPure, VtTab, VtMath. -/
import Derived.Test.YtdagdllomphidaaGreatDoorZF2
import Derived.Laws.CopyRow
import Derived.Deep.RegionLaw
import Derived.Great.BuildSlice
set_option linter.unusedVariables false
set_option linter.unusedSimpArgs false
set_option maxHeartbeats 30000000
set_option maxRecDepth 100000
namespace Go.Proofs.YtdagdllomphidaaGreatDoor.dk
open _root_.Go.Proofs.Tryz Go Go.RowKit
theorem qgP:(prog.info? 125).map (fun i=>(i.zero,i.size))=some (some (.agg (qj (0,zz,zz,false)).toArray),66):=by kernel_rfl
theorem qeQ:(prog.info? 125).map (fun i=>(i.zero,i.size,i.bytes))=some (some (.agg (qj (0,zz,zz,false)).toArray),66,80):=by kernel_rfl
theorem qlG:(prog.info? 125).map (·.size)=some 66:=by kernel_rfl
theorem yy (x:Nat × Bt × Bt × Bool)(h1:x.2.1.length=32)(h2:x.2.2.1.length=32):(qj x).length=66:=by
 simp[qj,Lib.byteCells,h1,h2]
theorem dz (x:Nat × Bt × Bt × Bool):∀u∈qj x,u.oneCell'=true:=by
 intro u hu;simp only[qj,List.mem_cons,List.mem_append,List.not_mem_nil,or_false]at hu;rcases hu with rfl|hu|hu|rfl
 ·rfl
 ·exact Lib.byteCells_one _ u hu
 ·exact Lib.byteCells_one _ u hu
 ·rfl
theorem qtW(x:Nat × Bt × Bt × Bool):(qj x).toArray.all (·.oneCell')=true:=by
 rw[Array.all_eq_true'];intro u hu;exact dz x u (by simpa using hu)
theorem qaw{ρ:Operand→Value}{o:Oper}{w:World}(ho:o.op=.alloc 125) :
    (execOp ρ o).run prog w=.ok (.value (.pointer (some ⟨w.heap.size,0,none⟩))) (w.alloc (.cells (qj (0,zz,zz,false)).toArray 125)):=by
 obtain⟨hz,_⟩:=zero_of_info qgP;simp[execOp,ho,Instr.alloc,hz,Result.andThen,go_sem,Value.cells]
theorem qax{ρ:Operand→Value}{o:Oper}{w:World}(x:Operand)(k:Nat)(ho:o.op=.build 125 #[(0,x)])(hx:ρ x=.int .i64 (k:Int)) :
    (execOp ρ o).run prog w=.ok (.value (.agg (qj (k,zz,zz,false)).toArray)) w:=by
 obtain⟨hz,_⟩:=zero_of_info qgP;have hb:(Instr.build 125 #[(0,.int .i64 (k:Int))]).run prog w=.ok (.agg (qj (k,zz,zz,false)).toArray) w:=by
  have e:(qj (k,zz,zz,false)).toArray=(qj (0,zz,zz,false)).toArray.set! 0 (.int .i64 (k:Int)):=rfl;rw[e];have hne:(qj (0,zz,zz,false)).toArray ≠ #[]:=by simp[qj]
  generalize (qj (0,zz,zz,false)).toArray=z0 at *;simp[Instr.build,hz,Result.andThen,go_sem,Value.cells];rw[if_neg hne];rfl
 simp[execOp,ho,hx,hb,Result.andThen]
theorem jG {P:Program}(w:World)(g o:Nat)(t ty:TypeId)(cur:Array Value)(xs:List Value)(hg:w.heap[g]?=some (.cells cur t (0,0)))(hi:(P.info? ty).map (·.size)=some xs.length)(hl:o+xs.length≤cur.size)(h1:∀v∈xs,v.oneCell'=true) :
    (storeVar ty ⟨g,o,none⟩ (.agg xs.toArray)).run P w=.ok () (w.setRow g (cur.toList.take o++xs++cur.toList.drop (o+xs.length)).toArray):=by
 have:=run_storeCells_at P g o t xs 0 cur w hg (by simpa using hl) h1;cases hq:P.info? ty with
 | none=>simp[hq]at hi
 | some i =>
  have hs:i.size=xs.length:=by simpa[hq]using hi
  simp only[Nat.add_zero]at this;simp[storeVar,sizeOf,typeInfo,hq,Value.cells,hs,this]
theorem qlH(k:Nat)(v b:Bt)(f:Bool)(u:Bt)(h:u.length=32)(hv:v.length=32) :
    (qj (k,u,b,f)).take 1++Lib.byteCells v++(qj (k,u,b,f)).drop (1+32)=qj (k,v,b,f):=by
 have e1:(Lib.byteCells u).length=32:=by rw[Lib.byteCells_length,h]
 have e2:(Lib.byteCells v).length=32:=by rw[Lib.byteCells_length,hv]
 simp only[qj,List.take_succ_cons,List.take_zero,show 1+32=32+1 from rfl,List.drop_succ_cons];rw[List.drop_left' e1];simp
theorem qeR(k:Nat)(v b:Bt)(f:Bool)(u:Bt)(hv:v.length=32)(h:u.length=32)(hb:b.length=32) :
    (qj (k,v,u,f)).take 33++Lib.byteCells b++(qj (k,v,u,f)).drop (33+32)=qj (k,v,b,f):=by
 have e1:(Lib.byteCells u).length=32:=by rw[Lib.byteCells_length,h]
 have e2:(Lib.byteCells v).length=32:=by rw[Lib.byteCells_length,hv]
 simp only[qj,show 33=32+1 from rfl,List.take_succ_cons,show 32+1+32=(32+32)+1 from rfl,List.drop_succ_cons];rw[List.take_left' e2,List.drop_append,e2,List.drop_eq_nil_of_le (by omega),show 32+32-32=32 from rfl,List.drop_left' e1];simp
theorem qco(k:Nat)(v b:Bt)(f g:Bool)(hv:v.length=32)(hb:b.length=32):(qj (k,v,b,f)).toArray.setIfInBounds 65 (.bool g)=(qj (k,v,b,g)).toArray:=by
 have e1:(Lib.byteCells v).length=32:=by rw[Lib.byteCells_length,hv]
 have e2:(Lib.byteCells b).length=32:=by rw[Lib.byteCells_length,hb]
 simp only[List.setIfInBounds_toArray,qj,show 65=64+1 from rfl,List.set_cons_succ];rw[List.set_append_right _ _ (by omega),e1,List.set_append_right _ _ (by omega),e2];rfl
theorem qcp{ρ:Operand→Value}{o:Oper}(w:World)(x y:Operand)(k:Nat)(s:ByteArray)(ho:o.op=.call { callee:=.builtin .copy,args:=#[x,y],argTypes:=#[118,9] })
    (hx:ρ x=.slice (some ⟨w.heap.size,1,none⟩) 32 32) (hy:ρ y=.string s) (hs:s.size=32) :
    (execOp ρ o).run prog (w.alloc (.cells (qj (k,zz,zz,false)).toArray 125))=.ok (.value (.int .i64 32)) (w.alloc (.cells (qj (k,bl s,zz,false)).toArray 125)):=by
 obtain⟨i0,hi,hz0,hz1,hz2⟩:=info_parts Tryz.nj;have hl:(bl s).length=32:=by rw[zk,hs]
 have hst:=run_storeCells_at prog w.heap.size 1 125 (Lib.byteCells (bl s)) 0 (qj (k,zz,zz,false)).toArray (w.alloc (.cells (qj (k,zz,zz,false)).toArray 125)) (heap_alloc_new w _) (by simp[yy,Lib.byteCells_length,hl,qX]) (Lib.byteCells_one _);rw[World.setRow_alloc_new,Lib.byteCells_length,hl]at hst;simp only[Nat.add_zero]at hst;rw[qlH k (bl s) zz false zz qX hl]at hst;have aV:List.take 32 (List.map (fun b:UInt8=>Value.int IntKind.u8 (b.toNat:Int)) s.data.toList)=Lib.byteCells (bl s):=by
  rw[List.take_of_length_le]
  ·rfl
  ·simp only[List.length_map];have:s.data.toList.length=32:=hl;omega
 have hc:(Builtin.copy_ #[118,9] o.type #[.slice (some ⟨w.heap.size,1,none⟩) 32 32,.string s]).run prog (w.alloc (.cells (qj (k,zz,zz,false)).toArray 125))=.ok (.int .i64 32) (w.alloc (.cells (qj (k,bl s,zz,false)).toArray 125)):=by
  simp[Builtin.copy_,run_underlying underlying118,Builtin.lenOf,Builtin.firstCells,sizeOf,typeInfo,hi,hs];rw[aV,hst];simp[Result.andThen];rfl
 simp[execOp,ho,resolve,invoke,builtin,hx,hy,hc,Result.andThen]
theorem et {ρ:Operand→Value}{o:Oper}(w:World)(x y:Operand)(k:Nat)(v b:Bt)(f:Bool)(ho:o.op=.store 123 x y)(hx:ρ x=.pointer (some ⟨w.heap.size,33,none⟩))(hy:ρ y=ee b)(hv:v.length=32)(hb:b.length=32) :
    (execOp ρ o).run prog (w.alloc (.cells (qj (k,v,zz,f)).toArray 125))=.ok .skip (w.alloc (.cells (qj (k,v,b,f)).toArray 125)):=by
 have e2:(Lib.byteCells b).length=32:=by rw[Lib.byteCells_length,hb]
 have hr:=jG (P:=prog) (w.alloc (.cells (qj (k,v,zz,f)).toArray 125)) w.heap.size 33 125 123 (qj (k,v,zz,f)).toArray (Lib.byteCells b) (heap_alloc_new w _) (by rw[nL,e2]) (by simp[yy,hv,qX,e2]) (Lib.byteCells_one _);rw[World.setRow_alloc_new,e2]at hr;simp only at hr;rw[qeR k v b f zz hv qX hb]at hr;have h2:(Instr.storeAt 123 (.pointer (some ⟨w.heap.size,33,none⟩)) (ee b)).run prog (w.alloc (.cells (qj (k,v,zz,f)).toArray 125))=.ok () (w.alloc (.cells (qj (k,v,b,f)).toArray 125)):=by
  simp only[Instr.storeAt,Instr.sureAddr,Sem.run_bind,Sem.run_pure,Result.andThen];exact hr
 simp[execOp,ho,hx,hy,h2,Result.andThen]
theorem bB {ρ:Operand→Value}{o:Oper}(w:World)(x y:Operand)(k:Nat)(v b:Bt)(f:Bool)(ho:o.op=.store 4 x y)(hx:ρ x=.pointer (some ⟨w.heap.size,65,none⟩))(hy:ρ y=.bool f)(hv:v.length=32)(hb:b.length=32) :
    (execOp ρ o).run prog (w.alloc (.cells (qj (k,v,b,false)).toArray 125))=.ok .skip (w.alloc (.cells (qj (k,v,b,f)).toArray 125)):=by
 have hB:qf (w.alloc (.cells (qj (k,v,b,false)).toArray 125)) w.heap.size 125 (qj (k,v,b,false)).toArray:=qf.new _ _ _;have hc:(w.alloc (.cells (qj (k,v,b,false)).toArray 125)).cell? ⟨w.heap.size,65,none⟩=some (.bool false):=by
  rw[hB.cell 65];exact(rowOf (k,v,b,false) hv hb).written
 have hf:=hB.frozen 65;have hW:(w.alloc (.cells (qj (k,v,b,false)).toArray 125)).setCell ⟨w.heap.size,65,none⟩ (.bool f)=w.alloc (.cells (qj (k,v,b,f)).toArray 125):=by
  rw[setCell_eq_setRow _ _ _ _ _ _ _ (heap_alloc_new w _),World.setRow_alloc_new,qco k v b false f hv hb]
 unfold execOp;rw[ho];simp only[hx,hy];rw[← hW];generalize w.alloc (.cells (qj (k,v,b,false)).toArray 125)=W at *;go_simp
theorem qay{P:Program}{o:Oper}{a:Act}{w:World}{K:Act→World→Prop}{Q:Exit→Act→World→Prop}(s x:Operand)(t:TypeId)
    (ho:o.op=.call { callee:=.builtin .append,args:=#[s,x],argTypes:=#[t,t] })
    (base:Nat) (e:TypeId) (i:TypeInfo) (z:Value) (size bytes:Nat) (ht:P.underlying t=some (.slice e)) (hi:P.info? e=some i) (hz:i.zero=some z)
    (hsize:i.size=size) (hby:i.bytes=bytes) (hzs:z.cells.size=size) (hsz:0<size)
    (v:Value) (n:Nat) (xs:List Value) (hs:a.eval s=v) (hown:w.ownsRow base e size v n xs)
    (ad:Addr) (m c:Nat) (news:List Value) (hx:a.eval x=.slice (some ad) m c) (hl:news.length=m*size) (hnews:∀j u,news[j]?=some u→w.cell? (ad.add j)=some u) (h1:∀u∈news,u.oneCell'=true)
    (h63:n+m≤maxLen) (hbytes:(n+m)*bytes≤140737488355328) (hbase:base≤w.heap.size)
    (h:∀v' w',w'.ownsRow base e size v' (n+m) (xs++news)→w.grownBy w' v.ownBlock→(v'.ownBlock=v.ownBlock∨v'.ownBlock=some w.heap.size)→K (a.put o.dst v') w'):o.wp P a w K Q:=by
 obtain⟨v',w',hrun,h2,h3,_,h5⟩:=run_append_own_at (P:=P) w base t o.type e i z size bytes ht hi hz hsize hby hzs hsz v n xs hown ad m c news hl hnews h1 h63 hbytes hbase;unfold Oper.wp;simp[execOp,ho,resolve,invoke,builtin,hs,hx,hrun,Result.andThen];exact h v' w' h2 h3 h5
theorem yV {w:World}{base e size n:Nat}{v:Value}{xs:List Value}(h:w.ownsRow base e size v n xs):∃A c,v=.slice A n c:=by
 rcases h.2 with⟨rfl,rfl⟩|⟨g,cap,cur,rfl,_⟩
 ·exact⟨none,0,rfl⟩
 ·exact⟨_,cap,rfl⟩
theorem qeS(l:List (Nat × Bt × Bt × Bool))(x:Nat × Bt × Bt × Bool):vR (l++[x])=vR l++qj x:=by simp[vR]
theorem qcq:∀(l:List Value) (k:Nat) (acc:Array Value),k+l.length≤acc.size →
    (l.zipIdx k).foldl (fun a x=>a.setIfInBounds (0+x.2) x.1) acc=(acc.toList.take k++l++acc.toList.drop (k+l.length)).toArray
 | [],k,acc,_=>by simp
 | x::l,k,acc,h=>by
  have hk:k<acc.size:=by simp at h;omega
  have uV:k<acc.toList.length:=by simpa using hk
  rw[List.zipIdx_cons,List.foldl_cons,qcq l (k+1) _ (by simp at h ⊢;omega)]
  congr 1
  simp only[Nat.zero_add,Array.toList_setIfInBounds,List.length_cons];rw[List.drop_set_of_lt (by omega),show k+1+l.length=k+(l.length+1)by omega];have e:(acc.toList.set k x).take (k+1)=acc.toList.take k++[x]:=by
   rw[List.take_succ_eq_append_getElem (by simpa using hk)];simp only[List.getElem_set_self,List.take_set];rw[List.set_eq_of_length_le (by simp;omega)]
  rw[e];simp
theorem nN (size:Nat)(cs acc:Array Value)(h1:cs.size=size)(h2:acc.size=size):Instr.fill (fun i=>some (i*size,size)) acc [(0,.agg cs)]=some cs:=by
 simp only[Instr.fill,Nat.zero_mul,Value.cells];rw[if_neg (by simp[h1,h2])]
 congr 1
 rw[← Array.foldl_toList,Array.toList_zipIdx,qcq cs.toList 0 acc (by simp;omega)];simp;rw[List.drop_eq_nil_of_le (by simp;omega)];simp
theorem nO {ρ:Operand→Value}{o:Oper}{w:World}(x:Operand)(cs:Array Value)(ho:o.op=.buildSlice 105 1 #[(0,x)])(hx:ρ x=.agg cs)(hs:cs.size=66) :
    (execOp ρ o).run prog w=.ok (.value (.slice (some ⟨w.heap.size,0,none⟩) 1 1)) (w.alloc (.cells cs 125)):=by
 obtain⟨i0,hi,hz0,hz1,hz2⟩:=info_parts qeQ;have hr:=run_buildSlice (P:=prog) w 105 125 1 #[(0,.agg cs)] cs i0 _ underlying105 hi hz0 (by rw[hz1];decide) (by rw[hz1];decide) (by
  rw[hz1];exact nN 66 cs _ hs (by simp))
 simp[execOp,ho,hx,hr,Result.andThen]
theorem lG {ρ:Operand→Value}{o:Oper}{w:World}(x:Operand)(ho:o.op=.load 125 x)(g:Nat)(hx:ρ x=.pointer (some ⟨g,0,none⟩))(cs:Array Value)(hg:qf w g 125 cs)(hs:cs.size=66) :
    (execOp ρ o).run prog w=.ok (.value (.agg cs)) w:=by
 have:=qH (P:=prog) (w:=w) 125 x ho g 0 hx 125 cs cs.toList (0,0) _ hg underlying125 rfl (by rw[qlG];simp[hs]) (fun j u hu=>by rw[Nat.zero_add];simpa using hu);simpa using this
theorem dA {ρ:Operand→Value}{o:Oper}{w:World}(x:Operand)(ho:o.op=.load 105 x)(b i:Nat)(hx:ρ x=.pointer (some ⟨b,i,none⟩))(A:Option Addr)(n c:Nat)(hc:w.cell? ⟨b,i,none⟩=some (.slice A n c)) :
    (execOp ρ o).run prog w=.ok (.value (.slice A n c)) w:=by
 unfold execOp;simp only[ho,hx];go_simp
theorem rL {P:Program}{md:Region.Mode}{ops:Array Oper}{Q:Exit→Act→World→Prop}{i j l:Nat}{oi oj ol:Oper}{di dj dl:Tmp}{vi vj vl:Value}{fuel:Nat}{listed:Array Bool}{a:Act}{w w2:World}
    (hr:Region.ready md ops listed=[i,j]) (hri:Region.ready md ops (listed.setIfInBounds i true)=[j]) (q3N:Region.ready md ops ((listed.setIfInBounds i true).setIfInBounds j true)=[l])
    (hrj:Region.ready md ops (listed.setIfInBounds j true)=[i,l]) (q3O:Region.ready md ops ((listed.setIfInBounds j true).setIfInBounds l true)=[i])
    (hij:i≠j) (cu:i≠l) (hoi:ops[i]?=some oi) (hoj:ops[j]?=some oj) (hol:ops[l]?=some ol) (hgi:oi.guard=none) (hgj:oj.guard=none) (gH:ol.guard=none)
    (hdi:oi.dst=some di) (hdj:oj.dst=some dj) (hdl:ol.dst=some dl) (d1:di≠dj) (d2:di≠dl)
    (hi0:(execOp a.eval oi).run P w=.ok (.value vi) w) (hi1:(execOp (a.put (some dj) vj).eval oi).run P w=.ok (.value vi) w) (hi2:(execOp ((a.put (some dj) vj).put (some dl) vl).eval oi).run P w2=.ok (.value vi) w2)
    (hj0:(execOp a.eval oj).run P w=.ok (.value vj) w) (hj1:(execOp (a.put (some di) vi).eval oj).run P w=.ok (.value vj) w)
    (hl1:(execOp ((a.put (some di) vi).put (some dj) vj).eval ol).run P w=.ok (.value vl) w2) (hl2:(execOp (a.put (some dj) vj).eval ol).run P w=.ok (.value vl) w2)
    (h:wpAny P md ops Q fuel (((listed.setIfInBounds i true).setIfInBounds j true).setIfInBounds l true) (((a.put (some di) vi).put (some dj) vj).put (some dl) vl) w2):wpAny P md ops Q (fuel+3) listed a w:=by
 have tail:∀(b:Act) (ls:Array Bool),b=(a.put (some di) vi).put (some dj) vj→ls=(listed.setIfInBounds i true).setIfInBounds j true→wpAny P md ops Q (fuel+1) ls b w:=by
  rintro b ls rfl rfl;refine qI q3N hol gH (yx hl1 ?_);rw[hdl];exact h
 have hwi:∀b:Act,Region.wanted oi (yielded ops b.tmps)=true:=fun b=>by simp[Region.wanted,hgi]
 have hwj:∀b:Act,Region.wanted oj (yielded ops b.tmps)=true:=fun b=>by simp[Region.wanted,hgj]
 have hwl:∀b:Act,Region.wanted ol (yielded ops b.tmps)=true:=fun b=>by simp[Region.wanted,gH]
 refine wpAny_all hr (by simp) fun k hk=>?_;rcases(show k=i∨k=j by simpa using hk)with rfl|rfl
 ·unfold wpOp;simp only[hoi,hwi,if_true]
  left
  refine yx hi0 ?_;rw[hdi];refine qI hri hoj hgj (yx hj1 ?_);rw[hdj];exact tail _ _ rfl rfl
 ·unfold wpOp;simp only[hoj,hwj,if_true]
  left
  refine yx hj0 ?_;rw[hdj];refine wpAny_all hrj (by simp) fun n hn=>?_;rcases(show n=i∨n=l by simpa using hn)with rfl|rfl
  ·unfold wpOp;simp only[hoi,hwi,if_true]
   left
   refine yx hi1 ?_;rw[hdi];exact tail _ _ (ak a dj di vj vi (Ne.symm d1)) (Array.setIfInBounds_comm _ _ (Ne.symm hij))
  ·unfold wpOp;simp only[hol,hwl,if_true]
   left
   refine yx hl2 ?_;rw[hdl];refine qI q3O hoi hgi (yx hi2 ?_);rw[hdi,ak _ dl di vl vi (Ne.symm d2),ak a dj di vj vi (Ne.symm d1),Array.setIfInBounds_comm _ _ (Ne.symm cu),Array.setIfInBounds_comm (xs:=listed) _ _ (Ne.symm hij)];exact h
def FG (p m:Nat)(room used:Int)(B:Nat):Nat→Value→World→Prop
 | 0,v,_=>v=.pointer (some ⟨p,0,none⟩)
 | 1,v,_=>v=.pointer (some ⟨p,0,none⟩)
 | 2,v,_=>v=.pointer (some ⟨p,1,none⟩)
 | 3,v,_=>v=.int .i64 room
 | 4,v,_=>v=.pointer (some ⟨p,0,none⟩)
 | 5,v,_=>v=.pointer (some ⟨p,0,none⟩)
 | 6,v,_=>v=.pointer (some ⟨p,2,none⟩)
 | 7,v,_=>v=.map (some m)
 | 8,v,_=>v=.int .i64 used
 | 9,v,_=>v=.int .i64 (room-used)
 | 10,v,w=>∃b,v=.pointer (some ⟨b,0,none⟩)∧B≤b∧qf w b 3 #[.int .i64 0]
 | _,_,_=>True
theorem qpF(p m:Nat)(room used:Int)(B:Nat)(i:Nat)(v:Value)(w w':World)(hi:i<11)(h:FG p m room used B i v w)(hb:Below w.heap.size w w'):FG p m room used B i v w':=by
 match i,hi,h with
 | 0,_,h | 1,_,h | 2,_,h | 3,_,h | 4,_,h | 5,_,h | 6,_,h | 7,_,h | 8,_,h | 9,_,h=>exact h
 | 10,_,⟨b,h1,h2,h3⟩=>exact⟨b,h1,h2,h3.of_block (hb.block b h3.lt)⟩
def qlI (p:Nat)(free:Int)(w:World)(e:Ending)(w':World):Prop :=
 ∃B4 B3 a,e=.returned (.func (.func 218) #[] #[.pointer (some ⟨w.heap.size,0,none⟩),.pointer (some ⟨B4,0,none⟩),.pointer (some ⟨B3,0,none⟩)]) ∧
  Env w' p w.heap.size B4 B3 a free []∧Below w.heap.size w w'∧w.heap.size≤a
section
variable {w:World} {p m:Nat} {v:Value} {d:DD} {own:Nat→Prop}
theorem qeT{most:Nat}(h0:d.ok most)(h:uv w own p m v d) :
    Calls prog 202 #[.pointer (some ⟨p,0,none⟩)] w (qlI p (d.room-(d.used:Int)) w):=by
 have hmm:=@run_makeMap prog;have HM:=QH h.2.1;have hp:=h.1.lt;have hml:=h.2.1.lt;obtain⟨c0,c1,c2,c3,c4,c5⟩:=jW h.1;have r0:=h0.qxQ;have r1:=h0.qxR;have hu:d.used≤1024:=by
  have:=qau d.now;rw[d.jk]at this;have:=h0.n1;unfold DD.used;omega
 have HU:Hid (cnt d.now=d.used):=rfl;clear h h0 c0 c3 c4 c5;generalize hroom:d.room=room at *;generalize qxX:d.used=used at *;clear hroom qxX;go_enter func202,ntmps202;go_wp2_with fail;have kj:(w.alloc (.cells #[.pointer (some ⟨p,0,none⟩)] 24)).heap[w.heap.size]?=some (.cells #[.pointer (some ⟨p,0,none⟩)] 24 (0,0)):=heap_alloc_new w _;have hold:∀k,k<w.heap.size→(w.alloc (.cells #[.pointer (some ⟨p,0,none⟩)] 24)).heap[k]?=w.heap[k]? :=fun k hk=>Below.heap_alloc w _ k hk;have hsz:(w.alloc (.cells #[.pointer (some ⟨p,0,none⟩)] 24)).heap.size=w.heap.size+1:=by simp
 have hB0:Below w.heap.size w (w.alloc (.cells #[.pointer (some ⟨p,0,none⟩)] 24)):=(Below.refl _ w).alloc (Nat.le_refl _) _;generalize w.alloc (.cells #[.pointer (some ⟨p,0,none⟩)] 24)=w1 at *;refine cQ (by kernel_rfl) 11 [5,6,7,8,9,10,11,12,13,14,3] (by kernel_rfl) (FG p m room (used:Int) w1.heap.size) (qpF _ _ _ _ _) ?_ ?_
 ·intro i o vs ρ W hi ho hρ hb hG;have t5:=hρ.at_ 5 0 rfl;have t6:=hρ.at_ 6 1 rfl;have t7:=hρ.at_ 7 2 rfl;have t8:=hρ.at_ 8 3 rfl;have t9:=hρ.at_ 9 4 rfl;have t10:=hρ.at_ 10 5 rfl;have t11:=hρ.at_ 11 6 rfl;have t12:=hρ.at_ 12 7 rfl;have t13:=hρ.at_ 13 8 rfl;have t1:ρ (.tmp 1)=.pointer (some ⟨w.heap.size,0,none⟩):=hρ.out 1 rfl;have hc:=hρ.const;have k1:W.cell? ⟨w.heap.size,0,none⟩=some (.pointer (some ⟨p,0,none⟩)):=by rw[hb.cell (p:=⟨w.heap.size,0,none⟩) (by simp[hsz]),cell_of_row _ _ _ _ _ _ kj];rfl
  have q1:W.cell? ⟨p,1,none⟩=some (.int .i64 room):=by rw[hb.cell (p:=⟨p,1,none⟩) (by simp[hsz];omega),World.cell?_of_block (a:=⟨p,1,none⟩) (hold p hp)];exact c1
  have q2:W.cell? ⟨p,2,none⟩=some (.map (some m)):=by rw[hb.cell (p:=⟨p,2,none⟩) (by simp[hsz];omega),World.cell?_of_block (a:=⟨p,2,none⟩) (hold p hp)];exact c2
  have hmW:xf W m d.now:=HM.out.of_block ((hb.block m (by omega)).trans (hold m hml));rcases i with _|_|_|_|_|_|_|_|_|_|_|i;all_goals (first|omega|skip)
  all_goals simp only[QA,QB,QC,Option.some.injEq]at ho
  all_goals subst ho
  ·exact q9 (w':=W) (by unfold execOp;simp only[t1];go_simp) ⟨Below.refl _ _,rfl⟩
  ·have g:vs 0=_:=hG 0 (by kernel_rfl);exact q9 (w':=W) (by unfold execOp;simp only[t5,g];go_simp) ⟨Below.refl _ _,rfl⟩
  ·have g:vs 1=_:=hG 1 (by kernel_rfl);exact q9 (w':=W) (by unfold execOp;simp only[t6,g];go_simp) ⟨Below.refl _ _,rfl⟩
  ·have g:vs 2=_:=hG 2 (by kernel_rfl);exact q9 (w':=W) (by unfold execOp;simp only[t7,g];go_simp) ⟨Below.refl _ _,rfl⟩
  ·exact q9 (w':=W) (by unfold execOp;simp only[t1];go_simp) ⟨Below.refl _ _,rfl⟩
  ·have g:vs 4=_:=hG 4 (by kernel_rfl);exact q9 (w':=W) (by unfold execOp;simp only[t9,g];go_simp) ⟨Below.refl _ _,rfl⟩
  ·have g:vs 5=_:=hG 5 (by kernel_rfl);exact q9 (w':=W) (by unfold execOp;simp only[t10,g];go_simp) ⟨Below.refl _ _,rfl⟩
  ·have g:vs 6=_:=hG 6 (by kernel_rfl);exact q9 (w':=W) (by unfold execOp;simp only[t11,g];go_simp) ⟨Below.refl _ _,rfl⟩
  ·have g:vs 7=_:=hG 7 (by kernel_rfl);exact q9 (w':=W) (qlE (.tmp 12) rfl (t12.trans g) hmW) ⟨Below.refl _ _,by rw[HU.out];rfl⟩
  ·have g3:vs 3=_:=hG 3 (by kernel_rfl);have g8:vs 8=_:=hG 8 (by kernel_rfl);exact q9 (w':=W) (by unfold execOp;simp only[t8,g3,t13,g8];go_simp;exact IntWalk.i64_in _ (by omega)) ⟨Below.refl _ _,rfl⟩
  ·exact q9 (v:=.pointer (some ⟨W.heap.size,0,none⟩)) (w':=W.alloc (.cells #[.int .i64 0] 3)) (by unfold execOp;go_simp) ⟨(Below.refl _ _).alloc (Nat.le_refl _) _,W.heap.size,rfl,hb.size,qf.new _ _ _⟩
 ·intro vs W hb hG;have g9:vs 9=_:=hG 9 (by decide);obtain⟨b3,g10,hb3,hk3⟩:∃b,vs 10=.pointer (some ⟨b,0,none⟩)∧w1.heap.size≤b∧qf W b 3 #[.int .i64 0]:=hG 10 (by decide);simp only[qW,qK,if_true];rw[g9,g10];generalize vs 0=x0;generalize vs 1=x1;generalize vs 2=x2;generalize vs 3=x3;generalize vs 4=x4;generalize vs 5=x5;generalize vs 6=x6;generalize vs 7=x7;generalize vs 8=x8;clear hG g9 g10;have k3:W.cell? ⟨b3,0,none⟩=some (.int .i64 0):=hk3.cell 0;have f3:=hk3.frozen 0;have ik:=QH hk3;have hbW:=hb.size;have HB:=QH (hB0.trans (hb.mono (by omega)));have HX:=QH ((hb.block w.heap.size (by omega)).trans kj);have q9U:=hk3.lt;clear hk3 hb hB0 hold kj c1 c2;go_simp;refine qI (i:=11) (by kernel_rfl) rfl rfl ?_;go_simp;refine⟨by kernel_rfl,?_⟩;go_wp2;go_ret;generalize hW2:W.setCell ⟨b3,0,none⟩ (.int .i64 (room-(used:Int)))=W2;have hs2:W2.heap.size=W.heap.size:=by rw[← hW2,size_set]
  have hk2:qf W2 b3 3 #[.int .i64 (room-(used:Int))]:=by rw[← hW2];exact ik.out.qo 0 _
  have hx2:qf W2 w.heap.size 24 #[.pointer (some ⟨p,0,none⟩)]:=by
   unfold qf;rw[← hW2,xw _ _ _ _ _ (by omega)];exact HX.out
  have hB2:Below w.heap.size w W2:=by rw[← hW2];exact HB.out.setCell (by simp;omega) _
  refine⟨W.heap.size+1,b3,W.heap.size,rfl,⟨?_,?_,?_,?_⟩,?_,?_⟩
  ·refine(hx2.of_block (Below.heap_alloc _ _ _ (by omega))).of_block (Below.heap_alloc _ _ _ (by simp;omega))
  ·rw[← hs2];exact heap_alloc2_new _ _ _
  ·refine(hk2.of_block (Below.heap_alloc _ _ _ (by omega))).of_block (Below.heap_alloc _ _ _ (by simp;omega))
  ·rw[← hs2];exact(yn.made W2).of_block (Below.heap_alloc _ _ _ (by simp))
  ·exact(hB2.alloc (by omega) _).alloc (by simp;omega) _
  ·omega
end
end Go.Proofs.YtdagdllomphidaaGreatDoor.dk
namespace Go.Proofs.YtdagdllomphidaaGreatDoor.dk
open _root_.Go.Proofs.Tryz Go Go.RowKit
def tell (d:DD):List Int→List Int→Bool
 | _,[]=>true
 | acc,x::r=>if (ask d acc x).1 then tell d (ask d acc x).2 r else false
theorem il (s:qG):∀(l acc:List Int),acc.length≤(fresh s acc l).length
 | [],_=>Nat.le_refl _
 | x::r,acc=>by
  unfold fresh;split
  ·exact il s r acc
  ·exact Nat.le_trans (by simp) (il s r (acc++[x]))
theorem qaz(d:DD):∀(l acc:List Int),(acc.length=0∨(acc.length:Int)≤d.room-(d.used:Int)) →
    tell d acc l=(l.all d.has&&(decide ((fresh d.now acc l).length=0) || decide (((fresh d.now acc l).length:Int)≤d.room-(d.used:Int))))
 | [],acc,h=>by
  show true=_;simp only[List.all_nil,fresh,Bool.true_and];rcases h with h|h <;> simp[h]
 | x::r,acc,h=>by
  unfold tell;by_cases hh:d.has x=true
  ·by_cases hs:(look d.now x).isSome=true
   ·have e:ask d acc x=(true,acc):=by unfold ask;rw[if_neg (by rw[hh];simp),if_pos hs]
    rw[e];simp only[if_true,List.all_cons,hh,Bool.true_and];rw[qaz d r acc h]
    conv=>rhs;unfold fresh
    rw[hs];rfl
   ·have e:ask d acc x=(decide (((xT acc x).length:Int)≤d.room-(d.used:Int)),xT acc x):=by unfold ask;rw[if_neg (by rw[hh];simp),if_neg hs]
    have hf:fresh d.now acc (x::r)=fresh d.now (xT acc x) r:=by
     conv=>lhs;unfold fresh
     unfold xT;rw[show(look d.now x).isSome=false from by simpa using hs,Bool.false_or];split <;> rfl
    rw[e,hf];simp only[List.all_cons,hh,Bool.true_and];by_cases hle:((xT acc x).length:Int)≤d.room-(d.used:Int)
    ·rw[decide_eq_true hle,if_pos rfl];exact qaz d r _ (.inr hle)
    ·rw[decide_eq_false hle,if_neg (by simp)];have h1:=il d.now r (xT acc x);have h2:0<(xT acc x).length:=by
      unfold xT;split
      ·rename_i hc;cases acc with
       | nil=>simp at hc
       | cons=>simp
      ·simp
     rw[decide_eq_false (by omega),decide_eq_false (by omega)];simp
  ·have e:ask d acc x=(false,acc):=by unfold ask;rw[if_pos (by simpa using hh)]
   rw[e];simp[hh]
theorem qij(d:DD)(l:List Int):tell d [] l=d.fits l:=qaz d l [] (.inl rfl)
def qJ (w:World)(a:Option Addr)(zs:List Int):Prop :=
 ∀i (h:i<zs.length),∃b o,a=some ⟨b,o,none⟩∧b<w.heap.size∧w.cell? ⟨b,o+i,none⟩=some (.int .i64 zs[i]) ∧ -9223372036854775808≤zs[i]∧zs[i]≤9223372036854775807
def okB (r:Bool)(w:World)(e:Ending)(w':World):Prop:=e=.returned (.bool r)∧Below w.heap.size w w'
section
variable {w:World} {p m:Nat} {v:Value} {d:DD} {own:Nat→Prop} {B1 B4 B3 a:Nat} {acc:List Int}
theorem qpG{most:Nat}(h0:d.ok most)(h:uv w own p m v d)(he:Env w p B1 B4 B3 a (d.room-(d.used:Int)) acc)(x:Int)(hl:acc.length<maxLen) :
    Calls prog 218 #[.int .i64 x,.pointer (some ⟨B1,0,none⟩),.pointer (some ⟨B4,0,none⟩),.pointer (some ⟨B3,0,none⟩)] w (mO (ask d acc x) a w):=by
 unfold ask;by_cases hh:d.has x=true
 ·by_cases hs:(look d.now x).isSome=true
  ·rw[if_neg (by rw[hh];simp),if_pos hs];exact qpC h0 h he x hh hs
  ·rw[if_neg (by rw[hh];simp),if_neg hs];exact qpD h0 h he x hh (by simpa using hs) hl
 ·rw[if_pos (by simpa using hh)];exact qpB h he x (by simpa using hh)
theorem Env.step{w':World}{free:Int}{qxY:List Int}(h:Env w p B1 B4 B3 a free acc)(hs:yn w' a qxY)(hb:qx (fun k=>k=a) w w'):Env w' p B1 B4 B3 a free qxY:=by
 have hne:∀ {B t cs},qf w B t cs→B≠a:=by
  rintro B t cs hB rfl;obtain⟨D,⟨es,clock,q,_⟩,_⟩:=h.qo;unfold qf at hB;rw[q]at hB;cases hB
 exact⟨h.b1.of_block (hb.block _ h.b1.lt (hne h.b1)),h.b4.of_block (hb.block _ h.b4.lt (hne h.b4)),h.b3.of_block (hb.block _ h.b3.lt (hne h.b3)),hs⟩
theorem qpH(d:DD)(acc:List Int)(x:Int):(ask d acc x).2.length≤acc.length+1:=by
 unfold ask;split
 ·simp
 ·split
  ·simp
  ·unfold xT;split <;> simp
def qtX (d:DD)(zs:List Int)(w:World)(p B1 B4 B3 a:Nat)(i:Value)(wr:World):Prop :=
 ∃k:Nat,k≤zs.length∧i=.int .i64 (k:Int)∧Below w.heap.size w wr∧∃acc,Env wr p B1 B4 B3 a (d.room-(d.used:Int)) acc∧acc.length≤k∧tell d acc (zs.drop k)=d.fits zs
theorem eu {most:Nat}(h:zx most w own p d)(A:Option Addr)(c:Nat)(zs:List Int)(hz:qJ w A zs)(hzl:zs.length≤1000000) :
    Calls prog 167 #[.pointer (some ⟨p,0,none⟩),.slice A zs.length c] w (okB (d.fits zs) w):=by
 obtain⟨h0,m,v,h1⟩:=h;have H0:=QH h0;have H1:=QH h1;have HZ:=QH hz;have HF:=QH (qeT h0 h1);have xJ:=h1.2.2.2.2.2.2;have HL:=QH xJ;clear h0 h1 hz xJ;go_enter func167,ntmps167;go_wp2_with (go_at_call 202;refine HF.out.mono ?_);rintro e W1 ⟨B4,B3,a,rfl,hE,hb,ha⟩;have HE:=QH hE;have HB:=QH hb;have HA:=QH ha;clear hE hb ha;go_wp2_with fail;go_loopw [14] (fun i wr=>qtX d zs w p w.heap.size B4 B3 a i wr) (fun i _=>zs.length-(intOf i).toNat);case atStart=>exact⟨0,Nat.zero_le _,rfl,HB.out,[],HE.out,Nat.le_refl _,qij d zs⟩
 case round =>
  obtain⟨k,hk,rfl,hB,acc,hEn,hac,htl⟩:=hrel;have HBr:=QH hB;have HEr:=QH hEn;have HT:=QH htl;have HAc:=QH hac;by_cases hlt:k<zs.length
  ·obtain⟨b,o,rfl,lD,nP,hx0,hx1⟩:=HZ.out k hlt;have hcell:wr.cell? ⟨b,o+k,none⟩=some (.int .i64 zs[k]):=by rw[hB.cell (p:=⟨b,o+k,none⟩) lD];exact nP
   have hkr:uv wr own p m v d:=H1.out.keep hB.size (fun j hj=>hB.block j (HL.out j hj));have qya:=qpG H0.out hkr hEn zs[k] (by unfold maxLen;omega);have hbs:b<wr.heap.size:=Nat.lt_of_lt_of_le lD hB.size;have qyb:d.fits zs=if (ask d acc zs[k]).1 then tell d (ask d acc zs[k]).2 (zs.drop (k+1))else false:=by
    rw[← htl,List.drop_eq_getElem_cons hlt];rfl
   have hal:=qpH d acc zs[k];generalize zs[k]=x at *;have dw:=QH qyb;have HAL:=QH hal;have qyc:=QH qya;clear qyb hal qya hB hEn htl hac nP lD hkr;cases hq:(ask d acc x).1 with
   | true =>
    have HQ:=QH hq;rw[hq,if_pos rfl]at dw;clear hq;go_wp2_with (go_at_call 218;refine qyc.out.mono ?_);rintro e w2 ⟨rfl,hs2,hb2⟩;rw[HQ.out];have ur:=QH hs2;have qy:=QH hb2;clear hs2 hb2;go_wp2_with fail;go_roundw;case rel=>exact⟨k+1,by omega,by go_num,HBr.out.trans (qy.out.below (fun i e=>by subst e;exact HA.out) HBr.out.size),_,HEr.out.step ur.out qy.out,(by have:=HAc.out;have:=HAL.out;omega),dw.out.symm⟩
    case measure=>simp[intOf];omega
   | false =>
    have HQ:=QH hq;rw[hq,if_neg (by simp)]at dw;clear hq;go_wp2_with (go_at_call 218;refine qyc.out.mono ?_);rintro e w2 ⟨rfl,hs2,hb2⟩;rw[HQ.out];have qy:=QH hb2;clear hs2 hb2;go_wp2_with fail;go_ret;exact⟨(by rw[dw.out];rfl),HBr.out.trans (qy.out.below (fun i e=>by subst e;exact HA.out) HBr.out.size)⟩
  ·have hkn:k=zs.length:=by omega
   subst hkn;clear hB hEn htl hac;go_wp2_with fail;go_ret;have:=HT.out;rw[List.drop_length]at this;exact⟨by rw[← this];rfl,HBr.out⟩
end
end Go.Proofs.YtdagdllomphidaaGreatDoor.dk
namespace Go.Proofs.YtdagdllomphidaaGreatDoor.dk
open _root_.Go.Proofs.Tryz Go Go.RowKit
section
variable {w:World} {p m:Nat} {v:Value} {d:DD} {own:Nat→Prop}
theorem xK (d:DD):d.oper.base=d.base∧d.oper.more=d.more∧d.oper.room=d.room:=by
 unfold DD.oper DD.off;split
 ·exact⟨rfl,rfl,rfl⟩
 ·split <;> exact⟨rfl,rfl,rfl⟩
theorem dB (d:DD):d.oper.now=d.now:=by unfold DD.now;rw[(xK d).1,(xK d).2.1]
theorem qlK(d:DD):d.oper.n=d.n:=by unfold DD.n;rw[(xK d).1]
theorem qlL(d:DD)(k:Int)(hh:d.has k=true):d.fits [k]=((look d.now k).isSome || decide ((d.used:Int)<d.room)):=by
 unfold DD.fits;simp only[List.all_cons,List.all_nil,hh,Bool.and_self,Bool.true_and,fresh];by_cases hx:(look d.now k).isSome=true
 ·simp[hx]
 ·simp[hx];omega
theorem nQ (w:World)(k:Int)(h0 : -9223372036854775808≤k)(h1:k≤9223372036854775807):qJ (w.alloc (.cells #[.int .i64 k] 3)) (some ⟨w.heap.size,0,none⟩) [k]:=by
 intro i h;have hi:i=0:=by simpa using h
 subst hi;refine⟨w.heap.size,0,rfl,by simp,?_,h0,h1⟩;rw[cell_of_row _ _ _ _ _ _ (heap_alloc_new w _)];rfl
theorem iq {most:Nat}(h:zx most w own p d)(zP:d.on=false)(k:Int)(s:ByteArray) :
    Calls prog 131 #[.pointer (some ⟨p,0,none⟩),.int .i64 k,.string s] w (xt most own p d (.int .i64 6) w):=by
 have H:=QH h;obtain⟨h0,m,v,h1⟩:=h;obtain⟨c0,c1,c2,c3,c4,c5⟩:=jW h1.1;rw[zP]at c4;clear h0 h1 c0 c1 c2 c3 c5 zP;go_enter func131,ntmps131;go_wp2_with fail;go_ret;exact⟨rfl,own,H.out,qx.refl _ _,uY.refl _ _⟩
theorem qik{most:Nat}(h:zx most w own p d)(zP:d.on=true)(k:Int)(hh:d.has k=false)(s:ByteArray) :
    Calls prog 131 #[.pointer (some ⟨p,0,none⟩),.int .i64 k,.string s] w (xt most own p d (.int .i64 2) w):=by
 have H:=QH h;obtain⟨h0,m,v,h1⟩:=h;have hhas:=ki h1 k;rw[hh]at hhas;have HH:=QH hhas;obtain⟨c0,c1,c2,c3,c4,c5⟩:=jW h1.1;rw[zP]at c4;clear h0 h1 c0 c1 c2 c3 c5 zP hhas hh;go_enter func131,ntmps131;go_wp2_with (go_at_call 134;refine HH.out.mono ?_;rintro e w' ⟨rfl,rfl⟩);go_ret;exact⟨rfl,own,H.out,qx.refl _ _,uY.refl _ _⟩
theorem qil{most:Nat}(h:zx most w own p d)(zP:d.on=true)(k:Int)(hh:d.has k=true)(s:ByteArray)(hs:s.size≠32) :
    Calls prog 131 #[.pointer (some ⟨p,0,none⟩),.int .i64 k,.string s] w (xt most own p d (.int .i64 2) w):=by
 have H:=QH h;obtain⟨h0,m,v,h1⟩:=h;have hhas:=ki h1 k;rw[hh]at hhas;have HH:=QH hhas;obtain⟨c0,c1,c2,c3,c4,c5⟩:=jW h1.1;rw[zP]at c4;have hsz:((s.size:Int) == 32)=false:=by rw[beq_eq_false_iff_ne];omega
 clear h0 h1 c0 c1 c2 c3 c5 zP hhas hh hs;go_enter func131,ntmps131;go_wp2_with (go_at_call 134;refine HH.out.mono ?_;rintro e w' ⟨rfl,rfl⟩);go_ret;exact⟨rfl,own,H.out,qx.refl _ _,uY.refl _ _⟩
theorem qeU{most:Nat}(h:zx most w own p d)(zP:d.on=true)(k:Int)(hh:d.has k=true)(s:ByteArray)(hs:s.size=32)(hf:d.fits [k]=false) :
    Calls prog 131 #[.pointer (some ⟨p,0,none⟩),.int .i64 k,.string s] w (xt most own p d (.int .i64 7) w):=by
 have hk0:0≤k∧k<(d.n:Int):=by simpa[DD.has]using hh
 have hn:=h.1.n1;have h2:zx most (w.alloc (.cells #[.int .i64 k] 3)) own p d:=h.keep (by simp) (fun j hj=>Below.heap_alloc _ _ _ (h.2.choose_spec.choose_spec.2.2.2.2.2.2 j hj));have HF:=QH (eu h2 _ 1 [k] (nQ w k (by omega) (by omega)) (by simp));rw[hf]at HF;have H:=QH h;have H2:=QH h2;have xJ:∀j,own j→j<w.heap.size:=fun j hj=>h.2.choose_spec.choose_spec.2.2.2.2.2.2 j hj;have HL:=QH xJ;obtain⟨h0,m,v,h1⟩:=h;have hhas:=ki h1 k;rw[hh]at hhas;have HH:=QH hhas;obtain⟨c0,c1,c2,c3,c4,c5⟩:=jW h1.1;rw[zP]at c4;have hsz:((s.size:Int) == 32)=true:=by rw[beq_iff_eq];omega
 clear h0 h1 c0 c1 c2 c3 c5 zP hhas hh hs hf h2 xJ hk0 hn;go_enter func131,ntmps131;go_wp2_with (first|(go_at_call 134;refine HH.out.mono ?_;rintro e w' ⟨rfl,rfl⟩)|(go_at_call 167;refine HF.out.mono ?_;rintro e w2 ⟨rfl,hb2⟩;have qy:=QH hb2;clear hb2));go_ret;have hB:Below w.heap.size w w2:=((Below.refl _ w).alloc (Nat.le_refl _) _).trans (qy.out.mono (by simp));exact⟨rfl,own,H.out.keep hB.size (fun j hj=>hB.block j (HL.out j hj)),qx.of_below hB,uY.refl _ _⟩
end
end Go.Proofs.YtdagdllomphidaaGreatDoor.dk
namespace Go.Proofs.YtdagdllomphidaaGreatDoor.dk
open _root_.Go.Proofs.Tryz Go Go.RowKit
theorem qeV(d:DD)(k:Int)(v:Bt):(d.write k v).2.more.length≤d.more.length+1:=by
 have ho:=(xK d).2.1;unfold DD.write;split
 ·simp
 ·split
  ·simp
  ·split
   ·simp
   ·split
    ·simp[ho]
    ·simp
end Go.Proofs.YtdagdllomphidaaGreatDoor.dk
namespace Go.Proofs.YtdagdllomphidaaGreatDoor
open _root_.Go.Proofs.Tryz Go
def kO (n:Nat):Nat:=if n%2=1 then n/2^^^3988292384 else n/2
def xL:Nat→Nat→Nat
 | 0,n=>n
 | k+1,n=>xL k (kO n)
def vU (n:Nat)(b:UInt8):Nat:=xL 8 (n^^^b.toNat)
def rM (n:Nat)(l:List UInt8):Nat:=l.foldl vU n
def wL (l:List UInt8):Nat:=rM 4294967295 l^^^4294967295
theorem nR (n:Nat):kO n=n/2^^^(if n%2=1 then 3988292384 else 0):=by
 unfold kO;split <;> simp
theorem qlM(a b:Nat):(a^^^b)%2=(a%2)^^^(b%2):=Nat.xor_mod_two_pow (n:=1)
theorem qim(a b:Nat):kO (a^^^b)=kO a^^^kO b:=by
 rw[nR,nR a,nR b,Nat.xor_div_two,qlM];have ha:a%2=0∨a%2=1:=by omega
 have hb:b%2=0∨b%2=1:=by omega
 have h2:∀x y p:Nat,x^^^(y^^^p)=x^^^y^^^p:=fun x y p=>(Nat.xor_assoc x y p).symm;have h3:∀x p:Nat,x^^^p^^^p=x:=fun x p=>by
  rw[Nat.xor_assoc,Nat.xor_self,Nat.xor_zero]
 have h4:∀x y p:Nat,x^^^p^^^y=x^^^y^^^p:=fun x y p=>by
  rw[Nat.xor_assoc,Nat.xor_comm p y,← Nat.xor_assoc]
 rcases ha with ha|ha <;> rcases hb with hb|hb <;> simp[ha,hb,h2,h3,h4]
theorem bC:∀(k a b:Nat),xL k (a^^^b)=xL k a^^^xL k b
 | 0,_,_=>rfl
 | k+1,a,b=>by simp only[xL,qim,bC k]
theorem qlN(n:Nat)(h:n<4294967296):kO n<4294967296:=by
 unfold kO;split
 ·exact Nat.xor_lt_two_pow (n:=32) (by omega) (by omega)
 ·omega
theorem sT:∀(k n:Nat),n<4294967296→xL k n<4294967296
 | 0,_,h=>h
 | k+1,n,h=>sT k _ (qlN n h)
theorem qrY(b:UInt8):b.toNat<256:=b.toNat_lt
theorem qcr(n:Nat)(b:UInt8)(h:n<4294967296):n^^^b.toNat<4294967296:=by
 have:=qrY b;exact Nat.xor_lt_two_pow (n:=32) (by omega) (by omega)
theorem qcs(n:Nat)(b:UInt8)(h:n<4294967296):vU n b<4294967296 :=
 sT 8 _ (qcr n b h)
theorem qa0:∀(l:List UInt8) (n:Nat),n<4294967296→rM n l<4294967296
 | [],_,h=>h
 | b::l,n,h=>qa0 l _ (qcs n b h)
theorem qin(l:List UInt8):wL l<4294967296 :=
 Nat.xor_lt_two_pow (n:=32) (qa0 l _ (by omega)) (by omega)
theorem qio(n:Nat)(l:List UInt8)(b:UInt8):rM n (l++[b])=vU (rM n l) b:=by
 simp[rM]
def ew:List Nat:=[0,498536548,997073096,651767980,1994146192,1802195444,1303535960,1342533948,3988292384,4027552580,3604390888,3412177804,2607071920,2262029012,2685067896,3183342108]
def ye (n f:Nat):Nat:=n/16^^^ew.getD ((n%256^^^f)%16) 0
theorem qgQ(n:Nat):n=n/16*16^^^n%16:=by
 have hd:(n/16*16^^^n%16)/2 ^ 4=n/16:=by
  rw[Nat.xor_div_two_pow];have h1:n/16*16/2 ^ 4=n/16:=by omega
  have h2:n%16/2 ^ 4=0:=by omega
  rw[h1,h2,Nat.xor_zero]
 have hm:(n/16*16^^^n%16)%2 ^ 4=n%16:=by
  rw[Nat.xor_mod_two_pow];have h1:n/16*16%2 ^ 4=0:=by omega
  have h2:n%16%2 ^ 4=n%16:=by omega
  rw[h1,h2,Nat.zero_xor]
 omega
theorem ey (m:Nat):xL 4 (m*16)=m:=by
 have h1:kO (m*16)=m*8:=by unfold kO;rw[if_neg (by omega)];omega
 have h2:kO (m*8)=m*4:=by unfold kO;rw[if_neg (by omega)];omega
 have h3:kO (m*4)=m*2:=by unfold kO;rw[if_neg (by omega)];omega
 have h4:kO (m*2)=m:=by unfold kO;rw[if_neg (by omega)];omega
 simp only[xL,h1,h2,h3,h4]
theorem qct:∀r:Nat,r<16→xL 4 r=ew.getD r 0:=by decide +kernel
theorem qpI(n:Nat):xL 4 n=n/16^^^ew.getD (n%16) 0:=by
 have h:=qgQ n;have e:xL 4 (n/16*16^^^n%16)=n/16^^^ew.getD (n%16) 0:=by
  rw[bC,ey,qct _ (by omega)]
 rw[← h]at e;exact e
theorem nS (j:Nat):∀(k n:Nat),xL (k+j) n=xL j (xL k n)
 | 0,n=>by simp[xL]
 | k+1,n=>by
  rw[show k+1+j=(k+j)+1 from by omega];simp only[xL];exact nS j k _
theorem ax (a b:Nat):(a^^^b)%16=(a%16)^^^(b%16):=Nat.xor_mod_two_pow (n:=4)
theorem qip(a b:Nat):(a^^^b)/16=(a/16)^^^(b/16):=Nat.xor_div_two_pow (n:=4)
theorem lH (n f:Nat)(hf:f/16=0):ye n f=xL 4 (n^^^f):=by
 rw[qpI,qip,hf,Nat.xor_zero,ax];unfold ye;rw[ax,show n%256%16=n%16 from by omega]
theorem qa1(n f:Nat):ye n f=ye n (f%16):=by
 unfold ye;rw[ax,ax _ (f%16),show f%16%16=f%16 from by omega]
theorem halves(n:Nat)(b:UInt8):ye (ye n b.toNat) (b.toNat/16)=vU n b:=by
 have hb:=qrY b;unfold vU;rw[qa1 n,lH _ _ (by omega),lH _ _ (by omega),nS 4 4]
 congr 1
 have h:=qgQ b.toNat;have e:xL 4 (n^^^b.toNat)=xL 4 (n^^^b.toNat%16)^^^b.toNat/16:=by
  have:n^^^b.toNat=(n^^^b.toNat%16)^^^b.toNat/16*16:=by
   rw[Nat.xor_assoc,Nat.xor_comm (b.toNat%16),← h]
  rw[this,bC,ey]
 exact e.symm
theorem qcu(n f:Nat)(h:n<4294967296):ye n f<4294967296:=by
 have hi:(n%256^^^f)%16<16:=Nat.mod_lt _ (by omega);have ht:∀i:Nat,i<16→ew.getD i 0<4294967296:=by decide
 exact Nat.xor_lt_two_pow (n:=32) (by omega) (ht _ hi)
def be4 (n:Nat):List UInt8:=[UInt8.ofNat (n/16777216%256),UInt8.ofNat (n/65536%256),UInt8.ofNat (n/256%256),UInt8.ofNat (n%256)]
theorem ofNat_inj(a b:Nat)(ha:a<256)(hb:b<256)(h:UInt8.ofNat a=UInt8.ofNat b):a=b:=by
 have:=congrArg UInt8.toNat h;simp[UInt8.toNat_ofNat']at this;omega
def nsec (n:Nat):Nat:=(n+37)/32
def pad (l:List UInt8):List UInt8:=l++List.replicate (32-l.length) 0
def mA (n:Nat):List UInt8:=[UInt8.ofNat (n/256%256),UInt8.ofNat (n%256)]
def headB (t:List UInt8):List UInt8:=mA t.length++be4 (wL t)
def mD (t:List UInt8):List UInt8:=headB t++t
def yz (t:List UInt8):List UInt8:=mD t++List.replicate (nsec t.length*32-6-t.length) 0
def uz (f:List UInt8)(i:Nat):List UInt8:=(f.drop (32*i)).take 32
def chunks (k:Nat)(f:List UInt8):List (List UInt8):=(List.range k).map (uz f)
def vV (k:Nat)(f:List UInt8):List (List UInt8):=(List.range k).map fun i=>pad (uz f i)
def qL (t:List UInt8):List (List UInt8):=vV (nsec t.length) (mD t)
def vA (ps:List (List UInt8))(t:List UInt8):Prop:=t.length≤8192∧ps=qL t
theorem qa2(t:List UInt8):(headB t).length=6:=rfl
theorem dC (t:List UInt8):(mD t).length=t.length+6:=by simp[mD,qa2];omega
theorem qa3(n:Nat):n+6≤nsec n*32:=by unfold nsec;omega
theorem eA (n:Nat):0<nsec n:=by unfold nsec;omega
theorem j9 (t:List UInt8):(yz t).length=32*nsec t.length:=by
 have:=qa3 t.length;simp[yz,dC];omega
theorem xU (t:List UInt8):(qL t).length=nsec t.length:=by simp[qL,vV]
theorem qa4(k:Nat)(f:List UInt8):(vV k f).length=k:=by simp[vV]
theorem qeW(k:Nat)(f:List UInt8):vV (k+1) f=vV k f++[pad (uz f k)]:=by simp[vV,List.range_succ]
theorem qcv(k:Nat)(f:List UInt8):chunks (k+1) f=chunks k f++[uz f k]:=by simp[chunks,List.range_succ]
theorem gy (f:List UInt8)(i:Nat):(uz f i).length≤32:=by simp[uz];omega
theorem nT (l:List UInt8)(h:l.length≤32):(pad l).length=32:=by simp[pad];omega
theorem qiq(t:List UInt8)(i:Nat)(h:i<nsec t.length):pad (uz (mD t) i)=uz (yz t) i:=by
 have hl:=dC t;have hn:=qa3 t.length;have hi:32*i≤(mD t).length:=by unfold nsec at h;omega
 have ht:32*(i+1)≤nsec t.length*32:=by omega
 unfold pad uz yz;rw[List.drop_append_of_le_length hi,List.take_append,List.take_replicate,List.length_take,List.length_drop]
 congr 1
 congr 1
 omega
theorem qcw(t:List UInt8):qL t=chunks (nsec t.length) (yz t):=by
 unfold qL vV chunks;apply List.map_congr_left;intro i hi;exact qiq t i (by simpa using hi)
theorem dD (f:List UInt8):∀k,(chunks k f).flatten=f.take (32*k)
 | 0=>by simp[chunks]
 | k+1=>by
  rw[qcv,List.flatten_append,dD f k];simp only[List.flatten_cons,List.flatten_nil,List.append_nil,uz];rw[show 32*(k+1)=32*k+32 from by omega,List.take_add]
theorem yG (t:List UInt8):(qL t).flatten=yz t:=by
 rw[qcw,dD,List.take_of_length_le];rw[j9];exact Nat.le_refl _
theorem ay (t:List UInt8)(i:Nat)(h:i<(qL t).length):(qL t)[i].length=32:=by
 simp only[qL,vV,List.getElem_map];exact nT _ (gy _ _)
theorem qcx(k:Nat)(f:List UInt8):chunks (k+1) f=f.take 32::chunks k (f.drop 32):=by
 simp only[chunks,List.range_succ_eq_map,List.map_cons,List.map_map,uz]
 congr 1
 apply List.map_congr_left;intro i _;simp only[Function.comp,uz,List.drop_drop];rw[show 32*(i+1)=32+32*i from by omega]
theorem chunks_flatten:∀ps:List (List UInt8),(∀i (h:i<ps.length),ps[i].length=32)→chunks ps.length ps.flatten=ps
 | [],_=>rfl
 | p::ps,h=>by
  have h0:p.length=32:=h 0 (by simp);have ih:=chunks_flatten ps fun i hi=>h (i+1) (Nat.succ_lt_succ hi);rw[List.length_cons,qcx,List.flatten_cons,List.take_left' h0,List.drop_left' h0,ih]
theorem vW:∀ps:List (List UInt8),(∀i (h:i<ps.length),ps[i].length=32)→ps.flatten.length=32*ps.length
 | [],_=>rfl
 | p::ps,h=>by
  have h0:p.length=32:=h 0 (by simp);have ih:=vW ps fun i hi=>h (i+1) (Nat.succ_lt_succ hi);rw[List.flatten_cons,List.length_append,ih,h0,List.length_cons];omega
theorem kU (t:List UInt8):(yz t).take 2=mA t.length:=rfl
theorem qa5(t:List UInt8):(yz t).drop 6=t++List.replicate (nsec t.length*32-6-t.length) 0:=rfl
theorem dE (t:List UInt8):((yz t).drop 6).take t.length=t:=by rw[qa5];simp
theorem qcy(n m:Nat)(hn:n<65536)(hm:m<65536)(h:mA n=mA m):n=m:=by
 simp only[mA,List.cons.injEq,and_true]at h;have:=ofNat_inj _ _ (by omega) (by omega) h.1;have:=ofNat_inj _ _ (by omega) (by omega) h.2;omega
theorem qlO(n:Nat)(h:n<65536):256*(UInt8.ofNat (n/256%256)).toNat+(UInt8.ofNat (n%256)).toNat=n:=by
 simp[UInt8.toNat_ofNat'];omega
theorem qeX(t u:List UInt8)(ht:t.length<65536)(hu:u.length<65536)(h:yz t=yz u):t=u:=by
 have hl:=qcy _ _ ht hu (by rw[← kU,← kU,h]);rw[← dE t,← dE u,h,hl]
theorem qlP(t u:List UInt8)(ht:t.length<65536)(hu:u.length<65536)(h:qL t=qL u):t=u :=
 qeX t u ht hu (by rw[← yG,← yG,h])
theorem nU (ps:List (List UInt8))(t u:List UInt8)(ht:vA ps t)(hu:vA ps u):t=u :=
 qlP t u (by have:=ht.1;omega) (by have:=hu.1;omega) (by rw[← ht.2,← hu.2])
def rN (f:List UInt8):Option (List UInt8) :=
 match f with
 | a::b::_::_::_::_::r=>if r.length<256*a.toNat+b.toNat then none else some (r.take (256*a.toNat+b.toNat))
 | _=>none
theorem qeY(f:List UInt8)(h:f.length<6):rN f=none:=by
 unfold rN;split
 ·simp at h;omega
 ·rfl
theorem qgR(f:List UInt8)(h:6≤f.length):rN f=if f.length-6<256*f[0].toNat+f[1].toNat then none else some ((f.drop 6).take (256*f[0].toNat+f[1].toNat)):=by
 match f,h with
 | a::b::_::_::_::_::r,_=>simp[rN]
theorem qeZ(t:List UInt8)(ht:t.length<65536):rN (yz t)=some t:=by
 have hl:=qa3 t.length;have hw:=j9 t;have h0:(yz t)[0]'(by omega)=UInt8.ofNat (t.length/256%256):=rfl;have h1:(yz t)[1]'(by omega)=UInt8.ofNat (t.length%256):=rfl;rw[qgR _ (by omega),h0,h1,qlO _ ht,if_neg (by omega),dE]
end Go.Proofs.YtdagdllomphidaaGreatDoor
namespace Go.Proofs.YtdagdllomphidaaGreatDoor.jr
open _root_.Go.Proofs.Tryz dk wi
abbrev Wr:=Int × Bt
inductive Step where
 | w (k:Int) (v:Bt)
 | f
def jO (d:DD):Step→Int × DD
 | .w k v=>d.write k v
 | .f=>d.flush
def dF:List Step→DD→Int × DD
 | [],d=>(0,d)
 | s::r,d=>if (jO d s).1=0 then dF r (jO d s).2 else jO d s
def jN (l:List Wr):List Step:=l.map fun x=>.w x.1 x.2
def qD:List (List Wr)→List Step
 | []=>[]
 | l::r=>jN l ++ .f::qD r
def rd (s:qG)(k:Int):Bt:=(dk.look s k).getD zz
def kI (a c:Nat):Bt:=zo (a+1)++zo c++List.replicate (32-(zo (a+1)).length-(zo c).length) 0
def pairs:List (Nat × Nat):=(List.range 2).flatMap fun a=>(List.range 73).map fun c=>(a,c)
def gS (s:Bt):Option (Nat × Nat):=pairs.find? fun p=>kI p.1 p.2 == s
def wB (x:Wr):Bt:=zo x.1.toNat++lj x.2
def zf (l:List Wr):Bt:=zo l.length++(l.map wB).flatten
def ir:Nat→Bt→Option (List Wr × Bt)
 | 0,t=>some ([],t)
 | n+1,t=>match rdNum t with
  | none=>none
  | some (a,t1)=>match jf t1 with
   | none=>none
   | some (v,t2)=>match ir n t2 with
    | none=>none
    | some (l,r)=>some ((((min a 1024:Nat):Int),v)::l,r)
def aW (t:Bt):Option (List Wr):=match rdNum t with
 | none=>none
 | some (n,r)=>if n<1∨60<n then none else match ir n r with
  | some (l,[])=>some l
  | _=>none
open Classical in
noncomputable def unB (ps:List Bt):Option Bt:=if h:∃t,vA ps t then some h.choose else none
def zQ (s:qG)(a c:Nat):List Bt:=(List.range c).map fun i=>rd s ((1+a*72+i:Nat):Int)
noncomputable def dG (s:qG)(a c:Nat):Option (List Wr):=(unB (zQ s a c)).bind aW
def okW (n:Nat)(x:Wr):Bool:=decide (145≤x.1)&&decide (x.1<(n:Int))&&decide (x.2.length=32)
def found (acc:List Int)(l:List Wr):List Int:=l.foldl (fun acc x=>xT acc x.1) acc
def vB (n:Nat)(l:List Wr):Bool:=l.all (okW n)&&decide ((found [] l).length=l.length)
def zg:Nat→List Bt→List Wr
 | _,[]=>[]
 | o,s::r=>((o:Int),s)::zg (o+1) r
def lay (a:Nat)(ss:List Bt):List Wr:=zg (1+a*72) ss
def yH (a:Nat)(l:List Wr):List (List Wr):=[lay (1-a) (qL (zf l)),[(0,kI (1-a) (qL (zf l)).length)],l]
def placesOf(bs:List (List Wr)):List Int:=bs.flatten.map (·.1)
def kV (d:DD):Int × DD:=if d.on=false then(6,d)else if d.n≤145 then(2,d)else dF (qD [[(0,kI 0 0)]]) d
def zW (d:DD)(l:List Wr):Int × DD :=
 if d.on=false then(6,d)
 else if l.length=0 then(0,d)
 else if 60<l.length then(3,d)
 else if vB d.n l=false then(2,d)
 else match gS (rd d.now 0)with
  | none=>(8,d)
  | some (a,_) =>
   if 8192<(zf l).length∨72<(qL (zf l)).length then(3,d)
   else if d.fits (placesOf (yH a l))=false then(7,d)
   else dF (qD (yH a l)) d
noncomputable def zZ (d:DD):Int × DD :=
 if d.on=false then(6,d)
 else match gS (rd d.now 0)with
  | none=>(8,d)
  | some (a,c) =>
   if c=0 then(0,d)
   else match dG d.now a c with
    | none=>(8,d)
    | some l=>if vB d.n l=false then(8,d)else dF (qD [l]) d
theorem qua:pairs.all (fun p=>decide ((kI p.1 p.2).length=32)&&decide (gS (kI p.1 p.2)=some p)&&decide (kI p.1 p.2≠zz))=true:=by decide +kernel
theorem qir{a c:Nat}(ha:a<2)(hc:c≤72):(a,c)∈pairs:=by
 unfold pairs;rw[List.mem_flatMap];exact⟨a,by simpa using ha,List.mem_map.2 ⟨c,by simp;omega,rfl⟩⟩
theorem qlQ{p:Nat × Nat}(h:p∈pairs):p.1<2∧p.2≤72:=by
 unfold pairs at h;rw[List.mem_flatMap]at h;obtain⟨a,ha,h⟩:=h;obtain⟨c,hc,rfl⟩:=List.mem_map.1 h;simp at ha hc;exact⟨ha,by omega⟩
theorem uA {a c:Nat}(ha:a<2)(hc:c≤72):(kI a c).length=32∧gS (kI a c)=some (a,c)∧kI a c≠zz:=by
 have:=List.all_eq_true.1 qua (a,c) (qir ha hc);simp only[Bool.and_eq_true,decide_eq_true_eq]at this;exact⟨this.1.1,this.1.2,this.2⟩
theorem kZ {s:Bt}{a c:Nat}(h:gS s=some (a,c)):a<2∧c≤72∧s=kI a c:=by
 have h1:=List.find?_some h;have h2:=qlQ (List.mem_of_find?_eq_some h);exact⟨h2.1,h2.2,(by simpa using h1:kI a c=s).symm⟩
theorem qgS:∀(l:List Wr) (r:Bt),(∀x∈l,0≤x.1∧x.1≤1024∧x.2.length=32)→ir l.length ((l.map wB).flatten++r)=some (l,r)
 | [],r,_=>rfl
 | x::l,r,h=>by
  obtain⟨h0,h1,h2⟩:=h x (by simp);have ih:=qgS l r (fun y hy=>h y (by simp[hy]));simp only[List.length_cons,List.map_cons,List.flatten_cons,ir,wB,List.append_assoc];rw[kX _ (by omega)];dsimp only;rw[qek _ (by omega)];dsimp only;rw[ih];have e:((min x.1.toNat 1024:Nat):Int)=x.1:=by omega
  simp only[e]
theorem qis(l:List Wr)(h0:1≤l.length)(h1:l.length≤60)(h:∀x∈l,0≤x.1∧x.1≤1024∧x.2.length=32):aW (zf l)=some l:=by
 unfold aW zf;rw[kX _ (by omega)];dsimp only;rw[if_neg (by omega)];have:=qgS l [] h;rw[List.append_nil]at this;rw[this]
theorem qlR(t:Bt)(h:t.length≤8192):unB (qL t)=some t:=by
 unfold unB;have hx:∃u,vA (qL t) u:=⟨t,h,rfl⟩;rw[dif_pos hx];exact congrArg some (nU _ _ _ hx.choose_spec ⟨h,rfl⟩)
theorem qw (n:Nat):(zo n).length≤9:=by
 have:=jC n;simp[zo];omega
theorem qub(x:Wr)(h:x.2.length=32):(wB x).length≤50:=by
 have h1:=qw x.1.toNat;have h2:=qw x.2.length;simp only[wB,lj,List.length_append];omega
theorem qlS(l:List Wr)(h:∀x∈l,x.2.length=32):((l.map wB).flatten).length≤50*l.length:=by
 induction l with
 | nil=>simp
 | cons x l ih =>
  have:=qub x (h x (by simp));have:=ih (fun y hy=>h y (by simp[hy]));simp only[List.map_cons,List.flatten_cons,List.length_append,List.length_cons];omega
theorem qit(l:List Wr):∀acc:List Int,(found acc l).length≤acc.length+l.length:=by
 induction l with
 | nil=>intro acc;simp[found]
 | cons x l ih =>
  intro acc;have h1:=ih (xT acc x.1);have h2:(xT acc x.1).length≤acc.length+1:=by
   unfold xT;split <;> simp
  simp only[found,List.foldl_cons,List.length_cons]at h1 ⊢;omega
def nat (l:List Wr):List (Nat × Bt):=l.map fun x=>(x.1.toNat,x.2)
theorem xg:∀(l:List (Nat × Bt)) (s:qG) (k:Int),(∀x∈l,(x.1:Int)≠k)→dk.look (qU s l) k=dk.look s k
 | [],_,_,_=>rfl
 | x::l,s,k,h=>by
  rw[fZ,xg l _ k (fun y hy=>h y (by simp[hy]))];exact zT s x.1 k _ (Ne.symm (h x (by simp)))
theorem eB:∀(l:List (Nat × Bt)) (s s':qG) (k:Nat),k<s.length→k<s'.length→(∃x∈l,x.1=k)→dk.look (qU s l) (k:Int)=dk.look (qU s' l) (k:Int)
 | [],_,_,_,_,_,⟨x,hx,_⟩=>absurd hx (by simp)
 | x::l,s,s',k,hs,hs',h=>by
  rw[fZ,fZ];by_cases hl:∃y∈l,y.1=k
  ·exact eB l _ _ k (by simpa[dk.put]using hs) (by simpa[dk.put]using hs') hl
  ·have hx:x.1=k:=by
      obtain⟨y,hy,e⟩:=h;rcases List.mem_cons.1 hy with rfl|hy
      ·exact e
      ·exact absurd ⟨y,hy,e⟩ hl
   have hn:∀y∈l,(y.1:Int)≠(k:Int):=fun y hy e=>hl ⟨y,hy,by omega⟩;rw[xg l _ _ hn,xg l _ _ hn,hx];unfold dk.put;rw[zE _ _ _ hs,zE _ _ _ hs']
theorem qiu(l y:List (Nat × Bt))(s:qG)(k:Int)(hy:∀x∈y,x∈l)(hl:∀x∈l,x.1<s.length):dk.look (qU (qU s y) l) k=dk.look (qU s l) k:=by
 by_cases hk:∃x∈l,(x.1:Int)=k
 ·obtain⟨x,hx,rfl⟩:=hk;exact eB l _ _ x.1 (by rw[xd];exact hl x hx) (hl x hx) ⟨x,hx,rfl⟩
 ·have hn:∀x∈l,(x.1:Int)≠k:=fun x hx e=>hk ⟨x,hx,e⟩;rw[xg l _ _ hn,xg l _ _ hn,xg y _ _ (fun x hx=>hn x (hy x hx))]
end Go.Proofs.YtdagdllomphidaaGreatDoor.jr
namespace Go.Proofs.YtdagdllomphidaaGreatDoor.jr
open _root_.Go.Proofs.Tryz dk wi
abbrev BM:=qG × List (Nat × Bt)
def ap (x:BM):Step→BM
 | .w k v=>(x.1,x.2++[(k.toNat,v)])
 | .f=>(qU x.1 x.2,[])
def apL (ss:List Step)(x:BM):BM:=ss.foldl ap x
def lI (n:Nat):Step→Prop
 | .w k v=>0≤k∧k<(n:Int)∧v.length=32
 | .f=>True
def mk (d:DD)(x:BM)(on:Bool)(qp:Int):DD:={ room:=d.room,base:=x.1,more:=x.2,on:=on,qp:=qp }
def less (f:Int)(n:Nat):Int:=if f=0 then 0 else f-n
theorem quc(s:qG)(k:Nat)(h:k<s.length)(hl:(dk.look s (k:Int)).isSome=false):cnt s<s.length:=by
 have h1:=wJ s k [] h;rw[hl]at h1;have h2:=qau (s.set k (some []));rw[h1,List.length_set]at h2;simp at h2;omega
theorem qyd(x:BM)(s:Step):(ap x s).1.length=x.1.length:=by cases s <;> simp[ap,xd]
theorem step_mk(d:DD)(zP:d.on=true)(hf:0≤d.qp)(hr:(d.n:Int)≤d.room)(s:Step)(hs:lI d.n s) :
    jO d s=if d.qp=1 then(6,mk d (d.base,d.more) false 0)else(0,mk d (ap (d.base,d.more) s) true (less d.qp 1)):=by
 have hop:d.oper=if d.qp=1 then mk d (d.base,d.more) false 0 else mk d (d.base,d.more) true (less d.qp 1):=by
  unfold DD.oper less;by_cases h1:d.qp=1
  ·rw[if_pos h1,if_pos h1];rfl
  ·rw[if_neg h1,if_neg h1];by_cases h2:1<d.qp
   ·rw[if_pos h2,if_neg (by omega)];unfold mk;rw[← zP];rfl
   ·have h0:d.qp=0:=by omega
    rw[if_neg h2,if_pos h0];obtain⟨r,b,m,o,f⟩:=d;simp only at zP h0;subst zP h0;rfl
 cases s with
 | w k v =>
  obtain⟨h0,h1,h2⟩:=hs;unfold jO DD.write;dsimp only;have hh:d.has k=true:=by simp[DD.has,h0,h1]
  rw[if_neg (by rw[zP];simp),if_neg (by rw[hh];simp[h2])];have hfull:¬ ((dk.look d.now k).isSome=false∧d.room≤(d.used:Int)):=by
   rintro⟨g1,g2⟩;obtain⟨j,rfl⟩:=Int.eq_ofNat_of_zero_le h0;have:=quc d.now j (by rw[d.jk];omega) g1;rw[d.jk]at this;unfold DD.used at g2;omega
  rw[if_neg hfull,hop];by_cases h1:d.qp=1
  ·rw[if_pos h1,if_pos h1,if_pos (by rfl)]
  ·rw[if_neg h1,if_neg h1,if_neg (by simp[mk])];rfl
 | f =>
  unfold jO DD.flush;dsimp only;rw[if_neg (by rw[zP];simp),hop];by_cases h1:d.qp=1
  ·rw[if_pos h1,if_pos h1,if_pos (by rfl)]
  ·rw[if_neg h1,if_neg h1,if_neg (by simp[mk])];rfl
theorem eC:∀(ss:List Step) (d:DD),d.on=true→0≤d.qp→(d.n:Int)≤d.room→(∀s∈ss,lI d.n s)→(d.qp=0∨(ss.length:Int)<d.qp) →
    dF ss d=(0,mk d (apL ss (d.base,d.more)) true (less d.qp ss.length))
 | [],d,zP,hf,hr,hs,h=>by
  have e:less d.qp 0=d.qp:=by unfold less;split <;> omega
  have e2:mk d (d.base,d.more) true d.qp=d:=by
   obtain⟨r,b,m,o,f⟩:=d;simp only at zP;subst zP;rfl
  show(0,d)=_;rw[List.length_nil,e];exact congrArg (Prod.mk 0) e2.symm
 | s::r,d,zP,hf,hr,hs,h=>by
  have h1:¬ d.qp=1:=by simp only[List.length_cons]at h;omega
  have hst:=step_mk d zP hf hr s (hs s (by simp));rw[if_neg h1]at hst;unfold dF;rw[hst];dsimp only;rw[if_pos rfl];have hf':0≤less d.qp 1:=by unfold less;split <;> omega
  have hfe:less d.qp 1=0∨(r.length:Int)<less d.qp 1:=by
   simp only[List.length_cons]at h;unfold less;split <;> omega
  have hn:(mk d (ap (d.base,d.more) s) true (less d.qp 1)).n=d.n:=qyd _ _;rw[eC r (mk d (ap (d.base,d.more) s) true (less d.qp 1)) rfl hf' (by rw[hn];exact hr) (fun x hx=>by rw[hn];exact hs x (by simp[hx])) hfe];have e:less (less d.qp 1) r.length=less d.qp (s::r).length:=by
   simp only[List.length_cons]at h ⊢;unfold less;split
   ·simp
   ·split <;> omega
  show(0,mk d (apL r (ap (d.base,d.more) s)) true (less (less d.qp 1) r.length))=_;rw[e];rfl
theorem nV:∀(ss:List Step) (d:DD),d.on=true→(d.n:Int)≤d.room→(∀s∈ss,lI d.n s)→1≤d.qp→d.qp≤(ss.length:Int) →
    dF ss d=(6,mk d (apL (ss.take (d.qp-1).toNat) (d.base,d.more)) false 0)
 | [],d,zP,hr,hs,h1,h=>by simp at h;omega
 | s::r,d,zP,hr,hs,h1,h=>by
  have hst:=step_mk d zP (by omega) hr s (hs s (by simp));unfold dF;rw[hst];by_cases hf:d.qp=1
  ·rw[if_pos hf];dsimp only;rw[if_neg (by decide),hf];rfl
  ·rw[if_neg hf];dsimp only;rw[if_pos rfl];have e:less d.qp 1=d.qp-1:=by unfold less;rw[if_neg (by omega)];rfl
   have hn:(mk d (ap (d.base,d.more) s) true (less d.qp 1)).n=d.n:=qyd _ _;simp only[List.length_cons]at h;have hmf:(mk d (ap (d.base,d.more) s) true (less d.qp 1)).qp=d.qp-1:=e;rw[nV r (mk d (ap (d.base,d.more) s) true (less d.qp 1)) rfl (by rw[hn];exact hr) (fun x hx=>by rw[hn];exact hs x (by simp[hx])) (by omega) (by omega)];rw[hmf];have e2:(d.qp-1).toNat=(d.qp-1-1).toNat+1:=by omega
   rw[e2,List.take_succ_cons];rfl
theorem bD (a b:List Step)(x:BM):apL (a++b) x=apL b (apL a x):=List.foldl_append
theorem qfa:∀(l:List Wr) (x:BM),apL (jN l) x=(x.1,x.2++nat l)
 | [],x=>by simp[jN,nat,apL]
 | w::l,x=>by
  have ih:=qfa l (ap x (.w w.1 w.2));show apL (jN l) (ap x (.w w.1 w.2))=_;rw[ih];simp[ap,nat]
theorem qiw(l:List Wr)(m:Nat):(jN l).take m=jN (l.take m):=by simp[jN,List.map_take]
theorem dH (l:List Wr):(jN l).length=l.length:=by simp[jN]
theorem sU (l:List Wr)(b:qG):apL (jN l++[.f]) (b,[])=(qU b (nat l),[]):=by
 rw[bD,qfa];rfl
theorem az:∀(bs:List (List Wr)) (b:qG),apL (qD bs) (b,[])=(qU b (nat bs.flatten),[])
 | [],b=>rfl
 | l::r,b=>by
  have h:qD (l::r)=(jN l++[.f])++qD r:=by simp[qD]
  rw[h,bD,sU,az r];rw[List.flatten_cons,show nat (l++r.flatten)=nat l++nat r.flatten from List.map_append,js]
theorem nW:∀(bs:List (List Wr)) (m:Nat) (b:qG),m≤(qD bs).length →
    ∃(pre:List (List Wr)) (l post:_) (j:Nat),bs=pre++l++post∧(l=[]∨∃y,l=[y])∧apL ((qD bs).take m) (b,[])=(qU b (nat pre.flatten),nat (l.flatten.take j))
 | [],m,b,h=>⟨[],[],[],0,rfl,.inl rfl,by simp[qD,apL,nat,qU]⟩
 | x::r,m,b,h=>by
  have hs:qD (x::r)=(jN x++[.f])++qD r:=by simp[qD]
  by_cases hm:m≤x.length
  ·refine⟨[],[x],r,m,by simp,.inr ⟨x,rfl⟩,?_⟩;rw[hs,List.take_append_of_le_length (by simp[dH];omega),List.take_append_of_le_length (by rw[dH];exact hm),qiw,qfa];simp[nat,qU]
  ·have hl:(jN x++[Step.f]).length=x.length+1:=by simp[dH]
   have e:(qD (x::r)).take m=(jN x++[.f])++(qD r).take (m-(x.length+1)):=by
    rw[hs,List.take_append,hl,List.take_of_length_le (by rw[hl];omega)]
   rw[hs,List.length_append,hl]at h;obtain⟨pre,l,post,j,h1,h2,h3⟩:=nW r (m-(x.length+1)) (qU b (nat x)) (by omega);refine⟨x::pre,l,post,j,by simp[h1],h2,?_⟩;rw[e,bD,sU,h3];rw[List.flatten_cons,show nat (x++pre.flatten)=nat x++nat pre.flatten from List.map_append,js]
def uZ (N:Nat)(b:qG)(a c:Nat)(l:List Wr):Prop:=(c=0∧l=[])∨(c≠0∧dG b a c=some l∧vB N l=true)
def RB (N:Nat)(tgt:Int→Bt)(b:qG):Prop :=
 b.length=N∧(∀v,some v∈b→v.length=32)∧∃a c l,gS (rd b 0)=some (a,c)∧uZ N b a c l∧∀k,145≤k→rd (qU b (nat l)) k=tgt k
def JB (N:Nat)(tgt:Int→Bt)(b:qG):Prop:=RB N tgt b∧∀k,145≤k→rd b k=tgt k
structure RJ(N:Nat)(tgt:Int→Bt)(d:DD):Prop where
 on:d.on=true
 more:d.more=[]
 room:(N:Int)≤d.room
 rb:RB N tgt d.base
structure JJ(N:Nat)(tgt:Int→Bt)(d:DD):Prop extends RJ N tgt d where
 is:∀k,145≤k→rd d.base k=tgt k
theorem dI {N:Nat}{l:List Wr}(h:vB N l=true):∀x∈l,145≤x.1∧x.1<(N:Int)∧x.2.length=32:=by
 intro x hx;unfold vB at h;simp only[Bool.and_eq_true]at h;have:=List.all_eq_true.1 h.1 x hx;simpa[okW,and_assoc]using this
theorem jt (l:List (Nat × Bt))(s:qG)(k:Int)(h:∀x∈l,(x.1:Int)≠k):rd (qU s l) k=rd s k:=by
 unfold rd;rw[xg l s k h]
theorem wM {l:List Wr}{x:Nat × Bt}(h:x∈nat l):∃y∈l,x=(y.1.toNat,y.2):=by
 obtain⟨y,hy,rfl⟩:=List.mem_map.1 h;exact⟨y,hy,rfl⟩
theorem qlT{N:Nat}{l:List Wr}(h:∀x∈l,145≤x.1∧x.1<(N:Int)∧x.2.length=32):∀x∈nat l,145≤x.1∧x.1<N∧x.2.length=32:=by
 intro x hx;obtain⟨y,hy,rfl⟩:=wM hx;have:=h y hy;exact⟨by dsimp only;omega,by dsimp only;omega,this.2.2⟩
theorem rO {s s':qG}{a c:Nat}(h:∀i,i<c→rd s ((1+a*72+i:Nat):Int)=rd s' ((1+a*72+i:Nat):Int)):zQ s a c=zQ s' a c :=
 List.map_congr_left fun i hi=>h i (List.mem_range.1 hi)
theorem qcz{s s':qG}{a c:Nat}(h:∀i,i<c→rd s ((1+a*72+i:Nat):Int)=rd s' ((1+a*72+i:Nat):Int)):dG s a c=dG s' a c:=by
 unfold dG;rw[rO h]
theorem eD {N:Nat}{b:qG}{a c:Nat}{l:List Wr}(h:uZ N b a c l):∀x∈l,145≤x.1∧x.1<(N:Int)∧x.2.length=32:=by
 rcases h with⟨_,rfl⟩|⟨_,_,h⟩
 ·intro x hx;cases hx
 ·exact dI h
theorem eE {N:Nat}{b:qG}{a c:Nat}{l:List Wr}(h:uZ N b a c l)(y:List (Nat × Bt))(hy:∀x∈y,∀i,i<c→x.1≠1+a*72+i):uZ N (qU b y) a c l:=by
 rcases h with h|⟨h1,h2,h3⟩
 ·exact .inl h
 ·refine .inr ⟨h1,?_,h3⟩;rw[← h2];exact qcz fun i hi=>jt _ _ _ fun x hx=>by have:=hy x hx i hi;omega
theorem RB.part{N:Nat}{tgt:Int→Bt}{b:qG}(h1:b.length=N)(h2:∀v,some v∈b→v.length=32){a c:Nat}{l:List Wr}(hh:gS (rd b 0)=some (a,c))(hg:uZ N b a c l)(ht:∀k,145≤k→rd (qU b (nat l)) k=tgt k)
    (y:List (Nat × Bt)) (hy:∀x∈y,x∈nat l):RB N tgt (qU b y):=by
 have hp:=qlT (eD hg);obtain⟨ha,hc,_⟩:=kZ hh;refine⟨by rw[xd];exact h1,dy h2 (fun x hx=>(hp x (hy x hx)).2.2),a,c,l,?_,eE hg y (fun x hx i hi=>?_),fun k hk=>?_⟩
 ·rw[jt _ _ _ (fun x hx=>?_)]
  ·exact hh
  ·have:=hp x (hy x hx);omega
 ·have:=hp x (hy x hx);have:a*72≤72:=by omega
  omega
 ·rw[← ht k hk];unfold rd;rw[qiu (nat l) y b k hy (fun x hx=>by have:=hp x hx;omega)]
theorem RB.whole{N:Nat}{tgt:Int→Bt}{b:qG}(h1:b.length=N)(h2:∀v,some v∈b→v.length=32){a c:Nat}{l:List Wr}(hh:gS (rd b 0)=some (a,c))(hg:uZ N b a c l)(ht:∀k,145≤k→rd (qU b (nat l)) k=tgt k):JB N tgt (qU b (nat l)) :=
 ⟨RB.part h1 h2 hh hg ht (nat l) (fun _ h=>h),ht⟩
theorem qpK{N:Nat}{l:List Wr}(h:∀x∈l,0≤x.1∧x.1<(N:Int)∧x.2.length=32):∀s∈jN l,lI N s:=by
 intro s hs;obtain⟨x,hx,rfl⟩:=List.mem_map.1 hs;exact h x hx
theorem wN {N:Nat}:∀ {bs:List (List Wr)},(∀l∈bs,∀x∈l,0≤x.1∧x.1<(N:Int)∧x.2.length=32)→∀s∈qD bs,lI N s
 | [],_,s,hs=>by cases hs
 | l::r,h,s,hs=>by
  have e:qD (l::r)=jN l++(.f::qD r):=rfl;rw[e,List.mem_append,List.mem_cons]at hs;rcases hs with hs|rfl|hs
  ·exact qpK (h l (by simp)) s hs
  ·trivial
  ·exact wN (fun l hl=>h l (by simp[hl])) s hs
theorem qgT(d:DD)(x:BM)(f:Int)(keep:List Bool):(mk d x false f).qxT keep=mk d (qU x.1 (stay x.2 keep),[]) true f:=rfl
def qud (P:DD→Prop)(d:DD):Prop:=d.on=false∧∀keep,P (d.qxT keep)
theorem qc0{N:Nat}{tgt:Int→Bt}{d:DD}(h:RJ N tgt d)(hf:0≤d.qp) :
    ((zZ d).1=0∧JJ N tgt (zZ d).2∧(d.qp=0→(zZ d).2.qp=0)∧0≤(zZ d).2.qp)∨((zZ d).1=6∧qud (RJ N tgt) (zZ d).2∧d.qp≠0∧(zZ d).2.qp=0):=by
 obtain⟨zP,hmo,hro,h1,h2,a,c,l,hh,hg,ht⟩:=h;have qlU:d.now=d.base:=by unfold DD.now;rw[hmo];rfl
 have hn:d.n=N:=h1;unfold zZ;rw[if_neg (by rw[zP];simp),qlU,hh];dsimp only;by_cases hc:c=0
 ·rw[if_pos hc]
  left
  refine⟨rfl,⟨⟨zP,hmo,hro,h1,h2,a,c,l,hh,hg,ht⟩,fun k hk=>?_⟩,fun h=>h,hf⟩;rcases hg with⟨_,rfl⟩|⟨h',_⟩
  ·exact ht k hk
  ·exact absurd hc h'
 ·rw[if_neg hc];rcases hg with⟨h',_⟩|⟨_,hr,hp⟩
  ·exact absurd h' hc
  have hg':uZ N d.base a c l:=.inr ⟨hc,hr,hp⟩;rw[hr];dsimp only;rw[hn,if_neg (by rw[hp];simp)];have hgs:∀s∈qD [l],lI d.n s:=by
   rw[hn];refine wN fun m hm x hx=>?_;obtain rfl:m=l:=by simpa using hm
   have:=dI hp x hx;exact⟨by omega,this.2⟩
  by_cases hfu:d.qp=0∨((qD [l]).length:Int)<d.qp
  ·left
   rw[eC _ d zP hf (by rw[hn];exact hro) hgs hfu,hmo,az];have hw:=RB.whole h1 h2 hh hg' ht;refine⟨rfl,⟨⟨rfl,rfl,hro,?_⟩,?_⟩,fun h0=>?_,?_⟩
   ·show RB N tgt (qU d.base (nat [l].flatten));simpa using hw.1
   ·show ∀k,145≤k→rd (qU d.base (nat [l].flatten)) k=tgt k;simpa using hw.2
   ·show less d.qp _=0;unfold less;rw[if_pos h0]
   ·show 0≤less d.qp _;unfold less;split <;> omega
  ·right
   have h0:d.qp≠0:=fun h=>hfu (.inl h);rw[nV _ d zP (by rw[hn];exact hro) hgs (by omega) (by omega),hmo];obtain⟨pre,q,post,j,e1,e2,e3⟩:=nW [l] (d.qp-1).toNat d.base (by omega);rw[e3];refine⟨rfl,⟨rfl,fun keep=>?_⟩,h0,rfl⟩;rw[qgT];have key:∃y,(∀x∈y,x∈nat l)∧qU (qU d.base (nat pre.flatten)) (stay (nat (q.flatten.take j)) keep)=qU d.base y:=by
    refine⟨nat pre.flatten++stay (nat (q.flatten.take j)) keep,fun x hx=>?_,by rw[js]⟩;have qc1:∀z∈pre.flatten++q.flatten,z∈l:=by
     intro z hz;have:z∈[l].flatten:=by rw[e1,List.flatten_append,List.flatten_append];exact List.mem_append_left _ hz
     simpa using this
    rcases List.mem_append.1 hx with hx|hx
    ·obtain⟨z,hz,rfl⟩:=wM hx;exact List.mem_map.2 ⟨z,qc1 z (List.mem_append_left _ hz),rfl⟩
    ·obtain⟨z,hz,rfl⟩:=wM (nI _ _ _ hx);exact List.mem_map.2 ⟨z,qc1 z (List.mem_append_right _ (List.mem_of_mem_take hz)),rfl⟩
   obtain⟨y,hy,e4⟩:=key;refine⟨rfl,rfl,hro,?_⟩;show RB N tgt (qU (qU d.base (nat pre.flatten)) (stay (nat (q.flatten.take j)) keep));rw[e4];exact RB.part h1 h2 hh hg' ht y hy
def over:(Int→Bt)→List Wr→Int→Bt
 | t,[]=>t
 | t,x::r=>over (fun k=>if k=x.1 then x.2 else t k) r
theorem wO:∀(l:List Wr) (t u:Int→Bt),(∀k,145≤k→t k=u k)→∀k,145≤k→over t l k=over u l k
 | [],_,_,h=>h
 | x::l,t,u,h=>wO l _ _ fun k hk=>by
  split
  ·rfl
  ·exact h k hk
theorem mQ:∀(l:List Wr) (b:qG),(∀x∈l,0≤x.1∧x.1<(b.length:Int))→∀k,rd (qU b (nat l)) k=over (rd b) l k
 | [],_,_,_=>rfl
 | x::l,b,h,k=>by
  obtain⟨h0,h1⟩:=h x (by simp);have ih:=mQ l (dk.put b x.1.toNat x.2) (fun y hy=>by rw[dk.put,List.length_set];exact h y (by simp[hy])) k;have e:qU b (nat (x::l))=qU (dk.put b x.1.toNat x.2) (nat l):=rfl;rw[e,ih];have e2:rd (dk.put b x.1.toNat x.2)=fun k=>if k=x.1 then x.2 else rd b k:=by
   funext j
   obtain⟨n,hn⟩:=Int.eq_ofNat_of_zero_le h0;unfold rd dk.put;by_cases hj:j=x.1
   ·rw[if_pos hj,hj,hn,Int.toNat_natCast,zE _ _ _ (by omega)];rfl
   ·rw[if_neg hj,zT _ _ _ _ (by omega)]
  rw[e2];rfl
theorem yA (n:Nat)(h:n<65536):(zo n).length≤3:=by
 have e:zD n=xi 2 n:=by
  unfold zD;rw[yv 7 n (by omega),yv 6 n (by omega),yv 5 n (by omega),yv 4 n (by omega),yv 3 n (by omega),yv 2 n (by omega)]
 have:=fP 2 n;simp[zo,e];omega
theorem qlV(x:Wr)(h:x.2.length=32)(h0:x.1<65536):(wB x).length≤37:=by
 have h1:=yA x.1.toNat (by omega);have h2:(zo 32).length=2:=by decide
 simp only[wB,lj,List.length_append,h,h2];omega
theorem wP (l:List Wr)(h60:l.length≤60)(h:∀x∈l,x.1<65536∧x.2.length=32):(zf l).length≤2223:=by
 have key:∀l:List Wr,(∀x∈l,x.1<65536∧x.2.length=32)→((l.map wB).flatten).length≤37*l.length:=by
  intro l
  induction l with
  | nil=>intro _;simp
  | cons x l ih =>
   intro h;have:=qlV x (h x (by simp)).2 (h x (by simp)).1;have:=ih (fun y hy=>h y (by simp[hy]));simp only[List.map_cons,List.flatten_cons,List.length_append,List.length_cons];omega
 have h1:=key l h;have h2:=yA l.length (by omega);simp only[zf,List.length_append];omega
theorem bE (l:List Wr)(h60:l.length≤60)(h:∀x∈l,x.1<65536∧x.2.length=32):1≤(qL (zf l)).length∧(qL (zf l)).length≤72:=by
 have:=wP l h60 h;have:=eA (zf l).length;rw[xU];refine⟨this,?_⟩;unfold nsec;omega
theorem ju:∀(ss:List Bt) (o:Nat) (x:Wr),x∈zg o ss→∃i,i<ss.length∧x.1=((o+i:Nat):Int)∧ss[i]?=some x.2
 | [],_,_,h=>by cases h
 | s::r,o,x,h=>by
  rcases List.mem_cons.1 h with rfl|h
  ·exact⟨0,by simp,by simp,rfl⟩
  ·obtain⟨i,h1,h2,h3⟩:=ju r (o+1) x h;exact⟨i+1,by simpa using h1,by rw[h2];omega,by simpa using h3⟩
theorem nX:∀(ss:List Bt) (o:Nat) (b:qG),o+ss.length≤b.length→∀i (h:i<ss.length),dk.look (qU b (nat (zg o ss))) ((o+i:Nat):Int)=some ss[i]
 | [],_,_,_,i,h=>absurd h (by simp)
 | s::r,o,b,hb,i,h=>by
  simp only[List.length_cons]at hb h;have e:qU b (nat (zg o (s::r)))=qU (dk.put b o s) (nat (zg (o+1) r)):=by
   show qU (dk.put b (o:Int).toNat s) _=_;rw[Int.toNat_natCast];rfl
  rw[e];cases i with
  | zero =>
   rw[xg _ _ _ (fun x hx=>?_)]
   ·unfold dk.put;rw[Nat.add_zero,zE _ _ _ (by omega)];rfl
   ·obtain⟨y,hy,rfl⟩:=wM hx;obtain⟨i,_,h2,_⟩:=ju r (o+1) y hy;dsimp only;omega
  | succ i =>
   have:=nX r (o+1) (dk.put b o s) (by rw[dk.put,List.length_set];omega) i (by omega);rw[show o+(i+1)=o+1+i from by omega,this];rfl
theorem qZ:∀(ss:List Bt) (o:Nat),(zg o ss).length=ss.length
 | [],_=>rfl
 | s::r,o=>by simp[zg,qZ r]
theorem bF:∀(ss:List Bt) (o:Nat) (s:Bt),zg o (ss++[s])=zg o ss++[(((o+ss.length:Nat):Int),s)]
 | [],o,s=>by simp[zg]
 | t::r,o,s=>by
  have:=bF r (o+1) s;simp only[List.cons_append,zg,this,List.length_cons];rw[show o+1+r.length=o+(r.length+1)from by omega]
theorem nY (s:qG):∀(l acc:List Int),acc.Nodup→(∀x∈acc,0≤x∧x<(s.length:Int)∧(dk.look s x).isSome=false)→(∀x∈l,0≤x∧x<(s.length:Int)) →
    (fresh s acc l).Nodup∧∀x∈fresh s acc l,0≤x∧x<(s.length:Int)∧(dk.look s x).isSome=false
 | [],acc,h1,h2,_=>⟨h1,h2⟩
 | x::r,acc,h1,h2,h3=>by
  unfold fresh;split
  ·exact nY s r acc h1 h2 (fun y hy=>h3 y (by simp[hy]))
  ·rename_i hn;simp only[Bool.or_eq_true,not_or,List.contains_iff_mem]at hn;refine nY s r (acc++[x]) ?_ (fun y hy=>?_) (fun y hy=>h3 y (by simp[hy]))
   ·rw[List.nodup_append];refine⟨h1,by simp,fun a ha b hb=>?_⟩;obtain rfl:b=x:=by simpa using hb
    rintro rfl;exact hn.2 ha
   ·rcases List.mem_append.1 hy with hy|hy
    ·exact h2 y hy
    ·obtain rfl:y=x:=by simpa using hy
     have:=h3 y (by simp);exact⟨this.1,this.2,by simpa using hn.1⟩
theorem sV:∀(acc:List Int) (s:qG),acc.Nodup→(∀x∈acc,0≤x∧x<(s.length:Int)∧(dk.look s x).isSome=false)→cnt s+acc.length≤s.length
 | [],s,_,_=>qau s
 | x::r,s,h1,h2=>by
  obtain⟨g0,g1,g2⟩:=h2 x (by simp);obtain⟨n,rfl⟩:=Int.eq_ofNat_of_zero_le g0;rw[List.nodup_cons]at h1;have hc:=wJ s n [] (by omega);rw[g2]at hc;simp only[Bool.false_eq_true,if_false]at hc;have ih:=sV r (s.set n (some [])) h1.2 (fun y hy=>by
   obtain⟨k0,k1,k2⟩:=h2 y (by simp[hy]);refine⟨k0,by rw[List.length_set];exact k1,?_⟩;rw[zT _ _ _ _ (fun e=>h1.1 (by rw[← e];exact hy))];exact k2)
  rw[List.length_set,hc]at ih;simp only[List.length_cons];omega
theorem qiy(d:DD)(l:List Int)(hr:(d.n:Int)≤d.room)(hl:∀x∈l,0≤x∧x<(d.n:Int)):d.fits l=true:=by
 have hn:=d.jk;obtain⟨h1,h2⟩:=nY d.now l [] List.nodup_nil (by simp) (fun x hx=>by rw[hn];exact hl x hx);have h3:=sV _ _ h1 h2;unfold DD.fits DD.used;rw[Bool.and_eq_true,Bool.or_eq_true];refine⟨List.all_eq_true.2 fun x hx=>?_,.inr ?_⟩
 ·have:=hl x hx;simp[DD.has,this.1,this.2]
 ·rw[decide_eq_true_eq];rw[hn]at h3;omega
def nZ (N:Nat)(l:List Wr):Int:=if l.length=0 then 0 else if 60<l.length then 3 else if vB N l=false then 2 else 0
theorem qiz{N:Nat}{l:List Wr}(h:nZ N l=0)(h0:l.length≠0):l.length≤60∧vB N l=true:=by
 unfold nZ at h;rw[if_neg h0]at h;by_cases h1:60<l.length
 ·rw[if_pos h1]at h;cases h
 ·rw[if_neg h1]at h;by_cases h2:vB N l=false
  ·rw[if_pos h2]at h;cases h
  ·exact⟨by omega,by simpa using h2⟩
theorem qfb{d:DD}{l:List Wr}(zP:d.on=true)(h:nZ d.n l≠0∨l.length=0):zW d l=(nZ d.n l,d):=by
 unfold zW;rw[if_neg (by rw[zP];simp)];by_cases h0:l.length=0
 ·rw[if_pos h0];unfold nZ;rw[if_pos h0]
 ·rw[if_neg h0];rcases h with h|h
  ·unfold nZ at h ⊢;rw[if_neg h0]at h ⊢;by_cases h1:60<l.length
   ·rw[if_pos h1,if_pos h1]
   ·rw[if_neg h1]at h;rw[if_neg h1,if_neg h1];by_cases h2:vB d.n l=false
    ·rw[if_pos h2,if_pos h2]
    ·rw[if_neg h2]at h;exact absurd rfl h
  ·exact absurd h h0
section
variable {N:Nat} {tgt:Int→Bt} {b:qG} {l:List Wr}
theorem qpL(hN:145<N)(lJ:N≤1024)(h1:b.length=N)(h2:∀v,some v∈b→v.length=32)(a:Nat)(ha:a<2)(h60:l.length≤60)(h0:1≤l.length)(hp:vB N l=true) :
    ∃b2,b2=qU b (nat (lay (1-a) (qL (zf l))++[(0,kI (1-a) (qL (zf l)).length)]))∧b2.length=N∧(∀v,some v∈b2→v.length=32) ∧
     gS (rd b2 0)=some (1-a,(qL (zf l)).length)∧uZ N b2 (1-a) (qL (zf l)).length l∧∀k,145≤k→rd (qU b2 (nat l)) k=over (rd b) l k:=by
 have hall:=dI hp;have hsm:∀x∈l,x.1<65536∧x.2.length=32:=fun x hx=>by have:=hall x hx;exact⟨by omega,this.2.2⟩
 obtain⟨s1,s72⟩:=bE l h60 hsm;have qyf:=wP l h60 hsm;obtain⟨f1,f2,_⟩:=uA (show 1-a<2 by omega) s72;have qpM:∀x∈nat (lay (1-a) (qL (zf l))),∃i,i<(qL (zf l)).length∧x.1=1+(1-a)*72+i∧x.2.length=32:=by
  intro x hx;obtain⟨y,hy,rfl⟩:=wM hx;obtain⟨i,g1,g2,g3⟩:=ju _ _ _ hy;refine⟨i,g1,by dsimp only;omega,?_⟩;have:=ay (zf l) i g1;rw[List.getElem?_eq_getElem g1]at g3;injection g3 with g3
  rw[← g3];exact this
 have e:nat (lay (1-a) (qL (zf l))++[(0,kI (1-a) (qL (zf l)).length)])=nat (lay (1-a) (qL (zf l)))++[(0,kI (1-a) (qL (zf l)).length)]:=by simp[nat]
 have xJ:∀x∈nat (lay (1-a) (qL (zf l))++[(0,kI (1-a) (qL (zf l)).length)]),x.1<145∧x.2.length=32:=by
  rw[e];intro x hx;rcases List.mem_append.1 hx with hx|hx
  ·obtain⟨i,g1,g2,g3⟩:=qpM x hx;have:(1-a)*72≤72:=by omega
   exact⟨by omega,g3⟩
  ·obtain rfl:x=_:=by simpa using hx
   exact⟨by dsimp only;omega,f1⟩
 have hlen:(qU b (nat (lay (1-a) (qL (zf l))))).length=N:=by rw[xd];exact h1
 have hb2:(qU b (nat (lay (1-a) (qL (zf l))++[(0,kI (1-a) (qL (zf l)).length)]))).length=N:=by rw[xd];exact h1
 refine⟨_,rfl,hb2,dy h2 (fun x hx=>(xJ x hx).2),?_,.inr ⟨by omega,?_,hp⟩,fun k hk=>?_⟩
 ·rw[e,ia];unfold rd dk.put;rw[show((0:Int))=((0:Nat):Int)from rfl,zE _ _ _ (by omega)];exact f2
 ·have hs:zQ (qU b (nat (lay (1-a) (qL (zf l))++[(0,kI (1-a) (qL (zf l)).length)]))) (1-a) (qL (zf l)).length=qL (zf l):=by
     refine List.ext_getElem (by simp[zQ]) fun i g1 g2=>?_;simp only[zQ,List.getElem_map,List.getElem_range];rw[e,ia];unfold rd dk.put;rw[zT _ _ _ _ (by omega)]
     have:=nX (qL (zf l)) (1+(1-a)*72) b (by have:(1-a)*72≤72:=by omega
                                             omega) i g2
     unfold lay;rw[this];rfl
  unfold dG;rw[hs,qlR _ (by omega)];exact qis l h0 h60 (fun x hx=>by have:=hall x hx;exact⟨by omega,by omega,this.2.2⟩)
 ·rw[mQ l _ (fun x hx=>by have:=hall x hx;rw[hb2];exact⟨by omega,this.2.1⟩)];exact wO l _ _ (fun j hj=>jt _ _ _ fun x hx=>by have:=(xJ x hx).1;omega) k hk
theorem o9 {d:DD}(hN:145<N)(lJ:N≤1024)(h:JJ N tgt d)(hf:0≤d.qp)(qyg:nZ N l=0) :
    ((zW d l).1=0∧JJ N (over tgt l) (zW d l).2∧(d.qp=0→(zW d l).2.qp=0)∧0≤(zW d l).2.qp) ∨
    ((zW d l).1=6∧qud (fun e=>RJ N tgt e∨RJ N (over tgt l) e) (zW d l).2∧d.qp≠0∧(zW d l).2.qp=0):=by
 have hJ:=h;obtain⟨⟨zP,hmo,hro,h1,h2,a,c,l0,hh,hg,ht⟩,his⟩:=h;have qlU:d.now=d.base:=by unfold DD.now;rw[hmo];rfl
 have hn:d.n=N:=h1;by_cases h0:l.length=0
 ·left
  have e:=qfb (l:=l) zP (.inr h0);rw[hn,qyg]at e;rw[e];obtain rfl:l=[]:=List.length_eq_zero_iff.1 h0;exact⟨rfl,hJ,fun h=>h,hf⟩
 obtain⟨h60,hp⟩:=qiz qyg h0;have hall:=dI hp;have hsm:∀x∈l,x.1<65536∧x.2.length=32:=fun x hx=>by have:=hall x hx;exact⟨by omega,this.2.2⟩
 obtain⟨s1,s72⟩:=bE l h60 hsm;have qyf:=wP l h60 hsm;obtain⟨ha,hc,_⟩:=kZ hh;obtain⟨f1,_,_⟩:=uA (show 1-a<2 by omega) s72;obtain⟨b2,e2,q1,q2,q3,q4,q5⟩:=qpL hN lJ h1 h2 a ha h60 (by omega) hp;have hov:∀k,145≤k→over (rd d.base) l k=over tgt l k:=wO l _ _ his;have hgw:∀m∈yH a l,∀x∈m,0≤x.1∧x.1<(N:Int)∧x.2.length=32:=by
  intro m hm x hx;unfold yH at hm;simp only[List.mem_cons,List.not_mem_nil,or_false]at hm;rcases hm with rfl|rfl|rfl
  ·obtain⟨i,g1,g2,g3⟩:=ju _ _ _ hx;have:=ay (zf l) i g1;rw[List.getElem?_eq_getElem g1]at g3;injection g3 with g3
   have:(1-a)*72≤72:=by omega
   exact⟨by omega,by omega,by rw[← g3];assumption⟩
  ·obtain rfl:x=_:=by simpa using hx
   exact⟨by dsimp only;omega,by dsimp only;omega,f1⟩
  ·have:=hall x hx;exact⟨by omega,this.2⟩
 have qlW:d.fits (placesOf (yH a l))=true:=by
  refine qiy d _ (by rw[hn];exact hro) fun x hx=>?_;obtain⟨y,hy,rfl⟩:=List.mem_map.1 hx;obtain⟨m,hm,hy⟩:=List.mem_flatten.1 hy;have:=hgw m hm y hy;rw[hn];exact⟨this.1,this.2.1⟩
 have e:zW d l=dF (qD (yH a l)) d:=by
  unfold zW;rw[if_neg (by rw[zP];simp),if_neg h0,if_neg (by omega),hn,if_neg (by rw[hp];simp),qlU,hh];dsimp only;rw[if_neg (by omega),if_neg (by rw[qlW];simp)]
 rw[e];have hgs:∀s∈qD (yH a l),lI d.n s:=by rw[hn];exact wN hgw
 have qyj:nat (yH a l).flatten=nat (lay (1-a) (qL (zf l))++[(0,kI (1-a) (qL (zf l)).length)])++nat l:=by
  simp[yH,nat]
 by_cases hfu:d.qp=0∨((qD (yH a l)).length:Int)<d.qp
 ·left
  rw[eC _ d zP hf (by rw[hn];exact hro) hgs hfu,hmo,az,qyj,js,← e2];have hw:=RB.whole (tgt:=over tgt l) q1 q2 q3 q4 (fun k hk=>by rw[q5 k hk];exact hov k hk);refine⟨rfl,⟨⟨rfl,rfl,hro,hw.1⟩,hw.2⟩,fun h0=>?_,?_⟩
  ·show less d.qp _=0;unfold less;rw[if_pos h0]
  ·show 0≤less d.qp _;unfold less;split <;> omega
 ·right
  have hf0:d.qp≠0:=fun h=>hfu (.inl h);rw[nV _ d zP (by rw[hn];exact hro) hgs (by omega) (by omega),hmo];obtain⟨pre,q,post,j,e1,hq,e3⟩:=nW (yH a l) (d.qp-1).toNat d.base (by omega);rw[e3];refine⟨rfl,⟨rfl,fun keep=>?_⟩,hf0,rfl⟩;rw[qgT];have old:∀y:List (Nat × Bt),(∀x∈y,x∈nat (lay (1-a) (qL (zf l))))→RJ N tgt (mk d (qU d.base y,[]) true 0):=by
   intro y hy;have hk:∀x∈y,∃i,i<(qL (zf l)).length∧x.1=1+(1-a)*72+i∧x.2.length=32:=by
    intro x hx;obtain⟨z,hz,rfl⟩:=wM (hy x hx);obtain⟨i,g1,g2,g3⟩:=ju _ _ _ hz;have:=ay (zf l) i g1;rw[List.getElem?_eq_getElem g1]at g3;injection g3 with g3
    exact⟨i,g1,by dsimp only;omega,by rw[← g3];assumption⟩
   refine⟨rfl,rfl,hro,by rw[← h1];exact xd _ _,dy h2 (fun x hx=>(hk x hx).choose_spec.2.2),a,c,l0,?_,eE hg y (fun x hx i hi=>?_),fun k uV=>?_⟩
   ·show gS (rd (qU d.base y) 0)=_;rw[jt _ _ _ (fun x hx=>?_)]
    ·exact hh
    ·obtain⟨i,_,g2,_⟩:=hk x hx;omega
   ·obtain⟨i',g1,g2,_⟩:=hk x hx;have:a=0∨a=1:=by omega
    rcases this with rfl|rfl <;> omega
   ·rw[← ht k uV];show rd (qU (qU d.base y) (nat l0)) k=_;have hin:∀x∈l0,0≤x.1∧x.1<(d.base.length:Int):=fun x hx=>by have:=eD hg x hx;rw[h1];exact⟨by omega,this.2.1⟩
    rw[mQ l0 _ (fun x hx=>by rw[xd];exact hin x hx),mQ l0 _ hin];refine wO l0 _ _ (fun m hm=>jt _ _ _ fun x hx=>?_) k uV;obtain⟨i,g1,g2,_⟩:=hk x hx;have:(1-a)*72≤72:=by omega
    omega
  have new:∀y:List (Nat × Bt),(∀x∈y,x∈nat l)→RJ N (over tgt l) (mk d (qU b2 y,[]) true 0):=fun y hy =>
   ⟨rfl,rfl,hro,RB.part (tgt:=over tgt l) q1 q2 q3 q4 (fun k hk=>by rw[q5 k hk];exact hov k hk) y hy⟩
  have qc1:∀(m:List Wr) (x:Nat × Bt),x∈stay (nat (m.take j)) keep→x∈nat m:=fun m x hx=>by
   obtain⟨z,hz,rfl⟩:=wM (nI _ _ _ hx);exact List.mem_map.2 ⟨z,List.mem_of_mem_take hz,rfl⟩
  have hnil:∀q:List (List Wr),q=[]→stay (nat (q.flatten.take j)) keep=[]:=fun q hq=>by subst hq;simp[nat,stay]
  show RJ N tgt (mk d (qU (qU d.base (nat pre.flatten)) (stay (nat (q.flatten.take j)) keep),[]) true 0)∨RJ N (over tgt l) (mk d (qU (qU d.base (nat pre.flatten)) (stay (nat (q.flatten.take j)) keep),[]) true 0);unfold yH at e1
  match pre,e1 with
  | [],e1 =>
   left
   have hq':q=[]∨q=[lay (1-a) (qL (zf l))]:=by
    rcases hq with hq|⟨y,rfl⟩
    ·exact .inl hq
    ·simp at e1;exact .inr (by rw[e1.1])
   refine old _ fun x hx=>?_;rcases hq' with rfl|rfl
   ·rw[hnil [] rfl]at hx;cases hx
   ·have:=qc1 _ x hx;simpa using this
  | [p1],e1 =>
   have hp1:p1=lay (1-a) (qL (zf l)):=by simp at e1;exact e1.1.symm
   subst hp1;have hq':q=[]∨q=[[(0,kI (1-a) (qL (zf l)).length)]]:=by
    rcases hq with hq|⟨y,rfl⟩
    ·exact .inl hq
    ·simp at e1;exact .inr (by rw[e1.1])
   have hst:stay (nat (q.flatten.take j)) keep=[]∨stay (nat (q.flatten.take j)) keep=nat [(0,kI (1-a) (qL (zf l)).length)]:=by
    rcases hq' with rfl|rfl
    ·exact .inl (hnil [] rfl)
    ·match j with
     | 0=>exact .inl (by simp[nat,stay])
     | j+1 =>
      match keep with
      | []=>exact .inl (qlC _)
      | true::_=>exact .inr (by simp[nat,stay])
      | false::_=>exact .inl (by simp[nat,stay])
   rcases hst with hst|hst
   ·left
    rw[hst];have:=old (nat (lay (1-a) (qL (zf l)))) (fun x hx=>hx);simpa[qU]using this
   ·right
    rw[hst];have:=new [] (fun x hx=>by cases hx);rw[e2,show nat (lay (1-a) (qL (zf l))++[(0,kI (1-a) (qL (zf l)).length)])=nat (lay (1-a) (qL (zf l)))++nat [(0,kI (1-a) (qL (zf l)).length)]from List.map_append,js]at this;simpa[qU]using this
  | [p1,p2],e1 =>
   right
   have hp1:p1=lay (1-a) (qL (zf l))∧p2=[(0,kI (1-a) (qL (zf l)).length)]:=by simp at e1;exact⟨e1.1.symm,e1.2.1.symm⟩
   obtain⟨rfl,rfl⟩:=hp1;have hq':q=[]∨q=[l]:=by
    rcases hq with hq|⟨y,rfl⟩
    ·exact .inl hq
    ·simp at e1;exact .inr (by rw[e1.1])
   have e5:qU d.base (nat [lay (1-a) (qL (zf l)),[(0,kI (1-a) (qL (zf l)).length)]].flatten)=b2:=by rw[e2];simp
   rw[e5];refine new _ fun x hx=>?_;rcases hq' with rfl|rfl
   ·rw[hnil [] rfl]at hx;cases hx
   ·have:=qc1 _ x hx;simpa using this
  | [p1,p2,p3],e1 =>
   right
   have hp1:p1=lay (1-a) (qL (zf l))∧p2=[(0,kI (1-a) (qL (zf l)).length)]∧p3=l∧q=[]:=by
    simp at e1;exact⟨e1.1.symm,e1.2.1.symm,e1.2.2.1.symm,e1.2.2.2.1⟩
   obtain⟨rfl,rfl,rfl,rfl⟩:=hp1;rw[hnil [] rfl];have e5:qU d.base (nat [lay (1-a) (qL (zf p3)),[(0,kI (1-a) (qL (zf p3)).length)],p3].flatten)=qU b2 (nat p3):=by rw[e2,← js];simp[nat]
   rw[e5];have:=new (nat p3) (fun x hx=>hx);simpa[qU]using this
  | p1::p2::p3::p4::r,e1=>simp at e1
end
end Go.Proofs.YtdagdllomphidaaGreatDoor.jr
namespace Go.Proofs.YtdagdllomphidaaGreatDoor.sp
open _root_.Go.Proofs.Tryz Go Go.RowKit
def bump (cs:List Int)(k:Nat):List Int:=cs.set k (wrap64 (cs.getD k 0+1))
def kK (n:Int):List Int→List Int→Option (List Int)
 | cs,[]=>some cs
 | cs,k::r=>if k=0 then kK n cs r else if k<193∨n≤k then none else kK n (bump cs k.toNat) r
def yI (uR:List (List Int))(n:Int):List Int × Int :=
 if n<0∨1024<n then([],2)else match kK n (List.replicate n.toNat 0) uR.flatten with
  | none=>([],2)
  | some cs=>(cs,0)
def qR (cs:List Int)(i:Nat):List Int:=((List.range i).filter fun j=>decide (193≤j)&&decide (cs.getD j 0=0)).map fun(j:Nat)=>(j:Int)
def yf (cs:List Int):Nat:=(qR cs cs.length).length
def ja (cs:List Int)(n:Int):List Int × Int :=
 if n<0 then([],2)else if (yf cs:Int)<n then([],7)else((qR cs cs.length).take n.toNat,0)
theorem eF (cs:List Int)(k:Nat):(bump cs k).length=cs.length:=by simp[bump]
theorem eG {n:Int}:∀ {l cs cs':List Int},kK n cs l=some cs'→cs'.length=cs.length
 | [],cs,cs',h=>by simp only[kK,Option.some.injEq]at h;rw[h]
 | k::r,cs,cs',h=>by
  unfold kK at h;split at h
  ·exact eG h
  ·split at h
   ·cases h
   ·rw[eG h,eF]
theorem aA (n:Int)(cs:List Int)(k:Int)(r:List Int):kK n cs (k::r)=if k=0 then kK n cs r else if k<193∨n≤k then none else kK n (bump cs k.toNat) r:=rfl
theorem vd {n:Int}:∀(a b cs:List Int),kK n cs (a++b)=(kK n cs a).bind fun c=>kK n c b
 | [],b,cs=>rfl
 | k::r,b,cs=>by
  show kK n cs (k::(r++b))=_;rw[aA,aA];split
  ·exact vd r b cs
  ·split
   ·rfl
   ·exact vd r b _
theorem qi0{n:Int}{a cs c:List Int}(h:kK n cs a=some c)(k:Int):kK n cs (a++[k])=if k=0 then some c else if k<193∨n≤k then none else some (bump c k.toNat):=by
 rw[vd,h];rfl
theorem qi1{n:Int}{a cs:List Int}(h:kK n cs a=none)(b:List Int):kK n cs (a++b)=none:=by
 rw[vd,h];rfl
theorem qfc(cs:List Int):qR cs 0=[]:=rfl
theorem yJ (cs:List Int)(i:Nat)(h:i≤193):qR cs i=[]:=by
 unfold qR;rw[List.map_eq_nil_iff,List.filter_eq_nil_iff];intro j hj;rw[List.mem_range]at hj;simp;omega
theorem bG (cs:List Int)(i:Nat):qR cs (i+1)=qR cs i++(if 193≤i∧cs.getD i 0=0 then[(i:Int)]else[]):=by
 unfold qR;rw[List.range_succ,List.filter_append,List.map_append]
 congr 1
 by_cases h1:193≤i
 ·by_cases h2:cs.getD i 0=0
  ·rw[if_pos ⟨h1,h2⟩,List.filter_cons_of_pos (by rw[decide_eq_true h1,decide_eq_true h2];rfl)];rfl
  ·rw[if_neg (fun h=>h2 h.2),List.filter_cons_of_neg (by rw[decide_eq_false h2,Bool.and_false];decide)];rfl
 ·rw[if_neg (fun h=>h1 h.1),List.filter_cons_of_neg (by rw[decide_eq_false h1,Bool.false_and];decide)];rfl
theorem qi2(cs:List Int)(i:Nat):(qR cs i).length≤i:=by
 unfold qR;rw[List.length_map];exact Nat.le_trans (List.length_filter_le _ _) (by simp)
theorem iv (cs:List Int):∀(i j:Nat),i≤j→∃r,qR cs j=qR cs i++r
 | i,0,h=>by
  obtain rfl:i=0:=by omega
  exact⟨[],by simp⟩
 | i,j+1,h=>by
  by_cases e:i=j+1
  ·subst e;exact⟨[],by simp⟩
  ·obtain⟨r,hr⟩:=iv cs i j (by omega);exact⟨r++_,by rw[bG,hr,List.append_assoc]⟩
theorem ix {cs:List Int}{i:Nat}{z:Int}:z∈qR cs i ↔ ∃j:Nat,z=(j:Int)∧j<i∧193≤j∧cs.getD j 0=0:=by
 unfold qR;simp only[List.mem_map,List.mem_filter,List.mem_range,Bool.and_eq_true,decide_eq_true_eq];constructor
 ·rintro⟨j,⟨h1,h2,h3⟩,rfl⟩;exact⟨j,rfl,h1,h2,h3⟩
 ·rintro⟨j,rfl,h1,h2,h3⟩;exact⟨j,⟨h1,h2,h3⟩,rfl⟩
theorem oa (cs:List Int)(i:Nat):(qR cs i).Pairwise (· < ·):=by
 unfold qR;rw[List.pairwise_map];refine List.Pairwise.imp (R:=fun(a b:Nat)=>a<b) (fun h=>by omega) ?_;exact(List.pairwise_lt_range).filter _
theorem qi3(cs:List Int)(k:Nat)(h:k<cs.length)(h0:cs.getD k 0=0):(bump cs k).getD k 0=1:=by
 unfold bump;rw[h0];simp[List.getD,h];first
  | rfl
  | (unfold wrap64;omega)
theorem bH (cs:List Int)(k j:Nat)(h:j≠k):(bump cs k).getD j 0=cs.getD j 0:=by
 unfold bump;simp[List.getD,List.getElem?_set_ne (Ne.symm h)]
theorem yB (cs:List Int)(i:Nat):(qR cs (i+1)).length=(qR cs i).length+if 193≤i∧cs.getD i 0=0 then 1 else 0:=by
 rw[bG,List.length_append];split <;> rfl
theorem od (cs:List Int)(k:Nat)(h:k<cs.length)(h1:193≤k)(h0:cs.getD k 0=0):∀i,(qR (bump cs k) i).length+(if k<i then 1 else 0)=(qR cs i).length
 | 0=>by simp[qfc]
 | i+1=>by
  have ih:=od cs k h h1 h0 i;rw[yB,yB];by_cases e:i=k
  ·subst e;rw[qi3 cs i h h0,h0];split at ih <;> split <;> split <;> split <;> omega
  ·rw[bH cs k i e];split at ih <;> split <;> split <;> omega
def bnd (M:Nat)(cs:List Int):Prop:=∀z∈cs,0≤z∧z≤(M:Int)
end Go.Proofs.YtdagdllomphidaaGreatDoor.sp
namespace Go.Proofs.YtdagdllomphidaaGreatDoor.ch
open _root_.Go.Proofs.Tryz Go Go.RowKit ib
abbrev Gd:=Nat × Nat
structure Sn where
 g:Gd
 bs:List Bt
 hid:Bool
structure CH where
 live:List Bt
 qa:List Sn
def above (a b:Gd):Bool:=decide (b.1<a.1) || (decide (a.1=b.1)&&decide (b.2<a.2))
def CH.last(c:CH):Gd:=match c.qa.getLast? with
 | none=>(0,0)
 | some s=>s.g
def vX (n:Nat):List Bt:=List.replicate n zz
def CH.base(c:CH):List Bt:=match c.qa.getLast? with
 | none=>vX c.live.length
 | some s=>s.bs
def kP (n:Nat):CH:=⟨vX n,[]⟩
def CH.may (c:CH)(g:Gd):Int:=if above g c.last then(if 20≤c.qa.length then 3 else 0)else 2
def CH.write(c:CH)(k:Int)(s:Bt):CH × Int:=if k<0∨(c.live.length:Int)≤k∨s.length≠32 then(c,2)else(⟨c.live.set k.toNat s,c.qa⟩,0)
def CH.snap(c:CH)(g:Gd):CH × Int:=if c.may g=0 then(⟨c.live,c.qa++[⟨g,c.live,false⟩]⟩,0)else(c,c.may g)
def vD:List Bt→Int→List (Int × Bt)→Option (List Bt)
 | l,_,[]=>some l
 | l,p,(k,s)::r=>if k≤p∨(l.length:Int)≤k∨s.length≠32 then none else vD (l.set k.toNat s) k r
def CH.add (c:CH)(g:Gd)(x:List (Int × Bt)):CH × Int :=
 if c.may g=0 then(match vD c.base (-1) x with
  | none=>(c,2)
  | some l=>(⟨l,c.qa++[⟨g,l,false⟩]⟩,0))else(c,c.may g)
def CH.roll(c:CH)(k:Int):CH × Int:=if k<0∨(c.qa.length:Int)<k then(c,2)else
 (⟨(⟨c.live,c.qa.take k.toNat⟩:CH).base,c.qa.take k.toNat⟩,0)
def CH.find(c:CH)(g:Gd):Option Nat:=c.qa.findIdx? fun s=>decide (s.g=g)
def xD (l:List Sn)(i:Nat):List Sn:=l.modify i fun s=>{ s with hid:=true }
def CH.kx (c:CH)(g:Gd):CH × Int:=match c.find g with
 | none=>(c,5)
 | some i=>match c.qa[i]? with
  | none=>(c,5)
  | some s=>if s.hid then(c,14)else(⟨c.live,xD c.qa i⟩,0)
def CH.list(c:CH):List Gd:=c.qa.map (·.g)
def CH.read(c:CH)(g:Gd):List Bt × Int:=match c.find g with
 | none=>([],5)
 | some i=>match c.qa[i]? with
  | none=>([],5)
  | some s=>if s.hid then([],14)else(s.bs,0)
def dJ (p q:List Bt):List (Int × Bt):=(List.range q.length).filterMap fun i=>if q.getD i []=p.getD i []then none else some ((i:Int),q.getD i [])
def CH.lK (c:CH)(k:Nat):List Bt:=match c.qa[k]? with
 | none=>[]
 | some s=>s.bs
def CH.prev(c:CH)(k:Nat):List Bt:=if k=0 then vX c.live.length else c.lK (k-1)
def CH.changes(c:CH)(k:Int):List (Int × Bt) × Int:=if k<0∨(c.qa.length:Int)≤k then([],5)else(dJ (c.prev k.toNat) (c.lK k.toNat),0)
def qN (n:Nat)(l:List Bt):Prop:=l.length=n∧∀v∈l,v.length=32
structure CH.ok(c:CH):Prop where
 live:qN c.live.length c.live
 n1:1≤c.live.length
 n8:c.live.length≤8
 qa:∀s∈c.qa,qN c.live.length s.bs
 few:c.qa.length≤20
 fD:∀s∈c.qa,s.g.1<18446744073709551616∧s.g.2<18446744073709551616
theorem qa6(n:Nat):qN n (vX n):=⟨by simp[vX],fun v hv=>by rw[List.eq_of_mem_replicate hv];exact qX⟩
theorem qlX{n k:Nat}{l:List Bt}{s:Bt}(h:qN n l)(hs:s.length=32):qN n (l.set k s):=by
 refine⟨by rw[List.length_set];exact h.1,fun v hv=>?_⟩;rcases List.mem_or_eq_of_mem_set hv with h1|h1
 ·exact h.2 v h1
 ·rw[h1];exact hs
theorem CH.ok.qpN{c:CH}(h:c.ok):qN c.live.length c.base:=by
 unfold CH.base;split
 ·exact qa6 _
 ·rename_i s hs;exact h.qa s (List.mem_of_getLast? hs)
theorem qc2{c:CH}{g:Gd}(h:c.may g=0):above g c.last=true∧c.qa.length<20:=by
 unfold CH.may at h;split at h
 ·split at h
  ·cases h
  ·exact⟨by assumption,by omega⟩
 ·cases h
theorem qfd(l:List Bt)(p:Int):vD l p []=some l:=rfl
end Go.Proofs.YtdagdllomphidaaGreatDoor.ch
namespace Go.Proofs.YtdagdllomphidaaGreatDoor.vt
open _root_.Go.Proofs.Tryz Go Go.RowKit jr mt im sp
abbrev Bt:=List UInt8
abbrev Tg:=Int→Bt
def zb:Bt:=List.replicate 32 0
def cm (t:Tg)(k:Int):Bt:=if k=0 then zb else t k
def volume (t:Tg)(ql:List Int):List Bt:=ql.map (cm t)
def xc (m:Mt):List (List Int):=m.live::m.tok.ql::m.qa.map (·.ql)
def held (m:Mt)(z:Int):Prop:=∃l∈xc m,z∈l
def qd:List Int→List (Int × Bt)→List Int × List Wr
 | _,[]=>([],[])
 | fr,(_,s)::r=>if s=zb then(0::(qd fr r).1,(qd fr r).2)else match fr with
  | []=>(0::(qd [] r).1,(qd [] r).2)
  | f::fr=>(f::(qd fr r).1,(f,s)::(qd fr r).2)
def full (x:List (Int × Bt)):Nat:=(x.filter fun c=>decide (c.2≠zb)).length
def qu (N:Nat)(m:Mt)(x:List (Int × Bt)):(List Int × List Wr) × Int :=
 if (ja (yI (xc m) N).1 (full x)).2=0 then(qd (ja (yI (xc m) N).1 (full x)).1 x,0)else(([],[]),(ja (yI (xc m) N).1 (full x)).2)
def xA (m:Mt):List Bt:=qL (zy m)
def zR (t:Tg):Nat→List Bt→List Wr
 | _,[]=>[]
 | o,s::r=>(if t (o:Int)=s then[]else[((o:Int),s)])++zR t (o+1) r
def qc3 (t:Tg)(m:Mt):List Wr:=zR t 145 (xA m)
def qA (t:Tg)(m:Mt)(ws:List Wr):List Wr:=qc3 t m++ws
structure eH where
 code:Int
 m:Mt
 ws:List Wr
def qB (m:Mt):Gd:=match m.qa.getLast? with
 | none=>(0,0)
 | some s=>s.g
def xM (m:Mt):List Int:=match m.qa.getLast? with
 | none=>List.replicate m.live.length 0
 | some s=>s.ql
def zu:List Int→List (Int × Bt)→List Int→List Int
 | l,[],_=>l
 | l,_::_,[]=>l
 | l,(k,_)::r,a::at_=>zu (l.set k.toNat a) r at_
def zn (N:Nat)(m:Mt)(k:Int)(s:Bt):eH :=
 if k<0∨(m.live.length:Int)≤k∨s.length≠32 then⟨2,m,[]⟩
 else if (qu N m [(k,s)]).2=0 then⟨0,{ m with live:=zu m.live [(k,s)] (qu N m [(k,s)]).1.1 },(qu N m [(k,s)]).1.2⟩
 else⟨(qu N m [(k,s)]).2,m,[]⟩
def jP (m:Mt)(g:Gd):eH :=
 if mt.above g (qB m)=false then⟨2,m,[]⟩else if 20≤m.qa.length then⟨3,m,[]⟩
 else⟨0,{ m with qa:=m.qa++[⟨g,m.live,false⟩],tok:=zI },[]⟩
def jv (m:Mt)(n:Int):eH :=
 if n<0∨(m.qa.length:Int)<n then⟨2,m,[]⟩
 else⟨0,⟨xM { m with qa:=m.qa.take n.toNat },m.qa.take n.toNat,zI⟩,[]⟩
def og (m:Mt)(g:Gd):Option Nat:=m.qa.findIdx? fun s=>decide (s.g=g)
def xH (l:List Sp)(i:Nat):List Sp:=l.modify i fun s=>{ s with hid:=true }
def uB (m:Mt)(g:Gd):eH:=match og m g with
 | none=>⟨5,m,[]⟩
 | some i=>match m.qa[i]? with
  | none=>⟨5,m,[]⟩
  | some s=>if s.hid then⟨14,m,[]⟩else⟨0,{ m with qa:=xH m.qa i },[]⟩
def zK (b:Nat):Int→List (Int × Bt)→Bool
 | _,[]=>true
 | p,(k,s)::r=>decide (p<k)&&decide (k<(b:Int))&&decide (s.length=32)&&zK b k r
structure Tf where
 base:Gd
 target:Gd
 next:Int
 all:Int
def tf (t:Tk):Tf:=⟨t.base,t.target,t.next,t.all⟩
def zL (b:Nat)(n:Nat)(last:Gd)(t:Tf)(x:List (Int × Bt)):Int :=
 if t.base≠last∨mt.above t.target last=false∨t.all<0∨(b:Int)<t.all∨t.next<0∨t.all<t.next∨¬ (t.next=0↔t.all=0)then 2
 else if zK b (-1) x=false then 2
 else if t.next=t.all∧20≤n then 3 else 0
def ze (N:Nat)(m:Mt)(t:Tf)(x:List (Int × Bt)):eH :=
 if zL m.live.length m.qa.length (qB m) t x≠0 then⟨zL m.live.length m.qa.length (qB m) t x,m,[]⟩
 else if (qu N m x).2≠0 then⟨(qu N m x).2,m,[]⟩
 else
  let ql:=zu (if m.tok.base=t.base∧m.tok.target=t.target∧m.tok.all=t.all then m.tok.ql else xM m) x (qu N m x).1.1
  if t.next=t.all then⟨0,⟨ql,m.qa++[⟨t.target,ql,false⟩],zI⟩,(qu N m x).1.2⟩
  else⟨0,{ m with tok:=⟨t.base,t.target,t.next,t.all,ql⟩ },(qu N m x).1.2⟩
def wQ (m:Mt):eH:=⟨0,{ m with tok:=zI },[]⟩
def eI (t:Tg)(s:Sp):ch.Sn:=⟨s.g,volume t s.ql,s.hid⟩
def zA (t:Tg)(m:Mt):ch.CH:=⟨volume t m.live,m.qa.map (eI t)⟩
def jl (b N:Nat)(l:List Int):Prop:=l.length=b∧(∀z∈l,z=0∨(193≤z∧z<(N:Int)))∧∀i j,i<j→j<l.length→pl l i=pl l j→pl l i=0
def uC:Gd→List Gd→Prop
 | _,[]=>True
 | p,g::r=>mt.above g p=true∧uC g r
structure yr(b N:Nat)(m:Mt):Prop where
 b1:1≤b
 b8:b≤8
 live:jl b N m.live
 few:m.qa.length≤20
 uj:∀s∈m.qa,jl b N s.ql
 qc4:uC (0,0) (m.qa.map (·.g))
 tok:m.tok=zI∨(m.tok.base=qB m∧mt.above m.tok.target m.tok.base=true∧1≤m.tok.next∧m.tok.next<m.tok.all∧m.tok.all≤(b:Int)∧jl b N m.tok.ql)
 fD:mB m
theorem qlY{l:List Int}(h:∀i j,i<j→j<l.length→pl l i=pl l j→pl l i=0):yu l l.length=false:=by
 cases hd:yu l l.length with
 | false=>rfl
 | true =>
  exfalso;unfold yu at hd;obtain⟨i,hi,h2⟩:=List.any_eq_true.1 hd;have hi:=List.mem_range.1 hi;simp only[Bool.and_eq_true,decide_eq_true_eq]at h2;obtain⟨h0,h3⟩:=h2;unfold gX at h3;obtain⟨j,hj,h4⟩:=List.any_eq_true.1 h3;have hj:=List.mem_range.1 hj;simp only[decide_eq_true_eq]at h4;have:=h j i hj hi h4.symm;exact h0 (h4.trans this)
theorem jl.check{b N:Nat}{l:List Int}(h:jl b N l)(h1:1≤b)(h8:b≤8):zF l (b:Int) (N:Int)=0:=by
 obtain⟨hl,hz,hd⟩:=h;unfold zF;rw[if_neg (by omega),if_neg,if_neg (by rw[qlY hd];decide)];rw[Bool.not_eq_true,List.any_eq_false];intro z hzm;unfold gC;rcases hz z hzm with rfl|⟨ha,hb⟩
 ·simp
 ·simp;omega
theorem jl.mono{b N M:Nat}{l:List Int}(h:jl b N l)(hNM:N≤M):jl b M l:=⟨h.1,fun z hz=>by rcases h.2.1 z hz with h|h;exact .inl h;exact .inr (by omega),h.2.2⟩
theorem yr.mono{b N M:Nat}{m:Mt}(h:yr b N m)(hNM:N≤M):yr b M m :=
 ⟨h.b1,h.b8,h.live.mono hNM,h.few,fun s hs=>(h.uj s hs).mono hNM,h.qc4,by
  rcases h.tok with h|⟨h1,h2,h3,h4,h5,h6⟩
  ·exact .inl h
  ·exact .inr ⟨h1,h2,h3,h4,h5,h6.mono hNM⟩,h.fD⟩
theorem oh {b N:Nat}(h1:1≤b)(h8:b≤8):∀(l:List Sp) (p:Gd),(∀s∈l,jl b N s.ql)→uC p (l.map (·.g))→xR (b:Int) (N:Int) p l=(0,match l.getLast? with
    | none=>p
    | some s=>s.g)
 | [],p,_,_=>rfl
 | s::r,p,hi,hr=>by
  obtain⟨ha,hr2⟩:=hr;have ih:=oh h1 h8 r s.g (fun x hx=>hi x (by simp[hx])) hr2;unfold xR;rw[if_pos ha,if_pos ((hi s (by simp)).check h1 h8),ih];cases r with
  | nil=>rfl
  | cons y r=>rw[List.getLast?_cons_cons];rfl
theorem yr.check{b N:Nat}{m:Mt}(h:yr b N m):xj m (b:Int) (N:Int)=0:=by
 have hs:=oh h.b1 h.b8 m.qa (0,0) h.uj h.qc4;have h4:=h.few;unfold xj;rw[h.live.check h.b1 h.b8,if_neg (by simp),if_neg (by omega),hs];dsimp only;rw[if_neg (by simp)];have e:(match m.qa.getLast? with
  | none=>((0,0):Gd)
  | some s=>s.g)=qB m:=rfl
 rw[e];rcases h.tok with ht|⟨t1,t2,t3,t4,t5,t6⟩
 ·rw[ht];rfl
 ·unfold ub;have hne:m.tok.target≠(0,0):=by
   intro e0;rw[e0]at t2;unfold mt.above at t2;simp at t2
  rw[if_neg hne];have hb:gZ m.tok (qB m) (b:Int)=false:=by
   unfold gZ;rw[← t1,t2];simp;omega
  rw[hb];simp only[Bool.false_eq_true,if_false];exact t6.check h.b1 h.b8
theorem yr.len{b N:Nat}{m:Mt}(h:yr b N m):m.live.length=b:=h.live.1
theorem bI {z:Int}(h:z<65536):(yc z).length≤3:=yA _ (by omega)
theorem lL:∀ {l:List Int},(∀z∈l,z<65536)→(zh l).length≤3*l.length
 | [],_=>by simp[zh]
 | z::l,h=>by
  have ih:=lL (l:=l) (fun y hy=>h y (by simp[hy]));have h1:=bI (h z (by simp));show(yc z++zh l).length≤_;rw[List.length_append,List.length_cons];omega
theorem jl.small{b N:Nat}{l:List Int}(h:jl b N l)(hN:N≤1024)(h8:b≤8):(zh l).length≤24:=by
 have:=lL (l:=l) (fun z hz=>by rcases h.2.1 z hz with h|h <;> omega);have:=h.1;omega
theorem oq {b N:Nat}(hN:N≤1024)(h8:b≤8):∀ {l:List Sp},(∀s∈l,jl b N s.ql)→(yS l).length≤45*l.length
 | [],_=>by simp[yS]
 | s::l,h=>by
  have ih:=oq hN h8 (l:=l) (fun y hy=>h y (by simp[hy]));have h1:=(h s (by simp)).small hN h8;have g1:=jr.qw s.g.1;have g2:=jr.qw s.g.2;have g3:=yA (if s.hid then 1 else 0) (by split <;> omega);show(spB s++yS l).length≤_;rw[List.length_append,List.length_cons];unfold spB km;simp only[List.length_append];omega
theorem yr.size{b N:Nat}{m:Mt}(h:yr b N m)(hN:N≤1024):(zy m).length≤999:=by
 have h1:=h.live.small hN h.b8;have h2:=oq hN h.b8 h.uj;have h3:=yA m.live.length (by have:=h.len;have:=h.b8;omega);have h4:=yA m.qa.length (by have:=h.few;omega);have h5:(tkB m.tok).length≤69:=by
  rcases h.tok with ht|⟨t1,t2,t3,t4,t5,t6⟩
  ·rw[ht];decide
  ·unfold tkB;split
   ·have:=yA 0 (by omega);omega
   ·have g1:=jr.qw m.tok.base.1;have g2:=jr.qw m.tok.base.2;have g3:=jr.qw m.tok.target.1;have g4:=jr.qw m.tok.target.2;have g5:=yA 1 (by omega);have hb:=h.b8;have g6:=bI (z:=m.tok.next) (by omega);have g7:=bI (z:=m.tok.all) (by omega);have g8:=t6.small hN h.b8;unfold km;simp only[List.length_append];omega
 have h6:=h.few;unfold zy;simp only[List.length_append];omega
theorem yr.enc{b N:Nat}{m:Mt}(h:yr b N m)(hN:N≤1024):gD m=(zy m,0):=by
 have hs:=h.size hN;have hc:xj m (b:Int) (1024:Int)=0:=(h.mono hN).check;have hl:=h.len;unfold gD;rw[hl,hc,if_neg (by simp),if_neg];show ¬ 48<nsec (zy m).length;unfold nsec;omega
theorem yr.back{b N:Nat}{m:Mt}(h:yr b N m)(hN:N≤1024):nc (zy m)=(m,0):=qbF h.fD (h.enc hN)
theorem xN {b N:Nat}{m:Mt}(h:yr b N m)(hN:N≤1024):1≤(xA m).length∧(xA m).length≤48:=by
 have hs:=h.size hN;unfold xA;rw[xU];unfold nsec;omega
theorem qc5(m:Mt):∀s∈xA m,s.length=32:=by
 intro s hs;obtain⟨i,hi,rfl⟩:=List.getElem_of_mem hs;exact ay _ i hi
theorem lM:∀(a b:List Wr) (t:Tg),over t (a++b)=over (over t a) b
 | [],_,_=>rfl
 | x::a,b,t=>lM a b _
theorem dK:∀(l:List Wr) (t:Tg) (k:Int),(∀x∈l,x.1≠k)→over t l k=t k
 | [],_,_,_=>rfl
 | x::l,t,k,h=>by
  show over (fun j=>if j=x.1 then x.2 else t j) l k=t k;rw[dK l _ k (fun y hy=>h y (by simp[hy]))];exact if_neg (Ne.symm (h x (by simp)))
theorem mR:∀(l:List Wr) (t:Tg) (x:Wr),x∈l→(l.map (·.1)).Nodup→over t l x.1=x.2
 | y::l,t,x,h,hn=>by
  rw[List.map_cons,List.nodup_cons]at hn;show over (fun j=>if j=y.1 then y.2 else t j) l x.1=x.2;rcases List.mem_cons.1 h with rfl|h
  ·rw[dK l _ _ (fun z hz e=>hn.1 (by rw[← e];exact List.mem_map_of_mem hz))];exact if_pos rfl
  ·exact mR l _ x h hn.2
theorem ua {t:Tg}:∀ {ss:List Bt} {o:Nat} {x:Wr},x∈zR t o ss→∃i,∃h:i<ss.length,x.1=((o+i:Nat):Int)∧x.2=ss[i]
 | [],o,x,h=>by simp[zR]at h
 | s::r,o,x,h=>by
  unfold zR at h;rcases List.mem_append.1 h with h|h
  ·split at h
   ·simp at h
   ·obtain rfl:x=((o:Int),s):=by simpa using h
    exact⟨0,by simp,rfl,rfl⟩
  ·obtain⟨i,hi,h1,h2⟩:=ua h;exact⟨i+1,by simpa using hi,by rw[h1];congr 1;omega,by simpa using h2⟩
theorem dL {t:Tg}:∀(ss:List Bt) (o:Nat),((zR t o ss).map (·.1)).Nodup
 | [],o=>by simp[zR]
 | s::r,o=>by
  unfold zR;rw[List.map_append,List.nodup_append];refine⟨by split <;> simp,dL r (o+1),fun a ha b hb=>?_⟩;split at ha
  ·simp at ha
  ·obtain rfl:a=(o:Int):=by simpa using ha
   obtain⟨x,hx,rfl⟩:=List.mem_map.1 hb;obtain⟨i,_,h1,_⟩:=ua hx;omega
theorem aB {t:Tg}:∀(ss:List Bt) (o:Nat),(zR t o ss).length≤ss.length
 | [],o=>by simp[zR]
 | s::r,o=>by
  have ih:=aB (t:=t) r (o+1);unfold zR;rw[List.length_append,List.length_cons];split <;> simp <;> omega
theorem qfe{t:Tg}(ss:List Bt)(o:Nat)(i:Nat)(h:i<ss.length):over t (zR t o ss) ((o+i:Nat):Int)=ss[i]:=by
 by_cases hm:∃x∈zR t o ss,x.1=((o+i:Nat):Int)
 ·obtain⟨x,hx,he⟩:=hm;obtain⟨j,hj,h1,h2⟩:=ua hx;have:=mR _ t x hx (dL ss o);rw[he]at this;rw[this,h2];have:j=i:=by omega
  subst this;rfl
 ·rw[dK _ _ _ (fun x hx e=>hm ⟨x,hx,e⟩)];have key:∀(ss:List Bt) (o i:Nat) (h:i<ss.length),(¬ ∃x∈zR t o ss,x.1=((o+i:Nat):Int))→t ((o+i:Nat):Int)=ss[i]:=by
   intro ss
   induction ss with
   | nil=>intro o i h;simp at h
   | cons s r ih =>
    intro o i h hn;cases i with
    | zero =>
     apply Classical.byContradiction;intro hne;refine hn ⟨((o:Int),s),?_,by simp⟩;unfold zR;rw[if_neg (by simpa using hne)];simp
    | succ i =>
     have:=ih (o+1) i (by simpa using h) (fun⟨x,hx,e⟩=>hn ⟨x,by unfold zR;exact List.mem_append_right _ hx,by rw[e];congr 1;omega⟩);rw[show o+(i+1)=o+1+i by omega,this];rfl
  exact key ss o i h hm
structure qT(b N:Nat)(t:Tg)(m:Mt):Prop where
 ok:yr b N m
 N0:193≤N
 N1:N≤1024
 home:∀i (h:i<(xA m).length),t ((145+i:Nat):Int)=(xA m)[i]
 len:∀k,145≤k→(t k).length=32
structure gW(N:Nat)(m:Mt)(ws:List Wr):Prop where
 few:ws.length≤8
 nodup:(ws.map (·.1)).Nodup
 range:∀x∈ws,193≤x.1∧x.1<(N:Int)
 free:∀x∈ws,¬ held m x.1
 len:∀x∈ws,x.2.length=32
section
variable {b N:Nat} {t:Tg} {m m':Mt} {ws:List Wr}
theorem eJ (h:qT b N t m)(ho:yr b N m')(hw:gW N m ws):((qA t m' ws).map (·.1)).Nodup:=by
 have h48:=(xN ho h.N1).2;unfold qA qc3;rw[List.map_append,List.nodup_append];refine⟨dL _ _,hw.nodup,fun a ha c hc=>?_⟩;obtain⟨x,hx,rfl⟩:=List.mem_map.1 ha;obtain⟨y,hy,rfl⟩:=List.mem_map.1 hc;obtain⟨i,hi,h1,_⟩:=ua hx;have:=(hw.range y hy).1;omega
theorem dM (h:qT b N t m)(ho:yr b N m')(hw:gW N m ws):∀x∈qA t m' ws,145≤x.1∧x.1<(N:Int)∧x.2.length=32:=by
 intro x hx;have h48:=(xN ho h.N1).2;have hN:=h.N0;rcases List.mem_append.1 hx with hx|hx
 ·obtain⟨i,hi,h1,h2⟩:=ua hx;refine⟨by omega,by omega,?_⟩;rw[h2];exact qc5 m' _ (List.getElem_mem hi)
 ·have:=hw.range x hx;exact⟨by omega,this.2,hw.len x hx⟩
theorem dN:∀(l:List Wr) (acc:List Int),(acc++l.map (·.1)).Nodup→found acc l=acc++l.map (·.1)
 | [],acc,_=>by simp[found]
 | x::l,acc,h=>by
  have hx:acc.contains x.1=false:=by
   rw[List.map_cons,List.nodup_append]at h;rw[Bool.eq_false_iff];intro hc;rw[List.contains_iff_mem]at hc;exact h.2.2 x.1 hc x.1 (by simp) rfl
  have e:Go.Proofs.YtdagdllomphidaaGreatDoor.dk.xT acc x.1=acc++[x.1]:=by
   unfold Go.Proofs.YtdagdllomphidaaGreatDoor.dk.xT;rw[hx];rfl
  have ih:=dN l (acc++[x.1]) (by simpa using h);show found (Go.Proofs.YtdagdllomphidaaGreatDoor.dk.xT acc x.1) l=_;rw[e,ih];simp
theorem qff(h:qT b N t m)(ho:yr b N m')(hw:gW N m ws):nZ N (qA t m' ws)=0:=by
 have h48:=(xN ho h.N1).2;have hl:(qA t m' ws).length≤60:=by
  have:=aB (t:=t) (xA m') 145;have:=hw.few;unfold qA qc3;rw[List.length_append];omega
 have hp:vB N (qA t m' ws)=true:=by
  unfold vB;have hf:=dN (qA t m' ws) [] (by simpa using eJ h ho hw);rw[hf];simp only[List.nil_append,List.length_map,decide_true,Bool.and_true,List.all_eq_true];intro x hx;obtain⟨h1,h2,h3⟩:=dM h ho hw x hx;unfold okW;simp;exact⟨⟨h1,h2⟩,h3⟩
 unfold nZ;split
 ·rfl
 ·rw[if_neg (by omega),hp];simp
theorem qc6(h:qT b N t m)(ho:yr b N m')(hw:gW N m ws)(i:Nat)(hi:i<(xA m').length):over t (qA t m' ws) ((145+i:Nat):Int)=(xA m')[i]:=by
 have h48:=(xN ho h.N1).2;unfold qA;rw[lM,dK ws _ _ (fun x hx e=>by have:=(hw.range x hx).1;omega)];exact qfe (xA m') 145 i hi
theorem dO (h:qT b N t m)(ho:yr b N m')(hw:gW N m ws)(z:Int)(hz:held m z)(qyk:193≤z):over t (qA t m' ws) z=t z:=by
 have h48:=(xN ho h.N1).2;refine dK _ _ _ fun x hx e=>?_;rcases List.mem_append.1 hx with hx|hx
 ·obtain⟨i,hi,h1,_⟩:=ua hx;omega
 ·exact hw.free x hx (e ▸ hz)
theorem qfg(h:qT b N t m)(ho:yr b N m')(hw:gW N m ws)(x:Wr)(hx:x∈ws):over t (qA t m' ws) x.1=x.2 :=
 mR _ t x (List.mem_append_right _ hx) (eJ h ho hw)
theorem ot:∀(l:List Wr) (t:Tg),(∀k,145≤k→(t k).length=32)→(∀x∈l,x.2.length=32)→∀k,145≤k→(over t l k).length=32
 | [],_,h,_=>h
 | x::l,t,h,hl=>ot l _ (fun k hk=>by
  show(if k=x.1 then x.2 else t k).length=32;split
  ·exact hl x (by simp)
  ·exact h k hk) (fun y hy=>hl y (by simp[hy]))
theorem qT.next(h:qT b N t m)(ho:yr b N m')(hw:gW N m ws):qT b N (over t (qA t m' ws)) m' :=
 ⟨ho,h.N0,h.N1,qc6 h ho hw,ot _ _ h.len fun x hx=>(dM h ho hw x hx).2.2⟩
theorem ou (h:qT b N t m)(ho:yr b N m')(hw:gW N m ws){l:List Int}(hl:l∈xc m)(hk:jl b N l):volume (over t (qA t m' ws)) l=volume t l:=by
 unfold volume;apply List.map_congr_left;intro z hz;unfold cm;split
 ·rfl
 ·rename_i h0;rcases hk.2.1 z hz with h1|h1
  ·exact absurd h1 h0
  ·exact dO h ho hw z ⟨l,hl,hz⟩ h1.1
theorem qa7(m:Mt):m.live∈xc m:=by simp[xc]
theorem que(m:Mt):m.tok.ql∈xc m:=by simp[xc]
theorem qgU{m:Mt}{s:Sp}(h:s∈m.qa):s.ql∈xc m:=by
 unfold xc;exact List.mem_cons_of_mem _ (List.mem_cons_of_mem _ (List.mem_map_of_mem h))
theorem qlZ(h:qT b N t m)(ho:yr b N m')(hw:gW N m ws):zA (over t (qA t m' ws)) m=zA t m:=by
 unfold zA;rw[ou h ho hw (qa7 m) h.ok.live]
 congr 1
 apply List.map_congr_left;intro s hs;unfold eI;rw[ou h ho hw (qgU hs) (h.ok.uj s hs)]
end
end Go.Proofs.YtdagdllomphidaaGreatDoor.vt

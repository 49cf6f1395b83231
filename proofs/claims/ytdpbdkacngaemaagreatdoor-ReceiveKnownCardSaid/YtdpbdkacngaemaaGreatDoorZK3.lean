/- Slots, SlotsI, SlotsF, MgAb, ImVol. -/
import Derived.Test.YtdpbdkacngaemaaGreatDoorZK2
import Derived.Orders
import Derived.ChangeKeysEq
set_option linter.unusedVariables false
set_option linter.unusedSimpArgs false
set_option maxHeartbeats 30000000
set_option maxRecDepth 100000
namespace Go.Proofs.YtdpbdkacngaemaaGreatDoor
open _root_.Go.Proofs.Tryz Go Go.RowKit
section
variable {P:Program} {ops:Array Oper} {Q:Exit→Act→World→Prop}
def jy (P:Program)(K:Value→World→Prop):Result Next→Prop
 | .ok (.value v) w'=>K v w'
 | .ok (.enter f args) w'=>Calls P f args w' fun e w''=>∃v,e=.returned v∧K v w''
 | _=>False
theorem vH {o:Oper}{a:Act}{w:World}{K:Value→World→Prop}{next:Act→World→Prop}(h:jy P K ((execOp a.eval o).run P w))(hn:∀v w',K v w'→next (a.put o.dst v) w'):o.wp P a w next Q:=by
 unfold Oper.wp;generalize (execOp a.eval o).run P w=r at *;cases r with
 | ok n w' =>
  cases n <;> simp only[jy]at h <;> simp only[Oper.upon];case value v=>exact hn _ _ h
  case enter f args =>
   refine h.mono fun e w'' he=>?_;obtain⟨v,rfl,hk⟩:=he;exact hn _ _ hk
 | halt x w'=>simp only[jy]at h
def qM (L:Nat→Bool)(vs:Nat→Value):List Tmp→Nat→Act→Act
 | [],_,a=>a
 | d::ds,k,a=>qM L vs ds (k+1) (if L k then a.put (some d) (vs k)else a)
def qZ (vs:Nat→Value)(ds:List Tmp)(a:Act):Act:=qM (fun _=>true) vs ds 0 a
def qN (L:Nat→Bool)(i:Nat):Nat→Bool:=fun j=>if j=i then true else L j
def zZ (vs:Nat→Value)(i:Nat)(v:Value):Nat→Value:=fun j=>if j=i then v else vs j
theorem xt (L L':Nat→Bool)(vs vs':Nat→Value):∀(ds:List Tmp) (k:Nat) (a:Act),(∀j,k≤j→j<k+ds.length→L j=L' j∧(L j=true→vs j=vs' j))→qM L vs ds k a=qM L' vs' ds k a
 | [],_,_,_=>rfl
 | d::ds,k,a,h=>by
  have h0:=h k (Nat.le_refl _) (by simp);simp only[qM];rw[h0.1];have e:(if L' k=true then a.put (some d) (vs k)else a)=(if L' k=true then a.put (some d) (vs' k)else a):=by
   by_cases hk:L' k=true
   ·rw[if_pos hk,if_pos hk,h0.2 (h0.1.trans hk)]
   ·rw[if_neg hk,if_neg hk]
  rw[e];exact xt L L' vs vs' ds (k+1) _ fun j h1 h2=>h j (by omega) (by simp;omega)
theorem dp (a:Act)(d e:Tmp)(v u:Value)(h:d≠e):(a.put (some d) v).put (some e) u=(a.put (some e) u).put (some d) v :=
 Act.put_comm a v u fun x hx=>by cases hx;intro hy;cases hy;exact h rfl
theorem lg (L:Nat→Bool)(vs:Nat→Value)(e:Tmp)(u:Value):∀(ds:List Tmp) (k:Nat) (a:Act),e ∉ ds→(qM L vs ds k a).put (some e) u=qM L vs ds k (a.put (some e) u)
 | [],_,_,_=>rfl
 | d::ds,k,a,h=>by
  have hd:d≠e:=fun x=>h (by simp[x]);have hds:e ∉ ds:=fun x=>h (by simp[x]);simp only[qM];rw[lg L vs e u ds (k+1) _ hds]
  congr 1
  by_cases hk:L k=true
  ·rw[if_pos hk,if_pos hk,dp a d e _ _ hd]
  ·rw[if_neg hk,if_neg hk]
theorem jz (L:Nat→Bool)(vs:Nat→Value)(i:Nat)(v:Value):∀(ds:List Tmp) (k:Nat) (a:Act) (d:Tmp),ds.Nodup→k≤i→ds[i-k]?=some d→L i=false→(qM L vs ds k a).put (some d) v=qM (qN L i) (zZ vs i v) ds k a
 | [],k,a,d,_,_,h,_=>by simp at h
 | e::ds,k,a,d,hn,hk,h,hL=>by
  rw[List.nodup_cons]at hn;by_cases ja:k=i
  ·subst ja;simp only[Nat.sub_self,List.getElem?_cons_zero,Option.some.injEq]at h;subst h;simp only[qM];rw[lg L vs e v ds (k+1) _ hn.1,hL];have e1:qN L k k=true:=by simp[qN]
   have e2:zZ vs k v k=v:=by simp[zZ]
   rw[e1,e2,if_pos rfl];simp only[Bool.false_eq_true,if_false];exact xt _ _ _ _ ds (k+1) _ fun j h1 _=>by
    have:j≠k:=by omega
    simp[qN,zZ,this]
  ·have hlt:i-k=(i-(k+1))+1:=by omega
   rw[hlt,List.getElem?_cons_succ]at h;have ih:=jz L vs i v ds (k+1) (if L k then a.put (some e) (vs k)else a) d hn.2 (by omega) h hL;simp only[qM];rw[ih];have e1:qN L i k=L k:=by simp[qN,ja]
   have e2:zZ vs i v k=vs k:=by simp[zZ,ja]
   rw[e1,e2]
theorem fC (L:Nat→Bool)(vs:Nat→Value):∀(ds:List Tmp) (k:Nat) (a:Act),(qM L vs ds k a).tmps.size=a.tmps.size
 | [],_,_=>rfl
 | d::ds,k,a=>by
  simp only[qM];rw[fC L vs ds];split <;> simp[Act.put]
theorem qar(a:Act)(d t:Tmp)(v:Value)(h:d≠t):(a.put (some d) v).eval (.tmp t)=a.eval (.tmp t) :=
 Act.eval_put fun e he hx=>by cases he;cases hx;exact h rfl
theorem jA (L:Nat→Bool)(vs:Nat→Value)(t:Tmp):∀(ds:List Tmp) (k:Nat) (a:Act),t ∉ ds→(qM L vs ds k a).eval (.tmp t)=a.eval (.tmp t)
 | [],_,_,_=>rfl
 | d::ds,k,a,h=>by
  have hd:d≠t:=fun x=>h (by simp[x]);have hds:t ∉ ds:=fun x=>h (by simp[x]);simp only[qM];rw[jA L vs t ds (k+1) _ hds];split
  ·exact qar a d t _ hd
  ·rfl
theorem ku (L:Nat→Bool)(vs:Nat→Value)(t:Tmp):∀(ds:List Tmp) (k j:Nat) (a:Act),ds.Nodup→ds[j]?=some t→L (k+j)=true→t<a.tmps.size→(qM L vs ds k a).eval (.tmp t)=vs (k+j)
 | [],_,_,_,_,h,_,_=>by simp at h
 | d::ds,k,j,a,hn,h,hL,hs=>by
  rw[List.nodup_cons]at hn;cases j with
  | zero =>
   simp only[List.getElem?_cons_zero,Option.some.injEq]at h;subst h;simp only[qM];rw[jA L vs d ds (k+1) _ hn.1,if_pos (by simpa using hL)];simp[Act.eval,Act.put,hs]
  | succ j =>
   rw[List.getElem?_cons_succ]at h;simp only[qM];have:=ku L vs t ds (k+1) j (if L k then a.put (some d) (vs k)else a) hn.2 h (by rw[show k+1+j=k+(j+1)from by omega];exact hL) (by split <;> simp[Act.put,hs]);rw[this]
   congr 1
   omega
def valOf (a0:Act)(ds:List Tmp)(vs:Nat→Value):Operand→Value
 | .tmp t=>match ds.idxOf? t with
  | some j=>vs j
  | none=>a0.eval (.tmp t)
 | x=>a0.eval x
theorem xR {a0:Act}{ds:List Tmp}{vs:Nat→Value}{t:Tmp}(h:ds.idxOf? t=none):valOf a0 ds vs (.tmp t)=a0.eval (.tmp t):=by
 unfold valOf;simp only[h]
theorem xS {a0:Act}{ds:List Tmp}{vs:Nat→Value}{t:Tmp}{j:Nat}(h:ds.idxOf? t=some j):valOf a0 ds vs (.tmp t)=vs j:=by
 unfold valOf;simp only[h]
theorem zE (n i:Nat):(Array.replicate n false).getD i false=false:=by
 by_cases h:i<n <;> simp[h]
def qR (ops:Array Oper)(i j:Nat):Bool:=match ops[i]? with
 | some o=>o.after.any fun e=>Region.binds .any e&&e.on == j
 | none=>false
def lh (ops:Array Oper)(m:Nat)(ds:List Tmp)(size:Nat):Bool :=
 decide (m≤ops.size)&&decide (ds.length=m)&&decide ds.Nodup&&ds.all (fun d=>decide (d<size)) &&
 (List.range m).all (fun i=>match ops[i]? with
  | some o=>o.guard.isNone&&o.dst == ds[i]? && (match o.op with | .select .. => false|_=>true) &&
   o.after.all (fun e=>!Region.binds .any e || decide (e.on<i)) &&
   o.op.operands.toList.all (fun x=>match x with
    | .tmp t=>match ds.idxOf? t with
     | some j=>qR ops i j
     | none=>true
    | _=>true)
  | none=>false) &&
 (List.range ops.size).all (fun j=>decide (j<m) || (match ops[j]? with
  | some o=>(o.after.any fun e=>Region.binds .any e&&decide (m≤e.on)) || (List.range m).all (fun i=>qR ops j i || (List.range m).any (fun k=>qR ops k i))
  | none=>false))
structure qev(ops:Array Oper)(m:Nat)(ds:List Tmp)(size:Nat):Prop where
 le:m≤ops.size
 len:ds.length=m
 nodup:ds.Nodup
 small:∀d∈ds,d<size
 each:∀i,i<m→∃o,ops[i]?=some o∧o.guard=none∧o.dst=ds[i]? ∧ (∀cs b,o.op ≠ .select cs b)∧(∀e∈o.after,Region.binds .any e=true→e.on<i) ∧
  (∀t j,Operand.tmp t∈o.op.operands→ds.idxOf? t=some j→qR ops i j=true)
 tail:∀j o,m≤j→ops[j]?=some o→(∃e∈o.after,Region.binds .any e=true∧m≤e.on)∨(∀i,i<m→qR ops j i=true∨∃k,k<m∧qR ops k i=true)
theorem qiK{m:Nat}{ds:List Tmp}{size:Nat}(h:lh ops m ds size=true):qev ops m ds size:=by
 unfold lh at h;simp only[Bool.and_eq_true,decide_eq_true_eq,List.all_eq_true,List.mem_range]at h;obtain⟨⟨⟨⟨⟨h1,h2⟩,h3⟩,h4⟩,h5⟩,h6⟩:=h;refine⟨h1,h2,h3,h4,fun i hi=>?_,fun j o hj ho=>?_⟩
 ·have h:=h5 i hi;cases ho:ops[i]? with
  | none=>simp[ho]at h
  | some o =>
   simp only[ho,Bool.and_eq_true]at h;obtain⟨⟨⟨⟨g1,g2⟩,g3⟩,g4⟩,g5⟩:=h;refine⟨o,rfl,by simpa using g1,by simpa using g2,fun cs b hs=>by simp[hs]at g3,fun e he hb=>?_,fun t j ht hj=>?_⟩
   ·have:=Array.all_eq_true_iff_forall_mem.1 g4 e he;simpa[hb]using this
   ·have:=List.all_eq_true.1 g5 (.tmp t) (by simpa using ht);simpa[hj]using this
 ·have hlt:j<ops.size:=(Array.getElem?_eq_some_iff.1 ho).1;have h:=h6 j hlt;simp only[ho,Bool.or_eq_true,decide_eq_true_eq]at h;rcases h with h|h|h
  ·omega
  ·obtain⟨e,he,hb⟩:=Array.any_eq_true'.1 h;simp only[Bool.and_eq_true,decide_eq_true_eq]at hb;exact .inl ⟨e,he,hb.1,hb.2⟩
  ·refine .inr fun i hi=>?_;have:=List.all_eq_true.1 h i (by simpa using hi);simp only[Bool.or_eq_true,List.any_eq_true,List.mem_range]at this;exact this
theorem zT {i j:Nat}{o:Oper}(ho:ops[i]?=some o)(h:qR ops i j=true):∃e∈o.after,Region.binds .any e=true∧e.on=j:=by
 unfold qR at h;simp only[ho]at h;obtain⟨e,he,hb⟩:=Array.any_eq_true'.1 h;simp only[Bool.and_eq_true,beq_iff_eq]at hb;exact⟨e,he,hb.1,hb.2⟩
def xu (n m:Nat):Array Bool:=(Array.range n).map fun i=>decide (i<m)
structure qmC(ops:Array Oper)(a0:Act)(w0:World)(m:Nat)(ds:List Tmp)(G:Nat→Value→World→Prop)(listed:Array Bool)(vs:Nat→Value)(a:Act)(w:World):Prop where
 size:listed.size=ops.size
 tail:∀j,m≤j→listed.getD j false=false
 closed:∀i o,ops[i]?=some o→listed.getD i false=true→∀e∈o.after,Region.binds .any e=true→listed.getD e.on false=true
 ext:Below w0.heap.size w0 w
 good:∀i,i<m→listed.getD i false=true→G i (vs i) w
 act:a=qM (fun i=>listed.getD i false) vs ds 0 a0
def zB (m:Nat)(listed:Array Bool):Nat:=(List.range m).countP fun i=>!listed.getD i false
theorem kK {m i:Nat}{listed:Array Bool}(hi:i<m)(hs:i<listed.size)(h:listed.getD i false=false):zB m listed=zB m (listed.setIfInBounds i true)+1:=by
 unfold zB
 induction m with
 | zero=>omega
 | succ m ih =>
  rw[List.range_succ,List.countP_append,List.countP_append];simp only[List.countP_singleton];by_cases e:i=m
  ·subst e;have h1:(listed.setIfInBounds i true).getD i false=true:=by simp[hs]
   rw[h,h1];have h2:List.countP (fun j=>!listed.getD j false) (List.range i)=List.countP (fun j=>!(listed.setIfInBounds i true).getD j false) (List.range i):=by
    apply List.countP_congr;intro j hj;rw[getD_set_ne false (by have:=List.mem_range.1 hj;omega)]
   rw[h2];rfl
  ·have:=ih (by omega);rw[this,getD_set_ne false e];omega
theorem ui {m:Nat}{listed:Array Bool}(h:zB m listed=0):∀i,i<m→listed.getD i false=true:=by
 intro i hi;unfold zB at h;rw[List.countP_eq_zero]at h;have:=h i (List.mem_range.2 hi);simpa using this
theorem za {listed:Array Bool}{i:Nat}(hs:i<listed.size):listed.getD i true=listed.getD i false:=by simp[hs]
theorem yr {listed:Array Bool}{i:Nat}(hs:i<listed.size):qN (fun j=>listed.getD j false) i=fun j=>(listed.setIfInBounds i true).getD j false:=by
 funext j
 unfold qN;by_cases e:j=i
 ·subst e;simp[hs]
 ·rw[if_neg e,getD_set_ne false (Ne.symm e)]
variable {a0:Act} {w0:World} {m:Nat} {ds:List Tmp} {G:Nat→Value→World→Prop}
theorem qas{w0 w w':World}(h:Below w0.heap.size w0 w)(g:Below w.heap.size w w'):Below w0.heap.size w0 w':=h.trans (g.mono h.size)
theorem qat(ok:qev ops m ds a0.tmps.size)
    (mono:∀i v w w',i<m→G i v w→Below w.heap.size w w'→G i v w')
    (step:∀i o vs w,i<m→ops[i]?=some o→Below w0.heap.size w0 w→(∀j,qR ops i j=true→G j (vs j) w) →
     jy P (fun v w'=>Below w.heap.size w w'∧G i v w') ((execOp (valOf a0 ds vs) o).run P w))
    (fin:∀vs w',Below w0.heap.size w0 w'→(∀i,i<m→G i (vs i) w')→wpAny P .any ops Q (ops.size-m) (xu ops.size m) (qZ vs ds a0) w') :
    ∀(r:Nat) (listed:Array Bool) (vs:Nat→Value) (a:Act) (w:World),qmC ops a0 w0 m ds G listed vs a w→zB m listed=r→wpAny P .any ops Q (ops.size-m+r) listed a w
 | 0,listed,vs,a,w,hI,hr=>by
  have hall:=ui hr;have hl:listed=xu ops.size m:=by
   apply Array.ext
   ·simp[xu,hI.size]
   ·intro i h1 h2;have e:listed.getD i false=listed[i]:=by simp[h1]
    by_cases hi:i<m
    ·have:=hall i hi;rw[e]at this;simp[xu,this,hi]
    ·have:=hI.tail i (by omega);rw[e]at this;simp[xu,this,hi]
  have ha:a=qZ vs ds a0:=by
   rw[hI.act];exact xt _ _ _ _ ds 0 a0 fun j _ hj=>⟨hall j (by rw[← ok.len];omega),fun _=>rfl⟩
  rw[hl,ha,Nat.add_zero];exact fin vs w hI.ext fun i hi=>hI.good i hi (hall i hi)
 | r+1,listed,vs,a,w,hI,hr=>by
  refine⟨fun h0=>?_,fun i hi=>?_⟩
  ·
   exfalso;have hex:∃i,i<m∧listed.getD i false=false:=by
    apply Classical.byContradiction;intro hn;have:zB m listed=0:=by
     unfold zB;rw[List.countP_eq_zero];intro i hi;have hi':=List.mem_range.1 hi;cases hb:listed.getD i false
     ·exact absurd ⟨i,hi',hb⟩ hn
     ·simp
    omega
   have key:∀n i,i<n→i<m→listed.getD i false=false→False:=by
    intro n
    induction n with
    | zero=>intro i h;omega
    | succ n ih =>
     intro i hin uB hf;obtain⟨o,ho,_,_,_,xm,_⟩:=ok.each i uB;have hs:i<listed.size:=by rw[hI.size];exact Nat.lt_of_lt_of_le uB ok.le
     have:i∈Region.ready .any ops listed:=by
      rw[mem_ready];refine⟨by rw[za hs];exact hf,o,ho,fun e he hb=>?_⟩;cases hb':listed.getD e.on false
      ·exact(ih e.on (by have:=xm e he hb;omega) (by have:=xm e he hb;omega) hb').elim
      ·rfl
     rw[h0]at this;cases this
   obtain⟨i,uB,hf⟩:=hex;exact key (i+1) i (by omega) uB hf
  ·obtain⟨nU,o,ho,hall⟩:=mem_ready.1 hi;have hio:i<ops.size:=(Array.getElem?_eq_some_iff.1 ho).1;have hs:i<listed.size:=by rw[hI.size];exact hio
   have hf:listed.getD i false=false:=by rw[← za hs];exact nU
   by_cases uB:i<m
   ·obtain⟨o',ho',hgd,rH,qau,xm,rI⟩:=ok.each i uB;obtain rfl:o=o':=Option.some.inj (ho.symm.trans ho');unfold wpOp;simp only[ho];have hw:Region.wanted o (yielded ops a.tmps)=true:=by simp[Region.wanted,hgd]
    rw[if_pos hw]
    left
    have hρ:execOp a.eval o=execOp (valOf a0 ds vs) o:=by
     refine execOp_congr o qau fun x hx=>?_;rw[hI.act];cases x with
     | tmp t =>
      cases hj:ds.idxOf? t with
      | none =>
       rw[xR hj];exact jA _ _ t ds 0 a0 (by rw[List.idxOf?_eq_none_iff]at hj;exact hj)
      | some j =>
       rw[xS hj];have rJ:ds[j]?=some t:=by
        have:=List.of_findIdx?_eq_some (p:=(· == t)) (xs:=ds) (i:=j) (by simpa[List.idxOf?]using hj);cases hd:ds[j]? with
        | none=>simp[hd]at this
        | some d=>simp[hd]at this;rw[this]
       obtain⟨e,he,hb,rfl⟩:=zT ho (rI t j hx hj);have:=ku (fun i=>listed.getD i false) vs t ds 0 e.on a0 ok.nodup rJ (by simpa using hall e he hb) (ok.small t (List.mem_of_getElem? rJ));simpa using this
     | const v=>simp only[valOf];rfl
     | global g=>simp only[valOf];rfl
     | func f=>simp only[valOf];rfl
    have hst:=step i o vs w uB ho hI.ext fun j hj=>by
     obtain⟨e,he,hb,rfl⟩:=zT ho hj;exact hI.good e.on (by have:=xm e he hb;omega) (hall e he hb)
    rw[← hρ]at hst;refine vH hst fun v w' ⟨nQ,hG⟩=>?_;have hdi:∃d,ds[i]?=some d:=⟨ds[i]'(by rw[ok.len];exact uB),List.getElem?_eq_getElem _⟩;obtain⟨d,hd⟩:=hdi;refine qat ok mono step fin r (listed.setIfInBounds i true) (zZ vs i v) (a.put o.dst v) w' ⟨?_,?_,?_,?_,?_,?_⟩ ?_
    ·simp[hI.size]
    ·intro j hj;rw[getD_set_ne false (by omega)];exact hI.tail j hj
    ·intro j oj hoj hl e he hb;by_cases uR:j=i
     ·subst uR;obtain rfl:o=oj:=Option.some.inj (ho.symm.trans hoj);exact getD_set_true (hall e he hb)
     ·rw[getD_set_ne false (Ne.symm uR)]at hl;exact getD_set_true (hI.closed j oj hoj hl e he hb)
    ·exact qas hI.ext nQ
    ·intro j hj hl;by_cases uR:j=i
     ·subst uR;simpa[zZ]using hG
     ·rw[getD_set_ne false (Ne.symm uR)]at hl;have:=mono j _ w w' hj (hI.good j hj hl) nQ;simpa[zZ,uR]using this
    ·rw[rH,hd,hI.act];have:=jz (fun i=>listed.getD i false) vs i v ds 0 a0 d ok.nodup (Nat.zero_le _) (by simpa using hd) hf;rw[this,yr hs]
    ·have:=kK uB hs hf;omega
   ·exfalso;have hex:∃k,k<m∧listed.getD k false=false:=by
     apply Classical.byContradiction;intro hn;have:zB m listed=0:=by
      unfold zB;rw[List.countP_eq_zero];intro k hk;cases hb:listed.getD k false
      ·exact absurd ⟨k,List.mem_range.1 hk,hb⟩ hn
      ·simp
     omega
    rcases ok.tail i o (by omega) ho with⟨e,he,hb,hme⟩|qq1
    ·have h1:=hall e he hb;rw[hI.tail e.on hme]at h1;cases h1
    ·have key:∀n k,m-k≤n→k<m→listed.getD k false=true:=by
        intro n
        induction n with
        | zero=>intro k h1 h2;omega
        | succ n ih =>
         intro k h1 h2;rcases qq1 k h2 with h|⟨k',gZ,h⟩
         ·obtain⟨e,he,hb,rfl⟩:=zT ho h;exact hall e he hb
         ·obtain⟨ok',qiN,_,_,_,xm,_⟩:=ok.each k' gZ;obtain⟨e,he,hb,rfl⟩:=zT qiN h;have hlt:=xm e he hb;exact hI.closed k' ok' qiN (ih k' (by omega) gZ) e he hb
     obtain⟨k,hk,hkf⟩:=hex;rw[key m k (by omega) hk]at hkf;cases hkf
theorem jJ:∀(ds:List Tmp) (k:Nat) (a:Act),qM (fun _=>false) (fun _=>undef) ds k a=a
 | [],_,_=>rfl
 | d::ds,k,a=>by simp only[qM,Bool.false_eq_true,if_false];exact jJ ds (k+1) a
theorem w6 {id:Nat}{a:Act}{w:World}(hm:P.follows .mixedOrders=true)(m:Nat)(ds:List Tmp)(vD:lh ops m ds a.tmps.size=true)(G:Nat→Value→World→Prop)
    (mono:∀i v w w',i<m→G i v w→Below w.heap.size w w'→G i v w')
    (step:∀i o vs w',i<m→ops[i]?=some o→Below w.heap.size w w'→(∀j,qR ops i j=true→G j (vs j) w') →
     jy P (fun v w''=>Below w'.heap.size w' w''∧G i v w'') ((execOp (valOf a ds vs) o).run P w'))
    (fin:∀vs w',Below w.heap.size w w'→(∀i,i<m→G i (vs i) w')→wpAny P .any ops Q (ops.size-m) (xu ops.size m) (qZ vs ds a) w') :
    (Code.region id ops true).wp P Q a w:=by
 have ok:=qiK vD;have hd:Below w.heap.size w { w with drawn:=w.drawn+1 }:=⟨rfl,rfl,rfl,Nat.le_refl _,fun _ _=>rfl⟩;refine wp_region_any hm ?_;have h0:zB m (Array.replicate ops.size false)=m:=by
  have:=List.countP_eq_length (l:=List.range m) (p:=fun i=>!(Array.replicate ops.size false).getD i false) |>.2 fun i _=>by rw[zE];rfl
  unfold zB;rw[this,List.length_range]
 have ha:a=qM (fun i=>(Array.replicate ops.size false).getD i false) (fun _=>undef) ds 0 a:=by
  have:qM (fun i=>(Array.replicate ops.size false).getD i false) (fun _=>undef) ds 0 a=qM (fun _=>false) (fun _=>undef) ds 0 a:=xt _ _ _ _ ds 0 a fun j _ _=>⟨zE _ j,fun _=>rfl⟩;rw[this];exact(jJ ds 0 a).symm
 have hI:qmC ops a w m ds G (Array.replicate ops.size false) (fun _=>undef) a { w with drawn:=w.drawn+1 }:={
  size:=by simp
  tail:=fun j _=>zE _ j
  closed:=fun i o _ h=>by rw[zE]at h;cases h
  ext:=hd
  good:=fun i _ h=>by rw[zE]at h;cases h
  act:=ha }
 have h1:=qat (Q:=Q) ok mono step fin m _ _ a _ hI h0;have e:ops.size-m+m=ops.size:=Nat.sub_add_cancel ok.le;rw[e]at h1;exact h1
structure Reads(a:Act)(ds:List Tmp)(vs:Nat→Value)(ρ:Operand→Value):Prop where
 at_:∀t j,ds.idxOf? t=some j→ρ (.tmp t)=vs j
 out:∀t,ds.idxOf? t=none→ρ (.tmp t)=a.eval (.tmp t)
 const:∀v,ρ (.const v)=v
theorem bg {id:Nat}{a:Act}{w:World}(hm:P.follows .mixedOrders=true)(m:Nat)(ds:List Tmp)(vD:lh ops m ds a.tmps.size=true)(G:Nat→Value→World→Prop)
    (mono:∀i v w w',i<m→G i v w→Below w.heap.size w w'→G i v w')
    (step:∀i o vs ρ w',i<m→ops[i]?=some o→Reads a ds vs ρ→Below w.heap.size w w'→(∀j,qR ops i j=true→G j (vs j) w') →
     jy P (fun v w''=>Below w'.heap.size w' w''∧G i v w'') ((execOp ρ o).run P w'))
    (fin:∀vs w',Below w.heap.size w w'→(∀i,i<m→G i (vs i) w')→wpAny P .any ops Q (ops.size-m) (xu ops.size m) (qZ vs ds a) w') :
    (Code.region id ops true).wp P Q a w :=
 w6 hm m ds vD G mono (fun i o vs w' hi ho hb hG=>step i o vs (valOf a ds vs) w' hi ho ⟨fun _ _ h=>xS h,fun _ h=>xR h,fun _=>rfl⟩ hb hG) fin
theorem qY {md:Region.Mode}{i:Nat}{o:Oper}{fuel:Nat}{listed:Array Bool}{a:Act}{w:World}(hr:Region.ready md ops listed=[i])(ho:ops[i]?=some o)(hg:o.guard=none)
    (h:o.wp P a w (wpAny P md ops Q fuel (listed.setIfInBounds i true)) Q):wpAny P md ops Q (fuel+1) listed a w:=by
 refine wpAny_all hr (by simp) fun j hj=>?_;obtain rfl:j=i:=by simpa using hj
 unfold wpOp;simp only[ho];have hw:Region.wanted o (yielded ops a.tmps)=true:=by simp[Region.wanted,hg]
 rw[if_pos hw];exact .inl h
theorem yt {o:Oper}{a:Act}{w w':World}{v:Value}{next:Act→World→Prop}(h:(execOp a.eval o).run P w=.ok (.value v) w')(hn:next (a.put o.dst v) w'):o.wp P a w next Q:=by
 unfold Oper.wp;rw[h];exact hn
theorem qa {o:Oper}{ρ:Operand→Value}{w w':World}{v:Value}{K:Value→World→Prop}(h:(execOp ρ o).run P w=.ok (.value v) w')(hk:K v w'):jy P K ((execOp ρ o).run P w):=by
 rw[h];exact hk
end
end Go.Proofs.YtdpbdkacngaemaaGreatDoor
namespace Go.Proofs.YtdpbdkacngaemaaGreatDoor
open _root_.Go.Proofs.Tryz Go Go.RowKit
section
variable {P:Program} {ops:Array Oper} {Q:Exit→Act→World→Prop}
def rK (ops:Array Oper)(ds:List Tmp)(size:Nat):Bool :=
 decide (ds.length=ops.size)&&decide ds.Nodup&&ds.all (fun d=>decide (d<size)) &&
 (List.range ops.size).all (fun i=>match ops[i]? with
  | some o=>o.dst == ds[i]? && (match o.op with | .select .. => false|_=>true) &&
   o.after.all (fun e=>!Region.binds .any e || decide (e.on<i)) &&
   (match o.guard with|none=>true|some g=>qR ops i g.1) &&
   o.op.operands.toList.all (fun x=>match x with
    | .tmp t=>match ds.idxOf? t with
     | some j=>qR ops i j
     | none=>true
    | _=>true)
  | none=>false)
structure qiO(ops:Array Oper)(ds:List Tmp)(size:Nat):Prop where
 len:ds.length=ops.size
 nodup:ds.Nodup
 small:∀d∈ds,d<size
 each:∀i,i<ops.size→∃o,ops[i]?=some o∧o.dst=ds[i]? ∧ (∀cs b,o.op ≠ .select cs b)∧(∀e∈o.after,Region.binds .any e=true→e.on<i) ∧
  (∀j want,o.guard=some (j,want)→qR ops i j=true)∧(∀t j,Operand.tmp t∈o.op.operands→ds.idxOf? t=some j→qR ops i j=true)
theorem qfC{ds:List Tmp}{size:Nat}(h:rK ops ds size=true):qiO ops ds size:=by
 unfold rK at h;simp only[Bool.and_eq_true,decide_eq_true_eq,List.all_eq_true,List.mem_range]at h;obtain⟨⟨⟨h2,h3⟩,h4⟩,h5⟩:=h;refine⟨h2,h3,h4,fun i hi=>?_⟩;have h:=h5 i hi;cases ho:ops[i]? with
 | none=>simp[ho]at h
 | some o =>
  simp only[ho,Bool.and_eq_true]at h;obtain⟨⟨⟨⟨g2,g3⟩,g4⟩,g1⟩,g5⟩:=h;refine⟨o,rfl,by simpa using g2,fun cs b hs=>by simp[hs]at g3,fun e he hb=>?_,fun j want hg=>?_,fun t j ht hj=>?_⟩
  ·have:=Array.all_eq_true_iff_forall_mem.1 g4 e he;simpa[hb]using this
  ·simpa[hg]using g1
  ·have:=List.all_eq_true.1 g5 (.tmp t) (by simpa using ht);simpa[hj]using this
structure rL(a:Act)(ds:List Tmp)(vs:Nat→Value)(ρ:Operand→Value):Prop where
 at_:∀t j,ds.idxOf? t=some j→ρ (.tmp t)=vs j
 out:∀t,ds.idxOf? t=none→ρ (.tmp t)=a.eval (.tmp t)
 const:∀v,ρ (.const v)=v
 fn:∀f,ρ (.func f)=a.eval (.func f)
structure qzH(ops:Array Oper)(a0:Act)(ds:List Tmp)(I:(Nat→Bool)→(Nat→Value)→World→Prop)(listed:Array Bool)(vs:Nat→Value)(a:Act)(w:World):Prop where
 size:listed.size=ops.size
 act:a=qM (fun i=>listed.getD i false) vs ds 0 a0
 inv:I (fun i=>listed.getD i false) vs w
variable {a0:Act} {ds:List Tmp} {I:(Nat→Bool)→(Nat→Value)→World→Prop}
theorem qmD{t:Tmp}{j:Nat}(hj:ds.idxOf? t=some j):ds[j]?=some t:=by
 have:=List.of_findIdx?_eq_some (p:=(· == t)) (xs:=ds) (i:=j) (by simpa[List.idxOf?]using hj);cases hd:ds[j]? with
 | none=>simp[hd]at this
 | some d=>simp[hd]at this;rw[this]
theorem qiP(ok:qiO ops ds a0.tmps.size)
    (step:∀i o L vs ρ w,ops[i]?=some o→L i=false→(∀j,qR ops i j=true→L j=true)→rL a0 ds vs ρ→(∀j want,o.guard=some (j,want)→vs j=.bool want)→I L vs w →
     jy P (fun v w'=>I (qN L i) (zZ vs i v) w') ((execOp ρ o).run P w))
    (skip:∀i o L vs w j want,ops[i]?=some o→L i=false→(∀j,qR ops i j=true→L j=true)→o.guard=some (j,want)→vs j ≠ .bool want→I L vs w→I (qN L i) (zZ vs i undef) w)
    (fin:∀vs w',I (fun j=>decide (j<ops.size)) vs w'→Q .normal (qZ vs ds a0) w') :
    ∀(r:Nat) (listed:Array Bool) (vs:Nat→Value) (a:Act) (w:World),qzH ops a0 ds I listed vs a w→zB ops.size listed=r→wpAny P .any ops Q r listed a w
 | 0,listed,vs,a,w,hI,hr=>by
  have hall:=ui hr;have hn:Region.ready .any ops listed=[]:=by
   apply List.eq_nil_iff_forall_not_mem.2;intro i hi;obtain⟨nU,o,ho,_⟩:=mem_ready.1 hi;have hio:i<ops.size:=(Array.getElem?_eq_some_iff.1 ho).1;have:=hall i hio;rw[za (by rw[hI.size];exact hio)]at nU;rw[this]at nU;cases nU
  have ha:a=qZ vs ds a0:=by
   rw[hI.act];exact xt _ _ _ _ ds 0 a0 fun j _ hj=>⟨hall j (by rw[← ok.len];omega),fun _=>rfl⟩
  have hL:(fun i=>listed.getD i false)=fun j=>decide (j<ops.size):=by
   funext j
   by_cases hj:j<ops.size
   ·rw[hall j hj,decide_eq_true hj]
   ·rw[decide_eq_false hj];simp[Array.getD,hI.size,hj]
  rw[ha];have h2:=hI.inv;rw[hL]at h2;exact wpAny_done hn (fin vs w h2) 0
 | r+1,listed,vs,a,w,hI,hr=>by
  refine⟨fun h0=>?_,fun i hi=>?_⟩
  ·exfalso;have hex:∃i,i<ops.size∧listed.getD i false=false:=by
    apply Classical.byContradiction;intro hn;have:zB ops.size listed=0:=by
     unfold zB;rw[List.countP_eq_zero];intro i hi;have hi':=List.mem_range.1 hi;cases hb:listed.getD i false
     ·exact absurd ⟨i,hi',hb⟩ hn
     ·simp
    omega
   have key:∀n i,i<n→i<ops.size→listed.getD i false=false→False:=by
    intro n
    induction n with
    | zero=>intro i h;omega
    | succ n ih =>
     intro i hin uB hf;obtain⟨o,ho,_,_,xm,_⟩:=ok.each i uB;have hs:i<listed.size:=by rw[hI.size];exact uB
     have:i∈Region.ready .any ops listed:=by
      rw[mem_ready];refine⟨by rw[za hs];exact hf,o,ho,fun e he hb=>?_⟩;cases hb':listed.getD e.on false
      ·exact(ih e.on (by have:=xm e he hb;omega) (by have:=xm e he hb;omega) hb').elim
      ·rfl
     rw[h0]at this;cases this
   obtain⟨i,uB,hf⟩:=hex;exact key (i+1) i (by omega) uB hf
  ·obtain⟨nU,o,ho,hall⟩:=mem_ready.1 hi;have uB:i<ops.size:=(Array.getElem?_eq_some_iff.1 ho).1;have hs:i<listed.size:=by rw[hI.size];exact uB
   have hf:listed.getD i false=false:=by rw[← za hs];exact nU
   obtain⟨o',ho',rH,qau,xm,qq2,rI⟩:=ok.each i uB;obtain rfl:o=o':=Option.some.inj (ho.symm.trans ho');have hdi:∃d,ds[i]?=some d:=⟨ds[i]'(by rw[ok.len];exact uB),List.getElem?_eq_getElem _⟩;obtain⟨d,hd⟩:=hdi;have qf:∀j,qR ops i j=true→listed.getD j false=true:=fun j hj=>by
    obtain⟨e,he,hb,rfl⟩:=zT ho hj;exact hall e he hb
   have qav:∀t j,ds[j]?=some t→listed.getD j false=true→a.eval (.tmp t)=vs j:=fun t j rJ hl=>by
    rw[hI.act];have:=ku (fun i=>listed.getD i false) vs t ds 0 j a0 ok.nodup rJ (by simpa using hl) (ok.small t (List.mem_of_getElem? rJ));simpa using this
   have qaw:∀v w',I (qN (fun i=>listed.getD i false) i) (zZ vs i v) w'→wpAny P .any ops Q r (listed.setIfInBounds i true) (a.put o.dst v) w':=by
    intro v w' h;refine qiP ok step skip fin r (listed.setIfInBounds i true) (zZ vs i v) (a.put o.dst v) w' ⟨by simp[hI.size],?_,?_⟩ ?_
    ·rw[rH,hd,hI.act];have:=jz (fun i=>listed.getD i false) vs i v ds 0 a0 d ok.nodup (Nat.zero_le _) (by simpa using hd) hf;rw[this,yr hs]
    ·rw[← yr hs];exact h
    ·have:=kK uB hs hf;omega
   have lj:∀j want,o.guard=some (j,want)→yielded ops a.tmps j=(match vs j with | .bool b=>some b|_=>none):=by
    intro j want hg;have hj:=qq2 j want hg;obtain⟨e,he,hb,he2⟩:=zT ho hj;have uR:j<i:=by rw[← he2];exact xm e he hb
    obtain⟨oj,hoj,rJ,_⟩:=ok.each j (by omega);have qfD:ds[j]?=some (ds[j]'(by rw[ok.len];omega)):=List.getElem?_eq_getElem _;generalize ds[j]'(by rw[ok.len];omega)=t at qfD;have hr:=qav t j qfD (qf j hj);unfold yielded;rw[hoj];simp only[Option.bind_some,rJ,qfD];have he:a.eval (.tmp t)=a.tmps.getD t undef:=rfl;rw[he]at hr;cases hx:a.tmps[t]? with
    | none =>
     have:a.tmps.getD t undef=undef:=by simp[Array.getD_eq_getD_getElem?,hx]
     rw[← hr,this];rfl
    | some x =>
     have:a.tmps.getD t undef=x:=by simp[Array.getD_eq_getD_getElem?,hx]
     rw[← hr,this];cases x <;> rfl
   unfold wpOp;simp only[ho];by_cases hw:Region.wanted o (yielded ops a.tmps)=true
   ·rw[if_pos hw]
    left
    have hρ:execOp a.eval o=execOp (valOf a0 ds vs) o:=by
     refine execOp_congr o qau fun x hx=>?_;cases x with
     | tmp t =>
      cases hj:ds.idxOf? t with
      | none =>
       rw[xR hj,hI.act];exact jA _ _ t ds 0 a0 (by rw[List.idxOf?_eq_none_iff]at hj;exact hj)
      | some j =>
       rw[xS hj];exact qav t j (qmD hj) (qf j (rI t j hx hj))
     | const v=>simp only[valOf];rfl
     | global g=>simp only[valOf];rfl
     | func f=>simp only[valOf];rfl
    have hst:=step i o (fun i=>listed.getD i false) vs (valOf a0 ds vs) w ho hf qf ⟨fun _ _ h=>xS h,fun _ h=>xR h,fun _=>rfl,fun _=>rfl⟩ (fun j want hg=>by
     have hy:=lj j want hg;unfold Region.wanted at hw;rw[hg]at hw;simp only[hy]at hw;cases hv:vs j <;> rw[hv]at hw <;> simp at hw;rw[hw]) hI.inv
    rw[← hρ]at hst;exact vH hst fun v w' h=>qaw v w' h
   ·rw[if_neg hw];cases hg:o.guard with
    | none=>exact absurd (by simp[Region.wanted,hg]) hw
    | some g =>
     obtain⟨j,want⟩:=g;refine qaw undef w (skip i o _ vs w j want ho hf qf hg (fun hv=>hw ?_) hI.inv);have hy:=lj j want hg;unfold Region.wanted;rw[hg];simp only[hy,hv];simp
theorem xX {id:Nat}{a:Act}{w:World}(hm:P.follows .mixedOrders=true)(ds:List Tmp)(vD:rK ops ds a.tmps.size=true)(I:(Nat→Bool)→(Nat→Value)→World→Prop)
    (start:I (fun _=>false) (fun _=>undef) w.drew)
    (step:∀i o L vs ρ w,ops[i]?=some o→L i=false→(∀j,qR ops i j=true→L j=true)→rL a ds vs ρ→(∀j want,o.guard=some (j,want)→vs j=.bool want)→I L vs w →
     jy P (fun v w'=>I (qN L i) (zZ vs i v) w') ((execOp ρ o).run P w))
    (skip:∀i o L vs w j want,ops[i]?=some o→L i=false→(∀j,qR ops i j=true→L j=true)→o.guard=some (j,want)→vs j ≠ .bool want→I L vs w→I (qN L i) (zZ vs i undef) w)
    (fin:∀vs w',I (fun j=>decide (j<ops.size)) vs w'→Q .normal (qZ vs ds a) w') :
    (Code.region id ops true).wp P Q a w:=by
 have ok:=qfC vD;refine wp_region_any hm ?_;have h0:zB ops.size (Array.replicate ops.size false)=ops.size:=by
  have:=List.countP_eq_length (l:=List.range ops.size) (p:=fun i=>!(Array.replicate ops.size false).getD i false) |>.2 fun i _=>by rw[zE];rfl
  unfold zB;rw[this,List.length_range]
 have hf:(fun i=>(Array.replicate ops.size false).getD i false)=fun _=>false:=by
  funext i
  exact zE _ i
 refine qiP ok step skip fin ops.size (Array.replicate ops.size false) (fun _=>undef) a _ ⟨by simp,?_,?_⟩ h0
 ·rw[hf];exact(jJ ds 0 a).symm
 ·rw[hf];exact start
end
theorem dS (L:Nat→Bool)(vs:Nat→Value):∀(ds:List Tmp) (k:Nat) (a:Act),(qM L vs ds k a).defers=a.defers
 | [],_,_=>rfl
 | d::ds,k,a=>by
  simp only[qM];rw[dS L vs ds];split <;> rfl
theorem dT {P:Program}{fn:Func}{R:Ending→World→Prop}{a:Act}{ds:List Tmp}{vs:Nat→Value}{w:World}{t:Tmp}{v:Value}(j:Nat)(hres:fn.results = #[.tmp t])
    (hB:(decide ds.Nodup&&decide (ds[j]?=some t))=true) (hs:decide (t<a.tmps.size)=true) (hd:a.defers=[]) (hv:vs j=v) (hR:R (.returned v) w):bodyPost P fn R .ret (qZ vs ds a) w:=by
 simp only[Bool.and_eq_true,decide_eq_true_eq]at hB hs;refine bodyPost_ret (v:=v) ?_ ((dS _ _ _ _ _).trans hd) hR;rw[results_tmp hres]
 congr 1
 have:=ku (fun _=>true) vs t ds 0 j a hB.1 hB.2 rfl hs;rw[Nat.zero_add,hv]at this;exact this
end Go.Proofs.YtdpbdkacngaemaaGreatDoor
namespace Go.Proofs.YtdpbdkacngaemaaGreatDoor
open _root_.Go.Proofs.Tryz Go Go.RowKit
theorem qi {P:Program}{o:Oper}{ρ:Operand→Value}{w w':World}{f:FuncId}{args:Array Value}{K:Value→World→Prop}(h:(execOp ρ o).run P w=.ok (.enter f args) w')(hk:Calls P f args w' fun e w''=>∃v,e=.returned v∧K v w''):jy P K ((execOp ρ o).run P w):=by
 rw[h];exact hk
theorem zR {P:Program}{ops:Array Oper}{Q:Exit→Act→World→Prop}{id:Nat}{a:Act}{w:World}(hm:P.follows .mixedOrders=true)(m:Nat)(ds:List Tmp)(vD:lh ops m ds a.tmps.size=true)(G:Nat→Value→World→Prop)
    (mono:∀i v w w',i<m→G i v w→Below w.heap.size w w'→G i v w')
    (step:∀i o vs ρ w',i<m→ops[i]?=some o→Reads a ds vs ρ→(∀f,ρ (.func f)=a.eval (.func f))→Below w.heap.size w w'→(∀j,qR ops i j=true→G j (vs j) w') →
     jy P (fun v w''=>Below w'.heap.size w' w''∧G i v w'') ((execOp ρ o).run P w'))
    (fin:∀vs w',Below w.heap.size w w'→(∀i,i<m→G i (vs i) w')→wpAny P .any ops Q (ops.size-m) (xu ops.size m) (qZ vs ds a) w') :
    (Code.region id ops true).wp P Q a w :=
 w6 hm m ds vD G mono (fun i o vs w' hi ho hb hG=>step i o vs (valOf a ds vs) w' hi ho ⟨fun _ _ h=>xS h,fun _ h=>xR h,fun _=>rfl⟩ (fun _=>rfl) hb hG) fin
end Go.Proofs.YtdpbdkacngaemaaGreatDoor
namespace Go.Proofs.YtdpbdkacngaemaaGreatDoor.mt.pg
open _root_.Go.Proofs.Tryz Go Go.RowKit ib wi mt
def wa (g0 g1 a1 a2 b1 b2:Nat)(x y z:Int):Nat→Value→World→Prop
 | 0,v,_=>v=.pointer (some ⟨g0,0,none⟩)
 | 1,v,_=>v=.int .u64 (a1:Int)
 | 2,v,_=>v=.pointer (some ⟨g1,0,none⟩)
 | 3,v,_=>v=.int .u64 (b1:Int)
 | 4,v,_=>v=.int .i64 (x)
 | 5,v,_=>v=.pointer (some ⟨g0,1,none⟩)
 | 6,v,_=>v=.int .u64 (a2:Int)
 | 7,v,_=>v=.pointer (some ⟨g1,1,none⟩)
 | 8,v,_=>v=.int .u64 (b2:Int)
 | 9,v,_=>v=.int .i64 (y)
 | 10,v,W=>∃B,v=.slice (some ⟨B,0,none⟩) 2 2∧qH W (some ⟨B,0,none⟩) [x,y]
 | 11,v,_=>v=.int .i64 z
 | 12,v,_=>v=.bool (decide (0<z))
 | 13,v,_=>v=.bool (decide (0<z))
 | _,_,_=>True
theorem qax(g0 g1 a1 a2 b1 b2:Nat)(x y z:Int)(i:Nat)(v:Value)(w w':World)(hi:i<14)(h:wa g0 g1 a1 a2 b1 b2 x y z i v w)(hb:Below w.heap.size w w'):wa g0 g1 a1 a2 b1 b2 x y z i v w':=by
 match i,hi,h with
 | 0,_,h | 1,_,h | 2,_,h | 3,_,h | 4,_,h | 5,_,h | 6,_,h | 7,_,h | 8,_,h | 9,_,h | 11,_,h | 12,_,h | 13,_,h=>exact h
 | 10,_,⟨B,hv,h2⟩=>exact⟨B,hv,h2.below hb⟩
 | j+14,hi,_=>exact absurd hi (by omega)
theorem bh (a b:Nat):qA (yV a b):=by unfold yV qA;split <;> (try split) <;> omega
theorem uU (a b:Gd)(w:World):Calls prog 127 #[gv a,gv b] w (kE (above a b) w):=by
 have HR:Hid (decide (0<(if yV a.1 b.1≠0 then yV a.1 b.1 else yV a.2 b.2))=above a b):=(oT a b).symm;obtain⟨r,hr⟩:=QE (above a b);rw[hr]at HR ⊢;clear hr;obtain⟨a1,a2⟩:=a;obtain⟨b1,b2⟩:=b;dsimp only at HR;show Calls prog 127 #[.agg #[.int .u64 (a1:Int),.int .u64 (a2:Int)],.agg #[.int .u64 (b1:Int),.int .u64 (b2:Int)]] w _;have HC1:Hid (∀W,Calls prog 212 #[.int .u64 (a1:Int),.int .u64 (b1:Int)] W (same (.int .i64 (yV a1 b1)) W)):=fun W=>iH a1 b1 W;have HC2:Hid (∀W,Calls prog 212 #[.int .u64 (a2:Int),.int .u64 (b2:Int)] W (same (.int .i64 (yV a2 b2)) W)):=fun W=>iH a2 b2 W;have hz:∀z∈[yV a1 b1,yV a2 b2],qA z:=by
  intro z hz;simp only[List.mem_cons,List.not_mem_nil,or_false]at hz;rcases hz with rfl|rfl
  ·exact bh _ _
  ·exact bh _ _
 generalize yV a1 b1=x at *;generalize yV a2 b2=y at *;have HC3:Hid (∀W B,qH W (some ⟨B,0,none⟩) [x,y]→Calls prog 211 #[.slice (some ⟨B,0,none⟩) 2 2] W (same (.int .i64 (if x≠0 then x else y)) W)):=fun W B h=>qiJ ⟨B,0,none⟩ 2 x y W h;generalize (if x≠0 then x else y)=z at *;have hb1:=(Below.refl w.heap.size w).alloc (Nat.le_refl _) (.cells #[.int .u64 (a1:Int),.int .u64 (a2:Int)] 38);have ha1:=qh.new w 38 #[.int .u64 (a1:Int),.int .u64 (a2:Int)];obtain⟨W1,hW1⟩:=QE (w.alloc (.cells #[.int .u64 (a1:Int),.int .u64 (a2:Int)] 38));rw[hW1]at hb1 ha1;have hbb:=(Below.refl _ W1).alloc (Nat.le_refl _) (.cells #[.int .u64 (b1:Int),.int .u64 (b2:Int)] 38);have HB:=QH (qc hb1 hbb);have iu:=QH (ha1.below hbb);have jT:=QH (qh.new W1 38 #[.int .u64 (b1:Int),.int .u64 (b2:Int)]);obtain⟨w0,hw0⟩:=QE (W1.alloc (.cells #[.int .u64 (b1:Int),.int .u64 (b2:Int)] 38));rw[hw0]at HB iu jT;obtain⟨g0,hg0⟩:=QE w.heap.size;obtain⟨g1,hg1⟩:=QE W1.heap.size;clear hb1 ha1 hbb;have HZ:=QH hz;clear hz;go_enter func127,ntmps127;go_wp2_with fail;try rw[hw0]
 try rw[hg0]
 try rw[hg1]
 rw[hg0]at iu;rw[hg1]at jT;clear hw0 hW1;have hz:=HZ.out;refine xX (by kernel_rfl) [5,6,7,8,9,10,11,12,13,14,15,16,17,4] (by kernel_rfl) (fun L vs W=>Below w0.heap.size w0 W∧∀i,L i=true→i<14→wa g0 g1 a1 a2 b1 b2 x y z i (vs i) W) ⟨(Below.refl _ _).drew,fun i hi=>by cases hi⟩ ?_ ?_ ?_
 ·intro i o L vs ρ W ho cE qf hρ hgd hI;obtain⟨hb,cS⟩:=hI;have hG:∀j,L j=true→wa g0 g1 a1 a2 b1 b2 x y z j (vs j) W:=fun j hj=>by
   by_cases uj:j<14
   ·exact cS j hj uj
   ·match j,uj with
    | j+14,_=>exact trivial
  have rM:i<14:=(Array.getElem?_eq_some_iff.1 ho).1;have hc:=hρ.const;have hfn:=hρ.fn;have next:∀v W',Below W.heap.size W W'→wa g0 g1 a1 a2 b1 b2 x y z i v W'→Below w0.heap.size w0 W'∧∀j,qN L i j=true→j<14→wa g0 g1 a1 a2 b1 b2 x y z j (zZ vs i v j) W':=fun v W' h1 h2=>by
   refine⟨qc hb h1,fun j hj uj=>?_⟩;by_cases uR:j=i
   ·subst uR;simpa[zZ]using h2
   ·simp only[qN,if_neg uR]at hj;simpa[zZ,uR]using qax g0 g1 a1 a2 b1 b2 x y z j _ W W' uj (cS j hj uj) h1
  have hA:=iu.out.below hb;have hB:=jT.out.below hb;have hlt:=hA.lt;have qzK:=hB.lt;have c0:=hA.cell 0;have c1:=hA.cell 1;have d0:=hB.cell 0;have d1:=hB.cell 1;simp only[QA,QB,QC]at c0 c1 d0 d1;rcases i with _|_|_|_|_|_|_|_|_|_|_|_|_|_|i;all_goals (first|omega|skip)
  all_goals simp only[QA,QB,QC,Option.some.injEq]at ho
  all_goals subst ho
  ·have o2:ρ (.tmp 2)=.pointer (some ⟨g0,0,none⟩):=hρ.out 2 rfl;exact qa (w':=W) (by unfold execOp;simp only[o2,hc];go_simp) (next _ _ (Below.refl _ _) rfl)
  ·have g5:wa g0 g1 a1 a2 b1 b2 x y z 0 (vs 0) W:=hG 0 (qf 0 (by kernel_rfl));have s5:ρ (.tmp 5)=.pointer (some ⟨g0,0,none⟩):=(hρ.at_ 5 0 rfl).trans g5;exact qa (w':=W) (by unfold execOp;simp only[s5,hc];go_simp) (next _ _ (Below.refl _ _) rfl)
  ·have o3:ρ (.tmp 3)=.pointer (some ⟨g1,0,none⟩):=hρ.out 3 rfl;exact qa (w':=W) (by unfold execOp;simp only[o3,hc];go_simp) (next _ _ (Below.refl _ _) rfl)
  ·have g7:wa g0 g1 a1 a2 b1 b2 x y z 2 (vs 2) W:=hG 2 (qf 2 (by kernel_rfl));have s7:ρ (.tmp 7)=.pointer (some ⟨g1,0,none⟩):=(hρ.at_ 7 2 rfl).trans g7;exact qa (w':=W) (by unfold execOp;simp only[s7,hc];go_simp) (next _ _ (Below.refl _ _) rfl)
  ·have g6:wa g0 g1 a1 a2 b1 b2 x y z 1 (vs 1) W:=hG 1 (qf 1 (by kernel_rfl));have s6:ρ (.tmp 6)=.int .u64 (a1:Int):=(hρ.at_ 6 1 rfl).trans g6;have g8:wa g0 g1 a1 a2 b1 b2 x y z 3 (vs 3) W:=hG 3 (qf 3 (by kernel_rfl));have s8:ρ (.tmp 8)=.int .u64 (b1:Int):=(hρ.at_ 8 3 rfl).trans g8;refine qi (f:=212) (args:=#[.int .u64 (a1:Int),.int .u64 (b1:Int)]) (w':=W) (by unfold execOp;simp only[hfn,s6,s8];go_simp) ((HC1.out W).mono ?_);rintro x W' ⟨rfl,rfl⟩;exact⟨_,rfl,next _ _ (Below.refl _ _) rfl⟩
  ·have o2:ρ (.tmp 2)=.pointer (some ⟨g0,0,none⟩):=hρ.out 2 rfl;exact qa (w':=W) (by unfold execOp;simp only[o2,hc];go_simp) (next _ _ (Below.refl _ _) rfl)
  ·have g10:wa g0 g1 a1 a2 b1 b2 x y z 5 (vs 5) W:=hG 5 (qf 5 (by kernel_rfl));have s10:ρ (.tmp 10)=.pointer (some ⟨g0,1,none⟩):=(hρ.at_ 10 5 rfl).trans g10;exact qa (w':=W) (by unfold execOp;simp only[s10,hc];go_simp) (next _ _ (Below.refl _ _) rfl)
  ·have o3:ρ (.tmp 3)=.pointer (some ⟨g1,0,none⟩):=hρ.out 3 rfl;exact qa (w':=W) (by unfold execOp;simp only[o3,hc];go_simp) (next _ _ (Below.refl _ _) rfl)
  ·have g12:wa g0 g1 a1 a2 b1 b2 x y z 7 (vs 7) W:=hG 7 (qf 7 (by kernel_rfl));have s12:ρ (.tmp 12)=.pointer (some ⟨g1,1,none⟩):=(hρ.at_ 12 7 rfl).trans g12;exact qa (w':=W) (by unfold execOp;simp only[s12,hc];go_simp) (next _ _ (Below.refl _ _) rfl)
  ·have g11:wa g0 g1 a1 a2 b1 b2 x y z 6 (vs 6) W:=hG 6 (qf 6 (by kernel_rfl));have s11:ρ (.tmp 11)=.int .u64 (a2:Int):=(hρ.at_ 11 6 rfl).trans g11;have g13:wa g0 g1 a1 a2 b1 b2 x y z 8 (vs 8) W:=hG 8 (qf 8 (by kernel_rfl));have s13:ρ (.tmp 13)=.int .u64 (b2:Int):=(hρ.at_ 13 8 rfl).trans g13;refine qi (f:=212) (args:=#[.int .u64 (a2:Int),.int .u64 (b2:Int)]) (w':=W) (by unfold execOp;simp only[hfn,s11,s13];go_simp) ((HC2.out W).mono ?_);rintro x W' ⟨rfl,rfl⟩;exact⟨_,rfl,next _ _ (Below.refl _ _) rfl⟩
  ·have g9:wa g0 g1 a1 a2 b1 b2 x y z 4 (vs 4) W:=hG 4 (qf 4 (by kernel_rfl));have s9:ρ (.tmp 9)=.int .i64 (x):=(hρ.at_ 9 4 rfl).trans g9;have g14:wa g0 g1 a1 a2 b1 b2 x y z 9 (vs 9) W:=hG 9 (qf 9 (by kernel_rfl));have s14:ρ (.tmp 14)=.int .i64 (y):=(hρ.at_ 14 9 rfl).trans g14;exact qa (v:=.slice (some ⟨W.heap.size,0,none⟩) 2 2) (w':=W.alloc (.cells (qj [x,y]) 3)) (by unfold execOp;simp only[s9,s14,qj];go_simp) (next _ _ ((Below.refl _ W).alloc (Nat.le_refl _) _) ⟨W.heap.size,rfl,wL W _ hz⟩)
  ·obtain⟨B15,g15,qiS⟩:wa g0 g1 a1 a2 b1 b2 x y z 10 (vs 10) W:=hG 10 (qf 10 (by kernel_rfl));have s15:ρ (.tmp 15)=.slice (some ⟨B15,0,none⟩) 2 2:=(hρ.at_ 15 10 rfl).trans g15;refine qi (f:=211) (args:=#[.slice (some ⟨B15,0,none⟩) 2 2]) (w':=W) (by unfold execOp;simp only[hfn,s15];go_simp) ((HC3.out W B15 qiS).mono ?_);rintro x W' ⟨rfl,rfl⟩;exact⟨_,rfl,next _ _ (Below.refl _ _) rfl⟩
  ·have g16:wa g0 g1 a1 a2 b1 b2 x y z 11 (vs 11) W:=hG 11 (qf 11 (by kernel_rfl));have s16:ρ (.tmp 16)=.int .i64 z:=(hρ.at_ 16 11 rfl).trans g16;exact qa (w':=W) (by unfold execOp;simp only[s16,hc];go_simp) (next _ _ (Below.refl _ _) rfl)
  ·have g17:wa g0 g1 a1 a2 b1 b2 x y z 12 (vs 12) W:=hG 12 (qf 12 (by kernel_rfl));have s17:ρ (.tmp 17)=.bool (decide (0<z)):=(hρ.at_ 17 12 rfl).trans g17;exact qa (w':=W) (by unfold execOp;simp only[s17,hc];go_simp) (next _ _ (Below.refl _ _) rfl)
 ·intro i o L vs W j want ho cE qf hg hv hI;obtain⟨hb,cS⟩:=hI;have hG:∀j,L j=true→wa g0 g1 a1 a2 b1 b2 x y z j (vs j) W:=fun j hj=>by
   by_cases uj:j<14
   ·exact cS j hj uj
   ·match j,uj with
    | j+14,_=>exact trivial
  have rM:i<14:=(Array.getElem?_eq_some_iff.1 ho).1;rcases i with _|_|_|_|_|_|_|_|_|_|_|_|_|_|i;all_goals (first|omega|skip)
  all_goals simp only[QA,QB,QC,Option.some.injEq]at ho
  all_goals subst ho
  all_goals simp only[reduceCtorEq,Option.some.injEq,Prod.mk.injEq]at hg
 ·intro vs W hI;have g7:vs 13=.bool (decide (0<z)):=hI.2 13 (by decide) (by decide);have hbW:=QH (qc HB.out hI.1);clear hI;go_wp2_with fail;refine dT 13 rfl (by decide +kernel) (by kernel_rfl) rfl g7 ⟨by rw[HR.out],hbW.out⟩
end Go.Proofs.YtdpbdkacngaemaaGreatDoor.mt.pg
namespace Go.Proofs.YtdpbdkacngaemaaGreatDoor.im
open _root_.Go.Proofs.Tryz Go Go.RowKit ib
def wC (l:List Int)(f k:Nat):List Int:=(List.range 8).map fun j=>if j<k then pl l (f+j)else 0
def bj (l:List Int)(f:Nat):List Int:=wC l f 8
theorem qay(l:List Int)(f k:Nat):(wC l f k).length=8:=by simp[wC]
theorem dr (l:List Int)(f:Nat):(bj l f).length=8:=qay l f 8
theorem qfE(l:List Int)(f:Nat):wC l f 0=List.replicate 8 0:=by
 apply List.ext_getElem
 ·simp[wC]
 ·intro i h1 h2;rw[List.getElem_replicate];simp only[wC,List.getElem_map,Nat.not_lt_zero,if_false]
theorem qiU(l:List Int)(f k:Nat):(wC l f k).set k (pl l (f+k))=wC l f (k+1):=by
 apply List.ext_getElem
 ·simp[wC]
 ·intro i h1 h2;rw[List.getElem_set];by_cases h:k=i
  ·subst h;simp[wC]
  ·rw[if_neg h];simp only[wC,List.getElem_map,List.getElem_range];by_cases h3:i<k
   ·rw[if_pos h3,if_pos (by omega)]
   ·rw[if_neg h3,if_neg (by omega)]
theorem qiV{l:List Int}{f k:Nat}(h:l.length≤f+k):wC l f (k+1)=wC l f k:=by
 apply List.ext_getElem
 ·simp[wC]
 ·intro i h1 h2;simp only[wC,List.getElem_map,List.getElem_range];by_cases h3:i<k
  ·rw[if_pos h3,if_pos (by omega)]
  ·by_cases h4:i=k
   ·rw[if_neg h3,if_pos (by omega),cK (by omega)]
   ·rw[if_neg h3,if_neg (by omega)]
theorem iI (l:List Int)(f k:Nat)(h:k<(bj l f).length):(bj l f)[k]=pl l (f+k):=by
 have h8:k<8:=by rw[dr]at h;exact h
 simp only[bj,wC,List.getElem_map,List.getElem_range,if_pos h8]
theorem qiW{l:List Int}(h:∀z∈l,qA z)(i:Nat):qA (pl l i):=by
 by_cases hi:i<l.length
 ·rw[aO hi];exact h _ (List.getElem_mem hi)
 ·rw[cK (by omega)];unfold qA;omega
theorem qfF{l:List Int}(h:∀z∈l,qA z)(f:Nat):∀z∈bj l f,qA z:=by
 intro z hz;obtain⟨i,hi,rfl⟩:=List.getElem_of_mem hz;rw[iI];exact qiW h _
theorem qew:(prog.info? 276).map (·.size)=some 8:=by kernel_rfl
theorem qc6(V:List Int):(qj V).all (·.oneCell')=true:=by
 rw[Array.all_eq_true'];intro u hu;simp only[qj,List.mem_toArray,List.mem_map]at hu;obtain⟨z,_,rfl⟩:=hu;rfl
theorem bm {w:World}{g:Nat}{V:List Int}(h:qh w g 276 (qj V))(hl:V.length=8):(loadVar 276 ⟨g,0,none⟩).run prog w=.ok (.agg (qj V)) w :=
 run_loadVar_row w g 276 276 _ (0,0) _ h underlying276 rfl (by rw[jI,hl];exact qew)
theorem uC {ρ:Operand→Value}{o:Oper}{w:World}{g:Nat}{V:List Int}(x:Operand)(ho:o.op=.load 276 x)(hx:ρ x=.pointer (some ⟨g,0,none⟩))(h:qh w g 276 (qj V))(hl:V.length=8) :
    (execOp ρ o).run prog w=.ok (.value (.agg (qj V))) w:=by
 simp only[execOp,ho,hx,Instr.loadAt,Instr.sureAddr,Sem.run_bind,Sem.run_pure,Result.andThen_ok,bm h hl]
theorem wR {ρ:Operand→Value}{o:Oper}{w:World}{g:Nat}{V U:List Int}(x y:Operand)(ho:o.op=.store 276 x y)(hx:ρ x=.pointer (some ⟨g,0,none⟩))(hy:ρ y=.agg (qj U))(h:qh w g 276 (qj V))(hl:V.length=8)(hu:U.length=8) :
    (execOp ρ o).run prog w=.ok .skip (w.setRow g (qj U)):=by
 simp only[execOp,ho,hx,hy,Instr.storeAt,Instr.sureAddr,Sem.run_bind,Sem.run_pure,Result.andThen_ok,run_storeVar_row w g 276 276 _ _ h (by rw[jI,hu];exact qew) (by rw[jI,jI,hl,hu]) (qc6 U)]
theorem oU {w:World}{g:Nat}{t:TypeId}{c c':Array Value}(h:qh w g t c):qh (w.setRow g c') g t c':=by
 unfold qh at *;simp[World.setRow,Array.getElem?_modify,h]
theorem setRow_other(w:World){g k:Nat}(c:Array Value)(h:k≠g):(w.setRow g c).heap[k]?=w.heap[k]? :=by
 have h':¬ g=k:=fun e=>h e.symm;simp[World.setRow,Array.getElem?_modify,h']
theorem setRow_size(w:World)(g:Nat)(c:Array Value):(w.setRow g c).heap.size=w.heap.size:=by simp[World.setRow]
theorem vI {B:Nat}{w w':World}(h:Below B w w'){g:Nat}(c:Array Value)(hg:B≤g):Below B w (w'.setRow g c) :=
 ⟨h.os,h.tape,h.output,by rw[setRow_size];exact h.size,fun k hk=>by rw[setRow_other _ _ (by omega)];exact h.block k hk⟩
def qzL (V:List Int)(w:World)(e:Ending)(w':World):Prop:=e=.returned (.agg (qj V))∧Below w.heap.size w w'
def qq4 (l:List Int)(f b:Nat)(w:World)(i:Value)(wr:World):Prop :=
 ∃k:Nat,k≤8∧i=.int .i64 (k:Int)∧qh wr b 276 (qj (wC l f k))∧qh wr w.heap.size 276 (qj (List.replicate 8 0))∧Below w.heap.size w wr
theorem zx {fn:Func}{p:Tmp}{ty:TypeId}(h:fn.results = #[.cell p ty])(tmps:Array Value)(P:Program)(w:World)(a:Addr)(v1:Value)
    (hp:tmps.getD p undef=.pointer (some a)) (h1:(loadVar ty a).run P w=.ok v1 w):(results fn tmps).run P w=.ok v1 w:=by
 simp only[results,h];simp only[Array.getD_eq_getD_getElem?]at hp;simp[Sem.run_bind,Result.andThen,asAddr,hp,h1]
theorem rN (A:Option Addr)(c:Nat)(l:List Int)(f:Nat)(w:World)(hp:qH w A l)(hl:l.length≤1000)(hf:f≤2000) :
    Calls prog 208 #[.slice A l.length c,.int .i64 (f:Int)] w (qzL (bj l f) w):=by
 have HP:=QH hp;have hsz:(w.alloc (.cells (qj (List.replicate 8 0)) 276)).heap.size=w.heap.size+1:=by simp
 have k0:qh ((w.alloc (.cells (qj (List.replicate 8 0)) 276)).alloc (.cells (qj (List.replicate 8 0)) 276)) (w.heap.size+1) 276 (qj (wC l f 0)):=by
  rw[qfE,← hsz];exact qh.new _ _ _
 have k1:qh ((w.alloc (.cells (qj (List.replicate 8 0)) 276)).alloc (.cells (qj (List.replicate 8 0)) 276)) w.heap.size 276 (qj (List.replicate 8 0)):=by
  refine(qh.new w 276 _).of_block (Below.heap_alloc _ _ _ (by rw[hsz];omega))
 have b0:Below w.heap.size w ((w.alloc (.cells (qj (List.replicate 8 0)) 276)).alloc (.cells (qj (List.replicate 8 0)) 276)):=((Below.refl _ w).alloc (Nat.le_refl _) _).alloc (by simp) _;have K0:=QH k0;have K1:=QH k1;have B0:=QH b0;clear hp k0 k1 b0 hsz;go_enter func208,ntmps208;go_wp2_with fail;go_loopw [7] (fun i wr=>qq4 l f (w.heap.size+1) w i wr) (fun i _=>8-(intOf i).toNat);case atStart=>exact⟨0,by omega,rfl,K0.out,K1.out,B0.out⟩
 case round =>
  clear K0 K1 B0;obtain⟨k,hk,rfl,hb,hz,hw⟩:=hrel;have HB:=QH hb;have HZ:=QH hz;have HW:=QH hw;clear hb hz hw;by_cases h8:k<8
  ·have h8i:(k:Int)<8:=by omega
   by_cases hin:f+k<l.length
   ·have qzM:(f:Int)+(k:Int)<(l.length:Int):=by omega
    obtain⟨b,o,rfl,hbl,hc,hz⟩:=HP.out (f+k) hin;have e0:wr.cell? ⟨b,o+(f+k),none⟩=some (.int .i64 l[f+k]):=by rw[HW.out.cell (p:=⟨b,o+(f+k),none⟩) hbl];exact hc
    have l0:b<wr.heap.size:=Nat.lt_of_lt_of_le hbl HW.out.size;have q0:=HB.out.frozen k;obtain⟨old,q1⟩:∃u,wr.cell? ⟨w.heap.size+1,k,none⟩=some u:=by
     rw[HB.out.cell k,kr _ k (by rw[qay];exact h8)];exact⟨_,rfl⟩
    have l1:=HB.out.lt;have qG:=QH (fun v=>HB.out.qu k (.int .i64 v));have HS:=QH (qiU l f k);rw[aO hin]at HS;clear hc hz hbl;generalize l[f+k]=x at *;go_wp2_with fail;go_roundw;case rel =>
     refine⟨k+1,by omega,by go_num,?_,HZ.out.of_block (Below.heap_setCell _ _ _ _ (by simp)),HW.out.setCell (p:=⟨w.heap.size+1,k,none⟩) (Nat.le_succ _) _⟩;have:=qG.out x;rw[l8,HS.out]at this;exact this
    case measure=>simp[intOf];omega
   ·have qzM:¬ (f:Int)+(k:Int)<(l.length:Int):=by omega
    have HO:=QH (qiV (l:=l) (f:=f) (k:=k) (by omega));go_wp2_with fail;go_roundw;case rel=>exact⟨k+1,by omega,by go_num,by rw[HO.out];exact HB.out,HZ.out,HW.out⟩
    case measure=>simp[intOf];omega
  ·have h8i:¬ (k:Int)<8:=by omega
   obtain rfl:k=8:=by omega
   have HV:=QH (dr l f);have qG:Hid (qh wr (w.heap.size+1) 276 (qj (bj l f))):=HB.out;clear HB;obtain⟨V,hV⟩:=QE (bj l f);rw[hV]at HV qG ⊢;have HR:=QH (oU (c':=qj V) HZ.out);have HW2:=QH (vI HW.out (qj V) (Nat.le_refl _));go_wp2_with (first|(refine qx rfl (uC (.tmp 5) rfl rfl qG.out HV.out) ?_)|(refine wpList_skip rfl (wR (.tmp 4) (.tmp 25) rfl rfl rfl HZ.out (by decide) HV.out) ?_));exact bodyPost_ret (zx rfl _ _ _ ⟨w.heap.size,0,none⟩ _ rfl (bm HR.out HV.out)) rfl ⟨rfl,HW2.out⟩
end Go.Proofs.YtdpbdkacngaemaaGreatDoor.im

/- MgEq, Slots, SlotsI, SlotsF, MgAb, ImVol, ImVol2, ImChk, MgTk, MgTok, MgSnap, MgSns, MtDs. -/
import Derived.Test.YtdagdllomphidaaGreatDoorZR0
import Derived.Orders
import Derived.ChangeKeysEq
import Derived.Maps.OwnSet
import Derived.Deep.DeepCutAuto
set_option linter.unusedVariables false
set_option linter.unusedSimpArgs false
set_option maxHeartbeats 30000000
set_option maxRecDepth 100000
namespace Go.Proofs.YtdagdllomphidaaGreatDoor.mt.pg
open _root_.Go.Proofs.Tryz Go Go.RowKit ib mt
def jt (a b:Nat):Int:=if a<b then -1 else if b<a then 1 else 0
def same (r:Value)(w:World)(e:Ending)(w':World):Prop:=e=.returned r∧w'=w
theorem qh8(a:Nat)(w:World):Calls prog 185 #[.int .u64 (a:Int)] w (same (.bool false) w):=by
 have hq:((a:Int) != (a:Int))=false:=by simp
 go_enter func185,ntmps185;go_wp2_with fail;go_ret;exact⟨by simp,rfl⟩
theorem nI (a b:Nat)(w:World):Calls prog 152 #[.int .u64 (a:Int),.int .u64 (b:Int)] w (same (.int .i64 (jt a b)) w):=by
 have HA:=QH (qh8 a w);have HB:=QH (qh8 b w);by_cases h1:a<b
 ·have h1i:(a:Int)<(b:Int):=by omega
  have HR:Hid (jt a b = -1):=by unfold Hid jt;rw[if_pos h1]
  clear h1;go_enter func152,ntmps152;go_wp2_with fail;refine HA.out.mono ?_;rintro e _ ⟨rfl,rfl⟩;go_wp2_with fail;refine HB.out.mono ?_;rintro e _ ⟨rfl,rfl⟩;go_wp2_with fail;go_ret;exact⟨by rw[HR.out];rfl,rfl⟩
 by_cases h2:b<a
 ·have h1i:¬ (a:Int)<(b:Int):=by omega
  have h2i:(b:Int)<(a:Int):=by omega
  have HR:Hid (jt a b=1):=by unfold Hid jt;rw[if_neg h1,if_pos h2]
  clear h1 h2;go_enter func152,ntmps152;go_wp2_with fail;refine HA.out.mono ?_;rintro e _ ⟨rfl,rfl⟩;go_wp2_with fail;refine HB.out.mono ?_;rintro e _ ⟨rfl,rfl⟩;go_wp2_with fail;go_ret;exact⟨by rw[HR.out];rfl,rfl⟩
 ·have h1i:¬ (a:Int)<(b:Int):=by omega
  have h2i:¬ (b:Int)<(a:Int):=by omega
  have HR:Hid (jt a b=0):=by unfold Hid jt;rw[if_neg h1,if_neg h2]
  clear h1 h2;go_enter func152,ntmps152;go_wp2_with fail;refine HA.out.mono ?_;rintro e _ ⟨rfl,rfl⟩;go_wp2_with fail;refine HB.out.mono ?_;rintro e _ ⟨rfl,rfl⟩;go_wp2_with fail;go_ret;exact⟨by rw[HR.out];rfl,rfl⟩
theorem qiN{p q:List Int}(k:Nat)(h1:k<p.length)(h2:k<q.length)(h:p.take k=q.take k)(e:p[k]=q[k]):p.take (k+1)=q.take (k+1):=by
 rw[List.take_succ_eq_append_getElem h1,List.take_succ_eq_append_getElem h2,h,e]
def qyS (p q:List Int)(w:World)(i:Value)(wr:World):Prop :=
 ∃k:Nat,k≤p.length∧i=.int .i64 (k:Int)∧p.take k=q.take k∧Below w.heap.size w wr
theorem aW (A B:Option Addr)(c d:Nat)(p q:List Int)(w:World)(hp:qM w A p)(hq:qM w B q)(hl:p.length≤1000000000) :
    Calls prog 211 #[.slice A p.length c,.slice B q.length d] w (dP (decide (p=q)) w):=by
 have HP:=QH hp;have HQ:=QH hq;clear hp hq;by_cases hlen:p.length=q.length
 ·go_enter func211,ntmps211;go_wp2;go_loopw [13] (fun i wr=>qyS p q w i wr) (fun i _=>p.length-(intOf i).toNat);case atStart=>exact⟨0,Nat.zero_le _,rfl,rfl,Below.refl _ _⟩
  case round =>
   obtain⟨k,hk,rfl,ht,hB⟩:=hrel;have Ht:=QH ht;clear ht;by_cases hlt:k<p.length
   ·have hlq:k<q.length:=by omega
    obtain⟨b1,o1,rfl,hb1,hc1,hz1⟩:=HP.out k hlt;obtain⟨b2,o2,rfl,hb2,hc2,hz2⟩:=HQ.out k hlq;have qfz:wr.cell? ⟨b1,o1+k,none⟩=some (.int .i64 p[k]):=by rw[hB.cell (p:=⟨b1,o1+k,none⟩) hb1];exact hc1
    have qbc:wr.cell? ⟨b2,o2+k,none⟩=some (.int .i64 q[k]):=by rw[hB.cell (p:=⟨b2,o2+k,none⟩) hb2];exact hc2
    have q4X:b1<wr.heap.size:=Nat.lt_of_lt_of_le hb1 hB.size;have q4Y:b2<wr.heap.size:=Nat.lt_of_lt_of_le hb2 hB.size;have hi1:(k:Int)<(p.length:Int):=by omega
    have ov:(k:Int)<(q.length:Int):=by omega
    clear hc1 hc2 hz1 hz2;by_cases he:p[k]=q[k]
    ·have hsn:=QH (qiN k hlt hlq Ht.out he);have qqw:wr.cell? ⟨b2,o2+k,none⟩=some (.int .i64 p[k]):=by rw[he];exact qbc
     clear he qbc;obtain⟨x,hx⟩:=QE (p[k]);rw[hx]at qfz qqw;have hxx:(x != x)=false:=by simp
     clear hx;go_wp2;go_quiet (fail);have hB2:=below_drewN hB nq;go_wp2;go_roundw;case rel=>exact⟨k+1,by omega,by go_num,hsn.out,hB2⟩
     case measure=>simp[intOf];omega
    ·have hne:decide (p=q)=false:=by
        simp only[decide_eq_false_iff_not];rintro rfl;exact he rfl
     have Hne:=QH hne;obtain⟨x,hx⟩:=QE (p[k]);obtain⟨y,hy⟩:=QE (q[k]);rw[hx,hy]at he;rw[hx]at qfz;rw[hy]at qbc;have hxy:(x != y)=true:=by simpa using he
     clear he hne hx hy;go_wp2;go_quiet (fail);have hB2:=below_drewN hB nq;go_wp2;go_ret;exact⟨by rw[Hne.out];rfl,hB2⟩
   ·have vB:k=p.length:=by omega
    have heq:decide (p=q)=true:=by
     have:=Ht.out;rw[List.take_of_length_le (by omega),List.take_of_length_le (by omega)]at this;simpa using this
    have Heq:=QH heq;clear heq;go_wp2;go_ret;exact⟨by rw[Heq.out];rfl,hB⟩
 ·have hne:decide (p=q)=false:=by
     simp only[decide_eq_false_iff_not];rintro rfl;exact hlen rfl
  have oy:¬ (p.length:Int)=(q.length:Int):=by omega
  have Hne:=QH hne;clear hne;go_enter func211,ntmps211;go_wp2;go_ret;exact⟨by rw[Hne.out];rfl,Below.refl _ _⟩
def qyU (x y:Int)(w:World)(i:Value)(wr:World):Prop:=∃k:Nat,k≤2∧i=.int .i64 (k:Int)∧(1≤k→x=0)∧(2≤k→y=0)∧wr=w
theorem qmt(A:Addr)(c:Nat)(x y:Int)(w:World)(hp:qM w (some A) [x,y]) :
    Calls prog 151 #[.slice (some A) 2 c] w (same (.int .i64 (if x≠0 then x else y)) w):=by
 obtain⟨b0,o0,hA,hb0,hc0,hz0⟩:=hp 0 (by simp);obtain⟨b1,o1,hA1,hb1,hc1,hz1⟩:=hp 1 (by simp);obtain rfl:=Option.some.inj hA;simp only[Option.some.injEq,Addr.mk.injEq,and_true]at hA1;obtain⟨rfl,rfl⟩:=hA1;simp only[List.getElem_cons_zero,List.getElem_cons_succ]at hc0 hc1 hz0 hz1;clear hA hp;obtain⟨res,hres⟩:=QE (if x≠0 then x else y);rw[hres];have HR:=QH hres;clear hres hz0 hz1;rw[Nat.add_zero]at hc0;have HC0:=QH hc0;have HC1:=QH hc1;clear hc0 hc1;go_enter func151,ntmps151;go_wp2_with fail;go_loopw [5,8] (fun _ i wr=>qyU x y w i wr) (fun _ i _=>2-(intOf i).toNat);case atStart=>exact⟨0,by omega,rfl,fun h=>absurd h (by omega),fun h=>absurd h (by omega),rfl⟩
 case round =>
  obtain⟨k,hk,rfl,h1,h2,rfl⟩:=hrel;by_cases hk2:k<2
  ·have jW:(k:Int)<2:=by omega
   obtain⟨v,hv,hc,hn⟩:∃v,(v≠0→res=v)∧wr.cell? ⟨b0,o0+k,none⟩=some (.int .i64 v)∧(v=0→(1≤k+1→x=0)∧(2≤k+1→y=0)):=by
    match k,hk2 with
    | 0,_=>exact⟨x,fun h=>by rw[← HR.out,if_pos h],HC0.out,fun h=>⟨fun _=>h,fun h=>absurd h (by omega)⟩⟩
    | 1,_=>exact⟨y,fun h=>by rw[← HR.out,if_neg (by simp[h1 (by omega)])],HC1.out,fun h=>⟨fun _=>h1 (by omega),fun _=>h⟩⟩
   have HV:=QH hv;have HN:=QH hn;clear hv hn h1 h2;by_cases hv0:v=0
   ·subst hv0;go_wp2_with fail;go_roundw;case rel=>exact⟨k+1,by omega,by go_num,(HN.out rfl).1,(HN.out rfl).2,rfl⟩
    case measure=>simp[intOf];omega
   ·have hvb:(v != 0)=true:=by simpa using hv0
    have np:=QH (HV.out hv0);clear hv0;go_wp2_with fail;go_ret;exact⟨by rw[np.out];rfl,rfl⟩
  ·have jW:¬ (k:Int)<2:=by omega
   have hr:res=0:=by rw[← HR.out,if_neg (by simp[h1 (by omega)]),h2 (by omega)]
   have eD:=QH hr;clear hr h1 h2;go_wp2_with fail;go_ret;exact⟨by rw[eD.out];rfl,rfl⟩
theorem tS (a b:Gd):above a b=decide (0<(if jt a.1 b.1≠0 then jt a.1 b.1 else jt a.2 b.2)):=by
 obtain⟨a1,a2⟩:=a;obtain⟨b1,b2⟩:=b;unfold above jt;rw[Bool.eq_iff_iff];simp only[Bool.or_eq_true,Bool.and_eq_true,decide_eq_true_eq];by_cases h1:a1<b1
 ·simp[h1];omega
 ·by_cases h2:b1<a1
  ·simp[h1,h2]
  ·by_cases h3:a2<b2
   ·simp[h1,h2,h3];omega
   ·by_cases h4:b2<a2
    ·simp[h1,h2,h3,h4];omega
    ·simp[h1,h2,h3,h4]
end Go.Proofs.YtdagdllomphidaaGreatDoor.mt.pg
namespace Go.Proofs.YtdagdllomphidaaGreatDoor
open _root_.Go.Proofs.Tryz Go Go.RowKit
section
variable {P:Program} {ops:Array Oper} {Q:Exit→Act→World→Prop}
def km (P:Program)(K:Value→World→Prop):Result Next→Prop
 | .ok (.value v) w'=>K v w'
 | .ok (.enter f args) w'=>Calls P f args w' fun e w''=>∃v,e=.returned v∧K v w''
 | _=>False
theorem gh {o:Oper}{a:Act}{w:World}{K:Value→World→Prop}{next:Act→World→Prop}(h:km P K ((execOp a.eval o).run P w))(hn:∀v w',K v w'→next (a.put o.dst v) w'):o.wp P a w next Q:=by
 unfold Oper.wp;generalize (execOp a.eval o).run P w=r at *;cases r with
 | ok n w' =>
  cases n <;> simp only[km]at h <;> simp only[Oper.upon];case value v=>exact hn _ _ h
  case enter f args =>
   refine h.mono fun e w'' he=>?_;obtain⟨v,rfl,hk⟩:=he;exact hn _ _ hk
 | halt x w'=>simp only[km]at h
def qN (L:Nat→Bool)(vs:Nat→Value):List Tmp→Nat→Act→Act
 | [],_,a=>a
 | d::ds,k,a=>qN L vs ds (k+1) (if L k then a.put (some d) (vs k)else a)
def za (vs:Nat→Value)(ds:List Tmp)(a:Act):Act:=qN (fun _=>true) vs ds 0 a
def zu (L:Nat→Bool)(i:Nat):Nat→Bool:=fun j=>if j=i then true else L j
def xy (vs:Nat→Value)(i:Nat)(v:Value):Nat→Value:=fun j=>if j=i then v else vs j
theorem ye (L L':Nat→Bool)(vs vs':Nat→Value):∀(ds:List Tmp) (k:Nat) (a:Act),(∀j,k≤j→j<k+ds.length→L j=L' j∧(L j=true→vs j=vs' j))→qN L vs ds k a=qN L' vs' ds k a
 | [],_,_,_=>rfl
 | d::ds,k,a,h=>by
  have h0:=h k (Nat.le_refl _) (by simp);simp only[qN];rw[h0.1];have e:(if L' k=true then a.put (some d) (vs k)else a)=(if L' k=true then a.put (some d) (vs' k)else a):=by
   by_cases hk:L' k=true
   ·rw[if_pos hk,if_pos hk,h0.2 (h0.1.trans hk)]
   ·rw[if_neg hk,if_neg hk]
  rw[e];exact ye L L' vs vs' ds (k+1) _ fun j h1 h2=>h j (by omega) (by simp;omega)
theorem aX (a:Act)(d e:Tmp)(v u:Value)(h:d≠e):(a.put (some d) v).put (some e) u=(a.put (some e) u).put (some d) v :=
 Act.put_comm a v u fun x hx=>by cases hx;intro hy;cases hy;exact h rfl
theorem oz (L:Nat→Bool)(vs:Nat→Value)(e:Tmp)(u:Value):∀(ds:List Tmp) (k:Nat) (a:Act),e ∉ ds→(qN L vs ds k a).put (some e) u=qN L vs ds k (a.put (some e) u)
 | [],_,_,_=>rfl
 | d::ds,k,a,h=>by
  have hd:d≠e:=fun x=>h (by simp[x]);have hds:e ∉ ds:=fun x=>h (by simp[x]);simp only[qN];rw[oz L vs e u ds (k+1) _ hds]
  congr 1
  by_cases hk:L k=true
  ·rw[if_pos hk,if_pos hk,aX a d e _ _ hd]
  ·rw[if_neg hk,if_neg hk]
theorem uI (L:Nat→Bool)(vs:Nat→Value)(i:Nat)(v:Value):∀(ds:List Tmp) (k:Nat) (a:Act) (d:Tmp),ds.Nodup→k≤i→ds[i-k]?=some d→L i=false→(qN L vs ds k a).put (some d) v=qN (zu L i) (xy vs i v) ds k a
 | [],k,a,d,_,_,h,_=>by simp at h
 | e::ds,k,a,d,hn,hk,h,hL=>by
  rw[List.nodup_cons]at hn;by_cases jW:k=i
  ·subst jW;simp only[Nat.sub_self,List.getElem?_cons_zero,Option.some.injEq]at h;subst h;simp only[qN];rw[oz L vs e v ds (k+1) _ hn.1,hL];have e1:zu L k k=true:=by simp[zu]
   have e2:xy vs k v k=v:=by simp[xy]
   rw[e1,e2,if_pos rfl];simp only[Bool.false_eq_true,if_false];exact ye _ _ _ _ ds (k+1) _ fun j h1 _=>by
    have:j≠k:=by omega
    simp[zu,xy,this]
  ·have hlt:i-k=(i-(k+1))+1:=by omega
   rw[hlt,List.getElem?_cons_succ]at h;have ih:=uI L vs i v ds (k+1) (if L k then a.put (some e) (vs k)else a) d hn.2 (by omega) h hL;simp only[qN];rw[ih];have e1:zu L i k=L k:=by simp[zu,jW]
   have e2:xy vs i v k=vs k:=by simp[xy,jW]
   rw[e1,e2]
theorem qcH(L:Nat→Bool)(vs:Nat→Value):∀(ds:List Tmp) (k:Nat) (a:Act),(qN L vs ds k a).tmps.size=a.tmps.size
 | [],_,_=>rfl
 | d::ds,k,a=>by
  simp only[qN];rw[qcH L vs ds];split <;> simp[Act.put]
theorem qcI(a:Act)(d t:Tmp)(v:Value)(h:d≠t):(a.put (some d) v).eval (.tmp t)=a.eval (.tmp t) :=
 Act.eval_put fun e he hx=>by cases he;cases hx;exact h rfl
theorem uJ (L:Nat→Bool)(vs:Nat→Value)(t:Tmp):∀(ds:List Tmp) (k:Nat) (a:Act),t ∉ ds→(qN L vs ds k a).eval (.tmp t)=a.eval (.tmp t)
 | [],_,_,_=>rfl
 | d::ds,k,a,h=>by
  have hd:d≠t:=fun x=>h (by simp[x]);have hds:t ∉ ds:=fun x=>h (by simp[x]);simp only[qN];rw[uJ L vs t ds (k+1) _ hds];split
  ·exact qcI a d t _ hd
  ·rfl
theorem wq (L:Nat→Bool)(vs:Nat→Value)(t:Tmp):∀(ds:List Tmp) (k j:Nat) (a:Act),ds.Nodup→ds[j]?=some t→L (k+j)=true→t<a.tmps.size→(qN L vs ds k a).eval (.tmp t)=vs (k+j)
 | [],_,_,_,_,h,_,_=>by simp at h
 | d::ds,k,j,a,hn,h,hL,hs=>by
  rw[List.nodup_cons]at hn;cases j with
  | zero =>
   simp only[List.getElem?_cons_zero,Option.some.injEq]at h;subst h;simp only[qN];rw[uJ L vs d ds (k+1) _ hn.1,if_pos (by simpa using hL)];simp[Act.eval,Act.put,hs]
  | succ j =>
   rw[List.getElem?_cons_succ]at h;simp only[qN];have:=wq L vs t ds (k+1) j (if L k then a.put (some d) (vs k)else a) hn.2 h (by rw[show k+1+j=k+(j+1)from by omega];exact hL) (by split <;> simp[Act.put,hs]);rw[this]
   congr 1
   omega
def valOf (a0:Act)(ds:List Tmp)(vs:Nat→Value):Operand→Value
 | .tmp t=>match ds.idxOf? t with
  | some j=>vs j
  | none=>a0.eval (.tmp t)
 | x=>a0.eval x
theorem ju {a0:Act}{ds:List Tmp}{vs:Nat→Value}{t:Tmp}(h:ds.idxOf? t=none):valOf a0 ds vs (.tmp t)=a0.eval (.tmp t):=by
 unfold valOf;simp only[h]
theorem jv {a0:Act}{ds:List Tmp}{vs:Nat→Value}{t:Tmp}{j:Nat}(h:ds.idxOf? t=some j):valOf a0 ds vs (.tmp t)=vs j:=by
 unfold valOf;simp only[h]
theorem xd (n i:Nat):(Array.replicate n false).getD i false=false:=by
 by_cases h:i<n <;> simp[h]
def zN (ops:Array Oper)(i j:Nat):Bool:=match ops[i]? with
 | some o=>o.after.any fun e=>Region.binds .any e&&e.on == j
 | none=>false
def oA (ops:Array Oper)(m:Nat)(ds:List Tmp)(size:Nat):Bool :=
 decide (m≤ops.size)&&decide (ds.length=m)&&decide ds.Nodup&&ds.all (fun d=>decide (d<size)) &&
 (List.range m).all (fun i=>match ops[i]? with
  | some o=>o.guard.isNone&&o.dst == ds[i]? && (match o.op with | .select .. => false|_=>true) &&
   o.after.all (fun e=>!Region.binds .any e || decide (e.on<i)) &&
   o.op.operands.toList.all (fun x=>match x with
    | .tmp t=>match ds.idxOf? t with
     | some j=>zN ops i j
     | none=>true
    | _=>true)
  | none=>false) &&
 (List.range ops.size).all (fun j=>decide (j<m) || (match ops[j]? with
  | some o=>(o.after.any fun e=>Region.binds .any e&&decide (m≤e.on)) || (List.range m).all (fun i=>zN ops j i || (List.range m).any (fun k=>zN ops k i))
  | none=>false))
structure qhA(ops:Array Oper)(m:Nat)(ds:List Tmp)(size:Nat):Prop where
 le:m≤ops.size
 len:ds.length=m
 nodup:ds.Nodup
 small:∀d∈ds,d<size
 each:∀i,i<m→∃o,ops[i]?=some o∧o.guard=none∧o.dst=ds[i]? ∧ (∀cs b,o.op ≠ .select cs b)∧(∀e∈o.after,Region.binds .any e=true→e.on<i) ∧
  (∀t j,Operand.tmp t∈o.op.operands→ds.idxOf? t=some j→zN ops i j=true)
 tail:∀j o,m≤j→ops[j]?=some o→(∃e∈o.after,Region.binds .any e=true∧m≤e.on)∨(∀i,i<m→zN ops j i=true∨∃k,k<m∧zN ops k i=true)
theorem qmu{m:Nat}{ds:List Tmp}{size:Nat}(h:oA ops m ds size=true):qhA ops m ds size:=by
 unfold oA at h;simp only[Bool.and_eq_true,decide_eq_true_eq,List.all_eq_true,List.mem_range]at h;obtain⟨⟨⟨⟨⟨h1,h2⟩,h3⟩,h4⟩,h5⟩,h6⟩:=h;refine⟨h1,h2,h3,h4,fun i hi=>?_,fun j o hj ho=>?_⟩
 ·have h:=h5 i hi;cases ho:ops[i]? with
  | none=>simp[ho]at h
  | some o =>
   simp only[ho,Bool.and_eq_true]at h;obtain⟨⟨⟨⟨g1,g2⟩,g3⟩,g4⟩,g5⟩:=h;refine⟨o,rfl,by simpa using g1,by simpa using g2,fun cs b hs=>by simp[hs]at g3,fun e he hb=>?_,fun t j ht hj=>?_⟩
   ·have:=Array.all_eq_true_iff_forall_mem.1 g4 e he;simpa[hb]using this
   ·have:=List.all_eq_true.1 g5 (.tmp t) (by simpa using ht);simpa[hj]using this
 ·have hlt:j<ops.size:=(Array.getElem?_eq_some_iff.1 ho).1;have h:=h6 j hlt;simp only[ho,Bool.or_eq_true,decide_eq_true_eq]at h;rcases h with h|h|h
  ·omega
  ·obtain⟨e,he,hb⟩:=Array.any_eq_true'.1 h;simp only[Bool.and_eq_true,decide_eq_true_eq]at hb;exact .inl ⟨e,he,hb.1,hb.2⟩
  ·refine .inr fun i hi=>?_;have:=List.all_eq_true.1 h i (by simpa using hi);simp only[Bool.or_eq_true,List.any_eq_true,List.mem_range]at this;exact this
theorem xJ {i j:Nat}{o:Oper}(ho:ops[i]?=some o)(h:zN ops i j=true):∃e∈o.after,Region.binds .any e=true∧e.on=j:=by
 unfold zN at h;simp only[ho]at h;obtain⟨e,he,hb⟩:=Array.any_eq_true'.1 h;simp only[Bool.and_eq_true,beq_iff_eq]at hb;exact⟨e,he,hb.1,hb.2⟩
def xG (n m:Nat):Array Bool:=(Array.range n).map fun i=>decide (i<m)
structure qqz(ops:Array Oper)(a0:Act)(w0:World)(m:Nat)(ds:List Tmp)(G:Nat→Value→World→Prop)(listed:Array Bool)(vs:Nat→Value)(a:Act)(w:World):Prop where
 size:listed.size=ops.size
 tail:∀j,m≤j→listed.getD j false=false
 closed:∀i o,ops[i]?=some o→listed.getD i false=true→∀e∈o.after,Region.binds .any e=true→listed.getD e.on false=true
 ext:Below w0.heap.size w0 w
 good:∀i,i<m→listed.getD i false=true→G i (vs i) w
 act:a=qN (fun i=>listed.getD i false) vs ds 0 a0
def xp (m:Nat)(listed:Array Bool):Nat:=(List.range m).countP fun i=>!listed.getD i false
theorem gj {m i:Nat}{listed:Array Bool}(hi:i<m)(hs:i<listed.size)(h:listed.getD i false=false):xp m listed=xp m (listed.setIfInBounds i true)+1:=by
 unfold xp
 induction m with
 | zero=>omega
 | succ m ih =>
  rw[List.range_succ,List.countP_append,List.countP_append];simp only[List.countP_singleton];by_cases e:i=m
  ·subst e;have h1:(listed.setIfInBounds i true).getD i false=true:=by simp[hs]
   rw[h,h1];have h2:List.countP (fun j=>!listed.getD j false) (List.range i)=List.countP (fun j=>!(listed.setIfInBounds i true).getD j false) (List.range i):=by
    apply List.countP_congr;intro j hj;rw[getD_set_ne false (by have:=List.mem_range.1 hj;omega)]
   rw[h2];rfl
  ·have:=ih (by omega);rw[this,getD_set_ne false e];omega
theorem dT {m:Nat}{listed:Array Bool}(h:xp m listed=0):∀i,i<m→listed.getD i false=true:=by
 intro i hi;unfold xp at h;rw[List.countP_eq_zero]at h;have:=h i (List.mem_range.2 hi);simpa using this
theorem xg {listed:Array Bool}{i:Nat}(hs:i<listed.size):listed.getD i true=listed.getD i false:=by simp[hs]
theorem kI {listed:Array Bool}{i:Nat}(hs:i<listed.size):zu (fun j=>listed.getD j false) i=fun j=>(listed.setIfInBounds i true).getD j false:=by
 funext j
 unfold zu;by_cases e:j=i
 ·subst e;simp[hs]
 ·rw[if_neg e,getD_set_ne false (Ne.symm e)]
variable {a0:Act} {w0:World} {m:Nat} {ds:List Tmp} {G:Nat→Value→World→Prop}
theorem qcJ{w0 w w':World}(h:Below w0.heap.size w0 w)(g:Below w.heap.size w w'):Below w0.heap.size w0 w':=h.trans (g.mono h.size)
theorem qcK(ok:qhA ops m ds a0.tmps.size)
    (mono:∀i v w w',i<m→G i v w→Below w.heap.size w w'→G i v w')
    (step:∀i o vs w,i<m→ops[i]?=some o→Below w0.heap.size w0 w→(∀j,zN ops i j=true→G j (vs j) w) →
     km P (fun v w'=>Below w.heap.size w w'∧G i v w') ((execOp (valOf a0 ds vs) o).run P w))
    (fin:∀vs w',Below w0.heap.size w0 w'→(∀i,i<m→G i (vs i) w')→wpAny P .any ops Q (ops.size-m) (xG ops.size m) (za vs ds a0) w') :
    ∀(r:Nat) (listed:Array Bool) (vs:Nat→Value) (a:Act) (w:World),qqz ops a0 w0 m ds G listed vs a w→xp m listed=r→wpAny P .any ops Q (ops.size-m+r) listed a w
 | 0,listed,vs,a,w,hI,hr=>by
  have hall:=dT hr;have hl:listed=xG ops.size m:=by
   apply Array.ext
   ·simp[xG,hI.size]
   ·intro i h1 h2;have e:listed.getD i false=listed[i]:=by simp[h1]
    by_cases hi:i<m
    ·have:=hall i hi;rw[e]at this;simp[xG,this,hi]
    ·have:=hI.tail i (by omega);rw[e]at this;simp[xG,this,hi]
  have ha:a=za vs ds a0:=by
   rw[hI.act];exact ye _ _ _ _ ds 0 a0 fun j _ hj=>⟨hall j (by rw[← ok.len];omega),fun _=>rfl⟩
  rw[hl,ha,Nat.add_zero];exact fin vs w hI.ext fun i hi=>hI.good i hi (hall i hi)
 | r+1,listed,vs,a,w,hI,hr=>by
  refine⟨fun h0=>?_,fun i hi=>?_⟩
  ·
   exfalso;have hex:∃i,i<m∧listed.getD i false=false:=by
    apply Classical.byContradiction;intro hn;have:xp m listed=0:=by
     unfold xp;rw[List.countP_eq_zero];intro i hi;have hi':=List.mem_range.1 hi;cases hb:listed.getD i false
     ·exact absurd ⟨i,hi',hb⟩ hn
     ·simp
    omega
   have key:∀n i,i<n→i<m→listed.getD i false=false→False:=by
    intro n
    induction n with
    | zero=>intro i h;omega
    | succ n ih =>
     intro i hin vP hf;obtain⟨o,ho,_,_,_,xP,_⟩:=ok.each i vP;have hs:i<listed.size:=by rw[hI.size];exact Nat.lt_of_lt_of_le vP ok.le
     have:i∈Region.ready .any ops listed:=by
      rw[mem_ready];refine⟨by rw[xg hs];exact hf,o,ho,fun e he hb=>?_⟩;cases hb':listed.getD e.on false
      ·exact(ih e.on (by have:=xP e he hb;omega) (by have:=xP e he hb;omega) hb').elim
      ·rfl
     rw[h0]at this;cases this
   obtain⟨i,vP,hf⟩:=hex;exact key (i+1) i (by omega) vP hf
  ·obtain⟨hun,o,ho,hall⟩:=mem_ready.1 hi;have hio:i<ops.size:=(Array.getElem?_eq_some_iff.1 ho).1;have hs:i<listed.size:=by rw[hI.size];exact hio
   have hf:listed.getD i false=false:=by rw[← xg hs];exact hun
   by_cases vP:i<m
   ·obtain⟨o',ho',hgd,qf1,qiP,xP,qiQ⟩:=ok.each i vP;obtain rfl:o=o':=Option.some.inj (ho.symm.trans ho');unfold wpOp;simp only[ho];have hw:Region.wanted o (yielded ops a.tmps)=true:=by simp[Region.wanted,hgd]
    rw[if_pos hw]
    left
    have hρ:execOp a.eval o=execOp (valOf a0 ds vs) o:=by
     refine execOp_congr o qiP fun x hx=>?_;rw[hI.act];cases x with
     | tmp t =>
      cases hj:ds.idxOf? t with
      | none =>
       rw[ju hj];exact uJ _ _ t ds 0 a0 (by rw[List.idxOf?_eq_none_iff]at hj;exact hj)
      | some j =>
       rw[jv hj];have hdj:ds[j]?=some t:=by
        have:=List.of_findIdx?_eq_some (p:=(· == t)) (xs:=ds) (i:=j) (by simpa[List.idxOf?]using hj);cases hd:ds[j]? with
        | none=>simp[hd]at this
        | some d=>simp[hd]at this;rw[this]
       obtain⟨e,he,hb,rfl⟩:=xJ ho (qiQ t j hx hj);have:=wq (fun i=>listed.getD i false) vs t ds 0 e.on a0 ok.nodup hdj (by simpa using hall e he hb) (ok.small t (List.mem_of_getElem? hdj));simpa using this
     | const v=>simp only[valOf];rfl
     | global g=>simp only[valOf];rfl
     | func f=>simp only[valOf];rfl
    have hst:=step i o vs w vP ho hI.ext fun j hj=>by
     obtain⟨e,he,hb,rfl⟩:=xJ ho hj;exact hI.good e.on (by have:=xP e he hb;omega) (hall e he hb)
    rw[← hρ]at hst;refine gh hst fun v w' ⟨wa,hG⟩=>?_;have hdi:∃d,ds[i]?=some d:=⟨ds[i]'(by rw[ok.len];exact vP),List.getElem?_eq_getElem _⟩;obtain⟨d,hd⟩:=hdi;refine qcK ok mono step fin r (listed.setIfInBounds i true) (xy vs i v) (a.put o.dst v) w' ⟨?_,?_,?_,?_,?_,?_⟩ ?_
    ·simp[hI.size]
    ·intro j hj;rw[getD_set_ne false (by omega)];exact hI.tail j hj
    ·intro j oj hoj hl e he hb;by_cases gp:j=i
     ·subst gp;obtain rfl:o=oj:=Option.some.inj (ho.symm.trans hoj);exact getD_set_true (hall e he hb)
     ·rw[getD_set_ne false (Ne.symm gp)]at hl;exact getD_set_true (hI.closed j oj hoj hl e he hb)
    ·exact qcJ hI.ext wa
    ·intro j hj hl;by_cases gp:j=i
     ·subst gp;simpa[xy]using hG
     ·rw[getD_set_ne false (Ne.symm gp)]at hl;have:=mono j _ w w' hj (hI.good j hj hl) wa;simpa[xy,gp]using this
    ·rw[qf1,hd,hI.act];have:=uI (fun i=>listed.getD i false) vs i v ds 0 a0 d ok.nodup (Nat.zero_le _) (by simpa using hd) hf;rw[this,kI hs]
    ·have:=gj vP hs hf;omega
   ·exfalso;have hex:∃k,k<m∧listed.getD k false=false:=by
     apply Classical.byContradiction;intro hn;have:xp m listed=0:=by
      unfold xp;rw[List.countP_eq_zero];intro k hk;cases hb:listed.getD k false
      ·exact absurd ⟨k,List.mem_range.1 hk,hb⟩ hn
      ·simp
     omega
    rcases ok.tail i o (by omega) ho with⟨e,he,hb,hme⟩|quQ
    ·have h1:=hall e he hb;rw[hI.tail e.on hme]at h1;cases h1
    ·have key:∀n k,m-k≤n→k<m→listed.getD k false=true:=by
        intro n
        induction n with
        | zero=>intro k h1 h2;omega
        | succ n ih =>
         intro k h1 h2;rcases quQ k h2 with h|⟨k',vB,h⟩
         ·obtain⟨e,he,hb,rfl⟩:=xJ ho h;exact hall e he hb
         ·obtain⟨ok',qmw,_,_,_,xP,_⟩:=ok.each k' vB;obtain⟨e,he,hb,rfl⟩:=xJ qmw h;have hlt:=xP e he hb;exact hI.closed k' ok' qmw (ih k' (by omega) vB) e he hb
     obtain⟨k,hk,hkf⟩:=hex;rw[key m k (by omega) hk]at hkf;cases hkf
theorem vE:∀(ds:List Tmp) (k:Nat) (a:Act),qN (fun _=>false) (fun _=>undef) ds k a=a
 | [],_,_=>rfl
 | d::ds,k,a=>by simp only[qN,Bool.false_eq_true,if_false];exact vE ds (k+1) a
theorem gX {id:Nat}{a:Act}{w:World}(hm:P.follows .mixedOrders=true)(m:Nat)(ds:List Tmp)(jV:oA ops m ds a.tmps.size=true)(G:Nat→Value→World→Prop)
    (mono:∀i v w w',i<m→G i v w→Below w.heap.size w w'→G i v w')
    (step:∀i o vs w',i<m→ops[i]?=some o→Below w.heap.size w w'→(∀j,zN ops i j=true→G j (vs j) w') →
     km P (fun v w''=>Below w'.heap.size w' w''∧G i v w'') ((execOp (valOf a ds vs) o).run P w'))
    (fin:∀vs w',Below w.heap.size w w'→(∀i,i<m→G i (vs i) w')→wpAny P .any ops Q (ops.size-m) (xG ops.size m) (za vs ds a) w') :
    (Code.region id ops true).wp P Q a w:=by
 have ok:=qmu jV;have hd:Below w.heap.size w { w with drawn:=w.drawn+1 }:=⟨rfl,rfl,rfl,Nat.le_refl _,fun _ _=>rfl⟩;refine wp_region_any hm ?_;have h0:xp m (Array.replicate ops.size false)=m:=by
  have:=List.countP_eq_length (l:=List.range m) (p:=fun i=>!(Array.replicate ops.size false).getD i false) |>.2 fun i _=>by rw[xd];rfl
  unfold xp;rw[this,List.length_range]
 have ha:a=qN (fun i=>(Array.replicate ops.size false).getD i false) (fun _=>undef) ds 0 a:=by
  have:qN (fun i=>(Array.replicate ops.size false).getD i false) (fun _=>undef) ds 0 a=qN (fun _=>false) (fun _=>undef) ds 0 a:=ye _ _ _ _ ds 0 a fun j _ _=>⟨xd _ j,fun _=>rfl⟩;rw[this];exact(vE ds 0 a).symm
 have hI:qqz ops a w m ds G (Array.replicate ops.size false) (fun _=>undef) a { w with drawn:=w.drawn+1 }:={
  size:=by simp
  tail:=fun j _=>xd _ j
  closed:=fun i o _ h=>by rw[xd]at h;cases h
  ext:=hd
  good:=fun i _ h=>by rw[xd]at h;cases h
  act:=ha }
 have h1:=qcK (Q:=Q) ok mono step fin m _ _ a _ hI h0;have e:ops.size-m+m=ops.size:=Nat.sub_add_cancel ok.le;rw[e]at h1;exact h1
structure Reads(a:Act)(ds:List Tmp)(vs:Nat→Value)(ρ:Operand→Value):Prop where
 at_:∀t j,ds.idxOf? t=some j→ρ (.tmp t)=vs j
 out:∀t,ds.idxOf? t=none→ρ (.tmp t)=a.eval (.tmp t)
 const:∀v,ρ (.const v)=v
theorem eU {id:Nat}{a:Act}{w:World}(hm:P.follows .mixedOrders=true)(m:Nat)(ds:List Tmp)(jV:oA ops m ds a.tmps.size=true)(G:Nat→Value→World→Prop)
    (mono:∀i v w w',i<m→G i v w→Below w.heap.size w w'→G i v w')
    (step:∀i o vs ρ w',i<m→ops[i]?=some o→Reads a ds vs ρ→Below w.heap.size w w'→(∀j,zN ops i j=true→G j (vs j) w') →
     km P (fun v w''=>Below w'.heap.size w' w''∧G i v w'') ((execOp ρ o).run P w'))
    (fin:∀vs w',Below w.heap.size w w'→(∀i,i<m→G i (vs i) w')→wpAny P .any ops Q (ops.size-m) (xG ops.size m) (za vs ds a) w') :
    (Code.region id ops true).wp P Q a w :=
 gX hm m ds jV G mono (fun i o vs w' hi ho hb hG=>step i o vs (valOf a ds vs) w' hi ho ⟨fun _ _ h=>jv h,fun _ h=>ju h,fun _=>rfl⟩ hb hG) fin
theorem qL {md:Region.Mode}{i:Nat}{o:Oper}{fuel:Nat}{listed:Array Bool}{a:Act}{w:World}(hr:Region.ready md ops listed=[i])(ho:ops[i]?=some o)(hg:o.guard=none)
    (h:o.wp P a w (wpAny P md ops Q fuel (listed.setIfInBounds i true)) Q):wpAny P md ops Q (fuel+1) listed a w:=by
 refine wpAny_all hr (by simp) fun j hj=>?_;obtain rfl:j=i:=by simpa using hj
 unfold wpOp;simp only[ho];have hw:Region.wanted o (yielded ops a.tmps)=true:=by simp[Region.wanted,hg]
 rw[if_pos hw];exact .inl h
theorem yJ {o:Oper}{a:Act}{w w':World}{v:Value}{next:Act→World→Prop}(h:(execOp a.eval o).run P w=.ok (.value v) w')(hn:next (a.put o.dst v) w'):o.wp P a w next Q:=by
 unfold Oper.wp;rw[h];exact hn
theorem q9 {o:Oper}{ρ:Operand→Value}{w w':World}{v:Value}{K:Value→World→Prop}(h:(execOp ρ o).run P w=.ok (.value v) w')(hk:K v w'):km P K ((execOp ρ o).run P w):=by
 rw[h];exact hk
end
end Go.Proofs.YtdagdllomphidaaGreatDoor
namespace Go.Proofs.YtdagdllomphidaaGreatDoor
open _root_.Go.Proofs.Tryz Go Go.RowKit
section
variable {P:Program} {ops:Array Oper} {Q:Exit→Act→World→Prop}
def qbd (ops:Array Oper)(ds:List Tmp)(size:Nat):Bool :=
 decide (ds.length=ops.size)&&decide ds.Nodup&&ds.all (fun d=>decide (d<size)) &&
 (List.range ops.size).all (fun i=>match ops[i]? with
  | some o=>o.dst == ds[i]? && (match o.op with | .select .. => false|_=>true) &&
   o.after.all (fun e=>!Region.binds .any e || decide (e.on<i)) &&
   (match o.guard with|none=>true|some g=>zN ops i g.1) &&
   o.op.operands.toList.all (fun x=>match x with
    | .tmp t=>match ds.idxOf? t with
     | some j=>zN ops i j
     | none=>true
    | _=>true)
  | none=>false)
structure qmx(ops:Array Oper)(ds:List Tmp)(size:Nat):Prop where
 len:ds.length=ops.size
 nodup:ds.Nodup
 small:∀d∈ds,d<size
 each:∀i,i<ops.size→∃o,ops[i]?=some o∧o.dst=ds[i]? ∧ (∀cs b,o.op ≠ .select cs b)∧(∀e∈o.after,Region.binds .any e=true→e.on<i) ∧
  (∀j want,o.guard=some (j,want)→zN ops i j=true)∧(∀t j,Operand.tmp t∈o.op.operands→ds.idxOf? t=some j→zN ops i j=true)
theorem qiS{ds:List Tmp}{size:Nat}(h:qbd ops ds size=true):qmx ops ds size:=by
 unfold qbd at h;simp only[Bool.and_eq_true,decide_eq_true_eq,List.all_eq_true,List.mem_range]at h;obtain⟨⟨⟨h2,h3⟩,h4⟩,h5⟩:=h;refine⟨h2,h3,h4,fun i hi=>?_⟩;have h:=h5 i hi;cases ho:ops[i]? with
 | none=>simp[ho]at h
 | some o =>
  simp only[ho,Bool.and_eq_true]at h;obtain⟨⟨⟨⟨g2,g3⟩,g4⟩,g1⟩,g5⟩:=h;refine⟨o,rfl,by simpa using g2,fun cs b hs=>by simp[hs]at g3,fun e he hb=>?_,fun j want hg=>?_,fun t j ht hj=>?_⟩
  ·have:=Array.all_eq_true_iff_forall_mem.1 g4 e he;simpa[hb]using this
  ·simpa[hg]using g1
  ·have:=List.all_eq_true.1 g5 (.tmp t) (by simpa using ht);simpa[hj]using this
structure qmy(a:Act)(ds:List Tmp)(vs:Nat→Value)(ρ:Operand→Value):Prop where
 at_:∀t j,ds.idxOf? t=some j→ρ (.tmp t)=vs j
 out:∀t,ds.idxOf? t=none→ρ (.tmp t)=a.eval (.tmp t)
 const:∀v,ρ (.const v)=v
 fn:∀f,ρ (.func f)=a.eval (.func f)
structure q5b(ops:Array Oper)(a0:Act)(ds:List Tmp)(I:(Nat→Bool)→(Nat→Value)→World→Prop)(listed:Array Bool)(vs:Nat→Value)(a:Act)(w:World):Prop where
 size:listed.size=ops.size
 act:a=qN (fun i=>listed.getD i false) vs ds 0 a0
 inv:I (fun i=>listed.getD i false) vs w
variable {a0:Act} {ds:List Tmp} {I:(Nat→Bool)→(Nat→Value)→World→Prop}
theorem qq0{t:Tmp}{j:Nat}(hj:ds.idxOf? t=some j):ds[j]?=some t:=by
 have:=List.of_findIdx?_eq_some (p:=(· == t)) (xs:=ds) (i:=j) (by simpa[List.idxOf?]using hj);cases hd:ds[j]? with
 | none=>simp[hd]at this
 | some d=>simp[hd]at this;rw[this]
theorem qmz(ok:qmx ops ds a0.tmps.size)
    (step:∀i o L vs ρ w,ops[i]?=some o→L i=false→(∀j,zN ops i j=true→L j=true)→qmy a0 ds vs ρ→(∀j want,o.guard=some (j,want)→vs j=.bool want)→I L vs w →
     km P (fun v w'=>I (zu L i) (xy vs i v) w') ((execOp ρ o).run P w))
    (skip:∀i o L vs w j want,ops[i]?=some o→L i=false→(∀j,zN ops i j=true→L j=true)→o.guard=some (j,want)→vs j ≠ .bool want→I L vs w→I (zu L i) (xy vs i undef) w)
    (fin:∀vs w',I (fun j=>decide (j<ops.size)) vs w'→Q .normal (za vs ds a0) w') :
    ∀(r:Nat) (listed:Array Bool) (vs:Nat→Value) (a:Act) (w:World),q5b ops a0 ds I listed vs a w→xp ops.size listed=r→wpAny P .any ops Q r listed a w
 | 0,listed,vs,a,w,hI,hr=>by
  have hall:=dT hr;have hn:Region.ready .any ops listed=[]:=by
   apply List.eq_nil_iff_forall_not_mem.2;intro i hi;obtain⟨hun,o,ho,_⟩:=mem_ready.1 hi;have hio:i<ops.size:=(Array.getElem?_eq_some_iff.1 ho).1;have:=hall i hio;rw[xg (by rw[hI.size];exact hio)]at hun;rw[this]at hun;cases hun
  have ha:a=za vs ds a0:=by
   rw[hI.act];exact ye _ _ _ _ ds 0 a0 fun j _ hj=>⟨hall j (by rw[← ok.len];omega),fun _=>rfl⟩
  have hL:(fun i=>listed.getD i false)=fun j=>decide (j<ops.size):=by
   funext j
   by_cases hj:j<ops.size
   ·rw[hall j hj,decide_eq_true hj]
   ·rw[decide_eq_false hj];simp[Array.getD,hI.size,hj]
  rw[ha];have h2:=hI.inv;rw[hL]at h2;exact wpAny_done hn (fin vs w h2) 0
 | r+1,listed,vs,a,w,hI,hr=>by
  refine⟨fun h0=>?_,fun i hi=>?_⟩
  ·exfalso;have hex:∃i,i<ops.size∧listed.getD i false=false:=by
    apply Classical.byContradiction;intro hn;have:xp ops.size listed=0:=by
     unfold xp;rw[List.countP_eq_zero];intro i hi;have hi':=List.mem_range.1 hi;cases hb:listed.getD i false
     ·exact absurd ⟨i,hi',hb⟩ hn
     ·simp
    omega
   have key:∀n i,i<n→i<ops.size→listed.getD i false=false→False:=by
    intro n
    induction n with
    | zero=>intro i h;omega
    | succ n ih =>
     intro i hin vP hf;obtain⟨o,ho,_,_,xP,_⟩:=ok.each i vP;have hs:i<listed.size:=by rw[hI.size];exact vP
     have:i∈Region.ready .any ops listed:=by
      rw[mem_ready];refine⟨by rw[xg hs];exact hf,o,ho,fun e he hb=>?_⟩;cases hb':listed.getD e.on false
      ·exact(ih e.on (by have:=xP e he hb;omega) (by have:=xP e he hb;omega) hb').elim
      ·rfl
     rw[h0]at this;cases this
   obtain⟨i,vP,hf⟩:=hex;exact key (i+1) i (by omega) vP hf
  ·obtain⟨hun,o,ho,hall⟩:=mem_ready.1 hi;have vP:i<ops.size:=(Array.getElem?_eq_some_iff.1 ho).1;have hs:i<listed.size:=by rw[hI.size];exact vP
   have hf:listed.getD i false=false:=by rw[← xg hs];exact hun
   obtain⟨o',ho',qf1,qiP,xP,q5c,qiQ⟩:=ok.each i vP;obtain rfl:o=o':=Option.some.inj (ho.symm.trans ho');have hdi:∃d,ds[i]?=some d:=⟨ds[i]'(by rw[ok.len];exact vP),List.getElem?_eq_getElem _⟩;obtain⟨d,hd⟩:=hdi;have qK:∀j,zN ops i j=true→listed.getD j false=true:=fun j hj=>by
    obtain⟨e,he,hb,rfl⟩:=xJ ho hj;exact hall e he hb
   have qto:∀t j,ds[j]?=some t→listed.getD j false=true→a.eval (.tmp t)=vs j:=fun t j hdj hl=>by
    rw[hI.act];have:=wq (fun i=>listed.getD i false) vs t ds 0 j a0 ok.nodup hdj (by simpa using hl) (ok.small t (List.mem_of_getElem? hdj));simpa using this
   have qtp:∀v w',I (zu (fun i=>listed.getD i false) i) (xy vs i v) w'→wpAny P .any ops Q r (listed.setIfInBounds i true) (a.put o.dst v) w':=by
    intro v w' h;refine qmz ok step skip fin r (listed.setIfInBounds i true) (xy vs i v) (a.put o.dst v) w' ⟨by simp[hI.size],?_,?_⟩ ?_
    ·rw[qf1,hd,hI.act];have:=uI (fun i=>listed.getD i false) vs i v ds 0 a0 d ok.nodup (Nat.zero_le _) (by simpa using hd) hf;rw[this,kI hs]
    ·rw[← kI hs];exact h
    ·have:=gj vP hs hf;omega
   have qm0:∀j want,o.guard=some (j,want)→yielded ops a.tmps j=(match vs j with | .bool b=>some b|_=>none):=by
    intro j want hg;have hj:=q5c j want hg;obtain⟨e,he,hb,tT⟩:=xJ ho hj;have gp:j<i:=by rw[← tT];exact xP e he hb
    obtain⟨oj,hoj,hdj,_⟩:=ok.each j (by omega);have quR:ds[j]?=some (ds[j]'(by rw[ok.len];omega)):=List.getElem?_eq_getElem _;generalize ds[j]'(by rw[ok.len];omega)=t at quR;have hr:=qto t j quR (qK j hj);unfold yielded;rw[hoj];simp only[Option.bind_some,hdj,quR];have he:a.eval (.tmp t)=a.tmps.getD t undef:=rfl;rw[he]at hr;cases hx:a.tmps[t]? with
    | none =>
     have:a.tmps.getD t undef=undef:=by simp[Array.getD_eq_getD_getElem?,hx]
     rw[← hr,this];rfl
    | some x =>
     have:a.tmps.getD t undef=x:=by simp[Array.getD_eq_getD_getElem?,hx]
     rw[← hr,this];cases x <;> rfl
   unfold wpOp;simp only[ho];by_cases hw:Region.wanted o (yielded ops a.tmps)=true
   ·rw[if_pos hw]
    left
    have hρ:execOp a.eval o=execOp (valOf a0 ds vs) o:=by
     refine execOp_congr o qiP fun x hx=>?_;cases x with
     | tmp t =>
      cases hj:ds.idxOf? t with
      | none =>
       rw[ju hj,hI.act];exact uJ _ _ t ds 0 a0 (by rw[List.idxOf?_eq_none_iff]at hj;exact hj)
      | some j =>
       rw[jv hj];exact qto t j (qq0 hj) (qK j (qiQ t j hx hj))
     | const v=>simp only[valOf];rfl
     | global g=>simp only[valOf];rfl
     | func f=>simp only[valOf];rfl
    have hst:=step i o (fun i=>listed.getD i false) vs (valOf a0 ds vs) w ho hf qK ⟨fun _ _ h=>jv h,fun _ h=>ju h,fun _=>rfl,fun _=>rfl⟩ (fun j want hg=>by
     have hy:=qm0 j want hg;unfold Region.wanted at hw;rw[hg]at hw;simp only[hy]at hw;cases hv:vs j <;> rw[hv]at hw <;> simp at hw;rw[hw]) hI.inv
    rw[← hρ]at hst;exact gh hst fun v w' h=>qtp v w' h
   ·rw[if_neg hw];cases hg:o.guard with
    | none=>exact absurd (by simp[Region.wanted,hg]) hw
    | some g =>
     obtain⟨j,want⟩:=g;refine qtp undef w (skip i o _ vs w j want ho hf qK hg (fun hv=>hw ?_) hI.inv);have hy:=qm0 j want hg;unfold Region.wanted;rw[hg];simp only[hy,hv];simp
theorem jg {id:Nat}{a:Act}{w:World}(hm:P.follows .mixedOrders=true)(ds:List Tmp)(jV:qbd ops ds a.tmps.size=true)(I:(Nat→Bool)→(Nat→Value)→World→Prop)
    (start:I (fun _=>false) (fun _=>undef) w.drew)
    (step:∀i o L vs ρ w,ops[i]?=some o→L i=false→(∀j,zN ops i j=true→L j=true)→qmy a ds vs ρ→(∀j want,o.guard=some (j,want)→vs j=.bool want)→I L vs w →
     km P (fun v w'=>I (zu L i) (xy vs i v) w') ((execOp ρ o).run P w))
    (skip:∀i o L vs w j want,ops[i]?=some o→L i=false→(∀j,zN ops i j=true→L j=true)→o.guard=some (j,want)→vs j ≠ .bool want→I L vs w→I (zu L i) (xy vs i undef) w)
    (fin:∀vs w',I (fun j=>decide (j<ops.size)) vs w'→Q .normal (za vs ds a) w') :
    (Code.region id ops true).wp P Q a w:=by
 have ok:=qiS jV;refine wp_region_any hm ?_;have h0:xp ops.size (Array.replicate ops.size false)=ops.size:=by
  have:=List.countP_eq_length (l:=List.range ops.size) (p:=fun i=>!(Array.replicate ops.size false).getD i false) |>.2 fun i _=>by rw[xd];rfl
  unfold xp;rw[this,List.length_range]
 have hf:(fun i=>(Array.replicate ops.size false).getD i false)=fun _=>false:=by
  funext i
  exact xd _ i
 refine qmz ok step skip fin ops.size (Array.replicate ops.size false) (fun _=>undef) a _ ⟨by simp,?_,?_⟩ h0
 ·rw[hf];exact(vE ds 0 a).symm
 ·rw[hf];exact start
end
theorem bL (L:Nat→Bool)(vs:Nat→Value):∀(ds:List Tmp) (k:Nat) (a:Act),(qN L vs ds k a).defers=a.defers
 | [],_,_=>rfl
 | d::ds,k,a=>by
  simp only[qN];rw[bL L vs ds];split <;> rfl
theorem bM {P:Program}{fn:Func}{R:Ending→World→Prop}{a:Act}{ds:List Tmp}{vs:Nat→Value}{w:World}{t:Tmp}{v:Value}(j:Nat)(hres:fn.results = #[.tmp t])
    (hB:(decide ds.Nodup&&decide (ds[j]?=some t))=true) (hs:decide (t<a.tmps.size)=true) (hd:a.defers=[]) (hv:vs j=v) (hR:R (.returned v) w):bodyPost P fn R .ret (za vs ds a) w:=by
 simp only[Bool.and_eq_true,decide_eq_true_eq]at hB hs;refine bodyPost_ret (v:=v) ?_ ((bL _ _ _ _ _).trans hd) hR;rw[results_tmp hres]
 congr 1
 have:=wq (fun _=>true) vs t ds 0 j a hB.1 hB.2 rfl hs;rw[Nat.zero_add,hv]at this;exact this
end Go.Proofs.YtdagdllomphidaaGreatDoor
namespace Go.Proofs.YtdagdllomphidaaGreatDoor
open _root_.Go.Proofs.Tryz Go Go.RowKit
theorem qj {P:Program}{o:Oper}{ρ:Operand→Value}{w w':World}{f:FuncId}{args:Array Value}{K:Value→World→Prop}(h:(execOp ρ o).run P w=.ok (.enter f args) w')(hk:Calls P f args w' fun e w''=>∃v,e=.returned v∧K v w''):km P K ((execOp ρ o).run P w):=by
 rw[h];exact hk
theorem qQ {P:Program}{ops:Array Oper}{Q:Exit→Act→World→Prop}{id:Nat}{a:Act}{w:World}(hm:P.follows .mixedOrders=true)(m:Nat)(ds:List Tmp)(jV:oA ops m ds a.tmps.size=true)(G:Nat→Value→World→Prop)
    (mono:∀i v w w',i<m→G i v w→Below w.heap.size w w'→G i v w')
    (step:∀i o vs ρ w',i<m→ops[i]?=some o→Reads a ds vs ρ→(∀f,ρ (.func f)=a.eval (.func f))→Below w.heap.size w w'→(∀j,zN ops i j=true→G j (vs j) w') →
     km P (fun v w''=>Below w'.heap.size w' w''∧G i v w'') ((execOp ρ o).run P w'))
    (fin:∀vs w',Below w.heap.size w w'→(∀i,i<m→G i (vs i) w')→wpAny P .any ops Q (ops.size-m) (xG ops.size m) (za vs ds a) w') :
    (Code.region id ops true).wp P Q a w :=
 gX hm m ds jV G mono (fun i o vs w' hi ho hb hG=>step i o vs (valOf a ds vs) w' hi ho ⟨fun _ _ h=>jv h,fun _ h=>ju h,fun _=>rfl⟩ (fun _=>rfl) hb hG) fin
end Go.Proofs.YtdagdllomphidaaGreatDoor
namespace Go.Proofs.YtdagdllomphidaaGreatDoor.mt.pg
open _root_.Go.Proofs.Tryz Go Go.RowKit ib wi mt
def gY (g0 g1 a1 a2 b1 b2:Nat)(x y z:Int):Nat→Value→World→Prop
 | 0,v,_=>v=.pointer (some ⟨g0,0,none⟩)
 | 1,v,_=>v=.int .u64 (a1:Int)
 | 2,v,_=>v=.pointer (some ⟨g1,0,none⟩)
 | 3,v,_=>v=.int .u64 (b1:Int)
 | 4,v,_=>v=.int .i64 (x)
 | 5,v,_=>v=.pointer (some ⟨g0,1,none⟩)
 | 6,v,_=>v=.int .u64 (a2:Int)
 | 7,v,_=>v=.pointer (some ⟨g1,1,none⟩)
 | 8,v,_=>v=.int .u64 (b2:Int)
 | 9,v,_=>v=.int .i64 (y)
 | 10,v,W=>∃B,v=.slice (some ⟨B,0,none⟩) 2 2∧qM W (some ⟨B,0,none⟩) [x,y]
 | 11,v,_=>v=.int .i64 z
 | 12,v,_=>v=.bool (decide (0<z))
 | 13,v,_=>v=.bool (decide (0<z))
 | _,_,_=>True
theorem qcL(g0 g1 a1 a2 b1 b2:Nat)(x y z:Int)(i:Nat)(v:Value)(w w':World)(hi:i<14)(h:gY g0 g1 a1 a2 b1 b2 x y z i v w)(hb:Below w.heap.size w w'):gY g0 g1 a1 a2 b1 b2 x y z i v w':=by
 match i,hi,h with
 | 0,_,h | 1,_,h | 2,_,h | 3,_,h | 4,_,h | 5,_,h | 6,_,h | 7,_,h | 8,_,h | 9,_,h | 11,_,h | 12,_,h | 13,_,h=>exact h
 | 10,_,⟨B,hv,h2⟩=>exact⟨B,hv,h2.below hb⟩
 | j+14,hi,_=>exact absurd hi (by omega)
theorem eV (a b:Nat):qG (jt a b):=by unfold jt qG;split <;> (try split) <;> omega
theorem aY (a b:Gd)(w:World):Calls prog 95 #[gv a,gv b] w (dP (above a b) w):=by
 have HR:Hid (decide (0<(if jt a.1 b.1≠0 then jt a.1 b.1 else jt a.2 b.2))=above a b):=(tS a b).symm;obtain⟨r,hr⟩:=QE (above a b);rw[hr]at HR ⊢;clear hr;obtain⟨a1,a2⟩:=a;obtain⟨b1,b2⟩:=b;dsimp only at HR;show Calls prog 95 #[.agg #[.int .u64 (a1:Int),.int .u64 (a2:Int)],.agg #[.int .u64 (b1:Int),.int .u64 (b2:Int)]] w _;have HC1:Hid (∀W,Calls prog 152 #[.int .u64 (a1:Int),.int .u64 (b1:Int)] W (same (.int .i64 (jt a1 b1)) W)):=fun W=>nI a1 b1 W;have HC2:Hid (∀W,Calls prog 152 #[.int .u64 (a2:Int),.int .u64 (b2:Int)] W (same (.int .i64 (jt a2 b2)) W)):=fun W=>nI a2 b2 W;have hz:∀z∈[jt a1 b1,jt a2 b2],qG z:=by
  intro z hz;simp only[List.mem_cons,List.not_mem_nil,or_false]at hz;rcases hz with rfl|rfl
  ·exact eV _ _
  ·exact eV _ _
 generalize jt a1 b1=x at *;generalize jt a2 b2=y at *;have HC3:Hid (∀W B,qM W (some ⟨B,0,none⟩) [x,y]→Calls prog 151 #[.slice (some ⟨B,0,none⟩) 2 2] W (same (.int .i64 (if x≠0 then x else y)) W)):=fun W B h=>qmt ⟨B,0,none⟩ 2 x y W h;generalize (if x≠0 then x else y)=z at *;have hb1:=(Below.refl w.heap.size w).alloc (Nat.le_refl _) (.cells #[.int .u64 (a1:Int),.int .u64 (a2:Int)] 55);have ha1:=qg.new w 55 #[.int .u64 (a1:Int),.int .u64 (a2:Int)];obtain⟨W1,hW1⟩:=QE (w.alloc (.cells #[.int .u64 (a1:Int),.int .u64 (a2:Int)] 55));rw[hW1]at hb1 ha1;have hbb:=(Below.refl _ W1).alloc (Nat.le_refl _) (.cells #[.int .u64 (b1:Int),.int .u64 (b2:Int)] 55);have HB:=QH (qc hb1 hbb);have yw:=QH (ha1.below hbb);have xz:=QH (qg.new W1 55 #[.int .u64 (b1:Int),.int .u64 (b2:Int)]);obtain⟨w0,hw0⟩:=QE (W1.alloc (.cells #[.int .u64 (b1:Int),.int .u64 (b2:Int)] 55));rw[hw0]at HB yw xz;obtain⟨g0,hg0⟩:=QE w.heap.size;obtain⟨g1,hg1⟩:=QE W1.heap.size;clear hb1 ha1 hbb;have HZ:=QH hz;clear hz;go_enter func95,ntmps95;go_wp2_with fail;try rw[hw0]
 try rw[hg0]
 try rw[hg1]
 rw[hg0]at yw;rw[hg1]at xz;clear hw0 hW1;have hz:=HZ.out;refine jg (by kernel_rfl) [5,6,7,8,9,10,11,12,13,14,15,16,17,4] (by kernel_rfl) (fun L vs W=>Below w0.heap.size w0 W∧∀i,L i=true→i<14→gY g0 g1 a1 a2 b1 b2 x y z i (vs i) W) ⟨(Below.refl _ _).drew,fun i hi=>by cases hi⟩ ?_ ?_ ?_
 ·intro i o L vs ρ W ho oy qK hρ hgd hI;obtain⟨hb,bN⟩:=hI;have hG:∀j,L j=true→gY g0 g1 a1 a2 b1 b2 x y z j (vs j) W:=fun j hj=>by
   by_cases h51:j<14
   ·exact bN j hj h51
   ·match j,h51 with
    | j+14,_=>exact trivial
  have quS:i<14:=(Array.getElem?_eq_some_iff.1 ho).1;have hc:=hρ.const;have hfn:=hρ.fn;have next:∀v W',Below W.heap.size W W'→gY g0 g1 a1 a2 b1 b2 x y z i v W'→Below w0.heap.size w0 W'∧∀j,zu L i j=true→j<14→gY g0 g1 a1 a2 b1 b2 x y z j (xy vs i v j) W':=fun v W' h1 h2=>by
   refine⟨qc hb h1,fun j hj h51=>?_⟩;by_cases gp:j=i
   ·subst gp;simpa[xy]using h2
   ·simp only[zu,if_neg gp]at hj;simpa[xy,gp]using qcL g0 g1 a1 a2 b1 b2 x y z j _ W W' h51 (bN j hj h51) h1
  have hA:=yw.out.below hb;have hB:=xz.out.below hb;have hlt:=hA.lt;have q5e:=hB.lt;have c0:=hA.cell 0;have c1:=hA.cell 1;have d0:=hB.cell 0;have d1:=hB.cell 1;simp only[QA,QB,QC]at c0 c1 d0 d1;rcases i with _|_|_|_|_|_|_|_|_|_|_|_|_|_|i;all_goals (first|omega|skip)
  all_goals simp only[QA,QB,QC,Option.some.injEq]at ho
  all_goals subst ho
  ·have o2:ρ (.tmp 2)=.pointer (some ⟨g0,0,none⟩):=hρ.out 2 rfl;exact q9 (w':=W) (by unfold execOp;simp only[o2,hc];go_simp) (next _ _ (Below.refl _ _) rfl)
  ·have g5:gY g0 g1 a1 a2 b1 b2 x y z 0 (vs 0) W:=hG 0 (qK 0 (by kernel_rfl));have s5:ρ (.tmp 5)=.pointer (some ⟨g0,0,none⟩):=(hρ.at_ 5 0 rfl).trans g5;exact q9 (w':=W) (by unfold execOp;simp only[s5,hc];go_simp) (next _ _ (Below.refl _ _) rfl)
  ·have o3:ρ (.tmp 3)=.pointer (some ⟨g1,0,none⟩):=hρ.out 3 rfl;exact q9 (w':=W) (by unfold execOp;simp only[o3,hc];go_simp) (next _ _ (Below.refl _ _) rfl)
  ·have g7:gY g0 g1 a1 a2 b1 b2 x y z 2 (vs 2) W:=hG 2 (qK 2 (by kernel_rfl));have s7:ρ (.tmp 7)=.pointer (some ⟨g1,0,none⟩):=(hρ.at_ 7 2 rfl).trans g7;exact q9 (w':=W) (by unfold execOp;simp only[s7,hc];go_simp) (next _ _ (Below.refl _ _) rfl)
  ·have g6:gY g0 g1 a1 a2 b1 b2 x y z 1 (vs 1) W:=hG 1 (qK 1 (by kernel_rfl));have s6:ρ (.tmp 6)=.int .u64 (a1:Int):=(hρ.at_ 6 1 rfl).trans g6;have g8:gY g0 g1 a1 a2 b1 b2 x y z 3 (vs 3) W:=hG 3 (qK 3 (by kernel_rfl));have s8:ρ (.tmp 8)=.int .u64 (b1:Int):=(hρ.at_ 8 3 rfl).trans g8;refine qj (f:=152) (args:=#[.int .u64 (a1:Int),.int .u64 (b1:Int)]) (w':=W) (by unfold execOp;simp only[hfn,s6,s8];go_simp) ((HC1.out W).mono ?_);rintro x W' ⟨rfl,rfl⟩;exact⟨_,rfl,next _ _ (Below.refl _ _) rfl⟩
  ·have o2:ρ (.tmp 2)=.pointer (some ⟨g0,0,none⟩):=hρ.out 2 rfl;exact q9 (w':=W) (by unfold execOp;simp only[o2,hc];go_simp) (next _ _ (Below.refl _ _) rfl)
  ·have g10:gY g0 g1 a1 a2 b1 b2 x y z 5 (vs 5) W:=hG 5 (qK 5 (by kernel_rfl));have s10:ρ (.tmp 10)=.pointer (some ⟨g0,1,none⟩):=(hρ.at_ 10 5 rfl).trans g10;exact q9 (w':=W) (by unfold execOp;simp only[s10,hc];go_simp) (next _ _ (Below.refl _ _) rfl)
  ·have o3:ρ (.tmp 3)=.pointer (some ⟨g1,0,none⟩):=hρ.out 3 rfl;exact q9 (w':=W) (by unfold execOp;simp only[o3,hc];go_simp) (next _ _ (Below.refl _ _) rfl)
  ·have g12:gY g0 g1 a1 a2 b1 b2 x y z 7 (vs 7) W:=hG 7 (qK 7 (by kernel_rfl));have s12:ρ (.tmp 12)=.pointer (some ⟨g1,1,none⟩):=(hρ.at_ 12 7 rfl).trans g12;exact q9 (w':=W) (by unfold execOp;simp only[s12,hc];go_simp) (next _ _ (Below.refl _ _) rfl)
  ·have g11:gY g0 g1 a1 a2 b1 b2 x y z 6 (vs 6) W:=hG 6 (qK 6 (by kernel_rfl));have tU:ρ (.tmp 11)=.int .u64 (a2:Int):=(hρ.at_ 11 6 rfl).trans g11;have g13:gY g0 g1 a1 a2 b1 b2 x y z 8 (vs 8) W:=hG 8 (qK 8 (by kernel_rfl));have s13:ρ (.tmp 13)=.int .u64 (b2:Int):=(hρ.at_ 13 8 rfl).trans g13;refine qj (f:=152) (args:=#[.int .u64 (a2:Int),.int .u64 (b2:Int)]) (w':=W) (by unfold execOp;simp only[hfn,tU,s13];go_simp) ((HC2.out W).mono ?_);rintro x W' ⟨rfl,rfl⟩;exact⟨_,rfl,next _ _ (Below.refl _ _) rfl⟩
  ·have g9:gY g0 g1 a1 a2 b1 b2 x y z 4 (vs 4) W:=hG 4 (qK 4 (by kernel_rfl));have s9:ρ (.tmp 9)=.int .i64 (x):=(hρ.at_ 9 4 rfl).trans g9;have g14:gY g0 g1 a1 a2 b1 b2 x y z 9 (vs 9) W:=hG 9 (qK 9 (by kernel_rfl));have s14:ρ (.tmp 14)=.int .i64 (y):=(hρ.at_ 14 9 rfl).trans g14;exact q9 (v:=.slice (some ⟨W.heap.size,0,none⟩) 2 2) (w':=W.alloc (.cells (qi [x,y]) 3)) (by unfold execOp;simp only[s9,s14,qi];go_simp) (next _ _ ((Below.refl _ W).alloc (Nat.le_refl _) _) ⟨W.heap.size,rfl,dO W _ hz⟩)
  ·obtain⟨B15,g15,qm1⟩:gY g0 g1 a1 a2 b1 b2 x y z 10 (vs 10) W:=hG 10 (qK 10 (by kernel_rfl));have s15:ρ (.tmp 15)=.slice (some ⟨B15,0,none⟩) 2 2:=(hρ.at_ 15 10 rfl).trans g15;refine qj (f:=151) (args:=#[.slice (some ⟨B15,0,none⟩) 2 2]) (w':=W) (by unfold execOp;simp only[hfn,s15];go_simp) ((HC3.out W B15 qm1).mono ?_);rintro x W' ⟨rfl,rfl⟩;exact⟨_,rfl,next _ _ (Below.refl _ _) rfl⟩
  ·have g16:gY g0 g1 a1 a2 b1 b2 x y z 11 (vs 11) W:=hG 11 (qK 11 (by kernel_rfl));have s16:ρ (.tmp 16)=.int .i64 z:=(hρ.at_ 16 11 rfl).trans g16;exact q9 (w':=W) (by unfold execOp;simp only[s16,hc];go_simp) (next _ _ (Below.refl _ _) rfl)
  ·have g17:gY g0 g1 a1 a2 b1 b2 x y z 12 (vs 12) W:=hG 12 (qK 12 (by kernel_rfl));have s17:ρ (.tmp 17)=.bool (decide (0<z)):=(hρ.at_ 17 12 rfl).trans g17;exact q9 (w':=W) (by unfold execOp;simp only[s17,hc];go_simp) (next _ _ (Below.refl _ _) rfl)
 ·intro i o L vs W j want ho oy qK hg hv hI;obtain⟨hb,bN⟩:=hI;have hG:∀j,L j=true→gY g0 g1 a1 a2 b1 b2 x y z j (vs j) W:=fun j hj=>by
   by_cases h51:j<14
   ·exact bN j hj h51
   ·match j,h51 with
    | j+14,_=>exact trivial
  have quS:i<14:=(Array.getElem?_eq_some_iff.1 ho).1;rcases i with _|_|_|_|_|_|_|_|_|_|_|_|_|_|i;all_goals (first|omega|skip)
  all_goals simp only[QA,QB,QC,Option.some.injEq]at ho
  all_goals subst ho
  all_goals simp only[reduceCtorEq,Option.some.injEq,Prod.mk.injEq]at hg
 ·intro vs W hI;have g7:vs 13=.bool (decide (0<z)):=hI.2 13 (by decide) (by decide);have hbW:=QH (qc HB.out hI.1);clear hI;go_wp2_with fail;refine bM 13 rfl (by decide +kernel) (by kernel_rfl) rfl g7 ⟨by rw[HR.out],hbW.out⟩
end Go.Proofs.YtdagdllomphidaaGreatDoor.mt.pg
namespace Go.Proofs.YtdagdllomphidaaGreatDoor.im
open _root_.Go.Proofs.Tryz Go Go.RowKit ib
def dA (l:List Int)(f k:Nat):List Int:=(List.range 8).map fun j=>if j<k then pl l (f+j)else 0
def eE (l:List Int)(f:Nat):List Int:=dA l f 8
theorem qcN(l:List Int)(f k:Nat):(dA l f k).length=8:=by simp[dA]
theorem aZ (l:List Int)(f:Nat):(eE l f).length=8:=qcN l f 8
theorem qiT(l:List Int)(f:Nat):dA l f 0=List.replicate 8 0:=by
 apply List.ext_getElem
 ·simp[dA]
 ·intro i h1 h2;rw[List.getElem_replicate];simp only[dA,List.getElem_map,Nat.not_lt_zero,if_false]
theorem qm2(l:List Int)(f k:Nat):(dA l f k).set k (pl l (f+k))=dA l f (k+1):=by
 apply List.ext_getElem
 ·simp[dA]
 ·intro i h1 h2;rw[List.getElem_set];by_cases h:k=i
  ·subst h;simp[dA]
  ·rw[if_neg h];simp only[dA,List.getElem_map,List.getElem_range];by_cases h3:i<k
   ·rw[if_pos h3,if_pos (by omega)]
   ·rw[if_neg h3,if_neg (by omega)]
theorem qm3{l:List Int}{f k:Nat}(h:l.length≤f+k):dA l f (k+1)=dA l f k:=by
 apply List.ext_getElem
 ·simp[dA]
 ·intro i h1 h2;simp only[dA,List.getElem_map,List.getElem_range];by_cases h3:i<k
  ·rw[if_pos h3,if_pos (by omega)]
  ·by_cases h4:i=k
   ·rw[if_neg h3,if_pos (by omega),iN (by omega)]
   ·rw[if_neg h3,if_neg (by omega)]
theorem nJ (l:List Int)(f k:Nat)(h:k<(eE l f).length):(eE l f)[k]=pl l (f+k):=by
 have h8:k<8:=by rw[aZ]at h;exact h
 simp only[eE,dA,List.getElem_map,List.getElem_range,if_pos h8]
theorem qm4{l:List Int}(h:∀z∈l,qG z)(i:Nat):qG (pl l i):=by
 by_cases hi:i<l.length
 ·rw[eK hi];exact h _ (List.getElem_mem hi)
 ·rw[iN (by omega)];unfold qG;omega
theorem qiU{l:List Int}(h:∀z∈l,qG z)(f:Nat):∀z∈eE l f,qG z:=by
 intro z hz;obtain⟨i,hi,rfl⟩:=List.getElem_of_mem hz;rw[nJ];exact qm4 h _
theorem qhB:(prog.info? 219).map (·.size)=some 8:=by kernel_rfl
theorem qf2(V:List Int):(qi V).all (·.oneCell')=true:=by
 rw[Array.all_eq_true'];intro u hu;simp only[qi,List.mem_toArray,List.mem_map]at hu;obtain⟨z,_,rfl⟩:=hu;rfl
theorem eW {w:World}{g:Nat}{V:List Int}(h:qg w g 219 (qi V))(hl:V.length=8):(loadVar 219 ⟨g,0,none⟩).run prog w=.ok (.agg (qi V)) w :=
 run_loadVar_row w g 219 219 _ (0,0) _ h underlying219 rfl (by rw[kH,hl];exact qhB)
theorem vQ {ρ:Operand→Value}{o:Oper}{w:World}{g:Nat}{V:List Int}(x:Operand)(ho:o.op=.load 219 x)(hx:ρ x=.pointer (some ⟨g,0,none⟩))(h:qg w g 219 (qi V))(hl:V.length=8) :
    (execOp ρ o).run prog w=.ok (.value (.agg (qi V))) w:=by
 simp only[execOp,ho,hx,Instr.loadAt,Instr.sureAddr,Sem.run_bind,Sem.run_pure,Result.andThen_ok,eW h hl]
theorem dU {ρ:Operand→Value}{o:Oper}{w:World}{g:Nat}{V U:List Int}(x y:Operand)(ho:o.op=.store 219 x y)(hx:ρ x=.pointer (some ⟨g,0,none⟩))(hy:ρ y=.agg (qi U))(h:qg w g 219 (qi V))(hl:V.length=8)(hu:U.length=8) :
    (execOp ρ o).run prog w=.ok .skip (w.setRow g (qi U)):=by
 simp only[execOp,ho,hx,hy,Instr.storeAt,Instr.sureAddr,Sem.run_bind,Sem.run_pure,Result.andThen_ok,run_storeVar_row w g 219 219 _ _ h (by rw[kH,hu];exact qhB) (by rw[kH,kH,hl,hu]) (qf2 U)]
theorem tV {w:World}{g:Nat}{t:TypeId}{c c':Array Value}(h:qg w g t c):qg (w.setRow g c') g t c':=by
 unfold qg at *;simp[World.setRow,Array.getElem?_modify,h]
theorem setRow_other(w:World){g k:Nat}(c:Array Value)(h:k≠g):(w.setRow g c).heap[k]?=w.heap[k]? :=by
 have h':¬ g=k:=fun e=>h e.symm;simp[World.setRow,Array.getElem?_modify,h']
theorem setRow_size(w:World)(g:Nat)(c:Array Value):(w.setRow g c).heap.size=w.heap.size:=by simp[World.setRow]
theorem gq {B:Nat}{w w':World}(h:Below B w w'){g:Nat}(c:Array Value)(hg:B≤g):Below B w (w'.setRow g c) :=
 ⟨h.os,h.tape,h.output,by rw[setRow_size];exact h.size,fun k hk=>by rw[setRow_other _ _ (by omega)];exact h.block k hk⟩
def q5f (V:List Int)(w:World)(e:Ending)(w':World):Prop:=e=.returned (.agg (qi V))∧Below w.heap.size w w'
def quV (l:List Int)(f b:Nat)(w:World)(i:Value)(wr:World):Prop :=
 ∃k:Nat,k≤8∧i=.int .i64 (k:Int)∧qg wr b 219 (qi (dA l f k))∧qg wr w.heap.size 219 (qi (List.replicate 8 0))∧Below w.heap.size w wr
theorem zy {fn:Func}{p:Tmp}{ty:TypeId}(h:fn.results = #[.cell p ty])(tmps:Array Value)(P:Program)(w:World)(a:Addr)(v1:Value)
    (hp:tmps.getD p undef=.pointer (some a)) (h1:(loadVar ty a).run P w=.ok v1 w):(results fn tmps).run P w=.ok v1 w:=by
 simp only[results,h];simp only[Array.getD_eq_getD_getElem?]at hp;simp[Sem.run_bind,Result.andThen,asAddr,hp,h1]
theorem qbe(A:Option Addr)(c:Nat)(l:List Int)(f:Nat)(w:World)(hp:qM w A l)(hl:l.length≤1000)(hf:f≤2000) :
    Calls prog 148 #[.slice A l.length c,.int .i64 (f:Int)] w (q5f (eE l f) w):=by
 have HP:=QH hp;have hsz:(w.alloc (.cells (qi (List.replicate 8 0)) 219)).heap.size=w.heap.size+1:=by simp
 have k0:qg ((w.alloc (.cells (qi (List.replicate 8 0)) 219)).alloc (.cells (qi (List.replicate 8 0)) 219)) (w.heap.size+1) 219 (qi (dA l f 0)):=by
  rw[qiT,← hsz];exact qg.new _ _ _
 have k1:qg ((w.alloc (.cells (qi (List.replicate 8 0)) 219)).alloc (.cells (qi (List.replicate 8 0)) 219)) w.heap.size 219 (qi (List.replicate 8 0)):=by
  refine(qg.new w 219 _).of_block (Below.heap_alloc _ _ _ (by rw[hsz];omega))
 have b0:Below w.heap.size w ((w.alloc (.cells (qi (List.replicate 8 0)) 219)).alloc (.cells (qi (List.replicate 8 0)) 219)):=((Below.refl _ w).alloc (Nat.le_refl _) _).alloc (by simp) _;have K0:=QH k0;have K1:=QH k1;have B0:=QH b0;clear hp k0 k1 b0 hsz;go_enter func148,ntmps148;go_wp2_with fail;go_loopw [7] (fun i wr=>quV l f (w.heap.size+1) w i wr) (fun i _=>8-(intOf i).toNat);case atStart=>exact⟨0,by omega,rfl,K0.out,K1.out,B0.out⟩
 case round =>
  clear K0 K1 B0;obtain⟨k,hk,rfl,hb,hz,hw⟩:=hrel;have HB:=QH hb;have HZ:=QH hz;have HW:=QH hw;clear hb hz hw;by_cases h8:k<8
  ·have h8i:(k:Int)<8:=by omega
   by_cases hin:f+k<l.length
   ·have q5g:(f:Int)+(k:Int)<(l.length:Int):=by omega
    obtain⟨b,o,rfl,hbl,hc,hz⟩:=HP.out (f+k) hin;have e0:wr.cell? ⟨b,o+(f+k),none⟩=some (.int .i64 l[f+k]):=by rw[HW.out.cell (p:=⟨b,o+(f+k),none⟩) hbl];exact hc
    have l0:b<wr.heap.size:=Nat.lt_of_lt_of_le hbl HW.out.size;have q0:=HB.out.frozen k;obtain⟨old,q1⟩:∃u,wr.cell? ⟨w.heap.size+1,k,none⟩=some u:=by
     rw[HB.out.cell k,uu _ k (by rw[qcN];exact h8)];exact⟨_,rfl⟩
    have l1:=HB.out.lt;have qC:=QH (fun v=>HB.out.ql k (.int .i64 v));have HS:=QH (qm2 l f k);rw[eK hin]at HS;clear hc hz hbl;generalize l[f+k]=x at *;go_wp2_with fail;go_roundw;case rel =>
     refine⟨k+1,by omega,by go_num,?_,HZ.out.of_block (Below.heap_setCell _ _ _ _ (by simp)),HW.out.setCell (p:=⟨w.heap.size+1,k,none⟩) (Nat.le_succ _) _⟩;have:=qC.out x;rw[oq,HS.out]at this;exact this
    case measure=>simp[intOf];omega
   ·have q5g:¬ (f:Int)+(k:Int)<(l.length:Int):=by omega
    have HO:=QH (qm3 (l:=l) (f:=f) (k:=k) (by omega));go_wp2_with fail;go_roundw;case rel=>exact⟨k+1,by omega,by go_num,by rw[HO.out];exact HB.out,HZ.out,HW.out⟩
    case measure=>simp[intOf];omega
  ·have h8i:¬ (k:Int)<8:=by omega
   obtain rfl:k=8:=by omega
   have HV:=QH (aZ l f);have qC:Hid (qg wr (w.heap.size+1) 219 (qi (eE l f))):=HB.out;clear HB;obtain⟨V,hV⟩:=QE (eE l f);rw[hV]at HV qC ⊢;have HR:=QH (tV (c':=qi V) HZ.out);have HW2:=QH (gq HW.out (qi V) (Nat.le_refl _));go_wp2_with (first|(refine qf rfl (vQ (.tmp 5) rfl rfl qC.out HV.out) ?_)|(refine wpList_skip rfl (dU (.tmp 4) (.tmp 25) rfl rfl rfl HZ.out (by decide) HV.out) ?_));exact bodyPost_ret (zy rfl _ _ _ ⟨w.heap.size,0,none⟩ _ rfl (eW HR.out HV.out)) rfl ⟨rfl,HW2.out⟩
def quW (V:List Int)(n:Int)(w:World)(i:Value)(wr:World):Prop:=∃k:Nat,k≤8∧i=.int .i64 (k:Int)∧(V.take k).any (dr n)=false∧qg wr w.heap.size 219 (qi V)∧Below w.heap.size w wr
theorem qbf(V:List Int)(hv:V.length=8)(n:Int)(w:World):Calls prog 149 #[.agg (qi V),.int .i64 n] w (dP (!V.any (dr n)) w):=by
 obtain⟨res,hres⟩:=QE (V.any (dr n));rw[hres];have xB:=QH hres;have HV:=QH hv;clear hv hres;have K0:=QH (qg.new w 219 (qi V));have B0:=QH ((Below.refl w.heap.size w).alloc (Nat.le_refl _) (.cells (qi V) 219));go_enter func149,ntmps149;go_wp2_with fail;go_loopw [7] (fun i wr=>quW V n w i wr) (fun i _=>8-(intOf i).toNat);case atStart=>exact⟨0,by omega,rfl,by simp,K0.out,B0.out⟩
 case round =>
  clear K0 B0;obtain⟨k,hk,rfl,ha,hb,hw⟩:=hrel;have HA:=QH ha;have HB:=QH hb;have HW:=QH hw;clear ha hb hw;by_cases h8:k<8
  ·have h8i:(k:Int)<8:=by omega
   have hkv:k<V.length:=by rw[HV.out];exact h8
   have HS:=QH (qlK hkv (dr n));have HT:=QH (fun h=>quC (p:=dr n) hkv h);have e0:wr.cell? ⟨w.heap.size,k,none⟩=some (.int .i64 V[k]):=by rw[HB.out.cell k];exact uu _ _ _
   have l0:=HB.out.lt;generalize V[k]=x at *;clear hkv;by_cases hx:x=0
   ·subst hx;have uK:Hid ((V.take (k+1)).any (dr n)=false):=by unfold Hid;rw[HS.out,HA.out];rfl
    go_wp2_with fail;go_roundw;case rel=>exact⟨k+1,by omega,by go_num,uK.out,HB.out,HW.out⟩
    case measure=>simp[intOf];omega
   ·have hxb:(x != 0)=true:=by simpa using hx
    by_cases uL:x<193∨n≤x
    ·have hbp:dr n x=true:=by
        unfold dr;rw[decide_eq_true hx,Bool.true_and];rcases uL with h|h
        ·rw[decide_eq_true h,Bool.true_or]
        ·rw[decide_eq_true h,Bool.or_true]
     have hr:res=true:=by rw[← xB.out,HT.out hbp]
     subst hr;by_cases xP:x<193
     ·go_wp2_with fail;go_ret;exact⟨rfl,HW.out⟩
     ·have hge:n≤x:=by omega
      go_wp2_with fail;go_ret;exact⟨rfl,HW.out⟩
    ·have xP:¬ x<193:=fun h=>uL (.inl h);have hge:¬ n≤x:=fun h=>uL (.inr h);have uK:Hid ((V.take (k+1)).any (dr n)=false):=by
      unfold Hid;rw[HS.out,HA.out];unfold dr;rw[decide_eq_false xP,decide_eq_false hge,Bool.or_false,Bool.and_false,Bool.or_false]
     go_wp2_with fail;go_roundw;case rel=>exact⟨k+1,by omega,by go_num,uK.out,HB.out,HW.out⟩
     case measure=>simp[intOf];omega
  ·have h8i:¬ (k:Int)<8:=by omega
   have hr:res=false:=by
    have:=HA.out;rw[List.take_of_length_le (by rw[HV.out];omega),xB.out]at this;exact this
   subst hr;go_wp2_with fail;go_ret;exact⟨rfl,HW.out⟩
abbrev D1:=DataW Unit
def tW:Value→Option (D1 × List MemPlace)
 | .int k a=>some (.lit (.int k a),[])
 | _=>none
theorem qiV{x:Value}{a:Int}{ps:List MemPlace}(h:tW x=some (.lit (.int .i64 a),ps)):x=.int .i64 a:=by
 cases x <;> simp[tW]at h;obtain⟨⟨rfl,rfl⟩,_⟩:=h;rfl
def xC (w:World)(m s:Nat)(f:Int→Int):Prop :=
 ∃D:D1,w.ownsMap prog 3 tW m (Maps.size D) D∧(∀k:Int,D.atKey (.int .i64 k) (.lit (.int .i64 0))=.lit (.int .i64 (f k)))∧Maps.size D≤s
theorem qf3{w:World}{b n:Nat}{D:D1}{P:Program}{k:TypeId}{R:Value→Option (D1 × List MemPlace)}(h:w.ownsMap P k R b n D):w.ownsMap P k R b (Maps.size D) D:=by
 obtain⟨es,clock,hb,F,_,rfl⟩:=h;exact⟨es,clock,hb,F,by simp[Maps.size,length_sorted],rfl⟩
theorem xC.lt{w:World}{m s:Nat}{f:Int→Int}(h:xC w m s f):m<w.heap.size:=by
 obtain⟨D,h1,_⟩:=h;exact h1.lt
theorem xC.made(w:World):xC (w.alloc (.map #[] 0)) w.heap.size 0 (fun _=>0) :=
 ⟨.map [],World.ownsMap_made w prog 3 tW,fun _=>rfl,by simp[Maps.size]⟩
theorem xC.congr{w:World}{m s:Nat}{f g:Int→Int}(h:xC w m s f)(e:∀z,f z=g z):xC w m s g:=by
 obtain⟨D,h1,h2,h3⟩:=h;exact⟨D,h1,fun k=>by rw[h2,e],h3⟩
theorem xC.more{w:World}{m s s':Nat}{f:Int→Int}(h:xC w m s f)(e:s≤s'):xC w m s' f:=by
 obtain⟨D,h1,h2,h3⟩:=h;exact⟨D,h1,h2,Nat.le_trans h3 e⟩
abbrev qf4:Go.Maps.Keyed prog 3:=Go.Maps.int_keyed underlying3
theorem iwf(k:Int)(h:qG k):(Lit.int .i64 k).wf=true:=WalkArith.wf_i64 (by unfold qG at h;omega)
theorem xC.find{w:World}{m s:Nat}{f:Int→Int}(h:xC w m s f)(k:Int)(hk:qG k) :
    (Instr.lookup 263 (.map (some m)) (.int .i64 k) false).run prog w=.ok (.int .i64 (f k)) w:=by
 obtain⟨D,hown,ha,_⟩:=h;have hkey:=Go.Maps.keyOf_int_mk (P:=prog) (k:=3) underlying3 (iwf k hk);obtain⟨i0,hi,hz0,-,-⟩:=info_parts wY;have hz:(zeroValue 3).run prog w=.ok (.int .i64 0) w:=by simp[zeroValue,typeInfo,hi,hz0]
 obtain⟨v2,ps2,mq,hv2⟩:=hown.lookup qf4 underlying263 hz (rfl:tW (.int .i64 0)=some (.lit (.int .i64 0),[])) hkey;rw[ha]at hv2;rw[qiV hv2]at mq;exact mq
theorem qq7(k:Int):WideAt.IsKeyLit (Lit.int .i64 k):=trivial
theorem qq8{a b:Int}(h:a≠b):(Lit.int .i64 a)≠Lit.int .i64 b:=fun e=>h (by injection e)
theorem xC.store{w:World}{m s:Nat}{f:Int→Int}(h:xC w m s f)(k v:Int)(hk:qG k)(hs:s≤1000) :
    ∃w',(Instr.mapUpdate 263 (.map (some m)) (.int .i64 k) (.int .i64 v)).run prog w=.ok () w'∧xC w' m (s+1) (fun z=>if z=k then v else f z)∧w.mapTurned w' m:=by
 obtain⟨D,hown,ha,hc⟩:=h;have hkey:=Go.Maps.keyOf_int_mk (P:=prog) (k:=3) underlying3 (iwf k hk);have hti:=hown.tidy qf4;obtain⟨w',hrun,r1,r2⟩:=hown.store qf4 underlying263 (by unfold maxLen;omega) hkey (rfl:tW (.int .i64 v)=some (.lit (.int .i64 v),[]));refine⟨w',hrun,⟨_,qf3 r1,?_,?_⟩,r2⟩
 ·intro j;dsimp only;by_cases e:j=k
  ·subst e;rw[if_pos rfl];exact Maps.atKey_put_same hti.isMap (qq7 _) _ _
  ·rw[if_neg e,Maps.atKey_put_other (qq8 e)];exact ha j
 ·rw[Maps.size_put hti];split <;> omega
theorem bf {ρ:Operand→Value}{o:Oper}{w:World}{b s:Nat}{f:Int→Int}(x y:Operand)(ho:o.op=.lookup 263 x y false)(hx:ρ x=.map (some b))(h:xC w b s f)
    (k:Int) (hy:ρ y=.int .i64 k) (hk:qG k):(execOp ρ o).run prog w=.ok (.value (.int .i64 (f k))) w:=by
 simp[execOp,ho,hx,hy,h.find k hk,Result.andThen]
theorem vF {ops:Array Oper}{rest:List Oper}{o:Oper}{a:Act}{w:World}{Q:Exit→Act→World→Prop}{b s:Nat}{f:Int→Int}(hg:o.guard=none)(x y z:Operand)(ho:o.op=.mapUpdate 263 x y z)(hx:a.eval x=.map (some b))(h:xC w b s f)
    (k v:Int) (hy:a.eval y=.int .i64 k) (hz:a.eval z=.int .i64 v) (hk:qG k) (hs:s≤1000)
    (hK:∀w',xC w' b (s+1) (fun z=>if z=k then v else f z)→w.mapTurned w' b→wpList prog ops Q rest (a.put o.dst undef) w'):wpList prog ops Q (o::rest) a w:=by
 refine wpList_plain hg fun K' hK'=>?_;obtain⟨w',hrun,r1,r2⟩:=h.store k v hk hs;unfold Oper.wp;simp[execOp,ho,hx,hy,hz,hrun,Result.andThen];exact hK' _ _ (hK w' r1 r2)
theorem eX {m:Nat}{w w' w2:World}(h:Below w.heap.size w w')(ht:w'.mapTurned w2 m)(hm:w.heap.size≤m):Below w.heap.size w w2 :=
 h.grown ht.grown h.size (fun k e=>by injection e with e;omega)
def qcO (V:List Int)(k:Nat)(z:Int):Bool:=(List.range k).any fun j=>decide (z=pl V j)
def hf (V:List Int)(k:Nat)(z:Int):Int:=if (decide (z≠0)&&qcO V k z)=true then 1 else 0
theorem oB (V:List Int)(k:Nat)(z:Int):qcO V (k+1) z=(qcO V k z || decide (z=pl V k)):=by
 unfold qcO;rw[List.range_succ,List.any_append,List.any_cons,List.any_nil,Bool.or_false]
theorem qq9(V:List Int)(z:Int):hf V 0 z=0:=by
 unfold hf qcO;simp
theorem qqA{V:List Int}{k:Nat}(h:pl V k=0)(z:Int):hf V k z=hf V (k+1) z:=by
 unfold hf;rw[oB,h];by_cases hz:z=0
 ·subst hz;rfl
 ·rw[decide_eq_false hz,Bool.or_false]
theorem quY{V:List Int}{k:Nat}(h:pl V k≠0)(z:Int):(if z=pl V k then 1 else hf V k z)=hf V (k+1) z:=by
 unfold hf;rw[oB];by_cases hz:z=pl V k
 ·rw[if_pos hz,decide_eq_true hz,Bool.or_true,Bool.and_true,decide_eq_true (by rw[hz];exact h),if_pos rfl]
 ·rw[if_neg hz,decide_eq_false hz,Bool.or_false]
theorem qyZ{V:List Int}{k:Nat}(h:pl V k≠0):hf V k (pl V k)=if dL V k k=true then 1 else 0:=by
 unfold hf;rw[decide_eq_true h,Bool.true_and];rfl
theorem quZ{V:List Int}{k m:Nat}(h:pl V k≠0)(hd:dL V k k=true)(hk:k<m):yF V m=true:=by
 unfold dL at hd;rw[List.any_eq_true]at hd;obtain⟨j,hj,he⟩:=hd;exact qfg hk (List.mem_range.1 hj) h (of_decide_eq_true he)
def qm5 (V:List Int)(w:World)(i:Value)(wr:World):Prop :=
 ∃k:Nat,k≤8∧i=.int .i64 (k:Int)∧yF V k=false∧qg wr w.heap.size 219 (qi V)∧xC wr (w.heap.size+1) k (hf V k)∧Below w.heap.size w wr
theorem sT (V:List Int)(hv:V.length=8)(hz:∀z∈V,qG z)(w:World):Calls prog 150 #[.agg (qi V)] w (dP (yF V 8) w):=by
 obtain⟨res,hres⟩:=QE (yF V 8);rw[hres];have xB:=QH hres;have HV:=QH hv;have HZ:=QH hz;clear hv hres hz;have hsz:(w.alloc (.cells (qi V) 219)).heap.size=w.heap.size+1:=by simp
 have k0:qg ((w.alloc (.cells (qi V) 219)).alloc (.map #[] 0)) w.heap.size 219 (qi V):=(qg.new w 219 (qi V)).of_block (Below.heap_alloc _ _ _ (by rw[hsz];omega));have k1:xC ((w.alloc (.cells (qi V) 219)).alloc (.map #[] 0)) (w.heap.size+1) 0 (hf V 0):=by
  have:=xC.made (w.alloc (.cells (qi V) 219));rw[hsz]at this;exact this.congr fun z=>(qq9 V z).symm
 have b0:Below w.heap.size w ((w.alloc (.cells (qi V) 219)).alloc (.map #[] 0)):=((Below.refl w.heap.size w).alloc (Nat.le_refl _) _).alloc (by simp) _;have K0:=QH k0;have K1:=QH k1;have B0:=QH b0;clear hsz k0 k1 b0;have hmm:=@run_makeMap prog;go_enter func150,ntmps150;go_wp2_with fail;go_loopw [7] (fun i wr=>qm5 V w i wr) (fun i _=>8-(intOf i).toNat);case atStart=>exact⟨0,by omega,rfl,rfl,K0.out,K1.out,B0.out⟩
 case round =>
  clear K0 K1 B0;obtain⟨k,hk,rfl,ha,hb,hh,hw⟩:=hrel;have HA:=QH ha;have HB:=QH hb;have HH:=QH hh;have HW:=QH hw;clear ha hb hh hw;by_cases h8:k<8
  ·have h8i:(k:Int)<8:=by omega
   have hkv:k<V.length:=by rw[HV.out];exact h8
   have hpk:pl V k=V[k]:=eK hkv;have e0:wr.cell? ⟨w.heap.size,k,none⟩=some (.int .i64 V[k]):=by rw[HB.out.cell k];exact uu _ _ _
   have HX:Hid (qG V[k]):=HZ.out _ (List.getElem_mem hkv);have l0:=HB.out.lt;have HP:=QH hpk;clear hpk;generalize V[k]=x at *;clear hkv;by_cases hx:x=0
   ·subst hx;have uK:Hid (yF V (k+1)=false):=by unfold Hid;rw[bY,HA.out,HP.out];rfl
    have HN:Hid (xC wr (w.heap.size+1) (k+1) (hf V (k+1))):=(HH.out.congr (qqA HP.out)).more (Nat.le_succ _);go_wp2_with fail;go_roundw;case rel=>exact⟨k+1,by omega,by go_num,uK.out,HB.out,HN.out,HW.out⟩
    case measure=>simp[intOf];omega
   ·have hxb:(x == 0)=false:=by simpa using hx
    have dV:pl V k≠0:=by rw[HP.out];exact hx
    have HI:=QH (qyZ dV);by_cases hd:dL V k k=true
    ·have hr:res=true:=by rw[← xB.out,quZ dV hd h8]
     subst hr;have hf1:hf V k x=1:=by rw[← HP.out,HI.out,if_pos hd]
     have HF:=QH hf1;clear hf1 hd dV;go_wp2_with (first|(at_lookup;refine qf rfl (bf _ _ rfl rfl HH.out x rfl HX.out) ?_;rw[HF.out])|(refine vF rfl (.tmp 15) (.tmp 16) (.tmp 18) rfl rfl HH.out x 2 rfl rfl HX.out (by omega) ?_;intro W hW hT;have HW1:=QH hW;have HT1:=QH hT;clear hW hT)|(at_lookup;refine qf rfl (bf _ _ rfl rfl HW1.out x rfl HX.out) ?_;rw[if_pos rfl]));go_ret;exact⟨rfl,eX HW.out HT1.out (Nat.le_succ _)⟩
    ·have hf1:hf V k x=0:=by rw[← HP.out,HI.out,if_neg hd]
     have HF:=QH hf1;have uK:Hid (yF V (k+1)=false):=by
      unfold Hid;rw[bY,HA.out,Bool.not_eq_true _ |>.mp hd,Bool.and_false,Bool.or_false]
     have HN:=QH (quY dV);rw[HP.out]at HN;clear hf1 hd dV;go_wp2_with (first|(at_lookup;refine qf rfl (bf _ _ rfl rfl HH.out x rfl HX.out) ?_;rw[HF.out])|(refine vF rfl (.tmp 15) (.tmp 16) (.tmp 18) rfl rfl HH.out x 1 rfl rfl HX.out (by omega) ?_;intro W hW hT;have HW1:=QH hW;have HT1:=QH hT;clear hW hT)|(at_lookup;refine qf rfl (bf _ _ rfl rfl HW1.out x rfl HX.out) ?_;rw[if_pos rfl]));go_roundw;case rel=>exact⟨k+1,by omega,by go_num,uK.out,HB.out.of_block (HT1.out.grown.block _ HB.out.lt (by simp)),HW1.out.congr HN.out,eX HW.out HT1.out (Nat.le_succ _)⟩
     case measure=>simp[intOf];omega
  ·have h8i:¬ (k:Int)<8:=by omega
   have hr:res=false:=by
    have:=HA.out;rw[show k=8 by omega,xB.out]at this;exact this
   subst hr;go_wp2_with fail;go_ret;exact⟨rfl,HW.out⟩
theorem qm6(l:List Int)(h:l.length≤8)(j:Nat):pl (eE l 0) j=pl l j:=by
 by_cases hj:j<8
 ·rw[eK (by rw[aZ];exact hj),nJ,Nat.zero_add]
 ·rw[iN (by rw[aZ];omega),iN (by omega)]
theorem qqB(l:List Int)(h:l.length≤8)(n:Int):(eE l 0).any (dr n)=l.any (dr n):=by
 rw[Bool.eq_iff_iff,List.any_eq_true,List.any_eq_true];constructor
 ·rintro⟨z,hz,hb⟩;obtain⟨i,hi,rfl⟩:=List.getElem_of_mem hz;rw[nJ,Nat.zero_add]at hb;by_cases hl:i<l.length
  ·rw[eK hl]at hb;exact⟨_,List.getElem_mem hl,hb⟩
  ·rw[iN (by omega)]at hb;cases hb
 ·rintro⟨z,hz,hb⟩;obtain⟨i,hi,rfl⟩:=List.getElem_of_mem hz;have h8:i<(eE l 0).length:=by rw[aZ];omega
  refine⟨_,List.getElem_mem h8,?_⟩;rw[nJ,Nat.zero_add,eK hi];exact hb
theorem qqC(l:List Int)(h:l.length≤8):yF (eE l 0) 8=yF l l.length:=by
 have e:∀i k,dL (eE l 0) i k=dL l i k:=by
  intro i k;unfold dL;simp only[qm6 l h]
 have e2:∀k,yF (eE l 0) k=yF l k:=by
  intro k;unfold yF;simp only[qm6 l h,e]
 rw[e2];have e3:∀m,yF l (l.length+m)=yF l l.length:=by
  intro m
  induction m with
  | zero=>rfl
  | succ m ih =>
   rw[← Nat.add_assoc,bY,ih,iN (by omega)];simp
 have:=e3 (8-l.length);rw[show l.length+(8-l.length)=8 by omega]at this;exact this
theorem qqD{w W:World}(hb:Below w.heap.size w W)(V:List Int)(hv:V.length=8) :
    qg (W.alloc (.cells #[.int .i64 0,.int .i64 0,.int .i64 0,.int .i64 0,.int .i64 0,.int .i64 0,.int .i64 0,.int .i64 0] 219)) W.heap.size 219 (qi (List.replicate 8 0)) ∧
    (W.alloc (.cells #[.int .i64 0,.int .i64 0,.int .i64 0,.int .i64 0,.int .i64 0,.int .i64 0,.int .i64 0,.int .i64 0] 219)).setRow W.heap.size (qi V)=W.alloc (.cells (qi V) 219) ∧
    qg (W.alloc (.cells (qi V) 219)) W.heap.size 219 (qi V)∧Below w.heap.size w (W.alloc (.cells (qi V) 219)) :=
 ⟨qg.new _ _ _,World.setRow_alloc_new _ _ _ _,qg.new _ _ _,hb.alloc hb.size _⟩
theorem ck (A:Option Addr)(c:Nat)(l:List Int)(b n:Int)(w:World)(hs:yQ w A l c)(hl:l.length≤1000)(hb:qG b)(hn:qG n) :
    Calls prog 94 #[.slice A l.length c,.int .i64 b,.int .i64 n] w (qiI (zM l b n) w):=by
 have HP:=QH hs.ints;have HM:=QH hs.ints.mem;obtain⟨res,hres⟩:=QE (zM l b n);rw[hres];unfold zM at hres;clear hs;by_cases h0:b<1
 ·rw[if_pos (.inl h0)]at hres;subst hres;go_enter func94,ntmps94;go_wp2_with fail;go_ret;exact⟨rfl,Below.refl _ _⟩
 by_cases h1:8<b
 ·rw[if_pos (.inr (.inl h1))]at hres;subst hres;go_enter func94,ntmps94;go_wp2_with fail;go_ret;exact⟨rfl,Below.refl _ _⟩
 by_cases h2:(l.length:Int)=b
 ·rw[if_neg (by omega)]at hres;have hlb:((l.length:Int) != b)=false:=by rw[h2];simp
  have h8:l.length≤8:=by omega
  rw[← qqB l h8 n,← qqC l h8]at hres;have xB:=QH hres;have HV:=QH (aZ l 0);have HB:=QH (qiU HM.out 0);have HC:=QH (qbe A c l 0 w HP.out hl (by omega));obtain⟨V,hV⟩:=QE (eE l 0);rw[hV]at xB HV HB HC;clear hres h2 hV;go_enter func94,ntmps94;go_wp2_with fail;refine HC.out.mono ?_;rintro e W ⟨rfl,hw⟩;obtain⟨k0,k1,k2,k3⟩:=qqD hw V HV.out;have K0:=QH k0;have K1:=QH k1;have K2:=QH k2;have K3:=QH k3;clear k0 k1 k2 k3 hw;go_wp2_with (first|(refine wpList_skip rfl (dU (.tmp 7) (.tmp 21) rfl rfl rfl K0.out (by decide) HV.out) ?_;rw[K1.out])|(refine qf rfl (vQ (.tmp 7) rfl rfl K2.out HV.out) ?_));obtain⟨W2,hW2⟩:=QE (W.alloc (.cells (qi V) 219));rw[hW2]at K2 K3 ⊢;refine(qbf V HV.out n W2).mono ?_;rintro e W3 ⟨rfl,hb3⟩;have qZ:=QH (qc K3.out hb3);have K4:=QH (K2.out.below hb3);clear hb3;cases uL:V.any (dr n)
  ·have hres:=xB.out;rw[uL,if_neg (by decide)]at hres;have tX:=QH hres;clear hres uL hW2;go_wp2_with (refine qf rfl (vQ (.tmp 7) rfl rfl K4.out HV.out) ?_);refine(sT V HV.out HB.out W3).mono ?_;rintro e W4 ⟨rfl,hb4⟩;have x9:=QH (qc qZ.out hb4);clear hb4;cases hd:yF V 8
   ·have hres:=tX.out;rw[hd,if_neg (by decide)]at hres;subst hres;clear hd;go_wp2_with fail;go_ret;exact⟨rfl,x9.out⟩
   ·have hres:=tX.out;rw[hd,if_pos rfl]at hres;subst hres;clear hd;go_wp2_with fail;go_ret;exact⟨rfl,x9.out⟩
  ·have hres:=xB.out;rw[uL,if_pos rfl]at hres;subst hres;clear uL hW2;go_wp2_with fail;go_ret;exact⟨rfl,qZ.out⟩
 ·rw[if_pos (.inr (.inr h2))]at hres;subst hres;have hlb:((l.length:Int) != b)=true:=by simpa using h2
  clear h2;go_enter func94,ntmps94;go_wp2_with fail;go_ret;exact⟨rfl,Below.refl _ _⟩
end Go.Proofs.YtdagdllomphidaaGreatDoor.im
namespace Go.Proofs.YtdagdllomphidaaGreatDoor.mt.pg
open _root_.Go.Proofs.Tryz Go Go.RowKit ib wi im mt
def snC (x:Sp)(A:Option Addr)(c:Nat):Array Value:=#[.int .u64 (x.g.1:Int),.int .u64 (x.g.2:Int),.slice A x.qo.length c,.bool x.hid]
def dB (x:Tk)(A:Option Addr)(c:Nat):Array Value:=#[.int .u64 (x.base.1:Int),.int .u64 (x.base.2:Int),.int .u64 (x.target.1:Int),.int .u64 (x.target.2:Int),.int .i64 x.next,.int .i64 x.all,.slice A x.qo.length c]
theorem qza(x y:Tk):x=y↔x.base=y.base∧x.target=y.target∧x.next=y.next∧x.all=y.all∧x.qo=y.qo:=by cases x;cases y;simp
theorem tY {x y:Gd}(h:x≠y):(¬ x.1=y.1)∨(x.1=y.1∧¬ x.2=y.2):=by
 by_cases e1:x.1=y.1
 ·exact .inr ⟨e1,fun e2=>h (Prod.ext e1 e2)⟩
 ·exact .inl e1
theorem qiX(w:World)(t:TypeId)(X Y:Array Value)(W:World)(hW:(w.alloc (.cells X t)).alloc (.cells Y t)=W):qg W w.heap.size t X∧qg W (w.heap.size+1) t Y∧Below w.heap.size w W:=by
 subst hW;have h1:=(Below.refl _ w).alloc (Nat.le_refl _) (.cells X t);have h2:=(Below.refl _ (w.alloc (.cells X t))).alloc (Nat.le_refl _) (.cells Y t);have h3:=qg.new (w.alloc (.cells X t)) t Y;rw[show(w.alloc (.cells X t)).heap.size=w.heap.size+1 from by simp]at h3;exact⟨(qg.new w t X).below h2,h3,qc h1 h2⟩
theorem sU (x y:Tk)(A B:Option Addr)(c d:Nat)(w:World)(hx:yQ w A x.qo c)(hy:yQ w B y.qo d)(hl:x.qo.length≤1000) :
    Calls prog 186 #[.agg (dB x A c),.agg (dB y B d)] w (dP (decide (x=y)) w):=by
 obtain⟨W,hW⟩:=QE ((w.alloc (.cells (dB x A c) 59)).alloc (.cells (dB y B d) 59));have htw:=qiX w 59 (dB x A c) (dB y B d) W hW;obtain⟨hA,hB,hb⟩:=htw;have HXI:=QH (hx.below hb);have HYI:=QH (hy.below hb);have HB:=QH hb;have HL:=QH hl;clear hx hy hl hb;have x0:=hA.cell 0;have x1:=hA.cell 1;have x2:=hA.cell 2;have x3:=hA.cell 3;have x4:=hA.cell 4;have x5:=hA.cell 5;have x6:=hA.cell 6;have y0:=hB.cell 0;have y1:=hB.cell 1;have y2:=hB.cell 2;have y3:=hB.cell 3;have y4:=hB.cell 4;have y5:=hB.cell 5;have y6:=hB.cell 6;have iE:=hA.lt;have hlb:=hB.lt;clear hA hB;unfold dB at hW ⊢;simp only[dB,QA,QB,QC]at x0 x1 x2 x3 x4 x5 x6 y0 y1 y2 y3 y4 y5 y6;obtain⟨res,hres⟩:=QE (decide (x=y));rw[hres];have eF:Hid (res=true↔x.base=y.base∧x.target=y.target∧x.next=y.next∧x.all=y.all∧x.qo=y.qo):=by unfold Hid;rw[← hres,decide_eq_true_iff,qza]
 have vr:Hid (¬ (x.base=y.base∧x.target=y.target∧x.next=y.next∧x.all=y.all∧x.qo=y.qo)→res=false):=fun hn=>by
  cases hr:res with
  | false=>rfl
  | true=>exact absurd (eF.out.1 hr) hn
 clear hres;go_enter func186,ntmps186;go_upto_region 1 with fail;try rw[hW]
 clear hW;by_cases hg:x.base=y.base
 case' neg =>
  have hr:=vr.out (fun e=>hg e.1);have HR:=QH hr;have hgn:=tY hg;clear hr hg;rcases hgn with hgn|⟨hgn,qzb⟩
  ·go_wp2_with fail;go_ret;exact⟨by rw[HR.out];rfl,HB.out⟩
  ·go_wp2_with fail;go_ret;exact⟨by rw[HR.out];rfl,HB.out⟩
 rw[← hg]at y0 y1;have HG0:=QH hg;clear hg;by_cases hg:x.target=y.target
 case' neg =>
  have hr:=vr.out (fun e=>hg e.2.1);have HR:=QH hr;have hgn:=tY hg;clear hr hg;rcases hgn with hgn|⟨hgn,qzb⟩
  ·go_wp2_with fail;go_ret;exact⟨by rw[HR.out];rfl,HB.out⟩
  ·go_wp2_with fail;go_ret;exact⟨by rw[HR.out];rfl,HB.out⟩
 rw[← hg]at y2 y3;have HG2:=QH hg;clear hg;by_cases hg:x.next=y.next
 case' neg =>
  have hr:=vr.out (fun e=>hg e.2.2.1);have HR:=QH hr;clear hr;go_wp2_with fail;go_ret;exact⟨by rw[HR.out];rfl,HB.out⟩
 rw[← hg]at y4;have HG4:=QH hg;clear hg;by_cases hg:x.all=y.all
 case' neg =>
  have hr:=vr.out (fun e=>hg e.2.2.2.1);have HR:=QH hr;clear hr;go_wp2_with fail;go_ret;exact⟨by rw[HR.out];rfl,HB.out⟩
 rw[← hg]at y5;have HG5:=QH hg;clear hg;go_wp2_with fail;refine(aW A B c d x.qo y.qo W HXI.out.ints HYI.out.ints (by have:=HL.out;omega)).mono ?_;rintro e W9 ⟨rfl,hb9⟩;have HB9:=QH (qc HB.out hb9);have hr:decide (x.qo=y.qo)=res:=by
  cases hr:res with
  | true=>exact decide_eq_true (eF.out.1 hr).2.2.2.2
  | false =>
   rw[decide_eq_false_iff_not];intro h;rw[eF.out.2 ⟨HG0.out,HG2.out,HG4.out,HG5.out,h⟩]at hr;cases hr
 rw[hr];clear hr hb9;go_wp2_with fail;go_ret;exact⟨rfl,HB9.out⟩
structure Env(w:World)(kb rb c b:Nat):Prop where
 k:qg w kb 3 #[.int .i64 (b:Int)]
 r:qg w rb 161 #[ptr c]
theorem Env.rd{w w':World}{kb rb c b:Nat}{s:St}(h:Env w kb rb c b)(hp:∃y,qg w c 215 y)(hr:Rd w c s w'):Env w' kb rb c b:=⟨hr.blk h.k hp (by decide),hr.blk h.r hp (by decide)⟩
theorem Env.below{w w':World}{kb rb c b:Nat}(h:Env w kb rb c b)(hb:Below w.heap.size w w'):Env w' kb rb c b:=⟨h.k.below hb,h.r.below hb⟩
theorem Rd.env{w0 w:World}{kb rb c b:Nat}{s0 s:St}(h:Rd w0 c s w)(hp:PS w0 c s0)(he:Env w0 kb rb c b):Env w kb rb c b:=he.rd hp.blk h
theorem qm7{w:World}{B g:Nat}{zs:List Int}(h:qg w g 3 (qi zs))(hg:B≤g)(hl:zs.length≤1000):zC w B (.slice (some ⟨g,0,none⟩) zs.length zs.length) zs:=by
 refine⟨by simp,.inr ⟨g,zs.length,qi zs,rfl,hg,h,Nat.le_refl _,by unfold maxLen;omega,by rw[kH,Nat.mul_one],?_⟩⟩;rw[Nat.mul_one];unfold qi;rw[List.take_of_length_le (by simp)]
abbrev plF (kb rb:Nat):Value:=.func (.func 139) #[] #[ptr kb,ptr rb]
def tkZ:Array Value:=#[.int .u64 0,.int .u64 0,.int .u64 0,.int .u64 0,.int .i64 0,.int .i64 0,.slice none 0 0]
def qzd (b c:Nat)(s:St)(w:World)(e:Ending)(w':World):Prop:=∃g,e=.returned (.agg (dB (sR b s).1 (some ⟨g,0,none⟩) b))∧w.heap.size≤g∧qg w' g 3 (qi (sR b s).1.qo)∧Rd w c (sR b s).2 w'
theorem iT {w:World}{kb rb c b:Nat}{s:St}(hb:b≤100)(h:PS w c s)(he:Env w kb rb c b):Calls prog 145 #[ptr c,plF kb rb] w (qzd b c s w):=by
 have HP0:=QH h;have HE0:=QH he;have hb1:=(Below.refl w.heap.size w).alloc (Nat.le_refl _) (.cells tkZ 59);have hr1:Rd w c s (w.alloc (.cells tkZ 59)):=⟨qz.of_below hb1,h.below hb1⟩;have ha1:=qg.new w 59 tkZ;obtain⟨W1,hW1⟩:=QE (w.alloc (.cells tkZ 59));rw[hW1]at hr1 ha1 hb1;have hb2:=(Below.refl W1.heap.size W1).alloc (Nat.le_refl _) (.cells tkZ 59);have hr2:=hr1.new hb2;have ha2:=qg.new W1 59 tkZ;obtain⟨W2,hW2⟩:=QE (W1.alloc (.cells tkZ 59));rw[hW2]at hr2 ha2 hb2;have jK:=QH hr2;have aV:=QH (ha1.below hb2);have dW:=QH ha2;have tZ:Hid (w.heap.size<W1.heap.size):=ha1.lt;obtain⟨gt,hgt⟩:=QE W1.heap.size;rw[hgt]at dW tZ;clear h he hb1 hr1 ha1 hb2 hr2 ha2;unfold tkZ at hW1 hW2;go_enter func145,ntmps145;go_upto_region 2 with fail;try rw[hW1]
 try rw[hW2]
 try rw[hgt]
 clear hW1 hW2 hgt;go_wp2_with fail;refine(xx jK.out.ps).mono ?_;rintro e W3 ⟨rfl,hq⟩;have eG:=QH (jK.out.trans hq);have cj:=QH (hq.blk aV.out jK.out.ps.blk (by decide));have dF:=QH (hq.blk dW.out jK.out.ps.blk (by decide));clear hq jK aV dW;obtain⟨x,hx⟩:=QE ((vN s).1);rw[hx];have HX:=QH hx;obtain⟨s1,hs1⟩:=QE ((vN s).2);rw[hs1]at eG;have gZ:=QH hs1;clear hx hs1;unfold gv;have q0:=dF.out.cell 0;have q1:=dF.out.cell 1;simp only[tkZ,QA,QB,QC]at q0 q1;have f0:=dF.out.frozen 0;have f1:=dF.out.frozen 1;have hlt:=dF.out.lt;have hgn:Hid (w.heap.size≤gt):=Nat.le_of_lt tZ.out;have ht4:=dF.out.ql 0 (.int .u64 (x.1:Int));have hr4:=eG.out.set dF.out hgn.out (by decide) (by decide) 0 (.int .u64 (x.1:Int));have ht5:=ht4.ql 1 (.int .u64 (x.2:Int));have hr5:=hr4.set ht4 hgn.out (by decide) (by decide) 1 (.int .u64 (x.2:Int));have HA5:=QH ((cj.out.of_block (qD W3 gt 0 (.int .u64 (x.1:Int)) w.heap.size (by have:=tZ.out;omega))).of_block (qD (W3.setCell ⟨gt,0,none⟩ (.int .u64 (x.1:Int))) gt 1 (.int .u64 (x.2:Int)) w.heap.size (by have:=tZ.out;omega)));have eY:=QH ht5;have bO:=QH hr5;obtain⟨W5,iF⟩:=QE ((W3.setCell ⟨gt,0,none⟩ (.int .u64 (x.1:Int))).setCell ⟨gt,1,none⟩ (.int .u64 (x.2:Int)));rw[iF]at HA5 eY bO;clear ht4 hr4 ht5 hr5 eG dF cj;go_upto_region 3 with fail;try rw[iF]
 clear iF q0 q1 f0 f1 hlt;go_wp2_with fail;refine(xx bO.out.ps).mono ?_;rintro e W6 ⟨rfl,hq⟩;have HR6:=QH (bO.out.trans hq);have HA6:=QH (hq.blk HA5.out bO.out.ps.blk (by decide));have eH:=QH (hq.blk eY.out bO.out.ps.blk (by decide));clear hq bO HA5 eY;obtain⟨y,hy⟩:=QE ((vN s1).1);rw[hy];have HY:=QH hy;obtain⟨s2,hs2⟩:=QE ((vN s1).2);rw[hs2]at HR6;have uK:=QH hs2;clear hy hs2;unfold gv;have q2:=eH.out.cell 2;have q3:=eH.out.cell 3;simp[tkZ]at q2 q3;have f2:=eH.out.frozen 2;have f3:=eH.out.frozen 3;have hlt:=eH.out.lt;have ht7:=eH.out.ql 2 (.int .u64 (y.1:Int));have hr7:=HR6.out.set eH.out hgn.out (by decide) (by decide) 2 (.int .u64 (y.1:Int));have ht8:=ht7.ql 3 (.int .u64 (y.2:Int));have hr8:=hr7.set ht7 hgn.out (by decide) (by decide) 3 (.int .u64 (y.2:Int));have HA8:=QH ((HA6.out.of_block (qD W6 gt 2 (.int .u64 (y.1:Int)) w.heap.size (by have:=tZ.out;omega))).of_block (qD (W6.setCell ⟨gt,2,none⟩ (.int .u64 (y.1:Int))) gt 3 (.int .u64 (y.2:Int)) w.heap.size (by have:=tZ.out;omega)));have HT8:=QH ht8;have HR8:=QH hr8;obtain⟨W8,hW8⟩:=QE ((W6.setCell ⟨gt,2,none⟩ (.int .u64 (y.1:Int))).setCell ⟨gt,3,none⟩ (.int .u64 (y.2:Int)));rw[hW8]at HA8 HT8 HR8;clear ht7 hr7 ht8 hr8 HR6 eH HA6;go_upto_region 4 with fail;try rw[hW8]
 clear hW8 q2 q3 f2 f3 hlt;go_wp2_with fail;refine(dS HR8.out.ps 8 8 rfl (by omega)).mono ?_;rintro e W9 ⟨rfl,hq⟩;have HR9:=QH (HR8.out.trans hq);have HA9:=QH (hq.blk HA8.out HR8.out.ps.blk (by decide));have HT9:=QH (hq.blk HT8.out HR8.out.ps.blk (by decide));clear hq HR8 HA8 HT8;obtain⟨nx,hnx⟩:=QE ((kU 8 s2).1);rw[hnx];have HNX:=QH hnx;obtain⟨s3,hs3⟩:=QE ((kU 8 s2).2);rw[hs3]at HR9;have HS3:=QH hs3;clear hnx hs3;have q4:=HT9.out.cell 4;simp[tkZ]at q4;have f4:=HT9.out.frozen 4;have hlt:=HT9.out.lt;have sV:=QH (HT9.out.ql 4 (.int .i64 (nx:Int)));have qiY:=QH (HR9.out.set HT9.out hgn.out (by decide) (by decide) 4 (.int .i64 (nx:Int)));have qvd:=QH (HA9.out.of_block (qD W9 gt 4 (.int .i64 (nx:Int)) w.heap.size (by have:=tZ.out;omega)));obtain⟨W10,qve⟩:=QE (W9.setCell ⟨gt,4,none⟩ (.int .i64 (nx:Int)));rw[qve]at qvd sV qiY;clear HR9 HT9 HA9;go_upto_region 5 with fail;try rw[qve]
 clear qve q4 f4 hlt;go_wp2_with fail;refine(dS qiY.out.ps 8 8 rfl (by omega)).mono ?_;rintro e W11 ⟨rfl,hq⟩;have qvf:=QH (qiY.out.trans hq);have qzg:=QH (hq.blk qvd.out qiY.out.ps.blk (by decide));have iU:=QH (hq.blk sV.out qiY.out.ps.blk (by decide));clear hq qiY qvd sV;obtain⟨al,hal⟩:=QE ((kU 8 s3).1);rw[hal];have HAL:=QH hal;obtain⟨s4,hs4⟩:=QE ((kU 8 s3).2);rw[hs4]at qvf;have HS4:=QH hs4;clear hal hs4;have q5:=iU.out.cell 5;simp[tkZ]at q5;have f5:=iU.out.frozen 5;have hlt:=iU.out.lt;have vR:=QH (iU.out.ql 5 (.int .i64 (al:Int)));have qf7:=QH (qvf.out.set iU.out hgn.out (by decide) (by decide) 5 (.int .i64 (al:Int)));have qvh:=QH (qzg.out.of_block (qD W11 gt 5 (.int .i64 (al:Int)) w.heap.size (by have:=tZ.out;omega)));obtain⟨W12,qvi⟩:=QE (W11.setCell ⟨gt,5,none⟩ (.int .i64 (al:Int)));rw[qvi]at qvh vR qf7;clear qvf iU qzg;go_upto_region 6 with fail;try rw[qvi]
 clear qvi q5 f5 hlt;have qzh:=QH (qf7.out.env HP0.out HE0.out);go_wp2_with fail;refine(uH hb qf7.out.ps qzh.out.k qzh.out.r).mono ?_;rintro e W13 ⟨g,rfl,hg,tR,hq⟩;have qm9:=QH (qf7.out.trans hq);have qmA:=QH (hq.blk qvh.out qf7.out.ps.blk (by decide));have uj:=QH (hq.blk vR.out qf7.out.ps.blk (by decide));have HGL:Hid (gt<g):=Nat.lt_of_lt_of_le vR.out.lt hg;have qmB:=QH tR;clear hq qf7 qvh vR hg tR;have q6:=uj.out.cell 6;simp[tkZ]at q6;have f6:=uj.out.frozen 6;have hlt:=uj.out.lt;have qf8:=uj.out.ql 6 (.slice (some ⟨g,0,none⟩) b b);simp only[tkZ,List.setIfInBounds_toArray,List.set_cons_succ,List.set_cons_zero]at qf8;have dC:=QH qf8;have qf9:=QH (qm9.out.set uj.out hgn.out (by decide) (by decide) 6 (.slice (some ⟨g,0,none⟩) b b));have j9:=QH (qmA.out.of_block (qD W13 gt 6 (.slice (some ⟨g,0,none⟩) b b) w.heap.size (by have:=tZ.out;omega)));have qfA:=QH (qmB.out.of_block (qD W13 gt 6 (.slice (some ⟨g,0,none⟩) b b) g (by have:=HGL.out;omega)));obtain⟨W14,nr⟩:=QE (W13.setCell ⟨gt,6,none⟩ (.slice (some ⟨g,0,none⟩) b b));rw[nr]at j9 dC qf9 qfA;clear qm9 uj qmA qmB qf8;go_upto_region 7 with fail;try rw[nr]
 clear nr q6 f6 hlt;have t0:=dC.out.cell 0;have t1:=dC.out.cell 1;have t2:=dC.out.cell 2;have t3:=dC.out.cell 3;have t4:=dC.out.cell 4;have t5:=dC.out.cell 5;have t6:=dC.out.cell 6;have a0:=j9.out.cell 0;have a1:=j9.out.cell 1;have a2:=j9.out.cell 2;have a3:=j9.out.cell 3;have a4:=j9.out.cell 4;have a5:=j9.out.cell 5;have a6:=j9.out.cell 6;simp only[tkZ,QA,QB,QC]at t0 t1 t2 t3 t4 t5 t6 a0 a1 a2 a3 a4 a5 a6;have f0:=j9.out.frozen 0;have f1:=j9.out.frozen 1;have f2:=j9.out.frozen 2;have f3:=j9.out.frozen 3;have f4:=j9.out.frozen 4;have f5:=j9.out.frozen 5;have f6:=j9.out.frozen 6;have hlt:=dC.out.lt;have iE:=j9.out.lt;have u1:=j9.out.ql 0 (.int .u64 (x.1:Int));have r1:=qf9.out.set j9.out (Nat.le_refl _) (by decide) (by decide) 0 (.int .u64 (x.1:Int));have u2:=u1.ql 1 (.int .u64 (x.2:Int));have r2:=r1.set u1 (Nat.le_refl _) (by decide) (by decide) 1 (.int .u64 (x.2:Int));have u3:=u2.ql 2 (.int .u64 (y.1:Int));have r3:=r2.set u2 (Nat.le_refl _) (by decide) (by decide) 2 (.int .u64 (y.1:Int));have u4:=u3.ql 3 (.int .u64 (y.2:Int));have r4:=r3.set u3 (Nat.le_refl _) (by decide) (by decide) 3 (.int .u64 (y.2:Int));have u5:=u4.ql 4 (.int .i64 (nx:Int));have r5:=r4.set u4 (Nat.le_refl _) (by decide) (by decide) 4 (.int .i64 (nx:Int));have u6:=u5.ql 5 (.int .i64 (al:Int));have r6:=r5.set u5 (Nat.le_refl _) (by decide) (by decide) 5 (.int .i64 (al:Int));have u7:=u6.ql 6 (.slice (some ⟨g,0,none⟩) b b);have r7:=r6.set u6 (Nat.le_refl _) (by decide) (by decide) 6 (.slice (some ⟨g,0,none⟩) b b);simp only[tkZ,List.setIfInBounds_toArray,List.set_cons_succ,List.set_cons_zero]at u7;have HU7:=QH u7;have HR7:=QH r7;have oth:∀(k:Nat) (v:Value) (W:World),qg W g 3 (qi (dv b s4).1)→qg (W.setCell ⟨w.heap.size,k,none⟩ v) g 3 (qi (dv b s4).1):=fun k v W h=>h.of_block (qD W w.heap.size k v g (by have:=HGL.out;have:=tZ.out;omega));have qmC:=QH (oth 6 (.slice (some ⟨g,0,none⟩) b b) _ (oth 5 (.int .i64 (al:Int)) _ (oth 4 (.int .i64 (nx:Int)) _ (oth 3 (.int .u64 (y.2:Int)) _ (oth 2 (.int .u64 (y.1:Int)) _ (oth 1 (.int .u64 (x.2:Int)) _ (oth 0 (.int .u64 (x.1:Int)) _ qfA.out)))))));obtain⟨W15,qmD⟩:=QE (((((((W14.setCell ⟨w.heap.size,0,none⟩ (.int .u64 (x.1:Int))).setCell ⟨w.heap.size,1,none⟩ (.int .u64 (x.2:Int))).setCell ⟨w.heap.size,2,none⟩ (.int .u64 (y.1:Int))).setCell ⟨w.heap.size,3,none⟩ (.int .u64 (y.2:Int))).setCell ⟨w.heap.size,4,none⟩ (.int .i64 (nx:Int))).setCell ⟨w.heap.size,5,none⟩ (.int .i64 (al:Int))).setCell ⟨w.heap.size,6,none⟩ (.slice (some ⟨g,0,none⟩) b b));rw[qmD]at HU7 HR7 qmC;clear u1 u2 u3 u4 u5 u6 u7 r1 r2 r3 r4 r5 r6 r7 oth j9 dC qf9 qfA;go_wp2_with fail;try rw[qmD]
 have q0:=HU7.out.cell 0;have q1:=HU7.out.cell 1;have q2:=HU7.out.cell 2;have q3:=HU7.out.cell 3;have q4:=HU7.out.cell 4;have q5:=HU7.out.cell 5;have q6:=HU7.out.cell 6;simp only[QA,QB,QC]at q0 q1 q2 q3 q4 q5 q6;have HEQ:Hid (dB (sR b s).1 (some ⟨g,0,none⟩) b = #[.int .u64 (x.1:Int),.int .u64 (x.2:Int),.int .u64 (y.1:Int),.int .u64 (y.2:Int),.int .i64 (nx:Int),.int .i64 (al:Int),.slice (some ⟨g,0,none⟩) b b]∧(sR b s).1.qo=(dv b s4).1∧(sR b s).2=(dv b s4).2):=by
  unfold Hid sR dB;dsimp only;rw[HX.out,gZ.out,HY.out,uK.out,HNX.out,HS3.out,HAL.out,HS4.out,ui];exact⟨rfl,rfl,rfl⟩
 refine bodyPost_ret (v:=.agg #[.int .u64 (x.1:Int),.int .u64 (x.2:Int),.int .u64 (y.1:Int),.int .u64 (y.2:Int),.int .i64 (nx:Int),.int .i64 (al:Int),.slice (some ⟨g,0,none⟩) b b]) (by simp[results,results145,go_sem,q0,q1,q2,q3,q4,q5,q6]) rfl ?_;refine⟨g,by rw[HEQ.out.1],by have:=HGL.out;have:=tZ.out;omega,?_,?_⟩
 ·rw[HEQ.out.2.1];exact qmC.out
 ·rw[HEQ.out.2.2];exact HR7.out
def snZ:Array Value:=#[.int .u64 0,.int .u64 0,.slice none 0 0,.bool false]
structure iV(w:World)(kb rb pb c b:Nat):Prop where
 e:Env w kb rb c b
 p:qg w pb 209 #[plF kb rb]
theorem iV.rd{w w':World}{kb rb pb c b:Nat}{s:St}(h:iV w kb rb pb c b)(hp:∃y,qg w c 215 y)(hr:Rd w c s w'):iV w' kb rb pb c b:=⟨h.e.rd hp hr,hr.blk h.p hp (by decide)⟩
theorem iV.below{w w':World}{kb rb pb c b:Nat}(h:iV w kb rb pb c b)(hb:Below w.heap.size w w'):iV w' kb rb pb c b:=⟨h.e.below hb,h.p.below hb⟩
def qzi (b c:Nat)(s:St)(w:World)(e:Ending)(w':World):Prop:=∃g,e=.returned (.agg (snC (o9 b s).1 (some ⟨g,0,none⟩) b))∧w.heap.size≤g∧qg w' g 3 (qi (o9 b s).1.qo)∧Rd w c (o9 b s).2 w'
theorem oC {w:World}{kb rb pb c b:Nat}{s:St}(hb:b≤100)(h:PS w c s)(he:iV w kb rb pb c b):Calls prog 143 #[ptr rb,ptr pb] w (qzi b c s w):=by
 have HP0:=QH h;have HE0:=QH he;have hb1:=(Below.refl w.heap.size w).alloc (Nat.le_refl _) (.cells snZ 145);have hr1:Rd w c s (w.alloc (.cells snZ 145)):=⟨qz.of_below hb1,h.below hb1⟩;have ha1:=qg.new w 145 snZ;obtain⟨W1,hW1⟩:=QE (w.alloc (.cells snZ 145));rw[hW1]at hr1 ha1 hb1;have hb2:=(Below.refl W1.heap.size W1).alloc (Nat.le_refl _) (.cells snZ 145);have hr2:=hr1.new hb2;have ha2:=qg.new W1 145 snZ;have tT:=(he.below hb1).below hb2;obtain⟨W2,hW2⟩:=QE (W1.alloc (.cells snZ 145));rw[hW2]at hr2 ha2 hb2 tT;have jK:=QH hr2;have aV:=QH (ha1.below hb2);have dW:=QH ha2;have tZ:Hid (w.heap.size<W1.heap.size):=ha1.lt;obtain⟨gt,hgt⟩:=QE W1.heap.size;rw[hgt]at dW tZ;have r0:=tT.e.r.cell 0;simp only[QA,QB,QC]at r0;have hlr:=tT.e.r.lt;clear h he hb1 hr1 ha1 hb2 hr2 ha2 tT;unfold snZ at hW1 hW2;go_enter func143,ntmps143;go_upto_region 2 with fail;try rw[hW1]
 try rw[hW2]
 try rw[hgt]
 clear hW1 hW2 hgt;go_wp2_with fail;refine(xx jK.out.ps).mono ?_;rintro e W3 ⟨rfl,hq⟩;have eG:=QH (jK.out.trans hq);have cj:=QH (hq.blk aV.out jK.out.ps.blk (by decide));have dF:=QH (hq.blk dW.out jK.out.ps.blk (by decide));clear hq jK aV dW r0 hlr;obtain⟨x,hx⟩:=QE ((vN s).1);rw[hx];have HX:=QH hx;obtain⟨s1,hs1⟩:=QE ((vN s).2);rw[hs1]at eG;have gZ:=QH hs1;clear hx hs1;unfold gv;have q0:=dF.out.cell 0;have q1:=dF.out.cell 1;simp only[snZ,QA,QB,QC]at q0 q1;have f0:=dF.out.frozen 0;have f1:=dF.out.frozen 1;have hlt:=dF.out.lt;have hgn:Hid (w.heap.size≤gt):=Nat.le_of_lt tZ.out;have ht4:=dF.out.ql 0 (.int .u64 (x.1:Int));have hr4:=eG.out.set dF.out hgn.out (by decide) (by decide) 0 (.int .u64 (x.1:Int));have ht5:=ht4.ql 1 (.int .u64 (x.2:Int));have hr5:=hr4.set ht4 hgn.out (by decide) (by decide) 1 (.int .u64 (x.2:Int));have HA5:=QH ((cj.out.of_block (qD W3 gt 0 (.int .u64 (x.1:Int)) w.heap.size (by have:=tZ.out;omega))).of_block (qD (W3.setCell ⟨gt,0,none⟩ (.int .u64 (x.1:Int))) gt 1 (.int .u64 (x.2:Int)) w.heap.size (by have:=tZ.out;omega)));have eY:=QH ht5;have bO:=QH hr5;obtain⟨W5,iF⟩:=QE ((W3.setCell ⟨gt,0,none⟩ (.int .u64 (x.1:Int))).setCell ⟨gt,1,none⟩ (.int .u64 (x.2:Int)));rw[iF]at HA5 eY bO;clear ht4 hr4 ht5 hr5 eG dF cj;go_upto_region 3 with fail;try rw[iF]
 clear iF q0 q1 f0 f1 hlt;have he5:=HE0.out.rd HP0.out.blk bO.out;have r0:=he5.e.r.cell 0;simp only[QA,QB,QC]at r0;have hlr:=he5.e.r.lt;clear he5;go_wp2_with fail;refine(dR bO.out.ps).mono ?_;rintro e W6 ⟨rfl,hq⟩;have HR6:=QH (bO.out.trans hq);have HA6:=QH (hq.blk HA5.out bO.out.ps.blk (by decide));have eH:=QH (hq.blk eY.out bO.out.ps.blk (by decide));clear hq bO HA5 eY r0 hlr;obtain⟨y,hy⟩:=QE ((yu s1).1);rw[hy];have HY:=QH hy;obtain⟨s2,hs2⟩:=QE ((yu s1).2);rw[hs2]at HR6;have uK:=QH hs2;clear hy hs2;obtain⟨hd,hhd⟩:=QE (decide (y=1));have hyq:((y:Int) == 1)=hd:=by
  rw[← hhd,Bool.eq_iff_iff];simp;omega
 have HHD:=QH hhd;clear hhd;have q3:=eH.out.cell 3;simp[snZ]at q3;have f3:=eH.out.frozen 3;have hlt:=eH.out.lt;have HT7:=QH (eH.out.ql 3 (.bool hd));have HR7:=QH (HR6.out.set eH.out hgn.out (by decide) (by decide) 3 (.bool hd));have HA7:=QH (HA6.out.of_block (qD W6 gt 3 (.bool hd) w.heap.size (by have:=tZ.out;omega)));obtain⟨W7,hW7⟩:=QE (W6.setCell ⟨gt,3,none⟩ (.bool hd));rw[hW7]at HA7 HT7 HR7;clear HR6 eH HA6;go_upto_region 4 with fail;try rw[hW7]
 clear hW7 q3 f3 hlt hyq;have HE7:=QH (HE0.out.rd HP0.out.blk HR7.out);have p0:=HE7.out.p.cell 0;simp only[QA,QB,QC]at p0;have hlp:=HE7.out.p.lt;go_wp2_with fail;refine(uH hb HR7.out.ps HE7.out.e.k HE7.out.e.r).mono ?_;rintro e W13 ⟨g,rfl,hg,tR,hq⟩;have qm9:=QH (HR7.out.trans hq);have qmA:=QH (hq.blk HA7.out HR7.out.ps.blk (by decide));have uj:=QH (hq.blk HT7.out HR7.out.ps.blk (by decide));have HGL:Hid (gt<g):=Nat.lt_of_lt_of_le HT7.out.lt hg;have qmB:=QH tR;clear hq HR7 HA7 HT7 hg tR p0 hlp;have q2:=uj.out.cell 2;simp[snZ]at q2;have f2:=uj.out.frozen 2;have hlt:=uj.out.lt;have qf8:=uj.out.ql 2 (.slice (some ⟨g,0,none⟩) b b);simp only[snZ,List.setIfInBounds_toArray,List.set_cons_succ,List.set_cons_zero]at qf8;have dC:=QH qf8;have qf9:=QH (qm9.out.set uj.out hgn.out (by decide) (by decide) 2 (.slice (some ⟨g,0,none⟩) b b));have j9:=QH (qmA.out.of_block (qD W13 gt 2 (.slice (some ⟨g,0,none⟩) b b) w.heap.size (by have:=tZ.out;omega)));have qfA:=QH (qmB.out.of_block (qD W13 gt 2 (.slice (some ⟨g,0,none⟩) b b) g (by have:=HGL.out;omega)));obtain⟨W14,nr⟩:=QE (W13.setCell ⟨gt,2,none⟩ (.slice (some ⟨g,0,none⟩) b b));rw[nr]at j9 dC qf9 qfA;clear qm9 uj qmA qmB qf8;go_upto_region 5 with fail;try rw[nr]
 clear nr q2 f2 hlt;have t0:=dC.out.cell 0;have t1:=dC.out.cell 1;have t2:=dC.out.cell 2;have t3:=dC.out.cell 3;have a0:=j9.out.cell 0;have a1:=j9.out.cell 1;have a2:=j9.out.cell 2;have a3:=j9.out.cell 3;simp only[snZ,QA,QB,QC]at t0 t1 t2 t3 a0 a1 a2 a3;have f0:=j9.out.frozen 0;have f1:=j9.out.frozen 1;have f2:=j9.out.frozen 2;have f3:=j9.out.frozen 3;have hlt:=dC.out.lt;have iE:=j9.out.lt;have u1:=j9.out.ql 0 (.int .u64 (x.1:Int));have r1:=qf9.out.set j9.out (Nat.le_refl _) (by decide) (by decide) 0 (.int .u64 (x.1:Int));have u2:=u1.ql 1 (.int .u64 (x.2:Int));have r2:=r1.set u1 (Nat.le_refl _) (by decide) (by decide) 1 (.int .u64 (x.2:Int));have u3:=u2.ql 2 (.slice (some ⟨g,0,none⟩) b b);have r3:=r2.set u2 (Nat.le_refl _) (by decide) (by decide) 2 (.slice (some ⟨g,0,none⟩) b b);have u4:=u3.ql 3 (.bool hd);have r4:=r3.set u3 (Nat.le_refl _) (by decide) (by decide) 3 (.bool hd);simp only[snZ,List.setIfInBounds_toArray,List.set_cons_succ,List.set_cons_zero]at u4;have HU7:=QH u4;have qzj:=QH r4;have oth:∀(k:Nat) (v:Value) (W:World),qg W g 3 (qi (dv b s2).1)→qg (W.setCell ⟨w.heap.size,k,none⟩ v) g 3 (qi (dv b s2).1):=fun k v W h=>h.of_block (qD W w.heap.size k v g (by have:=HGL.out;have:=tZ.out;omega));have qmC:=QH (oth 3 (.bool hd) _ (oth 2 (.slice (some ⟨g,0,none⟩) b b) _ (oth 1 (.int .u64 (x.2:Int)) _ (oth 0 (.int .u64 (x.1:Int)) _ qfA.out))));obtain⟨W15,qmD⟩:=QE ((((W14.setCell ⟨w.heap.size,0,none⟩ (.int .u64 (x.1:Int))).setCell ⟨w.heap.size,1,none⟩ (.int .u64 (x.2:Int))).setCell ⟨w.heap.size,2,none⟩ (.slice (some ⟨g,0,none⟩) b b)).setCell ⟨w.heap.size,3,none⟩ (.bool hd));rw[qmD]at HU7 qzj qmC;clear u1 u2 u3 u4 r1 r2 r3 r4 oth j9 dC qf9 qfA;go_wp2_with fail;try rw[qmD]
 have q0:=HU7.out.cell 0;have q1:=HU7.out.cell 1;have q2:=HU7.out.cell 2;have q3:=HU7.out.cell 3;simp only[QA,QB,QC]at q0 q1 q2 q3;have HEQ:Hid (snC (o9 b s).1 (some ⟨g,0,none⟩) b = #[.int .u64 (x.1:Int),.int .u64 (x.2:Int),.slice (some ⟨g,0,none⟩) b b,.bool hd]∧(o9 b s).1.qo=(dv b s2).1∧(o9 b s).2=(dv b s2).2):=by
  unfold Hid o9 snC;dsimp only;rw[HX.out,gZ.out,HY.out,uK.out,HHD.out,ui];exact⟨rfl,rfl,rfl⟩
 refine bodyPost_ret (v:=.agg #[.int .u64 (x.1:Int),.int .u64 (x.2:Int),.slice (some ⟨g,0,none⟩) b b,.bool hd]) (by simp[results,results143,go_sem,q0,q1,q2,q3]) rfl ?_;refine⟨g,by rw[HEQ.out.1],by have:=HGL.out;have:=tZ.out;omega,?_,?_⟩
 ·rw[HEQ.out.2.1];exact qmC.out
 ·rw[HEQ.out.2.2];exact qzj.out
def sp0:eB:=(⟨(0,0),[],false⟩,.slice none 0 0)
theorem qab:∀(l:List eB) (k:Nat) (_:k<l.length) (x:eB) (a b c d:Value),eC x=[a,b,c,d]→((((ze l).set (k*4) a).set (k*4+1) b).set (k*4+2) c).set (k*4+3) d=ze (l.set k x)
 | y::l,0,_,x,a,b,c,d,h=>by
  show(((((eC y++ze l).set (0*4) a).set (0*4+1) b).set (0*4+2) c).set (0*4+3) d)=eC x++ze l;rw[h];rfl
 | y::l,k+1,hk,x,a,b,c,d,h=>by
  have ih:=qab l k (by simpa using hk) x a b c d h;have e:∀(j:Nat) (R:List Value) (u:Value),(eC y++R).set ((k+1)*4+j) u=eC y++R.set (k*4+j) u:=fun j R u=>by
   rw[show(k+1)*4+j=(k*4+j)+4 by omega];rfl
  show(((((eC y++ze l).set ((k+1)*4) a).set ((k+1)*4+1) b).set ((k+1)*4+2) c).set ((k+1)*4+3) d)=eC y++ze (l.set k x);rw[show(k+1)*4=(k+1)*4+0 from rfl,e 0,Nat.add_zero,e 1,e 2,e 3,← ih]
theorem qqH(n i:Nat)(h:i<n)(j:Nat)(hj:j<4):(ze (List.replicate n sp0))[i*4+j]?=(eC sp0)[j]? :=by
 rw[xD _ i (by simpa using h) j hj,List.getElem_replicate]
theorem qja(n:Nat):madeCells #[.int .u64 0,.int .u64 0,.slice none 0 0,.bool false] (n*4)=(ze (List.replicate n sp0)).toArray:=by
 apply Array.ext
 ·rw[size_madeCells,List.size_toArray,yr,List.length_replicate]
 ·intro j h1 h2;have hj:j<n*4:=by simpa[yr]using h2
  have hm:j%4<4:=Nat.mod_lt _ (by omega);have e:=qqH n (j/4) (by omega) (j%4) hm;rw[show j/4*4+j%4=j by omega]at e;have e2:(ze (List.replicate n sp0)).toArray[j]?=(eC sp0)[j%4]? :=by simpa using e
  rw[Array.getElem?_eq_getElem h2]at e2;obtain⟨q,hq⟩:=QE (j%4);rw[hq]at e2 hm
  match q,hm with
  | 0,_=>rw[Option.some.inj e2];simp[madeCells,hq,sp0]
  | 1,_=>rw[Option.some.inj e2];simp[madeCells,hq,sp0]
  | 2,_=>rw[Option.some.inj e2];simp[madeCells,hq,sp0]
  | 3,_=>rw[Option.some.inj e2];simp[madeCells,hq,sp0]
theorem qfB(n:Nat)(h:n≤1000)(W:World):(Instr.makeSlice 91 (.int .i64 (n:Int)) (.int .i64 (n:Int))).run prog W=.ok (.slice (some ⟨W.heap.size,0,none⟩) n n) (W.alloc (.cells (ze (List.replicate n sp0)).toArray 145)):=by
 obtain⟨i0,hi,hz0,hz1,hz2⟩:=info_parts qbb;have hmk:=run_make (P:=prog) W 91 145 i0 (.agg #[.int .u64 0,.int .u64 0,.slice none 0 0,.bool false]) underlying91 hi hz0 .i64 .i64 (n:Int) (n:Int) (by omega) (Int.le_refl _) (by rw[hz2];omega) (by omega);rw[hz1]at hmk;rw[← qja];simpa[Value.cells]using hmk
theorem qjb{l:List eB}{n k:Nat}(hl:l.length=k)(hk:k<n)(z:eB):(l++List.replicate (n-k) sp0).set k z=(l++[z])++List.replicate (n-(k+1)) sp0:=by
 rw[List.set_append_right _ _ (by omega),hl,Nat.sub_self,show n-k=(n-(k+1))+1 by omega,List.replicate_succ,List.set_cons_zero,List.append_assoc];rfl
structure Sn(b c n g:Nat)(s:St)(w:World)(k:Nat)(xs:List eB)(wr:World):Prop where
 len:xs.length=k
 is:xs.map (·.1)=(uB b k s).1
 row:qg wr g 145 (ze (xs++List.replicate (n-k) sp0)).toArray
 qo:∀x∈xs,zC wr w.heap.size x.2 x.1.qo
 rd:Rd w c (uB b k s).2 wr
def qzk (b c n g:Nat)(s:St)(w:World)(i:Value)(wr:World):Prop:=∃(k:Nat) (xs:List eB),k≤n∧i=.int .i64 (k:Int)∧Sn b c n g s w k xs wr
def qvm (b c n:Nat)(s:St)(w:World)(e:Ending)(w':World):Prop:=∃g xs,e=.returned (.slice (some ⟨g,0,none⟩) n n)∧w.heap.size≤g∧Sn b c n g s w n xs w'
theorem qqI{w:World}{kb rb pb c b:Nat}{s:St}(n:Nat)(hn:n≤100)(hb:b≤100)(h:PS w c s)(he:iV w kb rb pb c b) :
    Calls prog 142 #[.int .i64 (n:Int),.func (.func 143) #[] #[ptr rb,ptr pb]] w (qvm b c n s w):=by
 have hmk:∀W,(Instr.makeSlice 91 (.int .i64 (n:Int)) (.int .i64 (n:Int))).run prog W=.ok (.slice (some ⟨W.heap.size,0,none⟩) n n) (W.alloc (.cells (ze (List.replicate n sp0)).toArray 145)):=fun W=>qfB n (by omega) W;have HP:=QH h;have HE:=QH he;clear h he;have hb0:=(Below.refl w.heap.size w).alloc (Nat.le_refl _) (.cells (ze (List.replicate n sp0)).toArray 145);have sH:Hid (Sn b c n w.heap.size s w 0 [] (w.alloc (.cells (ze (List.replicate n sp0)).toArray 145))):=⟨rfl,rfl,qg.new w 145 _,fun x hx=>absurd hx (by simp),qz.of_below hb0,HP.out.below hb0⟩;clear hb0;go_enter func142,ntmps142;go_wp2_with fail;obtain⟨W0,hW0⟩:=QE (w.alloc (.cells (ze (List.replicate n sp0)).toArray 145));rw[hW0]at sH;try rw[hW0]
 clear hW0 hmk;obtain⟨g,hg⟩:=QE w.heap.size;have HGE:=QH (Nat.le_of_eq hg);have hS0:=sH.out;rw[hg]at hS0;have gZ:=QH hS0;try rw[hg]
 clear hg hS0 sH;go_loopw [6,11] (fun _ i wr=>qzk b c n g s w i wr) (fun _ i _=>n-(intOf i).toNat);case atStart=>exact⟨0,[],Nat.zero_le _,rfl,gZ.out⟩
 case round =>
  obtain⟨k,xs,hk,rfl,hS⟩:=hrel;have HSK:=QH hS;clear hS;by_cases hlt:k<n
  ·have jW:(k:Int)<(n:Int):=by omega
   have HEK:=QH (HE.out.rd HP.out.blk HSK.out.rd);go_wp2_with fail;refine(oC hb HSK.out.rd.ps HEK.out).mono ?_;rintro e W ⟨gi,rfl,hgi,tR,hq⟩;have HQ:=QH hq;have HLT:=QH (qlT b (uB b k s).2);have HGW:=QH (hq.blk HSK.out.row HSK.out.rd.ps.blk (by decide));have HIM:Hid (∀x∈xs,zC W w.heap.size x.2 x.1.qo):=fun x hx=>bK (HSK.out.qo x hx) (hq.kp HSK.out.rd.ps) (by decide);have HRW:=QH (HSK.out.rd.trans hq);have HOI:Hid (zC W w.heap.size (.slice (some ⟨gi,0,none⟩) b b) (o9 b (uB b k s).2).1.qo):=by
    have h1:=qm7 (B:=w.heap.size) tR (by have:=HSK.out.rd.but.size;omega) (by rw[HLT.out.2.1];omega)
    rwa [HLT.out.2.1]at h1
   have kX:=QH (tN b k s);have HLI:=HLT.out.2.1;obtain⟨x,hx⟩:=QE ((o9 b (uB b k s).2).1);rw[hx]at HLI HOI;rw[hx];have HX:=QH hx;unfold snC;rw[HLI];have zbH:=QH HLI;have dG:xs.length=k:=HSK.out.len;have HXL:=QH dG;have hrl:(ze (xs++List.replicate (n-k) sp0)).length=n*4:=by rw[yr,List.length_append,List.length_replicate];omega
   have key:∀j,j<4→∃u,W.cell? ⟨g,k*4+j,none⟩=some u:=fun j hj=>by
    rw[HGW.out.cell (k*4+j)];have:k*4+j<(ze (xs++List.replicate (n-k) sp0)).length:=by rw[hrl];omega
    exact⟨_,by rw[List.getElem?_toArray,List.getElem?_eq_getElem this]⟩
   obtain⟨u0,c0⟩:=key 0 (by omega);obtain⟨u1,c1⟩:=key 1 (by omega);obtain⟨u2,c2⟩:=key 2 (by omega);obtain⟨u3,c3⟩:=key 3 (by omega);rw[Nat.add_zero]at c0;have f0:=HGW.out.frozen (k*4);have f1:=HGW.out.frozen (k*4+1);have f2:=HGW.out.frozen (k*4+2);have f3:=HGW.out.frozen (k*4+3);have hlg:=HGW.out.lt;have q9d:k≤100:=by omega
   have s1:=HGW.out.ql (k*4) (.int .u64 (x.g.1:Int));have r1:=HRW.out.set HGW.out HGE.out (by decide) (by decide) (k*4) (.int .u64 (x.g.1:Int));have s2:=s1.ql (k*4+1) (.int .u64 (x.g.2:Int));have r2:=r1.set s1 HGE.out (by decide) (by decide) (k*4+1) (.int .u64 (x.g.2:Int));have s3:=s2.ql (k*4+2) (.slice (some ⟨gi,0,none⟩) b b);have r3:=r2.set s2 HGE.out (by decide) (by decide) (k*4+2) (.slice (some ⟨gi,0,none⟩) b b);have s4:=s3.ql (k*4+3) (.bool x.hid);have r4:=r3.set s3 HGE.out (by decide) (by decide) (k*4+3) (.bool x.hid);have kp:Kp 145 W ((((W.setCell ⟨g,k*4,none⟩ (.int .u64 (x.g.1:Int))).setCell ⟨g,k*4+1,none⟩ (.int .u64 (x.g.2:Int))).setCell ⟨g,k*4+2,none⟩ (.slice (some ⟨gi,0,none⟩) b b)).setCell ⟨g,k*4+3,none⟩ (.bool x.hid)) :=
    (((Kp.dQ (k*4) _ HGW.out).trans (Kp.dQ (k*4+1) _ s1)).trans (Kp.dQ (k*4+2) _ s2)).trans (Kp.dQ (k*4+3) _ s3)
   simp only[List.setIfInBounds_toArray]at s4;rw[qab (xs++List.replicate (n-k) sp0) k (by rw[List.length_append,List.length_replicate];omega) (x,.slice (some ⟨gi,0,none⟩) b b) _ _ _ _ rfl,qjb dG hlt]at s4;have qcR:Hid (Sn b c n g s w (k+1) (xs++[(x,.slice (some ⟨gi,0,none⟩) b b)]) ((((W.setCell ⟨g,k*4,none⟩ (.int .u64 (x.g.1:Int))).setCell ⟨g,k*4+1,none⟩ (.int .u64 (x.g.2:Int))).setCell ⟨g,k*4+2,none⟩ (.slice (some ⟨gi,0,none⟩) b b)).setCell ⟨g,k*4+3,none⟩ (.bool x.hid))):=by
    refine⟨by rw[List.length_append,dG];rfl,?_,s4,?_,?_⟩
    ·rw[kX.out,HX.out,List.map_append,HSK.out.is];rfl
    ·intro y hy;rcases List.mem_append.1 hy with hy|hy
     ·exact bK (HIM.out y hy) kp (by decide)
     ·obtain rfl:y=(x,.slice (some ⟨gi,0,none⟩) b b):=by simpa using hy
      exact bK HOI.out kp (by decide)
    ·rw[kX.out];exact r4
   clear hq tR hgi hx key s1 s2 s3 s4 r1 r2 r3 r4 kp hrl dG HLI HSK HEK HGW HIM HRW HOI;go_wp2_with fail;go_roundw;case rel=>exact⟨k+1,_,by omega,by go_num,qcR.out⟩
   case measure=>simp[intOf];omega
  ·have jW:¬ (k:Int)<(n:Int):=by omega
   obtain rfl:k=n:=by omega
   go_wp2_with fail;go_ret;exact⟨g,xs,rfl,HGE.out,HSK.out⟩
end Go.Proofs.YtdagdllomphidaaGreatDoor.mt.pg
namespace Go.Proofs.YtdagdllomphidaaGreatDoor.mt
open _root_.Go.Proofs.Tryz Go Go.RowKit ib wi
def mC (v0 v1 v2:Value)(t:Tk):Array Value:=#[v0,v1,.int .u64 (t.base.1:Int),.int .u64 (t.base.2:Int),.int .u64 (t.target.1:Int),.int .u64 (t.target.2:Int),.int .i64 t.next,.int .i64 t.all,v2]
abbrev nlS:Value:=.slice none 0 0
section
variable {w W W':World} {p c gm b:Nat} {s s':St} {v0 v1 v2:Value} {l:List Int} {xs:List eB} {t:Tk}
def yf (W:World)(gm:Nat)(v2:Value)(t:Tk):World :=
 ((((((W.setCell ⟨gm,2,none⟩ (.int .u64 (t.base.1:Int))).setCell ⟨gm,3,none⟩ (.int .u64 (t.base.2:Int))).setCell ⟨gm,4,none⟩ (.int .u64 (t.target.1:Int))).setCell ⟨gm,5,none⟩ (.int .u64 (t.target.2:Int))).setCell ⟨gm,6,none⟩ (.int .i64 t.next)).setCell ⟨gm,7,none⟩ (.int .i64 t.all)).setCell ⟨gm,8,none⟩ v2
end
structure qcS(l:List Int)(xs:List Sp):Prop where
 live:yv l
 sn:∀x∈xs,yv x.qo∧xn x.g∧x.qo.length≤100
 nl:l.length≤100
 nx:xs.length≤100
structure mr(t:Tk):Prop where
 qo:yv t.qo
 few:t.qo.length≤100
 base:xn t.base
 target:xn t.target
 next:qG t.next
 all:qG t.all
theorem qvo:mr zR:=⟨fun z hz=>absurd hz (by simp[zR]),by simp[zR],nZ,nZ,by unfold qG zR;simp,by unfold qG zR;simp⟩
theorem qqJ{W:World}{B:Nat}{v0 v1 v2:Value}{l:List Int}{xs:List eB}{t:Tk}(h0:zC W B v0 l)(h1:dy W B v1 xs)(h2:zC W B v2 t.qo)(hf:qcS l (xs.map (·.1)))(ht:mr t):qba W (.agg (mC v0 v1 v2 t)) ⟨l,xs.map (·.1),t⟩:=by
 have i64:∀ {z:Int},0≤z∧z≤1048576→qG z:=fun h=>by unfold qG;omega
 have hsn:∀x∈xs,yv x.1.qo∧xn x.1.g:=fun x hx=>⟨(hf.sn _ (List.mem_map_of_mem hx)).1,(hf.sn _ (List.mem_map_of_mem hx)).2.1⟩;obtain⟨A0,c0,rfl,g0⟩:=qh6 h0 (fun z hz=>i64 (hf.live z hz));obtain⟨A2,c2,rfl,g2⟩:=qh6 h2 (fun z hz=>i64 (ht.qo z hz));obtain⟨A1,c1,rfl,g1,hr⟩:=h1.view (fun x hx' z hz=>i64 ((hsn x hx').1 z hz)) (fun x hx'=>(hsn x hx').2);exact⟨A0,A1,A2,c0,c1,c2,rfl,g0,g1,hr,g2,ht.base,ht.target,ht.next,ht.all⟩
theorem qvp{l:List Int}{xs:List Sp}{t:Tk}(hf:qcS l xs)(ht:mr t):mtS ⟨l,xs,t⟩ :=
 ⟨by have:=hf.nl;show l.length≤1000;omega,by have:=hf.nx;show xs.length≤1000;omega,fun s hs=>by have:=(hf.sn s hs).2.2;omega,by have:=ht.few;show t.qo.length≤1000;omega⟩
def xN (W:World)(g:Nat)(v0 v1 v2:Value)(t:Tk):World :=
 yf ((W.setCell ⟨g,0,none⟩ v0).setCell ⟨g,1,none⟩ v1) g v2 t
theorem qac{W:World}{g:Nat}{v0 v1 v2 u0 u1 u2:Value}{t t':Tk}(h:qg W g 93 (mC u0 u1 u2 t')):qg (xN W g v0 v1 v2 t) g 93 (mC v0 v1 v2 t):=by
 have h9:=((((((((h.ql 0 v0).ql 1 v1).ql 2 (.int .u64 (t.base.1:Int))).ql 3 (.int .u64 (t.base.2:Int))).ql 4 (.int .u64 (t.target.1:Int))).ql 5 (.int .u64 (t.target.2:Int))).ql 6 (.int .i64 t.next)).ql 7 (.int .i64 t.all)).ql 8 v2;simp only[mC,List.setIfInBounds_toArray,List.set_cons_succ,List.set_cons_zero]at h9;exact h9
theorem qcT{W:World}{g:Nat}{v0 v1 v2:Value}{t:Tk}{cs:Array Value}(h:qg W g 93 cs):Kp 93 W (xN W g v0 v1 v2 t):=by
 have go:∀(k:Nat) (u:Value) {W':World},Kp 93 W W'∧(∃cs,qg W' g 93 cs)→Kp 93 W (W'.setCell ⟨g,k,none⟩ u)∧(∃cs,qg (W'.setCell ⟨g,k,none⟩ u) g 93 cs):=fun k u W' ⟨h1,cs,h2⟩ =>
  ⟨h1.trans (Kp.dQ k u h2),_,h2.ql k u⟩
 exact(go 8 v2 (go 7 _ (go 6 _ (go 5 _ (go 4 _ (go 3 _ (go 2 _ (go 1 v1 (go 0 v0 ⟨Kp.refl _ _,_,h⟩))))))))).1
theorem dX {w W:World}{B g:Nat}{v0 v1 v2:Value}{t:Tk}(h:Below B w W)(hg:B≤g):Below B w (xN W g v0 v1 v2 t) :=
 ((((((((h.setCell (p:=⟨g,0,none⟩) hg v0).setCell (p:=⟨g,1,none⟩) hg v1).setCell (p:=⟨g,2,none⟩) hg _).setCell (p:=⟨g,3,none⟩) hg _).setCell (p:=⟨g,4,none⟩) hg _).setCell (p:=⟨g,5,none⟩) hg _).setCell (p:=⟨g,6,none⟩) hg _).setCell (p:=⟨g,7,none⟩) hg _).setCell (p:=⟨g,8,none⟩) hg v2
section
variable {w W W':World} {p c gm b:Nat} {s s':St} {v0 v1 v2:Value} {l:List Int} {xs:List eB} {t:Tk}
end
end Go.Proofs.YtdagdllomphidaaGreatDoor.mt
